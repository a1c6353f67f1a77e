/-
  Proved: for every two orders and every two lists of pairs, right or not: two sorted maps are made or refused as the document's are; put together they are refused with the same error, or have the document's order and pairs, listed and gone over, as flat as the document promises; the first one turned to the second one's order has the document's pairs in it; whether both have the same keys and values is told as the document tells it, and the turned one is told the same as what it was turned from; and the little program of the statement answers as it should (RedblackBoth). No condition.
-/
import Derived.Test.YtlnecfjnffdciaaGreatReadS
import Derived.Test.YtlnecfjnffdciaaGreatReadTw14
import Derived.Test.YtlnecfjnffdciaaGreatBothLaw
import Derived.OpenShut
import Derived.ShutString
import Derived.ChangeOld
import Derived.Below
namespace Go.Proofs.YtlnecfjnffdciaaGreat
open Go.ChangeShapes Go.WideShapes Go.ChangeAt Go.RowKit

set_option maxRecDepth 100000 in
theorem redblackBoth_lifted (os : Os) (started : os.Started) (H : Type) (enc : TypeId × Value → H) :
 ReturnsInHanded {} Tryz.checked os 5 .any (Rows.redblackBothSpec.pre6 enc Tryz.prog Tryz.f5 Rows.redblackBothRow.domain false) (Rows.redblackBothSpec.post enc Tryz.prog Tryz.f5 false true false false) := by
 refine returnsInHanded_of_change (C := Tryz.checked) own started (by kernel_rfl) Tryz.func5
  (ChangeSpec.witness6 (enc := enc) (C := Tryz.checked) false ⟨#[], #[.agg #[.int .i64 0, .int .i64 0, .slice none 0 0, .slice none 0 0]], []⟩ 8 (by kernel_rfl) (by kernel_rfl) (by kernel_rfl) (by kernel_rfl)) ?_
 intro W base args ds gs before hval0 hW hcnd _
 have hval : ∀ (j : Nat) t v, Tryz.f5.params[j]? = some t → args[j]? = some v → Value.okWide Tryz.prog W .any base t v := hval0
 have hW' := hW
 obtain ⟨p, q, hA0, hV, rfl, hfz, hnd⟩ := hW
 have hA : DataW.TrodAll enc Tryz.prog W 0 (fun _ => true) true Tryz.f5.params.toList args.toList ds p := hA0
 rw [Tryz.params5] at hA hval
 obtain ⟨v0, vs0, d0, ds0, p0, q0, hargs, rfl, rfl, h0, r0⟩ := trodAll_cons hA
 obtain ⟨rfl, rfl, rfl⟩ := trodAll_nil r0
 obtain rfl : args = #[v0] := by cases args; simp_all
 obtain ⟨rfl, rfl⟩ := trodVars_none hV
 have k0 := h0
 have lt0 : ∀ x ∈ p0, x.block < W.heap.size := by obtain ⟨m, hm⟩ := k0; exact DataW.trod_lt m _ _ _ hm
 obtain ⟨n0, oa0, ob0, l0, m0, ua0, ub0, rfl, L0, M0⟩ := read_two14 (hval 0 60 v0 rfl rfl) h0
 clear hA0 hval0
 refine (both_walk oa0 ob0 n0 l0 m0 ua0 ub0 W L0 M0).mono fun e W' ⟨he, gr⟩ => ?_
 subst he
 have bel := gr
 exact ⟨_, rfl, _, _, _, [], _, [], hW', trodAll_mk1 (shut_bool Tryz.underlying4 _), (trodAll_cons_mk (Below.trod laidOut (by kernel_rfl) (of_decide_eq_true (by kernel_rfl)) k0 bel lt0) trodAll_mk0), rfl, bel.frame _, fun h => by cases h⟩

theorem redblackBoth_holds : Rows.RedblackBothSaid :=
 OpenClaim.holds_of_wide 5 Tryz.f5 rfl rfl rfl rfl rfl rfl rfl ⟨rfl, rfl, rfl, rfl, rfl⟩ rfl rfl rfl rfl rfl (by kernel_rfl) Tryz.func5 (by kernel_rfl)
  (of_decide_eq_true (by kernel_rfl)) (by unfold Func.isWrapper; rw [if_neg (by decide +kernel)]; exact ⟨rfl, rfl⟩)
  (fun os started H enc _ => redblackBoth_lifted os started H enc)

#print axioms redblackBoth_holds
end Go.Proofs.YtlnecfjnffdciaaGreat

