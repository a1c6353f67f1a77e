/-
  Proved: for every list of words and two places the program's Unordered answers the same when the members at the two places are changed about, and the published values hold (MurmurTurned). No condition.
-/
import Derived.Test.YteldncblmoilkaaReadI
import Derived.Test.YteldncblmoilkaaTurned2
import Derived.OpenShut
import Derived.SizedLaws
import Derived.ShutString
import Derived.ChangeOld
import Derived.Below
namespace Go.Proofs.Yteldncblmoilkaa
open Go.ChangeShapes Go.WideShapes Go.ChangeAt Go.RowKit

theorem read_sized {H : Type} {enc : TypeId × Value → H} {w : World} {spare : Nat → Bool} {held : Bool} {r : Reach} {b0 : Nat} {v : Value} {d : DataW H} {p : List MemPlace} {t e : TypeId} {k : IntKind}
    (ht : Try.prog.underlying t = some (.slice e)) (he : Try.prog.underlying e = some (.int k)) (hc : Try.prog.cellsOf e = 1)
    (hv : Value.okWide Try.prog w r b0 t v) (h : DataW.Trod enc Try.prog w 0 spare held t v d p) : ∃ l : List Int, (∃ a c, v = .slice a l.length c ∧ True) ∧ (l = [] ∨ ∃ es sp, d = .slice es sp ∧ l.length ≤ es.length) := by
  obtain ⟨a0, len, cap, rfl⟩ := okWide_slice ht hv
  obtain ⟨fuel, hf⟩ := h
  rcases open_ints ht he hc hf with ⟨h0, _⟩ | ⟨a, len', cap', zs, h0, _, hlc, hcm, hzl, hd, hcell, hwf⟩
  · have e' : (Value.slice a0 len cap) = .slice none 0 0 := by simpa [Value.cells] using h0
    rw [e']
    exact ⟨[], ⟨none, 0, rfl, trivial⟩, .inl rfl⟩
  · have e' : (Value.slice a0 len cap) = .slice (some a) len' cap' := by simpa [Value.cells] using h0
    rw [e']
    have hle : len' ≤ zs.length := by rw [hzl]; split <;> omega
    have hlen : (zs.take len').length = len' := by rw [List.length_take]; omega
    simp only [Prod.mk.injEq] at hd
    exact ⟨zs.take len', ⟨some a, cap', by rw [hlen], trivial⟩, .inr ⟨_, _, hd.1, by simp [lits]⟩⟩

set_option maxRecDepth 100000 in
theorem murmurTurned_lifted (os : Os) (started : os.Started) (H : Type) (enc : TypeId × Value → H) :
    ReturnsInHanded {} Try.checked os 7 .any (Rows.murmurTurnedSpec.pre6 enc Try.prog Try.f7 Rows.murmurTurnedRow.domain false) (Rows.murmurTurnedSpec.post enc Try.prog Try.f7 false true false false) := by
  refine returnsInHanded_of_change_sized (C := Try.checked) own started (by kernel_rfl) Try.func7
    (ChangeSpec.witness6 (enc := enc) (C := Try.checked) false ⟨#[], #[.slice none 0 0, .int .i64 0, .int .i64 0], []⟩ 8 (by kernel_rfl) (by kernel_rfl) (by kernel_rfl) (by kernel_rfl)) ?_
  intro W base args ds gs before hval0 hW hcnd hsz0 _
  have hval : ∀ (j : Nat) t v, Try.f7.params[j]? = some t → args[j]? = some v → Value.okWide Try.prog W .any base t v := hval0
  have hsz : (DataW.weightsEach Try.prog (Try.f7.params.toList ++ Rows.murmurTurnedSpec.plain.varTypes Try.prog) (ds ++ gs)).all (· ≤ reachBytes) = true := hsz0
  have hW' := hW
  obtain ⟨p, q, hA0, hV, rfl, hfz, hnd⟩ := hW
  have hA : DataW.TrodAll enc Try.prog W 0 (fun _ => true) true Try.f7.params.toList args.toList ds p := hA0
  rw [Try.params7] at hA hval hsz
  obtain ⟨v0, vs0, d0, ds0, p0, q0, hargs, rfl, rfl, h0, r0⟩ := trodAll_cons hA
  obtain ⟨v1, vs1, d1, ds1, p1, q1, rfl, rfl, rfl, h1, r1⟩ := trodAll_cons r0
  obtain ⟨v2, vs2, d2, ds2, p2, q2, rfl, rfl, rfl, h2, r2⟩ := trodAll_cons r1
  obtain ⟨rfl, rfl, rfl⟩ := trodAll_nil r2
  obtain rfl : args = #[v0, v1, v2] := by cases args; simp_all
  obtain ⟨rfl, rfl⟩ := trodVars_none hV
  have k0 := h0
  have lt0 : ∀ x ∈ p0, x.block < W.heap.size := by obtain ⟨m, hm⟩ := k0; exact DataW.trod_lt m _ _ _ hm
  have k1 := h1
  have lt1 : ∀ x ∈ p1, x.block < W.heap.size := by obtain ⟨m, hm⟩ := k1; exact DataW.trod_lt m _ _ _ hm
  have k2 := h2
  have lt2 : ∀ x ∈ p2, x.block < W.heap.size := by obtain ⟨m, hm⟩ := k2; exact DataW.trod_lt m _ _ _ hm
  obtain ⟨l0, L0, w0⟩ := read_ints Try.underlying34 Try.underlying22 (by kernel_rfl) (hval 0 34 v0 rfl rfl) h0
  obtain ⟨a1, rfl, _, _, w1⟩ := open_int Try.underlying3 (hval 1 3 v1 rfl rfl) h1
  obtain ⟨a2, rfl, _, _, w2⟩ := open_int Try.underlying3 (hval 2 3 v2 rfl rfl) h2
  have hreach : l0.length * 4 ≤ 140737488351232 := by
    obtain ⟨q0, Q0, h0 | ⟨es, sp, rfl, hle⟩⟩ := read_sized Try.underlying34 Try.underlying22 (by kernel_rfl) (hval 0 34 v0 rfl rfl) k0
    · obtain ⟨_, _, e1, _⟩ := Q0
      obtain ⟨_, _, e2, _⟩ := L0
      rw [e1] at e2
      injection e2 with _ e3 _
      rw [← e3, h0]; simp
    · have := sized_slice hsz (j := 0) (t := 34) (e := 22) rfl rfl Try.underlying34
      rw [show Try.prog.bytesOf 22 = 4 by kernel_rfl] at this
      obtain ⟨_, _, e1, _⟩ := Q0
      obtain ⟨_, _, e2, _⟩ := L0
      rw [e1] at e2
      injection e2 with _ e3 _
      unfold reachBytes at this
      omega
  clear hA0 hval0
  refine (turned_walk l0 a1 a2 v0 W L0 hreach).mono fun e W' ⟨he, gr⟩ => ?_
  subst he
  have bel := gr
  exact ⟨_, rfl, _, _, _, [], _, [], hW', trodAll_mk1 (shut_bool Try.underlying4 _), (trodAll_cons_mk (Below.trod laidOut (by kernel_rfl) (of_decide_eq_true (by kernel_rfl)) k0 bel lt0) (trodAll_cons_mk (Below.trod laidOut (by kernel_rfl) (of_decide_eq_true (by kernel_rfl)) k1 bel lt1) (trodAll_cons_mk (Below.trod laidOut (by kernel_rfl) (of_decide_eq_true (by kernel_rfl)) k2 bel lt2) trodAll_mk0))), rfl, bel.frame _, fun h => by cases h⟩

theorem murmurTurned_holds : Rows.MurmurTurnedSaid :=
  OpenClaim.holds_of_wide 7 Try.f7 rfl rfl rfl rfl rfl rfl rfl ⟨rfl, rfl, rfl, rfl, rfl⟩ rfl rfl rfl rfl rfl (by kernel_rfl) Try.func7 (by kernel_rfl)
    (of_decide_eq_true (by kernel_rfl)) (by unfold Func.isWrapper; rw [if_neg (by decide +kernel)]; exact ⟨rfl, rfl⟩)
    (fun os started H enc _ => murmurTurned_lifted os started H enc)

#print axioms murmurTurned_holds
end Go.Proofs.Yteldncblmoilkaa
