/-
  The contract of slices.Clone at a list that is not empty.
-/
import Derived.Test.YtlbeepaolacjbabClone
import Derived.Test.YtlbeepaolacjbabLine
import Derived.Maps.AppendAt
namespace Go.Proofs.Ytlbeepaolacjbab
open Go.RowKit

set_option maxHeartbeats 1000000 in
theorem clone_some (b o c : Nat) (ps : List (VT × Value)) (d : Nat) (w : World) (hrow : RowAt w b o ps) (hs : ∀ p ∈ ps, Sound d w p) (hlen : ps.length ≤ 65536) :
    Calls Try.prog 28 #[.slice (some ⟨b, o, none⟩) ps.length c] w fun e w' => ∃ v, e = .returned v ∧ w'.ownsRow w.heap.size 25 4 v ps.length (ps.flatMap encP) ∧ Below w.heap.size w w' := by
  obtain ⟨i0, hi, hz0, hz1, hz2⟩ := info24
  have Hi : Hid _ := hi; have Hz0 : Hid _ := hz0; have Hz1 : Hid _ := hz1; have Hz2 : Hid _ := hz2
  clear hi hz0 hz1 hz2
  have HR : Hid (RowAt w b o ps) := hrow
  have HS : Hid _ := hs
  clear hrow hs
  have q22 : ∀ (w : World) (a : Option Addr) (n c n' c' : Nat), (binOp .eql 22 (.slice a n c) (.slice none n' c')).run Try.prog w = .ok (.bool a.isNone) w := fun w a n c n' c' => Lib.run_eql_slice_nil w _ _ a n c n' c' Try.underlying22
  go_enter Try.func28, Try.ntmps28
  go_wp2_with (first
        | (at_builtin; refine wpList_append_own _ rfl _ _ 22 rfl w.heap.size 25 i0 (.agg #[.int .i64 0, .int .i64 0, .string ⟨#[]⟩, .slice none 0 0]) 4 56 Try.underlying22 Hi.out Hz0.out Hz1.out Hz2.out rfl (by decide) _ 0 [] rfl ?c0 ⟨b, o, none⟩ ps.length c (ps.flatMap encP) rfl (flat_len ps) ?c1 ?c2 ?c3 ?c4 ?c5 ?_))
  case c0 => exact World.ownsRow_lit w #[] 0 (Nat.le_refl _) (by unfold maxLen; omega) rfl
  case c1 =>
    intro j u hj
    have := RowAt.flat HR.out j u hj
    have hadd : (⟨b, o, none⟩ : Addr).add j = ⟨b, o + j, none⟩ := by
      unfold Addr.add
      by_cases hk : j = 0
      · subst hk; rfl
      · rw [if_neg hk]
    rw [hadd]
    exact cell_keeps ((Below.refl _ _).alloc (Nat.le_refl _) _) this
  case c2 =>
    intro u hu
    obtain ⟨p, hp, hup⟩ := List.mem_flatMap.1 hu
    exact encP_one (HS.out p hp) u hup
  case c3 => unfold maxLen; omega
  case c4 => omega
  case c5 => simp
  intro v' w2 hown' hgrow _
  have hb2 : Below w.heap.size w w2 := (((Below.refl _ _).alloc (Nat.le_refl _) _)).grown hgrow (by simp) (by
    intro k hk
    simp [Value.ownBlock] at hk; omega)
  clear hgrow
  have Hown : Hid (w2.ownsRow w.heap.size 25 4 v' ps.length (ps.flatMap encP)) := hown'
  clear hown'
  go_wp2_with fail
  go_ret
  exact ⟨_, rfl, Hown.out, hb2⟩

end Go.Proofs.Ytlbeepaolacjbab
