/-
  The contract of Ints: numbers as values.
-/
import Derived.Test.YtlbeepaolacjbabInt1
namespace Go.Proofs.Ytlbeepaolacjbab
open Go.RowKit

def cellsInt (z : Int) : List Value := [.int .i64 2, .int .i64 z, .string ⟨#[]⟩, .slice none 0 0]

set_option maxHeartbeats 1000000 in
theorem ints_any (b : Nat) (zs : List Int) (cap : Nat) (w : World) (hz : zs.length ≤ 1000) (hc : ∀ (i : Nat) (h : i < zs.length), w.cell? ⟨b, 0 + i, none⟩ = some (.int .i64 (zs[i]'h))) :
    Calls Try.prog 19 #[.slice (some ⟨b, 0, none⟩) zs.length cap] w fun e w' => ∃ v, e = .returned v ∧ w'.ownsRow w.heap.size 25 4 v zs.length (zs.flatMap cellsInt) ∧ Below w.heap.size w w' := by
  obtain ⟨i0, hi, hz0, hz1, hz2⟩ := info24
  have HC : Hid _ := hc
  have Hi : Hid _ := hi; have Hz0 : Hid _ := hz0; have Hz1 : Hid _ := hz1; have Hz2 : Hid _ := hz2
  clear hi hz0 hz1 hz2
  clear hc
  go_enter Try.func19, Try.ntmps19
  go_wp2_with fail
  go_loopg [3, 8] zs.length (fun k v i wr => ∃ j : Nat, i = .int .i64 j ∧ j ≤ zs.length ∧ k = zs.length - j ∧ wr.ownsRow w.heap.size 25 4 v j ((zs.take j).flatMap cellsInt) ∧ Below w.heap.size w wr)
  case atStart => exact ⟨0, rfl, by omega, by omega, World.ownsRow_nil _ _ _ _, Below.refl _ _⟩
  case round =>
    obtain ⟨j, rfl, hj, hk, hown, hbw⟩ := hrel
    have Hown : Hid _ := hown
    clear hown
    have Hk : Hid _ := hk
    clear hk
    by_cases hlt : j < zs.length
    · have hcj := cell_keeps hbw (HC.out j hlt)
      generalize hzj : zs[j] = zj at hcj
      have Hzj : Hid _ := hzj
      clear hzj
      rw [Nat.zero_add] at hcj
      go_wp2_with fail
      refine (int_any zj _).mono ?_
      rintro e w1 ⟨rfl, hg⟩
      have hb1 : Below w.heap.size w w1 := hbw.trans (hg.below.mono hbw.size)
      have hown := own_keeps Hown.out hg.below
      clear Hown
      have Hown : Hid _ := hown
      clear hown hg
      go_wp2_with (first
        | (at_builtin; refine wpList_append_own _ rfl _ _ 22 rfl w.heap.size 25 i0 (.agg #[.int .i64 0, .int .i64 0, .string ⟨#[]⟩, .slice none 0 0]) 4 56 Try.underlying22 Hi.out Hz0.out Hz1.out Hz2.out rfl (by decide) _ _ _ rfl (own_keeps Hown.out ((Below.refl _ _).alloc (Nat.le_refl _) _)) ⟨w1.heap.size, 0, none⟩ 1 1 (cellsInt zj) rfl rfl ?c1 ?c2 ?c3 ?c4 ?c5 ?_))
      case c1 =>
        intro q u hq
        match q, hq with
        | 0, hq => simp [cellsInt] at hq; subst hq; simp [Addr.add]
        | 1, hq => simp [cellsInt] at hq; subst hq; simp [Addr.add]
        | 2, hq => simp [cellsInt] at hq; subst hq; simp [Addr.add]
        | 3, hq => simp [cellsInt] at hq; subst hq; simp [Addr.add]
      case c2 => intro u hu; simp [cellsInt] at hu; rcases hu with rfl | rfl | rfl | rfl <;> rfl
      case c3 => unfold maxLen; omega
      case c4 => omega
      case c5 => have := hb1.size; simp; omega
      intro v' w2 hown' hgrow _
      have hb2 : Below w.heap.size w w2 := (hb1.alloc hb1.size _).grown hgrow (by have := hb1.size; simp; omega) (by
        intro k hk
        rcases Hown.out.2 with ⟨hv, _⟩ | ⟨g, cap', cur, hv, hbs, _⟩
        · rw [hv] at hk; cases hk
        · rw [hv] at hk; simp [Value.ownBlock] at hk; omega)
      clear Hown hgrow
      have Hown : Hid _ := hown'
      clear hown'
      go_wp2_with fail
      go_roundg (zs.length - (j + 1))
      case measure => have := Hk.out; omega
      case rel =>
        refine ⟨j + 1, by go_num, by omega, rfl, ?_, hb2⟩
        rw [List.take_succ_eq_append_getElem hlt, List.flatMap_append, Hzj.out, List.flatMap_cons, List.flatMap_nil, List.append_nil]
        exact Hown.out
    · have hjz : j = zs.length := by omega
      have Hj : Hid _ := hjz
      clear hjz
      go_wp2_with fail
      go_ret
      refine ⟨_, rfl, ?_, hbw⟩
      have h2 := Hown.out
      rw [Hj.out, List.take_length] at h2
      exact h2

end Go.Proofs.Ytlbeepaolacjbab
