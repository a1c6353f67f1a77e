/-
  The walk of MurmurTurned: it answers true.
-/
import Derived.Test.YteldncblmoilkaaSpeaks
import Derived.Laws.AppendOwn
namespace Go.Proofs.Yteldncblmoilkaa
open Go.RowKit

theorem foldU : ∀ (l : List Int) (m : Int), l.foldl stepU (m % 4294967296) = (m + l.sum) % 4294967296 := by
  intro l
  induction l with
  | nil => intro m; simp
  | cons x l ih =>
    intro m
    rw [List.foldl_cons, show stepU (m % 4294967296) x = (m + x) % 4294967296 by unfold stepU; omega, ih, List.sum_cons, Int.add_assoc]

theorem uno_sum (l : List Int) : unoZ l = collZ (l.sum % 4294967296) l.length := by
  unfold unoZ
  have h := foldU l 0
  rw [show (0 : Int) % 4294967296 = 0 from rfl, Int.zero_add] at h
  rw [h]

theorem sum_set : ∀ (l : List Int) (i : Nat) (h : i < l.length) (x : Int), (l.set i x).sum = l.sum - l[i] + x := by
  intro l
  induction l with
  | nil => intro i h; cases h
  | cons y l ih =>
    intro i h x
    cases i with
    | zero => simp; omega
    | succ i =>
      have := ih i (by simpa using h) x
      simp [this]; omega

def swapped (l : List Int) (i k : Nat) (hi : i < l.length) (hk : k < l.length) : List Int := (l.set i l[k]).set k l[i]

theorem swapped_sum (l : List Int) (i k : Nat) (hi : i < l.length) (hk : k < l.length) : (swapped l i k hi hk).sum = l.sum := by
  unfold swapped
  rw [sum_set _ _ (by simpa using hk), sum_set _ _ hi, List.getElem_set]
  split
  · subst_vars; omega
  · omega

theorem swapped_uno (l : List Int) (i k : Nat) (hi : i < l.length) (hk : k < l.length) : unoZ (swapped l i k hi hk) = unoZ l := by
  rw [uno_sum, uno_sum, swapped_sum]
  simp [swapped]

set_option maxRecDepth 100000 in
theorem infoU : ∃ i0, Try.prog.info? 22 = some i0 ∧ i0.zero = some (.int .u32 0) ∧ i0.size = 1 ∧ i0.bytes = 4 := by
  refine ⟨_, rfl, ?_, ?_, ?_⟩
  all_goals kernel_rfl

set_option maxHeartbeats 2000000 in
theorem turned_out (l : List Int) (i k : Int) (v : Value) (w : World) (hl : IntsAt .u32 w l v) (h : i < 0 ∨ k < 0 ∨ (l.length : Int) ≤ i ∨ (l.length : Int) ≤ k) :
    Calls Try.prog 7 #[v, .int .i64 i, .int .i64 k] w fun e w' => e = .returned (.bool true) ∧ Grew w w' := by
  obtain ⟨a, c, rfl, hlen, hcap, hr⟩ := hl
  clear hr
  have hsp : Hid (∀ w, Calls Try.prog 15 #[] w fun e w' => e = .returned (.bool true) ∧ Grew w w') := speaks_any
  by_cases h0 : i < 0
  · clear h
    go_enter Try.func7, Try.ntmps7
    go_wp2_with fail
    refine Calls.mono (hsp.out _) ?_
    rintro e w1 ⟨rfl, hg⟩
    go_wp2_with fail
    go_ret
    exact ⟨rfl, hg⟩
  · by_cases h1 : k < 0
    · clear h
      go_enter Try.func7, Try.ntmps7
      go_wp2_with fail
      refine Calls.mono (hsp.out _) ?_
      rintro e w1 ⟨rfl, hg⟩
      go_wp2_with fail
      go_ret
      exact ⟨rfl, hg⟩
    · by_cases h2 : (l.length : Int) ≤ i
      · clear h
        go_enter Try.func7, Try.ntmps7
        go_wp2_with fail
        refine Calls.mono (hsp.out _) ?_
        rintro e w1 ⟨rfl, hg⟩
        go_wp2_with fail
        go_ret
        exact ⟨rfl, hg⟩
      · have h3 : (l.length : Int) ≤ k := by omega
        clear h
        go_enter Try.func7, Try.ntmps7
        go_wp2_with fail
        refine Calls.mono (hsp.out _) ?_
        rintro e w1 ⟨rfl, hg⟩
        go_wp2_with fail
        go_ret
        exact ⟨rfl, hg⟩

theorem own_ints {w : World} {base : Nat} {v : Value} {l : List Int} (h : w.ownsRow base 22 1 v l.length (l.map (Value.int .u32))) (hne : l ≠ []) :
    ∃ g cap, v = .slice (some ⟨g, 0, none⟩) l.length cap ∧ base ≤ g ∧ l.length ≤ cap ∧ g < w.heap.size ∧ (∀ (i : Nat) (hi : i < l.length), w.cell? ⟨g, i, none⟩ = some (.int .u32 l[i])) ∧ ∀ k, w.frozen? ⟨g, k, none⟩ = false := by
  rcases h.2 with ⟨_, h0⟩ | ⟨g, cap, cur, hv, hbs, hg, hcap, _, hsz, htk⟩
  · exact absurd (List.eq_nil_of_length_eq_zero h0) hne
  · have hlt : g < w.heap.size := by
      by_cases hl : g < w.heap.size
      · exact hl
      · rw [Array.getElem?_eq_none (by omega)] at hg; cases hg
    refine ⟨g, cap, hv, hbs, hcap, hlt, fun i hi => ?_, fun k => ?_⟩
    · have hj : (l.map (Value.int .u32))[i]? = some (.int .u32 l[i]) := by simp [hi]
      rw [← htk] at hj
      unfold World.cell?
      rw [hg]
      rw [List.getElem?_take] at hj
      split at hj
      · simpa using hj
      · cases hj
    · unfold World.frozen?
      rw [hg]
      simp

end Go.Proofs.Yteldncblmoilkaa
