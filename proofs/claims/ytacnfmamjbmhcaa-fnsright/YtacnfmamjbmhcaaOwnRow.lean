/-
  A row that is owned, as a row of pairs.
-/
import Derived.Test.YtacnfmamjbmhcaaCopy3
namespace Go.Proofs.Ytacnfmamjbmhcaa
open Go.RowKit

/-- A row that is owned, as a row of pairs. -/
theorem own_row {w : World} {base : Nat} {v : Value} {ps : List (VT × Value)} (h : w.ownsRow base 24 4 v ps.length (ps.flatMap encP)) (hne : ps ≠ []) :
    ∃ g cap, v = .slice (some ⟨g, 0, none⟩) ps.length cap ∧ base ≤ g ∧ ps.length ≤ cap ∧ g < w.heap.size ∧ RowAt w g 0 ps ∧ ∀ k, w.frozen? ⟨g, k, none⟩ = false := by
  rcases h.2 with ⟨_, h0⟩ | ⟨g, cap, cur, hv, hbs, hg, hcap, _, hsz, htk⟩
  · exact absurd (List.eq_nil_of_length_eq_zero h0) hne
  · have hlt : g < w.heap.size := by
      by_cases hl : g < w.heap.size
      · exact hl
      · rw [Array.getElem?_eq_none (by omega)] at hg; cases hg
    refine ⟨g, cap, hv, hbs, hcap, hlt, RowAt.of_flat fun j u hj => ?_, fun k => ?_⟩
    · rw [← htk] at hj
      unfold World.cell?
      rw [hg]
      simp only [Nat.zero_add]
      rw [List.getElem?_take] at hj
      split at hj
      · simpa using hj
      · cases hj
    · unfold World.frozen?
      rw [hg]
      simp

end Go.Proofs.Ytacnfmamjbmhcaa

