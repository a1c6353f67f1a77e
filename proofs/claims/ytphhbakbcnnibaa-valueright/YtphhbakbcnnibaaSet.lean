/-
  The contracts of sorted and made.
-/
import Derived.Test.YtphhbakbcnnibaaSortV
import Derived.Test.YtphhbakbcnnibaaSorted
import Derived.Test.YtphhbakbcnnibaaCopy3
import Derived.Test.YtphhbakbcnnibaaCompact
namespace Go.Proofs.Ytphhbakbcnnibaa
open Go.RowKit

/-- A row that is owned, as a row of pairs. -/
theorem own_row {w : World} {base : Nat} {v : Value} {ps : List (VT × Value)} (h : w.ownsRow base 24 4 v ps.length (ps.flatMap encP)) (hne : ps ≠ []) :
    ∃ g cap, v = .slice (some ⟨g, 0, none⟩) ps.length cap ∧ base ≤ g ∧ ps.length ≤ cap ∧ g < w.heap.size ∧ RowAt w g 0 ps ∧ ∀ k, w.frozen? ⟨g, k, none⟩ = false := by
  rcases h.2 with ⟨_, h0⟩ | ⟨g, cap, cur, hv, hbs, hg, hcap, _, hsz, htk⟩
  · exact absurd (List.eq_nil_of_length_eq_zero h0) hne
  · have hlt : g < w.heap.size := by
      by_cases hl : g < w.heap.size
      · exact hl
      · rw [Array.getElem?_eq_none (by omega)] at hg; cases hg
    refine ⟨g, cap, hv, hbs, hcap, hlt, RowAt.of_flat fun j u hj => ?_, fun k => ?_⟩
    · rw [← htk] at hj
      unfold World.cell?
      rw [hg]
      simp only [Nat.zero_add]
      rw [List.getElem?_take] at hj
      split at hj
      · simpa using hj
      · cases hj
    · unfold World.frozen?
      rw [hg]
      simp

set_option maxHeartbeats 1000000 in
theorem sorted_some (d b o c : Nat) (ps : List (VT × Value)) (w : World) (hrow : RowAt w b o ps) (hs : ∀ p ∈ ps, Sound d w p) (hne : ps ≠ []) (hlen : ps.length ≤ 65536) :
    Calls Try.prog 49 #[.slice (some ⟨b, o, none⟩) ps.length c] w fun e w' => ∃ g cap qs, e = .returned (.slice (some ⟨g, 0, none⟩) ps.length cap) ∧ qs.Perm ps ∧ Rises d qs ∧ RowAt w' g 0 qs ∧ (∀ k, k < ps.length * 4 → w'.frozen? ⟨g, k, none⟩ = false) ∧ w.heap.size ≤ g ∧ ps.length ≤ cap ∧ g < w'.heap.size ∧ Below w.heap.size w w' := by
  have HR : Hid (RowAt w b o ps) := hrow
  have HS : Hid (∀ p ∈ ps, Sound d w p) := hs
  have HN : Hid (ps ≠ []) := hne
  clear hrow hs hne
  go_enter Try.func49, Try.ntmps49
  go_wp2_with fail
  refine (clone_some b o c ps d _ HR.out HS.out hlen).mono ?_
  rintro e w1 ⟨v, rfl, hown, hb1⟩
  obtain ⟨g, cap, rfl, hg, hcap, hlt, hrow1, hfz1⟩ := own_row hown HN.out
  have Hrow1 : Hid (RowAt w1 g 0 ps) := hrow1
  have Hfz1 : Hid _ := hfz1
  clear hown hrow1 hfz1
  go_wp2_with fail
  refine (sort_any d g cap w _ ps HS.out hb1 hg hlt Hrow1.out (fun k _ => Hfz1.out k) hlen).mono ?_
  rintro e w2 ⟨rfl, qs, hp, hri, hrow2, hfz2, hb2, hlt2⟩
  have Hall : Hid (qs.Perm ps ∧ Rises d qs ∧ RowAt w2 g 0 qs ∧ (∀ k, k < ps.length * 4 → w2.frozen? ⟨g, k, none⟩ = false)) := ⟨hp, hri, hrow2, hfz2⟩
  clear hp hri hrow2 hfz2
  go_wp2_with fail
  go_ret
  exact ⟨g, cap, qs, rfl, Hall.out.1, Hall.out.2.1, Hall.out.2.2.1, Hall.out.2.2.2, hg, hcap, hlt2, hb2⟩

set_option maxHeartbeats 1000000 in
theorem strclone (s : ByteArray) (w : World) (hlim : s.size ≤ 281474976710656) : Calls Try.prog 76 #[.string s] w fun e w' => e = .returned (.string s) ∧ Below w.heap.size w w' := by
  go_enter Try.func76, Try.ntmps76
  go_wp2_with fail
  refine (Try.stringslite_Clone s _ hlim).mono ?_
  rintro e w1 ⟨rfl, hb⟩
  go_wp2_with fail
  go_ret
  exact ⟨rfl, hb⟩

/-- What is made of items: the value and OK, or the zero value and ErrLong. -/
def MadePost (d : Nat) (t : VT) (w : World) (e : Ending) (w' : World) : Prop :=
  if (fw d t 16 1024).1 = true then ∃ v, e = .returned (.tuple #[.agg #[.int .i64 t.kind, .int .i64 0, .string ⟨#[]⟩, v], .int .i64 0]) ∧ LiesB w.heap.size d w' t.items v ∧ Below w.heap.size w w'
  else e = .returned (.tuple #[.agg #[.int .i64 0, .int .i64 0, .string ⟨#[]⟩, .slice none 0 0], .int .i64 2]) ∧ Below w.heap.size w w'

theorem txt_any (s : ByteArray) (W : World) (h : s.size ≤ 281474976710656) : Calls Try.prog 76 #[.string s] W fun e W' => e = .returned (.string s) ∧ Below W.heap.size W W' := strclone s W h

theorem sm_len : ∀ (d : Nat) (t : VT), Sm d t → Len d t := by
  intro d
  induction d with
  | zero => intro t _; trivial
  | succ d ih => intro t h; exact ⟨by have := h.1; omega, fun x hx => ih x (h.2 x hx)⟩

end Go.Proofs.Ytphhbakbcnnibaa
