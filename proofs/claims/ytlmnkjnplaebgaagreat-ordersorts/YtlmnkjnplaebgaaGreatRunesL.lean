/-
  The letters that the document counts are those that a range over a text finds.
-/
import Derived.Test.YtlmnkjnplaebgaaGreatRunesP
import Derived.Test.YtlmnkjnplaebgaaGreatLetters
namespace Go.Proofs.YtlmnkjnplaebgaaGreat
open Go.RowKit

theorem rn_lt (s : ByteArray) : ∀ (b pos : Nat) (n : Int), 0 ≤ n → 0 ≤ ltF s b pos n → ltF s b pos n = rnF s b pos n := by
  intro b
  induction b with
  | zero => intro pos n _ _; rfl
  | succ b ih =>
    intro pos n hn h
    by_cases hp : pos < s.size
    · obtain ⟨_, a2⟩ := dec_utf s pos hp
      unfold ltF at h ⊢
      unfold rnF
      rw [if_pos hp] at h ⊢
      rw [if_pos hp]
      by_cases hz : utfW s pos = 0
      · rw [if_pos hz] at h; omega
      · obtain ⟨c1, _, _⟩ := a2 hz
        rw [if_neg hz] at h ⊢
        rw [show (utfW s pos).toNat = (Utf8.decode s pos).2 by omega] at h ⊢
        exact ih _ _ (by omega) h
    · rw [ltF_end s _ pos n hp, rnF_end s _ pos n hp]

theorem runes_letters (s : ByteArray) (h : utfB s = true) : lettersZ s = runesZ s := by
  have e := letters_right s
  rw [h, decide_eq_true_eq] at e
  exact rn_lt s s.size 0 0 (Int.le_refl _) e

end Go.Proofs.YtlmnkjnplaebgaaGreat
