/-
  Values that are the same in all fields are one; so are right ones that are equal. Plain mathematics.
-/
import Derived.Test.YtacnfmamjbmhcaaGreatLevel
import Derived.Test.YtacnfmamjbmhcaaGreatSame
import Derived.Test.YtacnfmamjbmhcaaGreatParts
import Derived.Test.YtacnfmamjbmhcaaGreatMerge
import Derived.Lib.Strings
namespace Go.Proofs.YtacnfmamjbmhcaaGreat
open Go.RowKit

theorem bytes_eq {a b : ByteArray} (h : a.toList = b.toList) : a = b := by
  rw [Lib.toList_data, Lib.toList_data] at h
  apply ByteArray.ext
  exact Array.toList_inj.1 h

/-- A right text is short. -/
theorem right_text {d : Nat} {t : VT} (h : ownV d t = true) : t.text.size ≤ 256 ∧ (t.kind = 3 → utfB t.text = true) ∧ (t.kind ≠ 3 → t.text = ⟨#[]⟩) := by
  simp only [ownV, Bool.and_eq_true] at h
  have ht := h.2.2.2.1
  simp only [okText] at ht
  by_cases k : t.kind = 3
  · rw [if_pos (by simpa using k)] at ht
    simp only [Bool.and_eq_true, decide_eq_true_eq] at ht
    exact ⟨ht.1, fun _ => ht.2, fun h => absurd k h⟩
  · rw [if_neg (by simpa using k)] at ht
    have e : t.text.toList = [] := by simpa using ht
    have e2 : t.text = ⟨#[]⟩ := bytes_eq (by rw [e, Lib.toList_data])
    exact ⟨by rw [e2]; show 0 ≤ 256; omega, fun h => absurd h k, fun _ => e2⟩

end Go.Proofs.YtacnfmamjbmhcaaGreat

