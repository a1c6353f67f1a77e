/-
  The contract of List: a list of values.
-/
import Derived.Test.YtofceccicmlmoaaClo
import Derived.Test.YtofceccicmlmoaaRotate
import Derived.Test.YtofceccicmlmoaaList
import Derived.Test.YtofceccicmlmoaaSameEq
namespace Go.Proofs.Ytofceccicmlmoaa
open Go.RowKit

theorem listErr_zero {d : Nat} {l : List VT} (h : listErr d l = 0) : l.length ≤ 65536 ∧ ∀ x ∈ l, rightV d x = true := by
  unfold listErr at h
  by_cases h1 : 65536 < l.length
  · rw [if_pos h1] at h; omega
  · rw [if_neg h1] at h
    cases h2 : l.all (rightV d)
    · rw [h2] at h; simp at h
    · exact ⟨by omega, List.all_eq_true.1 h2⟩

theorem right_txt : ∀ (d : Nat) (t : VT), rpV d t = true → Txt (fun s => s.size ≤ 281474976710656) d t := by
  intro d
  induction d with
  | zero => intro t h; have := (right_text (d := 0) h).1; exact Nat.le_trans this (by omega)
  | succ d ih =>
    intro t h
    simp only [rpV, Bool.and_eq_true, List.all_eq_true] at h
    exact ⟨Nat.le_trans (right_text h.2).1 (by omega), fun x hx => ih x (h.1 x hx)⟩

theorem right_rp {d : Nat} {t : VT} (h : rightV d t = true) : rpV d t = true := by
  simp only [rightV, Bool.and_eq_true] at h
  exact h.2

end Go.Proofs.Ytofceccicmlmoaa

