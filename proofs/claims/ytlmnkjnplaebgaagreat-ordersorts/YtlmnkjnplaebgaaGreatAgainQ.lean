/-
  What the error of look says.
-/
import Derived.Test.YtlmnkjnplaebgaaGreatLook
namespace Go.Proofs.YtlmnkjnplaebgaaGreat
open Go.RowKit Go.Shelf

theorem lookE_pos {d : Nat} {o : Int} {l : List VT} (h : lookE d o l = 0) : (0 ≤ o ∧ o < 6) ∧ listErr d l = 0 := by
  unfold lookE at h
  by_cases ho : o < 0 ∨ 6 ≤ o
  · rw [if_pos ho] at h; cases h
  · rw [if_neg ho] at h
    exact ⟨by omega, h⟩

theorem lookE_of {d : Nat} {o : Int} {l : List VT} (ho : 0 ≤ o ∧ o < 6) (h : listErr d l = 0) : lookE d o l = 0 := by
  unfold lookE
  rw [if_neg (by omega)]
  exact h

end Go.Proofs.YtlmnkjnplaebgaaGreat
