/-
  The statements' own Values at two lists.
-/
import Derived.Test.YtpnfmcmhcjekfabVals
import Derived.Test.YtpnfmcmhcjekfabSameEq
namespace Go.Proofs.Ytpnfmcmhcjekfab
open Go.RowKit

theorem all2_get {f : VT → VT → Bool} : ∀ (l m : List VT), all2 f l m = true → ∀ (j : Nat) (h1 : j < l.length) (h2 : j < m.length), f l[j] m[j] = true
  | [], _, _, j, h1, _ => by cases h1
  | _ :: _, [], _, j, _, h2 => by cases h2
  | x :: xs, y :: ys, h, j, h1, h2 => by
    simp only [all2, Bool.and_eq_true] at h
    cases j with
    | zero => exact h.1
    | succ j => exact all2_get xs ys h.2 j (by simpa using h1) (by simpa using h2)

theorem all2_of {f : VT → VT → Bool} : ∀ (l m : List VT), (∀ (j : Nat) (h1 : j < l.length) (h2 : j < m.length), f l[j] m[j] = true) → all2 f l m = true
  | [], _, _ => by simp [all2]
  | _ :: _, [], _ => by simp [all2]
  | x :: xs, y :: ys, h => by
    simp only [all2, Bool.and_eq_true]
    exact ⟨h 0 (by simp) (by simp), all2_of xs ys fun j h1 h2 => h (j + 1) (by simpa using h1) (by simpa using h2)⟩

/-- Are two lists the same? -/
def eqL (f : VT → VT → Bool) (l m : List VT) : Bool := decide (l.length = m.length) && all2 f l m

end Go.Proofs.Ytpnfmcmhcjekfab

