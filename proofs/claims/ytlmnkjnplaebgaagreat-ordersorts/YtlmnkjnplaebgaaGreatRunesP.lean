/-
  How many letters a range over a text finds: plain mathematics.
-/
import Derived.Test.YtlmnkjnplaebgaaGreatUtf
namespace Go.Proofs.YtlmnkjnplaebgaaGreat
open Go.RowKit

def rnF (s : ByteArray) : Nat → Nat → Int → Int
  | 0, _, n => n
  | b + 1, pos, n => if pos < s.size then rnF s b (pos + (Utf8.decode s pos).2) (n + 1) else n

theorem rnF_end (s : ByteArray) (b pos : Nat) (n : Int) (h : ¬ pos < s.size) : rnF s b pos n = n := by
  cases b with
  | zero => rfl
  | succ b => simp [rnF, h]

theorem rnF_range (s : ByteArray) : ∀ (b pos : Nat) (n : Int), n ≤ rnF s b pos n ∧ rnF s b pos n ≤ n + b := by
  intro b
  induction b with
  | zero => intro pos n; unfold rnF; omega
  | succ b ih =>
    intro pos n
    unfold rnF
    split
    · have := ih (pos + (Utf8.decode s pos).2) (n + 1); omega
    · omega

/-- How many letters a range over a text finds. -/
def runesZ (s : ByteArray) : Int := rnF s s.size 0 0

theorem runesZ_range (s : ByteArray) : 0 ≤ runesZ s ∧ runesZ s ≤ s.size := by
  have := rnF_range s s.size 0 0
  unfold runesZ; omega

end Go.Proofs.YtlmnkjnplaebgaaGreat
