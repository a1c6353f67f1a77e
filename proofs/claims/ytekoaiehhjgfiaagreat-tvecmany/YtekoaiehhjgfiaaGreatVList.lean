/-
  The contract of List: a list of values.
-/
import Derived.Test.YtekoaiehhjgfiaaGreatClo
import Derived.Test.YtekoaiehhjgfiaaGreatUniq
import Derived.Test.YtekoaiehhjgfiaaGreatList
import Derived.Test.YtekoaiehhjgfiaaGreatSameEq
namespace Go.Proofs.YtekoaiehhjgfiaaGreat
open Go.RowKit

/-- The zero value. -/
def zeroAgg : Value := .agg #[.int .i64 0, .int .i64 0, .string ⟨#[]⟩, .slice none 0 0]

theorem right_txt : ∀ (d : Nat) (t : VT), rpV d t = true → Txt (fun s => s.size ≤ 281474976710656) d t := by
  intro d
  induction d with
  | zero => intro t h; have := (right_text (d := 0) h).1; exact Nat.le_trans this (by omega)
  | succ d ih =>
    intro t h
    simp only [rpV, Bool.and_eq_true, List.all_eq_true] at h
    exact ⟨Nat.le_trans (right_text h.2).1 (by omega), fun x hx => ih x (h.1 x hx)⟩

theorem right_rp {d : Nat} {t : VT} (h : rightV d t = true) : rpV d t = true := by
  simp only [rightV, Bool.and_eq_true] at h
  exact h.2

end Go.Proofs.YtekoaiehhjgfiaaGreat

