/-
  The contract of List: a list of values.
-/
import Derived.Test.YtajjkkfegcmkkaaMade
import Derived.Test.YtajjkkfegcmkkaaList
import Derived.Test.YtajjkkfegcmkkaaSameEq
namespace Go.Proofs.Ytajjkkfegcmkkaa
open Go.RowKit

/-- The zero value. -/
def zeroAgg : Value := .agg #[.int .i64 0, .int .i64 0, .string ⟨#[]⟩, .slice none 0 0]

theorem listErr_zero {d : Nat} {l : List VT} (h : listErr d l = 0) : l.length ≤ 65536 ∧ ∀ x ∈ l, rightV d x = true := by
  unfold listErr at h
  by_cases h1 : 65536 < l.length
  · rw [if_pos h1] at h; omega
  · rw [if_neg h1] at h
    cases h2 : l.all (rightV d)
    · rw [h2] at h; simp at h
    · exact ⟨by omega, List.all_eq_true.1 h2⟩

theorem right_txt : ∀ (d : Nat) (t : VT), rpV d t = true → Txt (fun s => s.size ≤ 281474976710656) d t := by
  intro d
  induction d with
  | zero => intro t h; have := (right_text (d := 0) h).1; exact Nat.le_trans this (by omega)
  | succ d ih =>
    intro t h
    simp only [rpV, Bool.and_eq_true, List.all_eq_true] at h
    exact ⟨Nat.le_trans (right_text h.2).1 (by omega), fun x hx => ih x (h.1 x hx)⟩

/-- What made left: an error, or the value in new memory. -/
theorem madeLies {d : Nat} {t : VT} {w : World} {e : Ending} {w' : World} (h : MadePost d t w e w') :
    Below w.heap.size w w' ∧ (((fw d t 16 1024).1 = false ∧ e = .returned (.tuple #[zeroAgg, .int .i64 2])) ∨ ((fw d t 16 1024).1 = true ∧ ∃ v, e = .returned (.tuple #[.agg #[.int .i64 t.kind, .int .i64 0, .string ⟨#[]⟩, v], .int .i64 0]) ∧ LiesB w.heap.size d w' t.items v)) := by
  unfold MadePost at h
  by_cases hf : (fw d t 16 1024).1 = true
  · rw [if_pos hf] at h
    obtain ⟨v, he, hl, hb⟩ := h
    exact ⟨hb, .inr ⟨hf, v, he, hl⟩⟩
  · rw [if_neg hf] at h
    exact ⟨h.2, .inl ⟨by simpa using hf, h.1⟩⟩

end Go.Proofs.Ytajjkkfegcmkkaa

