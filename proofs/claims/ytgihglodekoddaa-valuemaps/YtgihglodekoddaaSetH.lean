/-
  The contract of Set at any list.
-/
import Derived.Test.YtgihglodekoddaaRotate
import Derived.Test.YtgihglodekoddaaMade
import Derived.Test.YtgihglodekoddaaSpeaks
import Derived.Shelf.SlSortCmp.NoneTotal
import Derived.Test.YtgihglodekoddaaSetM
import Derived.Test.YtgihglodekoddaaTold
namespace Go.Proofs.Ytgihglodekoddaa
open Go.RowKit

/-- What Set leaves: an error and the zero value, or OK and the set of the members. -/
def SetPost (d : Nat) (l : List VT) (w : World) (e : Ending) (w' : World) : Prop :=
  Below w.heap.size w w' ∧
  ((listErr d l ≠ 0 ∧ e = .returned (.tuple #[zeroAgg, .int .i64 (listErr d l)])) ∨
   (listErr d l = 0 ∧ ∃ m, Members d l m ∧
     (((fw (d + 1) ⟨5, 0, ⟨#[]⟩, m⟩ 16 1024).1 = false ∧ e = .returned (.tuple #[zeroAgg, .int .i64 2])) ∨
      ((fw (d + 1) ⟨5, 0, ⟨#[]⟩, m⟩ 16 1024).1 = true ∧ ∃ v, e = .returned (.tuple #[.agg #[.int .i64 5, .int .i64 0, .string ⟨#[]⟩, v], .int .i64 0]) ∧ Lies (d + 1) w' m v))))

/-- The same, the set in memory from the call's own on. -/
def SetPostB (d : Nat) (l : List VT) (w : World) (e : Ending) (w' : World) : Prop :=
  Below w.heap.size w w' ∧
  ((listErr d l ≠ 0 ∧ e = .returned (.tuple #[zeroAgg, .int .i64 (listErr d l)])) ∨
   (listErr d l = 0 ∧ ∃ m, Members d l m ∧
     (((fw (d + 1) ⟨5, 0, ⟨#[]⟩, m⟩ 16 1024).1 = false ∧ e = .returned (.tuple #[zeroAgg, .int .i64 2])) ∨
      ((fw (d + 1) ⟨5, 0, ⟨#[]⟩, m⟩ 16 1024).1 = true ∧ ∃ v, e = .returned (.tuple #[.agg #[.int .i64 5, .int .i64 0, .string ⟨#[]⟩, v], .int .i64 0]) ∧ LiesB w.heap.size (d + 1) w' m v))))

theorem SetPostB.weak {d : Nat} {l : List VT} {w : World} {e : Ending} {w' : World} (h : SetPostB d l w e w') : SetPost d l w e w' := by
  obtain ⟨hb, h1 | ⟨h0, m, hm, h2 | ⟨hf, v, he, hL⟩⟩⟩ := h
  · exact ⟨hb, .inl h1⟩
  · exact ⟨hb, .inr ⟨h0, m, hm, .inl h2⟩⟩
  · exact ⟨hb, .inr ⟨h0, m, hm, .inr ⟨hf, v, he, LiesB.lies _ _ _ hL⟩⟩⟩

end Go.Proofs.Ytgihglodekoddaa

