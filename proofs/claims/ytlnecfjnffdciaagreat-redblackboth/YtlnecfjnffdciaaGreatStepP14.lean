import Derived.Test.YtlnecfjnffdciaaGreatRBuildA14
import Derived.Test.YtlnecfjnffdciaaGreatSortedQ
import Derived.Test.YtlnecfjnffdciaaGreatReadS
import Derived.Test.YtlnecfjnffdciaaGreatReadTw14
namespace Go.Proofs.YtlnecfjnffdciaaGreat
open Go.RowKit Go.Shelf

def MpPost (q : Nat) (l : List PT) (E : Int) (w : World) (e : Ending) (w' : World) : Prop := Below w.heap.size w w' ∧ ∃ p : Option Addr, e = .returned (.tuple #[.pointer p, .int .i64 E]) ∧ ((E ≠ 0 ∧ p = none) ∨ (E = 0 ∧ ∃ t b, p = some ⟨b, 0, none⟩ ∧ MC w' q t b ∧ t.items = l))
def DpPost (q : Nat) (l : List PT) (E : Int) (w : World) (e : Ending) (w' : World) : Prop := Below w.heap.size w w' ∧ ∃ p : Option Addr, e = .returned (.tuple #[.pointer p, .int .i64 E]) ∧ ((E ≠ 0 ∧ p = none) ∨ (E = 0 ∧ ∃ b, p = some ⟨b, 0, none⟩ ∧ DM w' q l b))

theorem DoPost.dp {q : Nat} {l : List PT} {E : Int} {w : World} {e : Ending} {w' : World} (h : DoPost q l E w e w') : DpPost q l E w e w' := by
 obtain ⟨hb, ⟨h0, rfl⟩ | ⟨rfl, b, rfl, hm⟩⟩ := h
 ·exact ⟨hb, none, rfl, .inl ⟨h0, rfl⟩⟩
 ·exact ⟨hb, _, rfl, .inr ⟨rfl, b, rfl, hm⟩⟩

end Go.Proofs.YtlnecfjnffdciaaGreat

