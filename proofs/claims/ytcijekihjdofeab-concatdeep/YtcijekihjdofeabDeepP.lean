/-
  What ConcatDeep wants besides.
-/
import Derived.Test.YtcijekihjdofeabMade12
import Derived.Test.YtcijekihjdofeabFold
namespace Go.Proofs.Ytcijekihjdofeab
open Go.RowKit

/-- A vector's height, and the document's bound of it. -/
theorem height_pair (l : List VT) (p : Value) (w : World) (h : VV w l p) : Calls Try.prog 29 #[p] w fun e w' => Below w.heap.size w w' ∧ ∃ hN : Nat, e = .returned (.int .i64 (hN : Int)) ∧ ∀ V, Calls Try.prog 30 #[.int .i64 (l.length : Int)] V fun e w' => ∃ g : Nat, e = .returned (.int .i64 (g : Int)) ∧ hN ≤ g ∧ w' = V := by
  have hlen := h.len
  refine Calls.mono (vheight_any 16 l p w h.vc (by omega)) ?_
  rintro e w' ⟨n, rfl, hh, hb⟩
  refine ⟨hb, n, rfl, fun V => ?_⟩
  cases l with
  | nil =>
    refine Calls.mono (high_zero V) ?_
    rintro e w' ⟨rfl, rfl⟩
    refine ⟨0, rfl, ?_, rfl⟩
    rcases hh with ⟨_, rfl⟩ | ⟨h, _⟩
    · exact Nat.le_refl _
    · exact absurd rfl h
  | cons x l =>
    refine Calls.mono (high_any (x :: l).length V (by simp) hlen) ?_
    rintro e w' ⟨⟨j, rfl, _, hj⟩, rfl⟩
    refine ⟨j / 4 + 3, rfl, ?_, rfl⟩
    rcases hh with ⟨h, _⟩ | ⟨_, h, rfl, hh⟩
    · cases h
    · exact height_low _ h j hh hj

theorem Rw.nil (w : World) : Rw w w (.slice none 0 0) 0 [] := ⟨Below.refl _ _, World.ownsRow_nil _ _ _ _⟩

end Go.Proofs.Ytcijekihjdofeab
