/-
  PairingNil: the statement's walk.
-/
import Derived.Test.YtgmmocbgeilpiaaGreatSortsLaw19
namespace Go.Proofs.YtgmmocbgeilpiaaGreat
open Go.RowKit Go.Shelf

/-- Of nothing is fine. -/
theorem look_none19 (q : Nat) (hq : q < 6) : lookE 16 (q : Int) [] = 0 := by
  unfold lookE listErr
  rw [if_neg (by omega), if_neg (by simp), if_pos (by rfl)]

theorem new_ok19 (X : Nat → Prop) (q : Nat) (hq : q < 6) (w : World) (hX : ∀ b, w.heap.size ≤ b → X b) : Calls Tryz.prog 10 #[.int .i64 (q : Int)] w fun e w' => ∃ b, e = .returned (.tuple #[.pointer (some ⟨b, 0, none⟩), .int .i64 0]) ∧ QC X w' q [] b ∧ Below w.heap.size w w' := by
  refine Calls.mono (new_any19 X (q : Int) w hX) ?_
  rintro e w' ⟨hb, ⟨h0, _⟩ | ⟨_, p, rfl, b, rfl, hc⟩⟩
  · exact absurd (look_none19 q hq) h0
  · exact ⟨b, rfl, hc, hb⟩

end Go.Proofs.YtgmmocbgeilpiaaGreat

