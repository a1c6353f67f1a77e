/-
  A result's cells, still zero, to be written.
-/
import Derived.Test.YtlbeepaolacjbabClone
import Derived.Laws.IdiomCopy
namespace Go.Proofs.Ytlbeepaolacjbab
open Go.RowKit

/-- A result's cells, still zero, to be written. -/
structure Blank (W : World) (n : Nat) : Prop where
  c0 : W.cell? ⟨n, 0, none⟩ = some (.int .i64 0)
  c1 : W.cell? ⟨n, 1, none⟩ = some (.int .i64 0)
  c2 : W.cell? ⟨n, 2, none⟩ = some (.string ⟨#[]⟩)
  c3 : W.cell? ⟨n, 3, none⟩ = some (.slice none 0 0)
  f0 : W.frozen? ⟨n, 0, none⟩ = false
  f1 : W.frozen? ⟨n, 1, none⟩ = false
  f2 : W.frozen? ⟨n, 2, none⟩ = false
  f3 : W.frozen? ⟨n, 3, none⟩ = false

theorem Blank.keeps {W W' : World} {n : Nat} (h : Blank W n) (hb : Below W.heap.size W W') : Blank W' n := by
  have hl : n < W.heap.size := cell_lt h.c0
  exact ⟨cell_keeps hb h.c0, cell_keeps hb h.c1, cell_keeps hb h.c2, cell_keeps hb h.c3, (hb.frozen (p := ⟨n, 0, none⟩) hl).trans h.f0, (hb.frozen (p := ⟨n, 1, none⟩) hl).trans h.f1, (hb.frozen (p := ⟨n, 2, none⟩) hl).trans h.f2, (hb.frozen (p := ⟨n, 3, none⟩) hl).trans h.f3⟩

theorem blank_alloc (w : World) : Blank (w.alloc (.cells #[.int .i64 0, .int .i64 0, .string ⟨#[]⟩, .slice none 0 0] 25)) w.heap.size := by
  refine ⟨?_, ?_, ?_, ?_, ?_, ?_, ?_, ?_⟩ <;> simp

/-- The result written. -/
theorem Blank.put {W : World} {n : Nat} (h : Blank W n) (p : VT × Value) : Boxed (W.setCells n 0 (encP p)) n p.1.kind p.1.num p.1.text p.2 := by
  have hin : ∀ j (hj : j < (encP p).length), (W.setCells n 0 (encP p)).cell? ⟨n, 0 + j, none⟩ = some ((encP p)[j]) :=
    World.cell?_setCells_in n _ 0 W (fun j hj => by
      match j, hj with
      | 0, _ => rw [h.c0]; rfl
      | 1, _ => rw [h.c1]; rfl
      | 2, _ => rw [h.c2]; rfl
      | 3, _ => rw [h.c3]; rfl)
  have q0 := hin 0 (by simp [encP]); have q1 := hin 1 (by simp [encP]); have q2 := hin 2 (by simp [encP]); have q3 := hin 3 (by simp [encP])
  simp only [Nat.zero_add] at q0 q1 q2 q3
  exact ⟨q0, q1, q2, q3⟩

theorem below_put {w W : World} {n : Nat} (h : Below w.heap.size w W) (hn : w.heap.size ≤ n) (p : VT × Value) : Below w.heap.size w (W.setCells n 0 (encP p)) :=
  (((h.setCell (p := ⟨n, 0, none⟩) hn _).setCell (p := ⟨n, 0 + 1, none⟩) hn _).setCell (p := ⟨n, 0 + 1 + 1, none⟩) hn _).setCell (p := ⟨n, 0 + 1 + 1 + 1, none⟩) hn _

end Go.Proofs.Ytlbeepaolacjbab
