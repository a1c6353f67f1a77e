/-
  A value's four cells in a block, to be read and written.
-/
import Derived.Test.YtlbeepaolacjbabBlank
namespace Go.Proofs.Ytlbeepaolacjbab
open Go.RowKit

structure Bx (W : World) (n : Nat) (t : VT) (u : Value) : Prop where
  c0 : W.cell? ⟨n, 0, none⟩ = some (.int .i64 t.kind)
  c1 : W.cell? ⟨n, 1, none⟩ = some (.int .i64 t.num)
  c2 : W.cell? ⟨n, 2, none⟩ = some (.string t.text)
  c3 : W.cell? ⟨n, 3, none⟩ = some u
  f0 : W.frozen? ⟨n, 0, none⟩ = false
  f1 : W.frozen? ⟨n, 1, none⟩ = false
  f2 : W.frozen? ⟨n, 2, none⟩ = false
  f3 : W.frozen? ⟨n, 3, none⟩ = false

theorem Bx.keeps {W W' : World} {n : Nat} {t : VT} {u : Value} (h : Bx W n t u) (hb : Below W.heap.size W W') : Bx W' n t u := by
  have hl : n < W.heap.size := cell_lt h.c0
  exact ⟨cell_keeps hb h.c0, cell_keeps hb h.c1, cell_keeps hb h.c2, cell_keeps hb h.c3, (hb.frozen (p := ⟨n, 0, none⟩) hl).trans h.f0, (hb.frozen (p := ⟨n, 1, none⟩) hl).trans h.f1, (hb.frozen (p := ⟨n, 2, none⟩) hl).trans h.f2, (hb.frozen (p := ⟨n, 3, none⟩) hl).trans h.f3⟩

theorem bx_alloc (w : World) (t : VT) (u : Value) : Bx (w.alloc (.cells #[.int .i64 t.kind, .int .i64 t.num, .string t.text, u] 25)) w.heap.size t u := by
  refine ⟨?_, ?_, ?_, ?_, ?_, ?_, ?_, ?_⟩ <;> simp

theorem Bx.put {W : World} {n : Nat} {t : VT} {u : Value} (h : Bx W n t u) (p : VT × Value) : Bx (W.setCells n 0 (encP p)) n p.1 p.2 := by
  have hin : ∀ j (hj : j < (encP p).length), (W.setCells n 0 (encP p)).cell? ⟨n, 0 + j, none⟩ = some ((encP p)[j]) :=
    World.cell?_setCells_in n _ 0 W (fun j hj => by
      match j, hj with
      | 0, _ => rw [h.c0]; rfl
      | 1, _ => rw [h.c1]; rfl
      | 2, _ => rw [h.c2]; rfl
      | 3, _ => rw [h.c3]; rfl)
  have q0 := hin 0 (by simp [encP]); have q1 := hin 1 (by simp [encP]); have q2 := hin 2 (by simp [encP]); have q3 := hin 3 (by simp [encP])
  simp only [Nat.zero_add] at q0 q1 q2 q3
  exact ⟨q0, q1, q2, q3, by rw [World.frozen?_setCells]; exact h.f0, by rw [World.frozen?_setCells]; exact h.f1, by rw [World.frozen?_setCells]; exact h.f2, by rw [World.frozen?_setCells]; exact h.f3⟩

theorem cell_other {W : World} {g o : Nat} {vs : List Value} {a : Addr} {v : Value} (hg : a.block ≠ g) (h : W.cell? a = some v) : (W.setCells g o vs).cell? a = some v := by
  rw [World.cell?_setCells_out g vs o W a (fun e _ => absurd e hg)]; exact h

theorem Bx.other {W : World} {n g : Nat} {t : VT} {u : Value} (h : Bx W n t u) (hg : n ≠ g) (vs : List Value) : Bx (W.setCells g 0 vs) n t u :=
  ⟨cell_other hg h.c0, cell_other hg h.c1, cell_other hg h.c2, cell_other hg h.c3, by rw [World.frozen?_setCells]; exact h.f0, by rw [World.frozen?_setCells]; exact h.f1, by rw [World.frozen?_setCells]; exact h.f2, by rw [World.frozen?_setCells]; exact h.f3⟩

/-- The zero value's tree. -/
abbrev zeroT : VT := ⟨0, 0, ⟨#[]⟩, []⟩

end Go.Proofs.Ytlbeepaolacjbab
