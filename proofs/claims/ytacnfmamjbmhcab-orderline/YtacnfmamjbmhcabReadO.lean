/-
  The reading of an argument that holds an order and three values.
-/
import Derived.Test.YtacnfmamjbmhcabReadS
namespace Go.Proofs.Ytacnfmamjbmhcab
open Go.ChangeShapes Go.WideShapes Go.ChangeAt Go.RowKit Go.Deep Go.Joins

def flat3 (kd : Int) (A B C : VT) (x y z : Value) : Value :=
  .agg #[.int .i64 kd, .int .i64 A.kind, .int .i64 A.num, .string A.text, x, .int .i64 B.kind, .int .i64 B.num, .string B.text, y, .int .i64 C.kind, .int .i64 C.num, .string C.text, z]

theorem list13 {α : Type} {l : List α} (h : l.length = 13) : ∃ c0 c1 c2 c3 c4 c5 c6 c7 c8 c9 c10 c11 c12, l = [c0, c1, c2, c3, c4, c5, c6, c7, c8, c9, c10, c11, c12] := by
  match l, h with
  | [c0, c1, c2, c3, c4, c5, c6, c7, c8, c9, c10, c11, c12], _ => exact ⟨c0, c1, c2, c3, c4, c5, c6, c7, c8, c9, c10, c11, c12, rfl⟩

/-- Four cells that are read as a value. -/
theorem read_four {H : Type} {enc : TypeId × Value → H} {w : World} {spare : Nat → Bool} {held : Bool} {m : Nat} {c0 c1 c2 c3 : Value} {x : DataW H × List MemPlace}
    (h : DataW.trod enc Try.prog w 0 spare held m 24 [c0, c1, c2, c3] = some x) : ∃ (n : Nat) (t : VT), c0 = .int .i64 t.kind ∧ c1 = .int .i64 t.num ∧ c2 = .string t.text ∧ Lies n w t.items c3 ∧ t.text.size ≤ 9223372036854775807 := by
  obtain ⟨xs, n', rfl, _, _, _, hf⟩ := DataW.trod_struct Try.underlying24 h
  obtain ⟨y0, y1, y2, y3, rfl⟩ := list_four (show xs.length = 4 by simpa using ‹xs.length = _›)
  have f0 : DataW.trod enc Try.prog w 0 spare held n' 3 [c0] = some y0 := by simpa [Try.cells3] using hf 0 _ rfl
  have f1 : DataW.trod enc Try.prog w 0 spare held n' 2 [c1] = some y1 := by simpa [Try.cells2] using hf 1 _ rfl
  have f2 : DataW.trod enc Try.prog w 0 spare held n' 9 [c2] = some y2 := by simpa [Try.cells9] using hf 2 _ rfl
  have f3 : DataW.trod enc Try.prog w 0 spare held n' 22 [c3] = some y3 := by simpa [Try.cells22] using hf 3 _ rfl
  obtain ⟨kd, e0, _, _⟩ := DataW.trod_int Try.underlying3 f0
  obtain ⟨nm, e1, _, _⟩ := DataW.trod_int Try.underlying2 f1
  obtain ⟨tx, e2, _, hs⟩ := DataW.trod_string Try.underlying9 f2
  obtain ⟨l, u, e3, hL⟩ := read_items n' n' (Nat.le_refl _) _ _ f3
  simp only [List.cons.injEq, and_true] at e0 e1 e2 e3
  subst e0 e1 e2 e3
  exact ⟨n', ⟨kd, nm, tx, l⟩, rfl, rfl, rfl, hL, by unfold maxLen at hs; show tx.size ≤ _; omega⟩

theorem cellsThree : Try.prog.cellsOf 26 = 13 := by kernel_rfl

set_option maxRecDepth 100000 in
theorem read_three {H : Type} {enc : TypeId × Value → H} {w : World} {spare : Nat → Bool} {held : Bool} {r : Reach} {b0 : Nat} {v : Value} {d : DataW H} {p : List MemPlace}
    (hv : Value.okWide Try.prog w r b0 26 v) (h : DataW.Trod enc Try.prog w 0 spare held 26 v d p) :
    ∃ (n : Nat) (kd : Int) (A B C : VT) (x y z : Value), v = flat3 kd A B C x y z ∧ Lies n w A.items x ∧ Lies n w B.items y ∧ Lies n w C.items z ∧ A.text.size ≤ 9223372036854775807 ∧ B.text.size ≤ 9223372036854775807 ∧ C.text.size ≤ 9223372036854775807 := by
  obtain ⟨cs, rfl, hsz⟩ := okWide_struct Try.underlying26 hv
  rw [cellsThree] at hsz
  obtain ⟨cl⟩ := cs
  obtain ⟨c0, c1, c2, c3, c4, c5, c6, c7, c8, c9, c10, c11, c12, rfl⟩ := list13 (show cl.length = 13 from hsz)
  obtain ⟨fuel, hf⟩ := h
  obtain ⟨xs, n', _, _, _, _, hf⟩ := DataW.trod_struct Try.underlying26 hf
  obtain ⟨y0, y1, y2, y3, rfl⟩ := list_four (show xs.length = 4 by simpa using ‹xs.length = _›)
  have f0 : DataW.trod enc Try.prog w 0 spare held n' 3 [c0] = some y0 := by simpa [Try.cells3, Value.cells] using hf 0 _ rfl
  have f1 : DataW.trod enc Try.prog w 0 spare held n' 24 [c1, c2, c3, c4] = some y1 := by simpa [Try.cells24, Value.cells] using hf 1 _ rfl
  have f2 : DataW.trod enc Try.prog w 0 spare held n' 24 [c5, c6, c7, c8] = some y2 := by simpa [Try.cells24, Value.cells] using hf 2 _ rfl
  have f3 : DataW.trod enc Try.prog w 0 spare held n' 24 [c9, c10, c11, c12] = some y3 := by simpa [Try.cells24, Value.cells] using hf 3 _ rfl
  obtain ⟨kd, e0, _, _⟩ := DataW.trod_int Try.underlying3 f0
  simp only [List.cons.injEq, and_true] at e0
  subst e0
  obtain ⟨nA, A, rfl, rfl, rfl, LA, sA⟩ := read_four f1
  obtain ⟨nB, B, rfl, rfl, rfl, LB, sB⟩ := read_four f2
  obtain ⟨nC, C, rfl, rfl, rfl, LC, sC⟩ := read_four f3
  exact ⟨max nA (max nB nC), kd, A, B, C, c4, c8, c12, rfl, LA.atLeast _ (by omega), LB.atLeast _ (by omega), LC.atLeast _ (by omega), sA, sB, sC⟩

end Go.Proofs.Ytacnfmamjbmhcab

