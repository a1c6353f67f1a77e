/-
  The reading of a step, and of a list of steps (chapter 13).
-/
import Derived.Test.YtekoaiehhjgfiaaReadL
import Derived.Test.YtekoaiehhjgfiaaNilLaw
namespace Go.Proofs.Ytekoaiehhjgfiaa
open Go.ChangeShapes Go.WideShapes Go.ChangeAt Go.RowKit Go.Deep Go.Joins

theorem Try.cellsSt : Try.prog.cellsOf 35 = 6 := by kernel_rfl

theorem read_four {H : Type} {enc : TypeId × Value → H} {w : World} {spare : Nat → Bool} {held : Bool} {m : Nat} {c0 c1 c2 c3 : Value} {x : DataW H × List MemPlace}
    (h : DataW.trod enc Try.prog w 0 spare held m 33 [c0, c1, c2, c3] = some x) : ∃ t : VT, c0 = .int .i64 t.kind ∧ c1 = .int .i64 t.num ∧ c2 = .string t.text ∧ Lies m w t.items c3 ∧ t.text.size ≤ 9223372036854775807 := by
  obtain ⟨xs, n', rfl, _, _, _, hf⟩ := DataW.trod_struct Try.underlying33 h
  obtain ⟨y0, y1, y2, y3, rfl⟩ := list_four (show xs.length = 4 by simpa using ‹xs.length = _›)
  have f0 : DataW.trod enc Try.prog w 0 spare held n' 3 [c0] = some y0 := by simpa [Try.cells3] using hf 0 _ rfl
  have f1 : DataW.trod enc Try.prog w 0 spare held n' 2 [c1] = some y1 := by simpa [Try.cells2] using hf 1 _ rfl
  have f2 : DataW.trod enc Try.prog w 0 spare held n' 9 [c2] = some y2 := by simpa [Try.cells9] using hf 2 _ rfl
  have f3 : DataW.trod enc Try.prog w 0 spare held n' 22 [c3] = some y3 := by simpa [Try.cells22] using hf 3 _ rfl
  obtain ⟨kd, e0, _, _⟩ := DataW.trod_int Try.underlying3 f0
  obtain ⟨nm, e1, _, _⟩ := DataW.trod_int Try.underlying2 f1
  obtain ⟨tx, e2, _, hs⟩ := DataW.trod_string Try.underlying9 f2
  obtain ⟨l, u, e3, hL⟩ := read_items n' n' (Nat.le_refl _) _ _ f3
  simp only [List.cons.injEq, and_true] at e0 e1 e2 e3
  subst e0 e1 e2 e3
  exact ⟨⟨kd, nm, tx, l⟩, rfl, rfl, rfl, hL.atLeast _ (by omega), by unfold maxLen at hs; show tx.size ≤ _; omega⟩

theorem list_six {α : Type} {l : List α} (h : l.length = 6) : ∃ a b c d e f, l = [a, b, c, d, e, f] := by
  match l, h with
  | [a, b, c, d, e, f], _ => exact ⟨a, b, c, d, e, f, rfl⟩

set_option maxRecDepth 100000 in
theorem read_step {H : Type} {enc : TypeId × Value → H} {w : World} {spare : Nat → Bool} {held : Bool} {r : Reach} {b0 : Nat} {v : Value} {d : DataW H} {p : List MemPlace}
    (hv : Value.okWide Try.prog w r b0 35 v) (h : DataW.Trod enc Try.prog w 0 spare held 35 v d p) : ∃ (k t : Int) (x : VT) (ax : Option Addr) (cx : Nat), v = .agg #[.int .i64 k, .int .i64 t, .int .i64 x.kind, .int .i64 x.num, .string x.text, .slice ax x.items.length cx] := by
  obtain ⟨cs, rfl, hsz⟩ := okWide_struct Try.underlying35 hv
  rw [Try.cellsSt] at hsz
  obtain ⟨cl⟩ := cs
  obtain ⟨c0, c1, c2, c3, c4, c5, rfl⟩ := list_six (show cl.length = 6 from hsz)
  obtain ⟨fuel, hf⟩ := h
  obtain ⟨xs, n', _, _, _, hxl, hff⟩ := DataW.trod_struct Try.underlying35 hf
  obtain ⟨y0, y1, y2, rfl⟩ : ∃ y0 y1 y2, xs = [y0, y1, y2] := by
    match xs, hxl with
    | [y0, y1, y2], _ => exact ⟨y0, y1, y2, rfl⟩
  have g0 : DataW.trod enc Try.prog w 0 spare held n' 3 [c0] = some y0 := by simpa [Try.cells3, Value.cells] using hff 0 _ rfl
  have g1 : DataW.trod enc Try.prog w 0 spare held n' 3 [c1] = some y1 := by simpa [Try.cells3, Value.cells] using hff 1 _ rfl
  have g2 : DataW.trod enc Try.prog w 0 spare held n' 33 [c2, c3, c4, c5] = some y2 := by simpa [Try.cells24, Value.cells] using hff 2 _ rfl
  obtain ⟨kd, e0, _, _⟩ := DataW.trod_int Try.underlying3 g0
  obtain ⟨nm, e1, _, _⟩ := DataW.trod_int Try.underlying3 g1
  obtain ⟨t1, e2, e3, e4, hL1, hs1⟩ := read_four g2
  simp only [List.cons.injEq, and_true] at e0 e1
  subst e0 e1 e2 e3 e4
  obtain ⟨ax, cx, e5, _⟩ := Lies.slice hL1
  subst e5
  exact ⟨kd, nm, t1, ax, cx, rfl⟩

end Go.Proofs.Ytekoaiehhjgfiaa

