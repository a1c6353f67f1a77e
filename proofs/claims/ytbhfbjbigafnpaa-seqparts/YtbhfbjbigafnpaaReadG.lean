/-
  The reading of a seq of the statements.
-/
import Derived.Test.YtbhfbjbigafnpaaReadL
import Derived.Test.YtbhfbjbigafnpaaSpeaks23
namespace Go.Proofs.Ytbhfbjbigafnpaa
open Go.ChangeShapes Go.WideShapes Go.ChangeAt Go.RowKit Go.Deep Go.Joins

theorem list_four23 {α : Type} {l : List α} (h : l.length = 4) : ∃ a b c d, l = [a, b, c, d] := by
  match l, h with
  | [a, b, c, d], _ => exact ⟨a, b, c, d, rfl⟩

theorem read_four23 {H : Type} {enc : TypeId × Value → H} {w : World} {spare : Nat → Bool} {held : Bool} {m : Nat} {c0 c1 c2 c3 : Value} {x : DataW H × List MemPlace}
    (h : DataW.trod enc Try.prog w 0 spare held m 38 [c0, c1, c2, c3] = some x) : ∃ t : VT, c0 = .int .i64 t.kind ∧ c1 = .int .i64 t.num ∧ c2 = .string t.text ∧ Lies m w t.items c3 ∧ t.text.size ≤ 9223372036854775807 := by
  obtain ⟨xs, n', rfl, _, _, _, hf⟩ := DataW.trod_struct Try.underlying38 h
  obtain ⟨y0, y1, y2, y3, rfl⟩ := list_four23 (show xs.length = 4 by simpa using ‹xs.length = _›)
  have f0 : DataW.trod enc Try.prog w 0 spare held n' 3 [c0] = some y0 := by simpa [Try.cells3] using hf 0 _ rfl
  have f1 : DataW.trod enc Try.prog w 0 spare held n' 2 [c1] = some y1 := by simpa [Try.cells2] using hf 1 _ rfl
  have f2 : DataW.trod enc Try.prog w 0 spare held n' 9 [c2] = some y2 := by simpa [Try.cells9] using hf 2 _ rfl
  have f3 : DataW.trod enc Try.prog w 0 spare held n' 22 [c3] = some y3 := by simpa [Try.cells22] using hf 3 _ rfl
  obtain ⟨kd, e0, _, _⟩ := DataW.trod_int Try.underlying3 f0
  obtain ⟨nm, e1, _, _⟩ := DataW.trod_int Try.underlying2 f1
  obtain ⟨tx, e2, _, hs⟩ := DataW.trod_string Try.underlying9 f2
  obtain ⟨l, u, e3, hL⟩ := read_items n' n' (Nat.le_refl _) _ _ f3
  simp only [List.cons.injEq, and_true] at e0 e1 e2 e3
  subst e0 e1 e2 e3
  exact ⟨⟨kd, nm, tx, l⟩, rfl, rfl, rfl, hL.atLeast _ (by omega), by unfold maxLen at hs; show tx.size ≤ _; omega⟩

theorem Try.cellsFrom23 : Try.prog.cellsOf 40 = 7 := by kernel_rfl
theorem Try.cells4f : Try.prog.cellsOf 4 = 1 := by kernel_rfl

set_option maxRecDepth 100000 in
theorem read_from {H : Type} {enc : TypeId × Value → H} {w : World} {spare : Nat → Bool} {held : Bool} {r : Reach} {b0 : Nat} {v : Value} {d : DataW H} {p : List MemPlace}
    (hv : Value.okWide Try.prog w r b0 40 v) (h : DataW.Trod enc Try.prog w 0 spare held 40 v d p) : ∃ (n : Nat) (L : List VT) (aL : Option Addr) (cL : Nat) (o : Int) (x : VT) (ax : Option Addr) (cx : Nat) (lb : Bool), v = fromV aL L.length cL o x (.slice ax x.items.length cx) lb ∧ Lies (n + 1) w L (.slice aL L.length cL) ∧ Lies n w x.items (.slice ax x.items.length cx) ∧ x.text.size ≤ 9223372036854775807 := by
  obtain ⟨cs, rfl, hsz⟩ := okWide_struct Try.underlying40 hv
  rw [Try.cellsFrom23] at hsz
  obtain ⟨cl⟩ := cs
  obtain ⟨c0, c1, c2, c3, c4, c5, c6, rfl⟩ : ∃ c0 c1 c2 c3 c4 c5 c6, cl = [c0, c1, c2, c3, c4, c5, c6] := by
    match cl, hsz with
    | [c0, c1, c2, c3, c4, c5, c6], _ => exact ⟨c0, c1, c2, c3, c4, c5, c6, rfl⟩
  obtain ⟨fuel, hf⟩ := h
  obtain ⟨xs, n', _, _, _, hxl, hff⟩ := DataW.trod_struct Try.underlying40 hf
  obtain ⟨y0, y1, y2, y3, rfl⟩ : ∃ y0 y1 y2 y3, xs = [y0, y1, y2, y3] := by
    match xs, hxl with
    | [y0, y1, y2, y3], _ => exact ⟨y0, y1, y2, y3, rfl⟩
  have g0 : DataW.trod enc Try.prog w 0 spare held n' 22 [c0] = some y0 := by simpa [Try.cells22, Value.cells] using hff 0 _ rfl
  have g1 : DataW.trod enc Try.prog w 0 spare held n' 3 [c1] = some y1 := by simpa [Try.cells3, Value.cells] using hff 1 _ rfl
  have g2 : DataW.trod enc Try.prog w 0 spare held n' 38 [c2, c3, c4, c5] = some y2 := by simpa [Try.cells24, Value.cells] using hff 2 _ rfl
  have g3 : DataW.trod enc Try.prog w 0 spare held n' 4 [c6] = some y3 := by simpa [Try.cells4f, Value.cells] using hff 3 _ rfl
  obtain ⟨l, u, e0, L0⟩ := read_items n' n' (Nat.le_refl _) _ _ g0
  obtain ⟨o, e1, _, _⟩ := DataW.trod_int Try.underlying3 g1
  obtain ⟨t, e2, e3, e4, hL, hs⟩ := read_four23 g2
  obtain ⟨lb, e6, _⟩ := DataW.trod_bool Try.underlying4 g3
  simp only [List.cons.injEq, and_true] at e0 e1 e6
  subst e0 e1 e2 e3 e4 e6
  obtain ⟨aL, cL, rfl, _⟩ := Lies.slice L0
  obtain ⟨ax, cx, rfl, _⟩ := Lies.slice hL
  exact ⟨n', l, aL, cL, o, t, ax, cx, lb, rfl, Lies.deeper _ _ _ L0, hL, hs⟩

end Go.Proofs.Ytbhfbjbigafnpaa

