/-
  The reading of a seq of the statements, of a question and of a list of questions.
-/
import Derived.Test.YtbhfbjbigafnpaaGreatReadS
import Derived.Test.YtbhfbjbigafnpaaGreatAskedS
import Derived.Test.YtbhfbjbigafnpaaGreatAsksLaw
namespace Go.Proofs.YtbhfbjbigafnpaaGreat
open Go.ChangeShapes Go.WideShapes Go.ChangeAt Go.RowKit Go.Deep Go.Joins

theorem list_four23 {α : Type} {l : List α} (h : l.length = 4) : ∃ a b c d, l = [a, b, c, d] := by
  match l, h with
  | [a, b, c, d], _ => exact ⟨a, b, c, d, rfl⟩

theorem read_four23 {H : Type} {enc : TypeId × Value → H} {w : World} {spare : Nat → Bool} {held : Bool} {m : Nat} {c0 c1 c2 c3 : Value} {x : DataW H × List MemPlace}
    (h : DataW.trod enc Tryz.prog w 0 spare held m 24 [c0, c1, c2, c3] = some x) : ∃ t : VT, c0 = .int .i64 t.kind ∧ c1 = .int .i64 t.num ∧ c2 = .string t.text ∧ Lies m w t.items c3 ∧ t.text.size ≤ 9223372036854775807 := by
  obtain ⟨xs, n', rfl, _, _, _, hf⟩ := DataW.trod_struct Tryz.underlying24 h
  obtain ⟨y0, y1, y2, y3, rfl⟩ := list_four23 (show xs.length = 4 by simpa using ‹xs.length = _›)
  have f0 : DataW.trod enc Tryz.prog w 0 spare held n' 3 [c0] = some y0 := by simpa [Tryz.cells3] using hf 0 _ rfl
  have f1 : DataW.trod enc Tryz.prog w 0 spare held n' 2 [c1] = some y1 := by simpa [Tryz.cells2] using hf 1 _ rfl
  have f2 : DataW.trod enc Tryz.prog w 0 spare held n' 9 [c2] = some y2 := by simpa [Tryz.cells9] using hf 2 _ rfl
  have f3 : DataW.trod enc Tryz.prog w 0 spare held n' 22 [c3] = some y3 := by simpa [Tryz.cells22] using hf 3 _ rfl
  obtain ⟨kd, e0, _, _⟩ := DataW.trod_int Tryz.underlying3 f0
  obtain ⟨nm, e1, _, _⟩ := DataW.trod_int Tryz.underlying2 f1
  obtain ⟨tx, e2, _, hs⟩ := DataW.trod_string Tryz.underlying9 f2
  obtain ⟨l, u, e3, hL⟩ := read_items n' n' (Nat.le_refl _) _ _ f3
  simp only [List.cons.injEq, and_true] at e0 e1 e2 e3
  subst e0 e1 e2 e3
  exact ⟨⟨kd, nm, tx, l⟩, rfl, rfl, rfl, hL.atLeast _ (by omega), by unfold maxLen at hs; show tx.size ≤ _; omega⟩

theorem Tryz.cellsFrom23 : Tryz.prog.cellsOf 26 = 7 := by kernel_rfl
theorem Tryz.cells4f : Tryz.prog.cellsOf 4 = 1 := by kernel_rfl

set_option maxRecDepth 100000 in
theorem read_from {H : Type} {enc : TypeId × Value → H} {w : World} {spare : Nat → Bool} {held : Bool} {r : Reach} {b0 : Nat} {v : Value} {d : DataW H} {p : List MemPlace}
    (hv : Value.okWide Tryz.prog w r b0 26 v) (h : DataW.Trod enc Tryz.prog w 0 spare held 26 v d p) : ∃ (n : Nat) (L : List VT) (aL : Option Addr) (cL : Nat) (o : Int) (x : VT) (ax : Option Addr) (cx : Nat) (lb : Bool), v = fromV aL L.length cL o x (.slice ax x.items.length cx) lb ∧ Lies (n + 1) w L (.slice aL L.length cL) ∧ Lies n w x.items (.slice ax x.items.length cx) ∧ x.text.size ≤ 9223372036854775807 := by
  obtain ⟨cs, rfl, hsz⟩ := okWide_struct Tryz.underlying26 hv
  rw [Tryz.cellsFrom23] at hsz
  obtain ⟨cl⟩ := cs
  obtain ⟨c0, c1, c2, c3, c4, c5, c6, rfl⟩ : ∃ c0 c1 c2 c3 c4 c5 c6, cl = [c0, c1, c2, c3, c4, c5, c6] := by
    match cl, hsz with
    | [c0, c1, c2, c3, c4, c5, c6], _ => exact ⟨c0, c1, c2, c3, c4, c5, c6, rfl⟩
  obtain ⟨fuel, hf⟩ := h
  obtain ⟨xs, n', _, _, _, hxl, hff⟩ := DataW.trod_struct Tryz.underlying26 hf
  obtain ⟨y0, y1, y2, y3, rfl⟩ : ∃ y0 y1 y2 y3, xs = [y0, y1, y2, y3] := by
    match xs, hxl with
    | [y0, y1, y2, y3], _ => exact ⟨y0, y1, y2, y3, rfl⟩
  have g0 : DataW.trod enc Tryz.prog w 0 spare held n' 22 [c0] = some y0 := by simpa [Tryz.cells22, Value.cells] using hff 0 _ rfl
  have g1 : DataW.trod enc Tryz.prog w 0 spare held n' 3 [c1] = some y1 := by simpa [Tryz.cells3, Value.cells] using hff 1 _ rfl
  have g2 : DataW.trod enc Tryz.prog w 0 spare held n' 24 [c2, c3, c4, c5] = some y2 := by simpa [Tryz.cells24, Value.cells] using hff 2 _ rfl
  have g3 : DataW.trod enc Tryz.prog w 0 spare held n' 4 [c6] = some y3 := by simpa [Tryz.cells4f, Value.cells] using hff 3 _ rfl
  obtain ⟨l, u, e0, L0⟩ := read_items n' n' (Nat.le_refl _) _ _ g0
  obtain ⟨o, e1, _, _⟩ := DataW.trod_int Tryz.underlying3 g1
  obtain ⟨t, e2, e3, e4, hL, hs⟩ := read_four23 g2
  obtain ⟨lb, e6, _⟩ := DataW.trod_bool Tryz.underlying4 g3
  simp only [List.cons.injEq, and_true] at e0 e1 e6
  subst e0 e1 e2 e3 e4 e6
  obtain ⟨aL, cL, rfl, _⟩ := Lies.slice L0
  obtain ⟨ax, cx, rfl, _⟩ := Lies.slice hL
  exact ⟨n', l, aL, cL, o, t, ax, cx, lb, rfl, Lies.deeper _ _ _ L0, hL, hs⟩

end Go.Proofs.YtbhfbjbigafnpaaGreat

namespace Go.Proofs.YtbhfbjbigafnpaaGreat
open Go.ChangeShapes Go.WideShapes Go.ChangeAt Go.RowKit Go.Deep Go.Joins

theorem cellsAsk23 : Tryz.prog.cellsOf 34 = 3 := by kernel_rfl

set_option maxRecDepth 100000 in
theorem read_ask23 {H : Type} {enc : TypeId × Value → H} {w : World} {spare : Nat → Bool} {held : Bool} {r : Reach} {b0 : Nat} {v : Value} {d : DataW H} {p : List MemPlace}
    (hv : Value.okWide Tryz.prog w r b0 34 v) (h : DataW.Trod enc Tryz.prog w 0 spare held 34 v d p) :
    ∃ q n m : Int, v = .agg #[.int .i64 q, .int .i64 n, .int .i64 m] := by
  obtain ⟨v0, v1, v2, y0, y1, y2, n, rfl, _, _, f0, f1, f2⟩ := open_agg3 Tryz.underlying34 (by kernel_rfl) cellsAsk23 hv h
  obtain ⟨k0, e0, _, _⟩ := DataW.trod_int Tryz.underlying3 f0
  obtain ⟨k1, e1, _, _⟩ := DataW.trod_int Tryz.underlying3 f1
  obtain ⟨k2, e2, _, _⟩ := DataW.trod_int Tryz.underlying3 f2
  simp only [List.cons.injEq, and_true] at e0 e1 e2
  subst e0 e1 e2
  exact ⟨k0, k1, k2, rfl⟩

theorem cells_three23 {w : World} {a : Addr} {cs : List Value} (h : w.cells? 0 a 3 = some cs) : ∃ c0 c1 c2, cs = [c0, c1, c2] ∧ w.cell? (a.add 0) = some c0 ∧ w.cell? (a.add 1) = some c1 ∧ w.cell? (a.add 2) = some c2 := by
  unfold World.cells? at h
  rw [if_pos (Nat.zero_le _)] at h
  simp only [List.range, List.range.loop, List.mapM_cons, List.mapM_nil] at h
  simp only [Option.bind_eq_bind, Option.bind_eq_some_iff, Option.pure_def, Option.some.injEq] at h
  obtain ⟨c0, h0, _, ⟨c1, h1, _, ⟨c2, h2, _, rfl, rfl⟩, rfl⟩, rfl⟩ := h
  exact ⟨c0, c1, c2, rfl, h0, h1, h2⟩

theorem add_addr23 (b o j : Nat) : (⟨b, o, none⟩ : Addr).add j = ⟨b, o + j, none⟩ := by
  unfold Addr.add
  by_cases hk : j = 0
  · subst hk; rfl
  · rw [if_neg hk]

set_option maxRecDepth 100000 in
theorem read_asks23 {H : Type} {enc : TypeId × Value → H} {w : World} {spare : Nat → Bool} {held : Bool} {r : Reach} {b0 : Nat} {v : Value} {d : DataW H} {p : List MemPlace}
    (hv : Value.okWide Tryz.prog w r b0 27 v) (h : DataW.Trod enc Tryz.prog w 0 spare held 27 v d p) : ∃ qs : List (Int × Int × Int), SlK w qs v := by
  obtain ⟨a0, len0, cap0, rfl⟩ := okWide_slice Tryz.underlying27 hv
  obtain ⟨fuel, hf⟩ := h
  rcases DataW.trod_slice Tryz.underlying27 hf with ⟨h0, _⟩ | ⟨a, len, cap, elems, rest, n, _, h0, _, _, hlc, hcm, hel, hall, _, _⟩
  · have e' : (Value.slice a0 len0 cap0) = .slice none 0 0 := by simpa [Value.cells] using h0
    rw [e']
    exact ⟨[], none, 0, rfl, by simp, fun h => absurd rfl h⟩
  · have e' : (Value.slice a0 len0 cap0) = .slice (some a) len cap := by simpa [Value.cells] using h0
    rw [e']
    have hone : ∀ i, i < len → ∃ t : Int × Int × Int, w.cell? (a.add (i * 3)) = some (.int .i64 t.1) ∧ w.cell? (a.add (i * 3 + 1)) = some (.int .i64 t.2.1) ∧ w.cell? (a.add (i * 3 + 2)) = some (.int .i64 t.2.2) := by
      intro i hi
      have h1 := hall i hi
      rw [cellsAsk23] at h1
      have hlt : i < elems.length := by omega
      rw [List.getElem?_eq_getElem hlt, Option.bind_eq_some_iff] at h1
      obtain ⟨cs, hcs, htr⟩ := h1
      obtain ⟨c0, c1, c2, rfl, k0, k1, k2⟩ := cells_three23 hcs
      obtain ⟨xs, n', rfl, _, _, hxl, hff⟩ := DataW.trod_struct Tryz.underlying34 htr
      obtain ⟨y0, y1, y2, rfl⟩ : ∃ y0 y1 y2, xs = [y0, y1, y2] := by
        match xs, hxl with
        | [y0, y1, y2], _ => exact ⟨y0, y1, y2, rfl⟩
      have g0 : DataW.trod enc Tryz.prog w 0 spare held n' 3 [c0] = some y0 := by simpa [Tryz.cells3] using hff 0 _ rfl
      have g1 : DataW.trod enc Tryz.prog w 0 spare held n' 3 [c1] = some y1 := by simpa [Tryz.cells3] using hff 1 _ rfl
      have g2 : DataW.trod enc Tryz.prog w 0 spare held n' 3 [c2] = some y2 := by simpa [Tryz.cells3] using hff 2 _ rfl
      obtain ⟨kd, e0, _, _⟩ := DataW.trod_int Tryz.underlying3 g0
      obtain ⟨nm, e1, _, _⟩ := DataW.trod_int Tryz.underlying3 g1
      obtain ⟨fu, e2, _, _⟩ := DataW.trod_int Tryz.underlying3 g2
      simp only [List.cons.injEq, and_true] at e0 e1 e2
      subst e0 e1 e2
      simp only [add_add, Nat.add_zero] at k0 k1 k2
      exact ⟨(kd, nm, fu), k0, k1, k2⟩
    have hinh : Inhabited (Int × Int × Int) := ⟨(0, 0, 0)⟩
    obtain ⟨f, hf⟩ := choose_lt hone
    refine ⟨(List.range len).map f, some a, cap, by simp, by unfold maxLen at hcm; simp; omega, fun hne => ?_⟩
    obtain ⟨b, o, sp⟩ := a
    have hl0 : 0 < len := by
      rcases Nat.eq_zero_or_pos len with h0 | h0
      · subst h0; simp at hne
      · exact h0
    have z0 := (hf 0 hl0).1
    have hspot : sp = none := by simpa [Addr.add] using World.cell?_spot z0
    subst hspot
    refine ⟨b, o, rfl, fun i hi => ?_⟩
    have hi' : i < len := by simpa using hi
    obtain ⟨q0, q1, q2⟩ := hf i hi'
    rw [add_addr23] at q0 q1 q2
    simp only [List.getElem_map, List.getElem_range]
    exact ⟨q0, by rw [Nat.add_assoc]; exact q1, by rw [Nat.add_assoc]; exact q2⟩

end Go.Proofs.YtbhfbjbigafnpaaGreat

