/-
  A cell of Iter is forced.
-/
import Derived.Test.YtbhfbjbigafnpaaTimes2
import Derived.Test.YtbhfbjbigafnpaaUniq
import Derived.BigRegion
import Derived.Deep.RegionHeld3
import Derived.Deep.CutRange
import Derived.Deep.CutBlock
import Derived.Defers
import Derived.Recover
import Derived.Test.YtbhfbjbigafnpaaKc
namespace Go.Proofs.Ytbhfbjbigafnpaa
open Go.RowKit Go.Shelf

/-- A cell's block. -/
structure CB (w : World) (b : Nat) (st : Value) (n : Int) (x : VT) (u : Value) (p : Option Addr) : Prop where
  c0 : w.cell? ⟨b, 0, none⟩ = some st
  c1 : w.cell? ⟨b, 1, none⟩ = some (.int .i64 n)
  c2 : w.cell? ⟨b, 2, none⟩ = some (.int .i64 x.kind)
  c3 : w.cell? ⟨b, 3, none⟩ = some (.int .i64 x.num)
  c4 : w.cell? ⟨b, 4, none⟩ = some (.string x.text)
  c5 : w.cell? ⟨b, 5, none⟩ = some u
  c6 : w.cell? ⟨b, 6, none⟩ = some (.pointer p)
  f0 : w.frozen? ⟨b, 0, none⟩ = false
  f1 : w.frozen? ⟨b, 1, none⟩ = false
  f2 : w.frozen? ⟨b, 2, none⟩ = false
  f3 : w.frozen? ⟨b, 3, none⟩ = false
  f4 : w.frozen? ⟨b, 4, none⟩ = false
  f5 : w.frozen? ⟨b, 5, none⟩ = false
  f6 : w.frozen? ⟨b, 6, none⟩ = false

theorem CB.lt {w : World} {b : Nat} {st : Value} {n : Int} {x : VT} {u : Value} {p : Option Addr} (h : CB w b st n x u p) : b < w.heap.size := cell_lt h.c0

theorem CB.keeps {w w' : World} {b : Nat} {st : Value} {n : Int} {x : VT} {u : Value} {p : Option Addr} (h : CB w b st n x u p) (hb : Below w.heap.size w w') : CB w' b st n x u p := by
  have hl := h.lt
  exact ⟨cell_keeps hb h.c0, cell_keeps hb h.c1, cell_keeps hb h.c2, cell_keeps hb h.c3, cell_keeps hb h.c4, cell_keeps hb h.c5, cell_keeps hb h.c6, (hb.frozen (p := ⟨b, 0, none⟩) hl).trans h.f0, (hb.frozen (p := ⟨b, 1, none⟩) hl).trans h.f1, (hb.frozen (p := ⟨b, 2, none⟩) hl).trans h.f2, (hb.frozen (p := ⟨b, 3, none⟩) hl).trans h.f3, (hb.frozen (p := ⟨b, 4, none⟩) hl).trans h.f4, (hb.frozen (p := ⟨b, 5, none⟩) hl).trans h.f5, (hb.frozen (p := ⟨b, 6, none⟩) hl).trans h.f6⟩

theorem cb_alloc (w : World) (T : Nat) (st : Value) (n : Int) (x : VT) (u : Value) (p : Option Addr) : CB (w.alloc (.cells #[st, .int .i64 n, .int .i64 x.kind, .int .i64 x.num, .string x.text, u, .pointer p] T)) w.heap.size st n x u p := by
  refine ⟨?_, ?_, ?_, ?_, ?_, ?_, ?_, ?_, ?_, ?_, ?_, ?_, ?_, ?_⟩ <;> simp

/-- What is written elsewhere. -/
theorem CB.other {w : World} {b g o : Nat} {st : Value} {n : Int} {x : VT} {u : Value} {p : Option Addr} (h : CB w b st n x u p) (hg : b ≠ g) (vs : List Value) : CB (w.setCells g o vs) b st n x u p :=
  ⟨cell_other hg h.c0, cell_other hg h.c1, cell_other hg h.c2, cell_other hg h.c3, cell_other hg h.c4, cell_other hg h.c5, cell_other hg h.c6, by rw [World.frozen?_setCells]; exact h.f0, by rw [World.frozen?_setCells]; exact h.f1, by rw [World.frozen?_setCells]; exact h.f2, by rw [World.frozen?_setCells]; exact h.f3, by rw [World.frozen?_setCells]; exact h.f4, by rw [World.frozen?_setCells]; exact h.f5, by rw [World.frozen?_setCells]; exact h.f6⟩

theorem CB.put {w : World} {b : Nat} {st : Value} {n : Int} {x : VT} {u : Value} {p : Option Addr} (h : CB w b st n x u p) (st' : Value) (n' : Int) (x' : VT) (u' : Value) (p' : Option Addr) : CB (w.setCells b 0 [st', .int .i64 n', .int .i64 x'.kind, .int .i64 x'.num, .string x'.text, u', .pointer p']) b st' n' x' u' p' := by
  have hin : ∀ j (hj : j < [st', .int .i64 n', .int .i64 x'.kind, .int .i64 x'.num, .string x'.text, u', .pointer p'].length), (w.setCells b 0 [st', .int .i64 n', .int .i64 x'.kind, .int .i64 x'.num, .string x'.text, u', .pointer p']).cell? ⟨b, 0 + j, none⟩ = some ([st', .int .i64 n', .int .i64 x'.kind, .int .i64 x'.num, .string x'.text, u', .pointer p'][j]) :=
    World.cell?_setCells_in b _ 0 w (fun j hj => by
      match j, hj with
      | 0, _ => rw [h.c0]; rfl
      | 1, _ => rw [h.c1]; rfl
      | 2, _ => rw [h.c2]; rfl
      | 3, _ => rw [h.c3]; rfl
      | 4, _ => rw [h.c4]; rfl
      | 5, _ => rw [h.c5]; rfl
      | 6, _ => rw [h.c6]; rfl)
  refine ⟨?_, ?_, ?_, ?_, ?_, ?_, ?_, ?_, ?_, ?_, ?_, ?_, ?_, ?_⟩
  · have q := hin 0 (by simp); simpa using q
  · have q := hin 1 (by simp); simpa using q
  · have q := hin 2 (by simp); simpa using q
  · have q := hin 3 (by simp); simpa using q
  · have q := hin 4 (by simp); simpa using q
  · have q := hin 5 (by simp); simpa using q
  · have q := hin 6 (by simp); simpa using q
  · rw [World.frozen?_setCells]; exact h.f0
  · rw [World.frozen?_setCells]; exact h.f1
  · rw [World.frozen?_setCells]; exact h.f2
  · rw [World.frozen?_setCells]; exact h.f3
  · rw [World.frozen?_setCells]; exact h.f4
  · rw [World.frozen?_setCells]; exact h.f5
  · rw [World.frozen?_setCells]; exact h.f6

theorem setc_ne {w : World} {b i j : Nat} {v u : Value} (hij : i ≠ j) (h : w.cell? ⟨b, i, none⟩ = some u) : (w.setCell ⟨b, j, none⟩ v).cell? ⟨b, i, none⟩ = some u := by
  rw [World.cell?_setCell_other _ _ _ _ (by intro e; simp only [Addr.mk.injEq] at e; omega)]
  exact h

theorem CB.nest {w : World} {b : Nat} {st : Value} {n : Int} {x : VT} {u : Value} {p : Option Addr} (h : CB w b st n x u p) (n' : Int) : CB (w.setCell ⟨b, 1, none⟩ (.int .i64 n')) b st n' x u p :=
  ⟨setc_ne (by omega) h.c0, World.cell?_setCell_same _ _ _ h.c1, setc_ne (by omega) h.c2, setc_ne (by omega) h.c3, setc_ne (by omega) h.c4, setc_ne (by omega) h.c5, setc_ne (by omega) h.c6, by rw [World.frozen?_setCell]; exact h.f0, by rw [World.frozen?_setCell]; exact h.f1, by rw [World.frozen?_setCell]; exact h.f2, by rw [World.frozen?_setCell]; exact h.f3, by rw [World.frozen?_setCell]; exact h.f4, by rw [World.frozen?_setCell]; exact h.f5, by rw [World.frozen?_setCell]; exact h.f6⟩

theorem CB.turn {w : World} {b : Nat} {st : Value} {n : Int} {x : VT} {u : Value} {p : Option Addr} (h : CB w b st n x u p) (x' : VT) (u' : Value) (p' : Option Addr) : CB ((((((w.setCell ⟨b, 0, none⟩ .nilIface).setCell ⟨b, 2, none⟩ (.int .i64 x'.kind)).setCell ⟨b, 3, none⟩ (.int .i64 x'.num)).setCell ⟨b, 4, none⟩ (.string x'.text)).setCell ⟨b, 5, none⟩ u').setCell ⟨b, 6, none⟩ (.pointer p')) b .nilIface n x' u' p' :=
  ⟨(setc_ne (by omega) (setc_ne (by omega) (setc_ne (by omega) (setc_ne (by omega) (setc_ne (by omega) (World.cell?_setCell_same _ _ _ h.c0)))))), (setc_ne (by omega) (setc_ne (by omega) (setc_ne (by omega) (setc_ne (by omega) (setc_ne (by omega) (setc_ne (by omega) h.c1)))))), (setc_ne (by omega) (setc_ne (by omega) (setc_ne (by omega) (setc_ne (by omega) (World.cell?_setCell_same _ _ _ (setc_ne (by omega) h.c2)))))), (setc_ne (by omega) (setc_ne (by omega) (setc_ne (by omega) (World.cell?_setCell_same _ _ _ (setc_ne (by omega) (setc_ne (by omega) h.c3)))))), (setc_ne (by omega) (setc_ne (by omega) (World.cell?_setCell_same _ _ _ (setc_ne (by omega) (setc_ne (by omega) (setc_ne (by omega) h.c4)))))), (setc_ne (by omega) (World.cell?_setCell_same _ _ _ (setc_ne (by omega) (setc_ne (by omega) (setc_ne (by omega) (setc_ne (by omega) h.c5)))))), (World.cell?_setCell_same _ _ _ (setc_ne (by omega) (setc_ne (by omega) (setc_ne (by omega) (setc_ne (by omega) (setc_ne (by omega) h.c6)))))), by simp only [World.frozen?_setCell]; exact h.f0, by simp only [World.frozen?_setCell]; exact h.f1, by simp only [World.frozen?_setCell]; exact h.f2, by simp only [World.frozen?_setCell]; exact h.f3, by simp only [World.frozen?_setCell]; exact h.f4, by simp only [World.frozen?_setCell]; exact h.f5, by simp only [World.frozen?_setCell]; exact h.f6⟩

theorem CB.drew {w : World} {b : Nat} {st : Value} {n : Int} {x : VT} {u : Value} {p : Option Addr} (h : CB w b st n x u p) : CB w.drew b st n x u p := h.keeps (Below.refl _ _).drew

theorem set4_k22 {W : World} {n : Nat} {v0 v1 v2 v3 : Value} {a : Addr} {v : Value} (hn : a.block ≠ n) (h : W.cell? a = some v) : ((((W.setCell ⟨n, 0, none⟩ v0).setCell ⟨n, 1, none⟩ v1).setCell ⟨n, 2, none⟩ v2).setCell ⟨n, 3, none⟩ v3).cell? a = some v :=
  cell_other (g := n) (o := 0) (vs := [v0, v1, v2, v3]) hn h

theorem set1_k22 {W : World} {n o : Nat} {v0 : Value} {a : Addr} {v : Value} (hn : a.block ≠ n) (h : W.cell? a = some v) : (W.setCell ⟨n, o, none⟩ v0).cell? a = some v :=
  cell_other (g := n) (o := o) (vs := [v0]) hn h

theorem set7_k22 {W : World} {n : Nat} {v0 v1 v2 v3 v4 v5 v6 : Value} {a : Addr} {v : Value} (hn : a.block ≠ n) (h : W.cell? a = some v) : (((((((W.setCell ⟨n, 0, none⟩ v0).setCell ⟨n, 1, none⟩ v1).setCell ⟨n, 2, none⟩ v2).setCell ⟨n, 3, none⟩ v3).setCell ⟨n, 4, none⟩ v4).setCell ⟨n, 5, none⟩ v5).setCell ⟨n, 6, none⟩ v6).cell? a = some v :=
  cell_other (g := n) (o := 0) (vs := [v0, v1, v2, v3, v4, v5, v6]) hn h

/-- The step of a cell of Iter. -/
abbrev stepV (q : Nat) (m : Nat) (z : VT) (u : Value) : Value := .iface 82 (.agg #[.int .i64 (q : Int), .int .i64 (m : Int), .int .i64 z.kind, .int .i64 z.num, .string z.text, u])

set_option maxRecDepth 100000 in
set_option maxHeartbeats 2000000 in
theorem later_any (T : Nat) (v : Value) (w : World) : Calls Try.prog 38 #[.iface T v] w fun e w' => e = .returned (.pointer (some ⟨w.heap.size, 0, none⟩)) ∧ w' = w.alloc (.cells #[.iface T v, .int .i64 0, .int .i64 0, .int .i64 0, .string ⟨#[]⟩, .slice none 0 0, .pointer none] 71) := by
  go_enter Try.func38, Try.ntmps38
  go_wp2_with fail
  go_ret
  exact ⟨rfl, rfl⟩

set_option maxRecDepth 100000 in
set_option maxHeartbeats 2000000 in
theorem cempty_any (w : World) : Calls Try.prog 15 #[] w fun e w' => e = .returned (.pointer (some ⟨w.heap.size, 0, none⟩)) ∧ w' = w.alloc (.cells #[.nilIface, .int .i64 0, .int .i64 0, .int .i64 0, .string ⟨#[]⟩, .slice none 0 0, .pointer none] 71) := by
  go_enter Try.func15, Try.ntmps15
  go_wp2_with fail
  go_ret
  exact ⟨rfl, rfl⟩

set_option maxRecDepth 100000 in
set_option maxHeartbeats 2000000 in
theorem own_some22 (b : Nat) (w : World) : Calls Try.prog 34 #[.pointer (some ⟨b, 0, none⟩)] w fun e w' => e = .returned (.pointer (some ⟨b, 0, none⟩)) ∧ w' = w := by
  go_enter Try.func34, Try.ntmps34
  go_wp2_with fail
  go_ret
  exact ⟨rfl, rfl⟩

set_option maxRecDepth 100000 in
set_option maxHeartbeats 2000000 in
theorem known_yes (b : Nat) (w : World) (h : w.cell? ⟨b, 0, none⟩ = some .nilIface) : Calls Try.prog 65 #[.pointer (some ⟨b, 0, none⟩)] w fun e w' => e = .returned (.bool true) ∧ w' = w := by
  go_enter Try.func65, Try.ntmps65
  go_wp2_with fail
  go_ret
  exact ⟨rfl, rfl⟩

set_option maxRecDepth 100000 in
set_option maxHeartbeats 2000000 in
theorem known_no (b T : Nat) (v : Value) (w : World) (h : w.cell? ⟨b, 0, none⟩ = some (.iface T v)) : Calls Try.prog 65 #[.pointer (some ⟨b, 0, none⟩)] w fun e w' => e = .returned (.bool false) ∧ w' = w := by
  go_enter Try.func65, Try.ntmps65
  go_wp2_with fail
  go_ret
  exact ⟨rfl, rfl⟩

set_option maxRecDepth 100000 in
set_option maxHeartbeats 2000000 in
theorem checkFuel_ok (n : Nat) (hn : n ≤ 1073741824) (w : World) : Calls Try.prog 50 #[.int .i64 (n : Int)] w fun e w' => e = .returned (.int .i64 0) ∧ w' = w := by
  have h0 : ¬ (n : Int) < 0 := by omega
  have h1 : ¬ (1073741824 : Int) < (n : Int) := by omega
  go_enter Try.func50, Try.ntmps50
  go_wp2_with fail
  go_ret
  exact ⟨rfl, rfl⟩

end Go.Proofs.Ytbhfbjbigafnpaa

namespace Go.Proofs.Ytbhfbjbigafnpaa
open Go.RowKit Go.Shelf

/-- What a step of Iter tells. -/
def NextPost (q : Nat) (x : VT) (f : Int) (w : World) (e : Ending) (w' : World) : Prop :=
  Below w.heap.size w w' ∧ ∃ a1 c1 b', e = .returned (.tuple #[.agg #[.int .i64 x.kind, .int .i64 x.num, .string x.text, .slice a1 x.items.length c1], .pointer (some ⟨b', 0, none⟩), .bool true, .int .i64 f, .int .i64 0]) ∧ w.heap.size ≤ b' ∧ CB w' b' (stepV q 1 x (.slice a1 x.items.length c1)) 0 zeroT (.slice none 0 0) none ∧ LiesX (fun n => w.heap.size ≤ n ∧ n ≠ b') 16 w' x.items (.slice a1 x.items.length c1)

set_option maxRecDepth 100000 in
set_option maxHeartbeats 8000000 in
theorem next_any (q m : Nat) (hq : q < 8) (hm : m ≤ 65536) (z : VT) (a : Option Addr) (c : Nat) (f : Int) (w : World) (hl : Lies 16 w z.items (.slice a z.items.length c)) (hr : rightV 16 z = true) :
    Calls Try.prog 121 #[.agg #[.int .i64 (q : Int), .int .i64 (m : Int), .int .i64 z.kind, .int .i64 z.num, .string z.text, .slice a z.items.length c], .int .i64 f] w (NextPost q (itT (doneT q) m z) f w) := by
  obtain ⟨x, hx⟩ : ∃ x, x = itT (doneT q) m z := ⟨_, rfl⟩
  rw [← hx]
  have HT : Hid (∀ V, Below w.heap.size w V → Calls Try.prog 37 #[.int .i64 (q : Int), .int .i64 (m : Int), .agg #[.int .i64 z.kind, .int .i64 z.num, .string z.text, .slice a z.items.length c]] V (VPost x 0 V)) := fun V hV => by
    rw [hx]
    exact times_ok q m z _ V (Lies.keeps hV _ _ _ hl) (Nat.le_trans (right_size hr) (by omega)) hq hm hr
  have HLt : Hid (∀ (T : Nat) (v : Value) V, _) := later_any
  obtain ⟨W0, hW0⟩ : ∃ W0, W0 = (w.alloc (.cells #[.int .i64 (q : Int), .int .i64 (m : Int), .int .i64 z.kind, .int .i64 z.num, .string z.text, .slice a z.items.length c] 82)).alloc (.cells #[.int .i64 0, .int .i64 0, .string ⟨#[]⟩, .slice none 0 0] 38) := ⟨_, rfl⟩
  have HW0 : Hid (W0 = (w.alloc (.cells #[.int .i64 (q : Int), .int .i64 (m : Int), .int .i64 z.kind, .int .i64 z.num, .string z.text, .slice a z.items.length c] 82)).alloc (.cells #[.int .i64 0, .int .i64 0, .string ⟨#[]⟩, .slice none 0 0] 38)) := hW0
  have hb0 : Below w.heap.size w W0 := by rw [hW0]; exact (Grew.two _ _ _).below
  have HK : Hid (W0.cell? ⟨w.heap.size, 0, none⟩ = some (.int .i64 (q : Int)) ∧ W0.cell? ⟨w.heap.size, 1, none⟩ = some (.int .i64 (m : Int)) ∧ W0.cell? ⟨w.heap.size, 2, none⟩ = some (.int .i64 z.kind) ∧ W0.cell? ⟨w.heap.size, 3, none⟩ = some (.int .i64 z.num) ∧ W0.cell? ⟨w.heap.size, 4, none⟩ = some (.string z.text) ∧ W0.cell? ⟨w.heap.size, 5, none⟩ = some (.slice a z.items.length c)) := by
    rw [hW0]
    refine ⟨?_, ?_, ?_, ?_, ?_, ?_⟩ <;> exact cell_keeps ((Grew.refl _).alloc _).below (by simp)
  have HZ : Hid (Bx W0 (w.heap.size + 1) zeroT (.slice none 0 0)) := by
    rw [hW0]
    have h9 := bx_alloc (w.alloc (.cells #[.int .i64 (q : Int), .int .i64 (m : Int), .int .i64 z.kind, .int .i64 z.num, .string z.text, .slice a z.items.length c] 82)) zeroT (.slice none 0 0)
    rwa [World.size_alloc] at h9
  have HS : Hid (W0.heap.size = w.heap.size + 2) := by rw [hW0]; show _ = _; simp
  obtain ⟨k0, k1, k2, k3, k4, k5⟩ := HK.out
  clear hW0 hl hr hx HK
  go_enter Try.func121, Try.ntmps121
  go_upto_region 1 with fail
  rw [← HW0.out]
  clear HW0
  go_wp2_with fail
  refine Calls.mono (HT.out _ hb0) ?_
  rintro e w1 ⟨u, rfl, hlx, hg1⟩
  obtain ⟨a1, c1, rfl, _⟩ := LiesX.slice hlx
  have HLX : Hid (LiesX (fun n => W0.heap.size ≤ n) 16 w1 x.items (.slice a1 x.items.length c1)) := hlx
  have HZ1 : Hid (Bx w1 (w.heap.size + 1) zeroT (.slice none 0 0)) := HZ.out.keeps hg1
  have hb1 : Below w.heap.size w w1 := hb0.trans (hg1.mono hb0.size)
  have k0 := cell_keeps hg1 k0
  obtain ⟨n9, hn9⟩ : ∃ n9, n9 = w1.heap.size := ⟨_, rfl⟩
  obtain ⟨W2, hW2⟩ : ∃ W2, W2 = w1.alloc (.cells #[.int .i64 x.kind, .int .i64 x.num, .string x.text, .slice a1 x.items.length c1] 38) := ⟨_, rfl⟩
  have HW2 : Hid (W2 = w1.alloc (.cells #[.int .i64 x.kind, .int .i64 x.num, .string x.text, .slice a1 x.items.length c1] 38)) := hW2
  have hal : Below w1.heap.size w1 W2 := by rw [hW2]; exact ((Grew.refl w1).alloc _).below
  have HB9 : Hid (Bx W2 n9 x (.slice a1 x.items.length c1)) := by rw [hW2, hn9]; exact bx_alloc _ _ _
  have HZ2 : Hid (Bx W2 (w.heap.size + 1) zeroT (.slice none 0 0)) := HZ1.out.keeps hal
  have hb2 : Below w.heap.size w W2 := hb1.trans (hal.mono hb1.size)
  have k0 := cell_keeps hal k0
  have HLX2 : Hid (LiesX (fun n => W0.heap.size ≤ n ∧ n < w1.heap.size) 16 W2 x.items (.slice a1 x.items.length c1)) := HLX.out.both.keeps hal
  obtain ⟨z0, z1, z2, z3, g0, g1, g2, g3⟩ := HZ2.out
  obtain ⟨y0, y1, y2, y3, _, _, _, _⟩ := HB9.out
  have Hn9 : Hid (n9 = w1.heap.size) := hn9
  have hnn : n9 ≠ w.heap.size + 1 := by have h9 := cell_lt HZ1.out.c0; simp only at h9; omega
  have hlz : w.heap.size + 1 < W2.heap.size := by have h9 := cell_lt HZ2.out.c0; simpa using h9
  have hnw : w.heap.size ≠ w.heap.size + 1 := by omega
  have Hb2 : Hid (Below w.heap.size w W2) := hb2
  clear hg1 hlx hal hW2 hb0 hb1 hb2 k1 k2 k3 k4 k5 HT HZ HZ1 HLX
  go_upto_region 2 with fail
  rw [← HW2.out, ← hn9]
  clear HW2 hn9
  go_wp2_with fail
  go_region_held3 (fun w' => w'.cell? ⟨n9, 0, none⟩ = some (.int .i64 x.kind) ∧ w'.cell? ⟨n9, 1, none⟩ = some (.int .i64 x.num) ∧ w'.cell? ⟨n9, 2, none⟩ = some (.string x.text) ∧ w'.cell? ⟨n9, 3, none⟩ = some (.slice a1 x.items.length c1) ∧ w'.cell? ⟨w.heap.size, 0, none⟩ = some (.int .i64 (q : Int))) (first | (go_keep; done) | exact ⟨set4_k22 hnn y0, set4_k22 hnn y1, set4_k22 hnn y2, set4_k22 hnn y3, set4_k22 hnw k0⟩)
    (first | (go_at_call 38; (with_reducible refine Calls.mono (HLt.out _ _ _) ?_); rintro e w3 ⟨rfl, hw3⟩; have hg3 : Below W2.heap.size W2 w3 := (by rw [hw3]; first | exact ((Grew.refl _).alloc _).below | exact (Below.refl _ _).drew.trans (((Grew.refl W2.drew).alloc _).below : Below W2.heap.size W2.drew _)); have Hw3 : Hid _ := hw3; clear hw3; have y0 := cell_keeps hg3 y0; have y1 := cell_keeps hg3 y1; have y2 := cell_keeps hg3 y2; have y3 := cell_keeps hg3 y3; have k0 := cell_keeps hg3 k0; have z0 := cell_keeps hg3 z0; have z1 := cell_keeps hg3 z1; have z2 := cell_keeps hg3 z2; have z3 := cell_keeps hg3 z3; have g0 := (hg3.frozen (p := ⟨w.heap.size + 1, 0, none⟩) hlz).trans g0; have g1 := (hg3.frozen (p := ⟨w.heap.size + 1, 1, none⟩) hlz).trans g1; have g2 := (hg3.frozen (p := ⟨w.heap.size + 1, 2, none⟩) hlz).trans g2; have g3 := (hg3.frozen (p := ⟨w.heap.size + 1, 3, none⟩) hlz).trans g3))
  have hb2 := Hb2.out
  have hb3 : Below w.heap.size w w3 := hb2.trans (hg3.mono hb2.size)
  have hs0 := HS.out
  have hn1 := Hn9.out
  have hw12 : w1.heap.size ≤ W2.heap.size := by have h9 := cell_lt HB9.out.c0; simp only at h9; omega
  have hcb : CB w3 W2.heap.size (stepV q 1 x (.slice a1 x.items.length c1)) 0 zeroT (.slice none 0 0) none := by rw [Hw3.out]; exact cb_alloc W2.drew 71 (stepV q 1 x (.slice a1 x.items.length c1)) 0 zeroT (.slice none 0 0) none
  have hlx3 := LiesX.keeps hg3 HLX2.out
  have HE : Hid (NextPost q x f w (.returned (.tuple #[.agg #[.int .i64 x.kind, .int .i64 x.num, .string x.text, .slice a1 x.items.length c1], .pointer (some ⟨W2.heap.size, 0, none⟩), .bool true, .int .i64 f, .int .i64 0])) (w3.setCells (w.heap.size + 1) 0 (encP (x, .slice a1 x.items.length c1)))) := by
    refine ⟨?_, a1, c1, W2.heap.size, rfl, hb2.size, hcb.other (by omega) _, ?_⟩
    · exact ((((hb3.setCell (p := ⟨w.heap.size + 1, 0, none⟩) (by simp) _).setCell (p := ⟨w.heap.size + 1, 0 + 1, none⟩) (by simp) _).setCell (p := ⟨w.heap.size + 1, 0 + 1 + 1, none⟩) (by simp) _).setCell (p := ⟨w.heap.size + 1, 0 + 1 + 1 + 1, none⟩) (by simp) _)
    · exact LiesX.mono (fun n hn => ⟨by omega, by omega⟩) (LiesX.set (g := w.heap.size + 1) (by omega) hlx3)
  have Hq : Hid (Bx (w3.setCells (w.heap.size + 1) 0 (encP (x, .slice a1 x.items.length c1))) (w.heap.size + 1) x (.slice a1 x.items.length c1)) := Bx.put (⟨z0, z1, z2, z3, g0, g1, g2, g3⟩ : Bx w3 (w.heap.size + 1) zeroT (.slice none 0 0)) (x, .slice a1 x.items.length c1)
  clear hb2 hb3 hs0 hn1 hw12 hcb hlx3 hg3 Hw3 HLX2 Hb2 HS Hn9
  go_wp2_with fail
  refine bodyPost_ret (v := .tuple #[.agg #[.int .i64 x.kind, .int .i64 x.num, .string x.text, .slice a1 x.items.length c1], .pointer (some ⟨W2.heap.size, 0, none⟩), .bool true, .int .i64 f, .int .i64 0]) ?_ rfl HE.out
  obtain ⟨q0, q1, q2, q3, _, _, _, _⟩ := Hq.out
  simp only [World.setCells, encP, Nat.zero_add, Nat.reduceAdd] at q0 q1 q2 q3
  simp [results, Try.results121, go_sem, q0, q1, q2, q3]

end Go.Proofs.Ytbhfbjbigafnpaa

namespace Go.Proofs.Ytbhfbjbigafnpaa
open Go.RowKit Go.Shelf

theorem one_alloc (w : World) (T : Nat) (v : Value) : (w.alloc (.cells #[v] T)).cell? ⟨w.heap.size, 0, none⟩ = some v ∧ (w.alloc (.cells #[v] T)).frozen? ⟨w.heap.size, 0, none⟩ = false := by constructor <;> simp

set_option maxRecDepth 100000 in
theorem asked1_idle (p1 p2 p3 : Value) (w : World) : CallsD Try.prog 84 #[p1, p2, p3] .returning w fun e u' w' => e = .returned (.tuple #[]) ∧ u' = .returning ∧ w' = w := by
  refine callsD_of_wpS Try.func84 rfl fun c₀ cs hu => ?_
  apply wpS_seq
  apply wpS_region
  simp [wpOpsS, go_sem, recoverD, hu, Try.ntmps84, Exit.thenS]
  refine wpS_cond (t := false) (by simp [Act.eval, Array.replicate]) ?_
  simp only [Bool.false_eq_true, if_false]
  refine wpS_of_wp (wp_skip ?_)
  cases c₀
  simp_all [bodyPostS, results, Try.results84]

/-- What is told of a step. -/
def AskedPost (q : Nat) (x : VT) (f : Nat) (w : World) (e : Ending) (w' : World) : Prop :=
  Below w.heap.size w w' ∧ ∃ a1 c1 a2 c2 b', e = .returned (.tuple #[.agg #[.nilIface, .int .i64 0, .int .i64 x.kind, .int .i64 x.num, .string x.text, .slice a1 x.items.length c1, .pointer (some ⟨b', 0, none⟩)], .int .i64 (f : Int), .int .i64 0]) ∧ w.heap.size ≤ b' ∧ CB w' b' (stepV q 1 x (.slice a2 x.items.length c2)) 0 zeroT (.slice none 0 0) none ∧ LiesX (fun n => w.heap.size ≤ n ∧ n ≠ b') 16 w' x.items (.slice a1 x.items.length c1) ∧ LiesX (fun n => w.heap.size ≤ n ∧ n ≠ b') 16 w' x.items (.slice a2 x.items.length c2)

set_option maxRecDepth 100000 in
set_option maxHeartbeats 8000000 in
theorem asked_any (q m f : Nat) (hq : q < 8) (hm : m ≤ 65536) (z : VT) (a : Option Addr) (c : Nat) (w : World) (hl : Lies 16 w z.items (.slice a z.items.length c)) (hr : rightV 16 z = true) :
    Calls Try.prog 66 #[stepV q m z (.slice a z.items.length c), .int .i64 (f : Int)] w (AskedPost q (itT (doneT q) m z) f w) := by
  have hmf : ∀ (fn : Fn) (first cap : Array Value) (w : World), (Instr.makeFunc fn first cap).run Try.prog w = .ok (.func fn first cap) w := fun _ _ _ _ => rfl
  have hme : ∀ w : World, (method 144 82 (.agg #[.int .i64 (q : Int), .int .i64 (m : Int), .int .i64 z.kind, .int .i64 z.num, .string z.text, .slice a z.items.length c]) "Next").run Try.prog w = .ok (121, .agg #[.int .i64 (q : Int), .int .i64 (m : Int), .int .i64 z.kind, .int .i64 z.num, .string z.text, .slice a z.items.length c]) w := fun _ => by kernel_rfl
  obtain ⟨x, hx⟩ : ∃ x, x = itT (doneT q) m z := ⟨_, rfl⟩
  rw [← hx]
  have hxr : rightV 16 x = true ∧ Dp 16 x := by rw [hx]; exact it_right q hr (Dp.of_lies 16 w z _ hl) m
  have HN : Hid (∀ V, Below w.heap.size w V → Calls Try.prog 121 #[.agg #[.int .i64 (q : Int), .int .i64 (m : Int), .int .i64 z.kind, .int .i64 z.num, .string z.text, .slice a z.items.length c], .int .i64 (f : Int)] V (NextPost q x (f : Int) V)) := fun V hV => by
    rw [hx]
    exact next_any q m hq hm z a c f V (Lies.keeps hV _ _ _ hl) hr
  have HXr : Hid (rightV 16 x = true) := hxr.1
  obtain ⟨W0, hW0⟩ : ∃ W0, W0 = ((w.alloc (.cells #[.nilIface, .int .i64 0, .int .i64 0, .int .i64 0, .string ⟨#[]⟩, .slice none 0 0, .pointer none] 71)).alloc (.cells #[.int .i64 0] 3)).alloc (.cells #[.int .i64 0] 24) := ⟨_, rfl⟩
  have HW0 : Hid (W0 = ((w.alloc (.cells #[.nilIface, .int .i64 0, .int .i64 0, .int .i64 0, .string ⟨#[]⟩, .slice none 0 0, .pointer none] 71)).alloc (.cells #[.int .i64 0] 3)).alloc (.cells #[.int .i64 0] 24)) := hW0
  have hb0 : Below w.heap.size w W0 := by rw [hW0]; exact grew3 _ _ _ _
  have HB0 : Hid (CB W0 w.heap.size .nilIface 0 zeroT (.slice none 0 0) none ∧ W0.cell? ⟨w.heap.size + 1, 0, none⟩ = some (.int .i64 0) ∧ W0.frozen? ⟨w.heap.size + 1, 0, none⟩ = false ∧ W0.cell? ⟨w.heap.size + 1 + 1, 0, none⟩ = some (.int .i64 0) ∧ W0.frozen? ⟨w.heap.size + 1 + 1, 0, none⟩ = false) := by
    rw [hW0]
    obtain ⟨A1, hA1⟩ : ∃ A1, A1 = w.alloc (.cells #[.nilIface, .int .i64 0, .int .i64 0, .int .i64 0, .string ⟨#[]⟩, .slice none 0 0, .pointer none] 71) := ⟨_, rfl⟩
    have hs1 : A1.heap.size = w.heap.size + 1 := by rw [hA1]; simp
    have hc1 : CB A1 w.heap.size .nilIface 0 zeroT (.slice none 0 0) none := by rw [hA1]; exact cb_alloc w 71 .nilIface 0 zeroT (.slice none 0 0) none
    rw [← hA1]
    obtain ⟨A2, hA2⟩ : ∃ A2, A2 = A1.alloc (.cells #[.int .i64 0] 3) := ⟨_, rfl⟩
    have hs2 : A2.heap.size = w.heap.size + 1 + 1 := by rw [hA2, ← hs1]; simp
    have hc2 := one_alloc A1 3 (.int .i64 0)
    have hg2 : Below A1.heap.size A1 A2 := by rw [hA2]; exact ((Grew.refl _).alloc _).below
    rw [← hA2, hs1] at hc2
    rw [← hA2]
    have hc3 := one_alloc A2 24 (.int .i64 0)
    have hg3 : Below A2.heap.size A2 (A2.alloc (.cells #[.int .i64 0] 24)) := ((Grew.refl _).alloc _).below
    rw [hs2] at hc3
    exact ⟨(hc1.keeps hg2).keeps hg3, cell_keeps hg3 hc2.1, (hg3.frozen (p := ⟨w.heap.size + 1, 0, none⟩) (by show w.heap.size + 1 < _; omega)).trans hc2.2, hc3.1, hc3.2⟩
  have HSz : Hid (W0.heap.size = w.heap.size + 3) := by rw [hW0]; show _ = _; simp
  clear hl hr hx hxr hW0
  go_enter_defers Try.func66, Try.ntmps66
  go_upto_region 1 with fail
  rw [← HW0.out]
  clear HW0
  obtain ⟨hCB, ht5, hf5, ht6, hf6⟩ := HB0.out
  go_wp2_with fail
  refine Calls.mono (HN.out _ hb0) ?_
  rintro e w1 ⟨hg1, a2, c2, b', rfl, hb', hcb, hlx⟩
  have hb1 : Below w.heap.size w w1 := hb0.trans (hg1.mono hb0.size)
  have hsz := HSz.out
  have hgA : Below w1.heap.size w1 (w1.alloc (.cells #[.int .i64 x.kind, .int .i64 x.num, .string x.text, .slice a2 x.items.length c2] 38)) := ((Grew.refl w1).alloc _).below
  have hg2 : Below W0.heap.size W0 (w1.alloc (.cells #[.int .i64 x.kind, .int .i64 x.num, .string x.text, .slice a2 x.items.length c2] 38)) := hg1.trans (hgA.mono hg1.size)
  have HCB : Hid (CB (w1.alloc (.cells #[.int .i64 x.kind, .int .i64 x.num, .string x.text, .slice a2 x.items.length c2] 38)) w.heap.size .nilIface 0 zeroT (.slice none 0 0) none) := hCB.keeps hg2
  have HB7 : Hid (Bx (w1.alloc (.cells #[.int .i64 x.kind, .int .i64 x.num, .string x.text, .slice a2 x.items.length c2] 38)) w1.heap.size x (.slice a2 x.items.length c2)) := bx_alloc _ _ _
  have ht5 := cell_keeps hg2 ht5
  have ht6 := cell_keeps hg2 ht6
  have hf5 := (hg2.frozen (p := ⟨w.heap.size + 1, 0, none⟩) (by show w.heap.size + 1 < _; omega)).trans hf5
  have hf6 := (hg2.frozen (p := ⟨w.heap.size + 1 + 1, 0, none⟩) (by show w.heap.size + 1 + 1 < _; omega)).trans hf6
  have HH1 : Hid (Below W0.heap.size W0 w1 ∧ Below w.heap.size w w1 ∧ W0.heap.size ≤ b' ∧ CB w1 b' (stepV q 1 x (.slice a2 x.items.length c2)) 0 zeroT (.slice none 0 0) none ∧ LiesX (fun n => W0.heap.size ≤ n ∧ n ≠ b') 16 w1 x.items (.slice a2 x.items.length c2)) := ⟨hg1, hb1, hb', hcb, hlx⟩
  clear hgA hg2 hg1 hb1 hb' hcb hlx hb0 hsz hCB HB0
  clear HN
  go_upto_region 6 with fail
  obtain ⟨n7, hn7⟩ : ∃ n7, n7 = w1.heap.size := ⟨_, rfl⟩
  obtain ⟨A, hA⟩ : ∃ A, A = w1.alloc (.cells #[.int .i64 x.kind, .int .i64 x.num, .string x.text, .slice a2 x.items.length c2] 38) := ⟨_, rfl⟩
  obtain ⟨W2, hW2⟩ : ∃ W2, W2 = ((A.setCell ⟨w.heap.size + 1, 0, none⟩ (.int .i64 (f : Int))).setCell ⟨w.heap.size + 1 + 1, 0, none⟩ (.int .i64 0)).setCell ⟨w.heap.size + 1, 0, none⟩ (.int .i64 (f : Int)) := ⟨_, rfl⟩
  have HW2 : Hid (W2 = ((A.setCell ⟨w.heap.size + 1, 0, none⟩ (.int .i64 (f : Int))).setCell ⟨w.heap.size + 1 + 1, 0, none⟩ (.int .i64 0)).setCell ⟨w.heap.size + 1, 0, none⟩ (.int .i64 (f : Int))) := hW2
  rw [← hA] at HCB HB7 ht5 ht6 hf5 hf6
  rw [← hA, ← HW2.out, ← hn7]
  rw [← hn7] at HB7
  obtain ⟨hg1, hb1, hb', hcb, hlx⟩ := HH1.out
  have hsz := HSz.out
  have hgA : Below w1.heap.size w1 A := by rw [hA]; exact ((Grew.refl w1).alloc _).below
  have h7 : w.heap.size + 3 ≤ n7 := by have := hg1.size; omega
  have HC2 : Hid (CB W2 w.heap.size .nilIface 0 zeroT (.slice none 0 0) none) := by
    rw [hW2]
    exact CB.other (g := w.heap.size + 1) (o := 0) (CB.other (g := w.heap.size + 1 + 1) (o := 0) (CB.other (g := w.heap.size + 1) (o := 0) HCB.out (by omega) [_]) (by omega) [_]) (by omega) [_]
  have HD2 : Hid (CB W2 b' (stepV q 1 x (.slice a2 x.items.length c2)) 0 zeroT (.slice none 0 0) none) := by
    rw [hW2]
    exact CB.other (g := w.heap.size + 1) (o := 0) (CB.other (g := w.heap.size + 1 + 1) (o := 0) (CB.other (g := w.heap.size + 1) (o := 0) (hcb.keeps hgA) (by omega) [_]) (by omega) [_]) (by omega) [_]
  have HX2 : Hid (LiesX (fun n => W0.heap.size ≤ n ∧ n ≠ b') 16 W2 x.items (.slice a2 x.items.length c2)) := by
    rw [hW2]
    exact LiesX.set (g := w.heap.size + 1) (o := 0) (vs := [_]) (by omega) (LiesX.set (g := w.heap.size + 1 + 1) (o := 0) (vs := [_]) (by omega) (LiesX.set (g := w.heap.size + 1) (o := 0) (vs := [_]) (by omega) (hlx.keeps hgA)))
  have HB2 : Hid (Bx W2 n7 x (.slice a2 x.items.length c2)) := by
    rw [hW2]
    exact Bx.other (Bx.other (Bx.other HB7.out (g := w.heap.size + 1) (by omega) [_]) (g := w.heap.size + 1 + 1) (by omega) [_]) (g := w.heap.size + 1) (by omega) [_]
  have hbW : Below w.heap.size w W2 := by
    rw [hW2]
    exact (((hb1.trans (hgA.mono hb1.size)).setCell (p := ⟨w.heap.size + 1, 0, none⟩) (by simp) _).setCell (p := ⟨w.heap.size + 1 + 1, 0, none⟩) (by simp; omega) _).setCell (p := ⟨w.heap.size + 1, 0, none⟩) (by simp) _
  have q1 := World.cell?_setCell_same A ⟨w.heap.size + 1, 0, none⟩ (.int .i64 (f : Int)) ht5
  have q2 : ((A.setCell ⟨w.heap.size + 1, 0, none⟩ (.int .i64 (f : Int))).setCell ⟨w.heap.size + 1 + 1, 0, none⟩ (.int .i64 0)).cell? ⟨w.heap.size + 1, 0, none⟩ = some (.int .i64 (f : Int)) := set1_k22 (by simp) q1
  have q3 : ((A.setCell ⟨w.heap.size + 1, 0, none⟩ (.int .i64 (f : Int))).setCell ⟨w.heap.size + 1 + 1, 0, none⟩ (.int .i64 0)).cell? ⟨w.heap.size + 1 + 1, 0, none⟩ = some (.int .i64 0) := World.cell?_setCell_same _ _ _ (set1_k22 (by simp) ht6)
  have t5 : W2.cell? ⟨w.heap.size + 1, 0, none⟩ = some (.int .i64 (f : Int)) := by rw [hW2]; exact World.cell?_setCell_same _ _ _ q2
  have t6 : W2.cell? ⟨w.heap.size + 1 + 1, 0, none⟩ = some (.int .i64 0) := by rw [hW2]; exact set1_k22 (by simp) q3
  clear q1 q2 q3
  have g5 : W2.frozen? ⟨w.heap.size + 1, 0, none⟩ = false := by rw [hW2]; simp only [World.frozen?_setCell]; exact hf5
  have g6 : W2.frozen? ⟨w.heap.size + 1 + 1, 0, none⟩ = false := by rw [hW2]; simp only [World.frozen?_setCell]; exact hf6
  have hbb : b' < W2.heap.size := HD2.out.lt
  have H7 : Hid (w.heap.size + 3 ≤ n7 ∧ w.heap.size + 3 ≤ b') := ⟨h7, by omega⟩
  have HbW : Hid (Below w.heap.size w W2) := hbW
  have HK : Hid (∀ V, Below W2.heap.size W2 V → Calls Try.prog 14 #[.agg #[.int .i64 x.kind, .int .i64 x.num, .string x.text, .slice a2 x.items.length c2]] V fun e w' => e = .returned (.int .i64 0) ∧ Below V.heap.size V w') := fun V hV => by
    have h9 := check_grew 16 x _ V (LiesX.keeps hV HX2.out).lies (Nat.le_trans (right_size HXr.out) (by omega))
    rw [HXr.out] at h9
    exact Calls.mono h9 fun e w' h => ⟨h.1, h.2.below⟩
  have HCp : Hid (∀ V, Below W2.heap.size W2 V → Calls Try.prog 33 #[.agg #[.int .i64 x.kind, .int .i64 x.num, .string x.text, .slice a2 x.items.length c2]] V (CopyPost 16 x V)) := fun V hV => copy_right x _ V (LiesX.keeps hV HX2.out).lies HXr.out
  have HOw : Hid (∀ V, Calls Try.prog 34 #[.pointer (some ⟨b', 0, none⟩)] V fun e w' => e = .returned (.pointer (some ⟨b', 0, none⟩)) ∧ w' = V) := own_some22 b'
  obtain ⟨y0, y1, y2, y3, _, _, _, _⟩ := HB2.out
  obtain ⟨s0, s1, s2, s3, s4, s5, s6, r0, r1, r2, r3, r4, r5, r6⟩ := HC2.out
  have hw2 : w.heap.size + 3 ≤ W2.heap.size := by have h9 := cell_lt y0; simp only at h9; omega
  have m4 : n7 ≠ w.heap.size := by omega
  have m0 : w.heap.size + 1 ≠ w.heap.size := by omega
  have m56 : w.heap.size + 1 ≠ w.heap.size + 1 + 1 := by omega
  have m5 : n7 ≠ w.heap.size + 1 := by omega
  have m6 : n7 ≠ w.heap.size + 1 + 1 := by omega
  clear hA hW2 hg1 hb1 hb' hcb hlx hsz hgA h7 hbW hbb ht5 ht6 hf5 hf6 hn7 HW2 HCB HB7 HH1
  go_wp2_with fail
  refine Calls.mono (HK.out _ (Below.refl _ _)) ?_
  rintro e w3 ⟨rfl, hg3⟩
  have y0 := cell_keeps hg3 y0; have y1 := cell_keeps hg3 y1; have y2 := cell_keeps hg3 y2; have y3 := cell_keeps hg3 y3
  have t5 := cell_keeps hg3 t5; have t6 := cell_keeps hg3 t6
  have s0 := cell_keeps hg3 s0; have s1 := cell_keeps hg3 s1; have s2 := cell_keeps hg3 s2; have s3 := cell_keeps hg3 s3; have s4 := cell_keeps hg3 s4; have s5 := cell_keeps hg3 s5; have s6 := cell_keeps hg3 s6
  have g5 := (hg3.frozen (p := ⟨w.heap.size + 1, 0, none⟩) (by show w.heap.size + 1 < _; omega)).trans g5
  have g6 := (hg3.frozen (p := ⟨w.heap.size + 1 + 1, 0, none⟩) (by show w.heap.size + 1 + 1 < _; omega)).trans g6
  have r0 := (hg3.frozen (p := ⟨w.heap.size, 0, none⟩) (by show w.heap.size < _; omega)).trans r0
  have r1 := (hg3.frozen (p := ⟨w.heap.size, 1, none⟩) (by show w.heap.size < _; omega)).trans r1
  have r2 := (hg3.frozen (p := ⟨w.heap.size, 2, none⟩) (by show w.heap.size < _; omega)).trans r2
  have r3 := (hg3.frozen (p := ⟨w.heap.size, 3, none⟩) (by show w.heap.size < _; omega)).trans r3
  have r4 := (hg3.frozen (p := ⟨w.heap.size, 4, none⟩) (by show w.heap.size < _; omega)).trans r4
  have r5 := (hg3.frozen (p := ⟨w.heap.size, 5, none⟩) (by show w.heap.size < _; omega)).trans r5
  have r6 := (hg3.frozen (p := ⟨w.heap.size, 6, none⟩) (by show w.heap.size < _; omega)).trans r6
  have hw3 : w.heap.size + 3 ≤ w3.heap.size := Nat.le_trans hw2 hg3.size
  clear HK hw2
  go_wp2_with fail
  go_region_held3 (fun w' => w'.cell? ⟨n7, 0, none⟩ = some (.int .i64 x.kind) ∧ w'.cell? ⟨n7, 1, none⟩ = some (.int .i64 x.num) ∧ w'.cell? ⟨n7, 2, none⟩ = some (.string x.text) ∧ w'.cell? ⟨n7, 3, none⟩ = some (.slice a2 x.items.length c2) ∧ w'.cell? ⟨w.heap.size + 1, 0, none⟩ = some (.int .i64 (f : Int))) (first | (go_keep; done) | (with_reducible exact ⟨set7_k22 m4 y0, set7_k22 m4 y1, set7_k22 m4 y2, set7_k22 m4 y3, set7_k22 m0 t5⟩) | (with_reducible exact ⟨set1_k22 m5 (set7_k22 m4 y0), set1_k22 m5 (set7_k22 m4 y1), set1_k22 m5 (set7_k22 m4 y2), set1_k22 m5 (set7_k22 m4 y3), World.cell?_setCell_same _ _ _ (set7_k22 m0 t5)⟩) | (with_reducible exact ⟨set1_k22 m6 (set1_k22 m5 (set7_k22 m4 y0)), set1_k22 m6 (set1_k22 m5 (set7_k22 m4 y1)), set1_k22 m6 (set1_k22 m5 (set7_k22 m4 y2)), set1_k22 m6 (set1_k22 m5 (set7_k22 m4 y3)), set1_k22 m56 (World.cell?_setCell_same _ _ _ (set7_k22 m0 t5))⟩))
    (first
      | (go_at_call 34; (with_reducible refine Calls.mono (HOw.out _) ?_); rintro e w5 ⟨rfl, rfl⟩)
      | (go_at_call 33; (with_reducible refine Calls.mono (HCp.out _ ?_) ?_); (first | exact hg3 | exact hg3.drew); rintro e w4 ⟨u4, rfl, hl4, hg4'⟩; obtain ⟨a1, c1, rfl, _⟩ := LiesB.slice hl4; have hg4 : Below w3.heap.size w3 w4 := (by first | exact hg4' | exact (Below.refl _ _).drew.trans hg4'); have HL4 : Hid (LiesB w3.heap.size 16 w4 x.items (.slice a1 x.items.length c1)) := hl4; clear hg4' hl4; have y0 := cell_keeps hg4 y0; have y1 := cell_keeps hg4 y1; have y2 := cell_keeps hg4 y2; have y3 := cell_keeps hg4 y3; have t5 := cell_keeps hg4 t5; have t6 := cell_keeps hg4 t6; have s0 := cell_keeps hg4 s0; have s1 := cell_keeps hg4 s1; have s2 := cell_keeps hg4 s2; have s3 := cell_keeps hg4 s3; have s4 := cell_keeps hg4 s4; have s5 := cell_keeps hg4 s5; have s6 := cell_keeps hg4 s6; have r0 := (hg4.frozen (p := ⟨w.heap.size, 0, none⟩) (by show w.heap.size < _; omega)).trans r0; have r1 := (hg4.frozen (p := ⟨w.heap.size, 1, none⟩) (by show w.heap.size < _; omega)).trans r1; have r2 := (hg4.frozen (p := ⟨w.heap.size, 2, none⟩) (by show w.heap.size < _; omega)).trans r2; have r3 := (hg4.frozen (p := ⟨w.heap.size, 3, none⟩) (by show w.heap.size < _; omega)).trans r3; have r4 := (hg4.frozen (p := ⟨w.heap.size, 4, none⟩) (by show w.heap.size < _; omega)).trans r4; have r5 := (hg4.frozen (p := ⟨w.heap.size, 5, none⟩) (by show w.heap.size < _; omega)).trans r5; have r6 := (hg4.frozen (p := ⟨w.heap.size, 6, none⟩) (by show w.heap.size < _; omega)).trans r6; have g5 := (hg4.frozen (p := ⟨w.heap.size + 1, 0, none⟩) (by show w.heap.size + 1 < _; omega)).trans g5; have g6 := (hg4.frozen (p := ⟨w.heap.size + 1 + 1, 0, none⟩) (by show w.heap.size + 1 + 1 < _; omega)).trans g6))
  have h7 := H7.out
  have hb3 : Below w.heap.size w w3 := HbW.out.trans (hg3.mono HbW.out.size)
  have hb5 : Below w.heap.size w w5 := hb3.trans (hg4.mono hb3.size)
  have hsz := HSz.out
  have hbl := HD2.out.lt
  have hs23 := hg3.size
  have hcb5 := (HD2.out.keeps hg3).keeps hg4
  have hx5 := (HX2.out.keeps hg3).keeps hg4
  have hl5 := LiesX.of_b HL4.out
  have hput := CB.put (⟨s0, s1, s2, s3, s4, s5, s6, r0, r1, r2, r3, r4, r5, r6⟩ : CB w5 w.heap.size .nilIface 0 zeroT (.slice none 0 0) none) .nilIface 0 x (.slice a1 x.items.length c1) (some ⟨b', 0, none⟩)
  have HE : Hid (AskedPost q x f w (.returned (.tuple #[.agg #[.nilIface, .int .i64 0, .int .i64 x.kind, .int .i64 x.num, .string x.text, .slice a1 x.items.length c1, .pointer (some ⟨b', 0, none⟩)], .int .i64 (f : Int), .int .i64 0])) (((w5.setCells w.heap.size 0 [.nilIface, .int .i64 0, .int .i64 x.kind, .int .i64 x.num, .string x.text, .slice a1 x.items.length c1, .pointer (some ⟨b', 0, none⟩)]).setCell ⟨w.heap.size + 1, 0, none⟩ (.int .i64 (f : Int))).setCell ⟨w.heap.size + 1 + 1, 0, none⟩ (.int .i64 0))) := by
    refine ⟨?_, a1, c1, a2, c2, b', rfl, by omega, ?_, ?_, ?_⟩
    · exact (((((((((hb5.setCell (p := ⟨w.heap.size, 0, none⟩) (by simp) _).setCell (p := ⟨w.heap.size, 0 + 1, none⟩) (by simp) _).setCell (p := ⟨w.heap.size, 0 + 1 + 1, none⟩) (by simp) _).setCell (p := ⟨w.heap.size, 0 + 1 + 1 + 1, none⟩) (by simp) _).setCell (p := ⟨w.heap.size, 0 + 1 + 1 + 1 + 1, none⟩) (by simp) _).setCell (p := ⟨w.heap.size, 0 + 1 + 1 + 1 + 1 + 1, none⟩) (by simp) _).setCell (p := ⟨w.heap.size, 0 + 1 + 1 + 1 + 1 + 1 + 1, none⟩) (by simp) _).setCell (p := ⟨w.heap.size + 1, 0, none⟩) (by simp) _).setCell (p := ⟨w.heap.size + 1 + 1, 0, none⟩) (by simp; omega) _)
    · exact CB.other (g := w.heap.size + 1 + 1) (o := 0) (CB.other (g := w.heap.size + 1) (o := 0) (hcb5.other (by omega) _) (by omega) [_]) (by omega) [_]
    · exact LiesX.mono (fun n hn => ⟨by omega, by omega⟩) (LiesX.set (g := w.heap.size + 1 + 1) (o := 0) (vs := [_]) (by omega) (LiesX.set (g := w.heap.size + 1) (o := 0) (vs := [_]) (by omega) (LiesX.set (g := w.heap.size) (o := 0) (vs := [.nilIface, .int .i64 0, .int .i64 x.kind, .int .i64 x.num, .string x.text, .slice a1 x.items.length c1, .pointer (some ⟨b', 0, none⟩)]) (by omega) hl5)))
    · exact LiesX.mono (fun n hn => ⟨by omega, hn.2⟩) (LiesX.set (g := w.heap.size + 1 + 1) (o := 0) (vs := [_]) (by omega) (LiesX.set (g := w.heap.size + 1) (o := 0) (vs := [_]) (by omega) (LiesX.set (g := w.heap.size) (o := 0) (vs := [.nilIface, .int .i64 0, .int .i64 x.kind, .int .i64 x.num, .string x.text, .slice a1 x.items.length c1, .pointer (some ⟨b', 0, none⟩)]) (by omega) hx5)))
  have HQ : Hid (CB (((w5.setCells w.heap.size 0 [.nilIface, .int .i64 0, .int .i64 x.kind, .int .i64 x.num, .string x.text, .slice a1 x.items.length c1, .pointer (some ⟨b', 0, none⟩)]).setCell ⟨w.heap.size + 1, 0, none⟩ (.int .i64 (f : Int))).setCell ⟨w.heap.size + 1 + 1, 0, none⟩ (.int .i64 0)) w.heap.size .nilIface 0 x (.slice a1 x.items.length c1) (some ⟨b', 0, none⟩) ∧ (((w5.setCells w.heap.size 0 [.nilIface, .int .i64 0, .int .i64 x.kind, .int .i64 x.num, .string x.text, .slice a1 x.items.length c1, .pointer (some ⟨b', 0, none⟩)]).setCell ⟨w.heap.size + 1, 0, none⟩ (.int .i64 (f : Int))).setCell ⟨w.heap.size + 1 + 1, 0, none⟩ (.int .i64 0)).cell? ⟨w.heap.size + 1, 0, none⟩ = some (.int .i64 (f : Int)) ∧ (((w5.setCells w.heap.size 0 [.nilIface, .int .i64 0, .int .i64 x.kind, .int .i64 x.num, .string x.text, .slice a1 x.items.length c1, .pointer (some ⟨b', 0, none⟩)]).setCell ⟨w.heap.size + 1, 0, none⟩ (.int .i64 (f : Int))).setCell ⟨w.heap.size + 1 + 1, 0, none⟩ (.int .i64 0)).cell? ⟨w.heap.size + 1 + 1, 0, none⟩ = some (.int .i64 0)) := by
    refine ⟨CB.other (g := w.heap.size + 1 + 1) (o := 0) (CB.other (g := w.heap.size + 1) (o := 0) hput (by omega) [_]) (by omega) [_], ?_, ?_⟩
    · exact set1_k22 (by simp) (World.cell?_setCell_same _ _ _ (cell_other (g := w.heap.size) (o := 0) (vs := [.nilIface, .int .i64 0, .int .i64 x.kind, .int .i64 x.num, .string x.text, .slice a1 x.items.length c1, .pointer (some ⟨b', 0, none⟩)]) (by simp) t5))
    · exact World.cell?_setCell_same _ _ _ (set1_k22 (by simp) (cell_other (g := w.heap.size) (o := 0) (vs := [.nilIface, .int .i64 0, .int .i64 x.kind, .int .i64 x.num, .string x.text, .slice a1 x.items.length c1, .pointer (some ⟨b', 0, none⟩)]) (by simp; omega) t6))
  clear h7 hb3 hb5 hsz hbl hs23 hcb5 hx5 hl5 hput hg3 hg4 HL4 HD2 HX2 HB2 HC2 HbW H7 HSz HCp HOw y0 y1 y2 y3 s0 s1 s2 s3 s4 s5 s6 r0 r1 r2 r3 r4 r5 r6 t5 t6 g5 g6 m0 m4 m5 m6 m56
  go_wp2_with fail
  refine leaves_cons (f := 84) (args := #[.pointer (some ⟨w.heap.size, 0, none⟩), .pointer (some ⟨w.heap.size + 1, 0, none⟩), .pointer (some ⟨w.heap.size + 1 + 1, 0, none⟩)]) (by simp) (by simp [go_sem]) ?_
  refine (asked1_idle _ _ _ _).mono ?_
  rintro e u' w'' ⟨rfl, rfl, rfl⟩
  obtain ⟨⟨q0, q1, q2, q3, q4, q5, q6, _, _, _, _, _, _, _⟩, q7, q8⟩ := HQ.out
  have hE := HE.out
  simp only [World.setCells, Nat.zero_add, Nat.reduceAdd] at q0 q1 q2 q3 q4 q5 q6 q7 q8 hE
  simp [Leaves, settle, results, Try.results66, go_sem, q0, q1, q2, q3, q4, q5, q6, q7, q8]
  exact hE

end Go.Proofs.Ytbhfbjbigafnpaa

namespace Go.Proofs.Ytbhfbjbigafnpaa
open Go.RowKit Go.Shelf

theorem KC.cb {B : Nat → Prop} {w w' : World} (k : KC B w w') {b : Nat} {st : Value} {n : Int} {x : VT} {u : Value} {p : Option Addr} (hn : ¬ B b) (h : CB w b st n x u p) : CB w' b st n x u p :=
  ⟨k.cell hn h.c0, k.cell hn h.c1, k.cell hn h.c2, k.cell hn h.c3, k.cell hn h.c4, k.cell hn h.c5, k.cell hn h.c6, k.frozen hn h.c0 h.f0, k.frozen hn h.c1 h.f1, k.frozen hn h.c2 h.f2, k.frozen hn h.c3 h.f3, k.frozen hn h.c4 h.f4, k.frozen hn h.c5 h.f5, k.frozen hn h.c6 h.f6⟩

set_option maxRecDepth 100000 in
set_option maxHeartbeats 2000000 in
theorem force_known (b : Nat) (f : Int) (w : World) (h : w.cell? ⟨b, 0, none⟩ = some .nilIface) : Calls Try.prog 51 #[.pointer (some ⟨b, 0, none⟩), .int .i64 f] w fun e w' => e = .returned (.tuple #[.int .i64 f, .int .i64 0]) ∧ w' = w := by
  have HK : Hid _ := known_yes b w h
  go_enter Try.func51, Try.ntmps51
  go_wp2_with fail
  refine Calls.mono HK.out ?_
  rintro e w1 ⟨rfl, rfl⟩
  go_wp2_with fail
  exact bodyPost_ret (v := .tuple #[.int .i64 f, .int .i64 0]) (by simp [results, Try.results51, go_sem]) rfl ⟨rfl, rfl⟩

set_option maxRecDepth 100000 in
set_option maxHeartbeats 2000000 in
theorem force_dry (b T : Nat) (v : Value) (w : World) (h : w.cell? ⟨b, 0, none⟩ = some (.iface T v)) : Calls Try.prog 51 #[.pointer (some ⟨b, 0, none⟩), .int .i64 0] w fun e w' => e = .returned (.tuple #[.int .i64 0, .int .i64 220]) ∧ w' = w := by
  have HK : Hid _ := known_no b T v w h
  go_enter Try.func51, Try.ntmps51
  go_wp2_with fail
  refine Calls.mono HK.out ?_
  rintro e w1 ⟨rfl, rfl⟩
  go_wp2_with fail
  exact bodyPost_ret (v := .tuple #[.int .i64 0, .int .i64 220]) (by simp [results, Try.results51, go_sem]) rfl ⟨rfl, rfl⟩

end Go.Proofs.Ytbhfbjbigafnpaa

namespace Go.Proofs.Ytbhfbjbigafnpaa
open Go.RowKit Go.Shelf

/-- Behind it: the cell is known, its rest is a new one that is not. -/
def ForcePost (q : Nat) (x : VT) (f b : Nat) (w : World) (e : Ending) (w' : World) : Prop :=
  KC (fun j => j = b) w w' ∧ e = .returned (.tuple #[.int .i64 (f : Int), .int .i64 0]) ∧ ∃ a1 c1 a2 c2 b', w.heap.size ≤ b' ∧ CB w' b .nilIface 0 x (.slice a1 x.items.length c1) (some ⟨b', 0, none⟩) ∧ CB w' b' (stepV q 1 x (.slice a2 x.items.length c2)) 0 zeroT (.slice none 0 0) none ∧ LiesX (fun n => w.heap.size ≤ n ∧ n ≠ b') 16 w' x.items (.slice a1 x.items.length c1) ∧ LiesX (fun n => w.heap.size ≤ n ∧ n ≠ b') 16 w' x.items (.slice a2 x.items.length c2)

set_option maxRecDepth 100000 in
set_option maxHeartbeats 8000000 in
theorem force_lazy (q m f b : Nat) (hq : q < 8) (hm : m ≤ 65536) (hf : f < 1073741824) (z : VT) (a : Option Addr) (c : Nat) (w : World) (h : CB w b (stepV q m z (.slice a z.items.length c)) 0 zeroT (.slice none 0 0) none) (hl : LiesX (fun n => n ≠ b) 16 w z.items (.slice a z.items.length c)) (hr : rightV 16 z = true) :
    Calls Try.prog 51 #[.pointer (some ⟨b, 0, none⟩), .int .i64 ((f + 1 : Nat) : Int)] w (ForcePost q (itT (doneT q) m z) f b w) := by
  obtain ⟨x, hx⟩ : ∃ x, x = itT (doneT q) m z := ⟨_, rfl⟩
  rw [← hx]
  have HKn : Hid (∀ V, V.cell? ⟨b, 0, none⟩ = some (stepV q m z (.slice a z.items.length c)) → Calls Try.prog 65 #[.pointer (some ⟨b, 0, none⟩)] V fun e w' => e = .returned (.bool false) ∧ w' = V) := fun V hV => known_no b _ _ V hV
  have hbw := h.lt
  have HCB : Hid (CB w b (stepV q m z (.slice a z.items.length c)) 0 zeroT (.slice none 0 0) none) := h
  obtain ⟨W1, hW1⟩ : ∃ W1, W1 = w.setCell ⟨b, 1, none⟩ (.int .i64 1) := ⟨_, rfl⟩
  have HW1 : Hid (W1 = w.setCell ⟨b, 1, none⟩ (.int .i64 1)) := hW1
  have hs1 : W1.heap.size = w.heap.size := by rw [hW1]; simp [World.setCell]
  have HC1 : Hid (CB W1 b (stepV q m z (.slice a z.items.length c)) 1 zeroT (.slice none 0 0) none) := by rw [hW1]; exact h.nest 1
  have HA : Hid (Calls Try.prog 66 #[stepV q m z (.slice a z.items.length c), .int .i64 (f : Int)] W1 (AskedPost q x f W1)) := by
    show Calls _ _ _ _ _
    rw [hx]
    refine asked_any q m f hq hm z a c W1 ?_ hr
    rw [hW1]
    exact (LiesX.set (g := b) (o := 1) (vs := [_]) (fun h => h rfl) hl).lies
  have Hs1 : Hid (W1.heap.size = w.heap.size ∧ b < w.heap.size) := ⟨hs1, hbw⟩
  have HKW : Hid (KC (fun j => j = b) w W1) := by rw [hW1]; exact KC.set (B := fun j => j = b) (KC.refl _ w) (.inl rfl) _
  have e1 : IntKind.i64.wrap (((f + 1 : Nat) : Int) - 1) = (f : Int) := by rw [IntKind.wrap_i64]; omega
  have e0 : (((f + 1 : Nat) : Int) == 0) = false := by simp; omega
  obtain ⟨k0, k1, k2, k3, k4, k5, k6, g0, g1, g2, g3, g4, g5, g6⟩ := h
  obtain ⟨F, hF⟩ : ∃ F : Int, F = ((f + 1 : Nat) : Int) := ⟨_, rfl⟩
  rw [← hF] at e1 e0 ⊢
  clear hF hl hr hx hs1 hbw hW1
  go_enter Try.func51, Try.ntmps51
  go_wp2_with fail
  refine Calls.mono (HKn.out _ k0) ?_
  rintro e w9 ⟨rfl, hw9⟩
  obtain rfl : w = w9 := hw9.symm
  clear hw9
  go_upto_region 6 with fail
  rw [← HW1.out]
  clear HW1 k0 k1 k2 k3 k4 k5 k6 g0 g1 g2 g3 g4 g5 g6
  obtain ⟨k0, k1, _, _, _, _, _, _, _, _, _, _, _, _⟩ := HC1.out
  go_wp2_with fail
  refine Calls.mono HA.out ?_
  rintro e w2 ⟨hg2, a1, c1, a2, c2, b', rfl, hb', hcb, hx1, hx2⟩
  have hs := Hs1.out
  obtain ⟨n6, hn6⟩ : ∃ n6, n6 = w2.heap.size := ⟨_, rfl⟩
  obtain ⟨W3, hW3⟩ : ∃ W3, W3 = w2.alloc (.cells #[.nilIface, .int .i64 0, .int .i64 x.kind, .int .i64 x.num, .string x.text, .slice a1 x.items.length c1, .pointer (some ⟨b', 0, none⟩)] 71) := ⟨_, rfl⟩
  have HW3 : Hid (W3 = w2.alloc (.cells #[.nilIface, .int .i64 0, .int .i64 x.kind, .int .i64 x.num, .string x.text, .slice a1 x.items.length c1, .pointer (some ⟨b', 0, none⟩)] 71)) := hW3
  have hal : Below w2.heap.size w2 W3 := by rw [hW3]; exact ((Grew.refl _).alloc _).below
  have hs3 := hal.size
  have hs12 := hg2.size
  have HF3 : Hid (CB W3 n6 .nilIface 0 x (.slice a1 x.items.length c1) (some ⟨b', 0, none⟩)) := by rw [hW3, hn6]; exact cb_alloc w2 71 .nilIface 0 x (.slice a1 x.items.length c1) (some ⟨b', 0, none⟩)
  have HC3 : Hid (CB W3 b (stepV q m z (.slice a z.items.length c)) 1 zeroT (.slice none 0 0) none) := (HC1.out.keeps hg2).keeps hal
  obtain ⟨W4, hW4⟩ : ∃ W4, W4 = W3.setCell ⟨b, 1, none⟩ (.int .i64 0) := ⟨_, rfl⟩
  have HW4 : Hid (W4 = W3.setCell ⟨b, 1, none⟩ (.int .i64 0)) := hW4
  have HC4 : Hid (CB W4 b (stepV q m z (.slice a z.items.length c)) 0 zeroT (.slice none 0 0) none) := by rw [hW4]; exact HC3.out.nest 0
  have hnb : n6 ≠ b := by omega
  have hbb : b' ≠ b := by omega
  have HF4 : Hid (CB W4 n6 .nilIface 0 x (.slice a1 x.items.length c1) (some ⟨b', 0, none⟩)) := by rw [hW4]; exact CB.other (g := b) (o := 1) HF3.out hnb [_]
  have HD4 : Hid (CB W4 b' (stepV q 1 x (.slice a2 x.items.length c2)) 0 zeroT (.slice none 0 0) none) := by rw [hW4]; exact CB.other (g := b) (o := 1) (hcb.keeps hal) hbb [_]
  have HX1 : Hid (LiesX (fun n => w.heap.size ≤ n ∧ n ≠ b') 16 W4 x.items (.slice a1 x.items.length c1)) := by
    rw [hW4]
    exact LiesX.mono (fun n hn => ⟨by omega, hn.2⟩) (LiesX.set (g := b) (o := 1) (vs := [_]) (by omega) (hx1.keeps hal))
  have HX2 : Hid (LiesX (fun n => w.heap.size ≤ n ∧ n ≠ b') 16 W4 x.items (.slice a2 x.items.length c2)) := by
    rw [hW4]
    exact LiesX.mono (fun n hn => ⟨by omega, hn.2⟩) (LiesX.set (g := b) (o := 1) (vs := [_]) (by omega) (hx2.keeps hal))
  have HK4 : Hid (KC (fun j => j = b) w W4) := by
    rw [hW4]
    exact KC.set (B := fun j => j = b) ((HKW.out.trans (KC.of_below hg2)).trans (KC.of_below hal)) (.inl rfl) _
  have HBB : Hid (w.heap.size ≤ b' ∧ b < w.heap.size ∧ b' ≠ b) := ⟨by omega, hs.2, hbb⟩
  clear hg2 hcb hx1 hx2 hal hs hs3 hs12 hb' HA HC1 hbb k0 k1 hW3 hW4
  obtain ⟨k0, k1, _, _, _, _, _, _, g1, _, _, _, _, _⟩ := HC3.out
  go_upto_region 7 with fail
  rw [← HW3.out, ← hn6]
  clear HW3 hn6
  go_upto_region 8 with fail
  rw [← HW4.out]
  clear HW4 k0 k1 g1 HC3 HF3
  obtain ⟨k0, k1, k2, k3, k4, k5, k6, g0, g1, g2, g3, g4, g5, g6⟩ := HC4.out
  obtain ⟨s0, s1, s2, s3, s4, s5, s6, _, _, _, _, _, _, _⟩ := HF4.out
  go_wp2_with fail
  refine Calls.mono (HKn.out _ k0) ?_
  rintro e w9 ⟨rfl, hw9⟩
  obtain rfl : W4 = w9 := hw9.symm
  clear hw9
  go_wp2_with fail
  go_region
  have hB := HBB.out
  have HE : Hid (ForcePost q x f b w (.returned (.tuple #[.int .i64 (f : Int), .int .i64 0])) ((((((W4.setCell ⟨b, 0, none⟩ .nilIface).setCell ⟨b, 2, none⟩ (.int .i64 x.kind)).setCell ⟨b, 3, none⟩ (.int .i64 x.num)).setCell ⟨b, 4, none⟩ (.string x.text)).setCell ⟨b, 5, none⟩ (.slice a1 x.items.length c1)).setCell ⟨b, 6, none⟩ (.pointer (some ⟨b', 0, none⟩))).drew) := by
    refine ⟨KC.drew (KC.set (B := fun j => j = b) (o := 6) (KC.set (B := fun j => j = b) (o := 5) (KC.set (B := fun j => j = b) (o := 4) (KC.set (B := fun j => j = b) (o := 3) (KC.set (B := fun j => j = b) (o := 2) (KC.set (B := fun j => j = b) (o := 0) HK4.out (.inl rfl) _) (.inl rfl) _) (.inl rfl) _) (.inl rfl) _) (.inl rfl) _) (.inl rfl) _), rfl, a1, c1, a2, c2, b', hB.1, ?_, ?_, ?_, ?_⟩
    · exact (HC4.out.turn x (.slice a1 x.items.length c1) (some ⟨b', 0, none⟩)).drew
    · exact CB.drew (CB.other (g := b) (o := 6) (CB.other (g := b) (o := 5) (CB.other (g := b) (o := 4) (CB.other (g := b) (o := 3) (CB.other (g := b) (o := 2) (CB.other (g := b) (o := 0) HD4.out hB.2.2 [_]) hB.2.2 [_]) hB.2.2 [_]) hB.2.2 [_]) hB.2.2 [_]) hB.2.2 [_])
    · exact LiesX.keeps (Below.refl _ _).drew (LiesX.set (g := b) (o := 6) (vs := [_]) (by omega) (LiesX.set (g := b) (o := 5) (vs := [_]) (by omega) (LiesX.set (g := b) (o := 4) (vs := [_]) (by omega) (LiesX.set (g := b) (o := 3) (vs := [_]) (by omega) (LiesX.set (g := b) (o := 2) (vs := [_]) (by omega) (LiesX.set (g := b) (o := 0) (vs := [_]) (by omega) HX1.out))))))
    · exact LiesX.keeps (Below.refl _ _).drew (LiesX.set (g := b) (o := 6) (vs := [_]) (by omega) (LiesX.set (g := b) (o := 5) (vs := [_]) (by omega) (LiesX.set (g := b) (o := 4) (vs := [_]) (by omega) (LiesX.set (g := b) (o := 3) (vs := [_]) (by omega) (LiesX.set (g := b) (o := 2) (vs := [_]) (by omega) (LiesX.set (g := b) (o := 0) (vs := [_]) (by omega) HX2.out))))))
  clear hB HBB HC4 HF4 HD4 HX1 HX2 HK4 HKn HKW Hs1 HCB k0 k1 k2 k3 k4 k5 k6 g0 g1 g2 g3 g4 g5 g6 s0 s1 s2 s3 s4 s5 s6
  go_wp2_with fail
  refine bodyPost_ret (v := .tuple #[.int .i64 (f : Int), .int .i64 0]) ?_ rfl HE.out
  simp [results, Try.results51, go_sem]

end Go.Proofs.Ytbhfbjbigafnpaa

