/-
  The document's Empty and Cons; chains of known cells on both sides.
-/
import Derived.Test.YtbhfbjbigafnpaaConsM
import Derived.Test.YtbhfbjbigafnpaaRTimes
import Derived.Test.YtbhfbjbigafnpaaLevel
import Derived.Test.YtbhfbjbigafnpaaTimes2
namespace Go.Proofs.Ytbhfbjbigafnpaa
open Go.RowKit Go.Shelf

/-- The document's cell: sixteen cells; N is 0, List and Subs are none. -/
structure DB (w : World) (b : Nat) (kn ok : Bool) (x : VT) (u : Value) (p : Option Addr) (kd : Int) (q : Nat) (z : VT) (uz : Value) : Prop where
  c0 : w.cell? ⟨b, 0, none⟩ = some (.bool kn)
  c1 : w.cell? ⟨b, 1, none⟩ = some (.bool ok)
  c2 : w.cell? ⟨b, 2, none⟩ = some (.int .i64 x.kind)
  c3 : w.cell? ⟨b, 3, none⟩ = some (.int .i64 x.num)
  c4 : w.cell? ⟨b, 4, none⟩ = some (.string x.text)
  c5 : w.cell? ⟨b, 5, none⟩ = some (u)
  c6 : w.cell? ⟨b, 6, none⟩ = some (.pointer p)
  c7 : w.cell? ⟨b, 7, none⟩ = some (.int .i64 kd)
  c8 : w.cell? ⟨b, 8, none⟩ = some (.int .i64 (q : Int))
  c9 : w.cell? ⟨b, 9, none⟩ = some (.int .i64 0)
  c10 : w.cell? ⟨b, 10, none⟩ = some (.int .i64 z.kind)
  c11 : w.cell? ⟨b, 11, none⟩ = some (.int .i64 z.num)
  c12 : w.cell? ⟨b, 12, none⟩ = some (.string z.text)
  c13 : w.cell? ⟨b, 13, none⟩ = some (uz)
  c14 : w.cell? ⟨b, 14, none⟩ = some (.slice none 0 0)
  c15 : w.cell? ⟨b, 15, none⟩ = some (.slice none 0 0)
  f0 : w.frozen? ⟨b, 0, none⟩ = false
  f1 : w.frozen? ⟨b, 1, none⟩ = false
  f2 : w.frozen? ⟨b, 2, none⟩ = false
  f3 : w.frozen? ⟨b, 3, none⟩ = false
  f4 : w.frozen? ⟨b, 4, none⟩ = false
  f5 : w.frozen? ⟨b, 5, none⟩ = false
  f6 : w.frozen? ⟨b, 6, none⟩ = false

theorem DB.lt {w : World} {b : Nat} {kn ok : Bool} {x : VT} {u : Value} {p : Option Addr} {kd : Int} {q : Nat} {z : VT} {uz : Value} (h : DB w b kn ok x u p kd q z uz) : b < w.heap.size := cell_lt h.c0

theorem DB.keeps {w : World} {b : Nat} {kn ok : Bool} {x : VT} {u : Value} {p : Option Addr} {kd : Int} {q : Nat} {z : VT} {uz : Value} {w' : World} (h : DB w b kn ok x u p kd q z uz) (hb : Below w.heap.size w w') : DB w' b kn ok x u p kd q z uz := by
  have hl := h.lt
  exact ⟨cell_keeps hb h.c0, cell_keeps hb h.c1, cell_keeps hb h.c2, cell_keeps hb h.c3, cell_keeps hb h.c4, cell_keeps hb h.c5, cell_keeps hb h.c6, cell_keeps hb h.c7, cell_keeps hb h.c8, cell_keeps hb h.c9, cell_keeps hb h.c10, cell_keeps hb h.c11, cell_keeps hb h.c12, cell_keeps hb h.c13, cell_keeps hb h.c14, cell_keeps hb h.c15, (hb.frozen (p := ⟨b, 0, none⟩) hl).trans h.f0, (hb.frozen (p := ⟨b, 1, none⟩) hl).trans h.f1, (hb.frozen (p := ⟨b, 2, none⟩) hl).trans h.f2, (hb.frozen (p := ⟨b, 3, none⟩) hl).trans h.f3, (hb.frozen (p := ⟨b, 4, none⟩) hl).trans h.f4, (hb.frozen (p := ⟨b, 5, none⟩) hl).trans h.f5, (hb.frozen (p := ⟨b, 6, none⟩) hl).trans h.f6⟩

theorem KC.db {B : Nat → Prop} {w : World} {b : Nat} {kn ok : Bool} {x : VT} {u : Value} {p : Option Addr} {kd : Int} {q : Nat} {z : VT} {uz : Value} {w' : World} (k : KC B w w') (hn : ¬ B b) (h : DB w b kn ok x u p kd q z uz) : DB w' b kn ok x u p kd q z uz :=
  ⟨k.cell hn h.c0, k.cell hn h.c1, k.cell hn h.c2, k.cell hn h.c3, k.cell hn h.c4, k.cell hn h.c5, k.cell hn h.c6, k.cell hn h.c7, k.cell hn h.c8, k.cell hn h.c9, k.cell hn h.c10, k.cell hn h.c11, k.cell hn h.c12, k.cell hn h.c13, k.cell hn h.c14, k.cell hn h.c15, k.frozen hn h.c0 h.f0, k.frozen hn h.c1 h.f1, k.frozen hn h.c2 h.f2, k.frozen hn h.c3 h.f3, k.frozen hn h.c4 h.f4, k.frozen hn h.c5 h.f5, k.frozen hn h.c6 h.f6⟩

theorem DB.other {w : World} {b : Nat} {kn ok : Bool} {x : VT} {u : Value} {p : Option Addr} {kd : Int} {q : Nat} {z : VT} {uz : Value} (h : DB w b kn ok x u p kd q z uz) {g o : Nat} (hg : b ≠ g) (vs : List Value) : DB (w.setCells g o vs) b kn ok x u p kd q z uz :=
  ⟨cell_other hg h.c0, cell_other hg h.c1, cell_other hg h.c2, cell_other hg h.c3, cell_other hg h.c4, cell_other hg h.c5, cell_other hg h.c6, cell_other hg h.c7, cell_other hg h.c8, cell_other hg h.c9, cell_other hg h.c10, cell_other hg h.c11, cell_other hg h.c12, cell_other hg h.c13, cell_other hg h.c14, cell_other hg h.c15, by rw [World.frozen?_setCells]; exact h.f0, by rw [World.frozen?_setCells]; exact h.f1, by rw [World.frozen?_setCells]; exact h.f2, by rw [World.frozen?_setCells]; exact h.f3, by rw [World.frozen?_setCells]; exact h.f4, by rw [World.frozen?_setCells]; exact h.f5, by rw [World.frozen?_setCells]; exact h.f6⟩

theorem db_alloc (w : World) (T : Nat) (kn ok : Bool) (x : VT) (u : Value) (p : Option Addr) (kd : Int) (q : Nat) (z : VT) (uz : Value) : DB (w.alloc (.cells #[.bool kn, .bool ok, .int .i64 x.kind, .int .i64 x.num, .string x.text, u, .pointer p, .int .i64 kd, .int .i64 (q : Int), .int .i64 0, .int .i64 z.kind, .int .i64 z.num, .string z.text, uz, .slice none 0 0, .slice none 0 0] T)) w.heap.size kn ok x u p kd q z uz := by
  refine ⟨?_, ?_, ?_, ?_, ?_, ?_, ?_, ?_, ?_, ?_, ?_, ?_, ?_, ?_, ?_, ?_, ?_, ?_, ?_, ?_, ?_, ?_, ?_⟩ <;> simp

/-- What a step of the document's Iter tells. -/
def RStep (X : Nat → Prop) (q : Nat) (x : VT) (f : Int) (w : World) (e : Ending) (w' : World) : Prop :=
  Below w.heap.size w w' ∧ ∃ a c b', e = .returned (.tuple #[.agg #[.int .i64 x.kind, .int .i64 x.num, .string x.text, .slice a x.items.length c], .pointer (some ⟨b', 0, none⟩), .bool true, .int .i64 f, .int .i64 0]) ∧ w.heap.size ≤ b' ∧ DB w' b' false false zeroT (.slice none 0 0) none 13 q x (.slice a x.items.length c) ∧ LiesX (fun n => (X n ∧ n < w.heap.size) ∨ (w.heap.size ≤ n ∧ n ≠ b')) 16 w' x.items (.slice a x.items.length c)

set_option maxRecDepth 100000 in
set_option maxHeartbeats 8000000 in
theorem rstep1 (X : Nat → Prop) (q b : Nat) (f : Int) (z : VT) (a : Option Addr) (c : Nat) (w : World) (h : DB w b false false zeroT (.slice none 0 0) none 1 q z (.slice a z.items.length c)) (hl : LiesX X 16 w z.items (.slice a z.items.length c)) :
    Calls Try.prog 52 #[.pointer (some ⟨b, 0, none⟩), .int .i64 f] w (RStep X q z f w) := by
  obtain ⟨W0, hW0⟩ : ∃ W0, W0 = zbox w := ⟨_, rfl⟩
  have HW0 : Hid (W0 = w.alloc (.cells #[.int .i64 0, .int .i64 0, .string ⟨#[]⟩, .slice none 0 0] 38)) := hW0
  have hb0 : Below w.heap.size w W0 := by rw [hW0]; exact zbox_below w
  have HZ : Hid (Bx W0 w.heap.size zeroT (.slice none 0 0)) := by rw [hW0]; exact zbox_bx w
  have HS : Hid (W0.heap.size = w.heap.size + 1) := by rw [hW0]; exact zbox_size w
  have HD : Hid (DB W0 b false false zeroT (.slice none 0 0) none 1 q z (.slice a z.items.length c)) := h.keeps hb0
  have HL : Hid (LiesX (fun n => X n ∧ n < w.heap.size) 16 W0 z.items (.slice a z.items.length c)) := hl.both.keeps hb0
  obtain ⟨_, _, _, _, _, _, _, k7, k8, _, k10, k11, k12, k13, _, _, _, _, _, _, _, _, _⟩ := HD.out
  obtain ⟨z0, z1, z2, z3, g0, g1, g2, g3⟩ := HZ.out
  have hbl := h.lt
  have hbn : b ≠ w.heap.size := by omega
  have Hb0 : Hid (Below w.heap.size w W0) := hb0
  clear hW0 h hl hbl hb0
  go_enter Try.func52, Try.ntmps52
  go_upto_region 1 with fail
  rw [← HW0.out]
  clear HW0
  go_wp2_with fail
  have nb : b < W0.heap.size := cell_lt k10
  have nz : w.heap.size < W0.heap.size := by have h9 := cell_lt z0; simpa using h9
  go_region
  obtain ⟨WS, hWS⟩ : ∃ WS, WS = W0.setCells w.heap.size 0 (encP (z, .slice a z.items.length c)) := ⟨_, rfl⟩
  have hsz : WS.heap.size = W0.heap.size := by rw [hWS]; simp [World.setCells, encP, World.setCell]
  have hbx : Bx WS w.heap.size z (.slice a z.items.length c) := by rw [hWS]; exact HZ.out.put (z, .slice a z.items.length c)
  have hbS : Below w.heap.size w WS := by rw [hWS]; exact ((((Hb0.out.setCell (p := ⟨w.heap.size, 0, none⟩) (by simp) _).setCell (p := ⟨w.heap.size, 0 + 1, none⟩) (by simp) _).setCell (p := ⟨w.heap.size, 0 + 1 + 1, none⟩) (by simp) _).setCell (p := ⟨w.heap.size, 0 + 1 + 1 + 1, none⟩) (by simp) _)
  have hlS : LiesX (fun n => X n ∧ n < w.heap.size) 16 WS z.items (.slice a z.items.length c) := by rw [hWS]; exact LiesX.set (g := w.heap.size) (by omega) HL.out
  have hal : Below WS.heap.size WS (WS.alloc (.cells #[.bool false, .bool false, .int .i64 0, .int .i64 0, .string ⟨#[]⟩, .slice none 0 0, .pointer none, .int .i64 13, .int .i64 (q : Int), .int .i64 0, .int .i64 z.kind, .int .i64 z.num, .string z.text, .slice a z.items.length c, .slice none 0 0, .slice none 0 0] 77)).drew := ((Grew.refl WS).alloc _).below.drew
  have hdb : DB (WS.alloc (.cells #[.bool false, .bool false, .int .i64 0, .int .i64 0, .string ⟨#[]⟩, .slice none 0 0, .pointer none, .int .i64 13, .int .i64 (q : Int), .int .i64 0, .int .i64 z.kind, .int .i64 z.num, .string z.text, .slice a z.items.length c, .slice none 0 0, .slice none 0 0] 77)).drew WS.heap.size false false zeroT (.slice none 0 0) none 13 q z (.slice a z.items.length c) := (db_alloc WS 77 false false zeroT (.slice none 0 0) none 13 q z (.slice a z.items.length c)).keeps (Below.refl _ _).drew
  have HE : Hid (RStep X q z f w (.returned (.tuple #[.agg #[.int .i64 z.kind, .int .i64 z.num, .string z.text, .slice a z.items.length c], .pointer (some ⟨W0.heap.size, 0, none⟩), .bool true, .int .i64 f, .int .i64 0])) (WS.alloc (.cells #[.bool false, .bool false, .int .i64 0, .int .i64 0, .string ⟨#[]⟩, .slice none 0 0, .pointer none, .int .i64 13, .int .i64 (q : Int), .int .i64 0, .int .i64 z.kind, .int .i64 z.num, .string z.text, .slice a z.items.length c, .slice none 0 0, .slice none 0 0] 77)).drew) := by
    have hs := HS.out
    rw [hsz] at hdb
    exact ⟨hbS.trans (hal.mono hbS.size), a, c, W0.heap.size, rfl, by omega, hdb, LiesX.mono (fun n hn => .inl hn) (hlS.keeps hal)⟩
  have Hq : Hid (Bx (WS.alloc (.cells #[.bool false, .bool false, .int .i64 0, .int .i64 0, .string ⟨#[]⟩, .slice none 0 0, .pointer none, .int .i64 13, .int .i64 (q : Int), .int .i64 0, .int .i64 z.kind, .int .i64 z.num, .string z.text, .slice a z.items.length c, .slice none 0 0, .slice none 0 0] 77)).drew w.heap.size z (.slice a z.items.length c)) := hbx.keeps hal
  rw [hWS] at HE Hq
  clear hWS hsz hbx hbS hlS hal hdb nb nz z0 z1 z2 z3 g0 g1 g2 g3 k7 k8 k10 k11 k12 k13 HZ HD HL Hb0 HS
  go_wp2_with fail
  refine bodyPost_ret (v := .tuple #[.agg #[.int .i64 z.kind, .int .i64 z.num, .string z.text, .slice a z.items.length c], .pointer (some ⟨W0.heap.size, 0, none⟩), .bool true, .int .i64 f, .int .i64 0]) ?_ rfl HE.out
  obtain ⟨q0, q1, q2, q3, _, _, _, _⟩ := Hq.out
  simp only [World.setCells, encP, Nat.zero_add, Nat.reduceAdd] at q0 q1 q2 q3
  simp [results, Try.results52, go_sem, q0, q1, q2, q3]

set_option maxRecDepth 100000 in
set_option maxHeartbeats 8000000 in
theorem rwith_any (q b : Nat) (x z : VT) (u uz : Value) (p : Option Addr) (kn ok : Bool) (y : VT) (ay : Option Addr) (cy : Nat) (w : World) (h : DB w b kn ok x u p 13 q z uz) :
    Calls Try.prog 68 #[.pointer (some ⟨b, 0, none⟩), .int .i64 0, .agg #[.int .i64 y.kind, .int .i64 y.num, .string y.text, .slice ay y.items.length cy], .slice none 0 0] w fun e w' => e = .returned (.pointer (some ⟨w.heap.size + 1, 0, none⟩)) ∧ Below w.heap.size w w' ∧ DB w' (w.heap.size + 1) false false zeroT (.slice none 0 0) none 13 q y (.slice ay y.items.length cy) := by
  obtain ⟨W0, hW0⟩ : ∃ W0, W0 = w.alloc (.cells #[.int .i64 y.kind, .int .i64 y.num, .string y.text, .slice ay y.items.length cy] 38) := ⟨_, rfl⟩
  have HW0 : Hid (W0 = w.alloc (.cells #[.int .i64 y.kind, .int .i64 y.num, .string y.text, .slice ay y.items.length cy] 38)) := hW0
  have hb0 : Below w.heap.size w W0 := by rw [hW0]; exact ((Grew.refl _).alloc _).below
  have hs0 : W0.heap.size = w.heap.size + 1 := by rw [hW0]; exact World.size_alloc _ _
  have HB : Hid (Bx W0 w.heap.size y (.slice ay y.items.length cy)) := by rw [hW0]; exact bx_alloc _ _ _
  have HD : Hid (DB W0 b kn ok x u p 13 q z uz) := h.keeps hb0
  obtain ⟨_, _, _, _, _, _, _, k7, k8, _, _, _, _, _, k14, _, _, _, _, _, _, _, _⟩ := HD.out
  obtain ⟨z0, z1, z2, z3, _, _, _, _⟩ := HB.out
  have nb : b < W0.heap.size := cell_lt k7
  have nz : w.heap.size < W0.heap.size := by omega
  have HE : Hid (Below w.heap.size w (W0.alloc (.cells #[.bool false, .bool false, .int .i64 0, .int .i64 0, .string ⟨#[]⟩, .slice none 0 0, .pointer none, .int .i64 13, .int .i64 (q : Int), .int .i64 0, .int .i64 y.kind, .int .i64 y.num, .string y.text, .slice ay y.items.length cy, .slice none 0 0, .slice none 0 0] 77)).drew ∧ DB (W0.alloc (.cells #[.bool false, .bool false, .int .i64 0, .int .i64 0, .string ⟨#[]⟩, .slice none 0 0, .pointer none, .int .i64 13, .int .i64 (q : Int), .int .i64 0, .int .i64 y.kind, .int .i64 y.num, .string y.text, .slice ay y.items.length cy, .slice none 0 0, .slice none 0 0] 77)).drew (w.heap.size + 1) false false zeroT (.slice none 0 0) none 13 q y (.slice ay y.items.length cy)) := by
    have hal : Below W0.heap.size W0 (W0.alloc (.cells #[.bool false, .bool false, .int .i64 0, .int .i64 0, .string ⟨#[]⟩, .slice none 0 0, .pointer none, .int .i64 13, .int .i64 (q : Int), .int .i64 0, .int .i64 y.kind, .int .i64 y.num, .string y.text, .slice ay y.items.length cy, .slice none 0 0, .slice none 0 0] 77)).drew := ((Grew.refl W0).alloc _).below.drew
    have hdb := (db_alloc W0 77 false false zeroT (.slice none 0 0) none 13 q y (.slice ay y.items.length cy)).keeps (Below.refl _ _).drew
    rw [hs0] at hdb
    exact ⟨hb0.trans (hal.mono hb0.size), hdb⟩
  have Hs0 : Hid (W0.heap.size = w.heap.size + 1) := hs0
  clear hW0 hb0 hs0 HB HD h
  go_enter Try.func68, Try.ntmps68
  go_upto_region 1 with fail
  rw [← HW0.out]
  clear HW0
  go_wp2_with fail
  go_region
  rw [Hs0.out]
  go_wp2_with fail
  go_ret
  exact ⟨rfl, HE.out⟩

set_option maxRecDepth 100000 in
set_option maxHeartbeats 8000000 in
theorem rstep13 (X : Nat → Prop) (q b : Nat) (hq : q < 8) (f : Int) (z : VT) (a : Option Addr) (c : Nat) (w : World) (h : DB w b false false zeroT (.slice none 0 0) none 13 q z (.slice a z.items.length c)) (hl : LiesX X 16 w z.items (.slice a z.items.length c)) (hr : rightV 16 z = true) :
    Calls Try.prog 52 #[.pointer (some ⟨b, 0, none⟩), .int .i64 f] w (RStep X q (doneT q z) f w) := by
  obtain ⟨x, hx⟩ : ∃ x, x = doneT q z := ⟨_, rfl⟩
  rw [← hx]
  obtain ⟨W0, hW0⟩ : ∃ W0, W0 = zbox w := ⟨_, rfl⟩
  have HW0 : Hid (W0 = w.alloc (.cells #[.int .i64 0, .int .i64 0, .string ⟨#[]⟩, .slice none 0 0] 38)) := hW0
  have hb0 : Below w.heap.size w W0 := by rw [hW0]; exact zbox_below w
  have HZ : Hid (Bx W0 w.heap.size zeroT (.slice none 0 0)) := by rw [hW0]; exact zbox_bx w
  have HS : Hid (W0.heap.size = w.heap.size + 1) := by rw [hW0]; exact zbox_size w
  have HD : Hid (DB W0 b false false zeroT (.slice none 0 0) none 13 q z (.slice a z.items.length c)) := h.keeps hb0
  have HDn : Hid (∀ V, Below W0.heap.size W0 V → Calls Try.prog 67 #[.int .i64 (q : Int), .agg #[.int .i64 z.kind, .int .i64 z.num, .string z.text, .slice a z.items.length c]] V (FnPost (fun n => X n ∧ n < w.heap.size) x V)) := fun V hV => by
    rw [hx]
    exact rdone_any _ q hq z _ V ((hl.both.keeps hb0).keeps hV) hr
  obtain ⟨_, _, _, _, _, _, _, k7, k8, _, k10, k11, k12, k13, _, _, _, _, _, _, _, _, _⟩ := HD.out
  have Hb0 : Hid (Below w.heap.size w W0) := hb0
  have nb : b < W0.heap.size := cell_lt k10
  have nb2 : b ≠ W0.heap.size := Nat.ne_of_lt nb
  clear hW0 h hl hb0 hx hr
  go_enter Try.func52, Try.ntmps52
  go_upto_region 1 with fail
  rw [← HW0.out]
  clear HW0
  go_wp2_with fail
  go_upto_region 5 with fail
  go_cut [9] from 38 to 46 (fun s9 wx => ∃ n9 a1 c1, s9 = .pointer (some ⟨n9, 0, none⟩) ∧ Hid (Below W0.heap.size W0 wx ∧ Bx wx n9 x (.slice a1 x.items.length c1) ∧ LiesX (fun n => (X n ∧ n < w.heap.size) ∨ W0.heap.size ≤ n) 16 wx x.items (.slice a1 x.items.length c1) ∧ n9 ≠ w.heap.size))
  case first =>
    go_region_held3 (fun w' => w'.cell? ⟨b, 8, none⟩ = some (.int .i64 (q : Int)) ∧ w'.cell? ⟨b, 10, none⟩ = some (.int .i64 z.kind) ∧ w'.cell? ⟨b, 11, none⟩ = some (.int .i64 z.num) ∧ w'.cell? ⟨b, 12, none⟩ = some (.string z.text) ∧ w'.cell? ⟨b, 13, none⟩ = some (.slice a z.items.length c)) (first | (go_keep; done) | (with_reducible exact ⟨set4_k22 nb2 k8, set4_k22 nb2 k10, set4_k22 nb2 k11, set4_k22 nb2 k12, set4_k22 nb2 k13⟩))
      (first
        | (go_at_call 67; (with_reducible refine Calls.mono (HDn.out _ ?_) ?_); exact (Below.refl _ _).drew; rintro e w1 ⟨u1, rfl, hl1, hg1'⟩; obtain ⟨a1, c1, rfl, _⟩ := LiesX.slice hl1; have hg1 : Below W0.heap.size W0 w1 := (Below.refl _ _).drew.trans hg1'; have HL1 : Hid (LiesX (fun n => (X n ∧ n < w.heap.size) ∨ W0.heap.size ≤ n) 16 w1 x.items (.slice a1 x.items.length c1)) := hl1; clear hg1' hl1; have k8 := cell_keeps hg1 k8; have k10 := cell_keeps hg1 k10; have k11 := cell_keeps hg1 k11; have k12 := cell_keeps hg1 k12; have k13 := cell_keeps hg1 k13; have nb1 : b < w1.heap.size := Nat.lt_of_lt_of_le nb hg1.size)
        | (go_at_call 67; (with_reducible refine Calls.mono (HDn.out _ ?_) ?_); exact ((Grew.refl W0).alloc _).below.drew; rintro e w1 ⟨u1, rfl, hl1, hg1'⟩; obtain ⟨a1, c1, rfl, _⟩ := LiesX.slice hl1; have hg0 : Below W0.heap.size W0 (zbox W0).drew := ((Grew.refl W0).alloc _).below.drew; have hg1 : Below W0.heap.size W0 w1 := hg0.trans (hg1'.mono hg0.size); have HL1 : Hid (LiesX (fun n => (X n ∧ n < w.heap.size) ∨ (zbox W0).heap.size ≤ n) 16 w1 x.items (.slice a1 x.items.length c1)) := hl1; have hbz : Bx w1 W0.heap.size zeroT (.slice none 0 0) := ((zbox_bx W0).keeps (Below.refl _ _).drew).keeps hg1'; have HBZ : Hid _ := hbz; obtain ⟨z0, z1, z2, z3, g0, g1, g2, g3⟩ := hbz; clear hg1' hl1 hg0; have k8 := cell_keeps hg1 k8; have k10 := cell_keeps hg1 k10; have k11 := cell_keeps hg1 k11; have k12 := cell_keeps hg1 k12; have k13 := cell_keeps hg1 k13; have nb1 : b < w1.heap.size := Nat.lt_of_lt_of_le nb hg1.size))
    · go_wp2_with fail
      go_meet
      have hal : Below w1.heap.size w1 (w1.alloc (.cells #[.int .i64 x.kind, .int .i64 x.num, .string x.text, .slice a1 x.items.length c1] 38)) := ((Grew.refl _).alloc _).below
      exact ⟨_, a1, c1, rfl, hg1.trans (hal.mono hg1.size), bx_alloc _ _ _, HL1.out.keeps hal, by have := HS.out; have := hg1.size; omega⟩
    · go_wp2_with fail
      go_meet
      have hzs := zbox_size W0
      have hws := HS.out
      refine ⟨W0.heap.size, a1, c1, rfl, ?_, HBZ.out.put (x, .slice a1 x.items.length c1), ?_, by omega⟩
      · exact ((((hg1.setCell (p := ⟨W0.heap.size, 0, none⟩) (by simp) _).setCell (p := ⟨W0.heap.size, 0 + 1, none⟩) (by simp) _).setCell (p := ⟨W0.heap.size, 0 + 1 + 1, none⟩) (by simp) _).setCell (p := ⟨W0.heap.size, 0 + 1 + 1 + 1, none⟩) (by simp) _)
      · exact LiesX.mono (fun n hn => by rcases hn with h | h; exact .inl h; exact .inr (by omega)) (LiesX.set (g := W0.heap.size) (o := 0) (vs := encP (x, .slice a1 x.items.length c1)) (by rintro (h | h); have := h.2; omega; omega) HL1.out)
  case rest =>
    obtain ⟨n9, a1, c1, rfl, HR⟩ := hcut
    have HB4 : Hid (Bx wc w.heap.size zeroT (.slice none 0 0)) := HZ.out.keeps HR.out.1
    have HWi : Hid (∀ V, Below wc.heap.size wc V → Calls Try.prog 68 #[.pointer (some ⟨b, 0, none⟩), .int .i64 0, .agg #[.int .i64 x.kind, .int .i64 x.num, .string x.text, .slice a1 x.items.length c1], .slice none 0 0] V fun e w' => e = .returned (.pointer (some ⟨V.heap.size + 1, 0, none⟩)) ∧ Below V.heap.size V w' ∧ DB w' (V.heap.size + 1) false false zeroT (.slice none 0 0) none 13 q x (.slice a1 x.items.length c1)) := fun V hV => rwith_any q b zeroT z _ _ none false false x a1 c1 V ((HD.out.keeps HR.out.1).keeps hV)
    obtain ⟨y0, y1, y2, y3, _, _, _, _⟩ := HR.out.2.1
    obtain ⟨z0, z1, z2, z3, g0, g1, g2, g3⟩ := HB4.out
    have hlz : w.heap.size < wc.heap.size := by have h9 := cell_lt z0; simpa using h9
    have h9n : n9 ≠ w.heap.size := HR.out.2.2.2
    go_wp2_with fail
    go_region_held3 (fun w' => w'.cell? ⟨n9, 0, none⟩ = some (.int .i64 x.kind) ∧ w'.cell? ⟨n9, 1, none⟩ = some (.int .i64 x.num) ∧ w'.cell? ⟨n9, 2, none⟩ = some (.string x.text) ∧ w'.cell? ⟨n9, 3, none⟩ = some (.slice a1 x.items.length c1)) (first | (go_keep; done) | (with_reducible exact ⟨set4_k22 h9n y0, set4_k22 h9n y1, set4_k22 h9n y2, set4_k22 h9n y3⟩))
      (first | (go_at_call 68; (with_reducible refine Calls.mono (HWi.out _ ?_) ?_); exact (Below.refl _ _).drew; rintro e w2 ⟨rfl, hg2', hdb⟩; have hg2 : Below wc.heap.size wc w2 := (Below.refl _ _).drew.trans hg2'; have HDB : Hid (DB w2 (wc.heap.size + 1) false false zeroT (.slice none 0 0) none 13 q x (.slice a1 x.items.length c1)) := hdb; clear hg2' hdb; have y0 := cell_keeps hg2 y0; have y1 := cell_keeps hg2 y1; have y2 := cell_keeps hg2 y2; have y3 := cell_keeps hg2 y3; have z0 := cell_keeps hg2 z0; have z1 := cell_keeps hg2 z1; have z2 := cell_keeps hg2 z2; have z3 := cell_keeps hg2 z3; have g0 := (hg2.frozen (p := ⟨w.heap.size, 0, none⟩) hlz).trans g0; have g1 := (hg2.frozen (p := ⟨w.heap.size, 1, none⟩) hlz).trans g1; have g2 := (hg2.frozen (p := ⟨w.heap.size, 2, none⟩) hlz).trans g2; have g3 := (hg2.frozen (p := ⟨w.heap.size, 3, none⟩) hlz).trans g3))
    have hs0 := HS.out
    have hsc := HR.out.1.size
    have hbc : Below w.heap.size w wc := Hb0.out.trans (HR.out.1.mono Hb0.out.size)
    have hb2 : Below w.heap.size w w2 := hbc.trans (hg2.mono hbc.size)
    have HE : Hid (RStep X q x f w (.returned (.tuple #[.agg #[.int .i64 x.kind, .int .i64 x.num, .string x.text, .slice a1 x.items.length c1], .pointer (some ⟨wc.heap.size + 1, 0, none⟩), .bool true, .int .i64 f, .int .i64 0])) (w2.setCells w.heap.size 0 (encP (x, .slice a1 x.items.length c1)))) := by
      refine ⟨?_, a1, c1, wc.heap.size + 1, rfl, by omega, HDB.out.other (by omega) _, ?_⟩
      · exact ((((hb2.setCell (p := ⟨w.heap.size, 0, none⟩) (by simp) _).setCell (p := ⟨w.heap.size, 0 + 1, none⟩) (by simp) _).setCell (p := ⟨w.heap.size, 0 + 1 + 1, none⟩) (by simp) _).setCell (p := ⟨w.heap.size, 0 + 1 + 1 + 1, none⟩) (by simp) _)
      · refine LiesX.mono (fun n hn => ?_) (LiesX.set (g := w.heap.size) (o := 0) (vs := encP (x, .slice a1 x.items.length c1)) ?_ (HR.out.2.2.1.both.keeps hg2))
        · rcases hn with ⟨h | h, h2⟩
          · exact .inl h
          · exact .inr ⟨by omega, by omega⟩
        · rintro ⟨h | h, h2⟩
          · have := h.2; omega
          · omega
    have Hq : Hid (Bx (w2.setCells w.heap.size 0 (encP (x, .slice a1 x.items.length c1))) w.heap.size x (.slice a1 x.items.length c1)) := Bx.put (⟨z0, z1, z2, z3, g0, g1, g2, g3⟩ : Bx w2 w.heap.size zeroT (.slice none 0 0)) (x, .slice a1 x.items.length c1)
    clear hs0 hsc hbc hb2 hg2 HDB HR HB4 HWi HS Hb0 HZ HD y0 y1 y2 y3 z0 z1 z2 z3 g0 g1 g2 g3 k7 k8 k10 k11 k12 k13
    go_wp2_with fail
    refine bodyPost_ret (v := .tuple #[.agg #[.int .i64 x.kind, .int .i64 x.num, .string x.text, .slice a1 x.items.length c1], .pointer (some ⟨wc.heap.size + 1, 0, none⟩), .bool true, .int .i64 f, .int .i64 0]) ?_ rfl HE.out
    obtain ⟨q0, q1, q2, q3, _, _, _, _⟩ := Hq.out
    simp only [World.setCells, encP, Nat.zero_add, Nat.reduceAdd] at q0 q1 q2 q3
    simp [results, Try.results52, go_sem, q0, q1, q2, q3]

end Go.Proofs.Ytbhfbjbigafnpaa

namespace Go.Proofs.Ytbhfbjbigafnpaa
open Go.RowKit Go.Shelf

theorem DB.put {w : World} {b : Nat} {kn ok : Bool} {x : VT} {u : Value} {p : Option Addr} {kd : Int} {q : Nat} {z : VT} {uz : Value} (h : DB w b kn ok x u p kd q z uz) (x' : VT) (u' : Value) (p' : Option Addr) : DB (w.setCells b 0 [.bool true, .bool true, .int .i64 x'.kind, .int .i64 x'.num, .string x'.text, u', .pointer p']) b true true x' u' p' kd q z uz := by
  have hin : ∀ j (hj : j < [.bool true, .bool true, .int .i64 x'.kind, .int .i64 x'.num, .string x'.text, u', .pointer p'].length), (w.setCells b 0 [.bool true, .bool true, .int .i64 x'.kind, .int .i64 x'.num, .string x'.text, u', .pointer p']).cell? ⟨b, 0 + j, none⟩ = some ([.bool true, .bool true, .int .i64 x'.kind, .int .i64 x'.num, .string x'.text, u', .pointer p'][j]) :=
    World.cell?_setCells_in b _ 0 w (fun j hj => by
      match j, hj with
      | 0, _ => rw [h.c0]; rfl
      | 1, _ => rw [h.c1]; rfl
      | 2, _ => rw [h.c2]; rfl
      | 3, _ => rw [h.c3]; rfl
      | 4, _ => rw [h.c4]; rfl
      | 5, _ => rw [h.c5]; rfl
      | 6, _ => rw [h.c6]; rfl)
  refine ⟨?_, ?_, ?_, ?_, ?_, ?_, ?_, (setc_ne (by omega) (setc_ne (by omega) (setc_ne (by omega) (setc_ne (by omega) (setc_ne (by omega) (setc_ne (by omega) (setc_ne (by omega) h.c7))))))), (setc_ne (by omega) (setc_ne (by omega) (setc_ne (by omega) (setc_ne (by omega) (setc_ne (by omega) (setc_ne (by omega) (setc_ne (by omega) h.c8))))))), (setc_ne (by omega) (setc_ne (by omega) (setc_ne (by omega) (setc_ne (by omega) (setc_ne (by omega) (setc_ne (by omega) (setc_ne (by omega) h.c9))))))), (setc_ne (by omega) (setc_ne (by omega) (setc_ne (by omega) (setc_ne (by omega) (setc_ne (by omega) (setc_ne (by omega) (setc_ne (by omega) h.c10))))))), (setc_ne (by omega) (setc_ne (by omega) (setc_ne (by omega) (setc_ne (by omega) (setc_ne (by omega) (setc_ne (by omega) (setc_ne (by omega) h.c11))))))), (setc_ne (by omega) (setc_ne (by omega) (setc_ne (by omega) (setc_ne (by omega) (setc_ne (by omega) (setc_ne (by omega) (setc_ne (by omega) h.c12))))))), (setc_ne (by omega) (setc_ne (by omega) (setc_ne (by omega) (setc_ne (by omega) (setc_ne (by omega) (setc_ne (by omega) (setc_ne (by omega) h.c13))))))), (setc_ne (by omega) (setc_ne (by omega) (setc_ne (by omega) (setc_ne (by omega) (setc_ne (by omega) (setc_ne (by omega) (setc_ne (by omega) h.c14))))))), (setc_ne (by omega) (setc_ne (by omega) (setc_ne (by omega) (setc_ne (by omega) (setc_ne (by omega) (setc_ne (by omega) (setc_ne (by omega) h.c15))))))), by rw [World.frozen?_setCells]; exact h.f0, by rw [World.frozen?_setCells]; exact h.f1, by rw [World.frozen?_setCells]; exact h.f2, by rw [World.frozen?_setCells]; exact h.f3, by rw [World.frozen?_setCells]; exact h.f4, by rw [World.frozen?_setCells]; exact h.f5, by rw [World.frozen?_setCells]; exact h.f6⟩
  · have q := hin 0 (by simp); simpa using q
  · have q := hin 1 (by simp); simpa using q
  · have q := hin 2 (by simp); simpa using q
  · have q := hin 3 (by simp); simpa using q
  · have q := hin 4 (by simp); simpa using q
  · have q := hin 5 (by simp); simpa using q
  · have q := hin 6 (by simp); simpa using q

/-- A known cell is told as it is. -/
def RK (x : VT) (a : Option Addr) (c : Nat) (p : Option Addr) (f : Int) (w : World) (e : Ending) (w' : World) : Prop := e = .returned (.tuple #[.agg #[.int .i64 x.kind, .int .i64 x.num, .string x.text, .slice a x.items.length c], .pointer p, .bool true, .int .i64 f, .int .i64 0]) ∧ Below w.heap.size w w'

set_option maxRecDepth 100000 in
set_option maxHeartbeats 8000000 in
theorem rforce_known (b q : Nat) (f kd : Int) (x z : VT) (uz : Value) (a : Option Addr) (c : Nat) (p : Option Addr) (w : World) (h : DB w b true true x (.slice a x.items.length c) p kd q z uz) :
    Calls Try.prog 40 #[.pointer (some ⟨b, 0, none⟩), .int .i64 f] w (RK x a c p f w) := by
  obtain ⟨W0, hW0⟩ : ∃ W0, W0 = zbox w := ⟨_, rfl⟩
  have HW0 : Hid (W0 = w.alloc (.cells #[.int .i64 0, .int .i64 0, .string ⟨#[]⟩, .slice none 0 0] 38)) := hW0
  have hb0 : Below w.heap.size w W0 := by rw [hW0]; exact zbox_below w
  have HZ : Hid (Bx W0 w.heap.size zeroT (.slice none 0 0)) := by rw [hW0]; exact zbox_bx w
  have HS : Hid (W0.heap.size = w.heap.size + 1) := by rw [hW0]; exact zbox_size w
  have HD : Hid (DB W0 b true true x (.slice a x.items.length c) p kd q z uz) := h.keeps hb0
  obtain ⟨k0, k1, k2, k3, k4, k5, k6, _, _, _, _, _, _, _, _, _, _, _, _, _, _, _, _⟩ := HD.out
  obtain ⟨z0, z1, z2, z3, g0, g1, g2, g3⟩ := HZ.out
  have HE : Hid (RK x a c p f w (.returned (.tuple #[.agg #[.int .i64 x.kind, .int .i64 x.num, .string x.text, .slice a x.items.length c], .pointer p, .bool true, .int .i64 f, .int .i64 0])) (W0.setCells w.heap.size 0 (encP (x, .slice a x.items.length c))).drew) := ⟨rfl, by
    have hB := hb0
    exact ((((hB.setCell (p := ⟨w.heap.size, 0, none⟩) (by simp) _).setCell (p := ⟨w.heap.size, 0 + 1, none⟩) (by simp) _).setCell (p := ⟨w.heap.size, 0 + 1 + 1, none⟩) (by simp) _).setCell (p := ⟨w.heap.size, 0 + 1 + 1 + 1, none⟩) (by simp) _).drew⟩
  have Hq : Hid (Bx (W0.setCells w.heap.size 0 (encP (x, .slice a x.items.length c))).drew w.heap.size x (.slice a x.items.length c)) := (HZ.out.put (x, .slice a x.items.length c)).keeps (Below.refl _ _).drew
  have hbn : b ≠ w.heap.size := by have := h.lt; omega
  clear hW0 h hb0 HS HD
  go_enter Try.func40, Try.ntmps40
  go_upto_region 1 with fail
  rw [← HW0.out]
  clear HW0
  go_wp2_with fail
  go_region
  go_wp2_with fail
  refine bodyPost_ret (v := .tuple #[.agg #[.int .i64 x.kind, .int .i64 x.num, .string x.text, .slice a x.items.length c], .pointer p, .bool true, .int .i64 f, .int .i64 0]) ?_ rfl HE.out
  obtain ⟨q0, q1, q2, q3, _, _, _, _⟩ := Hq.out
  simp only [World.setCells, encP, Nat.zero_add, Nat.reduceAdd] at q0 q1 q2 q3
  simp [results, Try.results40, go_sem, q0, q1, q2, q3]

set_option maxRecDepth 100000 in
set_option maxHeartbeats 8000000 in
theorem rforce_dry (b q : Nat) (kd : Int) (z : VT) (uz : Value) (w : World) (h : DB w b false false zeroT (.slice none 0 0) none kd q z uz) :
    Calls Try.prog 40 #[.pointer (some ⟨b, 0, none⟩), .int .i64 0] w (FNil 0 220 w) := by
  obtain ⟨W0, hW0⟩ : ∃ W0, W0 = zbox w := ⟨_, rfl⟩
  have HW0 : Hid (W0 = w.alloc (.cells #[.int .i64 0, .int .i64 0, .string ⟨#[]⟩, .slice none 0 0] 38)) := hW0
  have hb0 : Below w.heap.size w W0 := by rw [hW0]; exact zbox_below w
  have HZ : Hid (Bx W0 w.heap.size zeroT (.slice none 0 0)) := by rw [hW0]; exact zbox_bx w
  have HS : Hid (W0.heap.size = w.heap.size + 1) := by rw [hW0]; exact zbox_size w
  have HD : Hid (DB W0 b false false zeroT (.slice none 0 0) none kd q z uz) := h.keeps hb0
  obtain ⟨k0, _, _, _, _, _, _, _, _, _, _, _, _, _, _, _, _, _, _, _, _, _, _⟩ := HD.out
  obtain ⟨z0, z1, z2, z3, g0, g1, g2, g3⟩ := HZ.out
  have HE : Hid (FNil 0 220 w (.returned (.tuple #[.agg #[.int .i64 0, .int .i64 0, .string ⟨#[]⟩, .slice none 0 0], .pointer none, .bool false, .int .i64 0, .int .i64 220])) (W0.setCells w.heap.size 0 (encP (zeroT, .slice none 0 0)))) := ⟨none, 0, rfl, by
    have hB := hb0
    exact ((((hB.setCell (p := ⟨w.heap.size, 0, none⟩) (by simp) _).setCell (p := ⟨w.heap.size, 0 + 1, none⟩) (by simp) _).setCell (p := ⟨w.heap.size, 0 + 1 + 1, none⟩) (by simp) _).setCell (p := ⟨w.heap.size, 0 + 1 + 1 + 1, none⟩) (by simp) _)⟩
  have Hq : Hid (Bx (W0.setCells w.heap.size 0 (encP (zeroT, .slice none 0 0))) w.heap.size zeroT (.slice none 0 0)) := HZ.out.put (zeroT, .slice none 0 0)
  clear hW0 h hb0 HS HD
  go_enter Try.func40, Try.ntmps40
  go_upto_region 1 with fail
  rw [← HW0.out]
  clear HW0
  go_wp2_with fail
  refine bodyPost_ret (v := .tuple #[.agg #[.int .i64 0, .int .i64 0, .string ⟨#[]⟩, .slice none 0 0], .pointer none, .bool false, .int .i64 0, .int .i64 220]) ?_ rfl HE.out
  obtain ⟨q0, q1, q2, q3, _, _, _, _⟩ := Hq.out
  simp only [World.setCells, encP, Nat.zero_add, Nat.reduceAdd] at q0 q1 q2 q3
  simp [results, Try.results40, go_sem, q0, q1, q2, q3]

/-- Behind the document's force of a cell of Iter. -/
def RForce (X : Nat → Prop) (q : Nat) (x : VT) (f b : Nat) (kd : Int) (z : VT) (uz : Value) (w : World) (e : Ending) (w' : World) : Prop :=
  KC (fun j => j = b) w w' ∧ ∃ a1 c1 b', e = .returned (.tuple #[.agg #[.int .i64 x.kind, .int .i64 x.num, .string x.text, .slice a1 x.items.length c1], .pointer (some ⟨b', 0, none⟩), .bool true, .int .i64 (f : Int), .int .i64 0]) ∧ w.heap.size ≤ b' ∧ DB w' b true true x (.slice a1 x.items.length c1) (some ⟨b', 0, none⟩) kd q z uz ∧ DB w' b' false false zeroT (.slice none 0 0) none 13 q x (.slice a1 x.items.length c1) ∧ LiesX (fun n => (X n ∧ n < w.heap.size) ∨ (w.heap.size ≤ n ∧ n ≠ b')) 16 w' x.items (.slice a1 x.items.length c1)

set_option maxRecDepth 100000 in
set_option maxHeartbeats 8000000 in
theorem rforce_lazy (X : Nat → Prop) (q f b : Nat) (hf : f < 1073741824) (kd : Int) (x z : VT) (uz : Value) (hX : ¬ X b) (w : World) (hXw : ∀ n, X n → n < w.heap.size) (h : DB w b false false zeroT (.slice none 0 0) none kd q z uz)
    (hs : ∀ V, Below w.heap.size w V → Calls Try.prog 52 #[.pointer (some ⟨b, 0, none⟩), .int .i64 (f : Int)] V (RStep X q x f V)) :
    Calls Try.prog 40 #[.pointer (some ⟨b, 0, none⟩), .int .i64 ((f + 1 : Nat) : Int)] w (RForce X q x f b kd z uz w) := by
  obtain ⟨W0, hW0⟩ : ∃ W0, W0 = zbox w := ⟨_, rfl⟩
  have HW0 : Hid (W0 = w.alloc (.cells #[.int .i64 0, .int .i64 0, .string ⟨#[]⟩, .slice none 0 0] 38)) := hW0
  have hb0 : Below w.heap.size w W0 := by rw [hW0]; exact zbox_below w
  have HZ : Hid (Bx W0 w.heap.size zeroT (.slice none 0 0)) := by rw [hW0]; exact zbox_bx w
  have HS : Hid (W0.heap.size = w.heap.size + 1) := by rw [hW0]; exact zbox_size w
  have HD : Hid (DB W0 b false false zeroT (.slice none 0 0) none kd q z uz) := h.keeps hb0
  have HSt : Hid (Calls Try.prog 52 #[.pointer (some ⟨b, 0, none⟩), .int .i64 (f : Int)] W0 (RStep X q x f W0)) := hs W0 hb0
  obtain ⟨k0, _, _, _, _, _, _, _, _, _, _, _, _, _, _, _, _, _, _, _, _, _, _⟩ := HD.out
  have e1 : IntKind.i64.wrap (((f + 1 : Nat) : Int) - 1) = (f : Int) := by rw [IntKind.wrap_i64]; omega
  have e0 : ¬ ((f + 1 : Nat) : Int) < 1 := by omega
  have hbl := h.lt
  have HX : Hid (¬ X b ∧ ∀ n, X n → n < w.heap.size) := ⟨hX, hXw⟩
  have Hb0 : Hid (Below w.heap.size w W0 ∧ b < w.heap.size) := ⟨hb0, hbl⟩
  obtain ⟨F, hF⟩ : ∃ F : Int, F = ((f + 1 : Nat) : Int) := ⟨_, rfl⟩
  rw [← hF] at e1 e0 ⊢
  clear hF hW0 h hb0 hs hbl hX hXw
  go_enter Try.func40, Try.ntmps40
  go_upto_region 1 with fail
  rw [← HW0.out]
  clear HW0
  go_wp2_with fail
  refine Calls.mono HSt.out ?_
  rintro e w1 ⟨hg1, a1, c1, b', rfl, hb', hdb', hlx⟩
  have hsz := HS.out
  have hbb := Hb0.out
  obtain ⟨n9, hn9⟩ : ∃ n9, n9 = w1.heap.size := ⟨_, rfl⟩
  obtain ⟨W2, hW2⟩ : ∃ W2, W2 = w1.alloc (.cells #[.int .i64 x.kind, .int .i64 x.num, .string x.text, .slice a1 x.items.length c1] 38) := ⟨_, rfl⟩
  have HW2 : Hid (W2 = w1.alloc (.cells #[.int .i64 x.kind, .int .i64 x.num, .string x.text, .slice a1 x.items.length c1] 38)) := hW2
  have hal : Below w1.heap.size w1 W2 := by rw [hW2]; exact ((Grew.refl _).alloc _).below
  have hg2 : Below W0.heap.size W0 W2 := hg1.trans (hal.mono hg1.size)
  have hs1 := hg1.size
  have HB9 : Hid (Bx W2 n9 x (.slice a1 x.items.length c1)) := by rw [hW2, hn9]; exact bx_alloc _ _ _
  have HD2 : Hid (DB W2 b false false zeroT (.slice none 0 0) none kd q z uz) := HD.out.keeps hg2
  have HN2 : Hid (DB W2 b' false false zeroT (.slice none 0 0) none 13 q x (.slice a1 x.items.length c1)) := hdb'.keeps hal
  have HL2 : Hid (LiesX (fun n => X n ∨ (W0.heap.size ≤ n ∧ n ≠ b')) 16 W2 x.items (.slice a1 x.items.length c1)) := LiesX.mono (fun n hn => by rcases hn with ⟨h1, _⟩ | h1; exact .inl h1; exact .inr h1) (hlx.keeps hal)
  have HZ2 : Hid (Bx W2 w.heap.size zeroT (.slice none 0 0)) := HZ.out.keeps hg2
  have hb9 : n9 ≠ b := by omega
  have hbw : b ≠ w.heap.size := by omega
  have hbb' : b' ≠ b := by omega
  obtain ⟨W3, hW3⟩ : ∃ W3, W3 = W2.setCells b 0 [.bool true, .bool true, .int .i64 x.kind, .int .i64 x.num, .string x.text, .slice a1 x.items.length c1, .pointer (some ⟨b', 0, none⟩)] := ⟨_, rfl⟩
  have HW3 : Hid (W3 = ((((((W2.setCell ⟨b, 0, none⟩ (.bool true)).setCell ⟨b, 1, none⟩ (.bool true)).setCell ⟨b, 2, none⟩ (.int .i64 x.kind)).setCell ⟨b, 3, none⟩ (.int .i64 x.num)).setCell ⟨b, 4, none⟩ (.string x.text)).setCell ⟨b, 5, none⟩ (.slice a1 x.items.length c1)).setCell ⟨b, 6, none⟩ (.pointer (some ⟨b', 0, none⟩))) := hW3
  have HD3 : Hid (DB W3 b true true x (.slice a1 x.items.length c1) (some ⟨b', 0, none⟩) kd q z uz) := by rw [hW3]; exact HD2.out.put x (.slice a1 x.items.length c1) (some ⟨b', 0, none⟩)
  have HN3 : Hid (DB W3 b' false false zeroT (.slice none 0 0) none 13 q x (.slice a1 x.items.length c1)) := by rw [hW3]; exact HN2.out.other hbb' _
  have HL3 : Hid (LiesX (fun n => X n ∨ (W0.heap.size ≤ n ∧ n ≠ b')) 16 W3 x.items (.slice a1 x.items.length c1)) := by
    rw [hW3]
    refine LiesX.set (g := b) (o := 0) ?_ HL2.out
    rintro (h | h)
    · exact HX.out.1 h
    · omega
  have HZ3 : Hid (Bx W3 w.heap.size zeroT (.slice none 0 0)) := by rw [hW3]; exact HZ2.out.other (fun e => hbw e.symm) _
  have HK3 : Hid (KC (fun j => j = b) w W3) := by
    rw [hW3]
    exact (KC.set (B := fun j => j = b) (o := 0 + 1 + 1 + 1 + 1 + 1 + 1) (KC.set (B := fun j => j = b) (o := 0 + 1 + 1 + 1 + 1 + 1) (KC.set (B := fun j => j = b) (o := 0 + 1 + 1 + 1 + 1) (KC.set (B := fun j => j = b) (o := 0 + 1 + 1 + 1) (KC.set (B := fun j => j = b) (o := 0 + 1 + 1) (KC.set (B := fun j => j = b) (o := 0 + 1) (KC.set (B := fun j => j = b) (o := 0) ((KC.of_below hbb.1).trans (KC.of_below hg2)) (.inl rfl) _) (.inl rfl) _) (.inl rfl) _) (.inl rfl) _) (.inl rfl) _) (.inl rfl) _) (.inl rfl) _)
  have Hbb : Hid (w.heap.size ≤ b' ∧ b' ≠ w.heap.size ∧ b < w.heap.size) := ⟨by omega, by omega, hbb.2⟩
  obtain ⟨y0, y1, y2, y3, _, _, _, _⟩ := HB9.out
  obtain ⟨k0, k1, k2, k3, k4, k5, k6, _, _, _, _, _, _, _, _, _, f0, f1, f2, f3, f4, f5, f6⟩ := HD2.out
  clear hg1 hb' hdb' hlx hsz hbb hal hg2 hs1 hW2 hW3 HSt HD HZ
  go_upto_region 7 with fail
  rw [← HW2.out, ← hn9]
  clear HW2 hn9
  go_upto_region 14 with fail
  rw [← HW3.out]
  clear HW3 k0 k1 k2 k3 k4 k5 k6 f0 f1 f2 f3 f4 f5 f6 y0 y1 y2 y3 HD2 HN2 HL2 HZ2 HB9
  obtain ⟨k0, k1, k2, k3, k4, k5, k6, _, _, _, _, _, _, _, _, _, _, _, _, _, _, _, _⟩ := HD3.out
  obtain ⟨z0, z1, z2, z3, g0, g1, g2, g3⟩ := HZ3.out
  have HE : Hid (RForce X q x f b kd z uz w (.returned (.tuple #[.agg #[.int .i64 x.kind, .int .i64 x.num, .string x.text, .slice a1 x.items.length c1], .pointer (some ⟨b', 0, none⟩), .bool true, .int .i64 (f : Int), .int .i64 0])) (W3.setCells w.heap.size 0 (encP (x, .slice a1 x.items.length c1))).drew) := by
    have hh := Hbb.out
    have hws := HS.out
    refine ⟨KC.drew (KC.set (B := fun j => j = b) (o := 0 + 1 + 1 + 1) (KC.set (B := fun j => j = b) (o := 0 + 1 + 1) (KC.set (B := fun j => j = b) (o := 0 + 1) (KC.set (B := fun j => j = b) (o := 0) HK3.out (.inr (Nat.le_refl _)) _) (.inr (Nat.le_refl _)) _) (.inr (Nat.le_refl _)) _) (.inr (Nat.le_refl _)) _), a1, c1, b', rfl, hh.1, (HD3.out.other hbw _).keeps (Below.refl _ _).drew, (HN3.out.other hh.2.1 _).keeps (Below.refl _ _).drew, ?_⟩
    refine LiesX.keeps (Below.refl _ _).drew (LiesX.mono (fun n hn => ?_) (LiesX.set (g := w.heap.size) (o := 0) (vs := encP (x, .slice a1 x.items.length c1)) ?_ HL3.out))
    · rcases hn with h | h
      · exact .inl ⟨h, HX.out.2 n h⟩
      · exact .inr ⟨by omega, h.2⟩
    · rintro (h | h)
      · have := HX.out.2 _ h; omega
      · omega
  have Hq : Hid (Bx (W3.setCells w.heap.size 0 (encP (x, .slice a1 x.items.length c1))).drew w.heap.size x (.slice a1 x.items.length c1)) := (HZ3.out.put (x, .slice a1 x.items.length c1)).keeps (Below.refl _ _).drew
  clear HD3 HN3 HL3 HZ3 HK3 Hbb HX HS Hb0
  go_wp2_with fail
  go_region
  go_wp2_with fail
  refine bodyPost_ret (v := .tuple #[.agg #[.int .i64 x.kind, .int .i64 x.num, .string x.text, .slice a1 x.items.length c1], .pointer (some ⟨b', 0, none⟩), .bool true, .int .i64 (f : Int), .int .i64 0]) ?_ rfl HE.out
  obtain ⟨q0, q1, q2, q3, _, _, _, _⟩ := Hq.out
  simp only [World.setCells, encP, Nat.zero_add, Nat.reduceAdd] at q0 q1 q2 q3
  simp [results, Try.results40, go_sem, q0, q1, q2, q3]

end Go.Proofs.Ytbhfbjbigafnpaa

namespace Go.Proofs.Ytbhfbjbigafnpaa
open Go.RowKit Go.Shelf

/-- The wrapper tells what force tells. -/
def RF (B : Nat → Prop) (P2 : World → Prop) (x : VT) (a : Option Addr) (c : Nat) (p : Option Addr) (t : Bool) (l E : Int) (_w : World) (e : Ending) (w' : World) : Prop :=
  e = .returned (.tuple #[.agg #[.int .i64 x.kind, .int .i64 x.num, .string x.text, .slice a x.items.length c], .pointer p, .bool t, .int .i64 l, .int .i64 E]) ∧ ∃ w2, P2 w2 ∧ KC B w2 w'

set_option maxRecDepth 100000 in
set_option maxHeartbeats 8000000 in
theorem rForce_of (b : Nat) (f : Nat) (hf : f ≤ 1073741824) (P : VT → Option Addr → Nat → Option Addr → Bool → Int → Int → World → Prop) (w : World)
    (h : Calls Try.prog 40 #[.pointer (some ⟨b, 0, none⟩), .int .i64 (f : Int)] (zbox w) fun e w2 => ∃ x a c p t l E, e = .returned (.tuple #[.agg #[.int .i64 x.kind, .int .i64 x.num, .string x.text, .slice a x.items.length c], .pointer p, .bool t, .int .i64 l, .int .i64 E]) ∧ P x a c p t l E w2 ∧ Bx w2 w.heap.size zeroT (.slice none 0 0)) :
    Calls Try.prog 27 #[.pointer (some ⟨b, 0, none⟩), .int .i64 (f : Int)] w fun e w' => ∃ x a c p t l E, RF (fun j => j = w.heap.size) (P x a c p t l E) x a c p t l E w e w' := by
  obtain ⟨W0, hW0⟩ : ∃ W0, W0 = zbox w := ⟨_, rfl⟩
  have HW0 : Hid (W0 = w.alloc (.cells #[.int .i64 0, .int .i64 0, .string ⟨#[]⟩, .slice none 0 0] 38)) := hW0
  have HF : Hid _ := h
  rw [← hW0] at HF
  have h0 : ¬ (f : Int) < 0 := by omega
  have h1 : ¬ (1073741824 : Int) < (f : Int) := by omega
  clear hW0 h hf
  go_enter Try.func27, Try.ntmps27
  go_upto_region 1 with fail
  rw [← HW0.out]
  clear HW0
  go_wp2_with fail
  refine Calls.mono HF.out ?_
  rintro e w2 ⟨x, a, c, p, t, l, E, rfl, hP, hbx⟩
  have HE : Hid (∃ x' a' c' p' t' l' E', RF (fun j => j = w.heap.size) (P x' a' c' p' t' l' E') x' a' c' p' t' l' E' w (.returned (.tuple #[.agg #[.int .i64 x.kind, .int .i64 x.num, .string x.text, .slice a x.items.length c], .pointer p, .bool t, .int .i64 l, .int .i64 E])) (w2.setCells w.heap.size 0 (encP (x, .slice a x.items.length c)))) := ⟨x, a, c, p, t, l, E, rfl, w2, hP, (KC.set (B := fun j => j = w.heap.size) (o := 0 + 1 + 1 + 1) (KC.set (B := fun j => j = w.heap.size) (o := 0 + 1 + 1) (KC.set (B := fun j => j = w.heap.size) (o := 0 + 1) (KC.set (B := fun j => j = w.heap.size) (o := 0) (KC.refl _ w2) (.inl rfl) _) (.inl rfl) _) (.inl rfl) _) (.inl rfl) _)⟩
  have Hq : Hid (Bx (w2.setCells w.heap.size 0 (encP (x, .slice a x.items.length c))) w.heap.size x (.slice a x.items.length c)) := hbx.put (x, .slice a x.items.length c)
  obtain ⟨z0, z1, z2, z3, g0, g1, g2, g3⟩ := hbx
  clear hP HF
  go_wp2_with fail
  refine bodyPost_ret (v := .tuple #[.agg #[.int .i64 x.kind, .int .i64 x.num, .string x.text, .slice a x.items.length c], .pointer p, .bool t, .int .i64 l, .int .i64 E]) ?_ rfl HE.out
  obtain ⟨q0, q1, q2, q3, _, _, _, _⟩ := Hq.out
  simp only [World.setCells, encP, Nat.zero_add, Nat.reduceAdd] at q0 q1 q2 q3
  simp [results, Try.results27, go_sem, q0, q1, q2, q3]

end Go.Proofs.Ytbhfbjbigafnpaa

namespace Go.Proofs.Ytbhfbjbigafnpaa
open Go.RowKit Go.Shelf

theorem rForce_d (b q : Nat) (kd : Int) (z : VT) (uz : Value) (w : World) (h : DB w b false false zeroT (.slice none 0 0) none kd q z uz) :
    Calls Try.prog 27 #[.pointer (some ⟨b, 0, none⟩), .int .i64 0] w (FNil 0 220 w) := by
  have h1 := rforce_dry b q kd z uz (zbox w) (h.keeps (zbox_below w))
  have h2 := rForce_of b 0 (by omega) (fun x a c p t l E w2 => x = zeroT ∧ p = none ∧ t = false ∧ l = 0 ∧ E = 220 ∧ Below (zbox w).heap.size (zbox w) w2) w (Calls.mono h1 fun e w2 hp => by
    obtain ⟨a, c, he, hb⟩ := hp
    exact ⟨zeroT, a, c, none, false, 0, 220, he, ⟨rfl, rfl, rfl, rfl, rfl, hb⟩, (zbox_bx w).keeps hb⟩)
  refine Calls.mono h2 ?_
  rintro e w' ⟨x, a, c, p, t, l, E, rfl, w2, ⟨rfl, rfl, rfl, rfl, rfl, hb⟩, hk⟩
  have hb2 : Below w.heap.size w w2 := (zbox_below w).trans (hb.mono (zbox_below w).size)
  exact ⟨a, c, rfl, hb2.trans (hk.below (fun j hj => by omega) hb2.size)⟩

end Go.Proofs.Ytbhfbjbigafnpaa

namespace Go.Proofs.Ytbhfbjbigafnpaa
open Go.RowKit Go.Shelf

set_option maxRecDepth 100000 in
set_option maxHeartbeats 4000000 in
theorem rempty_any (w : World) : Calls Try.prog 36 #[] w fun e w' => e = .returned (.pointer (some ⟨w.heap.size, 0, none⟩)) ∧ Below w.heap.size w w' ∧ DB w' w.heap.size true false zeroT (.slice none 0 0) none 0 0 zeroT (.slice none 0 0) := by
  have HE : Hid (Below w.heap.size w (w.alloc (.cells #[.bool true, .bool false, .int .i64 0, .int .i64 0, .string ⟨#[]⟩, .slice none 0 0, .pointer none, .int .i64 0, .int .i64 0, .int .i64 0, .int .i64 0, .int .i64 0, .string ⟨#[]⟩, .slice none 0 0, .slice none 0 0, .slice none 0 0] 77)) ∧ DB (w.alloc (.cells #[.bool true, .bool false, .int .i64 0, .int .i64 0, .string ⟨#[]⟩, .slice none 0 0, .pointer none, .int .i64 0, .int .i64 0, .int .i64 0, .int .i64 0, .int .i64 0, .string ⟨#[]⟩, .slice none 0 0, .slice none 0 0, .slice none 0 0] 77)) w.heap.size true false zeroT (.slice none 0 0) none 0 0 zeroT (.slice none 0 0)) := ⟨((Grew.refl _).alloc _).below, db_alloc w 77 true false zeroT (.slice none 0 0) none 0 0 zeroT (.slice none 0 0)⟩
  go_enter Try.func36, Try.ntmps36
  go_wp2_with fail
  go_ret
  exact ⟨rfl, HE.out⟩

/-- The program's chain of known cells. -/
def ChP (w : World) : List VT → Nat → Prop
  | [], b => CB w b .nilIface 0 zeroT (.slice none 0 0) none
  | x :: xs, b => ∃ a c b', CB w b .nilIface 0 x (.slice a x.items.length c) (some ⟨b', 0, none⟩) ∧ Lies 16 w x.items (.slice a x.items.length c) ∧ rightV 16 x = true ∧ ChP w xs b'

/-- The document's. -/
def ChD (w : World) : List VT → Nat → Prop
  | [], b => DB w b true false zeroT (.slice none 0 0) none 0 0 zeroT (.slice none 0 0)
  | x :: xs, b => ∃ a c b', DB w b true true x (.slice a x.items.length c) (some ⟨b', 0, none⟩) 0 0 zeroT (.slice none 0 0) ∧ Lies 16 w x.items (.slice a x.items.length c) ∧ ChD w xs b'

theorem ChP.keeps {w w' : World} (hb : Below w.heap.size w w') : ∀ (xs : List VT) (b : Nat), ChP w xs b → ChP w' xs b
  | [], _, h => CB.keeps h hb
  | _ :: xs, _, ⟨a, c, b', h1, h2, h3, h4⟩ => ⟨a, c, b', h1.keeps hb, Lies.keeps hb _ _ _ h2, h3, ChP.keeps hb xs b' h4⟩

theorem ChD.keeps {w w' : World} (hb : Below w.heap.size w w') : ∀ (xs : List VT) (b : Nat), ChD w xs b → ChD w' xs b
  | [], _, h => DB.keeps h hb
  | _ :: xs, _, ⟨a, c, b', h1, h2, h4⟩ => ⟨a, c, b', h1.keeps hb, Lies.keeps hb _ _ _ h2, ChD.keeps hb xs b' h4⟩

theorem ChP.c0 {w : World} : ∀ {xs : List VT} {b : Nat}, ChP w xs b → w.cell? ⟨b, 0, none⟩ = some .nilIface
  | [], _, h => CB.c0 h
  | _ :: _, _, ⟨_, _, _, h1, _⟩ => h1.c0

set_option maxRecDepth 100000 in
set_option maxHeartbeats 8000000 in
theorem rforce_empty (b : Nat) (f : Int) (w : World) (h : DB w b true false zeroT (.slice none 0 0) none 0 0 zeroT (.slice none 0 0)) :
    Calls Try.prog 40 #[.pointer (some ⟨b, 0, none⟩), .int .i64 f] w (FNil f 0 w) := by
  obtain ⟨W0, hW0⟩ : ∃ W0, W0 = zbox w := ⟨_, rfl⟩
  have HW0 : Hid (W0 = w.alloc (.cells #[.int .i64 0, .int .i64 0, .string ⟨#[]⟩, .slice none 0 0] 38)) := hW0
  have hb0 : Below w.heap.size w W0 := by rw [hW0]; exact zbox_below w
  have HZ : Hid (Bx W0 w.heap.size zeroT (.slice none 0 0)) := by rw [hW0]; exact zbox_bx w
  have k0 := (h.keeps hb0).c0
  have k1 := (h.keeps hb0).c1
  obtain ⟨z0, z1, z2, z3, g0, g1, g2, g3⟩ := HZ.out
  have HE : Hid (FNil f 0 w (.returned (.tuple #[.agg #[.int .i64 0, .int .i64 0, .string ⟨#[]⟩, .slice none 0 0], .pointer none, .bool false, .int .i64 f, .int .i64 0])) (W0.setCells w.heap.size 0 (encP (zeroT, .slice none 0 0)))) := ⟨none, 0, rfl, (((hb0.setCell (p := ⟨w.heap.size, 0, none⟩) (by simp) _).setCell (p := ⟨w.heap.size, 0 + 1, none⟩) (by simp) _).setCell (p := ⟨w.heap.size, 0 + 1 + 1, none⟩) (by simp) _).setCell (p := ⟨w.heap.size, 0 + 1 + 1 + 1, none⟩) (by simp) _⟩
  have Hq : Hid (Bx (W0.setCells w.heap.size 0 (encP (zeroT, .slice none 0 0))) w.heap.size zeroT (.slice none 0 0)) := HZ.out.put (zeroT, .slice none 0 0)
  clear hW0 h hb0
  go_enter Try.func40, Try.ntmps40
  go_upto_region 1 with fail
  rw [← HW0.out]
  clear HW0
  go_wp2_with fail
  refine bodyPost_ret (v := .tuple #[.agg #[.int .i64 0, .int .i64 0, .string ⟨#[]⟩, .slice none 0 0], .pointer none, .bool false, .int .i64 f, .int .i64 0]) ?_ rfl HE.out
  obtain ⟨q0, q1, q2, q3, _, _, _, _⟩ := Hq.out
  simp only [World.setCells, encP, Nat.zero_add, Nat.reduceAdd] at q0 q1 q2 q3
  simp [results, Try.results40, go_sem, q0, q1, q2, q3]

theorem rForce_empty (b f : Nat) (hf : f ≤ 1073741824) (w : World) (h : DB w b true false zeroT (.slice none 0 0) none 0 0 zeroT (.slice none 0 0)) :
    Calls Try.prog 27 #[.pointer (some ⟨b, 0, none⟩), .int .i64 (f : Int)] w (FNil f 0 w) := by
  have h1 := rforce_empty b f (zbox w) (h.keeps (zbox_below w))
  have h2 := rForce_of b f hf (fun x a c p t l E w2 => x = zeroT ∧ p = none ∧ t = false ∧ l = (f : Int) ∧ E = 0 ∧ Below (zbox w).heap.size (zbox w) w2) w (Calls.mono h1 fun e w2 hp => by
    obtain ⟨a, c, he, hb⟩ := hp
    exact ⟨zeroT, a, c, none, false, f, 0, he, ⟨rfl, rfl, rfl, rfl, rfl, hb⟩, (zbox_bx w).keeps hb⟩)
  refine Calls.mono h2 ?_
  rintro e w' ⟨x, a, c, p, t, l, E, rfl, w2, ⟨rfl, rfl, rfl, rfl, rfl, hb⟩, hk⟩
  have hb2 : Below w.heap.size w w2 := (zbox_below w).trans (hb.mono (zbox_below w).size)
  exact ⟨a, c, rfl, hb2.trans (hk.below (fun j hj => by omega) hb2.size)⟩

theorem rForce_known (b f q : Nat) (kd : Int) (hf : f ≤ 1073741824) (x z : VT) (uz : Value) (a : Option Addr) (c : Nat) (p : Option Addr) (w : World) (h : DB w b true true x (.slice a x.items.length c) p kd q z uz) :
    Calls Try.prog 27 #[.pointer (some ⟨b, 0, none⟩), .int .i64 (f : Int)] w (RK x a c p f w) := by
  have h1 := rforce_known b q f kd x z uz a c p (zbox w) (h.keeps (zbox_below w))
  have h2 := rForce_of b f hf (fun x' a' c' p' t l E w2 => x' = x ∧ a' = a ∧ c' = c ∧ p' = p ∧ t = true ∧ l = (f : Int) ∧ E = 0 ∧ Below (zbox w).heap.size (zbox w) w2) w (Calls.mono h1 fun e w2 hp => ⟨x, a, c, p, true, f, 0, hp.1, ⟨rfl, rfl, rfl, rfl, rfl, rfl, rfl, hp.2⟩, (zbox_bx w).keeps hp.2⟩)
  refine Calls.mono h2 ?_
  rintro e w' ⟨x', a', c', p', t, l, E, rfl, w2, ⟨rfl, rfl, rfl, rfl, rfl, rfl, rfl, hb⟩, hk⟩
  have hb2 : Below w.heap.size w w2 := (zbox_below w).trans (hb.mono (zbox_below w).size)
  exact ⟨rfl, hb2.trans (hk.below (fun j hj => by omega) hb2.size)⟩

end Go.Proofs.Ytbhfbjbigafnpaa

