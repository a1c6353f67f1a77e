/-
  The document's force.
-/
import Derived.Test.YteibdkkmaalpbaaLazyF
import Derived.Test.YteibdkkmaalpbaaUtf
import Derived.Test.YteibdkkmaalpbaaRTimes
import Derived.Test.YteibdkkmaalpbaaLevel
namespace Go.Proofs.Yteibdkkmaalpbaa
open Go.RowKit Go.Shelf

abbrev nil0 : VT := ⟨2, 0, ⟨#[]⟩, []⟩

theorem nil0_err : timesE 16 1 0 nil0 = 0 := by kernel_rfl
theorem nil0_right : rightV 16 nil0 = true := by kernel_rfl

set_option maxRecDepth 100000 in
set_option maxHeartbeats 8000000 in
theorem speaks22_any (w : World) : Calls Try.prog 6 #[] w fun e w' => e = .returned (.bool true) ∧ Below w.heap.size w w' := by
  have HI : Hid (∀ V, Calls Try.prog 18 #[.int .i64 0] V fun e w' => e = .returned (.agg #[.int .i64 2, .int .i64 0, .string ⟨#[]⟩, .slice none 0 0]) ∧ Grew V w') := fun V => int_any 0 V
  have HIt : Hid (∀ V, Calls Try.prog 4 #[.int .i64 1, .agg #[.int .i64 2, .int .i64 0, .string ⟨#[]⟩, .slice none 0 0]] V (IterPost 0 1 nil0 V)) := fun V => by
    have h9 := iter_any 16 1 nil0 (.slice none 0 0) V (lies_z22 V) (by show (0 : Nat) ≤ _; omega)
    rw [nil0_err] at h9
    exact h9
  go_enter Try.func6, Try.ntmps6
  go_wp2_with fail
  refine Calls.mono (HI.out _) ?_
  rintro e w1 ⟨rfl, hg1⟩
  have hb1 : Below w.heap.size w w1 := hg1.below
  clear hg1 HI
  go_wp2_with fail
  refine Calls.mono (HIt.out _) ?_
  rintro e w2 ⟨hg2, ⟨h0, _⟩ | ⟨_, a, c, b, rfl, hb, hcb, hlx⟩⟩
  · exact absurd rfl h0
  have hb2 : Below w.heap.size w w2 := hb1.trans (hg2.mono hb1.size)
  have HF0 : Hid (Calls Try.prog 7 #[.pointer (some ⟨b, 0, none⟩), .int .i64 0] w2 (FNil 0 220 w2)) := Force_dry b _ _ w2 hcb.c0
  have HF1 : Hid (∀ V, Below w2.heap.size w2 V → Calls Try.prog 7 #[.pointer (some ⟨b, 0, none⟩), .int .i64 1] V (LPost 1 nil0 0 b V)) := fun V hV => Force_lazy 1 0 0 b (by omega) (by omega) (by omega) nil0 a c V (hcb.keeps hV) (LiesX.mono (fun n hn => hn.2) (hlx.keeps hV)) nil0_right
  have Hb : Hid (w.heap.size ≤ b ∧ b < w2.heap.size) := ⟨Nat.le_trans hb1.size hb, hcb.lt⟩
  clear hg2 hb hcb hlx hb1 HIt
  go_wp2_with fail
  refine Calls.mono HF0.out ?_
  rintro e w3 ⟨a3, c3, rfl, hg3⟩
  obtain ⟨W4, hW4⟩ : ∃ W4, W4 = w3.alloc (.cells #[.int .i64 0, .int .i64 0, .string ⟨#[]⟩, .slice a3 0 c3] 24) := ⟨_, rfl⟩
  have HW4 : Hid (W4 = w3.alloc (.cells #[.int .i64 0, .int .i64 0, .string ⟨#[]⟩, .slice a3 0 c3] 24)) := hW4
  have hal : Below w3.heap.size w3 W4 := by rw [hW4]; exact ((Grew.refl _).alloc _).below
  have hg4 : Below w2.heap.size w2 W4 := hg3.trans (hal.mono hg3.size)
  have hb4 : Below w.heap.size w W4 := hb2.trans (hg4.mono hb2.size)
  clear hW4 hal hg3 HF0 hb2
  go_upto_region 5 with fail
  rw [← HW4.out]
  clear HW4
  go_wp2_with fail
  refine Calls.mono (HF1.out _ hg4) ?_
  rintro e w5 ⟨a5, c5, b', a1, c1, a2, c2, rfl, hk, hb', hcb, hcb', _, _, _⟩
  have hbb := Hb.out
  have hb5 : Below w.heap.size w w5 := hb4.trans (hk.below (fun j hj => by omega) hb4.size)
  obtain ⟨n8, hn8⟩ : ∃ n8, n8 = w5.heap.size := ⟨_, rfl⟩
  obtain ⟨W6, hW6⟩ : ∃ W6, W6 = w5.alloc (.cells #[.int .i64 2, .int .i64 0, .string ⟨#[]⟩, .slice a5 0 c5] 24) := ⟨_, rfl⟩
  have HW6 : Hid (W6 = w5.alloc (.cells #[.int .i64 2, .int .i64 0, .string ⟨#[]⟩, .slice a5 0 c5] 24)) := hW6
  have hal : Below w5.heap.size w5 W6 := by rw [hW6]; exact ((Grew.refl _).alloc _).below
  have y1 : W6.cell? ⟨n8, 1, none⟩ = some (.int .i64 0) := by rw [hW6, hn8]; exact (bx_alloc w5 nil0 (.slice a5 0 c5)).c1
  have HY : Hid (Calls Try.prog 10 #[.pointer (some ⟨b, 0, none⟩)] W6 fun e w' => e = .returned (.bool true) ∧ w' = W6) := forced_yes b W6 (hcb.keeps hal).c0
  have HN : Hid (Calls Try.prog 10 #[.pointer (some ⟨b', 0, none⟩)] W6 fun e w' => e = .returned (.bool false) ∧ w' = W6) := forced_no b' _ _ W6 (hcb'.keeps hal).c0
  have hb6 : Below w.heap.size w W6 := hb5.trans (hal.mono hb5.size)
  clear hk hb' hcb hcb' hbb hb5 hal hW6 hb4 hg4 HF1 Hb
  go_upto_region 6 with fail
  rw [← HW6.out, ← hn8]
  clear HW6 hn8
  go_wp2_with fail
  refine Calls.mono HY.out ?_
  rintro e w9 ⟨rfl, hw9⟩
  obtain rfl : W6 = w9 := hw9.symm
  clear hw9 HY
  go_wp2_with fail
  refine Calls.mono HN.out ?_
  rintro e w9 ⟨rfl, hw9⟩
  obtain rfl : W6 = w9 := hw9.symm
  clear hw9 HN
  go_wp2_with fail
  go_ret
  exact ⟨rfl, hb6⟩

end Go.Proofs.Yteibdkkmaalpbaa

namespace Go.Proofs.Yteibdkkmaalpbaa
open Go.RowKit Go.Shelf

/-- The i-th item. -/
abbrev itv (q i : Nat) (v : VT) : VT := itT (doneT q) i v

/-- A seq of Iter: cells P 0 .. P k, k of them known; all lists lie in blocks that Y holds of and that are none of the cells'. -/
structure Sq (Y : Nat → Prop) (w : World) (q : Nat) (v : VT) (k : Nat) (P : Nat → Nat) : Prop where
  q8 : q < 8
  right : rightV 16 v = true
  dp : Dp 16 v
  inj : ∀ i j, i ≤ k → j ≤ k → P i = P j → i = j
  inY : ∀ i, i ≤ k → Y (P i)
  known : ∀ i, i < k → ∃ a c, CB w (P i) .nilIface 0 (itv q i v) (.slice a (itv q i v).items.length c) (some ⟨P (i + 1), 0, none⟩) ∧ LiesX (fun n => Y n ∧ ∀ j, j ≤ k → n ≠ P j) 16 w (itv q i v).items (.slice a (itv q i v).items.length c)
  lazy : ∃ m z a c, m ≤ 1 ∧ itT (doneT q) m z = itv q k v ∧ rightV 16 z = true ∧ CB w (P k) (stepV q m z (.slice a z.items.length c)) 0 zeroT (.slice none 0 0) none ∧ LiesX (fun n => Y n ∧ ∀ j, j ≤ k → n ≠ P j) 16 w z.items (.slice a z.items.length c)

theorem Sq.lt {Y : Nat → Prop} {w : World} {q : Nat} {v : VT} {k : Nat} {P : Nat → Nat} (s : Sq Y w q v k P) (i : Nat) (hi : i ≤ k) : P i < w.heap.size := by
  by_cases h : i < k
  · obtain ⟨a, c, hc, _⟩ := s.known i h
    exact hc.lt
  · obtain rfl : i = k := by omega
    obtain ⟨m, z, a, c, _, _, _, hc, _⟩ := s.lazy
    exact hc.lt

theorem Sq.kc {Y B : Nat → Prop} {w w' : World} {q : Nat} {v : VT} {k : Nat} {P : Nat → Nat} (s : Sq Y w q v k P) (hk : KC B w w') (hB : ∀ n, n < w.heap.size → Y n → ¬ B n) : Sq Y w' q v k P := by
  have hp := fun i hi => hB (P i) (s.lt i hi) (s.inY i hi)
  refine ⟨s.q8, s.right, s.dp, s.inj, s.inY, fun i hi => ?_, ?_⟩
  · obtain ⟨a, c, hc, hl⟩ := s.known i hi
    exact ⟨a, c, hk.cb (hp i (by omega)) hc, LiesX.mono (fun n hn => hn.1) (hk.liesX (fun n hn => hB n hn.2 hn.1.1) hl.both)⟩
  · obtain ⟨m, z, a, c, h1, h2, h3, hc, hl⟩ := s.lazy
    exact ⟨m, z, a, c, h1, h2, h3, hk.cb (hp k (by omega)) hc, LiesX.mono (fun n hn => hn.1) (hk.liesX (fun n hn => hB n hn.2 hn.1.1) hl.both)⟩

theorem Sq.keeps {Y : Nat → Prop} {w w' : World} {q : Nat} {v : VT} {k : Nat} {P : Nat → Nat} (s : Sq Y w q v k P) (hb : Below w.heap.size w w') : Sq Y w' q v k P :=
  s.kc (B := fun _ => False) (KC.of_below hb) (fun _ _ _ h => h)

end Go.Proofs.Yteibdkkmaalpbaa

namespace Go.Proofs.Yteibdkkmaalpbaa
open Go.RowKit Go.Shelf

/-- As many as are known. -/
theorem Sq.len {Y : Nat → Prop} {w : World} {q : Nat} {v : VT} {k : Nat} {P : Nat → Nat} (s : Sq Y w q v k P) : Calls Try.prog 12 #[.pointer (some ⟨P 0, 0, none⟩)] w fun e w' => e = .returned (.int .i64 ((min k 65536 : Nat) : Int)) ∧ w' = w := by
  refine known_len _ P k w w (own_some22 _ w) (fun i hi => ?_) ?_
  · obtain ⟨a, c, hc, _⟩ := s.known i hi
    exact hc.c6
  · obtain ⟨m, z, a, c, _, _, _, hc, _⟩ := s.lazy
    exact hc.c6

end Go.Proofs.Yteibdkkmaalpbaa

namespace Go.Proofs.Yteibdkkmaalpbaa
open Go.RowKit Go.Shelf

/-- The document's cell: sixteen cells; N is 0, List and Subs are none. -/
structure DB (w : World) (b : Nat) (kn ok : Bool) (x : VT) (u : Value) (p : Option Addr) (kd : Int) (q : Nat) (z : VT) (uz : Value) : Prop where
  c0 : w.cell? ⟨b, 0, none⟩ = some (.bool kn)
  c1 : w.cell? ⟨b, 1, none⟩ = some (.bool ok)
  c2 : w.cell? ⟨b, 2, none⟩ = some (.int .i64 x.kind)
  c3 : w.cell? ⟨b, 3, none⟩ = some (.int .i64 x.num)
  c4 : w.cell? ⟨b, 4, none⟩ = some (.string x.text)
  c5 : w.cell? ⟨b, 5, none⟩ = some (u)
  c6 : w.cell? ⟨b, 6, none⟩ = some (.pointer p)
  c7 : w.cell? ⟨b, 7, none⟩ = some (.int .i64 kd)
  c8 : w.cell? ⟨b, 8, none⟩ = some (.int .i64 (q : Int))
  c9 : w.cell? ⟨b, 9, none⟩ = some (.int .i64 0)
  c10 : w.cell? ⟨b, 10, none⟩ = some (.int .i64 z.kind)
  c11 : w.cell? ⟨b, 11, none⟩ = some (.int .i64 z.num)
  c12 : w.cell? ⟨b, 12, none⟩ = some (.string z.text)
  c13 : w.cell? ⟨b, 13, none⟩ = some (uz)
  c14 : w.cell? ⟨b, 14, none⟩ = some (.slice none 0 0)
  c15 : w.cell? ⟨b, 15, none⟩ = some (.slice none 0 0)
  f0 : w.frozen? ⟨b, 0, none⟩ = false
  f1 : w.frozen? ⟨b, 1, none⟩ = false
  f2 : w.frozen? ⟨b, 2, none⟩ = false
  f3 : w.frozen? ⟨b, 3, none⟩ = false
  f4 : w.frozen? ⟨b, 4, none⟩ = false
  f5 : w.frozen? ⟨b, 5, none⟩ = false
  f6 : w.frozen? ⟨b, 6, none⟩ = false

theorem DB.lt {w : World} {b : Nat} {kn ok : Bool} {x : VT} {u : Value} {p : Option Addr} {kd : Int} {q : Nat} {z : VT} {uz : Value} (h : DB w b kn ok x u p kd q z uz) : b < w.heap.size := cell_lt h.c0

theorem DB.keeps {w : World} {b : Nat} {kn ok : Bool} {x : VT} {u : Value} {p : Option Addr} {kd : Int} {q : Nat} {z : VT} {uz : Value} {w' : World} (h : DB w b kn ok x u p kd q z uz) (hb : Below w.heap.size w w') : DB w' b kn ok x u p kd q z uz := by
  have hl := h.lt
  exact ⟨cell_keeps hb h.c0, cell_keeps hb h.c1, cell_keeps hb h.c2, cell_keeps hb h.c3, cell_keeps hb h.c4, cell_keeps hb h.c5, cell_keeps hb h.c6, cell_keeps hb h.c7, cell_keeps hb h.c8, cell_keeps hb h.c9, cell_keeps hb h.c10, cell_keeps hb h.c11, cell_keeps hb h.c12, cell_keeps hb h.c13, cell_keeps hb h.c14, cell_keeps hb h.c15, (hb.frozen (p := ⟨b, 0, none⟩) hl).trans h.f0, (hb.frozen (p := ⟨b, 1, none⟩) hl).trans h.f1, (hb.frozen (p := ⟨b, 2, none⟩) hl).trans h.f2, (hb.frozen (p := ⟨b, 3, none⟩) hl).trans h.f3, (hb.frozen (p := ⟨b, 4, none⟩) hl).trans h.f4, (hb.frozen (p := ⟨b, 5, none⟩) hl).trans h.f5, (hb.frozen (p := ⟨b, 6, none⟩) hl).trans h.f6⟩

theorem KC.db {B : Nat → Prop} {w : World} {b : Nat} {kn ok : Bool} {x : VT} {u : Value} {p : Option Addr} {kd : Int} {q : Nat} {z : VT} {uz : Value} {w' : World} (k : KC B w w') (hn : ¬ B b) (h : DB w b kn ok x u p kd q z uz) : DB w' b kn ok x u p kd q z uz :=
  ⟨k.cell hn h.c0, k.cell hn h.c1, k.cell hn h.c2, k.cell hn h.c3, k.cell hn h.c4, k.cell hn h.c5, k.cell hn h.c6, k.cell hn h.c7, k.cell hn h.c8, k.cell hn h.c9, k.cell hn h.c10, k.cell hn h.c11, k.cell hn h.c12, k.cell hn h.c13, k.cell hn h.c14, k.cell hn h.c15, k.frozen hn h.c0 h.f0, k.frozen hn h.c1 h.f1, k.frozen hn h.c2 h.f2, k.frozen hn h.c3 h.f3, k.frozen hn h.c4 h.f4, k.frozen hn h.c5 h.f5, k.frozen hn h.c6 h.f6⟩

theorem DB.other {w : World} {b : Nat} {kn ok : Bool} {x : VT} {u : Value} {p : Option Addr} {kd : Int} {q : Nat} {z : VT} {uz : Value} (h : DB w b kn ok x u p kd q z uz) {g o : Nat} (hg : b ≠ g) (vs : List Value) : DB (w.setCells g o vs) b kn ok x u p kd q z uz :=
  ⟨cell_other hg h.c0, cell_other hg h.c1, cell_other hg h.c2, cell_other hg h.c3, cell_other hg h.c4, cell_other hg h.c5, cell_other hg h.c6, cell_other hg h.c7, cell_other hg h.c8, cell_other hg h.c9, cell_other hg h.c10, cell_other hg h.c11, cell_other hg h.c12, cell_other hg h.c13, cell_other hg h.c14, cell_other hg h.c15, by rw [World.frozen?_setCells]; exact h.f0, by rw [World.frozen?_setCells]; exact h.f1, by rw [World.frozen?_setCells]; exact h.f2, by rw [World.frozen?_setCells]; exact h.f3, by rw [World.frozen?_setCells]; exact h.f4, by rw [World.frozen?_setCells]; exact h.f5, by rw [World.frozen?_setCells]; exact h.f6⟩

theorem db_alloc (w : World) (T : Nat) (kn ok : Bool) (x : VT) (u : Value) (p : Option Addr) (kd : Int) (q : Nat) (z : VT) (uz : Value) : DB (w.alloc (.cells #[.bool kn, .bool ok, .int .i64 x.kind, .int .i64 x.num, .string x.text, u, .pointer p, .int .i64 kd, .int .i64 (q : Int), .int .i64 0, .int .i64 z.kind, .int .i64 z.num, .string z.text, uz, .slice none 0 0, .slice none 0 0] T)) w.heap.size kn ok x u p kd q z uz := by
  refine ⟨?_, ?_, ?_, ?_, ?_, ?_, ?_, ?_, ?_, ?_, ?_, ?_, ?_, ?_, ?_, ?_, ?_, ?_, ?_, ?_, ?_, ?_, ?_⟩ <;> simp

/-- What a step of the document's Iter tells. -/
def RStep (X : Nat → Prop) (q : Nat) (x : VT) (f : Int) (w : World) (e : Ending) (w' : World) : Prop :=
  Below w.heap.size w w' ∧ ∃ a c b', e = .returned (.tuple #[.agg #[.int .i64 x.kind, .int .i64 x.num, .string x.text, .slice a x.items.length c], .pointer (some ⟨b', 0, none⟩), .bool true, .int .i64 f, .int .i64 0]) ∧ w.heap.size ≤ b' ∧ DB w' b' false false zeroT (.slice none 0 0) none 13 q x (.slice a x.items.length c) ∧ LiesX (fun n => (X n ∧ n < w.heap.size) ∨ (w.heap.size ≤ n ∧ n ≠ b')) 16 w' x.items (.slice a x.items.length c)

set_option maxRecDepth 100000 in
set_option maxHeartbeats 8000000 in
theorem rstep1 (X : Nat → Prop) (q b : Nat) (f : Int) (z : VT) (a : Option Addr) (c : Nat) (w : World) (h : DB w b false false zeroT (.slice none 0 0) none 1 q z (.slice a z.items.length c)) (hl : LiesX X 16 w z.items (.slice a z.items.length c)) :
    Calls Try.prog 33 #[.pointer (some ⟨b, 0, none⟩), .int .i64 f] w (RStep X q z f w) := by
  obtain ⟨W0, hW0⟩ : ∃ W0, W0 = zbox w := ⟨_, rfl⟩
  have HW0 : Hid (W0 = w.alloc (.cells #[.int .i64 0, .int .i64 0, .string ⟨#[]⟩, .slice none 0 0] 24)) := hW0
  have hb0 : Below w.heap.size w W0 := by rw [hW0]; exact zbox_below w
  have HZ : Hid (Bx W0 w.heap.size zeroT (.slice none 0 0)) := by rw [hW0]; exact zbox_bx w
  have HS : Hid (W0.heap.size = w.heap.size + 1) := by rw [hW0]; exact zbox_size w
  have HD : Hid (DB W0 b false false zeroT (.slice none 0 0) none 1 q z (.slice a z.items.length c)) := h.keeps hb0
  have HL : Hid (LiesX (fun n => X n ∧ n < w.heap.size) 16 W0 z.items (.slice a z.items.length c)) := hl.both.keeps hb0
  obtain ⟨_, _, _, _, _, _, _, k7, k8, _, k10, k11, k12, k13, _, _, _, _, _, _, _, _, _⟩ := HD.out
  obtain ⟨z0, z1, z2, z3, g0, g1, g2, g3⟩ := HZ.out
  have hbl := h.lt
  have hbn : b ≠ w.heap.size := by omega
  have Hb0 : Hid (Below w.heap.size w W0) := hb0
  clear hW0 h hl hbl hb0
  go_enter Try.func33, Try.ntmps33
  go_upto_region 1 with fail
  rw [← HW0.out]
  clear HW0
  go_wp2_with fail
  have nb : b < W0.heap.size := cell_lt k10
  have nz : w.heap.size < W0.heap.size := by have h9 := cell_lt z0; simpa using h9
  go_region
  obtain ⟨WS, hWS⟩ : ∃ WS, WS = W0.setCells w.heap.size 0 (encP (z, .slice a z.items.length c)) := ⟨_, rfl⟩
  have hsz : WS.heap.size = W0.heap.size := by rw [hWS]; simp [World.setCells, encP, World.setCell]
  have hbx : Bx WS w.heap.size z (.slice a z.items.length c) := by rw [hWS]; exact HZ.out.put (z, .slice a z.items.length c)
  have hbS : Below w.heap.size w WS := by rw [hWS]; exact ((((Hb0.out.setCell (p := ⟨w.heap.size, 0, none⟩) (by simp) _).setCell (p := ⟨w.heap.size, 0 + 1, none⟩) (by simp) _).setCell (p := ⟨w.heap.size, 0 + 1 + 1, none⟩) (by simp) _).setCell (p := ⟨w.heap.size, 0 + 1 + 1 + 1, none⟩) (by simp) _)
  have hlS : LiesX (fun n => X n ∧ n < w.heap.size) 16 WS z.items (.slice a z.items.length c) := by rw [hWS]; exact LiesX.set (g := w.heap.size) (by omega) HL.out
  have hal : Below WS.heap.size WS (WS.alloc (.cells #[.bool false, .bool false, .int .i64 0, .int .i64 0, .string ⟨#[]⟩, .slice none 0 0, .pointer none, .int .i64 13, .int .i64 (q : Int), .int .i64 0, .int .i64 z.kind, .int .i64 z.num, .string z.text, .slice a z.items.length c, .slice none 0 0, .slice none 0 0] 52)).drew := ((Grew.refl WS).alloc _).below.drew
  have hdb : DB (WS.alloc (.cells #[.bool false, .bool false, .int .i64 0, .int .i64 0, .string ⟨#[]⟩, .slice none 0 0, .pointer none, .int .i64 13, .int .i64 (q : Int), .int .i64 0, .int .i64 z.kind, .int .i64 z.num, .string z.text, .slice a z.items.length c, .slice none 0 0, .slice none 0 0] 52)).drew WS.heap.size false false zeroT (.slice none 0 0) none 13 q z (.slice a z.items.length c) := (db_alloc WS 52 false false zeroT (.slice none 0 0) none 13 q z (.slice a z.items.length c)).keeps (Below.refl _ _).drew
  have HE : Hid (RStep X q z f w (.returned (.tuple #[.agg #[.int .i64 z.kind, .int .i64 z.num, .string z.text, .slice a z.items.length c], .pointer (some ⟨W0.heap.size, 0, none⟩), .bool true, .int .i64 f, .int .i64 0])) (WS.alloc (.cells #[.bool false, .bool false, .int .i64 0, .int .i64 0, .string ⟨#[]⟩, .slice none 0 0, .pointer none, .int .i64 13, .int .i64 (q : Int), .int .i64 0, .int .i64 z.kind, .int .i64 z.num, .string z.text, .slice a z.items.length c, .slice none 0 0, .slice none 0 0] 52)).drew) := by
    have hs := HS.out
    rw [hsz] at hdb
    exact ⟨hbS.trans (hal.mono hbS.size), a, c, W0.heap.size, rfl, by omega, hdb, LiesX.mono (fun n hn => .inl hn) (hlS.keeps hal)⟩
  have Hq : Hid (Bx (WS.alloc (.cells #[.bool false, .bool false, .int .i64 0, .int .i64 0, .string ⟨#[]⟩, .slice none 0 0, .pointer none, .int .i64 13, .int .i64 (q : Int), .int .i64 0, .int .i64 z.kind, .int .i64 z.num, .string z.text, .slice a z.items.length c, .slice none 0 0, .slice none 0 0] 52)).drew w.heap.size z (.slice a z.items.length c)) := hbx.keeps hal
  rw [hWS] at HE Hq
  clear hWS hsz hbx hbS hlS hal hdb nb nz z0 z1 z2 z3 g0 g1 g2 g3 k7 k8 k10 k11 k12 k13 HZ HD HL Hb0 HS
  go_wp2_with fail
  refine bodyPost_ret (v := .tuple #[.agg #[.int .i64 z.kind, .int .i64 z.num, .string z.text, .slice a z.items.length c], .pointer (some ⟨W0.heap.size, 0, none⟩), .bool true, .int .i64 f, .int .i64 0]) ?_ rfl HE.out
  obtain ⟨q0, q1, q2, q3, _, _, _, _⟩ := Hq.out
  simp only [World.setCells, encP, Nat.zero_add, Nat.reduceAdd] at q0 q1 q2 q3
  simp [results, Try.results33, go_sem, q0, q1, q2, q3]

end Go.Proofs.Yteibdkkmaalpbaa

namespace Go.Proofs.Yteibdkkmaalpbaa
open Go.RowKit Go.Shelf

theorem DB.put {w : World} {b : Nat} {kn ok : Bool} {x : VT} {u : Value} {p : Option Addr} {kd : Int} {q : Nat} {z : VT} {uz : Value} (h : DB w b kn ok x u p kd q z uz) (x' : VT) (u' : Value) (p' : Option Addr) : DB (w.setCells b 0 [.bool true, .bool true, .int .i64 x'.kind, .int .i64 x'.num, .string x'.text, u', .pointer p']) b true true x' u' p' kd q z uz := by
  have hin : ∀ j (hj : j < [.bool true, .bool true, .int .i64 x'.kind, .int .i64 x'.num, .string x'.text, u', .pointer p'].length), (w.setCells b 0 [.bool true, .bool true, .int .i64 x'.kind, .int .i64 x'.num, .string x'.text, u', .pointer p']).cell? ⟨b, 0 + j, none⟩ = some ([.bool true, .bool true, .int .i64 x'.kind, .int .i64 x'.num, .string x'.text, u', .pointer p'][j]) :=
    World.cell?_setCells_in b _ 0 w (fun j hj => by
      match j, hj with
      | 0, _ => rw [h.c0]; rfl
      | 1, _ => rw [h.c1]; rfl
      | 2, _ => rw [h.c2]; rfl
      | 3, _ => rw [h.c3]; rfl
      | 4, _ => rw [h.c4]; rfl
      | 5, _ => rw [h.c5]; rfl
      | 6, _ => rw [h.c6]; rfl)
  refine ⟨?_, ?_, ?_, ?_, ?_, ?_, ?_, (setc_ne (by omega) (setc_ne (by omega) (setc_ne (by omega) (setc_ne (by omega) (setc_ne (by omega) (setc_ne (by omega) (setc_ne (by omega) h.c7))))))), (setc_ne (by omega) (setc_ne (by omega) (setc_ne (by omega) (setc_ne (by omega) (setc_ne (by omega) (setc_ne (by omega) (setc_ne (by omega) h.c8))))))), (setc_ne (by omega) (setc_ne (by omega) (setc_ne (by omega) (setc_ne (by omega) (setc_ne (by omega) (setc_ne (by omega) (setc_ne (by omega) h.c9))))))), (setc_ne (by omega) (setc_ne (by omega) (setc_ne (by omega) (setc_ne (by omega) (setc_ne (by omega) (setc_ne (by omega) (setc_ne (by omega) h.c10))))))), (setc_ne (by omega) (setc_ne (by omega) (setc_ne (by omega) (setc_ne (by omega) (setc_ne (by omega) (setc_ne (by omega) (setc_ne (by omega) h.c11))))))), (setc_ne (by omega) (setc_ne (by omega) (setc_ne (by omega) (setc_ne (by omega) (setc_ne (by omega) (setc_ne (by omega) (setc_ne (by omega) h.c12))))))), (setc_ne (by omega) (setc_ne (by omega) (setc_ne (by omega) (setc_ne (by omega) (setc_ne (by omega) (setc_ne (by omega) (setc_ne (by omega) h.c13))))))), (setc_ne (by omega) (setc_ne (by omega) (setc_ne (by omega) (setc_ne (by omega) (setc_ne (by omega) (setc_ne (by omega) (setc_ne (by omega) h.c14))))))), (setc_ne (by omega) (setc_ne (by omega) (setc_ne (by omega) (setc_ne (by omega) (setc_ne (by omega) (setc_ne (by omega) (setc_ne (by omega) h.c15))))))), by rw [World.frozen?_setCells]; exact h.f0, by rw [World.frozen?_setCells]; exact h.f1, by rw [World.frozen?_setCells]; exact h.f2, by rw [World.frozen?_setCells]; exact h.f3, by rw [World.frozen?_setCells]; exact h.f4, by rw [World.frozen?_setCells]; exact h.f5, by rw [World.frozen?_setCells]; exact h.f6⟩
  · have q := hin 0 (by simp); simpa using q
  · have q := hin 1 (by simp); simpa using q
  · have q := hin 2 (by simp); simpa using q
  · have q := hin 3 (by simp); simpa using q
  · have q := hin 4 (by simp); simpa using q
  · have q := hin 5 (by simp); simpa using q
  · have q := hin 6 (by simp); simpa using q

set_option maxRecDepth 100000 in
set_option maxHeartbeats 8000000 in
theorem rforce_dry (b q : Nat) (kd : Int) (z : VT) (uz : Value) (w : World) (h : DB w b false false zeroT (.slice none 0 0) none kd q z uz) :
    Calls Try.prog 23 #[.pointer (some ⟨b, 0, none⟩), .int .i64 0] w (FNil 0 220 w) := by
  obtain ⟨W0, hW0⟩ : ∃ W0, W0 = zbox w := ⟨_, rfl⟩
  have HW0 : Hid (W0 = w.alloc (.cells #[.int .i64 0, .int .i64 0, .string ⟨#[]⟩, .slice none 0 0] 24)) := hW0
  have hb0 : Below w.heap.size w W0 := by rw [hW0]; exact zbox_below w
  have HZ : Hid (Bx W0 w.heap.size zeroT (.slice none 0 0)) := by rw [hW0]; exact zbox_bx w
  have HS : Hid (W0.heap.size = w.heap.size + 1) := by rw [hW0]; exact zbox_size w
  have HD : Hid (DB W0 b false false zeroT (.slice none 0 0) none kd q z uz) := h.keeps hb0
  obtain ⟨k0, _, _, _, _, _, _, _, _, _, _, _, _, _, _, _, _, _, _, _, _, _, _⟩ := HD.out
  obtain ⟨z0, z1, z2, z3, g0, g1, g2, g3⟩ := HZ.out
  have HE : Hid (FNil 0 220 w (.returned (.tuple #[.agg #[.int .i64 0, .int .i64 0, .string ⟨#[]⟩, .slice none 0 0], .pointer none, .bool false, .int .i64 0, .int .i64 220])) (W0.setCells w.heap.size 0 (encP (zeroT, .slice none 0 0)))) := ⟨none, 0, rfl, by
    have hB := hb0
    exact ((((hB.setCell (p := ⟨w.heap.size, 0, none⟩) (by simp) _).setCell (p := ⟨w.heap.size, 0 + 1, none⟩) (by simp) _).setCell (p := ⟨w.heap.size, 0 + 1 + 1, none⟩) (by simp) _).setCell (p := ⟨w.heap.size, 0 + 1 + 1 + 1, none⟩) (by simp) _)⟩
  have Hq : Hid (Bx (W0.setCells w.heap.size 0 (encP (zeroT, .slice none 0 0))) w.heap.size zeroT (.slice none 0 0)) := HZ.out.put (zeroT, .slice none 0 0)
  clear hW0 h hb0 HS HD
  go_enter Try.func23, Try.ntmps23
  go_upto_region 1 with fail
  rw [← HW0.out]
  clear HW0
  go_wp2_with fail
  refine bodyPost_ret (v := .tuple #[.agg #[.int .i64 0, .int .i64 0, .string ⟨#[]⟩, .slice none 0 0], .pointer none, .bool false, .int .i64 0, .int .i64 220]) ?_ rfl HE.out
  obtain ⟨q0, q1, q2, q3, _, _, _, _⟩ := Hq.out
  simp only [World.setCells, encP, Nat.zero_add, Nat.reduceAdd] at q0 q1 q2 q3
  simp [results, Try.results23, go_sem, q0, q1, q2, q3]

/-- Behind the document's force of a cell of Iter. -/
def RForce (X : Nat → Prop) (q : Nat) (x : VT) (f b : Nat) (kd : Int) (z : VT) (uz : Value) (w : World) (e : Ending) (w' : World) : Prop :=
  KC (fun j => j = b) w w' ∧ ∃ a1 c1 b', e = .returned (.tuple #[.agg #[.int .i64 x.kind, .int .i64 x.num, .string x.text, .slice a1 x.items.length c1], .pointer (some ⟨b', 0, none⟩), .bool true, .int .i64 (f : Int), .int .i64 0]) ∧ w.heap.size ≤ b' ∧ DB w' b true true x (.slice a1 x.items.length c1) (some ⟨b', 0, none⟩) kd q z uz ∧ DB w' b' false false zeroT (.slice none 0 0) none 13 q x (.slice a1 x.items.length c1) ∧ LiesX (fun n => (X n ∧ n < w.heap.size) ∨ (w.heap.size ≤ n ∧ n ≠ b')) 16 w' x.items (.slice a1 x.items.length c1)

set_option maxRecDepth 100000 in
set_option maxHeartbeats 8000000 in
theorem rforce_lazy (X : Nat → Prop) (q f b : Nat) (hf : f < 1073741824) (kd : Int) (x z : VT) (uz : Value) (hX : ¬ X b) (w : World) (hXw : ∀ n, X n → n < w.heap.size) (h : DB w b false false zeroT (.slice none 0 0) none kd q z uz)
    (hs : ∀ V, Below w.heap.size w V → Calls Try.prog 33 #[.pointer (some ⟨b, 0, none⟩), .int .i64 (f : Int)] V (RStep X q x f V)) :
    Calls Try.prog 23 #[.pointer (some ⟨b, 0, none⟩), .int .i64 ((f + 1 : Nat) : Int)] w (RForce X q x f b kd z uz w) := by
  obtain ⟨W0, hW0⟩ : ∃ W0, W0 = zbox w := ⟨_, rfl⟩
  have HW0 : Hid (W0 = w.alloc (.cells #[.int .i64 0, .int .i64 0, .string ⟨#[]⟩, .slice none 0 0] 24)) := hW0
  have hb0 : Below w.heap.size w W0 := by rw [hW0]; exact zbox_below w
  have HZ : Hid (Bx W0 w.heap.size zeroT (.slice none 0 0)) := by rw [hW0]; exact zbox_bx w
  have HS : Hid (W0.heap.size = w.heap.size + 1) := by rw [hW0]; exact zbox_size w
  have HD : Hid (DB W0 b false false zeroT (.slice none 0 0) none kd q z uz) := h.keeps hb0
  have HSt : Hid (Calls Try.prog 33 #[.pointer (some ⟨b, 0, none⟩), .int .i64 (f : Int)] W0 (RStep X q x f W0)) := hs W0 hb0
  obtain ⟨k0, _, _, _, _, _, _, _, _, _, _, _, _, _, _, _, _, _, _, _, _, _, _⟩ := HD.out
  have e1 : IntKind.i64.wrap (((f + 1 : Nat) : Int) - 1) = (f : Int) := by rw [IntKind.wrap_i64]; omega
  have e0 : ¬ ((f + 1 : Nat) : Int) < 1 := by omega
  have hbl := h.lt
  have HX : Hid (¬ X b ∧ ∀ n, X n → n < w.heap.size) := ⟨hX, hXw⟩
  have Hb0 : Hid (Below w.heap.size w W0 ∧ b < w.heap.size) := ⟨hb0, hbl⟩
  obtain ⟨F, hF⟩ : ∃ F : Int, F = ((f + 1 : Nat) : Int) := ⟨_, rfl⟩
  rw [← hF] at e1 e0 ⊢
  clear hF hW0 h hb0 hs hbl hX hXw
  go_enter Try.func23, Try.ntmps23
  go_upto_region 1 with fail
  rw [← HW0.out]
  clear HW0
  go_wp2_with fail
  refine Calls.mono HSt.out ?_
  rintro e w1 ⟨hg1, a1, c1, b', rfl, hb', hdb', hlx⟩
  have hsz := HS.out
  have hbb := Hb0.out
  obtain ⟨n9, hn9⟩ : ∃ n9, n9 = w1.heap.size := ⟨_, rfl⟩
  obtain ⟨W2, hW2⟩ : ∃ W2, W2 = w1.alloc (.cells #[.int .i64 x.kind, .int .i64 x.num, .string x.text, .slice a1 x.items.length c1] 24) := ⟨_, rfl⟩
  have HW2 : Hid (W2 = w1.alloc (.cells #[.int .i64 x.kind, .int .i64 x.num, .string x.text, .slice a1 x.items.length c1] 24)) := hW2
  have hal : Below w1.heap.size w1 W2 := by rw [hW2]; exact ((Grew.refl _).alloc _).below
  have hg2 : Below W0.heap.size W0 W2 := hg1.trans (hal.mono hg1.size)
  have hs1 := hg1.size
  have HB9 : Hid (Bx W2 n9 x (.slice a1 x.items.length c1)) := by rw [hW2, hn9]; exact bx_alloc _ _ _
  have HD2 : Hid (DB W2 b false false zeroT (.slice none 0 0) none kd q z uz) := HD.out.keeps hg2
  have HN2 : Hid (DB W2 b' false false zeroT (.slice none 0 0) none 13 q x (.slice a1 x.items.length c1)) := hdb'.keeps hal
  have HL2 : Hid (LiesX (fun n => X n ∨ (W0.heap.size ≤ n ∧ n ≠ b')) 16 W2 x.items (.slice a1 x.items.length c1)) := LiesX.mono (fun n hn => by rcases hn with ⟨h1, _⟩ | h1; exact .inl h1; exact .inr h1) (hlx.keeps hal)
  have HZ2 : Hid (Bx W2 w.heap.size zeroT (.slice none 0 0)) := HZ.out.keeps hg2
  have hb9 : n9 ≠ b := by omega
  have hbw : b ≠ w.heap.size := by omega
  have hbb' : b' ≠ b := by omega
  obtain ⟨W3, hW3⟩ : ∃ W3, W3 = W2.setCells b 0 [.bool true, .bool true, .int .i64 x.kind, .int .i64 x.num, .string x.text, .slice a1 x.items.length c1, .pointer (some ⟨b', 0, none⟩)] := ⟨_, rfl⟩
  have HW3 : Hid (W3 = ((((((W2.setCell ⟨b, 0, none⟩ (.bool true)).setCell ⟨b, 1, none⟩ (.bool true)).setCell ⟨b, 2, none⟩ (.int .i64 x.kind)).setCell ⟨b, 3, none⟩ (.int .i64 x.num)).setCell ⟨b, 4, none⟩ (.string x.text)).setCell ⟨b, 5, none⟩ (.slice a1 x.items.length c1)).setCell ⟨b, 6, none⟩ (.pointer (some ⟨b', 0, none⟩))) := hW3
  have HD3 : Hid (DB W3 b true true x (.slice a1 x.items.length c1) (some ⟨b', 0, none⟩) kd q z uz) := by rw [hW3]; exact HD2.out.put x (.slice a1 x.items.length c1) (some ⟨b', 0, none⟩)
  have HN3 : Hid (DB W3 b' false false zeroT (.slice none 0 0) none 13 q x (.slice a1 x.items.length c1)) := by rw [hW3]; exact HN2.out.other hbb' _
  have HL3 : Hid (LiesX (fun n => X n ∨ (W0.heap.size ≤ n ∧ n ≠ b')) 16 W3 x.items (.slice a1 x.items.length c1)) := by
    rw [hW3]
    refine LiesX.set (g := b) (o := 0) ?_ HL2.out
    rintro (h | h)
    · exact HX.out.1 h
    · omega
  have HZ3 : Hid (Bx W3 w.heap.size zeroT (.slice none 0 0)) := by rw [hW3]; exact HZ2.out.other (fun e => hbw e.symm) _
  have HK3 : Hid (KC (fun j => j = b) w W3) := by
    rw [hW3]
    exact (KC.set (B := fun j => j = b) (o := 0 + 1 + 1 + 1 + 1 + 1 + 1) (KC.set (B := fun j => j = b) (o := 0 + 1 + 1 + 1 + 1 + 1) (KC.set (B := fun j => j = b) (o := 0 + 1 + 1 + 1 + 1) (KC.set (B := fun j => j = b) (o := 0 + 1 + 1 + 1) (KC.set (B := fun j => j = b) (o := 0 + 1 + 1) (KC.set (B := fun j => j = b) (o := 0 + 1) (KC.set (B := fun j => j = b) (o := 0) ((KC.of_below hbb.1).trans (KC.of_below hg2)) (.inl rfl) _) (.inl rfl) _) (.inl rfl) _) (.inl rfl) _) (.inl rfl) _) (.inl rfl) _) (.inl rfl) _)
  have Hbb : Hid (w.heap.size ≤ b' ∧ b' ≠ w.heap.size ∧ b < w.heap.size) := ⟨by omega, by omega, hbb.2⟩
  obtain ⟨y0, y1, y2, y3, _, _, _, _⟩ := HB9.out
  obtain ⟨k0, k1, k2, k3, k4, k5, k6, _, _, _, _, _, _, _, _, _, f0, f1, f2, f3, f4, f5, f6⟩ := HD2.out
  clear hg1 hb' hdb' hlx hsz hbb hal hg2 hs1 hW2 hW3 HSt HD HZ
  go_upto_region 7 with fail
  rw [← HW2.out, ← hn9]
  clear HW2 hn9
  go_upto_region 14 with fail
  rw [← HW3.out]
  clear HW3 k0 k1 k2 k3 k4 k5 k6 f0 f1 f2 f3 f4 f5 f6 y0 y1 y2 y3 HD2 HN2 HL2 HZ2 HB9
  obtain ⟨k0, k1, k2, k3, k4, k5, k6, _, _, _, _, _, _, _, _, _, _, _, _, _, _, _, _⟩ := HD3.out
  obtain ⟨z0, z1, z2, z3, g0, g1, g2, g3⟩ := HZ3.out
  have HE : Hid (RForce X q x f b kd z uz w (.returned (.tuple #[.agg #[.int .i64 x.kind, .int .i64 x.num, .string x.text, .slice a1 x.items.length c1], .pointer (some ⟨b', 0, none⟩), .bool true, .int .i64 (f : Int), .int .i64 0])) (W3.setCells w.heap.size 0 (encP (x, .slice a1 x.items.length c1))).drew) := by
    have hh := Hbb.out
    have hws := HS.out
    refine ⟨KC.drew (KC.set (B := fun j => j = b) (o := 0 + 1 + 1 + 1) (KC.set (B := fun j => j = b) (o := 0 + 1 + 1) (KC.set (B := fun j => j = b) (o := 0 + 1) (KC.set (B := fun j => j = b) (o := 0) HK3.out (.inr (Nat.le_refl _)) _) (.inr (Nat.le_refl _)) _) (.inr (Nat.le_refl _)) _) (.inr (Nat.le_refl _)) _), a1, c1, b', rfl, hh.1, (HD3.out.other hbw _).keeps (Below.refl _ _).drew, (HN3.out.other hh.2.1 _).keeps (Below.refl _ _).drew, ?_⟩
    refine LiesX.keeps (Below.refl _ _).drew (LiesX.mono (fun n hn => ?_) (LiesX.set (g := w.heap.size) (o := 0) (vs := encP (x, .slice a1 x.items.length c1)) ?_ HL3.out))
    · rcases hn with h | h
      · exact .inl ⟨h, HX.out.2 n h⟩
      · exact .inr ⟨by omega, h.2⟩
    · rintro (h | h)
      · have := HX.out.2 _ h; omega
      · omega
  have Hq : Hid (Bx (W3.setCells w.heap.size 0 (encP (x, .slice a1 x.items.length c1))).drew w.heap.size x (.slice a1 x.items.length c1)) := (HZ3.out.put (x, .slice a1 x.items.length c1)).keeps (Below.refl _ _).drew
  clear HD3 HN3 HL3 HZ3 HK3 Hbb HX HS Hb0
  go_wp2_with fail
  go_region
  go_wp2_with fail
  refine bodyPost_ret (v := .tuple #[.agg #[.int .i64 x.kind, .int .i64 x.num, .string x.text, .slice a1 x.items.length c1], .pointer (some ⟨b', 0, none⟩), .bool true, .int .i64 (f : Int), .int .i64 0]) ?_ rfl HE.out
  obtain ⟨q0, q1, q2, q3, _, _, _, _⟩ := Hq.out
  simp only [World.setCells, encP, Nat.zero_add, Nat.reduceAdd] at q0 q1 q2 q3
  simp [results, Try.results23, go_sem, q0, q1, q2, q3]

end Go.Proofs.Yteibdkkmaalpbaa

