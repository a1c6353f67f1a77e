/-
  The document's Begin, Force, Forced, Known.
-/
import Derived.Test.YteibdkkmaalpbabLazyF
import Derived.Test.YteibdkkmaalpbabUtf
import Derived.Test.YteibdkkmaalpbabRTimes
import Derived.Test.YteibdkkmaalpbabLevel
namespace Go.Proofs.Yteibdkkmaalpbab
open Go.RowKit Go.Shelf

abbrev nil0 : VT := ⟨2, 0, ⟨#[]⟩, []⟩

theorem nil0_err : timesE 16 1 0 nil0 = 0 := by kernel_rfl
theorem nil0_right : rightV 16 nil0 = true := by kernel_rfl

set_option maxRecDepth 100000 in
set_option maxHeartbeats 8000000 in
theorem speaks22_any (w : World) : Calls Try.prog 8 #[] w fun e w' => e = .returned (.bool true) ∧ Below w.heap.size w w' := by
  have HI : Hid (∀ V, Calls Try.prog 25 #[.int .i64 0] V fun e w' => e = .returned (.agg #[.int .i64 2, .int .i64 0, .string ⟨#[]⟩, .slice none 0 0]) ∧ Grew V w') := fun V => int_any 0 V
  have HIt : Hid (∀ V, Calls Try.prog 7 #[.int .i64 1, .agg #[.int .i64 2, .int .i64 0, .string ⟨#[]⟩, .slice none 0 0]] V (IterPost 0 1 nil0 V)) := fun V => by
    have h9 := iter_any 16 1 nil0 (.slice none 0 0) V (lies_z22 V) (by show (0 : Nat) ≤ _; omega)
    rw [nil0_err] at h9
    exact h9
  go_enter Try.func8, Try.ntmps8
  go_wp2_with fail
  refine Calls.mono (HI.out _) ?_
  rintro e w1 ⟨rfl, hg1⟩
  have hb1 : Below w.heap.size w w1 := hg1.below
  clear hg1 HI
  go_wp2_with fail
  refine Calls.mono (HIt.out _) ?_
  rintro e w2 ⟨hg2, ⟨h0, _⟩ | ⟨_, a, c, b, rfl, hb, hcb, hlx⟩⟩
  · exact absurd rfl h0
  have hb2 : Below w.heap.size w w2 := hb1.trans (hg2.mono hb1.size)
  have HF0 : Hid (Calls Try.prog 19 #[.pointer (some ⟨b, 0, none⟩), .int .i64 0] w2 (FNil 0 220 w2)) := Force_dry b _ _ w2 hcb.c0
  have HF1 : Hid (∀ V, Below w2.heap.size w2 V → Calls Try.prog 19 #[.pointer (some ⟨b, 0, none⟩), .int .i64 1] V (LPost 1 nil0 0 b V)) := fun V hV => Force_lazy 1 0 0 b (by omega) (by omega) (by omega) nil0 a c V (hcb.keeps hV) (LiesX.mono (fun n hn => hn.2) (hlx.keeps hV)) nil0_right
  have Hb : Hid (w.heap.size ≤ b ∧ b < w2.heap.size) := ⟨Nat.le_trans hb1.size hb, hcb.lt⟩
  clear hg2 hb hcb hlx hb1 HIt
  go_wp2_with fail
  refine Calls.mono HF0.out ?_
  rintro e w3 ⟨a3, c3, rfl, hg3⟩
  obtain ⟨W4, hW4⟩ : ∃ W4, W4 = w3.alloc (.cells #[.int .i64 0, .int .i64 0, .string ⟨#[]⟩, .slice a3 0 c3] 24) := ⟨_, rfl⟩
  have HW4 : Hid (W4 = w3.alloc (.cells #[.int .i64 0, .int .i64 0, .string ⟨#[]⟩, .slice a3 0 c3] 24)) := hW4
  have hal : Below w3.heap.size w3 W4 := by rw [hW4]; exact ((Grew.refl _).alloc _).below
  have hg4 : Below w2.heap.size w2 W4 := hg3.trans (hal.mono hg3.size)
  have hb4 : Below w.heap.size w W4 := hb2.trans (hg4.mono hb2.size)
  clear hW4 hal hg3 HF0 hb2
  go_upto_region 5 with fail
  rw [← HW4.out]
  clear HW4
  go_wp2_with fail
  refine Calls.mono (HF1.out _ hg4) ?_
  rintro e w5 ⟨a5, c5, b', a1, c1, a2, c2, rfl, hk, hb', hcb, hcb', _, _, _⟩
  have hbb := Hb.out
  have hb5 : Below w.heap.size w w5 := hb4.trans (hk.below (fun j hj => by omega) hb4.size)
  obtain ⟨n8, hn8⟩ : ∃ n8, n8 = w5.heap.size := ⟨_, rfl⟩
  obtain ⟨W6, hW6⟩ : ∃ W6, W6 = w5.alloc (.cells #[.int .i64 2, .int .i64 0, .string ⟨#[]⟩, .slice a5 0 c5] 24) := ⟨_, rfl⟩
  have HW6 : Hid (W6 = w5.alloc (.cells #[.int .i64 2, .int .i64 0, .string ⟨#[]⟩, .slice a5 0 c5] 24)) := hW6
  have hal : Below w5.heap.size w5 W6 := by rw [hW6]; exact ((Grew.refl _).alloc _).below
  have y1 : W6.cell? ⟨n8, 1, none⟩ = some (.int .i64 0) := by rw [hW6, hn8]; exact (bx_alloc w5 nil0 (.slice a5 0 c5)).c1
  have HY : Hid (Calls Try.prog 18 #[.pointer (some ⟨b, 0, none⟩)] W6 fun e w' => e = .returned (.bool true) ∧ w' = W6) := forced_yes b W6 (hcb.keeps hal).c0
  have HN : Hid (Calls Try.prog 18 #[.pointer (some ⟨b', 0, none⟩)] W6 fun e w' => e = .returned (.bool false) ∧ w' = W6) := forced_no b' _ _ W6 (hcb'.keeps hal).c0
  have hb6 : Below w.heap.size w W6 := hb5.trans (hal.mono hb5.size)
  clear hk hb' hcb hcb' hbb hb5 hal hW6 hb4 hg4 HF1 Hb
  go_upto_region 6 with fail
  rw [← HW6.out, ← hn8]
  clear HW6 hn8
  go_wp2_with fail
  refine Calls.mono HY.out ?_
  rintro e w9 ⟨rfl, hw9⟩
  obtain rfl : W6 = w9 := hw9.symm
  clear hw9 HY
  go_wp2_with fail
  refine Calls.mono HN.out ?_
  rintro e w9 ⟨rfl, hw9⟩
  obtain rfl : W6 = w9 := hw9.symm
  clear hw9 HN
  go_wp2_with fail
  go_ret
  exact ⟨rfl, hb6⟩

end Go.Proofs.Yteibdkkmaalpbab

namespace Go.Proofs.Yteibdkkmaalpbab
open Go.RowKit Go.Shelf

/-- The i-th item. -/
abbrev itv (q i : Nat) (v : VT) : VT := itT (doneT q) i v

/-- A seq of Iter: cells P 0 .. P k, k of them known; all lists lie in blocks that Y holds of and that are none of the cells'. -/
structure Sq (Y : Nat → Prop) (w : World) (q : Nat) (v : VT) (k : Nat) (P : Nat → Nat) : Prop where
  q8 : q < 8
  right : rightV 16 v = true
  dp : Dp 16 v
  inj : ∀ i j, i ≤ k → j ≤ k → P i = P j → i = j
  inY : ∀ i, i ≤ k → Y (P i)
  known : ∀ i, i < k → ∃ a c, CB w (P i) .nilIface 0 (itv q i v) (.slice a (itv q i v).items.length c) (some ⟨P (i + 1), 0, none⟩) ∧ LiesX (fun n => Y n ∧ ∀ j, j ≤ k → n ≠ P j) 16 w (itv q i v).items (.slice a (itv q i v).items.length c)
  lazy : ∃ m z a c, m ≤ 1 ∧ itT (doneT q) m z = itv q k v ∧ rightV 16 z = true ∧ CB w (P k) (stepV q m z (.slice a z.items.length c)) 0 zeroT (.slice none 0 0) none ∧ LiesX (fun n => Y n ∧ ∀ j, j ≤ k → n ≠ P j) 16 w z.items (.slice a z.items.length c)

theorem Sq.lt {Y : Nat → Prop} {w : World} {q : Nat} {v : VT} {k : Nat} {P : Nat → Nat} (s : Sq Y w q v k P) (i : Nat) (hi : i ≤ k) : P i < w.heap.size := by
  by_cases h : i < k
  · obtain ⟨a, c, hc, _⟩ := s.known i h
    exact hc.lt
  · obtain rfl : i = k := by omega
    obtain ⟨m, z, a, c, _, _, _, hc, _⟩ := s.lazy
    exact hc.lt

theorem Sq.kc {Y B : Nat → Prop} {w w' : World} {q : Nat} {v : VT} {k : Nat} {P : Nat → Nat} (s : Sq Y w q v k P) (hk : KC B w w') (hB : ∀ n, n < w.heap.size → Y n → ¬ B n) : Sq Y w' q v k P := by
  have hp := fun i hi => hB (P i) (s.lt i hi) (s.inY i hi)
  refine ⟨s.q8, s.right, s.dp, s.inj, s.inY, fun i hi => ?_, ?_⟩
  · obtain ⟨a, c, hc, hl⟩ := s.known i hi
    exact ⟨a, c, hk.cb (hp i (by omega)) hc, LiesX.mono (fun n hn => hn.1) (hk.liesX (fun n hn => hB n hn.2 hn.1.1) hl.both)⟩
  · obtain ⟨m, z, a, c, h1, h2, h3, hc, hl⟩ := s.lazy
    exact ⟨m, z, a, c, h1, h2, h3, hk.cb (hp k (by omega)) hc, LiesX.mono (fun n hn => hn.1) (hk.liesX (fun n hn => hB n hn.2 hn.1.1) hl.both)⟩

theorem Sq.keeps {Y : Nat → Prop} {w w' : World} {q : Nat} {v : VT} {k : Nat} {P : Nat → Nat} (s : Sq Y w q v k P) (hb : Below w.heap.size w w') : Sq Y w' q v k P :=
  s.kc (B := fun _ => False) (KC.of_below hb) (fun _ _ _ h => h)

end Go.Proofs.Yteibdkkmaalpbab

namespace Go.Proofs.Yteibdkkmaalpbab
open Go.RowKit Go.Shelf

/-- What Cons tells of a right value. -/
def ConsPost (v : VT) (b : Nat) (w : World) (e : Ending) (w' : World) : Prop :=
  Below w.heap.size w w' ∧ ∃ d a c, e = .returned (.tuple #[.pointer (some ⟨d, 0, none⟩), .int .i64 0]) ∧ w.heap.size ≤ d ∧ CB w' d .nilIface 0 v (.slice a v.items.length c) (some ⟨b, 0, none⟩) ∧ LiesX (fun n => w.heap.size ≤ n ∧ n ≠ d) 16 w' v.items (.slice a v.items.length c)

set_option maxRecDepth 100000 in
set_option maxHeartbeats 8000000 in
theorem cons_ok (v : VT) (u : Value) (b : Nat) (w : World) (hu : Lies 16 w v.items u) (hr : rightV 16 v = true) :
    Calls Try.prog 16 #[.agg #[.int .i64 v.kind, .int .i64 v.num, .string v.text, u], .pointer (some ⟨b, 0, none⟩)] w (ConsPost v b w) := by
  obtain ⟨au, cu, rfl, _⟩ := Lies.slice hu
  have HC : Hid (∀ V, Below w.heap.size w V → Calls Try.prog 32 #[.agg #[.int .i64 v.kind, .int .i64 v.num, .string v.text, .slice au v.items.length cu]] V fun e w' => e = .returned (.int .i64 0) ∧ Below V.heap.size V w') := fun V hV => by
    have h9 := check_grew 16 v _ V (Lies.keeps hV _ _ _ hu) (Nat.le_trans (right_size hr) (by omega))
    rw [hr] at h9
    exact Calls.mono h9 fun e w' h => ⟨h.1, h.2.below⟩
  have HCp : Hid (∀ V, Below w.heap.size w V → Calls Try.prog 33 #[.agg #[.int .i64 v.kind, .int .i64 v.num, .string v.text, .slice au v.items.length cu]] V (CopyPost 16 v V)) := fun V hV => copy_right v _ V (Lies.keeps hV _ _ _ hu) hr
  have HOw : Hid (∀ V, Calls Try.prog 29 #[.pointer (some ⟨b, 0, none⟩)] V fun e w' => e = .returned (.pointer (some ⟨b, 0, none⟩)) ∧ w' = V) := own_some22 b
  obtain ⟨W0, hW0⟩ : ∃ W0, W0 = w.alloc (.cells #[.int .i64 v.kind, .int .i64 v.num, .string v.text, .slice au v.items.length cu] 24) := ⟨_, rfl⟩
  have HW0 : Hid (W0 = w.alloc (.cells #[.int .i64 v.kind, .int .i64 v.num, .string v.text, .slice au v.items.length cu] 24)) := hW0
  have hb0 : Below w.heap.size w W0 := by rw [hW0]; exact ((Grew.refl _).alloc _).below
  have HK : Hid (Bx W0 w.heap.size v (.slice au v.items.length cu)) := by rw [hW0]; exact bx_alloc _ _ _
  obtain ⟨k0, k1, k2, k3, _, _, _, _⟩ := HK.out
  clear hW0 hu hr HK
  go_enter Try.func16, Try.ntmps16
  go_upto_region 1 with fail
  rw [← HW0.out]
  clear HW0
  go_wp2_with fail
  refine Calls.mono (HC.out _ hb0) ?_
  rintro e w1 ⟨rfl, hg1⟩
  have hb1 : Below w.heap.size w w1 := hb0.trans (hg1.mono hb0.size)
  have k0 := cell_keeps hg1 k0; have k1 := cell_keeps hg1 k1; have k2 := cell_keeps hg1 k2; have k3 := cell_keeps hg1 k3
  clear hg1 HC hb0
  go_wp2_with fail
  refine Calls.mono (HCp.out _ hb1) ?_
  rintro e w2 ⟨u2, rfl, hl2, hg2⟩
  obtain ⟨a2, c2, rfl, _⟩ := LiesB.slice hl2
  have hb2 : Below w.heap.size w w2 := hb1.trans (hg2.mono hb1.size)
  have HL : Hid (LiesX (fun n => w.heap.size ≤ n ∧ n < w2.heap.size) 16 w2 v.items (.slice a2 v.items.length c2)) := by
    have hs := hb1.size
    exact LiesX.mono (fun n hn => ⟨by omega, hn.2⟩) (LiesX.of_b hl2).both
  clear hg2 HCp hb1 k0 k1 k2 k3 hl2
  go_wp2_with fail
  refine Calls.mono (HOw.out _) ?_
  rintro e w9 ⟨rfl, hw9⟩
  obtain rfl : w2 = w9 := hw9.symm
  clear hw9 HOw
  have HE : Hid (ConsPost v b w (.returned (.tuple #[.pointer (some ⟨w2.heap.size, 0, none⟩), .int .i64 0])) (w2.alloc (.cells #[.nilIface, .int .i64 0, .int .i64 v.kind, .int .i64 v.num, .string v.text, .slice a2 v.items.length c2, .pointer (some ⟨b, 0, none⟩)] 72))) := by
    have hal : Below w2.heap.size w2 (w2.alloc (.cells #[.nilIface, .int .i64 0, .int .i64 v.kind, .int .i64 v.num, .string v.text, .slice a2 v.items.length c2, .pointer (some ⟨b, 0, none⟩)] 72)) := ((Grew.refl _).alloc _).below
    exact ⟨hb2.trans (hal.mono hb2.size), _, a2, c2, rfl, hb2.size, cb_alloc w2 72 .nilIface 0 v (.slice a2 v.items.length c2) (some ⟨b, 0, none⟩), LiesX.mono (fun n hn => ⟨hn.1, by omega⟩) (HL.out.keeps hal)⟩
  clear hb2 HL
  go_wp2_with fail
  refine bodyPost_ret (v := .tuple #[.pointer (some ⟨w2.heap.size, 0, none⟩), .int .i64 0]) ?_ rfl HE.out
  simp [results, Try.results16, go_sem]

set_option maxRecDepth 100000 in
set_option maxHeartbeats 8000000 in
theorem cons_wrong (d : Nat) (v : VT) (u : Value) (p : Option Addr) (w : World) (hu : Lies d w v.items u) (hs : v.text.size ≤ 9223372036854775807) (hr : rightV d v = false) :
    Calls Try.prog 16 #[.agg #[.int .i64 v.kind, .int .i64 v.num, .string v.text, u], .pointer p] w fun e w' => e = .returned (.tuple #[.pointer none, .int .i64 3]) ∧ Below w.heap.size w w' := by
  obtain ⟨au, cu, rfl, _⟩ := Lies.slice hu
  have HC : Hid (∀ V, Below w.heap.size w V → Calls Try.prog 32 #[.agg #[.int .i64 v.kind, .int .i64 v.num, .string v.text, .slice au v.items.length cu]] V fun e w' => e = .returned (.int .i64 3) ∧ Below V.heap.size V w') := fun V hV => by
    have h9 := check_grew d v _ V (Lies.keeps hV _ _ _ hu) hs
    rw [hr] at h9
    exact Calls.mono h9 fun e w' h => ⟨h.1, h.2.below⟩
  obtain ⟨W0, hW0⟩ : ∃ W0, W0 = w.alloc (.cells #[.int .i64 v.kind, .int .i64 v.num, .string v.text, .slice au v.items.length cu] 24) := ⟨_, rfl⟩
  have HW0 : Hid (W0 = w.alloc (.cells #[.int .i64 v.kind, .int .i64 v.num, .string v.text, .slice au v.items.length cu] 24)) := hW0
  have hb0 : Below w.heap.size w W0 := by rw [hW0]; exact ((Grew.refl _).alloc _).below
  have HK : Hid (Bx W0 w.heap.size v (.slice au v.items.length cu)) := by rw [hW0]; exact bx_alloc _ _ _
  obtain ⟨k0, k1, k2, k3, _, _, _, _⟩ := HK.out
  clear hW0 hu hr hs HK
  go_enter Try.func16, Try.ntmps16
  go_upto_region 1 with fail
  rw [← HW0.out]
  clear HW0
  go_wp2_with fail
  refine Calls.mono (HC.out _ hb0) ?_
  rintro e w1 ⟨rfl, hg1⟩
  have hb1 : Below w.heap.size w w1 := hb0.trans (hg1.mono hb0.size)
  clear hg1 HC hb0 k0 k1 k2 k3
  go_wp2_with fail
  refine bodyPost_ret (v := .tuple #[.pointer none, .int .i64 3]) ?_ rfl ⟨rfl, hb1⟩
  simp [results, Try.results16, go_sem]

/-- As many as are known. -/
theorem Sq.len {Y : Nat → Prop} {w : World} {q : Nat} {v : VT} {k : Nat} {P : Nat → Nat} (s : Sq Y w q v k P) : Calls Try.prog 12 #[.pointer (some ⟨P 0, 0, none⟩)] w fun e w' => e = .returned (.int .i64 ((min k 65536 : Nat) : Int)) ∧ w' = w := by
  refine known_len _ P k w w (own_some22 _ w) (fun i hi => ?_) ?_
  · obtain ⟨a, c, hc, _⟩ := s.known i hi
    exact hc.c6
  · obtain ⟨m, z, a, c, _, _, _, hc, _⟩ := s.lazy
    exact hc.c6

end Go.Proofs.Yteibdkkmaalpbab

namespace Go.Proofs.Yteibdkkmaalpbab
open Go.RowKit Go.Shelf

/-- The document's cell: sixteen cells; N is 0, List and Subs are none. -/
structure DB (w : World) (b : Nat) (kn ok : Bool) (x : VT) (u : Value) (p : Option Addr) (kd : Int) (q : Nat) (z : VT) (uz : Value) : Prop where
  c0 : w.cell? ⟨b, 0, none⟩ = some (.bool kn)
  c1 : w.cell? ⟨b, 1, none⟩ = some (.bool ok)
  c2 : w.cell? ⟨b, 2, none⟩ = some (.int .i64 x.kind)
  c3 : w.cell? ⟨b, 3, none⟩ = some (.int .i64 x.num)
  c4 : w.cell? ⟨b, 4, none⟩ = some (.string x.text)
  c5 : w.cell? ⟨b, 5, none⟩ = some (u)
  c6 : w.cell? ⟨b, 6, none⟩ = some (.pointer p)
  c7 : w.cell? ⟨b, 7, none⟩ = some (.int .i64 kd)
  c8 : w.cell? ⟨b, 8, none⟩ = some (.int .i64 (q : Int))
  c9 : w.cell? ⟨b, 9, none⟩ = some (.int .i64 0)
  c10 : w.cell? ⟨b, 10, none⟩ = some (.int .i64 z.kind)
  c11 : w.cell? ⟨b, 11, none⟩ = some (.int .i64 z.num)
  c12 : w.cell? ⟨b, 12, none⟩ = some (.string z.text)
  c13 : w.cell? ⟨b, 13, none⟩ = some (uz)
  c14 : w.cell? ⟨b, 14, none⟩ = some (.slice none 0 0)
  c15 : w.cell? ⟨b, 15, none⟩ = some (.slice none 0 0)
  f0 : w.frozen? ⟨b, 0, none⟩ = false
  f1 : w.frozen? ⟨b, 1, none⟩ = false
  f2 : w.frozen? ⟨b, 2, none⟩ = false
  f3 : w.frozen? ⟨b, 3, none⟩ = false
  f4 : w.frozen? ⟨b, 4, none⟩ = false
  f5 : w.frozen? ⟨b, 5, none⟩ = false
  f6 : w.frozen? ⟨b, 6, none⟩ = false

theorem DB.lt {w : World} {b : Nat} {kn ok : Bool} {x : VT} {u : Value} {p : Option Addr} {kd : Int} {q : Nat} {z : VT} {uz : Value} (h : DB w b kn ok x u p kd q z uz) : b < w.heap.size := cell_lt h.c0

theorem DB.keeps {w : World} {b : Nat} {kn ok : Bool} {x : VT} {u : Value} {p : Option Addr} {kd : Int} {q : Nat} {z : VT} {uz : Value} {w' : World} (h : DB w b kn ok x u p kd q z uz) (hb : Below w.heap.size w w') : DB w' b kn ok x u p kd q z uz := by
  have hl := h.lt
  exact ⟨cell_keeps hb h.c0, cell_keeps hb h.c1, cell_keeps hb h.c2, cell_keeps hb h.c3, cell_keeps hb h.c4, cell_keeps hb h.c5, cell_keeps hb h.c6, cell_keeps hb h.c7, cell_keeps hb h.c8, cell_keeps hb h.c9, cell_keeps hb h.c10, cell_keeps hb h.c11, cell_keeps hb h.c12, cell_keeps hb h.c13, cell_keeps hb h.c14, cell_keeps hb h.c15, (hb.frozen (p := ⟨b, 0, none⟩) hl).trans h.f0, (hb.frozen (p := ⟨b, 1, none⟩) hl).trans h.f1, (hb.frozen (p := ⟨b, 2, none⟩) hl).trans h.f2, (hb.frozen (p := ⟨b, 3, none⟩) hl).trans h.f3, (hb.frozen (p := ⟨b, 4, none⟩) hl).trans h.f4, (hb.frozen (p := ⟨b, 5, none⟩) hl).trans h.f5, (hb.frozen (p := ⟨b, 6, none⟩) hl).trans h.f6⟩

theorem DB.other {w : World} {b : Nat} {kn ok : Bool} {x : VT} {u : Value} {p : Option Addr} {kd : Int} {q : Nat} {z : VT} {uz : Value} (h : DB w b kn ok x u p kd q z uz) {g o : Nat} (hg : b ≠ g) (vs : List Value) : DB (w.setCells g o vs) b kn ok x u p kd q z uz :=
  ⟨cell_other hg h.c0, cell_other hg h.c1, cell_other hg h.c2, cell_other hg h.c3, cell_other hg h.c4, cell_other hg h.c5, cell_other hg h.c6, cell_other hg h.c7, cell_other hg h.c8, cell_other hg h.c9, cell_other hg h.c10, cell_other hg h.c11, cell_other hg h.c12, cell_other hg h.c13, cell_other hg h.c14, cell_other hg h.c15, by rw [World.frozen?_setCells]; exact h.f0, by rw [World.frozen?_setCells]; exact h.f1, by rw [World.frozen?_setCells]; exact h.f2, by rw [World.frozen?_setCells]; exact h.f3, by rw [World.frozen?_setCells]; exact h.f4, by rw [World.frozen?_setCells]; exact h.f5, by rw [World.frozen?_setCells]; exact h.f6⟩

theorem db_alloc (w : World) (T : Nat) (kn ok : Bool) (x : VT) (u : Value) (p : Option Addr) (kd : Int) (q : Nat) (z : VT) (uz : Value) : DB (w.alloc (.cells #[.bool kn, .bool ok, .int .i64 x.kind, .int .i64 x.num, .string x.text, u, .pointer p, .int .i64 kd, .int .i64 (q : Int), .int .i64 0, .int .i64 z.kind, .int .i64 z.num, .string z.text, uz, .slice none 0 0, .slice none 0 0] T)) w.heap.size kn ok x u p kd q z uz := by
  refine ⟨?_, ?_, ?_, ?_, ?_, ?_, ?_, ?_, ?_, ?_, ?_, ?_, ?_, ?_, ?_, ?_, ?_, ?_, ?_, ?_, ?_, ?_, ?_⟩ <;> simp

end Go.Proofs.Yteibdkkmaalpbab

namespace Go.Proofs.Yteibdkkmaalpbab
open Go.RowKit Go.Shelf

theorem DB.put {w : World} {b : Nat} {kn ok : Bool} {x : VT} {u : Value} {p : Option Addr} {kd : Int} {q : Nat} {z : VT} {uz : Value} (h : DB w b kn ok x u p kd q z uz) (x' : VT) (u' : Value) (p' : Option Addr) : DB (w.setCells b 0 [.bool true, .bool true, .int .i64 x'.kind, .int .i64 x'.num, .string x'.text, u', .pointer p']) b true true x' u' p' kd q z uz := by
  have hin : ∀ j (hj : j < [.bool true, .bool true, .int .i64 x'.kind, .int .i64 x'.num, .string x'.text, u', .pointer p'].length), (w.setCells b 0 [.bool true, .bool true, .int .i64 x'.kind, .int .i64 x'.num, .string x'.text, u', .pointer p']).cell? ⟨b, 0 + j, none⟩ = some ([.bool true, .bool true, .int .i64 x'.kind, .int .i64 x'.num, .string x'.text, u', .pointer p'][j]) :=
    World.cell?_setCells_in b _ 0 w (fun j hj => by
      match j, hj with
      | 0, _ => rw [h.c0]; rfl
      | 1, _ => rw [h.c1]; rfl
      | 2, _ => rw [h.c2]; rfl
      | 3, _ => rw [h.c3]; rfl
      | 4, _ => rw [h.c4]; rfl
      | 5, _ => rw [h.c5]; rfl
      | 6, _ => rw [h.c6]; rfl)
  refine ⟨?_, ?_, ?_, ?_, ?_, ?_, ?_, (setc_ne (by omega) (setc_ne (by omega) (setc_ne (by omega) (setc_ne (by omega) (setc_ne (by omega) (setc_ne (by omega) (setc_ne (by omega) h.c7))))))), (setc_ne (by omega) (setc_ne (by omega) (setc_ne (by omega) (setc_ne (by omega) (setc_ne (by omega) (setc_ne (by omega) (setc_ne (by omega) h.c8))))))), (setc_ne (by omega) (setc_ne (by omega) (setc_ne (by omega) (setc_ne (by omega) (setc_ne (by omega) (setc_ne (by omega) (setc_ne (by omega) h.c9))))))), (setc_ne (by omega) (setc_ne (by omega) (setc_ne (by omega) (setc_ne (by omega) (setc_ne (by omega) (setc_ne (by omega) (setc_ne (by omega) h.c10))))))), (setc_ne (by omega) (setc_ne (by omega) (setc_ne (by omega) (setc_ne (by omega) (setc_ne (by omega) (setc_ne (by omega) (setc_ne (by omega) h.c11))))))), (setc_ne (by omega) (setc_ne (by omega) (setc_ne (by omega) (setc_ne (by omega) (setc_ne (by omega) (setc_ne (by omega) (setc_ne (by omega) h.c12))))))), (setc_ne (by omega) (setc_ne (by omega) (setc_ne (by omega) (setc_ne (by omega) (setc_ne (by omega) (setc_ne (by omega) (setc_ne (by omega) h.c13))))))), (setc_ne (by omega) (setc_ne (by omega) (setc_ne (by omega) (setc_ne (by omega) (setc_ne (by omega) (setc_ne (by omega) (setc_ne (by omega) h.c14))))))), (setc_ne (by omega) (setc_ne (by omega) (setc_ne (by omega) (setc_ne (by omega) (setc_ne (by omega) (setc_ne (by omega) (setc_ne (by omega) h.c15))))))), by rw [World.frozen?_setCells]; exact h.f0, by rw [World.frozen?_setCells]; exact h.f1, by rw [World.frozen?_setCells]; exact h.f2, by rw [World.frozen?_setCells]; exact h.f3, by rw [World.frozen?_setCells]; exact h.f4, by rw [World.frozen?_setCells]; exact h.f5, by rw [World.frozen?_setCells]; exact h.f6⟩
  · have q := hin 0 (by simp); simpa using q
  · have q := hin 1 (by simp); simpa using q
  · have q := hin 2 (by simp); simpa using q
  · have q := hin 3 (by simp); simpa using q
  · have q := hin 4 (by simp); simpa using q
  · have q := hin 5 (by simp); simpa using q
  · have q := hin 6 (by simp); simpa using q

/-- A known cell is told as it is. -/
def RK (x : VT) (a : Option Addr) (c : Nat) (p : Option Addr) (f : Int) (w : World) (e : Ending) (w' : World) : Prop := e = .returned (.tuple #[.agg #[.int .i64 x.kind, .int .i64 x.num, .string x.text, .slice a x.items.length c], .pointer p, .bool true, .int .i64 f, .int .i64 0]) ∧ Below w.heap.size w w'

set_option maxRecDepth 100000 in
set_option maxHeartbeats 8000000 in
theorem rforce_known (b q : Nat) (f kd : Int) (x z : VT) (uz : Value) (a : Option Addr) (c : Nat) (p : Option Addr) (w : World) (h : DB w b true true x (.slice a x.items.length c) p kd q z uz) :
    Calls Try.prog 31 #[.pointer (some ⟨b, 0, none⟩), .int .i64 f] w (RK x a c p f w) := by
  obtain ⟨W0, hW0⟩ : ∃ W0, W0 = zbox w := ⟨_, rfl⟩
  have HW0 : Hid (W0 = w.alloc (.cells #[.int .i64 0, .int .i64 0, .string ⟨#[]⟩, .slice none 0 0] 24)) := hW0
  have hb0 : Below w.heap.size w W0 := by rw [hW0]; exact zbox_below w
  have HZ : Hid (Bx W0 w.heap.size zeroT (.slice none 0 0)) := by rw [hW0]; exact zbox_bx w
  have HS : Hid (W0.heap.size = w.heap.size + 1) := by rw [hW0]; exact zbox_size w
  have HD : Hid (DB W0 b true true x (.slice a x.items.length c) p kd q z uz) := h.keeps hb0
  obtain ⟨k0, k1, k2, k3, k4, k5, k6, _, _, _, _, _, _, _, _, _, _, _, _, _, _, _, _⟩ := HD.out
  obtain ⟨z0, z1, z2, z3, g0, g1, g2, g3⟩ := HZ.out
  have HE : Hid (RK x a c p f w (.returned (.tuple #[.agg #[.int .i64 x.kind, .int .i64 x.num, .string x.text, .slice a x.items.length c], .pointer p, .bool true, .int .i64 f, .int .i64 0])) (W0.setCells w.heap.size 0 (encP (x, .slice a x.items.length c))).drew) := ⟨rfl, by
    have hB := hb0
    exact ((((hB.setCell (p := ⟨w.heap.size, 0, none⟩) (by simp) _).setCell (p := ⟨w.heap.size, 0 + 1, none⟩) (by simp) _).setCell (p := ⟨w.heap.size, 0 + 1 + 1, none⟩) (by simp) _).setCell (p := ⟨w.heap.size, 0 + 1 + 1 + 1, none⟩) (by simp) _).drew⟩
  have Hq : Hid (Bx (W0.setCells w.heap.size 0 (encP (x, .slice a x.items.length c))).drew w.heap.size x (.slice a x.items.length c)) := (HZ.out.put (x, .slice a x.items.length c)).keeps (Below.refl _ _).drew
  have hbn : b ≠ w.heap.size := by have := h.lt; omega
  clear hW0 h hb0 HS HD
  go_enter Try.func31, Try.ntmps31
  go_upto_region 1 with fail
  rw [← HW0.out]
  clear HW0
  go_wp2_with fail
  go_region
  go_wp2_with fail
  refine bodyPost_ret (v := .tuple #[.agg #[.int .i64 x.kind, .int .i64 x.num, .string x.text, .slice a x.items.length c], .pointer p, .bool true, .int .i64 f, .int .i64 0]) ?_ rfl HE.out
  obtain ⟨q0, q1, q2, q3, _, _, _, _⟩ := Hq.out
  simp only [World.setCells, encP, Nat.zero_add, Nat.reduceAdd] at q0 q1 q2 q3
  simp [results, Try.results31, go_sem, q0, q1, q2, q3]

end Go.Proofs.Yteibdkkmaalpbab

namespace Go.Proofs.Yteibdkkmaalpbab
open Go.RowKit Go.Shelf

set_option maxRecDepth 100000 in
set_option maxHeartbeats 8000000 in
theorem rForce_bad (cv : Option Addr) (f : Int) (hf : f < 0 ∨ 1073741824 < f) (w : World) : Calls Try.prog 20 #[.pointer cv, .int .i64 f] w (FNil 0 1 w) := by
  obtain ⟨W0, hW0⟩ : ∃ W0, W0 = zbox w := ⟨_, rfl⟩
  have HW0 : Hid (W0 = w.alloc (.cells #[.int .i64 0, .int .i64 0, .string ⟨#[]⟩, .slice none 0 0] 24)) := hW0
  have HZ : Hid (Bx W0 w.heap.size zeroT (.slice none 0 0)) := by rw [hW0]; exact zbox_bx w
  have hb0 : Below w.heap.size w W0 := by rw [hW0]; exact zbox_below w
  have HE : Hid (FNil 0 1 w (.returned (.tuple #[.agg #[.int .i64 0, .int .i64 0, .string ⟨#[]⟩, .slice none 0 0], .pointer none, .bool false, .int .i64 0, .int .i64 1])) (W0.setCells w.heap.size 0 (encP (zeroT, .slice none 0 0)))) := ⟨none, 0, rfl, (((hb0.setCell (p := ⟨w.heap.size, 0, none⟩) (by simp) _).setCell (p := ⟨w.heap.size, 0 + 1, none⟩) (by simp) _).setCell (p := ⟨w.heap.size, 0 + 1 + 1, none⟩) (by simp) _).setCell (p := ⟨w.heap.size, 0 + 1 + 1 + 1, none⟩) (by simp) _⟩
  have Hq : Hid (Bx (W0.setCells w.heap.size 0 (encP (zeroT, .slice none 0 0))) w.heap.size zeroT (.slice none 0 0)) := HZ.out.put (zeroT, .slice none 0 0)
  obtain ⟨z0, z1, z2, z3, g0, g1, g2, g3⟩ := HZ.out
  clear hW0 hb0
  rcases hf with h | h
  · go_enter Try.func20, Try.ntmps20
    go_upto_region 1 with fail
    rw [← HW0.out]
    clear HW0
    go_wp2_with fail
    refine bodyPost_ret (v := .tuple #[.agg #[.int .i64 0, .int .i64 0, .string ⟨#[]⟩, .slice none 0 0], .pointer none, .bool false, .int .i64 0, .int .i64 1]) ?_ rfl HE.out
    obtain ⟨q0, q1, q2, q3, _, _, _, _⟩ := Hq.out
    simp only [World.setCells, encP, Nat.zero_add, Nat.reduceAdd] at q0 q1 q2 q3
    simp [results, Try.results20, go_sem, q0, q1, q2, q3]
  · have h0 : ¬ f < 0 := by omega
    go_enter Try.func20, Try.ntmps20
    go_upto_region 1 with fail
    rw [← HW0.out]
    clear HW0
    go_wp2_with fail
    refine bodyPost_ret (v := .tuple #[.agg #[.int .i64 0, .int .i64 0, .string ⟨#[]⟩, .slice none 0 0], .pointer none, .bool false, .int .i64 0, .int .i64 1]) ?_ rfl HE.out
    obtain ⟨q0, q1, q2, q3, _, _, _, _⟩ := Hq.out
    simp only [World.setCells, encP, Nat.zero_add, Nat.reduceAdd] at q0 q1 q2 q3
    simp [results, Try.results20, go_sem, q0, q1, q2, q3]

/-- The wrapper tells what force tells. -/
def RF (B : Nat → Prop) (P2 : World → Prop) (x : VT) (a : Option Addr) (c : Nat) (p : Option Addr) (t : Bool) (l E : Int) (_w : World) (e : Ending) (w' : World) : Prop :=
  e = .returned (.tuple #[.agg #[.int .i64 x.kind, .int .i64 x.num, .string x.text, .slice a x.items.length c], .pointer p, .bool t, .int .i64 l, .int .i64 E]) ∧ ∃ w2, P2 w2 ∧ KC B w2 w'

set_option maxRecDepth 100000 in
set_option maxHeartbeats 8000000 in
theorem rForce_of (b : Nat) (f : Nat) (hf : f ≤ 1073741824) (P : VT → Option Addr → Nat → Option Addr → Bool → Int → Int → World → Prop) (w : World)
    (h : Calls Try.prog 31 #[.pointer (some ⟨b, 0, none⟩), .int .i64 (f : Int)] (zbox w) fun e w2 => ∃ x a c p t l E, e = .returned (.tuple #[.agg #[.int .i64 x.kind, .int .i64 x.num, .string x.text, .slice a x.items.length c], .pointer p, .bool t, .int .i64 l, .int .i64 E]) ∧ P x a c p t l E w2 ∧ Bx w2 w.heap.size zeroT (.slice none 0 0)) :
    Calls Try.prog 20 #[.pointer (some ⟨b, 0, none⟩), .int .i64 (f : Int)] w fun e w' => ∃ x a c p t l E, RF (fun j => j = w.heap.size) (P x a c p t l E) x a c p t l E w e w' := by
  obtain ⟨W0, hW0⟩ : ∃ W0, W0 = zbox w := ⟨_, rfl⟩
  have HW0 : Hid (W0 = w.alloc (.cells #[.int .i64 0, .int .i64 0, .string ⟨#[]⟩, .slice none 0 0] 24)) := hW0
  have HF : Hid _ := h
  rw [← hW0] at HF
  have h0 : ¬ (f : Int) < 0 := by omega
  have h1 : ¬ (1073741824 : Int) < (f : Int) := by omega
  clear hW0 h hf
  go_enter Try.func20, Try.ntmps20
  go_upto_region 1 with fail
  rw [← HW0.out]
  clear HW0
  go_wp2_with fail
  refine Calls.mono HF.out ?_
  rintro e w2 ⟨x, a, c, p, t, l, E, rfl, hP, hbx⟩
  have HE : Hid (∃ x' a' c' p' t' l' E', RF (fun j => j = w.heap.size) (P x' a' c' p' t' l' E') x' a' c' p' t' l' E' w (.returned (.tuple #[.agg #[.int .i64 x.kind, .int .i64 x.num, .string x.text, .slice a x.items.length c], .pointer p, .bool t, .int .i64 l, .int .i64 E])) (w2.setCells w.heap.size 0 (encP (x, .slice a x.items.length c)))) := ⟨x, a, c, p, t, l, E, rfl, w2, hP, (KC.set (B := fun j => j = w.heap.size) (o := 0 + 1 + 1 + 1) (KC.set (B := fun j => j = w.heap.size) (o := 0 + 1 + 1) (KC.set (B := fun j => j = w.heap.size) (o := 0 + 1) (KC.set (B := fun j => j = w.heap.size) (o := 0) (KC.refl _ w2) (.inl rfl) _) (.inl rfl) _) (.inl rfl) _) (.inl rfl) _)⟩
  have Hq : Hid (Bx (w2.setCells w.heap.size 0 (encP (x, .slice a x.items.length c))) w.heap.size x (.slice a x.items.length c)) := hbx.put (x, .slice a x.items.length c)
  obtain ⟨z0, z1, z2, z3, g0, g1, g2, g3⟩ := hbx
  clear hP HF
  go_wp2_with fail
  refine bodyPost_ret (v := .tuple #[.agg #[.int .i64 x.kind, .int .i64 x.num, .string x.text, .slice a x.items.length c], .pointer p, .bool t, .int .i64 l, .int .i64 E]) ?_ rfl HE.out
  obtain ⟨q0, q1, q2, q3, _, _, _, _⟩ := Hq.out
  simp only [World.setCells, encP, Nat.zero_add, Nat.reduceAdd] at q0 q1 q2 q3
  simp [results, Try.results20, go_sem, q0, q1, q2, q3]

end Go.Proofs.Yteibdkkmaalpbab

