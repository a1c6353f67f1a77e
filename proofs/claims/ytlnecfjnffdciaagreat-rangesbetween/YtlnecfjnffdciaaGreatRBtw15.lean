import Derived.Test.YtlnecfjnffdciaaGreatSpeaks15
import Derived.Test.YtlnecfjnffdciaaGreatROrd
import Derived.Test.YtlnecfjnffdciaaGreatCopies
import Derived.Test.YtlnecfjnffdciaaGreatLevel
import Derived.Deep.RegionHeld3
import Derived.Test.YtlnecfjnffdciaaGreatRunesP
import Derived.Test.YtlnecfjnffdciaaGreatRotate
import Derived.Test.YtlnecfjnffdciaaGreatEq
import Derived.Test.YtlnecfjnffdciaaGreatPlaceP
import Derived.Lib.AppendZeros
import Derived.Test.YtlnecfjnffdciaaGreatPairsM
import Derived.Test.YtlnecfjnffdciaaGreatInPlR
namespace Go.Proofs.YtlnecfjnffdciaaGreat
open Go.RowKit Go.Shelf

theorem row_pair {w0 : World} {qs : List PP} {a : Option Addr} {c : Nat} (hv : SlQ 0 16 w0 qs (.slice a qs.length c)) {j : Nat} (hj : j < qs.length) : ∃ (x : PT) (a1 : Option Addr) (c1 : Nat) (a2 : Option Addr) (c2 b o : Nat), (qs.map trT)[j]? = some x ∧ a = some ⟨b, o, none⟩ ∧ PrL w0 x (.slice a1 x.1.items.length c1) (.slice a2 x.2.items.length c2) ∧ (w0.cell? ⟨b, o + j * 8, none⟩ = some (.int .i64 x.1.kind) ∧ w0.cell? ⟨b, o + j * 8 + 1, none⟩ = some (.int .i64 x.1.num) ∧ w0.cell? ⟨b, o + j * 8 + 2, none⟩ = some (.string x.1.text) ∧ w0.cell? ⟨b, o + j * 8 + 3, none⟩ = some (.slice a1 x.1.items.length c1) ∧ w0.cell? ⟨b, o + j * 8 + 4, none⟩ = some (.int .i64 x.2.kind) ∧ w0.cell? ⟨b, o + j * 8 + 5, none⟩ = some (.int .i64 x.2.num) ∧ w0.cell? ⟨b, o + j * 8 + 6, none⟩ = some (.string x.2.text) ∧ w0.cell? ⟨b, o + j * 8 + 7, none⟩ = some (.slice a2 x.2.items.length c2)) := by
 obtain ⟨a', c', he, _, _, hrow, hgood⟩ := hv
 simp only [Value.slice.injEq] at he
 obtain ⟨rfl, _, rfl⟩ := he
 obtain ⟨b, o, rfl, _, hall⟩ := hrow (by intro e; simp [e] at hj)
 have hg := hgood qs[j] (List.getElem_mem hj)
 obtain ⟨p0, p1, p2, p3, p4, p5, p6, p7⟩ := hall.at j hj
 obtain ⟨a1, c1, e1, _⟩ := Lies.slice hg.1.1
 obtain ⟨a2, c2, e2, _⟩ := Lies.slice hg.2.1
 have g1 := hg.1.1
 have g2 := hg.2.1
 rw [e1] at p3 g1
 rw [e2] at p7 g2
 exact ⟨trT qs[j], a1, c1, a2, c2, b, o, by rw [List.getElem?_map, List.getElem?_eq_getElem hj]; rfl, rfl, ⟨g1, g2⟩, p0, p1, p2, p3, p4, p5, p6, p7⟩

end Go.Proofs.YtlnecfjnffdciaaGreat

namespace Go.Proofs.YtlnecfjnffdciaaGreat
open Go.RowKit Go.Shelf

def isBtw (q : Nat) (y z : VT) (wf wt : Bool) (x : PT) : Bool := (decide (ordV q y x.1 < 0) || (decide (ordV q y x.1 = 0) && wf)) && (decide (ordV q x.1 z < 0) || (decide (ordV q x.1 z = 0) && wt))

theorem drop_is {α : Type} (A : α → Bool) : ∀ (l : List α) (I : Nat), (∀ (i : Nat) (x : α), l[i]? = some x → (A x = true ↔ i < I)) → l.drop I = l.filter (fun x => !A x)
 | [], I, _ => by simp
 | x :: l, 0, h => by
  rw [List.drop_zero]
  refine (List.filter_eq_self.2 fun y hy => ?_).symm
  obtain ⟨i, hi⟩ := List.mem_iff_getElem?.1 hy
  have h9 := mt (h i y hi).1 (Nat.not_lt_zero _)
  cases hA : A y with
  | true => exact absurd hA h9
  | false => rfl
 | x :: l, I + 1, h => by
  have h0 := (h 0 x rfl).2 (Nat.succ_pos _)
  rw [List.drop_succ_cons, List.filter_cons_of_neg (by simp [h0])]
  exact drop_is A l I (fun i y hy => by
   have h9 := h (i + 1) y (by simpa using hy)
   rw [h9]
   omega)

theorem btwL_is {w : World} {q b : Nat} {t : RT PT} (h : MC w q t b) (y z : VT) (wf wt : Bool) : btwL q y z wf wt t = t.items.filter (isBtw q y z wf wt) := by
 have hf1 := RT.Rises.falls (byK_cmp q) h.rises (y, y)
 have hf2 := RT.Rises.falls (byK_cmp q) h.rises (z, z)
 unfold btwL
 rw [RT.upTo_items (atK q y) (!wf) t hf1, RT.upTo_items (atK q z) wt t hf2]
 obtain ⟨e2, _⟩ := filter_ahead (atK q z) wt t.items hf2
 obtain ⟨_, h1⟩ := filter_ahead (atK q y) (!wf) t.items hf1
 rw [drop_is (RT.ahead (atK q y) (!wf)) _ _ (fun i x hx => h1 i x (by
  rw [List.getElem?_take] at hx
  split at hx
  ·exact hx
  ·cases hx)), e2, List.filter_filter]
 refine List.filter_congr fun x _ => ?_
 unfold isBtw RT.ahead atK
 have e := ordV_turn q z x.1
 rw [e]
 generalize ordV q y x.1 = A
 generalize ordV q z x.1 = B
 have k1 : decide (-B < 0) = decide (0 < B) := decide_eq_decide.2 (by omega)
 have k2 : decide (-B = 0) = decide (B = 0) := decide_eq_decide.2 (by omega)
 rw [k1, k2]
 by_cases a1 : A < 0
 ·have a2 : ¬ 0 < A := by omega
  have a3 : ¬ A = 0 := by omega
  simp [a1, a2, a3]
 ·by_cases a2 : 0 < A
  ·have a3 : ¬ A = 0 := by omega
   simp [a1, a2, a3]
  ·have a3 : A = 0 := by omega
   subst a3
   cases wf <;> simp

theorem isBtw_yes {q : Nat} {y z : VT} {wf wt : Bool} {x : PT} (h : isBtw q y z wf wt x = true) : (ordV q y x.1 < 0 ∨ (ordV q y x.1 = 0 ∧ wf = true)) ∧ (ordV q x.1 z < 0 ∨ (ordV q x.1 z = 0 ∧ wt = true)) := by
 unfold isBtw at h
 simpa using h

theorem isBtw_no {q : Nat} {y z : VT} {wf wt : Bool} {x : PT} (h : isBtw q y z wf wt x = false) : ((¬ ordV q y x.1 < 0 ∧ ¬ ordV q y x.1 = 0) ∨ (ordV q y x.1 = 0 ∧ wf = false)) ∨ ((ordV q y x.1 < 0 ∨ (ordV q y x.1 = 0 ∧ wf = true)) ∧ ((¬ ordV q x.1 z < 0 ∧ ¬ ordV q x.1 z = 0) ∨ (ordV q x.1 z = 0 ∧ wt = false))) := by
 unfold isBtw at h
 generalize ordV q y x.1 = A at *
 generalize ordV q x.1 z = B at *
 by_cases a1 : A < 0
 ·have a3 : ¬ A = 0 := by omega
  simp only [a1, a3, decide_true, Bool.true_or, Bool.true_and, Bool.or_eq_false_iff, decide_eq_false_iff_not] at h
  refine .inr ⟨.inl a1, ?_⟩
  by_cases b3 : B = 0
  ·subst b3
   exact .inr ⟨rfl, by simpa using h.2⟩
  ·exact .inl ⟨h.1, b3⟩
 ·by_cases a3 : A = 0
  ·subst a3
   cases wf with
   | false => exact .inl (.inr ⟨rfl, rfl⟩)
   | true =>
    simp at h
    refine .inr ⟨.inr ⟨rfl, rfl⟩, ?_⟩
    by_cases b3 : B = 0
    ·subst b3
     exact .inr ⟨rfl, by simpa using h.2⟩
    ·exact .inl ⟨by omega, b3⟩
  ·exact .inl (.inl ⟨a1, a3⟩)

set_option maxRecDepth 100000 in
set_option maxHeartbeats 8000000 in
theorem rbtw15_wrong (d1 d2 : Nat) (q : Int) (y z : VT) (ay az av : Option Addr) (cy cz nv cv : Nat) (wf wt : Bool) (w : World) (hy : Lies d1 w y.items (.slice ay y.items.length cy)) (hz : Lies d2 w z.items (.slice az z.items.length cz)) (hr : ¬ (rightV d1 y = true ∧ rightV d2 z = true)) :
 Calls Tryz.prog 41 #[.int .i64 q, .slice av nv cv, .agg #[.int .i64 y.kind, .int .i64 y.num, .string y.text, .slice ay y.items.length cy, .int .i64 z.kind, .int .i64 z.num, .string z.text, .slice az z.items.length cz, .bool wf, .bool wt]] w fun e w' => e = .returned (.tuple #[.slice none 0 0, .int .i64 3]) ∧ Below w.heap.size w w' := by
 have HR1 : Hid (∀ V, Below w.heap.size w V → Calls Tryz.prog 63 #[.agg #[.int .i64 y.kind, .int .i64 y.num, .string y.text, .slice ay y.items.length cy]] V fun e w' => e = .returned (.bool (rightV d1 y)) ∧ Below V.heap.size V w') := fun V hV => right_any d1 y _ V (Lies.keeps hV _ _ _ hy)
 have HR2 : Hid (∀ V, Below w.heap.size w V → Calls Tryz.prog 63 #[.agg #[.int .i64 z.kind, .int .i64 z.num, .string z.text, .slice az z.items.length cz]] V fun e w' => e = .returned (.bool (rightV d2 z)) ∧ Below V.heap.size V w') := fun V hV => right_any d2 z _ V (Lies.keeps hV _ _ _ hz)
 obtain ⟨W0, hW0⟩ : ∃ W0, W0 = w.alloc (.cells #[.int .i64 y.kind, .int .i64 y.num, .string y.text, .slice ay y.items.length cy, .int .i64 z.kind, .int .i64 z.num, .string z.text, .slice az z.items.length cz, .bool wf, .bool wt] 75) := ⟨_, rfl⟩
 have HW0 : Hid (W0 = w.alloc (.cells #[.int .i64 y.kind, .int .i64 y.num, .string y.text, .slice ay y.items.length cy, .int .i64 z.kind, .int .i64 z.num, .string z.text, .slice az z.items.length cz, .bool wf, .bool wt] 75)) := hW0
 have hb0 : Below w.heap.size w W0 := by rw [hW0]; exact ((Grew.refl w).alloc _).below
 have b0 : W0.cell? ⟨w.heap.size, 0, none⟩ = some (.int .i64 y.kind) := by rw [hW0]; simp
 have b1 : W0.cell? ⟨w.heap.size, 1, none⟩ = some (.int .i64 y.num) := by rw [hW0]; simp
 have b2 : W0.cell? ⟨w.heap.size, 2, none⟩ = some (.string y.text) := by rw [hW0]; simp
 have b3 : W0.cell? ⟨w.heap.size, 3, none⟩ = some (.slice ay y.items.length cy) := by rw [hW0]; simp
 have b4 : W0.cell? ⟨w.heap.size, 4, none⟩ = some (.int .i64 z.kind) := by rw [hW0]; simp
 have b5 : W0.cell? ⟨w.heap.size, 5, none⟩ = some (.int .i64 z.num) := by rw [hW0]; simp
 have b6 : W0.cell? ⟨w.heap.size, 6, none⟩ = some (.string z.text) := by rw [hW0]; simp
 have b7 : W0.cell? ⟨w.heap.size, 7, none⟩ = some (.slice az z.items.length cz) := by rw [hW0]; simp
 have b8 : W0.cell? ⟨w.heap.size, 8, none⟩ = some (.bool wf) := by rw [hW0]; simp
 have b9 : W0.cell? ⟨w.heap.size, 9, none⟩ = some (.bool wt) := by rw [hW0]; simp
 have HR : Hid (¬ (rightV d1 y = true ∧ rightV d2 z = true)) := hr
 clear hW0 hy hz hr
 generalize rightV d1 y = R1 at *
 generalize rightV d2 z = R2 at *
 go_enter Tryz.func41, Tryz.ntmps41
 go_upto_region 1 with fail
 rw [← HW0.out]
 clear HW0
 cases R1 with
 | false =>
  go_wp2_with fail
  refine Calls.mono (HR1.out _ hb0) ?_
  rintro e w1 ⟨rfl, hg1⟩
  have hb1 : Below w.heap.size w w1 := hb0.trans (hg1.mono hb0.size)
  clear hg1 HR1 HR2 hb0 b0 b1 b2 b3 b4 b5 b6 b7 b8 b9
  go_wp2_with fail
  go_ret2
  exact ⟨rfl, hb1⟩
 | true =>
  cases R2 with
  | true => exact absurd ⟨rfl, rfl⟩ HR.out
  | false =>
   go_wp2_with fail
   refine Calls.mono (HR1.out _ hb0) ?_
   rintro e w1 ⟨rfl, hg1⟩
   have hb1 : Below w.heap.size w w1 := hb0.trans (hg1.mono hb0.size)
   have b0 := cell_keeps hg1 b0; have b1 := cell_keeps hg1 b1; have b2 := cell_keeps hg1 b2; have b3 := cell_keeps hg1 b3; have b4 := cell_keeps hg1 b4; have b5 := cell_keeps hg1 b5; have b6 := cell_keeps hg1 b6; have b7 := cell_keeps hg1 b7; have b8 := cell_keeps hg1 b8; have b9 := cell_keeps hg1 b9
   clear hg1 HR1 hb0
   go_wp2_with fail
   refine Calls.mono (HR2.out _ hb1) ?_
   rintro e w2 ⟨rfl, hg2⟩
   have hb2 : Below w.heap.size w w2 := hb1.trans (hg2.mono hb1.size)
   clear hg2 HR2 hb1 b0 b1 b2 b3 b4 b5 b6 b7 b8 b9
   go_wp2_with fail
   go_ret2
   exact ⟨rfl, hb2⟩

def BtD (l : List PT) (w : World) (e : Ending) (w' : World) : Prop := Below w.heap.size w w' ∧ ∃ qs v, e = .returned (.tuple #[v, .int .i64 0]) ∧ qs.map trT = l ∧ SlQ 0 16 w' qs v

set_option maxRecDepth 100000 in
set_option maxHeartbeats 16000000 in
theorem rbtw15_right (q : Nat) (hq : q < 6) (qs : List PP) (v : Value) (y z : VT) (ay az : Option Addr) (cy cz : Nat) (wf wt : Bool) (w : World) (hv : SlQ 0 16 w qs v) (hlen : qs.length ≤ 65536) (hrq : ∀ p ∈ qs, rightV 16 p.1.1 = true) (hy : Lies 16 w y.items (.slice ay y.items.length cy)) (hz : Lies 16 w z.items (.slice az z.items.length cz)) (hyr : rightV 16 y = true) (hzr : rightV 16 z = true) :
 Calls Tryz.prog 41 #[.int .i64 (q : Int), v, .agg #[.int .i64 y.kind, .int .i64 y.num, .string y.text, .slice ay y.items.length cy, .int .i64 z.kind, .int .i64 z.num, .string z.text, .slice az z.items.length cz, .bool wf, .bool wt]] w (BtD ((qs.map trT).filter (isBtw q y z wf wt)) w) := by
 obtain ⟨i0, hi, hz0, hz1, hz2⟩ := infoQ
 have Hi : Hid _ := hi; have Hz0 : Hid _ := hz0; have Hz1 : Hid _ := hz1; have Hz2 : Hid _ := hz2
 have HR1 : Hid (∀ V, Below w.heap.size w V → Calls Tryz.prog 63 #[.agg #[.int .i64 y.kind, .int .i64 y.num, .string y.text, .slice ay y.items.length cy]] V fun e w' => e = .returned (.bool true) ∧ Below V.heap.size V w') := fun V hV => by
  have h9 := right_any 16 y _ V (Lies.keeps hV _ _ _ hy)
  rwa [hyr] at h9
 have HR2 : Hid (∀ V, Below w.heap.size w V → Calls Tryz.prog 63 #[.agg #[.int .i64 z.kind, .int .i64 z.num, .string z.text, .slice az z.items.length cz]] V fun e w' => e = .returned (.bool true) ∧ Below V.heap.size V w') := fun V hV => by
  have h9 := right_any 16 z _ V (Lies.keeps hV _ _ _ hz)
  rwa [hzr] at h9
 have HO1 : Hid (∀ (x : VT) (xu : Value) V, Below w.heap.size w V → Lies 16 V x.items xu → rightV 16 x = true → Calls Tryz.prog 54 #[.int .i64 (q : Int), .agg #[.int .i64 y.kind, .int .i64 y.num, .string y.text, .slice ay y.items.length cy], .agg #[.int .i64 x.kind, .int .i64 x.num, .string x.text, xu]] V fun e w' => e = .returned (.int .i64 (ordV q y x)) ∧ Below V.heap.size V w') := fun x xu V hV h1 h2 => rordV_any q hq y x _ xu V (Lies.keeps hV _ _ _ hy) h1 hyr h2
 have HO2 : Hid (∀ (x : VT) (xu : Value) V, Below w.heap.size w V → Lies 16 V x.items xu → rightV 16 x = true → Calls Tryz.prog 54 #[.int .i64 (q : Int), .agg #[.int .i64 x.kind, .int .i64 x.num, .string x.text, xu], .agg #[.int .i64 z.kind, .int .i64 z.num, .string z.text, .slice az z.items.length cz]] V fun e w' => e = .returned (.int .i64 (ordV q x z)) ∧ Below V.heap.size V w') := fun x xu V hV h1 h2 => rordV_any q hq x z xu _ V h1 (Lies.keeps hV _ _ _ hz) h2 hzr
 obtain ⟨W0, hW0⟩ : ∃ W0, W0 = w.alloc (.cells #[.int .i64 y.kind, .int .i64 y.num, .string y.text, .slice ay y.items.length cy, .int .i64 z.kind, .int .i64 z.num, .string z.text, .slice az z.items.length cz, .bool wf, .bool wt] 75) := ⟨_, rfl⟩
 have HW0 : Hid (W0 = w.alloc (.cells #[.int .i64 y.kind, .int .i64 y.num, .string y.text, .slice ay y.items.length cy, .int .i64 z.kind, .int .i64 z.num, .string z.text, .slice az z.items.length cz, .bool wf, .bool wt] 75)) := hW0
 have hb0 : Below w.heap.size w W0 := by rw [hW0]; exact ((Grew.refl w).alloc _).below
 have b0 : W0.cell? ⟨w.heap.size, 0, none⟩ = some (.int .i64 y.kind) := by rw [hW0]; simp
 have b1 : W0.cell? ⟨w.heap.size, 1, none⟩ = some (.int .i64 y.num) := by rw [hW0]; simp
 have b2 : W0.cell? ⟨w.heap.size, 2, none⟩ = some (.string y.text) := by rw [hW0]; simp
 have b3 : W0.cell? ⟨w.heap.size, 3, none⟩ = some (.slice ay y.items.length cy) := by rw [hW0]; simp
 have b4 : W0.cell? ⟨w.heap.size, 4, none⟩ = some (.int .i64 z.kind) := by rw [hW0]; simp
 have b5 : W0.cell? ⟨w.heap.size, 5, none⟩ = some (.int .i64 z.num) := by rw [hW0]; simp
 have b6 : W0.cell? ⟨w.heap.size, 6, none⟩ = some (.string z.text) := by rw [hW0]; simp
 have b7 : W0.cell? ⟨w.heap.size, 7, none⟩ = some (.slice az z.items.length cz) := by rw [hW0]; simp
 have b8 : W0.cell? ⟨w.heap.size, 8, none⟩ = some (.bool wf) := by rw [hW0]; simp
 have b9 : W0.cell? ⟨w.heap.size, 9, none⟩ = some (.bool wt) := by rw [hW0]; simp
 have HV : Hid (SlQ 0 16 w qs v) := hv
 have HG : Hid (∀ p ∈ qs, rightV 16 p.1.1 = true) := hrq
 have HLen : Hid (qs.length ≤ 65536) := hlen
 obtain ⟨av, cv, rfl, hac, _, hrow, hgood⟩ := hv
 have Hrow : Hid (qs ≠ [] → ∃ b o, av = some ⟨b, o, none⟩ ∧ 0 ≤ b ∧ QAt w b o qs) := hrow
 have Hgd : Hid (∀ p ∈ qs, GoodQ 16 w p) := hgood
 obtain ⟨N, hN⟩ : ∃ N, N = qs.length := ⟨_, rfl⟩
 have HN : Hid (N = qs.length) := hN
 rw [← hN]
 obtain ⟨kp, hkp⟩ : ∃ kp : PP → Bool, kp = fun p => isBtw q y z wf wt (trT p) := ⟨_, rfl⟩
 have Hfin : Hid (∀ (u : Value) (V : World), V.ownsRow W0.heap.size 69 8 u ((qs.take N).filter kp).length (((qs.take N).filter kp).flatMap encQ) → Below w.heap.size w V → BtD ((qs.map trT).filter (isBtw q y z wf wt)) w (.returned (.tuple #[u, .int .i64 0])) V) := by
  intro u V h1 h2
  rw [hN, List.take_length] at h1
  refine ⟨h2, qs.filter kp, u, rfl, ?_, ?_⟩
  ·rw [hkp, List.filter_map]; rfl
  ·exact (SlQ.of_own rfl h1 (fun p hp => (hgood p (List.mem_filter.1 hp).1).keeps h2) (by have := List.length_filter_le kp qs; omega)).mono (Nat.zero_le _)
 have Hstep : Hid (∀ (k : Nat) (hk : k < qs.length), kp qs[k] = true → (qs.take (k + 1)).filter kp = (qs.take k).filter kp ++ [qs[k]]) := fun k hk h => by
  rw [List.take_succ_eq_append_getElem hk, List.filter_append, List.filter_cons_of_pos h]; rfl
 have Hskip : Hid (∀ (k : Nat) (hk : k < qs.length), kp qs[k] = false → (qs.take (k + 1)).filter kp = (qs.take k).filter kp) := fun k hk h => by
  rw [List.take_succ_eq_append_getElem hk, List.filter_append, List.filter_cons_of_neg (by simp [h])]; simp
 have Hyes : Hid (∀ p, kp p = true → (ordV q y p.1.1 < 0 ∨ (ordV q y p.1.1 = 0 ∧ wf = true)) ∧ (ordV q p.1.1 z < 0 ∨ (ordV q p.1.1 z = 0 ∧ wt = true))) := fun p h => by
  rw [hkp] at h
  exact isBtw_yes h
 have Hno : Hid (∀ p, kp p = false → ((¬ ordV q y p.1.1 < 0 ∧ ¬ ordV q y p.1.1 = 0) ∨ (ordV q y p.1.1 = 0 ∧ wf = false)) ∨ ((ordV q y p.1.1 < 0 ∨ (ordV q y p.1.1 = 0 ∧ wf = true)) ∧ ((¬ ordV q p.1.1 z < 0 ∧ ¬ ordV q p.1.1 z = 0) ∨ (ordV q p.1.1 z = 0 ∧ wt = false)))) := fun p h => by
  rw [hkp] at h
  exact isBtw_no h
 have hlw : w.heap.size < W0.heap.size := by rw [hW0]; simp
 clear hW0 hy hz hyr hzr hlen hrq hac hrow hgood hN hkp hi hz0 hz1 hz2
 generalize BtD ((qs.map trT).filter (isBtw q y z wf wt)) w = PO at *
 generalize ordV q = g at *
 go_enter Tryz.func41, Tryz.ntmps41
 go_upto_region 1 with fail
 rw [← HW0.out]
 clear HW0
 go_wp2_with fail
 refine Calls.mono (HR1.out _ hb0) ?_
 rintro e w1 ⟨rfl, hg1⟩
 have hb1 : Below w.heap.size w w1 := hb0.trans (hg1.mono hb0.size)
 have b0 := cell_keeps hg1 b0; have b1 := cell_keeps hg1 b1; have b2 := cell_keeps hg1 b2; have b3 := cell_keeps hg1 b3; have b4 := cell_keeps hg1 b4; have b5 := cell_keeps hg1 b5; have b6 := cell_keeps hg1 b6; have b7 := cell_keeps hg1 b7; have b8 := cell_keeps hg1 b8; have b9 := cell_keeps hg1 b9
 go_wp2_with fail
 refine Calls.mono (HR2.out _ hb1) ?_
 rintro e w2 ⟨rfl, hg2⟩
 have hb2 : Below w.heap.size w w2 := hb1.trans (hg2.mono hb1.size)
 have hB2 : Below W0.heap.size W0 w2 := hg1.trans (hg2.mono hg1.size)
 have b0 := cell_keeps hg2 b0; have b1 := cell_keeps hg2 b1; have b2 := cell_keeps hg2 b2; have b3 := cell_keeps hg2 b3; have b4 := cell_keeps hg2 b4; have b5 := cell_keeps hg2 b5; have b6 := cell_keeps hg2 b6; have b7 := cell_keeps hg2 b7; have b8 := cell_keeps hg2 b8; have b9 := cell_keeps hg2 b9
 have HBq : Hid (w2.cell? ⟨w.heap.size, 0, none⟩ = some (.int .i64 y.kind) ∧ w2.cell? ⟨w.heap.size, 1, none⟩ = some (.int .i64 y.num) ∧ w2.cell? ⟨w.heap.size, 2, none⟩ = some (.string y.text) ∧ w2.cell? ⟨w.heap.size, 3, none⟩ = some (.slice ay y.items.length cy) ∧ w2.cell? ⟨w.heap.size, 4, none⟩ = some (.int .i64 z.kind) ∧ w2.cell? ⟨w.heap.size, 5, none⟩ = some (.int .i64 z.num) ∧ w2.cell? ⟨w.heap.size, 6, none⟩ = some (.string z.text) ∧ w2.cell? ⟨w.heap.size, 7, none⟩ = some (.slice az z.items.length cz) ∧ w2.cell? ⟨w.heap.size, 8, none⟩ = some (.bool wf) ∧ w2.cell? ⟨w.heap.size, 9, none⟩ = some (.bool wt)) := ⟨b0, b1, b2, b3, b4, b5, b6, b7, b8, b9⟩
 have hsz2 : w.heap.size < w2.heap.size := Nat.lt_of_lt_of_le hlw hB2.size
 clear hg1 hg2 HR1 HR2 hb0 hb1 b0 b1 b2 b3 b4 b5 b6 b7 b8 b9
 go_wp2_with fail
 go_loopg [25, 8, 10, 11, 12] N (fun m i u _ _ _ wr => ∃ k : Nat, i = .int .i64 (k : Int) ∧ m = N - k ∧ k ≤ N ∧ Hid (wr.ownsRow W0.heap.size 69 8 u ((qs.take k).filter kp).length (((qs.take k).filter kp).flatMap encQ)) ∧ Hid (Below W0.heap.size W0 wr) ∧ Hid (Below w2.heap.size w2 w2 ∧ ∀ j, j < 10 → wr.cell? ⟨w.heap.size, j, none⟩ = w2.cell? ⟨w.heap.size, j, none⟩) ∧ Hid (Below w.heap.size w wr))
 case atStart => exact ⟨0, rfl, by omega, by omega, World.ownsRow_nil _ _ _ _, hB2, ⟨Below.refl _ _, fun _ _ => rfl⟩, hb2⟩
 case round =>
  obtain ⟨k, rfl, hk, hk2, HOw, HBw, HBx, HW⟩ := hrel
  have Hk : Hid _ := hk
  have hbw := HW.out
  clear hk
  by_cases hlt : k < N
  ·have hki : (k : Int) < (N : Nat) := by omega
   have hltq : k < qs.length := by have := HN.out; omega
   have HkN : Hid (k < qs.length ∧ qs.length ≤ 65536) := ⟨hltq, HLen.out⟩
   obtain ⟨b, o, rfl, _, hall⟩ := Hrow.out (by intro e; simp [e] at hltq)
   have gp := HG.out qs[k] (List.getElem_mem hltq)
   have gq := Hgd.out qs[k] (List.getElem_mem hltq)
   have Hst : Hid _ := Hstep.out k hltq
   have Hsk : Hid _ := Hskip.out k hltq
   obtain ⟨fl, hfl⟩ : ∃ fl, fl = ((qs.take k).filter kp).length := ⟨_, rfl⟩
   have hfll : fl ≤ k := by rw [hfl]; exact Nat.le_trans (List.length_filter_le _ _) (by rw [List.length_take]; omega)
   have Hfl : Hid (fl = ((qs.take k).filter kp).length) := hfl
   rw [← hfl] at HOw
   have Ex := hall.at k hltq
   obtain ⟨⟨⟨kx, ku⟩, ⟨vx, vu⟩⟩, hx⟩ : ∃ x, x = qs[k] := ⟨_, rfl⟩
   rw [← hx] at gp gq Hst Hsk Ex
   obtain ⟨ta, tc, et1, _⟩ := Lies.slice gq.1.1
   obtain ⟨tb, td, et2, _⟩ := Lies.slice gq.2.1
   simp only at et1 et2 gp
   subst et1 et2
   obtain ⟨p0, p1, p2, p3, p4, p5, p6, p7⟩ := Ex
   simp only at p0 p1 p2 p3 p4 p5 p6 p7
   have HX : Hid (Lies 16 w kx.items (.slice ta kx.items.length tc) ∧ rightV 16 kx = true) := ⟨gq.1.1, gp⟩
   have p0 := cell_keeps hbw p0; have p1 := cell_keeps hbw p1; have p2 := cell_keeps hbw p2; have p3 := cell_keeps hbw p3; have p4 := cell_keeps hbw p4; have p5 := cell_keeps hbw p5; have p6 := cell_keeps hbw p6; have p7 := cell_keeps hbw p7
   obtain ⟨_, hbx⟩ := HBx.out
   obtain ⟨B0, B1, B2, B3, B4, B5, B6, B7, B8, B9⟩ := HBq.out
   have b0 := (hbx 0 (by omega)).trans B0; have b1 := (hbx 1 (by omega)).trans B1; have b2 := (hbx 2 (by omega)).trans B2; have b3 := (hbx 3 (by omega)).trans B3; have b4 := (hbx 4 (by omega)).trans B4; have b5 := (hbx 5 (by omega)).trans B5; have b6 := (hbx 6 (by omega)).trans B6; have b7 := (hbx 7 (by omega)).trans B7; have b8 := (hbx 8 (by omega)).trans B8; have b9 := (hbx 9 (by omega)).trans B9
   clear B0 B1 B2 B3 B4 B5 B6 B7 B8 B9 hbx hall gp gq hx hfl hltq hb2 hB2
   obtain ⟨WA, hWA⟩ : ∃ WA, WA = wr.alloc (.cells #[.int .i64 kx.kind, .int .i64 kx.num, .string kx.text, .slice ta kx.items.length tc, .int .i64 vx.kind, .int .i64 vx.num, .string vx.text, .slice tb vx.items.length td] 69) := ⟨_, rfl⟩
   have HWA : Hid (WA = wr.alloc (.cells #[.int .i64 kx.kind, .int .i64 kx.num, .string kx.text, .slice ta kx.items.length tc, .int .i64 vx.kind, .int .i64 vx.num, .string vx.text, .slice tb vx.items.length td] 69)) := hWA
   have hgA : Below wr.heap.size wr WA := by rw [hWA]; exact ((Grew.refl wr).alloc _).below
   have x0 : WA.cell? ⟨wr.heap.size, 0, none⟩ = some (.int .i64 kx.kind) := by rw [hWA]; simp
   have x1 : WA.cell? ⟨wr.heap.size, 1, none⟩ = some (.int .i64 kx.num) := by rw [hWA]; simp
   have x2 : WA.cell? ⟨wr.heap.size, 2, none⟩ = some (.string kx.text) := by rw [hWA]; simp
   have x3 : WA.cell? ⟨wr.heap.size, 3, none⟩ = some (.slice ta kx.items.length tc) := by rw [hWA]; simp
   have x4 : WA.cell? ⟨wr.heap.size, 4, none⟩ = some (.int .i64 vx.kind) := by rw [hWA]; simp
   have x5 : WA.cell? ⟨wr.heap.size, 5, none⟩ = some (.int .i64 vx.num) := by rw [hWA]; simp
   have x6 : WA.cell? ⟨wr.heap.size, 6, none⟩ = some (.string vx.text) := by rw [hWA]; simp
   have x7 : WA.cell? ⟨wr.heap.size, 7, none⟩ = some (.slice tb vx.items.length td) := by rw [hWA]; simp
   clear hWA
   have b0 := cell_keeps hgA b0; have b1 := cell_keeps hgA b1; have b2 := cell_keeps hgA b2; have b3 := cell_keeps hgA b3; have b4 := cell_keeps hgA b4; have b5 := cell_keeps hgA b5; have b6 := cell_keeps hgA b6; have b7 := cell_keeps hgA b7; have b8 := cell_keeps hgA b8; have b9 := cell_keeps hgA b9
   go_upto_region 7 with fail
   rw [← HWA.out]
   clear HWA p0 p1 p2 p3 p4 p5 p6 p7
   have hbA : Below w.heap.size w WA := hbw.trans (hgA.mono hbw.size)
   go_wp2_with fail
   refine Calls.mono (HO1.out kx _ _ hbA (Lies.keeps hbA _ _ _ HX.out.1) HX.out.2) ?_
   rintro e w3 ⟨rfl, hg3⟩
   have hgz3 : Below wr.heap.size wr w3 := hgA.trans (hg3.mono hgA.size)
   have hb3 : Below w.heap.size w w3 := hbw.trans (hgz3.mono hbw.size)
   have b0 := cell_keeps hg3 b0; have b1 := cell_keeps hg3 b1; have b2 := cell_keeps hg3 b2; have b3 := cell_keeps hg3 b3; have b4 := cell_keeps hg3 b4; have b5 := cell_keeps hg3 b5; have b6 := cell_keeps hg3 b6; have b7 := cell_keeps hg3 b7; have b8 := cell_keeps hg3 b8; have b9 := cell_keeps hg3 b9
   have x0 := cell_keeps hg3 x0; have x1 := cell_keeps hg3 x1; have x2 := cell_keeps hg3 x2; have x3 := cell_keeps hg3 x3; have x4 := cell_keeps hg3 x4; have x5 := cell_keeps hg3 x5; have x6 := cell_keeps hg3 x6; have x7 := cell_keeps hg3 x7
   clear hg3 hgA hbA
   go_wp2_with fail
   refine Calls.mono (HO2.out kx _ _ hb3 (Lies.keeps hb3 _ _ _ HX.out.1) HX.out.2) ?_
   rintro e w4 ⟨rfl, hg4⟩
   have hgz4 : Below wr.heap.size wr w4 := hgz3.trans (hg4.mono hgz3.size)
   have hb4 : Below w.heap.size w w4 := hbw.trans (hgz4.mono hbw.size)
   have b0 := cell_keeps hg4 b0; have b1 := cell_keeps hg4 b1; have b2 := cell_keeps hg4 b2; have b3 := cell_keeps hg4 b3; have b4 := cell_keeps hg4 b4; have b5 := cell_keeps hg4 b5; have b6 := cell_keeps hg4 b6; have b7 := cell_keeps hg4 b7; have b8 := cell_keeps hg4 b8; have b9 := cell_keeps hg4 b9
   have x0 := cell_keeps hg4 x0; have x1 := cell_keeps hg4 x1; have x2 := cell_keeps hg4 x2; have x3 := cell_keeps hg4 x3; have x4 := cell_keeps hg4 x4; have x5 := cell_keeps hg4 x5; have x6 := cell_keeps hg4 x6; have x7 := cell_keeps hg4 x7
   have HOw4 : Hid (w4.ownsRow W0.heap.size 69 8 u8 fl (((qs.take k).filter kp).flatMap encQ)) := own_keeps HOw.out hgz4
   have HBw4 : Hid (Below W0.heap.size W0 w4) := HBw.out.trans (hgz4.mono HBw.out.size)
   have HBx4 : Hid (Below w2.heap.size w2 w2 ∧ ∀ j, j < 10 → w4.cell? ⟨w.heap.size, j, none⟩ = w2.cell? ⟨w.heap.size, j, none⟩) := by
    have hh := HBq.out
    refine ⟨Below.refl _ _, fun j hj => ?_⟩
    match j, hj with
    | 0, _ => exact b0.trans hh.1.symm
    | 1, _ => exact b1.trans hh.2.1.symm
    | 2, _ => exact b2.trans hh.2.2.1.symm
    | 3, _ => exact b3.trans hh.2.2.2.1.symm
    | 4, _ => exact b4.trans hh.2.2.2.2.1.symm
    | 5, _ => exact b5.trans hh.2.2.2.2.2.1.symm
    | 6, _ => exact b6.trans hh.2.2.2.2.2.2.1.symm
    | 7, _ => exact b7.trans hh.2.2.2.2.2.2.2.1.symm
    | 8, _ => exact b8.trans hh.2.2.2.2.2.2.2.2.1.symm
    | 9, _ => exact b9.trans hh.2.2.2.2.2.2.2.2.2.symm
   have hsw4 : w.heap.size < w4.heap.size := by have := hgz4.size; have := HBw.out.size; omega
   clear hg4 hgz3 hb3 HOw HBw HBx
   have HY : Hid _ := Hyes.out ((kx, .slice ta kx.items.length tc), (vx, .slice tb vx.items.length td))
   have HNo : Hid _ := Hno.out ((kx, .slice ta kx.items.length tc), (vx, .slice tb vx.items.length td))
   simp only at HY HNo
   generalize g y kx = A at *
   generalize g kx z = C at *
   clear b0 b1 b2 b3 b4 b5 b6 b7
   have HkN2 : Hid (k < 65536) := by have := HkN.out; show k < 65536; omega
   cases hkq : kp ((kx, .slice ta kx.items.length tc), (vx, .slice tb vx.items.length td)) with
   | false =>
    have hsk := Hsk.out hkq
    have HE : Hid (w4.ownsRow W0.heap.size 69 8 u8 ((qs.take (k + 1)).filter kp).length (((qs.take (k + 1)).filter kp).flatMap encQ)) := by
     rw [hsk, ← Hfl.out]
     exact HOw4.out
    have hcase := HNo.out hkq
    have hk6 : k < 65536 := HkN2.out
    clear hsk Hsk Hst HY HNo Hyes Hno Hstep Hskip HkN HOw4 Hfl HX hkq x0 x1 x2 x3 x4 x5 x6 x7
    rcases hcase with (⟨h1, h2⟩ | ⟨rfl, rfl⟩) | ⟨(h1 | ⟨rfl, rfl⟩), (⟨h2, h3⟩ | ⟨rfl, rfl⟩)⟩
    all_goals go_wp2_with fail
    all_goals go_roundg (N - (k + 1))
    all_goals first
     | (case measure => have := Hk.out; omega)
     | (case rel => exact ⟨k + 1, by go_num, rfl, by omega, HE, HBw4, HBx4, hb4⟩)
   | true =>
    have hst := Hst.out hkq
    have hcase := HY.out hkq
    have hk6 : k < 65536 := HkN2.out
    have hwl : W0.heap.size ≤ w4.heap.size := HBw4.out.size
    obtain ⟨asl, cs, rfl⟩ : ∃ a c, u8 = .slice a fl c := by
     rcases HOw4.out.2 with ⟨e, e2⟩ | ⟨g, cap, _, e, _⟩
     ·exact ⟨none, 0, by rw [e, e2]⟩
     ·exact ⟨_, _, e⟩
    have HE : Hid (∀ (v9 : Value) (w9 : World), (w9.ownsRow W0.heap.size 69 8 v9 (fl + 1) (((qs.take k).filter kp).flatMap encQ ++ [.int .i64 kx.kind, .int .i64 kx.num, .string kx.text, .slice ta kx.items.length tc, .int .i64 vx.kind, .int .i64 vx.num, .string vx.text, .slice tb vx.items.length td])) → w9.ownsRow W0.heap.size 69 8 v9 ((qs.take (k + 1)).filter kp).length (((qs.take (k + 1)).filter kp).flatMap encQ)) := fun v9 w9 h => by
     rw [hst, List.length_append, ← Hfl.out, List.flatMap_append]
     simpa [encQ, encP] using h
    have HWs : Hid (∀ (r : Option Nat) (w9 : World), (w4.alloc (.cells #[.int .i64 kx.kind, .int .i64 kx.num, .string kx.text, .slice ta kx.items.length tc, .int .i64 vx.kind, .int .i64 vx.num, .string vx.text, .slice tb vx.items.length td] 69)).grownBy w9 r → (∀ k, r = some k → W0.heap.size ≤ k) → Below W0.heap.size W0 w9 ∧ (Below w2.heap.size w2 w2 ∧ ∀ j, j < 10 → w9.cell? ⟨w.heap.size, j, none⟩ = w2.cell? ⟨w.heap.size, j, none⟩) ∧ Below w.heap.size w w9) := fun r w9 hg hr => by
     have hA4 := ((Grew.refl w4).alloc (.cells #[.int .i64 kx.kind, .int .i64 kx.num, .string kx.text, .slice ta kx.items.length tc, .int .i64 vx.kind, .int .i64 vx.num, .string vx.text, .slice tb vx.items.length td] 69)).below
     refine ⟨(HBw4.out.trans (hA4.mono HBw4.out.size)).grown hg (by have := hA4.size; omega) hr, ⟨Below.refl _ _, fun j hj => ?_⟩, (hb4.trans (hA4.mono hb4.size)).grown hg (hb4.trans (hA4.mono hb4.size)).size (fun k hk => by have := hr k hk; omega)⟩
     rw [← HBx4.out.2 j hj]
     refine (World.cell?_of_block (hg.block w.heap.size (by simp; omega) (fun e => by have := hr _ e.symm; omega))).trans ?_
     exact World.cell?_of_block (hA4.block w.heap.size (by omega))
    clear hst Hsk Hst HY HNo Hyes Hno Hstep Hskip HX hkq Hfl
    rcases hcase with ⟨(h1 | ⟨rfl, rfl⟩), (h2 | ⟨rfl, rfl⟩)⟩
    all_goals go_wp2_with (first
     | (at_builtin; refine wpList_append_own _ rfl _ _ 22 rfl W0.heap.size 69 i0 (.agg #[.int .i64 0, .int .i64 0, .string ⟨#[]⟩, .slice none 0 0, .int .i64 0, .int .i64 0, .string ⟨#[]⟩, .slice none 0 0]) 8 112 Tryz.underlying22 Hi.out Hz0.out Hz1.out Hz2.out rfl (by decide) _ _ _ rfl (HOw4.out.alloc _) ⟨w4.heap.size, 0, none⟩ 1 1 [.int .i64 kx.kind, .int .i64 kx.num, .string kx.text, .slice ta kx.items.length tc, .int .i64 vx.kind, .int .i64 vx.num, .string vx.text, .slice tb vx.items.length td] rfl rfl (fun q u hq => by match q, hq with | 0, hq => (simp at hq; subst hq; simp [Addr.add]) | 1, hq => (simp at hq; subst hq; simp [Addr.add]) | 2, hq => (simp at hq; subst hq; simp [Addr.add]) | 3, hq => (simp at hq; subst hq; simp [Addr.add]) | 4, hq => (simp at hq; subst hq; simp [Addr.add]) | 5, hq => (simp at hq; subst hq; simp [Addr.add]) | 6, hq => (simp at hq; subst hq; simp [Addr.add]) | 7, hq => (simp at hq; subst hq; simp [Addr.add])) (fun u hu => by simp at hu; rcases hu with rfl | rfl | rfl | rfl | rfl | rfl | rfl | rfl <;> rfl) (by unfold maxLen; omega) (by omega) (by simp; omega) ?_; intro v9 w9 hown hgrow _))
    all_goals have HR9 : Hid _ := HE.out _ _ hown
    all_goals have hb9 : Below W0.heap.size W0 w9 := own_growM ((HBw4.out).alloc hwl _) (by simp; omega) (HOw4.out.alloc _) hgrow
    all_goals have HQ9 : Hid _ := HWs.out _ _ hgrow (fun k hk => (HOw4.out.lt k hk).1)
    all_goals clear hown hgrow x0 x1 x2 x3 x4 x5 x6 x7
    all_goals go_roundg (N - (k + 1))
    all_goals first
     | (case measure => have := Hk.out; omega)
     | (case rel => exact ⟨k + 1, by go_num, rfl, by omega, HR9, HQ9.out.1, HQ9.out.2.1, HQ9.out.2.2⟩)
  ·have hki : ¬ (k : Int) < (N : Nat) := by omega
   obtain rfl : k = N := by omega
   have HE : Hid _ := Hfin.out _ _ HOw.out HW.out
   clear HOw HBw HBx
   go_wp2_with fail
   first | exact HE.out | (go_ret2; exact HE.out)

end Go.Proofs.YtlnecfjnffdciaaGreat

