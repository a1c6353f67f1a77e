/-
  Reduce and Steps.
-/
import Derived.Test.YtdapildmegdjkaaGreatReduceM
import Derived.Deep.AppendLies
import Derived.Deep.RegionLaw
import Derived.Deep.CutRange
import Derived.Test.YtdapildmegdjkaaGreatTwo
import Derived.BigRegion
namespace Go.Proofs.YtdapildmegdjkaaGreat
open Go.RowKit

set_option maxRecDepth 100000 in
set_option maxHeartbeats 8000000 in
theorem red1_any (b0 b1 k : Nat) (x y : VT) (au : Option Addr) (lu cu : Nat) (v : Value) (w : World) (hk : k ≤ 65536) (hb : Bx w b0 y v) (hc : w.cell? ⟨b1, 0, none⟩ = some (.int .i64 (k : Int))) (hf : w.frozen? ⟨b1, 0, none⟩ = false) (hne : b0 ≠ b1) :
    Calls Tryz.prog 31 #[.agg #[.int .i64 x.kind, .int .i64 x.num, .string x.text, .slice au lu cu], .pointer (some ⟨b0, 0, none⟩), .pointer (some ⟨b1, 0, none⟩)] w fun e w' => e = .returned (.tuple #[]) ∧ Bx w' b0 x (.slice au lu cu) ∧ w'.cell? ⟨b1, 0, none⟩ = some (.int .i64 ((k + 1 : Nat) : Int)) ∧ w'.frozen? ⟨b1, 0, none⟩ = false ∧ KC (fun n => n = b0 ∨ n = b1) w w' := by
  have hbl : b0 < w.heap.size := cell_lt hb.c0
  have hbl1 : b1 < w.heap.size := cell_lt hc
  have n1 : ¬ b0 = w.heap.size := by omega
  have n2 : ¬ w.heap.size = b0 := by omega
  have n3 : ¬ b1 = w.heap.size := by omega
  have n4 : ¬ w.heap.size = b1 := by omega
  have n5 : ¬ b0 = b1 := hne
  have n6 : ¬ b1 = b0 := fun e => hne e.symm
  have e1 : IntKind.i64.wrap ((k : Int) + 1) = ((k + 1 : Nat) : Int) := by rw [IntKind.wrap_i64]; omega
  have HE : Hid (∀ Z, Z = ((w.setCells b0 0 (encP (x, .slice au lu cu))).setCell ⟨b1, 0, none⟩ (.int .i64 ((k + 1 : Nat) : Int))).alloc (.cells #[.int .i64 x.kind, .int .i64 x.num, .string x.text, .slice au lu cu] 24) → Bx Z b0 x (.slice au lu cu) ∧ Z.cell? ⟨b1, 0, none⟩ = some (.int .i64 ((k + 1 : Nat) : Int)) ∧ Z.frozen? ⟨b1, 0, none⟩ = false ∧ KC (fun n => n = b0 ∨ n = b1) w Z) := by
    intro Z hZ
    have k1 : KC (fun n => n = b1) (w.setCells b0 0 (encP (x, .slice au lu cu))) ((w.setCells b0 0 (encP (x, .slice au lu cu))).setCell ⟨b1, 0, none⟩ (.int .i64 ((k + 1 : Nat) : Int))) := KC.set (B := fun n => n = b1) (KC.refl _ _) (.inl rfl) _
    have k2 : KC (fun n => n = b0) w (w.setCells b0 0 (encP (x, .slice au lu cu))) := KC.put4 (B := fun n => n = b0) (KC.refl _ w) (.inl rfl) x _
    have ha : Below ((w.setCells b0 0 (encP (x, .slice au lu cu))).setCell ⟨b1, 0, none⟩ (.int .i64 ((k + 1 : Nat) : Int))).heap.size ((w.setCells b0 0 (encP (x, .slice au lu cu))).setCell ⟨b1, 0, none⟩ (.int .i64 ((k + 1 : Nat) : Int))) Z := by rw [hZ]; exact ((Grew.refl _).alloc _).below
    have hc2 : (w.setCells b0 0 (encP (x, .slice au lu cu))).cell? ⟨b1, 0, none⟩ = some (.int .i64 (k : Int)) := k2.cell n6 hc
    have hf2 : (w.setCells b0 0 (encP (x, .slice au lu cu))).frozen? ⟨b1, 0, none⟩ = false := k2.frozen n6 hc hf
    refine ⟨(k1.bx n5 (Bx.put hb (x, .slice au lu cu))).keeps ha, cell_keeps ha (World.cell?_setCell_same _ _ _ hc2), ?_, ?_⟩
    · rw [ha.frozen (p := ⟨b1, 0, none⟩) (cell_lt (World.cell?_setCell_same _ _ _ hc2)), World.frozen?_setCell]; exact hf2
    · exact ((k2.mono (fun _ _ h => .inl h)).trans2 k1 (fun _ _ h => .inr h)).trans2 (KC.of_below (B := fun _ => False) ha) (fun _ _ h => h.elim)
  have hal : Below w.heap.size w (w.alloc (.cells #[.int .i64 x.kind, .int .i64 x.num, .string x.text, .slice au lu cu] 24)) := ((Grew.refl w).alloc _).below
  obtain ⟨c0, c1, c2, c3, g0, g1, g2, g3⟩ := hb
  have d0 := cell_keeps hal c0; have d1 := cell_keeps hal c1; have d2 := cell_keeps hal c2; have d3 := cell_keeps hal c3
  have d4 := cell_keeps hal hc
  have e0' := (hal.frozen (p := ⟨b0, 0, none⟩) hbl).trans g0; have e1' := (hal.frozen (p := ⟨b0, 1, none⟩) hbl).trans g1; have e2' := (hal.frozen (p := ⟨b0, 2, none⟩) hbl).trans g2; have e3' := (hal.frozen (p := ⟨b0, 3, none⟩) hbl).trans g3
  have e4' := (hal.frozen (p := ⟨b1, 0, none⟩) hbl1).trans hf
  clear hal hne
  go_enter Tryz.func31, Tryz.ntmps31
  go_wp2_with fail
  refine bodyPost_end (v := .tuple #[]) ?_ rfl ⟨rfl, HE.out _ rfl⟩
  simp [results, Tryz.results31, go_sem]

/-- What Reduce keeps: the last value in the box b0, how many came in the box b1. -/
def JRd (b0 b1 lo : Nat) (O : Nat → Prop) (t0 : VT) (bar : Nat → Prop) (l : List VT) (w : World) : Prop :=
  ∃ a n c, Bx w b0 (lastT t0 l) (.slice a n c) ∧ w.cell? ⟨b1, 0, none⟩ = some (.int .i64 (l.length : Int)) ∧ w.frozen? ⟨b1, 0, none⟩ = false ∧ LiesX (fun m => m ≠ b0 ∧ m ≠ b1 ∧ ¬ O m ∧ lo ≤ m) 16 w (lastT t0 l).items (.slice a n c) ∧ ¬ bar b0 ∧ ¬ bar b1 ∧ ¬ O b0 ∧ ¬ O b1 ∧ b0 ≠ b1

theorem jrd_rdr (b0 b1 lo : Nat) (O : Nat → Prop) (t0 : VT) : Rdr O (JRd b0 b1 lo O t0) where
  k1 := by
    rintro bar l w w' ⟨a, n, c, h1, h2, h3, h4, h5, h6, h7, h8, h9⟩ k
    exact ⟨a, n, c, k.bx h7 h1, k.cell h8 h2, k.frozen h8 h2 h3, k.liesX (fun m hm => hm.2.2.1) h4, h5, h6, h7, h8, h9⟩
  k2 := by
    rintro bar l w w' ⟨a, n, c, h1, h2, h3, h4, h5, h6, h7, h8, h9⟩ hb
    have l0 : b0 < w.heap.size := cell_lt h1.c0
    have l1 : b1 < w.heap.size := cell_lt h2
    refine ⟨a, n, c, h1.keeps hb, cell_keeps hb h2, (hb.frozen (p := ⟨b1, 0, none⟩) l1).trans h3, h4.keeps hb, ?_, ?_, h7, h8, h9⟩
    · rintro (h | h)
      · exact h5 h
      · omega
    · rintro (h | h)
      · exact h6 h
      · omega
  k3 := by
    rintro bar bar' l w ⟨a, n, c, h1, h2, h3, h4, h5, h6, h7, h8, h9⟩ hb
    exact ⟨a, n, c, h1, h2, h3, h4, fun h => h5 (hb _ h), fun h => h6 (hb _ h), h7, h8, h9⟩

theorem jrd_found (b0 b1 lo : Nat) (N : Nat) (t0 : VT) (bar : Nat → Prop) (l : List VT) (x : VT) (u : Value) (w : World) (hl : l.length < 65536) (h : JRd b0 b1 lo (fun n => n = N) t0 bar l w) (hx : LiesX (fun n => bar n ∧ N < n) 16 w x.items u) (hlo : lo ≤ N) :
    Calls Tryz.prog 31 (#[.agg #[.int .i64 x.kind, .int .i64 x.num, .string x.text, u]] ++ #[.pointer (some ⟨b0, 0, none⟩), .pointer (some ⟨b1, 0, none⟩)]) w fun e w' => e = .returned (.tuple #[]) ∧ KC (fun n => ¬ bar n) w w' ∧ JRd b0 b1 lo (fun n => n = N) t0 bar (l ++ [x]) w' := by
  obtain ⟨a, n, c, h1, h2, h3, h4, h5, h6, h7, h8, h9⟩ := h
  obtain ⟨au, cu, rfl, _⟩ := LiesX.slice hx
  refine Calls.mono (red1_any b0 b1 l.length x _ au _ cu _ w (by omega) h1 h2 h3 h9) ?_
  rintro e w' ⟨rfl, g1, g2, g3, g4⟩
  refine ⟨rfl, g4.mono (fun m _ hm hb => by rcases hm with rfl | rfl; exact h5 hb; exact h6 hb), au, _, cu, by rw [lastT_snoc]; exact g1, by rw [g2]; simp, g3, ?_, h5, h6, h7, h8, h9⟩
  rw [lastT_snoc]
  exact (g4.liesX (fun m hm h => by rcases h with rfl | rfl; exact h5 hm.1; exact h6 hm.1) hx).mono (fun m hm => ⟨fun e => h5 (e ▸ hm.1), fun e => h6 (e ▸ hm.1), by have := hm.2; omega, by have := hm.2; omega⟩)

/-- What Steps keeps: its list lies in a row of its own, in the box b0. -/
def JSt (b0 base lo : Nat) (O : Nat → Prop) (t0 : VT) (bar : Nat → Prop) (l : List VT) (w : World) : Prop :=
  ∃ (a : Option Addr) (c : Nat) (ps : List (VT × Value)), ps.map (·.1) = t0 :: l ∧ w.ownsRow base 24 4 (.slice a (l.length + 1) c) (l.length + 1) (ps.flatMap encP) ∧ w.cell? ⟨b0, 0, none⟩ = some (.slice a (l.length + 1) c) ∧ w.frozen? ⟨b0, 0, none⟩ = false ∧ ¬ bar b0 ∧ ¬ O b0 ∧ (∀ g, (Value.slice a (l.length + 1) c).ownBlock = some g → ¬ bar g ∧ g ≠ b0 ∧ ¬ O g) ∧ (∀ p ∈ ps, LiesX (fun m => m ≠ b0 ∧ (Value.slice a (l.length + 1) c).ownBlock ≠ some m ∧ ¬ O m ∧ lo ≤ m) 16 w p.1.items p.2 ∧ p.1.text.size ≤ 9223372036854775807) ∧ base ≤ w.heap.size ∧ ∀ n, bar n → n < w.heap.size

theorem jst_rdr (b0 base lo : Nat) (O : Nat → Prop) (t0 : VT) : Rdr O (JSt b0 base lo O t0) where
  k1 := by
    rintro bar l w w' ⟨a, c, ps, h1, h2, h3, h4, h5, h6, h7, h8, h9⟩ k
    exact ⟨a, c, ps, h1, own_kc h2 k (fun g hg => (h7 g hg).2.2), k.cell h6 h3, k.frozen h6 h3 h4, h5, h6, h7, fun p hp => ⟨k.liesX (fun m hm => hm.2.2.1) (h8 p hp).1, (h8 p hp).2⟩, Nat.le_trans h9.1 k.size, fun n hn => Nat.lt_of_lt_of_le (h9.2 n hn) k.size⟩
  k2 := by
    rintro bar l w w' ⟨a, c, ps, h1, h2, h3, h4, h5, h6, h7, h8, h9⟩ hb
    have l0 : b0 < w.heap.size := cell_lt h3
    refine ⟨a, c, ps, h1, own_kc h2 (KC.of_below (B := fun _ => False) hb) (fun _ _ h => h), cell_keeps hb h3, (hb.frozen (p := ⟨b0, 0, none⟩) l0).trans h4, ?_, h6, fun g hg => ⟨?_, (h7 g hg).2⟩, fun p hp => ⟨(h8 p hp).1.keeps hb, (h8 p hp).2⟩, Nat.le_trans h9.1 hb.size, fun n hn => ?_⟩
    · rintro (h | h)
      · exact h5 h
      · omega
    · rintro (h | h)
      · exact (h7 g hg).1 h
      · have := (h2.lt g hg).2; omega
    · rcases hn with h | h
      · exact Nat.lt_of_lt_of_le (h9.2 n h) hb.size
      · exact h.2
  k3 := by
    rintro bar bar' l w ⟨a, c, ps, h1, h2, h3, h4, h5, h6, h7, h8, h9⟩ hb
    exact ⟨a, c, ps, h1, h2, h3, h4, fun h => h5 (hb _ h), h6, fun g hg => ⟨fun h => (h7 g hg).1 (hb _ h), (h7 g hg).2⟩, h8, h9.1, fun n hn => h9.2 n (hb n hn)⟩

set_option maxRecDepth 100000 in
set_option maxHeartbeats 8000000 in
theorem steps1_any (base b0 k : Nat) (x : VT) (au : Option Addr) (lu cu : Nat) (av : Option Addr) (cv : Nat) (xs : List Value) (w : World) (hk : k ≤ 65537) (hb : w.cell? ⟨b0, 0, none⟩ = some (.slice av k cv)) (hfz : w.frozen? ⟨b0, 0, none⟩ = false) (hown : w.ownsRow base 24 4 (.slice av k cv) k xs) (hbase : base ≤ w.heap.size) (hne : (Value.slice av k cv).ownBlock ≠ some b0) :
    Calls Tryz.prog 32 #[.agg #[.int .i64 x.kind, .int .i64 x.num, .string x.text, .slice au lu cu], .pointer (some ⟨b0, 0, none⟩)] w (T1Post base b0 k x (.slice au lu cu) (.slice av k cv) xs w) := by
  obtain ⟨i0, hi, hz0, hz1, hz2⟩ := info24
  have Hi : Hid _ := hi; have Hz0 : Hid _ := hz0; have Hz1 : Hid _ := hz1; have Hz2 : Hid _ := hz2
  clear hi hz0 hz1 hz2
  have hxl : xs.length = k * 4 := hown.1
  have hbl : b0 < w.heap.size := cell_lt hb
  obtain ⟨W, hW⟩ : ∃ W, W = w.alloc (.cells #[.int .i64 x.kind, .int .i64 x.num, .string x.text, .slice au lu cu] 24) := ⟨_, rfl⟩
  have HW : Hid (W = w.alloc (.cells #[.int .i64 x.kind, .int .i64 x.num, .string x.text, .slice au lu cu] 24)) := hW
  have hwb : Below w.heap.size w W := by rw [hW]; exact ((Grew.refl w).alloc _).below
  have HWs : Hid (W.heap.size = w.heap.size + 1) := by rw [hW]; exact World.size_alloc w _
  have Hown : Hid (W.ownsRow base 24 4 (.slice av k cv) k xs) := by rw [hW]; exact hown.alloc _
  have HB : Hid (w.cell? ⟨b0, 0, none⟩ = some (.slice av k cv)) := hb
  have b1 : W.cell? ⟨b0, 0, none⟩ = some (.slice av k cv) := cell_keeps hwb hb
  have b2 : ∀ A, (W.alloc A).cell? ⟨b0, 0, none⟩ = some (.slice av k cv) := fun A => cell_keeps ((Grew.refl W).alloc A).below b1
  have f1 : W.frozen? ⟨b0, 0, none⟩ = false := (hwb.frozen (p := ⟨b0, 0, none⟩) hbl).trans hfz
  have y0 : W.cell? ⟨w.heap.size, 0, none⟩ = some (.int .i64 x.kind) := by rw [hW]; simp
  have y1 : W.cell? ⟨w.heap.size, 1, none⟩ = some (.int .i64 x.num) := by rw [hW]; simp
  have y2 : W.cell? ⟨w.heap.size, 2, none⟩ = some (.string x.text) := by rw [hW]; simp
  have y3 : W.cell? ⟨w.heap.size, 3, none⟩ = some (.slice au lu cu) := by rw [hW]; simp
  have z0 : ∀ A, (W.alloc A).cell? ⟨w.heap.size, 0, none⟩ = some (.int .i64 x.kind) := fun A => cell_keeps ((Grew.refl W).alloc A).below y0
  have z1 : ∀ A, (W.alloc A).cell? ⟨w.heap.size, 1, none⟩ = some (.int .i64 x.num) := fun A => cell_keeps ((Grew.refl W).alloc A).below y1
  have z2 : ∀ A, (W.alloc A).cell? ⟨w.heap.size, 2, none⟩ = some (.string x.text) := fun A => cell_keeps ((Grew.refl W).alloc A).below y2
  have z3 : ∀ A, (W.alloc A).cell? ⟨w.heap.size, 3, none⟩ = some (.slice au lu cu) := fun A => cell_keeps ((Grew.refl W).alloc A).below y3
  have hkk : (k : Int) < (k : Int) + 1 := by omega
  have HR : Hid (∀ g, (Value.slice av k cv).ownBlock = some g → g < w.heap.size ∧ g ≠ b0) := fun g hg => ⟨(hown.lt g hg).2, fun e => hne (by rw [hg, e])⟩
  have Hxl : Hid (xs.length = k * 4) := hxl
  clear hW hb hfz hown hxl
  go_enter Tryz.func32, Tryz.ntmps32
  go_upto_region 1 with fail
  rw [← HW.out]
  clear HW
  go_region_law (first | (refine step_append_lies _ rfl _ _ 22 rfl base 24 i0 (.agg #[.int .i64 0, .int .i64 0, .string ⟨#[]⟩, .slice none 0 0]) 4 56 Tryz.underlying22 Hi.out Hz0.out Hz1.out Hz2.out rfl (by decide) (.slice av k cv) k xs rfl (by first | exact Hown.out.alloc _ | exact (Hown.out.alloc _).drew | exact Hown.out.drew.alloc _) ⟨W.heap.size, 0, none⟩ 1 1 [.int .i64 0, .int .i64 0, .string ⟨#[]⟩, .slice none 0 0] rfl rfl (fun q u hq => by match q, hq with | 0, hq => (simp at hq; subst hq; simp [Addr.add]) | 1, hq => (simp at hq; subst hq; simp [Addr.add]) | 2, hq => (simp at hq; subst hq; simp [Addr.add]) | 3, hq => (simp at hq; subst hq; simp [Addr.add]) | q + 4, hq => simp at hq) (fun u hu => by simp at hu; rcases hu with rfl | rfl | rfl | rfl <;> rfl) (by decide) (by unfold maxLen; omega) (by omega) (by have := HWs.out; simp; omega) _ rfl ?_; intro g cap w7 hown7 hg7 hat7 hlt7; have hk7 : KC (fun n => (Value.slice av k cv).ownBlock = some n) W w7 := (by first | exact far23 ((Grew.refl W).alloc _).below hg7 | exact far23 ((Grew.refl W).alloc _).drew.below hg7 | exact far23 ((Grew.refl W).drew.alloc _).below hg7); have hgr : ((Value.slice av k cv).ownBlock = some g ∨ w.heap.size < g) ∧ g ≠ b0 ∧ g ≠ w.heap.size := place23 HWs.out (by simp) hbl HR.out hat7; have b7 := hk7.cell (a := ⟨b0, 0, none⟩) hne b1; have f7 := hk7.frozen (a := ⟨b0, 0, none⟩) hne b1 f1; have hnw : ¬ (Value.slice av k cv).ownBlock = some w.heap.size := (fun h => by have := (HR.out _ h).1; omega); have y0 := hk7.cell (a := ⟨w.heap.size, 0, none⟩) hnw y0; have y1 := hk7.cell (a := ⟨w.heap.size, 1, none⟩) hnw y1; have y2 := hk7.cell (a := ⟨w.heap.size, 2, none⟩) hnw y2; have y3 := hk7.cell (a := ⟨w.heap.size, 3, none⟩) hnw y3; have n1 : ¬ g = b0 := hgr.2.1; have n2 : ¬ b0 = g := (fun e => hgr.2.1 e.symm); have n3 : ¬ g = w.heap.size := hgr.2.2; have n4 : ¬ w.heap.size = g := (fun e => hgr.2.2 e.symm); have r0 : w7.cell? ⟨g, k * 4, none⟩ = some (.int .i64 0) := (by rw [hown7.cellAt _ (by omega), List.getElem?_append_right (by rw [Hxl.out]; omega), Hxl.out]; first | rfl | simp); have q0 : w7.frozen? ⟨g, k * 4, none⟩ = false := hown7.frozenAt _; have r1 : w7.cell? ⟨g, k * 4 + 1, none⟩ = some (.int .i64 0) := (by rw [hown7.cellAt _ (by omega), List.getElem?_append_right (by rw [Hxl.out]; omega), Hxl.out]; first | rfl | simp); have q1 : w7.frozen? ⟨g, k * 4 + 1, none⟩ = false := hown7.frozenAt _; have r2 : w7.cell? ⟨g, k * 4 + 2, none⟩ = some (.string ⟨#[]⟩) := (by rw [hown7.cellAt _ (by omega), List.getElem?_append_right (by rw [Hxl.out]; omega), Hxl.out]; first | rfl | simp); have q2 : w7.frozen? ⟨g, k * 4 + 2, none⟩ = false := hown7.frozenAt _; have r3 : w7.cell? ⟨g, k * 4 + 3, none⟩ = some (.slice none 0 0) := (by rw [hown7.cellAt _ (by omega), List.getElem?_append_right (by rw [Hxl.out]; omega), Hxl.out]; first | rfl | simp); have q3 : w7.frozen? ⟨g, k * 4 + 3, none⟩ = false := hown7.frozenAt _; clear z0 z1 z2 z3 b2))
  all_goals have HA : Hid (T1Post base b0 k x (.slice au lu cu) (.slice av k cv) xs w (.returned (.tuple #[])) (((((w7.setCell ⟨g, k * 4, none⟩ (.int .i64 x.kind)).setCell ⟨g, k * 4 + 1, none⟩ (.int .i64 x.num)).setCell ⟨g, k * 4 + 2, none⟩ (.string x.text)).setCell ⟨g, k * 4 + 3, none⟩ (.slice au lu cu)).setCell ⟨b0, 0, none⟩ (.slice (some ⟨g, 0, none⟩) (k + 1) cap))) := t1_end (Z := ((((w7.setCell ⟨g, k * 4, none⟩ (.int .i64 x.kind)).setCell ⟨g, k * 4 + 1, none⟩ (.int .i64 x.num)).setCell ⟨g, k * 4 + 2, none⟩ (.string x.text)).setCell ⟨g, k * 4 + 3, none⟩ (.slice au lu cu)).setCell ⟨b0, 0, none⟩ (.slice (some ⟨g, 0, none⟩) (k + 1) cap)) hgr.2.1 b7 f7 hown7 Hxl.out ((KC.of_below (B := fun n => n = b0 ∨ (Value.slice av k cv).ownBlock = some n) hwb).trans2 hk7 (fun j _ h => .inr h)) (hgr.1.imp id (fun h => by omega)) (.inl rfl)
  all_goals have HC : Hid (T1Post base b0 k x (.slice au lu cu) (.slice av k cv) xs w (.returned (.tuple #[])) (((((w7.setCell ⟨b0, 0, none⟩ (.slice (some ⟨g, 0, none⟩) (k + 1) cap)).setCell ⟨g, k * 4, none⟩ (.int .i64 x.kind)).setCell ⟨g, k * 4 + 1, none⟩ (.int .i64 x.num)).setCell ⟨g, k * 4 + 2, none⟩ (.string x.text)).setCell ⟨g, k * 4 + 3, none⟩ (.slice au lu cu))) := t1_end (Z := ((((w7.setCell ⟨b0, 0, none⟩ (.slice (some ⟨g, 0, none⟩) (k + 1) cap)).setCell ⟨g, k * 4, none⟩ (.int .i64 x.kind)).setCell ⟨g, k * 4 + 1, none⟩ (.int .i64 x.num)).setCell ⟨g, k * 4 + 2, none⟩ (.string x.text)).setCell ⟨g, k * 4 + 3, none⟩ (.slice au lu cu)) hgr.2.1 b7 f7 hown7 Hxl.out ((KC.of_below (B := fun n => n = b0 ∨ (Value.slice av k cv).ownBlock = some n) hwb).trans2 hk7 (fun j _ h => .inr h)) (hgr.1.imp id (fun h => by omega)) (.inr rfl)
  all_goals clear hown7 hg7 hat7 hlt7 hk7 hgr y0 y1 y2 y3 b1 f1 hwb Hown HB HR
  all_goals first | (with_reducible refine bodyPost_end (v := .tuple #[]) ?_ ?_ HA.out) | (with_reducible refine bodyPost_end (v := .tuple #[]) ?_ ?_ HC.out)
  all_goals first | rfl | simp [results, Tryz.results32, go_sem]

theorem jst_found (b0 base lo : Nat) (N : Nat) (t0 : VT) (bar : Nat → Prop) (l : List VT) (x : VT) (u : Value) (w : World) (hl : l.length < 65536) (hN : bar N) (h : JSt b0 base lo (fun n => n = N) t0 bar l w) (hx : LiesX (fun n => bar n ∧ N < n) 16 w x.items u) (hlo : lo ≤ N) (hs : x.text.size ≤ 9223372036854775807) :
    Calls Tryz.prog 32 (#[.agg #[.int .i64 x.kind, .int .i64 x.num, .string x.text, u]] ++ #[.pointer (some ⟨b0, 0, none⟩)]) w fun e w' => e = .returned (.tuple #[]) ∧ KC (fun n => ¬ bar n) w w' ∧ JSt b0 base lo (fun n => n = N) t0 bar (l ++ [x]) w' := by
  obtain ⟨a, c, ps, h1, h2, h3, h4, h5, h6, h7, h8, h9⟩ := h
  obtain ⟨au, cu, rfl, _⟩ := LiesX.slice hx
  refine Calls.mono (steps1_any base b0 (l.length + 1) x au _ cu a c (ps.flatMap encP) w (by omega) h3 h4 h2 h9.1 (fun e => (h7 b0 e).2.1 rfl)) ?_
  rintro e w' ⟨rfl, g, cap, g1, g2, g3, g4, g5, g6⟩
  have hbl : b0 < w.heap.size := cell_lt h3
  have e1 : (l ++ [x]).length + 1 = l.length + 1 + 1 := by simp
  refine ⟨rfl, g4.mono (fun m _ hm hb => ?_), some ⟨g, 0, none⟩, cap, ps ++ [(x, .slice au x.items.length cu)], by rw [List.map_append, h1]; rfl, ?_, ?_, g2, h5, h6, ?_, ?_, Nat.le_trans h9.1 g4.size, fun n hn => Nat.lt_of_lt_of_le (h9.2 n hn) g4.size⟩
  · rcases hm with rfl | hm
    · exact h5 hb
    · exact (h7 m hm).1 hb
  · rw [e1, List.flatMap_append]; simpa using g3
  · rw [e1]; exact g1
  · intro g' hg'
    have : g = g' := by simpa [Value.ownBlock] using hg'
    subst this
    rcases g5 with h | h
    · exact h7 g h
    · exact ⟨fun hb => by have := h9.2 g hb; omega, g6, fun e => by have := h9.2 N hN; omega⟩
  · intro p hp
    rcases List.mem_append.1 hp with hp | hp
    · refine ⟨(g4.liesX (fun m hm h => ?_) (h8 p hp).1.both).mono (fun m hm => ⟨hm.1.1, fun e => ?_, hm.1.2.2⟩), (h8 p hp).2⟩
      · rcases h with h | h
        · exact hm.1.1 h
        · exact hm.1.2.1 h
      · have : g = m := by simpa [Value.ownBlock] using e
        subst this
        rcases g5 with h | h
        · exact hm.1.2.1 h
        · omega
    · have : p = (x, .slice au x.items.length cu) := by simpa using hp
      subst this
      refine ⟨(g4.liesX (fun m hm h => ?_) hx.both).mono (fun m hm => ⟨fun e => h5 (e ▸ hm.1.1), fun e => ?_, by have := hm.1.2; omega, by have := hm.1.2; omega⟩), hs⟩
      · rcases h with rfl | h
        · exact h5 hm.1.1
        · exact (h7 m h).1 hm.1.1
      · have : g = m := by simpa [Value.ownBlock] using e
        subst this
        rcases g5 with h | h
        · exact (h7 g h).1 hm.1.1
        · omega

end Go.Proofs.YtdapildmegdjkaaGreat

namespace Go.Proofs.YtdapildmegdjkaaGreat
open Go.RowKit

theorem canonL25 {w : World} {n : Nat} {l : List VT} {u : Value} (h : Lies (n + 1) w l u) (hr : listErr n l = 0) : Lies 17 w l u ∧ l.length ≤ 65536 ∧ ∀ x ∈ l, rightV 16 x = true ∧ Dp 16 x := by
  have hz := listErr_zero hr
  have hall : ∀ x ∈ l, rightV 16 x = true ∧ Dp 16 x := fun x hx => by
    obtain ⟨a, c, e, _, hr1⟩ := h
    obtain ⟨i, hi, rfl⟩ := List.getElem_of_mem hx
    obtain ⟨b, o, ha, hrow⟩ := hr1 (fun e => by rw [e] at hi; cases hi)
    obtain ⟨v, _, _, _, _, hL, _⟩ := hrow i hi
    have hd := Dp.of_lies n w _ v hL
    have hrx := hz.2 _ (List.getElem_mem hi)
    exact ⟨(canon hL hrx).2, right_deep hrx hd⟩
  exact ⟨Lies.lower 17 (n + 1) l u h (by omega) (fun x hx => (hall x hx).2), hz.1, hall⟩

theorem checkList25 (d : Nat) (l : List VT) (u : Value) (w : World) (hu : Lies (d + 1) w l u) :
    Calls Tryz.prog 38 #[u] w fun e w' => e = .returned (.int .i64 (listErr d l)) ∧ Below w.heap.size w w' := by
  obtain ⟨a, c, rfl, _⟩ := Lies.slice hu
  have HL : Hid (Lies (d + 1) w l (.slice a l.length c)) := hu
  clear hu
  go_enter Tryz.func38, Tryz.ntmps38
  go_wp2_with fail
  refine (checkAll_any d l _ _ HL.out).mono ?_
  rintro e w1 ⟨rfl, hb⟩
  go_wp2_with fail
  go_ret
  exact ⟨rfl, hb⟩

theorem dp_nilD (d : Nat) : Dp d nilT := by
  cases d
  · exact rfl
  · intro x hx; cases hx

theorem nil_rightD (d : Nat) : rightV d nilT = true := by
  rw [rightV_any nilT (dp_nilD 16) (dp_nilD d)]
  exact nil_right

theorem twoE_nil (d : Nat) (q : Int) (t : VT) : twoE d q t nilT = if q < 0 ∨ 8 ≤ q then 4 else if rightV d t = true then 0 else 3 := by
  unfold twoE
  by_cases h1 : q < 0 ∨ 8 ≤ q
  · rw [if_pos h1, if_pos h1]
  · rw [if_neg h1, if_neg h1]
    by_cases h2 : rightV d t = true
    · rw [if_pos ⟨h2, nil_rightD d⟩, if_pos h2]
    · rw [if_neg (fun h => h2 h.1), if_neg h2]

set_option maxRecDepth 100000 in
set_option maxHeartbeats 4000000 in
theorem checkRed_any (d : Nat) (q : Int) (t : VT) (u : Value) (l : List VT) (v : Value) (w : World) (hu : Lies d w t.items u) (hs : t.text.size ≤ 9223372036854775807) (hv : Lies (d + 1) w l v) :
    Calls Tryz.prog 28 #[.int .i64 q, .agg #[.int .i64 t.kind, .int .i64 t.num, .string t.text, u], v] w fun e w' => e = .returned (.int .i64 (redE d q t l)) ∧ Below w.heap.size w w' := by
  obtain ⟨a, c, rfl, _⟩ := Lies.slice hu
  obtain ⟨a2, c2, rfl, _⟩ := Lies.slice hv
  have HT : Hid (∀ W, Below w.heap.size w W → Calls Tryz.prog 72 #[.int .i64 q, .agg #[.int .i64 t.kind, .int .i64 t.num, .string t.text, .slice a t.items.length c], .agg #[.int .i64 0, .int .i64 0, .string ⟨#[]⟩, .slice none 0 0]] W (TPost (twoT d q t nilT) (twoB d q t nilT) (twoE d q t nilT) W)) := fun W hW =>
    two_any d q t nilT (.slice a t.items.length c) (.slice none 0 0) W (Lies.keeps hW _ _ _ hu) (liesX_nil (fun _ => True) d W none 0).lies hs (by show 0 ≤ _; omega)
  have HC : Hid (∀ W, Below w.heap.size w W → Calls Tryz.prog 38 #[.slice a2 l.length c2] W fun e w' => e = .returned (.int .i64 (listErr d l)) ∧ Below W.heap.size W w') := fun W hW => checkList25 d l _ W (Lies.keeps hW _ _ _ hv)
  have HE : Hid (twoE d q t nilT ≠ 0 → redE d q t l = twoE d q t nilT) := fun h => by
    rw [twoE_nil] at h ⊢
    unfold redE
    by_cases h1 : q < 0 ∨ 8 ≤ q
    · rw [if_pos h1, if_pos h1]
    · rw [if_neg h1] at h ⊢
      rw [if_neg h1]
      by_cases h2 : rightV d t = true
      · rw [if_pos h2] at h; exact absurd rfl h
      · rw [if_neg h2, if_neg h2]
  have HE0 : Hid (twoE d q t nilT = 0 → redE d q t l = listErr d l) := fun h => by
    rw [twoE_nil] at h
    unfold redE
    by_cases h1 : q < 0 ∨ 8 ≤ q
    · rw [if_pos h1] at h; omega
    · rw [if_neg h1] at h
      by_cases h2 : rightV d t = true
      · rw [if_neg h1, if_pos h2]
      · rw [if_neg h2] at h; omega
  clear hu hv hs
  generalize t.items.length = lt at *
  generalize l.length = ll at *
  have hal : Below w.heap.size w (w.alloc (.cells #[.int .i64 t.kind, .int .i64 t.num, .string t.text, .slice a lt c] 24)) := ((Grew.refl w).alloc _).below
  go_enter Tryz.func28, Tryz.ntmps28
  go_wp2_with fail
  refine Calls.mono (HT.out _ hal) ?_
  rintro e w2 ⟨u2, rfl, hl2, hb2⟩
  obtain ⟨a9, c9, rfl, _⟩ := LiesX.slice hl2
  have hb3 : Below w.heap.size w w2 := hal.trans (hb2.mono (by simp))
  clear hl2
  generalize (twoT d q t nilT).items.length = n9 at *
  generalize twoE d q t nilT = E at *
  generalize twoB d q t nilT = B at *
  generalize twoT d q t nilT = R at *
  clear hal hb2 HT
  by_cases hE : E = 0
  · subst hE
    have hb4 : Below w.heap.size w (w2.alloc (.cells #[.int .i64 R.kind, .int .i64 R.num, .string R.text, .slice a9 n9 c9] 24)) := hb3.alloc hb3.size _
    have e0 := HE0.out rfl
    clear HE HE0
    go_wp2_with fail
    refine Calls.mono (HC.out _ hb4) ?_
    rintro e w5 ⟨rfl, hb5⟩
    have hb6 : Below w.heap.size w w5 := hb4.trans (hb5.mono hb4.size)
    clear hb5 hb4 hb3 HC
    go_wp2_with fail
    go_ret
    exact ⟨by rw [e0]; rfl, hb6⟩
  · have e0 := HE.out hE
    have hb4 : Below w.heap.size w (w2.alloc (.cells #[.int .i64 R.kind, .int .i64 R.num, .string R.text, .slice a9 n9 c9] 24)) := hb3.alloc hb3.size _
    clear HE HE0 HC hb3
    go_wp2_with fail
    go_ret
    exact ⟨by rw [e0]; rfl, hb4⟩

/-- A value, a number and an error are told. -/
def RedPost (r : VT) (n : Nat) (er : Int) (w : World) (e : Ending) (w' : World) : Prop :=
  ∃ u, e = .returned (.tuple #[.agg #[.int .i64 r.kind, .int .i64 r.num, .string r.text, u], .int .i64 (n : Int), .int .i64 er]) ∧ Lies 16 w' r.items u ∧ Below w.heap.size w w'

def redT (d : Nat) (q : Int) (t : VT) (l : List VT) : VT := if redE d q t l = 0 then lastT t (redS q.toNat t l) else nilT
def redN (d : Nat) (q : Int) (t : VT) (l : List VT) : Nat := if redE d q t l = 0 then (redS q.toNat t l).length else 0

theorem egR1 : ∀ args w, (callFunc 31 args).run Tryz.prog w = .ok (.enter 31 args) w := enters_of Tryz.func31 (by kernel_rfl) rfl
theorem egS1 : ∀ args w, (callFunc 32 args).run Tryz.prog w = .ok (.enter 32 args) w := enters_of Tryz.func32 (by kernel_rfl) rfl

set_option maxRecDepth 100000 in
set_option maxHeartbeats 8000000 in
theorem reduceF_any (d : Nat) (q : Int) (t : VT) (u : Value) (l : List VT) (v : Value) (w : World) (hu : Lies d w t.items u) (hs : t.text.size ≤ 9223372036854775807) (hv : Lies (d + 1) w l v) :
    Calls Tryz.prog 8 #[.int .i64 q, .agg #[.int .i64 t.kind, .int .i64 t.num, .string t.text, u], v] w (RedPost (redT d q t l) (redN d q t l) (redE d q t l) w) := by
  obtain ⟨a, c, rfl, _⟩ := Lies.slice hu
  obtain ⟨a2, c2, rfl, _⟩ := Lies.slice hv
  have HC : Hid (∀ W, Below w.heap.size w W → Calls Tryz.prog 28 #[.int .i64 q, .agg #[.int .i64 t.kind, .int .i64 t.num, .string t.text, .slice a t.items.length c], .slice a2 l.length c2] W fun e w' => e = .returned (.int .i64 (redE d q t l)) ∧ Below W.heap.size W w') := fun W hW => checkRed_any d q t _ l _ W (Lies.keeps hW _ _ _ hu) hs (Lies.keeps hW _ _ _ hv)
  have HU : Hid (Lies d w t.items (.slice a t.items.length c)) := hu
  have HV : Hid (Lies (d + 1) w l (.slice a2 l.length c2)) := hv
  have hB0 : Below w.heap.size w ((w.alloc (.cells #[.int .i64 t.kind, .int .i64 t.num, .string t.text, .slice a t.items.length c] 24)).alloc (.cells #[.int .i64 0, .int .i64 0, .string ⟨#[]⟩, .slice none 0 0] 24)) := (((Grew.refl w).alloc _).alloc _).below
  have HX0 : Hid (Bx ((w.alloc (.cells #[.int .i64 t.kind, .int .i64 t.num, .string t.text, .slice a t.items.length c] 24)).alloc (.cells #[.int .i64 0, .int .i64 0, .string ⟨#[]⟩, .slice none 0 0] 24)) w.heap.size t (.slice a t.items.length c)) := (bx_alloc w t _).keeps ((Grew.refl _).alloc _).below
  have HR0 : Hid (Bx ((w.alloc (.cells #[.int .i64 t.kind, .int .i64 t.num, .string t.text, .slice a t.items.length c] 24)).alloc (.cells #[.int .i64 0, .int .i64 0, .string ⟨#[]⟩, .slice none 0 0] 24)) (w.heap.size + 1) zeroT (.slice none 0 0)) := by
    have := bx_alloc (w.alloc (.cells #[.int .i64 t.kind, .int .i64 t.num, .string t.text, .slice a t.items.length c] 24)) zeroT (.slice none 0 0)
    show Bx _ _ _ _
    simpa using this
  have hS0 : ((w.alloc (.cells #[.int .i64 t.kind, .int .i64 t.num, .string t.text, .slice a t.items.length c] 24)).alloc (.cells #[.int .i64 0, .int .i64 0, .string ⟨#[]⟩, .slice none 0 0] 24)).heap.size = w.heap.size + 2 := by simp
  clear hu hv hs
  generalize hlt : t.items.length = lt at *
  have Hlt : Hid (t.items.length = lt) := hlt
  generalize hll : l.length = ll at *
  have Hll : Hid (l.length = ll) := hll
  clear hlt hll
  generalize hP : RedPost (redT d q t l) (redN d q t l) (redE d q t l) w = P
  have HP : Hid (RedPost (redT d q t l) (redN d q t l) (redE d q t l) w = P) := hP
  clear hP
  go_enter Tryz.func8, Tryz.ntmps8
  go_wp2_with fail
  refine Calls.mono (HC.out _ hB0) ?_
  rintro e w2 ⟨rfl, hb2⟩
  have hb2 : Below ((w.alloc (.cells #[.int .i64 t.kind, .int .i64 t.num, .string t.text, .slice a lt c] 24)).alloc (.cells #[.int .i64 0, .int .i64 0, .string ⟨#[]⟩, .slice none 0 0] 24)).heap.size ((w.alloc (.cells #[.int .i64 t.kind, .int .i64 t.num, .string t.text, .slice a lt c] 24)).alloc (.cells #[.int .i64 0, .int .i64 0, .string ⟨#[]⟩, .slice none 0 0] 24)) w2 := hb2
  have hb3 : Below w.heap.size w w2 := hB0.trans (hb2.mono hB0.size)
  have HX2 : Hid (Bx w2 w.heap.size t (.slice a lt c)) := HX0.out.keeps hb2
  have HR2 : Hid (Bx w2 (w.heap.size + 1) zeroT (.slice none 0 0)) := HR0.out.keeps hb2
  have hs2 : w.heap.size + 2 ≤ w2.heap.size := by have := hb2.size; omega
  clear HX0 HR0 hB0 hb2 hS0 HC
  by_cases hE : redE d q t l = 0
  · have hz := redE_zero hE
    have e1 : redT d q t l = lastT t (redS q.toNat t l) := by unfold redT; rw [if_pos hE]
    have e2 : redN d q t l = (redS q.toNat t l).length := by unfold redN; rw [if_pos hE]
    rw [e1, e2, hE] at HP
    rw [hE]
    clear hE e1 e2
    obtain ⟨Q, hQ, hQ8⟩ : ∃ Q : Nat, q = Q ∧ Q < 8 := ⟨q.toNat, by omega, by omega⟩
    subst hQ
    rw [show ((Q : Int)).toNat = Q by simp] at HP
    have hct := canon HU.out hz.2.1
    have hcl := canonL25 HV.out hz.2.2
    have HCp : Hid (Calls Tryz.prog 29 #[.agg #[.int .i64 t.kind, .int .i64 t.num, .string t.text, .slice a lt c]] w2 (CopyPost 16 t w2)) := copy_right t _ w2 (Lies.keeps hb3 _ _ _ hct.1) hct.2
    have HT16 : Hid (LiesX (fun n => n < w.heap.size) 16 w t.items (.slice a lt c) ∧ rightV 16 t = true) := ⟨LiesX.of_lies hct.1, hct.2⟩
    have HL17 : Hid (LiesX (fun n => n < w.heap.size) 17 w l (.slice a2 ll c2) ∧ l.length ≤ 65536 ∧ ∀ x ∈ l, rightV 16 x = true) := ⟨LiesX.of_lies hcl.1, hcl.2.1, fun x hx => (hcl.2.2 x hx).1⟩
    clear hz hct hcl HU HV
    obtain ⟨x0, x1, x2, x3, _, _, _, _⟩ := HX2.out
    go_wp2_with fail
    refine Calls.mono HCp.out ?_
    rintro e w3 ⟨v3, rfl, hl3, hb4⟩
    obtain ⟨a3, c3, rfl, _⟩ := LiesB.slice hl3
    rw [Hlt.out] at hl3 ⊢
    have hb5 : Below w.heap.size w w3 := hb3.trans (hb4.mono hb3.size)
    have HX3 : Hid (Bx w3 w.heap.size t (.slice a lt c)) := HX2.out.keeps hb4
    have HR3 : Hid (Bx w3 (w.heap.size + 1) zeroT (.slice none 0 0)) := HR2.out.keeps hb4
    have hs3 : w.heap.size + 2 ≤ w3.heap.size := Nat.le_trans hs2 hb4.size
    have HL3 : Hid (LiesX (fun n => w.heap.size + 2 ≤ n ∧ n < w3.heap.size) 16 w3 t.items (.slice a3 lt c3)) := (LiesX.of_b hl3).both.mono (fun n hn => ⟨by omega, hn.2⟩)
    clear hl3 hb4 hb3 HX2 HR2 HCp x0 x1 x2 x3 hs2
    have hbA : Below w3.heap.size w3 ((w3.alloc (.cells #[.int .i64 t.kind, .int .i64 t.num, .string t.text, .slice a3 lt c3] 24)).alloc (.cells #[.int .i64 0] 3)) := (((Grew.refl w3).alloc _).alloc _).below
    have hb6 : Below w.heap.size w ((w3.alloc (.cells #[.int .i64 t.kind, .int .i64 t.num, .string t.text, .slice a3 lt c3] 24)).alloc (.cells #[.int .i64 0] 3)) := hb5.trans (hbA.mono hb5.size)
    have hsA : ((w3.alloc (.cells #[.int .i64 t.kind, .int .i64 t.num, .string t.text, .slice a3 lt c3] 24)).alloc (.cells #[.int .i64 0] 3)).heap.size = w3.heap.size + 2 := by simp
    have HXA : Hid (Bx ((w3.alloc (.cells #[.int .i64 t.kind, .int .i64 t.num, .string t.text, .slice a3 lt c3] 24)).alloc (.cells #[.int .i64 0] 3)) w.heap.size t (.slice a lt c)) := HX3.out.keeps hbA
    have HRA : Hid (Bx ((w3.alloc (.cells #[.int .i64 t.kind, .int .i64 t.num, .string t.text, .slice a3 lt c3] 24)).alloc (.cells #[.int .i64 0] 3)) (w.heap.size + 1) zeroT (.slice none 0 0)) := HR3.out.keeps hbA
    have HJ : Hid (JRd w3.heap.size (w3.heap.size + 1) (w.heap.size + 2) (fun n => n = w3.heap.size + 2) t (fun n => n < w.heap.size + 2) [] ((w3.alloc (.cells #[.int .i64 t.kind, .int .i64 t.num, .string t.text, .slice a3 lt c3] 24)).alloc (.cells #[.int .i64 0] 3))) := by
      refine ⟨a3, lt, c3, (bx_alloc w3 t _).keeps ((Grew.refl _).alloc _).below, by simp, by simp, (HL3.out.keeps hbA).mono (fun n hn => ⟨by omega, by omega, by omega, by omega⟩), by omega, by omega, by omega, by omega, by omega⟩
    have HRd : Hid (Calls Tryz.prog 30 #[.int .i64 (Q : Int), .agg #[.int .i64 t.kind, .int .i64 t.num, .string t.text, .slice a lt c], .slice a2 ll c2, .func (.func 31) #[] #[.pointer (some ⟨w3.heap.size, 0, none⟩), .pointer (some ⟨w3.heap.size + 1, 0, none⟩)]] ((w3.alloc (.cells #[.int .i64 t.kind, .int .i64 t.num, .string t.text, .slice a3 lt c3] 24)).alloc (.cells #[.int .i64 0] 3)) (RdPost (JRd w3.heap.size (w3.heap.size + 1) (w.heap.size + 2) (fun n => n = w3.heap.size + 2) t) (fun n => n < w.heap.size + 2) (redS Q t l) ((w3.alloc (.cells #[.int .i64 t.kind, .int .i64 t.num, .string t.text, .slice a3 lt c3] 24)).alloc (.cells #[.int .i64 0] 3)))) := by
      have h := reduce_any (JRd w3.heap.size (w3.heap.size + 1) (w.heap.size + 2) (fun n => n = w3.heap.size + 2) t) 31 #[.pointer (some ⟨w3.heap.size, 0, none⟩), .pointer (some ⟨w3.heap.size + 1, 0, none⟩)] egR1 Q hQ8 t a c l a2 c2 (fun n => n < w.heap.size + 2) ((w3.alloc (.cells #[.int .i64 t.kind, .int .i64 t.num, .string t.text, .slice a3 lt c3] 24)).alloc (.cells #[.int .i64 0] 3)) (by rw [hsA]; exact jrd_rdr _ _ _ _ _)
        (fun bar l x u w' h1 _ h3 h4 _ => jrd_found _ _ (w.heap.size + 2) (w3.heap.size + 2) t bar l x u w' h1 h3 (by rw [hsA] at h4; exact h4) (by omega)) HJ.out (by rw [Hlt.out]; exact (HT16.out.1.keeps hb6).mono (fun n hn => by omega)) HT16.out.2 (by rw [Hll.out]; exact (HL17.out.1.keeps hb6).mono (fun n hn => by omega)) HL17.out.2.2 HL17.out.2.1
      rw [Hlt.out, Hll.out] at h
      exact h
    clear HJ HX3 HR3 HL3 hbA HT16 HL17
    obtain ⟨x0, x1, x2, x3, _, _, _, _⟩ := HXA.out
    go_wp2_with fail
    refine Calls.mono HRd.out ?_
    rintro e w7 ⟨rfl, hk7, a7, n7, c7, hb7, hc7, hf7, hl7, _⟩
    have HR7 : Hid (Bx w7 (w.heap.size + 1) zeroT (.slice none 0 0)) := hk7.bx (fun h => h (by omega)) HRA.out
    have HB7 : Hid (Bx w7 w3.heap.size (lastT t (redS Q t l)) (.slice a7 n7 c7)) := hb7
    have Hbl : Hid (Below w.heap.size w (w7.setCells (w.heap.size + 1) 0 (encP (lastT t (redS Q t l), .slice a7 n7 c7)))) := below_put (hb6.trans (hk7.below (fun j hj h => h (by omega)) hb6.size)) (by omega) _
    have Hbl2 : Hid (Below w.heap.size w (w7.setCells (w.heap.size + 1) 0 (encP (lastT t (redS Q t l), .slice a7 n7 c7))).drew) := Hbl.out.drew
    have hn7 : (lastT t (redS Q t l)).items.length = n7 := by
      obtain ⟨_, _, e, _⟩ := LiesX.slice hl7
      injection e with _ e2 _
      exact e2.symm
    have HL7 : Hid (LiesX (fun m => w.heap.size + 2 ≤ m) 16 w7 (lastT t (redS Q t l)).items (.slice a7 n7 c7)) := hl7.mono (fun m hm => hm.2.2.2)
    generalize lastT t (redS Q t l) = R at *
    generalize (redS Q t l).length = RN at *
    have Hbx : Hid (Bx (w7.setCells (w.heap.size + 1) 0 (encP (R, .slice a7 n7 c7))) (w.heap.size + 1) R (.slice a7 n7 c7)) := HR7.out.put (R, .slice a7 n7 c7)
    have HZ : Hid (RedPost R RN 0 w (.returned (.tuple #[.agg #[.int .i64 R.kind, .int .i64 R.num, .string R.text, .slice a7 n7 c7], .int .i64 (RN : Int), .int .i64 0])) (w7.setCells (w.heap.size + 1) 0 (encP (R, .slice a7 n7 c7))).drew) := ⟨_, rfl, (LiesX.keeps (Below.refl _ _).drew (HL7.out.set (g := w.heap.size + 1) (by omega))).lies, Hbl2.out⟩
    clear hn7 hb7 hl7 hk7 HRd HXA HRA x0 x1 x2 x3 hb6 hsA hb5 Hbl Hbl2 HL7
    obtain ⟨y0, y1, y2, y3, g0, g1, g2, g3⟩ := HR7.out
    obtain ⟨z0, z1, z2, z3, _, _, _, _⟩ := HB7.out
    have n1 : ¬ w3.heap.size = w.heap.size + 1 := by omega
    have n2 : ¬ w.heap.size + 1 = w3.heap.size := by omega
    have n3 : ¬ w3.heap.size + 1 = w.heap.size + 1 := by omega
    have n4 : ¬ w.heap.size + 1 = w3.heap.size + 1 := by omega
    go_wp2_with fail
    go_region
    go_wp2_with fail
    refine bodyPost_ret (v := .tuple #[.agg #[.int .i64 R.kind, .int .i64 R.num, .string R.text, .slice a7 n7 c7], .int .i64 (RN : Int), .int .i64 0]) ?_ rfl (by rw [← HP.out]; exact HZ.out)
    obtain ⟨q0, q1, q2, q3, _, _, _, _⟩ := Hbx.out
    simp only [encP, World.setCells, Nat.zero_add, Nat.reduceAdd] at q0 q1 q2 q3
    simp [results, Tryz.results8, go_sem, q0, q1, q2, q3]
  · have e1 : redT d q t l = nilT := by unfold redT; rw [if_neg hE]
    have e2 : redN d q t l = 0 := by unfold redN; rw [if_neg hE]
    rw [e1, e2] at HP
    clear e1 e2 HU HV
    generalize redE d q t l = E at *
    have Hbx : Hid (Bx (w2.setCells (w.heap.size + 1) 0 (encP (zeroT, .slice none 0 0))) (w.heap.size + 1) zeroT (.slice none 0 0)) := HR2.out.put (zeroT, .slice none 0 0)
    have Hbl : Hid (Below w.heap.size w (w2.setCells (w.heap.size + 1) 0 (encP (zeroT, .slice none 0 0)))) := below_put hb3 (by omega) _
    obtain ⟨y0, y1, y2, y3, g0, g1, g2, g3⟩ := HR2.out
    clear hb3 HX2 HR2
    go_wp2_with fail
    refine bodyPost_ret (v := .tuple #[.agg #[.int .i64 0, .int .i64 0, .string ⟨#[]⟩, .slice none 0 0], .int .i64 0, .int .i64 E]) ?_ rfl (by rw [← HP.out]; exact ⟨_, rfl, (liesX_nil (fun _ => True) 16 _ none 0).lies, Hbl.out⟩)
    obtain ⟨q0, q1, q2, q3, _, _, _, _⟩ := Hbx.out
    simp only [encP, World.setCells, Nat.zero_add, Nat.reduceAdd] at q0 q1 q2 q3
    simp [results, Tryz.results8, go_sem, q0, q1, q2, q3]

end Go.Proofs.YtdapildmegdjkaaGreat

