/-
  The document's Nth.
-/
import Derived.Test.YtbhfbjbigafnpaaForceC
import Derived.Test.YtbhfbjbigafnpaaAppB
import Derived.Laws.OwnMore
import Derived.Deep.AppendLies
import Derived.Deep.RegionLaw
import Derived.Test.YtbhfbjbigafnpaaUniq
namespace Go.Proofs.Ytbhfbjbigafnpaa
open Go.RowKit Go.Shelf

/-- What a walk finds. -/
structure WS (S : Type) where
  items : List VT
  left : Nat
  err : Nat
  s : S

def pre {S : Type} (l : List VT) (r : WS S) : WS S := ⟨l ++ r.items, r.left, r.err, r.s⟩

/-- So many cells are forced, or until one is empty. -/
def wlk {S : Type} (frc : S → Nat → FR S) : Nat → S → Nat → WS S
  | 0, s, f => ⟨[], f, 0, s⟩
  | n + 1, s, f => match frc s f with
    | .err e s' => ⟨[], 0, e, s'⟩
    | .emp left s' => ⟨[], left, 0, s'⟩
    | .item x left s' => pre [x] (wlk frc n s' left)

theorem pre_pre {S : Type} (l : List VT) (x : VT) (r : WS S) : pre l (pre [x] r) = pre (l ++ [x]) r := by
  unfold pre; simp

/-- Behind Force, for a walk: what it keeps (JJ), and that barred blocks stay. -/
def FJ {S : Type} (JJ : (Nat → Prop) → S → Nat → List VT → Option (VT × Value) → World → Prop) (bar : Nat → Prop) (p : Nat) (l : List VT) (r : FR S) (w : World) (e : Ending) (w' : World) : Prop :=
  KC (fun n => ¬ bar n) w w' ∧ match r with
  | .err e0 s' => (∃ a c, e = noneR a c 0 e0) ∧ JJ bar s' p l none w'
  | .emp left s' => (∃ a c, e = noneR a c left 0) ∧ left ≤ 1073741824 ∧ JJ bar s' p l none w'
  | .item x left s' => ∃ p' a c, e = itemR x (.slice a x.items.length c) (some ⟨p', 0, none⟩) true left 0 ∧ left ≤ 1073741824 ∧ JJ bar s' p' l (some (x, .slice a x.items.length c)) w'

/-- What a walk keeps, and that it may. -/
structure Wkr {S : Type} (frc : S → Nat → FR S) (JJ : (Nat → Prop) → S → Nat → List VT → Option (VT × Value) → World → Prop) : Prop where
  k1 : ∀ {bar s p l o w w'}, JJ bar s p l o w → KC bar w w' → JJ bar s p l o w'
  k2 : ∀ {bar s p l o w w'}, JJ bar s p l o w → Below w.heap.size w w' → JJ (fun n => bar n ∨ (w.heap.size ≤ n ∧ n < w'.heap.size)) s p l o w'
  k3 : ∀ {bar bar' : Nat → Prop} {s p l o w}, JJ bar s p l o w → (∀ n, bar' n → bar n) → JJ bar' s p l o w

/-- The four cells of a walk's place. -/
structure Pl (w : World) (b : Nat) (n p left e : Nat) : Prop where
  c0 : w.cell? ⟨b, 0, none⟩ = some (.int .i64 (n : Int))
  c1 : w.cell? ⟨b, 1, none⟩ = some (.pointer (some ⟨p, 0, none⟩))
  c2 : w.cell? ⟨b, 2, none⟩ = some (.int .i64 (left : Int))
  c3 : w.cell? ⟨b, 3, none⟩ = some (.int .i64 (e : Int))
  f0 : w.frozen? ⟨b, 0, none⟩ = false
  f1 : w.frozen? ⟨b, 1, none⟩ = false
  f2 : w.frozen? ⟨b, 2, none⟩ = false
  f3 : w.frozen? ⟨b, 3, none⟩ = false

theorem Pl.lt {w : World} {b n p left e : Nat} (h : Pl w b n p left e) : b < w.heap.size := cell_lt h.c0

theorem Pl.kc {w w' : World} {b n p left e : Nat} {B : Nat → Prop} (h : Pl w b n p left e) (k : KC B w w') (hb : ¬ B b) : Pl w' b n p left e :=
  ⟨k.cell hb h.c0, k.cell hb h.c1, k.cell hb h.c2, k.cell hb h.c3, k.frozen hb h.c0 h.f0, k.frozen hb h.c1 h.f1, k.frozen hb h.c2 h.f2, k.frozen hb h.c3 h.f3⟩

/-- Four cells that are to be written. -/
structure Rm4 (w : World) (b : Nat) : Prop where
  c0 : ∃ v, w.cell? ⟨b, 0, none⟩ = some v
  c1 : ∃ v, w.cell? ⟨b, 1, none⟩ = some v
  c2 : ∃ v, w.cell? ⟨b, 2, none⟩ = some v
  c3 : ∃ v, w.cell? ⟨b, 3, none⟩ = some v
  f0 : w.frozen? ⟨b, 0, none⟩ = false
  f1 : w.frozen? ⟨b, 1, none⟩ = false
  f2 : w.frozen? ⟨b, 2, none⟩ = false
  f3 : w.frozen? ⟨b, 3, none⟩ = false

theorem Rm4.kc {w w' : World} {b : Nat} {B : Nat → Prop} (h : Rm4 w b) (k : KC B w w') (hb : ¬ B b) : Rm4 w' b := by
  obtain ⟨⟨v0, h0⟩, ⟨v1, h1⟩, ⟨v2, h2⟩, ⟨v3, h3⟩, g0, g1, g2, g3⟩ := h
  exact ⟨⟨v0, k.cell hb h0⟩, ⟨v1, k.cell hb h1⟩, ⟨v2, k.cell hb h2⟩, ⟨v3, k.cell hb h3⟩, k.frozen hb h0 g0, k.frozen hb h1 g1, k.frozen hb h2 g2, k.frozen hb h3 g3⟩

theorem Pl.left2 {w : World} {b n p left e : Nat} (h : Pl w b n p left e) (l2 : Nat) (e2 : Nat) : Pl ((w.setCell ⟨b, 2, none⟩ (.int .i64 (l2 : Int))).setCell ⟨b, 3, none⟩ (.int .i64 (e2 : Int))) b n p l2 e2 := by
  refine ⟨setc_ne (by omega) (setc_ne (by omega) h.c0), setc_ne (by omega) (setc_ne (by omega) h.c1), setc_ne (by omega) (World.cell?_setCell_same _ _ _ h.c2), World.cell?_setCell_same _ _ _ (setc_ne (by omega) h.c3), ?_, ?_, ?_, ?_⟩
  · rw [World.frozen?_setCell, World.frozen?_setCell]; exact h.f0
  · rw [World.frozen?_setCell, World.frozen?_setCell]; exact h.f1
  · rw [World.frozen?_setCell, World.frozen?_setCell]; exact h.f2
  · rw [World.frozen?_setCell, World.frozen?_setCell]; exact h.f3

theorem Pl.next {w : World} {b n p left e : Nat} (h : Pl w b n p left e) (n2 p2 : Nat) : Pl ((w.setCell ⟨b, 0, none⟩ (.int .i64 (n2 : Int))).setCell ⟨b, 1, none⟩ (.pointer (some ⟨p2, 0, none⟩))) b n2 p2 left e := by
  refine ⟨setc_ne (by omega) (World.cell?_setCell_same _ _ _ h.c0), World.cell?_setCell_same _ _ _ (setc_ne (by omega) h.c1), setc_ne (by omega) (setc_ne (by omega) h.c2), setc_ne (by omega) (setc_ne (by omega) h.c3), ?_, ?_, ?_, ?_⟩
  · rw [World.frozen?_setCell, World.frozen?_setCell]; exact h.f0
  · rw [World.frozen?_setCell, World.frozen?_setCell]; exact h.f1
  · rw [World.frozen?_setCell, World.frozen?_setCell]; exact h.f2
  · rw [World.frozen?_setCell, World.frozen?_setCell]; exact h.f3

theorem kc_two (w : World) (b i j : Nat) (x y : Value) : KC (fun m => m = b) w ((w.setCell ⟨b, i, none⟩ x).setCell ⟨b, j, none⟩ y) :=
  KC.set (B := fun m => m = b) (KC.set (B := fun m => m = b) (KC.refl _ w) (.inl rfl) x) (.inl rfl) y

theorem rm4_put {V : World} {b : Nat} (h : Rm4 V b) (x0 x1 x2 x3 : Value) : ((((V.setCell ⟨b, 0, none⟩ x0).setCell ⟨b, 1, none⟩ x1).setCell ⟨b, 2, none⟩ x2).setCell ⟨b, 3, none⟩ x3).cell? ⟨b, 0, none⟩ = some x0 ∧ ((((V.setCell ⟨b, 0, none⟩ x0).setCell ⟨b, 1, none⟩ x1).setCell ⟨b, 2, none⟩ x2).setCell ⟨b, 3, none⟩ x3).cell? ⟨b, 1, none⟩ = some x1 ∧ ((((V.setCell ⟨b, 0, none⟩ x0).setCell ⟨b, 1, none⟩ x1).setCell ⟨b, 2, none⟩ x2).setCell ⟨b, 3, none⟩ x3).cell? ⟨b, 2, none⟩ = some x2 ∧ ((((V.setCell ⟨b, 0, none⟩ x0).setCell ⟨b, 1, none⟩ x1).setCell ⟨b, 2, none⟩ x2).setCell ⟨b, 3, none⟩ x3).cell? ⟨b, 3, none⟩ = some x3 := by
  obtain ⟨⟨v0, h0⟩, ⟨v1, h1⟩, ⟨v2, h2⟩, ⟨v3, h3⟩, _, _, _, _⟩ := h
  refine ⟨?_, ?_, ?_, ?_⟩
  · exact setc_ne (by omega) (setc_ne (by omega) (setc_ne (by omega) (World.cell?_setCell_same _ _ _ h0)))
  · exact setc_ne (by omega) (setc_ne (by omega) (World.cell?_setCell_same _ _ _ (setc_ne (by omega) h1)))
  · exact setc_ne (by omega) (World.cell?_setCell_same _ _ _ (setc_ne (by omega) (setc_ne (by omega) h2)))
  · exact World.cell?_setCell_same _ _ _ (setc_ne (by omega) (setc_ne (by omega) (setc_ne (by omega) h3)))

theorem rm4_alloc {V : World} {b : Nat} (h : Rm4 V b) (x0 x1 x2 x3 : Value) (o : Obj) : (((((V.setCell ⟨b, 0, none⟩ x0).setCell ⟨b, 1, none⟩ x1).setCell ⟨b, 2, none⟩ x2).setCell ⟨b, 3, none⟩ x3).alloc o).cell? ⟨b, 0, none⟩ = some x0 ∧ (((((V.setCell ⟨b, 0, none⟩ x0).setCell ⟨b, 1, none⟩ x1).setCell ⟨b, 2, none⟩ x2).setCell ⟨b, 3, none⟩ x3).alloc o).cell? ⟨b, 1, none⟩ = some x1 ∧ (((((V.setCell ⟨b, 0, none⟩ x0).setCell ⟨b, 1, none⟩ x1).setCell ⟨b, 2, none⟩ x2).setCell ⟨b, 3, none⟩ x3).alloc o).cell? ⟨b, 2, none⟩ = some x2 ∧ (((((V.setCell ⟨b, 0, none⟩ x0).setCell ⟨b, 1, none⟩ x1).setCell ⟨b, 2, none⟩ x2).setCell ⟨b, 3, none⟩ x3).alloc o).cell? ⟨b, 3, none⟩ = some x3 := by
  obtain ⟨q0, q1, q2, q3⟩ := rm4_put h x0 x1 x2 x3
  exact ⟨cell_keeps ((Grew.refl _).alloc _).below q0, cell_keeps ((Grew.refl _).alloc _).below q1, cell_keeps ((Grew.refl _).alloc _).below q2, cell_keeps ((Grew.refl _).alloc _).below q3⟩

end Go.Proofs.Ytbhfbjbigafnpaa

namespace Go.Proofs.Ytbhfbjbigafnpaa
open Go.RowKit Go.Shelf

set_option maxRecDepth 100000 in
set_option maxHeartbeats 8000000 in
theorem take1_any (base b0 k : Nat) (x : VT) (au : Option Addr) (lu cu : Nat) (av : Option Addr) (cv : Nat) (xs : List Value) (w : World) (hk : k ≤ 65536) (hb : w.cell? ⟨b0, 0, none⟩ = some (.slice av k cv)) (hfz : w.frozen? ⟨b0, 0, none⟩ = false) (hown : w.ownsRow base 38 4 (.slice av k cv) k xs) (hbase : base ≤ w.heap.size) (hne : (Value.slice av k cv).ownBlock ≠ some b0) :
    Calls Try.prog 25 #[.agg #[.int .i64 x.kind, .int .i64 x.num, .string x.text, .slice au lu cu], .pointer (some ⟨b0, 0, none⟩)] w (T1Post base b0 k x (.slice au lu cu) (.slice av k cv) xs w) := by
  obtain ⟨i0, hi, hz0, hz1, hz2⟩ := info24
  have Hi : Hid _ := hi; have Hz0 : Hid _ := hz0; have Hz1 : Hid _ := hz1; have Hz2 : Hid _ := hz2
  clear hi hz0 hz1 hz2
  have hxl : xs.length = k * 4 := hown.1
  have hbl : b0 < w.heap.size := cell_lt hb
  obtain ⟨W, hW⟩ : ∃ W, W = w.alloc (.cells #[.int .i64 x.kind, .int .i64 x.num, .string x.text, .slice au lu cu] 38) := ⟨_, rfl⟩
  have HW : Hid (W = w.alloc (.cells #[.int .i64 x.kind, .int .i64 x.num, .string x.text, .slice au lu cu] 38)) := hW
  have hwb : Below w.heap.size w W := by rw [hW]; exact ((Grew.refl w).alloc _).below
  have HWs : Hid (W.heap.size = w.heap.size + 1) := by rw [hW]; exact World.size_alloc w _
  have Hown : Hid (W.ownsRow base 38 4 (.slice av k cv) k xs) := by rw [hW]; exact hown.alloc _
  have HB : Hid (w.cell? ⟨b0, 0, none⟩ = some (.slice av k cv)) := hb
  have b1 : W.cell? ⟨b0, 0, none⟩ = some (.slice av k cv) := cell_keeps hwb hb
  have b2 : ∀ A, (W.alloc A).cell? ⟨b0, 0, none⟩ = some (.slice av k cv) := fun A => cell_keeps ((Grew.refl W).alloc A).below b1
  have f1 : W.frozen? ⟨b0, 0, none⟩ = false := (hwb.frozen (p := ⟨b0, 0, none⟩) hbl).trans hfz
  have y0 : W.cell? ⟨w.heap.size, 0, none⟩ = some (.int .i64 x.kind) := by rw [hW]; simp
  have y1 : W.cell? ⟨w.heap.size, 1, none⟩ = some (.int .i64 x.num) := by rw [hW]; simp
  have y2 : W.cell? ⟨w.heap.size, 2, none⟩ = some (.string x.text) := by rw [hW]; simp
  have y3 : W.cell? ⟨w.heap.size, 3, none⟩ = some (.slice au lu cu) := by rw [hW]; simp
  have z0 : ∀ A, (W.alloc A).cell? ⟨w.heap.size, 0, none⟩ = some (.int .i64 x.kind) := fun A => cell_keeps ((Grew.refl W).alloc A).below y0
  have z1 : ∀ A, (W.alloc A).cell? ⟨w.heap.size, 1, none⟩ = some (.int .i64 x.num) := fun A => cell_keeps ((Grew.refl W).alloc A).below y1
  have z2 : ∀ A, (W.alloc A).cell? ⟨w.heap.size, 2, none⟩ = some (.string x.text) := fun A => cell_keeps ((Grew.refl W).alloc A).below y2
  have z3 : ∀ A, (W.alloc A).cell? ⟨w.heap.size, 3, none⟩ = some (.slice au lu cu) := fun A => cell_keeps ((Grew.refl W).alloc A).below y3
  have hkk : (k : Int) < (k : Int) + 1 := by omega
  have HR : Hid (∀ g, (Value.slice av k cv).ownBlock = some g → g < w.heap.size ∧ g ≠ b0) := fun g hg => ⟨(hown.lt g hg).2, fun e => hne (by rw [hg, e])⟩
  have Hxl : Hid (xs.length = k * 4) := hxl
  clear hW hb hfz hown hxl
  go_enter Try.func25, Try.ntmps25
  go_upto_region 1 with fail
  rw [← HW.out]
  clear HW
  go_region_law (first | (refine step_append_lies _ rfl _ _ 22 rfl base 38 i0 (.agg #[.int .i64 0, .int .i64 0, .string ⟨#[]⟩, .slice none 0 0]) 4 56 Try.underlying22 Hi.out Hz0.out Hz1.out Hz2.out rfl (by decide) (.slice av k cv) k xs rfl (by first | exact Hown.out.alloc _ | exact (Hown.out.alloc _).drew | exact Hown.out.drew.alloc _) ⟨W.heap.size, 0, none⟩ 1 1 [.int .i64 0, .int .i64 0, .string ⟨#[]⟩, .slice none 0 0] rfl rfl (fun q u hq => by match q, hq with | 0, hq => (simp at hq; subst hq; simp [Addr.add]) | 1, hq => (simp at hq; subst hq; simp [Addr.add]) | 2, hq => (simp at hq; subst hq; simp [Addr.add]) | 3, hq => (simp at hq; subst hq; simp [Addr.add]) | q + 4, hq => simp at hq) (fun u hu => by simp at hu; rcases hu with rfl | rfl | rfl | rfl <;> rfl) (by decide) (by unfold maxLen; omega) (by omega) (by have := HWs.out; simp; omega) _ rfl ?_; intro g cap w7 hown7 hg7 hat7 hlt7; have hk7 : KC (fun n => (Value.slice av k cv).ownBlock = some n) W w7 := (by first | exact far23 ((Grew.refl W).alloc _).below hg7 | exact far23 ((Grew.refl W).alloc _).drew.below hg7 | exact far23 ((Grew.refl W).drew.alloc _).below hg7); have hgr : ((Value.slice av k cv).ownBlock = some g ∨ w.heap.size < g) ∧ g ≠ b0 ∧ g ≠ w.heap.size := place23 HWs.out (by simp) hbl HR.out hat7; have b7 := hk7.cell (a := ⟨b0, 0, none⟩) hne b1; have f7 := hk7.frozen (a := ⟨b0, 0, none⟩) hne b1 f1; have hnw : ¬ (Value.slice av k cv).ownBlock = some w.heap.size := (fun h => by have := (HR.out _ h).1; omega); have y0 := hk7.cell (a := ⟨w.heap.size, 0, none⟩) hnw y0; have y1 := hk7.cell (a := ⟨w.heap.size, 1, none⟩) hnw y1; have y2 := hk7.cell (a := ⟨w.heap.size, 2, none⟩) hnw y2; have y3 := hk7.cell (a := ⟨w.heap.size, 3, none⟩) hnw y3; have n1 : ¬ g = b0 := hgr.2.1; have n2 : ¬ b0 = g := (fun e => hgr.2.1 e.symm); have n3 : ¬ g = w.heap.size := hgr.2.2; have n4 : ¬ w.heap.size = g := (fun e => hgr.2.2 e.symm); have r0 : w7.cell? ⟨g, k * 4, none⟩ = some (.int .i64 0) := (by rw [hown7.cellAt _ (by omega), List.getElem?_append_right (by rw [Hxl.out]; omega), Hxl.out]; first | rfl | simp); have q0 : w7.frozen? ⟨g, k * 4, none⟩ = false := hown7.frozenAt _; have r1 : w7.cell? ⟨g, k * 4 + 1, none⟩ = some (.int .i64 0) := (by rw [hown7.cellAt _ (by omega), List.getElem?_append_right (by rw [Hxl.out]; omega), Hxl.out]; first | rfl | simp); have q1 : w7.frozen? ⟨g, k * 4 + 1, none⟩ = false := hown7.frozenAt _; have r2 : w7.cell? ⟨g, k * 4 + 2, none⟩ = some (.string ⟨#[]⟩) := (by rw [hown7.cellAt _ (by omega), List.getElem?_append_right (by rw [Hxl.out]; omega), Hxl.out]; first | rfl | simp); have q2 : w7.frozen? ⟨g, k * 4 + 2, none⟩ = false := hown7.frozenAt _; have r3 : w7.cell? ⟨g, k * 4 + 3, none⟩ = some (.slice none 0 0) := (by rw [hown7.cellAt _ (by omega), List.getElem?_append_right (by rw [Hxl.out]; omega), Hxl.out]; first | rfl | simp); have q3 : w7.frozen? ⟨g, k * 4 + 3, none⟩ = false := hown7.frozenAt _; clear z0 z1 z2 z3 b2))
  all_goals have HA : Hid (T1Post base b0 k x (.slice au lu cu) (.slice av k cv) xs w (.returned (.tuple #[])) (((((w7.setCell ⟨g, k * 4, none⟩ (.int .i64 x.kind)).setCell ⟨g, k * 4 + 1, none⟩ (.int .i64 x.num)).setCell ⟨g, k * 4 + 2, none⟩ (.string x.text)).setCell ⟨g, k * 4 + 3, none⟩ (.slice au lu cu)).setCell ⟨b0, 0, none⟩ (.slice (some ⟨g, 0, none⟩) (k + 1) cap))) := t1_end (Z := ((((w7.setCell ⟨g, k * 4, none⟩ (.int .i64 x.kind)).setCell ⟨g, k * 4 + 1, none⟩ (.int .i64 x.num)).setCell ⟨g, k * 4 + 2, none⟩ (.string x.text)).setCell ⟨g, k * 4 + 3, none⟩ (.slice au lu cu)).setCell ⟨b0, 0, none⟩ (.slice (some ⟨g, 0, none⟩) (k + 1) cap)) hgr.2.1 b7 f7 hown7 Hxl.out ((KC.of_below (B := fun n => n = b0 ∨ (Value.slice av k cv).ownBlock = some n) hwb).trans2 hk7 (fun j _ h => .inr h)) (hgr.1.imp id (fun h => by omega)) (.inl rfl)
  all_goals have HC : Hid (T1Post base b0 k x (.slice au lu cu) (.slice av k cv) xs w (.returned (.tuple #[])) (((((w7.setCell ⟨b0, 0, none⟩ (.slice (some ⟨g, 0, none⟩) (k + 1) cap)).setCell ⟨g, k * 4, none⟩ (.int .i64 x.kind)).setCell ⟨g, k * 4 + 1, none⟩ (.int .i64 x.num)).setCell ⟨g, k * 4 + 2, none⟩ (.string x.text)).setCell ⟨g, k * 4 + 3, none⟩ (.slice au lu cu))) := t1_end (Z := ((((w7.setCell ⟨b0, 0, none⟩ (.slice (some ⟨g, 0, none⟩) (k + 1) cap)).setCell ⟨g, k * 4, none⟩ (.int .i64 x.kind)).setCell ⟨g, k * 4 + 1, none⟩ (.int .i64 x.num)).setCell ⟨g, k * 4 + 2, none⟩ (.string x.text)).setCell ⟨g, k * 4 + 3, none⟩ (.slice au lu cu)) hgr.2.1 b7 f7 hown7 Hxl.out ((KC.of_below (B := fun n => n = b0 ∨ (Value.slice av k cv).ownBlock = some n) hwb).trans2 hk7 (fun j _ h => .inr h)) (hgr.1.imp id (fun h => by omega)) (.inr rfl)
  all_goals clear hown7 hg7 hat7 hlt7 hk7 hgr y0 y1 y2 y3 b1 f1 hwb Hown HB HR
  all_goals first | (with_reducible refine bodyPost_end (v := .tuple #[]) ?_ ?_ HA.out) | (with_reducible refine bodyPost_end (v := .tuple #[]) ?_ ?_ HC.out)
  all_goals first | rfl | simp [results, Try.results25, go_sem]

set_option maxRecDepth 100000 in
theorem drop1_any (x : VT) (u : Value) (w : World) : Calls Try.prog 29 #[.agg #[.int .i64 x.kind, .int .i64 x.num, .string x.text, u]] w fun e w' => e = .returned (.tuple #[]) ∧ Below w.heap.size w w' := by
  have hal : Below w.heap.size w (w.alloc (.cells #[.int .i64 x.kind, .int .i64 x.num, .string x.text, u] 38)) := ((Grew.refl w).alloc _).below
  have HE : Hid (Below w.heap.size w (w.alloc (.cells #[.int .i64 x.kind, .int .i64 x.num, .string x.text, u] 38))) := hal
  clear hal
  go_enter Try.func29, Try.ntmps29
  go_wp2_with fail
  refine bodyPost_end (v := .tuple #[]) ?_ rfl ⟨rfl, HE.out⟩
  simp [results, Try.results29, go_sem]

end Go.Proofs.Ytbhfbjbigafnpaa

namespace Go.Proofs.Ytbhfbjbigafnpaa
open Go.RowKit Go.Shelf

/-- From the world w0 on, in which the seq had the cells P0 0 .. P0 k0, it has come to the place p; the items ps that were found lie in none of its cells and in no barred block. -/
structure Tk (C : CK) (Fr : Prop) (Y bar : Nat → Prop) (w0 : World) (P0 : Nat → Nat) (k0 : Nat) (s : SS) (p : Nat) (w : World) (ps : List (VT × Value)) : Prop where
  ex : ∃ (P : Nat → Nat) (Yc : Nat → Prop), (∀ j, j ≤ k0 → P j = P0 j) ∧ (∀ j, k0 < j → j ≤ s.vs.length → w0.heap.size ≤ P j) ∧ k0 ≤ s.vs.length ∧ s.i ≤ s.vs.length ∧ p = P s.i ∧ Chn C Yc w s.vs s.T P ∧ (∀ n, Yc n → ¬ bar n ∧ (n < w0.heap.size → Y n)) ∧ ∀ x ∈ ps, rightV 16 x.1 = true ∧ ∃ a c, x.2 = .slice a x.1.items.length c ∧ LiesX (fun n => ¬ bar n ∧ (Fr → w0.heap.size ≤ n) ∧ (n < w0.heap.size → Y n) ∧ ∀ j, j ≤ s.vs.length → n ≠ P j) 16 w x.1.items x.2
  kc : KC (fun j => ∃ i, i ≤ k0 ∧ j = P0 i) w0 w
  barw : ∀ n, bar n → w0.heap.size ≤ n ∧ n < w.heap.size

section
variable {C : CK} {Fr : Prop} {Y bar : Nat → Prop} {w0 : World} {P0 : Nat → Nat} {k0 : Nat} {s : SS} {p : Nat} {w : World} {ps : List (VT × Value)}

theorem Tk.start {vs : List VT} {T : Tl} (h : Chn C Y w0 vs T P0) (i : Nat) (hi : i ≤ vs.length) : Tk C Fr Y (fun _ => False) w0 P0 vs.length ⟨vs, T, i⟩ (P0 i) w0 [] :=
  ⟨⟨P0, Y, fun _ _ => rfl, fun j h1 h2 => absurd h1 (by simp only at h2; omega), Nat.le_refl _, hi, rfl, h, fun n hn => ⟨fun h => h, fun _ => hn⟩, fun x hx => by cases hx⟩, KC.refl _ _, fun n h => h.elim⟩

theorem Tk.k1 (h : Tk C Fr Y bar w0 P0 k0 s p w ps) {w' : World} (hk : KC bar w w') : Tk C Fr Y bar w0 P0 k0 s p w' ps := by
  obtain ⟨P, Yc, h1, h2, h3, h4, h5, h6, h7, h8⟩ := h.ex
  refine ⟨⟨P, Yc, h1, h2, h3, h4, h5, h6.kc hk (fun n _ hn => (h7 n hn).1), h7, fun x hx => ?_⟩, h.kc.trans2 hk (fun j hj hb => absurd (h.barw j hb).1 (by omega)), fun n hn => ⟨(h.barw n hn).1, Nat.lt_of_lt_of_le (h.barw n hn).2 hk.size⟩⟩
  obtain ⟨g1, a, c, g2, g3⟩ := h8 x hx
  exact ⟨g1, a, c, g2, hk.liesX (fun n hn => hn.1) g3⟩

theorem Tk.k2 (h : Tk C Fr Y bar w0 P0 k0 s p w ps) {w' : World} (hb : Below w.heap.size w w') : Tk C Fr Y (fun n => bar n ∨ (w.heap.size ≤ n ∧ n < w'.heap.size)) w0 P0 k0 s p w' ps := by
  obtain ⟨P, Yc, h1, h2, h3, h4, h5, h6, h7, h8⟩ := h.ex
  refine ⟨⟨P, fun n => Yc n ∧ n < w.heap.size, h1, h2, h3, h4, h5, (h6.monoY (fun n hn hy => ⟨hy, hn⟩)).keeps hb, fun n hn => ⟨fun hh => ?_, (h7 n hn.1).2⟩, fun x hx => ?_⟩, h.kc.trans2 (KC.of_below (B := fun _ => False) hb) (fun j _ hf => hf.elim), fun n hn => ?_⟩
  · rcases hh with hh | hh
    · exact (h7 n hn.1).1 hh
    · have := hn.2; omega
  · obtain ⟨g1, a, c, g2, g3⟩ := h8 x hx
    refine ⟨g1, a, c, g2, LiesX.mono (fun n hn => ⟨fun hh => ?_, hn.1.2⟩) (g3.both.keeps hb)⟩
    rcases hh with hh | hh
    · exact hn.1.1 hh
    · have := hn.2; omega
  · rcases hn with hn | hn
    · exact ⟨(h.barw n hn).1, Nat.lt_of_lt_of_le (h.barw n hn).2 hb.size⟩
    · exact ⟨Nat.le_trans h.kc.size hn.1, hn.2⟩

theorem Tk.k4 (h : Tk C Fr Y bar w0 P0 k0 s p w ps) {w' : World} (hb : KC bar w w') : Tk C Fr Y (fun n => bar n ∨ (w.heap.size ≤ n ∧ n < w'.heap.size)) w0 P0 k0 s p w' ps := by
  obtain ⟨P, Yc, h1, h2, h3, h4, h5, h6, h7, h8⟩ := h.ex
  refine ⟨⟨P, fun n => Yc n ∧ n < w.heap.size, h1, h2, h3, h4, h5, (h6.monoY (fun n hn hy => ⟨hy, hn⟩)).kc hb (fun n _ hn => (h7 n hn.1).1), fun n hn => ⟨fun hh => ?_, (h7 n hn.1).2⟩, fun x hx => ?_⟩, h.kc.trans2 hb (fun j hj hf => absurd (h.barw j hf).1 (by omega)), fun n hn => ?_⟩
  · rcases hh with hh | hh
    · exact (h7 n hn.1).1 hh
    · have := hn.2; omega
  · obtain ⟨g1, a, c, g2, g3⟩ := h8 x hx
    refine ⟨g1, a, c, g2, LiesX.mono (fun n hn => ⟨fun hh => ?_, hn.1.2⟩) (hb.liesX (fun n hn => hn.1.1) g3.both)⟩
    rcases hh with hh | hh
    · exact hn.1.1 hh
    · have := hn.2; omega
  · rcases hn with hn | hn
    · exact ⟨(h.barw n hn).1, Nat.lt_of_lt_of_le (h.barw n hn).2 hb.size⟩
    · exact ⟨Nat.le_trans h.kc.size hn.1, hn.2⟩

theorem Tk.k3 (h : Tk C Fr Y bar w0 P0 k0 s p w ps) {bar' : Nat → Prop} (hb : ∀ n, bar' n → bar n) : Tk C Fr Y bar' w0 P0 k0 s p w ps := by
  obtain ⟨P, Yc, h1, h2, h3, h4, h5, h6, h7, h8⟩ := h.ex
  refine ⟨⟨P, Yc, h1, h2, h3, h4, h5, h6, fun n hn => ⟨fun hh => (h7 n hn).1 (hb n hh), (h7 n hn).2⟩, fun x hx => ?_⟩, h.kc, fun n hn => h.barw n (hb n hn)⟩
  obtain ⟨g1, a, c, g2, g3⟩ := h8 x hx
  exact ⟨g1, a, c, g2, LiesX.mono (fun n hn => ⟨fun hh => hn.1 (hb n hh), hn.2⟩) g3⟩

theorem Tk.below (h : Tk C Fr Y bar w0 P0 k0 s p w ps) {w' : World} (hb : Below w.heap.size w w') : Tk C Fr Y bar w0 P0 k0 s p w' ps := h.k1 (KC.of_below hb)

/-- Some of the items alone. -/
theorem Tk.part (h : Tk C Fr Y bar w0 P0 k0 s p w ps) {qs : List (VT × Value)} (hq : ∀ x ∈ qs, x ∈ ps) : Tk C Fr Y bar w0 P0 k0 s p w qs := by
  obtain ⟨P, Yc, h1, h2, h3, h4, h5, h6, h7, h8⟩ := h.ex
  exact ⟨⟨P, Yc, h1, h2, h3, h4, h5, h6, h7, fun x hx => h8 x (hq x hx)⟩, h.kc, h.barw⟩

end

theorem frcC_err {s s' : SS} {f e : Nat} (h : frcC s f = .err e s') : s' = s := by
  unfold frcC at h
  split at h
  · cases h
  · split at h
    · cases h
    · split at h
      · cases h; rfl
      · cases h

theorem frcC_emp {s s' : SS} {f left : Nat} (h : frcC s f = .emp left s') : s' = s ∧ left = f := by
  unfold frcC at h
  split at h
  · cases h
  · split at h
    · cases h; exact ⟨rfl, rfl⟩
    · split at h
      · cases h
      · cases h

theorem frcC_item {s s' : SS} {f left : Nat} {x : VT} (hi : s.i ≤ s.vs.length) (h : frcC s f = .item x left s') : left ≤ f ∧ s'.i = s.i + 1 ∧ s'.i ≤ s'.vs.length := by
  unfold frcC at h
  split at h
  · next hx =>
    cases h
    have := list_lt hx
    exact ⟨Nat.le_refl _, rfl, by simp only; omega⟩
  · split at h
    · cases h
    · split at h
      · cases h
      · cases h
        exact ⟨by omega, rfl, by simp only [List.length_append, List.length_cons, List.length_nil]; omega⟩

/-- Behind Force. -/
def TkF (C : CK) (Fr : Prop) (Y bar : Nat → Prop) (w0 : World) (P0 : Nat → Nat) (k0 : Nat) (p : Nat) (ps : List (VT × Value)) (r : FR SS) (w : World) (e : Ending) (w' : World) : Prop :=
  KC (fun n => ¬ bar n) w w' ∧ match r with
  | .err e0 s' => (∃ a c, e = noneR a c 0 e0) ∧ Tk C Fr Y bar w0 P0 k0 s' p w' ps
  | .emp left s' => (∃ a c, e = noneR a c left 0) ∧ left ≤ 1073741824 ∧ Tk C Fr Y bar w0 P0 k0 s' p w' ps
  | .item x left s' => ∃ p' a c, e = itemR x (.slice a x.items.length c) (some ⟨p', 0, none⟩) true left 0 ∧ left ≤ 1073741824 ∧ Tk C Fr Y bar w0 P0 k0 s' p' w' (ps ++ [(x, .slice a x.items.length c)])

/-- Force, of the program or of the document. -/
theorem Tk.force {C : CK} {Fr : Prop} {Y bar : Nat → Prop} {w0 : World} {P0 : Nat → Nat} {k0 : Nat} {s : SS} {p : Nat} {w : World} {ps : List (VT × Value)} (F : Nat)
    (hF : ∀ (Y : Nat → Prop) (s : SS) (P : Nat → Nat) (f : Nat), f ≤ 1073741824 → ∀ w, Chn C Y w s.vs s.T P → s.i ≤ s.vs.length → (∀ n, w.heap.size ≤ n → Y n) → Calls Try.prog F #[.pointer (some ⟨P s.i, 0, none⟩), .int .i64 (f : Int)] w (FcP C Fr Y s P (frcC s f) w))
    (h : Tk C Fr Y bar w0 P0 k0 s p w ps) (f : Nat) (hf : f ≤ 1073741824) :
    Calls Try.prog F #[.pointer (some ⟨p, 0, none⟩), .int .i64 (f : Int)] w (TkF C Fr Y bar w0 P0 k0 p ps (frcC s f) w) := by
  obtain ⟨P, Yc, h1, h2, h3, h4, h5, h6, h7, h8⟩ := h.ex
  have hc := h6.monoY (Z := fun n => (Yc n ∧ n < w.heap.size) ∨ w.heap.size ≤ n) (fun n hn hy => .inl ⟨hy, hn⟩)
  subst h5
  refine Calls.mono (hF _ s P f hf w hc h4 (fun n hn => .inr hn)) ?_
  intro e w' hp
  have hbarP : ∀ j, j ≤ s.vs.length → ¬ bar (P j) := fun j hj => (h7 _ (h6.inY j hj)).1
  cases hr : frcC s f with
  | err e0 s' =>
    rw [hr] at hp
    obtain ⟨he, hb⟩ := hp
    rw [frcC_err hr]
    exact ⟨KC.of_below hb, he, h.below hb⟩
  | emp left s' =>
    rw [hr] at hp
    obtain ⟨he, hb⟩ := hp
    obtain ⟨e1, e2⟩ := frcC_emp hr
    rw [e1]
    exact ⟨KC.of_below hb, he, by omega, h.below hb⟩
  | item x left s' =>
    rw [hr] at hp
    obtain ⟨P', a, c, g1, g2, g3, hC, hk, rfl, hrx, hl⟩ := hp
    obtain ⟨i1, i2, i3⟩ := frcC_item h4 hr
    have hws := h.kc.size
    have hY1 : ∀ n, ((Yc n ∧ n < w.heap.size) ∨ w.heap.size ≤ n) → ¬ bar n ∧ (n < w0.heap.size → Y n) := fun n hn => by
      rcases hn with hn | hn
      · exact h7 n hn.1
      · exact ⟨fun hb => by have := (h.barw n hb).2; omega, fun hh => by omega⟩
    refine ⟨hk.mono (fun j _ hj => by obtain ⟨i, hi, rfl⟩ := hj; exact hbarP i hi), P' (s.i + 1), a, c, rfl, by omega, ⟨P', _, fun j hj => ?_, fun j j1 j2 => ?_, by omega, i3, by rw [i2], hC, hY1, fun y hy => ?_⟩, h.kc.trans2 hk (fun j hj hh => ?_), fun n hn => ⟨(h.barw n hn).1, Nat.lt_of_lt_of_le (h.barw n hn).2 hk.size⟩⟩
    · rw [g1 j (by omega)]; exact h1 j hj
    · by_cases hj : j ≤ s.vs.length
      · rw [g1 j hj]; exact h2 j j1 hj
      · have := g2 j (by omega) j2; omega
    · rcases List.mem_append.1 hy with hy | hy
      · obtain ⟨k1, a1, c1, k2, k3⟩ := h8 y hy
        refine ⟨k1, a1, c1, k2, LiesX.mono (fun n hn => ⟨hn.1.1, hn.1.2.1, hn.1.2.2.1, fun j hj => ?_⟩) (hk.liesX (fun n hn hh => by obtain ⟨i, hi, rfl⟩ := hh; exact hn.1.2.2.2 i hi rfl) k3.both)⟩
        by_cases hj2 : j ≤ s.vs.length
        · rw [g1 j hj2]; exact hn.1.2.2.2 j hj2
        · have := g2 j (by omega) hj; have := hn.2; omega
      · rw [List.mem_singleton.1 hy]
        refine ⟨hrx, a, c, rfl, LiesX.mono (fun n hn => ⟨(hY1 n hn.1).1, fun hf => ?_, (hY1 n hn.1).2, hn.2.2⟩) hl⟩
        have := hn.2.1 hf; omega
    · obtain ⟨i, hi, rfl⟩ := hh
      by_cases hik : i ≤ k0
      · exact ⟨i, hik, h1 i hik⟩
      · have := h2 i (by omega) hi; omega

end Go.Proofs.Ytbhfbjbigafnpaa

namespace Go.Proofs.Ytbhfbjbigafnpaa
open Go.RowKit Go.Shelf

/-- An empty seq. -/
theorem chn_nil {C : CK} {Y : Nat → Prop} {w : World} {b : Nat} (hY : Y b) (h : C.en w b) : Chn C Y w [] none (fun _ => b) :=
  ⟨(fun x hx => by cases hx), (fun i j hi hj _ => by simp at hi hj; omega), (fun _ _ => hY), (fun i x hx => by simp at hx), (fun _ => h), (fun q x e => by cases e)⟩

/-- What is left of a seq that had the cells P0 0 .. P0 k0 in the world w0. -/
structure Aft (C : CK) (Y : Nat → Prop) (w0 : World) (P0 : Nat → Nat) (k0 : Nat) (s : SS) (P : Nat → Nat) (w' : World) : Prop where
  old : ∀ j, j ≤ k0 → P j = P0 j
  new : ∀ j, k0 < j → j ≤ s.vs.length → w0.heap.size ≤ P j
  more : k0 ≤ s.vs.length
  at_ : s.i ≤ s.vs.length
  chn : Chn C Y w' s.vs s.T P
  kc : KC (fun j => ∃ i, i ≤ k0 ∧ j = P0 i) w0 w'

theorem Aft.below {C : CK} {Y : Nat → Prop} {w0 : World} {P0 : Nat → Nat} {k0 : Nat} {s : SS} {P : Nat → Nat} {w w' : World} (h : Aft C Y w0 P0 k0 s P w) (hb : Below w.heap.size w w') : Aft C Y w0 P0 k0 s P w' :=
  ⟨h.old, h.new, h.more, h.at_, h.chn.keeps hb, h.kc.trans2 (KC.of_below (B := fun _ => False) hb) (fun _ _ h => h.elim)⟩

theorem Aft.trans {C : CK} {Y : Nat → Prop} {w0 w2 w3 : World} {P0 P P' : Nat → Nat} {k0 : Nat} {s s' : SS} (h : Aft C Y w0 P0 k0 s P w2) (h' : Aft C Y w2 P s.vs.length s' P' w3) : Aft C Y w0 P0 k0 s' P' w3 := by
  have hs := h.kc.size
  have hm := h.more
  refine ⟨fun j hj => by rw [h'.old j (by omega)]; exact h.old j hj, fun j h1 h2 => ?_, by have := h'.more; omega, h'.at_, h'.chn, h.kc.trans2 h'.kc (fun j hj hh => ?_)⟩
  · by_cases hj : j ≤ s.vs.length
    · rw [h'.old j hj]; exact h.new j h1 hj
    · have := h'.new j (by omega) h2; omega
  · obtain ⟨i, hi, rfl⟩ := hh
    by_cases hik : i ≤ k0
    · exact ⟨i, hik, h.old i hik⟩
    · have := h.new i (by omega) hi; omega

/-- In which blocks items lie that were told. -/
abbrev XA (Fr : Prop) (Y : Nat → Prop) (w0 : World) (k : Nat) (P : Nat → Nat) : Nat → Prop := fun n => (Fr → w0.heap.size ≤ n) ∧ (n < w0.heap.size → Y n) ∧ ∀ j, j ≤ k → n ≠ P j

theorem Tk.aft {C : CK} {Fr : Prop} {Y bar : Nat → Prop} {w0 : World} {P0 : Nat → Nat} {k0 : Nat} {s : SS} {p : Nat} {w : World} {ps : List (VT × Value)} (h : Tk C Fr Y bar w0 P0 k0 s p w ps) (hY : ∀ n, w0.heap.size ≤ n → Y n) :
    ∃ P, Aft C Y w0 P0 k0 s P w ∧ p = P s.i ∧ (∀ g, bar g → XA Fr Y w0 s.vs.length P g) ∧ ∀ x ∈ ps, rightV 16 x.1 = true ∧ ∃ a c, x.2 = .slice a x.1.items.length c ∧ LiesX (XA Fr Y w0 s.vs.length P) 16 w x.1.items x.2 := by
  obtain ⟨P, Yc, h1, h2, h3, h4, h5, h6, h7, h8⟩ := h.ex
  refine ⟨P, ⟨h1, h2, h3, h4, h6.monoY (fun n _ hn => ?_), h.kc⟩, h5, fun g hg => ⟨fun _ => (h.barw g hg).1, fun _ => absurd (h.barw g hg).1 (by omega), fun j hj e => ?_⟩, fun x hx => ?_⟩
  · by_cases hh : n < w0.heap.size
    · exact (h7 n hn).2 hh
    · exact hY n (by omega)
  · exact (h7 _ (h6.inY j hj)).1 (e ▸ hg)
  · obtain ⟨g1, a, c, g2, g3⟩ := h8 x hx
    exact ⟨g1, a, c, g2, LiesX.mono (fun n hn => hn.2) g3⟩

/-- Take, of the program or of the document. -/
def TakePost (C : CK) (Fr : Prop) (Y : Nat → Prop) (w0 : World) (P0 : Nat → Nat) (k0 : Nat) (r : WS SS) (e : Ending) (w' : World) : Prop :=
  ∃ P, Aft C Y w0 P0 k0 r.s P w' ∧ ((r.err ≠ 0 ∧ e = .returned (.tuple #[.slice none 0 0, .int .i64 0, .int .i64 (r.err : Int)])) ∨
    (r.err = 0 ∧ ∃ a c, e = .returned (.tuple #[.slice a r.items.length c, .int .i64 (r.left : Int), .int .i64 0]) ∧ LiesX (XA Fr Y w0 r.s.vs.length P) 17 w' r.items (.slice a r.items.length c) ∧ ∀ x ∈ r.items, rightV 16 x = true))

/-- Drop: what is behind is a seq of its own. -/
def DropPost (C : CK) (Y : Nat → Prop) (w0 : World) (P0 : Nat → Nat) (k0 : Nat) (r : WS SS) (e : Ending) (w' : World) : Prop :=
  ∃ P, Aft C Y w0 P0 k0 r.s P w' ∧ ((r.err ≠ 0 ∧ e = .returned (.tuple #[.pointer none, .int .i64 0, .int .i64 (r.err : Int)])) ∨
    (r.err = 0 ∧ ∃ P', e = .returned (.tuple #[.pointer (some ⟨P' 0, 0, none⟩), .int .i64 (r.left : Int), .int .i64 0]) ∧ Chn C Y w' (r.s.vs.drop r.s.i) r.s.T P' ∧ (P' 0 = P r.s.i ∨ (r.s.T = none ∧ r.s.i = r.s.vs.length)) ∧ ∀ j, j ≤ (r.s.vs.drop r.s.i).length → (∃ i, i ≤ r.s.vs.length ∧ P' j = P i) ∨ w0.heap.size ≤ P' j))

/-- Behind the first cell. -/
def wnx {S : Type} (frc : S → Nat → FR S) (n : Nat) : FR S → WS S
  | .err e s' => ⟨[], 0, e, s'⟩
  | .emp left s' => ⟨[], left, 0, s'⟩
  | .item x left s' => pre [x] (wlk frc n s' left)

theorem wlk_succ {S : Type} (frc : S → Nat → FR S) (n : Nat) (s : S) (f : Nat) : wlk frc (n + 1) s f = wnx frc n (frc s f) := by
  rw [wlk]
  cases frc s f <;> rfl

theorem wlk_le : ∀ (n : Nat) (s : SS) (f : Nat), (wlk frcC n s f).items.length ≤ n ∧ (wlk frcC n s f).left ≤ f
  | 0, _, _ => ⟨Nat.le_refl _, Nat.le_refl _⟩
  | n + 1, s, f => by
    unfold wlk
    cases hr : frcC s f with
    | err e s' => simp
    | emp left s' => obtain ⟨_, e2⟩ := frcC_emp hr; simp [e2]
    | item x left s' =>
      have h1 := wlk_le n s' left
      have h2 : left ≤ f := by
        unfold frcC at hr
        split at hr
        · cases hr; exact Nat.le_refl _
        · split at hr
          · cases hr
          · split at hr
            · cases hr
            · cases hr; omega
      simp only [pre, List.length_append, List.length_cons, List.length_nil]
      omega

end Go.Proofs.Ytbhfbjbigafnpaa

namespace Go.Proofs.Ytbhfbjbigafnpaa
open Go.RowKit Go.Shelf

set_option maxRecDepth 100000 in
theorem rasked_ok (n f : Nat) (hn : n ≤ 65536) (hf : f ≤ 1073741824) (w : World) : Calls Try.prog 26 #[.int .i64 (n : Int), .int .i64 (f : Int)] w fun e w' => e = .returned (.int .i64 0) ∧ w' = w := by
  have h1 : ¬ (n : Int) < 0 := by omega
  have h2 : ¬ (65536 : Int) < (n : Int) := by omega
  have h3 : ¬ (f : Int) < 0 := by omega
  have h4 : ¬ (1073741824 : Int) < (f : Int) := by omega
  go_enter Try.func26, Try.ntmps26
  go_wp2_with fail
  go_ret
  exact ⟨rfl, rfl⟩

set_option maxRecDepth 100000 in
theorem rasked_bad (n f : Int) (h : (n < 0 ∨ 65536 < n) ∨ (f < 0 ∨ 1073741824 < f)) (w : World) : Calls Try.prog 26 #[.int .i64 n, .int .i64 f] w fun e w' => e = .returned (.int .i64 1) ∧ w' = w := by
  by_cases h1 : n < 0
  · go_enter Try.func26, Try.ntmps26
    go_wp2_with fail
    go_ret
    exact ⟨rfl, rfl⟩
  · by_cases h2 : 65536 < n
    · go_enter Try.func26, Try.ntmps26
      go_wp2_with fail
      go_ret
      exact ⟨rfl, rfl⟩
    · by_cases h3 : f < 0
      · clear h
        go_enter Try.func26, Try.ntmps26
        go_wp2_with fail
        go_ret
        exact ⟨rfl, rfl⟩
      · have h4 : 1073741824 < f := by omega
        clear h
        go_enter Try.func26, Try.ntmps26
        go_wp2_with fail
        go_ret
        exact ⟨rfl, rfl⟩

/-- The document's Take under way: its list lies in a row of its own. -/
def RJ (Y : Nat → Prop) (w0 : World) (P0 : Nat → Nat) (k0 : Nat) (s : SS) (p : Nat) (v : Value) (ps : List (VT × Value)) (w : World) : Prop :=
  w.ownsRow w0.heap.size 38 4 v ps.length (ps.flatMap encP) ∧ Tk dCK False Y (fun m => v.ownBlock = some m) w0 P0 k0 s p w ps

theorem RJ.step {Y : Nat → Prop} {w0 : World} {P0 : Nat → Nat} {k0 : Nat} {s : SS} {p : Nat} {v : Value} {ps : List (VT × Value)} {x : VT} {u : Value} {w3 w6 : World} (h : Tk dCK False Y (fun m => v.ownBlock = some m) w0 P0 k0 s p w3 (ps ++ [(x, u)])) (hk : KC (fun m => v.ownBlock = some m) w3 w6) {g cap : Nat} (hown : w6.ownsRow w0.heap.size 38 4 (.slice (some ⟨g, 0, none⟩) (ps.length + 1) cap) (ps.length + 1) (ps.flatMap encP ++ encP (x, u))) (hat : v.ownBlock = some g ∨ w3.heap.size ≤ g) :
    RJ Y w0 P0 k0 s p (.slice (some ⟨g, 0, none⟩) (ps.length + 1) cap) (ps ++ [(x, u)]) w6 := by
  have hlt := (hown.lt g rfl).2
  refine ⟨by simpa [List.flatMap_append] using hown, ?_⟩
  rcases hat with hh | hh
  · refine (h.k1 hk).k3 (fun n hn => ?_)
    have : g = n := by simpa [Value.ownBlock] using hn
    subst this
    exact hh
  · refine (h.k4 hk).k3 (fun n hn => ?_)
    have : g = n := by simpa [Value.ownBlock] using hn
    subst this
    exact .inr ⟨hh, hlt⟩

theorem frcC_e {s s' : SS} {f e : Nat} (h : frcC s f = .err e s') : e = 220 := by
  unfold frcC at h
  split at h
  · cases h
  · split at h
    · cases h
    · split at h
      · cases h; rfl
      · cases h

/-- What Take tells where there is no error. -/
theorem rtake_end {Y : Nat → Prop} {w : World} {P : Nat → Nat} {k0 j p : Nat} {a : Option Addr} {c : Nat} {ps : List (VT × Value)} {r : WS SS} {w3 Z : World} (hT : Tk dCK False Y (fun m => (Value.slice a j c).ownBlock = some m) w P k0 r.s p w3 ps) (ho : w3.ownsRow w.heap.size 38 4 (.slice a j c) j (ps.flatMap encP)) (hps : ps.length = j) (hj : j ≤ 65536) (hY : ∀ n, w.heap.size ≤ n → Y n) (hr : r.items = []) (he : r.err = 0) (hZ : Below w3.heap.size w3 Z) :
    TakePost dCK False Y w P k0 (pre (ps.map (·.1)) r) (.returned (.tuple #[.slice a j c, .int .i64 (r.left : Int), .int .i64 0])) Z := by
  obtain ⟨P', hA, _, hb, hi⟩ := hT.aft hY
  have hl := own_liesX (d := 16) ho hps.symm (fun g hg => hb g hg) (fun q hq => by
    obtain ⟨g1, a1, c1, g2, g3⟩ := hi q hq
    exact ⟨g3, Nat.le_trans (right_size g1) (by omega)⟩) (by omega)
  have hit : (pre (ps.map (·.1)) r).items = ps.map (·.1) := by simp [pre, hr]
  have hlen : (pre (ps.map (·.1)) r).items.length = j := by rw [hit, List.length_map, hps]
  refine ⟨P', hA.below hZ, .inr ⟨he, a, c, by rw [hlen]; rfl, ?_, fun x hx => ?_⟩⟩
  · rw [hlen, hit]; exact hl.keeps hZ
  · rw [hit] at hx
    obtain ⟨q, hq, rfl⟩ := List.mem_map.1 hx
    exact (hi q hq).1

set_option maxRecDepth 100000 in
set_option maxHeartbeats 8000000 in
theorem rtake_any (Y : Nat → Prop) (vs : List VT) (T : Tl) (P : Nat → Nat) (n f : Nat) (hn : n ≤ 65536) (hf : f ≤ 1073741824) (w : World) (h : Chn dCK Y w vs T P) (hY : ∀ n, w.heap.size ≤ n → Y n) :
    Calls Try.prog 9 #[.pointer (some ⟨P 0, 0, none⟩), .int .i64 (n : Int), .int .i64 (f : Int)] w (TakePost dCK False Y w P vs.length (wlk frcC n ⟨vs, T, 0⟩ f)) := by
  have HC : Hid (∀ V, Calls Try.prog 26 #[.int .i64 (n : Int), .int .i64 (f : Int)] V fun e w' => e = .returned (.int .i64 0) ∧ w' = V) := fun V => rasked_ok n f hn hf V
  have HJ0 : Hid (RJ Y w P vs.length ⟨vs, T, 0⟩ (P 0) (.slice none 0 0) [] w) := ⟨World.ownsRow_nil _ _ _ _, (Tk.start h 0 (by omega)).k3 (fun m hm => by simp [Value.ownBlock] at hm)⟩
  have HY : Hid (∀ n, w.heap.size ≤ n → Y n) := hY
  have Hn : Hid (n ≤ 65536 ∧ f ≤ 1073741824) := ⟨hn, hf⟩
  obtain ⟨i0, hi, hz0, hz1, hz2⟩ := info24
  have Hi : Hid _ := hi; have Hz0 : Hid _ := hz0; have Hz1 : Hid _ := hz1; have Hz2 : Hid _ := hz2
  clear hi hz0 hz1 hz2 h hn hf hY
  go_enter Try.func9, Try.ntmps9
  go_wp2_with fail
  refine Calls.mono (HC.out _) ?_
  rintro e w9 ⟨rfl, hw9⟩
  obtain rfl : w = w9 := hw9.symm
  clear hw9 HC
  go_wp2_with fail
  go_loopg [0, 2, 10] n (fun z v0 v2 v10 wr => ∃ (j p fl : Nat) (a : Option Addr) (c : Nat), v0 = .pointer (some ⟨p, 0, none⟩) ∧ v2 = .int .i64 (fl : Int) ∧ v10 = .slice a j c ∧ z = n - j ∧ j ≤ n ∧ Hid (∃ (ps : List (VT × Value)) (s' : SS), ps.length = j ∧ fl ≤ 1073741824 ∧ wlk frcC n ⟨vs, T, 0⟩ f = pre (ps.map (·.1)) (wlk frcC (n - j) s' fl) ∧ RJ Y w P vs.length s' p (.slice a j c) ps wr))
  case atStart => exact ⟨0, P 0, f, none, 0, rfl, rfl, rfl, by omega, by omega, [], _, rfl, Hn.out.2, rfl, HJ0.out⟩
  case round =>
    obtain ⟨j, p, fl, a, c, rfl, rfl, rfl, hg, hj, HI⟩ := hrel
    have Hg : Hid (gk = n - j) := hg
    clear hg HJ0
    by_cases hlt : j < n
    · have hji : (j : Int) < (n : Int) := by omega
      obtain ⟨k, hk⟩ : ∃ k, n - j = k + 1 := ⟨n - j - 1, by omega⟩
      obtain ⟨ps, s', hps, hfl, hE0, hR⟩ := HI.out
      have HFo : Hid (Calls Try.prog 27 #[.pointer (some ⟨p, 0, none⟩), .int .i64 (fl : Int)] wr (TkF dCK False Y (fun m => (Value.slice a j c).ownBlock = some m) w P vs.length p ps (frcC s' fl) wr)) := hR.2.force 27 dForce fl hfl
      have HE : Hid (wlk frcC n ⟨vs, T, 0⟩ f = pre (ps.map (·.1)) (wnx frcC k (frcC s' fl))) := by
        rw [hk, wlk_succ] at hE0
        exact hE0
      have Hown : Hid (wr.ownsRow w.heap.size 38 4 (.slice a j c) j (ps.flatMap encP)) := by have := hR.1; rw [hps] at this; exact this
      have Hps : Hid (ps.length = j) := hps
      clear hps hfl hE0 hR HI
      cases hr : frcC s' fl with
      | err e0 s2 =>
        rw [hr] at HFo HE
        go_wp2_with fail
        refine Calls.mono HFo.out ?_
        rintro e w3 ⟨hk3, ⟨ax, cx, rfl⟩, hT⟩
        have he0 : e0 ≠ 0 := by rw [frcC_e hr]; omega
        have he1 : ¬ (e0 : Int) = 0 := by omega
        have HZ : Hid (∀ Z, Below w3.heap.size w3 Z → TakePost dCK False Y w P vs.length (wlk frcC n ⟨vs, T, 0⟩ f) (.returned (.tuple #[.slice none 0 0, .int .i64 0, .int .i64 (e0 : Int)])) Z) := fun Z hZ => by
          obtain ⟨P', hA, _⟩ := hT.aft HY.out
          rw [HE.out]
          exact ⟨P', hA.below hZ, .inl ⟨he0, rfl⟩⟩
        clear hk3 hT HFo Hown HE he0
        go_wp2_with fail
        refine bodyPost_ret (v := .tuple #[.slice none 0 0, .int .i64 0, .int .i64 (e0 : Int)]) ?_ rfl (HZ.out _ ((Grew.refl _).alloc _).below)
        simp [results, Try.results9, go_sem]
      | emp left s2 =>
        rw [hr] at HFo HE
        go_wp2_with fail
        refine Calls.mono HFo.out ?_
        rintro e w3 ⟨hk3, ⟨ax, cx, rfl⟩, hle, hT⟩
        have hown3 := own_kc23 Hown.out hk3
        have HZ : Hid (∀ Z, Below w3.heap.size w3 Z → TakePost dCK False Y w P vs.length (wlk frcC n ⟨vs, T, 0⟩ f) (.returned (.tuple #[.slice a j c, .int .i64 (left : Int), .int .i64 0])) Z) := fun Z hZ => by
          rw [HE.out]
          exact rtake_end (r := ⟨[], left, 0, s2⟩) hT hown3 Hps.out (by have := Hn.out; omega) HY.out rfl rfl hZ
        clear hk3 hT HFo Hown HE hown3
        go_wp2_with fail
        refine bodyPost_ret (v := .tuple #[.slice a j c, .int .i64 (left : Int), .int .i64 0]) ?_ rfl (HZ.out _ ((Grew.refl _).alloc _).below)
        simp [results, Try.results9, go_sem]
      | item x left s2 =>
        rw [hr] at HFo HE
        go_wp2_with fail
        refine Calls.mono HFo.out ?_
        rintro e w3 ⟨hk3, p2, ax, cx, rfl, hle, hT⟩
        have Hown3 : Hid (w3.ownsRow w.heap.size 38 4 (.slice a j c) j (ps.flatMap encP)) := own_kc23 Hown.out hk3
        have HT : Hid _ := hT
        have HK3 : Hid _ := hk3
        have hws := hT.kc.size
        clear hk3 hT HFo Hown
        go_wp2_with (first
          | (at_builtin; refine wpList_append_lies _ rfl _ _ 22 rfl w.heap.size 38 i0 (.agg #[.int .i64 0, .int .i64 0, .string ⟨#[]⟩, .slice none 0 0]) 4 56 Try.underlying22 Hi.out Hz0.out Hz1.out Hz2.out rfl (by decide) (.slice a j c) j (ps.flatMap encP) rfl ((Hown3.out.alloc _).alloc _) ⟨w3.heap.size + 1, 0, none⟩ 1 1 [.int .i64 x.kind, .int .i64 x.num, .string x.text, .slice ax x.items.length cx] rfl rfl (fun q u hq => by match q, hq with | 0, hq => (simp at hq; subst hq; simp [Addr.add]) | 1, hq => (simp at hq; subst hq; simp [Addr.add]) | 2, hq => (simp at hq; subst hq; simp [Addr.add]) | 3, hq => (simp at hq; subst hq; simp [Addr.add]) | q + 4, hq => simp at hq) (fun u hu => by simp at hu; rcases hu with rfl | rfl | rfl | rfl <;> rfl) (by decide) (by have := Hn.out; unfold maxLen; omega) (by have := Hn.out; omega) (by simp; omega) _ rfl ?_; intro g cap w6 hown6 hg6 hat6 hlt6))
        have HR6 : Hid (RJ Y w P vs.length s2 p2 (.slice (some ⟨g, 0, none⟩) (j + 1) cap) (ps ++ [(x, .slice ax x.items.length cx)]) w6) := by
          have e9 := Hps.out
          subst e9
          refine RJ.step HT.out (far23 (((Grew.refl w3).alloc _).alloc _).below hg6) hown6 ?_
          rcases hat6 with h | h
          · exact .inl h
          · right; simp at h; omega
        clear hown6 hg6 hat6 hlt6
        go_wp2_with fail
        go_roundg (n - (j + 1))
        case measure => have := Hg.out; omega
        case rel =>
          refine ⟨j + 1, p2, left, _, cap, rfl, rfl, rfl, rfl, by omega, ps ++ [(x, .slice ax x.items.length cx)], s2, by simp [Hps.out], hle, ?_, HR6.out⟩
          rw [HE.out, show n - (j + 1) = k by omega, List.map_append]
          exact pre_pre _ x _
    · have hji : ¬ (j : Int) < (n : Int) := by omega
      have HZ : Hid (TakePost dCK False Y w P vs.length (wlk frcC n ⟨vs, T, 0⟩ f) (.returned (.tuple #[.slice a j c, .int .i64 (fl : Int), .int .i64 0])) wr) := by
        obtain ⟨ps, s', hps, hfl, hE0, hR⟩ := HI.out
        rw [show n - j = 0 by omega] at hE0
        rw [hE0]
        have ho := hR.1
        rw [hps] at ho
        exact rtake_end (r := ⟨[], fl, 0, s'⟩) hR.2 ho hps (by have := Hn.out; omega) HY.out rfl rfl (Below.refl _ _)
      clear HI
      go_wp2_with fail
      refine bodyPost_ret (v := .tuple #[.slice a j c, .int .i64 (fl : Int), .int .i64 0]) ?_ rfl HZ.out
      simp [results, Try.results9, go_sem]

end Go.Proofs.Ytbhfbjbigafnpaa

namespace Go.Proofs.Ytbhfbjbigafnpaa
open Go.RowKit Go.Shelf

theorem Aft.put {C : CK} {Y : Nat → Prop} {w : World} {P0 : Nat → Nat} {k0 : Nat} {s : SS} {P : Nat → Nat} {V Z : World} {b : Nat} (h : Aft C Y w P0 k0 s P V) (hZ : KC (fun m => m = b) V Z) (hY : ¬ Y b) (hb : w.heap.size ≤ b) : Aft C Y w P0 k0 s P Z :=
  ⟨h.old, h.new, h.more, h.at_, h.chn.kc hZ (fun n _ hn e => hY (e ▸ hn)), h.kc.trans2 hZ (fun j hj e => by omega)⟩

end Go.Proofs.Ytbhfbjbigafnpaa

