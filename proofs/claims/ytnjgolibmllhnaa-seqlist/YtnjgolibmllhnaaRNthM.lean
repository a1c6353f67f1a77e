/-
  The document's Nth.
-/
import Derived.Test.YtnjgolibmllhnaaAftM
import Derived.Laws.OwnMore
import Derived.Deep.AppendLies
import Derived.Deep.RegionLaw
namespace Go.Proofs.Ytnjgolibmllhnaa
open Go.RowKit Go.Shelf

/-- A value laid into a row of one's own, at its end. -/
theorem own_put23 {w : World} {base g cap k : Nat} {xs : List Value} {t : VT} {u : Value} (h : w.ownsRow base 38 4 (.slice (some ⟨g, 0, none⟩) (k + 1) cap) (k + 1) (xs ++ [.int .i64 0, .int .i64 0, .string ⟨#[]⟩, .slice none 0 0])) (hx : xs.length = k * 4) :
    (w.setCells g (k * 4) (encP (t, u))).ownsRow base 38 4 (.slice (some ⟨g, 0, none⟩) (k + 1) cap) (k + 1) (xs ++ encP (t, u)) := by
  have h1 := ((((h.stored (k * 4) (.int .i64 t.kind)).1.stored (k * 4 + 1) (.int .i64 t.num)).1.stored (k * 4 + 1 + 1) (.string t.text)).1.stored (k * 4 + 1 + 1 + 1) u).1
  have e : ((((xs ++ [Value.int .i64 0, Value.int .i64 0, Value.string ⟨#[]⟩, Value.slice none 0 0]).set (k * 4) (.int .i64 t.kind)).set (k * 4 + 1) (.int .i64 t.num)).set (k * 4 + 1 + 1) (.string t.text)).set (k * 4 + 1 + 1 + 1) u = xs ++ encP (t, u) := by
    rw [← hx, List.set_append_right _ _ (by omega), List.set_append_right _ _ (by omega), List.set_append_right _ _ (by omega), List.set_append_right _ _ (by omega)]
    simp only [Nat.sub_self, show xs.length + 1 - xs.length = 1 by omega, show xs.length + 1 + 1 - xs.length = 2 by omega, show xs.length + 1 + 1 + 1 - xs.length = 3 by omega]
    rfl
  rw [e] at h1
  exact h1

theorem KC.put4 {B : Nat → Prop} {w w1 : World} (k : KC B w w1) {g o : Nat} (hg : B g ∨ w.heap.size ≤ g) (x : VT) (u : Value) : KC B w (w1.setCells g o (encP (x, u))) :=
  (((k.set hg _).set hg _).set hg _).set hg _

theorem set4_cell {w : World} {g o : Nat} {x : VT} {u : Value} {a : Addr} {v : Value} (hne : a.block ≠ g) (h : w.cell? a = some v) : (w.setCells g o (encP (x, u))).cell? a = some v := by
  have hs : ∀ (w : World) (j : Nat) (u : Value), w.cell? a = some v → (w.setCell ⟨g, j, none⟩ u).cell? a = some v := fun w j u h => by
    rw [World.cell?_setCell_other _ _ _ _ (fun e => hne (by rw [← e]))]; exact h
  exact hs _ _ _ (hs _ _ _ (hs _ _ _ (hs _ _ _ h)))

theorem set4_frozen {w : World} {g o : Nat} {x : VT} {u : Value} {a : Addr} : (w.setCells g o (encP (x, u))).frozen? a = w.frozen? a := by
  simp [World.setCells, encP]

/-- Behind Take's closure. -/
def T1Post (base b0 k : Nat) (x : VT) (u v : Value) (xs : List Value) (w : World) (e : Ending) (w' : World) : Prop :=
  e = .returned (.tuple #[]) ∧ ∃ g cap, w'.cell? ⟨b0, 0, none⟩ = some (.slice (some ⟨g, 0, none⟩) (k + 1) cap) ∧ w'.frozen? ⟨b0, 0, none⟩ = false ∧ w'.ownsRow base 38 4 (.slice (some ⟨g, 0, none⟩) (k + 1) cap) (k + 1) (xs ++ encP (x, u)) ∧ KC (fun n => n = b0 ∨ v.ownBlock = some n) w w' ∧ (v.ownBlock = some g ∨ w.heap.size ≤ g) ∧ g ≠ b0

/-- The two orders in which the box and the row are written. -/
theorem t1_end {base b0 k g cap : Nat} {x : VT} {u v : Value} {xs : List Value} {w w3 Z : World} (hne : g ≠ b0) (hc : w3.cell? ⟨b0, 0, none⟩ = some v) (hf : w3.frozen? ⟨b0, 0, none⟩ = false) (hown : w3.ownsRow base 38 4 (.slice (some ⟨g, 0, none⟩) (k + 1) cap) (k + 1) (xs ++ [.int .i64 0, .int .i64 0, .string ⟨#[]⟩, .slice none 0 0])) (hx : xs.length = k * 4) (hk : KC (fun n => n = b0 ∨ v.ownBlock = some n) w w3) (hat : v.ownBlock = some g ∨ w.heap.size ≤ g)
    (hZ : Z = (w3.setCells g (k * 4) (encP (x, u))).setCell ⟨b0, 0, none⟩ (.slice (some ⟨g, 0, none⟩) (k + 1) cap) ∨ Z = (w3.setCell ⟨b0, 0, none⟩ (.slice (some ⟨g, 0, none⟩) (k + 1) cap)).setCells g (k * 4) (encP (x, u))) :
    T1Post base b0 k x u v xs w (.returned (.tuple #[])) Z := by
  have hg : (g = b0 ∨ v.ownBlock = some g) ∨ w.heap.size ≤ g := by
    rcases hat with h | h
    · exact .inl (.inr h)
    · exact .inr h
  refine ⟨rfl, g, cap, ?_⟩
  rcases hZ with rfl | rfl
  · refine ⟨World.cell?_setCell_same _ _ _ (set4_cell (fun e => hne e.symm) hc), ?_, ownsRow_setCell_other (own_put23 hown hx) (by simp [Value.ownBlock]; exact hne) _, (hk.put4 hg x u).set (.inl (.inl rfl)) _, hat, hne⟩
    rw [World.frozen?_setCell, set4_frozen]; exact hf
  · refine ⟨set4_cell (fun e => hne e.symm) (World.cell?_setCell_same _ _ _ hc), ?_, own_put23 (ownsRow_setCell_other hown (by simp [Value.ownBlock]; exact hne) _) hx, (hk.set (.inl (.inl rfl)) _).put4 hg x u, hat, hne⟩
    rw [set4_frozen, World.frozen?_setCell]; exact hf

theorem far23 {W W' w7 : World} {v : Value} (hb : Below W.heap.size W W') (hg : W'.grownBy w7 v.ownBlock) : KC (fun n => v.ownBlock = some n) W w7 :=
  ⟨hg.os.trans hb.os, hg.tape.trans hb.tape, hg.output.trans hb.output, Nat.le_trans hb.size hg.size, fun j hj hn => (hg.block j (Nat.lt_of_lt_of_le hj hb.size) (fun e => hn e.symm)).trans (hb.block j hj)⟩

theorem place23 {w W W' : World} {v : Value} {g b0 : Nat} (hws : W.heap.size = w.heap.size + 1) (hs : W.heap.size ≤ W'.heap.size) (hb : b0 < w.heap.size) (hr : ∀ g, v.ownBlock = some g → g < w.heap.size ∧ g ≠ b0) (hat : v.ownBlock = some g ∨ g = W'.heap.size) : (v.ownBlock = some g ∨ w.heap.size < g) ∧ g ≠ b0 ∧ g ≠ w.heap.size := by
  rcases hat with h | h
  · exact ⟨.inl h, (hr g h).2, by have := (hr g h).1; omega⟩
  · exact ⟨.inr (by omega), by omega, by omega⟩

set_option maxRecDepth 100000 in
set_option maxHeartbeats 8000000 in
theorem take1_any (base b0 k : Nat) (x : VT) (au : Option Addr) (lu cu : Nat) (av : Option Addr) (cv : Nat) (xs : List Value) (w : World) (hk : k ≤ 65536) (hb : w.cell? ⟨b0, 0, none⟩ = some (.slice av k cv)) (hfz : w.frozen? ⟨b0, 0, none⟩ = false) (hown : w.ownsRow base 38 4 (.slice av k cv) k xs) (hbase : base ≤ w.heap.size) (hne : (Value.slice av k cv).ownBlock ≠ some b0) :
    Calls Try.prog 25 #[.agg #[.int .i64 x.kind, .int .i64 x.num, .string x.text, .slice au lu cu], .pointer (some ⟨b0, 0, none⟩)] w (T1Post base b0 k x (.slice au lu cu) (.slice av k cv) xs w) := by
  obtain ⟨i0, hi, hz0, hz1, hz2⟩ := info24
  have Hi : Hid _ := hi; have Hz0 : Hid _ := hz0; have Hz1 : Hid _ := hz1; have Hz2 : Hid _ := hz2
  clear hi hz0 hz1 hz2
  have hxl : xs.length = k * 4 := hown.1
  have hbl : b0 < w.heap.size := cell_lt hb
  obtain ⟨W, hW⟩ : ∃ W, W = w.alloc (.cells #[.int .i64 x.kind, .int .i64 x.num, .string x.text, .slice au lu cu] 38) := ⟨_, rfl⟩
  have HW : Hid (W = w.alloc (.cells #[.int .i64 x.kind, .int .i64 x.num, .string x.text, .slice au lu cu] 38)) := hW
  have hwb : Below w.heap.size w W := by rw [hW]; exact ((Grew.refl w).alloc _).below
  have HWs : Hid (W.heap.size = w.heap.size + 1) := by rw [hW]; exact World.size_alloc w _
  have Hown : Hid (W.ownsRow base 38 4 (.slice av k cv) k xs) := by rw [hW]; exact hown.alloc _
  have HB : Hid (w.cell? ⟨b0, 0, none⟩ = some (.slice av k cv)) := hb
  have b1 : W.cell? ⟨b0, 0, none⟩ = some (.slice av k cv) := cell_keeps hwb hb
  have b2 : ∀ A, (W.alloc A).cell? ⟨b0, 0, none⟩ = some (.slice av k cv) := fun A => cell_keeps ((Grew.refl W).alloc A).below b1
  have f1 : W.frozen? ⟨b0, 0, none⟩ = false := (hwb.frozen (p := ⟨b0, 0, none⟩) hbl).trans hfz
  have y0 : W.cell? ⟨w.heap.size, 0, none⟩ = some (.int .i64 x.kind) := by rw [hW]; simp
  have y1 : W.cell? ⟨w.heap.size, 1, none⟩ = some (.int .i64 x.num) := by rw [hW]; simp
  have y2 : W.cell? ⟨w.heap.size, 2, none⟩ = some (.string x.text) := by rw [hW]; simp
  have y3 : W.cell? ⟨w.heap.size, 3, none⟩ = some (.slice au lu cu) := by rw [hW]; simp
  have z0 : ∀ A, (W.alloc A).cell? ⟨w.heap.size, 0, none⟩ = some (.int .i64 x.kind) := fun A => cell_keeps ((Grew.refl W).alloc A).below y0
  have z1 : ∀ A, (W.alloc A).cell? ⟨w.heap.size, 1, none⟩ = some (.int .i64 x.num) := fun A => cell_keeps ((Grew.refl W).alloc A).below y1
  have z2 : ∀ A, (W.alloc A).cell? ⟨w.heap.size, 2, none⟩ = some (.string x.text) := fun A => cell_keeps ((Grew.refl W).alloc A).below y2
  have z3 : ∀ A, (W.alloc A).cell? ⟨w.heap.size, 3, none⟩ = some (.slice au lu cu) := fun A => cell_keeps ((Grew.refl W).alloc A).below y3
  have hkk : (k : Int) < (k : Int) + 1 := by omega
  have HR : Hid (∀ g, (Value.slice av k cv).ownBlock = some g → g < w.heap.size ∧ g ≠ b0) := fun g hg => ⟨(hown.lt g hg).2, fun e => hne (by rw [hg, e])⟩
  have Hxl : Hid (xs.length = k * 4) := hxl
  clear hW hb hfz hown hxl
  go_enter Try.func25, Try.ntmps25
  go_upto_region 1 with fail
  rw [← HW.out]
  clear HW
  go_region_law (first | (refine step_append_lies _ rfl _ _ 22 rfl base 38 i0 (.agg #[.int .i64 0, .int .i64 0, .string ⟨#[]⟩, .slice none 0 0]) 4 56 Try.underlying22 Hi.out Hz0.out Hz1.out Hz2.out rfl (by decide) (.slice av k cv) k xs rfl (by first | exact Hown.out.alloc _ | exact (Hown.out.alloc _).drew | exact Hown.out.drew.alloc _) ⟨W.heap.size, 0, none⟩ 1 1 [.int .i64 0, .int .i64 0, .string ⟨#[]⟩, .slice none 0 0] rfl rfl (fun q u hq => by match q, hq with | 0, hq => (simp at hq; subst hq; simp [Addr.add]) | 1, hq => (simp at hq; subst hq; simp [Addr.add]) | 2, hq => (simp at hq; subst hq; simp [Addr.add]) | 3, hq => (simp at hq; subst hq; simp [Addr.add]) | q + 4, hq => simp at hq) (fun u hu => by simp at hu; rcases hu with rfl | rfl | rfl | rfl <;> rfl) (by decide) (by unfold maxLen; omega) (by omega) (by have := HWs.out; simp; omega) _ rfl ?_; intro g cap w7 hown7 hg7 hat7 hlt7; have hk7 : KC (fun n => (Value.slice av k cv).ownBlock = some n) W w7 := (by first | exact far23 ((Grew.refl W).alloc _).below hg7 | exact far23 ((Grew.refl W).alloc _).drew.below hg7 | exact far23 ((Grew.refl W).drew.alloc _).below hg7); have hgr : ((Value.slice av k cv).ownBlock = some g ∨ w.heap.size < g) ∧ g ≠ b0 ∧ g ≠ w.heap.size := place23 HWs.out (by simp) hbl HR.out hat7; have b7 := hk7.cell (a := ⟨b0, 0, none⟩) hne b1; have f7 := hk7.frozen (a := ⟨b0, 0, none⟩) hne b1 f1; have hnw : ¬ (Value.slice av k cv).ownBlock = some w.heap.size := (fun h => by have := (HR.out _ h).1; omega); have y0 := hk7.cell (a := ⟨w.heap.size, 0, none⟩) hnw y0; have y1 := hk7.cell (a := ⟨w.heap.size, 1, none⟩) hnw y1; have y2 := hk7.cell (a := ⟨w.heap.size, 2, none⟩) hnw y2; have y3 := hk7.cell (a := ⟨w.heap.size, 3, none⟩) hnw y3; have n1 : ¬ g = b0 := hgr.2.1; have n2 : ¬ b0 = g := (fun e => hgr.2.1 e.symm); have n3 : ¬ g = w.heap.size := hgr.2.2; have n4 : ¬ w.heap.size = g := (fun e => hgr.2.2 e.symm); have r0 : w7.cell? ⟨g, k * 4, none⟩ = some (.int .i64 0) := (by rw [hown7.cellAt _ (by omega), List.getElem?_append_right (by rw [Hxl.out]; omega), Hxl.out]; first | rfl | simp); have q0 : w7.frozen? ⟨g, k * 4, none⟩ = false := hown7.frozenAt _; have r1 : w7.cell? ⟨g, k * 4 + 1, none⟩ = some (.int .i64 0) := (by rw [hown7.cellAt _ (by omega), List.getElem?_append_right (by rw [Hxl.out]; omega), Hxl.out]; first | rfl | simp); have q1 : w7.frozen? ⟨g, k * 4 + 1, none⟩ = false := hown7.frozenAt _; have r2 : w7.cell? ⟨g, k * 4 + 2, none⟩ = some (.string ⟨#[]⟩) := (by rw [hown7.cellAt _ (by omega), List.getElem?_append_right (by rw [Hxl.out]; omega), Hxl.out]; first | rfl | simp); have q2 : w7.frozen? ⟨g, k * 4 + 2, none⟩ = false := hown7.frozenAt _; have r3 : w7.cell? ⟨g, k * 4 + 3, none⟩ = some (.slice none 0 0) := (by rw [hown7.cellAt _ (by omega), List.getElem?_append_right (by rw [Hxl.out]; omega), Hxl.out]; first | rfl | simp); have q3 : w7.frozen? ⟨g, k * 4 + 3, none⟩ = false := hown7.frozenAt _; clear z0 z1 z2 z3 b2))
  all_goals have HA : Hid (T1Post base b0 k x (.slice au lu cu) (.slice av k cv) xs w (.returned (.tuple #[])) (((((w7.setCell ⟨g, k * 4, none⟩ (.int .i64 x.kind)).setCell ⟨g, k * 4 + 1, none⟩ (.int .i64 x.num)).setCell ⟨g, k * 4 + 2, none⟩ (.string x.text)).setCell ⟨g, k * 4 + 3, none⟩ (.slice au lu cu)).setCell ⟨b0, 0, none⟩ (.slice (some ⟨g, 0, none⟩) (k + 1) cap))) := t1_end (Z := ((((w7.setCell ⟨g, k * 4, none⟩ (.int .i64 x.kind)).setCell ⟨g, k * 4 + 1, none⟩ (.int .i64 x.num)).setCell ⟨g, k * 4 + 2, none⟩ (.string x.text)).setCell ⟨g, k * 4 + 3, none⟩ (.slice au lu cu)).setCell ⟨b0, 0, none⟩ (.slice (some ⟨g, 0, none⟩) (k + 1) cap)) hgr.2.1 b7 f7 hown7 Hxl.out ((KC.of_below (B := fun n => n = b0 ∨ (Value.slice av k cv).ownBlock = some n) hwb).trans2 hk7 (fun j _ h => .inr h)) (hgr.1.imp id (fun h => by omega)) (.inl rfl)
  all_goals have HC : Hid (T1Post base b0 k x (.slice au lu cu) (.slice av k cv) xs w (.returned (.tuple #[])) (((((w7.setCell ⟨b0, 0, none⟩ (.slice (some ⟨g, 0, none⟩) (k + 1) cap)).setCell ⟨g, k * 4, none⟩ (.int .i64 x.kind)).setCell ⟨g, k * 4 + 1, none⟩ (.int .i64 x.num)).setCell ⟨g, k * 4 + 2, none⟩ (.string x.text)).setCell ⟨g, k * 4 + 3, none⟩ (.slice au lu cu))) := t1_end (Z := ((((w7.setCell ⟨b0, 0, none⟩ (.slice (some ⟨g, 0, none⟩) (k + 1) cap)).setCell ⟨g, k * 4, none⟩ (.int .i64 x.kind)).setCell ⟨g, k * 4 + 1, none⟩ (.int .i64 x.num)).setCell ⟨g, k * 4 + 2, none⟩ (.string x.text)).setCell ⟨g, k * 4 + 3, none⟩ (.slice au lu cu)) hgr.2.1 b7 f7 hown7 Hxl.out ((KC.of_below (B := fun n => n = b0 ∨ (Value.slice av k cv).ownBlock = some n) hwb).trans2 hk7 (fun j _ h => .inr h)) (hgr.1.imp id (fun h => by omega)) (.inr rfl)
  all_goals clear hown7 hg7 hat7 hlt7 hk7 hgr y0 y1 y2 y3 b1 f1 hwb Hown HB HR
  all_goals first | (with_reducible refine bodyPost_end (v := .tuple #[]) ?_ ?_ HA.out) | (with_reducible refine bodyPost_end (v := .tuple #[]) ?_ ?_ HC.out)
  all_goals first | rfl | simp [results, Try.results25, go_sem]

end Go.Proofs.Ytnjgolibmllhnaa

namespace Go.Proofs.Ytnjgolibmllhnaa
open Go.RowKit Go.Shelf

set_option maxRecDepth 100000 in
theorem rasked_ok (n f : Nat) (hn : n ≤ 65536) (hf : f ≤ 1073741824) (w : World) : Calls Try.prog 26 #[.int .i64 (n : Int), .int .i64 (f : Int)] w fun e w' => e = .returned (.int .i64 0) ∧ w' = w := by
  have h1 : ¬ (n : Int) < 0 := by omega
  have h2 : ¬ (65536 : Int) < (n : Int) := by omega
  have h3 : ¬ (f : Int) < 0 := by omega
  have h4 : ¬ (1073741824 : Int) < (f : Int) := by omega
  go_enter Try.func26, Try.ntmps26
  go_wp2_with fail
  go_ret
  exact ⟨rfl, rfl⟩

set_option maxRecDepth 100000 in
theorem rasked_bad (n f : Int) (h : (n < 0 ∨ 65536 < n) ∨ (f < 0 ∨ 1073741824 < f)) (w : World) : Calls Try.prog 26 #[.int .i64 n, .int .i64 f] w fun e w' => e = .returned (.int .i64 1) ∧ w' = w := by
  by_cases h1 : n < 0
  · go_enter Try.func26, Try.ntmps26
    go_wp2_with fail
    go_ret
    exact ⟨rfl, rfl⟩
  · by_cases h2 : 65536 < n
    · go_enter Try.func26, Try.ntmps26
      go_wp2_with fail
      go_ret
      exact ⟨rfl, rfl⟩
    · by_cases h3 : f < 0
      · clear h
        go_enter Try.func26, Try.ntmps26
        go_wp2_with fail
        go_ret
        exact ⟨rfl, rfl⟩
      · have h4 : 1073741824 < f := by omega
        clear h
        go_enter Try.func26, Try.ntmps26
        go_wp2_with fail
        go_ret
        exact ⟨rfl, rfl⟩

/-- The document's Take under way: its list lies in a row of its own. -/
def RJ (Y : Nat → Prop) (w0 : World) (P0 : Nat → Nat) (k0 : Nat) (s : SS) (p : Nat) (v : Value) (ps : List (VT × Value)) (w : World) : Prop :=
  w.ownsRow w0.heap.size 38 4 v ps.length (ps.flatMap encP) ∧ Tk dCK False Y (fun m => v.ownBlock = some m) w0 P0 k0 s p w ps

theorem RJ.step {Y : Nat → Prop} {w0 : World} {P0 : Nat → Nat} {k0 : Nat} {s : SS} {p : Nat} {v : Value} {ps : List (VT × Value)} {x : VT} {u : Value} {w3 w6 : World} (h : Tk dCK False Y (fun m => v.ownBlock = some m) w0 P0 k0 s p w3 (ps ++ [(x, u)])) (hk : KC (fun m => v.ownBlock = some m) w3 w6) {g cap : Nat} (hown : w6.ownsRow w0.heap.size 38 4 (.slice (some ⟨g, 0, none⟩) (ps.length + 1) cap) (ps.length + 1) (ps.flatMap encP ++ encP (x, u))) (hat : v.ownBlock = some g ∨ w3.heap.size ≤ g) :
    RJ Y w0 P0 k0 s p (.slice (some ⟨g, 0, none⟩) (ps.length + 1) cap) (ps ++ [(x, u)]) w6 := by
  have hlt := (hown.lt g rfl).2
  refine ⟨by simpa [List.flatMap_append] using hown, ?_⟩
  rcases hat with hh | hh
  · refine (h.k1 hk).k3 (fun n hn => ?_)
    have : g = n := by simpa [Value.ownBlock] using hn
    subst this
    exact hh
  · refine (h.k4 hk).k3 (fun n hn => ?_)
    have : g = n := by simpa [Value.ownBlock] using hn
    subst this
    exact .inr ⟨hh, hlt⟩

theorem own_kc23 {w w' : World} {base : Nat} {v : Value} {n : Nat} {xs : List Value} (h : w.ownsRow base 38 4 v n xs) (hk : KC (fun m => ¬ v.ownBlock = some m) w w') : w'.ownsRow base 38 4 v n xs := by
  refine ⟨h.1, ?_⟩
  rcases h.2 with h2 | ⟨g, cap, cur, e1, h3, h4, h5⟩
  · exact .inl h2
  · have hgl : g < w.heap.size := by
      rcases Nat.lt_or_ge g w.heap.size with h | h
      · exact h
      · rw [Array.getElem?_eq_none h] at h4; cases h4
    exact .inr ⟨g, cap, cur, e1, h3, (hk.block g hgl (fun h => h (by rw [e1]; rfl))).trans h4, h5⟩

theorem frcC_e {s s' : SS} {f e : Nat} (h : frcC s f = .err e s') : e = 220 := by
  unfold frcC at h
  split at h
  · cases h
  · split at h
    · cases h
    · split at h
      · cases h; rfl
      · cases h

/-- What Take tells where there is no error. -/
theorem rtake_end {Y : Nat → Prop} {w : World} {P : Nat → Nat} {k0 j p : Nat} {a : Option Addr} {c : Nat} {ps : List (VT × Value)} {r : WS SS} {w3 Z : World} (hT : Tk dCK False Y (fun m => (Value.slice a j c).ownBlock = some m) w P k0 r.s p w3 ps) (ho : w3.ownsRow w.heap.size 38 4 (.slice a j c) j (ps.flatMap encP)) (hps : ps.length = j) (hj : j ≤ 65536) (hY : ∀ n, w.heap.size ≤ n → Y n) (hr : r.items = []) (he : r.err = 0) (hZ : Below w3.heap.size w3 Z) :
    TakePost dCK False Y w P k0 (pre (ps.map (·.1)) r) (.returned (.tuple #[.slice a j c, .int .i64 (r.left : Int), .int .i64 0])) Z := by
  obtain ⟨P', hA, _, hb, hi⟩ := hT.aft hY
  have hl := own_liesX (d := 16) ho hps.symm (fun g hg => hb g hg) (fun q hq => by
    obtain ⟨g1, a1, c1, g2, g3⟩ := hi q hq
    exact ⟨g3, Nat.le_trans (right_size g1) (by omega)⟩) (by omega)
  have hit : (pre (ps.map (·.1)) r).items = ps.map (·.1) := by simp [pre, hr]
  have hlen : (pre (ps.map (·.1)) r).items.length = j := by rw [hit, List.length_map, hps]
  refine ⟨P', hA.below hZ, .inr ⟨he, a, c, by rw [hlen]; rfl, ?_, fun x hx => ?_⟩⟩
  · rw [hlen, hit]; exact hl.keeps hZ
  · rw [hit] at hx
    obtain ⟨q, hq, rfl⟩ := List.mem_map.1 hx
    exact (hi q hq).1

set_option maxRecDepth 100000 in
set_option maxHeartbeats 8000000 in
theorem rtake_any (Y : Nat → Prop) (vs : List VT) (T : Tl) (P : Nat → Nat) (n f : Nat) (hn : n ≤ 65536) (hf : f ≤ 1073741824) (w : World) (h : Chn dCK Y w vs T P) (hY : ∀ n, w.heap.size ≤ n → Y n) :
    Calls Try.prog 9 #[.pointer (some ⟨P 0, 0, none⟩), .int .i64 (n : Int), .int .i64 (f : Int)] w (TakePost dCK False Y w P vs.length (wlk frcC n ⟨vs, T, 0⟩ f)) := by
  have HC : Hid (∀ V, Calls Try.prog 26 #[.int .i64 (n : Int), .int .i64 (f : Int)] V fun e w' => e = .returned (.int .i64 0) ∧ w' = V) := fun V => rasked_ok n f hn hf V
  have HJ0 : Hid (RJ Y w P vs.length ⟨vs, T, 0⟩ (P 0) (.slice none 0 0) [] w) := ⟨World.ownsRow_nil _ _ _ _, (Tk.start h 0 (by omega)).k3 (fun m hm => by simp [Value.ownBlock] at hm)⟩
  have HY : Hid (∀ n, w.heap.size ≤ n → Y n) := hY
  have Hn : Hid (n ≤ 65536 ∧ f ≤ 1073741824) := ⟨hn, hf⟩
  obtain ⟨i0, hi, hz0, hz1, hz2⟩ := info24
  have Hi : Hid _ := hi; have Hz0 : Hid _ := hz0; have Hz1 : Hid _ := hz1; have Hz2 : Hid _ := hz2
  clear hi hz0 hz1 hz2 h hn hf hY
  go_enter Try.func9, Try.ntmps9
  go_wp2_with fail
  refine Calls.mono (HC.out _) ?_
  rintro e w9 ⟨rfl, hw9⟩
  obtain rfl : w = w9 := hw9.symm
  clear hw9 HC
  go_wp2_with fail
  go_loopg [0, 2, 10] n (fun z v0 v2 v10 wr => ∃ (j p fl : Nat) (a : Option Addr) (c : Nat), v0 = .pointer (some ⟨p, 0, none⟩) ∧ v2 = .int .i64 (fl : Int) ∧ v10 = .slice a j c ∧ z = n - j ∧ j ≤ n ∧ Hid (∃ (ps : List (VT × Value)) (s' : SS), ps.length = j ∧ fl ≤ 1073741824 ∧ wlk frcC n ⟨vs, T, 0⟩ f = pre (ps.map (·.1)) (wlk frcC (n - j) s' fl) ∧ RJ Y w P vs.length s' p (.slice a j c) ps wr))
  case atStart => exact ⟨0, P 0, f, none, 0, rfl, rfl, rfl, by omega, by omega, [], _, rfl, Hn.out.2, rfl, HJ0.out⟩
  case round =>
    obtain ⟨j, p, fl, a, c, rfl, rfl, rfl, hg, hj, HI⟩ := hrel
    have Hg : Hid (gk = n - j) := hg
    clear hg HJ0
    by_cases hlt : j < n
    · have hji : (j : Int) < (n : Int) := by omega
      obtain ⟨k, hk⟩ : ∃ k, n - j = k + 1 := ⟨n - j - 1, by omega⟩
      obtain ⟨ps, s', hps, hfl, hE0, hR⟩ := HI.out
      have HFo : Hid (Calls Try.prog 27 #[.pointer (some ⟨p, 0, none⟩), .int .i64 (fl : Int)] wr (TkF dCK False Y (fun m => (Value.slice a j c).ownBlock = some m) w P vs.length p ps (frcC s' fl) wr)) := hR.2.force 27 dForce fl hfl
      have HE : Hid (wlk frcC n ⟨vs, T, 0⟩ f = pre (ps.map (·.1)) (wnx frcC k (frcC s' fl))) := by
        rw [hk, wlk_succ] at hE0
        exact hE0
      have Hown : Hid (wr.ownsRow w.heap.size 38 4 (.slice a j c) j (ps.flatMap encP)) := by have := hR.1; rw [hps] at this; exact this
      have Hps : Hid (ps.length = j) := hps
      clear hps hfl hE0 hR HI
      cases hr : frcC s' fl with
      | err e0 s2 =>
        rw [hr] at HFo HE
        go_wp2_with fail
        refine Calls.mono HFo.out ?_
        rintro e w3 ⟨hk3, ⟨ax, cx, rfl⟩, hT⟩
        have he0 : e0 ≠ 0 := by rw [frcC_e hr]; omega
        have he1 : ¬ (e0 : Int) = 0 := by omega
        have HZ : Hid (∀ Z, Below w3.heap.size w3 Z → TakePost dCK False Y w P vs.length (wlk frcC n ⟨vs, T, 0⟩ f) (.returned (.tuple #[.slice none 0 0, .int .i64 0, .int .i64 (e0 : Int)])) Z) := fun Z hZ => by
          obtain ⟨P', hA, _⟩ := hT.aft HY.out
          rw [HE.out]
          exact ⟨P', hA.below hZ, .inl ⟨he0, rfl⟩⟩
        clear hk3 hT HFo Hown HE he0
        go_wp2_with fail
        refine bodyPost_ret (v := .tuple #[.slice none 0 0, .int .i64 0, .int .i64 (e0 : Int)]) ?_ rfl (HZ.out _ ((Grew.refl _).alloc _).below)
        simp [results, Try.results9, go_sem]
      | emp left s2 =>
        rw [hr] at HFo HE
        go_wp2_with fail
        refine Calls.mono HFo.out ?_
        rintro e w3 ⟨hk3, ⟨ax, cx, rfl⟩, hle, hT⟩
        have hown3 := own_kc23 Hown.out hk3
        have HZ : Hid (∀ Z, Below w3.heap.size w3 Z → TakePost dCK False Y w P vs.length (wlk frcC n ⟨vs, T, 0⟩ f) (.returned (.tuple #[.slice a j c, .int .i64 (left : Int), .int .i64 0])) Z) := fun Z hZ => by
          rw [HE.out]
          exact rtake_end (r := ⟨[], left, 0, s2⟩) hT hown3 Hps.out (by have := Hn.out; omega) HY.out rfl rfl hZ
        clear hk3 hT HFo Hown HE hown3
        go_wp2_with fail
        refine bodyPost_ret (v := .tuple #[.slice a j c, .int .i64 (left : Int), .int .i64 0]) ?_ rfl (HZ.out _ ((Grew.refl _).alloc _).below)
        simp [results, Try.results9, go_sem]
      | item x left s2 =>
        rw [hr] at HFo HE
        go_wp2_with fail
        refine Calls.mono HFo.out ?_
        rintro e w3 ⟨hk3, p2, ax, cx, rfl, hle, hT⟩
        have Hown3 : Hid (w3.ownsRow w.heap.size 38 4 (.slice a j c) j (ps.flatMap encP)) := own_kc23 Hown.out hk3
        have HT : Hid _ := hT
        have HK3 : Hid _ := hk3
        have hws := hT.kc.size
        clear hk3 hT HFo Hown
        go_wp2_with (first
          | (at_builtin; refine wpList_append_lies _ rfl _ _ 22 rfl w.heap.size 38 i0 (.agg #[.int .i64 0, .int .i64 0, .string ⟨#[]⟩, .slice none 0 0]) 4 56 Try.underlying22 Hi.out Hz0.out Hz1.out Hz2.out rfl (by decide) (.slice a j c) j (ps.flatMap encP) rfl ((Hown3.out.alloc _).alloc _) ⟨w3.heap.size + 1, 0, none⟩ 1 1 [.int .i64 x.kind, .int .i64 x.num, .string x.text, .slice ax x.items.length cx] rfl rfl (fun q u hq => by match q, hq with | 0, hq => (simp at hq; subst hq; simp [Addr.add]) | 1, hq => (simp at hq; subst hq; simp [Addr.add]) | 2, hq => (simp at hq; subst hq; simp [Addr.add]) | 3, hq => (simp at hq; subst hq; simp [Addr.add]) | q + 4, hq => simp at hq) (fun u hu => by simp at hu; rcases hu with rfl | rfl | rfl | rfl <;> rfl) (by decide) (by have := Hn.out; unfold maxLen; omega) (by have := Hn.out; omega) (by simp; omega) _ rfl ?_; intro g cap w6 hown6 hg6 hat6 hlt6))
        have HR6 : Hid (RJ Y w P vs.length s2 p2 (.slice (some ⟨g, 0, none⟩) (j + 1) cap) (ps ++ [(x, .slice ax x.items.length cx)]) w6) := by
          have e9 := Hps.out
          subst e9
          refine RJ.step HT.out (far23 (((Grew.refl w3).alloc _).alloc _).below hg6) hown6 ?_
          rcases hat6 with h | h
          · exact .inl h
          · right; simp at h; omega
        clear hown6 hg6 hat6 hlt6
        go_wp2_with fail
        go_roundg (n - (j + 1))
        case measure => have := Hg.out; omega
        case rel =>
          refine ⟨j + 1, p2, left, _, cap, rfl, rfl, rfl, rfl, by omega, ps ++ [(x, .slice ax x.items.length cx)], s2, by simp [Hps.out], hle, ?_, HR6.out⟩
          rw [HE.out, show n - (j + 1) = k by omega, List.map_append]
          exact pre_pre _ x _
    · have hji : ¬ (j : Int) < (n : Int) := by omega
      have HZ : Hid (TakePost dCK False Y w P vs.length (wlk frcC n ⟨vs, T, 0⟩ f) (.returned (.tuple #[.slice a j c, .int .i64 (fl : Int), .int .i64 0])) wr) := by
        obtain ⟨ps, s', hps, hfl, hE0, hR⟩ := HI.out
        rw [show n - j = 0 by omega] at hE0
        rw [hE0]
        have ho := hR.1
        rw [hps] at ho
        exact rtake_end (r := ⟨[], fl, 0, s'⟩) hR.2 ho hps (by have := Hn.out; omega) HY.out rfl rfl (Below.refl _ _)
      clear HI
      go_wp2_with fail
      refine bodyPost_ret (v := .tuple #[.slice a j c, .int .i64 (fl : Int), .int .i64 0]) ?_ rfl HZ.out
      simp [results, Try.results9, go_sem]

end Go.Proofs.Ytnjgolibmllhnaa

namespace Go.Proofs.Ytnjgolibmllhnaa
open Go.RowKit Go.Shelf

theorem Aft.put {C : CK} {Y : Nat → Prop} {w : World} {P0 : Nat → Nat} {k0 : Nat} {s : SS} {P : Nat → Nat} {V Z : World} {b : Nat} (h : Aft C Y w P0 k0 s P V) (hZ : KC (fun m => m = b) V Z) (hY : ¬ Y b) (hb : w.heap.size ≤ b) : Aft C Y w P0 k0 s P Z :=
  ⟨h.old, h.new, h.more, h.at_, h.chn.kc hZ (fun n _ hn e => hY (e ▸ hn)), h.kc.trans2 hZ (fun j hj e => by omega)⟩

end Go.Proofs.Ytnjgolibmllhnaa

