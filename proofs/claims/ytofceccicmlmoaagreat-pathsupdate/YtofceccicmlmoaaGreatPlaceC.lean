/-
  place, a part of it.
-/
import Derived.Test.YtofceccicmlmoaaGreatRIs
import Derived.Test.YtofceccicmlmoaaGreatRowX
import Derived.Deep.CutRange
import Derived.BigRegion
namespace Go.Proofs.YtofceccicmlmoaaGreat
open Go.RowKit Go.Shelf

theorem set4_k26 {W : World} {n : Nat} {v0 v1 v2 v3 : Value} {a : Addr} {v : Value} (hn : a.block ≠ n) (h : W.cell? a = some v) : ((((W.setCell ⟨n, 0, none⟩ v0).setCell ⟨n, 1, none⟩ v1).setCell ⟨n, 2, none⟩ v2).setCell ⟨n, 3, none⟩ v3).cell? a = some v :=
  cell_other (o := 0) (vs := [v0, v1, v2, v3]) hn h

theorem below_dn26 (m : Nat) (w : World) (k : Nat) : Below m w (w.drewN k) := ⟨rfl, rfl, rfl, Nat.le_refl _, fun _ _ => rfl⟩

def PlPost (t s : VT) (w : World) (e : Ending) (w' : World) : Prop := e = .returned (.tuple #[.int .i64 (plcI t s), .bool (plcB t s)]) ∧ Below w.heap.size w w'

theorem key_turn {s k : VT} : (0 < cmpV 16 s k ↔ cmpV 16 k s < 0) ∧ ((cmpV 16 s k == 0) = (cmpV 16 k s == 0)) := by
  have := cmpV_turn 16 k s
  refine ⟨by omega, ?_⟩
  rw [this]
  by_cases h : cmpV 16 k s = 0
  · simp [h]
  · have : (cmpV 16 k s == 0) = false := by simpa using h
    rw [this]; simp; omega

end Go.Proofs.YtofceccicmlmoaaGreat

namespace Go.Proofs.YtofceccicmlmoaaGreat
open Go.RowKit Go.Shelf

/-- The keys gone through by sort.Find. -/
theorem find_keys (t s : VT) (a ay : Option Addr) (c ls cy ll B1 B2 : Nat) (W0 : World) (hll : ll = t.items.length) (hT : Bx W0 B2 t (.slice a ll c)) (hS : Bx W0 B1 s (.slice ay ls cy)) (hv : Lies 16 W0 t.items (.slice a ll c)) (hs : Lies 16 W0 s.items (.slice ay ls cy)) (hr : rightV 16 t = true) (h0 : t.kind = 0 ∨ t.kind = 6) :
    Calls Tryz.prog 50 #[.int .i64 ((ll / 2 : Nat) : Int), .func (.func 51) #[] #[.pointer (some ⟨B1, 0, none⟩), .pointer (some ⟨B2, 0, none⟩)]] W0 fun e w' => e = .returned (.tuple #[.int .i64 (upN s (keysOf t.items) : Int), .bool (hasN s (keysOf t.items))]) ∧ Below W0.heap.size W0 w' := by
  have hd := Dp.of_lies 16 W0 t _ hv
  have hlen := right_len hr
  have hkl := keysOf_len t.items
  have hup := right_up hr hd h0
  have hev := right_even t hd hr h0
  have hle := upN_le s (keysOf t.items)
  have hget : ∀ i (h : i < ll / 2), (keysOf t.items)[i]'(by omega) = t.items[2 * i]'(by omega) := fun i h => by
    have := keysOf_get t.items i (by omega)
    rw [List.getElem?_eq_getElem (by omega), List.getElem?_eq_getElem (by omega)] at this
    exact Option.some.inj this
  have g1 : Hid (∀ i, i < ll / 2 → i < upN s (keysOf t.items) → 0 < (match t.items[2 * i]? with | some k => cmpV 16 s k | none => 0)) := fun i hi hk => by
    rw [List.getElem?_eq_getElem (by omega)]
    have := upN_lo s (keysOf t.items) i (by omega) hk
    rw [hget i hi] at this
    exact key_turn.1.2 this
  have g2 : Hid (∀ i, i < ll / 2 → upN s (keysOf t.items) ≤ i → (match t.items[2 * i]? with | some k => cmpV 16 s k | none => 0) ≤ 0) := fun i hi hk => by
    rw [List.getElem?_eq_getElem (by omega)]
    have := upN_hi s (keysOf t.items) hup i (by omega) hk
    rw [hget i hi] at this
    have h2 := (key_turn (s := s) (k := t.items[2 * i]'(by omega))).1
    show cmpV 16 s _ ≤ 0
    omega
  have g3 : Hid (hasN s (keysOf t.items) = (decide (upN s (keysOf t.items) < ll / 2) && ((match t.items[2 * upN s (keysOf t.items)]? with | some k => cmpV 16 s k | none => 0) == 0))) := by
    show _ = _
    by_cases hk : upN s (keysOf t.items) < ll / 2
    · rw [hasN_of (by omega), hget _ hk, decide_eq_true hk, Bool.true_and, List.getElem?_eq_getElem (by omega)]
      exact key_turn.2.symm
    · rw [hasN_none (by omega), decide_eq_false hk]; rfl
  have g4 : Hid (∀ (i : Nat) (W : World), i < ll / 2 → Below W0.heap.size W0 W → Calls Tryz.prog 51 #[.int .i64 (i : Int), .pointer (some ⟨B1, 0, none⟩), .pointer (some ⟨B2, 0, none⟩)] W fun e W' => e = .returned (.int .i64 (match t.items[2 * i]? with | some k => cmpV 16 s k | none => 0)) ∧ Below W.heap.size W W') := fun i W hi hW => by
    have h17 := Lies.atLeast hv 17 (by omega)
    have := place1_any t s t.items B1 B2 i ay ls cy (.slice a ll c) W (hS.keeps hW) (hT.keeps hW) (Lies.keeps hW _ _ _ hs) (Lies.keeps hW _ _ _ h17) (2 * i) rfl (by omega) (by omega)
    rw [List.getElem?_eq_getElem (by omega)]
    exact this
  exact find_any (ll / 2) (by omega) B1 B2 (fun i => match t.items[2 * i]? with | some k => cmpV 16 s k | none => 0) W0 (upN s (keysOf t.items)) (by omega) g1 g2 (hasN s (keysOf t.items)) g3 g4

end Go.Proofs.YtofceccicmlmoaaGreat

namespace Go.Proofs.YtofceccicmlmoaaGreat
open Go.RowKit Go.Shelf

set_option maxRecDepth 100000 in
set_option maxHeartbeats 8000000 in
theorem place_map (t s : VT) (v us : Value) (w : World) (hv : Lies 16 w t.items v) (hs : Lies 16 w s.items us) (hr : rightV 16 t = true) (h0 : t.kind = 0 ∨ t.kind = 6) :
    Calls Tryz.prog 30 #[.agg #[.int .i64 t.kind, .int .i64 t.num, .string t.text, v], .agg #[.int .i64 s.kind, .int .i64 s.num, .string s.text, us]] w (PlPost t s w) := by
  obtain ⟨a, c, rfl, hcl⟩ := Lies.slice hv
  obtain ⟨ay, cy, rfl, _⟩ := Lies.slice hs
  have hd := Dp.of_lies 16 w t _ hv
  have hlen := right_len hr
  obtain ⟨ll, hll⟩ : ∃ ll, ll = t.items.length := ⟨_, rfl⟩
  obtain ⟨W0, hW0⟩ : ∃ W0, W0 = (w.alloc (.cells #[.int .i64 t.kind, .int .i64 t.num, .string t.text, .slice a ll c] 24)).alloc (.cells #[.int .i64 s.kind, .int .i64 s.num, .string s.text, .slice ay s.items.length cy] 24) := ⟨_, rfl⟩
  have HW0 : Hid (W0 = (w.alloc (.cells #[.int .i64 t.kind, .int .i64 t.num, .string t.text, .slice a ll c] 24)).alloc (.cells #[.int .i64 s.kind, .int .i64 s.num, .string s.text, .slice ay s.items.length cy] 24)) := hW0
  have hb0 : Below w.heap.size w W0 := by rw [hW0]; exact (Grew.two _ _ _).below
  have HT : Hid (Bx W0 w.heap.size t (.slice a ll c)) := by rw [hW0]; exact (bx_alloc w t _).keeps ((Grew.refl _).alloc _).below
  have HS : Hid (Bx W0 (w.heap.size + 1) s (.slice ay s.items.length cy)) := by
    rw [hW0]
    have := bx_alloc (w.alloc (.cells #[.int .i64 t.kind, .int .i64 t.num, .string t.text, .slice a ll c] 24)) s (.slice ay s.items.length cy)
    rwa [World.size_alloc] at this
  rw [← hll]
  rw [← hll] at hv hlen
  have hp : PlPost t s w = fun e w' => e = .returned (.tuple #[.int .i64 (plcI t s), .bool (plcB t s)]) ∧ Below w.heap.size w w' := rfl
  obtain ⟨t0, t1, t2, t3, _, _, _, _⟩ := HT.out
  obtain ⟨s0, s1, s2, s3, _, _, _, _⟩ := HS.out
  have hF : Hid (Calls Tryz.prog 50 #[.int .i64 ((ll / 2 : Nat) : Int), .func (.func 51) #[] #[.pointer (some ⟨w.heap.size + 1, 0, none⟩), .pointer (some ⟨w.heap.size, 0, none⟩)]] W0 fun e w' => e = .returned (.tuple #[.int .i64 (upN s (keysOf t.items) : Int), .bool (hasN s (keysOf t.items))]) ∧ Below W0.heap.size W0 w') :=
    find_keys t s a ay c s.items.length cy ll (w.heap.size + 1) w.heap.size W0 hll HT.out HS.out (Lies.keeps hb0 _ _ _ hv) (Lies.keeps hb0 _ _ _ hs) hr h0
  have e1 : plcI t s = ((2 * upN s (keysOf t.items) + 1 : Nat) : Int) := by unfold plcI; rw [if_pos h0]
  have e2 : plcB t s = hasN s (keysOf t.items) := by unfold plcB; rw [if_pos h0]
  have hle := upN_le s (keysOf t.items)
  have hkl := keysOf_len t.items
  rw [hp, e1, e2]
  generalize upN s (keysOf t.items) = K at *
  generalize hasN s (keysOf t.items) = F at *
  have hKb : K ≤ 65536 := by omega
  have hq : ((ll : Int)).tdiv 2 = ((ll / 2 : Nat) : Int) := rfl
  have hLb : ll / 2 ≤ 65536 := by omega
  generalize ll / 2 = L2 at *
  have hK2 : ((2 * K + 1 : Nat) : Int) = 2 * (K : Int) + 1 := by omega
  rw [hK2]
  clear hW0 hv hs hr hd hlen hcl hll HT HS e1 e2 hle hkl hp hK2
  rcases h0 with hk | hk
  · rw [hk] at t0 HW0 ⊢
    go_enter Tryz.func30, Tryz.ntmps30
    go_upto_region 1 with fail
    rw [← HW0.out]
    go_wp2_with fail
    refine Calls.mono hF.out ?_
    rintro e w1 ⟨rfl, hb1⟩
    have hb2 : Below w.heap.size w w1 := hb0.trans (hb1.mono hb0.size)
    clear hb1 hb0 hF HW0
    go_wp2_with fail
    go_ret2
    exact ⟨rfl, hb2⟩
  · rw [hk] at t0 HW0 ⊢
    go_enter Tryz.func30, Tryz.ntmps30
    go_upto_region 1 with fail
    rw [← HW0.out]
    go_wp2_with fail
    refine Calls.mono hF.out ?_
    rintro e w1 ⟨rfl, hb1⟩
    have hb2 : Below w.heap.size w w1 := hb0.trans (hb1.mono hb0.size)
    clear hb1 hb0 hF HW0
    go_wp2_with fail
    go_ret2
    exact ⟨rfl, hb2⟩

end Go.Proofs.YtofceccicmlmoaaGreat

namespace Go.Proofs.YtofceccicmlmoaaGreat
open Go.RowKit Go.Shelf

set_option maxRecDepth 100000 in
set_option maxHeartbeats 8000000 in
theorem place_set (t s : VT) (v us : Value) (w : World) (hv : Lies 16 w t.items v) (hs : Lies 16 w s.items us) (hr : rightV 16 t = true) (h0 : ¬ (t.kind = 0 ∨ t.kind = 6)) (h4 : ¬ t.kind = 4) (h5 : t.kind = 5) :
    Calls Tryz.prog 30 #[.agg #[.int .i64 t.kind, .int .i64 t.num, .string t.text, v], .agg #[.int .i64 s.kind, .int .i64 s.num, .string s.text, us]] w (PlPost t s w) := by
  obtain ⟨a, c, rfl, hcl⟩ := Lies.slice hv
  obtain ⟨ay, cy, rfl, _⟩ := Lies.slice hs
  have hd := Dp.of_lies 16 w t _ hv
  have hlen := right_len hr
  obtain ⟨ll, hll⟩ : ∃ ll, ll = t.items.length := ⟨_, rfl⟩
  obtain ⟨W0, hW0⟩ : ∃ W0, W0 = (w.alloc (.cells #[.int .i64 t.kind, .int .i64 t.num, .string t.text, .slice a ll c] 24)).alloc (.cells #[.int .i64 s.kind, .int .i64 s.num, .string s.text, .slice ay s.items.length cy] 24) := ⟨_, rfl⟩
  have HW0 : Hid (W0 = (w.alloc (.cells #[.int .i64 t.kind, .int .i64 t.num, .string t.text, .slice a ll c] 24)).alloc (.cells #[.int .i64 s.kind, .int .i64 s.num, .string s.text, .slice ay s.items.length cy] 24)) := hW0
  have hb0 : Below w.heap.size w W0 := by rw [hW0]; exact (Grew.two _ _ _).below
  have HT : Hid (Bx W0 w.heap.size t (.slice a ll c)) := by rw [hW0]; exact (bx_alloc w t _).keeps ((Grew.refl _).alloc _).below
  have HS : Hid (Bx W0 (w.heap.size + 1) s (.slice ay s.items.length cy)) := by
    rw [hW0]
    have := bx_alloc (w.alloc (.cells #[.int .i64 t.kind, .int .i64 t.num, .string t.text, .slice a ll c] 24)) s (.slice ay s.items.length cy)
    rwa [World.size_alloc] at this
  rw [← hll]
  rw [← hll] at hv hlen
  have hp : PlPost t s w = fun e w' => e = .returned (.tuple #[.int .i64 (plcI t s), .bool (plcB t s)]) ∧ Below w.heap.size w w' := rfl
  obtain ⟨t0, t1, t2, t3, _, _, _, _⟩ := HT.out
  obtain ⟨s0, s1, s2, s3, _, _, _, _⟩ := HS.out
  have hF : Hid (Calls Tryz.prog 53 #[.slice a ll c, .agg #[.int .i64 s.kind, .int .i64 s.num, .string s.text, .slice ay s.items.length cy], .func (.func 52) #[] #[]] W0 fun e w' => e = .returned (.tuple #[.int .i64 (upN s t.items : Int), .bool (hasN s t.items)]) ∧ Below W0.heap.size W0 w') :=
    bsearch_any t.items _ s _ W0 (Lies.atLeast (Lies.keeps hb0 _ _ _ hv) 17 (by omega)) (Lies.keeps hb0 _ _ _ hs) (by omega) (set_items hr hd h5)
  have e1 : plcI t s = (upN s t.items : Int) := by unfold plcI; rw [if_neg h0, if_neg h4, if_pos h5]
  have e2 : plcB t s = hasN s t.items := by unfold plcB; rw [if_neg h0, if_neg h4, if_pos h5]
  rw [hp, e1, e2]
  generalize upN s t.items = K at *
  generalize hasN s t.items = F at *
  clear hW0 hv hs hr hd hlen hcl hll HT HS e1 e2 hp h0 h4
  rw [h5] at t0 HW0 ⊢
  go_enter Tryz.func30, Tryz.ntmps30
  go_upto_region 1 with fail
  rw [← HW0.out]
  go_wp2_with fail
  refine Calls.mono hF.out ?_
  rintro e w1 ⟨rfl, hb1⟩
  have hb2 : Below w.heap.size w w1 := hb0.trans (hb1.mono hb0.size)
  clear hb1 hb0 hF HW0
  go_wp2_with fail
  go_ret2
  exact ⟨rfl, hb2⟩

set_option maxRecDepth 100000 in
set_option maxHeartbeats 8000000 in
theorem place_none (t s : VT) (v us : Value) (w : World) (hv : Lies 16 w t.items v) (hs : Lies 16 w s.items us) (hr : rightV 16 t = true) (h0 : ¬ (t.kind = 0 ∨ t.kind = 6)) (h4 : ¬ t.kind = 4) (h5 : ¬ t.kind = 5) :
    Calls Tryz.prog 30 #[.agg #[.int .i64 t.kind, .int .i64 t.num, .string t.text, v], .agg #[.int .i64 s.kind, .int .i64 s.num, .string s.text, us]] w (PlPost t s w) := by
  obtain ⟨a, c, rfl, hcl⟩ := Lies.slice hv
  obtain ⟨ay, cy, rfl, _⟩ := Lies.slice hs
  have hd := Dp.of_lies 16 w t _ hv
  have hlen := right_len hr
  obtain ⟨ll, hll⟩ : ∃ ll, ll = t.items.length := ⟨_, rfl⟩
  obtain ⟨W0, hW0⟩ : ∃ W0, W0 = (w.alloc (.cells #[.int .i64 t.kind, .int .i64 t.num, .string t.text, .slice a ll c] 24)).alloc (.cells #[.int .i64 s.kind, .int .i64 s.num, .string s.text, .slice ay s.items.length cy] 24) := ⟨_, rfl⟩
  have HW0 : Hid (W0 = (w.alloc (.cells #[.int .i64 t.kind, .int .i64 t.num, .string t.text, .slice a ll c] 24)).alloc (.cells #[.int .i64 s.kind, .int .i64 s.num, .string s.text, .slice ay s.items.length cy] 24)) := hW0
  have hb0 : Below w.heap.size w W0 := by rw [hW0]; exact (Grew.two _ _ _).below
  have HT : Hid (Bx W0 w.heap.size t (.slice a ll c)) := by rw [hW0]; exact (bx_alloc w t _).keeps ((Grew.refl _).alloc _).below
  have HS : Hid (Bx W0 (w.heap.size + 1) s (.slice ay s.items.length cy)) := by
    rw [hW0]
    have := bx_alloc (w.alloc (.cells #[.int .i64 t.kind, .int .i64 t.num, .string t.text, .slice a ll c] 24)) s (.slice ay s.items.length cy)
    rwa [World.size_alloc] at this
  rw [← hll]
  rw [← hll] at hv hlen
  have hp : PlPost t s w = fun e w' => e = .returned (.tuple #[.int .i64 (plcI t s), .bool (plcB t s)]) ∧ Below w.heap.size w w' := rfl
  obtain ⟨t0, t1, t2, t3, _, _, _, _⟩ := HT.out
  obtain ⟨s0, s1, s2, s3, _, _, _, _⟩ := HS.out
  have e1 : plcI t s = 0 := by unfold plcI; rw [if_neg h0, if_neg h4, if_neg h5]
  have e2 : plcB t s = false := by unfold plcB; rw [if_neg h0, if_neg h4, if_neg h5]
  have n0 : ¬ t.kind = 0 := fun h => h0 (.inl h)
  have n6 : ¬ t.kind = 6 := fun h => h0 (.inr h)
  rw [hp, e1, e2]
  clear hW0 hv hs hr hd hlen hcl hll HT HS e1 e2 hp h0
  go_enter Tryz.func30, Tryz.ntmps30
  go_upto_region 1 with fail
  rw [← HW0.out]
  go_wp2_with fail
  go_ret2
  exact ⟨rfl, hb0⟩

end Go.Proofs.YtofceccicmlmoaaGreat

