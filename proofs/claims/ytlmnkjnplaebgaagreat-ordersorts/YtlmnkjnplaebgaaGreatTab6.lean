/-
  The table of the orders, the row that a number picks, and what its functions do.
-/
import Derived.Test.YtlmnkjnplaebgaaGreatOrdP
import Derived.Test.YtlmnkjnplaebgaaGreatGroup
import Derived.Test.YtlmnkjnplaebgaaGreatLevel
import Derived.Laws.EntriesVeiled
import Derived.Shelf.Abstract
namespace Go.Proofs.YtlmnkjnplaebgaaGreat
open Go.RowKit

set_option maxHeartbeats 400000 in
theorem cmp_u64 (a b : Int) (w : World) : Calls Tryz.prog 65 #[.int .u64 a, .int .u64 b] w fun e w' => e = .returned (.int .i64 (cmpI a b)) ∧ w' = w := by
  by_cases h1 : a < b
  · go_enter Tryz.func65, Tryz.ntmps65
    go_wp2
    go_ret
    exact ⟨by simp [cmpI, h1], rfl⟩
  · by_cases h2 : b < a
    · go_enter Tryz.func65, Tryz.ntmps65
      go_wp2
      go_ret
      exact ⟨ret_int (by unfold cmpI; rw [if_neg (by omega), if_pos (by omega)]), rfl⟩
    · go_enter Tryz.func65, Tryz.ntmps65
      go_wp2
      go_ret
      exact ⟨ret_int (by unfold cmpI; rw [if_neg (by omega), if_neg (by omega)]), rfl⟩

abbrev memV (t : VT) (x : Value) (m : Int) : Value := .agg #[.int .i64 t.kind, .int .i64 t.num, .string t.text, x, .int .u64 m]

set_option maxHeartbeats 1000000 in
theorem natural_any (t s : VT) (x y : Value) (m n : Int) (w : World) (hx : Lies 16 w t.items x) (hy : Lies 16 w s.items y) :
    Calls Tryz.prog 46 #[.agg #[.int .i64 t.kind, .int .i64 t.num, .string t.text, x, .int .u64 m], .agg #[.int .i64 s.kind, .int .i64 s.num, .string s.text, y, .int .u64 n]] w fun e w' => e = .returned (.int .i64 (cmpV 16 t s)) ∧ Grew w w' := by
  obtain ⟨ax, cx, rfl, _⟩ := Lies.slice hx
  obtain ⟨ay, cy, rfl, _⟩ := Lies.slice hy
  have HX : Hid (Lies 16 w t.items (.slice ax t.items.length cx)) := hx
  have HY : Hid (Lies 16 w s.items (.slice ay s.items.length cy)) := hy
  clear hx hy
  go_enter Tryz.func46, Tryz.ntmps46
  go_wp2_with fail
  refine (compare_any 16 t s _ _ _ (Lies.keeps (Grew.two _ _ _).below _ _ _ HX.out) (Lies.keeps (Grew.two _ _ _).below _ _ _ HY.out)).mono ?_
  rintro e w1 ⟨rfl, hb⟩
  go_wp2_with fail
  go_ret
  exact ⟨rfl, (Grew.two _ _ _).trans hb⟩

set_option maxHeartbeats 1000000 in
theorem turned_any (t s : VT) (x y : Value) (m n : Int) (w : World) (hx : Lies 16 w t.items x) (hy : Lies 16 w s.items y) :
    Calls Tryz.prog 47 #[.agg #[.int .i64 t.kind, .int .i64 t.num, .string t.text, x, .int .u64 m], .agg #[.int .i64 s.kind, .int .i64 s.num, .string s.text, y, .int .u64 n]] w fun e w' => e = .returned (.int .i64 (cmpV 16 s t)) ∧ Grew w w' := by
  obtain ⟨ax, cx, rfl, _⟩ := Lies.slice hx
  obtain ⟨ay, cy, rfl, _⟩ := Lies.slice hy
  have HX : Hid (Lies 16 w t.items (.slice ax t.items.length cx)) := hx
  have HY : Hid (Lies 16 w s.items (.slice ay s.items.length cy)) := hy
  clear hx hy
  go_enter Tryz.func47, Tryz.ntmps47
  go_wp2_with fail
  refine (natural_any s t _ _ _ _ _ (Lies.keeps (Grew.two _ _ _).below _ _ _ HY.out) (Lies.keeps (Grew.two _ _ _).below _ _ _ HX.out)).mono ?_
  rintro e w1 ⟨rfl, hb⟩
  go_wp2_with fail
  go_ret
  exact ⟨rfl, (Grew.two _ _ _).trans hb⟩

set_option maxHeartbeats 1000000 in
theorem byMeasure_any (t s : VT) (x y : Value) (m n : Int) (w : World) (hx : Lies 16 w t.items x) (hy : Lies 16 w s.items y) :
    Calls Tryz.prog 49 #[.agg #[.int .i64 t.kind, .int .i64 t.num, .string t.text, x, .int .u64 m], .agg #[.int .i64 s.kind, .int .i64 s.num, .string s.text, y, .int .u64 n]] w fun e w' => e = .returned (.int .i64 (if cmpI m n ≠ 0 then cmpI m n else cmpV 16 t s)) ∧ Grew w w' := by
  obtain ⟨ax, cx, rfl, _⟩ := Lies.slice hx
  obtain ⟨ay, cy, rfl, _⟩ := Lies.slice hy
  have HX : Hid (Lies 16 w t.items (.slice ax t.items.length cx)) := hx
  have HY : Hid (Lies 16 w s.items (.slice ay s.items.length cy)) := hy
  clear hx hy
  by_cases hz : cmpI m n ≠ 0
  · rw [if_pos hz]
    have hz' : ¬ cmpI m n = 0 := hz
    go_enter Tryz.func49, Tryz.ntmps49
    go_wp2_with (go_at_call 65; refine (cmp_u64 _ _ _).mono ?_; rintro e w' ⟨rfl, rfl⟩)
    go_ret
    exact ⟨rfl, Grew.two _ _ _⟩
  · rw [if_neg hz]
    have hz' : cmpI m n = 0 := by omega
    go_enter Tryz.func49, Tryz.ntmps49
    go_wp2_with (go_at_call 65; refine (cmp_u64 _ _ _).mono ?_; rintro e w' ⟨rfl, rfl⟩)
    refine (natural_any t s _ _ _ _ _ (Lies.keeps (Grew.two _ _ _).below _ _ _ HX.out) (Lies.keeps (Grew.two _ _ _).below _ _ _ HY.out)).mono ?_
    rintro e w1 ⟨rfl, hb⟩
    go_wp2_with fail
    go_ret
    exact ⟨rfl, (Grew.two _ _ _).trans hb⟩

set_option maxHeartbeats 1000000 in
theorem byKind_any (t s : VT) (x y : Value) (m n : Int) (w : World) (hx : Lies 16 w t.items x) (hy : Lies 16 w s.items y) :
    Calls Tryz.prog 52 #[.agg #[.int .i64 t.kind, .int .i64 t.num, .string t.text, x, .int .u64 m], .agg #[.int .i64 s.kind, .int .i64 s.num, .string s.text, y, .int .u64 n]] w fun e w' => e = .returned (.int .i64 (if t.kind ≠ s.kind then cmpV 16 t s else if cmpI m n ≠ 0 then cmpI m n else cmpV 16 t s)) ∧ Grew w w' := by
  obtain ⟨ax, cx, rfl, _⟩ := Lies.slice hx
  obtain ⟨ay, cy, rfl, _⟩ := Lies.slice hy
  have HX : Hid (Lies 16 w t.items (.slice ax t.items.length cx)) := hx
  have HY : Hid (Lies 16 w s.items (.slice ay s.items.length cy)) := hy
  clear hx hy
  by_cases hk : t.kind ≠ s.kind
  · rw [if_pos hk]
    have hk' : (t.kind == s.kind) = false := by simpa using hk
    clear hk
    go_enter Tryz.func52, Tryz.ntmps52
    go_wp2_with fail
    refine (natural_any t s _ _ _ _ _ (Lies.keeps (Grew.two _ _ _).below _ _ _ HX.out) (Lies.keeps (Grew.two _ _ _).below _ _ _ HY.out)).mono ?_
    rintro e w1 ⟨rfl, hb⟩
    go_wp2_with fail
    go_ret
    exact ⟨rfl, (Grew.two _ _ _).trans hb⟩
  · rw [if_neg hk]
    have hk' : (t.kind == s.kind) = true := by simpa using hk
    clear hk
    have hbm := fun W h1 h2 => byMeasure_any t s (.slice ax t.items.length cx) (.slice ay s.items.length cy) m n W h1 h2
    generalize (if cmpI m n ≠ 0 then cmpI m n else cmpV 16 t s) = z at hbm ⊢
    have Hbm : Hid _ := hbm
    clear hbm
    go_enter Tryz.func52, Tryz.ntmps52
    go_wp2_with fail
    refine (Hbm.out _ (Lies.keeps (Grew.two _ _ _).below _ _ _ HX.out) (Lies.keeps (Grew.two _ _ _).below _ _ _ HY.out)).mono ?_
    rintro e w1 ⟨rfl, hb⟩
    go_wp2_with fail
    go_ret
    exact ⟨rfl, (Grew.two _ _ _).trans hb⟩

end Go.Proofs.YtlmnkjnplaebgaaGreat

namespace Go.Proofs.YtlmnkjnplaebgaaGreat
open Go.RowKit

/-- What a measure tells. -/
def MeasPost (z : Int) (w : World) (e : Ending) (w' : World) : Prop := e = .returned (.int .u64 z) ∧ Below w.heap.size w w'

theorem nothing_any (t : VT) (a : Option Addr) (l c : Nat) (w : World) : Calls Tryz.prog 45 #[.agg #[.int .i64 t.kind, .int .i64 t.num, .string t.text, .slice a l c]] w (MeasPost 0 w) := by
  go_enter Tryz.func45, Tryz.ntmps45
  go_wp2_with fail
  go_ret
  exact ⟨rfl, ((Grew.refl _).alloc _).below⟩

theorem fullHash_any (t : VT) (u : Value) (w : World) (hu : Lies 16 w t.items u) (hr : rightV 16 t = true) (hs : t.text.size ≤ 9223372036854775807) : Calls Tryz.prog 48 #[.agg #[.int .i64 t.kind, .int .i64 t.num, .string t.text, u]] w (MeasPost (IntKind.u64.wrap (fullZ 16 t)) w) := by
  obtain ⟨a, c, rfl, _⟩ := Lies.slice hu
  have HL : Hid (Lies 16 w t.items (.slice a t.items.length c)) := hu
  clear hu
  have hz : fullA 16 t = fullZ 16 t := by unfold fullA; rw [hr]; rfl
  rw [← hz]
  clear hz hr
  go_enter Tryz.func48, Tryz.ntmps48
  go_wp2_with fail
  refine (pfull_any 16 t _ _ (Lies.keeps ((Grew.refl w).alloc _).below _ _ _ HL.out) hs).mono ?_
  rintro e w1 ⟨rfl, hb⟩
  have hb1 : Below w.heap.size w w1 := ((Grew.refl w).alloc _).below.trans (hb.mono (by simp))
  clear hb
  generalize errOf (rightV 16 t) = E
  go_wp2_with fail
  go_ret
  exact ⟨rfl, hb1⟩

theorem parts1_any (t : VT) (u : Value) (w : World) (hu : Lies 16 w t.items u) (hr : rightV 16 t = true) (hs : t.text.size ≤ 9223372036854775807) : Calls Tryz.prog 50 #[.agg #[.int .i64 t.kind, .int .i64 t.num, .string t.text, u]] w (MeasPost (IntKind.u64.wrap (cpV 16 t)) w) := by
  obtain ⟨a, c, rfl, _⟩ := Lies.slice hu
  have HL : Hid (Lies 16 w t.items (.slice a t.items.length c)) := hu
  clear hu
  have hp := fun W h1 => parts_any 16 t (.slice a t.items.length c) W h1 hs
  rw [hr, if_pos rfl] at hp
  have Hp : Hid _ := hp
  clear hp hr
  generalize cpV 16 t = z at *
  go_enter Tryz.func50, Tryz.ntmps50
  go_wp2_with fail
  refine (Hp.out _ (Lies.keeps ((Grew.refl w).alloc _).below _ _ _ HL.out)).mono ?_
  rintro e w1 ⟨rfl, hb⟩
  have hb1 : Below w.heap.size w w1 := ((Grew.refl w).alloc _).below.trans (hb.mono (by simp))
  clear hb
  generalize errOf true = E
  go_wp2_with fail
  go_ret
  exact ⟨rfl, hb1⟩

set_option maxHeartbeats 1000000 in
theorem runes_any (t : VT) (a : Option Addr) (l c : Nat) (w : World) (hs : t.text.size ≤ 4294967296) : Calls Tryz.prog 51 #[.agg #[.int .i64 t.kind, .int .i64 t.num, .string t.text, .slice a l c]] w (MeasPost (runesZ t.text) w) := by
  generalize hs' : t.text = s at *
  have Hb1 : Hid (∀ pos, Below w.heap.size w ((w.alloc (.cells #[.int .i64 t.kind, .int .i64 t.num, .string s, .slice a l c] 24)).iter s pos)) := fun pos => (((Grew.refl w).alloc _).alloc _).below
  go_enter Tryz.func51, Tryz.ntmps51
  go_wp2_with fail
  go_loopg [3] s.size (fun k n w' => ∃ (pos b c' : Nat), w' = (w.alloc (.cells #[.int .i64 t.kind, .int .i64 t.num, .string s, .slice a l c] 24)).iter s pos ∧ n = .int .u64 (c' : Int) ∧ k = s.size - pos ∧ Hid (rnF s b pos c' = runesZ s) ∧ s.size ≤ pos + b ∧ c' ≤ pos)
  case atStart => exact ⟨0, s.size, 0, rfl, rfl, rfl, rfl, by omega, by omega⟩
  case round =>
    obtain ⟨pos, b, c', rfl, rfl, hk, Hc, hb, hcp⟩ := hrel
    have Hk : Hid _ := hk
    clear hk
    by_cases hp : pos < s.size
    · have hnx : ∀ ty, (Instr.next (.pointer (some ⟨(w.alloc (.cells #[.int .i64 t.kind, .int .i64 t.num, .string s, .slice a l c] 24)).heap.size, 0, none⟩)) true ty).run Tryz.prog ((w.alloc (.cells #[.int .i64 t.kind, .int .i64 t.num, .string s, .slice a l c] 24)).iter s pos) = _ := fun ty => run_next_any (w.alloc (.cells #[.int .i64 t.kind, .int .i64 t.num, .string s, .slice a l c] 24)) s pos ty hp
      simp only [World.size_alloc] at hnx
      have hwd := width_pos s pos hp
      obtain ⟨b, rfl⟩ : ∃ c, b = c + 1 := ⟨b - 1, by omega⟩
      have He : Hid (rnF s (b + 1) pos c' = rnF s b (pos + (Utf8.decode s pos).2) (c' + 1)) := by
        show _ = _
        simp only [rnF, hp, if_true]
      go_wp2_with fail
      go_roundg (s.size - (pos + (Utf8.decode s pos).2))
      case measure => have := Hk.out; omega
      case rel =>
        refine ⟨pos + (Utf8.decode s pos).2, b, c' + 1, rfl, by go_num, rfl, ?_, by omega, by omega⟩
        show _ = _
        rw [← Hc.out, He.out]; rfl
    · have hnx : ∀ ty, (Instr.next (.pointer (some ⟨(w.alloc (.cells #[.int .i64 t.kind, .int .i64 t.num, .string s, .slice a l c] 24)).heap.size, 0, none⟩)) true ty).run Tryz.prog ((w.alloc (.cells #[.int .i64 t.kind, .int .i64 t.num, .string s, .slice a l c] 24)).iter s pos) = _ := fun ty => run_next_end (w.alloc (.cells #[.int .i64 t.kind, .int .i64 t.num, .string s, .slice a l c] 24)) s pos ty hp
      simp only [World.size_alloc] at hnx
      go_wp2_with fail
      go_ret
      exact ⟨ret_int (by rw [← Hc.out, rnF_end s b pos c' hp]), Hb1.out pos⟩

theorem distance_any (t : VT) (a : Option Addr) (l c : Nat) (w : World) : Calls Tryz.prog 53 #[.agg #[.int .i64 t.kind, .int .i64 t.num, .string t.text, .slice a l c]] w (MeasPost (if t.kind = 2 then farZ t.num else 0) w) := by
  by_cases hk : t.kind = 2
  · rw [if_pos hk]
    have hk' : (t.kind == 2) = true := by simpa using hk
    clear hk
    unfold farZ
    by_cases hn : t.num < 0
    · rw [if_pos hn]
      go_enter Tryz.func53, Tryz.ntmps53
      go_wp2_with fail
      go_ret
      exact ⟨rfl, ((Grew.refl _).alloc _).below⟩
    · rw [if_neg hn]
      go_enter Tryz.func53, Tryz.ntmps53
      go_wp2_with fail
      go_ret
      exact ⟨rfl, ((Grew.refl _).alloc _).below⟩
  · rw [if_neg hk]
    have hk' : (t.kind == 2) = false := by simpa using hk
    clear hk
    go_enter Tryz.func53, Tryz.ntmps53
    go_wp2_with fail
    go_ret
    exact ⟨rfl, ((Grew.refl _).alloc _).below⟩

end Go.Proofs.YtlmnkjnplaebgaaGreat

namespace Go.Proofs.YtlmnkjnplaebgaaGreat
open Go.RowKit Go.Shelf

/-- A function of the program as a value. -/
abbrev fv (n : Nat) : Value := .func (.func n) #[] #[]

set_option maxHeartbeats 400000 in
theorem rows_any (w : World) : Calls Tryz.prog 23 #[] w fun e w' => e = .returned (.slice (some ⟨w.heap.size, 0, none⟩) 6 6) ∧
    w' = w.alloc (.cells #[fv 45, fv 46, fv 45, fv 47, fv 48, fv 49, fv 50, fv 49, fv 51, fv 52, fv 53, fv 52] 58) := by
  go_enter Tryz.func23, Tryz.ntmps23
  go_wp2_with fail
  go_ret
  exact ⟨rfl, rfl⟩

set_option maxHeartbeats 400000 in
theorem rowO_no (b : Nat) (q : Int) (w : World) (h : q < 0 ∨ 6 ≤ q) : Calls Tryz.prog 22 #[.slice (some ⟨b, 0, none⟩) 6 6, .int .i64 q] w fun e w' => e = .returned (.tuple #[.agg #[.nilFunc, .nilFunc], .int .i64 4]) ∧ Below w.heap.size w w' := by
  rcases h with h | h
  · go_enter Tryz.func22, Tryz.ntmps22
    go_wp2_with fail
    exact bodyPost_ret (v := .tuple #[.agg #[.nilFunc, .nilFunc], .int .i64 4]) (by simp [results, Tryz.results22, go_sem]) rfl ⟨rfl, (Grew.two _ _ _).below⟩
  · have h' : ¬ q < 0 := by omega
    go_enter Tryz.func22, Tryz.ntmps22
    go_wp2_with fail
    exact bodyPost_ret (v := .tuple #[.agg #[.nilFunc, .nilFunc], .int .i64 4]) (by simp [results, Tryz.results22, go_sem]) rfl ⟨rfl, (Grew.two _ _ _).below⟩

set_option maxHeartbeats 400000 in
theorem rowO_yes (b q : Nat) (f0 : Nat) (f1 : Nat) (w : World) (h : q < 6) (hc0 : w.cell? ⟨b, q * 2, none⟩ = some (fv f0)) (hc1 : w.cell? ⟨b, q * 2 + 1, none⟩ = some (fv f1)) : Calls Tryz.prog 22 #[.slice (some ⟨b, 0, none⟩) 6 6, .int .i64 q] w fun e w' => e = .returned (.tuple #[.agg #[fv f0, fv f1], .int .i64 0]) ∧ Below w.heap.size w w' := by
  have hb : b < w.heap.size := cell_lt hc0
  have h1 : ¬ (q : Int) < 0 := by omega
  have h2 : (q : Int) < 6 := by omega
  go_enter Tryz.func22, Tryz.ntmps22
  go_wp2_with fail
  exact bodyPost_ret (v := .tuple #[.agg #[fv f0, fv f1], .int .i64 0]) (by simp [results, Tryz.results22, go_sem]) rfl ⟨rfl, ((Grew.refl _).alloc _).below⟩

/-- The number of the measure in row q. -/
def mF : Nat → Nat
  | 0 => 45
  | 1 => 45
  | 2 => 48
  | 3 => 50
  | 4 => 51
  | _ => 53

/-- The number of the comparison in row q. -/
def cF : Nat → Nat
  | 0 => 46
  | 1 => 47
  | 2 => 49
  | 3 => 49
  | 4 => 52
  | _ => 52

/-- The world with the table. -/
abbrev tabW (w : World) : World := w.alloc (.cells #[fv 45, fv 46, fv 45, fv 47, fv 48, fv 49, fv 50, fv 49, fv 51, fv 52, fv 53, fv 52] 58)

theorem tab_cells (w : World) (q : Nat) (h : q < 6) : (tabW w).cell? ⟨w.heap.size, q * 2, none⟩ = some (fv (mF q)) ∧ (tabW w).cell? ⟨w.heap.size, q * 2 + 1, none⟩ = some (fv (cF q)) := by
  match q, h with
  | 0, _ => simp [mF, cF]
  | 1, _ => simp [mF, cF]
  | 2, _ => simp [mF, cF]
  | 3, _ => simp [mF, cF]
  | 4, _ => simp [mF, cF]
  | 5, _ => simp [mF, cF]

theorem mF_enters (q : Nat) (h : q < 6) : ∀ args w, (callFunc (mF q) args).run Tryz.prog w = .ok (.enter (mF q) args) w := by
  match q, h with
  | 0, _ => exact enters_of Tryz.func45 (by kernel_rfl) rfl
  | 1, _ => exact enters_of Tryz.func45 (by kernel_rfl) rfl
  | 2, _ => exact enters_of Tryz.func48 (by kernel_rfl) rfl
  | 3, _ => exact enters_of Tryz.func50 (by kernel_rfl) rfl
  | 4, _ => exact enters_of Tryz.func51 (by kernel_rfl) rfl
  | 5, _ => exact enters_of Tryz.func53 (by kernel_rfl) rfl

theorem cF_enters (q : Nat) (h : q < 6) : ∀ args w, (callFunc (cF q) args).run Tryz.prog w = .ok (.enter (cF q) args) w := by
  match q, h with
  | 0, _ => exact enters_of Tryz.func46 (by kernel_rfl) rfl
  | 1, _ => exact enters_of Tryz.func47 (by kernel_rfl) rfl
  | 2, _ => exact enters_of Tryz.func49 (by kernel_rfl) rfl
  | 3, _ => exact enters_of Tryz.func49 (by kernel_rfl) rfl
  | 4, _ => exact enters_of Tryz.func52 (by kernel_rfl) rfl
  | 5, _ => exact enters_of Tryz.func52 (by kernel_rfl) rfl

theorem right_own {t : VT} (hr : rightV 16 t = true) : ownV 15 t = true := by
  unfold rightV at hr
  rw [Bool.and_eq_true] at hr
  have h := hr.2
  unfold rpV at h
  rw [Bool.and_eq_true] at h
  exact h.2

theorem right_short {t : VT} (hr : rightV 16 t = true) : t.text.size ≤ 256 := (right_text (right_own hr)).1

/-- What the measure of row q tells of a right value. -/
theorem meas_any (q : Nat) (hq : q < 6) (t : VT) (u : Value) (w : World) (hu : Lies 16 w t.items u) (hr : rightV 16 t = true) :
    Calls Tryz.prog (mF q) #[.agg #[.int .i64 t.kind, .int .i64 t.num, .string t.text, u]] w (MeasPost (msr q t) w) := by
  have hs := right_short hr
  obtain ⟨a, c, rfl, _⟩ := Lies.slice hu
  match q, hq with
  | 0, _ => exact nothing_any t a _ c w
  | 1, _ => exact nothing_any t a _ c w
  | 2, _ => exact fullHash_any t _ w hu hr (by omega)
  | 3, _ => exact parts1_any t _ w hu hr (by omega)
  | 4, _ => exact runes_any t a _ c w (by omega)
  | 5, _ => exact distance_any t a _ c w

/-- What the comparison of row q tells of two members. -/
theorem cmpO_any (q : Nat) (hq : q < 6) (t s : VT) (x y : Value) (m n : Int) (w : World) (hx : Lies 16 w t.items x) (hy : Lies 16 w s.items y) :
    Calls Tryz.prog (cF q) #[.agg #[.int .i64 t.kind, .int .i64 t.num, .string t.text, x, .int .u64 m], .agg #[.int .i64 s.kind, .int .i64 s.num, .string s.text, y, .int .u64 n]] w fun e w' => e = .returned (.int .i64 (ordM q t s m n)) ∧ Grew w w' := by
  match q, hq with
  | 0, _ => exact natural_any t s x y m n w hx hy
  | 1, _ => exact turned_any t s x y m n w hx hy
  | 2, _ =>
    have e : ordM 2 t s m n = if cmpI m n ≠ 0 then cmpI m n else cmpV 16 t s := by unfold ordM; simp
    rw [e]; exact byMeasure_any t s x y m n w hx hy
  | 3, _ =>
    have e : ordM 3 t s m n = if cmpI m n ≠ 0 then cmpI m n else cmpV 16 t s := by unfold ordM; simp
    rw [e]; exact byMeasure_any t s x y m n w hx hy
  | 4, _ =>
    have e : ordM 4 t s m n = if t.kind ≠ s.kind then cmpV 16 t s else if cmpI m n ≠ 0 then cmpI m n else cmpV 16 t s := by unfold ordM; simp
    rw [e]; exact byKind_any t s x y m n w hx hy
  | 5, _ =>
    have e : ordM 5 t s m n = if t.kind ≠ s.kind then cmpV 16 t s else if cmpI m n ≠ 0 then cmpI m n else cmpV 16 t s := by unfold ordM; simp
    rw [e]; exact byKind_any t s x y m n w hx hy

end Go.Proofs.YtlmnkjnplaebgaaGreat

