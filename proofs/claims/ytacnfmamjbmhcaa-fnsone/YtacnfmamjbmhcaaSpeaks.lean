/-
  The contract of speaks: it answers true.
-/
import Derived.Test.YtacnfmamjbmhcaaIs
import Derived.Deep.RegionHeld3
import Derived.Test.YtacnfmamjbmhcaaUtf
namespace Go.Proofs.Ytacnfmamjbmhcaa
open Go.RowKit

def addI (a b : Int) : Int := wrap64 (a + b)

/-- TwoAdd, TwoMax, TwoMin, TwoCount. -/
def addT (t s : VT) : VT := if t.kind = 2 ∧ s.kind = 2 then intT (addI t.num s.num) else t
def maxT (t s : VT) : VT := if cmpV 16 t s < 0 then s else t
def minT (t s : VT) : VT := if 0 < cmpV 16 t s then s else t
def countT (t : VT) : VT := if t.kind = 2 then intT (incI t.num) else intT 1
def stopB (t : VT) : Bool := t.kind == 2 && decide (100 < t.num)

def two3 (w : World) (t s : VT) (u v : Value) : World :=
  ((w.alloc (.cells #[.int .i64 t.kind, .int .i64 t.num, .string t.text, u] 24)).alloc (.cells #[.int .i64 s.kind, .int .i64 s.num, .string s.text, v] 24)).alloc (.cells #[.int .i64 0, .int .i64 0, .string ⟨#[]⟩, .slice none 0 0] 24)

theorem two3_below (w : World) (t s : VT) (u v : Value) : Below w.heap.size w (two3 w t s u v) := grew3 _ _ _ _
theorem two3_first (w : World) (t s : VT) (u v : Value) : Bx (two3 w t s u v) w.heap.size t u := (bx_alloc w t u).keeps (Grew.two _ _ _).below
theorem two3_second (w : World) (t s : VT) (u v : Value) : Bx (two3 w t s u v) (w.heap.size + 1) s v := by
  have := (bx_alloc (w.alloc (.cells #[.int .i64 t.kind, .int .i64 t.num, .string t.text, u] 24)) s v).keeps ((Grew.refl _).alloc (.cells #[.int .i64 0, .int .i64 0, .string ⟨#[]⟩, .slice none 0 0] 24)).below
  rwa [World.size_alloc] at this
theorem two3_res (w : World) (t s : VT) (u v : Value) : Bx (two3 w t s u v) (w.heap.size + 2) zeroT (.slice none 0 0) := by
  have := bx_alloc ((w.alloc (.cells #[.int .i64 t.kind, .int .i64 t.num, .string t.text, u] 24)).alloc (.cells #[.int .i64 s.kind, .int .i64 s.num, .string s.text, v] 24)) zeroT (.slice none 0 0)
  rwa [World.size_alloc, World.size_alloc] at this
theorem two3_size (w : World) (t s : VT) (u v : Value) : (two3 w t s u v).heap.size = w.heap.size + 3 := by unfold two3; simp

theorem grew4 (w : World) (o1 o2 o3 o4 : Obj) : Below w.heap.size w ((((w.alloc o1).alloc o2).alloc o3).alloc o4) := (((Grew.two w o1 o2).alloc o3).alloc o4).below
theorem grew5 (w : World) (o1 o2 o3 o4 o5 : Obj) : Below w.heap.size w (((((w.alloc o1).alloc o2).alloc o3).alloc o4).alloc o5) := ((((Grew.two w o1 o2).alloc o3).alloc o4).alloc o5).below
theorem grew6 (w : World) (o1 o2 o3 o4 o5 o6 : Obj) : Below w.heap.size w ((((((w.alloc o1).alloc o2).alloc o3).alloc o4).alloc o5).alloc o6) := (((((Grew.two w o1 o2).alloc o3).alloc o4).alloc o5).alloc o6).below

set_option maxHeartbeats 1000000 in
theorem add_any (X : Nat → Prop) (t s : VT) (a a2 : Option Addr) (l c l2 c2 : Nat) (w : World) (h : LiesX X 16 w t.items (.slice a l c)) (h2 : LiesX X 16 w s.items (.slice a2 l2 c2)) : Calls Try.prog 57 #[.agg #[.int .i64 t.kind, .int .i64 t.num, .string t.text, .slice a l c], .agg #[.int .i64 s.kind, .int .i64 s.num, .string s.text, .slice a2 l2 c2]] w (FnPost X (addT t s) w) := by
  have HL : Hid (LiesX X 16 w t.items (.slice a l c)) := h
  have HL2 : Hid (LiesX X 16 w s.items (.slice a2 l2 c2)) := h2
  clear h h2
  cases hk : (t.kind == 2)
  · have e : addT t s = t := by unfold addT; rw [if_neg (fun h => by simp [h.1] at hk)]
    rw [e]
    clear e
    go_enter Try.func57, Try.ntmps57
    go_wp2_with (first | (go_at_call 51; refine (isInt_any _ _ _ _ _).mono ?_; rintro e w' ⟨rfl, rfl⟩) | (go_at_call 75; refine (number_any _ _).mono ?_; rintro e w' ⟨rfl, rfl⟩))
    exact bodyPost_ret (v := .agg #[.int .i64 t.kind, .int .i64 t.num, .string t.text, .slice a l c]) (by simp [results, Try.results57, go_sem]) rfl  (fnPost_same HL.out (grew4 _ _ _ _ _))
  · cases hk2 : (s.kind == 2)
    · have e : addT t s = t := by unfold addT; rw [if_neg (fun h => by simp [h.2] at hk2)]
      rw [e]
      clear e
      go_enter Try.func57, Try.ntmps57
      go_wp2_with (first | (go_at_call 51; refine (isInt_any _ _ _ _ _).mono ?_; rintro e w' ⟨rfl, rfl⟩) | (go_at_call 75; refine (number_any _ _).mono ?_; rintro e w' ⟨rfl, rfl⟩))
      exact bodyPost_ret (v := .agg #[.int .i64 t.kind, .int .i64 t.num, .string t.text, .slice a l c]) (by simp [results, Try.results57, go_sem]) rfl  (fnPost_same HL.out (grew5 _ _ _ _ _ _))
    · have e : addT t s = intT (addI t.num s.num) := by unfold addT; rw [if_pos ⟨by simpa using hk, by simpa using hk2⟩]
      rw [e]
      clear e
      go_enter Try.func57, Try.ntmps57
      go_wp2_with (first | (go_at_call 51; refine (isInt_any _ _ _ _ _).mono ?_; rintro e w' ⟨rfl, rfl⟩) | (go_at_call 75; refine (number_any _ _).mono ?_; rintro e w' ⟨rfl, rfl⟩))
      exact bodyPost_ret (v := .agg #[.int .i64 2, .int .i64 (addI t.num s.num), .string ⟨#[]⟩, .slice none 0 0]) (by simp [results, Try.results57, go_sem, addI]) rfl (fnPost_int (grew6 _ _ _ _ _ _ _))

set_option maxHeartbeats 1000000 in
theorem left_any (X : Nat → Prop) (t s : VT) (a a2 : Option Addr) (l c l2 c2 : Nat) (w : World) (h : LiesX X 16 w t.items (.slice a l c)) (h2 : LiesX X 16 w s.items (.slice a2 l2 c2)) : Calls Try.prog 61 #[.agg #[.int .i64 t.kind, .int .i64 t.num, .string t.text, .slice a l c], .agg #[.int .i64 s.kind, .int .i64 s.num, .string s.text, .slice a2 l2 c2]] w (FnPost X t w) := by
  have HL : Hid (LiesX X 16 w t.items (.slice a l c)) := h
  have HL2 : Hid (LiesX X 16 w s.items (.slice a2 l2 c2)) := h2
  clear h h2
  clear HL2
  go_enter Try.func61, Try.ntmps61
  go_wp2_with fail
  exact bodyPost_ret (v := .agg #[.int .i64 t.kind, .int .i64 t.num, .string t.text, .slice a l c]) (by simp [results, Try.results61, go_sem]) rfl  (fnPost_same HL.out (grew3 _ _ _ _))

set_option maxHeartbeats 1000000 in
theorem right_any2 (X : Nat → Prop) (t s : VT) (a a2 : Option Addr) (l c l2 c2 : Nat) (w : World) (h : LiesX X 16 w t.items (.slice a l c)) (h2 : LiesX X 16 w s.items (.slice a2 l2 c2)) : Calls Try.prog 62 #[.agg #[.int .i64 t.kind, .int .i64 t.num, .string t.text, .slice a l c], .agg #[.int .i64 s.kind, .int .i64 s.num, .string s.text, .slice a2 l2 c2]] w (FnPost X s w) := by
  have HL : Hid (LiesX X 16 w t.items (.slice a l c)) := h
  have HL2 : Hid (LiesX X 16 w s.items (.slice a2 l2 c2)) := h2
  clear h h2
  clear HL
  go_enter Try.func62, Try.ntmps62
  go_wp2_with fail
  exact bodyPost_ret (v := .agg #[.int .i64 s.kind, .int .i64 s.num, .string s.text, .slice a2 l2 c2]) (by simp [results, Try.results62, go_sem]) rfl  (fnPost_same HL2.out (grew3 _ _ _ _))

set_option maxHeartbeats 400000 in
theorem inc_int (t : VT) (a : Option Addr) (l c : Nat) (w : World) (hk : (t.kind == 2) = true) : Calls Try.prog 40 #[.agg #[.int .i64 t.kind, .int .i64 t.num, .string t.text, .slice a l c]] w fun e w' => e = .returned (.agg #[.int .i64 2, .int .i64 (incI t.num), .string ⟨#[]⟩, .slice none 0 0]) ∧ ∃ o1 o2 o3, w' = ((w.alloc o1).alloc o2).alloc o3 := by
  have hk' : (t.kind != 2) = false := by simp [bne, hk]
  go_enter Try.func40, Try.ntmps40
  go_wp2_with (go_at_call 75; refine (number_any _ _).mono ?_; rintro e w' ⟨rfl, rfl⟩)
  exact bodyPost_ret (v := .agg #[.int .i64 2, .int .i64 (incI t.num), .string ⟨#[]⟩, .slice none 0 0]) (by simp [results, Try.results40, go_sem, incI]) rfl ⟨rfl, _, _, _, rfl⟩

set_option maxHeartbeats 1000000 in
theorem count_any (X : Nat → Prop) (t s : VT) (a a2 : Option Addr) (l c l2 c2 : Nat) (w : World) (h : LiesX X 16 w t.items (.slice a l c)) (h2 : LiesX X 16 w s.items (.slice a2 l2 c2)) : Calls Try.prog 64 #[.agg #[.int .i64 t.kind, .int .i64 t.num, .string t.text, .slice a l c], .agg #[.int .i64 s.kind, .int .i64 s.num, .string s.text, .slice a2 l2 c2]] w (FnPost X (countT t) w) := by
  have HL : Hid (LiesX X 16 w t.items (.slice a l c)) := h
  have HL2 : Hid (LiesX X 16 w s.items (.slice a2 l2 c2)) := h2
  clear h h2
  clear HL2 HL
  cases hk : (t.kind == 2)
  · have e : countT t = intT 1 := by unfold countT; rw [if_neg (by simpa using hk)]
    rw [e]
    clear e
    go_enter Try.func64, Try.ntmps64
    go_wp2_with (first | (go_at_call 51; refine (isInt_any _ _ _ _ _).mono ?_; rintro e w' ⟨rfl, rfl⟩) | (go_at_call 75; refine (number_any _ _).mono ?_; rintro e w' ⟨rfl, rfl⟩))
    exact bodyPost_ret (v := .agg #[.int .i64 2, .int .i64 1, .string ⟨#[]⟩, .slice none 0 0]) (by simp [results, Try.results64, go_sem]) rfl (fnPost_int (grew5 _ _ _ _ _ _))
  · have e : countT t = intT (incI t.num) := by unfold countT; rw [if_pos (by simpa using hk)]
    rw [e]
    clear e
    go_enter Try.func64, Try.ntmps64
    go_wp2_with (first | (go_at_call 51; refine (isInt_any _ _ _ _ _).mono ?_; rintro e w' ⟨rfl, rfl⟩) | (go_at_call 40; refine (inc_int t _ _ _ _ hk).mono ?_; rintro e w' ⟨rfl, o1, o2, o3, rfl⟩))
    generalize incI t.num = I at *
    exact bodyPost_ret (v := .agg #[.int .i64 2, .int .i64 I, .string ⟨#[]⟩, .slice none 0 0]) (by simp [results, Try.results64, go_sem]) rfl (fnPost_int ((((Grew.two _ _ _).alloc _).alloc _).alloc _ |>.alloc _ |>.alloc _).below)

set_option maxHeartbeats 1000000 in
theorem isGreat_any (t : VT) (a : Option Addr) (l c : Nat) (w : World) : Calls Try.prog 63 #[.agg #[.int .i64 t.kind, .int .i64 t.num, .string t.text, .slice a l c]] w (QPost (stopB t) w) := by
  cases hk : (t.kind == 2)
  · go_enter Try.func63, Try.ntmps63
    go_wp2_with (first | (go_at_call 51; refine (isInt_any _ _ _ _ _).mono ?_; rintro e w' ⟨rfl, rfl⟩) | (go_at_call 75; refine (number_any _ _).mono ?_; rintro e w' ⟨rfl, rfl⟩))
    go_ret
    exact ⟨by simp [stopB, hk], (Grew.two _ _ _).below⟩
  · go_enter Try.func63, Try.ntmps63
    go_wp2_with (first | (go_at_call 51; refine (isInt_any _ _ _ _ _).mono ?_; rintro e w' ⟨rfl, rfl⟩) | (go_at_call 75; refine (number_any _ _).mono ?_; rintro e w' ⟨rfl, rfl⟩))
    go_ret
    exact ⟨by simp [stopB, hk], (Grew.two _ _ _).below⟩

set_option maxHeartbeats 1000000 in
theorem greater_any (X : Nat → Prop) (t s : VT) (a a2 : Option Addr) (l c l2 c2 : Nat) (w : World) (h : LiesX X 16 w t.items (.slice a l c)) (h2 : LiesX X 16 w s.items (.slice a2 l2 c2)) : Calls Try.prog 58 #[.agg #[.int .i64 t.kind, .int .i64 t.num, .string t.text, .slice a l c], .agg #[.int .i64 s.kind, .int .i64 s.num, .string s.text, .slice a2 l2 c2]] w (FnPost X (maxT t s) w) := by
  have hbz := two3_below w t s (.slice a l c) (.slice a2 l2 c2)
  have HX : Hid (Bx (two3 w t s (.slice a l c) (.slice a2 l2 c2)) w.heap.size t (.slice a l c)) := two3_first _ _ _ _ _
  have HY : Hid (Bx (two3 w t s (.slice a l c) (.slice a2 l2 c2)) (w.heap.size + 1) s (.slice a2 l2 c2)) := two3_second _ _ _ _ _
  have HR : Hid (Bx (two3 w t s (.slice a l c) (.slice a2 l2 c2)) (w.heap.size + 2) zeroT (.slice none 0 0)) := two3_res _ _ _ _ _
  have Hz : Hid ((two3 w t s (.slice a l c) (.slice a2 l2 c2)).heap.size = w.heap.size + 3) := two3_size _ _ _ _ _
  have HXl : Hid (LiesX (fun b => X b ∧ b < w.heap.size) 16 w t.items (.slice a l c)) := LiesX.both h
  have HYl : Hid (LiesX (fun b => X b ∧ b < w.heap.size) 16 w s.items (.slice a2 l2 c2)) := LiesX.both h2
  have HL : Hid (LiesX X 16 w t.items (.slice a l c)) := h
  have HL2 : Hid (LiesX X 16 w s.items (.slice a2 l2 c2)) := h2
  clear h h2
  go_enter Try.func58, Try.ntmps58
  go_wp2_with fail
  refine (compare_any 16 t s _ _ _ (Lies.keeps hbz _ _ _ HL.out.lies) (Lies.keeps hbz _ _ _ HL2.out.lies)).mono ?_
  rintro e w1 ⟨rfl, hg⟩
  have hb : Below (two3 w t s (.slice a l c) (.slice a2 l2 c2)).heap.size (two3 w t s (.slice a l c) (.slice a2 l2 c2)) w1 := hg.below
  have hb1 : Below w.heap.size w w1 := hbz.trans (hb.mono (by rw [Hz.out]; omega))
  have HR1 : Hid (Bx w1 (w.heap.size + 2) zeroT (.slice none 0 0)) := HR.out.keeps hb
  obtain ⟨x0, x1, x2, x3, _, _, _, _⟩ := HX.out.keeps hb
  obtain ⟨u0, u1, u2, u3, _, _, _, _⟩ := HY.out.keeps hb
  obtain ⟨y0, y1, y2, y3, z0, z1, z2, z3⟩ := HR1.out
  clear hg hb hbz HX HY HR Hz
  by_cases hc : cmpV 16 t s < 0
  · have e : Hid (maxT t s = s) := if_pos hc
    have Hbx : Hid (Bx (w1.setCells (w.heap.size + 2) 0 (encP (s, .slice a2 l2 c2))) (w.heap.size + 2) s (.slice a2 l2 c2)) := HR1.out.put (s, .slice a2 l2 c2)
    have Hbl : Hid (Below w.heap.size w (w1.setCells (w.heap.size + 2) 0 (encP (s, .slice a2 l2 c2)))) := below_put hb1 (by omega) (s, .slice a2 l2 c2)
    have Hfin : Hid (LiesX (fun b => X b ∨ w.heap.size ≤ b) 16 (w1.setCells (w.heap.size + 2) 0 (encP (s, .slice a2 l2 c2))) s.items (.slice a2 l2 c2)) := ((HYl.out.keeps hb1).set (g := w.heap.size + 2) (by omega)).mono (fun b hb => .inl hb.1)
    go_wp2_with fail
    refine bodyPost_ret (v := .agg #[.int .i64 s.kind, .int .i64 s.num, .string s.text, .slice a2 l2 c2]) ?_ rfl (by rw [e.out]; exact ⟨_, rfl, Hfin.out, Hbl.out⟩)
    obtain ⟨q0, q1, q2, q3, _, _, _, _⟩ := Hbx.out
    simp only [encP, World.setCells, Nat.zero_add, Nat.reduceAdd] at q0 q1 q2 q3
    simp [results, Try.results58, go_sem, q0, q1, q2, q3]
  · have e : Hid (maxT t s = t) := if_neg hc
    have Hbx : Hid (Bx (w1.setCells (w.heap.size + 2) 0 (encP (t, .slice a l c))) (w.heap.size + 2) t (.slice a l c)) := HR1.out.put (t, .slice a l c)
    have Hbl : Hid (Below w.heap.size w (w1.setCells (w.heap.size + 2) 0 (encP (t, .slice a l c)))) := below_put hb1 (by omega) (t, .slice a l c)
    have Hfin : Hid (LiesX (fun b => X b ∨ w.heap.size ≤ b) 16 (w1.setCells (w.heap.size + 2) 0 (encP (t, .slice a l c))) t.items (.slice a l c)) := ((HXl.out.keeps hb1).set (g := w.heap.size + 2) (by omega)).mono (fun b hb => .inl hb.1)
    go_wp2_with fail
    refine bodyPost_ret (v := .agg #[.int .i64 t.kind, .int .i64 t.num, .string t.text, .slice a l c]) ?_ rfl (by rw [e.out]; exact ⟨_, rfl, Hfin.out, Hbl.out⟩)
    obtain ⟨q0, q1, q2, q3, _, _, _, _⟩ := Hbx.out
    simp only [encP, World.setCells, Nat.zero_add, Nat.reduceAdd] at q0 q1 q2 q3
    simp [results, Try.results58, go_sem, q0, q1, q2, q3]

set_option maxHeartbeats 1000000 in
theorem lesser_any (X : Nat → Prop) (t s : VT) (a a2 : Option Addr) (l c l2 c2 : Nat) (w : World) (h : LiesX X 16 w t.items (.slice a l c)) (h2 : LiesX X 16 w s.items (.slice a2 l2 c2)) : Calls Try.prog 59 #[.agg #[.int .i64 t.kind, .int .i64 t.num, .string t.text, .slice a l c], .agg #[.int .i64 s.kind, .int .i64 s.num, .string s.text, .slice a2 l2 c2]] w (FnPost X (minT t s) w) := by
  have hbz := two3_below w t s (.slice a l c) (.slice a2 l2 c2)
  have HX : Hid (Bx (two3 w t s (.slice a l c) (.slice a2 l2 c2)) w.heap.size t (.slice a l c)) := two3_first _ _ _ _ _
  have HY : Hid (Bx (two3 w t s (.slice a l c) (.slice a2 l2 c2)) (w.heap.size + 1) s (.slice a2 l2 c2)) := two3_second _ _ _ _ _
  have HR : Hid (Bx (two3 w t s (.slice a l c) (.slice a2 l2 c2)) (w.heap.size + 2) zeroT (.slice none 0 0)) := two3_res _ _ _ _ _
  have Hz : Hid ((two3 w t s (.slice a l c) (.slice a2 l2 c2)).heap.size = w.heap.size + 3) := two3_size _ _ _ _ _
  have HXl : Hid (LiesX (fun b => X b ∧ b < w.heap.size) 16 w t.items (.slice a l c)) := LiesX.both h
  have HYl : Hid (LiesX (fun b => X b ∧ b < w.heap.size) 16 w s.items (.slice a2 l2 c2)) := LiesX.both h2
  have HL : Hid (LiesX X 16 w t.items (.slice a l c)) := h
  have HL2 : Hid (LiesX X 16 w s.items (.slice a2 l2 c2)) := h2
  clear h h2
  go_enter Try.func59, Try.ntmps59
  go_wp2_with fail
  refine (compare_any 16 t s _ _ _ (Lies.keeps hbz _ _ _ HL.out.lies) (Lies.keeps hbz _ _ _ HL2.out.lies)).mono ?_
  rintro e w1 ⟨rfl, hg⟩
  have hb : Below (two3 w t s (.slice a l c) (.slice a2 l2 c2)).heap.size (two3 w t s (.slice a l c) (.slice a2 l2 c2)) w1 := hg.below
  have hb1 : Below w.heap.size w w1 := hbz.trans (hb.mono (by rw [Hz.out]; omega))
  have HR1 : Hid (Bx w1 (w.heap.size + 2) zeroT (.slice none 0 0)) := HR.out.keeps hb
  obtain ⟨x0, x1, x2, x3, _, _, _, _⟩ := HX.out.keeps hb
  obtain ⟨u0, u1, u2, u3, _, _, _, _⟩ := HY.out.keeps hb
  obtain ⟨y0, y1, y2, y3, z0, z1, z2, z3⟩ := HR1.out
  clear hg hb hbz HX HY HR Hz
  by_cases hc : 0 < cmpV 16 t s
  · have e : Hid (minT t s = s) := if_pos hc
    have Hbx : Hid (Bx (w1.setCells (w.heap.size + 2) 0 (encP (s, .slice a2 l2 c2))) (w.heap.size + 2) s (.slice a2 l2 c2)) := HR1.out.put (s, .slice a2 l2 c2)
    have Hbl : Hid (Below w.heap.size w (w1.setCells (w.heap.size + 2) 0 (encP (s, .slice a2 l2 c2)))) := below_put hb1 (by omega) (s, .slice a2 l2 c2)
    have Hfin : Hid (LiesX (fun b => X b ∨ w.heap.size ≤ b) 16 (w1.setCells (w.heap.size + 2) 0 (encP (s, .slice a2 l2 c2))) s.items (.slice a2 l2 c2)) := ((HYl.out.keeps hb1).set (g := w.heap.size + 2) (by omega)).mono (fun b hb => .inl hb.1)
    go_wp2_with fail
    refine bodyPost_ret (v := .agg #[.int .i64 s.kind, .int .i64 s.num, .string s.text, .slice a2 l2 c2]) ?_ rfl (by rw [e.out]; exact ⟨_, rfl, Hfin.out, Hbl.out⟩)
    obtain ⟨q0, q1, q2, q3, _, _, _, _⟩ := Hbx.out
    simp only [encP, World.setCells, Nat.zero_add, Nat.reduceAdd] at q0 q1 q2 q3
    simp [results, Try.results59, go_sem, q0, q1, q2, q3]
  · have e : Hid (minT t s = t) := if_neg hc
    have Hbx : Hid (Bx (w1.setCells (w.heap.size + 2) 0 (encP (t, .slice a l c))) (w.heap.size + 2) t (.slice a l c)) := HR1.out.put (t, .slice a l c)
    have Hbl : Hid (Below w.heap.size w (w1.setCells (w.heap.size + 2) 0 (encP (t, .slice a l c)))) := below_put hb1 (by omega) (t, .slice a l c)
    have Hfin : Hid (LiesX (fun b => X b ∨ w.heap.size ≤ b) 16 (w1.setCells (w.heap.size + 2) 0 (encP (t, .slice a l c))) t.items (.slice a l c)) := ((HXl.out.keeps hb1).set (g := w.heap.size + 2) (by omega)).mono (fun b hb => .inl hb.1)
    go_wp2_with fail
    refine bodyPost_ret (v := .agg #[.int .i64 t.kind, .int .i64 t.num, .string t.text, .slice a l c]) ?_ rfl (by rw [e.out]; exact ⟨_, rfl, Hfin.out, Hbl.out⟩)
    obtain ⟨q0, q1, q2, q3, _, _, _, _⟩ := Hbx.out
    simp only [encP, World.setCells, Nat.zero_add, Nat.reduceAdd] at q0 q1 q2 q3
    simp [results, Try.results59, go_sem, q0, q1, q2, q3]

end Go.Proofs.Ytacnfmamjbmhcaa

namespace Go.Proofs.Ytacnfmamjbmhcaa
open Go.RowKit

/-- A value, in new memory, an answer and a number are told. -/
def TPost (s : VT) (b : Bool) (r : Int) (W : World) (e : Ending) (W' : World) : Prop :=
  ∃ u, e = .returned (.tuple #[.agg #[.int .i64 s.kind, .int .i64 s.num, .string s.text, u], .bool b, .int .i64 r]) ∧ LiesX (fun b => W.heap.size ≤ b) 16 W' s.items u ∧ Below W.heap.size W W'

theorem tPost_nil {r : Int} {W W' : World} (h : Below W.heap.size W W') : TPost nilT false r W (.returned (.tuple #[.agg #[.int .i64 0, .int .i64 0, .string ⟨#[]⟩, .slice none 0 0], .bool false, .int .i64 r])) W' :=
  ⟨_, rfl, liesX_nil _ _ _ _ _, h⟩

def start4 (w : World) (t s : VT) (u v : Value) : World := (two3 w t s u v).alloc (.cells #[fv 57, fv 50, fv 58, fv 50, fv 59, fv 50, fv 60, fv 50, fv 61, fv 50, fv 62, fv 50, fv 57, fv 63, fv 64, fv 50] 69)

theorem start4_below (w : World) (t s : VT) (u v : Value) : Below w.heap.size w (start4 w t s u v) := grew4 _ _ _ _ _
theorem start4_size (w : World) (t s : VT) (u v : Value) : (start4 w t s u v).heap.size = w.heap.size + 4 := by unfold start4; rw [World.size_alloc, two3_size]
theorem start4_row (w : World) (t s : VT) (u v : Value) (q : Nat) (hq : q < 8) : (start4 w t s u v).cell? ⟨w.heap.size + 1 + 1 + 1, q * 2, none⟩ = some (fv (twoF q)) := by
  have := twoF_cell (two3 w t s u v) q hq
  rwa [two3_size] at this
theorem start4_row2 (w : World) (t s : VT) (u v : Value) (q : Nat) (hq : q < 8) : (start4 w t s u v).cell? ⟨w.heap.size + 1 + 1 + 1, q * 2 + 1, none⟩ = some (fv (stopF q)) := by
  have := stopF_cell (two3 w t s u v) q hq
  rwa [two3_size] at this

/-- The two boxes, the result's cells, the row. -/
structure Desk2 (W : World) (N B f g : Nat) (t s : VT) (u v : Value) : Prop where
  one : Bx W N t u
  two : Bx W (N + 1) s v
  res : Bx W (N + 2) zeroT (.slice none 0 0)
  fn : W.cell? ⟨B, 0, none⟩ = some (fv f)
  st : W.cell? ⟨B, 1, none⟩ = some (fv g)

theorem Desk2.keeps {W W' : World} {N B f g : Nat} {t s : VT} {u v : Value} (h : Desk2 W N B f g t s u v) (hb : Below W.heap.size W W') : Desk2 W' N B f g t s u v :=
  ⟨h.one.keeps hb, h.two.keeps hb, h.res.keeps hb, cell_keeps hb h.fn, cell_keeps hb h.st⟩

set_option maxHeartbeats 2000000 in
theorem two_kind (d : Nat) (q : Int) (t s : VT) (u v : Value) (w : World) (hu : Lies d w t.items u) (hv : Lies d w s.items v) (hq : q < 0 ∨ 8 ≤ q) :
    Calls Try.prog 16 #[.int .i64 q, .agg #[.int .i64 t.kind, .int .i64 t.num, .string t.text, u], .agg #[.int .i64 s.kind, .int .i64 s.num, .string s.text, v]] w (TPost nilT false 4 w) := by
  obtain ⟨a, c, rfl, _⟩ := Lies.slice hu
  obtain ⟨a2, c2, rfl, _⟩ := Lies.slice hv
  have HL : Hid (Lies d w t.items (.slice a t.items.length c)) := hu
  have HL2 : Hid (Lies d w s.items (.slice a2 s.items.length c2)) := hv
  clear hu hv
  generalize t.items.length = l at *
  generalize s.items.length = l2 at *
  have HB := start4_below w t s (.slice a l c) (.slice a2 l2 c2)
  have HX : Hid (Bx (start4 w t s (.slice a l c) (.slice a2 l2 c2)) w.heap.size t (.slice a l c)) := (two3_first _ _ _ _ _).keeps ((Grew.refl _).alloc _).below
  have HY : Hid (Bx (start4 w t s (.slice a l c) (.slice a2 l2 c2)) (w.heap.size + 1) s (.slice a2 l2 c2)) := (two3_second _ _ _ _ _).keeps ((Grew.refl _).alloc _).below
  have HR : Hid (Bx (start4 w t s (.slice a l c) (.slice a2 l2 c2)) (w.heap.size + 2) zeroT (.slice none 0 0)) := (two3_res _ _ _ _ _).keeps ((Grew.refl _).alloc _).below
  have Hz : Hid ((start4 w t s (.slice a l c) (.slice a2 l2 c2)).heap.size = w.heap.size + 4) := start4_size _ _ _ _ _
  have HQ : Hid (q < 0 ∨ 8 ≤ q) := hq
  clear hq HL HL2 HX HY
  go_enter Try.func16, Try.ntmps16
  go_wp2_with fail
  refine (twos_any _).mono ?_
  rintro e w1 ⟨rfl, rfl⟩
  go_wp2_with fail
  refine (rowT_no (w.heap.size + 1 + 1 + 1) q _ HQ.out).mono ?_
  rintro e w1 ⟨rfl, hb⟩
  have hb : Below (start4 w t s (.slice a l c) (.slice a2 l2 c2)).heap.size (start4 w t s (.slice a l c) (.slice a2 l2 c2)) w1 := hb
  have hb1 : Below w.heap.size w w1 := HB.trans (hb.mono (by rw [Hz.out]; omega))
  have hb2 : Below w.heap.size w (w1.alloc (.cells #[.nilFunc, .nilFunc] 69)) := hb1.alloc hb1.size _
  have HR2 : Hid (Bx (w1.alloc (.cells #[.nilFunc, .nilFunc] 69)) (w.heap.size + 2) zeroT (.slice none 0 0)) := (HR.out.keeps hb).keeps ((Grew.refl _).alloc _).below
  clear hb HR HB Hz
  obtain ⟨y0, y1, y2, y3, z0, z1, z2, z3⟩ := HR2.out
  have Hbx : Hid (Bx ((w1.alloc (.cells #[.nilFunc, .nilFunc] 69)).setCells (w.heap.size + 2) 0 (encP (zeroT, .slice none 0 0))) (w.heap.size + 2) zeroT (.slice none 0 0)) := HR2.out.put (zeroT, .slice none 0 0)
  have Hbl : Hid (Below w.heap.size w ((w1.alloc (.cells #[.nilFunc, .nilFunc] 69)).setCells (w.heap.size + 2) 0 (encP (zeroT, .slice none 0 0)))) := below_put hb2 (by omega) (zeroT, .slice none 0 0)
  go_wp2_with fail
  refine bodyPost_ret (v := .tuple #[.agg #[.int .i64 0, .int .i64 0, .string ⟨#[]⟩, .slice none 0 0], .bool false, .int .i64 4]) ?_ rfl (tPost_nil Hbl.out)
  obtain ⟨q0, q1, q2, q3, _, _, _, _⟩ := Hbx.out
  simp only [encP, World.setCells, Nat.zero_add, Nat.reduceAdd] at q0 q1 q2 q3
  simp [results, Try.results16, go_sem, q0, q1, q2, q3]

theorem set4_keep {W : World} {n : Nat} {v0 v1 v2 v3 : Value} {a : Addr} {v : Value} (hn : a.block ≠ n) (h : W.cell? a = some v) : ((((W.setCell ⟨n, 0, none⟩ v0).setCell ⟨n, 1, none⟩ v1).setCell ⟨n, 2, none⟩ v2).setCell ⟨n, 3, none⟩ v3).cell? a = some v :=
  cell_other (g := n) (o := 0) (vs := [v0, v1, v2, v3]) hn h

set_option maxHeartbeats 4000000 in
theorem two_core (d q f g : Nat) (t s r : VT) (b : Bool) (u v : Value) (w : World) (hu : Lies d w t.items u) (hv : Lies d w s.items v) (hs : t.text.size ≤ 9223372036854775807) (hs2 : s.text.size ≤ 9223372036854775807) (hq : q < 8)
    (Hrow : Hid (∀ x y, (start4 w t s x y).cell? ⟨w.heap.size + 1 + 1 + 1, q * 2, none⟩ = some (fv f))) (Hrow2 : Hid (∀ x y, (start4 w t s x y).cell? ⟨w.heap.size + 1 + 1 + 1, q * 2 + 1, none⟩ = some (fv g)))
    (eg : ∀ args w, (callFunc f args).run Try.prog w = .ok (.enter f args) w) (eg2 : ∀ args w, (callFunc g args).run Try.prog w = .ok (.enter g args) w)
    (Hf : Hid (rightV d t = true → rightV d s = true → ∀ W, Below w.heap.size w W → Calls Try.prog f #[.agg #[.int .i64 t.kind, .int .i64 t.num, .string t.text, u], .agg #[.int .i64 s.kind, .int .i64 s.num, .string s.text, v]] W (FnPost (fun _ => True) r W)))
    (Hg : Hid (∀ x W, Lies 16 W r.items x → Calls Try.prog g #[.agg #[.int .i64 r.kind, .int .i64 r.num, .string r.text, x]] W (QPost b W)))
    (Hr : Hid (rightV d t = true → rightV d s = true → rightV 16 r = true)) :
    Calls Try.prog 16 #[.int .i64 q, .agg #[.int .i64 t.kind, .int .i64 t.num, .string t.text, u], .agg #[.int .i64 s.kind, .int .i64 s.num, .string s.text, v]] w (if rightV d t = true ∧ rightV d s = true then TPost r b 0 w else TPost nilT false 3 w) := by
  obtain ⟨a, c, rfl, _⟩ := Lies.slice hu
  obtain ⟨a2, c2, rfl, _⟩ := Lies.slice hv
  have HL : Hid (Lies d w t.items (.slice a t.items.length c)) := hu
  have HL2 : Hid (Lies d w s.items (.slice a2 s.items.length c2)) := hv
  clear hu hv
  generalize t.items.length = l at *
  generalize s.items.length = l2 at *
  have HB := start4_below w t s (.slice a l c) (.slice a2 l2 c2)
  have HX : Hid (Bx (start4 w t s (.slice a l c) (.slice a2 l2 c2)) w.heap.size t (.slice a l c)) := (two3_first _ _ _ _ _).keeps ((Grew.refl _).alloc _).below
  have HY : Hid (Bx (start4 w t s (.slice a l c) (.slice a2 l2 c2)) (w.heap.size + 1) s (.slice a2 l2 c2)) := (two3_second _ _ _ _ _).keeps ((Grew.refl _).alloc _).below
  have HR : Hid (Bx (start4 w t s (.slice a l c) (.slice a2 l2 c2)) (w.heap.size + 2) zeroT (.slice none 0 0)) := (two3_res _ _ _ _ _).keeps ((Grew.refl _).alloc _).below
  have Hz : Hid ((start4 w t s (.slice a l c) (.slice a2 l2 c2)).heap.size = w.heap.size + 4) := start4_size _ _ _ _ _
  generalize hP : (if rightV d t = true ∧ rightV d s = true then TPost r b 0 w else TPost nilT false 3 w) = P
  have HP : Hid ((if rightV d t = true ∧ rightV d s = true then TPost r b 0 w else TPost nilT false 3 w) = P) := hP
  clear hP
  go_enter Try.func16, Try.ntmps16
  go_wp2_with fail
  refine (twos_any _).mono ?_
  rintro e w1 ⟨rfl, rfl⟩
  go_wp2_with fail
  refine (rowT_yes (w.heap.size + 1 + 1 + 1) q f g _ hq (Hrow.out _ _) (Hrow2.out _ _)).mono ?_
  rintro e w1 ⟨rfl, hb⟩
  have hb : Below (start4 w t s (.slice a l c) (.slice a2 l2 c2)).heap.size (start4 w t s (.slice a l c) (.slice a2 l2 c2)) w1 := hb
  have hb1 : Below w.heap.size w w1 := HB.trans (hb.mono (by rw [Hz.out]; omega))
  have hsz : w.heap.size + 4 ≤ w1.heap.size := by have := hb.size; rw [Hz.out] at this; exact this
  have hb2 : Below w.heap.size w (w1.alloc (.cells #[fv f, fv g] 69)) := hb1.alloc hb1.size _
  have HD2 : Hid (Desk2 (w1.alloc (.cells #[fv f, fv g] 69)) w.heap.size w1.heap.size f g t s (.slice a l c) (.slice a2 l2 c2)) :=
    ⟨(HX.out.keeps hb).keeps ((Grew.refl _).alloc _).below, (HY.out.keeps hb).keeps ((Grew.refl _).alloc _).below, (HR.out.keeps hb).keeps ((Grew.refl _).alloc _).below, by simp, by simp⟩
  clear hb HR HX HY HB Hz Hrow Hrow2
  obtain ⟨⟨x0, x1, x2, x3, _, _, _, _⟩, ⟨u0, u1, u2, u3, _, _, _, _⟩, _, _, _⟩ := HD2.out
  go_wp2_with fail
  refine (check_any d t _ _ (Lies.keeps hb2 _ _ _ HL.out) hs).mono ?_
  rintro e w2 ⟨rfl, hb⟩
  have hb3 : Below w.heap.size w w2 := hb2.trans (hb.mono hb2.size)
  have HD3 : Hid (Desk2 w2 w.heap.size w1.heap.size f g t s (.slice a l c) (.slice a2 l2 c2)) := HD2.out.keeps hb
  clear hb HD2 x0 x1 x2 x3 u0 u1 u2 u3 hb2 hb1
  have hB : w.heap.size + 4 ≤ w1.heap.size := hsz
  clear hsz
  generalize w1.heap.size = B at *
  cases hr : rightV d t
  · have he : errOf false = 3 := rfl
    rw [he]
    have HR3 : Hid (Bx w2 (w.heap.size + 2) zeroT (.slice none 0 0)) := HD3.out.res
    have HP2 : Hid (P = TPost nilT false 3 w) := by show _ = _; rw [← HP.out, if_neg (fun h => by rw [hr] at h; exact absurd h.1 (by simp))]
    clear he hr HP HD3
    obtain ⟨y0, y1, y2, y3, z0, z1, z2, z3⟩ := HR3.out
    have Hbx : Hid (Bx (w2.setCells (w.heap.size + 2) 0 (encP (zeroT, .slice none 0 0))) (w.heap.size + 2) zeroT (.slice none 0 0)) := HR3.out.put (zeroT, .slice none 0 0)
    have Hbl : Hid (Below w.heap.size w (w2.setCells (w.heap.size + 2) 0 (encP (zeroT, .slice none 0 0)))) := below_put hb3 (by omega) (zeroT, .slice none 0 0)
    go_wp2_with fail
    refine bodyPost_ret (v := .tuple #[.agg #[.int .i64 0, .int .i64 0, .string ⟨#[]⟩, .slice none 0 0], .bool false, .int .i64 3]) ?_ rfl (by rw [HP2.out]; exact tPost_nil Hbl.out)
    obtain ⟨q0, q1, q2, q3, _, _, _, _⟩ := Hbx.out
    simp only [encP, World.setCells, Nat.zero_add, Nat.reduceAdd] at q0 q1 q2 q3
    simp [results, Try.results16, go_sem, q0, q1, q2, q3]
  have he : errOf true = 0 := rfl
  rw [he]
  have HrT : Hid (rightV d t = true) := hr
  clear he hr
  obtain ⟨⟨x0, x1, x2, x3, _, _, _, _⟩, ⟨u0, u1, u2, u3, _, _, _, _⟩, _, _, _⟩ := HD3.out
  go_wp2_with fail
  refine (check_any d s _ _ (Lies.keeps hb3 _ _ _ HL2.out) hs2).mono ?_
  rintro e w3 ⟨rfl, hb⟩
  have hb4 : Below w.heap.size w w3 := hb3.trans (hb.mono hb3.size)
  have HD4 : Hid (Desk2 w3 w.heap.size B f g t s (.slice a l c) (.slice a2 l2 c2)) := HD3.out.keeps hb
  clear hb HD3 x0 x1 x2 x3 u0 u1 u2 u3 hb3
  cases hr : rightV d s
  · have he : errOf false = 3 := rfl
    rw [he]
    have HR3 : Hid (Bx w3 (w.heap.size + 2) zeroT (.slice none 0 0)) := HD4.out.res
    have HP2 : Hid (P = TPost nilT false 3 w) := by show _ = _; rw [← HP.out, if_neg (fun h => by rw [hr] at h; exact absurd h.2 (by simp))]
    clear he hr HP HD4
    obtain ⟨y0, y1, y2, y3, z0, z1, z2, z3⟩ := HR3.out
    have Hbx : Hid (Bx (w3.setCells (w.heap.size + 2) 0 (encP (zeroT, .slice none 0 0))) (w.heap.size + 2) zeroT (.slice none 0 0)) := HR3.out.put (zeroT, .slice none 0 0)
    have Hbl : Hid (Below w.heap.size w (w3.setCells (w.heap.size + 2) 0 (encP (zeroT, .slice none 0 0)))) := below_put hb4 (by omega) (zeroT, .slice none 0 0)
    go_wp2_with fail
    refine bodyPost_ret (v := .tuple #[.agg #[.int .i64 0, .int .i64 0, .string ⟨#[]⟩, .slice none 0 0], .bool false, .int .i64 3]) ?_ rfl (by rw [HP2.out]; exact tPost_nil Hbl.out)
    obtain ⟨q0, q1, q2, q3, _, _, _, _⟩ := Hbx.out
    simp only [encP, World.setCells, Nat.zero_add, Nat.reduceAdd] at q0 q1 q2 q3
    simp [results, Try.results16, go_sem, q0, q1, q2, q3]
  have he : errOf true = 0 := rfl
  rw [he]
  have HP2 : Hid (P = TPost r b 0 w) := by show _ = _; rw [← HP.out, if_pos ⟨HrT.out, hr⟩]
  have HfW : Hid (∀ W, Below w.heap.size w W → Calls Try.prog f #[.agg #[.int .i64 t.kind, .int .i64 t.num, .string t.text, .slice a l c], .agg #[.int .i64 s.kind, .int .i64 s.num, .string s.text, .slice a2 l2 c2]] W (FnPost (fun _ => True) r W)) := Hf.out HrT.out hr
  have HrR : Hid (rightV 16 r = true) := Hr.out HrT.out hr
  clear he hr HP Hf Hr HrT
  obtain ⟨⟨x0, x1, x2, x3, _, _, _, _⟩, ⟨u0, u1, u2, u3, _, _, _, _⟩, _, xf, _⟩ := HD4.out
  go_wp2_with (go_at_fn f; refine Calls.mono (HfW.out _ hb4) ?_; rintro e w4 ⟨v4, rfl, hl4, hb5⟩; fail)
  go_at_fn f
  refine Calls.mono (HfW.out _ hb4) ?_
  rintro e w4 ⟨v4, rfl, hl4, hb5⟩
  obtain ⟨a4, c4, rfl, _⟩ := LiesX.slice hl4
  have HL4 : Hid (Lies 16 w4 r.items (.slice a4 r.items.length c4)) := hl4.lies
  generalize r.items.length = l4 at *
  have hb6 : Below w.heap.size w (w4.alloc (.cells #[.int .i64 r.kind, .int .i64 r.num, .string r.text, .slice a4 l4 c4] 24)) := (hb4.trans (hb5.mono hb4.size)).alloc (hb4.trans (hb5.mono hb4.size)).size _
  have HD6 : Hid (Desk2 (w4.alloc (.cells #[.int .i64 r.kind, .int .i64 r.num, .string r.text, .slice a4 l4 c4] 24)) w.heap.size B f g t s (.slice a l c) (.slice a2 l2 c2)) := (HD4.out.keeps hb5).keeps ((Grew.refl _).alloc _).below
  have HV6 : Hid (Bx (w4.alloc (.cells #[.int .i64 r.kind, .int .i64 r.num, .string r.text, .slice a4 l4 c4] 24)) w4.heap.size r (.slice a4 l4 c4)) := bx_alloc w4 r _
  have HL6 : Hid (Lies 16 (w4.alloc (.cells #[.int .i64 r.kind, .int .i64 r.num, .string r.text, .slice a4 l4 c4] 24)) r.items (.slice a4 l4 c4)) := Lies.keeps ((Grew.refl w4).alloc _).below _ _ _ HL4.out
  have hB2 : B < w4.heap.size := cell_lt (cell_keeps hb5 HD4.out.fn)
  clear hl4 hb5 HD4 hb4 x0 x1 x2 x3 u0 u1 u2 u3 xf HL4 HfW
  go_wp2_with fail
  generalize w4.alloc (.cells #[.int .i64 r.kind, .int .i64 r.num, .string r.text, .slice a4 l4 c4] 24) = W6 at *
  generalize w4.heap.size = B2 at *
  obtain ⟨x0, x1, x2, x3, _, _, _, _⟩ := HV6.out
  have xg := HD6.out.st
  have n1 : B2 ≠ w.heap.size + 1 + 1 := by omega
  have n2 : B ≠ w.heap.size + 1 + 1 := by omega
  go_region_held3 (fun w' => w'.cell? ⟨B2, 0, none⟩ = some (.int .i64 r.kind) ∧ w'.cell? ⟨B2, 1, none⟩ = some (.int .i64 r.num) ∧ w'.cell? ⟨B2, 2, none⟩ = some (.string r.text) ∧ w'.cell? ⟨B2, 3, none⟩ = some (.slice a4 l4 c4) ∧ w'.cell? ⟨B, 1, none⟩ = some (fv g)) (first | go_keep | exact ⟨set4_keep n1 m0, set4_keep n1 m1, set4_keep n1 m2, set4_keep n1 m3, set4_keep n2 mg⟩)
    (first | (go_at_call 24; refine (copy_right r (.slice a4 l4 c4) _ (Lies.keeps (Below.refl W6.heap.size W6).drew _ _ _ HL6.out) HrR.out).mono ?_; rintro e w7 ⟨v7, rfl, hl7, hb⟩; have hb7 : Below W6.heap.size W6 w7 := (Below.refl _ _).drew.trans hb; have hl7' : LiesB W6.heap.size 16 w7 r.items v7 := hl7; clear hl7 hb; have k0 := cell_keeps hb7 x0; have k1 := cell_keeps hb7 x1; have k2 := cell_keeps hb7 x2; have k3 := cell_keeps hb7 x3; have kg := cell_keeps hb7 xg; clear x0 x1 x2 x3 xg; obtain ⟨a7, c7, rfl, _⟩ := LiesB.slice hl7'; have HL7 : Hid (LiesB W6.heap.size 16 w7 r.items (.slice a7 r.items.length c7)) := hl7'; clear hl7')
           | (go_at_fn g; refine Calls.mono (Hg.out (.slice a4 l4 c4) _ (Lies.keeps hb7 _ _ _ HL6.out)) ?_; rintro e w8 ⟨rfl, hb⟩; have hb8 : Below W6.heap.size W6 w8 := hb7.trans (hb.mono hb7.size); have m0 := cell_keeps hb k0; have m1 := cell_keeps hb k1; have m2 := cell_keeps hb k2; have m3 := cell_keeps hb k3; have mg := cell_keeps hb kg; clear k0 k1 k2 k3 kg; have HL8 : Hid (LiesB W6.heap.size 16 w8 r.items (.slice a7 r.items.length c7)) := LiesB.stays (fun a v _ hv => ⟨cell_keeps hb hv, hb.frozen (cell_lt hv)⟩) _ _ _ HL7.out; clear HL7 hb; have HR8 : Hid (Bx w8 (w.heap.size + 2) zeroT (.slice none 0 0)) := HD6.out.res.keeps hb8; obtain ⟨y0, y1, y2, y3, z0, z1, z2, z3⟩ := HR8.out))
  have Hbx : Hid (Bx (w8.setCells (w.heap.size + 2) 0 (encP (r, .slice a7 r.items.length c7))) (w.heap.size + 2) r (.slice a7 r.items.length c7)) := HR8.out.put (r, .slice a7 r.items.length c7)
  have hbw : Below w.heap.size w w8 := hb6.trans (hb8.mono hb6.size)
  have Hbl : Hid (Below w.heap.size w (w8.setCells (w.heap.size + 2) 0 (encP (r, .slice a7 r.items.length c7)))) := below_put hbw (by omega) (r, .slice a7 r.items.length c7)
  have hsz6 : w.heap.size + 2 < W6.heap.size := cell_lt HD6.out.res.c0
  have Hfin : Hid (LiesX (fun b => w.heap.size ≤ b) 16 (w8.setCells (w.heap.size + 2) 0 (encP (r, .slice a7 r.items.length c7))) r.items (.slice a7 r.items.length c7)) := ((LiesX.of_b HL8.out).set (g := w.heap.size + 2) (by omega)).mono (fun b hb => by omega)
  go_wp2_with fail
  refine bodyPost_ret (v := .tuple #[.agg #[.int .i64 r.kind, .int .i64 r.num, .string r.text, .slice a7 r.items.length c7], .bool b, .int .i64 0]) ?_ rfl (by rw [HP2.out]; exact ⟨_, rfl, Hfin.out, Hbl.out⟩)
  obtain ⟨q0, q1, q2, q3, _, _, _, _⟩ := Hbx.out
  simp only [encP, World.setCells, Nat.zero_add, Nat.reduceAdd] at q0 q1 q2 q3
  simp [results, Try.results16, go_sem, q0, q1, q2, q3]

end Go.Proofs.Ytacnfmamjbmhcaa

namespace Go.Proofs.Ytacnfmamjbmhcaa
open Go.RowKit

abbrev eaS : ByteArray := ⟨#[195, 169, 97]⟩
abbrev eS : ByteArray := ⟨#[195, 169]⟩

theorem ea_right : rightV 0 ⟨3, 0, eaS, []⟩ = true := by kernel_rfl
theorem ea_first : doneT 4 ⟨3, 0, eaS, []⟩ = ⟨3, 0, eS, []⟩ := by
  show firstT ⟨3, 0, eaS, []⟩ = ⟨3, 0, eS, []⟩
  unfold firstT
  rw [if_pos rfl, if_pos (show 0 < eaS.size by decide)]
  have e : firstS eaS = eS := by kernel_rfl
  rw [e]

theorem ea_times : timesE 0 4 1 ⟨3, 0, eaS, []⟩ = 0 ∧ timesT 0 4 1 ⟨3, 0, eaS, []⟩ = ⟨3, 0, eS, []⟩ := by
  have h : timesE 0 4 1 ⟨3, 0, eaS, []⟩ = 0 := by
    unfold timesE
    rw [if_neg (by omega), if_neg (by omega), if_pos ea_right]
  refine ⟨h, ?_⟩
  unfold timesT
  rw [if_pos h]
  exact ea_first

theorem four_is : isE 0 3 (intT 4) = 0 ∧ isZ 0 3 (intT 4) = true := by
  have h : isE 0 3 (intT 4) = 0 := by kernel_rfl
  refine ⟨h, ?_⟩
  unfold isZ
  rw [if_pos h]
  kernel_rfl

set_option maxHeartbeats 400000 in
theorem text_any (s : ByteArray) (w : World) : Calls Try.prog 25 #[.string s] w fun e w' => e = .returned (.agg #[.int .i64 3, .int .i64 0, .string s, .slice none 0 0]) ∧ Below w.heap.size w w' := by
  go_enter Try.func25, Try.ntmps25
  go_wp2_with fail
  exact bodyPost_ret (v := .agg #[.int .i64 3, .int .i64 0, .string s, .slice none 0 0]) (by simp [results, Try.results25, go_sem]) rfl ⟨rfl, ((Grew.refl _).alloc _).below⟩

theorem int_right0 (n : Int) : rightV 0 (intT n) = true := by
  simp [rightV, fw, rpV, ownV, okNum, okText, okItems, intT]

theorem sum_two (w : World) : Calls Try.prog 16 #[.int .i64 6, .agg #[.int .i64 2, .int .i64 60, .string ⟨#[]⟩, .slice none 0 0], .agg #[.int .i64 2, .int .i64 50, .string ⟨#[]⟩, .slice none 0 0]] w (TPost (intT 110) true 0 w) := by
  have hn : ∀ (W : World) (n : Int), Lies 16 W (intT n).items (.slice none 0 0) := fun W n => (liesX_nil (fun _ => True) 16 W none 0).lies
  have hx : ∀ (W : World) (n : Int), LiesX (fun _ => True) 16 W (intT n).items (.slice none 0 0) := fun W n => liesX_nil _ 16 W none 0
  have h := two_core 0 6 57 63 (intT 60) (intT 50) (intT 110) true (.slice none 0 0) (.slice none 0 0) w ⟨rfl, none, 0, rfl⟩ ⟨rfl, none, 0, rfl⟩ (by show 0 ≤ 9223372036854775807; omega) (by show 0 ≤ 9223372036854775807; omega) (by omega)
    (fun x y => start4_row w _ _ x y 6 (by omega)) (fun x y => start4_row2 w _ _ x y 6 (by omega)) (twoF_enters 6 (by omega)) (stopF_enters 6 (by omega))
    (fun _ _ W _ => by
      have h := add_any (fun _ => True) (intT 60) (intT 50) none none 0 0 0 0 W (hx W 60) (hx W 50)
      rw [show addT (intT 60) (intT 50) = intT 110 by kernel_rfl] at h
      exact h)
    (fun x W hl => by
      obtain ⟨a, c, rfl, _⟩ := Lies.slice hl
      exact isGreat_any (intT 110) a _ c W)
    (fun _ _ => int_right 110)
  rw [if_pos ⟨int_right0 60, int_right0 50⟩] at h
  exact h

set_option maxHeartbeats 2000000 in
theorem speaks_any (w : World) : Calls Try.prog 13 #[] w fun e w' => e = .returned (.bool true) ∧ Below w.heap.size w w' := by
  go_enter Try.func13, Try.ntmps13
  go_wp2_with fail
  refine (text_any eaS _).mono ?_
  rintro e w1 ⟨rfl, hb1⟩
  go_wp2_with fail
  refine (one_any 0 4 ⟨3, 0, eaS, []⟩ (.slice none 0 0) _ ⟨rfl, none, 0, rfl⟩ (by decide)).mono ?_
  rw [ea_times.1, ea_times.2]
  rintro e w2 ⟨u2, rfl, hl2, hb⟩
  obtain ⟨a2, c2, rfl, _⟩ := LiesX.slice hl2
  have hb2 : Below w.heap.size w w2 := hb1.trans (hb.mono hb1.size)
  have hb2' : Below w.heap.size w (w2.alloc (.cells #[.int .i64 3, .int .i64 0, .string eS, .slice a2 0 c2] 24)) := hb2.alloc hb2.size _
  have hx2 : (w2.alloc (.cells #[.int .i64 3, .int .i64 0, .string eS, .slice a2 0 c2] 24)).cell? ⟨w2.heap.size, 2, none⟩ = some (.string eS) := by simp
  have Hx2 : Hid ((w2.alloc (.cells #[.int .i64 3, .int .i64 0, .string eS, .slice a2 0 c2] 24)).cell? ⟨w2.heap.size, 2, none⟩ = some (.string eS)) := hx2
  clear hb hb1 hl2 hx2 hb2
  go_wp2_with fail
  refine (int_any 60 _).mono ?_
  rintro e w3 ⟨rfl, hg⟩
  have hb3 := hb2'.trans (hg.below.mono hb2'.size)
  have Hx3 : Hid (w3.cell? ⟨w2.heap.size, 2, none⟩ = some (.string eS)) := cell_keeps hg.below Hx2.out
  clear hg hb2' Hx2
  generalize w2.heap.size = B at *
  go_wp2_with fail
  refine (int_any 50 _).mono ?_
  rintro e w4 ⟨rfl, hg⟩
  have hb4 := hb3.trans (hg.below.mono hb3.size)
  have Hx4 : Hid (w4.cell? ⟨B, 2, none⟩ = some (.string eS)) := cell_keeps hg.below Hx3.out
  clear hg hb3 Hx3
  go_wp2_with fail
  refine (sum_two _).mono ?_
  rintro e w5 ⟨u5, rfl, hl5, hb⟩
  obtain ⟨a5, c5, rfl, _⟩ := LiesX.slice hl5
  have hb5 := hb4.trans (hb.mono hb4.size)
  have hb5' : Below w.heap.size w (w5.alloc (.cells #[.int .i64 2, .int .i64 110, .string ⟨#[]⟩, .slice a5 0 c5] 24)) := hb5.alloc hb5.size _
  have Hx5 : Hid ((w5.alloc (.cells #[.int .i64 2, .int .i64 110, .string ⟨#[]⟩, .slice a5 0 c5] 24)).cell? ⟨B, 2, none⟩ = some (.string eS)) := cell_keeps ((Grew.refl _).alloc _).below (cell_keeps hb Hx4.out)
  have Hy5 : Hid ((w5.alloc (.cells #[.int .i64 2, .int .i64 110, .string ⟨#[]⟩, .slice a5 0 c5] 24)).cell? ⟨w5.heap.size, 1, none⟩ = some (.int .i64 110)) := by show _ = _; simp
  clear hb hl5 hb4 Hx4 hb5
  have e1 : (intT 110).kind = 2 := rfl
  have e2 : (intT 110).num = 110 := rfl
  have e3 : (intT 110).text = ⟨#[]⟩ := rfl
  have e4 : (intT 110).items = [] := rfl
  rw [e1, e2, e3, e4]
  clear e1 e2 e3 e4
  go_wp2_with fail
  refine (int_any 4 _).mono ?_
  rintro e w6 ⟨rfl, hg⟩
  have hb6 := hb5'.trans (hg.below.mono hb5'.size)
  have Hx6 : Hid (w6.cell? ⟨B, 2, none⟩ = some (.string eS)) := cell_keeps hg.below Hx5.out
  have Hy6 : Hid (w6.cell? ⟨w5.heap.size, 1, none⟩ = some (.int .i64 110)) := cell_keeps hg.below Hy5.out
  clear hg hb5' Hx5 Hy5
  generalize w5.heap.size = B5 at *
  go_wp2_with fail
  refine (pis_any 0 3 (intT 4) (.slice none 0 0) _ ⟨rfl, none, 0, rfl⟩ (by show 0 ≤ 9223372036854775807; omega)).mono ?_
  rw [four_is.1, four_is.2]
  rintro e w7 ⟨rfl, hb⟩
  have hb7 := hb6.trans (hb.mono hb6.size)
  have x7 := cell_keeps hb Hx6.out
  have y7 := cell_keeps hb Hy6.out
  clear hb hb6 Hx6 Hy6
  go_wp2_with fail
  go_ret
  exact ⟨rfl, hb7⟩

end Go.Proofs.Ytacnfmamjbmhcaa

