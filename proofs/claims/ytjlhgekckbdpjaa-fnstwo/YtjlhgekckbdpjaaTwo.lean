/-
  The contracts of the functions of two values, but for conj.
-/
import Derived.Test.YtjlhgekckbdpjaaIs
namespace Go.Proofs.Ytjlhgekckbdpjaa
open Go.RowKit

def addI (a b : Int) : Int := wrap64 (a + b)

/-- TwoAdd, TwoMax, TwoMin, TwoCount. -/
def addT (t s : VT) : VT := if t.kind = 2 ∧ s.kind = 2 then intT (addI t.num s.num) else t
def maxT (t s : VT) : VT := if cmpV 16 t s < 0 then s else t
def minT (t s : VT) : VT := if 0 < cmpV 16 t s then s else t
def countT (t : VT) : VT := if t.kind = 2 then intT (incI t.num) else intT 1
def stopB (t : VT) : Bool := t.kind == 2 && decide (100 < t.num)

def two3 (w : World) (t s : VT) (u v : Value) : World :=
  ((w.alloc (.cells #[.int .i64 t.kind, .int .i64 t.num, .string t.text, u] 24)).alloc (.cells #[.int .i64 s.kind, .int .i64 s.num, .string s.text, v] 24)).alloc (.cells #[.int .i64 0, .int .i64 0, .string ⟨#[]⟩, .slice none 0 0] 24)

theorem two3_below (w : World) (t s : VT) (u v : Value) : Below w.heap.size w (two3 w t s u v) := grew3 _ _ _ _
theorem two3_first (w : World) (t s : VT) (u v : Value) : Bx (two3 w t s u v) w.heap.size t u := (bx_alloc w t u).keeps (Grew.two _ _ _).below
theorem two3_second (w : World) (t s : VT) (u v : Value) : Bx (two3 w t s u v) (w.heap.size + 1) s v := by
  have := (bx_alloc (w.alloc (.cells #[.int .i64 t.kind, .int .i64 t.num, .string t.text, u] 24)) s v).keeps ((Grew.refl _).alloc (.cells #[.int .i64 0, .int .i64 0, .string ⟨#[]⟩, .slice none 0 0] 24)).below
  rwa [World.size_alloc] at this
theorem two3_res (w : World) (t s : VT) (u v : Value) : Bx (two3 w t s u v) (w.heap.size + 2) zeroT (.slice none 0 0) := by
  have := bx_alloc ((w.alloc (.cells #[.int .i64 t.kind, .int .i64 t.num, .string t.text, u] 24)).alloc (.cells #[.int .i64 s.kind, .int .i64 s.num, .string s.text, v] 24)) zeroT (.slice none 0 0)
  rwa [World.size_alloc, World.size_alloc] at this
theorem two3_size (w : World) (t s : VT) (u v : Value) : (two3 w t s u v).heap.size = w.heap.size + 3 := by unfold two3; simp

theorem grew4 (w : World) (o1 o2 o3 o4 : Obj) : Below w.heap.size w ((((w.alloc o1).alloc o2).alloc o3).alloc o4) := (((Grew.two w o1 o2).alloc o3).alloc o4).below
theorem grew5 (w : World) (o1 o2 o3 o4 o5 : Obj) : Below w.heap.size w (((((w.alloc o1).alloc o2).alloc o3).alloc o4).alloc o5) := ((((Grew.two w o1 o2).alloc o3).alloc o4).alloc o5).below
theorem grew6 (w : World) (o1 o2 o3 o4 o5 o6 : Obj) : Below w.heap.size w ((((((w.alloc o1).alloc o2).alloc o3).alloc o4).alloc o5).alloc o6) := (((((Grew.two w o1 o2).alloc o3).alloc o4).alloc o5).alloc o6).below

set_option maxHeartbeats 1000000 in
theorem add_any (X : Nat → Prop) (t s : VT) (a a2 : Option Addr) (l c l2 c2 : Nat) (w : World) (h : LiesX X 16 w t.items (.slice a l c)) (h2 : LiesX X 16 w s.items (.slice a2 l2 c2)) : Calls Try.prog 57 #[.agg #[.int .i64 t.kind, .int .i64 t.num, .string t.text, .slice a l c], .agg #[.int .i64 s.kind, .int .i64 s.num, .string s.text, .slice a2 l2 c2]] w (FnPost X (addT t s) w) := by
  have HL : Hid (LiesX X 16 w t.items (.slice a l c)) := h
  have HL2 : Hid (LiesX X 16 w s.items (.slice a2 l2 c2)) := h2
  clear h h2
  cases hk : (t.kind == 2)
  · have e : addT t s = t := by unfold addT; rw [if_neg (fun h => by simp [h.1] at hk)]
    rw [e]
    clear e
    go_enter Try.func57, Try.ntmps57
    go_wp2_with (first | (go_at_call 51; refine (isInt_any _ _ _ _ _).mono ?_; rintro e w' ⟨rfl, rfl⟩) | (go_at_call 75; refine (number_any _ _).mono ?_; rintro e w' ⟨rfl, rfl⟩))
    exact bodyPost_ret (v := .agg #[.int .i64 t.kind, .int .i64 t.num, .string t.text, .slice a l c]) (by simp [results, Try.results57, go_sem]) rfl  (fnPost_same HL.out (grew4 _ _ _ _ _))
  · cases hk2 : (s.kind == 2)
    · have e : addT t s = t := by unfold addT; rw [if_neg (fun h => by simp [h.2] at hk2)]
      rw [e]
      clear e
      go_enter Try.func57, Try.ntmps57
      go_wp2_with (first | (go_at_call 51; refine (isInt_any _ _ _ _ _).mono ?_; rintro e w' ⟨rfl, rfl⟩) | (go_at_call 75; refine (number_any _ _).mono ?_; rintro e w' ⟨rfl, rfl⟩))
      exact bodyPost_ret (v := .agg #[.int .i64 t.kind, .int .i64 t.num, .string t.text, .slice a l c]) (by simp [results, Try.results57, go_sem]) rfl  (fnPost_same HL.out (grew5 _ _ _ _ _ _))
    · have e : addT t s = intT (addI t.num s.num) := by unfold addT; rw [if_pos ⟨by simpa using hk, by simpa using hk2⟩]
      rw [e]
      clear e
      go_enter Try.func57, Try.ntmps57
      go_wp2_with (first | (go_at_call 51; refine (isInt_any _ _ _ _ _).mono ?_; rintro e w' ⟨rfl, rfl⟩) | (go_at_call 75; refine (number_any _ _).mono ?_; rintro e w' ⟨rfl, rfl⟩))
      exact bodyPost_ret (v := .agg #[.int .i64 2, .int .i64 (addI t.num s.num), .string ⟨#[]⟩, .slice none 0 0]) (by simp [results, Try.results57, go_sem, addI]) rfl (fnPost_int (grew6 _ _ _ _ _ _ _))

set_option maxHeartbeats 1000000 in
theorem left_any (X : Nat → Prop) (t s : VT) (a a2 : Option Addr) (l c l2 c2 : Nat) (w : World) (h : LiesX X 16 w t.items (.slice a l c)) (h2 : LiesX X 16 w s.items (.slice a2 l2 c2)) : Calls Try.prog 61 #[.agg #[.int .i64 t.kind, .int .i64 t.num, .string t.text, .slice a l c], .agg #[.int .i64 s.kind, .int .i64 s.num, .string s.text, .slice a2 l2 c2]] w (FnPost X t w) := by
  have HL : Hid (LiesX X 16 w t.items (.slice a l c)) := h
  have HL2 : Hid (LiesX X 16 w s.items (.slice a2 l2 c2)) := h2
  clear h h2
  clear HL2
  go_enter Try.func61, Try.ntmps61
  go_wp2_with fail
  exact bodyPost_ret (v := .agg #[.int .i64 t.kind, .int .i64 t.num, .string t.text, .slice a l c]) (by simp [results, Try.results61, go_sem]) rfl  (fnPost_same HL.out (grew3 _ _ _ _))

set_option maxHeartbeats 1000000 in
theorem right_any2 (X : Nat → Prop) (t s : VT) (a a2 : Option Addr) (l c l2 c2 : Nat) (w : World) (h : LiesX X 16 w t.items (.slice a l c)) (h2 : LiesX X 16 w s.items (.slice a2 l2 c2)) : Calls Try.prog 62 #[.agg #[.int .i64 t.kind, .int .i64 t.num, .string t.text, .slice a l c], .agg #[.int .i64 s.kind, .int .i64 s.num, .string s.text, .slice a2 l2 c2]] w (FnPost X s w) := by
  have HL : Hid (LiesX X 16 w t.items (.slice a l c)) := h
  have HL2 : Hid (LiesX X 16 w s.items (.slice a2 l2 c2)) := h2
  clear h h2
  clear HL
  go_enter Try.func62, Try.ntmps62
  go_wp2_with fail
  exact bodyPost_ret (v := .agg #[.int .i64 s.kind, .int .i64 s.num, .string s.text, .slice a2 l2 c2]) (by simp [results, Try.results62, go_sem]) rfl  (fnPost_same HL2.out (grew3 _ _ _ _))

set_option maxHeartbeats 400000 in
theorem inc_int (t : VT) (a : Option Addr) (l c : Nat) (w : World) (hk : (t.kind == 2) = true) : Calls Try.prog 40 #[.agg #[.int .i64 t.kind, .int .i64 t.num, .string t.text, .slice a l c]] w fun e w' => e = .returned (.agg #[.int .i64 2, .int .i64 (incI t.num), .string ⟨#[]⟩, .slice none 0 0]) ∧ ∃ o1 o2 o3, w' = ((w.alloc o1).alloc o2).alloc o3 := by
  have hk' : (t.kind != 2) = false := by simp [bne, hk]
  go_enter Try.func40, Try.ntmps40
  go_wp2_with (go_at_call 75; refine (number_any _ _).mono ?_; rintro e w' ⟨rfl, rfl⟩)
  exact bodyPost_ret (v := .agg #[.int .i64 2, .int .i64 (incI t.num), .string ⟨#[]⟩, .slice none 0 0]) (by simp [results, Try.results40, go_sem, incI]) rfl ⟨rfl, _, _, _, rfl⟩

set_option maxHeartbeats 1000000 in
theorem count_any (X : Nat → Prop) (t s : VT) (a a2 : Option Addr) (l c l2 c2 : Nat) (w : World) (h : LiesX X 16 w t.items (.slice a l c)) (h2 : LiesX X 16 w s.items (.slice a2 l2 c2)) : Calls Try.prog 64 #[.agg #[.int .i64 t.kind, .int .i64 t.num, .string t.text, .slice a l c], .agg #[.int .i64 s.kind, .int .i64 s.num, .string s.text, .slice a2 l2 c2]] w (FnPost X (countT t) w) := by
  have HL : Hid (LiesX X 16 w t.items (.slice a l c)) := h
  have HL2 : Hid (LiesX X 16 w s.items (.slice a2 l2 c2)) := h2
  clear h h2
  clear HL2 HL
  cases hk : (t.kind == 2)
  · have e : countT t = intT 1 := by unfold countT; rw [if_neg (by simpa using hk)]
    rw [e]
    clear e
    go_enter Try.func64, Try.ntmps64
    go_wp2_with (first | (go_at_call 51; refine (isInt_any _ _ _ _ _).mono ?_; rintro e w' ⟨rfl, rfl⟩) | (go_at_call 75; refine (number_any _ _).mono ?_; rintro e w' ⟨rfl, rfl⟩))
    exact bodyPost_ret (v := .agg #[.int .i64 2, .int .i64 1, .string ⟨#[]⟩, .slice none 0 0]) (by simp [results, Try.results64, go_sem]) rfl (fnPost_int (grew5 _ _ _ _ _ _))
  · have e : countT t = intT (incI t.num) := by unfold countT; rw [if_pos (by simpa using hk)]
    rw [e]
    clear e
    go_enter Try.func64, Try.ntmps64
    go_wp2_with (first | (go_at_call 51; refine (isInt_any _ _ _ _ _).mono ?_; rintro e w' ⟨rfl, rfl⟩) | (go_at_call 40; refine (inc_int t _ _ _ _ hk).mono ?_; rintro e w' ⟨rfl, o1, o2, o3, rfl⟩))
    generalize incI t.num = I at *
    exact bodyPost_ret (v := .agg #[.int .i64 2, .int .i64 I, .string ⟨#[]⟩, .slice none 0 0]) (by simp [results, Try.results64, go_sem]) rfl (fnPost_int ((((Grew.two _ _ _).alloc _).alloc _).alloc _ |>.alloc _ |>.alloc _).below)

set_option maxHeartbeats 1000000 in
theorem isGreat_any (t : VT) (a : Option Addr) (l c : Nat) (w : World) : Calls Try.prog 63 #[.agg #[.int .i64 t.kind, .int .i64 t.num, .string t.text, .slice a l c]] w (QPost (stopB t) w) := by
  cases hk : (t.kind == 2)
  · go_enter Try.func63, Try.ntmps63
    go_wp2_with (first | (go_at_call 51; refine (isInt_any _ _ _ _ _).mono ?_; rintro e w' ⟨rfl, rfl⟩) | (go_at_call 75; refine (number_any _ _).mono ?_; rintro e w' ⟨rfl, rfl⟩))
    go_ret
    exact ⟨by simp [stopB, hk], (Grew.two _ _ _).below⟩
  · go_enter Try.func63, Try.ntmps63
    go_wp2_with (first | (go_at_call 51; refine (isInt_any _ _ _ _ _).mono ?_; rintro e w' ⟨rfl, rfl⟩) | (go_at_call 75; refine (number_any _ _).mono ?_; rintro e w' ⟨rfl, rfl⟩))
    go_ret
    exact ⟨by simp [stopB, hk], (Grew.two _ _ _).below⟩

set_option maxHeartbeats 1000000 in
theorem greater_any (X : Nat → Prop) (t s : VT) (a a2 : Option Addr) (l c l2 c2 : Nat) (w : World) (h : LiesX X 16 w t.items (.slice a l c)) (h2 : LiesX X 16 w s.items (.slice a2 l2 c2)) : Calls Try.prog 58 #[.agg #[.int .i64 t.kind, .int .i64 t.num, .string t.text, .slice a l c], .agg #[.int .i64 s.kind, .int .i64 s.num, .string s.text, .slice a2 l2 c2]] w (FnPost X (maxT t s) w) := by
  have hbz := two3_below w t s (.slice a l c) (.slice a2 l2 c2)
  have HX : Hid (Bx (two3 w t s (.slice a l c) (.slice a2 l2 c2)) w.heap.size t (.slice a l c)) := two3_first _ _ _ _ _
  have HY : Hid (Bx (two3 w t s (.slice a l c) (.slice a2 l2 c2)) (w.heap.size + 1) s (.slice a2 l2 c2)) := two3_second _ _ _ _ _
  have HR : Hid (Bx (two3 w t s (.slice a l c) (.slice a2 l2 c2)) (w.heap.size + 2) zeroT (.slice none 0 0)) := two3_res _ _ _ _ _
  have Hz : Hid ((two3 w t s (.slice a l c) (.slice a2 l2 c2)).heap.size = w.heap.size + 3) := two3_size _ _ _ _ _
  have HXl : Hid (LiesX (fun b => X b ∧ b < w.heap.size) 16 w t.items (.slice a l c)) := LiesX.both h
  have HYl : Hid (LiesX (fun b => X b ∧ b < w.heap.size) 16 w s.items (.slice a2 l2 c2)) := LiesX.both h2
  have HL : Hid (LiesX X 16 w t.items (.slice a l c)) := h
  have HL2 : Hid (LiesX X 16 w s.items (.slice a2 l2 c2)) := h2
  clear h h2
  go_enter Try.func58, Try.ntmps58
  go_wp2_with fail
  refine (compare_any 16 t s _ _ _ (Lies.keeps hbz _ _ _ HL.out.lies) (Lies.keeps hbz _ _ _ HL2.out.lies)).mono ?_
  rintro e w1 ⟨rfl, hg⟩
  have hb : Below (two3 w t s (.slice a l c) (.slice a2 l2 c2)).heap.size (two3 w t s (.slice a l c) (.slice a2 l2 c2)) w1 := hg.below
  have hb1 : Below w.heap.size w w1 := hbz.trans (hb.mono (by rw [Hz.out]; omega))
  have HR1 : Hid (Bx w1 (w.heap.size + 2) zeroT (.slice none 0 0)) := HR.out.keeps hb
  obtain ⟨x0, x1, x2, x3, _, _, _, _⟩ := HX.out.keeps hb
  obtain ⟨u0, u1, u2, u3, _, _, _, _⟩ := HY.out.keeps hb
  obtain ⟨y0, y1, y2, y3, z0, z1, z2, z3⟩ := HR1.out
  clear hg hb hbz HX HY HR Hz
  by_cases hc : cmpV 16 t s < 0
  · have e : Hid (maxT t s = s) := if_pos hc
    have Hbx : Hid (Bx (w1.setCells (w.heap.size + 2) 0 (encP (s, .slice a2 l2 c2))) (w.heap.size + 2) s (.slice a2 l2 c2)) := HR1.out.put (s, .slice a2 l2 c2)
    have Hbl : Hid (Below w.heap.size w (w1.setCells (w.heap.size + 2) 0 (encP (s, .slice a2 l2 c2)))) := below_put hb1 (by omega) (s, .slice a2 l2 c2)
    have Hfin : Hid (LiesX (fun b => X b ∨ w.heap.size ≤ b) 16 (w1.setCells (w.heap.size + 2) 0 (encP (s, .slice a2 l2 c2))) s.items (.slice a2 l2 c2)) := ((HYl.out.keeps hb1).set (g := w.heap.size + 2) (by omega)).mono (fun b hb => .inl hb.1)
    go_wp2_with fail
    refine bodyPost_ret (v := .agg #[.int .i64 s.kind, .int .i64 s.num, .string s.text, .slice a2 l2 c2]) ?_ rfl (by rw [e.out]; exact ⟨_, rfl, Hfin.out, Hbl.out⟩)
    obtain ⟨q0, q1, q2, q3, _, _, _, _⟩ := Hbx.out
    simp only [encP, World.setCells, Nat.zero_add, Nat.reduceAdd] at q0 q1 q2 q3
    simp [results, Try.results58, go_sem, q0, q1, q2, q3]
  · have e : Hid (maxT t s = t) := if_neg hc
    have Hbx : Hid (Bx (w1.setCells (w.heap.size + 2) 0 (encP (t, .slice a l c))) (w.heap.size + 2) t (.slice a l c)) := HR1.out.put (t, .slice a l c)
    have Hbl : Hid (Below w.heap.size w (w1.setCells (w.heap.size + 2) 0 (encP (t, .slice a l c)))) := below_put hb1 (by omega) (t, .slice a l c)
    have Hfin : Hid (LiesX (fun b => X b ∨ w.heap.size ≤ b) 16 (w1.setCells (w.heap.size + 2) 0 (encP (t, .slice a l c))) t.items (.slice a l c)) := ((HXl.out.keeps hb1).set (g := w.heap.size + 2) (by omega)).mono (fun b hb => .inl hb.1)
    go_wp2_with fail
    refine bodyPost_ret (v := .agg #[.int .i64 t.kind, .int .i64 t.num, .string t.text, .slice a l c]) ?_ rfl (by rw [e.out]; exact ⟨_, rfl, Hfin.out, Hbl.out⟩)
    obtain ⟨q0, q1, q2, q3, _, _, _, _⟩ := Hbx.out
    simp only [encP, World.setCells, Nat.zero_add, Nat.reduceAdd] at q0 q1 q2 q3
    simp [results, Try.results58, go_sem, q0, q1, q2, q3]

set_option maxHeartbeats 1000000 in
theorem lesser_any (X : Nat → Prop) (t s : VT) (a a2 : Option Addr) (l c l2 c2 : Nat) (w : World) (h : LiesX X 16 w t.items (.slice a l c)) (h2 : LiesX X 16 w s.items (.slice a2 l2 c2)) : Calls Try.prog 59 #[.agg #[.int .i64 t.kind, .int .i64 t.num, .string t.text, .slice a l c], .agg #[.int .i64 s.kind, .int .i64 s.num, .string s.text, .slice a2 l2 c2]] w (FnPost X (minT t s) w) := by
  have hbz := two3_below w t s (.slice a l c) (.slice a2 l2 c2)
  have HX : Hid (Bx (two3 w t s (.slice a l c) (.slice a2 l2 c2)) w.heap.size t (.slice a l c)) := two3_first _ _ _ _ _
  have HY : Hid (Bx (two3 w t s (.slice a l c) (.slice a2 l2 c2)) (w.heap.size + 1) s (.slice a2 l2 c2)) := two3_second _ _ _ _ _
  have HR : Hid (Bx (two3 w t s (.slice a l c) (.slice a2 l2 c2)) (w.heap.size + 2) zeroT (.slice none 0 0)) := two3_res _ _ _ _ _
  have Hz : Hid ((two3 w t s (.slice a l c) (.slice a2 l2 c2)).heap.size = w.heap.size + 3) := two3_size _ _ _ _ _
  have HXl : Hid (LiesX (fun b => X b ∧ b < w.heap.size) 16 w t.items (.slice a l c)) := LiesX.both h
  have HYl : Hid (LiesX (fun b => X b ∧ b < w.heap.size) 16 w s.items (.slice a2 l2 c2)) := LiesX.both h2
  have HL : Hid (LiesX X 16 w t.items (.slice a l c)) := h
  have HL2 : Hid (LiesX X 16 w s.items (.slice a2 l2 c2)) := h2
  clear h h2
  go_enter Try.func59, Try.ntmps59
  go_wp2_with fail
  refine (compare_any 16 t s _ _ _ (Lies.keeps hbz _ _ _ HL.out.lies) (Lies.keeps hbz _ _ _ HL2.out.lies)).mono ?_
  rintro e w1 ⟨rfl, hg⟩
  have hb : Below (two3 w t s (.slice a l c) (.slice a2 l2 c2)).heap.size (two3 w t s (.slice a l c) (.slice a2 l2 c2)) w1 := hg.below
  have hb1 : Below w.heap.size w w1 := hbz.trans (hb.mono (by rw [Hz.out]; omega))
  have HR1 : Hid (Bx w1 (w.heap.size + 2) zeroT (.slice none 0 0)) := HR.out.keeps hb
  obtain ⟨x0, x1, x2, x3, _, _, _, _⟩ := HX.out.keeps hb
  obtain ⟨u0, u1, u2, u3, _, _, _, _⟩ := HY.out.keeps hb
  obtain ⟨y0, y1, y2, y3, z0, z1, z2, z3⟩ := HR1.out
  clear hg hb hbz HX HY HR Hz
  by_cases hc : 0 < cmpV 16 t s
  · have e : Hid (minT t s = s) := if_pos hc
    have Hbx : Hid (Bx (w1.setCells (w.heap.size + 2) 0 (encP (s, .slice a2 l2 c2))) (w.heap.size + 2) s (.slice a2 l2 c2)) := HR1.out.put (s, .slice a2 l2 c2)
    have Hbl : Hid (Below w.heap.size w (w1.setCells (w.heap.size + 2) 0 (encP (s, .slice a2 l2 c2)))) := below_put hb1 (by omega) (s, .slice a2 l2 c2)
    have Hfin : Hid (LiesX (fun b => X b ∨ w.heap.size ≤ b) 16 (w1.setCells (w.heap.size + 2) 0 (encP (s, .slice a2 l2 c2))) s.items (.slice a2 l2 c2)) := ((HYl.out.keeps hb1).set (g := w.heap.size + 2) (by omega)).mono (fun b hb => .inl hb.1)
    go_wp2_with fail
    refine bodyPost_ret (v := .agg #[.int .i64 s.kind, .int .i64 s.num, .string s.text, .slice a2 l2 c2]) ?_ rfl (by rw [e.out]; exact ⟨_, rfl, Hfin.out, Hbl.out⟩)
    obtain ⟨q0, q1, q2, q3, _, _, _, _⟩ := Hbx.out
    simp only [encP, World.setCells, Nat.zero_add, Nat.reduceAdd] at q0 q1 q2 q3
    simp [results, Try.results59, go_sem, q0, q1, q2, q3]
  · have e : Hid (minT t s = t) := if_neg hc
    have Hbx : Hid (Bx (w1.setCells (w.heap.size + 2) 0 (encP (t, .slice a l c))) (w.heap.size + 2) t (.slice a l c)) := HR1.out.put (t, .slice a l c)
    have Hbl : Hid (Below w.heap.size w (w1.setCells (w.heap.size + 2) 0 (encP (t, .slice a l c)))) := below_put hb1 (by omega) (t, .slice a l c)
    have Hfin : Hid (LiesX (fun b => X b ∨ w.heap.size ≤ b) 16 (w1.setCells (w.heap.size + 2) 0 (encP (t, .slice a l c))) t.items (.slice a l c)) := ((HXl.out.keeps hb1).set (g := w.heap.size + 2) (by omega)).mono (fun b hb => .inl hb.1)
    go_wp2_with fail
    refine bodyPost_ret (v := .agg #[.int .i64 t.kind, .int .i64 t.num, .string t.text, .slice a l c]) ?_ rfl (by rw [e.out]; exact ⟨_, rfl, Hfin.out, Hbl.out⟩)
    obtain ⟨q0, q1, q2, q3, _, _, _, _⟩ := Hbx.out
    simp only [encP, World.setCells, Nat.zero_add, Nat.reduceAdd] at q0 q1 q2 q3
    simp [results, Try.results59, go_sem, q0, q1, q2, q3]

end Go.Proofs.Ytjlhgekckbdpjaa
