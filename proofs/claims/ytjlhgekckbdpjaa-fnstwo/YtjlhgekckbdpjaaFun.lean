/-
  The contracts of the functions of one value that call no other layer.
-/
import Derived.Test.YtjlhgekckbdpjaaTab
import Derived.Test.YtjlhgekckbdpjaaBlank
import Derived.Test.YtjlhgekckbdpjaaLiesX
namespace Go.Proofs.Ytjlhgekckbdpjaa
open Go.RowKit

/-- A number, nothing. -/
def intT (n : Int) : VT := ⟨2, n, ⟨#[]⟩, []⟩
def nilT : VT := ⟨0, 0, ⟨#[]⟩, []⟩

/-- A value is told, in memory of X or new. -/
def FnPost (X : Nat → Prop) (s : VT) (W : World) (e : Ending) (W' : World) : Prop :=
  ∃ u, e = .returned (.agg #[.int .i64 s.kind, .int .i64 s.num, .string s.text, u]) ∧ LiesX (fun b => X b ∨ W.heap.size ≤ b) 16 W' s.items u ∧ Below W.heap.size W W'

theorem fnPost_int {X : Nat → Prop} {n : Int} {W W' : World} (h : Below W.heap.size W W') : FnPost X (intT n) W (.returned (.agg #[.int .i64 2, .int .i64 n, .string ⟨#[]⟩, .slice none 0 0])) W' :=
  ⟨_, rfl, liesX_nil _ _ _ _ _, h⟩

theorem fnPost_nil {X : Nat → Prop} {W W' : World} (h : Below W.heap.size W W') : FnPost X nilT W (.returned (.agg #[.int .i64 0, .int .i64 0, .string ⟨#[]⟩, .slice none 0 0])) W' :=
  ⟨_, rfl, liesX_nil _ _ _ _ _, h⟩

theorem fnPost_same {X : Nat → Prop} {t : VT} {u : Value} {W W' : World} (hl : LiesX X 16 W t.items u) (h : Below W.heap.size W W') : FnPost X t W (.returned (.agg #[.int .i64 t.kind, .int .i64 t.num, .string t.text, u])) W' :=
  ⟨_, rfl, (hl.keeps h).mono (fun _ h => .inl h), h⟩

set_option maxHeartbeats 400000 in
theorem number_any (n : Int) (w : World) : Calls Try.prog 75 #[.int .i64 n] w fun e w' => e = .returned (.agg #[.int .i64 2, .int .i64 n, .string ⟨#[]⟩, .slice none 0 0]) ∧ w' = w.alloc (.cells #[.int .i64 2, .int .i64 n, .string ⟨#[]⟩, .slice none 0 0] 24) := by
  go_enter Try.func75, Try.ntmps75
  go_wp2_with fail
  exact bodyPost_ret (v := .agg #[.int .i64 2, .int .i64 n, .string ⟨#[]⟩, .slice none 0 0]) (by simp [results, Try.results75, go_sem]) rfl ⟨rfl, rfl⟩

set_option maxHeartbeats 400000 in
theorem same1_any (X : Nat → Prop) (t : VT) (a : Option Addr) (l c : Nat) (w : World) (h : LiesX X 16 w t.items (.slice a l c)) : Calls Try.prog 39 #[.agg #[.int .i64 t.kind, .int .i64 t.num, .string t.text, .slice a l c]] w (FnPost X t w) := by
  have HL : Hid (LiesX X 16 w t.items (.slice a l c)) := h
  clear h
  go_enter Try.func39, Try.ntmps39
  go_wp2_with fail
  exact bodyPost_ret (v := .agg #[.int .i64 t.kind, .int .i64 t.num, .string t.text, .slice a l c]) (by simp [results, Try.results39, go_sem]) rfl (fnPost_same HL.out (Grew.two _ _ _).below)

/-- FnInc, FnNeg, FnHalf: of a number. -/
def numT (f : Int → Int) (t : VT) : VT := if t.kind = 2 then intT (f t.num) else t

theorem numT_no {f : Int → Int} {t : VT} (h : ¬ t.kind = 2) : numT f t = t := if_neg h
theorem numT_yes {f : Int → Int} {t : VT} (h : t.kind = 2) : numT f t = intT (f t.num) := if_pos h

def incI (n : Int) : Int := wrap64 (n + 1)
def negI (n : Int) : Int := wrap64 (-n)
def halfI (n : Int) : Int := wrap64 (n.tdiv 2)

theorem grew3 (w : World) (o1 o2 o3 : Obj) : Below w.heap.size w (((w.alloc o1).alloc o2).alloc o3) := ((Grew.two w o1 o2).alloc o3).below

set_option maxHeartbeats 400000 in
theorem inc_any (X : Nat → Prop) (t : VT) (a : Option Addr) (l c : Nat) (w : World) (h : LiesX X 16 w t.items (.slice a l c)) : Calls Try.prog 40 #[.agg #[.int .i64 t.kind, .int .i64 t.num, .string t.text, .slice a l c]] w (FnPost X (numT incI t) w) := by
  have HL : Hid (LiesX X 16 w t.items (.slice a l c)) := h
  clear h
  cases hk : (t.kind == 2)
  · have hk' : (t.kind != 2) = true := by simp [bne, hk]
    rw [numT_no (by simpa using hk)]
    go_enter Try.func40, Try.ntmps40
    go_wp2_with fail
    exact bodyPost_ret (v := .agg #[.int .i64 t.kind, .int .i64 t.num, .string t.text, .slice a l c]) (by simp [results, Try.results40, go_sem]) rfl (fnPost_same HL.out (Grew.two _ _ _).below)
  · have hk' : (t.kind != 2) = false := by simp [bne, hk]
    rw [numT_yes (by simpa using hk)]
    go_enter Try.func40, Try.ntmps40
    go_wp2_with (go_at_call 75; refine (number_any _ _).mono ?_; rintro e w' ⟨rfl, rfl⟩)
    exact bodyPost_ret (v := .agg #[.int .i64 2, .int .i64 (incI t.num), .string ⟨#[]⟩, .slice none 0 0]) (by simp [results, Try.results40, go_sem, incI]) rfl (fnPost_int (grew3 _ _ _ _))

set_option maxHeartbeats 400000 in
theorem neg_any (X : Nat → Prop) (t : VT) (a : Option Addr) (l c : Nat) (w : World) (h : LiesX X 16 w t.items (.slice a l c)) : Calls Try.prog 41 #[.agg #[.int .i64 t.kind, .int .i64 t.num, .string t.text, .slice a l c]] w (FnPost X (numT negI t) w) := by
  have HL : Hid (LiesX X 16 w t.items (.slice a l c)) := h
  clear h
  cases hk : (t.kind == 2)
  · have hk' : (t.kind != 2) = true := by simp [bne, hk]
    rw [numT_no (by simpa using hk)]
    go_enter Try.func41, Try.ntmps41
    go_wp2_with fail
    exact bodyPost_ret (v := .agg #[.int .i64 t.kind, .int .i64 t.num, .string t.text, .slice a l c]) (by simp [results, Try.results41, go_sem]) rfl (fnPost_same HL.out (Grew.two _ _ _).below)
  · have hk' : (t.kind != 2) = false := by simp [bne, hk]
    rw [numT_yes (by simpa using hk)]
    go_enter Try.func41, Try.ntmps41
    go_wp2_with (go_at_call 75; refine (number_any _ _).mono ?_; rintro e w' ⟨rfl, rfl⟩)
    exact bodyPost_ret (v := .agg #[.int .i64 2, .int .i64 (negI t.num), .string ⟨#[]⟩, .slice none 0 0]) (by simp [results, Try.results41, go_sem, negI]) rfl (fnPost_int (grew3 _ _ _ _))

set_option maxHeartbeats 400000 in
theorem half_any (X : Nat → Prop) (t : VT) (a : Option Addr) (l c : Nat) (w : World) (h : LiesX X 16 w t.items (.slice a l c)) : Calls Try.prog 46 #[.agg #[.int .i64 t.kind, .int .i64 t.num, .string t.text, .slice a l c]] w (FnPost X (numT halfI t) w) := by
  have HL : Hid (LiesX X 16 w t.items (.slice a l c)) := h
  clear h
  cases hk : (t.kind == 2)
  · have hk' : (t.kind != 2) = true := by simp [bne, hk]
    rw [numT_no (by simpa using hk)]
    go_enter Try.func46, Try.ntmps46
    go_wp2_with fail
    exact bodyPost_ret (v := .agg #[.int .i64 t.kind, .int .i64 t.num, .string t.text, .slice a l c]) (by simp [results, Try.results46, go_sem]) rfl (fnPost_same HL.out (Grew.two _ _ _).below)
  · have hk' : (t.kind != 2) = false := by simp [bne, hk]
    rw [numT_yes (by simpa using hk)]
    go_enter Try.func46, Try.ntmps46
    go_wp2_with (go_at_call 75; refine (number_any _ _).mono ?_; rintro e w' ⟨rfl, rfl⟩)
    exact bodyPost_ret (v := .agg #[.int .i64 2, .int .i64 (halfI t.num), .string ⟨#[]⟩, .slice none 0 0]) (by simp [results, Try.results46, go_sem, halfI]) rfl (fnPost_int (grew3 _ _ _ _))

set_option maxHeartbeats 400000 in
theorem kind_any (X : Nat → Prop) (t : VT) (a : Option Addr) (l c : Nat) (w : World) : Calls Try.prog 45 #[.agg #[.int .i64 t.kind, .int .i64 t.num, .string t.text, .slice a l c]] w (FnPost X (intT t.kind) w) := by
  go_enter Try.func45, Try.ntmps45
  go_wp2_with (go_at_call 75; refine (number_any _ _).mono ?_; rintro e w' ⟨rfl, rfl⟩)
  exact bodyPost_ret (v := .agg #[.int .i64 2, .int .i64 t.kind, .string ⟨#[]⟩, .slice none 0 0]) (by simp [results, Try.results45, go_sem]) rfl (fnPost_int (grew3 _ _ _ _))

end Go.Proofs.Ytjlhgekckbdpjaa
