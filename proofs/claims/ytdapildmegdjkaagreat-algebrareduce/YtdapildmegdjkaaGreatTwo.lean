/-
  The contracts of the functions of two values, but for conj.
-/
import Derived.Test.YtdapildmegdjkaaGreatFun
import Derived.Test.YtdapildmegdjkaaGreatLetters
import Derived.Lib.MapLaws
import Derived.Test.YtdapildmegdjkaaGreatVList
import Derived.Test.YtdapildmegdjkaaGreatComp
import Derived.Deep.RegionHeld3
namespace Go.Proofs.YtdapildmegdjkaaGreat
open Go.RowKit

theorem dp_list {l : List VT} (h : (fw 17 (listT l) 16 1024).1 = true) (hd : ∀ x ∈ l, Dp 16 x) : Dp 16 (listT l) := fw_deep 17 (listT l) 16 1024 (by omega) h hd

end Go.Proofs.YtdapildmegdjkaaGreat

namespace Go.Proofs.YtdapildmegdjkaaGreat
open Go.RowKit Go.PlainAid

theorem fwL_mono {f g : VT → Int → Bool × Int} (hf : ∀ x m, 0 ≤ m → 0 ≤ (f x m).2) (h : ∀ x m m', 0 ≤ m → m ≤ m' → (f x m).1 = true → (g x m').1 = true ∧ (g x m').2 = (f x m).2 + (m' - m)) :
    ∀ (l : List VT) (n n' : Int), 0 ≤ n → n ≤ n' → (fwL f l n).1 = true → (fwL g l n').1 = true ∧ (fwL g l n').2 = (fwL f l n).2 + (n' - n) := by
  intro l
  induction l with
  | nil => intro n n' _ _ _; exact ⟨rfl, by show n' = n + (n' - n); omega⟩
  | cons x l ih =>
    intro n n' h0 hn hh
    unfold fwL at hh ⊢
    by_cases hx : (f x n).1 = true
    · rw [if_pos hx] at hh ⊢
      obtain ⟨g1, g2⟩ := h x n n' h0 hn hx
      rw [if_pos g1]
      have h1 := hf x n h0
      obtain ⟨i1, i2⟩ := ih (f x n).2 (g x n').2 h1 (by omega) hh
      exact ⟨i1, by omega⟩
    · rw [if_neg hx] at hh; cases hh

theorem fw_mono : ∀ (d : Nat) (t : VT) (lv lv' n n' : Int), 0 ≤ n → lv ≤ lv' → n ≤ n' → (fw d t lv n).1 = true → (fw d t lv' n').1 = true ∧ (fw d t lv' n').2 = (fw d t lv n).2 + (n' - n) := by
  intro d
  induction d with
  | zero =>
    intro t lv lv' n n' h0 hl hn hh
    unfold fw at hh ⊢
    by_cases hx : lv < 0 ∨ n = 0
    · rw [if_pos hx] at hh; cases hh
    · rw [if_neg hx, if_neg (by omega)]; exact ⟨rfl, by show n' - 1 = n - 1 + (n' - n); omega⟩
  | succ d ih =>
    intro t lv lv' n n' h0 hl hn hh
    unfold fw at hh ⊢
    by_cases hx : lv < 0 ∨ n = 0
    · rw [if_pos hx] at hh; cases hh
    · rw [if_neg hx] at hh ⊢
      rw [if_neg (by omega)]
      have := fwL_mono (f := fun x m => fw d x (lv - 1) m) (g := fun x m => fw d x (lv' - 1) m) (fun x m hm => (fw_range d x _ m hm).1) (fun x m m' hm hmm hb => ih x (lv - 1) (lv' - 1) m m' hm (by omega) hmm hb) t.items (n - 1) (n' - 1) (by omega) (by omega) hh
      exact ⟨this.1, by omega⟩

theorem fw_items {d : Nat} {t : VT} {lv n : Int} (h : (fw (d + 1) t lv n).1 = true) : ¬ (lv < 0 ∨ n = 0) ∧ (fwL (fun x m => fw d x (lv - 1) m) t.items (n - 1)).1 = true := by
  unfold fw at h
  by_cases hx : lv < 0 ∨ n = 0
  · rw [if_pos hx] at h; cases h
  · rw [if_neg hx] at h; exact ⟨hx, h⟩

theorem rp_succ {d : Nat} {t : VT} (h : rpV (d + 1) t = true) : (∀ x ∈ t.items, rpV d x = true) ∧ ownV d t = true := by
  unfold rpV at h
  rw [Bool.and_eq_true, List.all_eq_true] at h
  exact h

/-- An item of a right value is right. -/
theorem item_right {t x : VT} (hr : rightV 16 t = true) (hd : Dp 16 t) (hx : x ∈ t.items) : rightV 16 x = true ∧ Dp 16 x := by
  have hdx : Dp 15 x := hd x hx
  refine ⟨?_, hdx.up⟩
  rw [rightV_eq x hdx (by omega)]
  simp only [rightV, Bool.and_eq_true] at hr ⊢
  have hrp := rp_succ (d := 15) hr.2
  refine ⟨?_, hrp.1 x hx⟩
  obtain ⟨_, h2⟩ := fw_items hr.1
  obtain ⟨_, _, i3⟩ := fwL_len (f := fun x m => fw 15 x ((16 : Int) - 1) m) (fun x m hm => (fw_range 15 x _ m hm).1) (fun x m hm hb => fw_less 15 x _ m hm hb) t.items (1024 - 1) (by omega) h2
  obtain ⟨m, m1, m2, m3⟩ := i3 x hx
  exact (fw_mono 15 x (16 - 1) 16 m 1024 m1 (by omega) (by omega) m3).1

theorem int_right (n : Int) : rightV 16 (intT n) = true := by
  simp [rightV, fw, fwL, rpV, ownV, okNum, okText, okItems, intT]

theorem nil_right : rightV 16 nilT = true := by
  simp [rightV, fw, fwL, rpV, ownV, okNum, okText, okItems, nilT]

theorem dp_leaf {t : VT} (h : t.items = []) : Dp 16 t := Dp.mono (d := 0) h (by omega)

theorem own_list (d : Nat) (l : List VT) : ownV d (listT l) = true := by
  simp [ownV, okNum, okText, okItems, listT]

theorem rp_list {d : Nat} {l : List VT} (h : ∀ x ∈ l, rpV d x = true) : rpV (d + 1) (listT l) = true := by
  unfold rpV
  rw [Bool.and_eq_true, List.all_eq_true]
  exact ⟨h, own_list d l⟩

/-- Whether a list of right values is right: whether it fits. -/
theorem list_right (l : List VT) (hr : ∀ x ∈ l, rightV 16 x = true) : rightV 17 (listT l) = (fw 17 (listT l) 16 1024).1 := by
  unfold rightV
  rw [rp_list (fun x hx => right_rp (hr x hx)), Bool.and_true]

theorem list_right16 {l : List VT} (hr : ∀ x ∈ l, rightV 16 x = true) (hd : ∀ x ∈ l, Dp 16 x) (hf : (fw 17 (listT l) 16 1024).1 = true) : rightV 16 (listT l) = true ∧ Dp 16 (listT l) := by
  have h1 := dp_list hf hd
  refine ⟨?_, h1⟩
  rw [← rightV_eq (listT l) h1 (show 16 ≤ 17 by omega), list_right l hr]
  exact hf

theorem right_len {t : VT} (hr : rightV 16 t = true) : t.items.length ≤ 1024 := by
  have h := hr
  simp only [rightV, Bool.and_eq_true] at h
  exact (fw_small 16 t 16 1024 (by omega) (by omega) h.1).1

theorem right_size {t : VT} (hr : rightV 16 t = true) : t.text.size ≤ 256 := (right_text (rp_succ (d := 15) (right_rp hr)).2).1

end Go.Proofs.YtdapildmegdjkaaGreat

namespace Go.Proofs.YtdapildmegdjkaaGreat
open Go.RowKit

/-- What stands before a round: the value so far in its box, the result's cells, the row. -/
structure Turning (w wr : World) (N B f : Nat) (s : VT) (u : Value) : Prop where
  box : Bx wr N s u
  res : Bx wr (N + 1) zeroT (.slice none 0 0)
  row : wr.cell? ⟨B, 0, none⟩ = some (fv f)
  lies : LiesX (fun b => b ≠ N) 16 wr s.items u
  below : Below w.heap.size w wr
  size : N < wr.heap.size
  far : N + 1 < B

theorem Turning.next {w wr w1 : World} {N B f : Nat} {s s' : VT} {u u' : Value} (h : Turning w wr N B f s u) (hN : w.heap.size ≤ N) (hb : Below wr.heap.size wr w1) (hl : LiesX (fun b => b ≠ N ∨ wr.heap.size ≤ b) 16 w1 s'.items u') :
    Turning w (w1.setCells N 0 (encP (s', u'))) N B f s' u' := by
  have hsz := h.size
  have hfar := h.far
  refine ⟨(h.box.keeps hb).put (s', u'), (h.res.keeps hb).other (by omega) _, cell_other (show B ≠ N by omega) (cell_keeps hb h.row), ?_, below_put (h.below.trans (hb.mono h.below.size)) hN (s', u'), ?_, hfar⟩
  · exact (hl.mono (Y := fun b => b ≠ N) (fun b hb => by omega)).set (by simp)
  · rw [size_setCells]; have := hb.size; omega

theorem right_len_all {t : VT} (hr : rightV 16 t = true) : Len 16 t := by
  have h := hr
  simp only [rightV, Bool.and_eq_true] at h
  exact sm_len 16 t (fw_small 16 t 16 1024 (by omega) (by omega) h.1)

theorem copy_right (t : VT) (u : Value) (w : World) (hl : Lies 16 w t.items u) (hr : rightV 16 t = true) : Calls Tryz.prog 29 #[.agg #[.int .i64 t.kind, .int .i64 t.num, .string t.text, u]] w (CopyPost 16 t w) :=
  copyOf_any (fun s => s.size ≤ 281474976710656) txt_any 16 t u w hl (right_txt 16 t (right_rp hr)) (right_len_all hr)

end Go.Proofs.YtdapildmegdjkaaGreat

namespace Go.Proofs.YtdapildmegdjkaaGreat
open Go.RowKit

def QPost (b : Bool) (W : World) (e : Ending) (W' : World) : Prop := e = .returned (.bool b) ∧ Below W.heap.size W W'

set_option maxHeartbeats 400000 in
theorem isInt_any (t : VT) (a : Option Addr) (l c : Nat) (w : World) : Calls Tryz.prog 143 #[.agg #[.int .i64 t.kind, .int .i64 t.num, .string t.text, .slice a l c]] w fun e w' => e = .returned (.bool (t.kind == 2)) ∧ w' = w.alloc (.cells #[.int .i64 t.kind, .int .i64 t.num, .string t.text, .slice a l c] 24) := by
  go_enter Tryz.func143, Tryz.ntmps143
  go_wp2_with fail
  go_ret
  exact ⟨rfl, rfl⟩

set_option maxHeartbeats 400000 in
theorem never_any (t : VT) (a : Option Addr) (l c : Nat) (w : World) : Calls Tryz.prog 142 #[.agg #[.int .i64 t.kind, .int .i64 t.num, .string t.text, .slice a l c]] w (QPost false w) := by
  go_enter Tryz.func142, Tryz.ntmps142
  go_wp2_with fail
  go_ret
  first | exact ⟨rfl, (Grew.refl _).alloc _ |>.below⟩ | exact ⟨rfl, Below.refl _ _⟩

end Go.Proofs.YtdapildmegdjkaaGreat

namespace Go.Proofs.YtdapildmegdjkaaGreat
open Go.RowKit

set_option maxHeartbeats 400000 in
theorem r5int_any (n : Int) (w : World) : Calls Tryz.prog 52 #[.int .i64 n] w fun e w' => e = .returned (.agg #[.int .i64 2, .int .i64 n, .string ⟨#[]⟩, .slice none 0 0]) ∧ w' = w.alloc (.cells #[.int .i64 2, .int .i64 n, .string ⟨#[]⟩, .slice none 0 0] 24) := by
  go_enter Tryz.func52, Tryz.ntmps52
  go_wp2_with fail
  exact bodyPost_ret (v := .agg #[.int .i64 2, .int .i64 n, .string ⟨#[]⟩, .slice none 0 0]) (by simp [results, Tryz.results52, go_sem]) rfl ⟨rfl, rfl⟩

end Go.Proofs.YtdapildmegdjkaaGreat

namespace Go.Proofs.YtdapildmegdjkaaGreat
open Go.RowKit

/-- Is a number one of the table's? -/
def k5B (q : Int) : Bool := decide (0 ≤ q ∧ q ≤ 7)
theorem k5B_true {q : Int} (h0 : 0 ≤ q) (h7 : q ≤ 7) : k5B q = true := decide_eq_true ⟨h0, h7⟩
theorem k5B_false {q : Int} (h : ¬ (0 ≤ q ∧ q ≤ 7)) : k5B q = false := decide_eq_false h

theorem ret_bool {a b : Bool} (h : a = b) : Ending.returned (.bool a) = .returned (.bool b) := by rw [h]

theorem rkind5_any (q : Int) (w : World) : Calls Tryz.prog 74 #[.int .i64 q] w fun e w' => e = .returned (.bool (k5B q)) ∧ w' = w := by
  by_cases h0 : 0 ≤ q
  · by_cases h7 : q ≤ 7
    · go_enter Tryz.func74, Tryz.ntmps74
      go_wp2_with fail
      go_ret
      exact ⟨ret_bool (k5B_true h0 h7).symm, rfl⟩
    · go_enter Tryz.func74, Tryz.ntmps74
      go_wp2_with fail
      go_ret
      exact ⟨ret_bool (k5B_false (by omega)).symm, rfl⟩
  · go_enter Tryz.func74, Tryz.ntmps74
    go_wp2_with fail
    go_ret
    exact ⟨ret_bool (k5B_false (by omega)).symm, rfl⟩

end Go.Proofs.YtdapildmegdjkaaGreat

namespace Go.Proofs.YtdapildmegdjkaaGreat
open Go.RowKit

def addI (a b : Int) : Int := wrap64 (a + b)

/-- TwoAdd, TwoMax, TwoMin, TwoCount. -/
def addT (t s : VT) : VT := if t.kind = 2 ∧ s.kind = 2 then intT (addI t.num s.num) else t
def maxT (t s : VT) : VT := if cmpV 16 t s < 0 then s else t
def minT (t s : VT) : VT := if 0 < cmpV 16 t s then s else t
def countT (t : VT) : VT := if t.kind = 2 then intT (incI t.num) else intT 1
def stopB (t : VT) : Bool := t.kind == 2 && decide (100 < t.num)

def two3 (w : World) (t s : VT) (u v : Value) : World :=
  ((w.alloc (.cells #[.int .i64 t.kind, .int .i64 t.num, .string t.text, u] 24)).alloc (.cells #[.int .i64 s.kind, .int .i64 s.num, .string s.text, v] 24)).alloc (.cells #[.int .i64 0, .int .i64 0, .string ⟨#[]⟩, .slice none 0 0] 24)

theorem two3_below (w : World) (t s : VT) (u v : Value) : Below w.heap.size w (two3 w t s u v) := grew3 _ _ _ _
theorem two3_first (w : World) (t s : VT) (u v : Value) : Bx (two3 w t s u v) w.heap.size t u := (bx_alloc w t u).keeps (Grew.two _ _ _).below
theorem two3_second (w : World) (t s : VT) (u v : Value) : Bx (two3 w t s u v) (w.heap.size + 1) s v := by
  have := (bx_alloc (w.alloc (.cells #[.int .i64 t.kind, .int .i64 t.num, .string t.text, u] 24)) s v).keeps ((Grew.refl _).alloc (.cells #[.int .i64 0, .int .i64 0, .string ⟨#[]⟩, .slice none 0 0] 24)).below
  rwa [World.size_alloc] at this
theorem two3_res (w : World) (t s : VT) (u v : Value) : Bx (two3 w t s u v) (w.heap.size + 2) zeroT (.slice none 0 0) := by
  have := bx_alloc ((w.alloc (.cells #[.int .i64 t.kind, .int .i64 t.num, .string t.text, u] 24)).alloc (.cells #[.int .i64 s.kind, .int .i64 s.num, .string s.text, v] 24)) zeroT (.slice none 0 0)
  rwa [World.size_alloc, World.size_alloc] at this
theorem two3_size (w : World) (t s : VT) (u v : Value) : (two3 w t s u v).heap.size = w.heap.size + 3 := by unfold two3; simp

theorem grew4 (w : World) (o1 o2 o3 o4 : Obj) : Below w.heap.size w ((((w.alloc o1).alloc o2).alloc o3).alloc o4) := (((Grew.two w o1 o2).alloc o3).alloc o4).below
theorem grew5 (w : World) (o1 o2 o3 o4 o5 : Obj) : Below w.heap.size w (((((w.alloc o1).alloc o2).alloc o3).alloc o4).alloc o5) := ((((Grew.two w o1 o2).alloc o3).alloc o4).alloc o5).below
theorem grew6 (w : World) (o1 o2 o3 o4 o5 o6 : Obj) : Below w.heap.size w ((((((w.alloc o1).alloc o2).alloc o3).alloc o4).alloc o5).alloc o6) := (((((Grew.two w o1 o2).alloc o3).alloc o4).alloc o5).alloc o6).below

set_option maxHeartbeats 1000000 in
theorem add_any (X : Nat → Prop) (t s : VT) (a a2 : Option Addr) (l c l2 c2 : Nat) (w : World) (h : LiesX X 16 w t.items (.slice a l c)) (h2 : LiesX X 16 w s.items (.slice a2 l2 c2)) : Calls Tryz.prog 151 #[.agg #[.int .i64 t.kind, .int .i64 t.num, .string t.text, .slice a l c], .agg #[.int .i64 s.kind, .int .i64 s.num, .string s.text, .slice a2 l2 c2]] w (FnPost X (addT t s) w) := by
  have HL : Hid (LiesX X 16 w t.items (.slice a l c)) := h
  have HL2 : Hid (LiesX X 16 w s.items (.slice a2 l2 c2)) := h2
  clear h h2
  cases hk : (t.kind == 2)
  · have e : addT t s = t := by unfold addT; rw [if_neg (fun h => by simp [h.1] at hk)]
    rw [e]
    clear e
    go_enter Tryz.func151, Tryz.ntmps151
    go_wp2_with (first | (go_at_call 143; refine (isInt_any _ _ _ _ _).mono ?_; rintro e w' ⟨rfl, rfl⟩) | (go_at_call 189; refine (number_any _ _).mono ?_; rintro e w' ⟨rfl, rfl⟩))
    exact bodyPost_ret (v := .agg #[.int .i64 t.kind, .int .i64 t.num, .string t.text, .slice a l c]) (by simp [results, Tryz.results151, go_sem]) rfl  (fnPost_same HL.out (grew4 _ _ _ _ _))
  · cases hk2 : (s.kind == 2)
    · have e : addT t s = t := by unfold addT; rw [if_neg (fun h => by simp [h.2] at hk2)]
      rw [e]
      clear e
      go_enter Tryz.func151, Tryz.ntmps151
      go_wp2_with (first | (go_at_call 143; refine (isInt_any _ _ _ _ _).mono ?_; rintro e w' ⟨rfl, rfl⟩) | (go_at_call 189; refine (number_any _ _).mono ?_; rintro e w' ⟨rfl, rfl⟩))
      exact bodyPost_ret (v := .agg #[.int .i64 t.kind, .int .i64 t.num, .string t.text, .slice a l c]) (by simp [results, Tryz.results151, go_sem]) rfl  (fnPost_same HL.out (grew5 _ _ _ _ _ _))
    · have e : addT t s = intT (addI t.num s.num) := by unfold addT; rw [if_pos ⟨by simpa using hk, by simpa using hk2⟩]
      rw [e]
      clear e
      go_enter Tryz.func151, Tryz.ntmps151
      go_wp2_with (first | (go_at_call 143; refine (isInt_any _ _ _ _ _).mono ?_; rintro e w' ⟨rfl, rfl⟩) | (go_at_call 189; refine (number_any _ _).mono ?_; rintro e w' ⟨rfl, rfl⟩))
      exact bodyPost_ret (v := .agg #[.int .i64 2, .int .i64 (addI t.num s.num), .string ⟨#[]⟩, .slice none 0 0]) (by simp [results, Tryz.results151, go_sem, addI]) rfl (fnPost_int (grew6 _ _ _ _ _ _ _))

set_option maxHeartbeats 1000000 in
theorem left_any (X : Nat → Prop) (t s : VT) (a a2 : Option Addr) (l c l2 c2 : Nat) (w : World) (h : LiesX X 16 w t.items (.slice a l c)) (h2 : LiesX X 16 w s.items (.slice a2 l2 c2)) : Calls Tryz.prog 155 #[.agg #[.int .i64 t.kind, .int .i64 t.num, .string t.text, .slice a l c], .agg #[.int .i64 s.kind, .int .i64 s.num, .string s.text, .slice a2 l2 c2]] w (FnPost X t w) := by
  have HL : Hid (LiesX X 16 w t.items (.slice a l c)) := h
  have HL2 : Hid (LiesX X 16 w s.items (.slice a2 l2 c2)) := h2
  clear h h2
  clear HL2
  go_enter Tryz.func155, Tryz.ntmps155
  go_wp2_with fail
  exact bodyPost_ret (v := .agg #[.int .i64 t.kind, .int .i64 t.num, .string t.text, .slice a l c]) (by simp [results, Tryz.results155, go_sem]) rfl  (fnPost_same HL.out (grew3 _ _ _ _))

set_option maxHeartbeats 1000000 in
theorem right_any2 (X : Nat → Prop) (t s : VT) (a a2 : Option Addr) (l c l2 c2 : Nat) (w : World) (h : LiesX X 16 w t.items (.slice a l c)) (h2 : LiesX X 16 w s.items (.slice a2 l2 c2)) : Calls Tryz.prog 156 #[.agg #[.int .i64 t.kind, .int .i64 t.num, .string t.text, .slice a l c], .agg #[.int .i64 s.kind, .int .i64 s.num, .string s.text, .slice a2 l2 c2]] w (FnPost X s w) := by
  have HL : Hid (LiesX X 16 w t.items (.slice a l c)) := h
  have HL2 : Hid (LiesX X 16 w s.items (.slice a2 l2 c2)) := h2
  clear h h2
  clear HL
  go_enter Tryz.func156, Tryz.ntmps156
  go_wp2_with fail
  exact bodyPost_ret (v := .agg #[.int .i64 s.kind, .int .i64 s.num, .string s.text, .slice a2 l2 c2]) (by simp [results, Tryz.results156, go_sem]) rfl  (fnPost_same HL2.out (grew3 _ _ _ _))

set_option maxHeartbeats 400000 in
theorem inc_int (t : VT) (a : Option Addr) (l c : Nat) (w : World) (hk : (t.kind == 2) = true) : Calls Tryz.prog 160 #[.agg #[.int .i64 t.kind, .int .i64 t.num, .string t.text, .slice a l c]] w fun e w' => e = .returned (.agg #[.int .i64 2, .int .i64 (incI t.num), .string ⟨#[]⟩, .slice none 0 0]) ∧ ∃ o1 o2 o3, w' = ((w.alloc o1).alloc o2).alloc o3 := by
  have hk' : (t.kind != 2) = false := by simp [bne, hk]
  go_enter Tryz.func160, Tryz.ntmps160
  go_wp2_with (go_at_call 189; refine (number_any _ _).mono ?_; rintro e w' ⟨rfl, rfl⟩)
  exact bodyPost_ret (v := .agg #[.int .i64 2, .int .i64 (incI t.num), .string ⟨#[]⟩, .slice none 0 0]) (by simp [results, Tryz.results160, go_sem, incI]) rfl ⟨rfl, _, _, _, rfl⟩

set_option maxHeartbeats 1000000 in
theorem count_any (X : Nat → Prop) (t s : VT) (a a2 : Option Addr) (l c l2 c2 : Nat) (w : World) (h : LiesX X 16 w t.items (.slice a l c)) (h2 : LiesX X 16 w s.items (.slice a2 l2 c2)) : Calls Tryz.prog 158 #[.agg #[.int .i64 t.kind, .int .i64 t.num, .string t.text, .slice a l c], .agg #[.int .i64 s.kind, .int .i64 s.num, .string s.text, .slice a2 l2 c2]] w (FnPost X (countT t) w) := by
  have HL : Hid (LiesX X 16 w t.items (.slice a l c)) := h
  have HL2 : Hid (LiesX X 16 w s.items (.slice a2 l2 c2)) := h2
  clear h h2
  clear HL2 HL
  cases hk : (t.kind == 2)
  · have e : countT t = intT 1 := by unfold countT; rw [if_neg (by simpa using hk)]
    rw [e]
    clear e
    go_enter Tryz.func158, Tryz.ntmps158
    go_wp2_with (first | (go_at_call 143; refine (isInt_any _ _ _ _ _).mono ?_; rintro e w' ⟨rfl, rfl⟩) | (go_at_call 189; refine (number_any _ _).mono ?_; rintro e w' ⟨rfl, rfl⟩))
    exact bodyPost_ret (v := .agg #[.int .i64 2, .int .i64 1, .string ⟨#[]⟩, .slice none 0 0]) (by simp [results, Tryz.results158, go_sem]) rfl (fnPost_int (grew5 _ _ _ _ _ _))
  · have e : countT t = intT (incI t.num) := by unfold countT; rw [if_pos (by simpa using hk)]
    rw [e]
    clear e
    go_enter Tryz.func158, Tryz.ntmps158
    go_wp2_with (first | (go_at_call 143; refine (isInt_any _ _ _ _ _).mono ?_; rintro e w' ⟨rfl, rfl⟩) | (go_at_call 160; refine (inc_int t _ _ _ _ hk).mono ?_; rintro e w' ⟨rfl, o1, o2, o3, rfl⟩))
    generalize incI t.num = I at *
    exact bodyPost_ret (v := .agg #[.int .i64 2, .int .i64 I, .string ⟨#[]⟩, .slice none 0 0]) (by simp [results, Tryz.results158, go_sem]) rfl (fnPost_int ((((Grew.two _ _ _).alloc _).alloc _).alloc _ |>.alloc _ |>.alloc _).below)

set_option maxHeartbeats 1000000 in
theorem isGreat_any (t : VT) (a : Option Addr) (l c : Nat) (w : World) : Calls Tryz.prog 157 #[.agg #[.int .i64 t.kind, .int .i64 t.num, .string t.text, .slice a l c]] w (QPost (stopB t) w) := by
  cases hk : (t.kind == 2)
  · go_enter Tryz.func157, Tryz.ntmps157
    go_wp2_with (first | (go_at_call 143; refine (isInt_any _ _ _ _ _).mono ?_; rintro e w' ⟨rfl, rfl⟩) | (go_at_call 189; refine (number_any _ _).mono ?_; rintro e w' ⟨rfl, rfl⟩))
    go_ret
    exact ⟨by simp [stopB, hk], (Grew.two _ _ _).below⟩
  · go_enter Tryz.func157, Tryz.ntmps157
    go_wp2_with (first | (go_at_call 143; refine (isInt_any _ _ _ _ _).mono ?_; rintro e w' ⟨rfl, rfl⟩) | (go_at_call 189; refine (number_any _ _).mono ?_; rintro e w' ⟨rfl, rfl⟩))
    go_ret
    exact ⟨by simp [stopB, hk], (Grew.two _ _ _).below⟩

set_option maxHeartbeats 1000000 in
theorem greater_any (X : Nat → Prop) (t s : VT) (a a2 : Option Addr) (l c l2 c2 : Nat) (w : World) (h : LiesX X 16 w t.items (.slice a l c)) (h2 : LiesX X 16 w s.items (.slice a2 l2 c2)) : Calls Tryz.prog 152 #[.agg #[.int .i64 t.kind, .int .i64 t.num, .string t.text, .slice a l c], .agg #[.int .i64 s.kind, .int .i64 s.num, .string s.text, .slice a2 l2 c2]] w (FnPost X (maxT t s) w) := by
  have hbz := two3_below w t s (.slice a l c) (.slice a2 l2 c2)
  have HX : Hid (Bx (two3 w t s (.slice a l c) (.slice a2 l2 c2)) w.heap.size t (.slice a l c)) := two3_first _ _ _ _ _
  have HY : Hid (Bx (two3 w t s (.slice a l c) (.slice a2 l2 c2)) (w.heap.size + 1) s (.slice a2 l2 c2)) := two3_second _ _ _ _ _
  have HR : Hid (Bx (two3 w t s (.slice a l c) (.slice a2 l2 c2)) (w.heap.size + 2) zeroT (.slice none 0 0)) := two3_res _ _ _ _ _
  have Hz : Hid ((two3 w t s (.slice a l c) (.slice a2 l2 c2)).heap.size = w.heap.size + 3) := two3_size _ _ _ _ _
  have HXl : Hid (LiesX (fun b => X b ∧ b < w.heap.size) 16 w t.items (.slice a l c)) := LiesX.both h
  have HYl : Hid (LiesX (fun b => X b ∧ b < w.heap.size) 16 w s.items (.slice a2 l2 c2)) := LiesX.both h2
  have HL : Hid (LiesX X 16 w t.items (.slice a l c)) := h
  have HL2 : Hid (LiesX X 16 w s.items (.slice a2 l2 c2)) := h2
  clear h h2
  go_enter Tryz.func152, Tryz.ntmps152
  go_wp2_with fail
  refine (compare_any 16 t s _ _ _ (Lies.keeps hbz _ _ _ HL.out.lies) (Lies.keeps hbz _ _ _ HL2.out.lies)).mono ?_
  rintro e w1 ⟨rfl, hg⟩
  have hb : Below (two3 w t s (.slice a l c) (.slice a2 l2 c2)).heap.size (two3 w t s (.slice a l c) (.slice a2 l2 c2)) w1 := hg.below
  have hb1 : Below w.heap.size w w1 := hbz.trans (hb.mono (by rw [Hz.out]; omega))
  have HR1 : Hid (Bx w1 (w.heap.size + 2) zeroT (.slice none 0 0)) := HR.out.keeps hb
  obtain ⟨x0, x1, x2, x3, _, _, _, _⟩ := HX.out.keeps hb
  obtain ⟨u0, u1, u2, u3, _, _, _, _⟩ := HY.out.keeps hb
  obtain ⟨y0, y1, y2, y3, z0, z1, z2, z3⟩ := HR1.out
  clear hg hb hbz HX HY HR Hz
  by_cases hc : cmpV 16 t s < 0
  · have e : Hid (maxT t s = s) := if_pos hc
    have Hbx : Hid (Bx (w1.setCells (w.heap.size + 2) 0 (encP (s, .slice a2 l2 c2))) (w.heap.size + 2) s (.slice a2 l2 c2)) := HR1.out.put (s, .slice a2 l2 c2)
    have Hbl : Hid (Below w.heap.size w (w1.setCells (w.heap.size + 2) 0 (encP (s, .slice a2 l2 c2)))) := below_put hb1 (by omega) (s, .slice a2 l2 c2)
    have Hfin : Hid (LiesX (fun b => X b ∨ w.heap.size ≤ b) 16 (w1.setCells (w.heap.size + 2) 0 (encP (s, .slice a2 l2 c2))) s.items (.slice a2 l2 c2)) := ((HYl.out.keeps hb1).set (g := w.heap.size + 2) (by omega)).mono (fun b hb => .inl hb.1)
    go_wp2_with fail
    refine bodyPost_ret (v := .agg #[.int .i64 s.kind, .int .i64 s.num, .string s.text, .slice a2 l2 c2]) ?_ rfl (by rw [e.out]; exact ⟨_, rfl, Hfin.out, Hbl.out⟩)
    obtain ⟨q0, q1, q2, q3, _, _, _, _⟩ := Hbx.out
    simp only [encP, World.setCells, Nat.zero_add, Nat.reduceAdd] at q0 q1 q2 q3
    simp [results, Tryz.results152, go_sem, q0, q1, q2, q3]
  · have e : Hid (maxT t s = t) := if_neg hc
    have Hbx : Hid (Bx (w1.setCells (w.heap.size + 2) 0 (encP (t, .slice a l c))) (w.heap.size + 2) t (.slice a l c)) := HR1.out.put (t, .slice a l c)
    have Hbl : Hid (Below w.heap.size w (w1.setCells (w.heap.size + 2) 0 (encP (t, .slice a l c)))) := below_put hb1 (by omega) (t, .slice a l c)
    have Hfin : Hid (LiesX (fun b => X b ∨ w.heap.size ≤ b) 16 (w1.setCells (w.heap.size + 2) 0 (encP (t, .slice a l c))) t.items (.slice a l c)) := ((HXl.out.keeps hb1).set (g := w.heap.size + 2) (by omega)).mono (fun b hb => .inl hb.1)
    go_wp2_with fail
    refine bodyPost_ret (v := .agg #[.int .i64 t.kind, .int .i64 t.num, .string t.text, .slice a l c]) ?_ rfl (by rw [e.out]; exact ⟨_, rfl, Hfin.out, Hbl.out⟩)
    obtain ⟨q0, q1, q2, q3, _, _, _, _⟩ := Hbx.out
    simp only [encP, World.setCells, Nat.zero_add, Nat.reduceAdd] at q0 q1 q2 q3
    simp [results, Tryz.results152, go_sem, q0, q1, q2, q3]

set_option maxHeartbeats 1000000 in
theorem lesser_any (X : Nat → Prop) (t s : VT) (a a2 : Option Addr) (l c l2 c2 : Nat) (w : World) (h : LiesX X 16 w t.items (.slice a l c)) (h2 : LiesX X 16 w s.items (.slice a2 l2 c2)) : Calls Tryz.prog 153 #[.agg #[.int .i64 t.kind, .int .i64 t.num, .string t.text, .slice a l c], .agg #[.int .i64 s.kind, .int .i64 s.num, .string s.text, .slice a2 l2 c2]] w (FnPost X (minT t s) w) := by
  have hbz := two3_below w t s (.slice a l c) (.slice a2 l2 c2)
  have HX : Hid (Bx (two3 w t s (.slice a l c) (.slice a2 l2 c2)) w.heap.size t (.slice a l c)) := two3_first _ _ _ _ _
  have HY : Hid (Bx (two3 w t s (.slice a l c) (.slice a2 l2 c2)) (w.heap.size + 1) s (.slice a2 l2 c2)) := two3_second _ _ _ _ _
  have HR : Hid (Bx (two3 w t s (.slice a l c) (.slice a2 l2 c2)) (w.heap.size + 2) zeroT (.slice none 0 0)) := two3_res _ _ _ _ _
  have Hz : Hid ((two3 w t s (.slice a l c) (.slice a2 l2 c2)).heap.size = w.heap.size + 3) := two3_size _ _ _ _ _
  have HXl : Hid (LiesX (fun b => X b ∧ b < w.heap.size) 16 w t.items (.slice a l c)) := LiesX.both h
  have HYl : Hid (LiesX (fun b => X b ∧ b < w.heap.size) 16 w s.items (.slice a2 l2 c2)) := LiesX.both h2
  have HL : Hid (LiesX X 16 w t.items (.slice a l c)) := h
  have HL2 : Hid (LiesX X 16 w s.items (.slice a2 l2 c2)) := h2
  clear h h2
  go_enter Tryz.func153, Tryz.ntmps153
  go_wp2_with fail
  refine (compare_any 16 t s _ _ _ (Lies.keeps hbz _ _ _ HL.out.lies) (Lies.keeps hbz _ _ _ HL2.out.lies)).mono ?_
  rintro e w1 ⟨rfl, hg⟩
  have hb : Below (two3 w t s (.slice a l c) (.slice a2 l2 c2)).heap.size (two3 w t s (.slice a l c) (.slice a2 l2 c2)) w1 := hg.below
  have hb1 : Below w.heap.size w w1 := hbz.trans (hb.mono (by rw [Hz.out]; omega))
  have HR1 : Hid (Bx w1 (w.heap.size + 2) zeroT (.slice none 0 0)) := HR.out.keeps hb
  obtain ⟨x0, x1, x2, x3, _, _, _, _⟩ := HX.out.keeps hb
  obtain ⟨u0, u1, u2, u3, _, _, _, _⟩ := HY.out.keeps hb
  obtain ⟨y0, y1, y2, y3, z0, z1, z2, z3⟩ := HR1.out
  clear hg hb hbz HX HY HR Hz
  by_cases hc : 0 < cmpV 16 t s
  · have e : Hid (minT t s = s) := if_pos hc
    have Hbx : Hid (Bx (w1.setCells (w.heap.size + 2) 0 (encP (s, .slice a2 l2 c2))) (w.heap.size + 2) s (.slice a2 l2 c2)) := HR1.out.put (s, .slice a2 l2 c2)
    have Hbl : Hid (Below w.heap.size w (w1.setCells (w.heap.size + 2) 0 (encP (s, .slice a2 l2 c2)))) := below_put hb1 (by omega) (s, .slice a2 l2 c2)
    have Hfin : Hid (LiesX (fun b => X b ∨ w.heap.size ≤ b) 16 (w1.setCells (w.heap.size + 2) 0 (encP (s, .slice a2 l2 c2))) s.items (.slice a2 l2 c2)) := ((HYl.out.keeps hb1).set (g := w.heap.size + 2) (by omega)).mono (fun b hb => .inl hb.1)
    go_wp2_with fail
    refine bodyPost_ret (v := .agg #[.int .i64 s.kind, .int .i64 s.num, .string s.text, .slice a2 l2 c2]) ?_ rfl (by rw [e.out]; exact ⟨_, rfl, Hfin.out, Hbl.out⟩)
    obtain ⟨q0, q1, q2, q3, _, _, _, _⟩ := Hbx.out
    simp only [encP, World.setCells, Nat.zero_add, Nat.reduceAdd] at q0 q1 q2 q3
    simp [results, Tryz.results153, go_sem, q0, q1, q2, q3]
  · have e : Hid (minT t s = t) := if_neg hc
    have Hbx : Hid (Bx (w1.setCells (w.heap.size + 2) 0 (encP (t, .slice a l c))) (w.heap.size + 2) t (.slice a l c)) := HR1.out.put (t, .slice a l c)
    have Hbl : Hid (Below w.heap.size w (w1.setCells (w.heap.size + 2) 0 (encP (t, .slice a l c)))) := below_put hb1 (by omega) (t, .slice a l c)
    have Hfin : Hid (LiesX (fun b => X b ∨ w.heap.size ≤ b) 16 (w1.setCells (w.heap.size + 2) 0 (encP (t, .slice a l c))) t.items (.slice a l c)) := ((HXl.out.keeps hb1).set (g := w.heap.size + 2) (by omega)).mono (fun b hb => .inl hb.1)
    go_wp2_with fail
    refine bodyPost_ret (v := .agg #[.int .i64 t.kind, .int .i64 t.num, .string t.text, .slice a l c]) ?_ rfl (by rw [e.out]; exact ⟨_, rfl, Hfin.out, Hbl.out⟩)
    obtain ⟨q0, q1, q2, q3, _, _, _, _⟩ := Hbx.out
    simp only [encP, World.setCells, Nat.zero_add, Nat.reduceAdd] at q0 q1 q2 q3
    simp [results, Tryz.results153, go_sem, q0, q1, q2, q3]

end Go.Proofs.YtdapildmegdjkaaGreat

