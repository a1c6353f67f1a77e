/-
  The contracts of runes and firstRune: how many letters a text has, and its first one.
-/
import Derived.Test.YtofceccicmlmoaaGreatTab
import Derived.Test.YtofceccicmlmoaaGreatLastP
import Derived.Test.YtofceccicmlmoaaGreatRotate
import Derived.Test.YtofceccicmlmoaaGreatRowX
namespace Go.Proofs.YtofceccicmlmoaaGreat
open Go.RowKit

/-- A number, nothing. -/
def nilT : VT := ⟨0, 0, ⟨#[]⟩, []⟩

/-- A value is told, in memory of X or new. -/
def FnPost (X : Nat → Prop) (s : VT) (W : World) (e : Ending) (W' : World) : Prop :=
  ∃ u, e = .returned (.agg #[.int .i64 s.kind, .int .i64 s.num, .string s.text, u]) ∧ LiesX (fun b => X b ∨ W.heap.size ≤ b) 16 W' s.items u ∧ Below W.heap.size W W'

theorem fnPost_int {X : Nat → Prop} {n : Int} {W W' : World} (h : Below W.heap.size W W') : FnPost X (intT n) W (.returned (.agg #[.int .i64 2, .int .i64 n, .string ⟨#[]⟩, .slice none 0 0])) W' :=
  ⟨_, rfl, liesX_nil _ _ _ _ _, h⟩

theorem fnPost_nil {X : Nat → Prop} {W W' : World} (h : Below W.heap.size W W') : FnPost X nilT W (.returned (.agg #[.int .i64 0, .int .i64 0, .string ⟨#[]⟩, .slice none 0 0])) W' :=
  ⟨_, rfl, liesX_nil _ _ _ _ _, h⟩

theorem fnPost_same {X : Nat → Prop} {t : VT} {u : Value} {W W' : World} (hl : LiesX X 16 W t.items u) (h : Below W.heap.size W W') : FnPost X t W (.returned (.agg #[.int .i64 t.kind, .int .i64 t.num, .string t.text, u])) W' :=
  ⟨_, rfl, (hl.keeps h).mono (fun _ h => .inl h), h⟩

set_option maxHeartbeats 400000 in
theorem number_any (n : Int) (w : World) : Calls Tryz.prog 96 #[.int .i64 n] w fun e w' => e = .returned (.agg #[.int .i64 2, .int .i64 n, .string ⟨#[]⟩, .slice none 0 0]) ∧ w' = w.alloc (.cells #[.int .i64 2, .int .i64 n, .string ⟨#[]⟩, .slice none 0 0] 24) := by
  go_enter Tryz.func96, Tryz.ntmps96
  go_wp2_with fail
  exact bodyPost_ret (v := .agg #[.int .i64 2, .int .i64 n, .string ⟨#[]⟩, .slice none 0 0]) (by simp [results, Tryz.results96, go_sem]) rfl ⟨rfl, rfl⟩

set_option maxHeartbeats 400000 in
theorem same1_any (X : Nat → Prop) (t : VT) (a : Option Addr) (l c : Nat) (w : World) (h : LiesX X 16 w t.items (.slice a l c)) : Calls Tryz.prog 75 #[.agg #[.int .i64 t.kind, .int .i64 t.num, .string t.text, .slice a l c]] w (FnPost X t w) := by
  have HL : Hid (LiesX X 16 w t.items (.slice a l c)) := h
  clear h
  go_enter Tryz.func75, Tryz.ntmps75
  go_wp2_with fail
  exact bodyPost_ret (v := .agg #[.int .i64 t.kind, .int .i64 t.num, .string t.text, .slice a l c]) (by simp [results, Tryz.results75, go_sem]) rfl (fnPost_same HL.out (Grew.two _ _ _).below)

/-- FnInc, FnNeg, FnHalf: of a number. -/
def numT (f : Int → Int) (t : VT) : VT := if t.kind = 2 then intT (f t.num) else t

theorem numT_no {f : Int → Int} {t : VT} (h : ¬ t.kind = 2) : numT f t = t := if_neg h
theorem numT_yes {f : Int → Int} {t : VT} (h : t.kind = 2) : numT f t = intT (f t.num) := if_pos h

def incI (n : Int) : Int := wrap64 (n + 1)
def negI (n : Int) : Int := wrap64 (-n)
def halfI (n : Int) : Int := wrap64 (n.tdiv 2)

theorem grew3 (w : World) (o1 o2 o3 : Obj) : Below w.heap.size w (((w.alloc o1).alloc o2).alloc o3) := ((Grew.two w o1 o2).alloc o3).below

set_option maxHeartbeats 400000 in
theorem inc_any (X : Nat → Prop) (t : VT) (a : Option Addr) (l c : Nat) (w : World) (h : LiesX X 16 w t.items (.slice a l c)) : Calls Tryz.prog 76 #[.agg #[.int .i64 t.kind, .int .i64 t.num, .string t.text, .slice a l c]] w (FnPost X (numT incI t) w) := by
  have HL : Hid (LiesX X 16 w t.items (.slice a l c)) := h
  clear h
  cases hk : (t.kind == 2)
  · have hk' : (t.kind != 2) = true := by simp [bne, hk]
    rw [numT_no (by simpa using hk)]
    go_enter Tryz.func76, Tryz.ntmps76
    go_wp2_with fail
    exact bodyPost_ret (v := .agg #[.int .i64 t.kind, .int .i64 t.num, .string t.text, .slice a l c]) (by simp [results, Tryz.results76, go_sem]) rfl (fnPost_same HL.out (Grew.two _ _ _).below)
  · have hk' : (t.kind != 2) = false := by simp [bne, hk]
    rw [numT_yes (by simpa using hk)]
    go_enter Tryz.func76, Tryz.ntmps76
    go_wp2_with (go_at_call 96; refine (number_any _ _).mono ?_; rintro e w' ⟨rfl, rfl⟩)
    exact bodyPost_ret (v := .agg #[.int .i64 2, .int .i64 (incI t.num), .string ⟨#[]⟩, .slice none 0 0]) (by simp [results, Tryz.results76, go_sem, incI]) rfl (fnPost_int (grew3 _ _ _ _))

set_option maxHeartbeats 400000 in
theorem neg_any (X : Nat → Prop) (t : VT) (a : Option Addr) (l c : Nat) (w : World) (h : LiesX X 16 w t.items (.slice a l c)) : Calls Tryz.prog 77 #[.agg #[.int .i64 t.kind, .int .i64 t.num, .string t.text, .slice a l c]] w (FnPost X (numT negI t) w) := by
  have HL : Hid (LiesX X 16 w t.items (.slice a l c)) := h
  clear h
  cases hk : (t.kind == 2)
  · have hk' : (t.kind != 2) = true := by simp [bne, hk]
    rw [numT_no (by simpa using hk)]
    go_enter Tryz.func77, Tryz.ntmps77
    go_wp2_with fail
    exact bodyPost_ret (v := .agg #[.int .i64 t.kind, .int .i64 t.num, .string t.text, .slice a l c]) (by simp [results, Tryz.results77, go_sem]) rfl (fnPost_same HL.out (Grew.two _ _ _).below)
  · have hk' : (t.kind != 2) = false := by simp [bne, hk]
    rw [numT_yes (by simpa using hk)]
    go_enter Tryz.func77, Tryz.ntmps77
    go_wp2_with (go_at_call 96; refine (number_any _ _).mono ?_; rintro e w' ⟨rfl, rfl⟩)
    exact bodyPost_ret (v := .agg #[.int .i64 2, .int .i64 (negI t.num), .string ⟨#[]⟩, .slice none 0 0]) (by simp [results, Tryz.results77, go_sem, negI]) rfl (fnPost_int (grew3 _ _ _ _))

set_option maxHeartbeats 400000 in
theorem half_any (X : Nat → Prop) (t : VT) (a : Option Addr) (l c : Nat) (w : World) (h : LiesX X 16 w t.items (.slice a l c)) : Calls Tryz.prog 82 #[.agg #[.int .i64 t.kind, .int .i64 t.num, .string t.text, .slice a l c]] w (FnPost X (numT halfI t) w) := by
  have HL : Hid (LiesX X 16 w t.items (.slice a l c)) := h
  clear h
  cases hk : (t.kind == 2)
  · have hk' : (t.kind != 2) = true := by simp [bne, hk]
    rw [numT_no (by simpa using hk)]
    go_enter Tryz.func82, Tryz.ntmps82
    go_wp2_with fail
    exact bodyPost_ret (v := .agg #[.int .i64 t.kind, .int .i64 t.num, .string t.text, .slice a l c]) (by simp [results, Tryz.results82, go_sem]) rfl (fnPost_same HL.out (Grew.two _ _ _).below)
  · have hk' : (t.kind != 2) = false := by simp [bne, hk]
    rw [numT_yes (by simpa using hk)]
    go_enter Tryz.func82, Tryz.ntmps82
    go_wp2_with (go_at_call 96; refine (number_any _ _).mono ?_; rintro e w' ⟨rfl, rfl⟩)
    exact bodyPost_ret (v := .agg #[.int .i64 2, .int .i64 (halfI t.num), .string ⟨#[]⟩, .slice none 0 0]) (by simp [results, Tryz.results82, go_sem, halfI]) rfl (fnPost_int (grew3 _ _ _ _))

set_option maxHeartbeats 400000 in
theorem kind_any (X : Nat → Prop) (t : VT) (a : Option Addr) (l c : Nat) (w : World) : Calls Tryz.prog 81 #[.agg #[.int .i64 t.kind, .int .i64 t.num, .string t.text, .slice a l c]] w (FnPost X (intT t.kind) w) := by
  go_enter Tryz.func81, Tryz.ntmps81
  go_wp2_with (go_at_call 96; refine (number_any _ _).mono ?_; rintro e w' ⟨rfl, rfl⟩)
  exact bodyPost_ret (v := .agg #[.int .i64 2, .int .i64 t.kind, .string ⟨#[]⟩, .slice none 0 0]) (by simp [results, Tryz.results81, go_sem]) rfl (fnPost_int (grew3 _ _ _ _))

end Go.Proofs.YtofceccicmlmoaaGreat

namespace Go.Proofs.YtofceccicmlmoaaGreat
open Go.RowKit Go.PlainAid

def rnF (s : ByteArray) : Nat → Nat → Int → Int
  | 0, _, n => n
  | b + 1, pos, n => if pos < s.size then rnF s b (pos + (Utf8.decode s pos).2) (n + 1) else n

theorem rnF_end (s : ByteArray) (b pos : Nat) (n : Int) (h : ¬ pos < s.size) : rnF s b pos n = n := by
  cases b with
  | zero => rfl
  | succ b => simp [rnF, h]

/-- How many letters a range over a text finds. -/
def runesZ (s : ByteArray) : Int := rnF s s.size 0 0

theorem rn_lt (s : ByteArray) : ∀ (b pos : Nat) (n : Int), 0 ≤ n → 0 ≤ ltF s b pos n → ltF s b pos n = rnF s b pos n := by
  intro b
  induction b with
  | zero => intro pos n _ _; rfl
  | succ b ih =>
    intro pos n hn h
    by_cases hp : pos < s.size
    · obtain ⟨_, a2⟩ := dec_utf s pos hp
      unfold ltF at h ⊢
      unfold rnF
      rw [if_pos hp] at h ⊢
      rw [if_pos hp]
      by_cases hz : utfW s pos = 0
      · rw [if_pos hz] at h; omega
      · obtain ⟨c1, _, _⟩ := a2 hz
        rw [if_neg hz] at h ⊢
        rw [show (utfW s pos).toNat = (Utf8.decode s pos).2 by omega] at h ⊢
        exact ih _ _ (by omega) h
    · rw [ltF_end s _ pos n hp, rnF_end s _ pos n hp]

theorem runes_letters (s : ByteArray) (h : utfB s = true) : lettersZ s = runesZ s := by
  have e := letters_right s
  rw [h, decide_eq_true_eq] at e
  exact rn_lt s s.size 0 0 (Int.le_refl _) e

set_option maxHeartbeats 1000000 in
theorem runes_any (s : ByteArray) (w : World) (hs : s.size ≤ 4294967296) : Calls Tryz.prog 97 #[.string s] w fun e w' => e = .returned (.int .i64 (runesZ s)) ∧ ∃ o, w' = w.alloc o := by
  go_enter Tryz.func97, Tryz.ntmps97
  go_wp2_with fail
  go_loopg [3] s.size (fun k n w' => ∃ (pos b c : Nat), w' = w.iter s pos ∧ n = .int .i64 (c : Int) ∧ k = s.size - pos ∧ Hid (rnF s b pos c = runesZ s) ∧ s.size ≤ pos + b ∧ c ≤ pos)
  case atStart => exact ⟨0, s.size, 0, rfl, rfl, rfl, rfl, by omega, by omega⟩
  case round =>
    obtain ⟨pos, b, c, rfl, rfl, hk, Hc, hb, hcp⟩ := hrel
    have Hk : Hid _ := hk
    clear hk
    by_cases hp : pos < s.size
    · have hnx : ∀ ty, (Instr.next (.pointer (some ⟨w.heap.size, 0, none⟩)) true ty).run Tryz.prog (w.iter s pos) = _ := fun ty => run_next_any w s pos ty hp
      have hwd := width_pos s pos hp
      obtain ⟨b, rfl⟩ : ∃ c, b = c + 1 := ⟨b - 1, by omega⟩
      have He : Hid (rnF s (b + 1) pos c = rnF s b (pos + (Utf8.decode s pos).2) (c + 1)) := by
        show _ = _
        simp only [rnF, hp, if_true]
      go_wp2_with fail
      go_roundg (s.size - (pos + (Utf8.decode s pos).2))
      case measure => have := Hk.out; omega
      case rel =>
        refine ⟨pos + (Utf8.decode s pos).2, b, c + 1, rfl, by go_num, rfl, ?_, by omega, by omega⟩
        show _ = _
        rw [← Hc.out, He.out]; rfl
    · have hnx : ∀ ty, (Instr.next (.pointer (some ⟨w.heap.size, 0, none⟩)) true ty).run Tryz.prog (w.iter s pos) = _ := fun ty => run_next_end w s pos ty hp
      go_wp2_with fail
      go_ret
      exact ⟨ret_int (by rw [← Hc.out, rnF_end s b pos c hp]), _, rfl⟩

abbrev blankW (w : World) : World := w.alloc (.cells #[.int .i64 0, .int .i64 0, .string ⟨#[]⟩, .slice none 0 0] 24)

/-- The first letter of a text, as the program tells it. -/
def firstS (s : ByteArray) : ByteArray := Utf8.encode ((Utf8.decode s 0).1 : Int)

set_option maxHeartbeats 1000000 in
theorem firstRune_some (s : ByteArray) (w : World) (h0 : 0 < s.size) : Calls Tryz.prog 98 #[.string s] w fun e w' => e = .returned (.agg #[.int .i64 3, .int .i64 0, .string (firstS s), .slice none 0 0]) ∧ Below w.heap.size w w' := by
  unfold firstS
  have hnx : ∀ ty, (Instr.next (.pointer (some ⟨(blankW w).heap.size, 0, none⟩)) true ty).run Tryz.prog ((blankW w).iter s 0) = _ := fun ty => run_next_any (blankW w) s 0 ty h0
  simp only [World.size_alloc] at hnx
  have HB : Hid (Blank ((blankW w).iter s (0 + (Utf8.decode s 0).2)) w.heap.size) := (blank_alloc w).keeps ((Grew.refl _).alloc _).below
  have hbl : Below w.heap.size w ((blankW w).iter s (0 + (Utf8.decode s 0).2)) := (((Grew.refl w).alloc _).alloc _).below
  have Hbx : Hid _ := HB.out.put (⟨3, 0, Utf8.encode ((Utf8.decode s 0).1 : Int), []⟩, .slice none 0 0)
  have Hbl : Hid _ := below_put hbl (Nat.le_refl _) (⟨3, 0, Utf8.encode ((Utf8.decode s 0).1 : Int), []⟩, .slice none 0 0)
  clear hbl
  go_enter Tryz.func98, Tryz.ntmps98
  go_wp2_with fail
  go_loopg [] 0 (fun _ w' => w' = (blankW w).iter s 0)
  case atStart => rfl
  case round =>
    subst hrel
    obtain ⟨y0, y1, y2, y3, z0, z1, z2, z3⟩ := HB.out
    generalize hW : (blankW w).iter s (0 + (Utf8.decode s 0).2) = W at *
    go_wp2_with fail
    generalize Utf8.encode ((Utf8.decode s 0).1 : Int) = E at *
    refine bodyPost_ret (v := .agg #[.int .i64 3, .int .i64 0, .string E, .slice none 0 0]) ?_ rfl ⟨rfl, Hbl.out⟩
    obtain ⟨q0, q1, q2, q3⟩ := Hbx.out
    simp only [encP, World.setCells, Nat.zero_add, Nat.reduceAdd] at q0 q1 q2 q3
    simp [results, Tryz.results98, go_sem, q0, q1, q2, q3]

set_option maxHeartbeats 1000000 in
theorem firstRune_none (s : ByteArray) (w : World) (h0 : ¬ 0 < s.size) : Calls Tryz.prog 98 #[.string s] w fun e w' => e = .returned (.agg #[.int .i64 0, .int .i64 0, .string ⟨#[]⟩, .slice none 0 0]) ∧ Below w.heap.size w w' := by
  have hnx : ∀ ty, (Instr.next (.pointer (some ⟨(blankW w).heap.size, 0, none⟩)) true ty).run Tryz.prog ((blankW w).iter s 0) = _ := fun ty => run_next_end (blankW w) s 0 ty h0
  simp only [World.size_alloc] at hnx
  have HB : Hid (Blank ((blankW w).iter s 0) w.heap.size) := (blank_alloc w).keeps ((Grew.refl _).alloc _).below
  have hbl : Below w.heap.size w ((blankW w).iter s 0) := (((Grew.refl w).alloc _).alloc _).below
  have Hbx : Hid _ := HB.out.put (⟨0, 0, ⟨#[]⟩, []⟩, .slice none 0 0)
  have Hbl : Hid _ := below_put hbl (Nat.le_refl _) (⟨0, 0, ⟨#[]⟩, []⟩, .slice none 0 0)
  clear hbl
  go_enter Tryz.func98, Tryz.ntmps98
  go_wp2_with fail
  go_loopg [] 0 (fun _ w' => w' = (blankW w).iter s 0)
  case atStart => rfl
  case round =>
    subst hrel
    obtain ⟨y0, y1, y2, y3, z0, z1, z2, z3⟩ := HB.out
    generalize hW : (blankW w).iter s 0 = W at *
    go_wp2_with fail
    refine bodyPost_ret (v := .agg #[.int .i64 0, .int .i64 0, .string ⟨#[]⟩, .slice none 0 0]) ?_ rfl ⟨rfl, Hbl.out⟩
    obtain ⟨q0, q1, q2, q3⟩ := Hbx.out
    simp only [encP, World.setCells, Nat.zero_add, Nat.reduceAdd] at q0 q1 q2 q3
    simp [results, Tryz.results98, go_sem, q0, q1, q2, q3]

end Go.Proofs.YtofceccicmlmoaaGreat

