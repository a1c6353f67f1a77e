/-
  Reductions, in plain words.
-/
import Derived.Test.YtdapildmegdjkaaGreatConj
import Derived.Test.YtdapildmegdjkaaGreatTwo2
import Derived.Test.YtdapildmegdjkaaGreatRConj
import Derived.Test.YtdapildmegdjkaaGreatEq
namespace Go.Proofs.YtdapildmegdjkaaGreat
open Go.RowKit

/-- The functions of two values. -/
def bothT : Nat → VT → VT → VT
  | 0 => addT
  | 1 => maxT
  | 2 => minT
  | 3 => conjT
  | 4 => fun t _ => t
  | 5 => fun _ s => s
  | 6 => addT
  | _ => fun t _ => countT t

def stopQ (q : Nat) (r : VT) : Bool := if q = 6 then stopB r else false

theorem both_right (q : Nat) {t s : VT} (hr : rightV 16 t = true) (hd : Dp 16 t) (hr2 : rightV 16 s = true) (hd2 : Dp 16 s) : rightV 16 (bothT q t s) = true ∧ Dp 16 (bothT q t s) := by
  have hadd : rightV 16 (addT t s) = true ∧ Dp 16 (addT t s) := by
    unfold addT
    split
    · exact ⟨int_right _, dp_leaf rfl⟩
    · exact ⟨hr, hd⟩
  unfold bothT
  split
  · exact hadd
  · unfold maxT; split
    · exact ⟨hr2, hd2⟩
    · exact ⟨hr, hd⟩
  · unfold minT; split
    · exact ⟨hr2, hd2⟩
    · exact ⟨hr, hd⟩
  · exact conj_right hr hd hr2 hd2
  · exact ⟨hr, hd⟩
  · exact ⟨hr2, hd2⟩
  · exact hadd
  · show rightV 16 (countT t) = true ∧ Dp 16 (countT t)
    unfold countT
    split
    · exact ⟨int_right _, dp_leaf rfl⟩
    · exact ⟨int_right _, dp_leaf rfl⟩

theorem both_any (X : Nat → Prop) (q : Nat) (hq : q < 8) (t s : VT) (u v : Value) (w : World) (hl : LiesX X 16 w t.items u) (hl2 : LiesX X 16 w s.items v) (hr : rightV 16 t = true) (hr2 : rightV 16 s = true) :
    Calls Tryz.prog (twoF q) #[.agg #[.int .i64 t.kind, .int .i64 t.num, .string t.text, u], .agg #[.int .i64 s.kind, .int .i64 s.num, .string s.text, v]] w (FnPost X (bothT q t s) w) := by
  obtain ⟨a, c, rfl, _⟩ := LiesX.slice hl
  obtain ⟨a2, c2, rfl, _⟩ := LiesX.slice hl2
  match q, hq with
  | 0, _ => exact add_any X t s a a2 _ c _ c2 w hl hl2
  | 1, _ => exact greater_any X t s a a2 _ c _ c2 w hl hl2
  | 2, _ => exact lesser_any X t s a a2 _ c _ c2 w hl hl2
  | 3, _ => exact conj_any X t s a a2 _ c _ c2 w hl hl2 hr hr2
  | 4, _ => exact left_any X t s a a2 _ c _ c2 w hl hl2
  | 5, _ => exact right_any2 X t s a a2 _ c _ c2 w hl hl2
  | 6, _ => exact add_any X t s a a2 _ c _ c2 w hl hl2
  | 7, _ => exact count_any X t s a a2 _ c _ c2 w hl hl2

theorem stops_any (q : Nat) (hq : q < 8) (r : VT) (u : Value) (w : World) (hl : Lies 16 w r.items u) : Calls Tryz.prog (stopF q) #[.agg #[.int .i64 r.kind, .int .i64 r.num, .string r.text, u]] w (QPost (stopQ q r) w) := by
  obtain ⟨a, c, rfl, _⟩ := Lies.slice hl
  match q, hq with
  | 0, _ => exact never_any r a _ c w
  | 1, _ => exact never_any r a _ c w
  | 2, _ => exact never_any r a _ c w
  | 3, _ => exact never_any r a _ c w
  | 4, _ => exact never_any r a _ c w
  | 5, _ => exact never_any r a _ c w
  | 6, _ => exact isGreat_any r a _ c w
  | 7, _ => exact never_any r a _ c w

def twoE (d : Nat) (q : Int) (t s : VT) : Int := if q < 0 ∨ 8 ≤ q then 4 else if rightV d t = true ∧ rightV d s = true then 0 else 3
def twoT (d : Nat) (q : Int) (t s : VT) : VT := if twoE d q t s = 0 then bothT q.toNat t s else nilT
def twoB (d : Nat) (q : Int) (t s : VT) : Bool := if twoE d q t s = 0 then stopQ q.toNat (bothT q.toNat t s) else false

theorem two_any (d : Nat) (q : Int) (t s : VT) (u v : Value) (w : World) (hu : Lies d w t.items u) (hv : Lies d w s.items v) (hs : t.text.size ≤ 9223372036854775807) (hs2 : s.text.size ≤ 9223372036854775807) :
    Calls Tryz.prog 72 #[.int .i64 q, .agg #[.int .i64 t.kind, .int .i64 t.num, .string t.text, u], .agg #[.int .i64 s.kind, .int .i64 s.num, .string s.text, v]] w (TPost (twoT d q t s) (twoB d q t s) (twoE d q t s) w) := by
  unfold twoT twoB
  by_cases hq : q < 0 ∨ 8 ≤ q
  · have e : twoE d q t s = 4 := by unfold twoE; rw [if_pos hq]
    rw [e]
    exact two_kind d q t s u v w hu hv hq
  · obtain ⟨Q, hQ, hQ8⟩ : ∃ Q : Nat, q = Q ∧ Q < 8 := ⟨q.toNat, by omega, by omega⟩
    subst hQ
    have h := two_core d Q (twoF Q) (stopF Q) t s (bothT Q t s) (stopQ Q (bothT Q t s)) u v w hu hv hs hs2 hQ8
      (fun x y => start4_row w _ _ x y Q hQ8) (fun x y => start4_row2 w _ _ x y Q hQ8) (twoF_enters Q hQ8) (stopF_enters Q hQ8)
      (fun h1 h2 W hW => both_any (fun _ => True) Q hQ8 t s u v W (((LiesX.of_lies (canon hu h1).1).keeps hW).mono (fun _ _ => trivial)) (((LiesX.of_lies (canon hv h2).1).keeps hW).mono (fun _ _ => trivial)) (canon hu h1).2 (canon hv h2).2)
      (fun x W hl => stops_any Q hQ8 _ x W hl)
      (fun h1 h2 => (both_right Q (canon hu h1).2 (right_deep h1 (Dp.of_lies d w t u hu)) (canon hv h2).2 (right_deep h2 (Dp.of_lies d w s v hv))).1)
    by_cases hr : rightV d t = true ∧ rightV d s = true
    · have e : twoE d Q t s = 0 := by unfold twoE; rw [if_neg hq, if_pos hr]
      rw [e]
      rw [if_pos hr] at h
      exact h
    · have e : twoE d Q t s = 3 := by unfold twoE; rw [if_neg hq, if_neg hr]
      rw [e]
      rw [if_neg hr] at h
      exact h

end Go.Proofs.YtdapildmegdjkaaGreat

namespace Go.Proofs.YtdapildmegdjkaaGreat
open Go.RowKit

/-- A value and an answer are told. -/
def BPost (X : Nat → Prop) (r : VT) (b : Bool) (W : World) (e : Ending) (W' : World) : Prop :=
  ∃ u, e = .returned (.tuple #[.agg #[.int .i64 r.kind, .int .i64 r.num, .string r.text, u], .bool b]) ∧ LiesX (fun b => X b ∨ W.heap.size ≤ b) 16 W' r.items u ∧ Below W.heap.size W W'

theorem bPost_same {X : Nat → Prop} {t : VT} {u : Value} {W W' : World} (hl : LiesX X 16 W t.items u) (h : Below W.heap.size W W') : BPost X t false W (.returned (.tuple #[.agg #[.int .i64 t.kind, .int .i64 t.num, .string t.text, u], .bool false])) W' :=
  ⟨_, rfl, (hl.keeps h).mono (fun _ h => .inl h), h⟩

theorem bPost_int {X : Nat → Prop} {n : Int} {W W' : World} (h : Below W.heap.size W W') : BPost X (intT n) false W (.returned (.tuple #[.agg #[.int .i64 2, .int .i64 n, .string ⟨#[]⟩, .slice none 0 0], .bool false])) W' :=
  ⟨_, rfl, liesX_nil _ _ _ _ _, h⟩

set_option maxHeartbeats 2000000 in
theorem rboth0 (X : Nat → Prop) (t s r : VT) (a a2 : Option Addr) (l c l2 c2 : Nat) (w : World) (Hf : Hid (∀ W, Below w.heap.size w W → Calls Tryz.prog 75 #[.agg #[.int .i64 t.kind, .int .i64 t.num, .string t.text, .slice a l c], .agg #[.int .i64 s.kind, .int .i64 s.num, .string s.text, .slice a2 l2 c2]] W (FnPost (fun b => X b ∧ b < w.heap.size) r W))) : Calls Tryz.prog 34 #[.int .i64 0, .agg #[.int .i64 t.kind, .int .i64 t.num, .string t.text, .slice a l c], .agg #[.int .i64 s.kind, .int .i64 s.num, .string s.text, .slice a2 l2 c2]] w (BPost X r false w) := by
  have hbz := two3_below w t s (.slice a l c) (.slice a2 l2 c2)
  have HR : Hid (Bx (two3 w t s (.slice a l c) (.slice a2 l2 c2)) (w.heap.size + 2) zeroT (.slice none 0 0)) := two3_res _ _ _ _ _
  have Hz : Hid ((two3 w t s (.slice a l c) (.slice a2 l2 c2)).heap.size = w.heap.size + 3) := two3_size _ _ _ _ _
  go_enter Tryz.func34, Tryz.ntmps34
  go_wp2_with fail
  refine Calls.mono (Hf.out _ hbz) ?_
  rintro e w1 ⟨v, rfl, hl, hb⟩
  have hb : Below (two3 w t s (.slice a l c) (.slice a2 l2 c2)).heap.size (two3 w t s (.slice a l c) (.slice a2 l2 c2)) w1 := hb
  have hb1 : Below w.heap.size w w1 := hbz.trans (hb.mono hbz.size)
  have HR1 : Hid (Bx w1 (w.heap.size + 2) zeroT (.slice none 0 0)) := HR.out.keeps hb
  obtain ⟨a3, c3, rfl, _⟩ := LiesX.slice hl
  have HL : Hid (LiesX (fun b => (X b ∧ b < w.heap.size) ∨ w.heap.size + 3 ≤ b) 16 w1 r.items (.slice a3 r.items.length c3)) := hl.mono (fun b hb => by
    rcases hb with hb | hb
    · exact .inl hb
    · exact .inr (by have := Hz.out; have hb' : (two3 w t s (.slice a l c) (.slice a2 l2 c2)).heap.size ≤ b := hb; omega))
  obtain ⟨y0, y1, y2, y3, z0, z1, z2, z3⟩ := HR1.out
  clear hb hbz HR hl Hz Hf
  generalize r.items.length = M at *
  have Hbx : Hid (Bx (w1.setCells (w.heap.size + 2) 0 (encP (r, .slice a3 M c3))) (w.heap.size + 2) r (.slice a3 M c3)) := HR1.out.put (r, .slice a3 M c3)
  have Hbl : Hid (Below w.heap.size w (w1.setCells (w.heap.size + 2) 0 (encP (r, .slice a3 M c3)))) := below_put hb1 (by omega) (r, .slice a3 M c3)
  have Hfin : Hid (LiesX (fun b => X b ∨ w.heap.size ≤ b) 16 (w1.setCells (w.heap.size + 2) 0 (encP (r, .slice a3 M c3))) r.items (.slice a3 M c3)) := (HL.out.set (g := w.heap.size + 2) (by omega)).mono (fun b hb => by rcases hb with hb | hb; exact .inl hb.1; exact .inr (by omega))
  go_wp2_with fail
  refine bodyPost_ret (v := .tuple #[.agg #[.int .i64 r.kind, .int .i64 r.num, .string r.text, .slice a3 M c3], .bool false]) ?_ rfl ⟨_, rfl, Hfin.out, Hbl.out⟩
  obtain ⟨q0, q1, q2, q3, _, _, _, _⟩ := Hbx.out
  simp only [encP, World.setCells, Nat.zero_add, Nat.reduceAdd] at q0 q1 q2 q3
  simp [results, Tryz.results34, go_sem, q0, q1, q2, q3]

set_option maxHeartbeats 2000000 in
theorem rboth3 (X : Nat → Prop) (t s r : VT) (a a2 : Option Addr) (l c l2 c2 : Nat) (w : World) (Hf : Hid (∀ W, Below w.heap.size w W → Calls Tryz.prog 77 #[.agg #[.int .i64 t.kind, .int .i64 t.num, .string t.text, .slice a l c], .agg #[.int .i64 s.kind, .int .i64 s.num, .string s.text, .slice a2 l2 c2]] W (FnPost (fun b => X b ∧ b < w.heap.size) r W))) : Calls Tryz.prog 34 #[.int .i64 3, .agg #[.int .i64 t.kind, .int .i64 t.num, .string t.text, .slice a l c], .agg #[.int .i64 s.kind, .int .i64 s.num, .string s.text, .slice a2 l2 c2]] w (BPost X r false w) := by
  have hbz := two3_below w t s (.slice a l c) (.slice a2 l2 c2)
  have HR : Hid (Bx (two3 w t s (.slice a l c) (.slice a2 l2 c2)) (w.heap.size + 2) zeroT (.slice none 0 0)) := two3_res _ _ _ _ _
  have Hz : Hid ((two3 w t s (.slice a l c) (.slice a2 l2 c2)).heap.size = w.heap.size + 3) := two3_size _ _ _ _ _
  go_enter Tryz.func34, Tryz.ntmps34
  go_wp2_with fail
  refine Calls.mono (Hf.out _ hbz) ?_
  rintro e w1 ⟨v, rfl, hl, hb⟩
  have hb : Below (two3 w t s (.slice a l c) (.slice a2 l2 c2)).heap.size (two3 w t s (.slice a l c) (.slice a2 l2 c2)) w1 := hb
  have hb1 : Below w.heap.size w w1 := hbz.trans (hb.mono hbz.size)
  have HR1 : Hid (Bx w1 (w.heap.size + 2) zeroT (.slice none 0 0)) := HR.out.keeps hb
  obtain ⟨a3, c3, rfl, _⟩ := LiesX.slice hl
  have HL : Hid (LiesX (fun b => (X b ∧ b < w.heap.size) ∨ w.heap.size + 3 ≤ b) 16 w1 r.items (.slice a3 r.items.length c3)) := hl.mono (fun b hb => by
    rcases hb with hb | hb
    · exact .inl hb
    · exact .inr (by have := Hz.out; have hb' : (two3 w t s (.slice a l c) (.slice a2 l2 c2)).heap.size ≤ b := hb; omega))
  obtain ⟨y0, y1, y2, y3, z0, z1, z2, z3⟩ := HR1.out
  clear hb hbz HR hl Hz Hf
  generalize r.items.length = M at *
  have Hbx : Hid (Bx (w1.setCells (w.heap.size + 2) 0 (encP (r, .slice a3 M c3))) (w.heap.size + 2) r (.slice a3 M c3)) := HR1.out.put (r, .slice a3 M c3)
  have Hbl : Hid (Below w.heap.size w (w1.setCells (w.heap.size + 2) 0 (encP (r, .slice a3 M c3)))) := below_put hb1 (by omega) (r, .slice a3 M c3)
  have Hfin : Hid (LiesX (fun b => X b ∨ w.heap.size ≤ b) 16 (w1.setCells (w.heap.size + 2) 0 (encP (r, .slice a3 M c3))) r.items (.slice a3 M c3)) := (HL.out.set (g := w.heap.size + 2) (by omega)).mono (fun b hb => by rcases hb with hb | hb; exact .inl hb.1; exact .inr (by omega))
  go_wp2_with fail
  refine bodyPost_ret (v := .tuple #[.agg #[.int .i64 r.kind, .int .i64 r.num, .string r.text, .slice a3 M c3], .bool false]) ?_ rfl ⟨_, rfl, Hfin.out, Hbl.out⟩
  obtain ⟨q0, q1, q2, q3, _, _, _, _⟩ := Hbx.out
  simp only [encP, World.setCells, Nat.zero_add, Nat.reduceAdd] at q0 q1 q2 q3
  simp [results, Tryz.results34, go_sem, q0, q1, q2, q3]

set_option maxHeartbeats 2000000 in
theorem rboth1 (X : Nat → Prop) (t s : VT) (a a2 : Option Addr) (l c l2 c2 : Nat) (w : World) (h : LiesX X 16 w t.items (.slice a l c)) (h2 : LiesX X 16 w s.items (.slice a2 l2 c2)) : Calls Tryz.prog 34 #[.int .i64 1, .agg #[.int .i64 t.kind, .int .i64 t.num, .string t.text, .slice a l c], .agg #[.int .i64 s.kind, .int .i64 s.num, .string s.text, .slice a2 l2 c2]] w (BPost X (maxT t s) false w) := by
  have hbz := two3_below w t s (.slice a l c) (.slice a2 l2 c2)
  have HX : Hid (Bx (two3 w t s (.slice a l c) (.slice a2 l2 c2)) w.heap.size t (.slice a l c)) := two3_first _ _ _ _ _
  have HY : Hid (Bx (two3 w t s (.slice a l c) (.slice a2 l2 c2)) (w.heap.size + 1) s (.slice a2 l2 c2)) := two3_second _ _ _ _ _
  have HR : Hid (Bx (two3 w t s (.slice a l c) (.slice a2 l2 c2)) (w.heap.size + 2) zeroT (.slice none 0 0)) := two3_res _ _ _ _ _
  have Hz : Hid ((two3 w t s (.slice a l c) (.slice a2 l2 c2)).heap.size = w.heap.size + 3) := two3_size _ _ _ _ _
  have HLt : Hid (LiesX (fun b => X b ∧ b < w.heap.size) 16 w t.items (.slice a l c)) := h.both
  have HLs : Hid (LiesX (fun b => X b ∧ b < w.heap.size) 16 w s.items (.slice a2 l2 c2)) := h2.both
  have hturn := cmpV_turn 16 t s
  have Hl1 : Hid (Lies 16 w t.items (.slice a l c)) := h.lies
  have Hl2 : Hid (Lies 16 w s.items (.slice a2 l2 c2)) := h2.lies
  clear h h2
  go_enter Tryz.func34, Tryz.ntmps34
  go_wp2_with fail
  refine Calls.mono (ref_any 16 s t _ _ _ (Lies.keeps hbz _ _ _ Hl2.out) (Lies.keeps hbz _ _ _ Hl1.out)) ?_
  rintro e w1 ⟨rfl, hg⟩
  have hb : Below (two3 w t s (.slice a l c) (.slice a2 l2 c2)).heap.size (two3 w t s (.slice a l c) (.slice a2 l2 c2)) w1 := hg
  have hb1 : Below w.heap.size w w1 := hbz.trans (hb.mono hbz.size)
  have HR1 : Hid (Bx w1 (w.heap.size + 2) zeroT (.slice none 0 0)) := HR.out.keeps hb
  obtain ⟨x0, x1, x2, x3, _, _, _, _⟩ := HX.out.keeps hb
  obtain ⟨u0, u1, u2, u3, _, _, _, _⟩ := HY.out.keeps hb
  obtain ⟨y0, y1, y2, y3, z0, z1, z2, z3⟩ := HR1.out
  clear hg hb hbz HX HY HR Hz Hl1 Hl2
  by_cases hc : 0 < cmpV 16 s t
  · have He : Hid (maxT t s = s) := if_pos (by omega)
    clear hturn
    have Hbx : Hid (Bx (w1.setCells (w.heap.size + 2) 0 (encP (s, .slice a2 l2 c2))) (w.heap.size + 2) s (.slice a2 l2 c2)) := HR1.out.put (s, .slice a2 l2 c2)
    have Hbl : Hid (Below w.heap.size w (w1.setCells (w.heap.size + 2) 0 (encP (s, .slice a2 l2 c2)))) := below_put hb1 (by omega) (s, .slice a2 l2 c2)
    have Hfin : Hid (LiesX (fun b => X b ∨ w.heap.size ≤ b) 16 (w1.setCells (w.heap.size + 2) 0 (encP (s, .slice a2 l2 c2))) s.items (.slice a2 l2 c2)) := ((HLs.out.keeps hb1).set (g := w.heap.size + 2) (by omega)).mono (fun b hb => .inl hb.1)
    go_wp2_with fail
    refine bodyPost_ret (v := .tuple #[.agg #[.int .i64 s.kind, .int .i64 s.num, .string s.text, .slice a2 l2 c2], .bool false]) ?_ rfl (by rw [He.out]; exact ⟨_, rfl, Hfin.out, Hbl.out⟩)
    obtain ⟨q0, q1, q2, q3, _, _, _, _⟩ := Hbx.out
    simp only [encP, World.setCells, Nat.zero_add, Nat.reduceAdd] at q0 q1 q2 q3
    simp [results, Tryz.results34, go_sem, q0, q1, q2, q3]
  · have He : Hid (maxT t s = t) := if_neg (by omega)
    clear hturn
    have Hbx : Hid (Bx (w1.setCells (w.heap.size + 2) 0 (encP (t, .slice a l c))) (w.heap.size + 2) t (.slice a l c)) := HR1.out.put (t, .slice a l c)
    have Hbl : Hid (Below w.heap.size w (w1.setCells (w.heap.size + 2) 0 (encP (t, .slice a l c)))) := below_put hb1 (by omega) (t, .slice a l c)
    have Hfin : Hid (LiesX (fun b => X b ∨ w.heap.size ≤ b) 16 (w1.setCells (w.heap.size + 2) 0 (encP (t, .slice a l c))) t.items (.slice a l c)) := ((HLt.out.keeps hb1).set (g := w.heap.size + 2) (by omega)).mono (fun b hb => .inl hb.1)
    go_wp2_with fail
    refine bodyPost_ret (v := .tuple #[.agg #[.int .i64 t.kind, .int .i64 t.num, .string t.text, .slice a l c], .bool false]) ?_ rfl (by rw [He.out]; exact ⟨_, rfl, Hfin.out, Hbl.out⟩)
    obtain ⟨q0, q1, q2, q3, _, _, _, _⟩ := Hbx.out
    simp only [encP, World.setCells, Nat.zero_add, Nat.reduceAdd] at q0 q1 q2 q3
    simp [results, Tryz.results34, go_sem, q0, q1, q2, q3]

set_option maxHeartbeats 2000000 in
theorem rboth2 (X : Nat → Prop) (t s : VT) (a a2 : Option Addr) (l c l2 c2 : Nat) (w : World) (h : LiesX X 16 w t.items (.slice a l c)) (h2 : LiesX X 16 w s.items (.slice a2 l2 c2)) : Calls Tryz.prog 34 #[.int .i64 2, .agg #[.int .i64 t.kind, .int .i64 t.num, .string t.text, .slice a l c], .agg #[.int .i64 s.kind, .int .i64 s.num, .string s.text, .slice a2 l2 c2]] w (BPost X (minT t s) false w) := by
  have hbz := two3_below w t s (.slice a l c) (.slice a2 l2 c2)
  have HX : Hid (Bx (two3 w t s (.slice a l c) (.slice a2 l2 c2)) w.heap.size t (.slice a l c)) := two3_first _ _ _ _ _
  have HY : Hid (Bx (two3 w t s (.slice a l c) (.slice a2 l2 c2)) (w.heap.size + 1) s (.slice a2 l2 c2)) := two3_second _ _ _ _ _
  have HR : Hid (Bx (two3 w t s (.slice a l c) (.slice a2 l2 c2)) (w.heap.size + 2) zeroT (.slice none 0 0)) := two3_res _ _ _ _ _
  have Hz : Hid ((two3 w t s (.slice a l c) (.slice a2 l2 c2)).heap.size = w.heap.size + 3) := two3_size _ _ _ _ _
  have HLt : Hid (LiesX (fun b => X b ∧ b < w.heap.size) 16 w t.items (.slice a l c)) := h.both
  have HLs : Hid (LiesX (fun b => X b ∧ b < w.heap.size) 16 w s.items (.slice a2 l2 c2)) := h2.both
  have hturn := cmpV_turn 16 t s
  have Hl1 : Hid (Lies 16 w t.items (.slice a l c)) := h.lies
  have Hl2 : Hid (Lies 16 w s.items (.slice a2 l2 c2)) := h2.lies
  clear h h2
  go_enter Tryz.func34, Tryz.ntmps34
  go_wp2_with fail
  refine Calls.mono (ref_any 16 s t _ _ _ (Lies.keeps hbz _ _ _ Hl2.out) (Lies.keeps hbz _ _ _ Hl1.out)) ?_
  rintro e w1 ⟨rfl, hg⟩
  have hb : Below (two3 w t s (.slice a l c) (.slice a2 l2 c2)).heap.size (two3 w t s (.slice a l c) (.slice a2 l2 c2)) w1 := hg
  have hb1 : Below w.heap.size w w1 := hbz.trans (hb.mono hbz.size)
  have HR1 : Hid (Bx w1 (w.heap.size + 2) zeroT (.slice none 0 0)) := HR.out.keeps hb
  obtain ⟨x0, x1, x2, x3, _, _, _, _⟩ := HX.out.keeps hb
  obtain ⟨u0, u1, u2, u3, _, _, _, _⟩ := HY.out.keeps hb
  obtain ⟨y0, y1, y2, y3, z0, z1, z2, z3⟩ := HR1.out
  clear hg hb hbz HX HY HR Hz Hl1 Hl2
  by_cases hc : cmpV 16 s t < 0
  · have He : Hid (minT t s = s) := if_pos (by omega)
    clear hturn
    have Hbx : Hid (Bx (w1.setCells (w.heap.size + 2) 0 (encP (s, .slice a2 l2 c2))) (w.heap.size + 2) s (.slice a2 l2 c2)) := HR1.out.put (s, .slice a2 l2 c2)
    have Hbl : Hid (Below w.heap.size w (w1.setCells (w.heap.size + 2) 0 (encP (s, .slice a2 l2 c2)))) := below_put hb1 (by omega) (s, .slice a2 l2 c2)
    have Hfin : Hid (LiesX (fun b => X b ∨ w.heap.size ≤ b) 16 (w1.setCells (w.heap.size + 2) 0 (encP (s, .slice a2 l2 c2))) s.items (.slice a2 l2 c2)) := ((HLs.out.keeps hb1).set (g := w.heap.size + 2) (by omega)).mono (fun b hb => .inl hb.1)
    go_wp2_with fail
    refine bodyPost_ret (v := .tuple #[.agg #[.int .i64 s.kind, .int .i64 s.num, .string s.text, .slice a2 l2 c2], .bool false]) ?_ rfl (by rw [He.out]; exact ⟨_, rfl, Hfin.out, Hbl.out⟩)
    obtain ⟨q0, q1, q2, q3, _, _, _, _⟩ := Hbx.out
    simp only [encP, World.setCells, Nat.zero_add, Nat.reduceAdd] at q0 q1 q2 q3
    simp [results, Tryz.results34, go_sem, q0, q1, q2, q3]
  · have He : Hid (minT t s = t) := if_neg (by omega)
    clear hturn
    have Hbx : Hid (Bx (w1.setCells (w.heap.size + 2) 0 (encP (t, .slice a l c))) (w.heap.size + 2) t (.slice a l c)) := HR1.out.put (t, .slice a l c)
    have Hbl : Hid (Below w.heap.size w (w1.setCells (w.heap.size + 2) 0 (encP (t, .slice a l c)))) := below_put hb1 (by omega) (t, .slice a l c)
    have Hfin : Hid (LiesX (fun b => X b ∨ w.heap.size ≤ b) 16 (w1.setCells (w.heap.size + 2) 0 (encP (t, .slice a l c))) t.items (.slice a l c)) := ((HLt.out.keeps hb1).set (g := w.heap.size + 2) (by omega)).mono (fun b hb => .inl hb.1)
    go_wp2_with fail
    refine bodyPost_ret (v := .tuple #[.agg #[.int .i64 t.kind, .int .i64 t.num, .string t.text, .slice a l c], .bool false]) ?_ rfl (by rw [He.out]; exact ⟨_, rfl, Hfin.out, Hbl.out⟩)
    obtain ⟨q0, q1, q2, q3, _, _, _, _⟩ := Hbx.out
    simp only [encP, World.setCells, Nat.zero_add, Nat.reduceAdd] at q0 q1 q2 q3
    simp [results, Tryz.results34, go_sem, q0, q1, q2, q3]

set_option maxHeartbeats 2000000 in
theorem rboth4 (X : Nat → Prop) (t s : VT) (a a2 : Option Addr) (l c l2 c2 : Nat) (w : World) (h : LiesX X 16 w t.items (.slice a l c)) (_h2 : LiesX X 16 w s.items (.slice a2 l2 c2)) : Calls Tryz.prog 34 #[.int .i64 4, .agg #[.int .i64 t.kind, .int .i64 t.num, .string t.text, .slice a l c], .agg #[.int .i64 s.kind, .int .i64 s.num, .string s.text, .slice a2 l2 c2]] w (BPost X t false w) := by
  have HL : Hid (LiesX X 16 w t.items (.slice a l c)) := h
  clear h
  go_enter Tryz.func34, Tryz.ntmps34
  go_wp2_with fail
  exact bodyPost_ret (v := .tuple #[.agg #[.int .i64 t.kind, .int .i64 t.num, .string t.text, .slice a l c], .bool false]) (by simp [results, Tryz.results34, go_sem]) rfl (bPost_same HL.out (grew3 _ _ _ _))

set_option maxHeartbeats 2000000 in
theorem rboth5 (X : Nat → Prop) (t s : VT) (a a2 : Option Addr) (l c l2 c2 : Nat) (w : World) (_h : LiesX X 16 w t.items (.slice a l c)) (h2 : LiesX X 16 w s.items (.slice a2 l2 c2)) : Calls Tryz.prog 34 #[.int .i64 5, .agg #[.int .i64 t.kind, .int .i64 t.num, .string t.text, .slice a l c], .agg #[.int .i64 s.kind, .int .i64 s.num, .string s.text, .slice a2 l2 c2]] w (BPost X s false w) := by
  have HL : Hid (LiesX X 16 w s.items (.slice a2 l2 c2)) := h2
  clear h2
  go_enter Tryz.func34, Tryz.ntmps34
  go_wp2_with fail
  exact bodyPost_ret (v := .tuple #[.agg #[.int .i64 s.kind, .int .i64 s.num, .string s.text, .slice a2 l2 c2], .bool false]) (by simp [results, Tryz.results34, go_sem]) rfl (bPost_same HL.out (grew3 _ _ _ _))

set_option maxHeartbeats 2000000 in
theorem rboth7 (X : Nat → Prop) (t s : VT) (a a2 : Option Addr) (l c l2 c2 : Nat) (w : World) : Calls Tryz.prog 34 #[.int .i64 7, .agg #[.int .i64 t.kind, .int .i64 t.num, .string t.text, .slice a l c], .agg #[.int .i64 s.kind, .int .i64 s.num, .string s.text, .slice a2 l2 c2]] w (BPost X (countT t) false w) := by
  cases hk : (t.kind == 2)
  · have e : countT t = intT 1 := by unfold countT; rw [if_neg (by simpa using hk)]
    rw [e]
    clear e
    go_enter Tryz.func34, Tryz.ntmps34
    go_wp2_with (go_at_call 52; refine (r5int_any _ _).mono ?_; rintro e w' ⟨rfl, rfl⟩)
    exact bodyPost_ret (v := .tuple #[.agg #[.int .i64 2, .int .i64 1, .string ⟨#[]⟩, .slice none 0 0], .bool false]) (by simp [results, Tryz.results34, go_sem]) rfl (bPost_int (grew4 _ _ _ _ _))
  · have e : countT t = intT (incI t.num) := by unfold countT; rw [if_pos (by simpa using hk)]
    rw [e]
    clear e
    go_enter Tryz.func34, Tryz.ntmps34
    go_wp2_with (go_at_call 52; refine (r5int_any _ _).mono ?_; rintro e w' ⟨rfl, rfl⟩)
    exact bodyPost_ret (v := .tuple #[.agg #[.int .i64 2, .int .i64 (incI t.num), .string ⟨#[]⟩, .slice none 0 0], .bool false]) (by simp [results, Tryz.results34, go_sem, incI]) rfl (bPost_int (grew4 _ _ _ _ _))

set_option maxHeartbeats 2000000 in
theorem rboth6 (X : Nat → Prop) (t s r : VT) (a a2 : Option Addr) (l c l2 c2 : Nat) (w : World) (Hf : Hid (∀ W, Below w.heap.size w W → Calls Tryz.prog 75 #[.agg #[.int .i64 t.kind, .int .i64 t.num, .string t.text, .slice a l c], .agg #[.int .i64 s.kind, .int .i64 s.num, .string s.text, .slice a2 l2 c2]] W (FnPost (fun b => X b ∧ b < w.heap.size) r W))) : Calls Tryz.prog 34 #[.int .i64 6, .agg #[.int .i64 t.kind, .int .i64 t.num, .string t.text, .slice a l c], .agg #[.int .i64 s.kind, .int .i64 s.num, .string s.text, .slice a2 l2 c2]] w (BPost X r (stopB r) w) := by
  have hbz := two3_below w t s (.slice a l c) (.slice a2 l2 c2)
  have HR : Hid (Bx (two3 w t s (.slice a l c) (.slice a2 l2 c2)) (w.heap.size + 2) zeroT (.slice none 0 0)) := two3_res _ _ _ _ _
  have Hz : Hid ((two3 w t s (.slice a l c) (.slice a2 l2 c2)).heap.size = w.heap.size + 3) := two3_size _ _ _ _ _
  go_enter Tryz.func34, Tryz.ntmps34
  go_wp2_with fail
  refine Calls.mono (Hf.out _ hbz) ?_
  rintro e w1 ⟨v, rfl, hl, hb⟩
  have hb : Below (two3 w t s (.slice a l c) (.slice a2 l2 c2)).heap.size (two3 w t s (.slice a l c) (.slice a2 l2 c2)) w1 := hb
  have hb1 : Below w.heap.size w w1 := hbz.trans (hb.mono hbz.size)
  have hsz1 : w.heap.size + 3 ≤ w1.heap.size := by have := hb.size; rw [Hz.out] at this; exact this
  obtain ⟨a3, c3, rfl, _⟩ := LiesX.slice hl
  have HL : Hid (LiesX (fun b => (X b ∧ b < w.heap.size) ∨ w.heap.size + 3 ≤ b) 16 w1 r.items (.slice a3 r.items.length c3)) := hl.mono (fun b hb => by
    rcases hb with hb | hb
    · exact .inl hb
    · exact .inr (by have := Hz.out; have hb' : (two3 w t s (.slice a l c) (.slice a2 l2 c2)).heap.size ≤ b := hb; omega))
  generalize r.items.length = M at *
  have HR2 : Hid (Bx (w1.alloc (.cells #[.int .i64 r.kind, .int .i64 r.num, .string r.text, .slice a3 M c3] 24)) (w.heap.size + 2) zeroT (.slice none 0 0)) := (HR.out.keeps hb).keeps ((Grew.refl _).alloc _).below
  have HV2 : Hid (Bx (w1.alloc (.cells #[.int .i64 r.kind, .int .i64 r.num, .string r.text, .slice a3 M c3] 24)) w1.heap.size r (.slice a3 M c3)) := bx_alloc w1 r _
  have hb2 : Below w.heap.size w (w1.alloc (.cells #[.int .i64 r.kind, .int .i64 r.num, .string r.text, .slice a3 M c3] 24)) := hb1.alloc hb1.size _
  have HL2 : Hid (LiesX (fun b => (X b ∧ b < w.heap.size) ∨ w.heap.size + 3 ≤ b) 16 (w1.alloc (.cells #[.int .i64 r.kind, .int .i64 r.num, .string r.text, .slice a3 M c3] 24)) r.items (.slice a3 M c3)) := HL.out.keeps ((Grew.refl _).alloc _).below
  clear hb hbz HR hl Hz Hf HL hb1
  go_wp2_with fail
  generalize w1.alloc (.cells #[.int .i64 r.kind, .int .i64 r.num, .string r.text, .slice a3 M c3] 24) = W at *
  have n1 : w1.heap.size ≠ w.heap.size + 1 + 1 := by omega
  generalize w1.heap.size = B1 at *
  obtain ⟨x0, x1, x2, x3, _, _, _, _⟩ := HV2.out
  obtain ⟨y0, y1, y2, y3, z0, z1, z2, z3⟩ := HR2.out
  cases hk : (r.kind == 2)
  · go_region
    have Hbx : Hid (Bx (W.setCells (w.heap.size + 2) 0 (encP (r, .slice a3 M c3))) (w.heap.size + 2) r (.slice a3 M c3)) := HR2.out.put (r, .slice a3 M c3)
    have Hbl : Hid (Below w.heap.size w (W.setCells (w.heap.size + 2) 0 (encP (r, .slice a3 M c3))).drew) := (below_put hb2 (by omega) (r, .slice a3 M c3)).drew
    have Hfin : Hid (LiesX (fun b => X b ∨ w.heap.size ≤ b) 16 (W.setCells (w.heap.size + 2) 0 (encP (r, .slice a3 M c3))).drew r.items (.slice a3 M c3)) := ((HL2.out.set (g := w.heap.size + 2) (by omega)).keeps (Below.refl _ _).drew).mono (fun b hb => by rcases hb with hb | hb; exact .inl hb.1; exact .inr (by omega))
    have He : Hid (stopB r = false) := by show _ = _; unfold stopB; rw [hk]; rfl
    go_wp2_with fail
    refine bodyPost_ret (v := .tuple #[.agg #[.int .i64 r.kind, .int .i64 r.num, .string r.text, .slice a3 M c3], .bool (false)]) ?_ rfl (by rw [He.out]; exact ⟨_, rfl, Hfin.out, Hbl.out⟩)
    obtain ⟨q0, q1, q2, q3, _, _, _, _⟩ := Hbx.out
    simp only [encP, World.setCells, Nat.zero_add, Nat.reduceAdd] at q0 q1 q2 q3
    simp [results, Tryz.results34, go_sem, q0, q1, q2, q3]
  · go_region
    have Hbx : Hid (Bx (W.setCells (w.heap.size + 2) 0 (encP (r, .slice a3 M c3))) (w.heap.size + 2) r (.slice a3 M c3)) := HR2.out.put (r, .slice a3 M c3)
    have Hbl : Hid (Below w.heap.size w (W.setCells (w.heap.size + 2) 0 (encP (r, .slice a3 M c3))).drew) := (below_put hb2 (by omega) (r, .slice a3 M c3)).drew
    have Hfin : Hid (LiesX (fun b => X b ∨ w.heap.size ≤ b) 16 (W.setCells (w.heap.size + 2) 0 (encP (r, .slice a3 M c3))).drew r.items (.slice a3 M c3)) := ((HL2.out.set (g := w.heap.size + 2) (by omega)).keeps (Below.refl _ _).drew).mono (fun b hb => by rcases hb with hb | hb; exact .inl hb.1; exact .inr (by omega))
    have He : Hid (stopB r = decide (100 < r.num)) := by show _ = _; unfold stopB; rw [hk]; rfl
    go_wp2_with fail
    refine bodyPost_ret (v := .tuple #[.agg #[.int .i64 r.kind, .int .i64 r.num, .string r.text, .slice a3 M c3], .bool (decide (100 < r.num))]) ?_ rfl (by rw [He.out]; exact ⟨_, rfl, Hfin.out, Hbl.out⟩)
    obtain ⟨q0, q1, q2, q3, _, _, _, _⟩ := Hbx.out
    simp only [encP, World.setCells, Nat.zero_add, Nat.reduceAdd] at q0 q1 q2 q3
    simp [results, Tryz.results34, go_sem, q0, q1, q2, q3]

theorem rboth_any (X : Nat → Prop) (q : Nat) (hq : q < 8) (t s : VT) (u v : Value) (w : World) (hl : LiesX X 16 w t.items u) (hl2 : LiesX X 16 w s.items v) (hr : rightV 16 t = true) (hr2 : rightV 16 s = true) :
    Calls Tryz.prog 34 #[.int .i64 q, .agg #[.int .i64 t.kind, .int .i64 t.num, .string t.text, u], .agg #[.int .i64 s.kind, .int .i64 s.num, .string s.text, v]] w (BPost X (bothT q t s) (stopQ q (bothT q t s)) w) := by
  obtain ⟨a, c, rfl, _⟩ := LiesX.slice hl
  obtain ⟨a2, c2, rfl, _⟩ := LiesX.slice hl2
  match q, hq with
  | 0, _ => exact rboth0 X t s (addT t s) a a2 _ c _ c2 w (fun W hW => rsum_any _ t s a a2 _ c _ c2 W (hl.both.keeps hW))
  | 1, _ => exact rboth1 X t s a a2 _ c _ c2 w hl hl2
  | 2, _ => exact rboth2 X t s a a2 _ c _ c2 w hl hl2
  | 3, _ => exact rboth3 X t s (conjT t s) a a2 _ c _ c2 w (fun W hW => rconj_any _ t s a a2 _ c _ c2 W (hl.both.keeps hW) (hl2.both.keeps hW) hr hr2)
  | 4, _ => exact rboth4 X t s a a2 _ c _ c2 w hl hl2
  | 5, _ => exact rboth5 X t s a a2 _ c _ c2 w hl hl2
  | 6, _ => exact rboth6 X t s (addT t s) a a2 _ c _ c2 w (fun W hW => rsum_any _ t s a a2 _ c _ c2 W (hl.both.keeps hW))
  | 7, _ => exact rboth7 X t s a a2 _ c _ c2 w

end Go.Proofs.YtdapildmegdjkaaGreat

namespace Go.Proofs.YtdapildmegdjkaaGreat
open Go.RowKit

/-- What comes of each member that is taken. -/
def redS (q : Nat) : VT → List VT → List VT
  | _, [] => []
  | t, x :: xs => bothT q t x :: (if stopQ q (bothT q t x) = true then [] else redS q (bothT q t x) xs)

/-- The last one that came, or what was there first. -/
def lastT (t : VT) (l : List VT) : VT := l.getLast?.getD t

theorem lastT_snoc (t x : VT) (l : List VT) : lastT t (l ++ [x]) = x := by unfold lastT; simp

theorem redS_len (q : Nat) : ∀ (l : List VT) (t : VT), (redS q t l).length ≤ l.length := by
  intro l
  induction l with
  | nil => intro t; exact Nat.le_refl _
  | cons x xs ih =>
    intro t
    unfold redS
    split
    · simp
    · have := ih (bothT q t x)
      simp only [List.length_cons]
      omega

theorem redS_go {q : Nat} {t x : VT} {xs : List VT} (h : stopQ q (bothT q t x) = false) : redS q t (x :: xs) = bothT q t x :: redS q (bothT q t x) xs := by
  conv => lhs; unfold redS
  rw [h]; rfl

theorem redS_stop {q : Nat} {t x : VT} {xs : List VT} (h : stopQ q (bothT q t x) = true) : redS q t (x :: xs) = [bothT q t x] := by
  unfold redS
  rw [if_pos h]

/-- What is wrong with a reduction. -/
def redE (d : Nat) (q : Int) (t : VT) (l : List VT) : Int := if q < 0 ∨ 8 ≤ q then 4 else if rightV d t = true then listErr d l else 3

theorem redE_zero {d : Nat} {q : Int} {t : VT} {l : List VT} (h : redE d q t l = 0) : (0 ≤ q ∧ q < 8) ∧ rightV d t = true ∧ listErr d l = 0 := by
  unfold redE at h
  by_cases hq : q < 0 ∨ 8 ≤ q
  · rw [if_pos hq] at h; omega
  · rw [if_neg hq] at h
    by_cases hr : rightV d t = true
    · rw [if_pos hr] at h; exact ⟨by omega, hr, h⟩
    · rw [if_neg hr] at h; omega

end Go.Proofs.YtdapildmegdjkaaGreat

