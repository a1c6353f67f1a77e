/-
  The contract of the document's Two, and the walk of FnsTwo.
-/
import Derived.Test.YtacnfmamjbmhcaaRConj
import Derived.Test.YtacnfmamjbmhcaaTwo3
import Derived.Test.YtacnfmamjbmhcaaRIs
import Derived.Test.YtacnfmamjbmhcaaSpeaks
namespace Go.Proofs.Ytacnfmamjbmhcaa
open Go.RowKit

/-- A value and an answer are told. -/
def BPost (X : Nat → Prop) (r : VT) (b : Bool) (W : World) (e : Ending) (W' : World) : Prop :=
  ∃ u, e = .returned (.tuple #[.agg #[.int .i64 r.kind, .int .i64 r.num, .string r.text, u], .bool b]) ∧ LiesX (fun b => X b ∨ W.heap.size ≤ b) 16 W' r.items u ∧ Below W.heap.size W W'

theorem bPost_same {X : Nat → Prop} {t : VT} {u : Value} {W W' : World} (hl : LiesX X 16 W t.items u) (h : Below W.heap.size W W') : BPost X t false W (.returned (.tuple #[.agg #[.int .i64 t.kind, .int .i64 t.num, .string t.text, u], .bool false])) W' :=
  ⟨_, rfl, (hl.keeps h).mono (fun _ h => .inl h), h⟩

theorem bPost_int {X : Nat → Prop} {n : Int} {W W' : World} (h : Below W.heap.size W W') : BPost X (intT n) false W (.returned (.tuple #[.agg #[.int .i64 2, .int .i64 n, .string ⟨#[]⟩, .slice none 0 0], .bool false])) W' :=
  ⟨_, rfl, liesX_nil _ _ _ _ _, h⟩

set_option maxHeartbeats 2000000 in
theorem rboth0 (X : Nat → Prop) (t s r : VT) (a a2 : Option Addr) (l c l2 c2 : Nat) (w : World) (Hf : Hid (∀ W, Below w.heap.size w W → Calls Try.prog 65 #[.agg #[.int .i64 t.kind, .int .i64 t.num, .string t.text, .slice a l c], .agg #[.int .i64 s.kind, .int .i64 s.num, .string s.text, .slice a2 l2 c2]] W (FnPost (fun b => X b ∧ b < w.heap.size) r W))) : Calls Try.prog 32 #[.int .i64 0, .agg #[.int .i64 t.kind, .int .i64 t.num, .string t.text, .slice a l c], .agg #[.int .i64 s.kind, .int .i64 s.num, .string s.text, .slice a2 l2 c2]] w (BPost X r false w) := by
  have hbz := two3_below w t s (.slice a l c) (.slice a2 l2 c2)
  have HR : Hid (Bx (two3 w t s (.slice a l c) (.slice a2 l2 c2)) (w.heap.size + 2) zeroT (.slice none 0 0)) := two3_res _ _ _ _ _
  have Hz : Hid ((two3 w t s (.slice a l c) (.slice a2 l2 c2)).heap.size = w.heap.size + 3) := two3_size _ _ _ _ _
  go_enter Try.func32, Try.ntmps32
  go_wp2_with fail
  refine Calls.mono (Hf.out _ hbz) ?_
  rintro e w1 ⟨v, rfl, hl, hb⟩
  have hb : Below (two3 w t s (.slice a l c) (.slice a2 l2 c2)).heap.size (two3 w t s (.slice a l c) (.slice a2 l2 c2)) w1 := hb
  have hb1 : Below w.heap.size w w1 := hbz.trans (hb.mono hbz.size)
  have HR1 : Hid (Bx w1 (w.heap.size + 2) zeroT (.slice none 0 0)) := HR.out.keeps hb
  obtain ⟨a3, c3, rfl, _⟩ := LiesX.slice hl
  have HL : Hid (LiesX (fun b => (X b ∧ b < w.heap.size) ∨ w.heap.size + 3 ≤ b) 16 w1 r.items (.slice a3 r.items.length c3)) := hl.mono (fun b hb => by
    rcases hb with hb | hb
    · exact .inl hb
    · exact .inr (by have := Hz.out; have hb' : (two3 w t s (.slice a l c) (.slice a2 l2 c2)).heap.size ≤ b := hb; omega))
  obtain ⟨y0, y1, y2, y3, z0, z1, z2, z3⟩ := HR1.out
  clear hb hbz HR hl Hz Hf
  generalize r.items.length = M at *
  have Hbx : Hid (Bx (w1.setCells (w.heap.size + 2) 0 (encP (r, .slice a3 M c3))) (w.heap.size + 2) r (.slice a3 M c3)) := HR1.out.put (r, .slice a3 M c3)
  have Hbl : Hid (Below w.heap.size w (w1.setCells (w.heap.size + 2) 0 (encP (r, .slice a3 M c3)))) := below_put hb1 (by omega) (r, .slice a3 M c3)
  have Hfin : Hid (LiesX (fun b => X b ∨ w.heap.size ≤ b) 16 (w1.setCells (w.heap.size + 2) 0 (encP (r, .slice a3 M c3))) r.items (.slice a3 M c3)) := (HL.out.set (g := w.heap.size + 2) (by omega)).mono (fun b hb => by rcases hb with hb | hb; exact .inl hb.1; exact .inr (by omega))
  go_wp2_with fail
  refine bodyPost_ret (v := .tuple #[.agg #[.int .i64 r.kind, .int .i64 r.num, .string r.text, .slice a3 M c3], .bool false]) ?_ rfl ⟨_, rfl, Hfin.out, Hbl.out⟩
  obtain ⟨q0, q1, q2, q3, _, _, _, _⟩ := Hbx.out
  simp only [encP, World.setCells, Nat.zero_add, Nat.reduceAdd] at q0 q1 q2 q3
  simp [results, Try.results32, go_sem, q0, q1, q2, q3]

set_option maxHeartbeats 2000000 in
theorem rboth3 (X : Nat → Prop) (t s r : VT) (a a2 : Option Addr) (l c l2 c2 : Nat) (w : World) (Hf : Hid (∀ W, Below w.heap.size w W → Calls Try.prog 67 #[.agg #[.int .i64 t.kind, .int .i64 t.num, .string t.text, .slice a l c], .agg #[.int .i64 s.kind, .int .i64 s.num, .string s.text, .slice a2 l2 c2]] W (FnPost (fun b => X b ∧ b < w.heap.size) r W))) : Calls Try.prog 32 #[.int .i64 3, .agg #[.int .i64 t.kind, .int .i64 t.num, .string t.text, .slice a l c], .agg #[.int .i64 s.kind, .int .i64 s.num, .string s.text, .slice a2 l2 c2]] w (BPost X r false w) := by
  have hbz := two3_below w t s (.slice a l c) (.slice a2 l2 c2)
  have HR : Hid (Bx (two3 w t s (.slice a l c) (.slice a2 l2 c2)) (w.heap.size + 2) zeroT (.slice none 0 0)) := two3_res _ _ _ _ _
  have Hz : Hid ((two3 w t s (.slice a l c) (.slice a2 l2 c2)).heap.size = w.heap.size + 3) := two3_size _ _ _ _ _
  go_enter Try.func32, Try.ntmps32
  go_wp2_with fail
  refine Calls.mono (Hf.out _ hbz) ?_
  rintro e w1 ⟨v, rfl, hl, hb⟩
  have hb : Below (two3 w t s (.slice a l c) (.slice a2 l2 c2)).heap.size (two3 w t s (.slice a l c) (.slice a2 l2 c2)) w1 := hb
  have hb1 : Below w.heap.size w w1 := hbz.trans (hb.mono hbz.size)
  have HR1 : Hid (Bx w1 (w.heap.size + 2) zeroT (.slice none 0 0)) := HR.out.keeps hb
  obtain ⟨a3, c3, rfl, _⟩ := LiesX.slice hl
  have HL : Hid (LiesX (fun b => (X b ∧ b < w.heap.size) ∨ w.heap.size + 3 ≤ b) 16 w1 r.items (.slice a3 r.items.length c3)) := hl.mono (fun b hb => by
    rcases hb with hb | hb
    · exact .inl hb
    · exact .inr (by have := Hz.out; have hb' : (two3 w t s (.slice a l c) (.slice a2 l2 c2)).heap.size ≤ b := hb; omega))
  obtain ⟨y0, y1, y2, y3, z0, z1, z2, z3⟩ := HR1.out
  clear hb hbz HR hl Hz Hf
  generalize r.items.length = M at *
  have Hbx : Hid (Bx (w1.setCells (w.heap.size + 2) 0 (encP (r, .slice a3 M c3))) (w.heap.size + 2) r (.slice a3 M c3)) := HR1.out.put (r, .slice a3 M c3)
  have Hbl : Hid (Below w.heap.size w (w1.setCells (w.heap.size + 2) 0 (encP (r, .slice a3 M c3)))) := below_put hb1 (by omega) (r, .slice a3 M c3)
  have Hfin : Hid (LiesX (fun b => X b ∨ w.heap.size ≤ b) 16 (w1.setCells (w.heap.size + 2) 0 (encP (r, .slice a3 M c3))) r.items (.slice a3 M c3)) := (HL.out.set (g := w.heap.size + 2) (by omega)).mono (fun b hb => by rcases hb with hb | hb; exact .inl hb.1; exact .inr (by omega))
  go_wp2_with fail
  refine bodyPost_ret (v := .tuple #[.agg #[.int .i64 r.kind, .int .i64 r.num, .string r.text, .slice a3 M c3], .bool false]) ?_ rfl ⟨_, rfl, Hfin.out, Hbl.out⟩
  obtain ⟨q0, q1, q2, q3, _, _, _, _⟩ := Hbx.out
  simp only [encP, World.setCells, Nat.zero_add, Nat.reduceAdd] at q0 q1 q2 q3
  simp [results, Try.results32, go_sem, q0, q1, q2, q3]

set_option maxHeartbeats 2000000 in
theorem rboth1 (X : Nat → Prop) (t s : VT) (a a2 : Option Addr) (l c l2 c2 : Nat) (w : World) (h : LiesX X 16 w t.items (.slice a l c)) (h2 : LiesX X 16 w s.items (.slice a2 l2 c2)) : Calls Try.prog 32 #[.int .i64 1, .agg #[.int .i64 t.kind, .int .i64 t.num, .string t.text, .slice a l c], .agg #[.int .i64 s.kind, .int .i64 s.num, .string s.text, .slice a2 l2 c2]] w (BPost X (maxT t s) false w) := by
  have hbz := two3_below w t s (.slice a l c) (.slice a2 l2 c2)
  have HX : Hid (Bx (two3 w t s (.slice a l c) (.slice a2 l2 c2)) w.heap.size t (.slice a l c)) := two3_first _ _ _ _ _
  have HY : Hid (Bx (two3 w t s (.slice a l c) (.slice a2 l2 c2)) (w.heap.size + 1) s (.slice a2 l2 c2)) := two3_second _ _ _ _ _
  have HR : Hid (Bx (two3 w t s (.slice a l c) (.slice a2 l2 c2)) (w.heap.size + 2) zeroT (.slice none 0 0)) := two3_res _ _ _ _ _
  have Hz : Hid ((two3 w t s (.slice a l c) (.slice a2 l2 c2)).heap.size = w.heap.size + 3) := two3_size _ _ _ _ _
  have HLt : Hid (LiesX (fun b => X b ∧ b < w.heap.size) 16 w t.items (.slice a l c)) := h.both
  have HLs : Hid (LiesX (fun b => X b ∧ b < w.heap.size) 16 w s.items (.slice a2 l2 c2)) := h2.both
  have hturn := cmpV_turn 16 t s
  have Hl1 : Hid (Lies 16 w t.items (.slice a l c)) := h.lies
  have Hl2 : Hid (Lies 16 w s.items (.slice a2 l2 c2)) := h2.lies
  clear h h2
  go_enter Try.func32, Try.ntmps32
  go_wp2_with fail
  refine Calls.mono (ref_any 16 s t _ _ _ (Lies.keeps hbz _ _ _ Hl2.out) (Lies.keeps hbz _ _ _ Hl1.out)) ?_
  rintro e w1 ⟨rfl, hg⟩
  have hb : Below (two3 w t s (.slice a l c) (.slice a2 l2 c2)).heap.size (two3 w t s (.slice a l c) (.slice a2 l2 c2)) w1 := hg
  have hb1 : Below w.heap.size w w1 := hbz.trans (hb.mono hbz.size)
  have HR1 : Hid (Bx w1 (w.heap.size + 2) zeroT (.slice none 0 0)) := HR.out.keeps hb
  obtain ⟨x0, x1, x2, x3, _, _, _, _⟩ := HX.out.keeps hb
  obtain ⟨u0, u1, u2, u3, _, _, _, _⟩ := HY.out.keeps hb
  obtain ⟨y0, y1, y2, y3, z0, z1, z2, z3⟩ := HR1.out
  clear hg hb hbz HX HY HR Hz Hl1 Hl2
  by_cases hc : 0 < cmpV 16 s t
  · have He : Hid (maxT t s = s) := if_pos (by omega)
    clear hturn
    have Hbx : Hid (Bx (w1.setCells (w.heap.size + 2) 0 (encP (s, .slice a2 l2 c2))) (w.heap.size + 2) s (.slice a2 l2 c2)) := HR1.out.put (s, .slice a2 l2 c2)
    have Hbl : Hid (Below w.heap.size w (w1.setCells (w.heap.size + 2) 0 (encP (s, .slice a2 l2 c2)))) := below_put hb1 (by omega) (s, .slice a2 l2 c2)
    have Hfin : Hid (LiesX (fun b => X b ∨ w.heap.size ≤ b) 16 (w1.setCells (w.heap.size + 2) 0 (encP (s, .slice a2 l2 c2))) s.items (.slice a2 l2 c2)) := ((HLs.out.keeps hb1).set (g := w.heap.size + 2) (by omega)).mono (fun b hb => .inl hb.1)
    go_wp2_with fail
    refine bodyPost_ret (v := .tuple #[.agg #[.int .i64 s.kind, .int .i64 s.num, .string s.text, .slice a2 l2 c2], .bool false]) ?_ rfl (by rw [He.out]; exact ⟨_, rfl, Hfin.out, Hbl.out⟩)
    obtain ⟨q0, q1, q2, q3, _, _, _, _⟩ := Hbx.out
    simp only [encP, World.setCells, Nat.zero_add, Nat.reduceAdd] at q0 q1 q2 q3
    simp [results, Try.results32, go_sem, q0, q1, q2, q3]
  · have He : Hid (maxT t s = t) := if_neg (by omega)
    clear hturn
    have Hbx : Hid (Bx (w1.setCells (w.heap.size + 2) 0 (encP (t, .slice a l c))) (w.heap.size + 2) t (.slice a l c)) := HR1.out.put (t, .slice a l c)
    have Hbl : Hid (Below w.heap.size w (w1.setCells (w.heap.size + 2) 0 (encP (t, .slice a l c)))) := below_put hb1 (by omega) (t, .slice a l c)
    have Hfin : Hid (LiesX (fun b => X b ∨ w.heap.size ≤ b) 16 (w1.setCells (w.heap.size + 2) 0 (encP (t, .slice a l c))) t.items (.slice a l c)) := ((HLt.out.keeps hb1).set (g := w.heap.size + 2) (by omega)).mono (fun b hb => .inl hb.1)
    go_wp2_with fail
    refine bodyPost_ret (v := .tuple #[.agg #[.int .i64 t.kind, .int .i64 t.num, .string t.text, .slice a l c], .bool false]) ?_ rfl (by rw [He.out]; exact ⟨_, rfl, Hfin.out, Hbl.out⟩)
    obtain ⟨q0, q1, q2, q3, _, _, _, _⟩ := Hbx.out
    simp only [encP, World.setCells, Nat.zero_add, Nat.reduceAdd] at q0 q1 q2 q3
    simp [results, Try.results32, go_sem, q0, q1, q2, q3]

set_option maxHeartbeats 2000000 in
theorem rboth2 (X : Nat → Prop) (t s : VT) (a a2 : Option Addr) (l c l2 c2 : Nat) (w : World) (h : LiesX X 16 w t.items (.slice a l c)) (h2 : LiesX X 16 w s.items (.slice a2 l2 c2)) : Calls Try.prog 32 #[.int .i64 2, .agg #[.int .i64 t.kind, .int .i64 t.num, .string t.text, .slice a l c], .agg #[.int .i64 s.kind, .int .i64 s.num, .string s.text, .slice a2 l2 c2]] w (BPost X (minT t s) false w) := by
  have hbz := two3_below w t s (.slice a l c) (.slice a2 l2 c2)
  have HX : Hid (Bx (two3 w t s (.slice a l c) (.slice a2 l2 c2)) w.heap.size t (.slice a l c)) := two3_first _ _ _ _ _
  have HY : Hid (Bx (two3 w t s (.slice a l c) (.slice a2 l2 c2)) (w.heap.size + 1) s (.slice a2 l2 c2)) := two3_second _ _ _ _ _
  have HR : Hid (Bx (two3 w t s (.slice a l c) (.slice a2 l2 c2)) (w.heap.size + 2) zeroT (.slice none 0 0)) := two3_res _ _ _ _ _
  have Hz : Hid ((two3 w t s (.slice a l c) (.slice a2 l2 c2)).heap.size = w.heap.size + 3) := two3_size _ _ _ _ _
  have HLt : Hid (LiesX (fun b => X b ∧ b < w.heap.size) 16 w t.items (.slice a l c)) := h.both
  have HLs : Hid (LiesX (fun b => X b ∧ b < w.heap.size) 16 w s.items (.slice a2 l2 c2)) := h2.both
  have hturn := cmpV_turn 16 t s
  have Hl1 : Hid (Lies 16 w t.items (.slice a l c)) := h.lies
  have Hl2 : Hid (Lies 16 w s.items (.slice a2 l2 c2)) := h2.lies
  clear h h2
  go_enter Try.func32, Try.ntmps32
  go_wp2_with fail
  refine Calls.mono (ref_any 16 s t _ _ _ (Lies.keeps hbz _ _ _ Hl2.out) (Lies.keeps hbz _ _ _ Hl1.out)) ?_
  rintro e w1 ⟨rfl, hg⟩
  have hb : Below (two3 w t s (.slice a l c) (.slice a2 l2 c2)).heap.size (two3 w t s (.slice a l c) (.slice a2 l2 c2)) w1 := hg
  have hb1 : Below w.heap.size w w1 := hbz.trans (hb.mono hbz.size)
  have HR1 : Hid (Bx w1 (w.heap.size + 2) zeroT (.slice none 0 0)) := HR.out.keeps hb
  obtain ⟨x0, x1, x2, x3, _, _, _, _⟩ := HX.out.keeps hb
  obtain ⟨u0, u1, u2, u3, _, _, _, _⟩ := HY.out.keeps hb
  obtain ⟨y0, y1, y2, y3, z0, z1, z2, z3⟩ := HR1.out
  clear hg hb hbz HX HY HR Hz Hl1 Hl2
  by_cases hc : cmpV 16 s t < 0
  · have He : Hid (minT t s = s) := if_pos (by omega)
    clear hturn
    have Hbx : Hid (Bx (w1.setCells (w.heap.size + 2) 0 (encP (s, .slice a2 l2 c2))) (w.heap.size + 2) s (.slice a2 l2 c2)) := HR1.out.put (s, .slice a2 l2 c2)
    have Hbl : Hid (Below w.heap.size w (w1.setCells (w.heap.size + 2) 0 (encP (s, .slice a2 l2 c2)))) := below_put hb1 (by omega) (s, .slice a2 l2 c2)
    have Hfin : Hid (LiesX (fun b => X b ∨ w.heap.size ≤ b) 16 (w1.setCells (w.heap.size + 2) 0 (encP (s, .slice a2 l2 c2))) s.items (.slice a2 l2 c2)) := ((HLs.out.keeps hb1).set (g := w.heap.size + 2) (by omega)).mono (fun b hb => .inl hb.1)
    go_wp2_with fail
    refine bodyPost_ret (v := .tuple #[.agg #[.int .i64 s.kind, .int .i64 s.num, .string s.text, .slice a2 l2 c2], .bool false]) ?_ rfl (by rw [He.out]; exact ⟨_, rfl, Hfin.out, Hbl.out⟩)
    obtain ⟨q0, q1, q2, q3, _, _, _, _⟩ := Hbx.out
    simp only [encP, World.setCells, Nat.zero_add, Nat.reduceAdd] at q0 q1 q2 q3
    simp [results, Try.results32, go_sem, q0, q1, q2, q3]
  · have He : Hid (minT t s = t) := if_neg (by omega)
    clear hturn
    have Hbx : Hid (Bx (w1.setCells (w.heap.size + 2) 0 (encP (t, .slice a l c))) (w.heap.size + 2) t (.slice a l c)) := HR1.out.put (t, .slice a l c)
    have Hbl : Hid (Below w.heap.size w (w1.setCells (w.heap.size + 2) 0 (encP (t, .slice a l c)))) := below_put hb1 (by omega) (t, .slice a l c)
    have Hfin : Hid (LiesX (fun b => X b ∨ w.heap.size ≤ b) 16 (w1.setCells (w.heap.size + 2) 0 (encP (t, .slice a l c))) t.items (.slice a l c)) := ((HLt.out.keeps hb1).set (g := w.heap.size + 2) (by omega)).mono (fun b hb => .inl hb.1)
    go_wp2_with fail
    refine bodyPost_ret (v := .tuple #[.agg #[.int .i64 t.kind, .int .i64 t.num, .string t.text, .slice a l c], .bool false]) ?_ rfl (by rw [He.out]; exact ⟨_, rfl, Hfin.out, Hbl.out⟩)
    obtain ⟨q0, q1, q2, q3, _, _, _, _⟩ := Hbx.out
    simp only [encP, World.setCells, Nat.zero_add, Nat.reduceAdd] at q0 q1 q2 q3
    simp [results, Try.results32, go_sem, q0, q1, q2, q3]

set_option maxHeartbeats 2000000 in
theorem rboth4 (X : Nat → Prop) (t s : VT) (a a2 : Option Addr) (l c l2 c2 : Nat) (w : World) (h : LiesX X 16 w t.items (.slice a l c)) (_h2 : LiesX X 16 w s.items (.slice a2 l2 c2)) : Calls Try.prog 32 #[.int .i64 4, .agg #[.int .i64 t.kind, .int .i64 t.num, .string t.text, .slice a l c], .agg #[.int .i64 s.kind, .int .i64 s.num, .string s.text, .slice a2 l2 c2]] w (BPost X t false w) := by
  have HL : Hid (LiesX X 16 w t.items (.slice a l c)) := h
  clear h
  go_enter Try.func32, Try.ntmps32
  go_wp2_with fail
  exact bodyPost_ret (v := .tuple #[.agg #[.int .i64 t.kind, .int .i64 t.num, .string t.text, .slice a l c], .bool false]) (by simp [results, Try.results32, go_sem]) rfl (bPost_same HL.out (grew3 _ _ _ _))

set_option maxHeartbeats 2000000 in
theorem rboth5 (X : Nat → Prop) (t s : VT) (a a2 : Option Addr) (l c l2 c2 : Nat) (w : World) (_h : LiesX X 16 w t.items (.slice a l c)) (h2 : LiesX X 16 w s.items (.slice a2 l2 c2)) : Calls Try.prog 32 #[.int .i64 5, .agg #[.int .i64 t.kind, .int .i64 t.num, .string t.text, .slice a l c], .agg #[.int .i64 s.kind, .int .i64 s.num, .string s.text, .slice a2 l2 c2]] w (BPost X s false w) := by
  have HL : Hid (LiesX X 16 w s.items (.slice a2 l2 c2)) := h2
  clear h2
  go_enter Try.func32, Try.ntmps32
  go_wp2_with fail
  exact bodyPost_ret (v := .tuple #[.agg #[.int .i64 s.kind, .int .i64 s.num, .string s.text, .slice a2 l2 c2], .bool false]) (by simp [results, Try.results32, go_sem]) rfl (bPost_same HL.out (grew3 _ _ _ _))

set_option maxHeartbeats 2000000 in
theorem rboth7 (X : Nat → Prop) (t s : VT) (a a2 : Option Addr) (l c l2 c2 : Nat) (w : World) : Calls Try.prog 32 #[.int .i64 7, .agg #[.int .i64 t.kind, .int .i64 t.num, .string t.text, .slice a l c], .agg #[.int .i64 s.kind, .int .i64 s.num, .string s.text, .slice a2 l2 c2]] w (BPost X (countT t) false w) := by
  cases hk : (t.kind == 2)
  · have e : countT t = intT 1 := by unfold countT; rw [if_neg (by simpa using hk)]
    rw [e]
    clear e
    go_enter Try.func32, Try.ntmps32
    go_wp2_with (go_at_call 36; refine (r5int_any _ _).mono ?_; rintro e w' ⟨rfl, rfl⟩)
    exact bodyPost_ret (v := .tuple #[.agg #[.int .i64 2, .int .i64 1, .string ⟨#[]⟩, .slice none 0 0], .bool false]) (by simp [results, Try.results32, go_sem]) rfl (bPost_int (grew4 _ _ _ _ _))
  · have e : countT t = intT (incI t.num) := by unfold countT; rw [if_pos (by simpa using hk)]
    rw [e]
    clear e
    go_enter Try.func32, Try.ntmps32
    go_wp2_with (go_at_call 36; refine (r5int_any _ _).mono ?_; rintro e w' ⟨rfl, rfl⟩)
    exact bodyPost_ret (v := .tuple #[.agg #[.int .i64 2, .int .i64 (incI t.num), .string ⟨#[]⟩, .slice none 0 0], .bool false]) (by simp [results, Try.results32, go_sem, incI]) rfl (bPost_int (grew4 _ _ _ _ _))

set_option maxHeartbeats 2000000 in
theorem rboth6 (X : Nat → Prop) (t s r : VT) (a a2 : Option Addr) (l c l2 c2 : Nat) (w : World) (Hf : Hid (∀ W, Below w.heap.size w W → Calls Try.prog 65 #[.agg #[.int .i64 t.kind, .int .i64 t.num, .string t.text, .slice a l c], .agg #[.int .i64 s.kind, .int .i64 s.num, .string s.text, .slice a2 l2 c2]] W (FnPost (fun b => X b ∧ b < w.heap.size) r W))) : Calls Try.prog 32 #[.int .i64 6, .agg #[.int .i64 t.kind, .int .i64 t.num, .string t.text, .slice a l c], .agg #[.int .i64 s.kind, .int .i64 s.num, .string s.text, .slice a2 l2 c2]] w (BPost X r (stopB r) w) := by
  have hbz := two3_below w t s (.slice a l c) (.slice a2 l2 c2)
  have HR : Hid (Bx (two3 w t s (.slice a l c) (.slice a2 l2 c2)) (w.heap.size + 2) zeroT (.slice none 0 0)) := two3_res _ _ _ _ _
  have Hz : Hid ((two3 w t s (.slice a l c) (.slice a2 l2 c2)).heap.size = w.heap.size + 3) := two3_size _ _ _ _ _
  go_enter Try.func32, Try.ntmps32
  go_wp2_with fail
  refine Calls.mono (Hf.out _ hbz) ?_
  rintro e w1 ⟨v, rfl, hl, hb⟩
  have hb : Below (two3 w t s (.slice a l c) (.slice a2 l2 c2)).heap.size (two3 w t s (.slice a l c) (.slice a2 l2 c2)) w1 := hb
  have hb1 : Below w.heap.size w w1 := hbz.trans (hb.mono hbz.size)
  have hsz1 : w.heap.size + 3 ≤ w1.heap.size := by have := hb.size; rw [Hz.out] at this; exact this
  obtain ⟨a3, c3, rfl, _⟩ := LiesX.slice hl
  have HL : Hid (LiesX (fun b => (X b ∧ b < w.heap.size) ∨ w.heap.size + 3 ≤ b) 16 w1 r.items (.slice a3 r.items.length c3)) := hl.mono (fun b hb => by
    rcases hb with hb | hb
    · exact .inl hb
    · exact .inr (by have := Hz.out; have hb' : (two3 w t s (.slice a l c) (.slice a2 l2 c2)).heap.size ≤ b := hb; omega))
  generalize r.items.length = M at *
  have HR2 : Hid (Bx (w1.alloc (.cells #[.int .i64 r.kind, .int .i64 r.num, .string r.text, .slice a3 M c3] 24)) (w.heap.size + 2) zeroT (.slice none 0 0)) := (HR.out.keeps hb).keeps ((Grew.refl _).alloc _).below
  have HV2 : Hid (Bx (w1.alloc (.cells #[.int .i64 r.kind, .int .i64 r.num, .string r.text, .slice a3 M c3] 24)) w1.heap.size r (.slice a3 M c3)) := bx_alloc w1 r _
  have hb2 : Below w.heap.size w (w1.alloc (.cells #[.int .i64 r.kind, .int .i64 r.num, .string r.text, .slice a3 M c3] 24)) := hb1.alloc hb1.size _
  have HL2 : Hid (LiesX (fun b => (X b ∧ b < w.heap.size) ∨ w.heap.size + 3 ≤ b) 16 (w1.alloc (.cells #[.int .i64 r.kind, .int .i64 r.num, .string r.text, .slice a3 M c3] 24)) r.items (.slice a3 M c3)) := HL.out.keeps ((Grew.refl _).alloc _).below
  clear hb hbz HR hl Hz Hf HL hb1
  go_wp2_with fail
  generalize w1.alloc (.cells #[.int .i64 r.kind, .int .i64 r.num, .string r.text, .slice a3 M c3] 24) = W at *
  have n1 : w1.heap.size ≠ w.heap.size + 1 + 1 := by omega
  generalize w1.heap.size = B1 at *
  obtain ⟨x0, x1, x2, x3, _, _, _, _⟩ := HV2.out
  obtain ⟨y0, y1, y2, y3, z0, z1, z2, z3⟩ := HR2.out
  cases hk : (r.kind == 2)
  · go_region
    have Hbx : Hid (Bx (W.setCells (w.heap.size + 2) 0 (encP (r, .slice a3 M c3))) (w.heap.size + 2) r (.slice a3 M c3)) := HR2.out.put (r, .slice a3 M c3)
    have Hbl : Hid (Below w.heap.size w (W.setCells (w.heap.size + 2) 0 (encP (r, .slice a3 M c3))).drew) := (below_put hb2 (by omega) (r, .slice a3 M c3)).drew
    have Hfin : Hid (LiesX (fun b => X b ∨ w.heap.size ≤ b) 16 (W.setCells (w.heap.size + 2) 0 (encP (r, .slice a3 M c3))).drew r.items (.slice a3 M c3)) := ((HL2.out.set (g := w.heap.size + 2) (by omega)).keeps (Below.refl _ _).drew).mono (fun b hb => by rcases hb with hb | hb; exact .inl hb.1; exact .inr (by omega))
    have He : Hid (stopB r = false) := by show _ = _; unfold stopB; rw [hk]; rfl
    go_wp2_with fail
    refine bodyPost_ret (v := .tuple #[.agg #[.int .i64 r.kind, .int .i64 r.num, .string r.text, .slice a3 M c3], .bool (false)]) ?_ rfl (by rw [He.out]; exact ⟨_, rfl, Hfin.out, Hbl.out⟩)
    obtain ⟨q0, q1, q2, q3, _, _, _, _⟩ := Hbx.out
    simp only [encP, World.setCells, Nat.zero_add, Nat.reduceAdd] at q0 q1 q2 q3
    simp [results, Try.results32, go_sem, q0, q1, q2, q3]
  · go_region
    have Hbx : Hid (Bx (W.setCells (w.heap.size + 2) 0 (encP (r, .slice a3 M c3))) (w.heap.size + 2) r (.slice a3 M c3)) := HR2.out.put (r, .slice a3 M c3)
    have Hbl : Hid (Below w.heap.size w (W.setCells (w.heap.size + 2) 0 (encP (r, .slice a3 M c3))).drew) := (below_put hb2 (by omega) (r, .slice a3 M c3)).drew
    have Hfin : Hid (LiesX (fun b => X b ∨ w.heap.size ≤ b) 16 (W.setCells (w.heap.size + 2) 0 (encP (r, .slice a3 M c3))).drew r.items (.slice a3 M c3)) := ((HL2.out.set (g := w.heap.size + 2) (by omega)).keeps (Below.refl _ _).drew).mono (fun b hb => by rcases hb with hb | hb; exact .inl hb.1; exact .inr (by omega))
    have He : Hid (stopB r = decide (100 < r.num)) := by show _ = _; unfold stopB; rw [hk]; rfl
    go_wp2_with fail
    refine bodyPost_ret (v := .tuple #[.agg #[.int .i64 r.kind, .int .i64 r.num, .string r.text, .slice a3 M c3], .bool (decide (100 < r.num))]) ?_ rfl (by rw [He.out]; exact ⟨_, rfl, Hfin.out, Hbl.out⟩)
    obtain ⟨q0, q1, q2, q3, _, _, _, _⟩ := Hbx.out
    simp only [encP, World.setCells, Nat.zero_add, Nat.reduceAdd] at q0 q1 q2 q3
    simp [results, Try.results32, go_sem, q0, q1, q2, q3]

theorem rboth_any (X : Nat → Prop) (q : Nat) (hq : q < 8) (t s : VT) (u v : Value) (w : World) (hl : LiesX X 16 w t.items u) (hl2 : LiesX X 16 w s.items v) (hr : rightV 16 t = true) (hr2 : rightV 16 s = true) :
    Calls Try.prog 32 #[.int .i64 q, .agg #[.int .i64 t.kind, .int .i64 t.num, .string t.text, u], .agg #[.int .i64 s.kind, .int .i64 s.num, .string s.text, v]] w (BPost X (bothT q t s) (stopQ q (bothT q t s)) w) := by
  obtain ⟨a, c, rfl, _⟩ := LiesX.slice hl
  obtain ⟨a2, c2, rfl, _⟩ := LiesX.slice hl2
  match q, hq with
  | 0, _ => exact rboth0 X t s (addT t s) a a2 _ c _ c2 w (fun W hW => rsum_any _ t s a a2 _ c _ c2 W (hl.both.keeps hW))
  | 1, _ => exact rboth1 X t s a a2 _ c _ c2 w hl hl2
  | 2, _ => exact rboth2 X t s a a2 _ c _ c2 w hl hl2
  | 3, _ => exact rboth3 X t s (conjT t s) a a2 _ c _ c2 w (fun W hW => rconj_any _ t s a a2 _ c _ c2 W (hl.both.keeps hW) (hl2.both.keeps hW) hr hr2)
  | 4, _ => exact rboth4 X t s a a2 _ c _ c2 w hl hl2
  | 5, _ => exact rboth5 X t s a a2 _ c _ c2 w hl hl2
  | 6, _ => exact rboth6 X t s (addT t s) a a2 _ c _ c2 w (fun W hW => rsum_any _ t s a a2 _ c _ c2 W (hl.both.keeps hW))
  | 7, _ => exact rboth7 X t s a a2 _ c _ c2 w

end Go.Proofs.Ytacnfmamjbmhcaa

namespace Go.Proofs.Ytacnfmamjbmhcaa
open Go.RowKit

def R2Post (s : VT) (b : Bool) (r : Int) (W : World) (e : Ending) (W' : World) : Prop :=
  ∃ u, e = .returned (.tuple #[.agg #[.int .i64 s.kind, .int .i64 s.num, .string s.text, u], .bool b, .int .i64 r]) ∧ Lies 16 W' s.items u ∧ Below W.heap.size W W'

theorem r2Post_nil {r : Int} {W W' : World} (h : Below W.heap.size W W') : R2Post nilT false r W (.returned (.tuple #[.agg #[.int .i64 0, .int .i64 0, .string ⟨#[]⟩, .slice none 0 0], .bool false, .int .i64 r])) W' :=
  ⟨_, rfl, (liesX_nil (fun _ => True) _ _ _ _).lies, h⟩

set_option maxHeartbeats 2000000 in
theorem rtwo_kind (d : Nat) (q : Int) (t s : VT) (u v : Value) (w : World) (hu : Lies d w t.items u) (hv : Lies d w s.items v) (hq : ¬ (0 ≤ q ∧ q ≤ 7)) : Calls Try.prog 17 #[.int .i64 q, .agg #[.int .i64 t.kind, .int .i64 t.num, .string t.text, u], .agg #[.int .i64 s.kind, .int .i64 s.num, .string s.text, v]] w (R2Post nilT false 4 w) := by
  obtain ⟨a, c, rfl, _⟩ := Lies.slice hu
  obtain ⟨a2, c2, rfl, _⟩ := Lies.slice hv
  have HL : Hid (Lies d w t.items (.slice a t.items.length c)) := hu
  have HL2 : Hid (Lies d w s.items (.slice a2 s.items.length c2)) := hv
  clear hu hv
  generalize t.items.length = l at *
  generalize s.items.length = l2 at *
  have hbz := two3_below w t s (.slice a l c) (.slice a2 l2 c2)
  have HK : Hid (∀ W, Calls Try.prog 19 #[.int .i64 q] W fun e w' => e = .returned (.bool false) ∧ w' = W) := by
    intro W
    have := rkind5_any q W
    rwa [k5B_false hq] at this
  clear HL HL2 hq
  go_enter Try.func17, Try.ntmps17
  go_wp2_with fail
  refine Calls.mono (HK.out _) ?_
  rintro e w1 ⟨rfl, rfl⟩
  clear HK
  go_wp2_with fail
  refine bodyPost_ret (v := .tuple #[.agg #[.int .i64 0, .int .i64 0, .string ⟨#[]⟩, .slice none 0 0], .bool false, .int .i64 4]) (by simp [results, Try.results17, go_sem]) rfl (r2Post_nil hbz)

set_option maxHeartbeats 4000000 in
theorem rtwo_ok (d q : Nat) (t s : VT) (u v : Value) (w : World) (hu : Lies d w t.items u) (hv : Lies d w s.items v) (hq : q < 8) : Calls Try.prog 17 #[.int .i64 q, .agg #[.int .i64 t.kind, .int .i64 t.num, .string t.text, u], .agg #[.int .i64 s.kind, .int .i64 s.num, .string s.text, v]] w (if rightV d t = true ∧ rightV d s = true then R2Post (bothT q t s) (stopQ q (bothT q t s)) 0 w else R2Post nilT false 3 w) := by
  generalize hP : (if rightV d t = true ∧ rightV d s = true then R2Post (bothT q t s) (stopQ q (bothT q t s)) 0 w else R2Post nilT false 3 w) = P
  have HP : Hid ((if rightV d t = true ∧ rightV d s = true then R2Post (bothT q t s) (stopQ q (bothT q t s)) 0 w else R2Post nilT false 3 w) = P) := hP
  have Hd : Hid (rightV d t = true → rightV d s = true → ∀ W, Below w.heap.size w W → Calls Try.prog 32 #[.int .i64 q, .agg #[.int .i64 t.kind, .int .i64 t.num, .string t.text, u], .agg #[.int .i64 s.kind, .int .i64 s.num, .string s.text, v]] W (BPost (fun b => b < w.heap.size) (bothT q t s) (stopQ q (bothT q t s)) W)) := fun h1 h2 W hW => rboth_any _ q hq t s u v W ((LiesX.of_lies (canon hu h1).1).keeps hW) ((LiesX.of_lies (canon hv h2).1).keeps hW) (canon hu h1).2 (canon hv h2).2
  generalize stopQ q (bothT q t s) = b at *
  generalize bothT q t s = r at *
  clear hP
  have HK : Hid (∀ W, Calls Try.prog 19 #[.int .i64 q] W fun e w' => e = .returned (.bool true) ∧ w' = W) := by
    intro W
    have := rkind5_any q W
    rwa [k5B_true (by omega) (by omega)] at this
  obtain ⟨a, c, rfl, _⟩ := Lies.slice hu
  obtain ⟨a2, c2, rfl, _⟩ := Lies.slice hv
  have HL : Hid (Lies d w t.items (.slice a t.items.length c)) := hu
  have HL2 : Hid (Lies d w s.items (.slice a2 s.items.length c2)) := hv
  clear hu hv
  generalize t.items.length = l at *
  generalize s.items.length = l2 at *
  have hbz := two3_below w t s (.slice a l c) (.slice a2 l2 c2)
  have HX : Hid (Bx (two3 w t s (.slice a l c) (.slice a2 l2 c2)) w.heap.size t (.slice a l c)) := two3_first _ _ _ _ _
  have HY : Hid (Bx (two3 w t s (.slice a l c) (.slice a2 l2 c2)) (w.heap.size + 1) s (.slice a2 l2 c2)) := two3_second _ _ _ _ _
  have HR : Hid (Bx (two3 w t s (.slice a l c) (.slice a2 l2 c2)) (w.heap.size + 2) zeroT (.slice none 0 0)) := two3_res _ _ _ _ _
  go_enter Try.func17, Try.ntmps17
  go_wp2_with fail
  refine Calls.mono (HK.out _) ?_
  rintro e w1 ⟨rfl, rfl⟩
  clear HK
  go_wp2_with fail
  refine (right_any d t _ _ (Lies.keeps hbz _ _ _ HL.out)).mono ?_
  rintro e w2 ⟨rfl, hb⟩
  have hb : Below (two3 w t s (.slice a l c) (.slice a2 l2 c2)).heap.size (two3 w t s (.slice a l c) (.slice a2 l2 c2)) w2 := hb
  have hb2 : Below w.heap.size w w2 := hbz.trans (hb.mono hbz.size)
  have HX2 : Hid (Bx w2 w.heap.size t (.slice a l c)) := HX.out.keeps hb
  have HY2 : Hid (Bx w2 (w.heap.size + 1) s (.slice a2 l2 c2)) := HY.out.keeps hb
  have HR2 : Hid (Bx w2 (w.heap.size + 2) zeroT (.slice none 0 0)) := HR.out.keeps hb
  clear hb hbz HX HY HR
  cases hr : rightV d t
  · have HP2 : Hid (P = R2Post nilT false 3 w) := by show _ = _; rw [← HP.out, if_neg (fun h => by rw [hr] at h; exact absurd h.1 (by simp))]
    clear hr HP Hd
    obtain ⟨y0, y1, y2, y3, z0, z1, z2, z3⟩ := HR2.out
    have Hbx : Hid (Bx (w2.setCells (w.heap.size + 2) 0 (encP (zeroT, .slice none 0 0))) (w.heap.size + 2) zeroT (.slice none 0 0)) := HR2.out.put (zeroT, .slice none 0 0)
    have Hbl : Hid (Below w.heap.size w (w2.setCells (w.heap.size + 2) 0 (encP (zeroT, .slice none 0 0)))) := below_put hb2 (by omega) (zeroT, .slice none 0 0)
    go_wp2_with fail
    refine bodyPost_ret (v := .tuple #[.agg #[.int .i64 0, .int .i64 0, .string ⟨#[]⟩, .slice none 0 0], .bool false, .int .i64 3]) ?_ rfl (by rw [HP2.out]; exact r2Post_nil Hbl.out)
    obtain ⟨q0, q1, q2, q3, _, _, _, _⟩ := Hbx.out
    simp only [encP, World.setCells, Nat.zero_add, Nat.reduceAdd] at q0 q1 q2 q3
    simp [results, Try.results17, go_sem, q0, q1, q2, q3]
  have HrT : Hid (rightV d t = true) := hr
  clear hr
  obtain ⟨u0, u1, u2, u3, _, _, _, _⟩ := HY2.out
  go_wp2_with fail
  refine (right_any d s _ _ (Lies.keeps hb2 _ _ _ HL2.out)).mono ?_
  rintro e w3 ⟨rfl, hb⟩
  have hb3 : Below w.heap.size w w3 := hb2.trans (hb.mono hb2.size)
  have HX3 : Hid (Bx w3 w.heap.size t (.slice a l c)) := HX2.out.keeps hb
  have HY3 : Hid (Bx w3 (w.heap.size + 1) s (.slice a2 l2 c2)) := HY2.out.keeps hb
  have HR3 : Hid (Bx w3 (w.heap.size + 2) zeroT (.slice none 0 0)) := HR2.out.keeps hb
  clear hb hb2 HX2 HY2 HR2 u0 u1 u2 u3
  cases hr : rightV d s
  · have HP2 : Hid (P = R2Post nilT false 3 w) := by show _ = _; rw [← HP.out, if_neg (fun h => by rw [hr] at h; exact absurd h.2 (by simp))]
    clear hr HP Hd
    obtain ⟨y0, y1, y2, y3, z0, z1, z2, z3⟩ := HR3.out
    have Hbx : Hid (Bx (w3.setCells (w.heap.size + 2) 0 (encP (zeroT, .slice none 0 0))) (w.heap.size + 2) zeroT (.slice none 0 0)) := HR3.out.put (zeroT, .slice none 0 0)
    have Hbl : Hid (Below w.heap.size w (w3.setCells (w.heap.size + 2) 0 (encP (zeroT, .slice none 0 0)))) := below_put hb3 (by omega) (zeroT, .slice none 0 0)
    go_wp2_with fail
    refine bodyPost_ret (v := .tuple #[.agg #[.int .i64 0, .int .i64 0, .string ⟨#[]⟩, .slice none 0 0], .bool false, .int .i64 3]) ?_ rfl (by rw [HP2.out]; exact r2Post_nil Hbl.out)
    obtain ⟨q0, q1, q2, q3, _, _, _, _⟩ := Hbx.out
    simp only [encP, World.setCells, Nat.zero_add, Nat.reduceAdd] at q0 q1 q2 q3
    simp [results, Try.results17, go_sem, q0, q1, q2, q3]
  have HP2 : Hid (P = R2Post r b 0 w) := by show _ = _; rw [← HP.out, if_pos ⟨HrT.out, hr⟩]
  have HdW : Hid (∀ W, Below w.heap.size w W → Calls Try.prog 32 #[.int .i64 q, .agg #[.int .i64 t.kind, .int .i64 t.num, .string t.text, .slice a l c], .agg #[.int .i64 s.kind, .int .i64 s.num, .string s.text, .slice a2 l2 c2]] W (BPost (fun b => b < w.heap.size) r b W)) := Hd.out HrT.out hr
  clear hr HP Hd HrT
  obtain ⟨x0, x1, x2, x3, _, _, _, _⟩ := HX3.out
  obtain ⟨u0, u1, u2, u3, _, _, _, _⟩ := HY3.out
  go_wp2_with fail
  refine Calls.mono (HdW.out _ hb3) ?_
  rintro e w4 ⟨v4, rfl, hl4, hb⟩
  obtain ⟨a4, c4, rfl, _⟩ := LiesX.slice hl4
  have hsz3 : w.heap.size + 2 < w3.heap.size := cell_lt HR3.out.c0
  have HL4 : Hid (LiesX (fun x => x ≠ w.heap.size + 2) 16 w4 r.items (.slice a4 r.items.length c4)) := hl4.mono (fun x hx => by omega)
  generalize r.items.length = M at *
  have hb4 : Below w.heap.size w w4 := hb3.trans (hb.mono hb3.size)
  have hb5 : Below w.heap.size w (w4.alloc (.cells #[.int .i64 r.kind, .int .i64 r.num, .string r.text, .slice a4 M c4] 24)) := hb4.alloc hb4.size _
  have HR5 : Hid (Bx (w4.alloc (.cells #[.int .i64 r.kind, .int .i64 r.num, .string r.text, .slice a4 M c4] 24)) (w.heap.size + 2) zeroT (.slice none 0 0)) := (HR3.out.keeps hb).keeps ((Grew.refl _).alloc _).below
  have HL5 : Hid (LiesX (fun x => x ≠ w.heap.size + 2) 16 (w4.alloc (.cells #[.int .i64 r.kind, .int .i64 r.num, .string r.text, .slice a4 M c4] 24)) r.items (.slice a4 M c4)) := HL4.out.keeps ((Grew.refl _).alloc _).below
  clear hb hl4 x0 x1 x2 x3 u0 u1 u2 u3 HX3 HY3 HR3 hb3 HdW HL4 hb4
  obtain ⟨y0, y1, y2, y3, z0, z1, z2, z3⟩ := HR5.out
  have Hbx : Hid (Bx ((w4.alloc (.cells #[.int .i64 r.kind, .int .i64 r.num, .string r.text, .slice a4 M c4] 24)).setCells (w.heap.size + 2) 0 (encP (r, .slice a4 M c4))) (w.heap.size + 2) r (.slice a4 M c4)) := HR5.out.put (r, .slice a4 M c4)
  have Hbl : Hid (Below w.heap.size w ((w4.alloc (.cells #[.int .i64 r.kind, .int .i64 r.num, .string r.text, .slice a4 M c4] 24)).setCells (w.heap.size + 2) 0 (encP (r, .slice a4 M c4)))) := below_put hb5 (by omega) (r, .slice a4 M c4)
  have Hfin : Hid (Lies 16 ((w4.alloc (.cells #[.int .i64 r.kind, .int .i64 r.num, .string r.text, .slice a4 M c4] 24)).setCells (w.heap.size + 2) 0 (encP (r, .slice a4 M c4))) r.items (.slice a4 M c4)) := (HL5.out.set (g := w.heap.size + 2) (by omega)).lies
  go_wp2_with fail
  refine bodyPost_ret (v := .tuple #[.agg #[.int .i64 r.kind, .int .i64 r.num, .string r.text, .slice a4 M c4], .bool b, .int .i64 0]) ?_ rfl (by rw [HP2.out]; exact ⟨_, rfl, Hfin.out, Hbl.out⟩)
  obtain ⟨q0, q1, q2, q3, _, _, _, _⟩ := Hbx.out
  simp only [encP, World.setCells, Nat.zero_add, Nat.reduceAdd] at q0 q1 q2 q3
  simp [results, Try.results17, go_sem, q0, q1, q2, q3]

theorem rtwo_any (d : Nat) (q : Int) (t s : VT) (u v : Value) (w : World) (hu : Lies d w t.items u) (hv : Lies d w s.items v) : Calls Try.prog 17 #[.int .i64 q, .agg #[.int .i64 t.kind, .int .i64 t.num, .string t.text, u], .agg #[.int .i64 s.kind, .int .i64 s.num, .string s.text, v]] w (R2Post (twoT d q t s) (twoB d q t s) (twoE d q t s) w) := by
  unfold twoT twoB
  by_cases hq : q < 0 ∨ 8 ≤ q
  · have e : twoE d q t s = 4 := by unfold twoE; rw [if_pos hq]
    rw [e]
    exact rtwo_kind d q t s u v w hu hv (by omega)
  · obtain ⟨Q, hQ, hQ8⟩ : ∃ Q : Nat, q = Q ∧ Q < 8 := ⟨q.toNat, by omega, by omega⟩
    subst hQ
    have h := rtwo_ok d Q t s u v w hu hv hQ8
    by_cases hr : rightV d t = true ∧ rightV d s = true
    · have e : twoE d Q t s = 0 := by unfold twoE; rw [if_neg hq, if_pos hr]
      rw [e]
      rw [if_pos hr] at h
      exact h
    · have e : twoE d Q t s = 3 := by unfold twoE; rw [if_neg hq, if_neg hr]
      rw [e]
      rw [if_neg hr] at h
      exact h

set_option maxHeartbeats 4000000 in
theorem twoLaw_core (q : Int) (t s r : VT) (b : Bool) (e1 : Int) (a a2 : Option Addr) (l c l2 c2 : Nat) (w : World)
    (H1 : Hid (∀ W, Below w.heap.size w W → Calls Try.prog 16 #[.int .i64 q, .agg #[.int .i64 t.kind, .int .i64 t.num, .string t.text, .slice a l c], .agg #[.int .i64 s.kind, .int .i64 s.num, .string s.text, .slice a2 l2 c2]] W (TPost r b e1 W)))
    (H2 : Hid (∀ W, Below w.heap.size w W → Calls Try.prog 17 #[.int .i64 q, .agg #[.int .i64 t.kind, .int .i64 t.num, .string t.text, .slice a l c], .agg #[.int .i64 s.kind, .int .i64 s.num, .string s.text, .slice a2 l2 c2]] W (R2Post r b e1 W))) :
    Calls Try.prog 5 #[.int .i64 q, .agg #[.int .i64 t.kind, .int .i64 t.num, .string t.text, .slice a l c], .agg #[.int .i64 s.kind, .int .i64 s.num, .string s.text, .slice a2 l2 c2]] w fun e w' => e = .returned (.bool true) ∧ Below w.heap.size w w' := by
  have hal : Below w.heap.size w ((w.alloc (.cells #[.int .i64 t.kind, .int .i64 t.num, .string t.text, .slice a l c] 24)).alloc (.cells #[.int .i64 s.kind, .int .i64 s.num, .string s.text, .slice a2 l2 c2] 24)) := (Grew.two _ _ _).below
  have HX : Hid (Bx ((w.alloc (.cells #[.int .i64 t.kind, .int .i64 t.num, .string t.text, .slice a l c] 24)).alloc (.cells #[.int .i64 s.kind, .int .i64 s.num, .string s.text, .slice a2 l2 c2] 24)) w.heap.size t (.slice a l c)) := (bx_alloc w t _).keeps ((Grew.refl _).alloc _).below
  have HY : Hid (Bx ((w.alloc (.cells #[.int .i64 t.kind, .int .i64 t.num, .string t.text, .slice a l c] 24)).alloc (.cells #[.int .i64 s.kind, .int .i64 s.num, .string s.text, .slice a2 l2 c2] 24)) (w.heap.size + 1) s (.slice a2 l2 c2)) := by
    have := bx_alloc (w.alloc (.cells #[.int .i64 t.kind, .int .i64 t.num, .string t.text, .slice a l c] 24)) s (.slice a2 l2 c2)
    rwa [World.size_alloc] at this
  have HS : Hid (∀ (p : VT) (x y : Value) (W : World), Lies 16 W p.items x → Lies 16 W p.items y → Calls Try.prog 12 #[.agg #[.int .i64 p.kind, .int .i64 p.num, .string p.text, x], .agg #[.int .i64 p.kind, .int .i64 p.num, .string p.text, y]] W fun e W' => e = .returned (.bool true) ∧ Below W.heap.size W W') := fun p x y W h1 h2 => (same_any 16 p p x y W h1 h2).mono fun e W' h => ⟨by rw [h.1, sameV_self], h.2.below⟩
  go_enter Try.func5, Try.ntmps5
  go_wp2_with fail
  refine Calls.mono (H1.out _ hal) ?_
  rintro e w1 ⟨v1, rfl, hl1, hb⟩
  obtain ⟨a3, c3, rfl, _⟩ := LiesX.slice hl1
  have hg : Below ((w.alloc (.cells #[.int .i64 t.kind, .int .i64 t.num, .string t.text, .slice a l c] 24)).alloc (.cells #[.int .i64 s.kind, .int .i64 s.num, .string s.text, .slice a2 l2 c2] 24)).heap.size ((w.alloc (.cells #[.int .i64 t.kind, .int .i64 t.num, .string t.text, .slice a l c] 24)).alloc (.cells #[.int .i64 s.kind, .int .i64 s.num, .string s.text, .slice a2 l2 c2] 24)) (w1.alloc (.cells #[.int .i64 r.kind, .int .i64 r.num, .string r.text, .slice a3 r.items.length c3] 24)) := by
    have h1 : Below ((w.alloc (.cells #[.int .i64 t.kind, .int .i64 t.num, .string t.text, .slice a l c] 24)).alloc (.cells #[.int .i64 s.kind, .int .i64 s.num, .string s.text, .slice a2 l2 c2] 24)).heap.size ((w.alloc (.cells #[.int .i64 t.kind, .int .i64 t.num, .string t.text, .slice a l c] 24)).alloc (.cells #[.int .i64 s.kind, .int .i64 s.num, .string s.text, .slice a2 l2 c2] 24)) w1 := hb
    exact h1.alloc h1.size _
  have hb1 : Below w.heap.size w (w1.alloc (.cells #[.int .i64 r.kind, .int .i64 r.num, .string r.text, .slice a3 r.items.length c3] 24)) := hal.trans (hg.mono hal.size)
  obtain ⟨x0, x1, x2, x3, _, _, _, _⟩ := HX.out.keeps hg
  obtain ⟨u0, u1, u2, u3, _, _, _, _⟩ := HY.out.keeps hg
  have HA1 : Hid (Bx (w1.alloc (.cells #[.int .i64 r.kind, .int .i64 r.num, .string r.text, .slice a3 r.items.length c3] 24)) w1.heap.size r (.slice a3 r.items.length c3)) := bx_alloc w1 r _
  have HL1 : Hid (Lies 16 (w1.alloc (.cells #[.int .i64 r.kind, .int .i64 r.num, .string r.text, .slice a3 r.items.length c3] 24)) r.items (.slice a3 r.items.length c3)) := Lies.keeps ((Grew.refl w1).alloc _).below _ _ _ hl1.lies
  clear hal hb hg HX HY hl1 H1
  go_wp2_with fail
  refine Calls.mono (H2.out _ hb1) ?_
  rintro e w2 ⟨v2, rfl, hl2, hb⟩
  obtain ⟨a4, c4, rfl, _⟩ := Lies.slice hl2
  have hg : Below (w1.alloc (.cells #[.int .i64 r.kind, .int .i64 r.num, .string r.text, .slice a3 r.items.length c3] 24)).heap.size (w1.alloc (.cells #[.int .i64 r.kind, .int .i64 r.num, .string r.text, .slice a3 r.items.length c3] 24)) (w2.alloc (.cells #[.int .i64 r.kind, .int .i64 r.num, .string r.text, .slice a4 r.items.length c4] 24)) := by
    have h1 : Below (w1.alloc (.cells #[.int .i64 r.kind, .int .i64 r.num, .string r.text, .slice a3 r.items.length c3] 24)).heap.size (w1.alloc (.cells #[.int .i64 r.kind, .int .i64 r.num, .string r.text, .slice a3 r.items.length c3] 24)) w2 := hb
    exact h1.alloc h1.size _
  have hb2 : Below w.heap.size w (w2.alloc (.cells #[.int .i64 r.kind, .int .i64 r.num, .string r.text, .slice a4 r.items.length c4] 24)) := hb1.trans (hg.mono hb1.size)
  have HA2 : Hid (Bx (w2.alloc (.cells #[.int .i64 r.kind, .int .i64 r.num, .string r.text, .slice a4 r.items.length c4] 24)) w1.heap.size r (.slice a3 r.items.length c3)) := HA1.out.keeps hg
  have HL2 : Hid (Lies 16 (w2.alloc (.cells #[.int .i64 r.kind, .int .i64 r.num, .string r.text, .slice a4 r.items.length c4] 24)) r.items (.slice a3 r.items.length c3)) := Lies.keeps hg _ _ _ HL1.out
  have HB2 : Hid (Lies 16 (w2.alloc (.cells #[.int .i64 r.kind, .int .i64 r.num, .string r.text, .slice a4 r.items.length c4] 24)) r.items (.slice a4 r.items.length c4)) := Lies.keeps ((Grew.refl w2).alloc _).below _ _ _ hl2
  clear hb hg hl2 H2 x0 x1 x2 x3 u0 u1 u2 u3 hb1 HA1 HL1
  generalize w1.heap.size = B1 at *
  obtain ⟨p0, p1, p2, p3, _, _, _, _⟩ := HA2.out
  have hbb : (b == b) = true := by simp
  have hrr : (e1 == e1) = true := by simp
  go_wp2_with fail
  refine Calls.mono (HS.out r (.slice a3 r.items.length c3) (.slice a4 r.items.length c4) _ HL2.out HB2.out) ?_
  rintro e w5 ⟨rfl, hb⟩
  have hb5 : Below w.heap.size w w5 := hb2.trans (hb.mono hb2.size)
  clear hb hb2 HA2 HL2 HB2 p0 p1 p2 p3
  go_wp2_with fail
  refine (speaks_any _).mono ?_
  rintro e w7 ⟨rfl, hb⟩
  have hb7 : Below w.heap.size w w7 := hb5.trans (hb.mono hb5.size)
  go_wp2_with fail
  go_ret
  exact ⟨rfl, hb7⟩

theorem twoLaw_walk (q : Int) (d1 d2 : Nat) (t s : VT) (u v : Value) (w : World) (hu : Lies d1 w t.items u) (hv : Lies d2 w s.items v) (hs : t.text.size ≤ 9223372036854775807) (hs2 : s.text.size ≤ 9223372036854775807) :
    Calls Try.prog 5 #[.int .i64 q, .agg #[.int .i64 t.kind, .int .i64 t.num, .string t.text, u], .agg #[.int .i64 s.kind, .int .i64 s.num, .string s.text, v]] w fun e w' => e = .returned (.bool true) ∧ Below w.heap.size w w' := by
  have hu' := hu.atLeast (max d1 d2) (by omega)
  have hv' := hv.atLeast (max d1 d2) (by omega)
  generalize max d1 d2 = d at *
  obtain ⟨a, c, rfl, _⟩ := Lies.slice hu
  obtain ⟨a2, c2, rfl, _⟩ := Lies.slice hv
  exact twoLaw_core q t s _ _ _ a a2 _ c _ c2 w (fun W hW => two_any d q t s _ _ W (Lies.keeps hW _ _ _ hu') (Lies.keeps hW _ _ _ hv') hs hs2) (fun W hW => rtwo_any d q t s _ _ W (Lies.keeps hW _ _ _ hu') (Lies.keeps hW _ _ _ hv'))

end Go.Proofs.Ytacnfmamjbmhcaa

