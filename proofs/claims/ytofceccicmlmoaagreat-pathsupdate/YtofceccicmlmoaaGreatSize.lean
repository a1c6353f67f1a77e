/-
  The contracts of size and first.
-/
import Derived.Test.YtofceccicmlmoaaGreatRune
import Derived.Test.YtofceccicmlmoaaGreatEnc
namespace Go.Proofs.YtofceccicmlmoaaGreat
open Go.RowKit

/-- FnSize. -/
def sizeT (t : VT) : VT := intT (if t.kind = 3 then runesZ t.text else if t.kind = 6 then (t.items.length : Int).tdiv 2 else t.items.length)

set_option maxHeartbeats 1000000 in
theorem size_any (X : Nat → Prop) (t : VT) (a : Option Addr) (c : Nat) (w : World) (hs : t.text.size ≤ 4294967296) (hl : t.items.length ≤ 1024) : Calls Tryz.prog 78 #[.agg #[.int .i64 t.kind, .int .i64 t.num, .string t.text, .slice a t.items.length c]] w (FnPost X (sizeT t) w) := by
  cases h3 : (t.kind == 3)
  · have k3 : ¬ t.kind = 3 := by simpa using h3
    cases h6 : (t.kind == 6)
    · have k6 : ¬ t.kind = 6 := by simpa using h6
      have e : sizeT t = intT t.items.length := by unfold sizeT; rw [if_neg k3, if_neg k6]
      rw [e]
      clear e k3 k6
      go_enter Tryz.func78, Tryz.ntmps78
      go_wp2_with (go_at_call 96; refine (number_any _ _).mono ?_; rintro e w' ⟨rfl, rfl⟩)
      exact bodyPost_ret (v := .agg #[.int .i64 2, .int .i64 t.items.length, .string ⟨#[]⟩, .slice none 0 0]) (by simp [results, Tryz.results78, go_sem]) rfl (fnPost_int (grew3 _ _ _ _))
    · have k6 : t.kind = 6 := by simpa using h6
      have e : sizeT t = intT ((t.items.length : Int) / 2) := by unfold sizeT; rw [if_neg k3, if_pos k6, Int.tdiv_eq_ediv_of_nonneg (by omega)]
      rw [e]
      clear e k3 k6
      go_enter Tryz.func78, Tryz.ntmps78
      go_wp2_with (go_at_call 96; refine (number_any _ _).mono ?_; rintro e w' ⟨rfl, rfl⟩)
      exact bodyPost_ret (v := .agg #[.int .i64 2, .int .i64 ((t.items.length : Int) / 2), .string ⟨#[]⟩, .slice none 0 0]) (by simp [results, Tryz.results78, go_sem]) rfl (fnPost_int (grew3 _ _ _ _))
  · have k3 : t.kind = 3 := by simpa using h3
    have e : sizeT t = intT (runesZ t.text) := by unfold sizeT; rw [if_pos k3]
    rw [e]
    clear e k3
    go_enter Tryz.func78, Tryz.ntmps78
    go_wp2_with (first | (go_at_call 96; refine (number_any _ _).mono ?_; rintro e w' ⟨rfl, rfl⟩) | (go_at_call 97; refine (runes_any _ _ hs).mono ?_; rintro e w' ⟨rfl, o, rfl⟩))
    exact bodyPost_ret (v := .agg #[.int .i64 2, .int .i64 (runesZ t.text), .string ⟨#[]⟩, .slice none 0 0]) (by simp [results, Tryz.results78, go_sem]) rfl (fnPost_int (((Grew.two _ _ _).alloc _).alloc _).below)

/-- FnFirst. -/
def firstT (t : VT) : VT :=
  if t.kind = 3 then (if 0 < t.text.size then ⟨3, 0, firstS t.text, []⟩ else nilT)
  else match t.items with
    | [] => nilT
    | x :: l => if t.kind = 6 then ⟨4, 0, ⟨#[]⟩, x :: l.take 1⟩ else x

set_option maxHeartbeats 1000000 in
theorem first_text (X : Nat → Prop) (t : VT) (a : Option Addr) (c : Nat) (w : World) (k3 : t.kind = 3) : Calls Tryz.prog 79 #[.agg #[.int .i64 t.kind, .int .i64 t.num, .string t.text, .slice a t.items.length c]] w (FnPost X (firstT t) w) := by
  have h3 : (t.kind == 3) = true := by simp [k3]
  have HB : Hid (Blank ((w.alloc (.cells #[.int .i64 t.kind, .int .i64 t.num, .string t.text, .slice a t.items.length c] 24)).alloc (.cells #[.int .i64 0, .int .i64 0, .string ⟨#[]⟩, .slice none 0 0] 24)) (w.heap.size + 1)) := by
    have := blank_alloc (w.alloc (.cells #[.int .i64 t.kind, .int .i64 t.num, .string t.text, .slice a t.items.length c] 24))
    rwa [World.size_alloc] at this
  by_cases h0 : 0 < t.text.size
  · have e : firstT t = ⟨3, 0, firstS t.text, []⟩ := by unfold firstT; rw [if_pos k3, if_pos h0]
    rw [e]
    clear e k3
    go_enter Tryz.func79, Tryz.ntmps79
    go_wp2_with fail
    refine (firstRune_some t.text _ h0).mono ?_
    rintro e w1 ⟨rfl, hb⟩
    have hb1 : Below w.heap.size w w1 := (Grew.two w _ _).below.trans (hb.mono (by simp; omega))
    have HB1 : Hid (Blank w1 (w.heap.size + 1)) := HB.out.keeps hb
    clear hb HB
    obtain ⟨y0, y1, y2, y3, z0, z1, z2, z3⟩ := HB1.out
    generalize firstS t.text = E at *
    have Hbx : Hid _ := HB1.out.put (⟨3, 0, E, []⟩, .slice none 0 0)
    have Hbl : Hid _ := below_put hb1 (Nat.le_succ _) (⟨3, 0, E, []⟩, .slice none 0 0)
    go_wp2_with fail
    refine bodyPost_ret (v := .agg #[.int .i64 3, .int .i64 0, .string E, .slice none 0 0]) ?_ rfl ⟨_, rfl, liesX_nil _ _ _ _ _, Hbl.out⟩
    obtain ⟨q0, q1, q2, q3⟩ := Hbx.out
    simp only [encP, World.setCells, Nat.zero_add, Nat.reduceAdd] at q0 q1 q2 q3
    simp [results, Tryz.results79, go_sem, q0, q1, q2, q3]
  · have e : firstT t = nilT := by unfold firstT; rw [if_pos k3, if_neg h0]
    rw [e]
    clear e k3
    go_enter Tryz.func79, Tryz.ntmps79
    go_wp2_with fail
    refine (firstRune_none t.text _ h0).mono ?_
    rintro e w1 ⟨rfl, hb⟩
    have hb1 : Below w.heap.size w w1 := (Grew.two w _ _).below.trans (hb.mono (by simp; omega))
    have HB1 : Hid (Blank w1 (w.heap.size + 1)) := HB.out.keeps hb
    clear hb HB
    obtain ⟨y0, y1, y2, y3, z0, z1, z2, z3⟩ := HB1.out
    have Hbx : Hid _ := HB1.out.put (⟨0, 0, ⟨#[]⟩, []⟩, .slice none 0 0)
    have Hbl : Hid _ := below_put hb1 (Nat.le_succ _) (⟨0, 0, ⟨#[]⟩, []⟩, .slice none 0 0)
    go_wp2_with fail
    refine bodyPost_ret (v := .agg #[.int .i64 0, .int .i64 0, .string ⟨#[]⟩, .slice none 0 0]) ?_ rfl (fnPost_nil Hbl.out)
    obtain ⟨q0, q1, q2, q3⟩ := Hbx.out
    simp only [encP, World.setCells, Nat.zero_add, Nat.reduceAdd] at q0 q1 q2 q3
    simp [results, Tryz.results79, go_sem, q0, q1, q2, q3]

theorem lies_tail {X : Nat → Prop} {d : Nat} {w : World} {x : VT} {l : List VT} {b o c c' : Nat} (h : LiesX X (d + 1) w (x :: l) (.slice (some ⟨b, o, none⟩) (x :: l).length c)) (hl : 1 ≤ l.length) (hc : 2 ≤ c') : LiesX X (d + 1) w (x :: l.take 1) (.slice (some ⟨b, o, none⟩) 2 c') := by
  obtain ⟨a, cc, hv, _, hr⟩ := h
  obtain ⟨b', o', ha, hbb, hall⟩ := hr (by simp)
  injection hv with hv1
  rw [ha] at hv1
  injection hv1 with hv1
  injection hv1 with hb ho
  subst hb ho
  have hlen : (x :: l.take 1).length = 2 := by simp; omega
  refine ⟨some ⟨b, o, none⟩, c', by rw [hlen], by rw [hlen]; exact ⟨hc, by omega⟩, fun _ => ⟨b, o, rfl, hbb, fun i hi => ?_⟩⟩
  have hi' : i < (x :: l).length := by simp at hi ⊢; omega
  have := hall i hi'
  have e : (x :: l.take 1)[i] = (x :: l)[i]'hi' := by
    cases i with
    | zero => rfl
    | succ i => simp
  rw [e]
  exact this

set_option maxHeartbeats 1000000 in
theorem first_items (X : Nat → Prop) (t : VT) (u : Value) (w : World) (k3 : ¬ t.kind = 3) (hu : LiesX X 16 w t.items u) (h2 : t.kind = 6 → t.items ≠ [] → 2 ≤ t.items.length) : Calls Tryz.prog 79 #[.agg #[.int .i64 t.kind, .int .i64 t.num, .string t.text, u]] w (FnPost X (firstT t) w) := by
  have h3 : (t.kind == 3) = false := by simp [k3]
  obtain ⟨a, c, rfl, hlen⟩ := LiesX.slice hu
  have HL : Hid (LiesX X 16 w t.items (.slice a t.items.length c)) := hu
  cases hi : t.items with
  | nil =>
    have e : firstT t = nilT := by unfold firstT; rw [if_neg k3, hi]
    rw [e]
    clear e k3 hu h2 HL hlen
    go_enter Tryz.func79, Tryz.ntmps79
    go_wp2_with fail
    exact bodyPost_ret (v := .agg #[.int .i64 0, .int .i64 0, .string ⟨#[]⟩, .slice none 0 0]) (by simp [results, Tryz.results79, go_sem]) rfl (fnPost_nil (Grew.two _ _ _).below)
  | cons x l =>
    rw [hi] at HL hlen hu
    obtain ⟨a', c', hv, _, hr⟩ := hu
    injection hv with hv1 hv2 hv3
    subst hv1 hv3
    clear hv2
    obtain ⟨b, o, rfl, hbb, hall⟩ := hr (by simp)
    obtain ⟨v, p0, p1, p2, p3, p4, _⟩ := hall 0 (by simp)
    simp only [Nat.zero_mul, Nat.add_zero, List.getElem_cons_zero] at p0 p1 p2 p3 p4
    clear hall hr
    obtain ⟨av, cv, rfl, _⟩ := LiesX.slice p4
    have hb : b < w.heap.size := cell_lt p0
    cases h6 : (t.kind == 6)
    · have e : firstT t = x := by unfold firstT; rw [if_neg k3, hi]; simp only; rw [if_neg (by simpa using h6)]
      rw [e]
      have HP : Hid (LiesX X 15 w x.items (.slice av x.items.length cv)) := p4
      clear e k3 h2 HL p4
      go_enter Tryz.func79, Tryz.ntmps79
      go_wp2_with fail
      exact bodyPost_ret (v := .agg #[.int .i64 x.kind, .int .i64 x.num, .string x.text, .slice av x.items.length cv]) (by simp [results, Tryz.results79, go_sem]) rfl (fnPost_same (HP.out.atLeast 16 (by omega)) (Grew.two _ _ _).below)
    · have k6 : t.kind = 6 := by simpa using h6
      have h2' := h2 k6 (by rw [hi]; simp)
      rw [hi] at h2'
      have hll : 1 ≤ l.length := by simpa using h2'
      have e : firstT t = ⟨4, 0, ⟨#[]⟩, x :: l.take 1⟩ := by unfold firstT; rw [if_neg k3, hi]; simp only; rw [if_pos k6]
      rw [e]
      have hcap : (x :: l).length ≤ c := Lies.cap HL.out.lies
      have hc2 : 2 ≤ c := by simp at hcap; omega
      have HT : Hid (LiesX X 16 w (x :: l.take 1) (.slice (some ⟨b, o, none⟩) 2 c)) := lies_tail HL.out hll hc2
      clear e k3 h2 HL p4 k6 h2' hcap
      go_enter Tryz.func79, Tryz.ntmps79
      go_wp2_with fail
      exact bodyPost_ret (v := .agg #[.int .i64 4, .int .i64 0, .string ⟨#[]⟩, .slice (some ⟨b, o, none⟩) 2 c]) (by simp [results, Tryz.results79, go_sem]) rfl (fnPost_same (t := ⟨4, 0, ⟨#[]⟩, x :: l.take 1⟩) HT.out (Grew.two _ _ _).below)

end Go.Proofs.YtofceccicmlmoaaGreat

