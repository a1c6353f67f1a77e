/-
  The contracts of the questions, and of Is.
-/
import Derived.Test.YtjlhgekckbdpjaaTimes2
namespace Go.Proofs.Ytjlhgekckbdpjaa
open Go.RowKit

def evenB (n : Int) : Bool := n.tmod 2 == 0

/-- What a question is answered. -/
def qB : Nat → VT → Bool
  | 0, _ => true
  | 1, _ => false
  | 2, t => t.kind == 2
  | 3, t => t.kind == 2 && evenB t.num
  | 4, t => t.kind == 2 && decide (0 < t.num)
  | 5, t => t.kind == 3
  | 6, t => t.kind == 4 || (t.kind == 5 || t.kind == 6)
  | _, t => t.kind == 0

def QPost (b : Bool) (W : World) (e : Ending) (W' : World) : Prop := e = .returned (.bool b) ∧ Below W.heap.size W W'

set_option maxHeartbeats 400000 in
theorem isInt_any (t : VT) (a : Option Addr) (l c : Nat) (w : World) : Calls Try.prog 51 #[.agg #[.int .i64 t.kind, .int .i64 t.num, .string t.text, .slice a l c]] w fun e w' => e = .returned (.bool (t.kind == 2)) ∧ w' = w.alloc (.cells #[.int .i64 t.kind, .int .i64 t.num, .string t.text, .slice a l c] 24) := by
  go_enter Try.func51, Try.ntmps51
  go_wp2_with fail
  go_ret
  exact ⟨rfl, rfl⟩

set_option maxHeartbeats 400000 in
theorem never_any (t : VT) (a : Option Addr) (l c : Nat) (w : World) : Calls Try.prog 50 #[.agg #[.int .i64 t.kind, .int .i64 t.num, .string t.text, .slice a l c]] w (QPost false w) := by
  go_enter Try.func50, Try.ntmps50
  go_wp2_with fail
  go_ret
  first | exact ⟨rfl, (Grew.refl _).alloc _ |>.below⟩ | exact ⟨rfl, Below.refl _ _⟩

set_option maxHeartbeats 400000 in
theorem question_any (q : Nat) (hq : q < 8) (t : VT) (u : Value) (d : Nat) (w : World) (hl : Lies d w t.items u) :
    Calls Try.prog (isF q) #[.agg #[.int .i64 t.kind, .int .i64 t.num, .string t.text, u]] w (QPost (qB q t) w) := by
  obtain ⟨a, c, rfl, _⟩ := Lies.slice hl
  clear hl
  generalize t.items.length = l
  match q, hq with
  | 0, _ =>
    show Calls Try.prog 49 _ _ _
    go_enter Try.func49, Try.ntmps49
    go_wp2_with fail
    go_ret
    first | exact ⟨rfl, (Grew.refl _).alloc _ |>.below⟩ | exact ⟨rfl, Below.refl _ _⟩
  | 1, _ => exact never_any t a l c w
  | 2, _ => exact (isInt_any t a l c w).mono fun e w' h => ⟨h.1, by rw [h.2]; exact ((Grew.refl _).alloc _).below⟩
  | 3, _ =>
    show Calls Try.prog 52 _ _ _
    cases hk : (t.kind == 2)
    · go_enter Try.func52, Try.ntmps52
      go_wp2_with (go_at_call 51; refine (isInt_any t _ _ _ _).mono ?_; rintro e w' ⟨rfl, rfl⟩)
      go_ret
      exact ⟨by simp [qB, hk], (Grew.two _ _ _).below⟩
    · go_enter Try.func52, Try.ntmps52
      go_wp2_with (go_at_call 51; refine (isInt_any t _ _ _ _).mono ?_; rintro e w' ⟨rfl, rfl⟩)
      go_ret
      exact ⟨by simp [qB, hk, evenB], (Grew.two _ _ _).below⟩
  | 4, _ =>
    show Calls Try.prog 53 _ _ _
    cases hk : (t.kind == 2)
    · go_enter Try.func53, Try.ntmps53
      go_wp2_with (go_at_call 51; refine (isInt_any t _ _ _ _).mono ?_; rintro e w' ⟨rfl, rfl⟩)
      go_ret
      exact ⟨by simp [qB, hk], (Grew.two _ _ _).below⟩
    · go_enter Try.func53, Try.ntmps53
      go_wp2_with (go_at_call 51; refine (isInt_any t _ _ _ _).mono ?_; rintro e w' ⟨rfl, rfl⟩)
      go_ret
      exact ⟨by simp [qB, hk], (Grew.two _ _ _).below⟩
  | 5, _ =>
    show Calls Try.prog 54 _ _ _
    go_enter Try.func54, Try.ntmps54
    go_wp2_with fail
    go_ret
    exact ⟨rfl, ((Grew.refl _).alloc _).below⟩
  | 6, _ =>
    show Calls Try.prog 55 _ _ _
    cases h4 : (t.kind == 4)
    · cases h5 : (t.kind == 5)
      · go_enter Try.func55, Try.ntmps55
        go_wp2_with fail
        go_ret
        exact ⟨by simp [qB, h4, h5], ((Grew.refl _).alloc _).below⟩
      · go_enter Try.func55, Try.ntmps55
        go_wp2_with fail
        go_ret
        exact ⟨by simp [qB, h5], ((Grew.refl _).alloc _).below⟩
    · go_enter Try.func55, Try.ntmps55
      go_wp2_with fail
      go_ret
      exact ⟨by simp [qB, h4], ((Grew.refl _).alloc _).below⟩
  | 7, _ =>
    show Calls Try.prog 56 _ _ _
    go_enter Try.func56, Try.ntmps56
    go_wp2_with fail
    go_ret
    exact ⟨rfl, ((Grew.refl _).alloc _).below⟩

/-- The error of Is, and its answer. -/
def isE (d : Nat) (q : Int) (t : VT) : Int := if q < 0 ∨ 8 ≤ q then 4 else if rightV d t = true then 0 else 3
def isZ (d : Nat) (q : Int) (t : VT) : Bool := if isE d q t = 0 then qB q.toNat t else false

/-- The world behind the first region. -/
def startQ (w : World) (t : VT) (u : Value) : World :=
  (w.alloc (.cells #[.int .i64 t.kind, .int .i64 t.num, .string t.text, u] 24)).alloc
    (.cells #[fv 49, fv 50, fv 51, fv 52, fv 53, fv 54, fv 55, fv 56] 62)

theorem startQ_below (w : World) (t : VT) (u : Value) : Below w.heap.size w (startQ w t u) := (Grew.two _ _ _).below
theorem startQ_box (w : World) (t : VT) (u : Value) : Bx (startQ w t u) w.heap.size t u := (bx_alloc w t u).keeps ((Grew.refl _).alloc _).below
theorem startQ_row (w : World) (t : VT) (u : Value) (q : Nat) (hq : q < 8) : (startQ w t u).cell? ⟨w.heap.size + 1, q, none⟩ = some (fv (isF q)) := by
  have := isF_cell (w.alloc (.cells #[.int .i64 t.kind, .int .i64 t.num, .string t.text, u] 24)) q hq
  rwa [World.size_alloc] at this
theorem startQ_size (w : World) (t : VT) (u : Value) : (startQ w t u).heap.size = w.heap.size + 2 := by unfold startQ; simp

def IPost (b : Bool) (r : Int) (W : World) (e : Ending) (W' : World) : Prop := e = .returned (.tuple #[.bool b, .int .i64 r]) ∧ Below W.heap.size W W'

set_option maxHeartbeats 2000000 in
theorem pis_no (d : Nat) (q : Int) (t : VT) (u : Value) (w : World) (hu : Lies d w t.items u) (hq : q < 0 ∨ 8 ≤ q) :
    Calls Try.prog 14 #[.int .i64 q, .agg #[.int .i64 t.kind, .int .i64 t.num, .string t.text, u]] w (IPost false 4 w) := by
  obtain ⟨a, c, rfl, _⟩ := Lies.slice hu
  clear hu
  have HB := startQ_below w t (.slice a t.items.length c)
  have Hz : Hid ((startQ w t (.slice a t.items.length c)).heap.size = w.heap.size + 2) := startQ_size _ _ _
  have HQ : Hid (q < 0 ∨ 8 ≤ q) := hq
  clear hq
  go_enter Try.func14, Try.ntmps14
  go_wp2_with fail
  refine (questions_any _).mono ?_
  rintro e w1 ⟨rfl, rfl⟩
  go_wp2_with fail
  refine (rowQ_no (w.heap.size + 1) q _ HQ.out).mono ?_
  rintro e w1 ⟨rfl, hb⟩
  have hb : Below (startQ w t (.slice a t.items.length c)).heap.size (startQ w t (.slice a t.items.length c)) w1 := hb
  have hb1 : Below w.heap.size w w1 := HB.trans (hb.mono (by rw [Hz.out]; omega))
  clear hb HB
  go_wp2_with fail
  go_ret2
  exact ⟨rfl, hb1.alloc hb1.size _⟩

set_option maxHeartbeats 2000000 in
theorem pis_yes (d q : Nat) (t : VT) (u : Value) (w : World) (hu : Lies d w t.items u) (hs : t.text.size ≤ 9223372036854775807) (hq : q < 8) :
    Calls Try.prog 14 #[.int .i64 q, .agg #[.int .i64 t.kind, .int .i64 t.num, .string t.text, u]] w (IPost (if rightV d t = true then qB q t else false) (errOf (rightV d t)) w) := by
  have Hd : Hid (∀ (v : Value) (W : World), Lies d W t.items v → Calls Try.prog (isF q) #[.agg #[.int .i64 t.kind, .int .i64 t.num, .string t.text, v]] W (QPost (qB q t) W)) := fun v W h => question_any q hq t v d W h
  have Hrow : Hid (∀ v, (startQ w t v).cell? ⟨w.heap.size + 1, q, none⟩ = some (fv (isF q))) := fun v => startQ_row w t v q hq
  have eg := isF_enters q hq
  generalize isF q = f at *
  generalize qB q t = Q at *
  generalize hZ : (if rightV d t = true then Q else false) = Z
  generalize hE : errOf (rightV d t) = E
  have HZ : Hid ((if rightV d t = true then Q else false) = Z) := hZ
  have HE : Hid (errOf (rightV d t) = E) := hE
  clear hZ hE
  obtain ⟨a, c, rfl, _⟩ := Lies.slice hu
  have HL : Hid (Lies d w t.items (.slice a t.items.length c)) := hu
  clear hu
  have HB := startQ_below w t (.slice a t.items.length c)
  have HX : Hid (Bx (startQ w t (.slice a t.items.length c)) w.heap.size t (.slice a t.items.length c)) := startQ_box w t _
  have Hz : Hid ((startQ w t (.slice a t.items.length c)).heap.size = w.heap.size + 2) := startQ_size _ _ _
  go_enter Try.func14, Try.ntmps14
  go_wp2_with fail
  refine (questions_any _).mono ?_
  rintro e w1 ⟨rfl, rfl⟩
  go_wp2_with fail
  refine (rowQ_yes (w.heap.size + 1) q f _ hq (Hrow.out _)).mono ?_
  rintro e w1 ⟨rfl, hb⟩
  have hb : Below (startQ w t (.slice a t.items.length c)).heap.size (startQ w t (.slice a t.items.length c)) w1 := hb
  have hb1 : Below w.heap.size w w1 := HB.trans (hb.mono (by rw [Hz.out]; omega))
  have hb2 : Below w.heap.size w (w1.alloc (.cells #[fv f] 62)) := hb1.alloc hb1.size _
  have HX2 : Hid (Bx (w1.alloc (.cells #[fv f] 62)) w.heap.size t (.slice a t.items.length c)) := (HX.out.keeps hb).keeps ((Grew.refl _).alloc _).below
  have HF2 : Hid ((w1.alloc (.cells #[fv f] 62)).cell? ⟨w1.heap.size, 0, none⟩ = some (fv f)) := by show _ = _; simp
  clear hb HB HX Hz Hrow
  obtain ⟨x0, x1, x2, x3, _, _, _, _⟩ := HX2.out
  go_wp2_with fail
  refine (check_any d t _ _ (Lies.keeps hb2 _ _ _ HL.out) hs).mono ?_
  rintro e w2 ⟨rfl, hb⟩
  have hb3 : Below w.heap.size w w2 := hb2.trans (hb.mono hb2.size)
  have HX3 := HX2.out.keeps hb
  have xr := cell_keeps hb HF2.out
  clear hb HX2 HF2 x0 x1 x2 x3 hb2 hb1
  obtain ⟨x0, x1, x2, x3, _, _, _, _⟩ := HX3
  generalize w1.heap.size = B at *
  cases hr : rightV d t
  · have he : errOf false = 3 := rfl
    rw [he]
    have Hr : Hid (rightV d t = false) := hr
    clear he hr
    go_wp2_with fail
    go_ret2
    rw [← HZ.out, ← HE.out, Hr.out]
    exact ⟨rfl, hb3⟩
  · have he : errOf true = 0 := rfl
    rw [he]
    have Hr : Hid (rightV d t = true) := hr
    clear he hr
    go_wp2_with (go_at_fn f; refine Calls.mono (Hd.out (.slice a t.items.length c) _ (Lies.keeps hb3 _ _ _ HL.out)) ?_; rintro e w4 ⟨rfl, hb4⟩)
    go_ret2
    rw [← HZ.out, ← HE.out, Hr.out]
    exact ⟨rfl, hb3.trans (hb4.mono hb3.size)⟩

theorem pis_any (d : Nat) (q : Int) (t : VT) (u : Value) (w : World) (hu : Lies d w t.items u) (hs : t.text.size ≤ 9223372036854775807) :
    Calls Try.prog 14 #[.int .i64 q, .agg #[.int .i64 t.kind, .int .i64 t.num, .string t.text, u]] w (IPost (isZ d q t) (isE d q t) w) := by
  unfold isZ
  by_cases hq : q < 0 ∨ 8 ≤ q
  · have e : isE d q t = 4 := by unfold isE; rw [if_pos hq]
    rw [e]
    exact pis_no d q t u w hu hq
  · obtain ⟨Q, hQ, hQ8⟩ : ∃ Q : Nat, q = Q ∧ Q < 8 := ⟨q.toNat, by omega, by omega⟩
    subst hQ
    have h := pis_yes d Q t u w hu hs hQ8
    cases hr : rightV d t
    · have e : isE d Q t = 3 := by unfold isE; rw [if_neg hq, hr]; rfl
      rw [hr] at h
      rw [e]; exact h
    · have e : isE d Q t = 0 := by unfold isE; rw [if_neg hq, if_pos hr]
      rw [hr] at h
      rw [e]; exact h

end Go.Proofs.Ytjlhgekckbdpjaa
