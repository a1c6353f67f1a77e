/-
  The contracts of the document's Kind, Asked and Is.
-/
import Derived.Test.YtacnfmamjbmhcaaIs
namespace Go.Proofs.Ytacnfmamjbmhcaa
open Go.RowKit

/-- Is a number one of the table's? -/
def k5B (q : Int) : Bool := decide (0 ≤ q ∧ q ≤ 7)
theorem k5B_true {q : Int} (h0 : 0 ≤ q) (h7 : q ≤ 7) : k5B q = true := decide_eq_true ⟨h0, h7⟩
theorem k5B_false {q : Int} (h : ¬ (0 ≤ q ∧ q ≤ 7)) : k5B q = false := decide_eq_false h

theorem ret_bool {a b : Bool} (h : a = b) : Ending.returned (.bool a) = .returned (.bool b) := by rw [h]

theorem rkind5_any (q : Int) (w : World) : Calls Try.prog 19 #[.int .i64 q] w fun e w' => e = .returned (.bool (k5B q)) ∧ w' = w := by
  by_cases h0 : 0 ≤ q
  · by_cases h7 : q ≤ 7
    · go_enter Try.func19, Try.ntmps19
      go_wp2_with fail
      go_ret
      exact ⟨ret_bool (k5B_true h0 h7).symm, rfl⟩
    · go_enter Try.func19, Try.ntmps19
      go_wp2_with fail
      go_ret
      exact ⟨ret_bool (k5B_false (by omega)).symm, rfl⟩
  · go_enter Try.func19, Try.ntmps19
    go_wp2_with fail
    go_ret
    exact ⟨ret_bool (k5B_false (by omega)).symm, rfl⟩

theorem right_kinds {d : Nat} {t : VT} (h : rightV d t = true) : 0 ≤ t.kind ∧ t.kind ≤ 6 := by
  have hr := right_rp h
  have ho : ∃ e, ownV e t = true := by
    cases d with
    | zero => exact ⟨0, hr⟩
    | succ d => exact ⟨d, (rp_succ hr).2⟩
  obtain ⟨e, ho⟩ := ho
  have := own_facts ho
  exact ⟨this.1, this.2.1⟩

set_option maxHeartbeats 1000000 in
theorem rasked_any (q : Nat) (hq : q < 8) (t : VT) (a : Option Addr) (l c : Nat) (w : World) (h0 : 0 ≤ t.kind) (h6 : t.kind ≤ 6) :
    Calls Try.prog 29 #[.int .i64 q, .agg #[.int .i64 t.kind, .int .i64 t.num, .string t.text, .slice a l c]] w (QPost (qB q t) w) := by
  match q, hq with
  | 0, _ =>
    go_enter Try.func29, Try.ntmps29
    go_wp2_with fail
    go_ret
    exact ⟨rfl, ((Grew.refl _).alloc _).below⟩
  | 1, _ =>
    go_enter Try.func29, Try.ntmps29
    go_wp2_with fail
    go_ret
    exact ⟨rfl, ((Grew.refl _).alloc _).below⟩
  | 2, _ =>
    go_enter Try.func29, Try.ntmps29
    go_wp2_with fail
    go_ret
    exact ⟨rfl, ((Grew.refl _).alloc _).below⟩
  | 3, _ =>
    cases hk : (t.kind == 2)
    · go_enter Try.func29, Try.ntmps29
      go_wp2_with fail
      go_ret
      exact ⟨by simp [qB, hk], ((Grew.refl _).alloc _).below⟩
    · go_enter Try.func29, Try.ntmps29
      go_wp2_with fail
      go_ret
      exact ⟨by simp [qB, hk, evenB], ((Grew.refl _).alloc _).below⟩
  | 4, _ =>
    cases hk : (t.kind == 2)
    · go_enter Try.func29, Try.ntmps29
      go_wp2_with fail
      go_ret
      exact ⟨by simp [qB, hk], ((Grew.refl _).alloc _).below⟩
    · go_enter Try.func29, Try.ntmps29
      go_wp2_with fail
      go_ret
      exact ⟨by simp [qB, hk], ((Grew.refl _).alloc _).below⟩
  | 5, _ =>
    go_enter Try.func29, Try.ntmps29
    go_wp2_with fail
    go_ret
    exact ⟨rfl, ((Grew.refl _).alloc _).below⟩
  | 6, _ =>
    have e : Hid (qB 6 t = decide (4 ≤ t.kind)) := by
      show _ = _
      unfold qB
      rw [Bool.eq_iff_iff]
      simp
      omega
    clear h0 h6
    go_enter Try.func29, Try.ntmps29
    go_wp2_with fail
    go_ret
    exact ⟨by rw [e.out]; rfl, ((Grew.refl _).alloc _).below⟩
  | 7, _ =>
    go_enter Try.func29, Try.ntmps29
    go_wp2_with fail
    go_ret
    exact ⟨rfl, ((Grew.refl _).alloc _).below⟩

set_option maxHeartbeats 2000000 in
theorem ris_any (d : Nat) (q : Int) (t : VT) (u : Value) (w : World) (hu : Lies d w t.items u) :
    Calls Try.prog 15 #[.int .i64 q, .agg #[.int .i64 t.kind, .int .i64 t.num, .string t.text, u]] w (IPost (isZ d q t) (isE d q t) w) := by
  obtain ⟨a, c, rfl, _⟩ := Lies.slice hu
  have HL : Hid (Lies d w t.items (.slice a t.items.length c)) := hu
  clear hu
  generalize t.items.length = l at *
  have hal : Below w.heap.size w (w.alloc (.cells #[.int .i64 t.kind, .int .i64 t.num, .string t.text, .slice a l c] 24)) := ((Grew.refl w).alloc _).below
  have HX : Hid (Bx (w.alloc (.cells #[.int .i64 t.kind, .int .i64 t.num, .string t.text, .slice a l c] 24)) w.heap.size t (.slice a l c)) := bx_alloc w t _
  have HK : Hid (∀ W, Calls Try.prog 19 #[.int .i64 q] W fun e w' => e = .returned (.bool (k5B q)) ∧ w' = W) := rkind5_any q
  by_cases hq : q < 0 ∨ 8 ≤ q
  · have e1 : isE d q t = 4 := by unfold isE; rw [if_pos hq]
    have e2 : isZ d q t = false := by unfold isZ; rw [e1]; rfl
    rw [e1, e2]
    have hd : k5B q = false := k5B_false (by omega)
    rw [hd] at HK
    clear e1 e2 hd hq
    go_enter Try.func15, Try.ntmps15
    go_wp2_with fail
    refine Calls.mono (HK.out _) ?_
    rintro e w1 ⟨rfl, rfl⟩
    go_wp2_with fail
    go_ret2
    exact ⟨rfl, hal⟩
  · have hd : k5B q = true := k5B_true (by omega) (by omega)
    rw [hd] at HK
    obtain ⟨Q, hQ, hQ8⟩ : ∃ Q : Nat, q = Q ∧ Q < 8 := ⟨q.toNat, by omega, by omega⟩
    subst hQ
    have e0 : Hid (isE d Q t = if rightV d t = true then 0 else 3) := by show _ = _; unfold isE; rw [if_neg hq]
    have e1 : Hid (isZ d Q t = if isE d Q t = 0 then qB Q t else false) := rfl
    have HA : Hid (0 ≤ t.kind → t.kind ≤ 6 → ∀ W, Calls Try.prog 29 #[.int .i64 Q, .agg #[.int .i64 t.kind, .int .i64 t.num, .string t.text, .slice a l c]] W (QPost (qB Q t) W)) := fun h0 h6 W => rasked_any Q hQ8 t a l c W h0 h6
    generalize isE d Q t = E at *
    generalize isZ d Q t = Z at *
    generalize qB Q t = B at *
    clear hd hq
    go_enter Try.func15, Try.ntmps15
    go_wp2_with fail
    refine Calls.mono (HK.out _) ?_
    rintro e w1 ⟨rfl, rfl⟩
    go_wp2_with fail
    refine (right_any d t _ _ (Lies.keeps hal _ _ _ HL.out)).mono ?_
    rintro e w2 ⟨rfl, hb⟩
    have hb2 : Below w.heap.size w w2 := hal.trans (hb.mono hal.size)
    obtain ⟨x0, x1, x2, x3, _, _, _, _⟩ := HX.out.keeps hb
    clear hb HX HK
    cases hr : rightV d t
    · have HE : Hid (E = 3) := by show _ = _; rw [e0.out, hr]; rfl
      have HZ : Hid (Z = false) := by show _ = _; rw [e1.out, HE.out]; rfl
      clear hr e0 e1
      go_wp2_with fail
      go_ret2
      rw [HE.out, HZ.out]
      exact ⟨rfl, hb2⟩
    · have HE : Hid (E = 0) := by show _ = _; rw [e0.out, if_pos hr]
      have HZ : Hid (Z = B) := by show _ = _; rw [e1.out, HE.out]; rfl
      obtain ⟨k0, k6⟩ := right_kinds hr
      have HA2 : Hid (∀ W, Calls Try.prog 29 #[.int .i64 Q, .agg #[.int .i64 t.kind, .int .i64 t.num, .string t.text, .slice a l c]] W (QPost B W)) := HA.out k0 k6
      clear hr e0 e1 HA k0 k6
      go_wp2_with fail
      refine Calls.mono (HA2.out _) ?_
      rintro e w3 ⟨rfl, hb⟩
      have hb3 : Below w.heap.size w w3 := hb2.trans (hb.mono hb2.size)
      go_wp2_with fail
      go_ret2
      rw [HE.out, HZ.out]
      exact ⟨rfl, hb3⟩

end Go.Proofs.Ytacnfmamjbmhcaa

