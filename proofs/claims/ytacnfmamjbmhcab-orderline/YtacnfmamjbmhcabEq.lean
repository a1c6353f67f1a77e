/-
  Right values that are equal are the same in all fields. Plain mathematics.
-/
import Derived.Test.YtacnfmamjbmhcabSame
import Derived.Test.YtacnfmamjbmhcabMerge
namespace Go.Proofs.Ytacnfmamjbmhcab
open Go.RowKit

theorem cmpL_zero {f : VT → VT → Int} {g : VT → VT → Bool} : ∀ (l m : List VT), (∀ x ∈ l, ∀ y ∈ m, (f x y = 0 ↔ g x y = true)) → (cmpL f l m = 0 ↔ (l.length = m.length ∧ all2 g l m = true)) := by
  intro l
  induction l with
  | nil => intro m _; cases m <;> simp [cmpL, all2]
  | cons x l ih =>
    intro m h
    cases m with
    | nil => simp [cmpL]
    | cons y m =>
      have h0 := h x (List.mem_cons_self) y (List.mem_cons_self)
      have h1 := ih m (fun a ha b hb => h a (List.mem_cons_of_mem _ ha) b (List.mem_cons_of_mem _ hb))
      simp only [cmpL, all2, List.length_cons, Bool.and_eq_true]
      by_cases e : f x y = 0
      · rw [if_pos e, h1]
        have := h0.1 e
        constructor
        · rintro ⟨a, b⟩; exact ⟨by omega, this, b⟩
        · rintro ⟨a, _, b⟩; exact ⟨by omega, b⟩
      · rw [if_neg e]
        constructor
        · intro h; exact absurd h e
        · rintro ⟨_, hh, _⟩; exact absurd (h0.2 hh) e

theorem cmpS_zero (a b : ByteArray) : cmpS a b = 0 ↔ (a.toList == b.toList) = true := by
  unfold cmpS
  cases h1 : Op.bytesLess a.toList b.toList
  · cases h2 : (a.toList == b.toList) <;> simp
  · have : (a.toList == b.toList) = false := by
      rw [beq_eq_false_iff_ne]
      intro e
      rw [e, bl_irrefl] at h1; cases h1
    simp [this]

theorem cmpI_zero_iff (a b : Int) : cmpI a b = 0 ↔ (a == b) = true := by
  constructor
  · intro h; simp [cmpI_zero a b h]
  · intro h
    have : a = b := by simpa using h
    subst this
    unfold cmpI
    simp

/-- What a right part of each kind holds. -/
theorem own_facts {d : Nat} {t : VT} (h : ownV d t = true) : 0 ≤ t.kind ∧ t.kind ≤ 6 ∧ (t.kind ≠ 1 → t.kind ≠ 2 → t.num = 0) ∧ (t.kind ≠ 3 → t.text.toList = []) ∧ (t.kind ≠ 4 → t.kind ≠ 5 → t.kind ≠ 6 → t.items.length = 0) := by
  simp only [ownV, Bool.and_eq_true, decide_eq_true_eq] at h
  obtain ⟨h0, h6, hn, ht, hi⟩ := h
  refine ⟨h0, h6, fun n1 n2 => ?_, fun n3 => ?_, fun n4 n5 n6 => ?_⟩
  · simp only [okNum] at hn
    rw [if_neg (by simpa using n2), if_neg (by simpa using n1)] at hn
    simpa using hn
  · simp only [okText] at ht
    rw [if_neg (by simpa using n3)] at ht
    simpa using ht
  · simp only [okItems] at hi
    rw [if_neg (by simpa using n4), if_neg (by simpa using n5), if_neg (by simpa using n6)] at hi
    simp only [beq_iff_eq] at hi
    omega

theorem eq_core {d : Nat} {f : VT → VT → Int} {g : VT → VT → Bool} {a b : VT} (ha : ownV d a = true) (hb : ownV d b = true) (hfg : ∀ x ∈ a.items, ∀ y ∈ b.items, (f x y = 0 ↔ g x y = true)) :
    cmpN f a b = 0 ↔ (headS a b && all2 g a.items b.items) = true := by
  obtain ⟨a0, a6, an, at', ai⟩ := own_facts ha
  obtain ⟨b0, b6, bn, bt, bi⟩ := own_facts hb
  by_cases hk : a.kind = b.kind
  · rw [cmpN_same f a b hk]
    unfold sameK
    simp only [headS, Bool.and_eq_true, beq_iff_eq]
    by_cases k1 : a.kind = 1 ∨ a.kind = 2
    · rw [if_pos k1]
      have e1 := at' (by omega)
      have e2 := bt (by omega)
      have e3 := List.eq_nil_of_length_eq_zero (ai (by omega) (by omega) (by omega))
      have e4 := List.eq_nil_of_length_eq_zero (bi (by omega) (by omega) (by omega))
      rw [cmpI_zero_iff, e1, e2, e3, e4]
      simp [hk, all2]
    · rw [if_neg k1]
      have n1 := an (by omega) (by omega)
      have n2 := bn (by omega) (by omega)
      by_cases k3 : a.kind = 3
      · rw [if_pos k3]
        have e3 := List.eq_nil_of_length_eq_zero (ai (by omega) (by omega) (by omega))
        have e4 := List.eq_nil_of_length_eq_zero (bi (by omega) (by omega) (by omega))
        rw [cmpS_zero, n1, n2, e3, e4]
        simp [hk, all2]
      · rw [if_neg k3]
        have e1 := at' k3
        have e2 := bt (by omega)
        by_cases k4 : a.kind = 4 ∨ a.kind = 5 ∨ a.kind = 6
        · rw [if_pos k4, cmpL_zero a.items b.items hfg, n1, n2, e1, e2]
          simp [hk]
        · rw [if_neg k4]
          have e3 := List.eq_nil_of_length_eq_zero (ai (by omega) (by omega) (by omega))
          have e4 := List.eq_nil_of_length_eq_zero (bi (by omega) (by omega) (by omega))
          rw [n1, n2, e1, e2, e3, e4]
          simp [hk, all2]
  · have h1 : cmpN f a b ≠ 0 := by
      unfold cmpN
      rw [if_pos hk]
      exact fun e => hk (cmpI_zero _ _ e)
    have h2 : (headS a b && all2 g a.items b.items) = false := by simp [headS, hk]
    constructor
    · intro h; exact absurd h h1
    · intro h; rw [h2] at h; cases h

theorem eq_same : ∀ (d : Nat) (a b : VT), rpV d a = true → rpV d b = true → (cmpV d a b = 0 ↔ sameV d a b = true) := by
  intro d
  induction d with
  | zero =>
    intro a b ha hb
    have h := eq_core (f := fun _ _ => 0) (g := fun _ _ => true) ha hb (fun _ _ _ _ => by simp)
    have e : ∀ l m : List VT, all2 (fun _ _ => true) l m = true := by
      intro l
      induction l with
      | nil => intro m; rfl
      | cons x l ih => intro m; cases m with
        | nil => rfl
        | cons y m => simp [all2, ih]
    rw [e, Bool.and_true] at h
    exact h
  | succ d ih =>
    intro a b ha hb
    simp only [rpV, Bool.and_eq_true, List.all_eq_true] at ha hb
    exact eq_core ha.2 hb.2 (fun x hx y hy => ih x y (ha.1 x hx) (hb.1 y hy))

theorem right_same (d : Nat) (a b : VT) (ha : rightV d a = true) (hb : rightV d b = true) : (cmpV d a b == 0) = sameV d a b := by
  simp only [rightV, Bool.and_eq_true] at ha hb
  have h := eq_same d a b ha.2 hb.2
  rw [Bool.eq_iff_iff, beq_iff_eq]
  exact h

end Go.Proofs.Ytacnfmamjbmhcab

