/-
  The order of values is one line. Plain mathematics.
-/
import Derived.Test.YtaghmgeamhojbabGrow
namespace Go.Proofs.Ytaghmgeamhojbab
open Go.RowKit

/-- From one to the next: and the ends are the same only if all are. -/
def Goes {α : Type} (f : α → α → Int) : Prop := ∀ a b c, f a b ≤ 0 → f b c ≤ 0 → f a c ≤ 0 ∧ (f a c = 0 → f a b = 0 ∧ f b c = 0)

theorem goes_I : Goes cmpI := by
  intro a b c h1 h2
  unfold cmpI at *
  repeat' split at h1
  all_goals repeat' split at h2
  all_goals first | omega | (repeat' split) <;> omega

theorem goes_S : Goes cmpS := by
  intro a b c h1 h2
  unfold cmpS at *
  cases ab : Op.bytesLess a.toList b.toList
  · by_cases e1 : a.toList = b.toList
    · rw [e1] at *
      cases bc : Op.bytesLess b.toList c.toList
      · by_cases e2 : b.toList = c.toList
        · simp [e2]
        · simp [bc, e2] at h2
      · simp
    · simp [ab, e1] at h1
  · cases bc : Op.bytesLess b.toList c.toList
    · by_cases e2 : b.toList = c.toList
      · rw [← e2]; simp [ab]
      · simp [bc, e2] at h2
    · simp [bl_trans _ _ _ ab bc]

theorem goes_L {f : VT → VT → Int} (ht : ∀ a b, f b a = - f a b) (hf : Goes f) : ∀ l m n, cmpL f l m ≤ 0 → cmpL f m n ≤ 0 → cmpL f l n ≤ 0 ∧ (cmpL f l n = 0 → cmpL f l m = 0 ∧ cmpL f m n = 0) := by
  intro l
  induction l with
  | nil =>
    intro m n h1 h2
    cases m with
    | nil => cases n <;> simp [cmpL] at *
    | cons y m => cases n with
      | nil => simp [cmpL] at h2
      | cons z n => simp [cmpL]
  | cons x l ih =>
    intro m n h1 h2
    cases m with
    | nil => simp [cmpL] at h1
    | cons y m =>
      cases n with
      | nil => simp [cmpL] at h2
      | cons z n =>
        simp only [cmpL] at *
        by_cases e1 : f x y = 0
        · rw [if_pos e1] at h1
          by_cases e2 : f y z = 0
          · rw [if_pos e2] at h2
            have e3 : f x z = 0 := by
              have a1 := hf x y z (by omega) (by omega)
              have a2 := hf z y x (by have := ht y z; omega) (by have := ht x y; omega)
              have := ht x z
              omega
            rw [if_pos e3, if_pos e1, if_pos e2]
            exact ih m n h1 h2
          · rw [if_neg e2] at h2
            have a1 := hf x y z (by omega) h2
            have e3 : f x z ≠ 0 := fun e => e2 (a1.2 e).2
            rw [if_neg e3]
            exact ⟨a1.1, fun e => absurd e e3⟩
        · rw [if_neg e1] at h1
          have h2' : f y z ≤ 0 := by
            by_cases e2 : f y z = 0
            · omega
            · rw [if_neg e2] at h2; exact h2
          have a1 := hf x y z h1 h2'
          have e3 : f x z ≠ 0 := fun e => e1 (a1.2 e).1
          rw [if_neg e3]
          exact ⟨a1.1, fun e => absurd e e3⟩

theorem cmpI_zero (a b : Int) (h : cmpI a b = 0) : a = b := by
  unfold cmpI at h
  by_cases h1 : a < b
  · rw [if_pos h1] at h; omega
  · rw [if_neg h1] at h
    by_cases h2 : b < a
    · rw [if_pos h2] at h; omega
    · omega

theorem cmpI_ne (a b : Int) (h : a ≠ b) (h1 : cmpI a b ≤ 0) : a < b := by
  unfold cmpI at h1
  by_cases hl : a < b
  · exact hl
  · rw [if_neg hl, if_pos (by omega)] at h1; omega

def sameK (f : VT → VT → Int) (k : Int) (a b : VT) : Int :=
  if k = 1 ∨ k = 2 then cmpI a.num b.num else if k = 3 then cmpS a.text b.text else if k = 4 ∨ k = 5 ∨ k = 6 then cmpL f a.items b.items else 0

theorem cmpN_same (f : VT → VT → Int) (a b : VT) (h : a.kind = b.kind) : cmpN f a b = sameK f a.kind a b := by
  unfold cmpN sameK
  rw [if_neg (by simpa using h)]

theorem goes_N {f : VT → VT → Int} (ht : ∀ a b, f b a = - f a b) (hf : Goes f) : Goes (cmpN f) := by
  intro a b c h1 h2
  by_cases ab : a.kind = b.kind
  · by_cases bc : b.kind = c.kind
    · have ac : a.kind = c.kind := ab.trans bc
      rw [cmpN_same f a b ab] at h1 ⊢
      rw [cmpN_same f b c bc] at h2 ⊢
      rw [cmpN_same f a c ac]
      rw [ab] at h1 ⊢
      unfold sameK at *
      by_cases k1 : b.kind = 1 ∨ b.kind = 2
      · simp only [k1, if_true] at *; exact goes_I _ _ _ h1 h2
      · simp only [k1, if_false] at *
        by_cases k2 : b.kind = 3
        · simp only [k2, if_true] at *; exact goes_S _ _ _ h1 h2
        · simp only [k2, if_false] at *
          by_cases k3 : b.kind = 4 ∨ b.kind = 5 ∨ b.kind = 6
          · simp only [k3, if_true] at *; exact goes_L ht hf _ _ _ h1 h2
          · simp [k3]
    · have ac : a.kind ≠ c.kind := fun e => bc (ab.symm.trans e)
      unfold cmpN at h2 ⊢
      rw [if_pos bc] at h2
      rw [if_pos ac]
      have hlt := cmpI_ne _ _ bc h2
      have e1 : cmpI a.kind c.kind = -1 := if_pos (by omega)
      rw [e1]; exact ⟨by omega, fun e => by omega⟩
  · unfold cmpN at h1
    rw [if_pos ab] at h1
    have hlt := cmpI_ne _ _ ab h1
    have hbc : b.kind ≤ c.kind := by
      by_cases bc : b.kind = c.kind
      · omega
      · unfold cmpN at h2
        rw [if_pos bc] at h2
        have := cmpI_ne _ _ bc h2
        omega
    have ac : a.kind ≠ c.kind := by omega
    have e1 : cmpN f a c = -1 := by
      unfold cmpN
      rw [if_pos ac]
      exact if_pos (by omega)
    rw [e1]; exact ⟨by omega, fun e => by omega⟩

theorem goes_V : ∀ d, Goes (cmpV d) := by
  intro d
  induction d with
  | zero => exact goes_N (fun _ _ => rfl) (fun _ _ _ _ _ => ⟨Int.le_refl _, fun _ => ⟨rfl, rfl⟩⟩)
  | succ d ih => exact goes_N (cmpV_turn d) ih

end Go.Proofs.Ytaghmgeamhojbab

