/-
  The orders: plain mathematics. Each is one line.
-/
import Derived.Test.YtlmnkjnplaebgaaGreatRunesP
import Derived.Test.YtlmnkjnplaebgaaGreatParts
import Derived.Test.YtlmnkjnplaebgaaGreatWhole
import Derived.Test.YtlmnkjnplaebgaaGreatSameEq
import Derived.Test.YtlmnkjnplaebgaaGreatLine
namespace Go.Proofs.YtlmnkjnplaebgaaGreat
open Go.RowKit

/-- How far a number is from 0. -/
def farZ (n : Int) : Int := if n < 0 then IntKind.u64.wrap (-(IntKind.u64.wrap n)) else IntKind.u64.wrap n

/-- What an order measures of a value. -/
def msr (q : Nat) (t : VT) : Int :=
  if q = 2 then IntKind.u64.wrap (fullZ 16 t) else if q = 3 then IntKind.u64.wrap (cpV 16 t) else if q = 4 then runesZ t.text
  else if q = 5 then (if t.kind = 2 then farZ t.num else 0) else 0

/-- One comparison ahead of another one. -/
def lexI {α : Type} (f g : α → α → Int) (a b : α) : Int := if f a b ≠ 0 then f a b else g a b

/-- How two values with their measures stand by an order. -/
def ordM (q : Nat) (a b : VT) (m n : Int) : Int :=
  if q = 0 then cmpV 16 a b else if q = 1 then cmpV 16 b a
  else if 4 ≤ q ∧ a.kind ≠ b.kind then cmpV 16 a b
  else if cmpI m n ≠ 0 then cmpI m n else cmpV 16 a b

/-- How two values stand by an order. -/
def ordV (q : Nat) (a b : VT) : Int := ordM q a b (msr q a) (msr q b)

theorem ordM_three (q : Nat) (a b : VT) (m n : Int) : ordM q a b m n = -1 ∨ ordM q a b m n = 0 ∨ ordM q a b m n = 1 := by
  unfold ordM
  split
  · exact cmpV_three _ _ _
  · split
    · exact cmpV_three _ _ _
    · split
      · exact cmpV_three _ _ _
      · split
        · exact cmpI_three _ _
        · exact cmpV_three _ _ _

theorem ordM_range (q : Nat) (a b : VT) (m n : Int) : -1 ≤ ordM q a b m n ∧ ordM q a b m n ≤ 1 := by
  rcases ordM_three q a b m n with h | h | h <;> omega

theorem ordM_turn (q : Nat) (a b : VT) (m n : Int) : ordM q b a n m = - ordM q a b m n := by
  unfold ordM
  by_cases h0 : q = 0
  · rw [if_pos h0, if_pos h0]; exact cmpV_turn _ _ _
  · rw [if_neg h0, if_neg h0]
    by_cases h1 : q = 1
    · rw [if_pos h1, if_pos h1]; exact cmpV_turn _ _ _
    · rw [if_neg h1, if_neg h1]
      by_cases h4 : 4 ≤ q ∧ a.kind ≠ b.kind
      · rw [if_pos h4, if_pos ⟨h4.1, fun h => h4.2 h.symm⟩]; exact cmpV_turn _ _ _
      · rw [if_neg h4, if_neg (fun h => h4 ⟨h.1, fun e => h.2 e.symm⟩)]
        have ht := cmpI_turn m n
        by_cases hz : cmpI m n ≠ 0
        · rw [if_pos hz, if_pos (by omega)]; exact ht
        · rw [if_neg hz, if_neg (by omega)]; exact cmpV_turn _ _ _

theorem goes_lex {α : Type} {f g : α → α → Int} (hf : Goes f) (hg : Goes g) : Goes (lexI f g) := by
  intro a b c h1 h2
  unfold lexI at h1 h2 ⊢
  have k1 : f a b ≤ 0 := by
    by_cases h : f a b ≠ 0
    · rw [if_pos h] at h1; exact h1
    · omega
  have k2 : f b c ≤ 0 := by
    by_cases h : f b c ≠ 0
    · rw [if_pos h] at h2; exact h2
    · omega
  obtain ⟨k3, k4⟩ := hf a b c k1 k2
  by_cases h : f a c ≠ 0
  · rw [if_pos h]; exact ⟨k3, fun e => absurd e h⟩
  · rw [if_neg h]
    obtain ⟨e1, e2⟩ := k4 (by omega)
    rw [if_neg (by omega)] at h1 h2
    rw [if_neg (by omega), if_neg (by omega)]
    exact hg a b c h1 h2

theorem goes_by {α : Type} (m : α → Int) : Goes fun a b => cmpI (m a) (m b) := fun _ _ _ h1 h2 => goes_I _ _ _ h1 h2

theorem cmpV_kind (a b : VT) (h : a.kind ≠ b.kind) : cmpV 16 a b = cmpI a.kind b.kind := by
  show cmpN (cmpV 15) a b = _
  unfold cmpN
  rw [if_pos h]

theorem cmpI_same (a : Int) : cmpI a a = 0 := by unfold cmpI; rw [if_neg (by omega), if_neg (by omega)]

theorem cmpI_apart {a b : Int} (h : a ≠ b) : cmpI a b ≠ 0 := fun e => h (cmpI_zero a b e)

theorem ordV_goes (q : Nat) : Goes (ordV q) := by
  by_cases h0 : q = 0
  · have e : ordV q = cmpV 16 := by funext a b; unfold ordV ordM; rw [if_pos h0]
    rw [e]; exact goes_V 16
  · by_cases h1 : q = 1
    · have e : ordV q = fun a b => cmpV 16 b a := by funext a b; unfold ordV ordM; rw [if_neg h0, if_pos h1]
      rw [e]
      intro a b c k1 k2
      obtain ⟨k3, k4⟩ := goes_V 16 c b a k2 k1
      exact ⟨k3, fun e => ⟨(k4 e).2, (k4 e).1⟩⟩
    · by_cases h4 : 4 ≤ q
      · have e : ordV q = lexI (fun a b => cmpI a.kind b.kind) (lexI (fun a b => cmpI (msr q a) (msr q b)) (cmpV 16)) := by
          funext a b
          unfold ordV ordM lexI
          rw [if_neg h0, if_neg h1]
          by_cases hk : a.kind = b.kind
          · rw [if_neg (fun h => h.2 hk)]
            have e2 : (fun (a b : VT) => cmpI a.kind b.kind) a b = 0 := by show cmpI a.kind b.kind = 0; rw [hk]; exact cmpI_same _
            simp only [e2, ne_eq, not_true_eq_false, if_false]
          · rw [if_pos ⟨h4, hk⟩, if_pos (cmpI_apart hk)]; exact cmpV_kind a b hk
        rw [e]
        exact goes_lex (goes_by _) (goes_lex (goes_by _) (goes_V 16))
      · have e : ordV q = lexI (fun a b => cmpI (msr q a) (msr q b)) (cmpV 16) := by
          funext a b
          unfold ordV ordM lexI
          rw [if_neg h0, if_neg h1, if_neg (by omega)]
        rw [e]
        exact goes_lex (goes_by _) (goes_V 16)

theorem ordV_turn (q : Nat) (a b : VT) : ordV q b a = - ordV q a b := ordM_turn q a b _ _

theorem ordV_self (q : Nat) (a : VT) : ordV q a a = 0 := by have := ordV_turn q a a; omega

/-- Two right values are the same by an order just if they are equal. -/
theorem ordV_zero (q : Nat) {a b : VT} (ha : Good 16 a) (hb : Good 16 b) : ordV q a b = 0 ↔ cmpV 16 a b = 0 := by
  constructor
  · intro h
    unfold ordV ordM at h
    by_cases h0 : q = 0
    · rw [if_pos h0] at h; exact h
    · rw [if_neg h0] at h
      by_cases h1 : q = 1
      · rw [if_pos h1] at h; have := cmpV_turn 16 a b; omega
      · rw [if_neg h1] at h
        by_cases h4 : 4 ≤ q ∧ a.kind ≠ b.kind
        · rw [if_pos h4] at h; exact h
        · rw [if_neg h4] at h
          by_cases hz : cmpI (msr q a) (msr q b) ≠ 0
          · rw [if_pos hz] at h; exact absurd h hz
          · rw [if_neg hz] at h; exact h
  · intro h
    have e := good_eq ha hb h
    subst e
    exact ordV_self q a

theorem ordV_eq (q : Nat) {a b : VT} (ha : Good 16 a) (hb : Good 16 b) (h : ordV q a b = 0) : a = b := good_eq ha hb ((ordV_zero q ha hb).1 h)

end Go.Proofs.YtlmnkjnplaebgaaGreat
