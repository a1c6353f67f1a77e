/-
  Trie order, plain: groups of two hashes, and that it is one line.
-/
import Derived.Test.YteldncblmoilkabOf
import Derived.Test.YteldncblmoilkabLine
import Derived.Laws.Strings
namespace Go.Proofs.Yteldncblmoilkab
open Go.RowKit

def chF (a b : Int) : Nat → Nat → Int
  | 0, _ => 0
  | n + 1, i => if cmpI (grpZ i a) (grpZ i b) = 0 then chF a b n (i + 1) else cmpI (grpZ i a) (grpZ i b)

/-- How two hashes stand, group by group. -/
def cmpH (a b : Int) : Int := chF a b 7 0

theorem chF_range (a b : Int) : ∀ n i, -1 ≤ chF a b n i ∧ chF a b n i ≤ 1 := by
  intro n
  induction n with
  | zero => intro i; exact ⟨by simp [chF], by simp [chF]⟩
  | succ n ih =>
    intro i
    unfold chF
    split
    · exact ih (i + 1)
    · unfold cmpI; split
      · omega
      · split <;> omega

theorem cmpI_turn' (a b : Int) : cmpI b a = - cmpI a b := by
  unfold cmpI
  repeat' split
  all_goals omega

theorem chF_turn (a b : Int) : ∀ n i, chF b a n i = - chF a b n i := by
  intro n
  induction n with
  | zero => intro i; rfl
  | succ n ih =>
    intro i
    unfold chF
    rw [cmpI_turn' (grpZ i a) (grpZ i b), ih]
    by_cases h : cmpI (grpZ i a) (grpZ i b) = 0
    · rw [if_pos h, if_pos (by omega)]
    · rw [if_neg h, if_neg (by omega)]

/-- Two orders one behind the other are one. -/
theorem goes_lex {α : Type} {f g : α → α → Int} (hf : Goes f) (hg : Goes g) : Goes (fun a b => if f a b = 0 then g a b else f a b) := by
  intro a b c h1 h2
  have k := hf a b c
  have l := hg a b c
  simp only at h1 h2 ⊢
  by_cases e1 : f a b = 0
  · rw [if_pos e1] at h1
    by_cases e2 : f b c = 0
    · rw [if_pos e2] at h2
      obtain ⟨k1, k2⟩ := k (by omega) (by omega)
      obtain ⟨l1, l2⟩ := l h1 h2
      by_cases e3 : f a c = 0
      · rw [if_pos e3, if_pos e1, if_pos e2]; exact ⟨l1, l2⟩
      · rw [if_neg e3, if_pos e1, if_pos e2]
        exact ⟨k1, fun h => absurd h e3⟩
    · rw [if_neg e2] at h2
      obtain ⟨k1, k2⟩ := k (by omega) h2
      have e3 : f a c ≠ 0 := fun h => e2 (k2 h).2
      rw [if_neg e3]
      exact ⟨k1, fun h => absurd h e3⟩
  · rw [if_neg e1] at h1
    have h2' : f b c ≤ 0 := by
      by_cases e2 : f b c = 0
      · omega
      · rw [if_neg e2] at h2; exact h2
    obtain ⟨k1, k2⟩ := k h1 h2'
    have e3 : f a c ≠ 0 := fun h => e1 (k2 h).1
    rw [if_neg e3]
    exact ⟨k1, fun h => absurd h e3⟩

theorem goes_chF : ∀ n i, Goes (fun a b => chF a b n i) := by
  intro n
  induction n with
  | zero => intro i a b c _ _; exact ⟨Int.le_refl _, fun _ => ⟨rfl, rfl⟩⟩
  | succ n ih =>
    intro i
    have h := goes_lex (f := fun a b => cmpI (grpZ i a) (grpZ i b)) (g := fun a b => chF a b n (i + 1)) (fun _ _ _ => goes_I _ _ _) (ih (i + 1))
    exact h

/-- Trie order of two trees with their hashes. -/
def trieZ (d : Nat) (k : Int) (A B : VT) : Int := if cmpH (ofZ d k A) (ofZ d k B) = 0 then cmpV d A B else cmpH (ofZ d k A) (ofZ d k B)

theorem goes_trie (d : Nat) (k : Int) : Goes (trieZ d k) :=
  goes_lex (f := fun A B => cmpH (ofZ d k A) (ofZ d k B)) (g := cmpV d) (fun _ _ _ => goes_chF 7 0 _ _ _) (goes_V d)

theorem trie_turn (d : Nat) (k : Int) (A B : VT) : trieZ d k B A = - trieZ d k A B := by
  unfold trieZ
  have h : cmpH (ofZ d k B) (ofZ d k A) = - cmpH (ofZ d k A) (ofZ d k B) := chF_turn _ _ 7 0
  rw [h, cmpV_turn d A B]
  by_cases e : cmpH (ofZ d k A) (ofZ d k B) = 0
  · rw [if_pos e, if_pos (by omega)]
  · rw [if_neg e, if_neg (by omega)]

theorem cmpH_self (a : Int) : cmpH a a = 0 := by have h : cmpH a a = - cmpH a a := chF_turn a a 7 0; omega

theorem cmpL_map {f : VT → VT → Int} {g : VT → Int} (h : ∀ x y, f x y = 0 → g x = g y) : ∀ (l m : List VT), cmpL f l m = 0 → l.map g = m.map g := by
  intro l
  induction l with
  | nil => intro m e; cases m with
    | nil => rfl
    | cons y m => simp [cmpL] at e
  | cons x l ih =>
    intro m e
    cases m with
    | nil => simp [cmpL] at e
    | cons y m =>
      unfold cmpL at e
      by_cases h0 : f x y = 0
      · rw [if_pos h0] at e
        rw [List.map_cons, List.map_cons, h x y h0, ih m e]
      · rw [if_neg h0] at e; exact absurd e h0

theorem bytes_eq {a b : ByteArray} (h : a.toList = b.toList) : a = b := by
  rw [ByteArray.toList_eq, ByteArray.toList_eq] at h
  obtain ⟨⟨x⟩⟩ := a
  obtain ⟨⟨y⟩⟩ := b
  simp only at h
  rw [h]

theorem cmpS_text {a b : ByteArray} (h : cmpS a b = 0) : a = b := by
  apply bytes_eq
  unfold cmpS at h
  cases h1 : Op.bytesLess a.toList b.toList
  · rw [h1] at h
    cases h2 : (a.toList == b.toList)
    · rw [h2] at h; simp at h
    · exact by simpa using h2
  · rw [h1] at h; simp at h

theorem fullN_eq {f : VT → VT → Int} {g : VT → Int} (h : ∀ x y, f x y = 0 → g x = g y) (A B : VT) (e : cmpN f A B = 0) : fullN g A = fullN g B := by
  unfold cmpN at e
  by_cases hk : A.kind = B.kind
  · rw [if_neg (by simp [hk])] at e
    unfold fullN
    rw [← hk]
    by_cases h1 : A.kind = 1
    · rw [if_pos (Or.inl h1)] at e
      rw [if_pos h1, if_pos h1, cmpI_zero _ _ e]
    · rw [if_neg h1, if_neg h1]
      by_cases h2 : A.kind = 2
      · rw [if_pos (Or.inr h2)] at e
        rw [if_pos h2, if_pos h2, cmpI_zero _ _ e]
      · rw [if_neg h2, if_neg h2]
        rw [if_neg (by omega)] at e
        by_cases h3 : A.kind = 3
        · rw [if_pos h3] at e
          rw [if_pos h3, if_pos h3, cmpS_text e]
        · rw [if_neg h3, if_neg h3]
          rw [if_neg h3] at e
          by_cases h4 : A.kind = 4 ∨ A.kind = 5 ∨ A.kind = 6
          · rw [if_pos h4] at e
            rw [cmpL_map h _ _ e]
          · rw [if_neg (by omega), if_neg (by omega), if_neg (by omega), if_neg (by omega), if_neg (by omega), if_neg (by omega)]
  · rw [if_pos hk] at e
    exact absurd (cmpI_zero _ _ e) hk

/-- Equal values have equal hashes. -/
theorem full_eq : ∀ (d : Nat) (A B : VT), cmpV d A B = 0 → fullZ d A = fullZ d B := by
  intro d
  induction d with
  | zero => intro A B e; exact fullN_eq (f := fun _ _ => 0) (g := fun _ => 0) (fun _ _ _ => rfl) A B e
  | succ d ih => intro A B e; exact fullN_eq ih A B e

theorem cmpH_any (a b : Int) (w : World) (ha : Word a) (hb : Word b) : Calls Try.prog 38 #[.int .u32 a, .int .u32 b] w fun e w' => e = .returned (.int .i64 (cmpH a b)) ∧ w' = w := by
  have HA : Hid (Word a) := ha
  have HB : Hid (Word b) := hb
  clear ha hb
  go_enter Try.func38, Try.ntmps38
  go_wp2_with fail
  go_loopg [7] 7 (fun k i wr => ∃ j : Nat, i = .int .i64 j ∧ j ≤ 7 ∧ k = 7 - j ∧ Hid (chF a b (7 - j) j = cmpH a b) ∧ wr = w)
  case atStart => exact ⟨0, rfl, by omega, rfl, rfl, rfl⟩
  case round =>
    obtain ⟨j, rfl, hj, hk, HC, rfl⟩ := hrel
    have Hk : Hid _ := hk
    clear hk
    by_cases hlt : j < 7
    · have Hst : Hid (chF a b (7 - j) j = if cmpI (grpZ j a) (grpZ j b) = 0 then chF a b (7 - (j + 1)) (j + 1) else cmpI (grpZ j a) (grpZ j b)) := by
        show _ = _
        rw [show 7 - j = 7 - (j + 1) + 1 by omega]
        rfl
      go_wp2_with fail
      refine (group_any a j _ (by omega) HA.out).mono ?_
      rintro e w1 ⟨rfl, rfl⟩
      go_wp2_with fail
      refine (group_any b j _ (by omega) HB.out).mono ?_
      rintro e w1 ⟨rfl, rfl⟩
      go_wp2_with fail
      refine (cmp_int _ _ _).mono ?_
      rintro e w1 ⟨rfl, rfl⟩
      by_cases hz : cmpI (grpZ j a) (grpZ j b) = 0
      · have h1 := Hst.out
        rw [if_pos hz] at h1
        have H1 : Hid (chF a b (7 - j) j = chF a b (7 - (j + 1)) (j + 1)) := h1
        rw [hz]
        clear h1 Hst hz
        go_wp2_with fail
        go_roundg (7 - (j + 1))
        case measure => have := Hk.out; omega
        case rel => exact ⟨j + 1, by go_num, by omega, rfl, H1.out.symm.trans HC.out, rfl⟩
      · have h1 := Hst.out
        rw [if_neg hz] at h1
        have H1 : Hid (cmpI (grpZ j a) (grpZ j b) = cmpH a b) := h1.symm.trans HC.out
        generalize cmpI (grpZ j a) (grpZ j b) = c at *
        have hz2 : (c != 0) = true := by simp [bne, hz]
        have hz3 : (c == 0) = false := by simp [hz]
        clear h1 Hst
        go_wp2_with fail
        go_ret
        rw [H1.out]
        exact ⟨rfl, rfl⟩
    · have hj7 : j = 7 := by omega
      have h1 := HC.out
      rw [hj7] at h1
      have H1 : Hid (0 = cmpH a b) := h1
      subst hj7
      clear h1 HC
      go_wp2_with fail
      go_ret
      rw [← H1.out]
      exact ⟨rfl, rfl⟩

end Go.Proofs.Yteldncblmoilkab
