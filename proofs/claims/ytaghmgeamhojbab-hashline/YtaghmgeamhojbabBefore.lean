/-
  The contracts of Before and Equal.
-/
import Derived.Test.YtaghmgeamhojbabOf
import Derived.Test.YtaghmgeamhojbabLine
import Derived.Laws.Strings
namespace Go.Proofs.Ytaghmgeamhojbab
open Go.RowKit

def chF (a b : Int) : Nat → Nat → Int
  | 0, _ => 0
  | n + 1, i => if cmpI (grpZ i a) (grpZ i b) = 0 then chF a b n (i + 1) else cmpI (grpZ i a) (grpZ i b)

/-- How two hashes stand, group by group. -/
def cmpH (a b : Int) : Int := chF a b 7 0

theorem cmpI_turn' (a b : Int) : cmpI b a = - cmpI a b := by
  unfold cmpI
  repeat' split
  all_goals omega

theorem chF_turn (a b : Int) : ∀ n i, chF b a n i = - chF a b n i := by
  intro n
  induction n with
  | zero => intro i; rfl
  | succ n ih =>
    intro i
    unfold chF
    rw [cmpI_turn' (grpZ i a) (grpZ i b), ih]
    by_cases h : cmpI (grpZ i a) (grpZ i b) = 0
    · rw [if_pos h, if_pos (by omega)]
    · rw [if_neg h, if_neg (by omega)]

/-- Two orders one behind the other are one. -/
theorem goes_lex {α : Type} {f g : α → α → Int} (hf : Goes f) (hg : Goes g) : Goes (fun a b => if f a b = 0 then g a b else f a b) := by
  intro a b c h1 h2
  have k := hf a b c
  have l := hg a b c
  simp only at h1 h2 ⊢
  by_cases e1 : f a b = 0
  · rw [if_pos e1] at h1
    by_cases e2 : f b c = 0
    · rw [if_pos e2] at h2
      obtain ⟨k1, k2⟩ := k (by omega) (by omega)
      obtain ⟨l1, l2⟩ := l h1 h2
      by_cases e3 : f a c = 0
      · rw [if_pos e3, if_pos e1, if_pos e2]; exact ⟨l1, l2⟩
      · rw [if_neg e3, if_pos e1, if_pos e2]
        exact ⟨k1, fun h => absurd h e3⟩
    · rw [if_neg e2] at h2
      obtain ⟨k1, k2⟩ := k (by omega) h2
      have e3 : f a c ≠ 0 := fun h => e2 (k2 h).2
      rw [if_neg e3]
      exact ⟨k1, fun h => absurd h e3⟩
  · rw [if_neg e1] at h1
    have h2' : f b c ≤ 0 := by
      by_cases e2 : f b c = 0
      · omega
      · rw [if_neg e2] at h2; exact h2
    obtain ⟨k1, k2⟩ := k h1 h2'
    have e3 : f a c ≠ 0 := fun h => e1 (k2 h).1
    rw [if_neg e3]
    exact ⟨k1, fun h => absurd h e3⟩

theorem goes_chF : ∀ n i, Goes (fun a b => chF a b n i) := by
  intro n
  induction n with
  | zero => intro i a b c _ _; exact ⟨Int.le_refl _, fun _ => ⟨rfl, rfl⟩⟩
  | succ n ih =>
    intro i
    have h := goes_lex (f := fun a b => cmpI (grpZ i a) (grpZ i b)) (g := fun a b => chF a b n (i + 1)) (fun _ _ _ => goes_I _ _ _) (ih (i + 1))
    exact h

/-- Trie order of two trees with their hashes. -/
def trieZ (d : Nat) (k : Int) (A B : VT) : Int := if cmpH (ofZ d k A) (ofZ d k B) = 0 then cmpV d A B else cmpH (ofZ d k A) (ofZ d k B)

theorem goes_trie (d : Nat) (k : Int) : Goes (trieZ d k) :=
  goes_lex (f := fun A B => cmpH (ofZ d k A) (ofZ d k B)) (g := cmpV d) (fun _ _ _ => goes_chF 7 0 _ _ _) (goes_V d)

theorem trie_turn (d : Nat) (k : Int) (A B : VT) : trieZ d k B A = - trieZ d k A B := by
  unfold trieZ
  have h : cmpH (ofZ d k B) (ofZ d k A) = - cmpH (ofZ d k A) (ofZ d k B) := chF_turn _ _ 7 0
  rw [h, cmpV_turn d A B]
  by_cases e : cmpH (ofZ d k A) (ofZ d k B) = 0
  · rw [if_pos e, if_pos (by omega)]
  · rw [if_neg e, if_neg (by omega)]

theorem cmpH_self (a : Int) : cmpH a a = 0 := by have h : cmpH a a = - cmpH a a := chF_turn a a 7 0; omega

theorem cmpL_map {f : VT → VT → Int} {g : VT → Int} (h : ∀ x y, f x y = 0 → g x = g y) : ∀ (l m : List VT), cmpL f l m = 0 → l.map g = m.map g := by
  intro l
  induction l with
  | nil => intro m e; cases m with
    | nil => rfl
    | cons y m => simp [cmpL] at e
  | cons x l ih =>
    intro m e
    cases m with
    | nil => simp [cmpL] at e
    | cons y m =>
      unfold cmpL at e
      by_cases h0 : f x y = 0
      · rw [if_pos h0] at e
        rw [List.map_cons, List.map_cons, h x y h0, ih m e]
      · rw [if_neg h0] at e; exact absurd e h0

theorem bytes_eq {a b : ByteArray} (h : a.toList = b.toList) : a = b := by
  rw [ByteArray.toList_eq, ByteArray.toList_eq] at h
  obtain ⟨⟨x⟩⟩ := a
  obtain ⟨⟨y⟩⟩ := b
  simp only at h
  rw [h]

theorem cmpS_text {a b : ByteArray} (h : cmpS a b = 0) : a = b := by
  apply bytes_eq
  unfold cmpS at h
  cases h1 : Op.bytesLess a.toList b.toList
  · rw [h1] at h
    cases h2 : (a.toList == b.toList)
    · rw [h2] at h; simp at h
    · exact by simpa using h2
  · rw [h1] at h; simp at h

theorem fullN_eq {f : VT → VT → Int} {g : VT → Int} (h : ∀ x y, f x y = 0 → g x = g y) (A B : VT) (e : cmpN f A B = 0) : fullN g A = fullN g B := by
  unfold cmpN at e
  by_cases hk : A.kind = B.kind
  · rw [if_neg (by simp [hk])] at e
    unfold fullN
    rw [← hk]
    by_cases h1 : A.kind = 1
    · rw [if_pos (Or.inl h1)] at e
      rw [if_pos h1, if_pos h1, cmpI_zero _ _ e]
    · rw [if_neg h1, if_neg h1]
      by_cases h2 : A.kind = 2
      · rw [if_pos (Or.inr h2)] at e
        rw [if_pos h2, if_pos h2, cmpI_zero _ _ e]
      · rw [if_neg h2, if_neg h2]
        rw [if_neg (by omega)] at e
        by_cases h3 : A.kind = 3
        · rw [if_pos h3] at e
          rw [if_pos h3, if_pos h3, cmpS_text e]
        · rw [if_neg h3, if_neg h3]
          rw [if_neg h3] at e
          by_cases h4 : A.kind = 4 ∨ A.kind = 5 ∨ A.kind = 6
          · rw [if_pos h4] at e
            rw [cmpL_map h _ _ e]
          · rw [if_neg (by omega), if_neg (by omega), if_neg (by omega), if_neg (by omega), if_neg (by omega), if_neg (by omega)]
  · rw [if_pos hk] at e
    exact absurd (cmpI_zero _ _ e) hk

/-- Equal values have equal hashes. -/
theorem full_eq : ∀ (d : Nat) (A B : VT), cmpV d A B = 0 → fullZ d A = fullZ d B := by
  intro d
  induction d with
  | zero => intro A B e; exact fullN_eq (f := fun _ _ => 0) (g := fun _ => 0) (fun _ _ _ => rfl) A B e
  | succ d ih => intro A B e; exact fullN_eq ih A B e

theorem cmpH_any (a b : Int) (w : World) (ha : Word a) (hb : Word b) : Calls Try.prog 38 #[.int .u32 a, .int .u32 b] w fun e w' => e = .returned (.int .i64 (cmpH a b)) ∧ w' = w := by
  have HA : Hid (Word a) := ha
  have HB : Hid (Word b) := hb
  clear ha hb
  go_enter Try.func38, Try.ntmps38
  go_wp2_with fail
  go_loopg [7] 7 (fun k i wr => ∃ j : Nat, i = .int .i64 j ∧ j ≤ 7 ∧ k = 7 - j ∧ Hid (chF a b (7 - j) j = cmpH a b) ∧ wr = w)
  case atStart => exact ⟨0, rfl, by omega, rfl, rfl, rfl⟩
  case round =>
    obtain ⟨j, rfl, hj, hk, HC, rfl⟩ := hrel
    have Hk : Hid _ := hk
    clear hk
    by_cases hlt : j < 7
    · have Hst : Hid (chF a b (7 - j) j = if cmpI (grpZ j a) (grpZ j b) = 0 then chF a b (7 - (j + 1)) (j + 1) else cmpI (grpZ j a) (grpZ j b)) := by
        show _ = _
        rw [show 7 - j = 7 - (j + 1) + 1 by omega]
        rfl
      go_wp2_with fail
      refine (group_any a j _ (by omega) HA.out).mono ?_
      rintro e w1 ⟨rfl, rfl⟩
      go_wp2_with fail
      refine (group_any b j _ (by omega) HB.out).mono ?_
      rintro e w1 ⟨rfl, rfl⟩
      go_wp2_with fail
      refine (cmp_int _ _ _).mono ?_
      rintro e w1 ⟨rfl, rfl⟩
      by_cases hz : cmpI (grpZ j a) (grpZ j b) = 0
      · have h1 := Hst.out
        rw [if_pos hz] at h1
        have H1 : Hid (chF a b (7 - j) j = chF a b (7 - (j + 1)) (j + 1)) := h1
        rw [hz]
        clear h1 Hst hz
        go_wp2_with fail
        go_roundg (7 - (j + 1))
        case measure => have := Hk.out; omega
        case rel => exact ⟨j + 1, by go_num, by omega, rfl, H1.out.symm.trans HC.out, rfl⟩
      · have h1 := Hst.out
        rw [if_neg hz] at h1
        have H1 : Hid (cmpI (grpZ j a) (grpZ j b) = cmpH a b) := h1.symm.trans HC.out
        generalize cmpI (grpZ j a) (grpZ j b) = c at *
        have hz2 : (c != 0) = true := by simp [bne, hz]
        have hz3 : (c == 0) = false := by simp [hz]
        clear h1 Hst
        go_wp2_with fail
        go_ret
        rw [H1.out]
        exact ⟨rfl, rfl⟩
    · have hj7 : j = 7 := by omega
      have h1 := HC.out
      rw [hj7] at h1
      have H1 : Hid (0 = cmpH a b) := h1
      subst hj7
      clear h1 HC
      go_wp2_with fail
      go_ret
      rw [← H1.out]
      exact ⟨rfl, rfl⟩

end Go.Proofs.Ytaghmgeamhojbab

namespace Go.Proofs.Ytaghmgeamhojbab
open Go.RowKit

def befE (d : Nat) (k : Int) (A B : VT) : Int := if ofE d k A = 0 then ofE d k B else ofE d k A
def befB (d : Nat) (k : Int) (A B : VT) : Bool := decide (ofE d k A = 0) && (decide (ofE d k B = 0) && decide (trieZ d k A B < 0))

theorem word_of (d : Nat) (k : Int) (t : VT) : Word (ofZ d k t) := by
  have h0 : Word 0 := by unfold Word; omega
  unfold ofZ
  split
  · have hw := word_full d t
    unfold cutZ
    split
    · exact hw
    · split
      · obtain ⟨_, p2, p3⟩ := pow_small k.toNat (by assumption)
        have := Int.emod_nonneg (fullZ d t) (show (2 : Int) ^ k.toNat ≠ 0 by omega)
        have := Int.emod_lt_of_pos (fullZ d t) p2
        unfold Word; omega
      · split
        · exact h0
        · have h1 : 0 < (2 : Int) ^ (64 - k.toNat) := by rw [← pow_nat]; have : 0 < 2 ^ (64 - k.toNat) := Nat.pow_pos (by omega); omega
          have h2 : 0 ≤ fullZ d t / 2 ^ (64 - k.toNat) := Int.ediv_nonneg hw.1 (by omega)
          have h3 : fullZ d t / 2 ^ (64 - k.toNat) * 2 ^ (64 - k.toNat) ≤ fullZ d t := Int.ediv_mul_le _ (by omega)
          have h4 : 0 ≤ fullZ d t / 2 ^ (64 - k.toNat) * 2 ^ (64 - k.toNat) := Int.mul_nonneg h2 (by omega)
          have := hw.2
          exact ⟨h4, by omega⟩
  · exact h0

theorem tup_eq {a b : Bool} {c d : Int} (h : a = b) (k : c = d) : Ending.returned (.tuple #[.bool a, .int .i64 c]) = .returned (.tuple #[.bool b, .int .i64 d]) := by rw [h, k]

set_option maxHeartbeats 2000000 in
theorem before_any (d : Nat) (k : Int) (A B : VT) (x y : Value) (w : World) (hx : Lies d w A.items x) (hy : Lies d w B.items y) (sA : A.text.size ≤ 9223372036854775807) (sB : B.text.size ≤ 9223372036854775807) :
    Calls Try.prog 22 #[.int .i64 k, .agg #[.int .i64 A.kind, .int .i64 A.num, .string A.text, x], .agg #[.int .i64 B.kind, .int .i64 B.num, .string B.text, y]] w fun e w' => e = .returned (.tuple #[.bool (befB d k A B), .int .i64 (befE d k A B)]) ∧ Below w.heap.size w w' := by
  obtain ⟨ax, cx, rfl, _⟩ := Lies.slice hx
  obtain ⟨ay, cy, rfl, _⟩ := Lies.slice hy
  have HX : Hid (Lies d w A.items (.slice ax A.items.length cx)) := hx
  have HY : Hid (Lies d w B.items (.slice ay B.items.length cy)) := hy
  clear hx hy
  have hal : Below w.heap.size w ((w.alloc (.cells #[.int .i64 A.kind, .int .i64 A.num, .string A.text, .slice ax A.items.length cx] 24)).alloc (.cells #[.int .i64 B.kind, .int .i64 B.num, .string B.text, .slice ay B.items.length cy] 24)) := (Grew.two w _ _).below
  have K1 : Hid (Boxed ((w.alloc (.cells #[.int .i64 A.kind, .int .i64 A.num, .string A.text, .slice ax A.items.length cx] 24)).alloc (.cells #[.int .i64 B.kind, .int .i64 B.num, .string B.text, .slice ay B.items.length cy] 24)) w.heap.size A.kind A.num A.text (.slice ax A.items.length cx)) := (boxed_alloc w _ _ _ _ 24).keeps ((Grew.refl _).alloc _).below
  have K2 : Hid (Boxed ((w.alloc (.cells #[.int .i64 A.kind, .int .i64 A.num, .string A.text, .slice ax A.items.length cx] 24)).alloc (.cells #[.int .i64 B.kind, .int .i64 B.num, .string B.text, .slice ay B.items.length cy] 24)) (w.heap.size + 1) B.kind B.num B.text (.slice ay B.items.length cy)) := by
    have := boxed_alloc (w.alloc (.cells #[.int .i64 A.kind, .int .i64 A.num, .string A.text, .slice ax A.items.length cx] 24)) B.kind B.num B.text (.slice ay B.items.length cy) 24
    show Boxed _ _ _ _ _ _
    simpa using this
  go_enter Try.func22, Try.ntmps22
  go_wp2_with fail
  refine (of_any d k A _ _ (Lies.keeps hal _ _ _ HX.out) sA).mono ?_
  rintro e w1 ⟨rfl, hg⟩
  have hb1 : Below w.heap.size w w1 := hal.trans (hg.mono hal.size)
  have J1 : Hid (Boxed w1 w.heap.size A.kind A.num A.text (.slice ax A.items.length cx)) := K1.out.keeps hg
  have J2 : Hid (Boxed w1 (w.heap.size + 1) B.kind B.num B.text (.slice ay B.items.length cy)) := K2.out.keeps hg
  clear hg K1 K2
  obtain ⟨x0, x1, x2, x3⟩ := J1.out
  obtain ⟨y0, y1, y2, y3⟩ := J2.out
  by_cases hea : ofE d k A = 0
  · have hbe : Hid (befE d k A B = ofE d k B) := by show _ = _; unfold befE; rw [if_pos hea]
    have hbb : Hid (befB d k A B = (decide (ofE d k B = 0) && decide (trieZ d k A B < 0))) := by show _ = _; unfold befB; rw [hea]; rfl
    rw [hea]
    clear hea
    go_wp2_with fail
    clear x0 x1 x2 x3 y0 y1 y2 y3
    refine (of_any d k B _ _ (Lies.keeps hb1 _ _ _ HY.out) sB).mono ?_
    rintro e w2 ⟨rfl, hg⟩
    have hb2 : Below w.heap.size w w2 := hb1.trans (hg.mono hb1.size)
    have I1 : Hid (Boxed w2 w.heap.size A.kind A.num A.text (.slice ax A.items.length cx)) := J1.out.keeps hg
    have I2 : Hid (Boxed w2 (w.heap.size + 1) B.kind B.num B.text (.slice ay B.items.length cy)) := J2.out.keeps hg
    clear hg J1 J2 hb1
    obtain ⟨x0, x1, x2, x3⟩ := I1.out
    obtain ⟨y0, y1, y2, y3⟩ := I2.out
    by_cases heb : ofE d k B = 0
    · have hbe2 : Hid (befE d k A B = 0) := hbe.out.trans heb
      have hbb2 : Hid (befB d k A B = decide (trieZ d k A B < 0)) := by show _ = _; rw [hbb.out, heb]; rfl
      rw [heb]
      clear heb hbe hbb
      go_wp2_with fail
      refine (cmpH_any _ _ _ (word_of d k A) (word_of d k B)).mono ?_
      rintro e w3 ⟨rfl, rfl⟩
      by_cases hz : cmpH (ofZ d k A) (ofZ d k B) = 0
      · have hT : Hid (trieZ d k A B = cmpV d A B) := by show _ = _; unfold trieZ; rw [if_pos hz]
        rw [hz]
        clear hz
        go_wp2_with fail
        clear x0 x1 x2 x3 y0 y1 y2 y3
        refine (compare_any d A B _ _ _ (Lies.keeps hb2 _ _ _ HX.out) (Lies.keeps hb2 _ _ _ HY.out)).mono ?_
        rintro e w4 ⟨rfl, hg⟩
        have hb4 : Below w.heap.size w w4 := hb2.trans (hg.below.mono hb2.size)
        clear hg hb2
        go_wp2_with fail
        go_ret2
        exact ⟨tup_eq (by rw [hbb2.out, hT.out]) hbe2.out.symm, hb4⟩
      · have hT : Hid (trieZ d k A B = cmpH (ofZ d k A) (ofZ d k B)) := by show _ = _; unfold trieZ; rw [if_neg hz]
        generalize cmpH (ofZ d k A) (ofZ d k B) = c at *
        have hz2 : (c != 0) = true := by simp [bne, hz]
        have hz3 : (c == 0) = false := by simp [hz]
        go_wp2_with fail
        go_ret2
        exact ⟨tup_eq (by rw [hbb2.out, hT.out]) hbe2.out.symm, hb2⟩
    · have hbb2 : Hid (befB d k A B = false) := by show _ = _; rw [hbb.out]; simp [heb]
      generalize ofE d k B = c at *
      have hz2 : (c != 0) = true := by simp [bne, heb]
      have hz3 : (c == 0) = false := by simp [heb]
      go_wp2_with fail
      go_ret2
      exact ⟨tup_eq hbb2.out.symm hbe.out.symm, hb2⟩
  · have hbe : Hid (befE d k A B = ofE d k A) := by show _ = _; unfold befE; rw [if_neg hea]
    have hbb : Hid (befB d k A B = false) := by show _ = _; unfold befB; simp [hea]
    generalize ofE d k A = c at *
    have hz2 : (c != 0) = true := by simp [bne, hea]
    have hz3 : (c == 0) = false := by simp [hea]
    go_wp2_with fail
    go_ret2
    exact ⟨tup_eq hbb.out.symm hbe.out.symm, hb1⟩

set_option maxHeartbeats 1000000 in
theorem equal_any (d : Nat) (t s : VT) (x y : Value) (w : World) (hx : Lies d w t.items x) (hy : Lies d w s.items y) :
    Calls Try.prog 24 #[.agg #[.int .i64 t.kind, .int .i64 t.num, .string t.text, x], .agg #[.int .i64 s.kind, .int .i64 s.num, .string s.text, y]] w fun e w' => e = .returned (.bool (cmpV d t s == 0)) ∧ Grew w w' := by
  obtain ⟨ax, cx, rfl, _⟩ := Lies.slice hx
  obtain ⟨ay, cy, rfl, _⟩ := Lies.slice hy
  have hx : Hid _ := hx
  have hy : Hid _ := hy
  go_enter Try.func24, Try.ntmps24
  go_wp2_with fail
  refine (compare_any d t s _ _ _ (Lies.keeps (Grew.two _ _ _).below _ _ _ hx.out) (Lies.keeps (Grew.two _ _ _).below _ _ _ hy.out)).mono ?_
  rintro e w1 ⟨rfl, hb⟩
  go_wp2_with fail
  go_ret
  exact ⟨rfl, (Grew.two _ _ _).trans hb⟩

end Go.Proofs.Ytaghmgeamhojbab

