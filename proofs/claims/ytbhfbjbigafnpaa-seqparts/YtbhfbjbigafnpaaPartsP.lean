/-
  The items of a seq, in plain words: what is taken, and then what is behind.
-/
import Derived.Test.YtbhfbjbigafnpaaRNthM
namespace Go.Proofs.Ytbhfbjbigafnpaa
open Go.RowKit Go.Shelf

theorem it_shift (f : VT → VT) (x : VT) : ∀ n, itT f n (f x) = itT f (n + 1) x
  | 0 => rfl
  | n + 1 => by
    show f (itT f n (f x)) = f (itT f (n + 1) x)
    rw [it_shift f x n]

/-- The item in a place. -/
def ith (vs : List VT) (T : Tl) (k : Nat) : Option VT :=
  match vs[k]? with
  | some x => some x
  | none => match T with
    | none => none
    | some (q, x) => some (itT (doneT q) (k - vs.length) x)

/-- The first items from a place on. -/
def firsts (g : Nat → Option VT) : Nat → Nat → List VT
  | 0, _ => []
  | n + 1, i => match g i with
    | none => []
    | some x => x :: firsts g n (i + 1)

theorem ith_more (vs : List VT) (q : Nat) (x : VT) (k : Nat) : ith (vs ++ [x]) (some (q, doneT q x)) k = ith vs (some (q, x)) k := by
  unfold ith
  by_cases h1 : k < vs.length
  · rw [List.getElem?_append_left h1, List.getElem?_eq_getElem h1]
  · by_cases h2 : k = vs.length
    · subst h2
      rw [List.getElem?_append_right (Nat.le_refl _), Nat.sub_self, List.getElem?_eq_none (Nat.le_refl _)]
      rfl
    · rw [List.getElem?_eq_none (by simp; omega), List.getElem?_eq_none (by omega)]
      simp only [List.length_append, List.length_cons, List.length_nil]
      rw [it_shift, show k - (vs.length + (0 + 1)) + 1 = k - vs.length by omega]

theorem ith_drop (vs : List VT) (T : Tl) (i k : Nat) (hi : i ≤ vs.length) : ith (vs.drop i) T k = ith vs T (i + k) := by
  unfold ith
  rw [List.getElem?_drop, List.length_drop, show i + k - vs.length = k - (vs.length - i) by omega]

theorem firsts_shift (g h : Nat → Option VT) (i : Nat) (e : ∀ k, h k = g (i + k)) : ∀ n j, firsts h n j = firsts g n (i + j)
  | 0, _ => rfl
  | n + 1, j => by
    unfold firsts
    rw [e j]
    cases g (i + j) with
    | none => rfl
    | some x => simp only; rw [firsts_shift g h i e n (j + 1)]; rfl

theorem firsts_both (g : Nat → Option VT) : ∀ n m i, firsts g (n + m) i = firsts g n i ++ firsts g m (i + (firsts g n i).length)
  | 0, m, i => by simp [firsts]
  | n + 1, m, i => by
    cases h : g i with
    | none =>
      have e : firsts g (n + 1) i = [] := by simp [firsts, h]
      rw [e]
      cases m with
      | zero => simp [firsts, h]
      | succ m =>
        rw [show n + 1 + (m + 1) = (n + 1 + m) + 1 by omega]
        simp [firsts, h]
    | some x =>
      have e : ∀ n, firsts g (n + 1) i = x :: firsts g n (i + 1) := fun n => by simp [firsts, h]
      rw [show n + 1 + m = (n + m) + 1 by omega, e, e, firsts_both g n m (i + 1)]
      simp only [List.cons_append, List.length_cons]
      rw [show i + 1 + (firsts g n (i + 1)).length = i + ((firsts g n (i + 1)).length + 1) by omega]

/-- With enough fuel a walk finds the first items. -/
theorem wlk_firsts : ∀ (n : Nat) (s : SS) (f : Nat), n ≤ f → s.i ≤ s.vs.length → (wlk frcC n s f).err = 0 ∧ (wlk frcC n s f).items = firsts (ith s.vs s.T) n s.i ∧ (∀ k, ith (wlk frcC n s f).s.vs (wlk frcC n s f).s.T k = ith s.vs s.T k) ∧ (wlk frcC n s f).s.i = s.i + (firsts (ith s.vs s.T) n s.i).length
  | 0, s, f, _, _ => ⟨rfl, rfl, fun _ => rfl, rfl⟩
  | n + 1, s, f, hf, hi => by
    rw [wlk_succ]
    obtain ⟨vs, T, i⟩ := s
    simp only at hi
    cases hx : vs[i]? with
    | some x =>
      have hil := list_lt hx
      have hth : ith vs T i = some x := by unfold ith; rw [hx]
      have hfr : frcC ⟨vs, T, i⟩ f = .item x f ⟨vs, T, i + 1⟩ := by unfold frcC; simp only [hx]
      obtain ⟨h1, h2, h3, h4⟩ := wlk_firsts n ⟨vs, T, i + 1⟩ f (by omega) (by simp only; omega)
      simp only at h2 h3 h4
      rw [hfr]
      refine ⟨h1, ?_, h3, ?_⟩
      · show [x] ++ (wlk frcC n ⟨vs, T, i + 1⟩ f).items = firsts (ith vs T) (n + 1) i
        rw [h2, firsts, hth]; rfl
      · show (wlk frcC n ⟨vs, T, i + 1⟩ f).s.i = i + (firsts (ith vs T) (n + 1) i).length
        rw [h4, firsts, hth]; simp only [List.length_cons]; omega
    | none =>
      match T with
      | none =>
        have hth : ith vs none i = none := by unfold ith; rw [hx]
        have hfr : frcC ⟨vs, none, i⟩ f = .emp f ⟨vs, none, i⟩ := by unfold frcC; simp only [hx]
        rw [hfr]
        refine ⟨rfl, ?_, fun _ => rfl, ?_⟩
        · show [] = firsts (ith vs none) (n + 1) i
          rw [firsts, hth]
        · show i = i + (firsts (ith vs none) (n + 1) i).length
          rw [firsts, hth]; rfl
      | some (q, x) =>
        have hil : i = vs.length := by
          have := List.getElem?_eq_none_iff.1 hx
          omega
        subst hil
        have hth : ith vs (some (q, x)) vs.length = some x := by unfold ith; rw [hx, Nat.sub_self]; rfl
        obtain ⟨f, rfl⟩ : ∃ f', f = f' + 1 := ⟨f - 1, by omega⟩
        have hfr : frcC ⟨vs, some (q, x), vs.length⟩ (f + 1) = .item x f ⟨vs ++ [x], some (q, doneT q x), vs.length + 1⟩ := by unfold frcC; simp only [hx]
        obtain ⟨h1, h2, h3, h4⟩ := wlk_firsts n ⟨vs ++ [x], some (q, doneT q x), vs.length + 1⟩ f (by omega) (by simp)
        have hg : ith (vs ++ [x]) (some (q, doneT q x)) = ith vs (some (q, x)) := funext (ith_more vs q x)
        simp only at h2 h3 h4
        rw [hg] at h2 h4
        rw [hfr]
        refine ⟨h1, ?_, fun k => (h3 k).trans (ith_more vs q x k), ?_⟩
        · show [x] ++ (wlk frcC n ⟨vs ++ [x], some (q, doneT q x), vs.length + 1⟩ f).items = firsts (ith vs (some (q, x))) (n + 1) vs.length
          rw [h2, firsts, hth]; rfl
        · show (wlk frcC n ⟨vs ++ [x], some (q, doneT q x), vs.length + 1⟩ f).s.i = vs.length + (firsts (ith vs (some (q, x))) (n + 1) vs.length).length
          rw [h4, firsts, hth]; simp only [List.length_cons]; omega

/-- What is taken of what is behind. -/
theorem parts_items (L : List VT) (T : Tl) (n m : Nat) (hn : n ≤ 200) (hm : m ≤ 200) (r1 r2 : WS SS) (h1 : r1 = wlk frcC n ⟨L, T, 0⟩ 1000) (h2 : r2 = wlk frcC n ⟨r1.s.vs, r1.s.T, 0⟩ 1000) (hi : r2.s.i ≤ r2.s.vs.length) :
    r1.err = 0 ∧ r2.err = 0 ∧ (wlk frcC m ⟨r2.s.vs.drop r2.s.i, r2.s.T, 0⟩ 1000).err = 0 ∧ (wlk frcC (n + m) ⟨L, T, 0⟩ 1000).err = 0 ∧ (wlk frcC (n + m) ⟨L, T, 0⟩ 1000).items = r1.items ++ (wlk frcC m ⟨r2.s.vs.drop r2.s.i, r2.s.T, 0⟩ 1000).items := by
  obtain ⟨a1, a2, a3, a4⟩ := wlk_firsts n ⟨L, T, 0⟩ 1000 (by omega) (Nat.zero_le _)
  rw [← h1] at a1 a2 a3 a4
  obtain ⟨b1, b2, b3, b4⟩ := wlk_firsts n ⟨r1.s.vs, r1.s.T, 0⟩ 1000 (by omega) (Nat.zero_le _)
  rw [← h2] at b1 b2 b3 b4
  obtain ⟨c1, c2, _, _⟩ := wlk_firsts m ⟨r2.s.vs.drop r2.s.i, r2.s.T, 0⟩ 1000 (by omega) (Nat.zero_le _)
  obtain ⟨d1, d2, _, _⟩ := wlk_firsts (n + m) ⟨L, T, 0⟩ 1000 (by omega) (Nat.zero_le _)
  have e1 : ith r1.s.vs r1.s.T = ith L T := funext a3
  simp only at a2 b3 b4 c2 d2
  rw [e1] at b4
  have e2 : ∀ k, ith r2.s.vs r2.s.T k = ith L T k := fun k => by rw [b3 k, e1]
  have e3 : ∀ k, ith (r2.s.vs.drop r2.s.i) r2.s.T k = ith L T ((firsts (ith L T) n 0).length + k) := fun k => by
    rw [ith_drop _ _ _ _ hi, e2, b4, Nat.zero_add]
  refine ⟨a1, b1, c1, d1, ?_⟩
  rw [d2, firsts_both, a2, c2, firsts_shift (ith L T) _ _ e3 m 0, Nat.zero_add, Nat.add_zero]

end Go.Proofs.Ytbhfbjbigafnpaa

