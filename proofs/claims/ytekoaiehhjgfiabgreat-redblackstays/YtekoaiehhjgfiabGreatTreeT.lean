/-
  Red-black trees, plain: cut by places; what with and without hold.
-/
import Derived.Test.YtekoaiehhjgfiabGreatTreeP
namespace Go.Proofs.YtekoaiehhjgfiabGreat
open Go.RowKit

namespace RT
variable {α : Type}

theorem Well.left {c : Bool} {l r : RT α} {x : α} (h : Well (.node c l x r)) : Well l := by
  obtain ⟨hn, n, m, _, hl, _⟩ := h
  exact ⟨hn.2.1, m, hl⟩

theorem Well.right {c : Bool} {l r : RT α} {x : α} (h : Well (.node c l x r)) : Well r := by
  obtain ⟨hn, n, m, _, _, hr⟩ := h
  exact ⟨hn.2.2, m, hr⟩

/-- The trees ahead of what is looked for, and behind it. -/
def split (at_ : α → Int) : RT α → RT α × RT α
  | .nil => (.nil, .nil)
  | .node _ l x r => if at_ x < 0 then ((split at_ l).1, join (split at_ l).2 x r) else if 0 < at_ x then (join l x (split at_ r).1, (split at_ r).2) else (l, r)

/-- What is looked for stands in one place: behind what is not ahead of it all is behind it. -/
def Falls (at_ : α → Int) (l : List α) : Prop := l.Pairwise (fun a b => at_ a ≤ 0 → at_ b < 0)

theorem split_well (at_ : α → Int) : ∀ (t : RT α), Well t → Well (split at_ t).1 ∧ Well (split at_ t).2
  | .nil, h => ⟨h, h⟩
  | .node c l x r, h => by
    have hl := split_well at_ l h.left
    have hr := split_well at_ r h.right
    unfold split
    split
    · exact ⟨hl.1, join_well x hl.2 h.right⟩
    · split
      · exact ⟨join_well x h.left hr.1, hr.2⟩
      · exact ⟨h.left, h.right⟩

theorem split_items (at_ : α → Int) : ∀ (t : RT α), Falls at_ (items t) → items (split at_ t).1 = (items t).filter (fun a => decide (0 < at_ a)) ∧ items (split at_ t).2 = (items t).filter (fun a => decide (at_ a < 0))
  | .nil, _ => ⟨rfl, rfl⟩
  | .node c l x r, h => by
    have h' : (items l ++ x :: items r).Pairwise (fun a b => at_ a ≤ 0 → at_ b < 0) := h
    obtain ⟨h1, h2, h3⟩ := List.pairwise_append.1 h'
    obtain ⟨h4, h5⟩ := List.pairwise_cons.1 h2
    have il := split_items at_ l h1
    have ir := split_items at_ r h5
    unfold split
    show items _ = (items l ++ x :: items r).filter _ ∧ items _ = (items l ++ x :: items r).filter _
    rw [List.filter_append, List.filter_append, List.filter_cons, List.filter_cons]
    by_cases hx : at_ x < 0
    · have e1 : (items r).filter (fun a => decide (0 < at_ a)) = [] := List.filter_eq_nil_iff.2 fun b hb => by have := h4 b hb (by omega); simp; omega
      have e2 : (items r).filter (fun a => decide (at_ a < 0)) = items r := List.filter_eq_self.2 fun b hb => by have := h4 b hb (by omega); simpa using this
      rw [if_pos hx, e1, e2]
      simp only [join_items, il.1, il.2, hx, decide_true, if_true]
      rw [if_neg (by simp; omega)]
      simp
    · rw [if_neg hx]
      have e1 : (items l).filter (fun a => decide (0 < at_ a)) = items l := List.filter_eq_self.2 fun a ha => by
        by_cases h0 : 0 < at_ a
        · simpa using h0
        · exact absurd (h3 a ha x List.mem_cons_self (by omega)) hx
      have e2 : (items l).filter (fun a => decide (at_ a < 0)) = [] := List.filter_eq_nil_iff.2 fun a ha => by
        have h9 := List.filter_eq_self.1 e1 a ha
        simp at h9 ⊢
        omega
      by_cases hp : 0 < at_ x
      · rw [if_pos hp, e1, e2]
        simp only [join_items, ir.1, ir.2]
        simp [hp, hx]
      · rw [if_neg hp, e1, e2]
        have hz : at_ x = 0 := by omega
        have e3 : (items r).filter (fun a => decide (0 < at_ a)) = [] := List.filter_eq_nil_iff.2 fun b hb => by have := h4 b hb (by omega); simp; omega
        have e4 : (items r).filter (fun a => decide (at_ a < 0)) = items r := List.filter_eq_self.2 fun b hb => by have := h4 b hb (by omega); simpa using this
        rw [e3, e4]
        simp [hz]

/-- A tree without its last item, and that one. -/
def cutLast (l : RT α) (x : α) : RT α → RT α × α
  | .nil => (l, x)
  | .node _ l2 x2 r2 => (join l x (cutLast l2 x2 r2).1, (cutLast l2 x2 r2).2)

theorem cutLast_items : ∀ (r : RT α) (l : RT α) (x : α), items (cutLast l x r).1 ++ [(cutLast l x r).2] = items l ++ x :: items r
  | .nil, _, _ => rfl
  | .node _ l2 x2 r2, l, x => by
    show items (join l x (cutLast l2 x2 r2).1) ++ [(cutLast l2 x2 r2).2] = _
    rw [join_items, List.append_assoc, List.cons_append, cutLast_items r2 l2 x2]
    rfl

theorem cutLast_well : ∀ (r : RT α) (l : RT α) (x : α), Well l → Well r → Well (cutLast l x r).1
  | .nil, _, _, hl, _ => hl
  | .node _ l2 x2 r2, _, x, hl, hr => join_well x hl (cutLast_well r2 l2 x2 hr.left hr.right)

def together : RT α → RT α → RT α
  | .nil, r => r
  | .node _ a x b, r => join (cutLast a x b).1 (cutLast a x b).2 r

theorem together_items (l r : RT α) : items (together l r) = items l ++ items r := by
  cases l with
  | nil => rfl
  | node c a x b =>
    show items (join _ _ r) = _
    rw [join_items]
    have h := cutLast_items b a x
    show _ = (items a ++ x :: items b) ++ items r
    rw [← h]
    simp

theorem together_well {l r : RT α} (hl : Well l) (hr : Well r) : Well (together l r) := by
  cases l with
  | nil => exact hr
  | node c a x b => exact join_well _ (cutLast_well b a x hl.left hl.right) hr

def with_ (at_ : α → Int) (x : α) (t : RT α) : RT α := join (split at_ t).1 x (split at_ t).2
def without (at_ : α → Int) (t : RT α) : RT α := together (split at_ t).1 (split at_ t).2

theorem with_well (at_ : α → Int) (x : α) {t : RT α} (h : Well t) : Well (with_ at_ x t) := join_well x (split_well at_ t h).1 (split_well at_ t h).2
theorem without_well (at_ : α → Int) {t : RT α} (h : Well t) : Well (without at_ t) := together_well (split_well at_ t h).1 (split_well at_ t h).2

theorem with_items (at_ : α → Int) (x : α) (t : RT α) (h : Falls at_ (items t)) : items (with_ at_ x t) = (items t).filter (fun a => decide (0 < at_ a)) ++ x :: (items t).filter (fun a => decide (at_ a < 0)) := by
  unfold with_
  rw [join_items, (split_items at_ t h).1, (split_items at_ t h).2]

theorem without_items (at_ : α → Int) (t : RT α) (h : Falls at_ (items t)) : items (without at_ t) = (items t).filter (fun a => decide (0 < at_ a)) ++ (items t).filter (fun a => decide (at_ a < 0)) := by
  unfold without
  rw [together_items, (split_items at_ t h).1, (split_items at_ t h).2]

theorem size_items : ∀ (t : RT α), size t = (items t).length
  | .nil => rfl
  | .node _ l x r => by
    show size l + 1 + size r = (items l ++ x :: items r).length
    rw [size_items l, size_items r, List.length_append, List.length_cons]
    omega

end RT

end Go.Proofs.YtekoaiehhjgfiabGreat

namespace Go.Proofs.YtekoaiehhjgfiabGreat
open Go.RowKit

namespace RT
variable {α : Type}

/-- A tree of a list with so many full levels. -/
def grownOver : Nat → List α → RT α
  | 0, [] => .nil
  | 0, x :: _ => .node true .nil x .nil
  | f + 1, l => match l.drop (l.length / 2) with
    | [] => .nil
    | x :: r => .node false (grownOver f (l.take (l.length / 2))) x (grownOver f r)

theorem grownOver_items : ∀ (f : Nat) (l : List α), l.length + 1 ≤ 2 ^ (f + 1) → items (grownOver f l) = l
  | 0, [], _ => rfl
  | 0, [x], _ => rfl
  | 0, x :: y :: l, h => by simp at h
  | f + 1, l, h => by
    unfold grownOver
    have hp : (2 : Nat) ^ (f + 1 + 1) = 2 * 2 ^ (f + 1) := by rw [Nat.pow_succ]; omega
    have ht := List.take_append_drop (l.length / 2) l
    have hd : (l.drop (l.length / 2)).length = l.length - l.length / 2 := List.length_drop
    split
    · next e =>
      rw [e] at hd
      have h0 : l.length = 0 := by simp at hd; omega
      rw [List.length_eq_zero_iff.1 h0]
      rfl
    · next x r e =>
      rw [e] at hd ht
      have hr : r.length + 1 = l.length - l.length / 2 := by simpa using hd
      show items (grownOver f _) ++ x :: items (grownOver f r) = l
      rw [grownOver_items f _ (by rw [List.length_take]; omega), grownOver_items f r (by omega)]
      exact ht

theorem grownOver_keeps : ∀ (f : Nat) (l : List α), 2 ^ f ≤ l.length + 1 → l.length + 1 ≤ 2 ^ (f + 1) → BH (grownOver f l) f ∧ NR (grownOver f l)
  | 0, [], _, _ => ⟨rfl, trivial⟩
  | 0, _ :: _, _, _ => ⟨⟨0, rfl, rfl, rfl⟩, fun _ => ⟨rfl, rfl⟩, trivial, trivial⟩
  | f + 1, l, h1, h2 => by
    unfold grownOver
    have hp : (2 : Nat) ^ (f + 1 + 1) = 2 * 2 ^ (f + 1) := by rw [Nat.pow_succ]; omega
    have hq : (2 : Nat) ^ (f + 1) = 2 * 2 ^ f := by rw [Nat.pow_succ]; omega
    have h3 : 0 < (2 : Nat) ^ f := Nat.two_pow_pos f
    have hd : (l.drop (l.length / 2)).length = l.length - l.length / 2 := List.length_drop
    split
    · next e =>
      rw [e] at hd
      simp at hd
      omega
    · next x r e =>
      rw [e] at hd
      have hr : r.length + 1 = l.length - l.length / 2 := by simpa using hd
      have hl : (l.take (l.length / 2)).length = l.length / 2 := by rw [List.length_take]; omega
      have ih1 := grownOver_keeps f (l.take (l.length / 2)) (by omega) (by omega)
      have ih2 := grownOver_keeps f r (by omega) (by omega)
      exact ⟨⟨f, by simp, ih1.1, ih2.1⟩, by simp, ih1.2, ih2.2⟩

theorem grownOver_well (f : Nat) (l : List α) (h1 : 2 ^ f ≤ l.length + 1) (h2 : l.length + 1 ≤ 2 ^ (f + 1)) : Well (grownOver f l) :=
  ⟨(grownOver_keeps f l h1 h2).2, f, (grownOver_keeps f l h1 h2).1⟩

/-- The node of what is looked for. -/
def find (at_ : α → Int) : RT α → Option α
  | .nil => none
  | .node _ l x r => if at_ x = 0 then some x else if at_ x < 0 then find at_ l else find at_ r

theorem find_eq (at_ : α → Int) : ∀ (t : RT α), Falls at_ (items t) → find at_ t = (items t).find? (fun a => decide (at_ a = 0))
  | .nil, _ => rfl
  | .node _ l x r, h => by
    have h' : (items l ++ x :: items r).Pairwise (fun a b => at_ a ≤ 0 → at_ b < 0) := h
    obtain ⟨h1, h2, h3⟩ := List.pairwise_append.1 h'
    obtain ⟨h4, h5⟩ := List.pairwise_cons.1 h2
    show find at_ (.node _ l x r) = (items l ++ x :: items r).find? _
    unfold find
    rw [List.find?_append, List.find?_cons]
    by_cases hz : at_ x = 0
    · have e1 : (items l).find? (fun a => decide (at_ a = 0)) = none := List.find?_eq_none.2 fun a ha => by
        have := fun h0 => h3 a ha x List.mem_cons_self h0
        simp
        omega
      rw [if_pos hz, e1]
      simp [hz]
    · rw [if_neg hz]
      by_cases hx : at_ x < 0
      · have e1 : (items r).find? (fun a => decide (at_ a = 0)) = none := List.find?_eq_none.2 fun b hb => by
          have := h4 b hb (by omega)
          simp
          omega
        rw [if_pos hx, find_eq at_ l h1, e1]
        simp [hz]
      · have e1 : (items l).find? (fun a => decide (at_ a = 0)) = none := List.find?_eq_none.2 fun a ha => by
          have := fun h0 => h3 a ha x List.mem_cons_self h0
          simp
          omega
        rw [if_neg hx, find_eq at_ r h5, e1]
        simp [hz]

/-- A comparison as orders have it. -/
structure Cmp (cmp : α → α → Int) : Prop where
  flip : ∀ a b, cmp a b < 0 ↔ 0 < cmp b a
  trans : ∀ a b c, cmp a b ≤ 0 → cmp b c < 0 → cmp a c < 0

def Rises (cmp : α → α → Int) (l : List α) : Prop := l.Pairwise (fun a b => cmp a b < 0)

theorem Rises.falls {cmp : α → α → Int} (hc : Cmp cmp) {l : List α} (h : Rises cmp l) (x : α) : Falls (cmp x) l :=
  List.Pairwise.imp (fun {a b} hab h0 => hc.trans x a b h0 hab) h

/-- Of two trees: the first one is b, whose items come ahead of the same ones of a. -/
def union (cmp : α → α → Int) : RT α → RT α → RT α
  | .nil, a => a
  | .node c l x r, a => match a with
    | .nil => .node c l x r
    | .node .. => join (union cmp l (split (cmp x) a).1) x (union cmp r (split (cmp x) a).2)

theorem union_well (cmp : α → α → Int) : ∀ (b a : RT α), Well b → Well a → Well (union cmp b a)
  | .nil, _, _, h => h
  | .node c l x r, .nil, h, _ => h
  | .node _ l x r, .node c2 l2 x2 r2, h, h2 => by
    have hs := split_well (cmp x) _ h2
    exact join_well x (union_well cmp l _ h.left hs.1) (union_well cmp r _ h.right hs.2)

def less (cmp : α → α → Int) : RT α → RT α → RT α
  | .nil, a => a
  | .node _ l x r, a => match a with
    | .nil => .nil
    | .node .. => together (less cmp l (split (cmp x) a).1) (less cmp r (split (cmp x) a).2)

end RT

end Go.Proofs.YtekoaiehhjgfiabGreat

namespace Go.Proofs.YtekoaiehhjgfiabGreat
open Go.RowKit

namespace RT
variable {α : Type}

theorem Cmp.irr {cmp : α → α → Int} (hc : Cmp cmp) (a : α) : ¬cmp a a < 0 := fun h => by have := (hc.flip a a).1 h; omega

/-- What is ahead, what is the same, what is behind. -/
theorem falls_parts (at_ : α → Int) : ∀ (l : List α), Falls at_ l → l = l.filter (fun a => decide (0 < at_ a)) ++ l.filter (fun a => decide (at_ a = 0)) ++ l.filter (fun a => decide (at_ a < 0))
  | [], _ => rfl
  | x :: l, h => by
    obtain ⟨h1, h2⟩ := List.pairwise_cons.1 h
    have ih := falls_parts at_ l h2
    by_cases hx : 0 < at_ x
    · have e1 : ¬at_ x = 0 := by omega
      have e2 : ¬at_ x < 0 := by omega
      rw [List.filter_cons, List.filter_cons, List.filter_cons]
      simp only [hx, e1, e2, decide_true, decide_false, if_true]
      exact congrArg (x :: ·) ih
    · have hb : ∀ b ∈ l, at_ b < 0 := fun b hb => h1 b hb (by omega)
      have f1 : l.filter (fun a => decide (0 < at_ a)) = [] := List.filter_eq_nil_iff.2 fun b h0 => by have := hb b h0; simp; omega
      have f2 : l.filter (fun a => decide (at_ a = 0)) = [] := List.filter_eq_nil_iff.2 fun b h0 => by have := hb b h0; simp; omega
      have f3 : l.filter (fun a => decide (at_ a < 0)) = l := List.filter_eq_self.2 fun b h0 => by have := hb b h0; simpa using this
      rw [List.filter_cons, List.filter_cons, List.filter_cons, f1, f2, f3]
      by_cases hz : at_ x = 0
      · simp [hz]
      · have hn : at_ x < 0 := by omega
        simp [hx, hz, hn]

theorem Rises.filter {cmp : α → α → Int} {l : List α} (h : Rises cmp l) (p : α → Bool) : Rises cmp (l.filter p) := List.Pairwise.filter p h

theorem mem_union {cmp : α → α → Int} (hc : Cmp cmp) : ∀ (b a : RT α), Rises cmp (items b) → Rises cmp (items a) → ∀ y, y ∈ items (union cmp b a) ↔ y ∈ items b ∨ (y ∈ items a ∧ ∀ x ∈ items b, cmp x y ≠ 0)
  | .nil, a, _, _, y => by
    show y ∈ items a ↔ y ∈ [] ∨ (y ∈ items a ∧ ∀ x ∈ [], cmp x y ≠ 0)
    simp
  | .node c l x r, .nil, _, _, y => by
    show y ∈ items (RT.node c l x r) ↔ y ∈ items (RT.node c l x r) ∨ (y ∈ [] ∧ _)
    simp
  | .node c l x r, .node c2 l2 x2 r2, hb, ha, y => by
    obtain ⟨b1, b2, b3⟩ := List.pairwise_append.1 (show (items l ++ x :: items r).Pairwise (fun a b => cmp a b < 0) from hb)
    obtain ⟨b4, b5⟩ := List.pairwise_cons.1 b2
    have hf := ha.falls hc x
    have hs := split_items (cmp x) _ hf
    show y ∈ items (join (union cmp l (split (cmp x) (.node c2 l2 x2 r2)).1) x (union cmp r (split (cmp x) (.node c2 l2 x2 r2)).2)) ↔ y ∈ items l ++ x :: items r ∨ (_ ∧ ∀ z ∈ items l ++ x :: items r, cmp z y ≠ 0)
    generalize ht : RT.node c2 l2 x2 r2 = t at *
    have m1 := mem_union hc l (split (cmp x) t).1 b1 (by rw [hs.1]; exact ha.filter _) y
    have m2 := mem_union hc r (split (cmp x) t).2 b5 (by rw [hs.2]; exact ha.filter _) y
    rw [hs.1] at m1
    rw [hs.2] at m2
    rw [join_items, List.mem_append, List.mem_cons, m1, m2, List.mem_append, List.mem_cons, List.mem_filter, List.mem_filter, decide_eq_true_eq, decide_eq_true_eq]
    have hr : 0 < cmp x y → ∀ z ∈ items r, cmp z y ≠ 0 := fun h0 z hz => by
      have h1 := hc.trans y x z (by have := (hc.flip y x).2 h0; omega) (b4 z hz)
      have := (hc.flip y z).1 h1
      omega
    have hl : cmp x y < 0 → ∀ z ∈ items l, cmp z y ≠ 0 := fun h0 z hz => by
      have h1 := hc.trans z x y (by have := b3 z hz x List.mem_cons_self; omega) h0
      omega
    constructor
    · rintro ((h | ⟨⟨h1, h2⟩, h3⟩) | h | h | ⟨⟨h1, h2⟩, h3⟩)
      · exact .inl (.inl h)
      · refine .inr ⟨h1, fun z hz => ?_⟩
        rcases List.mem_append.1 hz with hz | hz
        · exact h3 z hz
        · rcases List.mem_cons.1 hz with rfl | hz
          · omega
          · exact hr h2 z hz
      · exact .inl (.inr (.inl h))
      · exact .inl (.inr (.inr h))
      · refine .inr ⟨h1, fun z hz => ?_⟩
        rcases List.mem_append.1 hz with hz | hz
        · exact hl h2 z hz
        · rcases List.mem_cons.1 hz with rfl | hz
          · omega
          · exact h3 z hz
    · rintro ((h | h | h) | ⟨h1, h2⟩)
      · exact .inl (.inl h)
      · exact .inr (.inl h)
      · exact .inr (.inr (.inl h))
      · have hx := h2 x (List.mem_append_right _ List.mem_cons_self)
        by_cases h0 : 0 < cmp x y
        · exact .inl (.inr ⟨⟨h1, h0⟩, fun z hz => h2 z (List.mem_append_left _ hz)⟩)
        · exact .inr (.inr (.inr ⟨⟨h1, by omega⟩, fun z hz => h2 z (List.mem_append_right _ (List.mem_cons_of_mem _ hz))⟩))

theorem union_rises {cmp : α → α → Int} (hc : Cmp cmp) : ∀ (b a : RT α), Rises cmp (items b) → Rises cmp (items a) → Rises cmp (items (union cmp b a))
  | .nil, _, _, h => h
  | .node _ _ _ _, .nil, h, _ => h
  | .node c l x r, .node c2 l2 x2 r2, hb, ha => by
    obtain ⟨b1, b2, b3⟩ := List.pairwise_append.1 (show (items l ++ x :: items r).Pairwise (fun a b => cmp a b < 0) from hb)
    obtain ⟨b4, b5⟩ := List.pairwise_cons.1 b2
    have hf := ha.falls hc x
    have hs := split_items (cmp x) _ hf
    show Rises cmp (items (join (union cmp l (split (cmp x) (.node c2 l2 x2 r2)).1) x (union cmp r (split (cmp x) (.node c2 l2 x2 r2)).2)))
    generalize ht : RT.node c2 l2 x2 r2 = t at *
    have r1 : Rises cmp (items (split (cmp x) t).1) := by rw [hs.1]; exact ha.filter _
    have r2' : Rises cmp (items (split (cmp x) t).2) := by rw [hs.2]; exact ha.filter _
    have m1 := fun y => (mem_union hc l (split (cmp x) t).1 b1 r1 y).1
    have m2 := fun y => (mem_union hc r (split (cmp x) t).2 b5 r2' y).1
    have k1 : ∀ y ∈ items (union cmp l (split (cmp x) t).1), cmp y x < 0 := fun y hy => by
      rcases m1 y hy with h | ⟨h, _⟩
      · exact b3 y h x List.mem_cons_self
      · rw [hs.1] at h
        exact (hc.flip y x).2 (by simpa using (List.mem_filter.1 h).2)
    have k2 : ∀ y ∈ items (union cmp r (split (cmp x) t).2), cmp x y < 0 := fun y hy => by
      rcases m2 y hy with h | ⟨h, _⟩
      · exact b4 y h
      · rw [hs.2] at h
        simpa using (List.mem_filter.1 h).2
    rw [join_items]
    refine List.pairwise_append.2 ⟨union_rises hc l _ b1 r1, List.pairwise_cons.2 ⟨k2, union_rises hc r _ b5 r2'⟩, fun y hy z hz => ?_⟩
    rcases List.mem_cons.1 hz with rfl | hz
    · exact k1 y hy
    · have h1 := k1 y hy
      exact hc.trans y x z (by omega) (k2 z hz)

/-- Lists that rise and have the same members are the same. -/
theorem rises_eq {cmp : α → α → Int} (hc : Cmp cmp) : ∀ (l m : List α), Rises cmp l → Rises cmp m → (∀ y, y ∈ l ↔ y ∈ m) → l = m
  | [], [], _, _, _ => rfl
  | [], b :: m, _, _, h => by
    have := (h b).2 List.mem_cons_self
    simp at this
  | a :: l, [], _, _, h => by
    have := (h a).1 List.mem_cons_self
    simp at this
  | a :: l, b :: m, hl, hm, h => by
    obtain ⟨l1, l2⟩ := List.pairwise_cons.1 hl
    obtain ⟨m1, m2⟩ := List.pairwise_cons.1 hm
    have e : a = b := by
      rcases List.mem_cons.1 ((h a).1 List.mem_cons_self) with e | ha
      · exact e
      · rcases List.mem_cons.1 ((h b).2 List.mem_cons_self) with e | hb
        · exact e.symm
        · have h1 := m1 a ha
          have h2 := l1 b hb
          have := (hc.flip a b).1 h2
          omega
    subst e
    refine congrArg (a :: ·) (rises_eq hc l m l2 m2 fun y => ?_)
    constructor
    · intro hy
      rcases List.mem_cons.1 ((h y).1 (List.mem_cons_of_mem _ hy)) with rfl | h1
      · exact absurd (l1 y hy) (hc.irr y)
      · exact h1
    · intro hy
      rcases List.mem_cons.1 ((h y).2 (List.mem_cons_of_mem _ hy)) with rfl | h1
      · exact absurd (m1 y hy) (hc.irr y)
      · exact h1

end RT

end Go.Proofs.YtekoaiehhjgfiabGreat

namespace Go.Proofs.YtekoaiehhjgfiabGreat
open Go.RowKit

namespace RT
variable {α : Type}

def cut (k : Int) : RT α → RT α × RT α
  | .nil => (.nil, .nil)
  | .node c l x r => if k ≤ 0 then (.nil, .node c l x r) else if (size (.node c l x r) : Int) ≤ k then (.node c l x r, .nil)
    else if k ≤ size l then ((cut k l).1, join (cut k l).2 x r) else (join l x (cut (k - size l - 1) r).1, (cut (k - size l - 1) r).2)

theorem with_rises {cmp : α → α → Int} (hc : Cmp cmp) {t : RT α} (h : Rises cmp (items t)) (x : α) : Rises cmp (items (with_ (cmp x) x t)) := by
  rw [with_items (cmp x) x t (h.falls hc x)]
  have k1 : ∀ y ∈ (items t).filter (fun a => decide (0 < cmp x a)), cmp y x < 0 := fun y hy => (hc.flip y x).2 (by simpa using (List.mem_filter.1 hy).2)
  have k2 : ∀ y ∈ (items t).filter (fun a => decide (cmp x a < 0)), cmp x y < 0 := fun y hy => by simpa using (List.mem_filter.1 hy).2
  refine List.pairwise_append.2 ⟨h.filter _, List.pairwise_cons.2 ⟨k2, h.filter _⟩, fun y hy z hz => ?_⟩
  rcases List.mem_cons.1 hz with rfl | hz
  · exact k1 y hy
  · have h1 := k1 y hy
    exact hc.trans y x z (by omega) (k2 z hz)

theorem mem_with {cmp : α → α → Int} (hc : Cmp cmp) {t : RT α} (h : Rises cmp (items t)) (x y : α) : y ∈ items (with_ (cmp x) x t) ↔ y = x ∨ (y ∈ items t ∧ cmp x y ≠ 0) := by
  rw [with_items (cmp x) x t (h.falls hc x), List.mem_append, List.mem_cons, List.mem_filter, List.mem_filter, decide_eq_true_eq, decide_eq_true_eq]
  constructor
  · rintro (⟨h1, h2⟩ | h1 | ⟨h1, h2⟩)
    · exact .inr ⟨h1, by omega⟩
    · exact .inl h1
    · exact .inr ⟨h1, by omega⟩
  · rintro (h1 | ⟨h1, h2⟩)
    · exact .inr (.inl h1)
    · by_cases h0 : 0 < cmp x y
      · exact .inl ⟨h1, h0⟩
      · exact .inr (.inr ⟨h1, by omega⟩)

theorem without_eq {cmp : α → α → Int} (hc : Cmp cmp) {t : RT α} (h : Rises cmp (items t)) (x : α) : items (without (cmp x) t) = (items t).filter (fun y => decide (cmp x y ≠ 0)) := by
  have hf := h.falls hc x
  rw [without_items (cmp x) t hf]
  conv => rhs; rw [falls_parts (cmp x) (items t) hf]
  rw [List.filter_append, List.filter_append]
  have em : ((items t).filter (fun a => decide (cmp x a = 0))).filter (fun y => decide (cmp x y ≠ 0)) = [] := List.filter_eq_nil_iff.2 fun y hy => by
    have h0 : cmp x y = 0 := by simpa using (List.mem_filter.1 hy).2
    simp [h0]
  rw [em, List.append_nil]
  congr 1
  · exact (List.filter_eq_self.2 fun y hy => by
      have h0 : 0 < cmp x y := by simpa using (List.mem_filter.1 hy).2
      simp
      omega).symm
  · exact (List.filter_eq_self.2 fun y hy => by
      have h0 : cmp x y < 0 := by simpa using (List.mem_filter.1 hy).2
      simp
      omega).symm

end RT

end Go.Proofs.YtekoaiehhjgfiabGreat

