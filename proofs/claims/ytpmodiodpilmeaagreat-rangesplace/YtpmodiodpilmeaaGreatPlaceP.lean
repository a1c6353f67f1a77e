/-
  Places in a tree, plain: how many items stand ahead; the item in a place.
-/
import Derived.Test.YtpmodiodpilmeaaGreatTreeR
namespace Go.Proofs.YtpmodiodpilmeaaGreat
open Go.RowKit

namespace RT
variable {α : Type}

theorem Cmp.irr {cmp : α → α → Int} (hc : Cmp cmp) (a : α) : ¬cmp a a < 0 := fun h => by have := (hc.flip a a).1 h; omega

theorem Rises.filter {cmp : α → α → Int} {l : List α} (h : Rises cmp l) (p : α → Bool) : Rises cmp (l.filter p) := List.Pairwise.filter p h

/-- Lists that rise and have the same members are the same. -/
theorem rises_eq {cmp : α → α → Int} (hc : Cmp cmp) : ∀ (l m : List α), Rises cmp l → Rises cmp m → (∀ y, y ∈ l ↔ y ∈ m) → l = m
  | [], [], _, _, _ => rfl
  | [], b :: m, _, _, h => by
    have := (h b).2 List.mem_cons_self
    simp at this
  | a :: l, [], _, _, h => by
    have := (h a).1 List.mem_cons_self
    simp at this
  | a :: l, b :: m, hl, hm, h => by
    obtain ⟨l1, l2⟩ := List.pairwise_cons.1 hl
    obtain ⟨m1, m2⟩ := List.pairwise_cons.1 hm
    have e : a = b := by
      rcases List.mem_cons.1 ((h a).1 List.mem_cons_self) with e | ha
      · exact e
      · rcases List.mem_cons.1 ((h b).2 List.mem_cons_self) with e | hb
        · exact e.symm
        · have h1 := m1 a ha
          have h2 := l1 b hb
          have := (hc.flip a b).1 h2
          omega
    subst e
    refine congrArg (a :: ·) (rises_eq hc l m l2 m2 fun y => ?_)
    constructor
    · intro hy
      rcases List.mem_cons.1 ((h y).1 (List.mem_cons_of_mem _ hy)) with rfl | h1
      · exact absurd (l1 y hy) (hc.irr y)
      · exact h1
    · intro hy
      rcases List.mem_cons.1 ((h y).2 (List.mem_cons_of_mem _ hy)) with rfl | h1
      · exact absurd (m1 y hy) (hc.irr y)
      · exact h1

end RT

end Go.Proofs.YtpmodiodpilmeaaGreat

namespace Go.Proofs.YtpmodiodpilmeaaGreat
open Go.RowKit

namespace RT
variable {α : Type}

def cut (k : Int) : RT α → RT α × RT α
  | .nil => (.nil, .nil)
  | .node c l x r => if k ≤ 0 then (.nil, .node c l x r) else if (size (.node c l x r) : Int) ≤ k then (.node c l x r, .nil)
    else if k ≤ size l then ((cut k l).1, join (cut k l).2 x r) else (join l x (cut (k - size l - 1) r).1, (cut (k - size l - 1) r).2)

end RT

end Go.Proofs.YtpmodiodpilmeaaGreat

namespace Go.Proofs.YtpmodiodpilmeaaGreat
open Go.RowKit

namespace RT
variable {α : Type}

/-- Does what is looked for stand behind it, or is it, if it counts? -/
def ahead (at_ : α → Int) (c : Bool) (x : α) : Bool := decide (0 < at_ x) || (decide (at_ x = 0) && c)

/-- How many items stand ahead, or are it, if it counts. -/
def upTo (at_ : α → Int) (c : Bool) : RT α → Nat
  | .nil => 0
  | .node _ l x r => if ahead at_ c x = true then size l + 1 + upTo at_ c r else upTo at_ c l

/-- The item in a place. -/
def nth : RT α → Nat → Option α
  | .nil, _ => none
  | .node _ l x r, i => if i < size l then nth l i else if size l < i then nth r (i - size l - 1) else some x

theorem nth_items : ∀ (t : RT α) (i : Nat), nth t i = (items t)[i]?
  | .nil, _ => by simp [nth, items]
  | .node _ l x r, i => by
    show (if i < size l then nth l i else if size l < i then nth r (i - size l - 1) else some x) = (items l ++ x :: items r)[i]?
    have hs := size_items l
    by_cases h1 : i < size l
    · rw [if_pos h1, nth_items l i, List.getElem?_append_left (by omega)]
    · rw [if_neg h1, List.getElem?_append_right (by omega)]
      by_cases h2 : size l < i
      · rw [if_pos h2, nth_items r]
        obtain ⟨n, hn⟩ : ∃ n, i - (items l).length = n + 1 := ⟨i - (items l).length - 1, by omega⟩
        rw [hn, List.getElem?_cons_succ]
        congr 1
        omega
      · rw [if_neg h2]
        have : i - (items l).length = 0 := by omega
        rw [this]
        rfl

theorem ahead_falls {at_ : α → Int} {c : Bool} {a b : α} (h : at_ a ≤ 0 → at_ b < 0) (hb : ahead at_ c b = true) : ahead at_ c a = true := by
  simp only [ahead, Bool.or_eq_true, Bool.and_eq_true, decide_eq_true_eq] at hb ⊢
  have : ¬ at_ a ≤ 0 := fun h' => by have := h h'; omega
  omega

theorem upTo_items (at_ : α → Int) (c : Bool) : ∀ (t : RT α), Falls at_ (items t) → upTo at_ c t = ((items t).filter (ahead at_ c)).length
  | .nil, _ => rfl
  | .node _ l x r, h => by
    show (if ahead at_ c x = true then size l + 1 + upTo at_ c r else upTo at_ c l) = ((items l ++ x :: items r).filter (ahead at_ c)).length
    obtain ⟨hl, hxr, hlr⟩ := List.pairwise_append.1 h
    obtain ⟨hx, hr⟩ := List.pairwise_cons.1 hxr
    rw [List.filter_append, List.length_append]
    by_cases ha : ahead at_ c x = true
    · rw [if_pos ha, List.filter_cons_of_pos ha, List.length_cons, upTo_items at_ c r hr, size_items l]
      have : (items l).filter (ahead at_ c) = items l := List.filter_eq_self.2 fun a hm => ahead_falls (hlr a hm x (List.mem_cons_self ..)) ha
      rw [this]
      omega
    · rw [if_neg ha, List.filter_cons_of_neg ha, upTo_items at_ c l hl]
      have : (items r).filter (ahead at_ c) = [] := List.filter_eq_nil_iff.2 fun b hm hb => ha (ahead_falls (hx b hm) hb)
      rw [this]
      simp

theorem upTo_le (at_ : α → Int) (c : Bool) : ∀ (t : RT α), upTo at_ c t ≤ size t
  | .nil => Nat.le_refl _
  | .node _ l x r => by
    show (if ahead at_ c x = true then size l + 1 + upTo at_ c r else upTo at_ c l) ≤ size l + 1 + size r
    have := upTo_le at_ c l
    have := upTo_le at_ c r
    split <;> omega

end RT

/-- In a list that falls: as many as are ahead are its first ones. -/
theorem filter_ahead {α : Type} (at_ : α → Int) (c : Bool) : ∀ (l : List α), RT.Falls at_ l → l.take (l.filter (RT.ahead at_ c)).length = l.filter (RT.ahead at_ c) ∧ ∀ (i : Nat) (x : α), l[i]? = some x → (RT.ahead at_ c x = true ↔ i < (l.filter (RT.ahead at_ c)).length)
  | [], _ => ⟨rfl, fun i x h => by simp at h⟩
  | a :: l, h => by
    obtain ⟨ha, hl⟩ := List.pairwise_cons.1 h
    obtain ⟨i1, i2⟩ := filter_ahead at_ c l hl
    by_cases hp : RT.ahead at_ c a = true
    · rw [List.filter_cons_of_pos hp]
      refine ⟨by rw [List.length_cons, List.take_succ_cons, i1], fun i x hx => ?_⟩
      cases i with
      | zero =>
        obtain rfl : a = x := by simpa using hx
        simp [hp]
      | succ i =>
        rw [List.getElem?_cons_succ] at hx
        rw [i2 i x hx, List.length_cons]
        omega
    · have hn : l.filter (RT.ahead at_ c) = [] := List.filter_eq_nil_iff.2 fun b hm hb => hp (RT.ahead_falls (ha b hm) hb)
      rw [List.filter_cons_of_neg hp, hn]
      refine ⟨rfl, fun i x hx => ⟨fun hb => ?_, fun hb => absurd hb (by simp)⟩⟩
      cases i with
      | zero =>
        obtain rfl : a = x := by simpa using hx
        exact absurd hb hp
      | succ i =>
        rw [List.getElem?_cons_succ] at hx
        exact absurd (RT.ahead_falls (ha x (List.mem_of_getElem? hx)) hb) hp

end Go.Proofs.YtpmodiodpilmeaaGreat

