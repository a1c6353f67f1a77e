import Derived.Test.YtlnecfjnffdciaaGreatSymC
namespace Go.Proofs.YtlnecfjnffdciaaGreat
open Go.RowKit

inductive RT (α : Type) : Type where
 | nil : RT α
 | node (red : Bool) (l : RT α) (x : α) (r : RT α) : RT α

namespace RT
variable {α : Type}

def items : RT α → List α
 | .nil => []
 | .node _ l x r => items l ++ x :: items r

def size : RT α → Nat
 | .nil => 0
 | .node _ l _ r => size l + 1 + size r

def high : RT α → Nat
 | .nil => 0
 | .node _ l _ r => 1 + max (high l) (high r)

def blacks : RT α → Nat
 | .nil => 0
 | .node c l _ _ => blacks l + (if c then 0 else 1)

def isRed : RT α → Bool
 | .nil => false
 | .node c _ _ _ => c

def black : RT α → RT α
 | .nil => .nil
 | .node _ l x r => .node false l x r

def BH : RT α → Nat → Prop
 | .nil, n => n = 0
 | .node c l _ r, n => ∃ m, n = m + (if c then 0 else 1) ∧ BH l m ∧ BH r m

def NR : RT α → Prop
 | .nil => True
 | .node c l _ r => (c = true → isRed l = false ∧ isRed r = false) ∧ NR l ∧ NR r

theorem BH.blacks : ∀ {t : RT α} {n : Nat}, BH t n → blacks t = n
 | .nil, n, h => by
  have h' : n = 0 := h
  rw [h']
  rfl
 | .node c l x r, n, h => by
  obtain ⟨m, rfl, hl, _⟩ := h
  show RT.blacks l + _ = _
  rw [hl.blacks]

def turnR (c : Bool) (l : RT α) (y : α) (e : RT α) : RT α :=
 match c, e with
 | false, .node true el ex (.node true a b d) => .node true (.node false l y el) ex (.node false a b d)
 | c, e => .node c l y e

def turnL (c : Bool) (e : RT α) (y : α) (r : RT α) : RT α :=
 match c, e with
 | false, .node true (.node true a b d) ex er => .node true (.node false a b d) ex (.node false er y r)
 | c, e => .node c e y r

def hungR : RT α → α → RT α → RT α
 | .nil, x, r => .node true .nil x r
 | .node c l y rr, x, r => if c = false ∧ blacks (.node c l y rr) = blacks r then .node true (.node c l y rr) x r else turnR c l y (hungR rr x r)

def hungL : RT α → α → RT α → RT α
 | l, x, .nil => .node true l x .nil
 | l, x, .node c ll y r => if c = false ∧ blacks l = blacks (.node c ll y r) then .node true l x (.node c ll y r) else turnL c (hungL l x ll) y r

def NRr : RT α → Prop
 | .nil => True
 | .node c l _ r => (c = true → isRed l = false) ∧ NR l ∧ NR r

def NRl : RT α → Prop
 | .nil => True
 | .node c l _ r => (c = true → isRed r = false) ∧ NR l ∧ NR r

theorem NR.toR : ∀ {t : RT α}, NR t → NRr t
 | .nil, _ => trivial
 | .node _ _ _ _, h => ⟨fun e => (h.1 e).1, h.2⟩

theorem NR.toL : ∀ {t : RT α}, NR t → NRl t
 | .nil, _ => trivial
 | .node _ _ _ _, h => ⟨fun e => (h.1 e).2, h.2⟩

theorem turnR_items (c : Bool) (l : RT α) (y : α) (e : RT α) : items (turnR c l y e) = items l ++ y :: items e := by
 unfold turnR
 split
 ·simp [items]
 ·rfl

theorem turnL_items (c : Bool) (e : RT α) (y : α) (r : RT α) : items (turnL c e y r) = items e ++ y :: items r := by
 unfold turnL
 split
 ·simp [items]
 ·rfl

theorem hungR_items : ∀ (l : RT α) (x : α) (r : RT α), items (hungR l x r) = items l ++ x :: items r
 | .nil, x, r => rfl
 | .node c l y rr, x, r => by
  unfold hungR
  split
  ·rfl
  ·rw [turnR_items, hungR_items rr x r]
   simp [items]

theorem hungL_items : ∀ (l : RT α) (x : α) (r : RT α), items (hungL l x r) = items l ++ x :: items r
 | l, x, .nil => by cases l <;> rfl
 | l, x, .node c ll y r => by
  unfold hungL
  split
  ·rfl
  ·rw [turnL_items, hungL_items l x ll]
   simp [items]

theorem turnR_well {c : Bool} {l e : RT α} {y : α} {m : Nat} (hl : BH l m) (he : BH e m) (nl : NR l) (ne : NRr e) (hc : c = true → isRed l = false ∧ NR e) : BH (turnR c l y e) (m + (if c then 0 else 1)) ∧ (c = false → NR (turnR c l y e)) ∧ (c = true → NRr (turnR c l y e)) := by
 unfold turnR
 split
 ·rename_i el ex a b d
  obtain ⟨k, hk, h1, k2, hk2, h2, h3⟩ := he
  simp at hk hk2
  subst hk hk2
  refine ⟨⟨m + 1, by simp, ⟨m, by simp, hl, h1⟩, ⟨m, by simp, h2, h3⟩⟩, fun _ => ⟨fun _ => ⟨rfl, rfl⟩, ⟨fun e => (nomatch e), nl, ne.2.1⟩, ⟨fun e => (nomatch e), ne.2.2.2.1, ne.2.2.2.2⟩⟩, fun e => (nomatch e)⟩
 ·rename_i hnot
  refine ⟨⟨m, rfl, hl, he⟩, fun e1 => ?_, fun e1 => ⟨fun _ => (hc e1).1, nl, (hc e1).2⟩⟩
  subst e1
  refine ⟨fun e => (nomatch e), nl, ?_⟩
  cases e with
  | nil => trivial
  | node c2 l2 x2 r2 =>
   refine ⟨fun e2 => ⟨ne.1 e2, ?_⟩, ne.2⟩
   cases r2 with
   | nil => rfl
   | node c3 l3 x3 r3 =>
    cases c3 with
    | false => rfl
    | true =>
     subst e2
     exact absurd rfl (hnot l2 x2 l3 x3 r3 rfl)

theorem hungR_well : ∀ (l : RT α) (x : α) (r : RT α) (m k : Nat), BH l m → NR l → BH r k → NR r → isRed r = false → k ≤ m → BH (hungR l x r) m ∧ (isRed l = false → NR (hungR l x r)) ∧ NRr (hungR l x r)
 | .nil, x, r, m, k, hl, _, hr, nr, rr, hk => by
  have hm : m = 0 := hl
  subst hm
  obtain rfl : k = 0 := by omega
  exact ⟨⟨0, by simp, rfl, hr⟩, fun _ => ⟨fun _ => ⟨rfl, rr⟩, trivial, nr⟩, fun _ => rfl, trivial, nr⟩
 | .node c l y rr, x, r, m, k, hl, nl, hr, nr, hrr, hk => by
  unfold hungR
  have hb := hl.blacks
  by_cases hcond : c = false ∧ blacks (.node c l y rr) = blacks r
  ·rw [if_pos hcond]
   obtain ⟨rfl, hbl⟩ := hcond
   rw [hb, hr.blacks] at hbl
   subst hbl
   exact ⟨⟨m, by simp, hl, hr⟩, fun _ => ⟨fun _ => ⟨rfl, hrr⟩, nl, nr⟩, fun _ => rfl, nl, nr⟩
  ·rw [if_neg hcond]
   obtain ⟨m', hm', hl1, hl2⟩ := hl
   have hkm : k ≤ m' := by
    cases c with
    | true => simp at hm'; omega
    | false =>
     rw [hb, hr.blacks] at hcond
     simp at hm' hcond
     omega
   obtain ⟨e1, e2, e3⟩ := hungR_well rr x r m' k hl2 nl.2.2 hr nr hrr hkm
   obtain ⟨t1, t2, t3⟩ := turnR_well (c := c) (y := y) hl1 e1 nl.2.1 e3 (fun hc => ⟨(nl.1 hc).1, e2 (nl.1 hc).2⟩)
   rw [hm']
   refine ⟨t1, fun hc => t2 hc, ?_⟩
   cases c with
   | true => exact t3 rfl
   | false => exact (t2 rfl).toR

theorem turnL_well {c : Bool} {e r : RT α} {y : α} {m : Nat} (he : BH e m) (hr : BH r m) (ne : NRl e) (nr : NR r) (hc : c = true → isRed r = false ∧ NR e) : BH (turnL c e y r) (m + (if c then 0 else 1)) ∧ (c = false → NR (turnL c e y r)) ∧ (c = true → NRl (turnL c e y r)) := by
 unfold turnL
 split
 ·rename_i a b d ex er
  obtain ⟨k, hk, ⟨k2, hk2, h1, h2⟩, h3⟩ := he
  simp at hk hk2
  subst hk hk2
  refine ⟨⟨m + 1, by simp, ⟨m, by simp, h1, h2⟩, ⟨m, by simp, h3, hr⟩⟩, fun _ => ⟨fun _ => ⟨rfl, rfl⟩, ⟨fun e => (nomatch e), ne.2.1.2.1, ne.2.1.2.2⟩, ⟨fun e => (nomatch e), ne.2.2, nr⟩⟩, fun e => (nomatch e)⟩
 ·rename_i hnot
  refine ⟨⟨m, rfl, he, hr⟩, fun e1 => ?_, fun e1 => ⟨fun _ => (hc e1).1, (hc e1).2, nr⟩⟩
  subst e1
  refine ⟨fun e => (nomatch e), ?_, nr⟩
  cases e with
  | nil => trivial
  | node c2 l2 x2 r2 =>
   refine ⟨fun e2 => ⟨?_, ne.1 e2⟩, ne.2⟩
   cases l2 with
   | nil => rfl
   | node c3 l3 x3 r3 =>
    cases c3 with
    | false => rfl
    | true =>
     subst e2
     exact absurd rfl (hnot l3 x3 r3 x2 r2 rfl)

theorem hungL_well : ∀ (r : RT α) (l : RT α) (x : α) (m k : Nat), BH r m → NR r → BH l k → NR l → isRed l = false → k ≤ m → BH (hungL l x r) m ∧ (isRed r = false → NR (hungL l x r)) ∧ NRl (hungL l x r)
 | .nil, l, x, m, k, hr, _, hl, nl, rl, hk => by
  have hm : m = 0 := hr
  subst hm
  obtain rfl : k = 0 := by omega
  have e : hungL l x .nil = .node true l x .nil := by cases l <;> rfl
  rw [e]
  exact ⟨⟨0, by simp, hl, rfl⟩, fun _ => ⟨fun _ => ⟨rl, rfl⟩, nl, trivial⟩, fun _ => rfl, nl, trivial⟩
 | .node c ll y r, l, x, m, k, hr, nr, hl, nl, hll, hk => by
  unfold hungL
  have hb := hr.blacks
  by_cases hcond : c = false ∧ blacks l = blacks (.node c ll y r)
  ·rw [if_pos hcond]
   obtain ⟨rfl, hbl⟩ := hcond
   rw [hb, hl.blacks] at hbl
   subst hbl
   exact ⟨⟨k, by simp, hl, hr⟩, fun _ => ⟨fun _ => ⟨hll, rfl⟩, nl, nr⟩, fun _ => rfl, nl, nr⟩
  ·rw [if_neg hcond]
   obtain ⟨m', hm', hr1, hr2⟩ := hr
   have hkm : k ≤ m' := by
    cases c with
    | true => simp at hm'; omega
    | false =>
     rw [hb, hl.blacks] at hcond
     simp at hm' hcond
     omega
   obtain ⟨e1, e2, e3⟩ := hungL_well ll l x m' k hr1 nr.2.1 hl nl hll hkm
   obtain ⟨t1, t2, t3⟩ := turnL_well (c := c) (y := y) e1 hr2 e3 nr.2.2 (fun hc => ⟨(nr.1 hc).2, e2 (nr.1 hc).1⟩)
   rw [hm']
   refine ⟨t1, fun hc => t2 hc, ?_⟩
   cases c with
   | true => exact t3 rfl
   | false => exact (t2 rfl).toL

def join (l : RT α) (x : α) (r : RT α) : RT α :=
 if blacks (black r) < blacks (black l) then hungR (black l) x (black r) else if blacks (black l) < blacks (black r) then hungL (black l) x (black r) else .node true (black l) x (black r)

theorem black_items (t : RT α) : items (black t) = items t := by cases t <;> rfl
theorem black_red14 (t : RT α) : isRed (black t) = false := by cases t <;> rfl
theorem NR.black {t : RT α} (h : NR t) : NR (RT.black t) := by
 cases t with
 | nil => trivial
 | node c l x r => exact ⟨fun e => (nomatch e), h.2⟩
theorem BH.black {t : RT α} {n : Nat} (h : BH t n) : ∃ m, BH (RT.black t) m := by
 cases t with
 | nil => exact ⟨n, h⟩
 | node c l x r =>
  obtain ⟨m, _, h1, h2⟩ := h
  exact ⟨m + 1, m, by simp, h1, h2⟩

def Well (t : RT α) : Prop := NR t ∧ ∃ n, BH t n

theorem join_items (l : RT α) (x : α) (r : RT α) : items (join l x r) = items l ++ x :: items r := by
 unfold join
 split
 ·rw [hungR_items, black_items, black_items]
 ·split
  ·rw [hungL_items, black_items, black_items]
  ·show items (RT.black l) ++ x :: items (RT.black r) = _
   rw [black_items, black_items]

theorem join_well {l r : RT α} (x : α) (hl : Well l) (hr : Well r) : Well (join l x r) := by
 obtain ⟨nl, n1, bl⟩ := hl
 obtain ⟨nr, n2, br⟩ := hr
 obtain ⟨m, bm⟩ := bl.black
 obtain ⟨k, bk⟩ := br.black
 unfold join
 rw [bm.blacks, bk.blacks]
 split
 ·obtain ⟨h1, h2, _⟩ := hungR_well _ x _ m k bm nl.black bk nr.black (black_red14 _) (by omega)
  exact ⟨h2 (black_red14 _), m, h1⟩
 ·split
  ·obtain ⟨h1, h2, _⟩ := hungL_well _ _ x k m bk nr.black bm nl.black (black_red14 _) (by omega)
   exact ⟨h2 (black_red14 _), k, h1⟩
  ·obtain rfl : m = k := by omega
   exact ⟨⟨fun _ => ⟨black_red14 _, black_red14 _⟩, nl.black, nr.black⟩, m, m, by simp, bm, bk⟩

theorem well_high : ∀ (t : RT α) (n : Nat), BH t n → NR t → high t ≤ 2 * n + (if isRed t then 1 else 0) ∧ 2 ^ n ≤ size t + 1
 | .nil, n, h, _ => by
  have h' : n = 0 := h
  subst h'
  exact ⟨by simp [high], by simp [size]⟩
 | .node c l x r, n, h, hn => by
  obtain ⟨m, rfl, hl, hr⟩ := h
  obtain ⟨h1, s1⟩ := well_high l m hl hn.2.1
  obtain ⟨h2, s2⟩ := well_high r m hr hn.2.2
  cases c with
  | true =>
   obtain ⟨e1, e2⟩ := hn.1 rfl
   rw [e1] at h1
   rw [e2] at h2
   simp only [high, size, isRed] at *
   simp at *
   omega
  | false =>
   have h1' : high l ≤ 2 * m + 1 := by split at h1 <;> omega
   have h2' : high r ≤ 2 * m + 1 := by split at h2 <;> omega
   simp only [high, size, isRed]
   simp
   rw [Nat.pow_succ]
   omega

end RT

end Go.Proofs.YtlnecfjnffdciaaGreat

namespace Go.Proofs.YtlnecfjnffdciaaGreat
open Go.RowKit

namespace RT
variable {α : Type}

theorem Well.left {c : Bool} {l r : RT α} {x : α} (h : Well (.node c l x r)) : Well l := by
 obtain ⟨hn, n, m, _, hl, _⟩ := h
 exact ⟨hn.2.1, m, hl⟩

theorem Well.right {c : Bool} {l r : RT α} {x : α} (h : Well (.node c l x r)) : Well r := by
 obtain ⟨hn, n, m, _, _, hr⟩ := h
 exact ⟨hn.2.2, m, hr⟩

def split (at_ : α → Int) : RT α → RT α × RT α
 | .nil => (.nil, .nil)
 | .node _ l x r => if at_ x < 0 then ((split at_ l).1, join (split at_ l).2 x r) else if 0 < at_ x then (join l x (split at_ r).1, (split at_ r).2) else (l, r)

def Falls (at_ : α → Int) (l : List α) : Prop := l.Pairwise (fun a b => at_ a ≤ 0 → at_ b < 0)

theorem split_well (at_ : α → Int) : ∀ (t : RT α), Well t → Well (split at_ t).1 ∧ Well (split at_ t).2
 | .nil, h => ⟨h, h⟩
 | .node c l x r, h => by
  have hl := split_well at_ l h.left
  have hr := split_well at_ r h.right
  unfold split
  split
  ·exact ⟨hl.1, join_well x hl.2 h.right⟩
  ·split
   ·exact ⟨join_well x h.left hr.1, hr.2⟩
   ·exact ⟨h.left, h.right⟩

theorem split_items (at_ : α → Int) : ∀ (t : RT α), Falls at_ (items t) → items (split at_ t).1 = (items t).filter (fun a => decide (0 < at_ a)) ∧ items (split at_ t).2 = (items t).filter (fun a => decide (at_ a < 0))
 | .nil, _ => ⟨rfl, rfl⟩
 | .node c l x r, h => by
  have h' : (items l ++ x :: items r).Pairwise (fun a b => at_ a ≤ 0 → at_ b < 0) := h
  obtain ⟨h1, h2, h3⟩ := List.pairwise_append.1 h'
  obtain ⟨h4, h5⟩ := List.pairwise_cons.1 h2
  have il := split_items at_ l h1
  have ir := split_items at_ r h5
  unfold split
  show items _ = (items l ++ x :: items r).filter _ ∧ items _ = (items l ++ x :: items r).filter _
  rw [List.filter_append, List.filter_append, List.filter_cons, List.filter_cons]
  by_cases hx : at_ x < 0
  ·have e1 : (items r).filter (fun a => decide (0 < at_ a)) = [] := List.filter_eq_nil_iff.2 fun b hb => by have := h4 b hb (by omega); simp; omega
   have e2 : (items r).filter (fun a => decide (at_ a < 0)) = items r := List.filter_eq_self.2 fun b hb => by have := h4 b hb (by omega); simpa using this
   rw [if_pos hx, e1, e2]
   simp only [join_items, il.1, il.2, hx, decide_true, if_true]
   rw [if_neg (by simp; omega)]
   simp
  ·rw [if_neg hx]
   have e1 : (items l).filter (fun a => decide (0 < at_ a)) = items l := List.filter_eq_self.2 fun a ha => by
    by_cases h0 : 0 < at_ a
    ·simpa using h0
    ·exact absurd (h3 a ha x List.mem_cons_self (by omega)) hx
   have e2 : (items l).filter (fun a => decide (at_ a < 0)) = [] := List.filter_eq_nil_iff.2 fun a ha => by
    have h9 := List.filter_eq_self.1 e1 a ha
    simp at h9 ⊢
    omega
   by_cases hp : 0 < at_ x
   ·rw [if_pos hp, e1, e2]
    simp only [join_items, ir.1, ir.2]
    simp [hp, hx]
   ·rw [if_neg hp, e1, e2]
    have hz : at_ x = 0 := by omega
    have e3 : (items r).filter (fun a => decide (0 < at_ a)) = [] := List.filter_eq_nil_iff.2 fun b hb => by have := h4 b hb (by omega); simp; omega
    have e4 : (items r).filter (fun a => decide (at_ a < 0)) = items r := List.filter_eq_self.2 fun b hb => by have := h4 b hb (by omega); simpa using this
    rw [e3, e4]
    simp [hz]

def cutLast (l : RT α) (x : α) : RT α → RT α × α
 | .nil => (l, x)
 | .node _ l2 x2 r2 => (join l x (cutLast l2 x2 r2).1, (cutLast l2 x2 r2).2)

theorem cutLast_items : ∀ (r : RT α) (l : RT α) (x : α), items (cutLast l x r).1 ++ [(cutLast l x r).2] = items l ++ x :: items r
 | .nil, _, _ => rfl
 | .node _ l2 x2 r2, l, x => by
  show items (join l x (cutLast l2 x2 r2).1) ++ [(cutLast l2 x2 r2).2] = _
  rw [join_items, List.append_assoc, List.cons_append, cutLast_items r2 l2 x2]
  rfl

theorem cutLast_well : ∀ (r : RT α) (l : RT α) (x : α), Well l → Well r → Well (cutLast l x r).1
 | .nil, _, _, hl, _ => hl
 | .node _ l2 x2 r2, _, x, hl, hr => join_well x hl (cutLast_well r2 l2 x2 hr.left hr.right)

def together : RT α → RT α → RT α
 | .nil, r => r
 | .node _ a x b, r => join (cutLast a x b).1 (cutLast a x b).2 r

theorem together_items (l r : RT α) : items (together l r) = items l ++ items r := by
 cases l with
 | nil => rfl
 | node c a x b =>
  show items (join _ _ r) = _
  rw [join_items]
  have h := cutLast_items b a x
  show _ = (items a ++ x :: items b) ++ items r
  rw [← h]
  simp

theorem together_well {l r : RT α} (hl : Well l) (hr : Well r) : Well (together l r) := by
 cases l with
 | nil => exact hr
 | node c a x b => exact join_well _ (cutLast_well b a x hl.left hl.right) hr

def with_ (at_ : α → Int) (x : α) (t : RT α) : RT α := join (split at_ t).1 x (split at_ t).2
def without (at_ : α → Int) (t : RT α) : RT α := together (split at_ t).1 (split at_ t).2

theorem with_well (at_ : α → Int) (x : α) {t : RT α} (h : Well t) : Well (with_ at_ x t) := join_well x (split_well at_ t h).1 (split_well at_ t h).2
theorem without_well (at_ : α → Int) {t : RT α} (h : Well t) : Well (without at_ t) := together_well (split_well at_ t h).1 (split_well at_ t h).2

theorem with_items (at_ : α → Int) (x : α) (t : RT α) (h : Falls at_ (items t)) : items (with_ at_ x t) = (items t).filter (fun a => decide (0 < at_ a)) ++ x :: (items t).filter (fun a => decide (at_ a < 0)) := by
 unfold with_
 rw [join_items, (split_items at_ t h).1, (split_items at_ t h).2]

theorem without_items (at_ : α → Int) (t : RT α) (h : Falls at_ (items t)) : items (without at_ t) = (items t).filter (fun a => decide (0 < at_ a)) ++ (items t).filter (fun a => decide (at_ a < 0)) := by
 unfold without
 rw [together_items, (split_items at_ t h).1, (split_items at_ t h).2]

theorem size_items : ∀ (t : RT α), size t = (items t).length
 | .nil => rfl
 | .node _ l x r => by
  show size l + 1 + size r = (items l ++ x :: items r).length
  rw [size_items l, size_items r, List.length_append, List.length_cons]
  omega

end RT

end Go.Proofs.YtlnecfjnffdciaaGreat

namespace Go.Proofs.YtlnecfjnffdciaaGreat
open Go.RowKit

namespace RT
variable {α : Type}

def grownOver : Nat → List α → RT α
 | 0, [] => .nil
 | 0, x :: _ => .node true .nil x .nil
 | f + 1, l => match l.drop (l.length / 2) with
  | [] => .nil
  | x :: r => .node false (grownOver f (l.take (l.length / 2))) x (grownOver f r)

theorem grownOver_items : ∀ (f : Nat) (l : List α), l.length + 1 ≤ 2 ^ (f + 1) → items (grownOver f l) = l
 | 0, [], _ => rfl
 | 0, [x], _ => rfl
 | 0, x :: y :: l, h => by simp at h
 | f + 1, l, h => by
  unfold grownOver
  have hp : (2 : Nat) ^ (f + 1 + 1) = 2 * 2 ^ (f + 1) := by rw [Nat.pow_succ]; omega
  have ht := List.take_append_drop (l.length / 2) l
  have hd : (l.drop (l.length / 2)).length = l.length - l.length / 2 := List.length_drop
  split
  ·next e =>
   rw [e] at hd
   have h0 : l.length = 0 := by simp at hd; omega
   rw [List.length_eq_zero_iff.1 h0]
   rfl
  ·next x r e =>
   rw [e] at hd ht
   have hr : r.length + 1 = l.length - l.length / 2 := by simpa using hd
   show items (grownOver f _) ++ x :: items (grownOver f r) = l
   rw [grownOver_items f _ (by rw [List.length_take]; omega), grownOver_items f r (by omega)]
   exact ht

theorem grownOver_keeps : ∀ (f : Nat) (l : List α), 2 ^ f ≤ l.length + 1 → l.length + 1 ≤ 2 ^ (f + 1) → BH (grownOver f l) f ∧ NR (grownOver f l)
 | 0, [], _, _ => ⟨rfl, trivial⟩
 | 0, _ :: _, _, _ => ⟨⟨0, rfl, rfl, rfl⟩, fun _ => ⟨rfl, rfl⟩, trivial, trivial⟩
 | f + 1, l, h1, h2 => by
  unfold grownOver
  have hp : (2 : Nat) ^ (f + 1 + 1) = 2 * 2 ^ (f + 1) := by rw [Nat.pow_succ]; omega
  have hq : (2 : Nat) ^ (f + 1) = 2 * 2 ^ f := by rw [Nat.pow_succ]; omega
  have h3 : 0 < (2 : Nat) ^ f := Nat.two_pow_pos f
  have hd : (l.drop (l.length / 2)).length = l.length - l.length / 2 := List.length_drop
  split
  ·next e =>
   rw [e] at hd
   simp at hd
   omega
  ·next x r e =>
   rw [e] at hd
   have hr : r.length + 1 = l.length - l.length / 2 := by simpa using hd
   have hl : (l.take (l.length / 2)).length = l.length / 2 := by rw [List.length_take]; omega
   have ih1 := grownOver_keeps f (l.take (l.length / 2)) (by omega) (by omega)
   have ih2 := grownOver_keeps f r (by omega) (by omega)
   exact ⟨⟨f, by simp, ih1.1, ih2.1⟩, by simp, ih1.2, ih2.2⟩

theorem grownOver_well (f : Nat) (l : List α) (h1 : 2 ^ f ≤ l.length + 1) (h2 : l.length + 1 ≤ 2 ^ (f + 1)) : Well (grownOver f l) :=
 ⟨(grownOver_keeps f l h1 h2).2, f, (grownOver_keeps f l h1 h2).1⟩

def find (at_ : α → Int) : RT α → Option α
 | .nil => none
 | .node _ l x r => if at_ x = 0 then some x else if at_ x < 0 then find at_ l else find at_ r

theorem find_eq (at_ : α → Int) : ∀ (t : RT α), Falls at_ (items t) → find at_ t = (items t).find? (fun a => decide (at_ a = 0))
 | .nil, _ => rfl
 | .node _ l x r, h => by
  have h' : (items l ++ x :: items r).Pairwise (fun a b => at_ a ≤ 0 → at_ b < 0) := h
  obtain ⟨h1, h2, h3⟩ := List.pairwise_append.1 h'
  obtain ⟨h4, h5⟩ := List.pairwise_cons.1 h2
  show find at_ (.node _ l x r) = (items l ++ x :: items r).find? _
  unfold find
  rw [List.find?_append, List.find?_cons]
  by_cases hz : at_ x = 0
  ·have e1 : (items l).find? (fun a => decide (at_ a = 0)) = none := List.find?_eq_none.2 fun a ha => by
    have := fun h0 => h3 a ha x List.mem_cons_self h0
    simp
    omega
   rw [if_pos hz, e1]
   simp [hz]
  ·rw [if_neg hz]
   by_cases hx : at_ x < 0
   ·have e1 : (items r).find? (fun a => decide (at_ a = 0)) = none := List.find?_eq_none.2 fun b hb => by
     have := h4 b hb (by omega)
     simp
     omega
    rw [if_pos hx, find_eq at_ l h1, e1]
    simp [hz]
   ·have e1 : (items l).find? (fun a => decide (at_ a = 0)) = none := List.find?_eq_none.2 fun a ha => by
     have := fun h0 => h3 a ha x List.mem_cons_self h0
     simp
     omega
    rw [if_neg hx, find_eq at_ r h5, e1]
    simp [hz]

structure Cmp (cmp : α → α → Int) : Prop where
 flip : ∀ a b, cmp a b < 0 ↔ 0 < cmp b a
 trans : ∀ a b c, cmp a b ≤ 0 → cmp b c < 0 → cmp a c < 0

def Rises (cmp : α → α → Int) (l : List α) : Prop := l.Pairwise (fun a b => cmp a b < 0)

theorem Rises.falls {cmp : α → α → Int} (hc : Cmp cmp) {l : List α} (h : Rises cmp l) (x : α) : Falls (cmp x) l :=
 List.Pairwise.imp (fun {a b} hab h0 => hc.trans x a b h0 hab) h

end RT

end Go.Proofs.YtlnecfjnffdciaaGreat

namespace Go.Proofs.YtlnecfjnffdciaaGreat
open Go.RowKit

namespace RT
variable {α : Type}

theorem Cmp.irr {cmp : α → α → Int} (hc : Cmp cmp) (a : α) : ¬cmp a a < 0 := fun h => by have := (hc.flip a a).1 h; omega

theorem falls_parts (at_ : α → Int) : ∀ (l : List α), Falls at_ l → l = l.filter (fun a => decide (0 < at_ a)) ++ l.filter (fun a => decide (at_ a = 0)) ++ l.filter (fun a => decide (at_ a < 0))
 | [], _ => rfl
 | x :: l, h => by
  obtain ⟨h1, h2⟩ := List.pairwise_cons.1 h
  have ih := falls_parts at_ l h2
  by_cases hx : 0 < at_ x
  ·have e1 : ¬at_ x = 0 := by omega
   have e2 : ¬at_ x < 0 := by omega
   rw [List.filter_cons, List.filter_cons, List.filter_cons]
   simp only [hx, e1, e2, decide_true, decide_false, if_true]
   exact congrArg (x :: ·) ih
  ·have hb : ∀ b ∈ l, at_ b < 0 := fun b hb => h1 b hb (by omega)
   have f1 : l.filter (fun a => decide (0 < at_ a)) = [] := List.filter_eq_nil_iff.2 fun b h0 => by have := hb b h0; simp; omega
   have f2 : l.filter (fun a => decide (at_ a = 0)) = [] := List.filter_eq_nil_iff.2 fun b h0 => by have := hb b h0; simp; omega
   have f3 : l.filter (fun a => decide (at_ a < 0)) = l := List.filter_eq_self.2 fun b h0 => by have := hb b h0; simpa using this
   rw [List.filter_cons, List.filter_cons, List.filter_cons, f1, f2, f3]
   by_cases hz : at_ x = 0
   ·simp [hz]
   ·have hn : at_ x < 0 := by omega
    simp [hx, hz, hn]

theorem Rises.filter {cmp : α → α → Int} {l : List α} (h : Rises cmp l) (p : α → Bool) : Rises cmp (l.filter p) := List.Pairwise.filter p h

theorem rises_eq {cmp : α → α → Int} (hc : Cmp cmp) : ∀ (l m : List α), Rises cmp l → Rises cmp m → (∀ y, y ∈ l ↔ y ∈ m) → l = m
 | [], [], _, _, _ => rfl
 | [], b :: m, _, _, h => by
  have := (h b).2 List.mem_cons_self
  simp at this
 | a :: l, [], _, _, h => by
  have := (h a).1 List.mem_cons_self
  simp at this
 | a :: l, b :: m, hl, hm, h => by
  obtain ⟨l1, l2⟩ := List.pairwise_cons.1 hl
  obtain ⟨m1, m2⟩ := List.pairwise_cons.1 hm
  have e : a = b := by
   rcases List.mem_cons.1 ((h a).1 List.mem_cons_self) with e | ha
   ·exact e
   ·rcases List.mem_cons.1 ((h b).2 List.mem_cons_self) with e | hb
    ·exact e.symm
    ·have h1 := m1 a ha
     have h2 := l1 b hb
     have := (hc.flip a b).1 h2
     omega
  subst e
  refine congrArg (a :: ·) (rises_eq hc l m l2 m2 fun y => ?_)
  constructor
  ·intro hy
   rcases List.mem_cons.1 ((h y).1 (List.mem_cons_of_mem _ hy)) with rfl | h1
   ·exact absurd (l1 y hy) (hc.irr y)
   ·exact h1
  ·intro hy
   rcases List.mem_cons.1 ((h y).2 (List.mem_cons_of_mem _ hy)) with rfl | h1
   ·exact absurd (m1 y hy) (hc.irr y)
   ·exact h1

end RT

end Go.Proofs.YtlnecfjnffdciaaGreat

namespace Go.Proofs.YtlnecfjnffdciaaGreat
open Go.RowKit

namespace RT
variable {α : Type}

theorem with_rises {cmp : α → α → Int} (hc : Cmp cmp) {t : RT α} (h : Rises cmp (items t)) (x : α) : Rises cmp (items (with_ (cmp x) x t)) := by
 rw [with_items (cmp x) x t (h.falls hc x)]
 have k1 : ∀ y ∈ (items t).filter (fun a => decide (0 < cmp x a)), cmp y x < 0 := fun y hy => (hc.flip y x).2 (by simpa using (List.mem_filter.1 hy).2)
 have k2 : ∀ y ∈ (items t).filter (fun a => decide (cmp x a < 0)), cmp x y < 0 := fun y hy => by simpa using (List.mem_filter.1 hy).2
 refine List.pairwise_append.2 ⟨h.filter _, List.pairwise_cons.2 ⟨k2, h.filter _⟩, fun y hy z hz => ?_⟩
 rcases List.mem_cons.1 hz with rfl | hz
 ·exact k1 y hy
 ·have h1 := k1 y hy
  exact hc.trans y x z (by omega) (k2 z hz)

theorem mem_with {cmp : α → α → Int} (hc : Cmp cmp) {t : RT α} (h : Rises cmp (items t)) (x y : α) : y ∈ items (with_ (cmp x) x t) ↔ y = x ∨ (y ∈ items t ∧ cmp x y ≠ 0) := by
 rw [with_items (cmp x) x t (h.falls hc x), List.mem_append, List.mem_cons, List.mem_filter, List.mem_filter, decide_eq_true_eq, decide_eq_true_eq]
 constructor
 ·rintro (⟨h1, h2⟩ | h1 | ⟨h1, h2⟩)
  ·exact .inr ⟨h1, by omega⟩
  ·exact .inl h1
  ·exact .inr ⟨h1, by omega⟩
 ·rintro (h1 | ⟨h1, h2⟩)
  ·exact .inr (.inl h1)
  ·by_cases h0 : 0 < cmp x y
   ·exact .inl ⟨h1, h0⟩
   ·exact .inr (.inr ⟨h1, by omega⟩)

theorem without_eq {cmp : α → α → Int} (hc : Cmp cmp) {t : RT α} (h : Rises cmp (items t)) (x : α) : items (without (cmp x) t) = (items t).filter (fun y => decide (cmp x y ≠ 0)) := by
 have hf := h.falls hc x
 rw [without_items (cmp x) t hf]
 conv => rhs; rw [falls_parts (cmp x) (items t) hf]
 rw [List.filter_append, List.filter_append]
 have em : ((items t).filter (fun a => decide (cmp x a = 0))).filter (fun y => decide (cmp x y ≠ 0)) = [] := List.filter_eq_nil_iff.2 fun y hy => by
  have h0 : cmp x y = 0 := by simpa using (List.mem_filter.1 hy).2
  simp [h0]
 rw [em, List.append_nil]
 congr 1
 ·exact (List.filter_eq_self.2 fun y hy => by
   have h0 : 0 < cmp x y := by simpa using (List.mem_filter.1 hy).2
   simp
   omega).symm
 ·exact (List.filter_eq_self.2 fun y hy => by
   have h0 : cmp x y < 0 := by simpa using (List.mem_filter.1 hy).2
   simp
   omega).symm

end RT

end Go.Proofs.YtlnecfjnffdciaaGreat

