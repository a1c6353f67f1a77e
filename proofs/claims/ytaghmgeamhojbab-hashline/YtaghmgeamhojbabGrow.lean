/-
  From one world to another only blocks were laid and draws made.
-/
import Derived.WalkKit
import Derived.WalkSpells
import Derived.WalkLawsBesides
import Derived.Deep.Draws
namespace Go.Proofs.Ytaghmgeamhojbab
open Go.RowKit

/-- A value as a tree. -/
structure VT where
  kind : Int
  num : Int
  text : ByteArray
  items : List VT

def cmpI (a b : Int) : Int := if a < b then -1 else if b < a then 1 else 0

def cmpS (a b : ByteArray) : Int :=
  if Op.bytesLess a.toList b.toList then -1 else if (!Op.bytesLess a.toList b.toList && !(a.toList == b.toList)) then 1 else 0

def cmpL (f : VT → VT → Int) : List VT → List VT → Int
  | [], [] => 0
  | [], _ :: _ => -1
  | _ :: _, [] => 1
  | x :: xs, y :: ys => if f x y = 0 then cmpL f xs ys else f x y

def cmpN (c : VT → VT → Int) (a b : VT) : Int :=
  if a.kind ≠ b.kind then cmpI a.kind b.kind
  else if a.kind = 1 ∨ a.kind = 2 then cmpI a.num b.num
  else if a.kind = 3 then cmpS a.text b.text
  else if a.kind = 4 ∨ a.kind = 5 ∨ a.kind = 6 then cmpL c a.items b.items
  else 0

def cmpV : Nat → VT → VT → Int
  | 0 => cmpN fun _ _ => 0
  | d + 1 => cmpN (cmpV d)

/-- The slice 'v' holds the values 'l', no deeper than 'd'. -/
def Lies : Nat → World → List VT → Value → Prop
  | 0, _, l, v => l = [] ∧ ∃ a c, v = .slice a 0 c
  | d + 1, w, l, v => ∃ a c, v = .slice a l.length c ∧ (l.length ≤ c ∧ l.length ≤ 9223372036854775807) ∧
      (l ≠ [] → ∃ b o, a = some ⟨b, o, none⟩ ∧ ∀ (i : Nat) (h : i < l.length), ∃ u,
        w.cell? ⟨b, o + i * 4, none⟩ = some (.int .i64 (l[i]'h).kind) ∧ w.cell? ⟨b, o + i * 4 + 1, none⟩ = some (.int .i64 (l[i]'h).num) ∧
        w.cell? ⟨b, o + i * 4 + 2, none⟩ = some (.string (l[i]'h).text) ∧ w.cell? ⟨b, o + i * 4 + 3, none⟩ = some u ∧ Lies d w (l[i]'h).items u ∧ (l[i]'h).text.size ≤ 9223372036854775807)

/-- From w to w' blocks were laid and draws made, no more. -/
structure Grew (w w' : World) : Prop where
  below : Below w.heap.size w w'
  drawn : w.drawn ≤ w'.drawn

theorem Grew.refl (w : World) : Grew w w := ⟨Below.refl _ _, Nat.le_refl _⟩
theorem Grew.trans {a b c : World} (h : Grew a b) (k : Grew b c) : Grew a c := ⟨h.below.trans (k.below.mono h.below.size), Nat.le_trans h.drawn k.drawn⟩
theorem Grew.alloc {a w : World} (h : Grew a w) (o : Obj) : Grew a (w.alloc o) := ⟨h.below.alloc h.below.size o, h.drawn⟩
theorem Grew.drew {a w : World} (h : Grew a w) : Grew a w.drew := ⟨h.below.drew, Nat.le_trans h.drawn (Nat.le_succ _)⟩
theorem Grew.two (w : World) (o1 o2 : Obj) : Grew w ((w.alloc o1).alloc o2) := ((Grew.refl w).alloc o1).alloc o2

theorem cell_lt {w : World} {a : Addr} {v : Value} (hc : w.cell? a = some v) : a.block < w.heap.size := by
  by_cases hb : a.block < w.heap.size
  · exact hb
  · exfalso; unfold World.cell? at hc; rw [Array.getElem?_eq_none (by omega)] at hc; simp at hc

theorem cell_keeps {w w' : World} (h : Below w.heap.size w w') {a : Addr} {v : Value} (hc : w.cell? a = some v) : w'.cell? a = some v := by
  have hlt : a.block < w.heap.size := by
    by_cases hb : a.block < w.heap.size
    · exact hb
    · exfalso; unfold World.cell? at hc; rw [Array.getElem?_eq_none (by omega)] at hc; simp at hc
  rw [h.cell hlt]; exact hc

/-- A value lies in block b of its own. -/
structure Boxed (w : World) (b : Nat) (k n : Int) (s : ByteArray) (u : Value) : Prop where
  c0 : w.cell? ⟨b, 0, none⟩ = some (.int .i64 k)
  c1 : w.cell? ⟨b, 1, none⟩ = some (.int .i64 n)
  c2 : w.cell? ⟨b, 2, none⟩ = some (.string s)
  c3 : w.cell? ⟨b, 3, none⟩ = some u

theorem Boxed.keeps {w w' : World} {b : Nat} {k n : Int} {s : ByteArray} {u : Value} (h : Boxed w b k n s u) (hb : Below w.heap.size w w') : Boxed w' b k n s u :=
  ⟨cell_keeps hb h.c0, cell_keeps hb h.c1, cell_keeps hb h.c2, cell_keeps hb h.c3⟩

theorem boxed_alloc (w : World) (k n : Int) (s : ByteArray) (u : Value) (ty : Nat) : Boxed (w.alloc (.cells #[.int .i64 k, .int .i64 n, .string s, u] ty)) w.heap.size k n s u :=
  ⟨by simp, by simp, by simp, by simp⟩

theorem Lies.keeps {w w' : World} (h : Below w.heap.size w w') : ∀ (d : Nat) (l : List VT) (v : Value), Lies d w l v → Lies d w' l v := by
  intro d
  induction d with
  | zero => intro l v hl; exact hl
  | succ d ih =>
    intro l v hl
    obtain ⟨a, c, hv, hb, hr⟩ := hl
    refine ⟨a, c, hv, hb, fun hne => ?_⟩
    obtain ⟨b, o, ha, hall⟩ := hr hne
    refine ⟨b, o, ha, fun i hi => ?_⟩
    obtain ⟨u, h0, h1, h2, h3, h4, h5⟩ := hall i hi
    exact ⟨u, cell_keeps h h0, cell_keeps h h1, cell_keeps h h2, cell_keeps h h3, ih _ _ h4, h5⟩

/-- Whatever the depth, a slice of the list's length. -/
theorem Lies.slice {d : Nat} {w : World} {l : List VT} {v : Value} (h : Lies d w l v) : ∃ a c, v = .slice a l.length c ∧ l.length ≤ 9223372036854775807 := by
  cases d with
  | zero => obtain ⟨rfl, a, c, rfl⟩ := h; exact ⟨a, c, rfl, by simp⟩
  | succ d => obtain ⟨a, c, hv, hb, _⟩ := h; exact ⟨a, c, hv, hb.2⟩

theorem Lies.cap {d : Nat} {w : World} {l : List VT} {a : Option Addr} {n c : Nat} (h : Lies d w l (.slice a n c)) : l.length ≤ c := by
  cases d with
  | zero => obtain ⟨rfl, _⟩ := h; exact Nat.zero_le _
  | succ d => obtain ⟨a', c', hv, hb, _⟩ := h; injection hv with _ _ h3; subst h3; exact hb.1

/-- Deeper does no harm. -/
theorem Lies.deeper {w : World} : ∀ (d : Nat) (l : List VT) (v : Value), Lies d w l v → Lies (d + 1) w l v := by
  intro d
  induction d with
  | zero => intro l v h; obtain ⟨rfl, a, c, rfl⟩ := h; exact ⟨a, c, rfl, by simp, fun h => absurd rfl h⟩
  | succ d ih =>
    intro l v hl
    obtain ⟨a, c, hv, hb, hr⟩ := hl
    refine ⟨a, c, hv, hb, fun hne => ?_⟩
    obtain ⟨b, o, ha, hall⟩ := hr hne
    refine ⟨b, o, ha, fun i hi => ?_⟩
    obtain ⟨u, h0, h1, h2, h3, h4, h5⟩ := hall i hi
    exact ⟨u, h0, h1, h2, h3, ih _ _ h4, h5⟩

theorem Lies.atLeast {w : World} {d : Nat} {l : List VT} {v : Value} (h : Lies d w l v) : ∀ e, d ≤ e → Lies e w l v := by
  intro e he
  induction e with
  | zero => have : d = 0 := by omega
            subst this; exact h
  | succ e ih =>
    by_cases hd : d = e + 1
    · subst hd; exact h
    · exact Lies.deeper _ _ _ (ih (by omega))

theorem cmpL_step (f : VT → VT → Int) (l m : List VT) (j : Nat) (h1 : j < l.length) (h2 : j < m.length) :
    cmpL f (l.drop j) (m.drop j) = if f l[j] m[j] = 0 then cmpL f (l.drop (j + 1)) (m.drop (j + 1)) else f l[j] m[j] := by
  rw [List.drop_eq_getElem_cons h1, List.drop_eq_getElem_cons h2]; rfl

theorem cmpL_end (f : VT → VT → Int) (l m : List VT) (j : Nat) (h : l.length ≤ j ∨ m.length ≤ j) :
    cmpL f (l.drop j) (m.drop j) = if j < l.length then 1 else if j < m.length then -1 else 0 := by
  by_cases h1 : j < l.length
  · rw [List.drop_eq_getElem_cons h1, List.drop_eq_nil_of_le (as := m) (by omega)]; simp [cmpL, h1]
  · rw [List.drop_eq_nil_of_le (as := l) (by omega)]
    by_cases h2 : j < m.length
    · rw [List.drop_eq_getElem_cons h2]; simp [cmpL, h1, h2]
    · rw [List.drop_eq_nil_of_le (as := m) (by omega)]; simp [cmpL, h1, h2]

theorem cmpI_turn (a b : Int) : cmpI b a = - cmpI a b := by unfold cmpI; split <;> split <;> (try split) <;> omega

theorem cmpI_three (a b : Int) : cmpI a b = -1 ∨ cmpI a b = 0 ∨ cmpI a b = 1 := by unfold cmpI; split <;> (try split) <;> simp

theorem bl_irrefl : ∀ x : List UInt8, Op.bytesLess x x = false := by
  intro x
  induction x with
  | nil => rfl
  | cons a x ih => simp [Op.bytesLess, ih]

theorem bl_asym : ∀ x y : List UInt8, Op.bytesLess x y = true → Op.bytesLess y x = false := by
  intro x
  induction x with
  | nil => intro y h; cases y <;> simp [Op.bytesLess] at *
  | cons a x ih =>
    intro y h
    cases y with
    | nil => simp [Op.bytesLess] at h
    | cons b y =>
      simp [Op.bytesLess] at *
      rcases h with h | ⟨rfl, h⟩
      · exact ⟨UInt8.le_of_lt h, fun e => absurd h (by subst e; exact UInt8.lt_irrefl _)⟩
      · exact ⟨UInt8.le_refl _, fun _ => ih _ h⟩

theorem bl_total : ∀ x y : List UInt8, Op.bytesLess x y = false → x ≠ y → Op.bytesLess y x = true := by
  intro x
  induction x with
  | nil => intro y h hn; cases y with
    | nil => exact absurd rfl hn
    | cons b y => simp [Op.bytesLess] at h
  | cons a x ih =>
    intro y h hn
    cases y with
    | nil => rfl
    | cons b y =>
      simp [Op.bytesLess] at *
      obtain ⟨h1, h2⟩ := h
      by_cases e : a = b
      · subst e; right; exact ⟨rfl, ih _ (h2 rfl) (hn rfl)⟩
      · left; exact UInt8.lt_of_le_of_ne h1 (fun h => e h.symm)

theorem bl_trans : ∀ x y z : List UInt8, Op.bytesLess x y = true → Op.bytesLess y z = true → Op.bytesLess x z = true := by
  intro x
  induction x with
  | nil => intro y z h1 h2; cases z with
    | nil => cases y <;> simp [Op.bytesLess] at h2
    | cons c z => rfl
  | cons a x ih =>
    intro y z h1 h2
    cases y with
    | nil => simp [Op.bytesLess] at h1
    | cons b y =>
      cases z with
      | nil => simp [Op.bytesLess] at h2
      | cons c z =>
        simp [Op.bytesLess] at *
        rcases h1 with h1 | ⟨rfl, h1⟩
        · rcases h2 with h2 | ⟨rfl, h2⟩
          · left; exact UInt8.lt_trans h1 h2
          · left; exact h1
        · rcases h2 with h2 | ⟨rfl, h2⟩
          · left; exact h2
          · right; exact ⟨rfl, ih _ _ h1 h2⟩

theorem cmpS_turn (a b : ByteArray) : cmpS b a = - cmpS a b := by
  unfold cmpS
  cases h1 : Op.bytesLess a.toList b.toList <;> cases h2 : Op.bytesLess b.toList a.toList
  · by_cases e : a.toList = b.toList
    · simp [e]
    · exact absurd (bl_total _ _ h1 e) (by simp [h2])
  · have e : a.toList ≠ b.toList := fun e => by rw [e, bl_irrefl] at h2; cases h2
    simp [e]
  · have e : b.toList ≠ a.toList := fun e => by rw [e, bl_irrefl] at h1; cases h1
    simp [e]
  · exact absurd (bl_asym _ _ h1) (by simp [h2])

theorem cmpL_turn {f : VT → VT → Int} (hf : ∀ a b, f b a = - f a b) : ∀ l m, cmpL f m l = - cmpL f l m := by
  intro l
  induction l with
  | nil => intro m; cases m <;> simp [cmpL]
  | cons x l ih =>
    intro m
    cases m with
    | nil => simp [cmpL]
    | cons y m =>
      simp only [cmpL, hf x y, ih]
      by_cases e : f x y = 0 <;> simp [e]

theorem cmpN_turn {f : VT → VT → Int} (hf : ∀ a b, f b a = - f a b) (a b : VT) : cmpN f b a = - cmpN f a b := by
  unfold cmpN
  by_cases e : a.kind = b.kind
  · simp only [ne_eq, e, not_true_eq_false, if_false]
    by_cases h1 : b.kind = 1 ∨ b.kind = 2
    · simp only [h1, if_true]; exact cmpI_turn _ _
    · simp only [h1, if_false]
      by_cases h2 : b.kind = 3
      · simp only [h2, if_true]; exact cmpS_turn _ _
      · simp only [h2, if_false]
        by_cases h3 : b.kind = 4 ∨ b.kind = 5 ∨ b.kind = 6
        · simp only [h3, if_true]; exact cmpL_turn hf _ _
        · simp only [h3, if_false]; rfl
  · have e' : ¬ b.kind = a.kind := fun h => e h.symm
    simp only [ne_eq, e, e', not_false_eq_true, if_true]; exact cmpI_turn _ _

theorem cmpV_turn : ∀ (d : Nat) (a b : VT), cmpV d b a = - cmpV d a b := by
  intro d
  induction d with
  | zero => exact cmpN_turn fun _ _ => rfl
  | succ d ih => exact cmpN_turn ih

theorem cmpS_three (a b : ByteArray) : cmpS a b = -1 ∨ cmpS a b = 0 ∨ cmpS a b = 1 := by unfold cmpS; split <;> (try split) <;> simp

theorem cmpL_three {f : VT → VT → Int} (hf : ∀ a b, f a b = -1 ∨ f a b = 0 ∨ f a b = 1) : ∀ l m, cmpL f l m = -1 ∨ cmpL f l m = 0 ∨ cmpL f l m = 1 := by
  intro l
  induction l with
  | nil => intro m; cases m <;> simp [cmpL]
  | cons x l ih =>
    intro m
    cases m with
    | nil => simp [cmpL]
    | cons y m => simp only [cmpL]; split; exact ih m; exact hf x y

theorem cmpN_three {f : VT → VT → Int} (hf : ∀ a b, f a b = -1 ∨ f a b = 0 ∨ f a b = 1) (a b : VT) : cmpN f a b = -1 ∨ cmpN f a b = 0 ∨ cmpN f a b = 1 := by
  unfold cmpN
  split; exact cmpI_three _ _
  split; exact cmpI_three _ _
  split; exact cmpS_three _ _
  split; exact cmpL_three hf _ _
  simp

theorem cmpV_three : ∀ (d : Nat) (a b : VT), cmpV d a b = -1 ∨ cmpV d a b = 0 ∨ cmpV d a b = 1 := by
  intro d
  induction d with
  | zero => exact cmpN_three fun _ _ => by simp
  | succ d ih => exact cmpN_three ih

theorem cmpV_range (d : Nat) (a b : VT) : -1 ≤ cmpV d a b ∧ cmpV d a b ≤ 1 := by rcases cmpV_three d a b with h | h | h <;> omega

end Go.Proofs.Ytaghmgeamhojbab

namespace Go.Proofs.Ytaghmgeamhojbab
open Go.RowKit

theorem Grew.drewN {a w : World} (h : Grew a w) (n : Nat) : Grew a (w.drewN n) := ⟨⟨h.below.os, h.below.tape, h.below.output, h.below.size, h.below.block⟩, Nat.le_trans h.drawn (Nat.le_add_right _ _)⟩

/-- From w to w' only draws were made. -/
def Drawn (w w' : World) : Prop := ∃ n, w' = w.drewN n
theorem Drawn.refl (w : World) : Drawn w w := ⟨0, rfl⟩
theorem Drawn.n (w : World) (n : Nat) : Drawn w (w.drewN n) := ⟨n, rfl⟩
theorem Drawn.two (w : World) (n m : Nat) : Drawn w ((w.drewN n).drewN m) := ⟨n + m, World.drewN_drewN _ _ _⟩
theorem Drawn.trans {a b c : World} (h : Drawn a b) (k : Drawn b c) : Drawn a c := by
  obtain ⟨n, rfl⟩ := h
  obtain ⟨m, rfl⟩ := k
  exact Drawn.two a n m
theorem Drawn.grew {a b : World} (h : Drawn a b) : Grew a b := by
  obtain ⟨n, rfl⟩ := h
  exact (Grew.refl a).drewN n

end Go.Proofs.Ytaghmgeamhojbab

