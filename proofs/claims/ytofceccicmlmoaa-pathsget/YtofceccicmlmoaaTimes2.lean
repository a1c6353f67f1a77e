/-
  The contracts of Times and One, at right arguments.
-/
import Derived.Test.YtofceccicmlmoaaFun
import Derived.Test.YtofceccicmlmoaaLetters
import Derived.Lib.MapLaws
import Derived.Test.YtofceccicmlmoaaVList
import Derived.Test.YtofceccicmlmoaaSameEq
import Derived.Test.YtofceccicmlmoaaLevel
import Derived.Test.YtofceccicmlmoaaLastP
import Derived.Test.YtofceccicmlmoaaSame
import Derived.Test.YtofceccicmlmoaaRotate
namespace Go.Proofs.Ytofceccicmlmoaa
open Go.RowKit Go.PlainAid

theorem fwL_mono {f g : VT → Int → Bool × Int} (hf : ∀ x m, 0 ≤ m → 0 ≤ (f x m).2) (h : ∀ x m m', 0 ≤ m → m ≤ m' → (f x m).1 = true → (g x m').1 = true ∧ (g x m').2 = (f x m).2 + (m' - m)) :
    ∀ (l : List VT) (n n' : Int), 0 ≤ n → n ≤ n' → (fwL f l n).1 = true → (fwL g l n').1 = true ∧ (fwL g l n').2 = (fwL f l n).2 + (n' - n) := by
  intro l
  induction l with
  | nil => intro n n' _ _ _; exact ⟨rfl, by show n' = n + (n' - n); omega⟩
  | cons x l ih =>
    intro n n' h0 hn hh
    unfold fwL at hh ⊢
    by_cases hx : (f x n).1 = true
    · rw [if_pos hx] at hh ⊢
      obtain ⟨g1, g2⟩ := h x n n' h0 hn hx
      rw [if_pos g1]
      have h1 := hf x n h0
      obtain ⟨i1, i2⟩ := ih (f x n).2 (g x n').2 h1 (by omega) hh
      exact ⟨i1, by omega⟩
    · rw [if_neg hx] at hh; cases hh

theorem fw_mono : ∀ (d : Nat) (t : VT) (lv lv' n n' : Int), 0 ≤ n → lv ≤ lv' → n ≤ n' → (fw d t lv n).1 = true → (fw d t lv' n').1 = true ∧ (fw d t lv' n').2 = (fw d t lv n).2 + (n' - n) := by
  intro d
  induction d with
  | zero =>
    intro t lv lv' n n' h0 hl hn hh
    unfold fw at hh ⊢
    by_cases hx : lv < 0 ∨ n = 0
    · rw [if_pos hx] at hh; cases hh
    · rw [if_neg hx, if_neg (by omega)]; exact ⟨rfl, by show n' - 1 = n - 1 + (n' - n); omega⟩
  | succ d ih =>
    intro t lv lv' n n' h0 hl hn hh
    unfold fw at hh ⊢
    by_cases hx : lv < 0 ∨ n = 0
    · rw [if_pos hx] at hh; cases hh
    · rw [if_neg hx] at hh ⊢
      rw [if_neg (by omega)]
      have := fwL_mono (f := fun x m => fw d x (lv - 1) m) (g := fun x m => fw d x (lv' - 1) m) (fun x m hm => (fw_range d x _ m hm).1) (fun x m m' hm hmm hb => ih x (lv - 1) (lv' - 1) m m' hm (by omega) hmm hb) t.items (n - 1) (n' - 1) (by omega) (by omega) hh
      exact ⟨this.1, by omega⟩

theorem fw_items {d : Nat} {t : VT} {lv n : Int} (h : (fw (d + 1) t lv n).1 = true) : ¬ (lv < 0 ∨ n = 0) ∧ (fwL (fun x m => fw d x (lv - 1) m) t.items (n - 1)).1 = true := by
  unfold fw at h
  by_cases hx : lv < 0 ∨ n = 0
  · rw [if_pos hx] at h; cases h
  · rw [if_neg hx] at h; exact ⟨hx, h⟩

theorem rp_succ {d : Nat} {t : VT} (h : rpV (d + 1) t = true) : (∀ x ∈ t.items, rpV d x = true) ∧ ownV d t = true := by
  unfold rpV at h
  rw [Bool.and_eq_true, List.all_eq_true] at h
  exact h

/-- An item of a right value is right. -/
theorem item_right {t x : VT} (hr : rightV 16 t = true) (hd : Dp 16 t) (hx : x ∈ t.items) : rightV 16 x = true ∧ Dp 16 x := by
  have hdx : Dp 15 x := hd x hx
  refine ⟨?_, hdx.up⟩
  rw [rightV_eq x hdx (by omega)]
  simp only [rightV, Bool.and_eq_true] at hr ⊢
  have hrp := rp_succ (d := 15) hr.2
  refine ⟨?_, hrp.1 x hx⟩
  obtain ⟨_, h2⟩ := fw_items hr.1
  obtain ⟨_, _, i3⟩ := fwL_len (f := fun x m => fw 15 x ((16 : Int) - 1) m) (fun x m hm => (fw_range 15 x _ m hm).1) (fun x m hm hb => fw_less 15 x _ m hm hb) t.items (1024 - 1) (by omega) h2
  obtain ⟨m, m1, m2, m3⟩ := i3 x hx
  exact (fw_mono 15 x (16 - 1) 16 m 1024 m1 (by omega) (by omega) m3).1

theorem nil_right : rightV 16 nilT = true := by
  simp [rightV, fw, fwL, rpV, ownV, okNum, okText, okItems, nilT]

theorem right_len {t : VT} (hr : rightV 16 t = true) : t.items.length ≤ 1024 := by
  have h := hr
  simp only [rightV, Bool.and_eq_true] at h
  exact (fw_small 16 t 16 1024 (by omega) (by omega) h.1).1

theorem right_size {t : VT} (hr : rightV 16 t = true) : t.text.size ≤ 256 := (right_text (rp_succ (d := 15) (right_rp hr)).2).1

end Go.Proofs.Ytofceccicmlmoaa

namespace Go.Proofs.Ytofceccicmlmoaa
open Go.RowKit

theorem nil_dp : Dp 16 nilT := fun x hx => by cases hx

/-- Every second one, from the first on: a map's keys. -/
def keysOf : List VT → List VT
  | k :: _ :: r => k :: keysOf r
  | _ => []

/-- How many of a rising list stand ahead of s. -/
def upN (s : VT) (ks : List VT) : Nat := (ks.takeWhile fun k => decide (cmpV 16 k s < 0)).length

/-- Is s among them? -/
def hasN (s : VT) (ks : List VT) : Bool := match ks[upN s ks]? with | some k => cmpV 16 k s == 0 | none => false

def Up16 (ks : List VT) : Prop := ks.Pairwise fun a b => cmpV 16 a b < 0

theorem cmp_lt_le {a b c : VT} (h1 : cmpV 16 a b < 0) (h2 : cmpV 16 b c ≤ 0) : cmpV 16 a c < 0 := by
  have h := goes_V 16 a b c (by omega) h2
  have := h.2
  by_cases e : cmpV 16 a c = 0
  · have := (h.2 e).1; omega
  · have := h.1; omega

theorem upN_le (s : VT) (ks : List VT) : upN s ks ≤ ks.length := (List.takeWhile_sublist _).length_le

theorem upN_cons (s k : VT) (ks : List VT) : upN s (k :: ks) = if cmpV 16 k s < 0 then upN s ks + 1 else 0 := by
  unfold upN
  by_cases h : cmpV 16 k s < 0
  · rw [List.takeWhile_cons_of_pos (by simpa using h), if_pos h]; rfl
  · rw [List.takeWhile_cons_of_neg (by simpa using h), if_neg h]; rfl

theorem upN_lo (s : VT) : ∀ (ks : List VT) (t : Nat) (h : t < ks.length), t < upN s ks → cmpV 16 ks[t] s < 0 := by
  intro ks
  induction ks with
  | nil => intro t h; simp at h
  | cons k ks ih =>
    intro t h hu
    rw [upN_cons] at hu
    by_cases hk : cmpV 16 k s < 0
    · rw [if_pos hk] at hu
      cases t with
      | zero => simpa using hk
      | succ t => simpa using ih t (by simpa using h) (by omega)
    · rw [if_neg hk] at hu; omega

theorem upN_hi (s : VT) : ∀ (ks : List VT), Up16 ks → ∀ (t : Nat) (h : t < ks.length), upN s ks ≤ t → ¬ cmpV 16 ks[t] s < 0 := by
  intro ks
  induction ks with
  | nil => intro _ t h; simp at h
  | cons k ks ih =>
    intro hp t h hu
    have hp2 := List.pairwise_cons.1 hp
    rw [upN_cons] at hu
    by_cases hk : cmpV 16 k s < 0
    · rw [if_pos hk] at hu
      cases t with
      | zero => omega
      | succ t => simpa using ih hp2.2 t (by simpa using h) (by omega)
    · cases t with
      | zero => simpa using hk
      | succ t =>
        intro hc
        have hlt : t < ks.length := by simpa using h
        have h1 := hp2.1 (ks[t]'hlt) (List.getElem_mem _)
        have hc : cmpV 16 (ks[t]'hlt) s < 0 := by simpa using hc
        exact hk (cmp_lt_le h1 (by omega))

theorem hasN_of {s : VT} {ks : List VT} (h : upN s ks < ks.length) : hasN s ks = (cmpV 16 ks[upN s ks] s == 0) := by
  unfold hasN
  rw [List.getElem?_eq_getElem h]

theorem hasN_none {s : VT} {ks : List VT} (h : ¬ upN s ks < ks.length) : hasN s ks = false := by
  unfold hasN
  rw [List.getElem?_eq_none (by omega)]

theorem hasN_lt {s : VT} {ks : List VT} (h : hasN s ks = true) : upN s ks < ks.length := by
  by_cases hl : upN s ks < ks.length
  · exact hl
  · rw [hasN_none hl] at h; cases h

/-- With s put between. -/
theorem upN_put (s : VT) : ∀ ks : List VT, upN s (ks.take (upN s ks) ++ s :: ks.drop (upN s ks)) = upN s ks := by
  intro ks
  induction ks with
  | nil => show upN s [s] = 0; rw [upN_cons, cmpV_self]; simp
  | cons k ks ih =>
    rw [upN_cons]
    by_cases hk : cmpV 16 k s < 0
    · rw [if_pos hk]
      simp only [List.take_succ_cons, List.drop_succ_cons, List.cons_append]
      rw [upN_cons, if_pos hk, ih]
    · rw [if_neg hk]
      simp only [List.take_zero, List.drop_zero, List.nil_append]
      rw [upN_cons, cmpV_self]; simp

theorem hasN_put (s : VT) (ks : List VT) : hasN s (ks.take (upN s ks) ++ s :: ks.drop (upN s ks)) = true := by
  have hl : (ks.take (upN s ks)).length = upN s ks := by rw [List.length_take]; have := upN_le s ks; omega
  unfold hasN
  rw [upN_put, List.getElem?_append_right (by omega), hl, Nat.sub_self]
  simp [cmpV_self]

theorem up_put {s : VT} {ks : List VT} (h : Up16 ks) (hn : hasN s ks = false) : Up16 (ks.take (upN s ks) ++ s :: ks.drop (upN s ks)) := by
  unfold Up16 at *
  have hdrop : ∀ k ∈ ks.drop (upN s ks), cmpV 16 s k < 0 := by
    intro k hk
    obtain ⟨j, hj, rfl⟩ := List.mem_iff_getElem.1 hk
    rw [List.length_drop] at hj
    rw [List.getElem_drop]
    have h1 := upN_hi s ks h (upN s ks + j) (by omega) (by omega)
    have ht := cmpV_turn 16 s (ks[upN s ks + j]'(by omega))
    by_cases hz : cmpV 16 (ks[upN s ks + j]'(by omega)) s = 0
    · exfalso
      cases j with
      | zero =>
        have := hasN_of (s := s) (ks := ks) (by omega)
        rw [hn] at this
        simp only [Nat.add_zero] at hz
        rw [hz] at this
        cases this
      | succ j =>
        have h2 := List.pairwise_iff_getElem.1 h (upN s ks) (upN s ks + (j + 1)) (by omega) (by omega) (by omega)
        have h3 := upN_hi s ks h (upN s ks) (by omega) (Nat.le_refl _)
        exact h3 (cmp_lt_le h2 (by omega))
    · omega
  have htake : ∀ k ∈ ks.take (upN s ks), cmpV 16 k s < 0 := by
    intro k hk
    obtain ⟨j, hj, rfl⟩ := List.mem_iff_getElem.1 hk
    rw [List.length_take] at hj
    rw [List.getElem_take]
    exact upN_lo s ks j (by omega) (by omega)
  refine List.pairwise_append.2 ⟨h.sublist (List.take_sublist _ _), List.pairwise_cons.2 ⟨hdrop, h.sublist (List.drop_sublist _ _)⟩, fun a ha b hb => ?_⟩
  rcases List.mem_cons.1 hb with rfl | hb
  · exact htake a ha
  · exact cmp_lt_le (htake a ha) (by have := hdrop b hb; omega)

theorem keysOf_get : ∀ (l : List VT) (i : Nat), 2 * i + 1 < l.length → (keysOf l)[i]? = l[2 * i]?
  | [], i, h => by simp at h
  | [_], i, h => by simp at h
  | k :: v :: r, 0, _ => rfl
  | k :: v :: r, i + 1, h => by
    have := keysOf_get r i (by simp at h; omega)
    rw [show 2 * (i + 1) = 2 * i + 1 + 1 by omega]
    simp only [keysOf, List.getElem?_cons_succ]
    exact this

theorem keysOf_len : ∀ (l : List VT), (keysOf l).length = l.length / 2
  | [] => rfl
  | [_] => by simp [keysOf]
  | k :: v :: r => by
    have := keysOf_len r
    simp only [keysOf, List.length_cons, this]; omega

theorem keysOf_set : ∀ (l : List VT) (n : Nat) (y : VT), keysOf (l.set (2 * n + 1) y) = keysOf l
  | [], n, y => rfl
  | [a], n, y => by rw [List.set_cons_succ]; rfl
  | k :: v :: r, 0, y => rfl
  | k :: v :: r, n + 1, y => by
    rw [show 2 * (n + 1) + 1 = (2 * n + 1) + 1 + 1 by omega, List.set_cons_succ, List.set_cons_succ]
    simp only [keysOf, keysOf_set r n y]

theorem keysOf_put : ∀ (l : List VT) (n : Nat) (a b : VT), 2 * n ≤ l.length → keysOf (l.take (2 * n) ++ a :: b :: l.drop (2 * n)) = (keysOf l).take n ++ a :: (keysOf l).drop n
  | [], n, a, b, h => by
    have : n = 0 := by simp at h; omega
    subst this; rfl
  | [x], n, a, b, h => by
    have : n = 0 := by simp at h; omega
    subst this; rfl
  | k :: v :: r, 0, a, b, h => rfl
  | k :: v :: r, n + 1, a, b, h => by
    have := keysOf_put r n a b (by simp at h; omega)
    rw [show 2 * (n + 1) = 2 * n + 1 + 1 by omega]
    simp only [List.take_succ_cons, List.drop_succ_cons, List.cons_append, keysOf, this]

/-- Where the part s stands among the items, and whether there is one. -/
def plcI (t s : VT) : Int := if t.kind = 0 ∨ t.kind = 6 then ((2 * upN s (keysOf t.items) + 1 : Nat) : Int) else if t.kind = 4 then s.num else if t.kind = 5 then (upN s t.items : Int) else 0
def plcB (t s : VT) : Bool := if t.kind = 0 ∨ t.kind = 6 then hasN s (keysOf t.items) else if t.kind = 4 then (s.kind == 2 && (decide (0 ≤ s.num) && decide (s.num < (t.items.length : Int)))) else if t.kind = 5 then hasN s t.items else false

/-- What stands at a path. -/
def atT : VT → List VT → Option VT
  | t, [] => some t
  | t, s :: r => if plcB t s = true then (match t.items[(plcI t s).toNat]? with | some x => atT x r | none => none) else none

/-- A map's items with a key s. -/
def keyed (s : VT) (l : List VT) : List VT := if hasN s (keysOf l) = true then l else l.take (2 * upN s (keysOf l)) ++ s :: nilT :: l.drop (2 * upN s (keysOf l))

/-- A value with a part s, and where it stands. -/
def opnT (t s : VT) : Option (VT × Nat) :=
  if t.kind = 0 ∨ t.kind = 6 then some (⟨6, t.num, t.text, keyed s t.items⟩, 2 * upN s (keysOf t.items) + 1)
  else if t.kind = 4 then (if s.kind = 2 ∧ s.num = (t.items.length : Int) then some (⟨4, t.num, t.text, t.items ++ [nilT]⟩, t.items.length) else if plcB t s = true then some (t, s.num.toNat) else none)
  else none

def VT.putI (t : VT) (i : Nat) (y : VT) : VT := ⟨t.kind, t.num, t.text, t.items.set i y⟩

/-- A value with x at a path. -/
def putT : VT → List VT → VT → Option VT
  | _, [], x => some x
  | t, s :: r, x => match opnT t s with
    | none => none
    | some (t', i) => match t'.items[i]? with
      | none => none
      | some y => match putT y r x with
        | none => none
        | some z => some (t'.putI i z)

theorem plcB_lt {t s : VT} (hev : t.kind = 0 ∨ t.kind = 6 → t.items.length % 2 = 0) (h : plcB t s = true) : 0 ≤ plcI t s ∧ (plcI t s).toNat < t.items.length := by
  unfold plcB at h
  unfold plcI
  by_cases h0 : t.kind = 0 ∨ t.kind = 6
  · rw [if_pos h0] at h ⊢
    have := hasN_lt h
    rw [keysOf_len] at this
    have := hev h0
    omega
  · rw [if_neg h0] at h ⊢
    by_cases h4 : t.kind = 4
    · rw [if_pos h4] at h ⊢
      simp only [Bool.and_eq_true, decide_eq_true_eq] at h
      omega
    · rw [if_neg h4] at h ⊢
      by_cases h5 : t.kind = 5
      · rw [if_pos h5] at h ⊢
        have := hasN_lt h
        omega
      · rw [if_neg h5] at h; cases h

/-- Behind opening the part is there, and stays there whatever is laid into it. -/
theorem opn_there {t s t' : VT} {i : Nat} (h : opnT t s = some (t', i)) (hev : t.kind = 0 ∨ t.kind = 6 → t.items.length % 2 = 0) :
    i < t'.items.length ∧ (t'.kind = 0 ∨ t'.kind = 6 → t'.items.length % 2 = 0) ∧ (∀ y, plcB (t'.putI i y) s = true ∧ plcI (t'.putI i y) s = (i : Int)) ∧ (∀ y, opnT (t'.putI i y) s = some (t'.putI i y, i)) ∧ (t'.items[i]? = some nilT ∨ ∃ x ∈ t.items, t'.items[i]? = some x) := by
  unfold opnT at h
  by_cases h0 : t.kind = 0 ∨ t.kind = 6
  · rw [if_pos h0] at h
    injection h with h
    injection h with h1 h2
    subst h1
    subst h2
    have hev := hev h0
    have hle := upN_le s (keysOf t.items)
    rw [keysOf_len] at hle
    have hkey : upN s (keysOf (keyed s t.items)) = upN s (keysOf t.items) ∧ hasN s (keysOf (keyed s t.items)) = true ∧ 2 * upN s (keysOf t.items) + 1 < (keyed s t.items).length ∧ (keyed s t.items).length % 2 = 0 ∧ ((keyed s t.items)[2 * upN s (keysOf t.items) + 1]? = some nilT ∨ ∃ x ∈ t.items, (keyed s t.items)[2 * upN s (keysOf t.items) + 1]? = some x) := by
      unfold keyed
      by_cases hh : hasN s (keysOf t.items) = true
      · rw [if_pos hh]
        have hlt := hasN_lt hh
        rw [keysOf_len] at hlt
        have hl2 : 2 * upN s (keysOf t.items) + 1 < t.items.length := by omega
        exact ⟨rfl, hh, hl2, hev, .inr ⟨_, List.getElem_mem hl2, List.getElem?_eq_getElem hl2⟩⟩
      · rw [if_neg hh, keysOf_put _ _ _ _ (by omega)]
        have hl3 : (t.items.take (2 * upN s (keysOf t.items))).length = 2 * upN s (keysOf t.items) := by rw [List.length_take]; omega
        refine ⟨upN_put _ _, hasN_put _ _, ?_, ?_, .inl ?_⟩
        · simp; omega
        · simp; omega
        · rw [List.getElem?_append_right (by omega), hl3, show 2 * upN s (keysOf t.items) + 1 - 2 * upN s (keysOf t.items) = 0 + 1 by omega, List.getElem?_cons_succ]; rfl
    obtain ⟨k1, k2, k3, k4, k5⟩ := hkey
    refine ⟨k3, fun _ => k4, fun y => ?_, fun y => ?_, k5⟩
    · unfold plcB plcI VT.putI
      simp only [or_true, if_true]
      rw [keysOf_set, k1, k2]
      exact ⟨rfl, rfl⟩
    · unfold opnT VT.putI
      simp only [or_true, if_true]
      rw [keysOf_set, k1]
      unfold keyed
      simp only [keysOf_set]
      rw [if_pos (by exact k2)]
  · rw [if_neg h0] at h
    by_cases h4 : t.kind = 4
    · rw [if_pos h4] at h
      by_cases he : s.kind = 2 ∧ s.num = (t.items.length : Int)
      · rw [if_pos he] at h
        injection h with h
        injection h with h1 h2
        subst h1
        subst h2
        have hB : ∀ y, plcB ((⟨4, t.num, t.text, t.items ++ [nilT]⟩ : VT).putI t.items.length y) s = true := by
          intro y
          unfold plcB VT.putI
          simp [he.1, he.2]
          omega
        refine ⟨by simp, fun k => by rcases k with k | k <;> simp at k, fun y => ⟨hB y, ?_⟩, fun y => ?_, .inl (by simp)⟩
        · unfold plcI VT.putI
          simp [he.2]
        · have hB := hB y
          unfold opnT
          rw [if_neg (by simp [VT.putI]), if_pos (by simp [VT.putI]), if_neg (by simp [VT.putI, he.2]; omega), if_pos hB, he.2]
          rfl
      · rw [if_neg he] at h
        by_cases hb : plcB t s = true
        · rw [if_pos hb] at h
          injection h with h
          injection h with h1 h2
          subst h1
          subst h2
          have hp : plcI t s = s.num := by unfold plcI; rw [if_neg h0, if_pos h4]
          have hl := plcB_lt hev hb
          rw [hp] at hl
          have hB : ∀ y, plcB (t.putI s.num.toNat y) s = true := by
            intro y
            unfold plcB VT.putI at *
            rw [if_neg h0, if_pos h4] at hb ⊢
            simp only [List.length_set]
            exact hb
          refine ⟨hl.2, fun k => absurd k h0, fun y => ⟨hB y, ?_⟩, fun y => ?_, .inr ⟨_, List.getElem_mem hl.2, List.getElem?_eq_getElem hl.2⟩⟩
          · unfold plcI VT.putI
            rw [if_neg h0, if_pos h4]
            show s.num = _
            omega
          · have hB := hB y
            unfold opnT
            rw [if_neg (by exact h0), if_pos (by exact h4), if_neg (by simp only [VT.putI, List.length_set]; exact he), if_pos hB]
        · rw [if_neg hb] at h; cases h
    · rw [if_neg h4] at h; cases h

end Go.Proofs.Ytofceccicmlmoaa

namespace Go.Proofs.Ytofceccicmlmoaa
open Go.RowKit

theorem ris_adj (f : VT → VT → Int) (s : Nat) (l : List VT) : ∀ (b j : Nat), risF f s l b j = true → ∀ (m : Nat), m < b → (h : j + m * s + s < l.length) → f (l[j + m * s]'(by omega)) (l[j + m * s + s]) < 0 := by
  intro b
  induction b with
  | zero => intro j _ m hm; omega
  | succ b ih =>
    intro j h m hm hl
    have h0 : j + s < l.length := by
      have := Nat.le_add_left 0 (m * s); omega
    rw [risF_step f s l b j (by omega) h0] at h
    by_cases h1 : 0 ≤ f (l[j]'(by omega)) l[j + s]
    · rw [if_pos h1] at h; cases h
    · rw [if_neg h1] at h
      cases m with
      | zero =>
        have e1 : l[j + 0 * s]'(by omega) = l[j]'(by omega) := by congr 1; omega
        have e2 : l[j + 0 * s + s]'(by omega) = l[j + s]'(by omega) := by congr 1; omega
        rw [e1, e2]; omega
      | succ m =>
        have e0 : j + (m + 1) * s = j + s + m * s := by rw [Nat.succ_mul]; omega
        have := ih (j + s) h m (by omega) (by omega)
        have e1 : l[j + (m + 1) * s]'(by omega) = l[j + s + m * s]'(by omega) := by congr 1
        have e2 : l[j + (m + 1) * s + s]'(by omega) = l[j + s + m * s + s]'(by omega) := by congr 1; omega
        rw [e1, e2]; exact this

theorem up_of_adj : ∀ (ks : List VT), (∀ i (h : i + 1 < ks.length), cmpV 16 (ks[i]'(by omega)) ks[i + 1] < 0) → Up16 ks := by
  intro ks
  induction ks with
  | nil => intro _; exact List.Pairwise.nil
  | cons k ks ih =>
    intro h
    have hp := ih (fun i hi => by have := h (i + 1) (by simpa using hi); simpa using this)
    refine List.pairwise_cons.2 ⟨fun x hx => ?_, hp⟩
    cases ks with
    | nil => cases hx
    | cons k2 ks =>
      have h1 : cmpV 16 k k2 < 0 := by have := h 0 (by simp); simpa using this
      rcases List.mem_cons.1 hx with rfl | hx
      · exact h1
      · exact cmp_lt_le h1 (by have := (List.pairwise_cons.1 hp).1 x hx; omega)

theorem even_iff (n : Nat) : ((n : Int) % 2 == 0) = true ↔ n % 2 = 0 := by
  rw [beq_iff_eq]; omega

theorem items_six {d : Nat} {t : VT} (h : t.kind = 6) : okItems d t = ((t.items.length : Int) % 2 == 0 && risF (cmpV d) 2 t.items t.items.length 0) := by
  unfold okItems; rw [h]; rfl
theorem items_five {d : Nat} {t : VT} (h : t.kind = 5) : okItems d t = risF (cmpV d) 1 t.items t.items.length 0 := by
  unfold okItems; rw [h]; rfl

theorem own_items {t : VT} (hr : rightV 16 t = true) (hd : Dp 16 t) : okItems 16 t = true := by
  have ho := (rp_succ (d := 15) (right_rp hr)).2
  rw [okItems_congr (d := 16) (e := 15) (fun x hx y hy => cmpV_up 15 x y (hd x hx) (hd y hy))]
  simp only [ownV, Bool.and_eq_true] at ho
  exact ho.2.2.2.2

/-- A right map's keys rise, and it has as many values. -/
theorem map_keys {t : VT} (hr : rightV 16 t = true) (hd : Dp 16 t) (hk : t.kind = 6) : t.items.length % 2 = 0 ∧ Up16 (keysOf t.items) := by
  have ho := own_items hr hd
  rw [items_six hk, Bool.and_eq_true] at ho
  have he : t.items.length % 2 = 0 := (even_iff _).1 ho.1
  refine ⟨he, up_of_adj _ (fun i hi => ?_)⟩
  rw [keysOf_len] at hi
  have h := ris_adj (cmpV 16) 2 t.items t.items.length 0 ho.2 i (by omega) (by omega)
  have e1 : (keysOf t.items)[i]? = t.items[2 * i]? := keysOf_get _ i (by omega)
  have e2 : (keysOf t.items)[i + 1]? = t.items[2 * (i + 1)]? := keysOf_get _ (i + 1) (by omega)
  rw [List.getElem?_eq_getElem (by rw [keysOf_len]; omega), List.getElem?_eq_getElem (by omega)] at e1 e2
  injection e1 with e1
  injection e2 with e2
  rw [e1, e2]
  have a1 : t.items[0 + i * 2]'(by omega) = t.items[2 * i]'(by omega) := by congr 1; omega
  have a2 : t.items[0 + i * 2 + 2]'(by omega) = t.items[2 * (i + 1)]'(by omega) := by congr 1; omega
  rw [← a1, ← a2]; exact h

theorem set_items {t : VT} (hr : rightV 16 t = true) (hd : Dp 16 t) (hk : t.kind = 5) : Up16 t.items := by
  have ho := own_items hr hd
  rw [items_five hk] at ho
  refine up_of_adj _ (fun i hi => ?_)
  have h := ris_adj (cmpV 16) 1 t.items t.items.length 0 ho i (by omega) (by omega)
  have a1 : t.items[0 + i * 1]'(by omega) = t.items[i]'(by omega) := by congr 1; omega
  have a2 : t.items[0 + i * 1 + 1]'(by omega) = t.items[i + 1]'(by omega) := by congr 1; omega
  rw [← a1, ← a2]; exact h

theorem leaf_items {t : VT} (hr : rightV 16 t = true) (h4 : t.kind ≠ 4) (h5 : t.kind ≠ 5) (h6 : t.kind ≠ 6) : t.items = [] := by
  have ho := (rp_succ (d := 15) (right_rp hr)).2
  exact List.length_eq_zero_iff.1 ((own_facts ho).2.2.2.2 h4 h5 h6)

theorem right_even (t : VT) (hd : Dp 16 t) (hr : rightV 16 t = true) (hk : t.kind = 0 ∨ t.kind = 6) : t.items.length % 2 = 0 := by
  rcases hk with hk | hk
  · rw [leaf_items hr (by omega) (by omega) (by omega)]; rfl
  · exact (map_keys hr hd hk).1

theorem right_up {t : VT} (hr : rightV 16 t = true) (hd : Dp 16 t) (hk : t.kind = 0 ∨ t.kind = 6) : Up16 (keysOf t.items) := by
  rcases hk with hk | hk
  · rw [leaf_items hr (by omega) (by omega) (by omega)]; exact List.Pairwise.nil
  · exact (map_keys hr hd hk).2

theorem ris_keys (l : List VT) (he : l.length % 2 = 0) (h : Up16 (keysOf l)) : ∀ b k, risF (cmpV 16) 2 l b (2 * k) = true := by
  intro b
  induction b with
  | zero => intro k; rfl
  | succ b ih =>
    intro k
    by_cases hj : 2 * k + 2 < l.length
    · rw [risF_step (cmpV 16) 2 l b (2 * k) (by omega) hj]
      have e1 : (keysOf l)[k]? = l[2 * k]? := keysOf_get _ k (by omega)
      have e2 : (keysOf l)[k + 1]? = l[2 * (k + 1)]? := keysOf_get _ (k + 1) (by omega)
      have hl := keysOf_len l
      rw [List.getElem?_eq_getElem (by omega), List.getElem?_eq_getElem (by omega)] at e1 e2
      injection e1 with e1
      injection e2 with e2
      have := (List.pairwise_iff_getElem.1 h) k (k + 1) (by omega) (by omega) (by omega)
      rw [e1, e2] at this
      have a2 : l[2 * k + 2]'hj = l[2 * (k + 1)]'(by omega) := by congr 1
      rw [a2, if_neg (by omega)]
      exact ih (k + 1)
    · exact risF_end _ _ _ _ _ hj

theorem own_mk {d : Nat} {k n : Int} {tx : ByteArray} {l : List VT} (hk : k = 4 ∨ k = 6) (hn : n = 0) (ht : tx.toList = []) (hi : okItems d ⟨k, n, tx, l⟩ = true) : ownV d ⟨k, n, tx, l⟩ = true := by
  rcases hk with rfl | rfl <;> subst hn <;> simp [ownV, okNum, okText, ht, hi]

theorem fw_any {d e : Nat} (t : VT) (ht : Dp d t) (h : d ≤ e) (lv n : Int) : fw e t lv n = fw d t lv n := by
  induction e with
  | zero => have : d = 0 := by omega
            subst this; rfl
  | succ e ih =>
    by_cases hd : d = e + 1
    · subst hd; rfl
    · rw [fw_up e t lv n (ht.mono (by omega)), ih (by omega)]

theorem keyed_mem {s : VT} {l : List VT} {u : VT} (h : u ∈ keyed s l) : u ∈ l ∨ u = s ∨ u = nilT := by
  unfold keyed at h
  split at h
  · exact .inl h
  · rcases List.mem_append.1 h with h | h
    · exact .inl (List.mem_of_mem_take h)
    · rcases List.mem_cons.1 h with h | h
      · exact .inr (.inl h)
      · rcases List.mem_cons.1 h with h | h
        · exact .inr (.inr h)
        · exact .inl (List.mem_of_mem_drop h)

theorem opn_mem {t s t' : VT} {i : Nat} (h : opnT t s = some (t', i)) : ∀ u ∈ t'.items, u ∈ t.items ∨ u = s ∨ u = nilT := by
  intro u hu
  unfold opnT at h
  split at h
  · injection h with h; injection h with h1 h2; subst h1; exact keyed_mem hu
  · split at h
    · split at h
      · injection h with h; injection h with h1 h2; subst h1
        rcases List.mem_append.1 hu with hu | hu
        · exact .inl hu
        · exact .inr (.inr (by simpa using hu))
      · split at h
        · injection h with h; injection h with h1 h2; subst h1; exact .inl hu
        · cases h
    · cases h

/-- What is put is right in all its parts. -/
theorem put_right : ∀ (p : List VT) (t x z : VT), (∀ s ∈ p, rightV 16 s = true) → rightV 16 t = true → Dp 16 t → rightV 16 x = true → Dp 16 x → putT t p x = some z → Dp 16 z → rpV 16 z = true := by
  intro p
  induction p with
  | nil => intro t x z _ _ _ hx _ h _; injection h with h; subst h; exact right_rp hx
  | cons s r ih =>
    intro t x z hp hr hd hx hdx h hz
    unfold putT at h
    cases ho : opnT t s with
    | none => rw [ho] at h; cases h
    | some q =>
      obtain ⟨t', i⟩ := q
      rw [ho] at h
      obtain ⟨k1, k2, k3, k4, k5⟩ := opn_there ho (right_even t hd hr)
      simp only at h
      rw [List.getElem?_eq_getElem k1] at h k5
      simp only at h
      cases hq : putT t'.items[i] r x with
      | none => rw [hq] at h; cases h
      | some y =>
        rw [hq] at h
        injection h with h
        subst h
        have hy : rightV 16 t'.items[i] = true ∧ Dp 16 t'.items[i] := by
          rcases k5 with k5 | ⟨u, hu, k5⟩
          · injection k5 with k5; rw [k5]; exact ⟨nil_right, nil_dp⟩
          · injection k5 with k5; rw [k5]; exact item_right hr hd hu
        have hz : ∀ u ∈ t'.items.set i y, Dp 15 u := hz
        have hyz : Dp 15 y := hz y (by
          have := List.getElem_mem (l := t'.items.set i y) (n := i) (by simpa using k1)
          simpa using this)
        have hry := ih _ x y (fun s hs => hp s (List.mem_cons_of_mem _ hs)) hy.1 hy.2 hx hdx hq hyz.up
        have hs := hp s List.mem_cons_self
        have hrt := rp_succ (d := 15) (right_rp hr)
        have hall : (t'.items.set i y).all (rpV 15) = true := by
          rw [List.all_eq_true]
          intro u hu
          have hdu := hz u hu
          rcases List.mem_or_eq_of_mem_set hu with h | h
          · rcases opn_mem ho u h with h | h | h
            · exact hrt.1 u h
            · subst h; rw [← rpV_up 15 u hdu]; exact right_rp hs
            · subst h; rw [← rpV_up 15 nilT hdu]; exact right_rp nil_right
          · subst h; rw [← rpV_up 15 u hdu]; exact hry
        have hf := own_facts hrt.2
        have hown : ownV 15 (t'.putI i y) = true := by
          unfold opnT at ho
          by_cases h0 : t.kind = 0 ∨ t.kind = 6
          · rw [if_pos h0] at ho
            injection ho with ho
            injection ho with e1 e2
            subst e1
            subst e2
            refine own_mk (.inr rfl) (hf.2.2.1 (by omega) (by omega)) (hf.2.2.2.1 (by omega)) ?_
            rw [okItems_congr (d := 15) (e := 16) (fun x hx y hy => (cmpV_up 15 x y (hz x hx) (hz y hy)).symm)]
            have hev := k2 (.inr rfl)
            have hup : Up16 (keysOf (keyed s t.items)) := by
              unfold keyed
              by_cases hh : hasN s (keysOf t.items) = true
              · rw [if_pos hh]; exact right_up hr hd h0
              · rw [if_neg hh, keysOf_put _ _ _ _ (by have := upN_le s (keysOf t.items); rw [keysOf_len] at this; omega)]
                exact up_put (right_up hr hd h0) (by simpa using hh)
            have := ris_keys ((keyed s t.items).set (2 * upN s (keysOf t.items) + 1) y) (by simpa using hev) (by rw [keysOf_set]; exact hup) ((keyed s t.items).set (2 * upN s (keysOf t.items) + 1) y).length 0
            rw [items_six rfl, Bool.and_eq_true]
            refine ⟨(even_iff _).2 ?_, this⟩
            show ((keyed s t.items).set (2 * upN s (keysOf t.items) + 1) y).length % 2 = 0
            rw [List.length_set]
            exact hev
          · rw [if_neg h0] at ho
            by_cases h4 : t.kind = 4
            · have hk4 : t'.kind = 4 ∧ t'.num = t.num ∧ t'.text = t.text := by
                rw [if_pos h4] at ho
                split at ho
                · injection ho with ho; injection ho with e1 e2; subst e1; exact ⟨rfl, rfl, rfl⟩
                · split at ho
                  · injection ho with ho; injection ho with e1 e2; subst e1; exact ⟨h4, rfl, rfl⟩
                  · cases ho
              refine own_mk (.inl hk4.1) (by rw [hk4.2.1]; exact hf.2.2.1 (by omega) (by omega)) (by rw [hk4.2.2]; exact hf.2.2.2.1 (by omega)) ?_
              unfold okItems
              simp [hk4.1]
            · rw [if_neg h4] at ho; cases ho
        show ((t'.items.set i y).all (rpV 15) && ownV 15 (t'.putI i y)) = true
        rw [hall, hown]; rfl

theorem put_fits {p : List VT} {t x z : VT} (hp : ∀ s ∈ p, rightV 16 s = true) (hr : rightV 16 t = true) (hd : Dp 16 t) (hx : rightV 16 x = true) (hdx : Dp 16 x) (h : putT t p x = some z) {D : Nat} (hD : 16 ≤ D) (hdz : Dp D z) (hf : (fw D z 16 1024).1 = true) : rightV 16 z = true ∧ Dp 16 z := by
  have h16 : Dp 16 z := fw_deep D z 16 1024 (by omega) hf hdz
  refine ⟨?_, h16⟩
  unfold rightV
  rw [← fw_any z h16 hD, hf, put_right p t x z hp hr hd hx hdx h h16]; rfl

theorem at_right : ∀ (p : List VT) (t x : VT), rightV 16 t = true → Dp 16 t → atT t p = some x → rightV 16 x = true ∧ Dp 16 x := by
  intro p
  induction p with
  | nil => intro t x hr hd h; injection h with h; subst h; exact ⟨hr, hd⟩
  | cons s r ih =>
    intro t x hr hd h
    unfold atT at h
    split at h
    · cases hx : t.items[(plcI t s).toNat]? with
      | none => rw [hx] at h; cases h
      | some u =>
        rw [hx] at h
        have := item_right hr hd (List.mem_of_getElem? hx)
        exact ih u x this.1 this.2 h
    · cases h

end Go.Proofs.Ytofceccicmlmoaa

namespace Go.Proofs.Ytofceccicmlmoaa
open Go.RowKit

/-- A value without the part in a place of its items; of a map the key goes, too. -/
def wotT (t : VT) (i : Nat) : VT :=
  if t.kind = 6 then ⟨t.kind, t.num, t.text, t.items.take (i - 1) ++ t.items.drop (i + 1)⟩
  else if t.kind = 4 ∨ t.kind = 5 then ⟨t.kind, t.num, t.text, t.items.take i ++ t.items.drop (i + 1)⟩
  else t

/-- A value without what stands at a path that leads there; none: it leads through a set. -/
def dropT : VT → List VT → Option VT
  | _, [] => none
  | t, [s] => some (wotT t (plcI t s).toNat)
  | t, s :: q :: r => if t.kind = 5 then none else match t.items[(plcI t s).toNat]? with
    | none => none
    | some y => match dropT y (q :: r) with
      | none => none
      | some z => some (t.putI (plcI t s).toNat z)

theorem dropT_more (t s q : VT) (r : List VT) : dropT t (s :: q :: r) = if t.kind = 5 then none else match t.items[(plcI t s).toNat]? with
    | none => none
    | some y => match dropT y (q :: r) with
      | none => none
      | some z => some (t.putI (plcI t s).toNat z) := by
  conv => lhs; unfold dropT

/-- What is put under a key that is there, or in a place that is there, takes the part's place. -/
theorem put_there {t s : VT} (h : plcB t s = true) : (t.kind = 0 ∨ t.kind = 6 → opnT t s = some (⟨6, t.num, t.text, t.items⟩, (plcI t s).toNat)) ∧ (t.kind = 4 → opnT t s = some (t, (plcI t s).toNat)) := by
  refine ⟨fun h0 => ?_, fun h4 => ?_⟩
  · have eB : plcB t s = hasN s (keysOf t.items) := by unfold plcB; rw [if_pos h0]
    have eI : (plcI t s).toNat = 2 * upN s (keysOf t.items) + 1 := by unfold plcI; rw [if_pos h0]; rfl
    rw [eB] at h
    unfold opnT
    rw [if_pos h0, eI]
    unfold keyed
    rw [if_pos h]
  · have eB : plcB t s = (s.kind == 2 && (decide (0 ≤ s.num) && decide (s.num < (t.items.length : Int)))) := by unfold plcB; rw [if_neg (by omega), if_pos h4]
    have eI : plcI t s = s.num := by unfold plcI; rw [if_neg (by omega), if_pos h4]
    have hb := h
    rw [eB] at h
    simp only [Bool.and_eq_true, decide_eq_true_eq] at h
    unfold opnT
    rw [if_neg (by omega), if_pos h4, if_neg (fun e => by have := e.2; omega), if_pos hb, eI]

/-- A map's keys without one. -/
theorem keysOf_wot : ∀ (l : List VT) (n : Nat), l.length % 2 = 0 → 2 * n + 1 < l.length → keysOf (l.take (2 * n) ++ l.drop (2 * n + 2)) = (keysOf l).take n ++ (keysOf l).drop (n + 1)
  | [], n, _, h => by simp at h
  | [_], n, h, _ => by simp at h
  | k :: v :: r, 0, _, _ => rfl
  | k :: v :: r, n + 1, he, h => by
    have := keysOf_wot r n (by simp at he; omega) (by simp at h; omega)
    rw [show 2 * (n + 1) = 2 * n + 1 + 1 by omega]
    simp only [List.take_succ_cons, List.drop_succ_cons, List.cons_append, keysOf]
    rw [this]

theorem up_wot {ks : List VT} (h : Up16 ks) (n : Nat) : Up16 (ks.take n ++ ks.drop (n + 1)) := by
  unfold Up16 at *
  have hs : (ks.take n ++ ks.drop (n + 1)).Sublist ks := by
    have h1 : (ks.drop (n + 1)).Sublist (ks.drop n) := by
      have := List.drop_sublist 1 (ks.drop n)
      rwa [List.drop_drop] at this
    have h2 := List.Sublist.append (List.Sublist.refl (ks.take n)) h1
    rwa [List.take_append_drop] at h2
  exact h.sublist hs

theorem ris_ones (l : List VT) (h : Up16 l) : ∀ b k, risF (cmpV 16) 1 l b k = true := by
  intro b
  induction b with
  | zero => intro k; rfl
  | succ b ih =>
    intro k
    by_cases hj : k + 1 < l.length
    · rw [risF_step (cmpV 16) 1 l b k (by omega) hj]
      have := (List.pairwise_iff_getElem.1 h) k (k + 1) (by omega) hj (by omega)
      rw [if_neg (by omega)]
      exact ih (k + 1)
    · exact risF_end _ _ _ _ _ hj

theorem own_mk5 {d : Nat} {k n : Int} {tx : ByteArray} {l : List VT} (hk : k = 4 ∨ k = 5 ∨ k = 6) (hn : n = 0) (ht : tx.toList = []) (hi : okItems d ⟨k, n, tx, l⟩ = true) : ownV d ⟨k, n, tx, l⟩ = true := by
  rcases hk with rfl | rfl | rfl <;> subst hn <;> simp [ownV, okNum, okText, ht, hi]

theorem take_drop_mem {l : List VT} {i j : Nat} {u : VT} (h : u ∈ l.take i ++ l.drop j) : u ∈ l := by
  rcases List.mem_append.1 h with h | h
  · exact List.mem_of_mem_take h
  · exact List.mem_of_mem_drop h

theorem wot_mem {t u : VT} {i : Nat} (h : u ∈ (wotT t i).items) : u ∈ t.items := by
  unfold wotT at h
  split at h
  · exact take_drop_mem h
  · split at h
    · exact take_drop_mem h
    · exact h

/-- A right value without a part is right in all its parts. -/
theorem wot_right {t s : VT} (hr : rightV 16 t = true) (hd : Dp 16 t) (hB : plcB t s = true) : Dp 16 (wotT t (plcI t s).toNat) ∧ rpV 16 (wotT t (plcI t s).toNat) = true := by
  have hdz : ∀ u ∈ (wotT t (plcI t s).toNat).items, Dp 15 u := fun u hu => hd u (wot_mem hu)
  refine ⟨hdz, ?_⟩
  have hrt := rp_succ (d := 15) (right_rp hr)
  have hf := own_facts hrt.2
  have hall : (wotT t (plcI t s).toNat).items.all (rpV 15) = true := by
    rw [List.all_eq_true]
    intro u hu
    exact hrt.1 u (wot_mem hu)
  have hown : ownV 15 (wotT t (plcI t s).toNat) = true := by
    by_cases h6 : t.kind = 6
    · obtain ⟨hev, hup⟩ := map_keys hr hd h6
      have eB : plcB t s = hasN s (keysOf t.items) := by unfold plcB; rw [if_pos (.inr h6)]
      have eI : (plcI t s).toNat = 2 * upN s (keysOf t.items) + 1 := by unfold plcI; rw [if_pos (.inr h6)]; rfl
      rw [eB] at hB
      have hlt := hasN_lt hB
      rw [keysOf_len] at hlt
      have ez : wotT t (plcI t s).toNat = ⟨t.kind, t.num, t.text, t.items.take (2 * upN s (keysOf t.items)) ++ t.items.drop (2 * upN s (keysOf t.items) + 2)⟩ := by
        unfold wotT
        rw [if_pos h6, eI, show 2 * upN s (keysOf t.items) + 1 - 1 = 2 * upN s (keysOf t.items) by omega]
      rw [ez] at hdz ⊢
      refine own_mk5 (.inr (.inr h6)) (hf.2.2.1 (by omega) (by omega)) (hf.2.2.2.1 (by omega)) ?_
      rw [okItems_congr (d := 15) (e := 16) (fun x hx y hy => (cmpV_up 15 x y (hdz x hx) (hdz y hy)).symm)]
      have hlen : (t.items.take (2 * upN s (keysOf t.items)) ++ t.items.drop (2 * upN s (keysOf t.items) + 2)).length % 2 = 0 := by
        rw [List.length_append, List.length_take, List.length_drop]; omega
      rw [items_six (t := ⟨t.kind, t.num, t.text, t.items.take (2 * upN s (keysOf t.items)) ++ t.items.drop (2 * upN s (keysOf t.items) + 2)⟩) h6, Bool.and_eq_true]
      exact ⟨(even_iff _).2 hlen, ris_keys _ hlen (by rw [keysOf_wot _ _ hev (by omega)]; exact up_wot hup _) _ 0⟩
    · by_cases h5 : t.kind = 5
      · have hup := set_items hr hd h5
        have ez : wotT t (plcI t s).toNat = ⟨t.kind, t.num, t.text, t.items.take (plcI t s).toNat ++ t.items.drop ((plcI t s).toNat + 1)⟩ := by
          unfold wotT
          rw [if_neg h6, if_pos (.inr h5)]
        rw [ez] at hdz ⊢
        refine own_mk5 (.inr (.inl h5)) (hf.2.2.1 (by omega) (by omega)) (hf.2.2.2.1 (by omega)) ?_
        rw [okItems_congr (d := 15) (e := 16) (fun x hx y hy => (cmpV_up 15 x y (hdz x hx) (hdz y hy)).symm)]
        rw [items_five (t := ⟨t.kind, t.num, t.text, t.items.take (plcI t s).toNat ++ t.items.drop ((plcI t s).toNat + 1)⟩) h5]
        exact ris_ones _ (up_wot hup _) _ 0
      · by_cases h4 : t.kind = 4
        · have ez : wotT t (plcI t s).toNat = ⟨t.kind, t.num, t.text, t.items.take (plcI t s).toNat ++ t.items.drop ((plcI t s).toNat + 1)⟩ := by
            unfold wotT
            rw [if_neg h6, if_pos (.inl h4)]
          rw [ez]
          refine own_mk5 (.inl h4) (hf.2.2.1 (by omega) (by omega)) (hf.2.2.2.1 (by omega)) ?_
          unfold okItems
          simp [h4]
        · have ez : wotT t (plcI t s).toNat = t := by
            unfold wotT
            rw [if_neg h6, if_neg (by omega)]
          rw [ez]
          exact hrt.2
  show ((wotT t (plcI t s).toNat).items.all (rpV 15) && ownV 15 (wotT t (plcI t s).toNat)) = true
  rw [hall, hown]; rfl

/-- A part in a place that is there is put anew: right, if the part is. -/
theorem putI_right {t s z : VT} (hr : rightV 16 t = true) (hd : Dp 16 t) (hB : plcB t s = true) (h5 : t.kind ≠ 5) (hz : Dp 15 z) (hrz : rpV 15 z = true) : Dp 16 (t.putI (plcI t s).toNat z) ∧ rpV 16 (t.putI (plcI t s).toNat z) = true := by
  have hq := plcB_lt (right_even t hd hr) hB
  have hdz : ∀ u ∈ t.items.set (plcI t s).toNat z, Dp 15 u := fun u hu => by
    rcases List.mem_or_eq_of_mem_set hu with h | h
    · exact hd u h
    · rw [h]; exact hz
  refine ⟨hdz, ?_⟩
  have hrt := rp_succ (d := 15) (right_rp hr)
  have hf := own_facts hrt.2
  have hall : (t.items.set (plcI t s).toNat z).all (rpV 15) = true := by
    rw [List.all_eq_true]
    intro u hu
    rcases List.mem_or_eq_of_mem_set hu with h | h
    · exact hrt.1 u h
    · rw [h]; exact hrz
  have hown : ownV 15 (t.putI (plcI t s).toNat z) = true := by
    by_cases h6 : t.kind = 6
    · obtain ⟨hev, hup⟩ := map_keys hr hd h6
      have eI : (plcI t s).toNat = 2 * upN s (keysOf t.items) + 1 := by unfold plcI; rw [if_pos (.inr h6)]; rfl
      refine own_mk5 (.inr (.inr h6)) (hf.2.2.1 (by omega) (by omega)) (hf.2.2.2.1 (by omega)) ?_
      rw [okItems_congr (d := 15) (e := 16) (fun x hx y hy => (cmpV_up 15 x y (hdz x hx) (hdz y hy)).symm)]
      rw [items_six (t := ⟨t.kind, t.num, t.text, t.items.set (plcI t s).toNat z⟩) h6, Bool.and_eq_true]
      refine ⟨(even_iff _).2 (by show (t.items.set (plcI t s).toNat z).length % 2 = 0; rw [List.length_set]; exact hev), ?_⟩
      refine ris_keys (t.items.set (plcI t s).toNat z) (by rw [List.length_set]; exact hev) ?_ _ 0
      rw [eI, keysOf_set]; exact hup
    · by_cases h4 : t.kind = 4
      · refine own_mk5 (.inl h4) (hf.2.2.1 (by omega) (by omega)) (hf.2.2.2.1 (by omega)) ?_
        unfold okItems
        simp [h4]
      · exfalso
        have := leaf_items hr h4 h5 h6
        rw [this] at hq
        exact absurd hq.2 (by simp)
  show ((t.items.set (plcI t s).toNat z).all (rpV 15) && ownV 15 (t.putI (plcI t s).toNat z)) = true
  rw [hall, hown]; rfl

/-- What stands at the first step of a path that leads somewhere. -/
theorem at_first {t s : VT} {r : List VT} (hr : rightV 16 t = true) (hd : Dp 16 t) (h : (atT t (s :: r)).isSome = true) : plcB t s = true ∧ ∃ h : (plcI t s).toNat < t.items.length, (atT (t.items[(plcI t s).toNat]'h) r).isSome = true := by
  unfold atT at h
  by_cases hB : plcB t s = true
  · rw [if_pos hB] at h
    have hq := (plcB_lt (right_even t hd hr) hB).2
    rw [List.getElem?_eq_getElem hq] at h
    exact ⟨hB, hq, h⟩
  · rw [if_neg hB] at h; cases h

theorem wot_dp {d : Nat} {t : VT} {i : Nat} (h : Dp d t) : Dp d (wotT t i) := by
  cases d with
  | zero =>
    have h0 : t.items = [] := h
    exact List.eq_nil_iff_forall_not_mem.2 fun u hu => by have := wot_mem hu; rw [h0] at this; cases this
  | succ d => exact fun u hu => h u (wot_mem hu)

/-- What is dropped leaves no value deeper. -/
theorem drop_dp : ∀ (p : List VT) (d : Nat) (t z : VT), Dp d t → dropT t p = some z → Dp d z := by
  intro p
  induction p with
  | nil => intro d t z _ h; cases h
  | cons s r ih =>
    intro d t z hd h
    cases r with
    | nil => injection h with h; subst h; exact wot_dp hd
    | cons q r =>
      rw [dropT_more] at h
      by_cases h5 : t.kind = 5
      · rw [if_pos h5] at h; cases h
      · rw [if_neg h5] at h
        cases hy : t.items[(plcI t s).toNat]? with
        | none => rw [hy] at h; cases h
        | some y =>
          rw [hy] at h
          simp only at h
          cases hx : dropT y (q :: r) with
          | none => rw [hx] at h; cases h
          | some x =>
            rw [hx] at h
            injection h with h
            subst h
            cases d with
            | zero => rw [show t.items = [] from hd] at hy; cases hy
            | succ d =>
              intro u hu
              rcases List.mem_or_eq_of_mem_set hu with hu | hu
              · exact hd u hu
              · subst hu
                exact ih d y u (hd y (List.mem_of_getElem? hy)) hx

/-- What is left of a right value is right in all its parts. -/
theorem drop_right : ∀ (p : List VT) (t z : VT), rightV 16 t = true → Dp 16 t → (atT t p).isSome = true → dropT t p = some z → Dp 16 z ∧ rpV 16 z = true := by
  intro p
  induction p with
  | nil => intro t z _ _ _ h; cases h
  | cons s r ih =>
    intro t z hr hd ha h
    obtain ⟨hB, hq, ha2⟩ := at_first hr hd ha
    cases r with
    | nil => injection h with h; subst h; exact wot_right hr hd hB
    | cons q r =>
      rw [dropT_more] at h
      by_cases h5 : t.kind = 5
      · rw [if_pos h5] at h; cases h
      · rw [if_neg h5, List.getElem?_eq_getElem hq] at h
        simp only at h
        cases hx : dropT t.items[(plcI t s).toNat] (q :: r) with
        | none => rw [hx] at h; cases h
        | some x =>
          rw [hx] at h
          injection h with h
          subst h
          have hm := List.getElem_mem hq
          have hr2 := item_right hr hd hm
          have hx15 := drop_dp _ 15 _ _ (hd _ hm) hx
          have hi := ih _ x hr2.1 hr2.2 ha2 hx
          exact putI_right hr hd hB h5 hx15 (by rw [← rpV_up 15 x hx15]; exact hi.2)

/-- Where the document puts what is left. -/
theorem put_one {t s z : VT} (hr : rightV 16 t = true) (hB : plcB t s = true) (hq : (plcI t s).toNat < t.items.length) (h5 : t.kind ≠ 5) : putT t [s] z = some (t.putI (plcI t s).toNat z) := by
  by_cases h06 : t.kind = 0 ∨ t.kind = 6
  · have hk : t.kind = 6 := by
      rcases h06 with h0 | h6
      · exfalso
        have := leaf_items hr (by omega) (by omega) (by omega)
        rw [this] at hq
        exact absurd hq (by simp)
      · exact h6
    have ho := (put_there hB).1 h06
    unfold putT
    rw [ho]
    simp only [List.getElem?_eq_getElem hq]
    show some ((⟨6, t.num, t.text, t.items⟩ : VT).putI _ z) = _
    unfold VT.putI
    rw [hk]
  · by_cases h4 : t.kind = 4
    · have ho := (put_there hB).2 h4
      unfold putT
      rw [ho]
      simp only [List.getElem?_eq_getElem hq]
      rfl
    · exfalso
      have := leaf_items hr h4 h5 (by omega)
      rw [this] at hq
      exact absurd hq (by simp)

end Go.Proofs.Ytofceccicmlmoaa

namespace Go.Proofs.Ytofceccicmlmoaa
open Go.RowKit Go.Shelf

theorem rsame26_any (t s : VT) (x y : Value) (w : World) (hx : Lies 16 w t.items x) (hy : Lies 16 w s.items y) : Calls Try.prog 78 #[.agg #[.int .i64 t.kind, .int .i64 t.num, .string t.text, x], .agg #[.int .i64 s.kind, .int .i64 s.num, .string s.text, y]] w fun e w' => e = .returned (.bool (cmpV 16 t s == 0)) ∧ Below w.heap.size w w' := by
  obtain ⟨ax, cx, rfl, _⟩ := Lies.slice hx
  obtain ⟨ay, cy, rfl, _⟩ := Lies.slice hy
  have HX : Hid (Lies 16 w t.items (.slice ax t.items.length cx)) := hx
  have HY : Hid (Lies 16 w s.items (.slice ay s.items.length cy)) := hy
  clear hx hy
  go_enter Try.func78, Try.ntmps78
  go_wp2_with fail
  refine (ref_any 16 t s _ _ _ (Lies.keeps (Grew.two _ _ _).below _ _ _ HX.out) (Lies.keeps (Grew.two _ _ _).below _ _ _ HY.out)).mono ?_
  rintro e w1 ⟨rfl, hb⟩
  have hb1 : Below w.heap.size w w1 := (Grew.two w _ _).below.trans (hb.mono (by simp; omega))
  clear hb
  go_wp2_with fail
  go_ret
  exact ⟨rfl, hb1⟩

end Go.Proofs.Ytofceccicmlmoaa

namespace Go.Proofs.Ytofceccicmlmoaa
open Go.RowKit

/-- A value, in new memory, and a number are told. -/
def VPost (s : VT) (r : Int) (W : World) (e : Ending) (W' : World) : Prop :=
  ∃ u, e = .returned (.tuple #[.agg #[.int .i64 s.kind, .int .i64 s.num, .string s.text, u], .int .i64 r]) ∧ LiesX (fun b => W.heap.size ≤ b) 16 W' s.items u ∧ Below W.heap.size W W'

theorem vPost_nil {r : Int} {W W' : World} (h : Below W.heap.size W W') : VPost nilT r W (.returned (.tuple #[.agg #[.int .i64 0, .int .i64 0, .string ⟨#[]⟩, .slice none 0 0], .int .i64 r])) W' :=
  ⟨_, rfl, liesX_nil _ _ _ _ _, h⟩

end Go.Proofs.Ytofceccicmlmoaa

namespace Go.Proofs.Ytofceccicmlmoaa
open Go.RowKit

/-- What stands before a round: the value so far in its box, the result's cells, the row. -/
structure Turning (w wr : World) (N B f : Nat) (s : VT) (u : Value) : Prop where
  box : Bx wr N s u
  res : Bx wr (N + 1) zeroT (.slice none 0 0)
  row : wr.cell? ⟨B, 0, none⟩ = some (fv f)
  lies : LiesX (fun b => b ≠ N) 16 wr s.items u
  below : Below w.heap.size w wr
  size : N < wr.heap.size
  far : N + 1 < B

theorem Turning.next {w wr w1 : World} {N B f : Nat} {s s' : VT} {u u' : Value} (h : Turning w wr N B f s u) (hN : w.heap.size ≤ N) (hb : Below wr.heap.size wr w1) (hl : LiesX (fun b => b ≠ N ∨ wr.heap.size ≤ b) 16 w1 s'.items u') :
    Turning w (w1.setCells N 0 (encP (s', u'))) N B f s' u' := by
  have hsz := h.size
  have hfar := h.far
  refine ⟨(h.box.keeps hb).put (s', u'), (h.res.keeps hb).other (by omega) _, cell_other (show B ≠ N by omega) (cell_keeps hb h.row), ?_, below_put (h.below.trans (hb.mono h.below.size)) hN (s', u'), ?_, hfar⟩
  · exact (hl.mono (Y := fun b => b ≠ N) (fun b hb => by omega)).set (by simp)
  · rw [size_setCells]; have := hb.size; omega

theorem right_len_all {t : VT} (hr : rightV 16 t = true) : Len 16 t := by
  have h := hr
  simp only [rightV, Bool.and_eq_true] at h
  exact sm_len 16 t (fw_small 16 t 16 1024 (by omega) (by omega) h.1)

theorem copy_right (t : VT) (u : Value) (w : World) (hl : Lies 16 w t.items u) (hr : rightV 16 t = true) : Calls Try.prog 26 #[.agg #[.int .i64 t.kind, .int .i64 t.num, .string t.text, u]] w (CopyPost 16 t w) :=
  copyOf_any (fun s => s.size ≤ 281474976710656) txt_any 16 t u w hl (right_txt 16 t (right_rp hr)) (right_len_all hr)

end Go.Proofs.Ytofceccicmlmoaa

