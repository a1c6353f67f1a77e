/-
  The contract of the document's fits and Right: they find right what the program does.
-/
import Derived.Test.YtlbeepaolacjbabLetters
import Derived.Test.YtlbeepaolacjbabFit
import Derived.Test.YtlbeepaolacjbabRef
import Derived.Deep.RegionHeld3
namespace Go.Proofs.Ytlbeepaolacjbab
open Go.RowKit

/-- The tests on a number, decided where it is right. -/
theorem num_tests {t : VT} (hn : okNum t = true) : (t.kind != 2) = false ∨ ((t.kind != 2) = true ∧ (t.num != 0) = false) ∨ ((t.kind != 2) = true ∧ (t.num != 0) = true ∧ (t.kind == 1) = true ∧ (t.num == 1) = true) := by
  cases h2 : (t.kind == 2)
  · cases hz : (t.num == 0)
    · cases h1 : (t.kind == 1)
      · simp [okNum, h2, h1, hz] at hn
      · have : (t.num == 1) = true := by simpa [okNum, h2, h1, hz] using hn
        exact .inr (.inr ⟨by simp [bne, h2], by simp [bne, hz], rfl, this⟩)
    · exact .inr (.inl ⟨by simp [bne, h2], by simp [bne, hz]⟩)
  · exact .inl (by simp [bne, h2])

end Go.Proofs.Ytlbeepaolacjbab

namespace Go.Proofs.Ytlbeepaolacjbab
open Go.RowKit

end Go.Proofs.Ytlbeepaolacjbab

namespace Go.Proofs.Ytlbeepaolacjbab
open Go.RowKit

end Go.Proofs.Ytlbeepaolacjbab

namespace Go.Proofs.Ytlbeepaolacjbab
open Go.RowKit

theorem ret_b {a b : Bool} (h : a = b) : Ending.returned (.bool a) = .returned (.bool b) := by rw [h]

theorem len_beq (n : Nat) : ((n : Int) == 0) = decide (n = 0) := by
  by_cases h : n = 0
  · subst h; rfl
  · rw [decide_eq_false h, beq_eq_false_iff_ne]; omega

theorem items_none {d : Nat} {t : VT} (h4 : t.kind ≠ 4) (h5 : t.kind ≠ 5) (h6 : t.kind ≠ 6) : okItems d t = decide (t.items.length = 0) := by
  unfold okItems
  rw [if_neg (by simpa using h4), if_neg (by simpa using h5), if_neg (by simpa using h6), len_beq]

end Go.Proofs.Ytlbeepaolacjbab

namespace Go.Proofs.Ytlbeepaolacjbab
open Go.RowKit

def rfL (f : VT → Int → Int) (most : Int) : List VT → Int → Int
  | [], n => n
  | x :: xs, n => if f x (most - n) < 0 then -1 else rfL f most xs (n + f x (most - n))

def rfN (own : Bool) (f : VT → Int → Int) (t : VT) (deep most : Int) : Int :=
  if most < 1 ∨ (0 < t.items.length ∧ deep = 0) ∨ most < t.items.length then -1
  else if rfL f most t.items 1 < 0 then -1 else if own then rfL f most t.items 1 else -1

def rf : Nat → VT → Int → Int → Int
  | 0, t, deep, most => rfN (ownV 0 t) (fun _ _ => -1) t deep most
  | d + 1, t, deep, most => rfN (ownV d t) (fun x m => rf d x (deep - 1) m) t deep most

theorem rfL_step (f : VT → Int → Int) (most : Int) (l : List VT) (j : Nat) (n : Int) (h : j < l.length) : rfL f most (l.drop j) n = if f l[j] (most - n) < 0 then -1 else rfL f most (l.drop (j + 1)) (n + f l[j] (most - n)) := by
  rw [List.drop_eq_getElem_cons h]
  rfl

theorem rfL_bound {f : VT → Int → Int} (hf : ∀ x m, 0 ≤ m → f x m ≤ m) (most : Int) : ∀ (l : List VT) (n : Int), 0 ≤ n → n ≤ most → rfL f most l n ≤ most := by
  intro l
  induction l with
  | nil => intro n _ h; exact h
  | cons x l ih =>
    intro n h0 h
    unfold rfL
    split
    · omega
    · have := hf x (most - n) (by omega)
      exact ih _ (by omega) (by omega)

theorem rfN_bound {o : Bool} {f : VT → Int → Int} (hf : ∀ x m, 0 ≤ m → f x m ≤ m) (t : VT) (deep most : Int) (hm : 0 ≤ most) : rfN o f t deep most ≤ most := by
  unfold rfN
  split
  · omega
  · split
    · omega
    · split
      · exact rfL_bound hf most _ 1 (by omega) (by omega)
      · omega

theorem rf_bound : ∀ (d : Nat) (t : VT) (deep most : Int), 0 ≤ most → rf d t deep most ≤ most := by
  intro d
  induction d with
  | zero => intro t deep most hm; exact rfN_bound (fun x m h => by omega) t deep most hm
  | succ d ih => intro t deep most hm; exact rfN_bound (fun x m h => ih x (deep - 1) m h) t deep most hm

theorem rfL_fw {f : VT → Int → Int} {g : VT → Int → Bool × Int} {r : VT → Bool} (hg : ∀ x m, 0 ≤ m → 0 ≤ (g x m).2 ∧ (g x m).2 ≤ m) (most : Int) :
    ∀ (l : List VT), (∀ x ∈ l, ∀ m, 0 ≤ m → f x m = if (g x m).1 && r x then m - (g x m).2 else -1) → ∀ (n : Int), n ≤ most → rfL f most l n = if (fwL g l (most - n)).1 && l.all r then most - (fwL g l (most - n)).2 else -1 := by
  intro l
  induction l with
  | nil => intro _ n h; simp [rfL, fwL]; omega
  | cons x l ih =>
    intro hf n h
    have h0 := hf x List.mem_cons_self (most - n) (by omega)
    have hr := hg x (most - n) (by omega)
    unfold rfL fwL
    rw [List.all_cons]
    cases e1 : (g x (most - n)).1
    · rw [e1] at h0
      rw [h0]
      simp
    · rw [if_pos rfl]
      cases e2 : r x
      · rw [e1, e2] at h0
        rw [h0]
        simp
      · rw [e1, e2] at h0
        simp only [Bool.and_self, if_true] at h0
        rw [h0, if_neg (by omega), ih (fun y hy => hf y (List.mem_cons_of_mem _ hy)) _ (by omega), show most - (n + (most - n - (g x (most - n)).2)) = (g x (most - n)).2 by omega, Bool.true_and]

/-- No deeper than d. -/
def Dp : Nat → VT → Prop
  | 0, t => t.items = []
  | d + 1, t => ∀ x ∈ t.items, Dp d x

theorem Dp.of_lies : ∀ (d : Nat) (w : World) (t : VT) (u : Value), Lies d w t.items u → Dp d t := by
  intro d
  induction d with
  | zero => intro w t u h; exact h.1
  | succ d ih =>
    intro w t u h x hx
    obtain ⟨a, c, _, _, hr⟩ := h
    obtain ⟨b, o, _, hall⟩ := hr (fun e => by rw [e] at hx; cases hx)
    obtain ⟨i, hi, rfl⟩ := List.getElem_of_mem hx
    obtain ⟨v, _, _, _, _, hl, _⟩ := hall i hi
    exact ih w _ v hl

theorem fw_neg (d : Nat) (t : VT) (lv n : Int) (h : lv < 0) : fw d t lv n = (false, n) := by
  cases d with
  | zero => unfold fw; rw [if_pos (Or.inl h)]
  | succ d => unfold fw; rw [if_pos (Or.inl h)]

theorem rf_fw : ∀ (d : Nat) (t : VT) (deep most : Int), Dp d t → 0 ≤ deep → 0 ≤ most → rf d t deep most = if (fw d t deep most).1 && rpV d t then most - (fw d t deep most).2 else -1 := by
  intro d
  induction d with
  | zero =>
    intro t deep most ht h1 h2
    have e1 : t.items = [] := ht
    have hl : (t.items.length : Int) = 0 := by rw [e1]; rfl
    have hl2 : t.items.length = 0 := by rw [e1]; rfl
    have hrl : ∀ f, rfL f most t.items 1 = 1 := fun f => by rw [e1]; rfl
    unfold rf rfN fw
    by_cases hm : most < 1
    · rw [if_pos (Or.inl hm), if_pos (Or.inr (by omega))]
      rfl
    · rw [if_neg (by omega), if_neg (by omega : ¬ (deep < 0 ∨ most = 0)), hrl, if_neg (by omega)]
      show (if ownV 0 t = true then (1 : Int) else -1) = if (true && ownV 0 t) = true then most - (most - 1) else -1
      rw [Bool.true_and]
      cases ownV 0 t
      · rfl
      · rw [if_pos rfl, if_pos rfl]; omega
  | succ d ih =>
    intro t deep most ht h1 h2
    have hgr : ∀ x m, 0 ≤ m → 0 ≤ (fw d x (deep - 1) m).2 ∧ (fw d x (deep - 1) m).2 ≤ m := fun x m hm => fw_range d x (deep - 1) m hm
    unfold rf rfN fw
    by_cases hm : most < 1
    · rw [if_pos (Or.inl hm), if_pos (Or.inr (by omega))]
      rfl
    · rw [if_neg (by omega : ¬ (deep < 0 ∨ most = 0))]
      by_cases hd : 0 < t.items.length ∧ deep = 0
      · rw [if_pos (Or.inr (Or.inl hd))]
        have hff : (fwL (fun x m => fw d x (deep - 1) m) t.items (most - 1)).1 = false := by
          cases hit : t.items with
          | nil => rw [hit] at hd; simp at hd
          | cons x xs =>
            unfold fwL
            rw [fw_neg d x (deep - 1) _ (by omega)]
            rfl
        rw [hff]
        rfl
      · by_cases hl : most < t.items.length
        · rw [if_pos (Or.inr (Or.inr hl))]
          have hff : (fwL (fun x m => fw d x (deep - 1) m) t.items (most - 1)).1 = false := by
            cases e : (fwL (fun x m => fw d x (deep - 1) m) t.items (most - 1)).1
            · rfl
            · have := (fwL_len (f := fun x m => fw d x (deep - 1) m) (fun x m hm => (hgr x m hm).1) (fun x m hm hb => fw_less d x (deep - 1) m hm hb) t.items (most - 1) (by omega) e).1
              omega
          rw [hff]
          rfl
        · rw [if_neg (by rintro (h | h | h); exact hm h; exact hd h; exact hl h)]
          have hx := rfL_fw (f := fun x m => rf d x (deep - 1) m) (g := fun x m => fw d x (deep - 1) m) (r := rpV d) hgr most t.items (fun x hx m hm' => ih x (deep - 1) m (ht x hx) (by
            have : 0 < t.items.length := List.length_pos_of_mem hx
            by_cases e : deep = 0
            · exact absurd ⟨this, e⟩ hd
            · omega) hm') 1 (by omega)
          have hrg := (fwL_range (f := fun x m => fw d x (deep - 1) m) hgr t.items (most - 1) (by omega))
          rw [hx]
          show _ = if ((fwL (fun x m => fw d x (deep - 1) m) t.items (most - 1)).1 && (t.items.all (rpV d) && ownV d t)) = true then _ else _
          cases (fwL (fun x m => fw d x (deep - 1) m) t.items (most - 1)).1
          · simp
          · cases t.items.all (rpV d)
            · simp
            · rw [Bool.true_and, if_pos rfl, if_neg (by omega), Bool.true_and, Bool.true_and]

theorem rf_right (d : Nat) (t : VT) (h : Dp d t) : decide (0 ≤ rf d t 16 1024) = rightV d t := by
  rw [rf_fw d t 16 1024 h (by omega) (by omega)]
  have hr := fw_range d t 16 1024 (by omega)
  show _ = ((fw d t 16 1024).1 && rpV d t)
  cases ((fw d t 16 1024).1 && rpV d t)
  · rfl
  · rw [if_pos rfl, decide_eq_true (by omega)]

end Go.Proofs.Ytlbeepaolacjbab

