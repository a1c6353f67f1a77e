/-
  ConcatCuts.
-/
import Derived.Test.YtpnfmcmhcjekfabCutS
namespace Go.Proofs.Ytpnfmcmhcjekfab
open Go.RowKit

set_option maxRecDepth 100000 in
set_option maxHeartbeats 8000000 in
theorem rcut_any (l : List VT) (a : Option Addr) (c : Nat) (i : Int) (w : World) (hl : Lies 17 w l (.slice a l.length c)) (hlen : l.length ≤ 65536) : Calls Try.prog 11 #[.slice a l.length c, .int .i64 i] w (CutL l i w) := by
  have HE1 : Hid _ := rend_any l a c i w
  by_cases h1 : endB l i
  · rw [decide_eq_true h1] at HE1
    obtain ⟨n, rfl⟩ := Int.eq_ofNat_of_zero_le h1.1
    have hnl : n ≤ l.length := by have := h1.2; omega
    have hlc : l.length ≤ c := by obtain ⟨_, _, e, h, _⟩ := hl; injection e with _ _ e; omega
    have e1 : (l.take n).length = n := by rw [List.length_take, Nat.min_eq_left hnl]
    have e2 : (l.drop n).length = l.length - n := List.length_drop
    obtain ⟨ps, hp1, hp2, hsA, hsd⟩ : ∃ ps : List (VT × Value), ps.map (·.1) = l.take n ∧ ps.length = n ∧ Src w a n 4 (ps.flatMap encP) ∧ ∀ p ∈ ps, Sound 16 w p := by
      by_cases hn0 : n = 0
      · subst hn0
        exact ⟨[], rfl, rfl, Src.nil w a, fun p hp => by cases hp⟩
      · obtain ⟨g, o, rfl, _⟩ := Lies.some_at hl (by omega)
        have h2 := Lies.taken hl n hnl
        rw [← e1] at h2
        obtain ⟨ps, p1, p2, p3, p4⟩ := src_of (l := l.take n) (by rw [e1] at h2 ⊢; exact h2)
        rw [e1] at p2 p3
        exact ⟨ps, p1, p2, p3, p4⟩
    have HSA : Hid (Src w a n 4 (ps.flatMap encP)) := hsA
    have hfin : ∀ (qs : List (VT × Value)) (W : World) (a1 c1 a2 c2), qs.map (·.1) = l.drop n → (∀ p ∈ qs, Sound 16 w p) → Cs w W (.slice a1 n c1) n (ps.flatMap encP) (.slice a2 (l.length - n) c2) (l.length - n) (qs.flatMap encP) → CutL l (n : Int) w (.returned (.tuple #[.slice a1 n c1, .slice a2 (l.length - n) c2, .int .i64 0])) W := fun qs W a1 c1 a2 c2 q1 q2 h => by
      have hq : qs.length = l.length - n := by have := congrArg List.length q1; rw [List.length_map, e2] at this; exact this
      have l1 := own_lies (d := 16) hp2.symm h.a (fun p hp => (hsd p hp).keeps h.below) (by omega)
      have l2 := own_lies (d := 16) hq.symm h.b (fun p hp => (q2 p hp).keeps h.below) (by omega)
      rw [hp1] at l1
      rw [q1] at l2
      refine ⟨h.below, ?_⟩
      rw [if_pos h1, Int.toNat_natCast, e1, e2]
      exact ⟨a1, c1, a2, c2, rfl, l1, l2⟩
    by_cases hne : n = l.length
    · have hd : l.drop n = [] := List.drop_eq_nil_of_le (by omega)
      have HF : Hid (∀ (W : World) (a1 c1 a2 c2), Cs w W (.slice a1 n c1) n (ps.flatMap encP) (.slice a2 0 c2) 0 [] → CutL l (n : Int) w (.returned (.tuple #[.slice a1 n c1, .slice a2 0 c2, .int .i64 0])) W) := fun W a1 c1 a2 c2 h => by
        have h3 := hfin [] W a1 c1 a2 c2 (by rw [hd]; rfl) (fun p hp => by cases hp)
        rw [show l.length - n = 0 by omega] at h3
        exact h3 h
      obtain ⟨L, hL⟩ : ∃ L, L = l.length := ⟨_, rfl⟩
      rw [← hL] at hne hnl hlc hlen HE1 ⊢
      subst hne
      have hnci : (n : Int) ≤ (c : Nat) := by omega
      have hself : ¬ ((n : Nat) : Int) < (n : Nat) := by omega
      clear hfin hl hsA hp1 hsd e1 e2 hd hL h1
      by_cases hcn : c = n
      · subst hcn
        cases a with
        | none =>
          go_enter Try.func11, Try.ntmps11
          go_wp2_with fail
          refine Calls.mono HE1.out ?_
          rintro e w1 ⟨rfl, hw1⟩
          obtain rfl : w = w1 := hw1.symm
          clear HE1
          go_wp2_with fail
          have HC := Cs.start w
          go_region_law
            (first
              | (refine Cs.step rfl _ _ rfl rfl rfl (HC) HSA.out (by omega) ?_; clear HC; intro ax cx W HC)
              | (refine Cs.step rfl _ _ rfl rfl rfl (HC.made) HSA.out (by omega) ?_; clear HC; intro ax cx W HC)
              | (refine Cs.step rfl _ _ rfl rfl rfl (HC.made.drew) HSA.out (by omega) ?_; clear HC; intro ax cx W HC)
              | (refine Cs.step rfl _ _ rfl rfl rfl ((HC.made.made2G (g := w.heap.size + 1) (by simp)).drew) HSA.out (by omega) ?_; clear HC; intro ax cx W HC)
              | (refine Cs.step rfl _ _ rfl rfl rfl ((HC.made2.madeG (by simp)).drew) HSA.out (by omega) ?_; clear HC; intro ax cx W HC)
              | (refine Cs.step rfl _ _ rfl rfl rfl (HC.symm) (Src.nil w _) (by omega) ?_; clear HC; intro ax cx W HC; replace HC := HC.symm)
              | (refine Cs.step rfl _ _ rfl rfl rfl (HC.made2.symm) (Src.nil w _) (by omega) ?_; clear HC; intro ax cx W HC; replace HC := HC.symm)
              | (refine Cs.step rfl _ _ rfl rfl rfl (HC.made2.drew.symm) (Src.nil w _) (by omega) ?_; clear HC; intro ax cx W HC; replace HC := HC.symm)
              | (refine Cs.step rfl _ _ rfl rfl rfl ((HC.made.made2G (by simp)).drew.symm) (Src.nil w _) (by omega) ?_; clear HC; intro ax cx W HC; replace HC := HC.symm)
              | (refine Cs.step rfl _ _ rfl rfl rfl ((HC.made2.madeG (g := w.heap.size + 1) (by simp)).drew.symm) (Src.nil w _) (by omega) ?_; clear HC; intro ax cx W HC; replace HC := HC.symm))
          all_goals
            have HG : Hid _ := HF.out _ _ _ _ _ HC
            clear HC HF
            go_wp2_with fail
            go_ret3
            exact HG.out
        | some ad =>
          go_enter Try.func11, Try.ntmps11
          go_wp2_with fail
          refine Calls.mono HE1.out ?_
          rintro e w1 ⟨rfl, hw1⟩
          obtain rfl : w = w1 := hw1.symm
          clear HE1
          go_wp2_with fail
          have HC := Cs.start w
          go_region_law
            (first
              | (refine Cs.step rfl _ _ rfl rfl rfl (HC) HSA.out (by omega) ?_; clear HC; intro ax cx W HC)
              | (refine Cs.step rfl _ _ rfl rfl rfl (HC.made) HSA.out (by omega) ?_; clear HC; intro ax cx W HC)
              | (refine Cs.step rfl _ _ rfl rfl rfl (HC.made.drew) HSA.out (by omega) ?_; clear HC; intro ax cx W HC)
              | (refine Cs.step rfl _ _ rfl rfl rfl ((HC.made.made2G (g := w.heap.size + 1) (by simp)).drew) HSA.out (by omega) ?_; clear HC; intro ax cx W HC)
              | (refine Cs.step rfl _ _ rfl rfl rfl ((HC.made2.madeG (by simp)).drew) HSA.out (by omega) ?_; clear HC; intro ax cx W HC)
              | (refine Cs.step rfl _ _ rfl rfl rfl (HC.symm) (Src.nil w _) (by omega) ?_; clear HC; intro ax cx W HC; replace HC := HC.symm)
              | (refine Cs.step rfl _ _ rfl rfl rfl (HC.made2.symm) (Src.nil w _) (by omega) ?_; clear HC; intro ax cx W HC; replace HC := HC.symm)
              | (refine Cs.step rfl _ _ rfl rfl rfl (HC.made2.drew.symm) (Src.nil w _) (by omega) ?_; clear HC; intro ax cx W HC; replace HC := HC.symm)
              | (refine Cs.step rfl _ _ rfl rfl rfl ((HC.made.made2G (by simp)).drew.symm) (Src.nil w _) (by omega) ?_; clear HC; intro ax cx W HC; replace HC := HC.symm)
              | (refine Cs.step rfl _ _ rfl rfl rfl ((HC.made2.madeG (g := w.heap.size + 1) (by simp)).drew.symm) (Src.nil w _) (by omega) ?_; clear HC; intro ax cx W HC; replace HC := HC.symm))
          all_goals
            have HG : Hid _ := HF.out _ _ _ _ _ HC
            clear HC HF
            go_wp2_with fail
            go_ret3
            exact HG.out
      · have hcni : ¬ ((c : Nat) : Int) = (n : Nat) := by omega
        cases a with
        | none =>
          go_enter Try.func11, Try.ntmps11
          go_wp2_with fail
          refine Calls.mono HE1.out ?_
          rintro e w1 ⟨rfl, hw1⟩
          obtain rfl : w = w1 := hw1.symm
          clear HE1
          go_wp2_with fail
          have HC := Cs.start w
          go_region_law
            (first
              | (refine Cs.step rfl _ _ rfl rfl rfl (HC) HSA.out (by omega) ?_; clear HC; intro ax cx W HC)
              | (refine Cs.step rfl _ _ rfl rfl rfl (HC.made) HSA.out (by omega) ?_; clear HC; intro ax cx W HC)
              | (refine Cs.step rfl _ _ rfl rfl rfl (HC.made.drew) HSA.out (by omega) ?_; clear HC; intro ax cx W HC)
              | (refine Cs.step rfl _ _ rfl rfl rfl ((HC.made.made2G (g := w.heap.size + 1) (by simp)).drew) HSA.out (by omega) ?_; clear HC; intro ax cx W HC)
              | (refine Cs.step rfl _ _ rfl rfl rfl ((HC.made2.madeG (by simp)).drew) HSA.out (by omega) ?_; clear HC; intro ax cx W HC)
              | (refine Cs.step rfl _ _ rfl rfl rfl (HC.symm) (Src.nil w _) (by omega) ?_; clear HC; intro ax cx W HC; replace HC := HC.symm)
              | (refine Cs.step rfl _ _ rfl rfl rfl (HC.made2.symm) (Src.nil w _) (by omega) ?_; clear HC; intro ax cx W HC; replace HC := HC.symm)
              | (refine Cs.step rfl _ _ rfl rfl rfl (HC.made2.drew.symm) (Src.nil w _) (by omega) ?_; clear HC; intro ax cx W HC; replace HC := HC.symm)
              | (refine Cs.step rfl _ _ rfl rfl rfl ((HC.made.made2G (by simp)).drew.symm) (Src.nil w _) (by omega) ?_; clear HC; intro ax cx W HC; replace HC := HC.symm)
              | (refine Cs.step rfl _ _ rfl rfl rfl ((HC.made2.madeG (g := w.heap.size + 1) (by simp)).drew.symm) (Src.nil w _) (by omega) ?_; clear HC; intro ax cx W HC; replace HC := HC.symm))
          all_goals
            have HG : Hid _ := HF.out _ _ _ _ _ HC
            clear HC HF
            go_wp2_with fail
            go_ret3
            exact HG.out
        | some ad =>
          go_enter Try.func11, Try.ntmps11
          go_wp2_with fail
          refine Calls.mono HE1.out ?_
          rintro e w1 ⟨rfl, hw1⟩
          obtain rfl : w = w1 := hw1.symm
          clear HE1
          go_wp2_with fail
          have HC := Cs.start w
          go_region_law
            (first
              | (refine Cs.step rfl _ _ rfl rfl rfl (HC) HSA.out (by omega) ?_; clear HC; intro ax cx W HC)
              | (refine Cs.step rfl _ _ rfl rfl rfl (HC.made) HSA.out (by omega) ?_; clear HC; intro ax cx W HC)
              | (refine Cs.step rfl _ _ rfl rfl rfl (HC.made.drew) HSA.out (by omega) ?_; clear HC; intro ax cx W HC)
              | (refine Cs.step rfl _ _ rfl rfl rfl ((HC.made.made2G (g := w.heap.size + 1) (by simp)).drew) HSA.out (by omega) ?_; clear HC; intro ax cx W HC)
              | (refine Cs.step rfl _ _ rfl rfl rfl ((HC.made2.madeG (by simp)).drew) HSA.out (by omega) ?_; clear HC; intro ax cx W HC)
              | (refine Cs.step rfl _ _ rfl rfl rfl (HC.symm) (Src.nil w _) (by omega) ?_; clear HC; intro ax cx W HC; replace HC := HC.symm)
              | (refine Cs.step rfl _ _ rfl rfl rfl (HC.made2.symm) (Src.nil w _) (by omega) ?_; clear HC; intro ax cx W HC; replace HC := HC.symm)
              | (refine Cs.step rfl _ _ rfl rfl rfl (HC.made2.drew.symm) (Src.nil w _) (by omega) ?_; clear HC; intro ax cx W HC; replace HC := HC.symm)
              | (refine Cs.step rfl _ _ rfl rfl rfl ((HC.made.made2G (by simp)).drew.symm) (Src.nil w _) (by omega) ?_; clear HC; intro ax cx W HC; replace HC := HC.symm)
              | (refine Cs.step rfl _ _ rfl rfl rfl ((HC.made2.madeG (g := w.heap.size + 1) (by simp)).drew.symm) (Src.nil w _) (by omega) ?_; clear HC; intro ax cx W HC; replace HC := HC.symm))
          all_goals
            have HG : Hid _ := HF.out _ _ _ _ _ HC
            clear HC HF
            go_wp2_with fail
            go_ret3
            exact HG.out
    · have hlt : n < l.length := by omega
      obtain ⟨g, o, rfl, hcl⟩ := Lies.some_at hl (by omega)
      obtain ⟨qs, q1, q2, hsB, hsq⟩ := src_part hl n l.length (Nat.le_refl _)
      rw [List.take_length] at q1
      have HSB : Hid (Src w (some ⟨g, o + n * 4, none⟩) (l.length - n) 4 (qs.flatMap encP)) := hsB
      have HF : Hid (∀ (W : World) (a1 c1 a2 c2), Cs w W (.slice a1 n c1) n (ps.flatMap encP) (.slice a2 (l.length - n) c2) (l.length - n) (qs.flatMap encP) → CutL l (n : Int) w (.returned (.tuple #[.slice a1 n c1, .slice a2 (l.length - n) c2, .int .i64 0])) W) := fun W a1 c1 a2 c2 h => hfin qs W a1 c1 a2 c2 q1 hsq h
      obtain ⟨L, hL⟩ : ∃ L, L = l.length := ⟨_, rfl⟩
      rw [← hL] at hlt hnl hlc hlen HE1 HSB HF ⊢
      have hnci : (n : Int) ≤ (c : Nat) := by omega
      have hnLi : (n : Int) ≤ (L : Nat) := by omega
      have hLci : (L : Int) ≤ (c : Nat) := by omega
      have hcn : ¬ (c = n) := by omega
      have hcni : ¬ ((c : Nat) : Int) = (n : Nat) := by omega
      clear hfin hl hsA hsB hp1 hsd hsq q1 q2 e1 e2 hL h1 hne hcl
      go_enter Try.func11, Try.ntmps11
      go_wp2_with fail
      refine Calls.mono HE1.out ?_
      rintro e w1 ⟨rfl, hw1⟩
      obtain rfl : w = w1 := hw1.symm
      clear HE1
      go_wp2_with fail
      have HC := Cs.start w
      go_region_law
        (first
          | (refine Cs.step rfl _ _ rfl rfl rfl (HC) HSA.out (by omega) ?_; clear HC; intro ax cx W HC)
          | (refine Cs.step rfl _ _ rfl rfl rfl (HC.made) HSA.out (by omega) ?_; clear HC; intro ax cx W HC)
          | (refine Cs.step rfl _ _ rfl rfl rfl (HC.made.drew) HSA.out (by omega) ?_; clear HC; intro ax cx W HC)
          | (refine Cs.step rfl _ _ rfl rfl rfl ((HC.made.made2G (g := w.heap.size + 1) (by simp)).drew) HSA.out (by omega) ?_; clear HC; intro ax cx W HC)
          | (refine Cs.step rfl _ _ rfl rfl rfl ((HC.made2.madeG (by simp)).drew) HSA.out (by omega) ?_; clear HC; intro ax cx W HC)
          | (refine Cs.step rfl _ _ rfl rfl rfl (HC.symm) HSB.out (by omega) ?_; clear HC; intro ax cx W HC; replace HC := HC.symm)
          | (refine Cs.step rfl _ _ rfl rfl rfl (HC.made2.symm) HSB.out (by omega) ?_; clear HC; intro ax cx W HC; replace HC := HC.symm)
          | (refine Cs.step rfl _ _ rfl rfl rfl (HC.made2.drew.symm) HSB.out (by omega) ?_; clear HC; intro ax cx W HC; replace HC := HC.symm)
          | (refine Cs.step rfl _ _ rfl rfl rfl ((HC.made.made2G (by simp)).drew.symm) HSB.out (by omega) ?_; clear HC; intro ax cx W HC; replace HC := HC.symm)
          | (refine Cs.step rfl _ _ rfl rfl rfl ((HC.made2.madeG (g := w.heap.size + 1) (by simp)).drew.symm) HSB.out (by omega) ?_; clear HC; intro ax cx W HC; replace HC := HC.symm))
      all_goals
        have HG : Hid _ := HF.out _ _ _ _ _ HC
        clear HC HF
        go_wp2_with fail
        go_ret3
        exact HG.out
  · rw [decide_eq_false h1] at HE1
    have HF : Hid (CutL l i w (.returned (.tuple #[.slice none 0 0, .slice none 0 0, .int .i64 5])) w) := by
      refine ⟨Below.refl _ _, ?_⟩
      rw [if_neg h1]
    clear hl hlen h1
    go_enter Try.func11, Try.ntmps11
    go_wp2_with fail
    refine Calls.mono HE1.out ?_
    rintro e w1 ⟨rfl, hw1⟩
    obtain rfl : w = w1 := hw1.symm
    clear HE1
    go_wp2_with fail
    go_ret3
    exact HF.out

end Go.Proofs.Ytpnfmcmhcjekfab

namespace Go.Proofs.Ytpnfmcmhcjekfab
open Go.RowKit

/-- What Of tells, right or not. -/
theorem of_vv (n : Nat) (l : List VT) (u : Value) (w : World) (hl : Lies (n + 1) w l u) : Calls Try.prog 8 #[u] w fun e w' => Below w.heap.size w w' ∧ ((∃ b, e = .returned (.tuple #[.pointer (some ⟨b, 0, none⟩), .int .i64 0]) ∧ VV w' l (.pointer (some ⟨b, 0, none⟩)) ∧ Lies 17 w' l u) ∨ (∃ k : Nat, e = .returned (.tuple #[.pointer none, .int .i64 (k : Int)]) ∧ (k = 2 ∨ k = 3))) := by
  refine Calls.mono (of_n n l _ w hl) ?_
  rintro e w' ⟨hb, hp⟩
  refine ⟨hb, ?_⟩
  unfold ofN at hp
  by_cases h1 : 65536 < l.length
  · rw [if_pos h1] at hp
    exact .inr ⟨2, hp, .inl rfl⟩
  · rw [if_neg h1] at hp
    by_cases h2 : l.all (rightV n) = true
    · rw [if_pos h2] at hp
      obtain ⟨b, rfl, hv⟩ := hp
      exact .inl ⟨b, rfl, ⟨hv, by omega, (canonL hl h2).2⟩, Lies.keeps hb _ _ _ (canonL hl h2).1⟩
    · rw [if_neg h2] at hp
      exact .inr ⟨3, hp, .inr rfl⟩

/-- A vector and a list, or an error, as a statement holds them beside each other. -/
def Pair12 (w : World) (p : Value) (k : Nat) (u : Value) : Prop :=
  (k = 0 ∧ ∃ (l : List VT) (b : Nat) (a : Option Addr) (c : Nat), p = .pointer (some ⟨b, 0, none⟩) ∧ u = .slice a l.length c ∧ VV w l p ∧ Lies 17 w l u) ∨ (k ≠ 0 ∧ p = .pointer none ∧ u = .slice none 0 0)

theorem Pair12.keeps {w w' : World} {p : Value} {k : Nat} {u : Value} (h : Pair12 w p k u) (hb : Below w.heap.size w w') : Pair12 w' p k u := by
  rcases h with ⟨rfl, l, b, a, c, rfl, rfl, hv, hl⟩ | h
  · exact .inl ⟨rfl, l, b, a, c, rfl, rfl, hv.keeps hb, Lies.keeps hb _ _ _ hl⟩
  · exact .inr h

theorem is_pair (p : Value) (k : Nat) (u : Value) (w : World) (h : Pair12 w p k u) : Calls Try.prog 14 #[p, .int .i64 (k : Int), u, .int .i64 (k : Int)] w fun e w' => e = .returned (.bool true) ∧ Below w.heap.size w w' := by
  rcases h with ⟨rfl, l, b, a, c, rfl, rfl, hv, hl⟩ | ⟨hk, rfl, rfl⟩
  · exact is_some l b _ w hv hl
  · exact is_none k hk none 0 0 w

/-- What both Cuts tell, beside each other. -/
theorem cut_pair (l : List VT) (p : Value) (a : Option Addr) (c : Nat) (i : Int) (w : World) (hv : VV w l p) (hl : Lies 17 w l (.slice a l.length c)) :
    Calls Try.prog 10 #[p, .int .i64 i] w fun e w1 => Below w.heap.size w w1 ∧ ∃ (k : Nat) (p1 p2 : Value), e = .returned (.tuple #[p1, p2, .int .i64 (k : Int)]) ∧
      ∀ W, Below w1.heap.size w1 W → Calls Try.prog 11 #[.slice a l.length c, .int .i64 i] W fun e w2 => Below W.heap.size W w2 ∧ ∃ (a1 a2 : Option Addr) (n1 c1 n2 c2 : Nat), e = .returned (.tuple #[.slice a1 n1 c1, .slice a2 n2 c2, .int .i64 (k : Int)]) ∧ Pair12 w2 p1 k (.slice a1 n1 c1) ∧ Pair12 w2 p2 k (.slice a2 n2 c2) := by
  refine Calls.mono (cut_any l p i w hv) ?_
  rintro e w1 ⟨hb1, hp⟩
  refine ⟨hb1, ?_⟩
  rcases hp with ⟨hi, b1, b2, rfl, v1, v2⟩ | ⟨hi, rfl⟩
  · refine ⟨0, _, _, rfl, fun W hW => ?_⟩
    refine Calls.mono (rcut_any l a c i W (Lies.keeps (hb1.trans (hW.mono hb1.size)) _ _ _ hl) hv.len) ?_
    rintro e w2 ⟨hb2, hq⟩
    rw [if_pos hi] at hq
    obtain ⟨a1, c1, a2, c2, rfl, l1, l2⟩ := hq
    exact ⟨hb2, a1, a2, _, c1, _, c2, rfl, .inl ⟨rfl, _, b1, a1, c1, rfl, rfl, (v1.keeps hW).keeps hb2, l1⟩, .inl ⟨rfl, _, b2, a2, c2, rfl, rfl, (v2.keeps hW).keeps hb2, l2⟩⟩
  · refine ⟨5, _, _, rfl, fun W hW => ?_⟩
    refine Calls.mono (rcut_any l a c i W (Lies.keeps (hb1.trans (hW.mono hb1.size)) _ _ _ hl) hv.len) ?_
    rintro e w2 ⟨hb2, hq⟩
    rw [if_neg hi] at hq
    subst hq
    exact ⟨hb2, none, none, 0, 0, 0, 0, rfl, .inr ⟨by omega, rfl, rfl⟩, .inr ⟨by omega, rfl, rfl⟩⟩

/-- What both Slices tell, beside each other. -/
theorem slice_pair (l : List VT) (p : Value) (a : Option Addr) (c : Nat) (i j : Int) (w : World) (hv : VV w l p) (hl : Lies 17 w l (.slice a l.length c)) :
    Calls Try.prog 12 #[p, .int .i64 i, .int .i64 j] w fun e w1 => Below w.heap.size w w1 ∧ ∃ (k : Nat) (p1 : Value), e = .returned (.tuple #[p1, .int .i64 (k : Int)]) ∧
      ∀ W, Below w1.heap.size w1 W → Calls Try.prog 13 #[.slice a l.length c, .int .i64 i, .int .i64 j] W fun e w2 => Below W.heap.size W w2 ∧ ∃ (a1 : Option Addr) (n1 c1 : Nat), e = .returned (.tuple #[.slice a1 n1 c1, .int .i64 (k : Int)]) ∧ Pair12 w2 p1 k (.slice a1 n1 c1) := by
  refine Calls.mono (slice_any l p i j w hv) ?_
  rintro e w1 ⟨hb1, hp⟩
  refine ⟨hb1, ?_⟩
  have hr := fun W (hW : Below w1.heap.size w1 W) => rslice_any l a c i j W (Lies.keeps (hb1.trans (hW.mono hb1.size)) _ _ _ hl) hv.len
  have hr5 : ∀ k, sliceR l i j = .inr k → k = 5 := fun k hk => by
    unfold sliceR at hk
    split at hk
    · cases hk
    · injection hk with hk; exact hk.symm
  generalize sliceR l i j = R at *
  cases R with
  | inl m =>
    obtain ⟨b, rfl, v1⟩ := hp
    refine ⟨0, _, rfl, fun W hW => Calls.mono (hr W hW) ?_⟩
    rintro e w2 ⟨hb2, a1, c1, rfl, l1⟩
    exact ⟨hb2, a1, _, c1, rfl, .inl ⟨rfl, _, b, a1, c1, rfl, rfl, (v1.keeps hW).keeps hb2, l1⟩⟩
  | inr k =>
    have hk := hr5 k rfl
    subst hk
    have hp' := hp
    simp only at hp'
    subst hp'
    refine ⟨5, _, rfl, fun W hW => Calls.mono (hr W hW) ?_⟩
    rintro e w2 ⟨hb2, hq⟩
    simp only at hq
    subst hq
    exact ⟨hb2, none, 0, 0, rfl, .inr ⟨by omega, rfl, rfl⟩⟩

set_option maxRecDepth 100000 in
set_option maxHeartbeats 16000000 in
theorem cuts_walk (n : Nat) (l : List VT) (ul : Value) (i j : Int) (w : World) (hl : Lies (n + 1) w l ul) : Calls Try.prog 3 #[ul, .int .i64 i, .int .i64 j] w fun e w' => e = .returned (.bool true) ∧ Below w.heap.size w w' := by
  obtain ⟨al, cl, rfl, hlb⟩ := Lies.slice hl
  have HO : Hid _ := of_vv n l _ w hl
  have HSp : Hid (∀ V, Calls Try.prog 9 #[] V fun e w' => e = .returned (.bool true) ∧ Below V.heap.size V w') := speaks12_any
  have HIs : Hid (∀ (p : Value) (k : Nat) (u : Value) (W : World), Pair12 W p k u → Calls Try.prog 14 #[p, .int .i64 (k : Int), u, .int .i64 (k : Int)] W fun e w' => e = .returned (.bool true) ∧ Below W.heap.size W w') := is_pair
  clear hl
  go_enter Try.func3, Try.ntmps3
  go_wp2_with fail
  refine Calls.mono HO.out ?_
  rintro e w1 ⟨hb1, hp1⟩
  rcases hp1 with ⟨b, rfl, hv, hl17⟩ | ⟨k, rfl, hk⟩
  · have HV : Hid (VV w1 l (.pointer (some ⟨b, 0, none⟩))) := hv
    have HL : Hid (Lies 17 w1 l (.slice al l.length cl)) := hl17
    have HCu : Hid _ := cut_pair l _ al cl i w1 hv hl17
    have HP0 : Hid (Pair12 w1 (.pointer (some ⟨b, 0, none⟩)) 0 (.slice al l.length cl)) := .inl ⟨rfl, l, b, al, cl, rfl, rfl, hv, hl17⟩
    clear HO hv hl17
    go_wp2_with fail
    refine Calls.mono HCu.out ?_
    rintro e w2 ⟨hb2, k, p1, p2, rfl, hrc⟩
    have HRc : Hid _ := hrc w2 (Below.refl _ _)
    have HB2 : Hid (Below w.heap.size w w2) := hb1.trans (hb2.mono hb1.size)
    have HP2 : Hid (Pair12 w2 (.pointer (some ⟨b, 0, none⟩)) 0 (.slice al l.length cl)) := HP0.out.keeps hb2
    have HV2 : Hid (VV w2 l (.pointer (some ⟨b, 0, none⟩))) := HV.out.keeps hb2
    have HL2 : Hid (Lies 17 w2 l (.slice al l.length cl)) := Lies.keeps hb2 _ _ _ HL.out
    clear HCu hrc hb2 hb1 HP0 HV HL
    go_wp2_with fail
    refine Calls.mono HRc.out ?_
    rintro e w3 ⟨hb3, a1, a2, n1, c1, n2, c2, rfl, hq1, hq2⟩
    have HQ1 : Hid (Pair12 w3 p1 k (.slice a1 n1 c1)) := hq1
    have HQ2 : Hid (Pair12 w3 p2 k (.slice a2 n2 c2)) := hq2
    have HB3 : Hid (Below w.heap.size w w3) := HB2.out.trans (hb3.mono HB2.out.size)
    have HP3 : Hid (Pair12 w3 (.pointer (some ⟨b, 0, none⟩)) 0 (.slice al l.length cl)) := HP2.out.keeps hb3
    have HSl : Hid _ := slice_pair l _ al cl i j w3 (HV2.out.keeps hb3) (Lies.keeps hb3 _ _ _ HL2.out)
    clear HRc hb3 hq1 hq2 HB2 HP2 HV2 HL2
    go_wp2_with fail
    refine Calls.mono HSl.out ?_
    rintro e w4 ⟨hb4, k3, p3, rfl, hrs⟩
    have HRs : Hid _ := hrs w4 (Below.refl _ _)
    have HQ1 : Hid (Pair12 w4 p1 k (.slice a1 n1 c1)) := HQ1.out.keeps hb4
    have HQ2 : Hid (Pair12 w4 p2 k (.slice a2 n2 c2)) := HQ2.out.keeps hb4
    have HB4 : Hid (Below w.heap.size w w4) := HB3.out.trans (hb4.mono HB3.out.size)
    have HP4 : Hid (Pair12 w4 (.pointer (some ⟨b, 0, none⟩)) 0 (.slice al l.length cl)) := HP3.out.keeps hb4
    clear HSl hrs hb4 HB3 HP3
    go_wp2_with fail
    refine Calls.mono HRs.out ?_
    rintro e w5 ⟨hb5, a3, n3, c3, rfl, hq3⟩
    have HQ3 : Hid (Pair12 w5 p3 k3 (.slice a3 n3 c3)) := hq3
    have HQ1 : Hid (Pair12 w5 p1 k (.slice a1 n1 c1)) := HQ1.out.keeps hb5
    have HQ2 : Hid (Pair12 w5 p2 k (.slice a2 n2 c2)) := HQ2.out.keeps hb5
    have HB5 : Hid (Below w.heap.size w w5) := HB4.out.trans (hb5.mono HB4.out.size)
    have HP5 : Hid (Pair12 w5 (.pointer (some ⟨b, 0, none⟩)) 0 (.slice al l.length cl)) := HP4.out.keeps hb5
    clear HRs hq3 hb5 HB4 HP4
    go_wp2_with fail
    refine Calls.mono (HIs.out _ _ _ _ HQ1.out) ?_
    rintro e w6 ⟨rfl, hb6⟩
    have HQ3 : Hid (Pair12 w6 p3 k3 (.slice a3 n3 c3)) := HQ3.out.keeps hb6
    have HQ2 : Hid (Pair12 w6 p2 k (.slice a2 n2 c2)) := HQ2.out.keeps hb6
    have HB6 : Hid (Below w.heap.size w w6) := HB5.out.trans (hb6.mono HB5.out.size)
    have HP6 : Hid (Pair12 w6 (.pointer (some ⟨b, 0, none⟩)) 0 (.slice al l.length cl)) := HP5.out.keeps hb6
    clear hb6 HB5 HP5 HQ1
    go_wp2_with fail
    refine Calls.mono (HIs.out _ _ _ _ HQ2.out) ?_
    rintro e w7 ⟨rfl, hb7⟩
    have HQ3 : Hid (Pair12 w7 p3 k3 (.slice a3 n3 c3)) := HQ3.out.keeps hb7
    have HB7 : Hid (Below w.heap.size w w7) := HB6.out.trans (hb7.mono HB6.out.size)
    have HP7 : Hid (Pair12 w7 (.pointer (some ⟨b, 0, none⟩)) 0 (.slice al l.length cl)) := HP6.out.keeps hb7
    clear hb7 HB6 HP6 HQ2
    go_wp2_with fail
    refine Calls.mono (HIs.out _ _ _ _ HQ3.out) ?_
    rintro e w8 ⟨rfl, hb8⟩
    have HB8 : Hid (Below w.heap.size w w8) := HB7.out.trans (hb8.mono HB7.out.size)
    have HP8 : Hid (Pair12 w8 (.pointer (some ⟨b, 0, none⟩)) 0 (.slice al l.length cl)) := HP7.out.keeps hb8
    clear hb8 HB7 HP7 HQ3
    go_wp2_with fail
    refine Calls.mono (HIs.out _ 0 _ _ HP8.out) ?_
    rintro e w9 ⟨rfl, hb9⟩
    have HB9 : Hid (Below w.heap.size w w9) := HB8.out.trans (hb9.mono HB8.out.size)
    clear hb9 HB8 HP8 HIs
    go_wp2_with fail
    refine Calls.mono (HSp.out _) ?_
    rintro e wz ⟨rfl, hbz⟩
    have HBz : Hid (Below w.heap.size w wz) := HB9.out.trans (hbz.mono HB9.out.size)
    clear hbz HB9
    go_wp2_with fail
    go_ret
    exact ⟨rfl, HBz.out⟩
  · have hkz : ¬ ((k : Int) = 0) := by rcases hk with rfl | rfl <;> decide
    clear HO hk
    go_wp2_with fail
    refine Calls.mono (HSp.out _) ?_
    rintro e wz ⟨rfl, hbz⟩
    have HBz : Hid (Below w.heap.size w wz) := hb1.trans (hbz.mono hb1.size)
    clear hbz hb1
    go_wp2_with fail
    go_ret
    exact ⟨rfl, HBz.out⟩

end Go.Proofs.Ytpnfmcmhcjekfab

