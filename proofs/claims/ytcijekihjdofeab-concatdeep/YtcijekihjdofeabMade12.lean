/-
  Two vectors made of two lists; three joined.
-/
import Derived.Test.YtcijekihjdofeabCutsLaw
namespace Go.Proofs.Ytcijekihjdofeab
open Go.RowKit

structure Rw (w W : World) (v : Value) (n : Nat) (xs : List Value) : Prop where
  below : Below w.heap.size w W
  own : W.ownsRow w.heap.size 38 4 v n xs

theorem Rw.start (w : World) : Rw w (w.alloc (.cells #[] 38)) (.slice (some ⟨w.heap.size, 0, none⟩) 0 0) 0 [] := ⟨((Grew.refl w).alloc _).below, own_empty w _ (Nat.le_refl _)⟩

theorem Rw.append {w W : World} {ops : Array Oper} {rest : List Oper} {o : Oper} {act : Act} {Q : Exit → Act → World → Prop} (hgd : o.guard = none) (s x : Operand)
    (ho : o.op = .call { callee := .builtin .append, args := #[s, x], argTypes := #[22, 22] })
    {v : Value} {n : Nat} {xs : List Value} (hr : Rw w W v n xs) (hs : act.eval s = v) {aa : Option Addr} {m c : Nat} (hx : act.eval x = .slice aa m c) {news : List Value} (hsrc : Src w aa m 4 news) (k : Nat) (hk : n + m = k) (hm : k ≤ 200000)
    (h : ∀ a' c' W', Rw w W' (.slice a' k c') k (xs ++ news) → wpList Try.prog ops Q rest (act.put o.dst (.slice a' k c')) W') : wpList Try.prog ops Q (o :: rest) act W := by
  subst hk
  obtain ⟨i0, hi, hz0, hz1, hz2⟩ := info24
  refine wpList_append_row hgd s x ho w.heap.size i0 hi hz0 hz1 hz2 v n xs hs hr.own aa m c news hx hsrc.none hsrc.len (hsrc.cell hr.below) hsrc.one (by unfold maxLen; omega) (by omega) hr.below.size (fun v' w' h1 h2 => ?_)
  have hb : Below w.heap.size w w' := own_growM hr.below hr.below.size hr.own h2
  have hv : ∃ a' c', v' = .slice a' (n + m) c' := by
    rcases h1.2 with ⟨e1, e2⟩ | ⟨g, cap, _, e1, _⟩
    · exact ⟨none, 0, by rw [e1, e2]⟩
    · exact ⟨_, cap, e1⟩
  obtain ⟨a', c', rfl⟩ := hv
  exact h a' c' w' ⟨hb, h1⟩

theorem Rw.lies {w W : World} {v : Value} {n : Nat} {ps : List (VT × Value)} (h : Rw w W v n (ps.flatMap encP)) (hn : n = ps.length) (hs : ∀ p ∈ ps, Sound 16 w p) (hl : n ≤ 200000) : Lies 17 W (ps.map (·.1)) v :=
  own_lies (d := 16) hn h.own (fun p hp => (hs p hp).keeps h.below) (by omega)

/-- The first items of a list, as a source. -/
theorem src_take {w : World} {l : List VT} {a : Option Addr} {c : Nat} (hl : Lies 17 w l (.slice a l.length c)) (n : Nat) (hnl : n ≤ l.length) : ∃ ps : List (VT × Value), ps.map (·.1) = l.take n ∧ ps.length = n ∧ Src w a n 4 (ps.flatMap encP) ∧ ∀ p ∈ ps, Sound 16 w p := by
  have e1 : (l.take n).length = n := by rw [List.length_take, Nat.min_eq_left hnl]
  by_cases hn0 : n = 0
  · subst hn0
    exact ⟨[], rfl, rfl, Src.nil w a, fun p hp => by cases hp⟩
  · obtain ⟨g, o, rfl, _⟩ := Lies.some_at hl (by omega)
    have h2 := Lies.taken hl n hnl
    rw [← e1] at h2
    obtain ⟨ps, p1, p2, p3, p4⟩ := src_of (l := l.take n) (by rw [e1] at h2 ⊢; exact h2)
    rw [e1] at p2 p3
    exact ⟨ps, p1, p2, p3, p4⟩

end Go.Proofs.Ytcijekihjdofeab

namespace Go.Proofs.Ytcijekihjdofeab
open Go.RowKit

set_option maxRecDepth 100000 in
set_option maxHeartbeats 8000000 in
theorem rsplice_any (l m : List VT) (a am : Option Addr) (c cm : Nat) (i j : Int) (w : World) (hl : Lies 17 w l (.slice a l.length c)) (hlen : l.length ≤ 65536) (hm : Lies 17 w m (.slice am m.length cm)) (hmlen : m.length ≤ 65536) : Calls Try.prog 44 #[.slice a l.length c, .int .i64 i, .int .i64 j, .slice am m.length cm] w (LstPost (spliceR l i j m) w) := by
  have HE1 : Hid _ := rend_any l a c i w
  have HE2 : Hid _ := rend_any l a c j w
  obtain ⟨R, hR⟩ : ∃ R, R = spliceR l i j m := ⟨_, rfl⟩
  rw [← hR]
  unfold spliceR at hR
  by_cases h1 : endB l i
  · rw [decide_eq_true h1] at HE1
    by_cases h2 : endB l j
    · rw [decide_eq_true h2] at HE2
      by_cases h3 : i ≤ j
      · rw [if_pos ⟨h1, h2, h3⟩] at hR
        obtain ⟨ni, rfl⟩ := Int.eq_ofNat_of_zero_le h1.1
        obtain ⟨nj, rfl⟩ := Int.eq_ofNat_of_zero_le h2.1
        rw [Int.toNat_natCast, Int.toNat_natCast] at hR
        have hjl : nj ≤ l.length := by have := h2.2; omega
        have hij : ni ≤ nj := by omega
        have hgt : ¬ ((nj : Nat) : Int) < (ni : Nat) := by omega
        have hlc : l.length ≤ c := by obtain ⟨_, _, e, h, _⟩ := hl; injection e with _ _ e; omega
        have e1 : (l.take ni ++ (m ++ l.drop nj)).length = ni + m.length + (l.length - nj) := by
          rw [List.length_append, List.length_append, List.length_take, List.length_drop, Nat.min_eq_left (by omega)]
          omega
        obtain ⟨D, hD⟩ : ∃ D : Nat, D = nj - ni := ⟨_, rfl⟩
        obtain ⟨E, hE⟩ : ∃ E : Nat, E = l.length - D := ⟨_, rfl⟩
        obtain ⟨F, hF⟩ : ∃ F : Int, F = 65536 - (E : Nat) := ⟨_, rfl⟩
        have hw1 : IntKind.i64.wrap ((nj : Int) - (ni : Nat)) = (D : Nat) := by rw [IntKind.wrap_i64]; omega
        have hw2 : IntKind.i64.wrap ((l.length : Int) - (D : Nat)) = (E : Nat) := by rw [IntKind.wrap_i64]; omega
        have hw3 : IntKind.i64.wrap (65536 - ((E : Nat) : Int)) = F := by rw [IntKind.wrap_i64]; omega
        by_cases hsz : (l.take ni ++ (m ++ l.drop nj)).length ≤ 65536
        · rw [if_pos hsz] at hR
          have hcmp : ¬ F < ((m.length : Nat) : Int) := by omega
          rw [e1] at hsz
          have HR : Hid (R = .inl (l.take ni ++ (m ++ l.drop nj))) := hR
          obtain ⟨ps, hp1, hp2, hsA, hsd⟩ := src_take hl ni (by omega)
          obtain ⟨pm, hm1, hm2, hsM, hsm⟩ := src_of hm
          have HSA : Hid (Src w a ni 4 (ps.flatMap encP)) := hsA
          have HSM : Hid (Src w am m.length 4 (pm.flatMap encP)) := hsM
          have hfin : ∀ (qs : List (VT × Value)) (N : Nat) (W : World) (a9 c9), qs.map (·.1) = l.drop nj → (∀ p ∈ qs, Sound 16 w p) → N = ni + m.length + (l.length - nj) → Rw w W (.slice a9 N c9) N ((([] ++ ps.flatMap encP) ++ pm.flatMap encP) ++ qs.flatMap encP) → LstPost R w (.returned (.tuple #[.slice a9 N c9, .int .i64 0])) W := fun qs N W a9 c9 q1 q2 hN h => by
            have hq : qs.length = l.length - nj := by have := congrArg List.length q1; rw [List.length_map, List.length_drop] at this; exact this
            have e9 : (([] ++ ps.flatMap encP) ++ pm.flatMap encP) ++ qs.flatMap encP = (ps ++ (pm ++ qs)).flatMap encP := by simp [List.flatMap_append]
            rw [e9] at h
            have h9 := h.lies (by rw [List.length_append, List.length_append, hp2, hm2, hq]; omega) (fun p hp => by
              rcases List.mem_append.1 hp with hp | hp
              · exact hsd p hp
              · rcases List.mem_append.1 hp with hp | hp
                · exact hsm p hp
                · exact q2 p hp) (by omega)
            rw [List.map_append, List.map_append, hp1, hm1, q1] at h9
            rw [HR.out]
            obtain rfl : N = (l.take ni ++ (m ++ l.drop nj)).length := by rw [e1]; exact hN
            exact ⟨h.below, a9, c9, rfl, h9⟩
          obtain ⟨M, hM⟩ : ∃ M, M = m.length := ⟨_, rfl⟩
          by_cases hne : nj = l.length
          · have hd : l.drop nj = [] := List.drop_eq_nil_of_le (by omega)
            have HF : Hid (∀ (N : Nat) (W : World) (a9 c9), Rw w W (.slice a9 N c9) N ((([] ++ ps.flatMap encP) ++ pm.flatMap encP) ++ []) → N = ni + m.length → LstPost R w (.returned (.tuple #[.slice a9 N c9, .int .i64 0])) W) := fun N W a9 c9 h hN => hfin [] N W a9 c9 (by rw [hd]; rfl) (fun p hp => by cases hp) (by omega) h
            have hE' : E = l.length - D := hE
            obtain ⟨L, hL⟩ : ∃ L, L = l.length := ⟨_, rfl⟩
            rw [← hL] at hne hjl hlc hlen HE1 HE2 hw2 hsz ⊢
            rw [← hM] at hmlen HSM HF hcmp hsz ⊢
            subst hne
            have hnci : (nj : Int) ≤ (c : Nat) := by omega
            have hici : (ni : Int) ≤ (c : Nat) := by omega
            have hself : ¬ ((nj : Nat) : Int) < (nj : Nat) := by omega
            clear hfin hl hm hsA hsM hp1 hm1 hsd hsm e1 hd hL h1 h2 h3 hR hE hE' hD hF hM hm2 hp2
            by_cases hcn : c = nj
            · subst hcn
              cases a with
              | none =>
                go_enter Try.func44, Try.ntmps44
                go_wp2_with fail
                refine Calls.mono HE1.out ?_
                rintro e w1 ⟨rfl, hw1⟩
                obtain rfl : w = w1 := hw1.symm
                clear HE1
                go_wp2_with fail
                refine Calls.mono HE2.out ?_
                rintro e w1 ⟨rfl, hw1⟩
                obtain rfl : w = w1 := hw1.symm
                clear HE2
                have HC := Rw.start w
                go_wp2_with
                  (first
                    | (at_builtin; refine Rw.append rfl _ _ rfl HC rfl rfl HSA.out (ni) (by omega) (by omega) ?_; clear HC; intro ax cx W HC)
                    | (at_builtin; refine Rw.append rfl _ _ rfl HC rfl rfl HSM.out (ni + M) (by omega) (by omega) ?_; clear HC; intro ax cx W HC)
                    | (at_builtin; refine Rw.append rfl _ _ rfl HC rfl rfl (Src.nil w _) (ni + M) (by omega) (by omega) ?_; clear HC; intro ax cx W HC))
                have HG0 := HF.out _ _ _ _ HC
                have HG : Hid _ := HG0 (by omega)
                clear HG0
                clear HC HF
                go_wp2_with fail
                go_ret2
                exact HG.out
              | some ad =>
                go_enter Try.func44, Try.ntmps44
                go_wp2_with fail
                refine Calls.mono HE1.out ?_
                rintro e w1 ⟨rfl, hw1⟩
                obtain rfl : w = w1 := hw1.symm
                clear HE1
                go_wp2_with fail
                refine Calls.mono HE2.out ?_
                rintro e w1 ⟨rfl, hw1⟩
                obtain rfl : w = w1 := hw1.symm
                clear HE2
                have HC := Rw.start w
                go_wp2_with
                  (first
                    | (at_builtin; refine Rw.append rfl _ _ rfl HC rfl rfl HSA.out (ni) (by omega) (by omega) ?_; clear HC; intro ax cx W HC)
                    | (at_builtin; refine Rw.append rfl _ _ rfl HC rfl rfl HSM.out (ni + M) (by omega) (by omega) ?_; clear HC; intro ax cx W HC)
                    | (at_builtin; refine Rw.append rfl _ _ rfl HC rfl rfl (Src.nil w _) (ni + M) (by omega) (by omega) ?_; clear HC; intro ax cx W HC))
                have HG0 := HF.out _ _ _ _ HC
                have HG : Hid _ := HG0 (by omega)
                clear HG0
                clear HC HF
                go_wp2_with fail
                go_ret2
                exact HG.out
            · have hcni : ¬ ((c : Nat) : Int) = (nj : Nat) := by omega
              cases a with
              | none =>
                go_enter Try.func44, Try.ntmps44
                go_wp2_with fail
                refine Calls.mono HE1.out ?_
                rintro e w1 ⟨rfl, hw1⟩
                obtain rfl : w = w1 := hw1.symm
                clear HE1
                go_wp2_with fail
                refine Calls.mono HE2.out ?_
                rintro e w1 ⟨rfl, hw1⟩
                obtain rfl : w = w1 := hw1.symm
                clear HE2
                have HC := Rw.start w
                go_wp2_with
                  (first
                    | (at_builtin; refine Rw.append rfl _ _ rfl HC rfl rfl HSA.out (ni) (by omega) (by omega) ?_; clear HC; intro ax cx W HC)
                    | (at_builtin; refine Rw.append rfl _ _ rfl HC rfl rfl HSM.out (ni + M) (by omega) (by omega) ?_; clear HC; intro ax cx W HC)
                    | (at_builtin; refine Rw.append rfl _ _ rfl HC rfl rfl (Src.nil w _) (ni + M) (by omega) (by omega) ?_; clear HC; intro ax cx W HC))
                have HG0 := HF.out _ _ _ _ HC
                have HG : Hid _ := HG0 (by omega)
                clear HG0
                clear HC HF
                go_wp2_with fail
                go_ret2
                exact HG.out
              | some ad =>
                go_enter Try.func44, Try.ntmps44
                go_wp2_with fail
                refine Calls.mono HE1.out ?_
                rintro e w1 ⟨rfl, hw1⟩
                obtain rfl : w = w1 := hw1.symm
                clear HE1
                go_wp2_with fail
                refine Calls.mono HE2.out ?_
                rintro e w1 ⟨rfl, hw1⟩
                obtain rfl : w = w1 := hw1.symm
                clear HE2
                have HC := Rw.start w
                go_wp2_with
                  (first
                    | (at_builtin; refine Rw.append rfl _ _ rfl HC rfl rfl HSA.out (ni) (by omega) (by omega) ?_; clear HC; intro ax cx W HC)
                    | (at_builtin; refine Rw.append rfl _ _ rfl HC rfl rfl HSM.out (ni + M) (by omega) (by omega) ?_; clear HC; intro ax cx W HC)
                    | (at_builtin; refine Rw.append rfl _ _ rfl HC rfl rfl (Src.nil w _) (ni + M) (by omega) (by omega) ?_; clear HC; intro ax cx W HC))
                have HG0 := HF.out _ _ _ _ HC
                have HG : Hid _ := HG0 (by omega)
                clear HG0
                clear HC HF
                go_wp2_with fail
                go_ret2
                exact HG.out
          · have hlt : nj < l.length := by omega
            obtain ⟨g, o, rfl, hcl⟩ := Lies.some_at hl (by omega)
            obtain ⟨qs, q1, q2, hsB, hsq⟩ := src_part hl nj l.length (Nat.le_refl _)
            rw [List.take_length] at q1
            have HSB : Hid (Src w (some ⟨g, o + nj * 4, none⟩) (l.length - nj) 4 (qs.flatMap encP)) := hsB
            have HF : Hid (∀ (N : Nat) (W : World) (a9 c9), Rw w W (.slice a9 N c9) N ((([] ++ ps.flatMap encP) ++ pm.flatMap encP) ++ qs.flatMap encP) → N = ni + m.length + (l.length - nj) → LstPost R w (.returned (.tuple #[.slice a9 N c9, .int .i64 0])) W) := fun N W a9 c9 h hN => hfin qs N W a9 c9 q1 hsq hN h
            obtain ⟨L, hL⟩ : ∃ L, L = l.length := ⟨_, rfl⟩
            rw [← hL] at hlt hjl hlc hlen HE1 HE2 hw2 HSB HF hsz ⊢
            rw [← hM] at hmlen HSM HF hcmp hsz ⊢
            have hnci : (nj : Int) ≤ (c : Nat) := by omega
            have hici : (ni : Int) ≤ (c : Nat) := by omega
            have hnLi : (nj : Int) ≤ (L : Nat) := by omega
            have hLci : (L : Int) ≤ (c : Nat) := by omega
            have hcn : ¬ (c = nj) := by omega
            have hcni : ¬ ((c : Nat) : Int) = (nj : Nat) := by omega
            clear hfin hl hm hsA hsM hsB hp1 hm1 hsd hsm hsq q1 q2 e1 hL h1 h2 h3 hR hne hcl hE hD hF hM hm2 hp2
            go_enter Try.func44, Try.ntmps44
            go_wp2_with fail
            refine Calls.mono HE1.out ?_
            rintro e w1 ⟨rfl, hw1⟩
            obtain rfl : w = w1 := hw1.symm
            clear HE1
            go_wp2_with fail
            refine Calls.mono HE2.out ?_
            rintro e w1 ⟨rfl, hw1⟩
            obtain rfl : w = w1 := hw1.symm
            clear HE2
            have HC := Rw.start w
            go_wp2_with
              (first
                | (at_builtin; refine Rw.append rfl _ _ rfl HC rfl rfl HSA.out (ni) (by omega) (by omega) ?_; clear HC; intro ax cx W HC)
                | (at_builtin; refine Rw.append rfl _ _ rfl HC rfl rfl HSM.out (ni + M) (by omega) (by omega) ?_; clear HC; intro ax cx W HC)
                | (at_builtin; refine Rw.append rfl _ _ rfl HC rfl rfl HSB.out (ni + M + (L - nj)) (by omega) (by omega) ?_; clear HC; intro ax cx W HC))
            have HG0 := HF.out _ _ _ _ HC
            have HG : Hid _ := HG0 (by omega)
            clear HG0
            clear HC HF
            go_wp2_with fail
            go_ret2
            exact HG.out
        · rw [if_neg hsz] at hR
          have hcmp : F < ((m.length : Nat) : Int) := by omega
          have HE : Hid (LstPost R w (.returned (.tuple #[.slice none 0 0, .int .i64 2])) w) := by
            show LstPost _ _ _ _
            rw [hR]
            exact ⟨Below.refl _ _, rfl⟩
          clear hl hm hR hsz e1 hE hD hF h1 h2 h3
          go_enter Try.func44, Try.ntmps44
          go_wp2_with fail
          refine Calls.mono HE1.out ?_
          rintro e w1 ⟨rfl, hw1⟩
          obtain rfl : w = w1 := hw1.symm
          clear HE1
          go_wp2_with fail
          refine Calls.mono HE2.out ?_
          rintro e w1 ⟨rfl, hw1⟩
          obtain rfl : w = w1 := hw1.symm
          clear HE2
          go_wp2_with fail
          go_ret2
          exact HE.out
      · rw [if_neg (fun h => h3 h.2.2)] at hR
        have hgt : ((j : Int) < i) := by omega
        have HE : Hid (LstPost R w (.returned (.tuple #[.slice none 0 0, .int .i64 5])) w) := by
          show LstPost _ _ _ _
          rw [hR]
          exact ⟨Below.refl _ _, rfl⟩
        clear hl hm hR
        go_enter Try.func44, Try.ntmps44
        go_wp2_with fail
        refine Calls.mono HE1.out ?_
        rintro e w1 ⟨rfl, hw1⟩
        obtain rfl : w = w1 := hw1.symm
        clear HE1
        go_wp2_with fail
        refine Calls.mono HE2.out ?_
        rintro e w1 ⟨rfl, hw1⟩
        obtain rfl : w = w1 := hw1.symm
        clear HE2
        go_wp2_with fail
        go_ret2
        exact HE.out
    · rw [decide_eq_false h2] at HE2
      rw [if_neg (fun h => h2 h.2.1)] at hR
      have HE : Hid (LstPost R w (.returned (.tuple #[.slice none 0 0, .int .i64 5])) w) := by
        show LstPost _ _ _ _
        rw [hR]
        exact ⟨Below.refl _ _, rfl⟩
      clear hl hm hR
      go_enter Try.func44, Try.ntmps44
      go_wp2_with fail
      refine Calls.mono HE1.out ?_
      rintro e w1 ⟨rfl, hw1⟩
      obtain rfl : w = w1 := hw1.symm
      clear HE1
      go_wp2_with fail
      refine Calls.mono HE2.out ?_
      rintro e w1 ⟨rfl, hw1⟩
      obtain rfl : w = w1 := hw1.symm
      clear HE2
      go_wp2_with fail
      go_ret2
      exact HE.out
  · rw [decide_eq_false h1] at HE1
    rw [if_neg (fun h => h1 h.1)] at hR
    have HE : Hid (LstPost R w (.returned (.tuple #[.slice none 0 0, .int .i64 5])) w) := by
      show LstPost _ _ _ _
      rw [hR]
      exact ⟨Below.refl _ _, rfl⟩
    clear hl hm hR HE2
    go_enter Try.func44, Try.ntmps44
    go_wp2_with fail
    refine Calls.mono HE1.out ?_
    rintro e w1 ⟨rfl, hw1⟩
    obtain rfl : w = w1 := hw1.symm
    clear HE1
    go_wp2_with fail
    go_ret2
    exact HE.out

end Go.Proofs.Ytcijekihjdofeab

namespace Go.Proofs.Ytcijekihjdofeab
open Go.RowKit

/-- What 'made' tells. -/
def Made2Post (l m : List VT) (u1 u2 : Value) (w : World) (e : Ending) (w' : World) : Prop :=
  Below w.heap.size w w' ∧ ((∃ b1 b2, e = .returned (.tuple #[.pointer (some ⟨b1, 0, none⟩), .pointer (some ⟨b2, 0, none⟩), .bool true]) ∧ VV w' l (.pointer (some ⟨b1, 0, none⟩)) ∧ VV w' m (.pointer (some ⟨b2, 0, none⟩)) ∧ Lies 17 w' l u1 ∧ Lies 17 w' m u2) ∨ (∃ p q : Option Addr, e = .returned (.tuple #[.pointer p, .pointer q, .bool false])))

set_option maxRecDepth 100000 in
set_option maxHeartbeats 8000000 in
theorem made_any (n : Nat) (l m : List VT) (a am : Option Addr) (c cm : Nat) (w : World) (hl : Lies (n + 1) w l (.slice a l.length c)) (hm : Lies (n + 1) w m (.slice am m.length cm)) :
    Calls Try.prog 20 #[.agg #[.slice a l.length c, .slice am m.length cm]] w (Made2Post l m (.slice a l.length c) (.slice am m.length cm) w) := by
  obtain ⟨wA, hwA⟩ : ∃ wA, wA = w.alloc (.cells #[.slice a l.length c, .slice am m.length cm] 48) := ⟨_, rfl⟩
  have hbA : Below w.heap.size w wA := by rw [hwA]; exact ((Grew.refl w).alloc _).below
  have hc : wA.cell? ⟨w.heap.size, 1, none⟩ = some (.slice am m.length cm) := by rw [hwA]; simp
  have HO : Hid _ := of_vv n l _ wA (Lies.keeps hbA _ _ _ hl)
  have HwA : Hid (wA = w.alloc (.cells #[.slice a l.length c, .slice am m.length cm] 48)) := hwA
  have HM : Hid (Lies (n + 1) w m (.slice am m.length cm)) := hm
  rw [hwA] at HO
  clear hl hm hwA
  go_enter Try.func20, Try.ntmps20
  go_wp2_with fail
  refine Calls.mono HO.out ?_
  rintro e w1 ⟨hg1, hp1⟩
  rw [← HwA.out] at hg1
  have hb1 : Below w.heap.size w w1 := hbA.trans (hg1.mono hbA.size)
  have hc1 := cell_keeps hg1 hc
  have HO2 : Hid _ := of_vv n m _ w1 (Lies.keeps hb1 _ _ _ HM.out)
  clear HO hc hg1 HM HwA hbA
  have hp1' : ∃ (p : Option Addr) (k : Nat), e = .returned (.tuple #[.pointer p, .int .i64 (k : Int)]) ∧ ((k = 0 ∧ ∃ b, p = some ⟨b, 0, none⟩ ∧ VV w1 l (.pointer p) ∧ Lies 17 w1 l (.slice a l.length c)) ∨ k ≠ 0) := by
    rcases hp1 with ⟨b, rfl, hv, hl⟩ | ⟨k, rfl, hk⟩
    · exact ⟨_, 0, rfl, .inl ⟨rfl, b, rfl, hv, hl⟩⟩
    · exact ⟨_, k, rfl, .inr (by omega)⟩
  obtain ⟨p, k, rfl, HP1⟩ := hp1'
  have HP1 : Hid _ := HP1
  clear hp1
  go_wp2_with fail
  refine Calls.mono HO2.out ?_
  rintro e w2 ⟨hg2, hp2⟩
  have hb2 : Below w.heap.size w w2 := hb1.trans (hg2.mono hb1.size)
  clear HO2 hc1
  rcases HP1.out with ⟨rfl, b1, rfl, hv1, hl1⟩ | hk
  · have HV1 : Hid (VV w2 l (.pointer (some ⟨b1, 0, none⟩))) := hv1.keeps hg2
    have HL1 : Hid (Lies 17 w2 l (.slice a l.length c)) := Lies.keeps hg2 _ _ _ hl1
    clear HP1 hv1 hl1
    rcases hp2 with ⟨b2, rfl, hv2, hl2⟩ | ⟨k2, rfl, hk2⟩
    · have HE : Hid (Made2Post l m (.slice a l.length c) (.slice am m.length cm) w (.returned (.tuple #[.pointer (some ⟨b1, 0, none⟩), .pointer (some ⟨b2, 0, none⟩), .bool true])) w2) := ⟨hb2, .inl ⟨b1, b2, rfl, HV1.out, hv2, HL1.out, hl2⟩⟩
      clear HV1 HL1 hv2 hl2
      go_wp2_with fail
      go_ret3
      exact HE.out
    · have hkz : ¬ ((k2 : Int) = 0) := by omega
      have HE : Hid (Made2Post l m (.slice a l.length c) (.slice am m.length cm) w (.returned (.tuple #[.pointer (some ⟨b1, 0, none⟩), .pointer none, .bool false])) w2) := ⟨hb2, .inr ⟨_, _, rfl⟩⟩
      clear HV1 HL1 hk2
      go_wp2_with fail
      go_ret3
      exact HE.out
  · have hkz : ¬ ((k : Int) = 0) := by omega
    obtain ⟨q, k2, rfl⟩ : ∃ (q : Option Addr) (k2 : Nat), e = .returned (.tuple #[.pointer q, .int .i64 (k2 : Int)]) := by
      rcases hp2 with ⟨b2, rfl, _⟩ | ⟨k2, rfl, _⟩
      · exact ⟨_, 0, rfl⟩
      · exact ⟨_, k2, rfl⟩
    have HE : Hid (Made2Post l m (.slice a l.length c) (.slice am m.length cm) w (.returned (.tuple #[.pointer p, .pointer q, .bool false])) w2) := ⟨hb2, .inr ⟨_, _, rfl⟩⟩
    clear HP1 hp2 hk
    go_wp2_with fail
    go_ret3
    exact HE.out

def catR3 (l m r : List VT) : List VT ⊕ Nat := if (l ++ (m ++ r)).length ≤ 65536 then .inl (l ++ (m ++ r)) else .inr 2

set_option maxRecDepth 100000 in
set_option maxHeartbeats 8000000 in
theorem all3_any (l m r : List VT) (p q s : Option Addr) (w : World) (h1 : VV w l (.pointer p)) (h2 : VV w m (.pointer q)) (h3 : VV w r (.pointer s)) :
    Calls Try.prog 23 #[.slice (some ⟨w.heap.size, 0, none⟩) 3 3] (w.alloc (.cells #[.pointer p, .pointer q, .pointer s] 23)) (VvPost (catR3 l m r) w) := by
  have hba : Below w.heap.size w (w.alloc (.cells #[.pointer p, .pointer q, .pointer s] 23)) := ((Grew.refl w).alloc _).below
  have h9 := join_vv [(l, .pointer p), (m, .pointer q), (r, .pointer s)] w.heap.size (w.alloc (.cells #[.pointer p, .pointer q, .pointer s] 23)) (fun i hi => by
    match i, hi with
    | 0, _ => simp
    | 1, _ => simp
    | 2, _ => simp) (by simp) (by simp) (fun p hp => by
      simp only [List.mem_cons, List.not_mem_nil, or_false] at hp
      rcases hp with rfl | rfl | rfl
      · exact h1.keeps hba
      · exact h2.keeps hba
      · exact h3.keeps hba)
  have e : joinR [(l, .pointer p), (m, .pointer q), (r, .pointer s)] = catR3 l m r := by
    unfold joinR catR3
    simp only [List.flatMap_cons, List.flatMap_nil, List.append_nil]
  rw [e] at h9
  have HJ : Hid (Calls Try.prog 47 #[.slice (some ⟨w.heap.size, 0, none⟩) 3 3] (w.alloc (.cells #[.pointer p, .pointer q, .pointer s] 23)) (VvPost (catR3 l m r) w)) := Calls.mono h9 (fun e w' hp => ⟨hba.trans (hp.1.mono hba.size), hp.2⟩)
  clear h9 e h1 h2 h3
  generalize catR3 l m r = R at *
  go_enter Try.func23, Try.ntmps23
  go_wp2_with fail
  refine Calls.mono HJ.out ?_
  intro e w1 hp
  clear HJ
  cases R with
  | inl t =>
    obtain ⟨hb2, b2, rfl, hv2⟩ := hp
    have HE : Hid (VvPost (.inl t) w (.returned (.tuple #[.pointer (some ⟨b2, 0, none⟩), .int .i64 0])) w1) := ⟨hb2, b2, rfl, hv2⟩
    clear hv2
    go_wp2_with fail
    go_ret2
    exact HE.out
  | inr k =>
    obtain ⟨hb2, he⟩ := hp
    simp only at he
    subst he
    have HE : Hid (VvPost (.inr k) w (.returned (.tuple #[.pointer none, .int .i64 (k : Int)])) w1) := ⟨hb2, rfl⟩
    go_wp2_with fail
    go_ret2
    exact HE.out

end Go.Proofs.Ytcijekihjdofeab

