/-
  ConcatJoins.
-/
import Derived.Test.YtcijekihjdofeaaRCat
import Derived.Test.YtcijekihjdofeaaEqF
namespace Go.Proofs.Ytcijekihjdofeaa
open Go.RowKit

set_option maxRecDepth 100000 in
set_option maxHeartbeats 8000000 in
theorem rsplice_any (l m : List VT) (a am : Option Addr) (c cm : Nat) (i j : Int) (w : World) (hl : Lies 17 w l (.slice a l.length c)) (hlen : l.length ≤ 65536) (hm : Lies 17 w m (.slice am m.length cm)) (hmlen : m.length ≤ 65536) : Calls Try.prog 38 #[.slice a l.length c, .int .i64 i, .int .i64 j, .slice am m.length cm] w (LstPost (spliceR l i j m) w) := by
  have HE1 : Hid _ := rend_any l a c i w
  have HE2 : Hid _ := rend_any l a c j w
  obtain ⟨R, hR⟩ : ∃ R, R = spliceR l i j m := ⟨_, rfl⟩
  rw [← hR]
  unfold spliceR at hR
  by_cases h1 : endB l i
  · rw [decide_eq_true h1] at HE1
    by_cases h2 : endB l j
    · rw [decide_eq_true h2] at HE2
      by_cases h3 : i ≤ j
      · rw [if_pos ⟨h1, h2, h3⟩] at hR
        obtain ⟨ni, rfl⟩ := Int.eq_ofNat_of_zero_le h1.1
        obtain ⟨nj, rfl⟩ := Int.eq_ofNat_of_zero_le h2.1
        rw [Int.toNat_natCast, Int.toNat_natCast] at hR
        have hjl : nj ≤ l.length := by have := h2.2; omega
        have hij : ni ≤ nj := by omega
        have hgt : ¬ ((nj : Nat) : Int) < (ni : Nat) := by omega
        have hlc : l.length ≤ c := by obtain ⟨_, _, e, h, _⟩ := hl; injection e with _ _ e; omega
        have e1 : (l.take ni ++ (m ++ l.drop nj)).length = ni + m.length + (l.length - nj) := by
          rw [List.length_append, List.length_append, List.length_take, List.length_drop, Nat.min_eq_left (by omega)]
          omega
        obtain ⟨D, hD⟩ : ∃ D : Nat, D = nj - ni := ⟨_, rfl⟩
        obtain ⟨E, hE⟩ : ∃ E : Nat, E = l.length - D := ⟨_, rfl⟩
        obtain ⟨F, hF⟩ : ∃ F : Int, F = 65536 - (E : Nat) := ⟨_, rfl⟩
        have hw1 : IntKind.i64.wrap ((nj : Int) - (ni : Nat)) = (D : Nat) := by rw [IntKind.wrap_i64]; omega
        have hw2 : IntKind.i64.wrap ((l.length : Int) - (D : Nat)) = (E : Nat) := by rw [IntKind.wrap_i64]; omega
        have hw3 : IntKind.i64.wrap (65536 - ((E : Nat) : Int)) = F := by rw [IntKind.wrap_i64]; omega
        by_cases hsz : (l.take ni ++ (m ++ l.drop nj)).length ≤ 65536
        · rw [if_pos hsz] at hR
          have hcmp : ¬ F < ((m.length : Nat) : Int) := by omega
          rw [e1] at hsz
          have HR : Hid (R = .inl (l.take ni ++ (m ++ l.drop nj))) := hR
          obtain ⟨ps, hp1, hp2, hsA, hsd⟩ := src_take hl ni (by omega)
          obtain ⟨pm, hm1, hm2, hsM, hsm⟩ := src_of hm
          have HSA : Hid (Src w a ni 4 (ps.flatMap encP)) := hsA
          have HSM : Hid (Src w am m.length 4 (pm.flatMap encP)) := hsM
          have hfin : ∀ (qs : List (VT × Value)) (N : Nat) (W : World) (a9 c9), qs.map (·.1) = l.drop nj → (∀ p ∈ qs, Sound 16 w p) → N = ni + m.length + (l.length - nj) → Rw w W (.slice a9 N c9) N ((([] ++ ps.flatMap encP) ++ pm.flatMap encP) ++ qs.flatMap encP) → LstPost R w (.returned (.tuple #[.slice a9 N c9, .int .i64 0])) W := fun qs N W a9 c9 q1 q2 hN h => by
            have hq : qs.length = l.length - nj := by have := congrArg List.length q1; rw [List.length_map, List.length_drop] at this; exact this
            have e9 : (([] ++ ps.flatMap encP) ++ pm.flatMap encP) ++ qs.flatMap encP = (ps ++ (pm ++ qs)).flatMap encP := by simp [List.flatMap_append]
            rw [e9] at h
            have h9 := h.lies (by rw [List.length_append, List.length_append, hp2, hm2, hq]; omega) (fun p hp => by
              rcases List.mem_append.1 hp with hp | hp
              · exact hsd p hp
              · rcases List.mem_append.1 hp with hp | hp
                · exact hsm p hp
                · exact q2 p hp) (by omega)
            rw [List.map_append, List.map_append, hp1, hm1, q1] at h9
            rw [HR.out]
            obtain rfl : N = (l.take ni ++ (m ++ l.drop nj)).length := by rw [e1]; exact hN
            exact ⟨h.below, a9, c9, rfl, h9⟩
          obtain ⟨M, hM⟩ : ∃ M, M = m.length := ⟨_, rfl⟩
          by_cases hne : nj = l.length
          · have hd : l.drop nj = [] := List.drop_eq_nil_of_le (by omega)
            have HF : Hid (∀ (N : Nat) (W : World) (a9 c9), Rw w W (.slice a9 N c9) N ((([] ++ ps.flatMap encP) ++ pm.flatMap encP) ++ []) → N = ni + m.length → LstPost R w (.returned (.tuple #[.slice a9 N c9, .int .i64 0])) W) := fun N W a9 c9 h hN => hfin [] N W a9 c9 (by rw [hd]; rfl) (fun p hp => by cases hp) (by omega) h
            have hE' : E = l.length - D := hE
            obtain ⟨L, hL⟩ : ∃ L, L = l.length := ⟨_, rfl⟩
            rw [← hL] at hne hjl hlc hlen HE1 HE2 hw2 hsz ⊢
            rw [← hM] at hmlen HSM HF hcmp hsz ⊢
            subst hne
            have hnci : (nj : Int) ≤ (c : Nat) := by omega
            have hici : (ni : Int) ≤ (c : Nat) := by omega
            have hself : ¬ ((nj : Nat) : Int) < (nj : Nat) := by omega
            clear hfin hl hm hsA hsM hp1 hm1 hsd hsm e1 hd hL h1 h2 h3 hR hE hE' hD hF hM hm2 hp2
            by_cases hcn : c = nj
            · subst hcn
              cases a with
              | none =>
                go_enter Try.func38, Try.ntmps38
                go_wp2_with fail
                refine Calls.mono HE1.out ?_
                rintro e w1 ⟨rfl, hw1⟩
                obtain rfl : w = w1 := hw1.symm
                clear HE1
                go_wp2_with fail
                refine Calls.mono HE2.out ?_
                rintro e w1 ⟨rfl, hw1⟩
                obtain rfl : w = w1 := hw1.symm
                clear HE2
                have HC := Rw.start w
                go_wp2_with
                  (first
                    | (at_builtin; refine Rw.append rfl _ _ rfl HC rfl rfl HSA.out (ni) (by omega) (by omega) ?_; clear HC; intro ax cx W HC)
                    | (at_builtin; refine Rw.append rfl _ _ rfl HC rfl rfl HSM.out (ni + M) (by omega) (by omega) ?_; clear HC; intro ax cx W HC)
                    | (at_builtin; refine Rw.append rfl _ _ rfl HC rfl rfl (Src.nil w _) (ni + M) (by omega) (by omega) ?_; clear HC; intro ax cx W HC))
                have HG0 := HF.out _ _ _ _ HC
                have HG : Hid _ := HG0 (by omega)
                clear HG0
                clear HC HF
                go_wp2_with fail
                go_ret2
                exact HG.out
              | some ad =>
                go_enter Try.func38, Try.ntmps38
                go_wp2_with fail
                refine Calls.mono HE1.out ?_
                rintro e w1 ⟨rfl, hw1⟩
                obtain rfl : w = w1 := hw1.symm
                clear HE1
                go_wp2_with fail
                refine Calls.mono HE2.out ?_
                rintro e w1 ⟨rfl, hw1⟩
                obtain rfl : w = w1 := hw1.symm
                clear HE2
                have HC := Rw.start w
                go_wp2_with
                  (first
                    | (at_builtin; refine Rw.append rfl _ _ rfl HC rfl rfl HSA.out (ni) (by omega) (by omega) ?_; clear HC; intro ax cx W HC)
                    | (at_builtin; refine Rw.append rfl _ _ rfl HC rfl rfl HSM.out (ni + M) (by omega) (by omega) ?_; clear HC; intro ax cx W HC)
                    | (at_builtin; refine Rw.append rfl _ _ rfl HC rfl rfl (Src.nil w _) (ni + M) (by omega) (by omega) ?_; clear HC; intro ax cx W HC))
                have HG0 := HF.out _ _ _ _ HC
                have HG : Hid _ := HG0 (by omega)
                clear HG0
                clear HC HF
                go_wp2_with fail
                go_ret2
                exact HG.out
            · have hcni : ¬ ((c : Nat) : Int) = (nj : Nat) := by omega
              cases a with
              | none =>
                go_enter Try.func38, Try.ntmps38
                go_wp2_with fail
                refine Calls.mono HE1.out ?_
                rintro e w1 ⟨rfl, hw1⟩
                obtain rfl : w = w1 := hw1.symm
                clear HE1
                go_wp2_with fail
                refine Calls.mono HE2.out ?_
                rintro e w1 ⟨rfl, hw1⟩
                obtain rfl : w = w1 := hw1.symm
                clear HE2
                have HC := Rw.start w
                go_wp2_with
                  (first
                    | (at_builtin; refine Rw.append rfl _ _ rfl HC rfl rfl HSA.out (ni) (by omega) (by omega) ?_; clear HC; intro ax cx W HC)
                    | (at_builtin; refine Rw.append rfl _ _ rfl HC rfl rfl HSM.out (ni + M) (by omega) (by omega) ?_; clear HC; intro ax cx W HC)
                    | (at_builtin; refine Rw.append rfl _ _ rfl HC rfl rfl (Src.nil w _) (ni + M) (by omega) (by omega) ?_; clear HC; intro ax cx W HC))
                have HG0 := HF.out _ _ _ _ HC
                have HG : Hid _ := HG0 (by omega)
                clear HG0
                clear HC HF
                go_wp2_with fail
                go_ret2
                exact HG.out
              | some ad =>
                go_enter Try.func38, Try.ntmps38
                go_wp2_with fail
                refine Calls.mono HE1.out ?_
                rintro e w1 ⟨rfl, hw1⟩
                obtain rfl : w = w1 := hw1.symm
                clear HE1
                go_wp2_with fail
                refine Calls.mono HE2.out ?_
                rintro e w1 ⟨rfl, hw1⟩
                obtain rfl : w = w1 := hw1.symm
                clear HE2
                have HC := Rw.start w
                go_wp2_with
                  (first
                    | (at_builtin; refine Rw.append rfl _ _ rfl HC rfl rfl HSA.out (ni) (by omega) (by omega) ?_; clear HC; intro ax cx W HC)
                    | (at_builtin; refine Rw.append rfl _ _ rfl HC rfl rfl HSM.out (ni + M) (by omega) (by omega) ?_; clear HC; intro ax cx W HC)
                    | (at_builtin; refine Rw.append rfl _ _ rfl HC rfl rfl (Src.nil w _) (ni + M) (by omega) (by omega) ?_; clear HC; intro ax cx W HC))
                have HG0 := HF.out _ _ _ _ HC
                have HG : Hid _ := HG0 (by omega)
                clear HG0
                clear HC HF
                go_wp2_with fail
                go_ret2
                exact HG.out
          · have hlt : nj < l.length := by omega
            obtain ⟨g, o, rfl, hcl⟩ := Lies.some_at hl (by omega)
            obtain ⟨qs, q1, q2, hsB, hsq⟩ := src_part hl nj l.length (Nat.le_refl _)
            rw [List.take_length] at q1
            have HSB : Hid (Src w (some ⟨g, o + nj * 4, none⟩) (l.length - nj) 4 (qs.flatMap encP)) := hsB
            have HF : Hid (∀ (N : Nat) (W : World) (a9 c9), Rw w W (.slice a9 N c9) N ((([] ++ ps.flatMap encP) ++ pm.flatMap encP) ++ qs.flatMap encP) → N = ni + m.length + (l.length - nj) → LstPost R w (.returned (.tuple #[.slice a9 N c9, .int .i64 0])) W) := fun N W a9 c9 h hN => hfin qs N W a9 c9 q1 hsq hN h
            obtain ⟨L, hL⟩ : ∃ L, L = l.length := ⟨_, rfl⟩
            rw [← hL] at hlt hjl hlc hlen HE1 HE2 hw2 HSB HF hsz ⊢
            rw [← hM] at hmlen HSM HF hcmp hsz ⊢
            have hnci : (nj : Int) ≤ (c : Nat) := by omega
            have hici : (ni : Int) ≤ (c : Nat) := by omega
            have hnLi : (nj : Int) ≤ (L : Nat) := by omega
            have hLci : (L : Int) ≤ (c : Nat) := by omega
            have hcn : ¬ (c = nj) := by omega
            have hcni : ¬ ((c : Nat) : Int) = (nj : Nat) := by omega
            clear hfin hl hm hsA hsM hsB hp1 hm1 hsd hsm hsq q1 q2 e1 hL h1 h2 h3 hR hne hcl hE hD hF hM hm2 hp2
            go_enter Try.func38, Try.ntmps38
            go_wp2_with fail
            refine Calls.mono HE1.out ?_
            rintro e w1 ⟨rfl, hw1⟩
            obtain rfl : w = w1 := hw1.symm
            clear HE1
            go_wp2_with fail
            refine Calls.mono HE2.out ?_
            rintro e w1 ⟨rfl, hw1⟩
            obtain rfl : w = w1 := hw1.symm
            clear HE2
            have HC := Rw.start w
            go_wp2_with
              (first
                | (at_builtin; refine Rw.append rfl _ _ rfl HC rfl rfl HSA.out (ni) (by omega) (by omega) ?_; clear HC; intro ax cx W HC)
                | (at_builtin; refine Rw.append rfl _ _ rfl HC rfl rfl HSM.out (ni + M) (by omega) (by omega) ?_; clear HC; intro ax cx W HC)
                | (at_builtin; refine Rw.append rfl _ _ rfl HC rfl rfl HSB.out (ni + M + (L - nj)) (by omega) (by omega) ?_; clear HC; intro ax cx W HC))
            have HG0 := HF.out _ _ _ _ HC
            have HG : Hid _ := HG0 (by omega)
            clear HG0
            clear HC HF
            go_wp2_with fail
            go_ret2
            exact HG.out
        · rw [if_neg hsz] at hR
          have hcmp : F < ((m.length : Nat) : Int) := by omega
          have HE : Hid (LstPost R w (.returned (.tuple #[.slice none 0 0, .int .i64 2])) w) := by
            show LstPost _ _ _ _
            rw [hR]
            exact ⟨Below.refl _ _, rfl⟩
          clear hl hm hR hsz e1 hE hD hF h1 h2 h3
          go_enter Try.func38, Try.ntmps38
          go_wp2_with fail
          refine Calls.mono HE1.out ?_
          rintro e w1 ⟨rfl, hw1⟩
          obtain rfl : w = w1 := hw1.symm
          clear HE1
          go_wp2_with fail
          refine Calls.mono HE2.out ?_
          rintro e w1 ⟨rfl, hw1⟩
          obtain rfl : w = w1 := hw1.symm
          clear HE2
          go_wp2_with fail
          go_ret2
          exact HE.out
      · rw [if_neg (fun h => h3 h.2.2)] at hR
        have hgt : ((j : Int) < i) := by omega
        have HE : Hid (LstPost R w (.returned (.tuple #[.slice none 0 0, .int .i64 5])) w) := by
          show LstPost _ _ _ _
          rw [hR]
          exact ⟨Below.refl _ _, rfl⟩
        clear hl hm hR
        go_enter Try.func38, Try.ntmps38
        go_wp2_with fail
        refine Calls.mono HE1.out ?_
        rintro e w1 ⟨rfl, hw1⟩
        obtain rfl : w = w1 := hw1.symm
        clear HE1
        go_wp2_with fail
        refine Calls.mono HE2.out ?_
        rintro e w1 ⟨rfl, hw1⟩
        obtain rfl : w = w1 := hw1.symm
        clear HE2
        go_wp2_with fail
        go_ret2
        exact HE.out
    · rw [decide_eq_false h2] at HE2
      rw [if_neg (fun h => h2 h.2.1)] at hR
      have HE : Hid (LstPost R w (.returned (.tuple #[.slice none 0 0, .int .i64 5])) w) := by
        show LstPost _ _ _ _
        rw [hR]
        exact ⟨Below.refl _ _, rfl⟩
      clear hl hm hR
      go_enter Try.func38, Try.ntmps38
      go_wp2_with fail
      refine Calls.mono HE1.out ?_
      rintro e w1 ⟨rfl, hw1⟩
      obtain rfl : w = w1 := hw1.symm
      clear HE1
      go_wp2_with fail
      refine Calls.mono HE2.out ?_
      rintro e w1 ⟨rfl, hw1⟩
      obtain rfl : w = w1 := hw1.symm
      clear HE2
      go_wp2_with fail
      go_ret2
      exact HE.out
  · rw [decide_eq_false h1] at HE1
    rw [if_neg (fun h => h1 h.1)] at hR
    have HE : Hid (LstPost R w (.returned (.tuple #[.slice none 0 0, .int .i64 5])) w) := by
      show LstPost _ _ _ _
      rw [hR]
      exact ⟨Below.refl _ _, rfl⟩
    clear hl hm hR HE2
    go_enter Try.func38, Try.ntmps38
    go_wp2_with fail
    refine Calls.mono HE1.out ?_
    rintro e w1 ⟨rfl, hw1⟩
    obtain rfl : w = w1 := hw1.symm
    clear HE1
    go_wp2_with fail
    go_ret2
    exact HE.out

end Go.Proofs.Ytcijekihjdofeaa

namespace Go.Proofs.Ytcijekihjdofeaa
open Go.RowKit

/-- What 'made' tells. -/
def Made2Post (l m : List VT) (u1 u2 : Value) (w : World) (e : Ending) (w' : World) : Prop :=
  Below w.heap.size w w' ∧ ((∃ b1 b2, e = .returned (.tuple #[.pointer (some ⟨b1, 0, none⟩), .pointer (some ⟨b2, 0, none⟩), .bool true]) ∧ VV w' l (.pointer (some ⟨b1, 0, none⟩)) ∧ VV w' m (.pointer (some ⟨b2, 0, none⟩)) ∧ Lies 17 w' l u1 ∧ Lies 17 w' m u2) ∨ (∃ p q : Option Addr, e = .returned (.tuple #[.pointer p, .pointer q, .bool false])))

set_option maxRecDepth 100000 in
set_option maxHeartbeats 8000000 in
theorem made2_any (n : Nat) (l m : List VT) (a am : Option Addr) (c cm : Nat) (w : World) (hl : Lies (n + 1) w l (.slice a l.length c)) (hm : Lies (n + 1) w m (.slice am m.length cm)) :
    Calls Try.prog 33 #[.agg #[.slice a l.length c, .slice am m.length cm]] w (Made2Post l m (.slice a l.length c) (.slice am m.length cm) w) := by
  obtain ⟨wA, hwA⟩ : ∃ wA, wA = w.alloc (.cells #[.slice a l.length c, .slice am m.length cm] 65) := ⟨_, rfl⟩
  have hbA : Below w.heap.size w wA := by rw [hwA]; exact ((Grew.refl w).alloc _).below
  have hc : wA.cell? ⟨w.heap.size, 1, none⟩ = some (.slice am m.length cm) := by rw [hwA]; simp
  have HO : Hid _ := of_vv n l _ wA (Lies.keeps hbA _ _ _ hl)
  have HwA : Hid (wA = w.alloc (.cells #[.slice a l.length c, .slice am m.length cm] 65)) := hwA
  have HM : Hid (Lies (n + 1) w m (.slice am m.length cm)) := hm
  rw [hwA] at HO
  clear hl hm hwA
  go_enter Try.func33, Try.ntmps33
  go_wp2_with fail
  refine Calls.mono HO.out ?_
  rintro e w1 ⟨hg1, hp1⟩
  rw [← HwA.out] at hg1
  have hb1 : Below w.heap.size w w1 := hbA.trans (hg1.mono hbA.size)
  have hc1 := cell_keeps hg1 hc
  have HO2 : Hid _ := of_vv n m _ w1 (Lies.keeps hb1 _ _ _ HM.out)
  clear HO hc hg1 HM HwA hbA
  have hp1' : ∃ (p : Option Addr) (k : Nat), e = .returned (.tuple #[.pointer p, .int .i64 (k : Int)]) ∧ ((k = 0 ∧ ∃ b, p = some ⟨b, 0, none⟩ ∧ VV w1 l (.pointer p) ∧ Lies 17 w1 l (.slice a l.length c)) ∨ k ≠ 0) := by
    rcases hp1 with ⟨b, rfl, hv, hl⟩ | ⟨k, rfl, hk⟩
    · exact ⟨_, 0, rfl, .inl ⟨rfl, b, rfl, hv, hl⟩⟩
    · exact ⟨_, k, rfl, .inr (by omega)⟩
  obtain ⟨p, k, rfl, HP1⟩ := hp1'
  have HP1 : Hid _ := HP1
  clear hp1
  go_wp2_with fail
  refine Calls.mono HO2.out ?_
  rintro e w2 ⟨hg2, hp2⟩
  have hb2 : Below w.heap.size w w2 := hb1.trans (hg2.mono hb1.size)
  clear HO2 hc1
  rcases HP1.out with ⟨rfl, b1, rfl, hv1, hl1⟩ | hk
  · have HV1 : Hid (VV w2 l (.pointer (some ⟨b1, 0, none⟩))) := hv1.keeps hg2
    have HL1 : Hid (Lies 17 w2 l (.slice a l.length c)) := Lies.keeps hg2 _ _ _ hl1
    clear HP1 hv1 hl1
    rcases hp2 with ⟨b2, rfl, hv2, hl2⟩ | ⟨k2, rfl, hk2⟩
    · have HE : Hid (Made2Post l m (.slice a l.length c) (.slice am m.length cm) w (.returned (.tuple #[.pointer (some ⟨b1, 0, none⟩), .pointer (some ⟨b2, 0, none⟩), .bool true])) w2) := ⟨hb2, .inl ⟨b1, b2, rfl, HV1.out, hv2, HL1.out, hl2⟩⟩
      clear HV1 HL1 hv2 hl2
      go_wp2_with fail
      go_ret3
      exact HE.out
    · have hkz : ¬ ((k2 : Int) = 0) := by omega
      have HE : Hid (Made2Post l m (.slice a l.length c) (.slice am m.length cm) w (.returned (.tuple #[.pointer (some ⟨b1, 0, none⟩), .pointer none, .bool false])) w2) := ⟨hb2, .inr ⟨_, _, rfl⟩⟩
      clear HV1 HL1 hk2
      go_wp2_with fail
      go_ret3
      exact HE.out
  · have hkz : ¬ ((k : Int) = 0) := by omega
    obtain ⟨q, k2, rfl⟩ : ∃ (q : Option Addr) (k2 : Nat), e = .returned (.tuple #[.pointer q, .int .i64 (k2 : Int)]) := by
      rcases hp2 with ⟨b2, rfl, _⟩ | ⟨k2, rfl, _⟩
      · exact ⟨_, 0, rfl⟩
      · exact ⟨_, k2, rfl⟩
    have HE : Hid (Made2Post l m (.slice a l.length c) (.slice am m.length cm) w (.returned (.tuple #[.pointer p, .pointer q, .bool false])) w2) := ⟨hb2, .inr ⟨_, _, rfl⟩⟩
    clear HP1 hp2 hk
    go_wp2_with fail
    go_ret3
    exact HE.out

def catR3 (l m r : List VT) : List VT ⊕ Nat := if (l ++ (m ++ r)).length ≤ 65536 then .inl (l ++ (m ++ r)) else .inr 2

end Go.Proofs.Ytcijekihjdofeaa

namespace Go.Proofs.Ytcijekihjdofeaa
open Go.RowKit

/-- Two calls that tell the same, beside each other. -/
theorem pair_any {f g : Nat} {xs ys : Array Value} {R : List VT ⊕ Nat} {w : World} (hf : Calls Try.prog f xs w (VvPost R w)) (hg : ∀ W, Below w.heap.size w W → Calls Try.prog g ys W (LstPost R W)) (h0 : ∀ k, R = .inr k → k ≠ 0) :
    Calls Try.prog f xs w fun e w1 => Below w.heap.size w w1 ∧ ∃ (k : Nat) (p1 : Value), e = .returned (.tuple #[p1, .int .i64 (k : Int)]) ∧
      ∀ W, Below w1.heap.size w1 W → Calls Try.prog g ys W fun e w2 => Below W.heap.size W w2 ∧ ∃ (a1 : Option Addr) (n1 c1 : Nat), e = .returned (.tuple #[.slice a1 n1 c1, .int .i64 (k : Int)]) ∧ Pair12 w2 p1 k (.slice a1 n1 c1) := by
  refine Calls.mono hf ?_
  rintro e w1 ⟨hb1, hp⟩
  refine ⟨hb1, ?_⟩
  have hr := fun W (hW : Below w1.heap.size w1 W) => hg W (hb1.trans (hW.mono hb1.size))
  cases R with
  | inl m =>
    obtain ⟨b, rfl, v1⟩ := hp
    refine ⟨0, _, rfl, fun W hW => Calls.mono (hr W hW) ?_⟩
    rintro e w2 ⟨hb2, a1, c1, rfl, l1⟩
    exact ⟨hb2, a1, _, c1, rfl, .inl ⟨rfl, _, b, a1, c1, rfl, rfl, (v1.keeps hW).keeps hb2, l1⟩⟩
  | inr k =>
    have hk := h0 k rfl
    have hp' : e = _ := hp
    subst hp'
    refine ⟨k, _, rfl, fun W hW => Calls.mono (hr W hW) ?_⟩
    rintro e w2 ⟨hb2, hq⟩
    have hq' : e = _ := hq
    subst hq'
    exact ⟨hb2, none, 0, 0, rfl, .inr ⟨hk, rfl, rfl⟩⟩

theorem catR_err (l m : List VT) : ∀ k, catR l m = .inr k → k ≠ 0 := fun k h => by
  unfold catR at h
  split at h
  · cases h
  · injection h with h; omega

theorem spliceR_err (l m : List VT) (i j : Int) : ∀ k, spliceR l i j m = .inr k → k ≠ 0 := fun k h => by
  unfold spliceR at h
  split at h
  · split at h
    · cases h
    · injection h with h; omega
  · injection h with h; omega

set_option maxRecDepth 100000 in
theorem equal12_any (l m : List VT) (p q : Value) (w : World) (h1 : VV w l p) (h2 : VV w m q) : Calls Try.prog 40 #[p, q] w fun e w' => e = .returned (.bool (eqL (sameV 16) l m)) ∧ Below w.heap.size w w' := by
  obtain ⟨po, rfl⟩ := h1.vc.shape
  obtain ⟨qo, rfl⟩ := h2.vc.shape
  obtain ⟨R, hR⟩ : ∃ R, R = eqL (sameV 16) l m := ⟨_, rfl⟩
  have HS : Hid _ := rsame_any l m _ _ w h1 h2
  rw [← hR] at HS ⊢
  clear h1 h2 hR
  go_enter Try.func40, Try.ntmps40
  go_wp2_with fail
  refine Calls.mono HS.out ?_
  rintro e w1 ⟨rfl, hb⟩
  clear HS
  go_wp2_with fail
  go_ret
  exact ⟨rfl, hb⟩

set_option maxRecDepth 100000 in
set_option maxHeartbeats 16000000 in
theorem joins_walk (n : Nat) (l m : List VT) (ul um : Value) (i j : Int) (w : World) (hl : Lies (n + 1) w l ul) (hm : Lies (n + 1) w m um) : Calls Try.prog 8 #[.agg #[ul, um], .int .i64 i, .int .i64 j] w fun e w' => e = .returned (.bool true) ∧ Below w.heap.size w w' := by
  obtain ⟨al, cl, rfl, _⟩ := Lies.slice hl
  obtain ⟨am, cm, rfl, _⟩ := Lies.slice hm
  obtain ⟨wA, hwA⟩ : ∃ wA, wA = w.alloc (.cells #[.slice al l.length cl, .slice am m.length cm] 65) := ⟨_, rfl⟩
  have hbA : Below w.heap.size w wA := by rw [hwA]; exact ((Grew.refl w).alloc _).below
  have hc0 : wA.cell? ⟨w.heap.size, 0, none⟩ = some (.slice al l.length cl) := by rw [hwA]; simp
  have hc1 : wA.cell? ⟨w.heap.size, 1, none⟩ = some (.slice am m.length cm) := by rw [hwA]; simp
  have HMa : Hid _ := made2_any n l m al am cl cm wA (Lies.keeps hbA _ _ _ hl) (Lies.keeps hbA _ _ _ hm)
  have HSp : Hid (∀ V, Calls Try.prog 34 #[] V fun e w' => e = .returned (.bool true) ∧ Below V.heap.size V w') := speaks12_any
  have HIs : Hid (∀ (p : Value) (k : Nat) (u : Value) (W : World), Pair12 W p k u → Calls Try.prog 39 #[p, .int .i64 (k : Int), u, .int .i64 (k : Int)] W fun e w' => e = .returned (.bool true) ∧ Below W.heap.size W w') := is_pair
  have HwA : Hid (wA = w.alloc (.cells #[.slice al l.length cl, .slice am m.length cm] 65)) := hwA
  rw [hwA] at HMa
  clear hl hm hwA
  go_enter Try.func8, Try.ntmps8
  go_wp2_with fail
  refine Calls.mono HMa.out ?_
  rintro e w1 ⟨hg1, hp1⟩
  rw [← HwA.out] at hg1
  have hb1 : Below w.heap.size w w1 := hbA.trans (hg1.mono hbA.size)
  have Hd0 : Hid (w1.cell? ⟨w.heap.size, 0, none⟩ = some (.slice al l.length cl)) := cell_keeps hg1 hc0
  have Hd1 : Hid (w1.cell? ⟨w.heap.size, 1, none⟩ = some (.slice am m.length cm)) := cell_keeps hg1 hc1
  clear HMa HwA hc0 hc1 hg1 hbA
  rcases hp1 with ⟨b1, b2, rfl, hv1, hv2, hl17, hm17⟩ | ⟨p, q, rfl⟩
  · have hll := hv1.len
    have hml := hv2.len
    have HCa : Hid _ := pair_any (concat_any l m _ _ w1 hv1 hv2) (fun W hW => rconcat_any l m al am cl cm W (Lies.keeps hW _ _ _ hl17) hll (Lies.keeps hW _ _ _ hm17) hml) (catR_err l m)
    have HSl : Hid (∀ W, Below w1.heap.size w1 W → Calls Try.prog 37 #[.pointer (some ⟨b1, 0, none⟩), .int .i64 i, .int .i64 j, .pointer (some ⟨b2, 0, none⟩)] W fun e w2 => Below W.heap.size W w2 ∧ ∃ (k : Nat) (p1 : Value), e = .returned (.tuple #[p1, .int .i64 (k : Int)]) ∧
      ∀ V, Below w2.heap.size w2 V → Calls Try.prog 38 #[.slice al l.length cl, .int .i64 i, .int .i64 j, .slice am m.length cm] V fun e w2 => Below V.heap.size V w2 ∧ ∃ (a1 : Option Addr) (n1 c1 : Nat), e = .returned (.tuple #[.slice a1 n1 c1, .int .i64 (k : Int)]) ∧ Pair12 w2 p1 k (.slice a1 n1 c1)) := fun W hW => pair_any (splice_any l m _ _ i j W (hv1.keeps hW) (hv2.keeps hW)) (fun V hV => rsplice_any l m al am cl cm i j V (Lies.keeps (hW.trans (hV.mono hW.size)) _ _ _ hl17) hll (Lies.keeps (hW.trans (hV.mono hW.size)) _ _ _ hm17) hml) (spliceR_err l m i j)
    have HPl : Hid (Pair12 w1 (.pointer (some ⟨b1, 0, none⟩)) 0 (.slice al l.length cl)) := .inl ⟨rfl, l, b1, al, cl, rfl, rfl, hv1, hl17⟩
    have HPm : Hid (Pair12 w1 (.pointer (some ⟨b2, 0, none⟩)) 0 (.slice am m.length cm)) := .inl ⟨rfl, m, b2, am, cm, rfl, rfl, hv2, hm17⟩
    obtain ⟨R, hR⟩ : ∃ R, R = eqL (sameV 16) l m := ⟨_, rfl⟩
    have HEq : Hid (∀ W, Below w1.heap.size w1 W → Calls Try.prog 40 #[.pointer (some ⟨b1, 0, none⟩), .pointer (some ⟨b2, 0, none⟩)] W fun e w' => e = .returned (.bool R) ∧ Below W.heap.size W w') := fun W hW => by
      rw [hR]
      exact equal12_any l m _ _ W (hv1.keeps hW) (hv2.keeps hW)
    have HVs : Hid (∀ W, Below w1.heap.size w1 W → Calls Try.prog 17 #[.slice al l.length cl, .slice am m.length cm] W fun e w' => e = .returned (.bool R) ∧ Below W.heap.size W w') := fun W hW => by
      rw [hR]
      exact values_two 16 l m _ _ W (Lies.keeps hW _ _ _ hl17) (Lies.keeps hW _ _ _ hm17) hll
    clear hv1 hv2 hl17 hm17 hR
    go_wp2_with fail
    refine Calls.mono HCa.out ?_
    rintro e w2 ⟨hb2, k1, p1, rfl, hrc⟩
    have HRc : Hid _ := hrc w2 (Below.refl _ _)
    have d0 := cell_keeps hb2 Hd0.out
    have d1 := cell_keeps hb2 Hd1.out
    clear HCa hrc
    go_wp2_with fail
    refine Calls.mono HRc.out ?_
    rintro e w3 ⟨hb3, a1, n1, c1, rfl, hq1⟩
    have HQ1 : Hid (Pair12 w3 p1 k1 (.slice a1 n1 c1)) := hq1
    have hb13 : Below w1.heap.size w1 w3 := hb2.trans (hb3.mono hb2.size)
    have HS3 : Hid _ := HSl.out w3 hb13
    clear HRc hq1 d0 d1 HSl hb2 hb3
    go_wp2_with fail
    refine Calls.mono HS3.out ?_
    rintro e w4 ⟨hb4, k2, p2, rfl, hrs⟩
    have HRs : Hid _ := hrs w4 (Below.refl _ _)
    have hb14 : Below w1.heap.size w1 w4 := hb13.trans (hb4.mono hb13.size)
    have HQ1 : Hid (Pair12 w4 p1 k1 (.slice a1 n1 c1)) := HQ1.out.keeps hb4
    have d0 := cell_keeps hb14 Hd0.out
    have d1 := cell_keeps hb14 Hd1.out
    clear HS3 hrs hb13 hb4
    go_wp2_with fail
    refine Calls.mono HRs.out ?_
    rintro e w5 ⟨hb5, a2, n2, c2, rfl, hq2⟩
    have hb15 : Below w1.heap.size w1 w5 := hb14.trans (hb5.mono hb14.size)
    have HQ1 : Hid (Pair12 w5 p1 k1 (.slice a1 n1 c1)) := HQ1.out.keeps hb5
    have HQ2 : Hid (Pair12 w5 p2 k2 (.slice a2 n2 c2)) := hq2
    have HPl : Hid (Pair12 w5 (.pointer (some ⟨b1, 0, none⟩)) 0 (.slice al l.length cl)) := HPl.out.keeps hb15
    have HPm : Hid (Pair12 w5 (.pointer (some ⟨b2, 0, none⟩)) 0 (.slice am m.length cm)) := HPm.out.keeps hb15
    have D0 : Hid (w5.cell? ⟨w.heap.size, 0, none⟩ = some (.slice al l.length cl)) := cell_keeps hb15 Hd0.out
    have D1 : Hid (w5.cell? ⟨w.heap.size, 1, none⟩ = some (.slice am m.length cm)) := cell_keeps hb15 Hd1.out
    have x0 := D0.out
    have x1 := D1.out
    have HB5 : Hid (Below w.heap.size w w5) := hb1.trans (hb15.mono hb1.size)
    have HB15 : Hid (Below w1.heap.size w1 w5) := hb15
    have hbc : Below w5.heap.size w5 w5.drew := (Below.refl _ _).drew
    clear HRs hq2 d0 d1 hb14 hb5 hb15 hb1 Hd0 Hd1 hll hml
    go_wp2_with fail
    cases R
    all_goals
      go_region_held3 (fun w' => w'.cell? ⟨w.heap.size, 0, none⟩ = some (.slice al l.length cl) ∧ w'.cell? ⟨w.heap.size, 1, none⟩ = some (.slice am m.length cm)) (go_keep)
        (first
          | (go_at_call 40; refine Calls.mono (HEq.out _ (HB15.out.trans (hbc.mono HB15.out.size))) ?_; rintro e W ⟨rfl, hbn⟩; replace hbc := hbc.trans (hbn.mono hbc.size); clear hbn; have x0 := cell_keeps hbc D0.out; have x1 := cell_keeps hbc D1.out)
          | (go_at_call 17; refine Calls.mono (HVs.out _ (HB15.out.trans (hbc.mono HB15.out.size))) ?_; rintro e W ⟨rfl, hbn⟩; replace hbc := hbc.trans (hbn.mono hbc.size); clear hbn; have x0 := cell_keeps hbc D0.out; have x1 := cell_keeps hbc D1.out)
          | (go_at_call 34; refine Calls.mono (HSp.out _) ?_; rintro e W ⟨rfl, hbn⟩; replace hbc := hbc.trans (hbn.mono hbc.size); clear hbn; have x0 := cell_keeps hbc D0.out; have x1 := cell_keeps hbc D1.out)
          | (go_at_call 39; refine Calls.mono (HIs.out _ _ _ _ (HQ1.out.keeps hbc)) ?_; rintro e W ⟨rfl, hbn⟩; replace hbc := hbc.trans (hbn.mono hbc.size); clear hbn; have x0 := cell_keeps hbc D0.out; have x1 := cell_keeps hbc D1.out)
          | (go_at_call 39; refine Calls.mono (HIs.out _ _ _ _ (HQ2.out.keeps hbc)) ?_; rintro e W ⟨rfl, hbn⟩; replace hbc := hbc.trans (hbn.mono hbc.size); clear hbn; have x0 := cell_keeps hbc D0.out; have x1 := cell_keeps hbc D1.out)
          | (go_at_call 39; refine Calls.mono (HIs.out _ 0 _ _ (HPl.out.keeps hbc)) ?_; rintro e W ⟨rfl, hbn⟩; replace hbc := hbc.trans (hbn.mono hbc.size); clear hbn; have x0 := cell_keeps hbc D0.out; have x1 := cell_keeps hbc D1.out)
          | (go_at_call 39; refine Calls.mono (HIs.out _ 0 _ _ (HPm.out.keeps hbc)) ?_; rintro e W ⟨rfl, hbn⟩; replace hbc := hbc.trans (hbn.mono hbc.size); clear hbn; have x0 := cell_keeps hbc D0.out; have x1 := cell_keeps hbc D1.out))
    all_goals
      have HBz : Hid (Below w.heap.size w _) := HB5.out.trans (hbc.mono HB5.out.size)
      clear hbc x0 x1
      go_wp2_with fail
      go_ret
      exact ⟨rfl, HBz.out⟩
  · go_wp2_with fail
    refine Calls.mono (HSp.out _) ?_
    rintro e wz ⟨rfl, hbz⟩
    have HBz : Hid (Below w.heap.size w wz) := hb1.trans (hbz.mono hb1.size)
    clear hbz hb1
    go_wp2_with fail
    go_ret
    exact ⟨rfl, HBz.out⟩

end Go.Proofs.Ytcijekihjdofeaa

