/-
  TvecMany.
-/
import Derived.Test.YtekoaiehhjgfiaaGreatStepsT
namespace Go.Proofs.YtekoaiehhjgfiaaGreat
open Go.RowKit

set_option maxRecDepth 100000 in
set_option maxHeartbeats 64000000 in
theorem tmany_walk (n : Nat) (l : List VT) (ul : Value) (m : Nat) (ss : List StepP) (us : Value) (w : World) (hl : Lies (n + 1) w l ul) (hs : SlS m w ss us) : Calls Tryz.prog 4 #[ul, us] w fun e w' => e = .returned (.bool true) ∧ Below w.heap.size w w' := by
  obtain ⟨al, cl, rfl, hlb⟩ := Lies.slice hl
  obtain ⟨aS, cS, rfl, hcs, hs63, hat⟩ := hs.at
  obtain ⟨S, hS⟩ : ∃ S, S = ss.length := ⟨_, rfl⟩
  rw [← hS] at hat hs63 ⊢
  have HO : Hid _ := of_vv11 n l _ w hl
  have HSp : Hid (∀ V, Calls Tryz.prog 8 #[] V fun e w' => e = .returned (.bool true) ∧ Below V.heap.size V w') := speaks13_any
  have Hat : Hid _ := hat
  clear hl hs hat hcs hS
  go_enter Tryz.func4, Tryz.ntmps4
  go_wp2_with fail
  refine Calls.mono HO.out ?_
  rintro e w1 ⟨hb1, hp1⟩
  rcases hp1 with ⟨v0, rfl, hv, hl17⟩ | ⟨k, rfl, hk⟩
  · have HV1 : Hid (VV w1 l (.pointer (some ⟨v0, 0, none⟩))) := hv
    obtain ⟨NL, hNL⟩ : ∃ NL, NL = l.length := ⟨_, rfl⟩
    have HNL : Hid (NL = l.length) := hNL
    rw [← hNL] at hl17 ⊢
    have HL1 : Hid (Lies 17 w1 l (.slice al NL cl)) := hl17
    have HBg : Hid _ := begin_any l _ w1 hv
    clear HO hv hl17 hNL hlb
    go_wp2_with fail
    refine Calls.mono HBg.out ?_
    rintro e w2 ⟨b, h, v, rfl, t2, hg2, hh2, hb2'⟩
    have hb2 : Below w.heap.size w w2 := hb1.trans (hg2.mono hb1.size)
    have hNh : w.heap.size ≤ h := Nat.le_trans hb1.size hh2
    have T2 : Hid (TV w2 l b h v) := t2
    have HV2 : Hid (VV w2 l (.pointer (some ⟨v0, 0, none⟩))) := HV1.out.keeps hg2
    have HL2 : Hid (Lies 17 w2 l (.slice al NL cl)) := Lies.keeps hg2 _ _ _ HL1.out
    clear HBg HV1 HL1
    have HBg2 : Hid _ := begin_any l _ w2 HV2.out
    go_wp2_with fail
    refine Calls.mono HBg2.out ?_
    rintro e w3 ⟨bb, hh, vb, rfl, tb3, hg3, hhb, hbb⟩
    have hb3 : Below w.heap.size w w3 := hb2.trans (hg3.mono hb2.size)
    have hNh2 : w.heap.size ≤ hh := Nat.le_trans hb2.size hhb
    have hd1 : Hid (hh ≠ h ∧ bb ≠ h ∧ b ≠ hh ∧ h ≠ hh) := ⟨by have := t2.bx.lt; omega, by have := t2.bx.lt; omega, by have := cell_lt t2.c0; simp only at this; omega, by have := t2.bx.lt; omega⟩
    have T3 : Hid (TV w3 l b h v) := t2.keeps hg3
    have TB3 : Hid (TV w3 l bb hh vb) := tb3
    have HV3 : Hid (VV w3 l (.pointer (some ⟨v0, 0, none⟩))) := HV2.out.keeps hg3
    have HL3 : Hid (Lies 17 w3 l (.slice al NL cl)) := Lies.keeps hg3 _ _ _ HL2.out
    clear HBg2 tb3 hg3 hhb hbb T2 HV2 HL2 t2 hb2' hh2 hg2
    go_wp2_with fail
    go_loopg [11, 9, 10] 201 (fun z vi vl vn wr => ∃ (j v vb : Nat) (M Nn : List VT) (a1 : Option Addr) (n1 c1 : Nat) (a2 : Option Addr) (n2 c2 : Nat), vi = .int .i64 (j : Int) ∧ j ≤ 200 ∧ z = 201 - j ∧ vl = .slice a1 n1 c1 ∧ vn = .slice a2 n2 c2 ∧ Hid (n1 = M.length) ∧ Hid (n2 = Nn.length) ∧ Hid (TV wr M b h v) ∧ Hid (TV wr Nn bb hh vb) ∧ Hid (Lies 17 wr M (.slice a1 n1 c1)) ∧ Hid (Lies 17 wr Nn (.slice a2 n2 c2)) ∧ Hid (VV wr l (.pointer (some ⟨v0, 0, none⟩))) ∧ Hid (Lies 17 wr l (.slice al NL cl)) ∧ Hid (Below w.heap.size w wr))
    case atStart => exact ⟨0, v, vb, l, l, al, NL, cl, al, NL, cl, rfl, by omega, rfl, rfl, rfl, HNL, HNL, T3, TB3, HL3, HL3, HV3, HL3, hb3⟩
    case round =>
      obtain ⟨j, v', vb', M, Nn, a1, n1, c1, a2, n2, c2, rfl, hj, hz, rfl, rfl, HN, HN2, T, TB0, HLM, HLN, HV, HL, HB⟩ := hrel
      have Hz : Hid _ := hz
      clear hz T3 TB3 HV3 HL3
      by_cases hlt : j < S ∧ j < 200
      · have hji : (j : Int) < (S : Nat) := by omega
        have hj2 : (j : Int) < 200 := by omega
        have hJS : j < S := hlt.1
        obtain ⟨sb, so, kk, t, x, sx, tx, hsa, _, hxl, hxt, hcell⟩ := Hat.out j hJS
        subst hsa
        obtain ⟨⟨c0, c1', c2', c3', c4, c5⟩, hbl⟩ := hcell wr HB.out
        simp only at c0 c1' c2' c3' c4 c5
        by_cases hodd : j % 2 = 0
        · have hr : ((j : Int)).tmod 2 = 0 := by
            have : ((j : Int)).tmod 2 = ((j % 2 : Nat) : Int) := rfl
            rw [this, hodd]; rfl
          have hr' : ((j : Int)) % 2 = 0 := by omega
          have HP : Hid _ := step_any m M b h v' a1 n1 c1 kk t x sx tx wr T.out HLM.out HN.out (Lies.keeps HB.out _ _ _ hxl) hxt
          clear hcell hxl hlt
          go_wp2_with fail
          refine Calls.mono HP.out ?_
          rintro e w6 ⟨O2, v6, a6, n6, c6, rfl, hkb, tv6, hn6, hl6⟩
          have hnp := hkb.np T.out.bx
          have hR : Hid (TV w6 O2 b h v6 ∧ TV w6 Nn bb hh vb' ∧ Lies 17 w6 O2 (.slice a6 n6 c6) ∧ Lies 17 w6 Nn (.slice a2 n2 c2) ∧ VV w6 l (.pointer (some ⟨v0, 0, none⟩)) ∧ Lies 17 w6 l (.slice al NL cl) ∧ Below w.heap.size w w6 ∧ n6 = O2.length) := ⟨tv6, TB0.out.kb hkb T.out.bx hd1.out.2.1 hd1.out.1, hl6, Lies.np hnp _ _ _ HLN.out, HV.out.np hnp, Lies.np hnp _ _ _ HL.out, HB.out.trans (hkb.below hNh HB.out.size), hn6⟩
          clear HP hkb hnp tv6 hl6 hn6 T TB0 HV HL HB HLM HLN c0 c1' c2' c3' c4 c5
          go_wp2_with fail
          go_roundg (201 - (j + 1))
          case measure => have := Hz.out; omega
          case rel =>
            obtain ⟨q1, q2, q3, q4, q5, q6, q7, q8⟩ := hR.out
            exact ⟨j + 1, v6, vb', O2, Nn, a6, n6, c6, a2, n2, c2, by go_num, by omega, rfl, rfl, rfl, q8, HN2, q1, q2, q3, q4, q5, q6, q7⟩
        · have hr : ¬ ((j : Int)).tmod 2 = 0 := by
            have : ((j : Int)).tmod 2 = ((j % 2 : Nat) : Int) := rfl
            rw [this]; omega
          have hr' : ¬ ((j : Int)) % 2 = 0 := by omega
          have HP : Hid _ := step_any m Nn bb hh vb' a2 n2 c2 kk t x sx tx wr TB0.out HLN.out HN2.out (Lies.keeps HB.out _ _ _ hxl) hxt
          clear hcell hxl hlt
          go_wp2_with fail
          refine Calls.mono HP.out ?_
          rintro e w6 ⟨O2, v6, a6, n6, c6, rfl, hkb, tv6, hn6, hl6⟩
          have hnp := hkb.np TB0.out.bx
          have hR : Hid (TV w6 M b h v' ∧ TV w6 O2 bb hh v6 ∧ Lies 17 w6 M (.slice a1 n1 c1) ∧ Lies 17 w6 O2 (.slice a6 n6 c6) ∧ VV w6 l (.pointer (some ⟨v0, 0, none⟩)) ∧ Lies 17 w6 l (.slice al NL cl) ∧ Below w.heap.size w w6 ∧ n6 = O2.length) := ⟨T.out.kb hkb TB0.out.bx hd1.out.2.2.1 hd1.out.2.2.2, tv6, Lies.np hnp _ _ _ HLM.out, hl6, HV.out.np hnp, Lies.np hnp _ _ _ HL.out, HB.out.trans (hkb.below hNh2 HB.out.size), hn6⟩
          clear HP hkb hnp tv6 hl6 hn6 T TB0 HV HL HB HLM HLN c0 c1' c2' c3' c4 c5
          go_wp2_with fail
          go_roundg (201 - (j + 1))
          case measure => have := Hz.out; omega
          case rel =>
            obtain ⟨q1, q2, q3, q4, q5, q6, q7, q8⟩ := hR.out
            exact ⟨j + 1, v', v6, M, O2, a1, n1, c1, a6, n6, c6, by go_num, by omega, rfl, rfl, rfl, HN, q8, q1, q2, q3, q4, q5, q6, q7⟩
      · have HSl : Hid _ := tseal_x M b h v' wr T.out
        have hex : ((j : Int) < (S : Nat) ∧ ¬ (j : Int) < 200) ∨ ¬ (j : Int) < (S : Nat) := by omega
        clear hlt
        rcases hex with ⟨hji, hj2⟩ | hji
        · go_wp2_with fail
          refine Calls.mono HSl.out ?_
          rintro e w4 ⟨rfl, hkb, hvM⟩
          have hnp := hkb.np T.out.bx
          have HVM4 : Hid (VV w4 M (.pointer (some ⟨v', 0, none⟩))) := hvM
          have TB4 : Hid (TV w4 Nn bb hh vb') := TB0.out.kb hkb T.out.bx (fun e => hd1.out.2.1 e) (fun e => hd1.out.1 e)
          have HV4 : Hid (VV w4 l (.pointer (some ⟨v0, 0, none⟩))) := HV.out.np hnp
          have HL4 : Hid (Lies 17 w4 l (.slice al NL cl)) := Lies.np hnp _ _ _ HL.out
          have HM4 : Hid (Lies 17 w4 M (.slice a1 n1 c1)) := Lies.np hnp _ _ _ HLM.out
          have HN4 : Hid (Lies 17 w4 Nn (.slice a2 n2 c2)) := Lies.np hnp _ _ _ HLN.out
          have hB4 : Below w.heap.size w w4 := HB.out.trans (hkb.below hNh HB.out.size)
          have HBg : Hid _ := begin_any M _ w4 hvM
          clear HSl hkb hnp hvM T TB0 HV HL HB HLM HLN
          go_wp2_with fail
          refine Calls.mono HBg.out ?_
          rintro e w5 ⟨b3, h3, v3, rfl, t3, hg5, hh3, hb3'⟩
          have hB5 : Below w.heap.size w w5 := hB4.trans (hg5.mono hB4.size)
          have hNh3 : w.heap.size ≤ h3 := Nat.le_trans hB4.size hh3
          have hd3 : Hid (b3 ≠ hh ∧ h3 ≠ hh) := ⟨by have := TB4.out.bx.lt; omega, by have := TB4.out.bx.lt; omega⟩
          have hd4 : Hid (bb ≠ h3 ∧ hh ≠ h3) := ⟨by have := cell_lt TB4.out.c0; simp only at this; omega, by have := TB4.out.bx.lt; omega⟩
          have T5 : Hid (TV w5 M b3 h3 v3) := t3
          have TB5 : Hid (TV w5 Nn bb hh vb') := TB4.out.keeps hg5
          have HVM5 : Hid (VV w5 M (.pointer (some ⟨v', 0, none⟩))) := HVM4.out.keeps hg5
          have HV5 : Hid (VV w5 l (.pointer (some ⟨v0, 0, none⟩))) := HV4.out.keeps hg5
          have HL5 : Hid (Lies 17 w5 l (.slice al NL cl)) := Lies.keeps hg5 _ _ _ HL4.out
          have HM5 : Hid (Lies 17 w5 M (.slice a1 n1 c1)) := Lies.keeps hg5 _ _ _ HM4.out
          have HN5 : Hid (Lies 17 w5 Nn (.slice a2 n2 c2)) := Lies.keeps hg5 _ _ _ HN4.out
          clear HBg t3 hg5 hh3 hb3' hB4 TB4 HVM4 HV4 HL4 HM4 HN4
          go_wp2_with fail
          go_loopg [17, 16] 201 (fun z vi vl wr => ∃ (j3 v3' : Nat) (O : List VT) (a3 : Option Addr) (n3 c3 : Nat), vi = .int .i64 (j3 : Int) ∧ j3 ≤ 200 ∧ z = 201 - j3 ∧ vl = .slice a3 n3 c3 ∧ Hid (n3 = O.length) ∧ Hid (TV wr O b3 h3 v3') ∧ Hid (Lies 17 wr O (.slice a3 n3 c3)) ∧ Hid (TV wr Nn bb hh vb') ∧ Hid (VV wr M (.pointer (some ⟨v', 0, none⟩))) ∧ Hid (VV wr l (.pointer (some ⟨v0, 0, none⟩))) ∧ Hid (Lies 17 wr l (.slice al NL cl)) ∧ Hid (Lies 17 wr M (.slice a1 n1 c1)) ∧ Hid (Lies 17 wr Nn (.slice a2 n2 c2)) ∧ Hid (Below w.heap.size w wr))
          case atStart => exact ⟨0, v3, M, a1, n1, c1, rfl, by omega, rfl, rfl, HN, T5, HM5, TB5, HVM5, HV5, HL5, HM5, HN5, hB5⟩
          case round =>
            obtain ⟨j3, v3', O, a3, n3, c3, rfl, hj3, hz3, rfl, HN3, TC, HO9, TB, HVM, HV9, HL9, HM9, HN9, HB⟩ := hrel
            have Hz3 : Hid _ := hz3
            clear hz3 T5 HM5 TB5 HVM5 HV5 HL5 HN5 hB5
            by_cases hlt3 : j3 < S ∧ j3 < 200
            · have hji3 : (j3 : Int) < (S : Nat) := by omega
              have hj23 : (j3 : Int) < 200 := by omega
              have hJS : j3 < S := hlt3.1
              obtain ⟨sb, so, kk, t, x, sx, tx, hsa, _, hxl, hxt, hcell⟩ := Hat.out j3 hJS
              subst hsa
              obtain ⟨⟨c0, c1', c2', c3', c4, c5⟩, hbl⟩ := hcell wr HB.out
              simp only at c0 c1' c2' c3' c4 c5
              have HP : Hid _ := step_any m O b3 h3 v3' a3 n3 c3 kk t x sx tx wr TC.out HO9.out HN3.out (Lies.keeps HB.out _ _ _ hxl) hxt
              clear hcell hxl hlt3
              go_wp2_with fail
              refine Calls.mono HP.out ?_
              rintro e w6 ⟨O2, v6, a6, n6, c6, rfl, hkb, tv6, hn6, hl6⟩
              have hnp := hkb.np TC.out.bx
              have hR : Hid (TV w6 Nn bb hh vb' ∧ VV w6 M (.pointer (some ⟨v', 0, none⟩)) ∧ VV w6 l (.pointer (some ⟨v0, 0, none⟩)) ∧ Lies 17 w6 l (.slice al NL cl) ∧ Lies 17 w6 M (.slice a1 n1 c1) ∧ Lies 17 w6 Nn (.slice a2 n2 c2) ∧ Below w.heap.size w w6 ∧ TV w6 O2 b3 h3 v6 ∧ n6 = O2.length ∧ Lies 17 w6 O2 (.slice a6 n6 c6)) := ⟨TB.out.kb hkb TC.out.bx hd4.out.1 hd4.out.2, HVM.out.np hnp, HV9.out.np hnp, Lies.np hnp _ _ _ HL9.out, Lies.np hnp _ _ _ HM9.out, Lies.np hnp _ _ _ HN9.out, HB.out.trans (hkb.below hNh3 HB.out.size), tv6, hn6, hl6⟩
              clear HP hkb hnp tv6 hl6 hn6 TC HV9 HL9 HB HO9 HM9 HN9 HVM TB c0 c1' c2' c3' c4 c5
              go_wp2_with fail
              go_roundg (201 - (j3 + 1))
              case measure => have := Hz3.out; omega
              case rel =>
                obtain ⟨q1, q2, q3, q4, q5, q6, q7, q8, q9, q10⟩ := hR.out
                exact ⟨j3 + 1, v6, O2, a6, n6, c6, by go_num, by omega, rfl, rfl, q9, q8, q10, q1, q2, q3, q4, q5, q6, q7⟩
            · have HSb : Hid _ := tseal_x Nn bb hh vb' wr TB.out
              have hex3 : ((j3 : Int) < (S : Nat) ∧ ¬ (j3 : Int) < 200) ∨ ¬ (j3 : Int) < (S : Nat) := by omega
              have HB2 : Hid (Below w.heap.size w wr) := HB.out
              clear hlt3 HB
              rcases hex3 with ⟨hji3, hj23⟩ | hji3
              all_goals
                go_wp2_with fail
                refine Calls.mono HSb.out ?_
                rintro e X1 ⟨rfl, hkb1, hvN⟩
                have np1 := hkb1.np TB.out.bx
                have HSc : Hid _ := tseal_x O b3 h3 v3' X1 (TC.out.kb hkb1 TB.out.bx (fun e => hd3.out.1 e) (fun e => hd3.out.2 e))
                have hB1 : Below w.heap.size w X1 := HB2.out.trans (hkb1.below hNh2 HB2.out.size)
                have HvN : Hid (VV X1 Nn (.pointer (some ⟨vb', 0, none⟩))) := hvN
                have HvM : Hid (VV X1 M (.pointer (some ⟨v', 0, none⟩))) := HVM.out.np np1
                have HV1 : Hid (VV X1 l (.pointer (some ⟨v0, 0, none⟩))) := HV9.out.np np1
                have HL1 : Hid (Lies 17 X1 l (.slice al NL cl)) := Lies.np np1 _ _ _ HL9.out
                have HM1 : Hid (Lies 17 X1 M (.slice a1 n1 c1)) := Lies.np np1 _ _ _ HM9.out
                have HN1 : Hid (Lies 17 X1 Nn (.slice a2 n2 c2)) := Lies.np np1 _ _ _ HN9.out
                have HO1 : Hid (Lies 17 X1 O (.slice a3 n3 c3)) := Lies.np np1 _ _ _ HO9.out
                have TC1 : Hid (TV X1 O b3 h3 v3') := TC.out.kb hkb1 TB.out.bx (fun e => hd3.out.1 e) (fun e => hd3.out.2 e)
                clear HSb hkb1 np1 hvN HVM HV9 HL9 HM9 HN9 HO9 TC TB HB2
                go_wp2_with fail
                refine Calls.mono HSc.out ?_
                rintro e X0 ⟨rfl, hkb2, hvO⟩
                have np2 := hkb2.np TC1.out.bx
                have HB0 : Hid (Below w.heap.size w X0) := hB1.trans (hkb2.below hNh3 hB1.size)
                have HI1 : Hid _ := items_pair M _ a1 n1 c1 X0 (HvM.out.np np2) (Lies.np np2 _ _ _ HM1.out)
                have HI2 : Hid _ := items_pair Nn _ a2 n2 c2 X0 (HvN.out.np np2) (Lies.np np2 _ _ _ HN1.out)
                have HI3 : Hid _ := items_pair O _ a3 n3 c3 X0 hvO (Lies.np np2 _ _ _ HO1.out)
                have HI4 : Hid _ := items_pair l _ al NL cl X0 (HV1.out.np np2) (Lies.np np2 _ _ _ HL1.out)
                have hbx : Below X0.heap.size X0 X0 := Below.refl _ _
                clear HSc hkb2 np2 hvO HvM HvN HV1 HL1 HM1 HN1 HO1 TC1 hB1
                go_wp2_with fail
                refine Calls.mono (HI1.out _ hbx) ?_
                rintro e Y ⟨ua, un, uc, rfl, g1, hvals⟩
                replace hbx := hbx.trans (g1.mono hbx.size)
                have HVs : Hid _ := hvals
                clear hvals g1
                go_wp2_with fail
                refine Calls.mono HVs.out ?_
                rintro e X ⟨rfl, g2⟩
                replace hbx := hbx.trans (g2.mono hbx.size)
                clear g2 HVs
                go_wp2_with fail
                refine Calls.mono (HI2.out _ hbx) ?_
                rintro e Y ⟨ua, un, uc, rfl, g1, hvals⟩
                replace hbx := hbx.trans (g1.mono hbx.size)
                have HVs : Hid _ := hvals
                clear hvals g1
                go_wp2_with fail
                refine Calls.mono HVs.out ?_
                rintro e X ⟨rfl, g2⟩
                replace hbx := hbx.trans (g2.mono hbx.size)
                clear g2 HVs
                go_wp2_with fail
                refine Calls.mono (HI3.out _ hbx) ?_
                rintro e Y ⟨ua, un, uc, rfl, g1, hvals⟩
                replace hbx := hbx.trans (g1.mono hbx.size)
                have HVs : Hid _ := hvals
                clear hvals g1
                go_wp2_with fail
                refine Calls.mono HVs.out ?_
                rintro e X ⟨rfl, g2⟩
                replace hbx := hbx.trans (g2.mono hbx.size)
                clear g2 HVs
                go_wp2_with fail
                refine Calls.mono (HI4.out _ hbx) ?_
                rintro e Y ⟨ua, un, uc, rfl, g1, hvals⟩
                replace hbx := hbx.trans (g1.mono hbx.size)
                have HVs : Hid _ := hvals
                clear hvals g1
                go_wp2_with fail
                refine Calls.mono HVs.out ?_
                rintro e X ⟨rfl, g2⟩
                replace hbx := hbx.trans (g2.mono hbx.size)
                clear g2 HVs
                go_wp2_with fail
                refine Calls.mono (HSp.out _) ?_
                rintro e X ⟨rfl, g2⟩
                replace hbx := hbx.trans (g2.mono hbx.size)
                have HBz : Hid (Below w.heap.size w X) := HB0.out.trans (hbx.mono HB0.out.size)
                clear g2 hbx
                go_wp2_with fail
                go_ret
                exact ⟨rfl, HBz.out⟩
        · go_wp2_with fail
          refine Calls.mono HSl.out ?_
          rintro e w4 ⟨rfl, hkb, hvM⟩
          have hnp := hkb.np T.out.bx
          have HVM4 : Hid (VV w4 M (.pointer (some ⟨v', 0, none⟩))) := hvM
          have TB4 : Hid (TV w4 Nn bb hh vb') := TB0.out.kb hkb T.out.bx (fun e => hd1.out.2.1 e) (fun e => hd1.out.1 e)
          have HV4 : Hid (VV w4 l (.pointer (some ⟨v0, 0, none⟩))) := HV.out.np hnp
          have HL4 : Hid (Lies 17 w4 l (.slice al NL cl)) := Lies.np hnp _ _ _ HL.out
          have HM4 : Hid (Lies 17 w4 M (.slice a1 n1 c1)) := Lies.np hnp _ _ _ HLM.out
          have HN4 : Hid (Lies 17 w4 Nn (.slice a2 n2 c2)) := Lies.np hnp _ _ _ HLN.out
          have hB4 : Below w.heap.size w w4 := HB.out.trans (hkb.below hNh HB.out.size)
          have HBg : Hid _ := begin_any M _ w4 hvM
          clear HSl hkb hnp hvM T TB0 HV HL HB HLM HLN
          go_wp2_with fail
          refine Calls.mono HBg.out ?_
          rintro e w5 ⟨b3, h3, v3, rfl, t3, hg5, hh3, hb3'⟩
          have hB5 : Below w.heap.size w w5 := hB4.trans (hg5.mono hB4.size)
          have hNh3 : w.heap.size ≤ h3 := Nat.le_trans hB4.size hh3
          have hd3 : Hid (b3 ≠ hh ∧ h3 ≠ hh) := ⟨by have := TB4.out.bx.lt; omega, by have := TB4.out.bx.lt; omega⟩
          have hd4 : Hid (bb ≠ h3 ∧ hh ≠ h3) := ⟨by have := cell_lt TB4.out.c0; simp only at this; omega, by have := TB4.out.bx.lt; omega⟩
          have T5 : Hid (TV w5 M b3 h3 v3) := t3
          have TB5 : Hid (TV w5 Nn bb hh vb') := TB4.out.keeps hg5
          have HVM5 : Hid (VV w5 M (.pointer (some ⟨v', 0, none⟩))) := HVM4.out.keeps hg5
          have HV5 : Hid (VV w5 l (.pointer (some ⟨v0, 0, none⟩))) := HV4.out.keeps hg5
          have HL5 : Hid (Lies 17 w5 l (.slice al NL cl)) := Lies.keeps hg5 _ _ _ HL4.out
          have HM5 : Hid (Lies 17 w5 M (.slice a1 n1 c1)) := Lies.keeps hg5 _ _ _ HM4.out
          have HN5 : Hid (Lies 17 w5 Nn (.slice a2 n2 c2)) := Lies.keeps hg5 _ _ _ HN4.out
          clear HBg t3 hg5 hh3 hb3' hB4 TB4 HVM4 HV4 HL4 HM4 HN4
          go_wp2_with fail
          go_loopg [17, 16] 201 (fun z vi vl wr => ∃ (j3 v3' : Nat) (O : List VT) (a3 : Option Addr) (n3 c3 : Nat), vi = .int .i64 (j3 : Int) ∧ j3 ≤ 200 ∧ z = 201 - j3 ∧ vl = .slice a3 n3 c3 ∧ Hid (n3 = O.length) ∧ Hid (TV wr O b3 h3 v3') ∧ Hid (Lies 17 wr O (.slice a3 n3 c3)) ∧ Hid (TV wr Nn bb hh vb') ∧ Hid (VV wr M (.pointer (some ⟨v', 0, none⟩))) ∧ Hid (VV wr l (.pointer (some ⟨v0, 0, none⟩))) ∧ Hid (Lies 17 wr l (.slice al NL cl)) ∧ Hid (Lies 17 wr M (.slice a1 n1 c1)) ∧ Hid (Lies 17 wr Nn (.slice a2 n2 c2)) ∧ Hid (Below w.heap.size w wr))
          case atStart => exact ⟨0, v3, M, a1, n1, c1, rfl, by omega, rfl, rfl, HN, T5, HM5, TB5, HVM5, HV5, HL5, HM5, HN5, hB5⟩
          case round =>
            obtain ⟨j3, v3', O, a3, n3, c3, rfl, hj3, hz3, rfl, HN3, TC, HO9, TB, HVM, HV9, HL9, HM9, HN9, HB⟩ := hrel
            have Hz3 : Hid _ := hz3
            clear hz3 T5 HM5 TB5 HVM5 HV5 HL5 HN5 hB5
            by_cases hlt3 : j3 < S ∧ j3 < 200
            · have hji3 : (j3 : Int) < (S : Nat) := by omega
              have hj23 : (j3 : Int) < 200 := by omega
              have hJS : j3 < S := hlt3.1
              obtain ⟨sb, so, kk, t, x, sx, tx, hsa, _, hxl, hxt, hcell⟩ := Hat.out j3 hJS
              subst hsa
              obtain ⟨⟨c0, c1', c2', c3', c4, c5⟩, hbl⟩ := hcell wr HB.out
              simp only at c0 c1' c2' c3' c4 c5
              have HP : Hid _ := step_any m O b3 h3 v3' a3 n3 c3 kk t x sx tx wr TC.out HO9.out HN3.out (Lies.keeps HB.out _ _ _ hxl) hxt
              clear hcell hxl hlt3
              go_wp2_with fail
              refine Calls.mono HP.out ?_
              rintro e w6 ⟨O2, v6, a6, n6, c6, rfl, hkb, tv6, hn6, hl6⟩
              have hnp := hkb.np TC.out.bx
              have hR : Hid (TV w6 Nn bb hh vb' ∧ VV w6 M (.pointer (some ⟨v', 0, none⟩)) ∧ VV w6 l (.pointer (some ⟨v0, 0, none⟩)) ∧ Lies 17 w6 l (.slice al NL cl) ∧ Lies 17 w6 M (.slice a1 n1 c1) ∧ Lies 17 w6 Nn (.slice a2 n2 c2) ∧ Below w.heap.size w w6 ∧ TV w6 O2 b3 h3 v6 ∧ n6 = O2.length ∧ Lies 17 w6 O2 (.slice a6 n6 c6)) := ⟨TB.out.kb hkb TC.out.bx hd4.out.1 hd4.out.2, HVM.out.np hnp, HV9.out.np hnp, Lies.np hnp _ _ _ HL9.out, Lies.np hnp _ _ _ HM9.out, Lies.np hnp _ _ _ HN9.out, HB.out.trans (hkb.below hNh3 HB.out.size), tv6, hn6, hl6⟩
              clear HP hkb hnp tv6 hl6 hn6 TC HV9 HL9 HB HO9 HM9 HN9 HVM TB c0 c1' c2' c3' c4 c5
              go_wp2_with fail
              go_roundg (201 - (j3 + 1))
              case measure => have := Hz3.out; omega
              case rel =>
                obtain ⟨q1, q2, q3, q4, q5, q6, q7, q8, q9, q10⟩ := hR.out
                exact ⟨j3 + 1, v6, O2, a6, n6, c6, by go_num, by omega, rfl, rfl, q9, q8, q10, q1, q2, q3, q4, q5, q6, q7⟩
            · have HSb : Hid _ := tseal_x Nn bb hh vb' wr TB.out
              have hex3 : ((j3 : Int) < (S : Nat) ∧ ¬ (j3 : Int) < 200) ∨ ¬ (j3 : Int) < (S : Nat) := by omega
              have HB2 : Hid (Below w.heap.size w wr) := HB.out
              clear hlt3 HB
              rcases hex3 with ⟨hji3, hj23⟩ | hji3
              all_goals
                go_wp2_with fail
                refine Calls.mono HSb.out ?_
                rintro e X1 ⟨rfl, hkb1, hvN⟩
                have np1 := hkb1.np TB.out.bx
                have HSc : Hid _ := tseal_x O b3 h3 v3' X1 (TC.out.kb hkb1 TB.out.bx (fun e => hd3.out.1 e) (fun e => hd3.out.2 e))
                have hB1 : Below w.heap.size w X1 := HB2.out.trans (hkb1.below hNh2 HB2.out.size)
                have HvN : Hid (VV X1 Nn (.pointer (some ⟨vb', 0, none⟩))) := hvN
                have HvM : Hid (VV X1 M (.pointer (some ⟨v', 0, none⟩))) := HVM.out.np np1
                have HV1 : Hid (VV X1 l (.pointer (some ⟨v0, 0, none⟩))) := HV9.out.np np1
                have HL1 : Hid (Lies 17 X1 l (.slice al NL cl)) := Lies.np np1 _ _ _ HL9.out
                have HM1 : Hid (Lies 17 X1 M (.slice a1 n1 c1)) := Lies.np np1 _ _ _ HM9.out
                have HN1 : Hid (Lies 17 X1 Nn (.slice a2 n2 c2)) := Lies.np np1 _ _ _ HN9.out
                have HO1 : Hid (Lies 17 X1 O (.slice a3 n3 c3)) := Lies.np np1 _ _ _ HO9.out
                have TC1 : Hid (TV X1 O b3 h3 v3') := TC.out.kb hkb1 TB.out.bx (fun e => hd3.out.1 e) (fun e => hd3.out.2 e)
                clear HSb hkb1 np1 hvN HVM HV9 HL9 HM9 HN9 HO9 TC TB HB2
                go_wp2_with fail
                refine Calls.mono HSc.out ?_
                rintro e X0 ⟨rfl, hkb2, hvO⟩
                have np2 := hkb2.np TC1.out.bx
                have HB0 : Hid (Below w.heap.size w X0) := hB1.trans (hkb2.below hNh3 hB1.size)
                have HI1 : Hid _ := items_pair M _ a1 n1 c1 X0 (HvM.out.np np2) (Lies.np np2 _ _ _ HM1.out)
                have HI2 : Hid _ := items_pair Nn _ a2 n2 c2 X0 (HvN.out.np np2) (Lies.np np2 _ _ _ HN1.out)
                have HI3 : Hid _ := items_pair O _ a3 n3 c3 X0 hvO (Lies.np np2 _ _ _ HO1.out)
                have HI4 : Hid _ := items_pair l _ al NL cl X0 (HV1.out.np np2) (Lies.np np2 _ _ _ HL1.out)
                have hbx : Below X0.heap.size X0 X0 := Below.refl _ _
                clear HSc hkb2 np2 hvO HvM HvN HV1 HL1 HM1 HN1 HO1 TC1 hB1
                go_wp2_with fail
                refine Calls.mono (HI1.out _ hbx) ?_
                rintro e Y ⟨ua, un, uc, rfl, g1, hvals⟩
                replace hbx := hbx.trans (g1.mono hbx.size)
                have HVs : Hid _ := hvals
                clear hvals g1
                go_wp2_with fail
                refine Calls.mono HVs.out ?_
                rintro e X ⟨rfl, g2⟩
                replace hbx := hbx.trans (g2.mono hbx.size)
                clear g2 HVs
                go_wp2_with fail
                refine Calls.mono (HI2.out _ hbx) ?_
                rintro e Y ⟨ua, un, uc, rfl, g1, hvals⟩
                replace hbx := hbx.trans (g1.mono hbx.size)
                have HVs : Hid _ := hvals
                clear hvals g1
                go_wp2_with fail
                refine Calls.mono HVs.out ?_
                rintro e X ⟨rfl, g2⟩
                replace hbx := hbx.trans (g2.mono hbx.size)
                clear g2 HVs
                go_wp2_with fail
                refine Calls.mono (HI3.out _ hbx) ?_
                rintro e Y ⟨ua, un, uc, rfl, g1, hvals⟩
                replace hbx := hbx.trans (g1.mono hbx.size)
                have HVs : Hid _ := hvals
                clear hvals g1
                go_wp2_with fail
                refine Calls.mono HVs.out ?_
                rintro e X ⟨rfl, g2⟩
                replace hbx := hbx.trans (g2.mono hbx.size)
                clear g2 HVs
                go_wp2_with fail
                refine Calls.mono (HI4.out _ hbx) ?_
                rintro e Y ⟨ua, un, uc, rfl, g1, hvals⟩
                replace hbx := hbx.trans (g1.mono hbx.size)
                have HVs : Hid _ := hvals
                clear hvals g1
                go_wp2_with fail
                refine Calls.mono HVs.out ?_
                rintro e X ⟨rfl, g2⟩
                replace hbx := hbx.trans (g2.mono hbx.size)
                clear g2 HVs
                go_wp2_with fail
                refine Calls.mono (HSp.out _) ?_
                rintro e X ⟨rfl, g2⟩
                replace hbx := hbx.trans (g2.mono hbx.size)
                have HBz : Hid (Below w.heap.size w X) := HB0.out.trans (hbx.mono HB0.out.size)
                clear g2 hbx
                go_wp2_with fail
                go_ret
                exact ⟨rfl, HBz.out⟩
  · have hk0 : ¬ ((k : Nat) : Int) = 0 := by omega
    have HEnd : Hid (Calls Tryz.prog 8 #[] w1 fun e w' => e = .returned (.bool true) ∧ Below w.heap.size w w') := Calls.mono (HSp.out w1) (fun e w' h => ⟨h.1, hb1.trans (h.2.mono hb1.size)⟩)
    clear HO hk
    go_wp2_with fail
    refine Calls.mono HEnd.out ?_
    rintro e wd ⟨rfl, hgd⟩
    go_wp2_with fail
    go_ret
    exact ⟨rfl, hgd⟩

end Go.Proofs.YtekoaiehhjgfiaaGreat

