/-
  TvecSteps.
-/
import Derived.Test.YtekoaiehhjgfiaaGreatStepsT
namespace Go.Proofs.YtekoaiehhjgfiaaGreat
open Go.RowKit

set_option maxRecDepth 100000 in
set_option maxHeartbeats 64000000 in
theorem tsteps_walk (n : Nat) (l : List VT) (ul : Value) (m : Nat) (ss : List StepP) (us : Value) (w : World) (hl : Lies (n + 1) w l ul) (hs : SlS m w ss us) : Calls Tryz.prog 3 #[ul, us] w fun e w' => e = .returned (.bool true) ∧ Below w.heap.size w w' := by
  obtain ⟨al, cl, rfl, hlb⟩ := Lies.slice hl
  obtain ⟨aS, cS, rfl, hcs, hs63, hat⟩ := hs.at
  obtain ⟨S, hS⟩ : ∃ S, S = ss.length := ⟨_, rfl⟩
  rw [← hS] at hat hs63 ⊢
  have HO : Hid _ := of_vv11 n l _ w hl
  have HSp : Hid (∀ V, Calls Tryz.prog 8 #[] V fun e w' => e = .returned (.bool true) ∧ Below V.heap.size V w') := speaks13_any
  have Hat : Hid _ := hat
  clear hl hs hat hcs hS
  go_enter Tryz.func3, Tryz.ntmps3
  go_wp2_with fail
  refine Calls.mono HO.out ?_
  rintro e w1 ⟨hb1, hp1⟩
  rcases hp1 with ⟨v0, rfl, hv, hl17⟩ | ⟨k, rfl, hk⟩
  · have HV1 : Hid (VV w1 l (.pointer (some ⟨v0, 0, none⟩))) := hv
    obtain ⟨NL, hNL⟩ : ∃ NL, NL = l.length := ⟨_, rfl⟩
    have HNL : Hid (NL = l.length) := hNL
    rw [← hNL] at hl17 ⊢
    have HL1 : Hid (Lies 17 w1 l (.slice al NL cl)) := hl17
    have HBg : Hid _ := begin_any l _ w1 hv
    clear HO hv hl17 hNL hlb
    go_wp2_with fail
    refine Calls.mono HBg.out ?_
    rintro e w2 ⟨b, h, v, rfl, t2, hg2, hh2, hb2'⟩
    have hb2 : Below w.heap.size w w2 := hb1.trans (hg2.mono hb1.size)
    have hNh : w.heap.size ≤ h := Nat.le_trans hb1.size hh2
    have T2 : Hid (TV w2 l b h v) := t2
    have HV2 : Hid (VV w2 l (.pointer (some ⟨v0, 0, none⟩))) := HV1.out.keeps hg2
    have HL2 : Hid (Lies 17 w2 l (.slice al NL cl)) := Lies.keeps hg2 _ _ _ HL1.out
    clear HBg HV1 HL1
    go_wp2_with fail
    go_loopg [9, 8] 301 (fun z vi vl wr => ∃ (j v : Nat) (M : List VT) (a1 : Option Addr) (n1 c1 : Nat), vi = .int .i64 (j : Int) ∧ j ≤ 300 ∧ z = 301 - j ∧ vl = .slice a1 n1 c1 ∧ Hid (n1 = M.length) ∧ Hid (TV wr M b h v) ∧ Hid (Lies 17 wr M (.slice a1 n1 c1)) ∧ Hid (VV wr l (.pointer (some ⟨v0, 0, none⟩))) ∧ Hid (Lies 17 wr l (.slice al NL cl)) ∧ Hid (Below w.heap.size w wr))
    case atStart => exact ⟨0, v, l, al, NL, cl, rfl, by omega, rfl, rfl, HNL, T2, HL2, HV2, HL2, hb2⟩
    case round =>
      obtain ⟨j, v', M, a1, n1, c1, rfl, hj, hz, rfl, HN, T, HLM, HV, HL, HB⟩ := hrel
      have Hz : Hid _ := hz
      clear hz T2 HV2 HL2 t2
      by_cases hlt : j < S ∧ j < 300
      · have hji : (j : Int) < (S : Nat) := by omega
        have hj2 : (j : Int) < 300 := by omega
        have hJS : j < S := hlt.1
        obtain ⟨sb, so, kk, t, x, sx, tx, hsa, _, hxl, hxt, hcell⟩ := Hat.out j hJS
        subst hsa
        obtain ⟨⟨c0, c1', c2', c3', c4, c5⟩, hbl⟩ := hcell wr HB.out
        simp only at c0 c1' c2' c3' c4 c5
        have HP : Hid _ := step_any m M b h v' a1 n1 c1 kk t x sx tx wr T.out HLM.out HN.out (Lies.keeps HB.out _ _ _ hxl) hxt
        clear hcell hxl hlt
        go_wp2_with fail
        refine Calls.mono HP.out ?_
        rintro e w3 ⟨M2, v2, a2, n2, cz, rfl, hkb, tv3, hn2, hl3⟩
        have hnp := hkb.np T.out.bx
        have HV3 : Hid (VV w3 l (.pointer (some ⟨v0, 0, none⟩))) := HV.out.np hnp
        have HL3 : Hid (Lies 17 w3 l (.slice al NL cl)) := Lies.np hnp _ _ _ HL.out
        have HB3 : Hid (Below w.heap.size w w3) := HB.out.trans (hkb.below hNh HB.out.size)
        have HT3 : Hid _ := tv3
        have HLM3 : Hid _ := hl3
        have HN3 : Hid _ := hn2
        clear HP hkb hnp tv3 hl3 hn2 T HV HL HB HLM c0 c1' c2' c3' c4 c5
        go_wp2_with fail
        go_roundg (301 - (j + 1))
        case measure => have := Hz.out; omega
        case rel => exact ⟨j + 1, v2, M2, a2, n2, cz, by go_num, by omega, rfl, rfl, HN3, HT3, HLM3, HV3, HL3, HB3⟩
      · have HSl : Hid _ := tseal_x M b h v' wr T.out
        have hex : ((j : Int) < (S : Nat) ∧ ¬ (j : Int) < 300) ∨ ¬ (j : Int) < (S : Nat) := by omega
        clear hlt
        rcases hex with ⟨hji, hj2⟩ | hji
        all_goals
          go_wp2_with fail
          refine Calls.mono HSl.out ?_
          rintro e X0 ⟨rfl, hkb, hv4⟩
          have hnp := hkb.np T.out.bx
          have HB0 : Hid (Below w.heap.size w X0) := HB.out.trans (hkb.below hNh HB.out.size)
          have HI1 : Hid _ := items_pair M _ a1 n1 c1 X0 hv4 (Lies.np hnp _ _ _ HLM.out)
          have HI2 : Hid _ := items_pair l _ al NL cl X0 (HV.out.np hnp) (Lies.np hnp _ _ _ HL.out)
          have HLn : Hid (∀ V, Below X0.heap.size X0 V → Calls Tryz.prog 14 #[.pointer (some ⟨v', 0, none⟩)] V (NumPost n1 V)) := fun V hV9 => by
            rw [HN.out]
            exact vlen_any 16 M _ V (hv4.vc.keeps hV9)
          have hbx : Below X0.heap.size X0 X0 := Below.refl _ _
          clear HSl hkb hnp hv4 T HV HL HB HLM
          go_wp2_with fail
          refine Calls.mono (HI1.out _ hbx) ?_
          rintro e Y ⟨ua, un, uc, rfl, g1, hvals⟩
          replace hbx := hbx.trans (g1.mono hbx.size)
          have HVs : Hid _ := hvals
          clear hvals g1
          go_wp2_with fail
          refine Calls.mono HVs.out ?_
          rintro e X ⟨rfl, g2⟩
          replace hbx := hbx.trans (g2.mono hbx.size)
          clear g2 HVs
          go_wp2_with fail
          refine Calls.mono (HLn.out _ hbx) ?_
          rintro e Y ⟨rfl, g1⟩
          replace hbx := hbx.trans (g1.mono hbx.size)
          clear g1 HLn
          go_wp2_with fail
          refine Calls.mono (HI2.out _ hbx) ?_
          rintro e Y ⟨ua, un, uc, rfl, g1, hvals⟩
          replace hbx := hbx.trans (g1.mono hbx.size)
          have HVs : Hid _ := hvals
          clear hvals g1
          go_wp2_with fail
          refine Calls.mono HVs.out ?_
          rintro e X ⟨rfl, g2⟩
          replace hbx := hbx.trans (g2.mono hbx.size)
          clear g2 HVs
          go_wp2_with fail
          refine Calls.mono (HSp.out _) ?_
          rintro e X ⟨rfl, g2⟩
          replace hbx := hbx.trans (g2.mono hbx.size)
          have HBz : Hid (Below w.heap.size w X) := HB0.out.trans (hbx.mono HB0.out.size)
          clear g2 hbx
          go_wp2_with fail
          go_ret
          exact ⟨rfl, HBz.out⟩
  · have hk0 : ¬ ((k : Nat) : Int) = 0 := by omega
    have HEnd : Hid (Calls Tryz.prog 8 #[] w1 fun e w' => e = .returned (.bool true) ∧ Below w.heap.size w w') := Calls.mono (HSp.out w1) (fun e w' h => ⟨h.1, hb1.trans (h.2.mono hb1.size)⟩)
    clear HO hk
    go_wp2_with fail
    refine Calls.mono HEnd.out ?_
    rintro e wd ⟨rfl, hgd⟩
    go_wp2_with fail
    go_ret
    exact ⟨rfl, hgd⟩

end Go.Proofs.YtekoaiehhjgfiaaGreat

