/-
  ConcatDeep.
-/
import Derived.Test.YtpnfmcmhcjekfabDeepP
namespace Go.Proofs.Ytpnfmcmhcjekfab
open Go.RowKit

set_option maxRecDepth 100000 in
set_option maxHeartbeats 16000000 in
theorem deep_walk (n : Nat) (l m : List VT) (ul um : Value) (ats : List Int) (ua : Value) (w : World) (hl : Lies (n + 1) w l ul) (hm : Lies (n + 1) w m um) (ha : IntsAt .i64 w ats ua) : Calls Try.prog 7 #[.agg #[ul, um], ua] w fun e w' => e = .returned (.bool true) ∧ Below w.heap.size w w' := by
  obtain ⟨al, cl, rfl, _⟩ := Lies.slice hl
  obtain ⟨am, cm, rfl, _⟩ := Lies.slice hm
  obtain ⟨aa, ca, rfl, ha63, _, hat⟩ := ha
  obtain ⟨A, hA⟩ : ∃ A, A = ats.length := ⟨_, rfl⟩
  have Hat : Hid (∀ i, i < A → ∃ b o k, aa = some ⟨b, o, none⟩ ∧ ∀ W, Below w.heap.size w W → W.cell? ⟨b, o + i, none⟩ = some (.int .i64 k)) := fun i hi => by
    obtain ⟨b, o, e, hall⟩ := hat (fun e => by rw [hA, e] at hi; cases hi)
    exact ⟨b, o, ats[i]'(by omega), e, fun W hW => cell_keeps hW (hall i (by omega))⟩
  rw [← hA] at ha63 ⊢
  obtain ⟨wA, hwA⟩ : ∃ wA, wA = w.alloc (.cells #[.slice al l.length cl, .slice am m.length cm] 48) := ⟨_, rfl⟩
  have hbA : Below w.heap.size w wA := by rw [hwA]; exact ((Grew.refl w).alloc _).below
  have hc0 : wA.cell? ⟨w.heap.size, 0, none⟩ = some (.slice al l.length cl) := by rw [hwA]; simp
  have hc1 : wA.cell? ⟨w.heap.size, 1, none⟩ = some (.slice am m.length cm) := by rw [hwA]; simp
  have HMa : Hid _ := made2_any n l m al am cl cm wA (Lies.keeps hbA _ _ _ hl) (Lies.keeps hbA _ _ _ hm)
  have HSp : Hid (∀ V, Calls Try.prog 9 #[] V fun e w' => e = .returned (.bool true) ∧ Below V.heap.size V w') := speaks12_any
  have HwA : Hid (wA = w.alloc (.cells #[.slice al l.length cl, .slice am m.length cm] 48)) := hwA
  rw [hwA] at HMa
  clear hl hm hat hA hwA
  go_enter Try.func7, Try.ntmps7
  go_wp2_with fail
  refine Calls.mono HMa.out ?_
  rintro e w1 ⟨hg1, hp1⟩
  rw [← HwA.out] at hg1
  have hb1 : Below w.heap.size w w1 := hbA.trans (hg1.mono hbA.size)
  have d0 := cell_keeps hg1 hc0
  have Hd1 : Hid (w1.cell? ⟨w.heap.size, 1, none⟩ = some (.slice am m.length cm)) := cell_keeps hg1 hc1
  clear HMa HwA hc0 hc1 hg1 hbA
  rcases hp1 with ⟨b1, b2, rfl, hv1, hv2, hl17, hm17⟩ | ⟨p, q, rfl⟩
  · have HV1 : Hid (VV w1 l (.pointer (some ⟨b1, 0, none⟩))) := hv1
    have HV2 : Hid (VV w1 m (.pointer (some ⟨b2, 0, none⟩))) := hv2
    have HL1 : Hid (Lies 17 w1 l (.slice al l.length cl)) := hl17
    have HM1 : Hid (Lies 17 w1 m (.slice am m.length cm)) := hm17
    have hm63 : m.length ≤ 65536 := hv2.len
    obtain ⟨ML, hML⟩ : ∃ ML, ML = m.length := ⟨_, rfl⟩
    have HML : Hid (ML = m.length) := hML
    rw [← hML] at Hd1 hm63
    clear hv1 hv2 hl17 hm17 hML
    go_wp2_with fail
    go_loopg [9, 5, 8] 41 (fun z vi vp vl wr => ∃ (j : Nat) (M : List VT) (b : Nat) (ax : Option Addr) (cx : Nat), vi = .int .i64 (j : Int) ∧ j ≤ 40 ∧ z = 41 - j ∧ vp = .pointer (some ⟨b, 0, none⟩) ∧ vl = .slice ax M.length cx ∧ Hid (VV wr M (.pointer (some ⟨b, 0, none⟩))) ∧ Hid (Lies 17 wr M (.slice ax M.length cx)) ∧ Hid (Below w1.heap.size w1 wr))
    case atStart => exact ⟨0, l, b1, al, cl, rfl, by omega, rfl, rfl, rfl, HV1, HL1, Below.refl _ _⟩
    case round =>
      obtain ⟨j, M, b, ax, cx, rfl, hj, hz, rfl, rfl, HV, HL, HB⟩ := hrel
      have Hz : Hid _ := hz
      have hMl : M.length ≤ 65536 := HV.out.len
      have HIs : Hid (Calls Try.prog 14 #[.pointer (some ⟨b, 0, none⟩), .int .i64 0, .slice ax M.length cx, .int .i64 0] wr fun e w' => e = .returned (.bool true) ∧ Below wr.heap.size wr w') := is_some M b _ wr HV.out HL.out
      have hbw : Below w.heap.size w wr := hb1.trans (HB.out.mono hb1.size)
      have d1 := cell_keeps HB.out Hd1.out
      clear hz HV1 HL1 d0
      by_cases hlt : j < A ∧ j < 40
      · have hji : (j : Int) < (A : Nat) := by omega
        have hj2 : (j : Int) < 40 := by omega
        have hjA : j < A := hlt.1
        obtain ⟨tb, to_, at_, hta, htc⟩ := Hat.out j hlt.1
        subst hta
        have htc := htc wr hbw
        obtain ⟨N, hN⟩ : ∃ N, N = M.length := ⟨_, rfl⟩
        have HN : Hid (N = M.length) := hN
        have hw1 : IntKind.i64.wrap ((N : Int) + (ML : Nat)) = ((N + ML : Nat) : Int) := by rw [IntKind.wrap_i64]; omega
        by_cases hbig : 3000 < N + ML
        · have hbi : (3000 : Int) < ((N + ML : Nat) : Int) := by omega
          rw [← hN] at HIs ⊢
          clear hlt hN
          go_wp2_with fail
          refine Calls.mono HIs.out ?_
          rintro e wy ⟨rfl, hby⟩
          have hby2 : Below w.heap.size w wy := hbw.trans (hby.mono hbw.size)
          clear HIs
          go_wp2_with fail
          refine Calls.mono (HSp.out _) ?_
          rintro e wz ⟨rfl, hbz⟩
          have HBz : Hid (Below w.heap.size w wz) := hby2.trans (hbz.mono hby2.size)
          clear hbz hby hby2
          go_wp2_with fail
          go_ret
          exact ⟨rfl, HBz.out⟩
        · have hbi : ¬ (3000 : Int) < ((N + ML : Nat) : Int) := by omega
          have HCu : Hid _ := cut_any M _ at_ wr HV.out
          have HVm : Hid (VV wr m (.pointer (some ⟨b2, 0, none⟩))) := HV2.out.keeps HB.out
          have HMm : Hid (Lies 17 wr m (.slice am m.length cm)) := Lies.keeps HB.out _ _ _ HM1.out
          have HSb : Hid (N + ML ≤ 3000) := (by omega : N + ML ≤ 3000)
          rw [← hN] at HL ⊢
          clear hlt hN HIs hbig
          go_wp2_with fail
          refine Calls.mono HCu.out ?_
          rintro e w2 ⟨hb2, hp2⟩
          have HRc : Hid (Calls Try.prog 11 #[.slice ax N cx, .int .i64 at_] w2 (CutL M at_ w2)) := by
            have h9 := rcut_any M ax cx at_ w2 (Lies.keeps hb2 _ _ _ (by have := HL.out; rw [HN.out] at this; exact this)) hMl
            rw [← HN.out] at h9
            exact h9
          have d2 := cell_keeps hb2 d1
          clear HCu
          rcases hp2 with ⟨hend, p1, p2, rfl, v1, v2⟩ | ⟨hend, rfl⟩
          · have Hv1 : Hid _ := v1
            have Hv2 : Hid _ := v2
            clear v1 v2 htc d1
            go_wp2_with fail
            refine Calls.mono HRc.out ?_
            rintro e w3 ⟨hb3, hp3⟩
            rw [if_pos hend] at hp3
            obtain ⟨a1, c1, a2, c2, rfl, l1, l2⟩ := hp3
            have hb23 : Below wr.heap.size wr w3 := hb2.trans (hb3.mono hb2.size)
            have d3 := cell_keeps hb3 d2
            have eT : (M.take at_.toNat).length + (M.drop at_.toNat).length = N := by
              rw [HN.out, List.length_take, List.length_drop]
              have := hend.1
              have := hend.2
              omega
            have HAl : Hid _ := all3_any (M.drop at_.toNat) m (M.take at_.toNat) _ _ _ w3 (Hv2.out.keeps hb3) (HVm.out.keeps hb23) (Hv1.out.keeps hb3)
            have ecat : catR3 (M.drop at_.toNat) m (M.take at_.toNat) = .inl (M.drop at_.toNat ++ (m ++ M.take at_.toNat)) := by
              unfold catR3
              rw [if_pos]
              rw [List.length_append, List.length_append]
              have := HSb.out
              have := HML.out
              omega
            rw [ecat] at HAl
            have HT : Hid (Lies 17 w3 (M.take at_.toNat) (.slice a1 (M.take at_.toNat).length c1)) := l1
            have HD : Hid (Lies 17 w3 (M.drop at_.toNat) (.slice a2 (M.drop at_.toNat).length c2)) := l2
            have HM3 : Hid (Lies 17 w3 m (.slice am m.length cm)) := Lies.keeps hb23 _ _ _ HMm.out
            have HB3 : Hid (Below w1.heap.size w1 w3) := HB.out.trans (hb23.mono HB.out.size)
            generalize M.take at_.toNat = T at *
            generalize M.drop at_.toNat = D at *
            clear HRc Hv1 Hv2 d2 l1 l2 ecat hb2 hb3 hb23 HV HL HVm HMm HB hend hbw
            go_wp2_with fail
            refine Calls.mono HAl.out ?_
            rintro e w4 ⟨hb4, b4, rfl, hv4⟩
            have HV4 : Hid (VV w4 (D ++ (m ++ T)) (.pointer (some ⟨b4, 0, none⟩))) := hv4
            have d4 := cell_keeps hb4 d3
            obtain ⟨pt, ht1, ht2, hst, hdt⟩ := src_of (Lies.keeps hb4 _ _ _ HT.out)
            obtain ⟨pd, hd1, hd2, hsd, hdd⟩ := src_of (Lies.keeps hb4 _ _ _ HD.out)
            obtain ⟨pm, hm1, hm2, hsm, hdm⟩ := src_of (Lies.keeps hb4 _ _ _ HM3.out)
            have HB4 : Hid (Below w1.heap.size w1 w4) := HB3.out.trans (hb4.mono HB3.out.size)
            obtain ⟨TL, hTL⟩ : ∃ TL, TL = T.length := ⟨_, rfl⟩
            obtain ⟨DL, hDL⟩ : ∃ DL, DL = D.length := ⟨_, rfl⟩
            have hml := HML.out
            have HD4 : Hid (w4.cell? ⟨w.heap.size, 1, none⟩ = some (.slice am ML cm)) := d4
            rw [← hTL] at hst ht2 eT ⊢
            rw [← hDL] at hsd hd2 eT ⊢
            rw [← hml] at hsm hm2
            have HST : Hid _ := hst
            have HSD : Hid _ := hsd
            have HSM : Hid _ := hsm
            have hsmall := HSb.out
            have HF : Hid (∀ W a9 c9, Rw w4 W (.slice a9 (DL + ML + TL) c9) (DL + ML + TL) ((([] ++ pd.flatMap encP) ++ pm.flatMap encP) ++ pt.flatMap encP) → Lies 17 W (D ++ (m ++ T)) (.slice a9 (DL + ML + TL) c9)) := fun W a9 c9 h => by
              have e9 : (([] ++ pd.flatMap encP) ++ pm.flatMap encP) ++ pt.flatMap encP = (pd ++ (pm ++ pt)).flatMap encP := by simp [List.flatMap_append]
              rw [e9] at h
              have h9 := h.lies (by rw [List.length_append, List.length_append, hd2, hm2, ht2]; omega) (fun p hp => by
                rcases List.mem_append.1 hp with hp | hp
                · exact hdd p hp
                · rcases List.mem_append.1 hp with hp | hp
                  · exact hdm p hp
                  · exact hdt p hp) (by omega)
              rw [List.map_append, List.map_append, hd1, hm1, ht1] at h9
              exact h9
            have HLen : Hid (DL + ML + TL = (D ++ (m ++ T)).length) := by
              show _ = _
              rw [List.length_append, List.length_append]
              omega
            clear HAl hv4 d3 hst hsd hsm hdt hdd hdm ht1 hd1 hm1 ht2 hd2 hm2 HT HD HM3 HB3 hb4 hTL hDL hml
            have HC := Rw.nil w4
            go_wp2_with
              (first
                | (at_builtin; refine Rw.append rfl _ _ rfl HC rfl rfl HSD.out DL (by omega) (by omega) ?_; clear HC d4; intro ay cy W HC; have d4 := cell_keeps HC.below HD4.out)
                | (at_builtin; refine Rw.append rfl _ _ rfl HC rfl rfl HSM.out (DL + ML) (by omega) (by omega) ?_; clear HC d4; intro ay cy W HC; have d4 := cell_keeps HC.below HD4.out)
                | (at_builtin; refine Rw.append rfl _ _ rfl HC rfl rfl HST.out (DL + ML + TL) (by omega) (by omega) ?_; clear HC d4; intro ay cy W HC; have d4 := cell_keeps HC.below HD4.out))
            have HVn : Hid (VV W (D ++ (m ++ T)) (.pointer (some ⟨b4, 0, none⟩))) := HV4.out.keeps HC.below
            have HLn : Hid (Lies 17 W (D ++ (m ++ T)) (.slice ay (DL + ML + TL) cy)) := HF.out _ _ _ HC
            have HBn : Hid (Below w1.heap.size w1 W) := HB4.out.trans (HC.below.mono HB4.out.size)
            have HHt : Hid _ := height_pair _ _ W HVn.out
            rw [← HLen.out] at HHt
            clear HC HF HST HSD HSM HV4 HB4 d4 HD4
            refine Calls.mono HHt.out ?_
            rintro e w5 ⟨hb5, hN5, rfl, hhi⟩
            have HHi : Hid _ := hhi w5
            have HVn : Hid (VV w5 (D ++ (m ++ T)) (.pointer (some ⟨b4, 0, none⟩))) := HVn.out.keeps hb5
            have HLn : Hid (Lies 17 w5 (D ++ (m ++ T)) (.slice ay (DL + ML + TL) cy)) := Lies.keeps hb5 _ _ _ HLn.out
            have HBn : Hid (Below w1.heap.size w1 w5) := HBn.out.trans (hb5.mono HBn.out.size)
            clear HHt hhi hb5
            go_wp2_with fail
            refine Calls.mono HHi.out ?_
            rintro e w6 ⟨g, rfl, hle, hw6⟩
            obtain rfl : w5 = w6 := hw6.symm
            have hlei : ¬ ((g : Nat) : Int) < (hN5 : Nat) := by omega
            clear HHi
            go_wp2_with fail
            go_roundg (41 - (j + 1))
            case measure => have := Hz.out; omega
            case rel =>
              refine ⟨j + 1, D ++ (m ++ T), b4, ay, cy, by go_num, by omega, rfl, rfl, by rw [← HLen.out], HVn, ?_, HBn⟩
              show Lies 17 w5 _ _
              rw [← HLen.out]
              exact HLn.out
          · clear htc d1 HVm HMm
            go_wp2_with fail
            refine Calls.mono HRc.out ?_
            rintro e w3 ⟨hb3, hp3⟩
            rw [if_neg hend] at hp3
            subst hp3
            have hb23 : Below wr.heap.size wr w3 := hb2.trans (hb3.mono hb2.size)
            have HV3 : Hid (VV w3 M (.pointer (some ⟨b, 0, none⟩))) := HV.out.keeps hb23
            have HL3 : Hid (Lies 17 w3 M (.slice ax M.length cx)) := Lies.keeps hb23 _ _ _ (by have := HL.out; rw [HN.out] at this; exact this)
            have HB3 : Hid (Below w1.heap.size w1 w3) := HB.out.trans (hb23.mono HB.out.size)
            clear HRc HV HL HB d2 hb2 hb3 hb23 hbw
            go_wp2_with fail
            go_roundg (41 - (j + 1))
            case measure => have := Hz.out; omega
            case rel => exact ⟨j + 1, M, b, ax, cx, by go_num, by omega, rfl, rfl, by rw [HN.out], HV3, HL3, HB3⟩
      · have hex : ((j : Int) < (A : Nat) ∧ ¬ (j : Int) < 40) ∨ ¬ (j : Int) < (A : Nat) := by omega
        clear hlt
        rcases hex with ⟨hji, hj2⟩ | hji
        · go_wp2_with fail
          refine Calls.mono HIs.out ?_
          rintro e wy ⟨rfl, hby⟩
          have hby2 : Below w.heap.size w wy := hbw.trans (hby.mono hbw.size)
          clear HIs
          go_wp2_with fail
          refine Calls.mono (HSp.out _) ?_
          rintro e wz ⟨rfl, hbz⟩
          have HBz : Hid (Below w.heap.size w wz) := hby2.trans (hbz.mono hby2.size)
          clear hbz hby hby2
          go_wp2_with fail
          go_ret
          exact ⟨rfl, HBz.out⟩
        · go_wp2_with fail
          refine Calls.mono HIs.out ?_
          rintro e wy ⟨rfl, hby⟩
          have hby2 : Below w.heap.size w wy := hbw.trans (hby.mono hbw.size)
          clear HIs
          go_wp2_with fail
          refine Calls.mono (HSp.out _) ?_
          rintro e wz ⟨rfl, hbz⟩
          have HBz : Hid (Below w.heap.size w wz) := hby2.trans (hbz.mono hby2.size)
          clear hbz hby hby2
          go_wp2_with fail
          go_ret
          exact ⟨rfl, HBz.out⟩
  · go_wp2_with fail
    refine Calls.mono (HSp.out _) ?_
    rintro e wz ⟨rfl, hbz⟩
    have HBz : Hid (Below w.heap.size w wz) := hb1.trans (hbz.mono hb1.size)
    clear hbz hb1
    go_wp2_with fail
    go_ret
    exact ⟨rfl, HBz.out⟩

end Go.Proofs.Ytpnfmcmhcjekfab

