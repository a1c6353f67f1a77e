/-
  CellOnce.
-/
import Derived.Test.YtmmppmioackiaabConsM
import Derived.Test.YtmmppmioackiaabRTimes
import Derived.Test.YtmmppmioackiaabLevel
namespace Go.Proofs.Ytmmppmioackiaab
open Go.RowKit Go.Shelf

set_option maxRecDepth 100000 in
set_option maxHeartbeats 16000000 in
theorem once_walk (o n : Int) (d : Nat) (v : VT) (u : Value) (w : World) (hu : Lies d w v.items u) (ht : v.text.size ≤ 9223372036854775807) :
    Calls Try.prog 5 #[.int .i64 o, .int .i64 n, .agg #[.int .i64 v.kind, .int .i64 v.num, .string v.text, u]] w fun e w' => e = .returned (.bool true) ∧ Below w.heap.size w w' := by
  have HSp : Hid (∀ V, Calls Try.prog 8 #[] V fun e w' => e = .returned (.bool true) ∧ Below V.heap.size V w') := speaks22_any
  obtain ⟨au, cu, rfl, _⟩ := Lies.slice hu
  obtain ⟨E, hE⟩ : ∃ E, E = timesE d o 0 v := ⟨_, rfl⟩
  obtain ⟨q, hq⟩ : ∃ q, q = o.toNat := ⟨_, rfl⟩
  have HIt : Hid (∀ V, Below w.heap.size w V → Calls Try.prog 7 #[.int .i64 o, .agg #[.int .i64 v.kind, .int .i64 v.num, .string v.text, .slice au v.items.length cu]] V (IterPost E q v V)) := fun V hV => by rw [hE, hq]; exact iter_any d o v _ V (Lies.keeps hV _ _ _ hu) ht
  have HRt : Hid (E = 0 → o = (q : Int) ∧ q < 8 ∧ rightV 16 v = true ∧ Lies 16 w v.items (.slice au v.items.length cu)) := fun h => by
    rw [h] at hE
    unfold timesE at hE
    by_cases h1 : o < 0 ∨ 8 ≤ o
    · rw [if_pos h1] at hE; cases hE
    · rw [if_neg h1] at hE
      have h2 : ¬ ((0 : Int) < 0 ∨ (65536 : Int) < 0) := by omega
      rw [if_neg h2] at hE
      cases hr : rightV d v with
      | false => rw [hr] at hE; cases hE
      | true =>
        have hc := canon hu hr
        exact ⟨by omega, by omega, hc.2, hc.1⟩
  have HBk : Hid (Bx (w.alloc (.cells #[.int .i64 v.kind, .int .i64 v.num, .string v.text, .slice au v.items.length cu] 24)) w.heap.size v (.slice au v.items.length cu)) := bx_alloc _ _ _
  have HSz : Hid ((w.alloc (.cells #[.int .i64 v.kind, .int .i64 v.num, .string v.text, .slice au v.items.length cu] 24)).heap.size = w.heap.size + 1) := World.size_alloc _ _
  have hb0 : Below w.heap.size w (w.alloc (.cells #[.int .i64 v.kind, .int .i64 v.num, .string v.text, .slice au v.items.length cu] 24)) := ((Grew.refl w).alloc _).below
  obtain ⟨k0, k1, k2, k3, _, _, _, _⟩ := HBk.out
  clear hu ht hE hq
  by_cases hn : 0 ≤ n ∧ n ≤ 300
  · obtain ⟨N, rfl⟩ : ∃ N : Nat, n = (N : Int) := ⟨n.toNat, by omega⟩
    have HN : Hid (N ≤ 300) := by show N ≤ 300; omega
    have h0 : ¬ (N : Int) < 0 := by omega
    have h1 : ¬ (300 : Int) < (N : Int) := by omega
    clear hn
    go_enter Try.func5, Try.ntmps5
    go_upto_region 3 with fail
    clear h0 h1
    go_wp2_with fail
    refine Calls.mono (HIt.out _ hb0) ?_
    rintro e w1 ⟨hg1, hcase⟩
    have hb1 : Below w.heap.size w w1 := hb0.trans (hg1.mono hb0.size)
    have HBk1 : Hid (Bx w1 w.heap.size v (.slice au v.items.length cu)) := HBk.out.keeps hg1
    rcases hcase with ⟨hE, rfl⟩ | ⟨hE, a, c, b, rfl, hb, hcb, hlx⟩
    · have hne : (E != 0) = true := by simp [hE]
      clear hg1 hb0 HIt HBk HBk1 k0 k1 k2 k3
      go_wp2_with fail
      refine Calls.mono (HSp.out _) ?_
      rintro e wz ⟨rfl, hgz⟩
      have hbz : Below w.heap.size w wz := hb1.trans (hgz.mono hb1.size)
      clear hgz
      go_wp2_with fail
      go_ret
      exact ⟨rfl, hbz⟩
    · obtain ⟨hoq, hq8, hr, hl16⟩ := HRt.out hE
      have hbW := hb0.size
      have HW0s : Hid (w.heap.size < b ∧ w1.heap.size ≥ w.heap.size) := ⟨by have := HSz.out; omega, hb1.size⟩
      have hs1 : Sq (fun _ => True) w1 q v 0 (fun _ => b) := ⟨hq8, hr, Dp.of_lies 16 w v _ hl16, fun i j hi hj _ => by omega, fun _ _ => trivial, fun i hi => by omega, 0, v, a, c, by omega, rfl, hr, hcb, LiesX.mono (fun n hn => ⟨trivial, fun _ _ => hn.2⟩) hlx⟩
      have HS1 : Hid (Sq (fun _ => True) w1 q v 0 (fun _ => b)) := hs1
      have HCo : Hid (Calls Try.prog 16 #[.agg #[.int .i64 v.kind, .int .i64 v.num, .string v.text, .slice au v.items.length cu], .pointer (some ⟨b, 0, none⟩)] w1 (ConsPost v b w1)) := cons_ok v _ b w1 (Lies.keeps hb1 _ _ _ hl16) hr
      have HR : Hid (q < 8 ∧ rightV 16 v = true ∧ Dp 16 v ∧ Lies 16 w v.items (.slice au v.items.length cu)) := ⟨hq8, hr, Dp.of_lies 16 w v _ hl16, hl16⟩
      subst hoq
      have k0 := cell_keeps hg1 k0; have k1 := cell_keeps hg1 k1; have k2 := cell_keeps hg1 k2; have k3 := cell_keeps hg1 k3
      clear hg1 hb0 HIt HBk hE hb hcb hlx hs1 hq8 hr hl16 hbW HRt
      go_wp2_with fail
      refine Calls.mono HCo.out ?_
      rintro e w2 ⟨hg2, dd, a2, c2, rfl, hdd, hcd, _⟩
      have HCD : Hid (CB w2 dd .nilIface 0 v (.slice a2 v.items.length c2) (some ⟨b, 0, none⟩)) := hcd
      have HS2 : Hid (Sq (fun _ => True) w2 q v 0 (fun _ => b)) := HS1.out.keeps hg2
      have hb2 : Below w.heap.size w w2 := hb1.trans (hg2.mono hb1.size)
      have HKd : Hid (Calls Try.prog 12 #[.pointer (some ⟨dd, 0, none⟩)] w2 fun e w' => e = .returned (.int .i64 1) ∧ w' = w2) := HS2.out.len1 hcd.c6
      have HAh : Hid (Calls Try.prog 10 #[.pointer (some ⟨b, 0, none⟩), .int .i64 (N : Int), .int .i64 (N : Int)] w2 (APost (fun _ => True) q v 0 (fun _ => b) N N w2)) := ahead_any (fun _ => True) q v 0 (fun _ => b) N N (by have := HN.out; omega) (by have := HN.out; omega) w2 HS2.out (fun _ _ => trivial)
      have HBk2 : Hid (Bx w2 w.heap.size v (.slice au v.items.length cu)) := HBk1.out.keeps hg2
      have Hbd : Hid (w1.heap.size ≤ dd ∧ b < w1.heap.size) := ⟨hdd, HS1.out.lt 0 (Nat.le_refl _)⟩
      clear hg2 hdd hcd hb1 HCo HS1 HBk1 k0 k1 k2 k3
      go_wp2_with fail
      refine Calls.mono HKd.out ?_
      rintro e w9 ⟨rfl, hw9⟩
      obtain rfl : w2 = w9 := hw9.symm
      clear hw9 HKd
      go_wp2_with fail
      refine Calls.mono HAh.out ?_
      rintro e w3 ⟨K, P', hP, _, hs3, hkc, hcase⟩
      have hN3 := HN.out
      obtain ⟨hK, rfl⟩ : K = N ∧ e = .returned (.tuple #[.int .i64 0, .int .i64 0]) := by
        rcases hcase with ⟨h1, h2, h3⟩ | ⟨h1, _⟩
        · have hKN : K = N := by omega
          refine ⟨hKN, ?_⟩
          rw [h3, hKN]
          simp
        · omega
      subst hK
      have hP0 : P' 0 = b := hP 0 (Nat.le_refl _)
      have hbb := Hbd.out
      have hww := HW0s.out
      have hb3 : Below w.heap.size w w3 := hb2.trans (hkc.below (fun j hj hh => by obtain ⟨i, _, e⟩ := hh; have e : j = b := e; omega) hb2.size)
      have HKc : Hid (Calls Try.prog 12 #[.pointer (some ⟨b, 0, none⟩)] w3 fun e w' => e = .returned (.int .i64 (K : Int)) ∧ w' = w3) := by
        have h9 := hs3.len
        rw [hP0, show min K 65536 = K by omega] at h9
        exact h9
      have HKd : Hid (Calls Try.prog 12 #[.pointer (some ⟨dd, 0, none⟩)] w3 fun e w' => e = .returned (.int .i64 ((K : Int) + 1)) ∧ w' = w3) := by
        have h9 := hs3.len1 (d := dd) (by rw [hP0]; exact hkc.cell (fun hh => by obtain ⟨i, _, e⟩ := hh; simp only at e; omega) HCD.out.c6)
        rw [show min (K + 1) 65536 = K + 1 by omega] at h9
        exact h9
      have HBk3 : Hid (Bx w3 w.heap.size v (.slice au v.items.length cu)) := hkc.bx (fun hh => by obtain ⟨i, _, e⟩ := hh; have e : w.heap.size = b := e; omega) HBk2.out
      have HS3 : Hid (Sq (fun _ => True) w3 q v K P') := hs3
      have HP0 : Hid (P' 0 = b) := hP0
      have e1 : ((K : Int) != (K : Int)) = false := by simp
      have e2 : ((K : Int) + 1 != (K : Int) + 1) = false := by simp
      have e3 : IntKind.i64.wrap ((K : Int) + 1) = (K : Int) + 1 := by rw [IntKind.wrap_i64]; omega
      clear hP hs3 hkc hcase hN3 hP0 hbb hww hb2 HAh HS2 HCD HBk2 Hbd HW0s
      go_wp2_with fail
      refine Calls.mono HKc.out ?_
      rintro e w9 ⟨rfl, hw9⟩
      obtain rfl : w3 = w9 := hw9.symm
      clear hw9 HKc
      go_wp2_with fail
      refine Calls.mono HKd.out ?_
      rintro e w9 ⟨rfl, hw9⟩
      obtain rfl : w3 = w9 := hw9.symm
      clear hw9 HKd
      obtain ⟨k0, k1, k2, k3, _, _, _, _⟩ := HBk3.out
      obtain ⟨nx, hnx⟩ : ∃ nx, nx = w3.heap.size := ⟨_, rfl⟩
      obtain ⟨W4, hW4⟩ : ∃ W4, W4 = w3.alloc (.cells #[.int .i64 v.kind, .int .i64 v.num, .string v.text, .slice au v.items.length cu] 24) := ⟨_, rfl⟩
      have HW4 : Hid (W4 = w3.alloc (.cells #[.int .i64 v.kind, .int .i64 v.num, .string v.text, .slice au v.items.length cu] 24)) := hW4
      have hal : Below w3.heap.size w3 W4 := by rw [hW4]; exact ((Grew.refl _).alloc _).below
      have HX4 : Hid (Bx W4 nx v (.slice au v.items.length cu)) := by rw [hW4, hnx]; exact bx_alloc _ _ _
      have HL4 : Hid (LiesX (fun m => m ≠ nx) 16 W4 v.items (.slice au v.items.length cu)) := LiesX.mono (fun n hn => by omega) ((LiesX.of_lies (Lies.keeps hb3 _ _ _ HR.out.2.2.2)).keeps hal)
      have Hnx : Hid (nx = w3.heap.size) := hnx
      clear hW4
      go_upto_region 13 with fail
      rw [← HW4.out, ← hnx]
      clear HW4 hnx k0 k1 k2 k3 HBk3 e1 e2 e3
      go_wp2_with fail
      go_loopg [7, 14] K (fun g cc ii wr => ∃ (j p : Nat), ii = .int .i64 (j : Int) ∧ cc = .pointer (some ⟨p, 0, none⟩) ∧ j ≤ K ∧ g = K - j ∧ Hid (p = P' j ∧ Below w3.heap.size w3 wr ∧ ∃ u, Bx wr nx (itv q j v) u ∧ LiesX (fun m => m ≠ nx) 16 wr (itv q j v).items u))
      case atStart => exact ⟨0, b, rfl, rfl, by omega, by omega, HP0.out.symm, hal, _, HX4.out, HL4.out⟩
      case round =>
        clear hal
        obtain ⟨j, p, rfl, rfl, hj, hg, HI⟩ := hrel
        have Hg : Hid _ := hg
        clear hg
        by_cases hlt : j < K
        · have hji : (j : Int) < (K : Int) := by omega
          obtain ⟨hp, hbr, u, hbx, hlx⟩ := HI.out
          obtain ⟨a5, c5, hck, hlk⟩ := HS3.out.known j hlt
          obtain ⟨xr, xd⟩ := it_right q HR.out.2.1 HR.out.2.2.1 j
          have HFo : Hid (Calls Try.prog 19 #[.pointer (some ⟨p, 0, none⟩), .int .i64 0] wr (KPost (itv q j v) (some ⟨P' (j + 1), 0, none⟩) 0 wr)) := by
            rw [hp]
            exact Force_known (P' j) 0 (by omega) (itv q j v) a5 c5 _ wr (hck.keeps hbr) (hlk.keeps hbr).lies xr
          have HDn : Hid (∀ (X : Nat → Prop) u V, LiesX X 16 V (itv q j v).items u → Calls Try.prog 22 #[.int .i64 (q : Int), .agg #[.int .i64 (itv q j v).kind, .int .i64 (itv q j v).num, .string (itv q j v).text, u]] V (FnPost X (itv q (j + 1) v) V)) := fun X u V h => rdone_any X q HR.out.1 (itv q j v) u V h xr
          have Hbr : Hid (Below w3.heap.size w3 wr) := hbr
          have HBX : Hid (Bx wr nx (itv q j v) u) := hbx
          have HLX : Hid (LiesX (fun m => m ≠ nx) 16 wr (itv q j v).items u) := hlx
          have e9 : IntKind.i64.wrap ((j : Int) + 1) = ((j + 1 : Nat) : Int) := by have := HN.out; rw [IntKind.wrap_i64]; omega
          clear hp hck hlk xr xd hbr hbx hlx HI
          obtain ⟨x', hx'⟩ : ∃ x', x' = itv q (j + 1) v := ⟨_, rfl⟩
          have Hx' : Hid (x' = itv q (j + 1) v) := hx'
          rw [← hx'] at HDn
          obtain ⟨p', hp'⟩ : ∃ p', p' = P' (j + 1) := ⟨_, rfl⟩
          have Hp' : Hid (p' = P' (j + 1)) := hp'
          rw [← hp'] at HFo
          clear hx' hp'
          generalize itv q j v = x at *
          obtain ⟨ax, cx, rfl, _⟩ := LiesX.slice HLX.out
          go_wp2_with fail
          refine Calls.mono HFo.out ?_
          rintro e v1 ⟨a6, c6, rfl, hg, hl6⟩
          obtain ⟨ny, hny⟩ : ∃ ny, ny = v1.heap.size := ⟨_, rfl⟩
          obtain ⟨V2, hV2⟩ : ∃ V2, V2 = v1.alloc (.cells #[.int .i64 x.kind, .int .i64 x.num, .string x.text, .slice a6 x.items.length c6] 24) := ⟨_, rfl⟩
          have HV2 : Hid (V2 = v1.alloc (.cells #[.int .i64 x.kind, .int .i64 x.num, .string x.text, .slice a6 x.items.length c6] 24)) := hV2
          have hal : Below v1.heap.size v1 V2 := by rw [hV2]; exact ((Grew.refl _).alloc _).below
          have hg2 : Below wr.heap.size wr V2 := hg.trans (hal.mono hg.size)
          have HB2 : Hid (Bx V2 nx x (.slice ax x.items.length cx)) := HBX.out.keeps hg2
          have HBy : Hid (Bx V2 ny x (.slice a6 x.items.length c6)) := by rw [hV2, hny]; exact bx_alloc _ _ _
          have HL2 : Hid (LiesX (fun m => m ≠ nx) 16 V2 x.items (.slice ax x.items.length cx)) := HLX.out.keeps hg2
          have Hb2 : Hid (Below w3.heap.size w3 V2) := Hbr.out.trans (hg2.mono Hbr.out.size)
          have HSm : Hid (Calls Try.prog 21 #[.agg #[.int .i64 x.kind, .int .i64 x.num, .string x.text, .slice a6 x.items.length c6], .agg #[.int .i64 x.kind, .int .i64 x.num, .string x.text, .slice ax x.items.length cx]] V2 fun e w' => e = .returned (.bool true) ∧ Below V2.heap.size V2 w') := (same_any 16 x x _ _ V2 (hl6.keeps hal).lies HL2.out.lies).mono fun e w' h => ⟨by rw [h.1, sameV_self], h.2.below⟩
          clear hg hl6 hal hV2 hg2 HFo HBX HLX Hbr
          go_upto_region 17 with fail
          rw [← HV2.out, ← hny]
          clear HV2 hny
          obtain ⟨y0, y1, y2, y3, _, _, _, _⟩ := HBy.out
          obtain ⟨z0, z1, z2, z3, g0, g1, g2, g3⟩ := HB2.out
          go_wp2_with fail
          refine Calls.mono HSm.out ?_
          rintro e v3 ⟨rfl, hg3⟩
          have hnl : nx < V2.heap.size := by have h9 := cell_lt z0; simpa using h9
          have HB3 : Hid (Bx v3 nx x (.slice ax x.items.length cx)) := HB2.out.keeps hg3
          have HL3 : Hid (LiesX (fun m => m ≠ nx) 16 v3 x.items (.slice ax x.items.length cx)) := HL2.out.keeps hg3
          have Hb3 : Hid (Below w3.heap.size w3 v3) := Hb2.out.trans (hg3.mono Hb2.out.size)
          clear y0 y1 y2 y3 z0 z1 z2 z3 g0 g1 g2 g3 HSm HBy HB2 HL2 Hb2 hg3 hnl
          obtain ⟨z0, z1, z2, z3, _, _, _, _⟩ := HB3.out
          have HD3 : Hid _ := HDn.out _ _ _ HL3.out
          go_wp2_with fail
          refine Calls.mono HD3.out ?_
          rintro e v4 ⟨u4, rfl, hl4, hg4⟩
          obtain ⟨a7, c7, rfl, _⟩ := LiesX.slice hl4
          have hnl : nx < v3.heap.size := by have h9 := cell_lt z0; simpa using h9
          have HB4 : Hid (Bx v4 nx x (.slice ax x.items.length cx)) := HB3.out.keeps hg4
          have hb4 : Below w3.heap.size w3 v4 := Hb3.out.trans (hg4.mono Hb3.out.size)
          have HI2 : Hid (p' = P' (j + 1) ∧ Below w3.heap.size w3 (v4.setCells nx 0 (encP (x', .slice a7 x'.items.length c7))) ∧ ∃ u, Bx (v4.setCells nx 0 (encP (x', .slice a7 x'.items.length c7))) nx (itv q (j + 1) v) u ∧ LiesX (fun m => m ≠ nx) 16 (v4.setCells nx 0 (encP (x', .slice a7 x'.items.length c7))) (itv q (j + 1) v).items u) := by
            have hle : w3.heap.size ≤ nx := by rw [Hnx.out]; exact Nat.le_refl _
            refine ⟨Hp'.out, ?_, .slice a7 x'.items.length c7, ?_, ?_⟩
            · exact ((((hb4.setCell (p := ⟨nx, 0, none⟩) hle _).setCell (p := ⟨nx, 0 + 1, none⟩) hle _).setCell (p := ⟨nx, 0 + 1 + 1, none⟩) hle _).setCell (p := ⟨nx, 0 + 1 + 1 + 1, none⟩) hle _)
            · rw [← Hx'.out]; exact HB4.out.put (x', .slice a7 x'.items.length c7)
            · rw [← Hx'.out]; exact LiesX.set (g := nx) (fun h => h rfl) (LiesX.mono (fun m hm => by rcases hm with h | h; exact h; omega) hl4)
          clear z0 z1 z2 z3
          obtain ⟨z0, z1, z2, z3, g0, g1, g2, g3⟩ := HB4.out
          clear hl4 hg4 hnl hb4 HB3 HL3 Hb3 HD3 HDn Hx' Hp'
          go_wp2_with fail
          go_roundg (K - (j + 1))
          case measure => have := Hg.out; omega
          case rel => exact ⟨j + 1, p', rfl, rfl, by omega, rfl, HI2.out⟩
        · have hji : ¬ (j : Int) < (K : Int) := by omega
          obtain rfl : j = K := by omega
          obtain ⟨hp, hbr, _, _, _⟩ := HI.out
          obtain ⟨m, z, a5, c5, _, _, _, hcz, _⟩ := HS3.out.lazy
          rw [← hp] at hcz
          have hcz := hcz.keeps hbr
          have HFo : Hid (Calls Try.prog 19 #[.pointer (some ⟨p, 0, none⟩), .int .i64 0] wr (FNil 0 220 wr)) := Force_dry p _ _ wr hcz.c0
          have HFd : Hid (∀ V, Below wr.heap.size wr V → Calls Try.prog 18 #[.pointer (some ⟨p, 0, none⟩)] V fun e w' => e = .returned (.bool false) ∧ w' = V) := fun V hV => forced_no p _ _ V (hcz.keeps hV).c0
          have Hbr : Hid (Below w.heap.size w wr) := hb3.trans (hbr.mono hb3.size)
          clear hp hbr hcz HI
          go_wp2_with fail
          refine Calls.mono HFo.out ?_
          rintro e v1 ⟨a6, c6, rfl, hg⟩
          obtain ⟨V2, hV2⟩ : ∃ V2, V2 = v1.alloc (.cells #[.int .i64 0, .int .i64 0, .string ⟨#[]⟩, .slice a6 0 c6] 24) := ⟨_, rfl⟩
          have HV2 : Hid (V2 = v1.alloc (.cells #[.int .i64 0, .int .i64 0, .string ⟨#[]⟩, .slice a6 0 c6] 24)) := hV2
          have hal : Below v1.heap.size v1 V2 := by rw [hV2]; exact ((Grew.refl _).alloc _).below
          have hg2 : Below wr.heap.size wr V2 := hg.trans (hal.mono hg.size)
          have HF2 : Hid _ := HFd.out V2 hg2
          have hbV : Below w.heap.size w V2 := Hbr.out.trans (hg2.mono Hbr.out.size)
          clear hg hal hg2 hV2 HFo HFd Hbr
          go_upto_region 22 with fail
          rw [← HV2.out]
          clear HV2
          go_wp2_with fail
          refine Calls.mono HF2.out ?_
          rintro e w9 ⟨rfl, hw9⟩
          obtain rfl : V2 = w9 := hw9.symm
          clear hw9 HF2
          go_wp2_with fail
          refine Calls.mono (HSp.out _) ?_
          rintro e wz ⟨rfl, hgz⟩
          have hbz : Below w.heap.size w wz := hbV.trans (hgz.mono hbV.size)
          clear hgz
          go_wp2_with fail
          go_ret
          exact ⟨rfl, hbz⟩
  · have hN7 : ∃ N : Nat, (7 : Int) = (N : Int) ∧ N ≤ 300 := ⟨7, rfl, by omega⟩
    by_cases h0 : n < 0
    · clear hn
      go_enter Try.func5, Try.ntmps5
      go_upto_region 3 with fail
      obtain ⟨N, h7, hN⟩ := hN7
      rw [h7]
      have HN : Hid (N ≤ 300) := hN
      clear h7 hN h0
      go_wp2_with fail
      refine Calls.mono (HIt.out _ hb0) ?_
      rintro e w1 ⟨hg1, hcase⟩
      have hb1 : Below w.heap.size w w1 := hb0.trans (hg1.mono hb0.size)
      have HBk1 : Hid (Bx w1 w.heap.size v (.slice au v.items.length cu)) := HBk.out.keeps hg1
      rcases hcase with ⟨hE, rfl⟩ | ⟨hE, a, c, b, rfl, hb, hcb, hlx⟩
      · have hne : (E != 0) = true := by simp [hE]
        clear hg1 hb0 HIt HBk HBk1 k0 k1 k2 k3
        go_wp2_with fail
        refine Calls.mono (HSp.out _) ?_
        rintro e wz ⟨rfl, hgz⟩
        have hbz : Below w.heap.size w wz := hb1.trans (hgz.mono hb1.size)
        clear hgz
        go_wp2_with fail
        go_ret
        exact ⟨rfl, hbz⟩
      · obtain ⟨hoq, hq8, hr, hl16⟩ := HRt.out hE
        have hbW := hb0.size
        have HW0s : Hid (w.heap.size < b ∧ w1.heap.size ≥ w.heap.size) := ⟨by have := HSz.out; omega, hb1.size⟩
        have hs1 : Sq (fun _ => True) w1 q v 0 (fun _ => b) := ⟨hq8, hr, Dp.of_lies 16 w v _ hl16, fun i j hi hj _ => by omega, fun _ _ => trivial, fun i hi => by omega, 0, v, a, c, by omega, rfl, hr, hcb, LiesX.mono (fun n hn => ⟨trivial, fun _ _ => hn.2⟩) hlx⟩
        have HS1 : Hid (Sq (fun _ => True) w1 q v 0 (fun _ => b)) := hs1
        have HCo : Hid (Calls Try.prog 16 #[.agg #[.int .i64 v.kind, .int .i64 v.num, .string v.text, .slice au v.items.length cu], .pointer (some ⟨b, 0, none⟩)] w1 (ConsPost v b w1)) := cons_ok v _ b w1 (Lies.keeps hb1 _ _ _ hl16) hr
        have HR : Hid (q < 8 ∧ rightV 16 v = true ∧ Dp 16 v ∧ Lies 16 w v.items (.slice au v.items.length cu)) := ⟨hq8, hr, Dp.of_lies 16 w v _ hl16, hl16⟩
        subst hoq
        have k0 := cell_keeps hg1 k0; have k1 := cell_keeps hg1 k1; have k2 := cell_keeps hg1 k2; have k3 := cell_keeps hg1 k3
        clear hg1 hb0 HIt HBk hE hb hcb hlx hs1 hq8 hr hl16 hbW HRt
        go_wp2_with fail
        refine Calls.mono HCo.out ?_
        rintro e w2 ⟨hg2, dd, a2, c2, rfl, hdd, hcd, _⟩
        have HCD : Hid (CB w2 dd .nilIface 0 v (.slice a2 v.items.length c2) (some ⟨b, 0, none⟩)) := hcd
        have HS2 : Hid (Sq (fun _ => True) w2 q v 0 (fun _ => b)) := HS1.out.keeps hg2
        have hb2 : Below w.heap.size w w2 := hb1.trans (hg2.mono hb1.size)
        have HKd : Hid (Calls Try.prog 12 #[.pointer (some ⟨dd, 0, none⟩)] w2 fun e w' => e = .returned (.int .i64 1) ∧ w' = w2) := HS2.out.len1 hcd.c6
        have HAh : Hid (Calls Try.prog 10 #[.pointer (some ⟨b, 0, none⟩), .int .i64 (N : Int), .int .i64 (N : Int)] w2 (APost (fun _ => True) q v 0 (fun _ => b) N N w2)) := ahead_any (fun _ => True) q v 0 (fun _ => b) N N (by have := HN.out; omega) (by have := HN.out; omega) w2 HS2.out (fun _ _ => trivial)
        have HBk2 : Hid (Bx w2 w.heap.size v (.slice au v.items.length cu)) := HBk1.out.keeps hg2
        have Hbd : Hid (w1.heap.size ≤ dd ∧ b < w1.heap.size) := ⟨hdd, HS1.out.lt 0 (Nat.le_refl _)⟩
        clear hg2 hdd hcd hb1 HCo HS1 HBk1 k0 k1 k2 k3
        go_wp2_with fail
        refine Calls.mono HKd.out ?_
        rintro e w9 ⟨rfl, hw9⟩
        obtain rfl : w2 = w9 := hw9.symm
        clear hw9 HKd
        go_wp2_with fail
        refine Calls.mono HAh.out ?_
        rintro e w3 ⟨K, P', hP, _, hs3, hkc, hcase⟩
        have hN3 := HN.out
        obtain ⟨hK, rfl⟩ : K = N ∧ e = .returned (.tuple #[.int .i64 0, .int .i64 0]) := by
          rcases hcase with ⟨h1, h2, h3⟩ | ⟨h1, _⟩
          · have hKN : K = N := by omega
            refine ⟨hKN, ?_⟩
            rw [h3, hKN]
            simp
          · omega
        subst hK
        have hP0 : P' 0 = b := hP 0 (Nat.le_refl _)
        have hbb := Hbd.out
        have hww := HW0s.out
        have hb3 : Below w.heap.size w w3 := hb2.trans (hkc.below (fun j hj hh => by obtain ⟨i, _, e⟩ := hh; have e : j = b := e; omega) hb2.size)
        have HKc : Hid (Calls Try.prog 12 #[.pointer (some ⟨b, 0, none⟩)] w3 fun e w' => e = .returned (.int .i64 (K : Int)) ∧ w' = w3) := by
          have h9 := hs3.len
          rw [hP0, show min K 65536 = K by omega] at h9
          exact h9
        have HKd : Hid (Calls Try.prog 12 #[.pointer (some ⟨dd, 0, none⟩)] w3 fun e w' => e = .returned (.int .i64 ((K : Int) + 1)) ∧ w' = w3) := by
          have h9 := hs3.len1 (d := dd) (by rw [hP0]; exact hkc.cell (fun hh => by obtain ⟨i, _, e⟩ := hh; simp only at e; omega) HCD.out.c6)
          rw [show min (K + 1) 65536 = K + 1 by omega] at h9
          exact h9
        have HBk3 : Hid (Bx w3 w.heap.size v (.slice au v.items.length cu)) := hkc.bx (fun hh => by obtain ⟨i, _, e⟩ := hh; have e : w.heap.size = b := e; omega) HBk2.out
        have HS3 : Hid (Sq (fun _ => True) w3 q v K P') := hs3
        have HP0 : Hid (P' 0 = b) := hP0
        have e1 : ((K : Int) != (K : Int)) = false := by simp
        have e2 : ((K : Int) + 1 != (K : Int) + 1) = false := by simp
        have e3 : IntKind.i64.wrap ((K : Int) + 1) = (K : Int) + 1 := by rw [IntKind.wrap_i64]; omega
        clear hP hs3 hkc hcase hN3 hP0 hbb hww hb2 HAh HS2 HCD HBk2 Hbd HW0s
        go_wp2_with fail
        refine Calls.mono HKc.out ?_
        rintro e w9 ⟨rfl, hw9⟩
        obtain rfl : w3 = w9 := hw9.symm
        clear hw9 HKc
        go_wp2_with fail
        refine Calls.mono HKd.out ?_
        rintro e w9 ⟨rfl, hw9⟩
        obtain rfl : w3 = w9 := hw9.symm
        clear hw9 HKd
        obtain ⟨k0, k1, k2, k3, _, _, _, _⟩ := HBk3.out
        obtain ⟨nx, hnx⟩ : ∃ nx, nx = w3.heap.size := ⟨_, rfl⟩
        obtain ⟨W4, hW4⟩ : ∃ W4, W4 = w3.alloc (.cells #[.int .i64 v.kind, .int .i64 v.num, .string v.text, .slice au v.items.length cu] 24) := ⟨_, rfl⟩
        have HW4 : Hid (W4 = w3.alloc (.cells #[.int .i64 v.kind, .int .i64 v.num, .string v.text, .slice au v.items.length cu] 24)) := hW4
        have hal : Below w3.heap.size w3 W4 := by rw [hW4]; exact ((Grew.refl _).alloc _).below
        have HX4 : Hid (Bx W4 nx v (.slice au v.items.length cu)) := by rw [hW4, hnx]; exact bx_alloc _ _ _
        have HL4 : Hid (LiesX (fun m => m ≠ nx) 16 W4 v.items (.slice au v.items.length cu)) := LiesX.mono (fun n hn => by omega) ((LiesX.of_lies (Lies.keeps hb3 _ _ _ HR.out.2.2.2)).keeps hal)
        have Hnx : Hid (nx = w3.heap.size) := hnx
        clear hW4
        go_upto_region 13 with fail
        rw [← HW4.out, ← hnx]
        clear HW4 hnx k0 k1 k2 k3 HBk3 e1 e2 e3
        go_wp2_with fail
        go_loopg [7, 14] K (fun g cc ii wr => ∃ (j p : Nat), ii = .int .i64 (j : Int) ∧ cc = .pointer (some ⟨p, 0, none⟩) ∧ j ≤ K ∧ g = K - j ∧ Hid (p = P' j ∧ Below w3.heap.size w3 wr ∧ ∃ u, Bx wr nx (itv q j v) u ∧ LiesX (fun m => m ≠ nx) 16 wr (itv q j v).items u))
        case atStart => exact ⟨0, b, rfl, rfl, by omega, by omega, HP0.out.symm, hal, _, HX4.out, HL4.out⟩
        case round =>
          clear hal
          obtain ⟨j, p, rfl, rfl, hj, hg, HI⟩ := hrel
          have Hg : Hid _ := hg
          clear hg
          by_cases hlt : j < K
          · have hji : (j : Int) < (K : Int) := by omega
            obtain ⟨hp, hbr, u, hbx, hlx⟩ := HI.out
            obtain ⟨a5, c5, hck, hlk⟩ := HS3.out.known j hlt
            obtain ⟨xr, xd⟩ := it_right q HR.out.2.1 HR.out.2.2.1 j
            have HFo : Hid (Calls Try.prog 19 #[.pointer (some ⟨p, 0, none⟩), .int .i64 0] wr (KPost (itv q j v) (some ⟨P' (j + 1), 0, none⟩) 0 wr)) := by
              rw [hp]
              exact Force_known (P' j) 0 (by omega) (itv q j v) a5 c5 _ wr (hck.keeps hbr) (hlk.keeps hbr).lies xr
            have HDn : Hid (∀ (X : Nat → Prop) u V, LiesX X 16 V (itv q j v).items u → Calls Try.prog 22 #[.int .i64 (q : Int), .agg #[.int .i64 (itv q j v).kind, .int .i64 (itv q j v).num, .string (itv q j v).text, u]] V (FnPost X (itv q (j + 1) v) V)) := fun X u V h => rdone_any X q HR.out.1 (itv q j v) u V h xr
            have Hbr : Hid (Below w3.heap.size w3 wr) := hbr
            have HBX : Hid (Bx wr nx (itv q j v) u) := hbx
            have HLX : Hid (LiesX (fun m => m ≠ nx) 16 wr (itv q j v).items u) := hlx
            have e9 : IntKind.i64.wrap ((j : Int) + 1) = ((j + 1 : Nat) : Int) := by have := HN.out; rw [IntKind.wrap_i64]; omega
            clear hp hck hlk xr xd hbr hbx hlx HI
            obtain ⟨x', hx'⟩ : ∃ x', x' = itv q (j + 1) v := ⟨_, rfl⟩
            have Hx' : Hid (x' = itv q (j + 1) v) := hx'
            rw [← hx'] at HDn
            obtain ⟨p', hp'⟩ : ∃ p', p' = P' (j + 1) := ⟨_, rfl⟩
            have Hp' : Hid (p' = P' (j + 1)) := hp'
            rw [← hp'] at HFo
            clear hx' hp'
            generalize itv q j v = x at *
            obtain ⟨ax, cx, rfl, _⟩ := LiesX.slice HLX.out
            go_wp2_with fail
            refine Calls.mono HFo.out ?_
            rintro e v1 ⟨a6, c6, rfl, hg, hl6⟩
            obtain ⟨ny, hny⟩ : ∃ ny, ny = v1.heap.size := ⟨_, rfl⟩
            obtain ⟨V2, hV2⟩ : ∃ V2, V2 = v1.alloc (.cells #[.int .i64 x.kind, .int .i64 x.num, .string x.text, .slice a6 x.items.length c6] 24) := ⟨_, rfl⟩
            have HV2 : Hid (V2 = v1.alloc (.cells #[.int .i64 x.kind, .int .i64 x.num, .string x.text, .slice a6 x.items.length c6] 24)) := hV2
            have hal : Below v1.heap.size v1 V2 := by rw [hV2]; exact ((Grew.refl _).alloc _).below
            have hg2 : Below wr.heap.size wr V2 := hg.trans (hal.mono hg.size)
            have HB2 : Hid (Bx V2 nx x (.slice ax x.items.length cx)) := HBX.out.keeps hg2
            have HBy : Hid (Bx V2 ny x (.slice a6 x.items.length c6)) := by rw [hV2, hny]; exact bx_alloc _ _ _
            have HL2 : Hid (LiesX (fun m => m ≠ nx) 16 V2 x.items (.slice ax x.items.length cx)) := HLX.out.keeps hg2
            have Hb2 : Hid (Below w3.heap.size w3 V2) := Hbr.out.trans (hg2.mono Hbr.out.size)
            have HSm : Hid (Calls Try.prog 21 #[.agg #[.int .i64 x.kind, .int .i64 x.num, .string x.text, .slice a6 x.items.length c6], .agg #[.int .i64 x.kind, .int .i64 x.num, .string x.text, .slice ax x.items.length cx]] V2 fun e w' => e = .returned (.bool true) ∧ Below V2.heap.size V2 w') := (same_any 16 x x _ _ V2 (hl6.keeps hal).lies HL2.out.lies).mono fun e w' h => ⟨by rw [h.1, sameV_self], h.2.below⟩
            clear hg hl6 hal hV2 hg2 HFo HBX HLX Hbr
            go_upto_region 17 with fail
            rw [← HV2.out, ← hny]
            clear HV2 hny
            obtain ⟨y0, y1, y2, y3, _, _, _, _⟩ := HBy.out
            obtain ⟨z0, z1, z2, z3, g0, g1, g2, g3⟩ := HB2.out
            go_wp2_with fail
            refine Calls.mono HSm.out ?_
            rintro e v3 ⟨rfl, hg3⟩
            have hnl : nx < V2.heap.size := by have h9 := cell_lt z0; simpa using h9
            have HB3 : Hid (Bx v3 nx x (.slice ax x.items.length cx)) := HB2.out.keeps hg3
            have HL3 : Hid (LiesX (fun m => m ≠ nx) 16 v3 x.items (.slice ax x.items.length cx)) := HL2.out.keeps hg3
            have Hb3 : Hid (Below w3.heap.size w3 v3) := Hb2.out.trans (hg3.mono Hb2.out.size)
            clear y0 y1 y2 y3 z0 z1 z2 z3 g0 g1 g2 g3 HSm HBy HB2 HL2 Hb2 hg3 hnl
            obtain ⟨z0, z1, z2, z3, _, _, _, _⟩ := HB3.out
            have HD3 : Hid _ := HDn.out _ _ _ HL3.out
            go_wp2_with fail
            refine Calls.mono HD3.out ?_
            rintro e v4 ⟨u4, rfl, hl4, hg4⟩
            obtain ⟨a7, c7, rfl, _⟩ := LiesX.slice hl4
            have hnl : nx < v3.heap.size := by have h9 := cell_lt z0; simpa using h9
            have HB4 : Hid (Bx v4 nx x (.slice ax x.items.length cx)) := HB3.out.keeps hg4
            have hb4 : Below w3.heap.size w3 v4 := Hb3.out.trans (hg4.mono Hb3.out.size)
            have HI2 : Hid (p' = P' (j + 1) ∧ Below w3.heap.size w3 (v4.setCells nx 0 (encP (x', .slice a7 x'.items.length c7))) ∧ ∃ u, Bx (v4.setCells nx 0 (encP (x', .slice a7 x'.items.length c7))) nx (itv q (j + 1) v) u ∧ LiesX (fun m => m ≠ nx) 16 (v4.setCells nx 0 (encP (x', .slice a7 x'.items.length c7))) (itv q (j + 1) v).items u) := by
              have hle : w3.heap.size ≤ nx := by rw [Hnx.out]; exact Nat.le_refl _
              refine ⟨Hp'.out, ?_, .slice a7 x'.items.length c7, ?_, ?_⟩
              · exact ((((hb4.setCell (p := ⟨nx, 0, none⟩) hle _).setCell (p := ⟨nx, 0 + 1, none⟩) hle _).setCell (p := ⟨nx, 0 + 1 + 1, none⟩) hle _).setCell (p := ⟨nx, 0 + 1 + 1 + 1, none⟩) hle _)
              · rw [← Hx'.out]; exact HB4.out.put (x', .slice a7 x'.items.length c7)
              · rw [← Hx'.out]; exact LiesX.set (g := nx) (fun h => h rfl) (LiesX.mono (fun m hm => by rcases hm with h | h; exact h; omega) hl4)
            clear z0 z1 z2 z3
            obtain ⟨z0, z1, z2, z3, g0, g1, g2, g3⟩ := HB4.out
            clear hl4 hg4 hnl hb4 HB3 HL3 Hb3 HD3 HDn Hx' Hp'
            go_wp2_with fail
            go_roundg (K - (j + 1))
            case measure => have := Hg.out; omega
            case rel => exact ⟨j + 1, p', rfl, rfl, by omega, rfl, HI2.out⟩
          · have hji : ¬ (j : Int) < (K : Int) := by omega
            obtain rfl : j = K := by omega
            obtain ⟨hp, hbr, _, _, _⟩ := HI.out
            obtain ⟨m, z, a5, c5, _, _, _, hcz, _⟩ := HS3.out.lazy
            rw [← hp] at hcz
            have hcz := hcz.keeps hbr
            have HFo : Hid (Calls Try.prog 19 #[.pointer (some ⟨p, 0, none⟩), .int .i64 0] wr (FNil 0 220 wr)) := Force_dry p _ _ wr hcz.c0
            have HFd : Hid (∀ V, Below wr.heap.size wr V → Calls Try.prog 18 #[.pointer (some ⟨p, 0, none⟩)] V fun e w' => e = .returned (.bool false) ∧ w' = V) := fun V hV => forced_no p _ _ V (hcz.keeps hV).c0
            have Hbr : Hid (Below w.heap.size w wr) := hb3.trans (hbr.mono hb3.size)
            clear hp hbr hcz HI
            go_wp2_with fail
            refine Calls.mono HFo.out ?_
            rintro e v1 ⟨a6, c6, rfl, hg⟩
            obtain ⟨V2, hV2⟩ : ∃ V2, V2 = v1.alloc (.cells #[.int .i64 0, .int .i64 0, .string ⟨#[]⟩, .slice a6 0 c6] 24) := ⟨_, rfl⟩
            have HV2 : Hid (V2 = v1.alloc (.cells #[.int .i64 0, .int .i64 0, .string ⟨#[]⟩, .slice a6 0 c6] 24)) := hV2
            have hal : Below v1.heap.size v1 V2 := by rw [hV2]; exact ((Grew.refl _).alloc _).below
            have hg2 : Below wr.heap.size wr V2 := hg.trans (hal.mono hg.size)
            have HF2 : Hid _ := HFd.out V2 hg2
            have hbV : Below w.heap.size w V2 := Hbr.out.trans (hg2.mono Hbr.out.size)
            clear hg hal hg2 hV2 HFo HFd Hbr
            go_upto_region 22 with fail
            rw [← HV2.out]
            clear HV2
            go_wp2_with fail
            refine Calls.mono HF2.out ?_
            rintro e w9 ⟨rfl, hw9⟩
            obtain rfl : V2 = w9 := hw9.symm
            clear hw9 HF2
            go_wp2_with fail
            refine Calls.mono (HSp.out _) ?_
            rintro e wz ⟨rfl, hgz⟩
            have hbz : Below w.heap.size w wz := hbV.trans (hgz.mono hbV.size)
            clear hgz
            go_wp2_with fail
            go_ret
            exact ⟨rfl, hbz⟩
    · have h1 : (300 : Int) < n := by omega
      clear hn
      go_enter Try.func5, Try.ntmps5
      go_upto_region 3 with fail
      obtain ⟨N, h7, hN⟩ := hN7
      rw [h7]
      have HN : Hid (N ≤ 300) := hN
      clear h7 hN h0 h1
      go_wp2_with fail
      refine Calls.mono (HIt.out _ hb0) ?_
      rintro e w1 ⟨hg1, hcase⟩
      have hb1 : Below w.heap.size w w1 := hb0.trans (hg1.mono hb0.size)
      have HBk1 : Hid (Bx w1 w.heap.size v (.slice au v.items.length cu)) := HBk.out.keeps hg1
      rcases hcase with ⟨hE, rfl⟩ | ⟨hE, a, c, b, rfl, hb, hcb, hlx⟩
      · have hne : (E != 0) = true := by simp [hE]
        clear hg1 hb0 HIt HBk HBk1 k0 k1 k2 k3
        go_wp2_with fail
        refine Calls.mono (HSp.out _) ?_
        rintro e wz ⟨rfl, hgz⟩
        have hbz : Below w.heap.size w wz := hb1.trans (hgz.mono hb1.size)
        clear hgz
        go_wp2_with fail
        go_ret
        exact ⟨rfl, hbz⟩
      · obtain ⟨hoq, hq8, hr, hl16⟩ := HRt.out hE
        have hbW := hb0.size
        have HW0s : Hid (w.heap.size < b ∧ w1.heap.size ≥ w.heap.size) := ⟨by have := HSz.out; omega, hb1.size⟩
        have hs1 : Sq (fun _ => True) w1 q v 0 (fun _ => b) := ⟨hq8, hr, Dp.of_lies 16 w v _ hl16, fun i j hi hj _ => by omega, fun _ _ => trivial, fun i hi => by omega, 0, v, a, c, by omega, rfl, hr, hcb, LiesX.mono (fun n hn => ⟨trivial, fun _ _ => hn.2⟩) hlx⟩
        have HS1 : Hid (Sq (fun _ => True) w1 q v 0 (fun _ => b)) := hs1
        have HCo : Hid (Calls Try.prog 16 #[.agg #[.int .i64 v.kind, .int .i64 v.num, .string v.text, .slice au v.items.length cu], .pointer (some ⟨b, 0, none⟩)] w1 (ConsPost v b w1)) := cons_ok v _ b w1 (Lies.keeps hb1 _ _ _ hl16) hr
        have HR : Hid (q < 8 ∧ rightV 16 v = true ∧ Dp 16 v ∧ Lies 16 w v.items (.slice au v.items.length cu)) := ⟨hq8, hr, Dp.of_lies 16 w v _ hl16, hl16⟩
        subst hoq
        have k0 := cell_keeps hg1 k0; have k1 := cell_keeps hg1 k1; have k2 := cell_keeps hg1 k2; have k3 := cell_keeps hg1 k3
        clear hg1 hb0 HIt HBk hE hb hcb hlx hs1 hq8 hr hl16 hbW HRt
        go_wp2_with fail
        refine Calls.mono HCo.out ?_
        rintro e w2 ⟨hg2, dd, a2, c2, rfl, hdd, hcd, _⟩
        have HCD : Hid (CB w2 dd .nilIface 0 v (.slice a2 v.items.length c2) (some ⟨b, 0, none⟩)) := hcd
        have HS2 : Hid (Sq (fun _ => True) w2 q v 0 (fun _ => b)) := HS1.out.keeps hg2
        have hb2 : Below w.heap.size w w2 := hb1.trans (hg2.mono hb1.size)
        have HKd : Hid (Calls Try.prog 12 #[.pointer (some ⟨dd, 0, none⟩)] w2 fun e w' => e = .returned (.int .i64 1) ∧ w' = w2) := HS2.out.len1 hcd.c6
        have HAh : Hid (Calls Try.prog 10 #[.pointer (some ⟨b, 0, none⟩), .int .i64 (N : Int), .int .i64 (N : Int)] w2 (APost (fun _ => True) q v 0 (fun _ => b) N N w2)) := ahead_any (fun _ => True) q v 0 (fun _ => b) N N (by have := HN.out; omega) (by have := HN.out; omega) w2 HS2.out (fun _ _ => trivial)
        have HBk2 : Hid (Bx w2 w.heap.size v (.slice au v.items.length cu)) := HBk1.out.keeps hg2
        have Hbd : Hid (w1.heap.size ≤ dd ∧ b < w1.heap.size) := ⟨hdd, HS1.out.lt 0 (Nat.le_refl _)⟩
        clear hg2 hdd hcd hb1 HCo HS1 HBk1 k0 k1 k2 k3
        go_wp2_with fail
        refine Calls.mono HKd.out ?_
        rintro e w9 ⟨rfl, hw9⟩
        obtain rfl : w2 = w9 := hw9.symm
        clear hw9 HKd
        go_wp2_with fail
        refine Calls.mono HAh.out ?_
        rintro e w3 ⟨K, P', hP, _, hs3, hkc, hcase⟩
        have hN3 := HN.out
        obtain ⟨hK, rfl⟩ : K = N ∧ e = .returned (.tuple #[.int .i64 0, .int .i64 0]) := by
          rcases hcase with ⟨h1, h2, h3⟩ | ⟨h1, _⟩
          · have hKN : K = N := by omega
            refine ⟨hKN, ?_⟩
            rw [h3, hKN]
            simp
          · omega
        subst hK
        have hP0 : P' 0 = b := hP 0 (Nat.le_refl _)
        have hbb := Hbd.out
        have hww := HW0s.out
        have hb3 : Below w.heap.size w w3 := hb2.trans (hkc.below (fun j hj hh => by obtain ⟨i, _, e⟩ := hh; have e : j = b := e; omega) hb2.size)
        have HKc : Hid (Calls Try.prog 12 #[.pointer (some ⟨b, 0, none⟩)] w3 fun e w' => e = .returned (.int .i64 (K : Int)) ∧ w' = w3) := by
          have h9 := hs3.len
          rw [hP0, show min K 65536 = K by omega] at h9
          exact h9
        have HKd : Hid (Calls Try.prog 12 #[.pointer (some ⟨dd, 0, none⟩)] w3 fun e w' => e = .returned (.int .i64 ((K : Int) + 1)) ∧ w' = w3) := by
          have h9 := hs3.len1 (d := dd) (by rw [hP0]; exact hkc.cell (fun hh => by obtain ⟨i, _, e⟩ := hh; simp only at e; omega) HCD.out.c6)
          rw [show min (K + 1) 65536 = K + 1 by omega] at h9
          exact h9
        have HBk3 : Hid (Bx w3 w.heap.size v (.slice au v.items.length cu)) := hkc.bx (fun hh => by obtain ⟨i, _, e⟩ := hh; have e : w.heap.size = b := e; omega) HBk2.out
        have HS3 : Hid (Sq (fun _ => True) w3 q v K P') := hs3
        have HP0 : Hid (P' 0 = b) := hP0
        have e1 : ((K : Int) != (K : Int)) = false := by simp
        have e2 : ((K : Int) + 1 != (K : Int) + 1) = false := by simp
        have e3 : IntKind.i64.wrap ((K : Int) + 1) = (K : Int) + 1 := by rw [IntKind.wrap_i64]; omega
        clear hP hs3 hkc hcase hN3 hP0 hbb hww hb2 HAh HS2 HCD HBk2 Hbd HW0s
        go_wp2_with fail
        refine Calls.mono HKc.out ?_
        rintro e w9 ⟨rfl, hw9⟩
        obtain rfl : w3 = w9 := hw9.symm
        clear hw9 HKc
        go_wp2_with fail
        refine Calls.mono HKd.out ?_
        rintro e w9 ⟨rfl, hw9⟩
        obtain rfl : w3 = w9 := hw9.symm
        clear hw9 HKd
        obtain ⟨k0, k1, k2, k3, _, _, _, _⟩ := HBk3.out
        obtain ⟨nx, hnx⟩ : ∃ nx, nx = w3.heap.size := ⟨_, rfl⟩
        obtain ⟨W4, hW4⟩ : ∃ W4, W4 = w3.alloc (.cells #[.int .i64 v.kind, .int .i64 v.num, .string v.text, .slice au v.items.length cu] 24) := ⟨_, rfl⟩
        have HW4 : Hid (W4 = w3.alloc (.cells #[.int .i64 v.kind, .int .i64 v.num, .string v.text, .slice au v.items.length cu] 24)) := hW4
        have hal : Below w3.heap.size w3 W4 := by rw [hW4]; exact ((Grew.refl _).alloc _).below
        have HX4 : Hid (Bx W4 nx v (.slice au v.items.length cu)) := by rw [hW4, hnx]; exact bx_alloc _ _ _
        have HL4 : Hid (LiesX (fun m => m ≠ nx) 16 W4 v.items (.slice au v.items.length cu)) := LiesX.mono (fun n hn => by omega) ((LiesX.of_lies (Lies.keeps hb3 _ _ _ HR.out.2.2.2)).keeps hal)
        have Hnx : Hid (nx = w3.heap.size) := hnx
        clear hW4
        go_upto_region 13 with fail
        rw [← HW4.out, ← hnx]
        clear HW4 hnx k0 k1 k2 k3 HBk3 e1 e2 e3
        go_wp2_with fail
        go_loopg [7, 14] K (fun g cc ii wr => ∃ (j p : Nat), ii = .int .i64 (j : Int) ∧ cc = .pointer (some ⟨p, 0, none⟩) ∧ j ≤ K ∧ g = K - j ∧ Hid (p = P' j ∧ Below w3.heap.size w3 wr ∧ ∃ u, Bx wr nx (itv q j v) u ∧ LiesX (fun m => m ≠ nx) 16 wr (itv q j v).items u))
        case atStart => exact ⟨0, b, rfl, rfl, by omega, by omega, HP0.out.symm, hal, _, HX4.out, HL4.out⟩
        case round =>
          clear hal
          obtain ⟨j, p, rfl, rfl, hj, hg, HI⟩ := hrel
          have Hg : Hid _ := hg
          clear hg
          by_cases hlt : j < K
          · have hji : (j : Int) < (K : Int) := by omega
            obtain ⟨hp, hbr, u, hbx, hlx⟩ := HI.out
            obtain ⟨a5, c5, hck, hlk⟩ := HS3.out.known j hlt
            obtain ⟨xr, xd⟩ := it_right q HR.out.2.1 HR.out.2.2.1 j
            have HFo : Hid (Calls Try.prog 19 #[.pointer (some ⟨p, 0, none⟩), .int .i64 0] wr (KPost (itv q j v) (some ⟨P' (j + 1), 0, none⟩) 0 wr)) := by
              rw [hp]
              exact Force_known (P' j) 0 (by omega) (itv q j v) a5 c5 _ wr (hck.keeps hbr) (hlk.keeps hbr).lies xr
            have HDn : Hid (∀ (X : Nat → Prop) u V, LiesX X 16 V (itv q j v).items u → Calls Try.prog 22 #[.int .i64 (q : Int), .agg #[.int .i64 (itv q j v).kind, .int .i64 (itv q j v).num, .string (itv q j v).text, u]] V (FnPost X (itv q (j + 1) v) V)) := fun X u V h => rdone_any X q HR.out.1 (itv q j v) u V h xr
            have Hbr : Hid (Below w3.heap.size w3 wr) := hbr
            have HBX : Hid (Bx wr nx (itv q j v) u) := hbx
            have HLX : Hid (LiesX (fun m => m ≠ nx) 16 wr (itv q j v).items u) := hlx
            have e9 : IntKind.i64.wrap ((j : Int) + 1) = ((j + 1 : Nat) : Int) := by have := HN.out; rw [IntKind.wrap_i64]; omega
            clear hp hck hlk xr xd hbr hbx hlx HI
            obtain ⟨x', hx'⟩ : ∃ x', x' = itv q (j + 1) v := ⟨_, rfl⟩
            have Hx' : Hid (x' = itv q (j + 1) v) := hx'
            rw [← hx'] at HDn
            obtain ⟨p', hp'⟩ : ∃ p', p' = P' (j + 1) := ⟨_, rfl⟩
            have Hp' : Hid (p' = P' (j + 1)) := hp'
            rw [← hp'] at HFo
            clear hx' hp'
            generalize itv q j v = x at *
            obtain ⟨ax, cx, rfl, _⟩ := LiesX.slice HLX.out
            go_wp2_with fail
            refine Calls.mono HFo.out ?_
            rintro e v1 ⟨a6, c6, rfl, hg, hl6⟩
            obtain ⟨ny, hny⟩ : ∃ ny, ny = v1.heap.size := ⟨_, rfl⟩
            obtain ⟨V2, hV2⟩ : ∃ V2, V2 = v1.alloc (.cells #[.int .i64 x.kind, .int .i64 x.num, .string x.text, .slice a6 x.items.length c6] 24) := ⟨_, rfl⟩
            have HV2 : Hid (V2 = v1.alloc (.cells #[.int .i64 x.kind, .int .i64 x.num, .string x.text, .slice a6 x.items.length c6] 24)) := hV2
            have hal : Below v1.heap.size v1 V2 := by rw [hV2]; exact ((Grew.refl _).alloc _).below
            have hg2 : Below wr.heap.size wr V2 := hg.trans (hal.mono hg.size)
            have HB2 : Hid (Bx V2 nx x (.slice ax x.items.length cx)) := HBX.out.keeps hg2
            have HBy : Hid (Bx V2 ny x (.slice a6 x.items.length c6)) := by rw [hV2, hny]; exact bx_alloc _ _ _
            have HL2 : Hid (LiesX (fun m => m ≠ nx) 16 V2 x.items (.slice ax x.items.length cx)) := HLX.out.keeps hg2
            have Hb2 : Hid (Below w3.heap.size w3 V2) := Hbr.out.trans (hg2.mono Hbr.out.size)
            have HSm : Hid (Calls Try.prog 21 #[.agg #[.int .i64 x.kind, .int .i64 x.num, .string x.text, .slice a6 x.items.length c6], .agg #[.int .i64 x.kind, .int .i64 x.num, .string x.text, .slice ax x.items.length cx]] V2 fun e w' => e = .returned (.bool true) ∧ Below V2.heap.size V2 w') := (same_any 16 x x _ _ V2 (hl6.keeps hal).lies HL2.out.lies).mono fun e w' h => ⟨by rw [h.1, sameV_self], h.2.below⟩
            clear hg hl6 hal hV2 hg2 HFo HBX HLX Hbr
            go_upto_region 17 with fail
            rw [← HV2.out, ← hny]
            clear HV2 hny
            obtain ⟨y0, y1, y2, y3, _, _, _, _⟩ := HBy.out
            obtain ⟨z0, z1, z2, z3, g0, g1, g2, g3⟩ := HB2.out
            go_wp2_with fail
            refine Calls.mono HSm.out ?_
            rintro e v3 ⟨rfl, hg3⟩
            have hnl : nx < V2.heap.size := by have h9 := cell_lt z0; simpa using h9
            have HB3 : Hid (Bx v3 nx x (.slice ax x.items.length cx)) := HB2.out.keeps hg3
            have HL3 : Hid (LiesX (fun m => m ≠ nx) 16 v3 x.items (.slice ax x.items.length cx)) := HL2.out.keeps hg3
            have Hb3 : Hid (Below w3.heap.size w3 v3) := Hb2.out.trans (hg3.mono Hb2.out.size)
            clear y0 y1 y2 y3 z0 z1 z2 z3 g0 g1 g2 g3 HSm HBy HB2 HL2 Hb2 hg3 hnl
            obtain ⟨z0, z1, z2, z3, _, _, _, _⟩ := HB3.out
            have HD3 : Hid _ := HDn.out _ _ _ HL3.out
            go_wp2_with fail
            refine Calls.mono HD3.out ?_
            rintro e v4 ⟨u4, rfl, hl4, hg4⟩
            obtain ⟨a7, c7, rfl, _⟩ := LiesX.slice hl4
            have hnl : nx < v3.heap.size := by have h9 := cell_lt z0; simpa using h9
            have HB4 : Hid (Bx v4 nx x (.slice ax x.items.length cx)) := HB3.out.keeps hg4
            have hb4 : Below w3.heap.size w3 v4 := Hb3.out.trans (hg4.mono Hb3.out.size)
            have HI2 : Hid (p' = P' (j + 1) ∧ Below w3.heap.size w3 (v4.setCells nx 0 (encP (x', .slice a7 x'.items.length c7))) ∧ ∃ u, Bx (v4.setCells nx 0 (encP (x', .slice a7 x'.items.length c7))) nx (itv q (j + 1) v) u ∧ LiesX (fun m => m ≠ nx) 16 (v4.setCells nx 0 (encP (x', .slice a7 x'.items.length c7))) (itv q (j + 1) v).items u) := by
              have hle : w3.heap.size ≤ nx := by rw [Hnx.out]; exact Nat.le_refl _
              refine ⟨Hp'.out, ?_, .slice a7 x'.items.length c7, ?_, ?_⟩
              · exact ((((hb4.setCell (p := ⟨nx, 0, none⟩) hle _).setCell (p := ⟨nx, 0 + 1, none⟩) hle _).setCell (p := ⟨nx, 0 + 1 + 1, none⟩) hle _).setCell (p := ⟨nx, 0 + 1 + 1 + 1, none⟩) hle _)
              · rw [← Hx'.out]; exact HB4.out.put (x', .slice a7 x'.items.length c7)
              · rw [← Hx'.out]; exact LiesX.set (g := nx) (fun h => h rfl) (LiesX.mono (fun m hm => by rcases hm with h | h; exact h; omega) hl4)
            clear z0 z1 z2 z3
            obtain ⟨z0, z1, z2, z3, g0, g1, g2, g3⟩ := HB4.out
            clear hl4 hg4 hnl hb4 HB3 HL3 Hb3 HD3 HDn Hx' Hp'
            go_wp2_with fail
            go_roundg (K - (j + 1))
            case measure => have := Hg.out; omega
            case rel => exact ⟨j + 1, p', rfl, rfl, by omega, rfl, HI2.out⟩
          · have hji : ¬ (j : Int) < (K : Int) := by omega
            obtain rfl : j = K := by omega
            obtain ⟨hp, hbr, _, _, _⟩ := HI.out
            obtain ⟨m, z, a5, c5, _, _, _, hcz, _⟩ := HS3.out.lazy
            rw [← hp] at hcz
            have hcz := hcz.keeps hbr
            have HFo : Hid (Calls Try.prog 19 #[.pointer (some ⟨p, 0, none⟩), .int .i64 0] wr (FNil 0 220 wr)) := Force_dry p _ _ wr hcz.c0
            have HFd : Hid (∀ V, Below wr.heap.size wr V → Calls Try.prog 18 #[.pointer (some ⟨p, 0, none⟩)] V fun e w' => e = .returned (.bool false) ∧ w' = V) := fun V hV => forced_no p _ _ V (hcz.keeps hV).c0
            have Hbr : Hid (Below w.heap.size w wr) := hb3.trans (hbr.mono hb3.size)
            clear hp hbr hcz HI
            go_wp2_with fail
            refine Calls.mono HFo.out ?_
            rintro e v1 ⟨a6, c6, rfl, hg⟩
            obtain ⟨V2, hV2⟩ : ∃ V2, V2 = v1.alloc (.cells #[.int .i64 0, .int .i64 0, .string ⟨#[]⟩, .slice a6 0 c6] 24) := ⟨_, rfl⟩
            have HV2 : Hid (V2 = v1.alloc (.cells #[.int .i64 0, .int .i64 0, .string ⟨#[]⟩, .slice a6 0 c6] 24)) := hV2
            have hal : Below v1.heap.size v1 V2 := by rw [hV2]; exact ((Grew.refl _).alloc _).below
            have hg2 : Below wr.heap.size wr V2 := hg.trans (hal.mono hg.size)
            have HF2 : Hid _ := HFd.out V2 hg2
            have hbV : Below w.heap.size w V2 := Hbr.out.trans (hg2.mono Hbr.out.size)
            clear hg hal hg2 hV2 HFo HFd Hbr
            go_upto_region 22 with fail
            rw [← HV2.out]
            clear HV2
            go_wp2_with fail
            refine Calls.mono HF2.out ?_
            rintro e w9 ⟨rfl, hw9⟩
            obtain rfl : V2 = w9 := hw9.symm
            clear hw9 HF2
            go_wp2_with fail
            refine Calls.mono (HSp.out _) ?_
            rintro e wz ⟨rfl, hgz⟩
            have hbz : Below w.heap.size w wz := hbV.trans (hgz.mono hbV.size)
            clear hgz
            go_wp2_with fail
            go_ret
            exact ⟨rfl, hbz⟩

end Go.Proofs.Ytmmppmioackiaab

