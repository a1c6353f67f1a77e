/-
  RrbSteps.
-/
import Derived.Test.YtpnfmcmhcjekfaaStepsP
namespace Go.Proofs.Ytpnfmcmhcjekfaa
open Go.RowKit

set_option maxRecDepth 100000 in
set_option maxHeartbeats 32000000 in
theorem steps_walk (n : Nat) (l : List VT) (ul : Value) (m : Nat) (ss : List StepP) (us : Value) (w : World) (hl : Lies (n + 1) w l ul) (hs : SlS m w ss us) : Calls Try.prog 4 #[ul, us] w fun e w' => e = .returned (.bool true) ∧ Below w.heap.size w w' := by
  obtain ⟨al, cl, rfl, hlb⟩ := Lies.slice hl
  obtain ⟨aS, cS, rfl, hcs, hs63, hat⟩ := hs.at
  obtain ⟨S, hS⟩ : ∃ S, S = ss.length := ⟨_, rfl⟩
  rw [← hS] at hat hs63 ⊢
  have HO : Hid _ := of_vv11 n l _ w hl
  have HSp : Hid (∀ V, Calls Try.prog 11 #[] V fun e w' => e = .returned (.bool true) ∧ Below V.heap.size V w') := speaks11_any
  have Hat : Hid _ := hat
  clear hl hs hat hcs hS
  go_enter Try.func4, Try.ntmps4
  go_wp2_with fail
  refine Calls.mono HO.out ?_
  rintro e w1 ⟨hb1, hp1⟩
  rcases hp1 with ⟨b, rfl, hv, hl17⟩ | ⟨k, rfl, hk⟩
  · have HV : Hid (VV w1 l (.pointer (some ⟨b, 0, none⟩))) := hv
    obtain ⟨N, hN⟩ : ∃ N, N = l.length := ⟨_, rfl⟩
    have HN0 : Hid (N = l.length) := hN
    rw [← hN] at hl17 ⊢
    have HL17 : Hid (Lies 17 w1 l (.slice al N cl)) := hl17
    clear HO hv hl17 hN
    go_wp2_with fail
    go_loopg [7, 5, 0] 201 (fun z vi vp vl wr => ∃ (j : Nat) (M : List VT) (b : Nat) (ax : Option Addr) (N cx : Nat), vi = .int .i64 (j : Int) ∧ j ≤ 200 ∧ z = 201 - j ∧ vp = .pointer (some ⟨b, 0, none⟩) ∧ vl = .slice ax N cx ∧ Hid (N = M.length) ∧ Hid (VV wr M (.pointer (some ⟨b, 0, none⟩))) ∧ Hid (Lies 17 wr M (.slice ax N cx)) ∧ Hid (Below w.heap.size w wr))
    case atStart => exact ⟨0, l, b, al, N, cl, rfl, by omega, rfl, rfl, rfl, HN0, HV, HL17, hb1⟩
    case round =>
      obtain ⟨j, M, b, ax, N, cx, rfl, hj, hz, rfl, rfl, HN, HVr, HLr, HB⟩ := hrel
      have Hz : Hid _ := hz
      clear hz HV HL17 HN0 hlb
      by_cases hlt : j < S ∧ j < 200
      · have hji : (j : Int) < (S : Nat) := by omega
        have hj2 : (j : Int) < 200 := by omega
        have hjS : j < S := hlt.1
        obtain ⟨sb, so, k, t, x, sx, tx, hsa, _, hxl, hxt, hcell⟩ := Hat.out j hlt.1
        subst hsa
        obtain ⟨⟨c0, c1, c2, c3, c4, c5⟩, hbl⟩ := hcell wr HB.out
        simp only at c0 c1 c2 c3 c4 c5
        obtain ⟨W0, hW0⟩ : ∃ W0, W0 = wr.alloc (.cells #[.int .i64 k, .int .i64 t, .int .i64 x.kind, .int .i64 x.num, .string x.text, .slice sx x.items.length tx] 43) := ⟨_, rfl⟩
        have hr0 : Below wr.heap.size wr W0 := by rw [hW0]; exact ((Grew.refl wr).alloc _).below
        have B0 : Hid (Sx W0 wr.heap.size k t x (.slice sx x.items.length tx)) := by rw [hW0]; exact sx_alloc _ _ _ _ _ _
        have hxl0 : Lies m W0 x.items (.slice sx x.items.length tx) := Lies.keeps (HB.out.trans (hr0.mono HB.out.size)) _ _ _ hxl
        have HW0 : Hid (W0 = wr.alloc (.cells #[.int .i64 k, .int .i64 t, .int .i64 x.kind, .int .i64 x.num, .string x.text, .slice sx x.items.length tx] 43)) := hW0
        clear hW0 hlt
        by_cases hk0 : k = 0
        · subst hk0
          have HPa : Hid (Calls Try.prog 18 #[.pointer (some ⟨b, 0, none⟩), .int .i64 t, .agg #[.int .i64 x.kind, .int .i64 x.num, .string x.text, .slice sx x.items.length tx]] W0 fun e w1 => Below W0.heap.size W0 w1 ∧ ∃ (k : Nat) (p1 : Option Addr), e = .returned (.tuple #[.pointer p1, .int .i64 (k : Int)]) ∧
            ∀ W, Below w1.heap.size w1 W → Calls Try.prog 19 #[.slice ax N cx, .int .i64 t, .agg #[.int .i64 x.kind, .int .i64 x.num, .string x.text, .slice sx x.items.length tx]] W fun e w2 => Below W.heap.size W w2 ∧ ∃ (a1 : Option Addr) (n1 c1 : Nat), e = .returned (.tuple #[.slice a1 n1 c1, .int .i64 (k : Int)]) ∧ Pair11 w2 (.pointer p1) k (.slice a1 n1 c1)) := by
            have hM9 := Lies.keeps hr0 _ _ _ HLr.out
            rw [HN.out] at hM9 ⊢
            exact pair11_any (vset_vv m M _ t x sx tx W0 (HVr.out.keeps hr0) hxl0 hxt) (fun W hW => rset_any m M ax cx t x sx tx W (Lies.keeps hW _ _ _ hM9) HVr.out.len (Lies.keeps hW _ _ _ hxl0) hxt) (setN_err m M t x)
          rw [HW0.out] at HPa
          clear hxl hcell
          go_wp2_with fail
          refine Calls.mono HPa.out ?_
          rintro e w2 ⟨hb2, kk, p1, rfl, hrf⟩
          rw [← HW0.out] at hb2
          have HRf : Hid _ := hrf w2 (Below.refl _ _)
          obtain ⟨x0, x1, x2, x3, x4, x5⟩ := B0.out.keeps hb2
          have hbw2 : Below wr.heap.size wr w2 := hr0.trans (hb2.mono hr0.size)
          clear HPa hrf c0 c1 c2 c3 c4 c5
          go_wp2_with fail
          refine Calls.mono HRf.out ?_
          rintro e W ⟨hb3, a1, n1, c1, rfl, hpr⟩
          have HPr : Hid (Pair11 W (.pointer p1) kk (.slice a1 n1 c1)) := hpr
          have hbw3 : Below wr.heap.size wr W := hbw2.trans (hb3.mono hbw2.size)
          have HVM : Hid (VV W M (.pointer (some ⟨b, 0, none⟩))) := HVr.out.keeps hbw3
          have HLM : Hid (Lies 17 W M (.slice ax N cx)) := Lies.keeps hbw3 _ _ _ HLr.out
          have hBW : Below w.heap.size w W := HB.out.trans (hbw3.mono HB.out.size)
          clear HRf hpr x0 x1 x2 x3 x4 x5 B0 hb2 hb3 hbw2 hbw3 HVr HLr HB hr0 HW0

          rcases HPr.out with ⟨rfl, M2, b2, a2, n2, c2, hn2, hp2, hu2, hv2, hl2⟩ | ⟨hk, hp2, hu2⟩
          · injection hp2 with hp2
            injection hu2 with hu2 hu3 hu4
            subst hp2 hu2 hu3 hu4
            have HV2 : Hid (VV W M2 (.pointer (some ⟨b2, 0, none⟩))) := hv2
            have HL2 : Hid (Lies 17 W M2 (.slice a1 n1 c1)) := hl2
            have HN2 : Hid (n1 = M2.length) := hn2
            have HLn : Hid (Calls Try.prog 24 #[.pointer (some ⟨b2, 0, none⟩)] W (NumPost n1 W)) := by rw [hn2]; exact vlen_any 16 M2 _ W hv2.vc
            clear hv2 hl2 hn2 HPr HVM HLM
            go_wp2_with fail
            refine Calls.mono HLn.out ?_
            rintro e wz ⟨rfl, hbz⟩
            have HV3 : Hid (VV wz M2 (.pointer (some ⟨b2, 0, none⟩))) := HV2.out.keeps hbz
            have HL3 : Hid (Lies 17 wz M2 (.slice a1 n1 c1)) := Lies.keeps hbz _ _ _ HL2.out
            have HB3 : Hid (Below w.heap.size w wz) := hBW.trans (hbz.mono hBW.size)
            clear HLn hbz HV2 HL2 hBW
            go_wp2_with fail
            go_roundg (201 - (j + 1))
            case measure => have := Hz.out; omega
            case rel => exact ⟨j + 1, M2, b2, a1, n1, c1, by go_num, by omega, rfl, rfl, rfl, HN2, HV3, HL3, HB3⟩
          · injection hp2 with hp2
            injection hu2 with hu2 hu3 hu4
            subst hp2 hu2 hu3 hu4
            have hk0 : ¬ ((kk : Nat) : Int) = 0 := by omega
            have HLn : Hid (Calls Try.prog 24 #[.pointer (some ⟨b, 0, none⟩)] W (NumPost N W)) := by rw [HN.out]; exact vlen_any 16 M _ W HVM.out.vc
            clear HPr hk
            go_wp2_with fail
            · rename_i hbad
              exfalso
              simp at hbad
              omega
            refine Calls.mono HLn.out ?_
            rintro e wz ⟨rfl, hbz⟩
            have HV3 : Hid (VV wz M (.pointer (some ⟨b, 0, none⟩))) := HVM.out.keeps hbz
            have HL3 : Hid (Lies 17 wz M (.slice ax N cx)) := Lies.keeps hbz _ _ _ HLM.out
            have HB3 : Hid (Below w.heap.size w wz) := hBW.trans (hbz.mono hBW.size)
            clear HLn hbz HVM HLM hBW
            go_wp2_with fail
            go_roundg (201 - (j + 1))
            case measure => have := Hz.out; omega
            case rel => exact ⟨j + 1, M, b, ax, N, cx, by go_num, by omega, rfl, rfl, rfl, HN, HV3, HL3, HB3⟩
        · by_cases hk1 : k = 1
          · subst hk1
            have HPa : Hid (Calls Try.prog 20 #[.pointer (some ⟨b, 0, none⟩), .agg #[.int .i64 x.kind, .int .i64 x.num, .string x.text, .slice sx x.items.length tx]] W0 fun e w1 => Below W0.heap.size W0 w1 ∧ ∃ (k : Nat) (p1 : Option Addr), e = .returned (.tuple #[.pointer p1, .int .i64 (k : Int)]) ∧
              ∀ W, Below w1.heap.size w1 W → Calls Try.prog 21 #[.slice ax N cx, .agg #[.int .i64 x.kind, .int .i64 x.num, .string x.text, .slice sx x.items.length tx]] W fun e w2 => Below W.heap.size W w2 ∧ ∃ (a1 : Option Addr) (n1 c1 : Nat), e = .returned (.tuple #[.slice a1 n1 c1, .int .i64 (k : Int)]) ∧ Pair11 w2 (.pointer p1) k (.slice a1 n1 c1)) := by
              have hM9 := Lies.keeps hr0 _ _ _ HLr.out
              rw [HN.out] at hM9 ⊢
              exact pair11_any (vpush_vv m M _ x sx tx W0 (HVr.out.keeps hr0) hxl0 hxt) (fun W hW => rpush_any m M ax cx x sx tx W (Lies.keeps hW _ _ _ hM9) HVr.out.len (Lies.keeps hW _ _ _ hxl0) hxt) (pushN_err m M x)
            rw [HW0.out] at HPa
            clear hxl hcell
            go_wp2_with fail
            refine Calls.mono HPa.out ?_
            rintro e w2 ⟨hb2, kk, p1, rfl, hrf⟩
            rw [← HW0.out] at hb2
            have HRf : Hid _ := hrf w2 (Below.refl _ _)
            obtain ⟨x0, x1, x2, x3, x4, x5⟩ := B0.out.keeps hb2
            have hbw2 : Below wr.heap.size wr w2 := hr0.trans (hb2.mono hr0.size)
            clear HPa hrf c0 c1 c2 c3 c4 c5
            go_wp2_with fail
            refine Calls.mono HRf.out ?_
            rintro e W ⟨hb3, a1, n1, c1, rfl, hpr⟩
            have HPr : Hid (Pair11 W (.pointer p1) kk (.slice a1 n1 c1)) := hpr
            have hbw3 : Below wr.heap.size wr W := hbw2.trans (hb3.mono hbw2.size)
            have HVM : Hid (VV W M (.pointer (some ⟨b, 0, none⟩))) := HVr.out.keeps hbw3
            have HLM : Hid (Lies 17 W M (.slice ax N cx)) := Lies.keeps hbw3 _ _ _ HLr.out
            have hBW : Below w.heap.size w W := HB.out.trans (hbw3.mono HB.out.size)
            clear HRf hpr x0 x1 x2 x3 x4 x5 B0 hb2 hb3 hbw2 hbw3 HVr HLr HB hr0 HW0

            rcases HPr.out with ⟨rfl, M2, b2, a2, n2, c2, hn2, hp2, hu2, hv2, hl2⟩ | ⟨hk, hp2, hu2⟩
            · injection hp2 with hp2
              injection hu2 with hu2 hu3 hu4
              subst hp2 hu2 hu3 hu4
              have HV2 : Hid (VV W M2 (.pointer (some ⟨b2, 0, none⟩))) := hv2
              have HL2 : Hid (Lies 17 W M2 (.slice a1 n1 c1)) := hl2
              have HN2 : Hid (n1 = M2.length) := hn2
              have HLn : Hid (Calls Try.prog 24 #[.pointer (some ⟨b2, 0, none⟩)] W (NumPost n1 W)) := by rw [hn2]; exact vlen_any 16 M2 _ W hv2.vc
              clear hv2 hl2 hn2 HPr HVM HLM
              go_wp2_with fail
              refine Calls.mono HLn.out ?_
              rintro e wz ⟨rfl, hbz⟩
              have HV3 : Hid (VV wz M2 (.pointer (some ⟨b2, 0, none⟩))) := HV2.out.keeps hbz
              have HL3 : Hid (Lies 17 wz M2 (.slice a1 n1 c1)) := Lies.keeps hbz _ _ _ HL2.out
              have HB3 : Hid (Below w.heap.size w wz) := hBW.trans (hbz.mono hBW.size)
              clear HLn hbz HV2 HL2 hBW
              go_wp2_with fail
              go_roundg (201 - (j + 1))
              case measure => have := Hz.out; omega
              case rel => exact ⟨j + 1, M2, b2, a1, n1, c1, by go_num, by omega, rfl, rfl, rfl, HN2, HV3, HL3, HB3⟩
            · injection hp2 with hp2
              injection hu2 with hu2 hu3 hu4
              subst hp2 hu2 hu3 hu4
              have hk0 : ¬ ((kk : Nat) : Int) = 0 := by omega
              have HLn : Hid (Calls Try.prog 24 #[.pointer (some ⟨b, 0, none⟩)] W (NumPost N W)) := by rw [HN.out]; exact vlen_any 16 M _ W HVM.out.vc
              clear HPr hk
              go_wp2_with fail
              · rename_i hbad
                exfalso
                simp at hbad
                omega
              refine Calls.mono HLn.out ?_
              rintro e wz ⟨rfl, hbz⟩
              have HV3 : Hid (VV wz M (.pointer (some ⟨b, 0, none⟩))) := HVM.out.keeps hbz
              have HL3 : Hid (Lies 17 wz M (.slice ax N cx)) := Lies.keeps hbz _ _ _ HLM.out
              have HB3 : Hid (Below w.heap.size w wz) := hBW.trans (hbz.mono hBW.size)
              clear HLn hbz HVM HLM hBW
              go_wp2_with fail
              go_roundg (201 - (j + 1))
              case measure => have := Hz.out; omega
              case rel => exact ⟨j + 1, M, b, ax, N, cx, by go_num, by omega, rfl, rfl, rfl, HN, HV3, HL3, HB3⟩
          · clear hxl hcell hxl0
            obtain ⟨W1, hW1⟩ : ∃ W1, W1 = (W0.alloc (.cells #[.int .i64 0, .int .i64 0, .string ⟨#[]⟩, .slice none 0 0] 31)).alloc (.cells #[.int .i64 0, .int .i64 0, .string ⟨#[]⟩, .slice none 0 0] 31) := ⟨_, rfl⟩
            have hs0 : W0.heap.size = wr.heap.size + 1 := by rw [HW0.out]; simp
            have hs1 : W1.heap.size = wr.heap.size + 1 + 1 + 1 := by rw [hW1, World.size_alloc, World.size_alloc, hs0]
            have hr1 : Below wr.heap.size wr W1 := by rw [hW1]; exact (hr0.alloc hr0.size _).alloc (by simp; have := hr0.size; omega) _
            have KP : Hid (Bx W1 (wr.heap.size + 1) zeroT (.slice none 0 0)) := by
              rw [hW1, ← hs0]
              exact (bx_alloc W0 zeroT _).keeps ((Grew.refl _).alloc _).below
            have KQ : Hid (Bx W1 (wr.heap.size + 1 + 1) zeroT (.slice none 0 0)) := by
              have h9 := bx_alloc (W0.alloc (.cells #[.int .i64 0, .int .i64 0, .string ⟨#[]⟩, .slice none 0 0] 31)) zeroT (.slice none 0 0)
              rw [World.size_alloc, hs0] at h9
              rw [hW1]
              exact h9
            have HPo : Hid _ := pop_pair M b ax N cx wr W1 (wr.heap.size + 1) HVr.out HLr.out HN.out hr1 (by omega) hs1
            have HW1 : Hid (W1 = (W0.alloc (.cells #[.int .i64 0, .int .i64 0, .string ⟨#[]⟩, .slice none 0 0] 31)).alloc (.cells #[.int .i64 0, .int .i64 0, .string ⟨#[]⟩, .slice none 0 0] 31)) := hW1
            have Hs1 : Hid (W1.heap.size = wr.heap.size + 1 + 1 + 1) := hs1
            rw [hW1, HW0.out] at HPo
            clear hW1 hs0 hs1
            go_wp2_with fail
            refine Calls.mono HPo.out ?_
            rintro e w2 ⟨hb2, y, va, vc, pp, kk, rfl, hLB, hrf⟩
            rw [← HW0.out, ← HW1.out] at hb2 hLB
            have hbw2 : Below wr.heap.size wr w2 := hr1.trans (hb2.mono hr1.size)
            have KP2 : Hid (Bx w2 (wr.heap.size + 1) zeroT (.slice none 0 0)) := KP.out.keeps hb2
            have KQ2 : Hid (Bx w2 (wr.heap.size + 1 + 1) zeroT (.slice none 0 0)) := KQ.out.keeps hb2
            obtain ⟨w3, hw3⟩ : ∃ w3, w3 = w2.setCells (wr.heap.size + 1) 0 (encP (y, .slice va y.items.length vc)) := ⟨_, rfl⟩
            have hbw3 : Below wr.heap.size wr w3 := by rw [hw3]; exact below_setCellsB _ _ (by omega) _ _ _ _ hbw2
            have BP3 : Hid (Bx w3 (wr.heap.size + 1) y (.slice va y.items.length vc)) := by rw [hw3]; exact KP2.out.put (y, .slice va y.items.length vc)
            have BQ3 : Hid (Bx w3 (wr.heap.size + 1 + 1) zeroT (.slice none 0 0)) := by rw [hw3]; exact KQ2.out.other (by omega) _
            have HLB3 : Hid (LiesB (wr.heap.size + 1 + 1 + 1) 16 w3 y.items (.slice va y.items.length vc)) := by
              show LiesB _ _ _ _ _
              rw [Hs1.out] at hLB
              rw [hw3]
              exact LiesB.stays (base := wr.heap.size + 1 + 1 + 1) (fun a v ha hv => ⟨by rw [World.cell?_setCells_out _ _ 0 w2 a (fun e _ => by omega)]; exact hv, World.frozen?_setCells ..⟩) _ _ _ hLB
            have HC3 : Hid (∀ a v, a.block ≠ wr.heap.size + 1 ∧ a.block ≠ wr.heap.size + 1 + 1 → w2.cell? a = some v → w3.cell? a = some v) := fun a v ha hv => by
              rw [hw3, World.cell?_setCells_out _ _ 0 w2 a (fun e _ => absurd e ha.1)]
              exact hv
            have hs3 : wr.heap.size + 1 + 1 + 1 ≤ w3.heap.size := by
              rw [hw3, size_setCellsS]
              have := hb2.size
              rw [Hs1.out] at this
              exact this
            have HRf : Hid _ := hrf w3 hbw3
            have HW3 : Hid (w3 = w2.setCells (wr.heap.size + 1) 0 (encP (y, .slice va y.items.length vc))) := hw3
            obtain ⟨y0, y1, y2, y3, z0, z1, z2, z3⟩ := KP2.out
            rw [hw3] at HRf
            simp only [encP, World.setCells, Nat.zero_add, Nat.reduceAdd] at HRf
            have HU : Hid (Lies 17 wr M (.slice ax N cx)) := HLr.out
            clear hw3 KP2 KQ2 hb2 hbw2 HPo KP KQ c0 c1 c2 c3 c4 c5 B0 hrf hLB hr0 hr1
            go_wp2_with fail
            refine Calls.mono HRf.out ?_
            rintro e w4 ⟨hb4, a1, n1, c1, ua, uc, rfl, hlu, hpr⟩
            have HW3' : Hid (w3 = w2.setCells (wr.heap.size + 1) 0 [.int .i64 y.kind, .int .i64 y.num, .string y.text, .slice va y.items.length vc]) := HW3.out
            have hb34 : Below w3.heap.size w3 w4 := by
              have h9 := HW3'.out
              simp only [World.setCells, Nat.zero_add, Nat.reduceAdd] at h9
              rw [← h9] at hb4
              exact hb4
            have BP4 : Hid (Bx w4 (wr.heap.size + 1) y (.slice va y.items.length vc)) := BP3.out.keeps hb34
            have BQ4 : Hid (Bx w4 (wr.heap.size + 1 + 1) zeroT (.slice none 0 0)) := BQ3.out.keeps hb34
            have hbw4 : Below wr.heap.size wr w4 := hbw3.trans (hb34.mono hbw3.size)
            obtain ⟨w5, hw5⟩ : ∃ w5, w5 = w4.setCells (wr.heap.size + 1 + 1) 0 (encP (y, .slice ua y.items.length uc)) := ⟨_, rfl⟩
            have hbw5 : Below wr.heap.size wr w5 := by rw [hw5]; exact below_setCellsB _ _ (by omega) _ _ _ _ hbw4
            have BP5 : Hid (Bx w5 (wr.heap.size + 1) y (.slice va y.items.length vc)) := by rw [hw5]; exact BP4.out.other (by omega) _
            have BQ5 : Hid (Bx w5 (wr.heap.size + 1 + 1) y (.slice ua y.items.length uc)) := by rw [hw5]; exact BQ4.out.put (y, .slice ua y.items.length uc)
            have HLB5 : Hid (Lies 16 w5 y.items (.slice va y.items.length vc)) := by
              have h8 : LiesB (wr.heap.size + 1 + 1 + 1) 16 w4 y.items (.slice va y.items.length vc) := LiesB.stays (base := wr.heap.size + 1 + 1 + 1) (fun a v _ hv => ⟨cell_keeps hb34 hv, hb34.frozen (p := a) (cell_lt hv)⟩) _ _ _ HLB3.out
              show Lies _ _ _ _
              rw [hw5]
              exact LiesB.lies _ _ _ (LiesB.stays (base := wr.heap.size + 1 + 1 + 1) (fun a v ha hv => ⟨by rw [World.cell?_setCells_out _ _ 0 w4 a (fun e _ => by omega)]; exact hv, World.frozen?_setCells ..⟩) _ _ _ h8)
            have HSm : Hid (Calls Try.prog 15 #[.agg #[.int .i64 y.kind, .int .i64 y.num, .string y.text, .slice va y.items.length vc], .agg #[.int .i64 y.kind, .int .i64 y.num, .string y.text, .slice ua y.items.length uc]] w5 fun e W' => e = .returned (.bool true) ∧ Below w5.heap.size w5 W') := (same_any 16 y y _ _ w5 HLB5.out (Lies.keeps hbw5 _ _ _ hlu)).mono fun e W' h => ⟨by rw [h.1, sameV_self], h.2.below⟩
            have HC5 : Hid (∀ a v, a.block ≠ wr.heap.size + 1 ∧ a.block ≠ wr.heap.size + 1 + 1 → w2.cell? a = some v → w5.cell? a = some v) := fun a v ha hv => by
              rw [hw5, World.cell?_setCells_out _ _ 0 w4 a (fun e _ => absurd e ha.2)]
              exact cell_keeps hb34 (HC3.out a v ha hv)
            have HPr5 : Hid (Pair11 w5 (.pointer pp) kk (.slice a1 n1 c1)) := hpr w5 HC5.out hbw5
            have HW5 : Hid (w5 = w4.setCells (wr.heap.size + 1 + 1) 0 [.int .i64 y.kind, .int .i64 y.num, .string y.text, .slice ua y.items.length uc]) := hw5
            obtain ⟨r0, r1, r2, r3, s0, s1, s2, s3⟩ := BQ4.out
            obtain ⟨u0, u1, u2, u3, _, _, _, _⟩ := BP4.out
            rw [hw5] at HSm
            simp only [encP, World.setCells, Nat.zero_add, Nat.reduceAdd] at HSm
            have hne1 : ¬ (wr.heap.size + 1 = wr.heap.size + 1 + 1) := by omega
            have hne2 : ¬ (wr.heap.size + 1 + 1 = wr.heap.size + 1) := by omega
            clear hw5 hb4 hpr hlu HRf y0 y1 y2 y3 z0 z1 z2 z3 BP3 BQ3 HLB3 HC3 hb34 hbw3 hs3 HW3 HW3'
            go_wp2_with fail
            refine Calls.mono HSm.out ?_
            rintro e W ⟨rfl, hb6⟩
            have hb56 : Below w5.heap.size w5 W := by
              have h9 := HW5.out
              simp only [World.setCells, Nat.zero_add, Nat.reduceAdd] at h9
              rw [← h9] at hb6
              exact hb6
            have HPr : Hid (Pair11 W (.pointer pp) kk (.slice a1 n1 c1)) := HPr5.out.keeps hb56
            have hbw6 : Below wr.heap.size wr W := hbw5.trans (hb56.mono hbw5.size)
            have HVM : Hid (VV W M (.pointer (some ⟨b, 0, none⟩))) := HVr.out.keeps hbw6
            have HLM : Hid (Lies 17 W M (.slice ax N cx)) := Lies.keeps hbw6 _ _ _ HLr.out
            have hBW : Below w.heap.size w W := HB.out.trans (hbw6.mono HB.out.size)
            clear HSm hb6 hb56 HPr5 HC5 HLB5 BP5 BQ5 BP4 BQ4 r0 r1 r2 r3 s0 s1 s2 s3 u0 u1 u2 u3 hne1 hne2 hbw4 hbw5 hbw6 HW5 HVr HLr HB HU HW0 HW1 Hs1

            rcases HPr.out with ⟨rfl, M2, b2, a2, n2, c2, hn2, hp2, hu2, hv2, hl2⟩ | ⟨hk, hp2, hu2⟩
            · injection hp2 with hp2
              injection hu2 with hu2 hu3 hu4
              subst hp2 hu2 hu3 hu4
              have HV2 : Hid (VV W M2 (.pointer (some ⟨b2, 0, none⟩))) := hv2
              have HL2 : Hid (Lies 17 W M2 (.slice a1 n1 c1)) := hl2
              have HN2 : Hid (n1 = M2.length) := hn2
              have HLn : Hid (Calls Try.prog 24 #[.pointer (some ⟨b2, 0, none⟩)] W (NumPost n1 W)) := by rw [hn2]; exact vlen_any 16 M2 _ W hv2.vc
              clear hv2 hl2 hn2 HPr HVM HLM
              go_wp2_with fail
              refine Calls.mono HLn.out ?_
              rintro e wz ⟨rfl, hbz⟩
              have HV3 : Hid (VV wz M2 (.pointer (some ⟨b2, 0, none⟩))) := HV2.out.keeps hbz
              have HL3 : Hid (Lies 17 wz M2 (.slice a1 n1 c1)) := Lies.keeps hbz _ _ _ HL2.out
              have HB3 : Hid (Below w.heap.size w wz) := hBW.trans (hbz.mono hBW.size)
              clear HLn hbz HV2 HL2 hBW
              go_wp2_with fail
              go_roundg (201 - (j + 1))
              case measure => have := Hz.out; omega
              case rel => exact ⟨j + 1, M2, b2, a1, n1, c1, by go_num, by omega, rfl, rfl, rfl, HN2, HV3, HL3, HB3⟩
            · injection hp2 with hp2
              injection hu2 with hu2 hu3 hu4
              subst hp2 hu2 hu3 hu4
              have hk0 : ¬ ((kk : Nat) : Int) = 0 := by omega
              have HLn : Hid (Calls Try.prog 24 #[.pointer (some ⟨b, 0, none⟩)] W (NumPost N W)) := by rw [HN.out]; exact vlen_any 16 M _ W HVM.out.vc
              clear HPr hk
              go_wp2_with fail
              · rename_i hbad
                exfalso
                simp at hbad
                omega
              refine Calls.mono HLn.out ?_
              rintro e wz ⟨rfl, hbz⟩
              have HV3 : Hid (VV wz M (.pointer (some ⟨b, 0, none⟩))) := HVM.out.keeps hbz
              have HL3 : Hid (Lies 17 wz M (.slice ax N cx)) := Lies.keeps hbz _ _ _ HLM.out
              have HB3 : Hid (Below w.heap.size w wz) := hBW.trans (hbz.mono hBW.size)
              clear HLn hbz HVM HLM hBW
              go_wp2_with fail
              go_roundg (201 - (j + 1))
              case measure => have := Hz.out; omega
              case rel => exact ⟨j + 1, M, b, ax, N, cx, by go_num, by omega, rfl, rfl, rfl, HN, HV3, HL3, HB3⟩
      · have hex : ((j : Int) < (S : Nat) ∧ ¬ (j : Int) < 200) ∨ ¬ (j : Int) < (S : Nat) := by omega
        have HSm : Hid (Calls Try.prog 12 #[.pointer (some ⟨b, 0, none⟩), .slice ax N cx] wr fun e w' => e = .returned (.bool true) ∧ Below wr.heap.size wr w') := same11_any M b _ wr HVr.out HLr.out
        clear hlt
        rcases hex with ⟨hji, hj2⟩ | hji
        all_goals
          go_wp2_with fail
          refine Calls.mono HSm.out ?_
          rintro e wy ⟨rfl, hby⟩
          have hby2 : Below w.heap.size w wy := HB.out.trans (hby.mono HB.out.size)
          clear HSm
          go_wp2_with fail
          refine Calls.mono (HSp.out _) ?_
          rintro e wz ⟨rfl, hbz⟩
          have HBz : Hid (Below w.heap.size w wz) := hby2.trans (hbz.mono hby2.size)
          clear hbz hby hby2
          go_wp2_with fail
          go_ret
          exact ⟨rfl, HBz.out⟩
  · have hk0 : ¬ ((k : Nat) : Int) = 0 := by omega
    have HEnd : Hid (Calls Try.prog 11 #[] w1 fun e w' => e = .returned (.bool true) ∧ Below w.heap.size w w') := Calls.mono (HSp.out w1) (fun e w' h => ⟨h.1, hb1.trans (h.2.mono hb1.size)⟩)
    clear HO hk
    go_wp2_with fail
    refine Calls.mono HEnd.out ?_
    rintro e wd ⟨rfl, hgd⟩
    go_wp2_with fail
    go_ret
    exact ⟨rfl, hgd⟩

end Go.Proofs.Ytpnfmcmhcjekfaa

