/-
  RangesPlace.
-/
import Derived.Test.YtpmodiodpilmeaaGreatNearLaw
namespace Go.Proofs.YtpmodiodpilmeaaGreat
open Go.RowKit Go.Shelf

set_option maxRecDepth 100000 in
set_option maxHeartbeats 16000000 in
theorem places_walk (o : Int) (d : Nat) (qs : List PP) (u : Value) (i : Int) (w : World) (hu : SlQ 0 d w qs u) :
    Calls Tryz.prog 4 #[.int .i64 o, u, .int .i64 i] w fun e w' => e = .returned (.bool true) ∧ Below w.heap.size w w' := by
  have HSp : Hid (∀ V, Calls Tryz.prog 9 #[] V fun e w' => e = .returned (.bool true) ∧ Below V.heap.size V w') := speaks15_any
  obtain ⟨au, cu, rfl, _⟩ := hu.slice
  have HO : Hid (Calls Tryz.prog 8 #[.int .i64 o, .slice au qs.length cu] w (OfPost14 d o qs w)) := mof_14 d o qs _ w hu
  clear hu
  go_enter Tryz.func4, Tryz.ntmps4
  go_wp2_with fail
  refine Calls.mono HO.out ?_
  rintro e w1 ⟨hb1, hcase⟩
  clear HO
  rcases hcase with ⟨hne, rfl⟩ | ⟨he0, t, b, rfl, hm, _⟩
  · generalize ofErr d o (qs.map trT) = E at hne ⊢
    generalize qs.length = L at *
    go_wp2_with fail
    refine Calls.mono (HSp.out _) ?_
    rintro e w2 ⟨rfl, hg2⟩
    have hb2 : Below w.heap.size w w2 := hb1.trans (hg2.mono hb1.size)
    clear hg2
    go_wp2_with fail
    go_ret
    exact ⟨rfl, hb2⟩
  · obtain ⟨q, hq⟩ : ∃ q, q = o.toNat := ⟨_, rfl⟩
    rw [← hq] at hm
    have hoq : o = (q : Int) := by
      have h9 : ordErr o = 0 := by
        unfold ofErr at he0
        by_cases h8 : ordErr o = 0
        · exact h8
        · rw [if_pos h8] at he0; exact he0
      have h8 : 0 ≤ o := by
        unfold ordErr at h9
        by_cases h7 : 0 ≤ o
        · exact h7
        · rw [if_pos (by omega)] at h9; exact absurd h9 (by decide)
      omega
    subst hoq
    clear he0 hq
    generalize qs.length = L at *
    have HPs : Hid _ := mpairs_14 hm
    have HM1 : Hid (MC w1 q t b) := hm
    clear hm
    go_wp2_with fail
    refine Calls.mono HPs.out ?_
    rintro e w2 ⟨v, ps, rfl, hps, hs, _, hg2⟩
    have hs2 := hs.mono (Nat.zero_le _)
    have hm2 := HM1.out.keeps hg2
    obtain ⟨av, cv, rfl⟩ : ∃ a c, v = .slice a ps.length c := by obtain ⟨a, c, h, _⟩ := hs2; exact ⟨a, c, h⟩
    have hlen : ps.length = t.items.length := by rw [← hps, List.length_map]
    have hsz : t.items.length ≤ 65536 := by rw [← RT.size_items]; exact hm2.size
    have Hb2 : Hid (Below w.heap.size w w2) := hb1.trans (hg2.mono hb1.size)
    have HM : Hid (MC w2 q t b) := hm2
    have hbV : Below w2.heap.size w2 w2 := Below.refl _ _
    have HA : Hid (∀ V, Below w2.heap.size w2 V → Calls Tryz.prog 20 #[.pointer (some ⟨b, 0, none⟩), .int .i64 i] V (PrE (orZ (itemAt t.items i)) (orE (itemAt t.items i)) V)) := fun V hV => Calls.mono (rat_15 b q t _ V (hm2.keeps hV)) fun e w' h => h.pr
    have HR : Hid (∀ V, Below w2.heap.size w2 V → Calls Tryz.prog 21 #[.slice av ps.length cv, .int .i64 i] V (PrDE w2 (orZ (itemAt t.items i)) (orE (itemAt t.items i)) V)) := fun V hV => by
      have h9 := rat15_any ps _ i w2 V hs2 hV
      rw [hps] at h9
      exact h9
    have HF : Hid (∀ V, Below w2.heap.size w2 V → Calls Tryz.prog 18 #[.pointer (some ⟨b, 0, none⟩)] V (Pr2 (orZ (itemAt t.items 0)) (itemAt t.items 0).isSome V)) := fun V hV => Calls.mono (first_15 b q t V (hm2.keeps hV)) fun e w' h => h.pr
    have HL : Hid (∀ V, Below w2.heap.size w2 V → Calls Tryz.prog 19 #[.pointer (some ⟨b, 0, none⟩)] V (Pr2 (orZ (itemAt t.items ((t.items.length : Int) - 1))) (itemAt t.items ((t.items.length : Int) - 1)).isSome V)) := fun V hV => by
      have h9 := last_15 b q t V (hm2.keeps hV)
      rw [RT.size_items] at h9
      exact Calls.mono h9 fun e w' h => h.pr
    by_cases hN : ps.length = 0
    · have hnil : t.items = [] := List.eq_nil_of_length_eq_zero (by omega)
      have hOi : itemAt t.items i = none := by rw [hnil]; unfold itemAt; by_cases h0 : 0 ≤ i <;> simp [h0]
      have HF1 : Hid (∀ V, Below w2.heap.size w2 V → Calls Tryz.prog 18 #[.pointer (some ⟨b, 0, none⟩)] V (Pr2 zeroPT false V)) := fun V hV => by have h9 := HF.out V hV; rw [hnil] at h9; exact h9
      have HF2 : Hid (∀ V, Below w2.heap.size w2 V → Calls Tryz.prog 19 #[.pointer (some ⟨b, 0, none⟩)] V (Pr2 zeroPT false V)) := fun V hV => by have h9 := HL.out V hV; rw [hnil] at h9; exact h9
      obtain ⟨N, hNN⟩ : ∃ N, N = ps.length := ⟨_, rfl⟩
      rw [← hNN] at HR ⊢
      have hN0 : N = 0 := by omega
      subst hN0
      clear hps hs hs2 hm2 hg2 hb1 hlen hsz hN hNN hnil HF HL HPs HM1
      go_wp2_with fail
      refine Calls.mono (HF1.out _ hbV) ?_
      rintro e v3 ⟨hg, ap, cap, aq, caq, rfl, hl1, hl2⟩
      have hbx : Below w2.heap.size w2 v3 := hbV.trans (hg.mono hbV.size)
      clear hg HF1 hbV
      obtain ⟨na, hna⟩ : ∃ n, n = v3.heap.size := ⟨_, rfl⟩
      obtain ⟨W3, hW⟩ : ∃ W, W = v3.alloc (.cells #[.int .i64 zeroPT.1.kind, .int .i64 zeroPT.1.num, .string zeroPT.1.text, .slice ap zeroPT.1.items.length cap, .int .i64 zeroPT.2.kind, .int .i64 zeroPT.2.num, .string zeroPT.2.text, .slice aq zeroPT.2.items.length caq] 33) := ⟨_, rfl⟩
      have HW : Hid (W3 = v3.alloc (.cells #[.int .i64 zeroPT.1.kind, .int .i64 zeroPT.1.num, .string zeroPT.1.text, .slice ap zeroPT.1.items.length cap, .int .i64 zeroPT.2.kind, .int .i64 zeroPT.2.num, .string zeroPT.2.text, .slice aq zeroPT.2.items.length caq] 33)) := hW
      have hal : Below v3.heap.size v3 W3 := by rw [hW]; exact ((Grew.refl v3).alloc _).below
      have HBna : Hid (Bx8 W3 na (.int .i64 zeroPT.1.kind) (.int .i64 zeroPT.1.num) (.string zeroPT.1.text) (.slice ap zeroPT.1.items.length cap) (.int .i64 zeroPT.2.kind) (.int .i64 zeroPT.2.num) (.string zeroPT.2.text) (.slice aq zeroPT.2.items.length caq)) := by rw [hW, hna]; exact bx8_alloc _ _ _ _ _ _ _ _ _ _
      have HLna : Hid (PrL W3 zeroPT (.slice ap zeroPT.1.items.length cap) (.slice aq zeroPT.2.items.length caq)) := (⟨LiesB.lies _ _ _ hl1, LiesB.lies _ _ _ hl2⟩ : PrL v3 zeroPT _ _).keeps hal
      have hbv : Below w2.heap.size w2 W3 := hbx.trans (hal.mono hbx.size)
      clear hW hal hl1 hl2 hbx
      go_upto_region 8 with fail
      rw [← HW.out, ← hna]
      clear HW hna

      go_wp2_with fail
      refine Calls.mono (HF2.out _ hbv) ?_
      rintro e v4 ⟨hg, bp, cbp, bq, cbq, rfl, hl1, hl2⟩
      have hbx : Below w2.heap.size w2 v4 := hbv.trans (hg.mono hbv.size)
      have HBna : Hid (Bx8 v4 na (.int .i64 zeroPT.1.kind) (.int .i64 zeroPT.1.num) (.string zeroPT.1.text) (.slice ap zeroPT.1.items.length cap) (.int .i64 zeroPT.2.kind) (.int .i64 zeroPT.2.num) (.string zeroPT.2.text) (.slice aq zeroPT.2.items.length caq)) := HBna.out.keeps hg
      have HLna : Hid (PrL v4 zeroPT (.slice ap zeroPT.1.items.length cap) (.slice aq zeroPT.2.items.length caq)) := HLna.out.keeps hg

      clear hg HF2 hbv
      obtain ⟨nb, hnb⟩ : ∃ n, n = v4.heap.size := ⟨_, rfl⟩
      obtain ⟨W4, hW⟩ : ∃ W, W = v4.alloc (.cells #[.int .i64 zeroPT.1.kind, .int .i64 zeroPT.1.num, .string zeroPT.1.text, .slice bp zeroPT.1.items.length cbp, .int .i64 zeroPT.2.kind, .int .i64 zeroPT.2.num, .string zeroPT.2.text, .slice bq zeroPT.2.items.length cbq] 33) := ⟨_, rfl⟩
      have HW : Hid (W4 = v4.alloc (.cells #[.int .i64 zeroPT.1.kind, .int .i64 zeroPT.1.num, .string zeroPT.1.text, .slice bp zeroPT.1.items.length cbp, .int .i64 zeroPT.2.kind, .int .i64 zeroPT.2.num, .string zeroPT.2.text, .slice bq zeroPT.2.items.length cbq] 33)) := hW
      have hal : Below v4.heap.size v4 W4 := by rw [hW]; exact ((Grew.refl v4).alloc _).below
      have HBnb : Hid (Bx8 W4 nb (.int .i64 zeroPT.1.kind) (.int .i64 zeroPT.1.num) (.string zeroPT.1.text) (.slice bp zeroPT.1.items.length cbp) (.int .i64 zeroPT.2.kind) (.int .i64 zeroPT.2.num) (.string zeroPT.2.text) (.slice bq zeroPT.2.items.length cbq)) := by rw [hW, hnb]; exact bx8_alloc _ _ _ _ _ _ _ _ _ _
      have HLnb : Hid (PrL W4 zeroPT (.slice bp zeroPT.1.items.length cbp) (.slice bq zeroPT.2.items.length cbq)) := (⟨LiesB.lies _ _ _ hl1, LiesB.lies _ _ _ hl2⟩ : PrL v4 zeroPT _ _).keeps hal
      have hbv : Below w2.heap.size w2 W4 := hbx.trans (hal.mono hbx.size)
      have HBna : Hid (Bx8 W4 na (.int .i64 zeroPT.1.kind) (.int .i64 zeroPT.1.num) (.string zeroPT.1.text) (.slice ap zeroPT.1.items.length cap) (.int .i64 zeroPT.2.kind) (.int .i64 zeroPT.2.num) (.string zeroPT.2.text) (.slice aq zeroPT.2.items.length caq)) := HBna.out.keeps hal
      have HLna : Hid (PrL W4 zeroPT (.slice ap zeroPT.1.items.length cap) (.slice aq zeroPT.2.items.length caq)) := HLna.out.keeps hal
      clear hW hal hl1 hl2 hbx
      go_upto_region 9 with fail
      rw [← HW.out, ← hnb]
      clear HW hnb

      obtain ⟨y0, y1, y2, y3, y4, y5, y6, y7, _, _, _, _, _, _, _, _, _⟩ := HBna.out
      obtain ⟨z0, z1, z2, z3, z4, z5, z6, z7, _, _, _, _, _, _, _, _, _⟩ := HBnb.out

      go_wp2_with fail
      go_region
      have hbv := hbv.drew
      clear y0 y1 y2 y3 y4 y5 y6 y7 z0 z1 z2 z3 z4 z5 z6 z7 HBna HBnb HLna HLnb
      have HAi : Hid (∀ V, Below w2.heap.size w2 V → Calls Tryz.prog 20 #[.pointer (some ⟨b, 0, none⟩), .int .i64 i] V (PrE zeroPT 5 V)) := fun V hV => by have h9 := HA.out V hV; rw [hOi] at h9; exact h9
      have HRi : Hid (∀ V, Below w2.heap.size w2 V → Calls Tryz.prog 21 #[.slice av 0 cv, .int .i64 i] V (PrDE w2 zeroPT 5 V)) := fun V hV => by have h9 := HR.out V hV; rw [hOi] at h9; exact h9
      clear HA HR hOi
      go_wp2_with fail
      refine Calls.mono (HAi.out _ hbv) ?_
      rintro e v5 ⟨hg, ax, cax, az, caz, rfl, hl1, hl2⟩
      have hbx : Below w2.heap.size w2 v5 := hbv.trans (hg.mono hbv.size)
      clear hg HAi hbv
      obtain ⟨nc, hnc⟩ : ∃ n, n = v5.heap.size := ⟨_, rfl⟩
      obtain ⟨W5, hW⟩ : ∃ W, W = v5.alloc (.cells #[.int .i64 zeroPT.1.kind, .int .i64 zeroPT.1.num, .string zeroPT.1.text, .slice ax zeroPT.1.items.length cax, .int .i64 zeroPT.2.kind, .int .i64 zeroPT.2.num, .string zeroPT.2.text, .slice az zeroPT.2.items.length caz] 33) := ⟨_, rfl⟩
      have HW : Hid (W5 = v5.alloc (.cells #[.int .i64 zeroPT.1.kind, .int .i64 zeroPT.1.num, .string zeroPT.1.text, .slice ax zeroPT.1.items.length cax, .int .i64 zeroPT.2.kind, .int .i64 zeroPT.2.num, .string zeroPT.2.text, .slice az zeroPT.2.items.length caz] 33)) := hW
      have hal : Below v5.heap.size v5 W5 := by rw [hW]; exact ((Grew.refl v5).alloc _).below
      have HBnc : Hid (Bx8 W5 nc (.int .i64 zeroPT.1.kind) (.int .i64 zeroPT.1.num) (.string zeroPT.1.text) (.slice ax zeroPT.1.items.length cax) (.int .i64 zeroPT.2.kind) (.int .i64 zeroPT.2.num) (.string zeroPT.2.text) (.slice az zeroPT.2.items.length caz)) := by rw [hW, hnc]; exact bx8_alloc _ _ _ _ _ _ _ _ _ _
      have HLnc : Hid (PrL W5 zeroPT (.slice ax zeroPT.1.items.length cax) (.slice az zeroPT.2.items.length caz)) := (⟨LiesB.lies _ _ _ hl1, LiesB.lies _ _ _ hl2⟩ : PrL v5 zeroPT _ _).keeps hal
      have hbv : Below w2.heap.size w2 W5 := hbx.trans (hal.mono hbx.size)
      clear hW hal hl1 hl2 hbx
      go_upto_region 12 with fail
      rw [← HW.out, ← hnc]
      clear HW hnc

      go_wp2_with fail
      refine Calls.mono (HRi.out _ hbv) ?_
      rintro e v6 ⟨hg, ba, cba, bb, cbb, rfl, hpl⟩
      have hbx : Below w2.heap.size w2 v6 := hbv.trans (hg.mono hbv.size)
      have HBnc : Hid (Bx8 v6 nc (.int .i64 zeroPT.1.kind) (.int .i64 zeroPT.1.num) (.string zeroPT.1.text) (.slice ax zeroPT.1.items.length cax) (.int .i64 zeroPT.2.kind) (.int .i64 zeroPT.2.num) (.string zeroPT.2.text) (.slice az zeroPT.2.items.length caz)) := HBnc.out.keeps hg
      have HLnc : Hid (PrL v6 zeroPT (.slice ax zeroPT.1.items.length cax) (.slice az zeroPT.2.items.length caz)) := HLnc.out.keeps hg
      clear hg HRi hbv
      obtain ⟨nd, hnd⟩ : ∃ n, n = v6.heap.size := ⟨_, rfl⟩
      obtain ⟨W6, hW⟩ : ∃ W, W = v6.alloc (.cells #[.int .i64 zeroPT.1.kind, .int .i64 zeroPT.1.num, .string zeroPT.1.text, .slice ba zeroPT.1.items.length cba, .int .i64 zeroPT.2.kind, .int .i64 zeroPT.2.num, .string zeroPT.2.text, .slice bb zeroPT.2.items.length cbb] 33) := ⟨_, rfl⟩
      have HW : Hid (W6 = v6.alloc (.cells #[.int .i64 zeroPT.1.kind, .int .i64 zeroPT.1.num, .string zeroPT.1.text, .slice ba zeroPT.1.items.length cba, .int .i64 zeroPT.2.kind, .int .i64 zeroPT.2.num, .string zeroPT.2.text, .slice bb zeroPT.2.items.length cbb] 33)) := hW
      have hal : Below v6.heap.size v6 W6 := by rw [hW]; exact ((Grew.refl v6).alloc _).below
      have HBnd : Hid (Bx8 W6 nd (.int .i64 zeroPT.1.kind) (.int .i64 zeroPT.1.num) (.string zeroPT.1.text) (.slice ba zeroPT.1.items.length cba) (.int .i64 zeroPT.2.kind) (.int .i64 zeroPT.2.num) (.string zeroPT.2.text) (.slice bb zeroPT.2.items.length cbb)) := by rw [hW, hnd]; exact bx8_alloc _ _ _ _ _ _ _ _ _ _
      have HBnc : Hid (Bx8 W6 nc (.int .i64 zeroPT.1.kind) (.int .i64 zeroPT.1.num) (.string zeroPT.1.text) (.slice ax zeroPT.1.items.length cax) (.int .i64 zeroPT.2.kind) (.int .i64 zeroPT.2.num) (.string zeroPT.2.text) (.slice az zeroPT.2.items.length caz)) := HBnc.out.keeps hal
      have hbv : Below w2.heap.size w2 W6 := hbx.trans (hal.mono hbx.size)
      have HP : Hid _ := pair_same zeroPT _ _ _ _ W6 (HLnc.out.keeps hal) (hpl.keeps hbv)
      have HPL : Hid (PrL w2 zeroPT (.slice ba zeroPT.1.items.length cba) (.slice bb zeroPT.2.items.length cbb)) := hpl
      clear hW hal hbx hpl HLnc
      go_upto_region 13 with fail
      rw [← HW.out, ← hnd]
      clear HW hnd
      obtain ⟨y0, y1, y2, y3, y4, y5, y6, y7, _, _, _, _, _, _, _, _, _⟩ := HBnc.out
      obtain ⟨z0, z1, z2, z3, z4, z5, z6, z7, _, _, _, _, _, _, _, _, _⟩ := HBnd.out
      go_wp2_with fail
      refine Calls.mono HP.out ?_
      rintro e v7 ⟨rfl, hg⟩
      have hbw : Below w2.heap.size w2 v7 := hbv.trans (hg.mono hbv.size)
      have hb7 : Below w.heap.size w v7 := Hb2.out.trans (hbw.mono Hb2.out.size)
      clear hg hbv hbw HP HPL y0 y1 y2 y3 y4 y5 y6 y7 z0 z1 z2 z3 z4 z5 z6 z7 HBnc HBnd
      go_wp2_with fail
      refine Calls.mono (HSp.out _) ?_
      rintro e w9 ⟨rfl, hg9⟩
      have hb9 : Below w.heap.size w w9 := hb7.trans (hg9.mono hb7.size)
      clear hg9
      go_wp2_with fail
      go_ret
      exact ⟨rfl, hb9⟩
    · obtain ⟨L1, hL1⟩ : ∃ L1, ps.length = L1 + 1 := ⟨ps.length - 1, by omega⟩
      have h0 : 0 < ps.length := by omega
      have h1 : L1 < ps.length := by omega
      obtain ⟨x1, ar, car, as1, cas1, br, orr, hx1, hav, hpl1, p0, p1, p2, p3, p4, p5, p6, p7⟩ := row_pair hs2 h0
      obtain ⟨x2, at1, cat1, au1, cau1, br2, or2, hx2, hav2, hpl2, r0, r1, r2, r3, r4, r5, r6, r7⟩ := row_pair hs2 h1
      subst hav
      simp only [Option.some.injEq, Addr.mk.injEq, and_true] at hav2
      obtain ⟨rfl, rfl⟩ := hav2
      rw [hps] at hx1 hx2
      have HF1 : Hid (∀ V, Below w2.heap.size w2 V → Calls Tryz.prog 18 #[.pointer (some ⟨b, 0, none⟩)] V (Pr2 x1 true V)) := fun V hV => by
        have h9 := HF.out V hV
        have e9 : itemAt t.items 0 = some x1 := (itemAt_nat t.items 0).trans hx1
        rw [e9] at h9
        exact h9
      have HF2 : Hid (∀ V, Below w2.heap.size w2 V → Calls Tryz.prog 19 #[.pointer (some ⟨b, 0, none⟩)] V (Pr2 x2 true V)) := fun V hV => by
        have h9 := HL.out V hV
        have e9 : itemAt t.items ((t.items.length : Int) - 1) = some x2 := by
          have e8 : (t.items.length : Int) - 1 = (L1 : Int) := by omega
          rw [e8, itemAt_nat]; exact hx2
        rw [e9] at h9
        exact h9
      have HP1 : Hid (PrL w2 x1 (.slice ar x1.1.items.length car) (.slice as1 x1.2.items.length cas1)) := hpl1
      have HP2 : Hid (PrL w2 x2 (.slice at1 x2.1.items.length cat1) (.slice au1 x2.2.items.length cau1)) := hpl2
      simp only [Nat.zero_mul, Nat.add_zero] at p0 p1 p2 p3 p4 p5 p6 p7
      have HC1 : Hid (w2.cell? ⟨br, orr, none⟩ = some (.int .i64 x1.1.kind) ∧ w2.cell? ⟨br, orr + 1, none⟩ = some (.int .i64 x1.1.num) ∧ w2.cell? ⟨br, orr + 2, none⟩ = some (.string x1.1.text) ∧ w2.cell? ⟨br, orr + 3, none⟩ = some (.slice ar x1.1.items.length car) ∧ w2.cell? ⟨br, orr + 4, none⟩ = some (.int .i64 x1.2.kind) ∧ w2.cell? ⟨br, orr + 5, none⟩ = some (.int .i64 x1.2.num) ∧ w2.cell? ⟨br, orr + 6, none⟩ = some (.string x1.2.text) ∧ w2.cell? ⟨br, orr + 7, none⟩ = some (.slice as1 x1.2.items.length cas1)) := ⟨p0, p1, p2, p3, p4, p5, p6, p7⟩
      have HC2 : Hid (w2.cell? ⟨br, orr + L1 * 8, none⟩ = some (.int .i64 x2.1.kind) ∧ w2.cell? ⟨br, orr + L1 * 8 + 1, none⟩ = some (.int .i64 x2.1.num) ∧ w2.cell? ⟨br, orr + L1 * 8 + 2, none⟩ = some (.string x2.1.text) ∧ w2.cell? ⟨br, orr + L1 * 8 + 3, none⟩ = some (.slice at1 x2.1.items.length cat1) ∧ w2.cell? ⟨br, orr + L1 * 8 + 4, none⟩ = some (.int .i64 x2.2.kind) ∧ w2.cell? ⟨br, orr + L1 * 8 + 5, none⟩ = some (.int .i64 x2.2.num) ∧ w2.cell? ⟨br, orr + L1 * 8 + 6, none⟩ = some (.string x2.2.text) ∧ w2.cell? ⟨br, orr + L1 * 8 + 7, none⟩ = some (.slice au1 x2.2.items.length cau1)) := ⟨r0, r1, r2, r3, r4, r5, r6, r7⟩
      have HZ : Hid (L1 < 65536) := by show L1 < 65536; omega
      obtain ⟨N, hNN⟩ : ∃ N, N = ps.length := ⟨_, rfl⟩
      rw [← hNN] at HR ⊢
      have HN : Hid (N = L1 + 1) := by show N = L1 + 1; omega
      clear hps hs hs2 hm2 hg2 hb1 hlen hsz hN hL1 h0 h1 hx1 hx2 hpl1 hpl2 p0 p1 p2 p3 p4 p5 p6 p7 r0 r1 r2 r3 r4 r5 r6 r7 HF HL HPs HM1 hNN
      go_wp2_with fail
      refine Calls.mono (HF1.out _ hbV) ?_
      rintro e v3 ⟨hg, ap, cap, aq, caq, rfl, hl1, hl2⟩
      have hbx : Below w2.heap.size w2 v3 := hbV.trans (hg.mono hbV.size)
      clear hg HF1 hbV
      obtain ⟨na, hna⟩ : ∃ n, n = v3.heap.size := ⟨_, rfl⟩
      obtain ⟨W3, hW⟩ : ∃ W, W = v3.alloc (.cells #[.int .i64 x1.1.kind, .int .i64 x1.1.num, .string x1.1.text, .slice ap x1.1.items.length cap, .int .i64 x1.2.kind, .int .i64 x1.2.num, .string x1.2.text, .slice aq x1.2.items.length caq] 33) := ⟨_, rfl⟩
      have HW : Hid (W3 = v3.alloc (.cells #[.int .i64 x1.1.kind, .int .i64 x1.1.num, .string x1.1.text, .slice ap x1.1.items.length cap, .int .i64 x1.2.kind, .int .i64 x1.2.num, .string x1.2.text, .slice aq x1.2.items.length caq] 33)) := hW
      have hal : Below v3.heap.size v3 W3 := by rw [hW]; exact ((Grew.refl v3).alloc _).below
      have HBna : Hid (Bx8 W3 na (.int .i64 x1.1.kind) (.int .i64 x1.1.num) (.string x1.1.text) (.slice ap x1.1.items.length cap) (.int .i64 x1.2.kind) (.int .i64 x1.2.num) (.string x1.2.text) (.slice aq x1.2.items.length caq)) := by rw [hW, hna]; exact bx8_alloc _ _ _ _ _ _ _ _ _ _
      have HLna : Hid (PrL W3 x1 (.slice ap x1.1.items.length cap) (.slice aq x1.2.items.length caq)) := (⟨LiesB.lies _ _ _ hl1, LiesB.lies _ _ _ hl2⟩ : PrL v3 x1 _ _).keeps hal
      have hbv : Below w2.heap.size w2 W3 := hbx.trans (hal.mono hbx.size)
      clear hW hal hl1 hl2 hbx
      go_upto_region 8 with fail
      rw [← HW.out, ← hna]
      clear HW hna

      go_wp2_with fail
      refine Calls.mono (HF2.out _ hbv) ?_
      rintro e v4 ⟨hg, bp, cbp, bq, cbq, rfl, hl1, hl2⟩
      have hbx : Below w2.heap.size w2 v4 := hbv.trans (hg.mono hbv.size)
      have HBna : Hid (Bx8 v4 na (.int .i64 x1.1.kind) (.int .i64 x1.1.num) (.string x1.1.text) (.slice ap x1.1.items.length cap) (.int .i64 x1.2.kind) (.int .i64 x1.2.num) (.string x1.2.text) (.slice aq x1.2.items.length caq)) := HBna.out.keeps hg
      have HLna : Hid (PrL v4 x1 (.slice ap x1.1.items.length cap) (.slice aq x1.2.items.length caq)) := HLna.out.keeps hg

      clear hg HF2 hbv
      obtain ⟨nb, hnb⟩ : ∃ n, n = v4.heap.size := ⟨_, rfl⟩
      obtain ⟨W4, hW⟩ : ∃ W, W = v4.alloc (.cells #[.int .i64 x2.1.kind, .int .i64 x2.1.num, .string x2.1.text, .slice bp x2.1.items.length cbp, .int .i64 x2.2.kind, .int .i64 x2.2.num, .string x2.2.text, .slice bq x2.2.items.length cbq] 33) := ⟨_, rfl⟩
      have HW : Hid (W4 = v4.alloc (.cells #[.int .i64 x2.1.kind, .int .i64 x2.1.num, .string x2.1.text, .slice bp x2.1.items.length cbp, .int .i64 x2.2.kind, .int .i64 x2.2.num, .string x2.2.text, .slice bq x2.2.items.length cbq] 33)) := hW
      have hal : Below v4.heap.size v4 W4 := by rw [hW]; exact ((Grew.refl v4).alloc _).below
      have HBnb : Hid (Bx8 W4 nb (.int .i64 x2.1.kind) (.int .i64 x2.1.num) (.string x2.1.text) (.slice bp x2.1.items.length cbp) (.int .i64 x2.2.kind) (.int .i64 x2.2.num) (.string x2.2.text) (.slice bq x2.2.items.length cbq)) := by rw [hW, hnb]; exact bx8_alloc _ _ _ _ _ _ _ _ _ _
      have HLnb : Hid (PrL W4 x2 (.slice bp x2.1.items.length cbp) (.slice bq x2.2.items.length cbq)) := (⟨LiesB.lies _ _ _ hl1, LiesB.lies _ _ _ hl2⟩ : PrL v4 x2 _ _).keeps hal
      have hbv : Below w2.heap.size w2 W4 := hbx.trans (hal.mono hbx.size)
      have HBna : Hid (Bx8 W4 na (.int .i64 x1.1.kind) (.int .i64 x1.1.num) (.string x1.1.text) (.slice ap x1.1.items.length cap) (.int .i64 x1.2.kind) (.int .i64 x1.2.num) (.string x1.2.text) (.slice aq x1.2.items.length caq)) := HBna.out.keeps hal
      have HLna : Hid (PrL W4 x1 (.slice ap x1.1.items.length cap) (.slice aq x1.2.items.length caq)) := HLna.out.keeps hal
      clear hW hal hl1 hl2 hbx
      go_upto_region 9 with fail
      rw [← HW.out, ← hnb]
      clear HW hnb

      obtain ⟨y0, y1, y2, y3, y4, y5, y6, y7, _, _, _, _, _, _, _, _, _⟩ := HBna.out
      obtain ⟨z0, z1, z2, z3, z4, z5, z6, z7, _, _, _, _, _, _, _, _, _⟩ := HBnb.out

      obtain ⟨p0, p1, p2, p3, p4, p5, p6, p7⟩ := HC1.out
      obtain ⟨r0, r1, r2, r3, r4, r5, r6, r7⟩ := HC2.out
      have p0 := cell_keeps hbv p0; have p1 := cell_keeps hbv p1; have p2 := cell_keeps hbv p2; have p3 := cell_keeps hbv p3; have p4 := cell_keeps hbv p4; have p5 := cell_keeps hbv p5; have p6 := cell_keeps hbv p6; have p7 := cell_keeps hbv p7; have r0 := cell_keeps hbv r0; have r1 := cell_keeps hbv r1; have r2 := cell_keeps hbv r2; have r3 := cell_keeps hbv r3; have r4 := cell_keeps hbv r4; have r5 := cell_keeps hbv r5; have r6 := cell_keeps hbv r6; have r7 := cell_keeps hbv r7
      have HPa : Hid (∀ V, Below W4.heap.size W4 V → Calls Tryz.prog 13 #[.agg #[.int .i64 x1.1.kind, .int .i64 x1.1.num, .string x1.1.text, .slice ap x1.1.items.length cap, .int .i64 x1.2.kind, .int .i64 x1.2.num, .string x1.2.text, .slice aq x1.2.items.length caq], .agg #[.int .i64 x1.1.kind, .int .i64 x1.1.num, .string x1.1.text, .slice ar x1.1.items.length car, .int .i64 x1.2.kind, .int .i64 x1.2.num, .string x1.2.text, .slice as1 x1.2.items.length cas1]] V fun e w' => e = .returned (.bool true) ∧ Below V.heap.size V w') := fun V hV => pair_same x1 _ _ _ _ V (HLna.out.keeps hV) (HP1.out.keeps (hbv.trans (hV.mono hbv.size)))
      have HPb : Hid (∀ V, Below W4.heap.size W4 V → Calls Tryz.prog 13 #[.agg #[.int .i64 x2.1.kind, .int .i64 x2.1.num, .string x2.1.text, .slice bp x2.1.items.length cbp, .int .i64 x2.2.kind, .int .i64 x2.2.num, .string x2.2.text, .slice bq x2.2.items.length cbq], .agg #[.int .i64 x2.1.kind, .int .i64 x2.1.num, .string x2.1.text, .slice at1 x2.1.items.length cat1, .int .i64 x2.2.kind, .int .i64 x2.2.num, .string x2.2.text, .slice au1 x2.2.items.length cau1]] V fun e w' => e = .returned (.bool true) ∧ Below V.heap.size V w') := fun V hV => pair_same x2 _ _ _ _ V (HLnb.out.keeps hV) (HP2.out.keeps (hbv.trans (hV.mono hbv.size)))
      have hN1 := HN.out
      have hz1 := HZ.out
      have hNp : (0 : Int) < (N : Int) := by omega
      have hLN : (L1 : Int) < (N : Int) := by omega
      have hNn : 0 < N := by omega
      have hD1 : decide ((0 : Int) < (N : Int)) = true := by simp; omega
      have hD2 : (true != decide ((0 : Int) < (N : Int))) = false := by rw [hD1]; rfl
      have e1 : IntKind.i64.wrap ((N : Int) - 1) = (L1 : Int) := by rw [IntKind.wrap_i64]; omega
      clear hN1 hz1
      go_wp2_with fail
      go_region_held3 (fun w' => w'.cell? ⟨na, 0, none⟩ = some (.int .i64 x1.1.kind) ∧ w'.cell? ⟨na, 1, none⟩ = some (.int .i64 x1.1.num) ∧ w'.cell? ⟨na, 2, none⟩ = some (.string x1.1.text) ∧ w'.cell? ⟨na, 3, none⟩ = some (.slice ap x1.1.items.length cap) ∧ w'.cell? ⟨na, 4, none⟩ = some (.int .i64 x1.2.kind) ∧ w'.cell? ⟨na, 5, none⟩ = some (.int .i64 x1.2.num) ∧ w'.cell? ⟨na, 6, none⟩ = some (.string x1.2.text) ∧ w'.cell? ⟨na, 7, none⟩ = some (.slice aq x1.2.items.length caq) ∧ w'.cell? ⟨nb, 0, none⟩ = some (.int .i64 x2.1.kind) ∧ w'.cell? ⟨nb, 1, none⟩ = some (.int .i64 x2.1.num) ∧ w'.cell? ⟨nb, 2, none⟩ = some (.string x2.1.text) ∧ w'.cell? ⟨nb, 3, none⟩ = some (.slice bp x2.1.items.length cbp) ∧ w'.cell? ⟨nb, 4, none⟩ = some (.int .i64 x2.2.kind) ∧ w'.cell? ⟨nb, 5, none⟩ = some (.int .i64 x2.2.num) ∧ w'.cell? ⟨nb, 6, none⟩ = some (.string x2.2.text) ∧ w'.cell? ⟨nb, 7, none⟩ = some (.slice bq x2.2.items.length cbq) ∧ w'.cell? ⟨br, orr, none⟩ = some (.int .i64 x1.1.kind) ∧ w'.cell? ⟨br, orr + 1, none⟩ = some (.int .i64 x1.1.num) ∧ w'.cell? ⟨br, orr + 2, none⟩ = some (.string x1.1.text) ∧ w'.cell? ⟨br, orr + 3, none⟩ = some (.slice ar x1.1.items.length car) ∧ w'.cell? ⟨br, orr + 4, none⟩ = some (.int .i64 x1.2.kind) ∧ w'.cell? ⟨br, orr + 5, none⟩ = some (.int .i64 x1.2.num) ∧ w'.cell? ⟨br, orr + 6, none⟩ = some (.string x1.2.text) ∧ w'.cell? ⟨br, orr + 7, none⟩ = some (.slice as1 x1.2.items.length cas1) ∧ w'.cell? ⟨br, orr + L1 * 8, none⟩ = some (.int .i64 x2.1.kind) ∧ w'.cell? ⟨br, orr + L1 * 8 + 1, none⟩ = some (.int .i64 x2.1.num) ∧ w'.cell? ⟨br, orr + L1 * 8 + 2, none⟩ = some (.string x2.1.text) ∧ w'.cell? ⟨br, orr + L1 * 8 + 3, none⟩ = some (.slice at1 x2.1.items.length cat1) ∧ w'.cell? ⟨br, orr + L1 * 8 + 4, none⟩ = some (.int .i64 x2.2.kind) ∧ w'.cell? ⟨br, orr + L1 * 8 + 5, none⟩ = some (.int .i64 x2.2.num) ∧ w'.cell? ⟨br, orr + L1 * 8 + 6, none⟩ = some (.string x2.2.text) ∧ w'.cell? ⟨br, orr + L1 * 8 + 7, none⟩ = some (.slice au1 x2.2.items.length cau1)) (go_keep)
        (first
          | (go_at_call 13; (with_reducible refine Calls.mono (HPb.out _ ?_) ?_); (first | exact hgA | exact hgA.drew); rintro e wB ⟨rfl, hgB⟩; have hgC : Below W4.heap.size W4 wB := (by first | exact hgA.trans (hgB.mono hgA.size) | exact hgA.drew.trans (hgB.mono hgA.drew.size)); have y0 := cell_keeps hgB y0; have y1 := cell_keeps hgB y1; have y2 := cell_keeps hgB y2; have y3 := cell_keeps hgB y3; have y4 := cell_keeps hgB y4; have y5 := cell_keeps hgB y5; have y6 := cell_keeps hgB y6; have y7 := cell_keeps hgB y7; have z0 := cell_keeps hgB z0; have z1 := cell_keeps hgB z1; have z2 := cell_keeps hgB z2; have z3 := cell_keeps hgB z3; have z4 := cell_keeps hgB z4; have z5 := cell_keeps hgB z5; have z6 := cell_keeps hgB z6; have z7 := cell_keeps hgB z7; have p0 := cell_keeps hgB p0; have p1 := cell_keeps hgB p1; have p2 := cell_keeps hgB p2; have p3 := cell_keeps hgB p3; have p4 := cell_keeps hgB p4; have p5 := cell_keeps hgB p5; have p6 := cell_keeps hgB p6; have p7 := cell_keeps hgB p7; have r0 := cell_keeps hgB r0; have r1 := cell_keeps hgB r1; have r2 := cell_keeps hgB r2; have r3 := cell_keeps hgB r3; have r4 := cell_keeps hgB r4; have r5 := cell_keeps hgB r5; have r6 := cell_keeps hgB r6; have r7 := cell_keeps hgB r7)
          | (go_at_call 13; (with_reducible refine Calls.mono (HPa.out _ ?_) ?_); (first | exact Below.refl _ _ | exact (Below.refl _ _).drew); rintro e wA ⟨rfl, hgA'⟩; have hgA : Below W4.heap.size W4 wA := (by first | exact hgA' | exact (Below.refl _ _).drew.trans hgA'); clear hgA'; have y0 := cell_keeps hgA y0; have y1 := cell_keeps hgA y1; have y2 := cell_keeps hgA y2; have y3 := cell_keeps hgA y3; have y4 := cell_keeps hgA y4; have y5 := cell_keeps hgA y5; have y6 := cell_keeps hgA y6; have y7 := cell_keeps hgA y7; have z0 := cell_keeps hgA z0; have z1 := cell_keeps hgA z1; have z2 := cell_keeps hgA z2; have z3 := cell_keeps hgA z3; have z4 := cell_keeps hgA z4; have z5 := cell_keeps hgA z5; have z6 := cell_keeps hgA z6; have z7 := cell_keeps hgA z7; have p0 := cell_keeps hgA p0; have p1 := cell_keeps hgA p1; have p2 := cell_keeps hgA p2; have p3 := cell_keeps hgA p3; have p4 := cell_keeps hgA p4; have p5 := cell_keeps hgA p5; have p6 := cell_keeps hgA p6; have p7 := cell_keeps hgA p7; have r0 := cell_keeps hgA r0; have r1 := cell_keeps hgA r1; have r2 := cell_keeps hgA r2; have r3 := cell_keeps hgA r3; have r4 := cell_keeps hgA r4; have r5 := cell_keeps hgA r5; have r6 := cell_keeps hgA r6; have r7 := cell_keeps hgA r7))
      have hbv : Below w2.heap.size w2 wB := hbv.trans (hgC.mono hbv.size)
      clear hgA hgB hgC HPa HPb HP1 HP2 HC1 HC2 HZ HN HBna HBnb HLna HLnb hNp hLN hNn hD1 hD2 e1 y0 y1 y2 y3 y4 y5 y6 y7 z0 z1 z2 z3 z4 z5 z6 z7 p0 p1 p2 p3 p4 p5 p6 p7 r0 r1 r2 r3 r4 r5 r6 r7
      cases hOi : itemAt t.items i with
      | none =>
        have HAi : Hid (∀ V, Below w2.heap.size w2 V → Calls Tryz.prog 20 #[.pointer (some ⟨b, 0, none⟩), .int .i64 i] V (PrE zeroPT 5 V)) := fun V hV => by have h9 := HA.out V hV; rw [hOi] at h9; exact h9
        have HRi : Hid (∀ V, Below w2.heap.size w2 V → Calls Tryz.prog 21 #[.slice (some ⟨br, orr, none⟩) N cv, .int .i64 i] V (PrDE w2 zeroPT 5 V)) := fun V hV => by have h9 := HR.out V hV; rw [hOi] at h9; exact h9
        clear HA HR hOi
        go_wp2_with fail
        refine Calls.mono (HAi.out _ hbv) ?_
        rintro e v5 ⟨hg, ax, cax, az, caz, rfl, hl1, hl2⟩
        have hbx : Below w2.heap.size w2 v5 := hbv.trans (hg.mono hbv.size)
        clear hg HAi hbv
        obtain ⟨nc, hnc⟩ : ∃ n, n = v5.heap.size := ⟨_, rfl⟩
        obtain ⟨W5, hW⟩ : ∃ W, W = v5.alloc (.cells #[.int .i64 zeroPT.1.kind, .int .i64 zeroPT.1.num, .string zeroPT.1.text, .slice ax zeroPT.1.items.length cax, .int .i64 zeroPT.2.kind, .int .i64 zeroPT.2.num, .string zeroPT.2.text, .slice az zeroPT.2.items.length caz] 33) := ⟨_, rfl⟩
        have HW : Hid (W5 = v5.alloc (.cells #[.int .i64 zeroPT.1.kind, .int .i64 zeroPT.1.num, .string zeroPT.1.text, .slice ax zeroPT.1.items.length cax, .int .i64 zeroPT.2.kind, .int .i64 zeroPT.2.num, .string zeroPT.2.text, .slice az zeroPT.2.items.length caz] 33)) := hW
        have hal : Below v5.heap.size v5 W5 := by rw [hW]; exact ((Grew.refl v5).alloc _).below
        have HBnc : Hid (Bx8 W5 nc (.int .i64 zeroPT.1.kind) (.int .i64 zeroPT.1.num) (.string zeroPT.1.text) (.slice ax zeroPT.1.items.length cax) (.int .i64 zeroPT.2.kind) (.int .i64 zeroPT.2.num) (.string zeroPT.2.text) (.slice az zeroPT.2.items.length caz)) := by rw [hW, hnc]; exact bx8_alloc _ _ _ _ _ _ _ _ _ _
        have HLnc : Hid (PrL W5 zeroPT (.slice ax zeroPT.1.items.length cax) (.slice az zeroPT.2.items.length caz)) := (⟨LiesB.lies _ _ _ hl1, LiesB.lies _ _ _ hl2⟩ : PrL v5 zeroPT _ _).keeps hal
        have hbv : Below w2.heap.size w2 W5 := hbx.trans (hal.mono hbx.size)
        clear hW hal hl1 hl2 hbx
        go_upto_region 12 with fail
        rw [← HW.out, ← hnc]
        clear HW hnc

        go_wp2_with fail
        refine Calls.mono (HRi.out _ hbv) ?_
        rintro e v6 ⟨hg, ba, cba, bb, cbb, rfl, hpl⟩
        have hbx : Below w2.heap.size w2 v6 := hbv.trans (hg.mono hbv.size)
        have HBnc : Hid (Bx8 v6 nc (.int .i64 zeroPT.1.kind) (.int .i64 zeroPT.1.num) (.string zeroPT.1.text) (.slice ax zeroPT.1.items.length cax) (.int .i64 zeroPT.2.kind) (.int .i64 zeroPT.2.num) (.string zeroPT.2.text) (.slice az zeroPT.2.items.length caz)) := HBnc.out.keeps hg
        have HLnc : Hid (PrL v6 zeroPT (.slice ax zeroPT.1.items.length cax) (.slice az zeroPT.2.items.length caz)) := HLnc.out.keeps hg
        clear hg HRi hbv
        obtain ⟨nd, hnd⟩ : ∃ n, n = v6.heap.size := ⟨_, rfl⟩
        obtain ⟨W6, hW⟩ : ∃ W, W = v6.alloc (.cells #[.int .i64 zeroPT.1.kind, .int .i64 zeroPT.1.num, .string zeroPT.1.text, .slice ba zeroPT.1.items.length cba, .int .i64 zeroPT.2.kind, .int .i64 zeroPT.2.num, .string zeroPT.2.text, .slice bb zeroPT.2.items.length cbb] 33) := ⟨_, rfl⟩
        have HW : Hid (W6 = v6.alloc (.cells #[.int .i64 zeroPT.1.kind, .int .i64 zeroPT.1.num, .string zeroPT.1.text, .slice ba zeroPT.1.items.length cba, .int .i64 zeroPT.2.kind, .int .i64 zeroPT.2.num, .string zeroPT.2.text, .slice bb zeroPT.2.items.length cbb] 33)) := hW
        have hal : Below v6.heap.size v6 W6 := by rw [hW]; exact ((Grew.refl v6).alloc _).below
        have HBnd : Hid (Bx8 W6 nd (.int .i64 zeroPT.1.kind) (.int .i64 zeroPT.1.num) (.string zeroPT.1.text) (.slice ba zeroPT.1.items.length cba) (.int .i64 zeroPT.2.kind) (.int .i64 zeroPT.2.num) (.string zeroPT.2.text) (.slice bb zeroPT.2.items.length cbb)) := by rw [hW, hnd]; exact bx8_alloc _ _ _ _ _ _ _ _ _ _
        have HBnc : Hid (Bx8 W6 nc (.int .i64 zeroPT.1.kind) (.int .i64 zeroPT.1.num) (.string zeroPT.1.text) (.slice ax zeroPT.1.items.length cax) (.int .i64 zeroPT.2.kind) (.int .i64 zeroPT.2.num) (.string zeroPT.2.text) (.slice az zeroPT.2.items.length caz)) := HBnc.out.keeps hal
        have hbv : Below w2.heap.size w2 W6 := hbx.trans (hal.mono hbx.size)
        have HP : Hid _ := pair_same zeroPT _ _ _ _ W6 (HLnc.out.keeps hal) (hpl.keeps hbv)
        have HPL : Hid (PrL w2 zeroPT (.slice ba zeroPT.1.items.length cba) (.slice bb zeroPT.2.items.length cbb)) := hpl
        clear hW hal hbx hpl HLnc
        go_upto_region 13 with fail
        rw [← HW.out, ← hnd]
        clear HW hnd
        obtain ⟨y0, y1, y2, y3, y4, y5, y6, y7, _, _, _, _, _, _, _, _, _⟩ := HBnc.out
        obtain ⟨z0, z1, z2, z3, z4, z5, z6, z7, _, _, _, _, _, _, _, _, _⟩ := HBnd.out
        go_wp2_with fail
        refine Calls.mono HP.out ?_
        rintro e v7 ⟨rfl, hg⟩
        have hbw : Below w2.heap.size w2 v7 := hbv.trans (hg.mono hbv.size)
        have hb7 : Below w.heap.size w v7 := Hb2.out.trans (hbw.mono Hb2.out.size)
        clear hg hbv hbw HP HPL y0 y1 y2 y3 y4 y5 y6 y7 z0 z1 z2 z3 z4 z5 z6 z7 HBnc HBnd
        go_wp2_with fail
        refine Calls.mono (HSp.out _) ?_
        rintro e w9 ⟨rfl, hg9⟩
        have hb9 : Below w.heap.size w w9 := hb7.trans (hg9.mono hb7.size)
        clear hg9
        go_wp2_with fail
        go_ret
        exact ⟨rfl, hb9⟩
      | some x5 =>
        obtain ⟨j, rfl, hjx⟩ : ∃ j : Nat, i = (j : Int) ∧ t.items[j]? = some x5 := by
          by_cases h0 : 0 ≤ i
          · obtain ⟨j, rfl⟩ : ∃ j : Nat, i = (j : Int) := ⟨i.toNat, by omega⟩
            exact ⟨j, rfl, by rwa [itemAt_nat] at hOi⟩
          · unfold itemAt at hOi
            rw [if_neg h0] at hOi
            cases hOi
        have hg5 := (HM.out.right x5 (List.mem_of_getElem? hjx)).1
        have hx5t : x5.1.text.size ≤ 9223372036854775807 := Nat.le_trans (right_text (right_own hg5.1)).1 (by omega)
        have HR5 : Hid (∀ (a : Option Addr) (c : Nat) V, Below w2.heap.size w2 V → Lies 16 V x5.1.items (.slice a x5.1.items.length c) → Calls Tryz.prog 22 #[.pointer (some ⟨b, 0, none⟩), .agg #[.int .i64 x5.1.kind, .int .i64 x5.1.num, .string x5.1.text, .slice a x5.1.items.length c]] V fun e w' => e = .returned (.tuple #[.int .i64 (j : Int), .int .i64 0]) ∧ Below V.heap.size V w') := fun a c V hV hl => by
          have h9 := rank15_right 16 b q t x5.1 _ V (HM.out.keeps hV) hl hx5t hg5.1
          rw [upTo_at HM.out hjx false] at h9
          exact h9
        clear hjx hg5 hx5t
        have HAi : Hid (∀ V, Below w2.heap.size w2 V → Calls Tryz.prog 20 #[.pointer (some ⟨b, 0, none⟩), .int .i64 (j : Int)] V (PrE x5 0 V)) := fun V hV => by have h9 := HA.out V hV; rw [hOi] at h9; exact h9
        have HRi : Hid (∀ V, Below w2.heap.size w2 V → Calls Tryz.prog 21 #[.slice (some ⟨br, orr, none⟩) N cv, .int .i64 (j : Int)] V (PrDE w2 x5 0 V)) := fun V hV => by have h9 := HR.out V hV; rw [hOi] at h9; exact h9
        clear HA HR hOi
        go_wp2_with fail
        refine Calls.mono (HAi.out _ hbv) ?_
        rintro e v5 ⟨hg, ax, cax, az, caz, rfl, hl1, hl2⟩
        have hbx : Below w2.heap.size w2 v5 := hbv.trans (hg.mono hbv.size)
        clear hg HAi hbv
        obtain ⟨nc, hnc⟩ : ∃ n, n = v5.heap.size := ⟨_, rfl⟩
        obtain ⟨W5, hW⟩ : ∃ W, W = v5.alloc (.cells #[.int .i64 x5.1.kind, .int .i64 x5.1.num, .string x5.1.text, .slice ax x5.1.items.length cax, .int .i64 x5.2.kind, .int .i64 x5.2.num, .string x5.2.text, .slice az x5.2.items.length caz] 33) := ⟨_, rfl⟩
        have HW : Hid (W5 = v5.alloc (.cells #[.int .i64 x5.1.kind, .int .i64 x5.1.num, .string x5.1.text, .slice ax x5.1.items.length cax, .int .i64 x5.2.kind, .int .i64 x5.2.num, .string x5.2.text, .slice az x5.2.items.length caz] 33)) := hW
        have hal : Below v5.heap.size v5 W5 := by rw [hW]; exact ((Grew.refl v5).alloc _).below
        have HBnc : Hid (Bx8 W5 nc (.int .i64 x5.1.kind) (.int .i64 x5.1.num) (.string x5.1.text) (.slice ax x5.1.items.length cax) (.int .i64 x5.2.kind) (.int .i64 x5.2.num) (.string x5.2.text) (.slice az x5.2.items.length caz)) := by rw [hW, hnc]; exact bx8_alloc _ _ _ _ _ _ _ _ _ _
        have HLnc : Hid (PrL W5 x5 (.slice ax x5.1.items.length cax) (.slice az x5.2.items.length caz)) := (⟨LiesB.lies _ _ _ hl1, LiesB.lies _ _ _ hl2⟩ : PrL v5 x5 _ _).keeps hal
        have hbv : Below w2.heap.size w2 W5 := hbx.trans (hal.mono hbx.size)
        clear hW hal hl1 hl2 hbx
        go_upto_region 12 with fail
        rw [← HW.out, ← hnc]
        clear HW hnc

        go_wp2_with fail
        refine Calls.mono (HRi.out _ hbv) ?_
        rintro e v6 ⟨hg, ba, cba, bb, cbb, rfl, hpl⟩
        have hbx : Below w2.heap.size w2 v6 := hbv.trans (hg.mono hbv.size)
        have HBnc : Hid (Bx8 v6 nc (.int .i64 x5.1.kind) (.int .i64 x5.1.num) (.string x5.1.text) (.slice ax x5.1.items.length cax) (.int .i64 x5.2.kind) (.int .i64 x5.2.num) (.string x5.2.text) (.slice az x5.2.items.length caz)) := HBnc.out.keeps hg
        have HLnc : Hid (PrL v6 x5 (.slice ax x5.1.items.length cax) (.slice az x5.2.items.length caz)) := HLnc.out.keeps hg
        clear hg HRi hbv
        obtain ⟨nd, hnd⟩ : ∃ n, n = v6.heap.size := ⟨_, rfl⟩
        obtain ⟨W6, hW⟩ : ∃ W, W = v6.alloc (.cells #[.int .i64 x5.1.kind, .int .i64 x5.1.num, .string x5.1.text, .slice ba x5.1.items.length cba, .int .i64 x5.2.kind, .int .i64 x5.2.num, .string x5.2.text, .slice bb x5.2.items.length cbb] 33) := ⟨_, rfl⟩
        have HW : Hid (W6 = v6.alloc (.cells #[.int .i64 x5.1.kind, .int .i64 x5.1.num, .string x5.1.text, .slice ba x5.1.items.length cba, .int .i64 x5.2.kind, .int .i64 x5.2.num, .string x5.2.text, .slice bb x5.2.items.length cbb] 33)) := hW
        have hal : Below v6.heap.size v6 W6 := by rw [hW]; exact ((Grew.refl v6).alloc _).below
        have HBnd : Hid (Bx8 W6 nd (.int .i64 x5.1.kind) (.int .i64 x5.1.num) (.string x5.1.text) (.slice ba x5.1.items.length cba) (.int .i64 x5.2.kind) (.int .i64 x5.2.num) (.string x5.2.text) (.slice bb x5.2.items.length cbb)) := by rw [hW, hnd]; exact bx8_alloc _ _ _ _ _ _ _ _ _ _
        have HBnc : Hid (Bx8 W6 nc (.int .i64 x5.1.kind) (.int .i64 x5.1.num) (.string x5.1.text) (.slice ax x5.1.items.length cax) (.int .i64 x5.2.kind) (.int .i64 x5.2.num) (.string x5.2.text) (.slice az x5.2.items.length caz)) := HBnc.out.keeps hal
        have hbv : Below w2.heap.size w2 W6 := hbx.trans (hal.mono hbx.size)
        have HP : Hid _ := pair_same x5 _ _ _ _ W6 (HLnc.out.keeps hal) (hpl.keeps hbv)
        have HPL : Hid (PrL w2 x5 (.slice ba x5.1.items.length cba) (.slice bb x5.2.items.length cbb)) := hpl
        clear hW hal hbx hpl HLnc
        go_upto_region 13 with fail
        rw [← HW.out, ← hnd]
        clear HW hnd
        obtain ⟨y0, y1, y2, y3, y4, y5, y6, y7, _, _, _, _, _, _, _, _, _⟩ := HBnc.out
        obtain ⟨z0, z1, z2, z3, z4, z5, z6, z7, _, _, _, _, _, _, _, _, _⟩ := HBnd.out
        go_wp2_with fail
        refine Calls.mono HP.out ?_
        rintro e v7 ⟨rfl, hg⟩
        have hbw : Below w2.heap.size w2 v7 := hbv.trans (hg.mono hbv.size)
        have z0 := cell_keeps hg z0; have z1 := cell_keeps hg z1; have z2 := cell_keeps hg z2; have z3 := cell_keeps hg z3
        clear hg hbv HP y0 y1 y2 y3 y4 y5 y6 y7 z4 z5 z6 z7 HBnc HBnd
        have e9 : ((j : Int) == (j : Int)) = true := by simp
        go_wp2_with fail
        refine Calls.mono (HR5.out _ _ _ hbw (Lies.keeps hbw _ _ _ HPL.out.key)) ?_
        rintro e v8 ⟨rfl, hg⟩
        have hb8 : Below w.heap.size w v8 := Hb2.out.trans ((hbw.trans (hg.mono hbw.size)).mono Hb2.out.size)
        clear hg hbw HPL HR5 z0 z1 z2 z3
        go_wp2_with fail
        refine Calls.mono (HSp.out _) ?_
        rintro e w9 ⟨rfl, hg9⟩
        have hb9 : Below w.heap.size w w9 := hb8.trans (hg9.mono hb8.size)
        clear hg9
        go_wp2_with fail
        go_ret
        exact ⟨rfl, hb9⟩

end Go.Proofs.YtpmodiodpilmeaaGreat

