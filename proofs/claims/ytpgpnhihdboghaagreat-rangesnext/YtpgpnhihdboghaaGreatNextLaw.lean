/-
  RangesNext.
-/
import Derived.Test.YtpgpnhihdboghaaGreatNearLaw
namespace Go.Proofs.YtpgpnhihdboghaaGreat
open Go.RowKit Go.Shelf

set_option maxRecDepth 100000 in
set_option maxHeartbeats 16000000 in
theorem nexts_walk (o : Int) (d : Nat) (qs : List PP) (u : Value) (d2 : Nat) (y : VT) (yu : Value) (w : World) (hu : SlQ 0 d w qs u) (hy : Lies d2 w y.items yu) (ht : y.text.size ≤ 9223372036854775807) :
    Calls Tryz.prog 7 #[.int .i64 o, u, .agg #[.int .i64 y.kind, .int .i64 y.num, .string y.text, yu]] w fun e w' => e = .returned (.bool true) ∧ Below w.heap.size w w' := by
  have HSp : Hid (∀ V, Calls Tryz.prog 9 #[] V fun e w' => e = .returned (.bool true) ∧ Below V.heap.size V w') := speaks15_any
  obtain ⟨au, cu, rfl, _⟩ := hu.slice
  obtain ⟨ay, cy, rfl, _⟩ := Lies.slice hy
  have HO : Hid (∀ V, Below w.heap.size w V → Calls Tryz.prog 8 #[.int .i64 o, .slice au qs.length cu] V (OfPost14 d o qs V)) := fun V hV => mof_14 d o qs _ V (hu.keeps hV)
  have HY : Hid (Lies d2 w y.items (.slice ay y.items.length cy)) := hy
  have HYt : Hid (y.text.size ≤ 9223372036854775807) := ht
  have HK0 : Hid (Bx (w.alloc (.cells #[.int .i64 y.kind, .int .i64 y.num, .string y.text, .slice ay y.items.length cy] 25)) w.heap.size y (.slice ay y.items.length cy)) := bx_alloc _ _ _
  have hb0 : Below w.heap.size w (w.alloc (.cells #[.int .i64 y.kind, .int .i64 y.num, .string y.text, .slice ay y.items.length cy] 25)) := ((Grew.refl w).alloc _).below
  clear hu hy ht
  go_enter Tryz.func7, Tryz.ntmps7
  go_wp2_with fail
  refine Calls.mono (HO.out _ hb0) ?_
  rintro e w1 ⟨hg1, hcase⟩
  have HK1 : Hid (Bx w1 w.heap.size y (.slice ay y.items.length cy)) := HK0.out.keeps hg1
  have hb1 : Below w.heap.size w w1 := hb0.trans (hg1.mono hb0.size)
  clear hg1 hb0 HO HK0
  rcases hcase with ⟨hne, rfl⟩ | ⟨he0, t, b, rfl, hm, _⟩
  · generalize ofErr d o (qs.map trT) = E at hne ⊢
    generalize qs.length = L at *
    go_wp2_with fail
    refine Calls.mono (HSp.out _) ?_
    rintro e w2 ⟨rfl, hg2⟩
    have hb2 : Below w.heap.size w w2 := hb1.trans (hg2.mono hb1.size)
    clear hg2
    go_wp2_with fail
    go_ret
    exact ⟨rfl, hb2⟩
  · obtain ⟨q, hq⟩ : ∃ q, q = o.toNat := ⟨_, rfl⟩
    rw [← hq] at hm
    have hoq : o = (q : Int) := by
      have h9 : ordErr o = 0 := by
        unfold ofErr at he0
        by_cases h8 : ordErr o = 0
        · exact h8
        · rw [if_pos h8] at he0; exact he0
      have h8 : 0 ≤ o := by
        unfold ordErr at h9
        by_cases h7 : 0 ≤ o
        · exact h7
        · rw [if_pos (by omega)] at h9; exact absurd h9 (by decide)
      omega
    subst hoq
    clear he0 hq
    generalize qs.length = L at *
    have HM : Hid (MC w1 q t b) := hm
    have HYw : Hid (∀ V, Below w1.heap.size w1 V → Lies d2 V y.items (.slice ay y.items.length cy)) := fun V hV => Lies.keeps (hb1.trans (hV.mono hb1.size)) _ _ _ HY.out
    obtain ⟨k0, k1, k2, k3, _, _, _, _⟩ := HK1.out
    cases hr : rightV d2 y with
    | false =>
      have HR : Hid _ := rank15_wrong d2 b y _ w1 (HYw.out _ (Below.refl _ _)) HYt.out hr
      clear hm hr
      go_wp2_with fail
      refine Calls.mono HR.out ?_
      rintro e w2 ⟨rfl, hg2⟩
      have hb2 : Below w.heap.size w w2 := hb1.trans (hg2.mono hb1.size)
      clear hg2 k0 k1 k2 k3 HR
      go_wp2_with fail
      refine Calls.mono (HSp.out _) ?_
      rintro e w3 ⟨rfl, hg3⟩
      have hb3 : Below w.heap.size w w3 := hb2.trans (hg3.mono hb2.size)
      clear hg3
      go_wp2_with fail
      go_ret
      exact ⟨rfl, hb3⟩
    | true =>
      obtain ⟨n, hn⟩ : ∃ n, n = RT.upTo (atK q y) false t := ⟨_, rfl⟩
      obtain ⟨m, hmm⟩ : ∃ m, m = RT.upTo (atK q y) true t := ⟨_, rfl⟩
      have hc := canon (HYw.out _ (Below.refl _ _)) hr
      have hth := upTo_there (y := y) hm ⟨hc.2, Dp.of_lies 16 w1 y _ hc.1⟩
      rw [← hn, ← hmm] at hth
      have hmn : m = n ∨ m = n + 1 := by
        rw [hth]
        cases thereR q t.items y with
        | false => exact .inl rfl
        | true => exact .inr rfl
      have hml : m ≤ t.items.length := by rw [hmm]; exact upTo_lel y true hm
      have hsz : t.items.length ≤ 65536 := by rw [← RT.size_items]; exact hm.size
      obtain ⟨O1, hO1⟩ : ∃ O, O = itemAt t.items (n : Int) := ⟨_, rfl⟩
      have HR : Hid (Calls Tryz.prog 22 #[.pointer (some ⟨b, 0, none⟩), .agg #[.int .i64 y.kind, .int .i64 y.num, .string y.text, .slice ay y.items.length cy]] w1 fun e w' => e = .returned (.tuple #[.int .i64 (n : Int), .int .i64 0]) ∧ Below w1.heap.size w1 w') := by rw [hn]; exact rank15_right d2 b q t y _ w1 hm (HYw.out _ (Below.refl _ _)) HYt.out hr
      have HA : Hid (∀ V, Below w1.heap.size w1 V → Calls Tryz.prog 20 #[.pointer (some ⟨b, 0, none⟩), .int .i64 (n : Int)] V (PrE (orZ O1) (orE O1) V)) := fun V hV => by rw [hO1]; exact Calls.mono (rat_15 b q t _ V (hm.keeps hV)) fun e w' h => h.pr
      have HC : Hid (∀ V, Below w1.heap.size w1 V → Calls Tryz.prog 15 #[.pointer (some ⟨b, 0, none⟩), .agg #[.int .i64 y.kind, .int .i64 y.num, .string y.text, .slice ay y.items.length cy]] V (Pr3 (orZ O1) O1.isSome 0 V)) := fun V hV => by rw [hO1, hn]; exact Calls.mono (ceil15_right d2 b q t y _ V (hm.keeps hV) (HYw.out _ hV) HYt.out hr) fun e w' h => h.pr
      have HF : Hid (∀ V, Below w1.heap.size w1 V → Calls Tryz.prog 11 #[.pointer (some ⟨b, 0, none⟩), .agg #[.int .i64 y.kind, .int .i64 y.num, .string y.text, .slice ay y.items.length cy]] V (Pr3 (orZ (itemAt t.items ((m : Int) - 1))) (itemAt t.items ((m : Int) - 1)).isSome 0 V)) := fun V hV => by rw [hmm]; exact Calls.mono (floor15_right d2 b q t y _ V (hm.keeps hV) (HYw.out _ hV) HYt.out hr) fun e w' h => h.pr
      have HMN : Hid (m = n ∨ m = n + 1) := hmn
      have HML : Hid (m ≤ t.items.length ∧ t.items.length ≤ 65536) := ⟨hml, hsz⟩
      have hBE : O1.isSome = (orE O1 == 0) := by cases O1 <;> rfl
      rw [hBE] at HC
      clear hn hmm hc hth hmn hml hsz hO1 hm hr hBE
      generalize orZ O1 = x1 at *
      generalize orE O1 = E1 at *
      go_wp2_with fail
      refine Calls.mono HR.out ?_
      rintro e v0 ⟨rfl, hg⟩
      have hbv : Below w1.heap.size w1 v0 := hg
      have Hb1 : Hid (Below w.heap.size w w1) := hb1
      have k0 := cell_keeps hg k0
      have k1 := cell_keeps hg k1
      have k2 := cell_keeps hg k2
      have k3 := cell_keeps hg k3

      clear hg HR hb1
      go_wp2_with fail
      refine Calls.mono (HA.out _ hbv) ?_
      rintro e v1 ⟨hg, ap, cap, aq, caq, rfl, hl1, hl2⟩
      have hbx : Below w1.heap.size w1 v1 := hbv.trans (hg.mono hbv.size)
      have k0 := cell_keeps hg k0
      have k1 := cell_keeps hg k1
      have k2 := cell_keeps hg k2
      have k3 := cell_keeps hg k3

      clear hg HA hbv
      obtain ⟨na, hna⟩ : ∃ n, n = v1.heap.size := ⟨_, rfl⟩
      obtain ⟨W1, hW⟩ : ∃ W, W = v1.alloc (.cells #[.int .i64 x1.1.kind, .int .i64 x1.1.num, .string x1.1.text, .slice ap x1.1.items.length cap, .int .i64 x1.2.kind, .int .i64 x1.2.num, .string x1.2.text, .slice aq x1.2.items.length caq] 33) := ⟨_, rfl⟩
      have HW : Hid (W1 = v1.alloc (.cells #[.int .i64 x1.1.kind, .int .i64 x1.1.num, .string x1.1.text, .slice ap x1.1.items.length cap, .int .i64 x1.2.kind, .int .i64 x1.2.num, .string x1.2.text, .slice aq x1.2.items.length caq] 33)) := hW
      have hal : Below v1.heap.size v1 W1 := by rw [hW]; exact ((Grew.refl v1).alloc _).below
      have HBna : Hid (Bx8 W1 na (.int .i64 x1.1.kind) (.int .i64 x1.1.num) (.string x1.1.text) (.slice ap x1.1.items.length cap) (.int .i64 x1.2.kind) (.int .i64 x1.2.num) (.string x1.2.text) (.slice aq x1.2.items.length caq)) := by rw [hW, hna]; exact bx8_alloc _ _ _ _ _ _ _ _ _ _
      have HLna : Hid (PrL W1 x1 (.slice ap x1.1.items.length cap) (.slice aq x1.2.items.length caq)) := (⟨LiesB.lies _ _ _ hl1, LiesB.lies _ _ _ hl2⟩ : PrL v1 x1 _ _).keeps hal
      have hbv : Below w1.heap.size w1 W1 := hbx.trans (hal.mono hbx.size)
      have k0 := cell_keeps hal k0
      have k1 := cell_keeps hal k1
      have k2 := cell_keeps hal k2
      have k3 := cell_keeps hal k3
      clear hW hal hl1 hl2 hbx
      go_upto_region 10 with fail
      rw [← HW.out, ← hna]
      clear HW hna

      go_wp2_with fail
      refine Calls.mono (HC.out _ hbv) ?_
      rintro e v2 ⟨hg, ar, car, asx, casx, rfl, hl1, hl2⟩
      have hbx : Below w1.heap.size w1 v2 := hbv.trans (hg.mono hbv.size)
      have k0 := cell_keeps hg k0
      have k1 := cell_keeps hg k1
      have k2 := cell_keeps hg k2
      have k3 := cell_keeps hg k3
      have HBna : Hid (Bx8 v2 na (.int .i64 x1.1.kind) (.int .i64 x1.1.num) (.string x1.1.text) (.slice ap x1.1.items.length cap) (.int .i64 x1.2.kind) (.int .i64 x1.2.num) (.string x1.2.text) (.slice aq x1.2.items.length caq)) := HBna.out.keeps hg
      have HLna : Hid (PrL v2 x1 (.slice ap x1.1.items.length cap) (.slice aq x1.2.items.length caq)) := HLna.out.keeps hg

      clear hg HC hbv
      obtain ⟨nb, hnb⟩ : ∃ n, n = v2.heap.size := ⟨_, rfl⟩
      obtain ⟨W2, hW⟩ : ∃ W, W = v2.alloc (.cells #[.int .i64 x1.1.kind, .int .i64 x1.1.num, .string x1.1.text, .slice ar x1.1.items.length car, .int .i64 x1.2.kind, .int .i64 x1.2.num, .string x1.2.text, .slice asx x1.2.items.length casx] 33) := ⟨_, rfl⟩
      have HW : Hid (W2 = v2.alloc (.cells #[.int .i64 x1.1.kind, .int .i64 x1.1.num, .string x1.1.text, .slice ar x1.1.items.length car, .int .i64 x1.2.kind, .int .i64 x1.2.num, .string x1.2.text, .slice asx x1.2.items.length casx] 33)) := hW
      have hal : Below v2.heap.size v2 W2 := by rw [hW]; exact ((Grew.refl v2).alloc _).below
      have HBnb : Hid (Bx8 W2 nb (.int .i64 x1.1.kind) (.int .i64 x1.1.num) (.string x1.1.text) (.slice ar x1.1.items.length car) (.int .i64 x1.2.kind) (.int .i64 x1.2.num) (.string x1.2.text) (.slice asx x1.2.items.length casx)) := by rw [hW, hnb]; exact bx8_alloc _ _ _ _ _ _ _ _ _ _
      have HLnb : Hid (PrL W2 x1 (.slice ar x1.1.items.length car) (.slice asx x1.2.items.length casx)) := (⟨LiesB.lies _ _ _ hl1, LiesB.lies _ _ _ hl2⟩ : PrL v2 x1 _ _).keeps hal
      have hbv : Below w1.heap.size w1 W2 := hbx.trans (hal.mono hbx.size)
      have k0 := cell_keeps hal k0
      have k1 := cell_keeps hal k1
      have k2 := cell_keeps hal k2
      have k3 := cell_keeps hal k3
      have HBna : Hid (Bx8 W2 na (.int .i64 x1.1.kind) (.int .i64 x1.1.num) (.string x1.1.text) (.slice ap x1.1.items.length cap) (.int .i64 x1.2.kind) (.int .i64 x1.2.num) (.string x1.2.text) (.slice aq x1.2.items.length caq)) := HBna.out.keeps hal
      have HLna : Hid (PrL W2 x1 (.slice ap x1.1.items.length cap) (.slice aq x1.2.items.length caq)) := HLna.out.keeps hal
      clear hW hal hl1 hl2 hbx
      go_upto_region 11 with fail
      rw [← HW.out, ← hnb]
      clear HW hnb

      obtain ⟨y0, y1, y2, y3, y4, y5, y6, y7, _, _, _, _, _, _, _, _, _⟩ := HBna.out
      obtain ⟨z0, z1, z2, z3, z4, z5, z6, z7, _, _, _, _, _, _, _, _, _⟩ := HBnb.out
      have HP : Hid _ := pair_same x1 _ _ _ _ W2 HLna.out HLnb.out
      go_wp2_with fail
      refine Calls.mono HP.out ?_
      rintro e v3 ⟨rfl, hg⟩
      have hbw : Below w1.heap.size w1 v3 := hbv.trans (hg.mono hbv.size)
      have k0 := cell_keeps hg k0
      have k1 := cell_keeps hg k1
      have k2 := cell_keeps hg k2
      have k3 := cell_keeps hg k3

      clear hg HP hbv y0 y1 y2 y3 y4 y5 y6 y7 z0 z1 z2 z3 z4 z5 z6 z7 HBna HBnb HLna HLnb
      cases hO3 : itemAt t.items ((m : Int) - 1) with
      | none =>
        have HF3 : Hid (Calls Tryz.prog 11 #[.pointer (some ⟨b, 0, none⟩), .agg #[.int .i64 y.kind, .int .i64 y.num, .string y.text, .slice ay y.items.length cy]] v3 (Pr3 zeroPT false 0 v3)) := by have h9 := HF.out v3 hbw; rw [hO3] at h9; exact h9
        have hn0 : n = 0 := by
          have h9 := HML.out.1
          have h8 := HMN.out
          by_cases h7 : m = 0
          · omega
          · obtain ⟨m', rfl⟩ : ∃ m', m = m' + 1 := ⟨m - 1, by omega⟩
            have h6 : ((m' + 1 : Nat) : Int) - 1 = (m' : Int) := by omega
            rw [h6, itemAt_nat, List.getElem?_eq_none_iff] at hO3
            omega
        subst hn0
        clear HF hO3 HMN HML
        go_wp2_with fail
        refine Calls.mono HF3.out ?_
        rintro e v4 ⟨hg, a1, c1, a2, c2, rfl, _, _⟩
        have hbu : Below w1.heap.size w1 v4 := hbw.trans (hg.mono hbw.size)
        have HB4 : Hid (∀ A, Below w.heap.size w (v4.alloc A)) := fun A => (Hb1.out.trans (hbu.mono Hb1.out.size)).trans (((Grew.refl v4).alloc A).below.mono (Hb1.out.trans (hbu.mono Hb1.out.size)).size)
        clear hg hbw hbu HF3 k0 k1 k2 k3
        go_wp2_with fail
        refine Calls.mono (HSp.out _) ?_
        rintro e w9 ⟨rfl, hg9⟩
        have hb9 : Below w.heap.size w w9 := (HB4.out _).trans (hg9.mono (HB4.out _).size)
        clear hg9
        go_wp2_with fail
        go_ret
        exact ⟨rfl, hb9⟩
      | some x3 =>
        obtain ⟨r, hr0, hrx⟩ : ∃ r : Nat, m = r + 1 ∧ t.items[r]? = some x3 := by
          by_cases h7 : m = 0
          · subst h7
            have h8 : itemAt t.items (((0 : Nat) : Int) - 1) = none := by unfold itemAt; rw [if_neg (by omega)]
            rw [h8] at hO3
            cases hO3
          · obtain ⟨m', rfl⟩ : ∃ m', m = m' + 1 := ⟨m - 1, by omega⟩
            refine ⟨m', rfl, ?_⟩
            have h6 : ((m' + 1 : Nat) : Int) - 1 = (m' : Int) := by omega
            rwa [h6, itemAt_nat] at hO3
        have HF3 : Hid (Calls Tryz.prog 11 #[.pointer (some ⟨b, 0, none⟩), .agg #[.int .i64 y.kind, .int .i64 y.num, .string y.text, .slice ay y.items.length cy]] v3 (Pr3 x3 true 0 v3)) := by have h9 := HF.out v3 hbw; rw [hO3] at h9; exact h9
        have hmem : x3 ∈ t.items := List.mem_of_getElem? hrx
        have hg3 := (HM.out.right x3 hmem).1
        have hx3t : x3.1.text.size ≤ 9223372036854775807 := Nat.le_trans (right_text (right_own hg3.1)).1 (by omega)
        obtain ⟨O4, hO4⟩ : ∃ O, O = itemAt t.items ((r : Int) + 1) := ⟨_, rfl⟩
        have HR3 : Hid (∀ (a : Option Addr) (c : Nat) V, Below w1.heap.size w1 V → Lies 16 V x3.1.items (.slice a x3.1.items.length c) → Calls Tryz.prog 22 #[.pointer (some ⟨b, 0, none⟩), .agg #[.int .i64 x3.1.kind, .int .i64 x3.1.num, .string x3.1.text, .slice a x3.1.items.length c]] V fun e w' => e = .returned (.tuple #[.int .i64 (r : Int), .int .i64 0]) ∧ Below V.heap.size V w') := fun a c V hV hl => by
          have h9 := rank15_right 16 b q t x3.1 _ V (HM.out.keeps hV) hl hx3t hg3.1
          rw [upTo_at HM.out hrx false] at h9
          exact h9
        have HH3 : Hid (∀ (a : Option Addr) (c : Nat) V, Below w1.heap.size w1 V → Lies 16 V x3.1.items (.slice a x3.1.items.length c) → Calls Tryz.prog 17 #[.pointer (some ⟨b, 0, none⟩), .agg #[.int .i64 x3.1.kind, .int .i64 x3.1.num, .string x3.1.text, .slice a x3.1.items.length c]] V (Pr3 (orZ O4) O4.isSome 0 V)) := fun a c V hV hl => by
          have h9 := higher15_right 16 b q t x3.1 _ V (HM.out.keeps hV) hl hx3t hg3.1
          rw [upTo_at HM.out hrx true] at h9
          rw [hO4]
          exact Calls.mono h9 fun e w' h => h.pr
        have HA3 : Hid (∀ V, Below w1.heap.size w1 V → Calls Tryz.prog 20 #[.pointer (some ⟨b, 0, none⟩), .int .i64 ((r : Int) + 1)] V (PrE (orZ O4) (orE O4) V)) := fun V hV => by rw [hO4]; exact Calls.mono (rat_15 b q t _ V (HM.out.keeps hV)) fun e w' h => h.pr
        have hrn : n = r ∨ n = r + 1 := by have := HMN.out; omega
        have HRN : Hid (n = r ∨ n = r + 1) := hrn
        have hrz : r < 65536 := by have := HML.out; omega
        have e1 : IntKind.i64.wrap ((r : Int) + 1) = (r : Int) + 1 := by rw [IntKind.wrap_i64]; omega
        have hBE : O4.isSome = (orE O4 == 0) := by cases O4 <;> rfl
        rw [hBE] at HH3
        clear HF hO3 HMN HML hrx hmem hg3 hx3t hO4 hrn hr0 hBE
        generalize orZ O4 = x4 at *
        generalize orE O4 = E4 at *
        go_wp2_with fail
        refine Calls.mono HF3.out ?_
        rintro e v4 ⟨hg, at', cat', au', cau', rfl, hl1, hl2⟩
        have hbx : Below w1.heap.size w1 v4 := hbw.trans (hg.mono hbw.size)
        clear hg HF3 hbw k0 k1 k2 k3
        obtain ⟨nc, hnc⟩ : ∃ n, n = v4.heap.size := ⟨_, rfl⟩
        obtain ⟨W4, hW⟩ : ∃ W, W = v4.alloc (.cells #[.int .i64 x3.1.kind, .int .i64 x3.1.num, .string x3.1.text, .slice at' x3.1.items.length cat', .int .i64 x3.2.kind, .int .i64 x3.2.num, .string x3.2.text, .slice au' x3.2.items.length cau'] 33) := ⟨_, rfl⟩
        have HW : Hid (W4 = v4.alloc (.cells #[.int .i64 x3.1.kind, .int .i64 x3.1.num, .string x3.1.text, .slice at' x3.1.items.length cat', .int .i64 x3.2.kind, .int .i64 x3.2.num, .string x3.2.text, .slice au' x3.2.items.length cau'] 33)) := hW
        have hal : Below v4.heap.size v4 W4 := by rw [hW]; exact ((Grew.refl v4).alloc _).below
        have HBnc : Hid (Bx8 W4 nc (.int .i64 x3.1.kind) (.int .i64 x3.1.num) (.string x3.1.text) (.slice at' x3.1.items.length cat') (.int .i64 x3.2.kind) (.int .i64 x3.2.num) (.string x3.2.text) (.slice au' x3.2.items.length cau')) := by rw [hW, hnc]; exact bx8_alloc _ _ _ _ _ _ _ _ _ _
        have HLnc : Hid (PrL W4 x3 (.slice at' x3.1.items.length cat') (.slice au' x3.2.items.length cau')) := (⟨LiesB.lies _ _ _ hl1, LiesB.lies _ _ _ hl2⟩ : PrL v4 x3 _ _).keeps hal
        have hbv : Below w1.heap.size w1 W4 := hbx.trans (hal.mono hbx.size)
        clear hW hal hl1 hl2 hbx
        go_upto_region 14 with fail
        rw [← HW.out, ← hnc]
        clear HW hnc

        obtain ⟨y0, y1, y2, y3, y4, y5, y6, y7, _, _, _, _, _, _, _, _, _⟩ := HBnc.out
        go_wp2_with fail
        refine Calls.mono (HR3.out _ _ _ hbv HLnc.out.key) ?_
        rintro e v5 ⟨rfl, hg⟩
        have hbw : Below w1.heap.size w1 v5 := hbv.trans (hg.mono hbv.size)
        have y0 := cell_keeps hg y0
        have y1 := cell_keeps hg y1
        have y2 := cell_keeps hg y2
        have y3 := cell_keeps hg y3
        have HBnc : Hid (Bx8 v5 nc (.int .i64 x3.1.kind) (.int .i64 x3.1.num) (.string x3.1.text) (.slice at' x3.1.items.length cat') (.int .i64 x3.2.kind) (.int .i64 x3.2.num) (.string x3.2.text) (.slice au' x3.2.items.length cau')) := HBnc.out.keeps hg
        have HLnc : Hid (PrL v5 x3 (.slice at' x3.1.items.length cat') (.slice au' x3.2.items.length cau')) := HLnc.out.keeps hg

        clear hg hbv HR3 y4 y5 y6 y7
        go_wp2_with fail
        refine Calls.mono (HH3.out _ _ _ hbw HLnc.out.key) ?_
        rintro e v6 ⟨hg, av, cav, aw, caw, rfl, hl1, hl2⟩
        have hbx : Below w1.heap.size w1 v6 := hbw.trans (hg.mono hbw.size)
        clear hg HH3 hbw y0 y1 y2 y3 HBnc HLnc
        obtain ⟨nd, hnd⟩ : ∃ n, n = v6.heap.size := ⟨_, rfl⟩
        obtain ⟨W6, hW⟩ : ∃ W, W = v6.alloc (.cells #[.int .i64 x4.1.kind, .int .i64 x4.1.num, .string x4.1.text, .slice av x4.1.items.length cav, .int .i64 x4.2.kind, .int .i64 x4.2.num, .string x4.2.text, .slice aw x4.2.items.length caw] 33) := ⟨_, rfl⟩
        have HW : Hid (W6 = v6.alloc (.cells #[.int .i64 x4.1.kind, .int .i64 x4.1.num, .string x4.1.text, .slice av x4.1.items.length cav, .int .i64 x4.2.kind, .int .i64 x4.2.num, .string x4.2.text, .slice aw x4.2.items.length caw] 33)) := hW
        have hal : Below v6.heap.size v6 W6 := by rw [hW]; exact ((Grew.refl v6).alloc _).below
        have HBnd : Hid (Bx8 W6 nd (.int .i64 x4.1.kind) (.int .i64 x4.1.num) (.string x4.1.text) (.slice av x4.1.items.length cav) (.int .i64 x4.2.kind) (.int .i64 x4.2.num) (.string x4.2.text) (.slice aw x4.2.items.length caw)) := by rw [hW, hnd]; exact bx8_alloc _ _ _ _ _ _ _ _ _ _
        have HLnd : Hid (PrL W6 x4 (.slice av x4.1.items.length cav) (.slice aw x4.2.items.length caw)) := (⟨LiesB.lies _ _ _ hl1, LiesB.lies _ _ _ hl2⟩ : PrL v6 x4 _ _).keeps hal
        have hbv : Below w1.heap.size w1 W6 := hbx.trans (hal.mono hbx.size)
        clear hW hal hl1 hl2 hbx
        go_upto_region 18 with fail
        rw [← HW.out, ← hnd]
        clear HW hnd

        go_wp2_with fail
        refine Calls.mono (HA3.out _ hbv) ?_
        rintro e v7 ⟨hg, ax, cax, az, caz, rfl, hl1, hl2⟩
        have hbx : Below w1.heap.size w1 v7 := hbv.trans (hg.mono hbv.size)
        have HBnd : Hid (Bx8 v7 nd (.int .i64 x4.1.kind) (.int .i64 x4.1.num) (.string x4.1.text) (.slice av x4.1.items.length cav) (.int .i64 x4.2.kind) (.int .i64 x4.2.num) (.string x4.2.text) (.slice aw x4.2.items.length caw)) := HBnd.out.keeps hg
        have HLnd : Hid (PrL v7 x4 (.slice av x4.1.items.length cav) (.slice aw x4.2.items.length caw)) := HLnd.out.keeps hg

        clear hg HA3 hbv e1
        obtain ⟨ne, hne⟩ : ∃ n, n = v7.heap.size := ⟨_, rfl⟩
        obtain ⟨W7, hW⟩ : ∃ W, W = v7.alloc (.cells #[.int .i64 x4.1.kind, .int .i64 x4.1.num, .string x4.1.text, .slice ax x4.1.items.length cax, .int .i64 x4.2.kind, .int .i64 x4.2.num, .string x4.2.text, .slice az x4.2.items.length caz] 33) := ⟨_, rfl⟩
        have HW : Hid (W7 = v7.alloc (.cells #[.int .i64 x4.1.kind, .int .i64 x4.1.num, .string x4.1.text, .slice ax x4.1.items.length cax, .int .i64 x4.2.kind, .int .i64 x4.2.num, .string x4.2.text, .slice az x4.2.items.length caz] 33)) := hW
        have hal : Below v7.heap.size v7 W7 := by rw [hW]; exact ((Grew.refl v7).alloc _).below
        have HBne : Hid (Bx8 W7 ne (.int .i64 x4.1.kind) (.int .i64 x4.1.num) (.string x4.1.text) (.slice ax x4.1.items.length cax) (.int .i64 x4.2.kind) (.int .i64 x4.2.num) (.string x4.2.text) (.slice az x4.2.items.length caz)) := by rw [hW, hne]; exact bx8_alloc _ _ _ _ _ _ _ _ _ _
        have HLne : Hid (PrL W7 x4 (.slice ax x4.1.items.length cax) (.slice az x4.2.items.length caz)) := (⟨LiesB.lies _ _ _ hl1, LiesB.lies _ _ _ hl2⟩ : PrL v7 x4 _ _).keeps hal
        have hbv : Below w1.heap.size w1 W7 := hbx.trans (hal.mono hbx.size)
        have HBnd : Hid (Bx8 W7 nd (.int .i64 x4.1.kind) (.int .i64 x4.1.num) (.string x4.1.text) (.slice av x4.1.items.length cav) (.int .i64 x4.2.kind) (.int .i64 x4.2.num) (.string x4.2.text) (.slice aw x4.2.items.length caw)) := HBnd.out.keeps hal
        have HLnd : Hid (PrL W7 x4 (.slice av x4.1.items.length cav) (.slice aw x4.2.items.length caw)) := HLnd.out.keeps hal
        clear hW hal hl1 hl2 hbx
        go_upto_region 19 with fail
        rw [← HW.out, ← hne]
        clear HW hne

        obtain ⟨y0, y1, y2, y3, y4, y5, y6, y7, _, _, _, _, _, _, _, _, _⟩ := HBnd.out
        obtain ⟨z0, z1, z2, z3, z4, z5, z6, z7, _, _, _, _, _, _, _, _, _⟩ := HBne.out
        have HP : Hid _ := pair_same x4 _ _ _ _ W7 HLnd.out HLne.out
        go_wp2_with fail
        refine Calls.mono HP.out ?_
        rintro e v8 ⟨rfl, hg⟩
        have hb8 : Below w.heap.size w v8 := Hb1.out.trans ((hbv.trans (hg.mono hbv.size)).mono Hb1.out.size)
        clear hg HP hbv y0 y1 y2 y3 y4 y5 y6 y7 z0 z1 z2 z3 z4 z5 z6 z7 HBnd HBne HLnd HLne
        rcases HRN.out with hrn | hrn
        · subst hrn
          have e2 : ((n : Int) == (n : Int)) = true := by simp
          go_wp2_with fail
          refine Calls.mono (HSp.out _) ?_
          rintro e w9 ⟨rfl, hg9⟩
          have hb9 : Below w.heap.size w w9 := hb8.trans (hg9.mono hb8.size)
          clear hg9
          go_wp2_with fail
          go_ret
          exact ⟨rfl, hb9⟩
        · subst hrn
          have e2 : ((r : Int) == ((r + 1 : Nat) : Int)) = false := by simp; omega
          have e3 : IntKind.i64.wrap (((r + 1 : Nat) : Int) - 1) = (r : Int) := by rw [IntKind.wrap_i64]; omega
          have e4 : ((r : Int) == (r : Int)) = true := by simp
          go_wp2_with fail
          refine Calls.mono (HSp.out _) ?_
          rintro e w9 ⟨rfl, hg9⟩
          have hb9 : Below w.heap.size w w9 := hb8.trans (hg9.mono hb8.size)
          clear hg9
          go_wp2_with fail
          go_ret
          exact ⟨rfl, hb9⟩

end Go.Proofs.YtpgpnhihdboghaaGreat

