/-
  lastOf and firstBeyond.
-/
import Derived.Test.YtpmodiodpilmeaaGreatInPlM
namespace Go.Proofs.YtpmodiodpilmeaaGreat
open Go.RowKit Go.Shelf

set_option maxRecDepth 100000 in
set_option maxHeartbeats 8000000 in
theorem inpl_neg (b q : Nat) (t : RT PT) (i : Int) (w : World) (hm : MC w q t b) (hi : i < 0) : Calls Tryz.prog 43 #[.pointer (some ⟨b, 0, none⟩), .int .i64 i] w (InPost none w) := by
  obtain ⟨po, hpo, hn⟩ := hm.top
  have HWh : Hid (∀ V, Below w.heap.size w V → Calls Tryz.prog 68 #[.pointer (some ⟨b, 0, none⟩)] V (PartPost q po V)) := fun V hV => whole_15 b q po V (cell_keeps hV hm.ord) (cell_keeps hV hpo)
  have HB : Hid (Below w.heap.size w (w.alloc (.cells #[.int .i64 0, .int .i64 0, .string ⟨#[]⟩, .slice none 0 0, .int .i64 0, .int .i64 0, .string ⟨#[]⟩, .slice none 0 0] 33))) := ((Grew.refl w).alloc _).below
  have HZ : Hid (Bx8 (w.alloc (.cells #[.int .i64 0, .int .i64 0, .string ⟨#[]⟩, .slice none 0 0, .int .i64 0, .int .i64 0, .string ⟨#[]⟩, .slice none 0 0] 33)) w.heap.size (.int .i64 0) (.int .i64 0) (.string ⟨#[]⟩) (.slice none 0 0) (.int .i64 0) (.int .i64 0) (.string ⟨#[]⟩) (.slice none 0 0)) := bx8_alloc _ _ _ _ _ _ _ _ _ _
  clear hm hpo hn
  go_enter Tryz.func43, Tryz.ntmps43
  go_wp2_with fail
  refine Calls.mono (HWh.out _ HB.out) ?_
  rintro e w2 ⟨rfl, hg2⟩
  have hb2 : Below w.heap.size w w2 := HB.out.trans (hg2.mono HB.out.size)
  have HZ2 : Hid (Bx8 w2 w.heap.size (.int .i64 0) (.int .i64 0) (.string ⟨#[]⟩) (.slice none 0 0) (.int .i64 0) (.int .i64 0) (.string ⟨#[]⟩) (.slice none 0 0)) := HZ.out.keeps hg2
  obtain ⟨W3, hW3⟩ : ∃ W3, W3 = w2.alloc (.cells #[.int .i64 (q : Int), .pointer po] 111) := ⟨_, rfl⟩
  have HW3 : Hid (W3 = w2.alloc (.cells #[.int .i64 (q : Int), .pointer po] 111)) := hW3
  have hal : Below w2.heap.size w2 W3 := by rw [hW3]; exact ((Grew.refl w2).alloc _).below
  have HP3 : Hid (Bx2 W3 w2.heap.size (.int .i64 (q : Int)) (.pointer po)) := by rw [hW3]; exact bx2_alloc _ _ _ _
  have hb3 : Below w.heap.size w W3 := hb2.trans (hal.mono hb2.size)
  have HZ3 : Hid (Bx8 W3 w.heap.size (.int .i64 0) (.int .i64 0) (.string ⟨#[]⟩) (.slice none 0 0) (.int .i64 0) (.int .i64 0) (.string ⟨#[]⟩) (.slice none 0 0)) := HZ2.out.keeps hal
  obtain ⟨b0, b1, _, _⟩ := HP3.out
  clear hW3 hal hg2 hb2 HB HZ HZ2 HWh
  go_upto_region 2 with fail
  rw [← HW3.out]
  clear HW3
  obtain ⟨y0, y1, y2, y3, y4, y5, y6, y7, f0, f1, f2, f3, f4, f5, f6, f7, _⟩ := HZ3.out
  have Hq : Hid _ := put8_in HZ3.out (.int .i64 0) (.int .i64 0) (.string ⟨#[]⟩) (.slice none 0 0) (.int .i64 0) (.int .i64 0) (.string ⟨#[]⟩) (.slice none 0 0)
  have HE : Hid (InPost none w (.returned (.tuple #[.agg #[.int .i64 0, .int .i64 0, .string ⟨#[]⟩, .slice none 0 0, .int .i64 0, .int .i64 0, .string ⟨#[]⟩, .slice none 0 0], .bool false])) (W3.setCells w.heap.size 0 [.int .i64 0, .int .i64 0, .string ⟨#[]⟩, .slice none 0 0, .int .i64 0, .int .i64 0, .string ⟨#[]⟩, .slice none 0 0])) := ⟨below_put8 hb3 (Nat.le_refl _) _ _ _ _ _ _ _ _, .inl ⟨rfl, rfl⟩⟩
  clear hb3
  go_wp2_with fail
  refine bodyPost_ret (v := .tuple #[.agg #[.int .i64 0, .int .i64 0, .string ⟨#[]⟩, .slice none 0 0, .int .i64 0, .int .i64 0, .string ⟨#[]⟩, .slice none 0 0], .bool false]) ?_ rfl HE.out
  obtain ⟨q0, q1, q2, q3, q4, q5, q6, q7⟩ := Hq.out
  simp only [World.setCells, Nat.zero_add, Nat.reduceAdd] at q0 q1 q2 q3 q4 q5 q6 q7
  simp [results, Tryz.results43, go_sem, q0, q1, q2, q3, q4, q5, q6, q7]

set_option maxRecDepth 100000 in
set_option maxHeartbeats 8000000 in
theorem inpl_far (b q : Nat) (t : RT PT) (i : Int) (w : World) (hm : MC w q t b) (hi : ¬ i < 0 ∧ (t.size : Int) ≤ i) : Calls Tryz.prog 43 #[.pointer (some ⟨b, 0, none⟩), .int .i64 i] w (InPost none w) := by
  obtain ⟨po, hpo, hn⟩ := hm.top
  have HWh : Hid (∀ V, Below w.heap.size w V → Calls Tryz.prog 68 #[.pointer (some ⟨b, 0, none⟩)] V (PartPost q po V)) := fun V hV => whole_15 b q po V (cell_keeps hV hm.ord) (cell_keeps hV hpo)
  obtain ⟨hi0, hi1⟩ := hi
  obtain ⟨N, hN⟩ : ∃ N, N = t.size := ⟨_, rfl⟩
  have HL : Hid (∀ V, Below w.heap.size w V → Calls Tryz.prog 69 #[.agg #[.int .i64 (q : Int), .pointer po]] V fun e w' => e = .returned (.int .i64 (N : Int)) ∧ Below V.heap.size V w') := fun V hV => by rw [hN]; exact plen_15 q (hn.keeps hV)
  rw [← hN] at hi1
  clear hN
  have HB : Hid (Below w.heap.size w (w.alloc (.cells #[.int .i64 0, .int .i64 0, .string ⟨#[]⟩, .slice none 0 0, .int .i64 0, .int .i64 0, .string ⟨#[]⟩, .slice none 0 0] 33))) := ((Grew.refl w).alloc _).below
  have HZ : Hid (Bx8 (w.alloc (.cells #[.int .i64 0, .int .i64 0, .string ⟨#[]⟩, .slice none 0 0, .int .i64 0, .int .i64 0, .string ⟨#[]⟩, .slice none 0 0] 33)) w.heap.size (.int .i64 0) (.int .i64 0) (.string ⟨#[]⟩) (.slice none 0 0) (.int .i64 0) (.int .i64 0) (.string ⟨#[]⟩) (.slice none 0 0)) := bx8_alloc _ _ _ _ _ _ _ _ _ _
  clear hm hpo hn
  go_enter Tryz.func43, Tryz.ntmps43
  go_wp2_with fail
  refine Calls.mono (HWh.out _ HB.out) ?_
  rintro e w2 ⟨rfl, hg2⟩
  have hb2 : Below w.heap.size w w2 := HB.out.trans (hg2.mono HB.out.size)
  have HZ2 : Hid (Bx8 w2 w.heap.size (.int .i64 0) (.int .i64 0) (.string ⟨#[]⟩) (.slice none 0 0) (.int .i64 0) (.int .i64 0) (.string ⟨#[]⟩) (.slice none 0 0)) := HZ.out.keeps hg2
  obtain ⟨W3, hW3⟩ : ∃ W3, W3 = w2.alloc (.cells #[.int .i64 (q : Int), .pointer po] 111) := ⟨_, rfl⟩
  have HW3 : Hid (W3 = w2.alloc (.cells #[.int .i64 (q : Int), .pointer po] 111)) := hW3
  have hal : Below w2.heap.size w2 W3 := by rw [hW3]; exact ((Grew.refl w2).alloc _).below
  have HP3 : Hid (Bx2 W3 w2.heap.size (.int .i64 (q : Int)) (.pointer po)) := by rw [hW3]; exact bx2_alloc _ _ _ _
  have hb3 : Below w.heap.size w W3 := hb2.trans (hal.mono hb2.size)
  have HZ3 : Hid (Bx8 W3 w.heap.size (.int .i64 0) (.int .i64 0) (.string ⟨#[]⟩) (.slice none 0 0) (.int .i64 0) (.int .i64 0) (.string ⟨#[]⟩) (.slice none 0 0)) := HZ2.out.keeps hal
  obtain ⟨b0, b1, _, _⟩ := HP3.out
  clear hW3 hal hg2 hb2 HB HZ HZ2 HWh
  go_upto_region 2 with fail
  rw [← HW3.out]
  clear HW3
  go_wp2_with fail
  refine Calls.mono (HL.out _ hb3) ?_
  rintro e w4 ⟨rfl, hg4⟩
  have HZ3 : Hid (Bx8 w4 w.heap.size (.int .i64 0) (.int .i64 0) (.string ⟨#[]⟩) (.slice none 0 0) (.int .i64 0) (.int .i64 0) (.string ⟨#[]⟩) (.slice none 0 0)) := HZ3.out.keeps hg4
  have hb3 : Below w.heap.size w w4 := hb3.trans (hg4.mono hb3.size)
  clear hg4 HL b0 b1
  obtain ⟨y0, y1, y2, y3, y4, y5, y6, y7, f0, f1, f2, f3, f4, f5, f6, f7, _⟩ := HZ3.out
  have Hq : Hid _ := put8_in HZ3.out (.int .i64 0) (.int .i64 0) (.string ⟨#[]⟩) (.slice none 0 0) (.int .i64 0) (.int .i64 0) (.string ⟨#[]⟩) (.slice none 0 0)
  have HE : Hid (InPost none w (.returned (.tuple #[.agg #[.int .i64 0, .int .i64 0, .string ⟨#[]⟩, .slice none 0 0, .int .i64 0, .int .i64 0, .string ⟨#[]⟩, .slice none 0 0], .bool false])) (w4.setCells w.heap.size 0 [.int .i64 0, .int .i64 0, .string ⟨#[]⟩, .slice none 0 0, .int .i64 0, .int .i64 0, .string ⟨#[]⟩, .slice none 0 0])) := ⟨below_put8 hb3 (Nat.le_refl _) _ _ _ _ _ _ _ _, .inl ⟨rfl, rfl⟩⟩
  clear hb3
  go_wp2_with fail
  refine bodyPost_ret (v := .tuple #[.agg #[.int .i64 0, .int .i64 0, .string ⟨#[]⟩, .slice none 0 0, .int .i64 0, .int .i64 0, .string ⟨#[]⟩, .slice none 0 0], .bool false]) ?_ rfl HE.out
  obtain ⟨q0, q1, q2, q3, q4, q5, q6, q7⟩ := Hq.out
  simp only [World.setCells, Nat.zero_add, Nat.reduceAdd] at q0 q1 q2 q3 q4 q5 q6 q7
  simp [results, Tryz.results43, go_sem, q0, q1, q2, q3, q4, q5, q6, q7]

set_option maxRecDepth 100000 in
set_option maxHeartbeats 8000000 in
theorem inpl_in (b q j : Nat) (t : RT PT) (w : World) (hm : MC w q t b) (hj : j < t.size) : Calls Tryz.prog 43 #[.pointer (some ⟨b, 0, none⟩), .int .i64 (j : Int)] w (InPost (RT.nth t j) w) := by
  obtain ⟨po, hpo, hn⟩ := hm.top
  have HWh : Hid (∀ V, Below w.heap.size w V → Calls Tryz.prog 68 #[.pointer (some ⟨b, 0, none⟩)] V (PartPost q po V)) := fun V hV => whole_15 b q po V (cell_keeps hV hm.ord) (cell_keeps hV hpo)
  obtain ⟨N, hN⟩ : ∃ N, N = t.size := ⟨_, rfl⟩
  have HL : Hid (∀ V, Below w.heap.size w V → Calls Tryz.prog 69 #[.agg #[.int .i64 (q : Int), .pointer po]] V fun e w' => e = .returned (.int .i64 (N : Int)) ∧ Below V.heap.size V w') := fun V hV => by rw [hN]; exact plen_15 q (hn.keeps hV)
  have HN : Hid (NM TT 16 w t po) := hn
  have HB : Hid (Below w.heap.size w (w.alloc (.cells #[.int .i64 0, .int .i64 0, .string ⟨#[]⟩, .slice none 0 0, .int .i64 0, .int .i64 0, .string ⟨#[]⟩, .slice none 0 0] 33))) := ((Grew.refl w).alloc _).below
  have HZ : Hid (Bx8 (w.alloc (.cells #[.int .i64 0, .int .i64 0, .string ⟨#[]⟩, .slice none 0 0, .int .i64 0, .int .i64 0, .string ⟨#[]⟩, .slice none 0 0] 33)) w.heap.size (.int .i64 0) (.int .i64 0) (.string ⟨#[]⟩) (.slice none 0 0) (.int .i64 0) (.int .i64 0) (.string ⟨#[]⟩) (.slice none 0 0)) := bx8_alloc _ _ _ _ _ _ _ _ _ _
  obtain ⟨O, hO⟩ : ∃ O, O = RT.nth t j := ⟨_, rfl⟩
  have HO : Hid (RT.nth t j = O) := hO.symm
  rw [← hO]
  have HR : Hid (∀ x ∈ t.items, rightV 16 x.1 = true ∧ rightV 16 x.2 = true) := fun x hx => ⟨(hm.right x hx).1.1, (hm.right x hx).2.1⟩
  have HSz : Hid (t.size ≤ 65536) := hm.size
  have HJ : Hid (j < t.size) := hj
  have HNs : Hid (N = t.size) := hN
  have hi0 : ¬ (j : Int) < 0 := by omega
  have hi1 : ¬ (N : Int) ≤ (j : Int) := by omega
  clear hm hpo hn hO hj hN
  go_enter Tryz.func43, Tryz.ntmps43
  go_wp2_with fail
  refine Calls.mono (HWh.out _ HB.out) ?_
  rintro e w2 ⟨rfl, hg2⟩
  have hb2 : Below w.heap.size w w2 := HB.out.trans (hg2.mono HB.out.size)
  have HZ2 : Hid (Bx8 w2 w.heap.size (.int .i64 0) (.int .i64 0) (.string ⟨#[]⟩) (.slice none 0 0) (.int .i64 0) (.int .i64 0) (.string ⟨#[]⟩) (.slice none 0 0)) := HZ.out.keeps hg2
  obtain ⟨W3, hW3⟩ : ∃ W3, W3 = w2.alloc (.cells #[.int .i64 (q : Int), .pointer po] 111) := ⟨_, rfl⟩
  have HW3 : Hid (W3 = w2.alloc (.cells #[.int .i64 (q : Int), .pointer po] 111)) := hW3
  have hal : Below w2.heap.size w2 W3 := by rw [hW3]; exact ((Grew.refl w2).alloc _).below
  obtain ⟨B, hB⟩ : ∃ B, B = w2.heap.size := ⟨_, rfl⟩
  have HBe : Hid (B = w2.heap.size) := hB
  have HI3 : Hid (ISt w W3 q O t po B j) := by
    refine ⟨?_, HZ2.out.keeps hal, ?_, HN.out, HO.out, HJ.out, HR.out, HSz.out, hb2.trans (hal.mono hb2.size)⟩
    · rw [hW3, hB]; exact bx2_alloc _ _ _ _
    · rw [hB]; have h9 := cell_lt HZ2.out.c0; simpa using h9
  obtain ⟨b0, b1, _, _⟩ := HI3.out.box
  have hb3 := HI3.out.below
  clear hW3 hal hg2 hb2 hB HB HZ HZ2 HWh HN HO HJ HR HSz
  go_upto_region 2 with fail
  rw [← HW3.out, ← HBe.out]
  clear HW3 HBe
  go_wp2_with fail
  refine Calls.mono (HL.out _ hb3) ?_
  rintro e w4 ⟨rfl, hg4⟩
  have HI4 : Hid (ISt w w4 q O t po B j) := HI3.out.keeps hg4
  have HJ4 : Hid (j < 65536) := by have := HI3.out.size; have := HI3.out.lt; show _ < _; omega
  clear hg4 HL b0 b1 HI3 hb3
  go_wp2_with fail
  generalize decide (N ≤ j) = D1
  generalize decide ((j : Int) < 0) = D0
  go_loopg [1] N (fun z v1 wr => ∃ (s : RT PT) (p : Option Addr) (j : Nat), v1 = .int .i64 (j : Int) ∧ Hid (z = s.size) ∧ Hid (ISt w wr q O s p B j))
  case atStart => exact ⟨t, po, j, rfl, HNs, HI4⟩
  case round =>
    obtain ⟨s, p, j, rfl, Hz, HSt⟩ := hrel
    clear HI4 HNs HJ4 hi0 hi1
    cases s with
    | nil => exact absurd HSt.out.lt (by simp [RT.size])
    | node c l x r =>
      obtain ⟨bb, pl, pr, ku, vu, hp, hc, hk, hv, hl, hr⟩ := HSt.out.nm
      subst hp
      obtain ⟨b0, b1, _, _⟩ := HSt.out.box
      have hbw : Below w.heap.size w wr := HSt.out.below
      have HAh : Hid (∀ V, Below w.heap.size w V → Calls Tryz.prog 70 #[.agg #[.int .i64 (q : Int), .pointer (some ⟨bb, 0, none⟩)]] V (PartPost q pl V)) := fun V hV => pahead_15 q bb pl pr x ku vu c _ _ _ V (hc.keeps hV)
      have HBh : Hid (∀ V, Below w.heap.size w V → Calls Tryz.prog 71 #[.agg #[.int .i64 (q : Int), .pointer (some ⟨bb, 0, none⟩)]] V (PartPost q pr V)) := fun V hV => pbehind_15 q bb pl pr x ku vu c _ _ _ V (hc.keeps hV)
      have HPr : Hid (∀ V, Below w.heap.size w V → Calls Tryz.prog 72 #[.agg #[.int .i64 (q : Int), .pointer (some ⟨bb, 0, none⟩)]] V (CopiedPost x V)) := fun V hV => ppair_15 q bb pl pr x ku vu c _ _ _ V (hc.keeps hV) (LiesX.keeps hV hk.1).lies (LiesX.keeps hV hv.1).lies (HSt.out.sub x (by simp [RT.items]))
      obtain ⟨M, hM⟩ : ∃ M, M = l.size := ⟨_, rfl⟩
      have HLl : Hid (∀ V, Below w.heap.size w V → Calls Tryz.prog 69 #[.agg #[.int .i64 (q : Int), .pointer pl]] V fun e w' => e = .returned (.int .i64 (M : Int)) ∧ Below V.heap.size V w') := fun V hV => by rw [hM]; exact plen_15 q (hl.keeps hV)
      have HNl : Hid (NM TT 16 w l pl) := hl
      have HNr : Hid (NM TT 16 w r pr) := hr
      have HM : Hid (M = l.size) := hM
      have HZn : Hid ((RT.node c l x r).size = l.size + 1 + r.size) := rfl
      have HAt : Hid ((if j < M then RT.nth l j else if M < j then RT.nth r (j - M - 1) else some x) = O) := by rw [hM]; exact HSt.out.at_
      clear hc hk hv hl hr hM
      go_wp2_with fail
      refine Calls.mono (HAh.out _ hbw) ?_
      rintro e w5 ⟨rfl, hg5⟩
      obtain ⟨W6, hW6⟩ : ∃ W6, W6 = w5.alloc (.cells #[.int .i64 (q : Int), .pointer pl] 111) := ⟨_, rfl⟩
      have HW6 : Hid (W6 = w5.alloc (.cells #[.int .i64 (q : Int), .pointer pl] 111)) := hW6
      obtain ⟨B6, hB6⟩ : ∃ B6, B6 = w5.heap.size := ⟨_, rfl⟩
      have HB6 : Hid (B6 = w5.heap.size) := hB6
      have HP6 : Hid (Bx2 W6 B6 (.int .i64 (q : Int)) (.pointer pl)) := by rw [hW6, hB6]; exact bx2_alloc _ _ _ _
      have hal : Below w5.heap.size w5 W6 := by rw [hW6]; exact ((Grew.refl w5).alloc _).below
      have HI6 : Hid (ISt w W6 q O (.node c l x r) (some ⟨bb, 0, none⟩) B j) := (HSt.out.keeps hg5).keeps hal
      have HNe : Hid (B6 ≠ B) := by have h9 := cell_lt (HSt.out.keeps hg5).box.c0; simp only at h9; show _ ≠ _; omega
      obtain ⟨p0, p1, _, _⟩ := HP6.out
      have hb6 := HI6.out.below
      clear hW6 hB6 hal hg5 hbw b0 b1 HSt HAh
      go_upto_region 5 with fail
      rw [← HW6.out, ← HB6.out]
      clear HW6 HB6
      go_wp2_with fail
      refine Calls.mono (HLl.out _ hb6) ?_
      rintro e w7 ⟨rfl, hg7⟩
      have HI7 : Hid (ISt w w7 q O (.node c l x r) (some ⟨bb, 0, none⟩) B j) := HI6.out.keeps hg7
      have HP7 : Hid (Bx2 w7 B6 (.int .i64 (q : Int)) (.pointer pl)) := HP6.out.keeps hg7
      obtain ⟨b0, b1, fb0, fb1⟩ := HI7.out.box
      obtain ⟨p0, p1, _, _⟩ := HP7.out
      have hb7 := HI7.out.below
      have hne := HNe.out
      have hne2 : ¬ B = B6 := fun e => hne e.symm
      clear hg7 hb6 HI6 HP6 HLl
      by_cases g1 : (j : Int) < (M : Int)
      · have HX : Hid (ISt w (w7.setCells B 0 [.int .i64 (q : Int), .pointer pl]) q O l pl B j) := HI7.out.next HNl.out (by have h9 := HAt.out; rwa [if_pos (by omega)] at h9) (by have := HM.out; omega) (fun z hz => by simp [RT.items, hz]) (by have := HZn.out; omega)
        clear HAt
        go_wp2_with fail
        go_roundg l.size
        case measure => have := Hz.out; have := HZn.out; omega
        case rel => exact ⟨l, pl, j, rfl, rfl, HX⟩
      · by_cases g2 : (M : Int) < (j : Int)
        · have E1 : Hid (wrap64 (wrap64 ((j : Int) - (M : Int)) - 1) = ((j - M - 1 : Nat) : Int)) := by
            have h1 := HI7.out.lt; have h2 := HI7.out.size
            show _ = _
            unfold wrap64; omega
          clear p0 p1
          go_wp2_with fail
          refine Calls.mono (HBh.out _ hb7) ?_
          rintro e w8 ⟨rfl, hg8⟩
          have HI8 : Hid (ISt w w8 q O (.node c l x r) (some ⟨bb, 0, none⟩) B j) := HI7.out.keeps hg8
          obtain ⟨b0, b1, fb0, fb1⟩ := HI8.out.box
          have HX : Hid (ISt w (w8.setCells B 0 [.int .i64 (q : Int), .pointer pr]) q O r pr B (j - M - 1)) := HI8.out.next HNr.out (by have h9 := HAt.out; rwa [if_neg (by omega), if_pos (by omega)] at h9) (by have := HI8.out.lt; have := HM.out; have := HZn.out; omega) (fun z hz => by simp [RT.items, hz]) (by have := HZn.out; omega)
          clear HAt hg8 HI7 hb7 HP7
          go_wp2_with fail
          go_roundg r.size
          case measure => have := Hz.out; have := HZn.out; omega
          case rel => exact ⟨r, pr, j - M - 1, congrArg (Value.int .i64) E1.out, rfl, HX⟩
        · have HOx : Hid (O = some x) := by have h9 := HAt.out; rw [if_neg (by omega), if_neg (by omega)] at h9; exact h9.symm
          clear HAt p0 p1
          go_wp2_with fail
          refine Calls.mono (HPr.out _ hb7) ?_
          rintro e w8 ⟨ku', vu', rfl, hl5, hl6, hg8⟩
          obtain ⟨a5, c5, rfl, _⟩ := LiesB.slice hl5
          obtain ⟨a6, c6, rfl, _⟩ := LiesB.slice hl6
          have HR8 : Hid (Bx8 w8 w.heap.size (.int .i64 0) (.int .i64 0) (.string ⟨#[]⟩) (.slice none 0 0) (.int .i64 0) (.int .i64 0) (.string ⟨#[]⟩) (.slice none 0 0)) := HI7.out.res.keeps hg8
          obtain ⟨y0, y1, y2, y3, y4, y5, y6, y7, f0, f1, f2, f3, f4, f5, f6, f7, _⟩ := HR8.out
          have Hq : Hid _ := put8_in HR8.out (.int .i64 x.1.kind) (.int .i64 x.1.num) (.string x.1.text) (.slice a5 x.1.items.length c5) (.int .i64 x.2.kind) (.int .i64 x.2.num) (.string x.2.text) (.slice a6 x.2.items.length c6)
          have hlt7 : w.heap.size < w7.heap.size := by have h9 := cell_lt HI7.out.res.c0; simpa using h9
          have hbz : Below w.heap.size w w8 := hb7.trans (hg8.mono hb7.size)
          have HE : Hid (InPost O w (.returned (.tuple #[.agg #[.int .i64 x.1.kind, .int .i64 x.1.num, .string x.1.text, .slice a5 x.1.items.length c5, .int .i64 x.2.kind, .int .i64 x.2.num, .string x.2.text, .slice a6 x.2.items.length c6], .bool true])) (w8.setCells w.heap.size 0 [.int .i64 x.1.kind, .int .i64 x.1.num, .string x.1.text, .slice a5 x.1.items.length c5, .int .i64 x.2.kind, .int .i64 x.2.num, .string x.2.text, .slice a6 x.2.items.length c6])) := ⟨below_put8 hbz (Nat.le_refl _) _ _ _ _ _ _ _ _, .inr ⟨x, _, _, HOx.out, rfl, LiesB.lower14 hb7.size _ _ _ (LiesB.put8 hlt7 _ hl5), LiesB.lower14 hb7.size _ _ _ (LiesB.put8 hlt7 _ hl6)⟩⟩
          clear hl5 hl6 hg8 hbz hlt7 hb7 HPr HOx fb0 fb1 b0 b1
          go_wp2_with fail
          refine bodyPost_ret (v := .tuple #[.agg #[.int .i64 x.1.kind, .int .i64 x.1.num, .string x.1.text, .slice a5 x.1.items.length c5, .int .i64 x.2.kind, .int .i64 x.2.num, .string x.2.text, .slice a6 x.2.items.length c6], .bool true]) ?_ rfl HE.out
          obtain ⟨q0, q1, q2, q3, q4, q5, q6, q7⟩ := Hq.out
          simp only [World.setCells, Nat.zero_add, Nat.reduceAdd] at q0 q1 q2 q3 q4 q5 q6 q7
          simp [results, Tryz.results43, go_sem, q0, q1, q2, q3, q4, q5, q6, q7]

theorem inpl_15 (b q : Nat) (t : RT PT) (i : Int) (w : World) (hm : MC w q t b) : Calls Tryz.prog 43 #[.pointer (some ⟨b, 0, none⟩), .int .i64 i] w (InPost (itemAt t.items i) w) := by
  unfold itemAt
  by_cases h0 : i < 0
  · rw [if_neg (by omega)]; exact inpl_neg b q t i w hm h0
  · rw [if_pos (by omega), ← RT.nth_items]
    by_cases h1 : (t.size : Int) ≤ i
    · have h9 : RT.nth t i.toNat = none := by
        rw [RT.nth_items, List.getElem?_eq_none_iff, ← RT.size_items]; omega
      rw [h9]; exact inpl_far b q t i w hm ⟨h0, h1⟩
    · obtain ⟨j, rfl⟩ : ∃ j : Nat, i = (j : Int) := ⟨i.toNat, by omega⟩
      exact inpl_in b q j t w hm (by omega)

end Go.Proofs.YtpmodiodpilmeaaGreat

namespace Go.Proofs.YtpmodiodpilmeaaGreat
open Go.RowKit Go.Shelf

/-- What is told of a pair next to a key. -/
def NearPost (o : Option PT) (E : Int) (w : World) (e : Ending) (w' : World) : Prop := Below w.heap.size w w' ∧ ((o = none ∧ e = .returned (.tuple #[zeroPV, .bool false, .int .i64 E])) ∨ ∃ x ku vu, o = some x ∧ E = 0 ∧ e = .returned (.tuple #[pairV x ku vu, .bool true, .int .i64 0]) ∧ LiesB w.heap.size 16 w' x.1.items ku ∧ LiesB w.heap.size 16 w' x.2.items vu)

set_option maxRecDepth 100000 in
set_option maxHeartbeats 8000000 in
theorem lasto_wrong (d b : Nat) (cn : Bool) (y : VT) (yu : Value) (w : World) (hy : Lies d w y.items yu) (ht : y.text.size ≤ 9223372036854775807) (hr : rightV d y = false) : Calls Tryz.prog 38 #[.pointer (some ⟨b, 0, none⟩), .agg #[.int .i64 y.kind, .int .i64 y.num, .string y.text, yu], .bool cn] w (NearPost none 3 w) := by
  obtain ⟨ak, ck, rfl, _⟩ := Lies.slice hy
  have HU : Hid (∀ V, Below w.heap.size w V → Calls Tryz.prog 44 #[.pointer (some ⟨b, 0, none⟩), .agg #[.int .i64 y.kind, .int .i64 y.num, .string y.text, .slice ak y.items.length ck], .bool cn] V fun e w' => e = .returned (.tuple #[.int .i64 0, .int .i64 3]) ∧ Below V.heap.size V w') := fun V hV => upto_wrong d b cn y _ V (Lies.keeps hV _ _ _ hy) ht hr
  obtain ⟨W0, hW0⟩ : ∃ W0, W0 = (w.alloc (.cells #[.int .i64 y.kind, .int .i64 y.num, .string y.text, .slice ak y.items.length ck] 25)).alloc (.cells #[.int .i64 0, .int .i64 0, .string ⟨#[]⟩, .slice none 0 0, .int .i64 0, .int .i64 0, .string ⟨#[]⟩, .slice none 0 0] 33) := ⟨_, rfl⟩
  have HW0 : Hid (W0 = (w.alloc (.cells #[.int .i64 y.kind, .int .i64 y.num, .string y.text, .slice ak y.items.length ck] 25)).alloc (.cells #[.int .i64 0, .int .i64 0, .string ⟨#[]⟩, .slice none 0 0, .int .i64 0, .int .i64 0, .string ⟨#[]⟩, .slice none 0 0] 33)) := hW0
  have hb0 : Below w.heap.size w W0 := by rw [hW0]; exact (((Grew.refl w).alloc _).alloc _).below
  have HS0 : Hid (W0.heap.size = w.heap.size + 1 + 1) := by rw [hW0]; show _ = _; simp
  have HK0 : Hid (Bx W0 w.heap.size y (.slice ak y.items.length ck)) := by rw [hW0]; exact (bx_alloc w y _).keeps ((Grew.refl _).alloc _).below
  have HZ0 : Hid (Bx8 W0 (w.heap.size + 1) (.int .i64 0) (.int .i64 0) (.string ⟨#[]⟩) (.slice none 0 0) (.int .i64 0) (.int .i64 0) (.string ⟨#[]⟩) (.slice none 0 0)) := by
    rw [hW0]
    have h9 := bx8_alloc (w.alloc (.cells #[.int .i64 y.kind, .int .i64 y.num, .string y.text, .slice ak y.items.length ck] 25)) 33 (.int .i64 0) (.int .i64 0) (.string ⟨#[]⟩) (.slice none 0 0) (.int .i64 0) (.int .i64 0) (.string ⟨#[]⟩) (.slice none 0 0)
    rwa [World.size_alloc] at h9
  obtain ⟨k0, k1, k2, k3, _, _, _, _⟩ := HK0.out
  clear hW0 hy ht hr
  go_enter Tryz.func38, Tryz.ntmps38
  go_upto_region 1 with fail
  rw [← HW0.out]
  clear HW0
  go_wp2_with fail
  refine Calls.mono (HU.out _ hb0) ?_
  rintro e w1 ⟨rfl, hg1⟩
  have HZ1 : Hid (Bx8 w1 (w.heap.size + 1) (.int .i64 0) (.int .i64 0) (.string ⟨#[]⟩) (.slice none 0 0) (.int .i64 0) (.int .i64 0) (.string ⟨#[]⟩) (.slice none 0 0)) := HZ0.out.keeps hg1
  obtain ⟨y0, y1, y2, y3, y4, y5, y6, y7, f0, f1, f2, f3, f4, f5, f6, f7, _⟩ := HZ1.out
  have Hq : Hid _ := put8_in HZ1.out (.int .i64 0) (.int .i64 0) (.string ⟨#[]⟩) (.slice none 0 0) (.int .i64 0) (.int .i64 0) (.string ⟨#[]⟩) (.slice none 0 0)
  have hb1 : Below w.heap.size w w1 := hb0.trans (hg1.mono hb0.size)
  have HE : Hid (NearPost none 3 w (.returned (.tuple #[.agg #[.int .i64 0, .int .i64 0, .string ⟨#[]⟩, .slice none 0 0, .int .i64 0, .int .i64 0, .string ⟨#[]⟩, .slice none 0 0], .bool false, .int .i64 3])) (w1.setCells (w.heap.size + 1) 0 [.int .i64 0, .int .i64 0, .string ⟨#[]⟩, .slice none 0 0, .int .i64 0, .int .i64 0, .string ⟨#[]⟩, .slice none 0 0])) := ⟨below_put8 hb1 (by omega) _ _ _ _ _ _ _ _, .inl ⟨rfl, rfl⟩⟩
  clear hb1 hg1 HU k0 k1 k2 k3
  go_wp2_with fail
  refine bodyPost_ret (v := .tuple #[.agg #[.int .i64 0, .int .i64 0, .string ⟨#[]⟩, .slice none 0 0, .int .i64 0, .int .i64 0, .string ⟨#[]⟩, .slice none 0 0], .bool false, .int .i64 3]) ?_ rfl HE.out
  obtain ⟨q0, q1, q2, q3, q4, q5, q6, q7⟩ := Hq.out
  simp only [World.setCells, Nat.zero_add, Nat.reduceAdd] at q0 q1 q2 q3 q4 q5 q6 q7
  simp [results, Tryz.results38, go_sem, q0, q1, q2, q3, q4, q5, q6, q7]

set_option maxRecDepth 100000 in
set_option maxHeartbeats 8000000 in
theorem lasto_right (d b q : Nat) (cn : Bool) (t : RT PT) (y : VT) (yu : Value) (w : World) (hm : MC w q t b) (hy : Lies d w y.items yu) (ht : y.text.size ≤ 9223372036854775807) (hr : rightV d y = true) : Calls Tryz.prog 38 #[.pointer (some ⟨b, 0, none⟩), .agg #[.int .i64 y.kind, .int .i64 y.num, .string y.text, yu], .bool cn] w (NearPost (itemAt t.items ((RT.upTo (atK q y) cn t : Nat) - 1 : Int)) 0 w) := by
  obtain ⟨ak, ck, rfl, _⟩ := Lies.slice hy
  obtain ⟨n, hn⟩ : ∃ n, n = RT.upTo (atK q y) cn t := ⟨_, rfl⟩
  have hnz : n ≤ 65536 := by rw [hn]; exact Nat.le_trans (RT.upTo_le _ _ _) hm.size
  rw [← hn]
  have HU : Hid (∀ V, Below w.heap.size w V → Calls Tryz.prog 44 #[.pointer (some ⟨b, 0, none⟩), .agg #[.int .i64 y.kind, .int .i64 y.num, .string y.text, .slice ak y.items.length ck], .bool cn] V fun e w' => e = .returned (.tuple #[.int .i64 (n : Int), .int .i64 0]) ∧ Below V.heap.size V w') := fun V hV => by rw [hn]; exact upto_right d b q cn t y _ V (hm.keeps hV) (Lies.keeps hV _ _ _ hy) ht hr
  obtain ⟨O, hO⟩ : ∃ O, O = itemAt t.items ((n : Int) - 1) := ⟨_, rfl⟩
  have HI : Hid (∀ V, Below w.heap.size w V → Calls Tryz.prog 43 #[.pointer (some ⟨b, 0, none⟩), .int .i64 ((n : Int) - 1)] V (InPost O V)) := fun V hV => by rw [hO]; exact inpl_15 b q t _ V (hm.keeps hV)
  rw [← hO]
  have e1 : IntKind.i64.wrap ((n : Int) - 1) = (n : Int) - 1 := by rw [IntKind.wrap_i64]; omega
  obtain ⟨W0, hW0⟩ : ∃ W0, W0 = (w.alloc (.cells #[.int .i64 y.kind, .int .i64 y.num, .string y.text, .slice ak y.items.length ck] 25)).alloc (.cells #[.int .i64 0, .int .i64 0, .string ⟨#[]⟩, .slice none 0 0, .int .i64 0, .int .i64 0, .string ⟨#[]⟩, .slice none 0 0] 33) := ⟨_, rfl⟩
  have HW0 : Hid (W0 = (w.alloc (.cells #[.int .i64 y.kind, .int .i64 y.num, .string y.text, .slice ak y.items.length ck] 25)).alloc (.cells #[.int .i64 0, .int .i64 0, .string ⟨#[]⟩, .slice none 0 0, .int .i64 0, .int .i64 0, .string ⟨#[]⟩, .slice none 0 0] 33)) := hW0
  have hb0 : Below w.heap.size w W0 := by rw [hW0]; exact (((Grew.refl w).alloc _).alloc _).below
  have HS0 : Hid (W0.heap.size = w.heap.size + 1 + 1) := by rw [hW0]; show _ = _; simp
  have HK0 : Hid (Bx W0 w.heap.size y (.slice ak y.items.length ck)) := by rw [hW0]; exact (bx_alloc w y _).keeps ((Grew.refl _).alloc _).below
  have HZ0 : Hid (Bx8 W0 (w.heap.size + 1) (.int .i64 0) (.int .i64 0) (.string ⟨#[]⟩) (.slice none 0 0) (.int .i64 0) (.int .i64 0) (.string ⟨#[]⟩) (.slice none 0 0)) := by
    rw [hW0]
    have h9 := bx8_alloc (w.alloc (.cells #[.int .i64 y.kind, .int .i64 y.num, .string y.text, .slice ak y.items.length ck] 25)) 33 (.int .i64 0) (.int .i64 0) (.string ⟨#[]⟩) (.slice none 0 0) (.int .i64 0) (.int .i64 0) (.string ⟨#[]⟩) (.slice none 0 0)
    rwa [World.size_alloc] at h9
  obtain ⟨k0, k1, k2, k3, _, _, _, _⟩ := HK0.out
  clear hW0 hy ht hr hm hn hO hnz
  go_enter Tryz.func38, Tryz.ntmps38
  go_upto_region 1 with fail
  rw [← HW0.out]
  clear HW0
  go_wp2_with fail
  refine Calls.mono (HU.out _ hb0) ?_
  rintro e w1 ⟨rfl, hg1⟩
  have HZ1 : Hid (Bx8 w1 (w.heap.size + 1) (.int .i64 0) (.int .i64 0) (.string ⟨#[]⟩) (.slice none 0 0) (.int .i64 0) (.int .i64 0) (.string ⟨#[]⟩) (.slice none 0 0)) := HZ0.out.keeps hg1
  have hb1 : Below w.heap.size w w1 := hb0.trans (hg1.mono hb0.size)
  have HS1 : Hid (w.heap.size + 1 < w1.heap.size) := by have h9 := cell_lt HZ1.out.c0; show w.heap.size + 1 < w1.heap.size; simpa using h9
  clear hg1 HU k0 k1 k2 k3 HK0 HZ0 hb0
  go_wp2_with fail
  refine Calls.mono (HI.out _ hb1) ?_
  rintro e w2 ⟨hg2, hcase⟩
  have HZ2 : Hid (Bx8 w2 (w.heap.size + 1) (.int .i64 0) (.int .i64 0) (.string ⟨#[]⟩) (.slice none 0 0) (.int .i64 0) (.int .i64 0) (.string ⟨#[]⟩) (.slice none 0 0)) := HZ1.out.keeps hg2
  have hb2 : Below w.heap.size w w2 := hb1.trans (hg2.mono hb1.size)
  clear hg2 HI HZ1
  rcases hcase with ⟨ho, rfl⟩ | ⟨x, ku, vu, ho, rfl, hl5, hl6⟩
  · obtain ⟨W3, hW3⟩ : ∃ W3, W3 = w2.alloc (.cells #[.int .i64 0, .int .i64 0, .string ⟨#[]⟩, .slice none 0 0, .int .i64 0, .int .i64 0, .string ⟨#[]⟩, .slice none 0 0] 33) := ⟨_, rfl⟩
    have HW3 : Hid (W3 = w2.alloc (.cells #[.int .i64 0, .int .i64 0, .string ⟨#[]⟩, .slice none 0 0, .int .i64 0, .int .i64 0, .string ⟨#[]⟩, .slice none 0 0] 33)) := hW3
    have hal : Below w2.heap.size w2 W3 := by rw [hW3]; exact ((Grew.refl w2).alloc _).below
    have HB3 : Hid (Bx8 W3 w2.heap.size (.int .i64 0) (.int .i64 0) (.string ⟨#[]⟩) (.slice none 0 0) (.int .i64 0) (.int .i64 0) (.string ⟨#[]⟩) (.slice none 0 0)) := by rw [hW3]; exact bx8_alloc _ _ _ _ _ _ _ _ _ _
    have HZ3 : Hid (Bx8 W3 (w.heap.size + 1) (.int .i64 0) (.int .i64 0) (.string ⟨#[]⟩) (.slice none 0 0) (.int .i64 0) (.int .i64 0) (.string ⟨#[]⟩) (.slice none 0 0)) := HZ2.out.keeps hal
    have hb3 : Below w.heap.size w W3 := hb2.trans (hal.mono hb2.size)
    obtain ⟨y0, y1, y2, y3, y4, y5, y6, y7, f0, f1, f2, f3, f4, f5, f6, f7, _⟩ := HZ3.out
    obtain ⟨z0, z1, z2, z3, z4, z5, z6, z7, _, _, _, _, _, _, _, _, _⟩ := HB3.out
    have Hq : Hid _ := put8_in HZ3.out (.int .i64 0) (.int .i64 0) (.string ⟨#[]⟩) (.slice none 0 0) (.int .i64 0) (.int .i64 0) (.string ⟨#[]⟩) (.slice none 0 0)
    have HE : Hid (NearPost O 0 w (.returned (.tuple #[.agg #[.int .i64 0, .int .i64 0, .string ⟨#[]⟩, .slice none 0 0, .int .i64 0, .int .i64 0, .string ⟨#[]⟩, .slice none 0 0], .bool false, .int .i64 0])) (W3.setCells (w.heap.size + 1) 0 [.int .i64 0, .int .i64 0, .string ⟨#[]⟩, .slice none 0 0, .int .i64 0, .int .i64 0, .string ⟨#[]⟩, .slice none 0 0])) := ⟨below_put8 hb3 (by omega) _ _ _ _ _ _ _ _, .inl ⟨ho, rfl⟩⟩
    clear hW3 hal ho hb1 hb2 hb3
    go_upto_region 5 with fail
    rw [← HW3.out]
    clear HW3
    go_wp2_with fail
    refine bodyPost_ret (v := .tuple #[.agg #[.int .i64 0, .int .i64 0, .string ⟨#[]⟩, .slice none 0 0, .int .i64 0, .int .i64 0, .string ⟨#[]⟩, .slice none 0 0], .bool false, .int .i64 0]) ?_ rfl HE.out
    obtain ⟨q0, q1, q2, q3, q4, q5, q6, q7⟩ := Hq.out
    simp only [World.setCells, Nat.zero_add, Nat.reduceAdd] at q0 q1 q2 q3 q4 q5 q6 q7
    simp [results, Tryz.results38, go_sem, q0, q1, q2, q3, q4, q5, q6, q7]
  · obtain ⟨a5, c5, rfl, _⟩ := LiesB.slice hl5
    obtain ⟨a6, c6, rfl, _⟩ := LiesB.slice hl6
    obtain ⟨W3, hW3⟩ : ∃ W3, W3 = w2.alloc (.cells #[.int .i64 x.1.kind, .int .i64 x.1.num, .string x.1.text, .slice a5 x.1.items.length c5, .int .i64 x.2.kind, .int .i64 x.2.num, .string x.2.text, .slice a6 x.2.items.length c6] 33) := ⟨_, rfl⟩
    have HW3 : Hid (W3 = w2.alloc (.cells #[.int .i64 x.1.kind, .int .i64 x.1.num, .string x.1.text, .slice a5 x.1.items.length c5, .int .i64 x.2.kind, .int .i64 x.2.num, .string x.2.text, .slice a6 x.2.items.length c6] 33)) := hW3
    have hal : Below w2.heap.size w2 W3 := by rw [hW3]; exact ((Grew.refl w2).alloc _).below
    have HB3 : Hid (Bx8 W3 w2.heap.size (.int .i64 x.1.kind) (.int .i64 x.1.num) (.string x.1.text) (.slice a5 x.1.items.length c5) (.int .i64 x.2.kind) (.int .i64 x.2.num) (.string x.2.text) (.slice a6 x.2.items.length c6)) := by rw [hW3]; exact bx8_alloc _ _ _ _ _ _ _ _ _ _
    have HZ3 : Hid (Bx8 W3 (w.heap.size + 1) (.int .i64 0) (.int .i64 0) (.string ⟨#[]⟩) (.slice none 0 0) (.int .i64 0) (.int .i64 0) (.string ⟨#[]⟩) (.slice none 0 0)) := HZ2.out.keeps hal
    have hb3 : Below w.heap.size w W3 := hb2.trans (hal.mono hb2.size)
    obtain ⟨y0, y1, y2, y3, y4, y5, y6, y7, f0, f1, f2, f3, f4, f5, f6, f7, _⟩ := HZ3.out
    obtain ⟨z0, z1, z2, z3, z4, z5, z6, z7, _, _, _, _, _, _, _, _, _⟩ := HB3.out
    have Hq : Hid _ := put8_in HZ3.out (.int .i64 x.1.kind) (.int .i64 x.1.num) (.string x.1.text) (.slice a5 x.1.items.length c5) (.int .i64 x.2.kind) (.int .i64 x.2.num) (.string x.2.text) (.slice a6 x.2.items.length c6)
    have HE : Hid (NearPost O 0 w (.returned (.tuple #[.agg #[.int .i64 x.1.kind, .int .i64 x.1.num, .string x.1.text, .slice a5 x.1.items.length c5, .int .i64 x.2.kind, .int .i64 x.2.num, .string x.2.text, .slice a6 x.2.items.length c6], .bool true, .int .i64 0])) (W3.setCells (w.heap.size + 1) 0 [.int .i64 x.1.kind, .int .i64 x.1.num, .string x.1.text, .slice a5 x.1.items.length c5, .int .i64 x.2.kind, .int .i64 x.2.num, .string x.2.text, .slice a6 x.2.items.length c6])) := ⟨below_put8 hb3 (by omega) _ _ _ _ _ _ _ _, .inr ⟨x, _, _, ho, rfl, rfl, LiesB.lower14 hb1.size _ _ _ (LiesB.put8 HS1.out _ (LiesB.keepsB hal hl5)), LiesB.lower14 hb1.size _ _ _ (LiesB.put8 HS1.out _ (LiesB.keepsB hal hl6))⟩⟩
    clear hW3 hal ho hb1 hb2 hb3 hl5 hl6
    go_upto_region 5 with fail
    rw [← HW3.out]
    clear HW3
    go_wp2_with fail
    refine bodyPost_ret (v := .tuple #[.agg #[.int .i64 x.1.kind, .int .i64 x.1.num, .string x.1.text, .slice a5 x.1.items.length c5, .int .i64 x.2.kind, .int .i64 x.2.num, .string x.2.text, .slice a6 x.2.items.length c6], .bool true, .int .i64 0]) ?_ rfl HE.out
    obtain ⟨q0, q1, q2, q3, q4, q5, q6, q7⟩ := Hq.out
    simp only [World.setCells, Nat.zero_add, Nat.reduceAdd] at q0 q1 q2 q3 q4 q5 q6 q7
    simp [results, Tryz.results38, go_sem, q0, q1, q2, q3, q4, q5, q6, q7]

set_option maxRecDepth 100000 in
set_option maxHeartbeats 8000000 in
theorem firstb_wrong (d b : Nat) (cn : Bool) (y : VT) (yu : Value) (w : World) (hy : Lies d w y.items yu) (ht : y.text.size ≤ 9223372036854775807) (hr : rightV d y = false) : Calls Tryz.prog 42 #[.pointer (some ⟨b, 0, none⟩), .agg #[.int .i64 y.kind, .int .i64 y.num, .string y.text, yu], .bool cn] w (NearPost none 3 w) := by
  obtain ⟨ak, ck, rfl, _⟩ := Lies.slice hy
  have HU : Hid (∀ V, Below w.heap.size w V → Calls Tryz.prog 44 #[.pointer (some ⟨b, 0, none⟩), .agg #[.int .i64 y.kind, .int .i64 y.num, .string y.text, .slice ak y.items.length ck], .bool cn] V fun e w' => e = .returned (.tuple #[.int .i64 0, .int .i64 3]) ∧ Below V.heap.size V w') := fun V hV => upto_wrong d b cn y _ V (Lies.keeps hV _ _ _ hy) ht hr
  obtain ⟨W0, hW0⟩ : ∃ W0, W0 = (w.alloc (.cells #[.int .i64 y.kind, .int .i64 y.num, .string y.text, .slice ak y.items.length ck] 25)).alloc (.cells #[.int .i64 0, .int .i64 0, .string ⟨#[]⟩, .slice none 0 0, .int .i64 0, .int .i64 0, .string ⟨#[]⟩, .slice none 0 0] 33) := ⟨_, rfl⟩
  have HW0 : Hid (W0 = (w.alloc (.cells #[.int .i64 y.kind, .int .i64 y.num, .string y.text, .slice ak y.items.length ck] 25)).alloc (.cells #[.int .i64 0, .int .i64 0, .string ⟨#[]⟩, .slice none 0 0, .int .i64 0, .int .i64 0, .string ⟨#[]⟩, .slice none 0 0] 33)) := hW0
  have hb0 : Below w.heap.size w W0 := by rw [hW0]; exact (((Grew.refl w).alloc _).alloc _).below
  have HS0 : Hid (W0.heap.size = w.heap.size + 1 + 1) := by rw [hW0]; show _ = _; simp
  have HK0 : Hid (Bx W0 w.heap.size y (.slice ak y.items.length ck)) := by rw [hW0]; exact (bx_alloc w y _).keeps ((Grew.refl _).alloc _).below
  have HZ0 : Hid (Bx8 W0 (w.heap.size + 1) (.int .i64 0) (.int .i64 0) (.string ⟨#[]⟩) (.slice none 0 0) (.int .i64 0) (.int .i64 0) (.string ⟨#[]⟩) (.slice none 0 0)) := by
    rw [hW0]
    have h9 := bx8_alloc (w.alloc (.cells #[.int .i64 y.kind, .int .i64 y.num, .string y.text, .slice ak y.items.length ck] 25)) 33 (.int .i64 0) (.int .i64 0) (.string ⟨#[]⟩) (.slice none 0 0) (.int .i64 0) (.int .i64 0) (.string ⟨#[]⟩) (.slice none 0 0)
    rwa [World.size_alloc] at h9
  obtain ⟨k0, k1, k2, k3, _, _, _, _⟩ := HK0.out
  clear hW0 hy ht hr
  go_enter Tryz.func42, Tryz.ntmps42
  go_upto_region 1 with fail
  rw [← HW0.out]
  clear HW0
  go_wp2_with fail
  refine Calls.mono (HU.out _ hb0) ?_
  rintro e w1 ⟨rfl, hg1⟩
  have HZ1 : Hid (Bx8 w1 (w.heap.size + 1) (.int .i64 0) (.int .i64 0) (.string ⟨#[]⟩) (.slice none 0 0) (.int .i64 0) (.int .i64 0) (.string ⟨#[]⟩) (.slice none 0 0)) := HZ0.out.keeps hg1
  obtain ⟨y0, y1, y2, y3, y4, y5, y6, y7, f0, f1, f2, f3, f4, f5, f6, f7, _⟩ := HZ1.out
  have Hq : Hid _ := put8_in HZ1.out (.int .i64 0) (.int .i64 0) (.string ⟨#[]⟩) (.slice none 0 0) (.int .i64 0) (.int .i64 0) (.string ⟨#[]⟩) (.slice none 0 0)
  have hb1 : Below w.heap.size w w1 := hb0.trans (hg1.mono hb0.size)
  have HE : Hid (NearPost none 3 w (.returned (.tuple #[.agg #[.int .i64 0, .int .i64 0, .string ⟨#[]⟩, .slice none 0 0, .int .i64 0, .int .i64 0, .string ⟨#[]⟩, .slice none 0 0], .bool false, .int .i64 3])) (w1.setCells (w.heap.size + 1) 0 [.int .i64 0, .int .i64 0, .string ⟨#[]⟩, .slice none 0 0, .int .i64 0, .int .i64 0, .string ⟨#[]⟩, .slice none 0 0])) := ⟨below_put8 hb1 (by omega) _ _ _ _ _ _ _ _, .inl ⟨rfl, rfl⟩⟩
  clear hb1 hg1 HU k0 k1 k2 k3
  go_wp2_with fail
  refine bodyPost_ret (v := .tuple #[.agg #[.int .i64 0, .int .i64 0, .string ⟨#[]⟩, .slice none 0 0, .int .i64 0, .int .i64 0, .string ⟨#[]⟩, .slice none 0 0], .bool false, .int .i64 3]) ?_ rfl HE.out
  obtain ⟨q0, q1, q2, q3, q4, q5, q6, q7⟩ := Hq.out
  simp only [World.setCells, Nat.zero_add, Nat.reduceAdd] at q0 q1 q2 q3 q4 q5 q6 q7
  simp [results, Tryz.results42, go_sem, q0, q1, q2, q3, q4, q5, q6, q7]

set_option maxRecDepth 100000 in
set_option maxHeartbeats 8000000 in
theorem firstb_right (d b q : Nat) (cn : Bool) (t : RT PT) (y : VT) (yu : Value) (w : World) (hm : MC w q t b) (hy : Lies d w y.items yu) (ht : y.text.size ≤ 9223372036854775807) (hr : rightV d y = true) : Calls Tryz.prog 42 #[.pointer (some ⟨b, 0, none⟩), .agg #[.int .i64 y.kind, .int .i64 y.num, .string y.text, yu], .bool cn] w (NearPost (itemAt t.items ((RT.upTo (atK q y) cn t : Nat) : Int)) 0 w) := by
  obtain ⟨ak, ck, rfl, _⟩ := Lies.slice hy
  obtain ⟨n, hn⟩ : ∃ n, n = RT.upTo (atK q y) cn t := ⟨_, rfl⟩
  have hnz : n ≤ 65536 := by rw [hn]; exact Nat.le_trans (RT.upTo_le _ _ _) hm.size
  rw [← hn]
  have HU : Hid (∀ V, Below w.heap.size w V → Calls Tryz.prog 44 #[.pointer (some ⟨b, 0, none⟩), .agg #[.int .i64 y.kind, .int .i64 y.num, .string y.text, .slice ak y.items.length ck], .bool cn] V fun e w' => e = .returned (.tuple #[.int .i64 (n : Int), .int .i64 0]) ∧ Below V.heap.size V w') := fun V hV => by rw [hn]; exact upto_right d b q cn t y _ V (hm.keeps hV) (Lies.keeps hV _ _ _ hy) ht hr
  obtain ⟨O, hO⟩ : ∃ O, O = itemAt t.items (n : Int) := ⟨_, rfl⟩
  have HI : Hid (∀ V, Below w.heap.size w V → Calls Tryz.prog 43 #[.pointer (some ⟨b, 0, none⟩), .int .i64 (n : Int)] V (InPost O V)) := fun V hV => by rw [hO]; exact inpl_15 b q t _ V (hm.keeps hV)
  rw [← hO]
  obtain ⟨W0, hW0⟩ : ∃ W0, W0 = (w.alloc (.cells #[.int .i64 y.kind, .int .i64 y.num, .string y.text, .slice ak y.items.length ck] 25)).alloc (.cells #[.int .i64 0, .int .i64 0, .string ⟨#[]⟩, .slice none 0 0, .int .i64 0, .int .i64 0, .string ⟨#[]⟩, .slice none 0 0] 33) := ⟨_, rfl⟩
  have HW0 : Hid (W0 = (w.alloc (.cells #[.int .i64 y.kind, .int .i64 y.num, .string y.text, .slice ak y.items.length ck] 25)).alloc (.cells #[.int .i64 0, .int .i64 0, .string ⟨#[]⟩, .slice none 0 0, .int .i64 0, .int .i64 0, .string ⟨#[]⟩, .slice none 0 0] 33)) := hW0
  have hb0 : Below w.heap.size w W0 := by rw [hW0]; exact (((Grew.refl w).alloc _).alloc _).below
  have HS0 : Hid (W0.heap.size = w.heap.size + 1 + 1) := by rw [hW0]; show _ = _; simp
  have HK0 : Hid (Bx W0 w.heap.size y (.slice ak y.items.length ck)) := by rw [hW0]; exact (bx_alloc w y _).keeps ((Grew.refl _).alloc _).below
  have HZ0 : Hid (Bx8 W0 (w.heap.size + 1) (.int .i64 0) (.int .i64 0) (.string ⟨#[]⟩) (.slice none 0 0) (.int .i64 0) (.int .i64 0) (.string ⟨#[]⟩) (.slice none 0 0)) := by
    rw [hW0]
    have h9 := bx8_alloc (w.alloc (.cells #[.int .i64 y.kind, .int .i64 y.num, .string y.text, .slice ak y.items.length ck] 25)) 33 (.int .i64 0) (.int .i64 0) (.string ⟨#[]⟩) (.slice none 0 0) (.int .i64 0) (.int .i64 0) (.string ⟨#[]⟩) (.slice none 0 0)
    rwa [World.size_alloc] at h9
  obtain ⟨k0, k1, k2, k3, _, _, _, _⟩ := HK0.out
  clear hW0 hy ht hr hm hn hO hnz
  go_enter Tryz.func42, Tryz.ntmps42
  go_upto_region 1 with fail
  rw [← HW0.out]
  clear HW0
  go_wp2_with fail
  refine Calls.mono (HU.out _ hb0) ?_
  rintro e w1 ⟨rfl, hg1⟩
  have HZ1 : Hid (Bx8 w1 (w.heap.size + 1) (.int .i64 0) (.int .i64 0) (.string ⟨#[]⟩) (.slice none 0 0) (.int .i64 0) (.int .i64 0) (.string ⟨#[]⟩) (.slice none 0 0)) := HZ0.out.keeps hg1
  have hb1 : Below w.heap.size w w1 := hb0.trans (hg1.mono hb0.size)
  have HS1 : Hid (w.heap.size + 1 < w1.heap.size) := by have h9 := cell_lt HZ1.out.c0; show w.heap.size + 1 < w1.heap.size; simpa using h9
  clear hg1 HU k0 k1 k2 k3 HK0 HZ0 hb0
  go_wp2_with fail
  refine Calls.mono (HI.out _ hb1) ?_
  rintro e w2 ⟨hg2, hcase⟩
  have HZ2 : Hid (Bx8 w2 (w.heap.size + 1) (.int .i64 0) (.int .i64 0) (.string ⟨#[]⟩) (.slice none 0 0) (.int .i64 0) (.int .i64 0) (.string ⟨#[]⟩) (.slice none 0 0)) := HZ1.out.keeps hg2
  have hb2 : Below w.heap.size w w2 := hb1.trans (hg2.mono hb1.size)
  clear hg2 HI HZ1
  rcases hcase with ⟨ho, rfl⟩ | ⟨x, ku, vu, ho, rfl, hl5, hl6⟩
  · obtain ⟨W3, hW3⟩ : ∃ W3, W3 = w2.alloc (.cells #[.int .i64 0, .int .i64 0, .string ⟨#[]⟩, .slice none 0 0, .int .i64 0, .int .i64 0, .string ⟨#[]⟩, .slice none 0 0] 33) := ⟨_, rfl⟩
    have HW3 : Hid (W3 = w2.alloc (.cells #[.int .i64 0, .int .i64 0, .string ⟨#[]⟩, .slice none 0 0, .int .i64 0, .int .i64 0, .string ⟨#[]⟩, .slice none 0 0] 33)) := hW3
    have hal : Below w2.heap.size w2 W3 := by rw [hW3]; exact ((Grew.refl w2).alloc _).below
    have HB3 : Hid (Bx8 W3 w2.heap.size (.int .i64 0) (.int .i64 0) (.string ⟨#[]⟩) (.slice none 0 0) (.int .i64 0) (.int .i64 0) (.string ⟨#[]⟩) (.slice none 0 0)) := by rw [hW3]; exact bx8_alloc _ _ _ _ _ _ _ _ _ _
    have HZ3 : Hid (Bx8 W3 (w.heap.size + 1) (.int .i64 0) (.int .i64 0) (.string ⟨#[]⟩) (.slice none 0 0) (.int .i64 0) (.int .i64 0) (.string ⟨#[]⟩) (.slice none 0 0)) := HZ2.out.keeps hal
    have hb3 : Below w.heap.size w W3 := hb2.trans (hal.mono hb2.size)
    obtain ⟨y0, y1, y2, y3, y4, y5, y6, y7, f0, f1, f2, f3, f4, f5, f6, f7, _⟩ := HZ3.out
    obtain ⟨z0, z1, z2, z3, z4, z5, z6, z7, _, _, _, _, _, _, _, _, _⟩ := HB3.out
    have Hq : Hid _ := put8_in HZ3.out (.int .i64 0) (.int .i64 0) (.string ⟨#[]⟩) (.slice none 0 0) (.int .i64 0) (.int .i64 0) (.string ⟨#[]⟩) (.slice none 0 0)
    have HE : Hid (NearPost O 0 w (.returned (.tuple #[.agg #[.int .i64 0, .int .i64 0, .string ⟨#[]⟩, .slice none 0 0, .int .i64 0, .int .i64 0, .string ⟨#[]⟩, .slice none 0 0], .bool false, .int .i64 0])) (W3.setCells (w.heap.size + 1) 0 [.int .i64 0, .int .i64 0, .string ⟨#[]⟩, .slice none 0 0, .int .i64 0, .int .i64 0, .string ⟨#[]⟩, .slice none 0 0])) := ⟨below_put8 hb3 (by omega) _ _ _ _ _ _ _ _, .inl ⟨ho, rfl⟩⟩
    clear hW3 hal ho hb1 hb2 hb3
    go_upto_region 5 with fail
    rw [← HW3.out]
    clear HW3
    go_wp2_with fail
    refine bodyPost_ret (v := .tuple #[.agg #[.int .i64 0, .int .i64 0, .string ⟨#[]⟩, .slice none 0 0, .int .i64 0, .int .i64 0, .string ⟨#[]⟩, .slice none 0 0], .bool false, .int .i64 0]) ?_ rfl HE.out
    obtain ⟨q0, q1, q2, q3, q4, q5, q6, q7⟩ := Hq.out
    simp only [World.setCells, Nat.zero_add, Nat.reduceAdd] at q0 q1 q2 q3 q4 q5 q6 q7
    simp [results, Tryz.results42, go_sem, q0, q1, q2, q3, q4, q5, q6, q7]
  · obtain ⟨a5, c5, rfl, _⟩ := LiesB.slice hl5
    obtain ⟨a6, c6, rfl, _⟩ := LiesB.slice hl6
    obtain ⟨W3, hW3⟩ : ∃ W3, W3 = w2.alloc (.cells #[.int .i64 x.1.kind, .int .i64 x.1.num, .string x.1.text, .slice a5 x.1.items.length c5, .int .i64 x.2.kind, .int .i64 x.2.num, .string x.2.text, .slice a6 x.2.items.length c6] 33) := ⟨_, rfl⟩
    have HW3 : Hid (W3 = w2.alloc (.cells #[.int .i64 x.1.kind, .int .i64 x.1.num, .string x.1.text, .slice a5 x.1.items.length c5, .int .i64 x.2.kind, .int .i64 x.2.num, .string x.2.text, .slice a6 x.2.items.length c6] 33)) := hW3
    have hal : Below w2.heap.size w2 W3 := by rw [hW3]; exact ((Grew.refl w2).alloc _).below
    have HB3 : Hid (Bx8 W3 w2.heap.size (.int .i64 x.1.kind) (.int .i64 x.1.num) (.string x.1.text) (.slice a5 x.1.items.length c5) (.int .i64 x.2.kind) (.int .i64 x.2.num) (.string x.2.text) (.slice a6 x.2.items.length c6)) := by rw [hW3]; exact bx8_alloc _ _ _ _ _ _ _ _ _ _
    have HZ3 : Hid (Bx8 W3 (w.heap.size + 1) (.int .i64 0) (.int .i64 0) (.string ⟨#[]⟩) (.slice none 0 0) (.int .i64 0) (.int .i64 0) (.string ⟨#[]⟩) (.slice none 0 0)) := HZ2.out.keeps hal
    have hb3 : Below w.heap.size w W3 := hb2.trans (hal.mono hb2.size)
    obtain ⟨y0, y1, y2, y3, y4, y5, y6, y7, f0, f1, f2, f3, f4, f5, f6, f7, _⟩ := HZ3.out
    obtain ⟨z0, z1, z2, z3, z4, z5, z6, z7, _, _, _, _, _, _, _, _, _⟩ := HB3.out
    have Hq : Hid _ := put8_in HZ3.out (.int .i64 x.1.kind) (.int .i64 x.1.num) (.string x.1.text) (.slice a5 x.1.items.length c5) (.int .i64 x.2.kind) (.int .i64 x.2.num) (.string x.2.text) (.slice a6 x.2.items.length c6)
    have HE : Hid (NearPost O 0 w (.returned (.tuple #[.agg #[.int .i64 x.1.kind, .int .i64 x.1.num, .string x.1.text, .slice a5 x.1.items.length c5, .int .i64 x.2.kind, .int .i64 x.2.num, .string x.2.text, .slice a6 x.2.items.length c6], .bool true, .int .i64 0])) (W3.setCells (w.heap.size + 1) 0 [.int .i64 x.1.kind, .int .i64 x.1.num, .string x.1.text, .slice a5 x.1.items.length c5, .int .i64 x.2.kind, .int .i64 x.2.num, .string x.2.text, .slice a6 x.2.items.length c6])) := ⟨below_put8 hb3 (by omega) _ _ _ _ _ _ _ _, .inr ⟨x, _, _, ho, rfl, rfl, LiesB.lower14 hb1.size _ _ _ (LiesB.put8 HS1.out _ (LiesB.keepsB hal hl5)), LiesB.lower14 hb1.size _ _ _ (LiesB.put8 HS1.out _ (LiesB.keepsB hal hl6))⟩⟩
    clear hW3 hal ho hb1 hb2 hb3 hl5 hl6
    go_upto_region 5 with fail
    rw [← HW3.out]
    clear HW3
    go_wp2_with fail
    refine bodyPost_ret (v := .tuple #[.agg #[.int .i64 x.1.kind, .int .i64 x.1.num, .string x.1.text, .slice a5 x.1.items.length c5, .int .i64 x.2.kind, .int .i64 x.2.num, .string x.2.text, .slice a6 x.2.items.length c6], .bool true, .int .i64 0]) ?_ rfl HE.out
    obtain ⟨q0, q1, q2, q3, q4, q5, q6, q7⟩ := Hq.out
    simp only [World.setCells, Nat.zero_add, Nat.reduceAdd] at q0 q1 q2 q3 q4 q5 q6 q7
    simp [results, Tryz.results42, go_sem, q0, q1, q2, q3, q4, q5, q6, q7]

end Go.Proofs.YtpmodiodpilmeaaGreat

