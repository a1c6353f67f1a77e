/-
  RangesNext.
-/
import Derived.Test.YtpmodiodpilmeaaGreatRNear
namespace Go.Proofs.YtpmodiodpilmeaaGreat
open Go.RowKit Go.Shelf

theorem Bx8.put {W : World} {n : Nat} {v0 v1 v2 v3 v4 v5 v6 v7 : Value} (h : Bx8 W n v0 v1 v2 v3 v4 v5 v6 v7) (u0 u1 u2 u3 u4 u5 u6 u7 : Value) : Bx8 (W.setCells n 0 [u0, u1, u2, u3, u4, u5, u6, u7]) n u0 u1 u2 u3 u4 u5 u6 u7 := by
  obtain ⟨q0, q1, q2, q3, q4, q5, q6, q7⟩ := put8_in h u0 u1 u2 u3 u4 u5 u6 u7
  refine ⟨q0, q1, q2, q3, q4, q5, q6, q7, ?_, ?_, ?_, ?_, ?_, ?_, ?_, ?_, ?_⟩
  · rw [World.frozen?_setCells]; exact h.f0
  · rw [World.frozen?_setCells]; exact h.f1
  · rw [World.frozen?_setCells]; exact h.f2
  · rw [World.frozen?_setCells]; exact h.f3
  · rw [World.frozen?_setCells]; exact h.f4
  · rw [World.frozen?_setCells]; exact h.f5
  · rw [World.frozen?_setCells]; exact h.f6
  · rw [World.frozen?_setCells]; exact h.f7
  · simp only [World.setCells]
    rw [World.cell?_setCell_other _ _ _ _ (by simp), World.cell?_setCell_other _ _ _ _ (by simp), World.cell?_setCell_other _ _ _ _ (by simp), World.cell?_setCell_other _ _ _ _ (by simp), World.cell?_setCell_other _ _ _ _ (by simp), World.cell?_setCell_other _ _ _ _ (by simp), World.cell?_setCell_other _ _ _ _ (by simp), World.cell?_setCell_other _ _ _ _ (by simp)]
    exact h.top

theorem floor_both (d b q : Nat) (t : RT PT) (y : VT) (ay : Option Addr) (cy : Nat) (ps : List PP) (v : Value) (w : World) (hm : MC w q t b) (hs : SlQ 0 16 w ps v) (hps : ps.map trT = t.items) (hy : Lies d w y.items (.slice ay y.items.length cy)) (ht : y.text.size ≤ 9223372036854775807) : ∃ (x : PT) (B : Bool) (E : Int),
    (∀ V, Below w.heap.size w V → Calls Tryz.prog 11 #[.pointer (some ⟨b, 0, none⟩), .agg #[.int .i64 y.kind, .int .i64 y.num, .string y.text, .slice ay y.items.length cy]] V (Pr3 x B E V)) ∧
    (∀ V, Below w.heap.size w V → Calls Tryz.prog 12 #[.int .i64 (q : Int), v, .agg #[.int .i64 y.kind, .int .i64 y.num, .string y.text, .slice ay y.items.length cy], .bool true] V (PrD3 w x B E V)) := by
  cases hr : rightV d y with
  | false =>
    refine ⟨zeroPT, false, 3, fun V hV => Calls.mono (floor15_wrong d b y _ V (Lies.keeps hV _ _ _ hy) ht hr) fun e w' h => h.pr, fun V hV => rfloor15_wrong d _ v y _ true w V (Lies.keeps hV _ _ _ hy) hr ?_⟩
    obtain ⟨a, c, e, _⟩ := hs
    exact ⟨a, _, c, e⟩
  | true =>
    have hc := canon hy hr
    have hrank : rankR q t.items y = RT.upTo (atK q y) false t := rank_up hm
    have hth := upTo_there (y := y) hm ⟨hc.2, Dp.of_lies 16 w y _ hc.1⟩
    have hlen : ps.length ≤ 65536 := by have h8 := congrArg List.length hps; rw [List.length_map, ← RT.size_items] at h8; have := hm.size; omega
    have hrt : ∀ p ∈ ps, rightV 16 p.1.1 = true := fun p hp => (hm.right (trT p) (by rw [← hps]; exact List.mem_map.2 ⟨p, hp, rfl⟩)).1.1
    refine ⟨orZ (itemAt t.items (((RT.upTo (atK q y) true t : Nat) : Int) - 1)), (itemAt t.items (((RT.upTo (atK q y) true t : Nat) : Int) - 1)).isSome, 0, fun V hV => Calls.mono (floor15_right d b q t y _ V (hm.keeps hV) (Lies.keeps hV _ _ _ hy) ht hr) fun e w' h => h.pr, fun V hV => ?_⟩
    have h9 := rfloor15_right q hm.q6 ps v y (.slice ay y.items.length cy) true w V hs hV hrt hlen (Lies.keeps hV _ _ _ hc.1) hc.2
    rw [hps, hrank] at h9
    simp only [Bool.and_true] at h9
    rw [hth]
    exact h9

theorem lower_both (d b q : Nat) (t : RT PT) (y : VT) (ay : Option Addr) (cy : Nat) (ps : List PP) (v : Value) (w : World) (hm : MC w q t b) (hs : SlQ 0 16 w ps v) (hps : ps.map trT = t.items) (hy : Lies d w y.items (.slice ay y.items.length cy)) (ht : y.text.size ≤ 9223372036854775807) : ∃ (x : PT) (B : Bool) (E : Int),
    (∀ V, Below w.heap.size w V → Calls Tryz.prog 14 #[.pointer (some ⟨b, 0, none⟩), .agg #[.int .i64 y.kind, .int .i64 y.num, .string y.text, .slice ay y.items.length cy]] V (Pr3 x B E V)) ∧
    (∀ V, Below w.heap.size w V → Calls Tryz.prog 12 #[.int .i64 (q : Int), v, .agg #[.int .i64 y.kind, .int .i64 y.num, .string y.text, .slice ay y.items.length cy], .bool false] V (PrD3 w x B E V)) := by
  cases hr : rightV d y with
  | false =>
    refine ⟨zeroPT, false, 3, fun V hV => Calls.mono (lower15_wrong d b y _ V (Lies.keeps hV _ _ _ hy) ht hr) fun e w' h => h.pr, fun V hV => rfloor15_wrong d _ v y _ false w V (Lies.keeps hV _ _ _ hy) hr ?_⟩
    obtain ⟨a, c, e, _⟩ := hs
    exact ⟨a, _, c, e⟩
  | true =>
    have hc := canon hy hr
    have hrank : rankR q t.items y = RT.upTo (atK q y) false t := rank_up hm
    have hth := upTo_there (y := y) hm ⟨hc.2, Dp.of_lies 16 w y _ hc.1⟩
    have hlen : ps.length ≤ 65536 := by have h8 := congrArg List.length hps; rw [List.length_map, ← RT.size_items] at h8; have := hm.size; omega
    have hrt : ∀ p ∈ ps, rightV 16 p.1.1 = true := fun p hp => (hm.right (trT p) (by rw [← hps]; exact List.mem_map.2 ⟨p, hp, rfl⟩)).1.1
    refine ⟨orZ (itemAt t.items (((RT.upTo (atK q y) false t : Nat) : Int) - 1)), (itemAt t.items (((RT.upTo (atK q y) false t : Nat) : Int) - 1)).isSome, 0, fun V hV => Calls.mono (lower15_right d b q t y _ V (hm.keeps hV) (Lies.keeps hV _ _ _ hy) ht hr) fun e w' h => h.pr, fun V hV => ?_⟩
    have h9 := rfloor15_right q hm.q6 ps v y (.slice ay y.items.length cy) false w V hs hV hrt hlen (Lies.keeps hV _ _ _ hc.1) hc.2
    rw [hps, hrank] at h9
    simp only [Bool.and_false, Bool.false_eq_true, if_false, Nat.add_zero] at h9
    exact h9

theorem ceil_both (d b q : Nat) (t : RT PT) (y : VT) (ay : Option Addr) (cy : Nat) (ps : List PP) (v : Value) (w : World) (hm : MC w q t b) (hs : SlQ 0 16 w ps v) (hps : ps.map trT = t.items) (hy : Lies d w y.items (.slice ay y.items.length cy)) (ht : y.text.size ≤ 9223372036854775807) : ∃ (x : PT) (B : Bool) (E : Int),
    (∀ V, Below w.heap.size w V → Calls Tryz.prog 15 #[.pointer (some ⟨b, 0, none⟩), .agg #[.int .i64 y.kind, .int .i64 y.num, .string y.text, .slice ay y.items.length cy]] V (Pr3 x B E V)) ∧
    (∀ V, Below w.heap.size w V → Calls Tryz.prog 16 #[.int .i64 (q : Int), v, .agg #[.int .i64 y.kind, .int .i64 y.num, .string y.text, .slice ay y.items.length cy], .bool true] V (PrD3 w x B E V)) := by
  cases hr : rightV d y with
  | false =>
    refine ⟨zeroPT, false, 3, fun V hV => Calls.mono (ceil15_wrong d b y _ V (Lies.keeps hV _ _ _ hy) ht hr) fun e w' h => h.pr, fun V hV => rceil15_wrong d _ v y _ true w V (Lies.keeps hV _ _ _ hy) hr ?_⟩
    obtain ⟨a, c, e, _⟩ := hs
    exact ⟨a, _, c, e⟩
  | true =>
    have hc := canon hy hr
    have hrank : rankR q t.items y = RT.upTo (atK q y) false t := rank_up hm
    have hth := upTo_there (y := y) hm ⟨hc.2, Dp.of_lies 16 w y _ hc.1⟩
    have hlen : ps.length ≤ 65536 := by have h8 := congrArg List.length hps; rw [List.length_map, ← RT.size_items] at h8; have := hm.size; omega
    have hrt : ∀ p ∈ ps, rightV 16 p.1.1 = true := fun p hp => (hm.right (trT p) (by rw [← hps]; exact List.mem_map.2 ⟨p, hp, rfl⟩)).1.1
    refine ⟨orZ (itemAt t.items ((RT.upTo (atK q y) false t : Nat) : Int)), (itemAt t.items ((RT.upTo (atK q y) false t : Nat) : Int)).isSome, 0, fun V hV => Calls.mono (ceil15_right d b q t y _ V (hm.keeps hV) (Lies.keeps hV _ _ _ hy) ht hr) fun e w' h => h.pr, fun V hV => ?_⟩
    have h9 := rceil15_right q hm.q6 ps v y (.slice ay y.items.length cy) true w V hs hV hrt hlen (Lies.keeps hV _ _ _ hc.1) hc.2
    rw [hps, hrank] at h9
    simp only [Bool.not_true, Bool.and_false, Bool.false_eq_true, if_false, Nat.add_zero] at h9
    exact h9

theorem higher_both (d b q : Nat) (t : RT PT) (y : VT) (ay : Option Addr) (cy : Nat) (ps : List PP) (v : Value) (w : World) (hm : MC w q t b) (hs : SlQ 0 16 w ps v) (hps : ps.map trT = t.items) (hy : Lies d w y.items (.slice ay y.items.length cy)) (ht : y.text.size ≤ 9223372036854775807) : ∃ (x : PT) (B : Bool) (E : Int),
    (∀ V, Below w.heap.size w V → Calls Tryz.prog 17 #[.pointer (some ⟨b, 0, none⟩), .agg #[.int .i64 y.kind, .int .i64 y.num, .string y.text, .slice ay y.items.length cy]] V (Pr3 x B E V)) ∧
    (∀ V, Below w.heap.size w V → Calls Tryz.prog 16 #[.int .i64 (q : Int), v, .agg #[.int .i64 y.kind, .int .i64 y.num, .string y.text, .slice ay y.items.length cy], .bool false] V (PrD3 w x B E V)) := by
  cases hr : rightV d y with
  | false =>
    refine ⟨zeroPT, false, 3, fun V hV => Calls.mono (higher15_wrong d b y _ V (Lies.keeps hV _ _ _ hy) ht hr) fun e w' h => h.pr, fun V hV => rceil15_wrong d _ v y _ false w V (Lies.keeps hV _ _ _ hy) hr ?_⟩
    obtain ⟨a, c, e, _⟩ := hs
    exact ⟨a, _, c, e⟩
  | true =>
    have hc := canon hy hr
    have hrank : rankR q t.items y = RT.upTo (atK q y) false t := rank_up hm
    have hth := upTo_there (y := y) hm ⟨hc.2, Dp.of_lies 16 w y _ hc.1⟩
    have hlen : ps.length ≤ 65536 := by have h8 := congrArg List.length hps; rw [List.length_map, ← RT.size_items] at h8; have := hm.size; omega
    have hrt : ∀ p ∈ ps, rightV 16 p.1.1 = true := fun p hp => (hm.right (trT p) (by rw [← hps]; exact List.mem_map.2 ⟨p, hp, rfl⟩)).1.1
    refine ⟨orZ (itemAt t.items ((RT.upTo (atK q y) true t : Nat) : Int)), (itemAt t.items ((RT.upTo (atK q y) true t : Nat) : Int)).isSome, 0, fun V hV => Calls.mono (higher15_right d b q t y _ V (hm.keeps hV) (Lies.keeps hV _ _ _ hy) ht hr) fun e w' h => h.pr, fun V hV => ?_⟩
    have h9 := rceil15_right q hm.q6 ps v y (.slice ay y.items.length cy) false w V hs hV hrt hlen (Lies.keeps hV _ _ _ hc.1) hc.2
    rw [hps, hrank] at h9
    simp only [Bool.not_false, Bool.and_true] at h9
    rw [hth]
    exact h9

set_option maxRecDepth 100000 in
set_option maxHeartbeats 16000000 in
theorem nears_walk (o : Int) (d : Nat) (qs : List PP) (u : Value) (d2 : Nat) (y : VT) (yu : Value) (w : World) (hu : SlQ 0 d w qs u) (hy : Lies d2 w y.items yu) (ht : y.text.size ≤ 9223372036854775807) :
    Calls Tryz.prog 3 #[.int .i64 o, u, .agg #[.int .i64 y.kind, .int .i64 y.num, .string y.text, yu]] w fun e w' => e = .returned (.bool true) ∧ Below w.heap.size w w' := by
  have HSp : Hid (∀ V, Calls Tryz.prog 9 #[] V fun e w' => e = .returned (.bool true) ∧ Below V.heap.size V w') := speaks15_any
  obtain ⟨au, cu, rfl, _⟩ := hu.slice
  obtain ⟨ay, cy, rfl, _⟩ := Lies.slice hy
  have HO : Hid (∀ V, Below w.heap.size w V → Calls Tryz.prog 8 #[.int .i64 o, .slice au qs.length cu] V (OfPost14 d o qs V)) := fun V hV => mof_14 d o qs _ V (hu.keeps hV)
  have HY : Hid (Lies d2 w y.items (.slice ay y.items.length cy)) := hy
  have HYt : Hid (y.text.size ≤ 9223372036854775807) := ht
  have HK0 : Hid (Bx (w.alloc (.cells #[.int .i64 y.kind, .int .i64 y.num, .string y.text, .slice ay y.items.length cy] 25)) w.heap.size y (.slice ay y.items.length cy)) := bx_alloc _ _ _
  have hb0 : Below w.heap.size w (w.alloc (.cells #[.int .i64 y.kind, .int .i64 y.num, .string y.text, .slice ay y.items.length cy] 25)) := ((Grew.refl w).alloc _).below
  clear hu hy ht
  go_enter Tryz.func3, Tryz.ntmps3
  go_wp2_with fail
  refine Calls.mono (HO.out _ hb0) ?_
  rintro e w1 ⟨hg1, hcase⟩
  have HK1 : Hid (Bx w1 w.heap.size y (.slice ay y.items.length cy)) := HK0.out.keeps hg1
  have hb1 : Below w.heap.size w w1 := hb0.trans (hg1.mono hb0.size)
  clear hg1 hb0 HO HK0
  rcases hcase with ⟨hne, rfl⟩ | ⟨he0, t, b, rfl, hm, _⟩
  · generalize ofErr d o (qs.map trT) = E at hne ⊢
    generalize qs.length = L at *
    go_wp2_with fail
    refine Calls.mono (HSp.out _) ?_
    rintro e w2 ⟨rfl, hg2⟩
    have hb2 : Below w.heap.size w w2 := hb1.trans (hg2.mono hb1.size)
    clear hg2
    go_wp2_with fail
    go_ret
    exact ⟨rfl, hb2⟩
  · obtain ⟨q, hq⟩ : ∃ q, q = o.toNat := ⟨_, rfl⟩
    rw [← hq] at hm
    have hoq : o = (q : Int) := by
      have h9 : ordErr o = 0 := by
        unfold ofErr at he0
        by_cases h8 : ordErr o = 0
        · exact h8
        · rw [if_pos h8] at he0; exact he0
      have h8 : 0 ≤ o := by
        unfold ordErr at h9
        by_cases h7 : 0 ≤ o
        · exact h7
        · rw [if_pos (by omega)] at h9; exact absurd h9 (by decide)
      omega
    subst hoq
    clear he0 hq
    have HM : Hid (MC w1 q t b) := hm
    have HPs : Hid _ := mpairs_14 hm
    generalize qs.length = L at *
    clear hm
    go_wp2_with fail
    refine Calls.mono HPs.out ?_
    rintro e w2 ⟨v, ps, rfl, hps, hs, _, hg2⟩
    have hs2 := hs.mono (Nat.zero_le _)
    have hm2 := HM.out.keeps hg2
    have hy2 := Lies.keeps (hb1.trans (hg2.mono hb1.size)) _ _ _ HY.out
    obtain ⟨av, cv, rfl⟩ : ∃ a c, v = .slice a ps.length c := by obtain ⟨a, c, h, _⟩ := hs2; exact ⟨a, c, h⟩
    obtain ⟨x1, B1, E1, hf, hr⟩ := floor_both d2 b q t y ay cy ps _ w2 hm2 hs2 hps hy2 HYt.out
    have HF1 : Hid _ := hf; have HR1 : Hid _ := hr
    clear hf hr
    obtain ⟨x2, B2, E2, hf, hr⟩ := lower_both d2 b q t y ay cy ps _ w2 hm2 hs2 hps hy2 HYt.out
    have HF2 : Hid _ := hf; have HR2 : Hid _ := hr
    clear hf hr
    obtain ⟨x3, B3, E3, hf, hr⟩ := ceil_both d2 b q t y ay cy ps _ w2 hm2 hs2 hps hy2 HYt.out
    have HF3 : Hid _ := hf; have HR3 : Hid _ := hr
    clear hf hr
    obtain ⟨x4, B4, E4, hf, hr⟩ := higher_both d2 b q t y ay cy ps _ w2 hm2 hs2 hps hy2 HYt.out
    have HF4 : Hid _ := hf; have HR4 : Hid _ := hr
    clear hf hr
    obtain ⟨k0, k1, k2, k3, _, _, _, _⟩ := HK1.out
    have k0 := cell_keeps hg2 k0; have k1 := cell_keeps hg2 k1; have k2 := cell_keeps hg2 k2; have k3 := cell_keeps hg2 k3
    have Hk : Hid (w2.cell? ⟨w.heap.size, 0, none⟩ = some (.int .i64 y.kind) ∧ w2.cell? ⟨w.heap.size, 1, none⟩ = some (.int .i64 y.num) ∧ w2.cell? ⟨w.heap.size, 2, none⟩ = some (.string y.text) ∧ w2.cell? ⟨w.heap.size, 3, none⟩ = some (.slice ay y.items.length cy)) := ⟨k0, k1, k2, k3⟩
    have Hb2 : Hid (Below w.heap.size w w2) := hb1.trans (hg2.mono hb1.size)
    have hbV : Below w2.heap.size w2 w2 := Below.refl _ _
    generalize ps.length = N at *
    clear hg2 hps hs hs2 hm2 hy2 hb1 HM HPs HK1 HY HYt
    go_wp2_with fail
    refine Calls.mono (HF1.out _ hbV) ?_
    rintro e p1 ⟨hg, a1p, ca1p, a1q, ca1q, rfl, hl1, hl2⟩
    have k0 := cell_keeps hg k0; have k1 := cell_keeps hg k1; have k2 := cell_keeps hg k2; have k3 := cell_keeps hg k3
    have hb1 : Below w2.heap.size w2 p1 := hbV.trans (hg.mono hbV.size)
    obtain ⟨na, hna⟩ : ∃ na, na = p1.heap.size := ⟨_, rfl⟩
    have Hna : Hid (w2.heap.size ≤ na) := by show _ ≤ _; rw [hna]; exact hb1.size
    obtain ⟨Wa1, hW⟩ : ∃ W, W = p1.alloc (.cells #[.int .i64 x1.1.kind, .int .i64 x1.1.num, .string x1.1.text, .slice a1p x1.1.items.length ca1p, .int .i64 x1.2.kind, .int .i64 x1.2.num, .string x1.2.text, .slice a1q x1.2.items.length ca1q] 33) := ⟨_, rfl⟩
    have HW : Hid (Wa1 = p1.alloc (.cells #[.int .i64 x1.1.kind, .int .i64 x1.1.num, .string x1.1.text, .slice a1p x1.1.items.length ca1p, .int .i64 x1.2.kind, .int .i64 x1.2.num, .string x1.2.text, .slice a1q x1.2.items.length ca1q] 33)) := hW
    have hal : Below p1.heap.size p1 Wa1 := by rw [hW]; exact ((Grew.refl p1).alloc _).below
    have HBa : Hid (Bx8 Wa1 na (.int .i64 x1.1.kind) (.int .i64 x1.1.num) (.string x1.1.text) (.slice a1p x1.1.items.length ca1p) (.int .i64 x1.2.kind) (.int .i64 x1.2.num) (.string x1.2.text) (.slice a1q x1.2.items.length ca1q)) := by rw [hW, hna]; exact bx8_alloc _ _ _ _ _ _ _ _ _ _
    have HL : Hid (PrL Wa1 x1 (.slice a1p x1.1.items.length ca1p) (.slice a1q x1.2.items.length ca1q)) := (⟨LiesB.lies _ _ _ hl1, LiesB.lies _ _ _ hl2⟩ : PrL p1 x1 _ _).keeps hal
    have hb2 : Below w2.heap.size w2 Wa1 := hb1.trans (hal.mono hb1.size)
    have k0 := cell_keeps hal k0; have k1 := cell_keeps hal k1; have k2 := cell_keeps hal k2; have k3 := cell_keeps hal k3
    clear hW hal hl1 hl2 hg hb1 hbV HF1
    go_upto_region 8 with fail
    rw [← HW.out, ← hna]
    clear HW hna
    go_wp2_with fail
    refine Calls.mono (HR1.out _ hb2) ?_
    rintro e d1 ⟨hg, a1r, ca1r, a1s, ca1s, rfl, hpl⟩
    have k0 := cell_keeps hg k0; have k1 := cell_keeps hg k1; have k2 := cell_keeps hg k2; have k3 := cell_keeps hg k3
    have hb3 : Below w2.heap.size w2 d1 := hb2.trans (hg.mono hb2.size)
    have HBa : Hid (Bx8 d1 na (.int .i64 x1.1.kind) (.int .i64 x1.1.num) (.string x1.1.text) (.slice a1p x1.1.items.length ca1p) (.int .i64 x1.2.kind) (.int .i64 x1.2.num) (.string x1.2.text) (.slice a1q x1.2.items.length ca1q)) := HBa.out.keeps hg
    have HL : Hid (PrL d1 x1 (.slice a1p x1.1.items.length ca1p) (.slice a1q x1.2.items.length ca1q)) := HL.out.keeps hg
    obtain ⟨nb, hnb⟩ : ∃ nb, nb = d1.heap.size := ⟨_, rfl⟩
    have Hnb : Hid (na < nb) := by have h9 := cell_lt HBa.out.c0; show na < nb; rw [hnb]; simpa using h9
    obtain ⟨Wb1, hW⟩ : ∃ W, W = d1.alloc (.cells #[.int .i64 x1.1.kind, .int .i64 x1.1.num, .string x1.1.text, .slice a1r x1.1.items.length ca1r, .int .i64 x1.2.kind, .int .i64 x1.2.num, .string x1.2.text, .slice a1s x1.2.items.length ca1s] 33) := ⟨_, rfl⟩
    have HW : Hid (Wb1 = d1.alloc (.cells #[.int .i64 x1.1.kind, .int .i64 x1.1.num, .string x1.1.text, .slice a1r x1.1.items.length ca1r, .int .i64 x1.2.kind, .int .i64 x1.2.num, .string x1.2.text, .slice a1s x1.2.items.length ca1s] 33)) := hW
    have hal : Below d1.heap.size d1 Wb1 := by rw [hW]; exact ((Grew.refl d1).alloc _).below
    have HBb : Hid (Bx8 Wb1 nb (.int .i64 x1.1.kind) (.int .i64 x1.1.num) (.string x1.1.text) (.slice a1r x1.1.items.length ca1r) (.int .i64 x1.2.kind) (.int .i64 x1.2.num) (.string x1.2.text) (.slice a1s x1.2.items.length ca1s)) := by rw [hW, hnb]; exact bx8_alloc _ _ _ _ _ _ _ _ _ _
    have HBa : Hid (Bx8 Wb1 na (.int .i64 x1.1.kind) (.int .i64 x1.1.num) (.string x1.1.text) (.slice a1p x1.1.items.length ca1p) (.int .i64 x1.2.kind) (.int .i64 x1.2.num) (.string x1.2.text) (.slice a1q x1.2.items.length ca1q)) := HBa.out.keeps hal
    have hb4 : Below w2.heap.size w2 Wb1 := hb3.trans (hal.mono hb3.size)
    have HP : Hid _ := pair_same x1 _ _ _ _ Wb1 (HL.out.keeps hal) (hpl.keeps hb4)
    have k0 := cell_keeps hal k0; have k1 := cell_keeps hal k1; have k2 := cell_keeps hal k2; have k3 := cell_keeps hal k3
    clear hW hal hg hb2 hb3 hpl HL HR1
    go_upto_region 9 with fail
    rw [← HW.out, ← hnb]
    clear HW hnb
    obtain ⟨y0, y1, y2, y3, y4, y5, y6, y7, _, _, _, _, _, _, _, _, _⟩ := HBa.out
    obtain ⟨z0, z1, z2, z3, z4, z5, z6, z7, _, _, _, _, _, _, _, _, _⟩ := HBb.out
    go_wp2_with fail
    refine Calls.mono HP.out ?_
    rintro e V1 ⟨rfl, hg⟩
    have k0 := cell_keeps hg k0; have k1 := cell_keeps hg k1; have k2 := cell_keeps hg k2; have k3 := cell_keeps hg k3
    have hbV : Below w2.heap.size w2 V1 := hb4.trans (hg.mono hb4.size)
    have HBa : Hid (Bx8 V1 na (.int .i64 x1.1.kind) (.int .i64 x1.1.num) (.string x1.1.text) (.slice a1p x1.1.items.length ca1p) (.int .i64 x1.2.kind) (.int .i64 x1.2.num) (.string x1.2.text) (.slice a1q x1.2.items.length ca1q)) := HBa.out.keeps hg
    have HBb : Hid (Bx8 V1 nb (.int .i64 x1.1.kind) (.int .i64 x1.1.num) (.string x1.1.text) (.slice a1r x1.1.items.length ca1r) (.int .i64 x1.2.kind) (.int .i64 x1.2.num) (.string x1.2.text) (.slice a1s x1.2.items.length ca1s)) := HBb.out.keeps hg
    have HS : Hid (na < V1.heap.size) := by have h9 := cell_lt HBa.out.c0; show na < _; simpa using h9
    have HT : Hid (nb < V1.heap.size) := by have h9 := cell_lt HBb.out.c0; show nb < _; simpa using h9
    have e1 : (B1 != B1) = false := by simp
    have e2 : (E1 != E1) = false := by simp
    have e3 : (B1 == B1) = true := by simp
    have e4 : (E1 == E1) = true := by simp
    clear hg hb4 HP y0 y1 y2 y3 y4 y5 y6 y7 z0 z1 z2 z3 z4 z5 z6 z7

    go_wp2_with fail
    refine Calls.mono (HF2.out _ hbV) ?_
    rintro e p2 ⟨hg, a2p, ca2p, a2q, ca2q, rfl, hl1, hl2⟩
    have k0 := cell_keeps hg k0; have k1 := cell_keeps hg k1; have k2 := cell_keeps hg k2; have k3 := cell_keeps hg k3
    have hb1 : Below w2.heap.size w2 p2 := hbV.trans (hg.mono hbV.size)
    have HBa : Hid (Bx8 p2 na (.int .i64 x1.1.kind) (.int .i64 x1.1.num) (.string x1.1.text) (.slice a1p x1.1.items.length ca1p) (.int .i64 x1.2.kind) (.int .i64 x1.2.num) (.string x1.2.text) (.slice a1q x1.2.items.length ca1q)) := HBa.out.keeps hg
    have HBb : Hid (Bx8 p2 nb (.int .i64 x1.1.kind) (.int .i64 x1.1.num) (.string x1.1.text) (.slice a1r x1.1.items.length ca1r) (.int .i64 x1.2.kind) (.int .i64 x1.2.num) (.string x1.2.text) (.slice a1s x1.2.items.length ca1s)) := HBb.out.keeps hg
    obtain ⟨y0, y1, y2, y3, y4, y5, y6, y7, f0, f1, f2, f3, f4, f5, f6, f7, _⟩ := HBa.out
    obtain ⟨Wa2, hW⟩ : ∃ W, W = p2.setCells na 0 [.int .i64 x2.1.kind, .int .i64 x2.1.num, .string x2.1.text, .slice a2p x2.1.items.length ca2p, .int .i64 x2.2.kind, .int .i64 x2.2.num, .string x2.2.text, .slice a2q x2.2.items.length ca2q] := ⟨_, rfl⟩
    have HW : Hid (Wa2 = (((((((p2.setCell ⟨na, 0, none⟩ (.int .i64 x2.1.kind)).setCell ⟨na, 1, none⟩ (.int .i64 x2.1.num)).setCell ⟨na, 2, none⟩ (.string x2.1.text)).setCell ⟨na, 3, none⟩ (.slice a2p x2.1.items.length ca2p)).setCell ⟨na, 4, none⟩ (.int .i64 x2.2.kind)).setCell ⟨na, 5, none⟩ (.int .i64 x2.2.num)).setCell ⟨na, 6, none⟩ (.string x2.2.text)).setCell ⟨na, 7, none⟩ (.slice a2q x2.2.items.length ca2q)) := hW
    have HBa' : Hid (Bx8 Wa2 na (.int .i64 x2.1.kind) (.int .i64 x2.1.num) (.string x2.1.text) (.slice a2p x2.1.items.length ca2p) (.int .i64 x2.2.kind) (.int .i64 x2.2.num) (.string x2.2.text) (.slice a2q x2.2.items.length ca2q)) := by rw [hW]; exact HBa.out.put _ _ _ _ _ _ _ _
    have HBb : Hid (Bx8 Wa2 nb (.int .i64 x1.1.kind) (.int .i64 x1.1.num) (.string x1.1.text) (.slice a1r x1.1.items.length ca1r) (.int .i64 x1.2.kind) (.int .i64 x1.2.num) (.string x1.2.text) (.slice a1s x1.2.items.length ca1s)) := by rw [hW]; exact bx8_other HBb.out (by have := Hnb.out; omega) _
    have hlt : na < V1.heap.size := HS.out
    have HL : Hid (LiesB V1.heap.size 16 Wa2 x2.1.items (.slice a2p x2.1.items.length ca2p) ∧ LiesB V1.heap.size 16 Wa2 x2.2.items (.slice a2q x2.2.items.length ca2q)) := by rw [hW]; exact ⟨LiesB.put8 hlt _ hl1, LiesB.put8 hlt _ hl2⟩
    have hb2 : Below w2.heap.size w2 Wa2 := by rw [hW]; exact below_put8 hb1 Hna.out _ _ _ _ _ _ _ _
    have HK : Hid (Wa2.cell? ⟨w.heap.size, 0, none⟩ = some (.int .i64 y.kind) ∧ Wa2.cell? ⟨w.heap.size, 1, none⟩ = some (.int .i64 y.num) ∧ Wa2.cell? ⟨w.heap.size, 2, none⟩ = some (.string y.text) ∧ Wa2.cell? ⟨w.heap.size, 3, none⟩ = some (.slice ay y.items.length cy)) := ⟨cell_keeps hb2 Hk.out.1, cell_keeps hb2 Hk.out.2.1, cell_keeps hb2 Hk.out.2.2.1, cell_keeps hb2 Hk.out.2.2.2⟩
    clear hW hl1 hl2 hg hb1 hbV HF2 hlt HBa k0 k1 k2 k3
    go_upto_region 12 with fail
    rw [← HW.out]
    clear HW y0 y1 y2 y3 y4 y5 y6 y7 f0 f1 f2 f3 f4 f5 f6 f7
    obtain ⟨k0, k1, k2, k3⟩ := HK.out
    clear HK
    go_wp2_with fail
    refine Calls.mono (HR2.out _ hb2) ?_
    rintro e d2 ⟨hg, a2r, ca2r, a2s, ca2s, rfl, hpl⟩
    have hb3 : Below w2.heap.size w2 d2 := hb2.trans (hg.mono hb2.size)
    have HBa : Hid (Bx8 d2 na (.int .i64 x2.1.kind) (.int .i64 x2.1.num) (.string x2.1.text) (.slice a2p x2.1.items.length ca2p) (.int .i64 x2.2.kind) (.int .i64 x2.2.num) (.string x2.2.text) (.slice a2q x2.2.items.length ca2q)) := HBa'.out.keeps hg
    have HBb : Hid (Bx8 d2 nb (.int .i64 x1.1.kind) (.int .i64 x1.1.num) (.string x1.1.text) (.slice a1r x1.1.items.length ca1r) (.int .i64 x1.2.kind) (.int .i64 x1.2.num) (.string x1.2.text) (.slice a1s x1.2.items.length ca1s)) := HBb.out.keeps hg
    obtain ⟨y0, y1, y2, y3, y4, y5, y6, y7, f0, f1, f2, f3, f4, f5, f6, f7, _⟩ := HBb.out
    obtain ⟨Wb2, hW⟩ : ∃ W, W = d2.setCells nb 0 [.int .i64 x2.1.kind, .int .i64 x2.1.num, .string x2.1.text, .slice a2r x2.1.items.length ca2r, .int .i64 x2.2.kind, .int .i64 x2.2.num, .string x2.2.text, .slice a2s x2.2.items.length ca2s] := ⟨_, rfl⟩
    have HW : Hid (Wb2 = (((((((d2.setCell ⟨nb, 0, none⟩ (.int .i64 x2.1.kind)).setCell ⟨nb, 1, none⟩ (.int .i64 x2.1.num)).setCell ⟨nb, 2, none⟩ (.string x2.1.text)).setCell ⟨nb, 3, none⟩ (.slice a2r x2.1.items.length ca2r)).setCell ⟨nb, 4, none⟩ (.int .i64 x2.2.kind)).setCell ⟨nb, 5, none⟩ (.int .i64 x2.2.num)).setCell ⟨nb, 6, none⟩ (.string x2.2.text)).setCell ⟨nb, 7, none⟩ (.slice a2s x2.2.items.length ca2s)) := hW
    have HBb' : Hid (Bx8 Wb2 nb (.int .i64 x2.1.kind) (.int .i64 x2.1.num) (.string x2.1.text) (.slice a2r x2.1.items.length ca2r) (.int .i64 x2.2.kind) (.int .i64 x2.2.num) (.string x2.2.text) (.slice a2s x2.2.items.length ca2s)) := by rw [hW]; exact HBb.out.put _ _ _ _ _ _ _ _
    have HBa : Hid (Bx8 Wb2 na (.int .i64 x2.1.kind) (.int .i64 x2.1.num) (.string x2.1.text) (.slice a2p x2.1.items.length ca2p) (.int .i64 x2.2.kind) (.int .i64 x2.2.num) (.string x2.2.text) (.slice a2q x2.2.items.length ca2q)) := by rw [hW]; exact bx8_other HBa.out (by have := Hnb.out; omega) _
    have hlt : nb < V1.heap.size := HT.out
    have hb4 : Below w2.heap.size w2 Wb2 := by rw [hW]; exact below_put8 hb3 (by have := Hnb.out; have := Hna.out; omega) _ _ _ _ _ _ _ _
    have HL2 : Hid (PrL Wb2 x2 (.slice a2p x2.1.items.length ca2p) (.slice a2q x2.2.items.length ca2q)) := by rw [hW]; exact ⟨LiesB.lies _ _ _ (LiesB.put8 hlt _ (LiesB.keepsB hg HL.out.1)), LiesB.lies _ _ _ (LiesB.put8 hlt _ (LiesB.keepsB hg HL.out.2))⟩
    have HP : Hid _ := pair_same x2 _ _ _ _ Wb2 HL2.out (hpl.keeps hb4)
    have HK : Hid (Wb2.cell? ⟨w.heap.size, 0, none⟩ = some (.int .i64 y.kind) ∧ Wb2.cell? ⟨w.heap.size, 1, none⟩ = some (.int .i64 y.num) ∧ Wb2.cell? ⟨w.heap.size, 2, none⟩ = some (.string y.text) ∧ Wb2.cell? ⟨w.heap.size, 3, none⟩ = some (.slice ay y.items.length cy)) := ⟨cell_keeps hb4 Hk.out.1, cell_keeps hb4 Hk.out.2.1, cell_keeps hb4 Hk.out.2.2.1, cell_keeps hb4 Hk.out.2.2.2⟩
    clear hW hg hb2 hb3 hpl HL HL2 HR2 hlt HBb HBa' k0 k1 k2 k3
    go_upto_region 13 with fail
    rw [← HW.out]
    clear HW y0 y1 y2 y3 y4 y5 y6 y7 f0 f1 f2 f3 f4 f5 f6 f7
    obtain ⟨k0, k1, k2, k3⟩ := HK.out
    have HBb : Hid (Bx8 Wb2 nb (.int .i64 x2.1.kind) (.int .i64 x2.1.num) (.string x2.1.text) (.slice a2r x2.1.items.length ca2r) (.int .i64 x2.2.kind) (.int .i64 x2.2.num) (.string x2.2.text) (.slice a2s x2.2.items.length ca2s)) := HBb'.out
    clear HK HBb'
    obtain ⟨y0, y1, y2, y3, y4, y5, y6, y7, _, _, _, _, _, _, _, _, _⟩ := HBa.out
    obtain ⟨z0, z1, z2, z3, z4, z5, z6, z7, _, _, _, _, _, _, _, _, _⟩ := HBb.out
    go_wp2_with fail
    refine Calls.mono HP.out ?_
    rintro e V2 ⟨rfl, hg⟩
    have k0 := cell_keeps hg k0; have k1 := cell_keeps hg k1; have k2 := cell_keeps hg k2; have k3 := cell_keeps hg k3
    have hbV : Below w2.heap.size w2 V2 := hb4.trans (hg.mono hb4.size)
    have HBa : Hid (Bx8 V2 na (.int .i64 x2.1.kind) (.int .i64 x2.1.num) (.string x2.1.text) (.slice a2p x2.1.items.length ca2p) (.int .i64 x2.2.kind) (.int .i64 x2.2.num) (.string x2.2.text) (.slice a2q x2.2.items.length ca2q)) := HBa.out.keeps hg
    have HBb : Hid (Bx8 V2 nb (.int .i64 x2.1.kind) (.int .i64 x2.1.num) (.string x2.1.text) (.slice a2r x2.1.items.length ca2r) (.int .i64 x2.2.kind) (.int .i64 x2.2.num) (.string x2.2.text) (.slice a2s x2.2.items.length ca2s)) := HBb.out.keeps hg
    have HS : Hid (na < V2.heap.size) := by have h9 := cell_lt HBa.out.c0; show na < _; simpa using h9
    have HT : Hid (nb < V2.heap.size) := by have h9 := cell_lt HBb.out.c0; show nb < _; simpa using h9
    have e1 : (B2 != B2) = false := by simp
    have e2 : (E2 != E2) = false := by simp
    have e3 : (B2 == B2) = true := by simp
    have e4 : (E2 == E2) = true := by simp
    clear hg hb4 HP y0 y1 y2 y3 y4 y5 y6 y7 z0 z1 z2 z3 z4 z5 z6 z7

    clear e1 e2 e3 e4
    go_wp2_with fail
    refine Calls.mono (HF3.out _ hbV) ?_
    rintro e p3 ⟨hg, a3p, ca3p, a3q, ca3q, rfl, hl1, hl2⟩
    have k0 := cell_keeps hg k0; have k1 := cell_keeps hg k1; have k2 := cell_keeps hg k2; have k3 := cell_keeps hg k3
    have hb1 : Below w2.heap.size w2 p3 := hbV.trans (hg.mono hbV.size)
    have HBa : Hid (Bx8 p3 na (.int .i64 x2.1.kind) (.int .i64 x2.1.num) (.string x2.1.text) (.slice a2p x2.1.items.length ca2p) (.int .i64 x2.2.kind) (.int .i64 x2.2.num) (.string x2.2.text) (.slice a2q x2.2.items.length ca2q)) := HBa.out.keeps hg
    have HBb : Hid (Bx8 p3 nb (.int .i64 x2.1.kind) (.int .i64 x2.1.num) (.string x2.1.text) (.slice a2r x2.1.items.length ca2r) (.int .i64 x2.2.kind) (.int .i64 x2.2.num) (.string x2.2.text) (.slice a2s x2.2.items.length ca2s)) := HBb.out.keeps hg
    obtain ⟨y0, y1, y2, y3, y4, y5, y6, y7, f0, f1, f2, f3, f4, f5, f6, f7, _⟩ := HBa.out
    obtain ⟨Wa3, hW⟩ : ∃ W, W = p3.setCells na 0 [.int .i64 x3.1.kind, .int .i64 x3.1.num, .string x3.1.text, .slice a3p x3.1.items.length ca3p, .int .i64 x3.2.kind, .int .i64 x3.2.num, .string x3.2.text, .slice a3q x3.2.items.length ca3q] := ⟨_, rfl⟩
    have HW : Hid (Wa3 = (((((((p3.setCell ⟨na, 0, none⟩ (.int .i64 x3.1.kind)).setCell ⟨na, 1, none⟩ (.int .i64 x3.1.num)).setCell ⟨na, 2, none⟩ (.string x3.1.text)).setCell ⟨na, 3, none⟩ (.slice a3p x3.1.items.length ca3p)).setCell ⟨na, 4, none⟩ (.int .i64 x3.2.kind)).setCell ⟨na, 5, none⟩ (.int .i64 x3.2.num)).setCell ⟨na, 6, none⟩ (.string x3.2.text)).setCell ⟨na, 7, none⟩ (.slice a3q x3.2.items.length ca3q)) := hW
    have HBa' : Hid (Bx8 Wa3 na (.int .i64 x3.1.kind) (.int .i64 x3.1.num) (.string x3.1.text) (.slice a3p x3.1.items.length ca3p) (.int .i64 x3.2.kind) (.int .i64 x3.2.num) (.string x3.2.text) (.slice a3q x3.2.items.length ca3q)) := by rw [hW]; exact HBa.out.put _ _ _ _ _ _ _ _
    have HBb : Hid (Bx8 Wa3 nb (.int .i64 x2.1.kind) (.int .i64 x2.1.num) (.string x2.1.text) (.slice a2r x2.1.items.length ca2r) (.int .i64 x2.2.kind) (.int .i64 x2.2.num) (.string x2.2.text) (.slice a2s x2.2.items.length ca2s)) := by rw [hW]; exact bx8_other HBb.out (by have := Hnb.out; omega) _
    have hlt : na < V2.heap.size := HS.out
    have HL : Hid (LiesB V2.heap.size 16 Wa3 x3.1.items (.slice a3p x3.1.items.length ca3p) ∧ LiesB V2.heap.size 16 Wa3 x3.2.items (.slice a3q x3.2.items.length ca3q)) := by rw [hW]; exact ⟨LiesB.put8 hlt _ hl1, LiesB.put8 hlt _ hl2⟩
    have hb2 : Below w2.heap.size w2 Wa3 := by rw [hW]; exact below_put8 hb1 Hna.out _ _ _ _ _ _ _ _
    have HK : Hid (Wa3.cell? ⟨w.heap.size, 0, none⟩ = some (.int .i64 y.kind) ∧ Wa3.cell? ⟨w.heap.size, 1, none⟩ = some (.int .i64 y.num) ∧ Wa3.cell? ⟨w.heap.size, 2, none⟩ = some (.string y.text) ∧ Wa3.cell? ⟨w.heap.size, 3, none⟩ = some (.slice ay y.items.length cy)) := ⟨cell_keeps hb2 Hk.out.1, cell_keeps hb2 Hk.out.2.1, cell_keeps hb2 Hk.out.2.2.1, cell_keeps hb2 Hk.out.2.2.2⟩
    clear hW hl1 hl2 hg hb1 hbV HF3 hlt HBa k0 k1 k2 k3
    go_upto_region 16 with fail
    rw [← HW.out]
    clear HW y0 y1 y2 y3 y4 y5 y6 y7 f0 f1 f2 f3 f4 f5 f6 f7
    obtain ⟨k0, k1, k2, k3⟩ := HK.out
    clear HK
    go_wp2_with fail
    refine Calls.mono (HR3.out _ hb2) ?_
    rintro e d3 ⟨hg, a3r, ca3r, a3s, ca3s, rfl, hpl⟩
    have hb3 : Below w2.heap.size w2 d3 := hb2.trans (hg.mono hb2.size)
    have HBa : Hid (Bx8 d3 na (.int .i64 x3.1.kind) (.int .i64 x3.1.num) (.string x3.1.text) (.slice a3p x3.1.items.length ca3p) (.int .i64 x3.2.kind) (.int .i64 x3.2.num) (.string x3.2.text) (.slice a3q x3.2.items.length ca3q)) := HBa'.out.keeps hg
    have HBb : Hid (Bx8 d3 nb (.int .i64 x2.1.kind) (.int .i64 x2.1.num) (.string x2.1.text) (.slice a2r x2.1.items.length ca2r) (.int .i64 x2.2.kind) (.int .i64 x2.2.num) (.string x2.2.text) (.slice a2s x2.2.items.length ca2s)) := HBb.out.keeps hg
    obtain ⟨y0, y1, y2, y3, y4, y5, y6, y7, f0, f1, f2, f3, f4, f5, f6, f7, _⟩ := HBb.out
    obtain ⟨Wb3, hW⟩ : ∃ W, W = d3.setCells nb 0 [.int .i64 x3.1.kind, .int .i64 x3.1.num, .string x3.1.text, .slice a3r x3.1.items.length ca3r, .int .i64 x3.2.kind, .int .i64 x3.2.num, .string x3.2.text, .slice a3s x3.2.items.length ca3s] := ⟨_, rfl⟩
    have HW : Hid (Wb3 = (((((((d3.setCell ⟨nb, 0, none⟩ (.int .i64 x3.1.kind)).setCell ⟨nb, 1, none⟩ (.int .i64 x3.1.num)).setCell ⟨nb, 2, none⟩ (.string x3.1.text)).setCell ⟨nb, 3, none⟩ (.slice a3r x3.1.items.length ca3r)).setCell ⟨nb, 4, none⟩ (.int .i64 x3.2.kind)).setCell ⟨nb, 5, none⟩ (.int .i64 x3.2.num)).setCell ⟨nb, 6, none⟩ (.string x3.2.text)).setCell ⟨nb, 7, none⟩ (.slice a3s x3.2.items.length ca3s)) := hW
    have HBb' : Hid (Bx8 Wb3 nb (.int .i64 x3.1.kind) (.int .i64 x3.1.num) (.string x3.1.text) (.slice a3r x3.1.items.length ca3r) (.int .i64 x3.2.kind) (.int .i64 x3.2.num) (.string x3.2.text) (.slice a3s x3.2.items.length ca3s)) := by rw [hW]; exact HBb.out.put _ _ _ _ _ _ _ _
    have HBa : Hid (Bx8 Wb3 na (.int .i64 x3.1.kind) (.int .i64 x3.1.num) (.string x3.1.text) (.slice a3p x3.1.items.length ca3p) (.int .i64 x3.2.kind) (.int .i64 x3.2.num) (.string x3.2.text) (.slice a3q x3.2.items.length ca3q)) := by rw [hW]; exact bx8_other HBa.out (by have := Hnb.out; omega) _
    have hlt : nb < V2.heap.size := HT.out
    have hb4 : Below w2.heap.size w2 Wb3 := by rw [hW]; exact below_put8 hb3 (by have := Hnb.out; have := Hna.out; omega) _ _ _ _ _ _ _ _
    have HL2 : Hid (PrL Wb3 x3 (.slice a3p x3.1.items.length ca3p) (.slice a3q x3.2.items.length ca3q)) := by rw [hW]; exact ⟨LiesB.lies _ _ _ (LiesB.put8 hlt _ (LiesB.keepsB hg HL.out.1)), LiesB.lies _ _ _ (LiesB.put8 hlt _ (LiesB.keepsB hg HL.out.2))⟩
    have HP : Hid _ := pair_same x3 _ _ _ _ Wb3 HL2.out (hpl.keeps hb4)
    have HK : Hid (Wb3.cell? ⟨w.heap.size, 0, none⟩ = some (.int .i64 y.kind) ∧ Wb3.cell? ⟨w.heap.size, 1, none⟩ = some (.int .i64 y.num) ∧ Wb3.cell? ⟨w.heap.size, 2, none⟩ = some (.string y.text) ∧ Wb3.cell? ⟨w.heap.size, 3, none⟩ = some (.slice ay y.items.length cy)) := ⟨cell_keeps hb4 Hk.out.1, cell_keeps hb4 Hk.out.2.1, cell_keeps hb4 Hk.out.2.2.1, cell_keeps hb4 Hk.out.2.2.2⟩
    clear hW hg hb2 hb3 hpl HL HL2 HR3 hlt HBb HBa' k0 k1 k2 k3
    go_upto_region 17 with fail
    rw [← HW.out]
    clear HW y0 y1 y2 y3 y4 y5 y6 y7 f0 f1 f2 f3 f4 f5 f6 f7
    obtain ⟨k0, k1, k2, k3⟩ := HK.out
    have HBb : Hid (Bx8 Wb3 nb (.int .i64 x3.1.kind) (.int .i64 x3.1.num) (.string x3.1.text) (.slice a3r x3.1.items.length ca3r) (.int .i64 x3.2.kind) (.int .i64 x3.2.num) (.string x3.2.text) (.slice a3s x3.2.items.length ca3s)) := HBb'.out
    clear HK HBb'
    obtain ⟨y0, y1, y2, y3, y4, y5, y6, y7, _, _, _, _, _, _, _, _, _⟩ := HBa.out
    obtain ⟨z0, z1, z2, z3, z4, z5, z6, z7, _, _, _, _, _, _, _, _, _⟩ := HBb.out
    go_wp2_with fail
    refine Calls.mono HP.out ?_
    rintro e V3 ⟨rfl, hg⟩
    have k0 := cell_keeps hg k0; have k1 := cell_keeps hg k1; have k2 := cell_keeps hg k2; have k3 := cell_keeps hg k3
    have hbV : Below w2.heap.size w2 V3 := hb4.trans (hg.mono hb4.size)
    have HBa : Hid (Bx8 V3 na (.int .i64 x3.1.kind) (.int .i64 x3.1.num) (.string x3.1.text) (.slice a3p x3.1.items.length ca3p) (.int .i64 x3.2.kind) (.int .i64 x3.2.num) (.string x3.2.text) (.slice a3q x3.2.items.length ca3q)) := HBa.out.keeps hg
    have HBb : Hid (Bx8 V3 nb (.int .i64 x3.1.kind) (.int .i64 x3.1.num) (.string x3.1.text) (.slice a3r x3.1.items.length ca3r) (.int .i64 x3.2.kind) (.int .i64 x3.2.num) (.string x3.2.text) (.slice a3s x3.2.items.length ca3s)) := HBb.out.keeps hg
    have HS : Hid (na < V3.heap.size) := by have h9 := cell_lt HBa.out.c0; show na < _; simpa using h9
    have HT : Hid (nb < V3.heap.size) := by have h9 := cell_lt HBb.out.c0; show nb < _; simpa using h9
    have e1 : (B3 != B3) = false := by simp
    have e2 : (E3 != E3) = false := by simp
    have e3 : (B3 == B3) = true := by simp
    have e4 : (E3 == E3) = true := by simp
    clear hg hb4 HP y0 y1 y2 y3 y4 y5 y6 y7 z0 z1 z2 z3 z4 z5 z6 z7

    clear e1 e2 e3 e4
    go_wp2_with fail
    refine Calls.mono (HF4.out _ hbV) ?_
    rintro e p4 ⟨hg, a4p, ca4p, a4q, ca4q, rfl, hl1, hl2⟩
    have k0 := cell_keeps hg k0; have k1 := cell_keeps hg k1; have k2 := cell_keeps hg k2; have k3 := cell_keeps hg k3
    have hb1 : Below w2.heap.size w2 p4 := hbV.trans (hg.mono hbV.size)
    have HBa : Hid (Bx8 p4 na (.int .i64 x3.1.kind) (.int .i64 x3.1.num) (.string x3.1.text) (.slice a3p x3.1.items.length ca3p) (.int .i64 x3.2.kind) (.int .i64 x3.2.num) (.string x3.2.text) (.slice a3q x3.2.items.length ca3q)) := HBa.out.keeps hg
    have HBb : Hid (Bx8 p4 nb (.int .i64 x3.1.kind) (.int .i64 x3.1.num) (.string x3.1.text) (.slice a3r x3.1.items.length ca3r) (.int .i64 x3.2.kind) (.int .i64 x3.2.num) (.string x3.2.text) (.slice a3s x3.2.items.length ca3s)) := HBb.out.keeps hg
    obtain ⟨y0, y1, y2, y3, y4, y5, y6, y7, f0, f1, f2, f3, f4, f5, f6, f7, _⟩ := HBa.out
    obtain ⟨Wa4, hW⟩ : ∃ W, W = p4.setCells na 0 [.int .i64 x4.1.kind, .int .i64 x4.1.num, .string x4.1.text, .slice a4p x4.1.items.length ca4p, .int .i64 x4.2.kind, .int .i64 x4.2.num, .string x4.2.text, .slice a4q x4.2.items.length ca4q] := ⟨_, rfl⟩
    have HW : Hid (Wa4 = (((((((p4.setCell ⟨na, 0, none⟩ (.int .i64 x4.1.kind)).setCell ⟨na, 1, none⟩ (.int .i64 x4.1.num)).setCell ⟨na, 2, none⟩ (.string x4.1.text)).setCell ⟨na, 3, none⟩ (.slice a4p x4.1.items.length ca4p)).setCell ⟨na, 4, none⟩ (.int .i64 x4.2.kind)).setCell ⟨na, 5, none⟩ (.int .i64 x4.2.num)).setCell ⟨na, 6, none⟩ (.string x4.2.text)).setCell ⟨na, 7, none⟩ (.slice a4q x4.2.items.length ca4q)) := hW
    have HBa' : Hid (Bx8 Wa4 na (.int .i64 x4.1.kind) (.int .i64 x4.1.num) (.string x4.1.text) (.slice a4p x4.1.items.length ca4p) (.int .i64 x4.2.kind) (.int .i64 x4.2.num) (.string x4.2.text) (.slice a4q x4.2.items.length ca4q)) := by rw [hW]; exact HBa.out.put _ _ _ _ _ _ _ _
    have HBb : Hid (Bx8 Wa4 nb (.int .i64 x3.1.kind) (.int .i64 x3.1.num) (.string x3.1.text) (.slice a3r x3.1.items.length ca3r) (.int .i64 x3.2.kind) (.int .i64 x3.2.num) (.string x3.2.text) (.slice a3s x3.2.items.length ca3s)) := by rw [hW]; exact bx8_other HBb.out (by have := Hnb.out; omega) _
    have hlt : na < V3.heap.size := HS.out
    have HL : Hid (LiesB V3.heap.size 16 Wa4 x4.1.items (.slice a4p x4.1.items.length ca4p) ∧ LiesB V3.heap.size 16 Wa4 x4.2.items (.slice a4q x4.2.items.length ca4q)) := by rw [hW]; exact ⟨LiesB.put8 hlt _ hl1, LiesB.put8 hlt _ hl2⟩
    have hb2 : Below w2.heap.size w2 Wa4 := by rw [hW]; exact below_put8 hb1 Hna.out _ _ _ _ _ _ _ _
    have HK : Hid (Wa4.cell? ⟨w.heap.size, 0, none⟩ = some (.int .i64 y.kind) ∧ Wa4.cell? ⟨w.heap.size, 1, none⟩ = some (.int .i64 y.num) ∧ Wa4.cell? ⟨w.heap.size, 2, none⟩ = some (.string y.text) ∧ Wa4.cell? ⟨w.heap.size, 3, none⟩ = some (.slice ay y.items.length cy)) := ⟨cell_keeps hb2 Hk.out.1, cell_keeps hb2 Hk.out.2.1, cell_keeps hb2 Hk.out.2.2.1, cell_keeps hb2 Hk.out.2.2.2⟩
    clear hW hl1 hl2 hg hb1 hbV HF4 hlt HBa k0 k1 k2 k3
    go_upto_region 20 with fail
    rw [← HW.out]
    clear HW y0 y1 y2 y3 y4 y5 y6 y7 f0 f1 f2 f3 f4 f5 f6 f7
    obtain ⟨k0, k1, k2, k3⟩ := HK.out
    clear HK
    go_wp2_with fail
    refine Calls.mono (HR4.out _ hb2) ?_
    rintro e d4 ⟨hg, a4r, ca4r, a4s, ca4s, rfl, hpl⟩
    have hb3 : Below w2.heap.size w2 d4 := hb2.trans (hg.mono hb2.size)
    have HBa : Hid (Bx8 d4 na (.int .i64 x4.1.kind) (.int .i64 x4.1.num) (.string x4.1.text) (.slice a4p x4.1.items.length ca4p) (.int .i64 x4.2.kind) (.int .i64 x4.2.num) (.string x4.2.text) (.slice a4q x4.2.items.length ca4q)) := HBa'.out.keeps hg
    have HBb : Hid (Bx8 d4 nb (.int .i64 x3.1.kind) (.int .i64 x3.1.num) (.string x3.1.text) (.slice a3r x3.1.items.length ca3r) (.int .i64 x3.2.kind) (.int .i64 x3.2.num) (.string x3.2.text) (.slice a3s x3.2.items.length ca3s)) := HBb.out.keeps hg
    obtain ⟨y0, y1, y2, y3, y4, y5, y6, y7, f0, f1, f2, f3, f4, f5, f6, f7, _⟩ := HBb.out
    obtain ⟨Wb4, hW⟩ : ∃ W, W = d4.setCells nb 0 [.int .i64 x4.1.kind, .int .i64 x4.1.num, .string x4.1.text, .slice a4r x4.1.items.length ca4r, .int .i64 x4.2.kind, .int .i64 x4.2.num, .string x4.2.text, .slice a4s x4.2.items.length ca4s] := ⟨_, rfl⟩
    have HW : Hid (Wb4 = (((((((d4.setCell ⟨nb, 0, none⟩ (.int .i64 x4.1.kind)).setCell ⟨nb, 1, none⟩ (.int .i64 x4.1.num)).setCell ⟨nb, 2, none⟩ (.string x4.1.text)).setCell ⟨nb, 3, none⟩ (.slice a4r x4.1.items.length ca4r)).setCell ⟨nb, 4, none⟩ (.int .i64 x4.2.kind)).setCell ⟨nb, 5, none⟩ (.int .i64 x4.2.num)).setCell ⟨nb, 6, none⟩ (.string x4.2.text)).setCell ⟨nb, 7, none⟩ (.slice a4s x4.2.items.length ca4s)) := hW
    have HBb' : Hid (Bx8 Wb4 nb (.int .i64 x4.1.kind) (.int .i64 x4.1.num) (.string x4.1.text) (.slice a4r x4.1.items.length ca4r) (.int .i64 x4.2.kind) (.int .i64 x4.2.num) (.string x4.2.text) (.slice a4s x4.2.items.length ca4s)) := by rw [hW]; exact HBb.out.put _ _ _ _ _ _ _ _
    have HBa : Hid (Bx8 Wb4 na (.int .i64 x4.1.kind) (.int .i64 x4.1.num) (.string x4.1.text) (.slice a4p x4.1.items.length ca4p) (.int .i64 x4.2.kind) (.int .i64 x4.2.num) (.string x4.2.text) (.slice a4q x4.2.items.length ca4q)) := by rw [hW]; exact bx8_other HBa.out (by have := Hnb.out; omega) _
    have hlt : nb < V3.heap.size := HT.out
    have hb4 : Below w2.heap.size w2 Wb4 := by rw [hW]; exact below_put8 hb3 (by have := Hnb.out; have := Hna.out; omega) _ _ _ _ _ _ _ _
    have HL2 : Hid (PrL Wb4 x4 (.slice a4p x4.1.items.length ca4p) (.slice a4q x4.2.items.length ca4q)) := by rw [hW]; exact ⟨LiesB.lies _ _ _ (LiesB.put8 hlt _ (LiesB.keepsB hg HL.out.1)), LiesB.lies _ _ _ (LiesB.put8 hlt _ (LiesB.keepsB hg HL.out.2))⟩
    have HP : Hid _ := pair_same x4 _ _ _ _ Wb4 HL2.out (hpl.keeps hb4)
    have HK : Hid (Wb4.cell? ⟨w.heap.size, 0, none⟩ = some (.int .i64 y.kind) ∧ Wb4.cell? ⟨w.heap.size, 1, none⟩ = some (.int .i64 y.num) ∧ Wb4.cell? ⟨w.heap.size, 2, none⟩ = some (.string y.text) ∧ Wb4.cell? ⟨w.heap.size, 3, none⟩ = some (.slice ay y.items.length cy)) := ⟨cell_keeps hb4 Hk.out.1, cell_keeps hb4 Hk.out.2.1, cell_keeps hb4 Hk.out.2.2.1, cell_keeps hb4 Hk.out.2.2.2⟩
    clear hW hg hb2 hb3 hpl HL HL2 HR4 hlt HBb HBa' k0 k1 k2 k3
    go_upto_region 21 with fail
    rw [← HW.out]
    clear HW y0 y1 y2 y3 y4 y5 y6 y7 f0 f1 f2 f3 f4 f5 f6 f7
    obtain ⟨k0, k1, k2, k3⟩ := HK.out
    have HBb : Hid (Bx8 Wb4 nb (.int .i64 x4.1.kind) (.int .i64 x4.1.num) (.string x4.1.text) (.slice a4r x4.1.items.length ca4r) (.int .i64 x4.2.kind) (.int .i64 x4.2.num) (.string x4.2.text) (.slice a4s x4.2.items.length ca4s)) := HBb'.out
    clear HK HBb'
    obtain ⟨y0, y1, y2, y3, y4, y5, y6, y7, _, _, _, _, _, _, _, _, _⟩ := HBa.out
    obtain ⟨z0, z1, z2, z3, z4, z5, z6, z7, _, _, _, _, _, _, _, _, _⟩ := HBb.out
    go_wp2_with fail
    refine Calls.mono HP.out ?_
    rintro e V4 ⟨rfl, hg⟩
    have k0 := cell_keeps hg k0; have k1 := cell_keeps hg k1; have k2 := cell_keeps hg k2; have k3 := cell_keeps hg k3
    have hbV : Below w2.heap.size w2 V4 := hb4.trans (hg.mono hb4.size)
    have HBa : Hid (Bx8 V4 na (.int .i64 x4.1.kind) (.int .i64 x4.1.num) (.string x4.1.text) (.slice a4p x4.1.items.length ca4p) (.int .i64 x4.2.kind) (.int .i64 x4.2.num) (.string x4.2.text) (.slice a4q x4.2.items.length ca4q)) := HBa.out.keeps hg
    have HBb : Hid (Bx8 V4 nb (.int .i64 x4.1.kind) (.int .i64 x4.1.num) (.string x4.1.text) (.slice a4r x4.1.items.length ca4r) (.int .i64 x4.2.kind) (.int .i64 x4.2.num) (.string x4.2.text) (.slice a4s x4.2.items.length ca4s)) := HBb.out.keeps hg
    have HS : Hid (na < V4.heap.size) := by have h9 := cell_lt HBa.out.c0; show na < _; simpa using h9
    have HT : Hid (nb < V4.heap.size) := by have h9 := cell_lt HBb.out.c0; show nb < _; simpa using h9
    have e1 : (B4 != B4) = false := by simp
    have e2 : (E4 != E4) = false := by simp
    have e3 : (B4 == B4) = true := by simp
    have e4 : (E4 == E4) = true := by simp
    clear hg hb4 HP y0 y1 y2 y3 y4 y5 y6 y7 z0 z1 z2 z3 z4 z5 z6 z7

    clear HBa HBb HS HT Hk k0 k1 k2 k3
    go_wp2_with fail
    refine Calls.mono (HSp.out _) ?_
    rintro e w9 ⟨rfl, hg9⟩
    have hb9 : Below w.heap.size w w9 := Hb2.out.trans ((hbV.trans (hg9.mono hbV.size)).mono Hb2.out.size)
    clear hg9
    go_wp2_with fail
    go_ret
    exact ⟨rfl, hb9⟩

end Go.Proofs.YtpmodiodpilmeaaGreat

namespace Go.Proofs.YtpmodiodpilmeaaGreat
open Go.RowKit Go.Shelf

set_option maxRecDepth 100000 in
set_option maxHeartbeats 16000000 in
theorem nexts_walk (o : Int) (d : Nat) (qs : List PP) (u : Value) (d2 : Nat) (y : VT) (yu : Value) (w : World) (hu : SlQ 0 d w qs u) (hy : Lies d2 w y.items yu) (ht : y.text.size ≤ 9223372036854775807) :
    Calls Tryz.prog 7 #[.int .i64 o, u, .agg #[.int .i64 y.kind, .int .i64 y.num, .string y.text, yu]] w fun e w' => e = .returned (.bool true) ∧ Below w.heap.size w w' := by
  have HSp : Hid (∀ V, Calls Tryz.prog 9 #[] V fun e w' => e = .returned (.bool true) ∧ Below V.heap.size V w') := speaks15_any
  obtain ⟨au, cu, rfl, _⟩ := hu.slice
  obtain ⟨ay, cy, rfl, _⟩ := Lies.slice hy
  have HO : Hid (∀ V, Below w.heap.size w V → Calls Tryz.prog 8 #[.int .i64 o, .slice au qs.length cu] V (OfPost14 d o qs V)) := fun V hV => mof_14 d o qs _ V (hu.keeps hV)
  have HY : Hid (Lies d2 w y.items (.slice ay y.items.length cy)) := hy
  have HYt : Hid (y.text.size ≤ 9223372036854775807) := ht
  have HK0 : Hid (Bx (w.alloc (.cells #[.int .i64 y.kind, .int .i64 y.num, .string y.text, .slice ay y.items.length cy] 25)) w.heap.size y (.slice ay y.items.length cy)) := bx_alloc _ _ _
  have hb0 : Below w.heap.size w (w.alloc (.cells #[.int .i64 y.kind, .int .i64 y.num, .string y.text, .slice ay y.items.length cy] 25)) := ((Grew.refl w).alloc _).below
  clear hu hy ht
  go_enter Tryz.func7, Tryz.ntmps7
  go_wp2_with fail
  refine Calls.mono (HO.out _ hb0) ?_
  rintro e w1 ⟨hg1, hcase⟩
  have HK1 : Hid (Bx w1 w.heap.size y (.slice ay y.items.length cy)) := HK0.out.keeps hg1
  have hb1 : Below w.heap.size w w1 := hb0.trans (hg1.mono hb0.size)
  clear hg1 hb0 HO HK0
  rcases hcase with ⟨hne, rfl⟩ | ⟨he0, t, b, rfl, hm, _⟩
  · generalize ofErr d o (qs.map trT) = E at hne ⊢
    generalize qs.length = L at *
    go_wp2_with fail
    refine Calls.mono (HSp.out _) ?_
    rintro e w2 ⟨rfl, hg2⟩
    have hb2 : Below w.heap.size w w2 := hb1.trans (hg2.mono hb1.size)
    clear hg2
    go_wp2_with fail
    go_ret
    exact ⟨rfl, hb2⟩
  · obtain ⟨q, hq⟩ : ∃ q, q = o.toNat := ⟨_, rfl⟩
    rw [← hq] at hm
    have hoq : o = (q : Int) := by
      have h9 : ordErr o = 0 := by
        unfold ofErr at he0
        by_cases h8 : ordErr o = 0
        · exact h8
        · rw [if_pos h8] at he0; exact he0
      have h8 : 0 ≤ o := by
        unfold ordErr at h9
        by_cases h7 : 0 ≤ o
        · exact h7
        · rw [if_pos (by omega)] at h9; exact absurd h9 (by decide)
      omega
    subst hoq
    clear he0 hq
    generalize qs.length = L at *
    have HM : Hid (MC w1 q t b) := hm
    have HYw : Hid (∀ V, Below w1.heap.size w1 V → Lies d2 V y.items (.slice ay y.items.length cy)) := fun V hV => Lies.keeps (hb1.trans (hV.mono hb1.size)) _ _ _ HY.out
    obtain ⟨k0, k1, k2, k3, _, _, _, _⟩ := HK1.out
    cases hr : rightV d2 y with
    | false =>
      have HR : Hid _ := rank15_wrong d2 b y _ w1 (HYw.out _ (Below.refl _ _)) HYt.out hr
      clear hm hr
      go_wp2_with fail
      refine Calls.mono HR.out ?_
      rintro e w2 ⟨rfl, hg2⟩
      have hb2 : Below w.heap.size w w2 := hb1.trans (hg2.mono hb1.size)
      clear hg2 k0 k1 k2 k3 HR
      go_wp2_with fail
      refine Calls.mono (HSp.out _) ?_
      rintro e w3 ⟨rfl, hg3⟩
      have hb3 : Below w.heap.size w w3 := hb2.trans (hg3.mono hb2.size)
      clear hg3
      go_wp2_with fail
      go_ret
      exact ⟨rfl, hb3⟩
    | true =>
      obtain ⟨n, hn⟩ : ∃ n, n = RT.upTo (atK q y) false t := ⟨_, rfl⟩
      obtain ⟨m, hmm⟩ : ∃ m, m = RT.upTo (atK q y) true t := ⟨_, rfl⟩
      have hc := canon (HYw.out _ (Below.refl _ _)) hr
      have hth := upTo_there (y := y) hm ⟨hc.2, Dp.of_lies 16 w1 y _ hc.1⟩
      rw [← hn, ← hmm] at hth
      have hmn : m = n ∨ m = n + 1 := by
        rw [hth]
        cases thereR q t.items y with
        | false => exact .inl rfl
        | true => exact .inr rfl
      have hml : m ≤ t.items.length := by rw [hmm]; exact upTo_lel y true hm
      have hsz : t.items.length ≤ 65536 := by rw [← RT.size_items]; exact hm.size
      obtain ⟨O1, hO1⟩ : ∃ O, O = itemAt t.items (n : Int) := ⟨_, rfl⟩
      have HR : Hid (Calls Tryz.prog 22 #[.pointer (some ⟨b, 0, none⟩), .agg #[.int .i64 y.kind, .int .i64 y.num, .string y.text, .slice ay y.items.length cy]] w1 fun e w' => e = .returned (.tuple #[.int .i64 (n : Int), .int .i64 0]) ∧ Below w1.heap.size w1 w') := by rw [hn]; exact rank15_right d2 b q t y _ w1 hm (HYw.out _ (Below.refl _ _)) HYt.out hr
      have HA : Hid (∀ V, Below w1.heap.size w1 V → Calls Tryz.prog 20 #[.pointer (some ⟨b, 0, none⟩), .int .i64 (n : Int)] V (PrE (orZ O1) (orE O1) V)) := fun V hV => by rw [hO1]; exact Calls.mono (rat_15 b q t _ V (hm.keeps hV)) fun e w' h => h.pr
      have HC : Hid (∀ V, Below w1.heap.size w1 V → Calls Tryz.prog 15 #[.pointer (some ⟨b, 0, none⟩), .agg #[.int .i64 y.kind, .int .i64 y.num, .string y.text, .slice ay y.items.length cy]] V (Pr3 (orZ O1) O1.isSome 0 V)) := fun V hV => by rw [hO1, hn]; exact Calls.mono (ceil15_right d2 b q t y _ V (hm.keeps hV) (HYw.out _ hV) HYt.out hr) fun e w' h => h.pr
      have HF : Hid (∀ V, Below w1.heap.size w1 V → Calls Tryz.prog 11 #[.pointer (some ⟨b, 0, none⟩), .agg #[.int .i64 y.kind, .int .i64 y.num, .string y.text, .slice ay y.items.length cy]] V (Pr3 (orZ (itemAt t.items ((m : Int) - 1))) (itemAt t.items ((m : Int) - 1)).isSome 0 V)) := fun V hV => by rw [hmm]; exact Calls.mono (floor15_right d2 b q t y _ V (hm.keeps hV) (HYw.out _ hV) HYt.out hr) fun e w' h => h.pr
      have HMN : Hid (m = n ∨ m = n + 1) := hmn
      have HML : Hid (m ≤ t.items.length ∧ t.items.length ≤ 65536) := ⟨hml, hsz⟩
      have hBE : O1.isSome = (orE O1 == 0) := by cases O1 <;> rfl
      rw [hBE] at HC
      clear hn hmm hc hth hmn hml hsz hO1 hm hr hBE
      generalize orZ O1 = x1 at *
      generalize orE O1 = E1 at *
      go_wp2_with fail
      refine Calls.mono HR.out ?_
      rintro e v0 ⟨rfl, hg⟩
      have hbv : Below w1.heap.size w1 v0 := hg
      have Hb1 : Hid (Below w.heap.size w w1) := hb1
      have k0 := cell_keeps hg k0
      have k1 := cell_keeps hg k1
      have k2 := cell_keeps hg k2
      have k3 := cell_keeps hg k3

      clear hg HR hb1
      go_wp2_with fail
      refine Calls.mono (HA.out _ hbv) ?_
      rintro e v1 ⟨hg, ap, cap, aq, caq, rfl, hl1, hl2⟩
      have hbx : Below w1.heap.size w1 v1 := hbv.trans (hg.mono hbv.size)
      have k0 := cell_keeps hg k0
      have k1 := cell_keeps hg k1
      have k2 := cell_keeps hg k2
      have k3 := cell_keeps hg k3

      clear hg HA hbv
      obtain ⟨na, hna⟩ : ∃ n, n = v1.heap.size := ⟨_, rfl⟩
      obtain ⟨W1, hW⟩ : ∃ W, W = v1.alloc (.cells #[.int .i64 x1.1.kind, .int .i64 x1.1.num, .string x1.1.text, .slice ap x1.1.items.length cap, .int .i64 x1.2.kind, .int .i64 x1.2.num, .string x1.2.text, .slice aq x1.2.items.length caq] 33) := ⟨_, rfl⟩
      have HW : Hid (W1 = v1.alloc (.cells #[.int .i64 x1.1.kind, .int .i64 x1.1.num, .string x1.1.text, .slice ap x1.1.items.length cap, .int .i64 x1.2.kind, .int .i64 x1.2.num, .string x1.2.text, .slice aq x1.2.items.length caq] 33)) := hW
      have hal : Below v1.heap.size v1 W1 := by rw [hW]; exact ((Grew.refl v1).alloc _).below
      have HBna : Hid (Bx8 W1 na (.int .i64 x1.1.kind) (.int .i64 x1.1.num) (.string x1.1.text) (.slice ap x1.1.items.length cap) (.int .i64 x1.2.kind) (.int .i64 x1.2.num) (.string x1.2.text) (.slice aq x1.2.items.length caq)) := by rw [hW, hna]; exact bx8_alloc _ _ _ _ _ _ _ _ _ _
      have HLna : Hid (PrL W1 x1 (.slice ap x1.1.items.length cap) (.slice aq x1.2.items.length caq)) := (⟨LiesB.lies _ _ _ hl1, LiesB.lies _ _ _ hl2⟩ : PrL v1 x1 _ _).keeps hal
      have hbv : Below w1.heap.size w1 W1 := hbx.trans (hal.mono hbx.size)
      have k0 := cell_keeps hal k0
      have k1 := cell_keeps hal k1
      have k2 := cell_keeps hal k2
      have k3 := cell_keeps hal k3
      clear hW hal hl1 hl2 hbx
      go_upto_region 10 with fail
      rw [← HW.out, ← hna]
      clear HW hna

      go_wp2_with fail
      refine Calls.mono (HC.out _ hbv) ?_
      rintro e v2 ⟨hg, ar, car, asx, casx, rfl, hl1, hl2⟩
      have hbx : Below w1.heap.size w1 v2 := hbv.trans (hg.mono hbv.size)
      have k0 := cell_keeps hg k0
      have k1 := cell_keeps hg k1
      have k2 := cell_keeps hg k2
      have k3 := cell_keeps hg k3
      have HBna : Hid (Bx8 v2 na (.int .i64 x1.1.kind) (.int .i64 x1.1.num) (.string x1.1.text) (.slice ap x1.1.items.length cap) (.int .i64 x1.2.kind) (.int .i64 x1.2.num) (.string x1.2.text) (.slice aq x1.2.items.length caq)) := HBna.out.keeps hg
      have HLna : Hid (PrL v2 x1 (.slice ap x1.1.items.length cap) (.slice aq x1.2.items.length caq)) := HLna.out.keeps hg

      clear hg HC hbv
      obtain ⟨nb, hnb⟩ : ∃ n, n = v2.heap.size := ⟨_, rfl⟩
      obtain ⟨W2, hW⟩ : ∃ W, W = v2.alloc (.cells #[.int .i64 x1.1.kind, .int .i64 x1.1.num, .string x1.1.text, .slice ar x1.1.items.length car, .int .i64 x1.2.kind, .int .i64 x1.2.num, .string x1.2.text, .slice asx x1.2.items.length casx] 33) := ⟨_, rfl⟩
      have HW : Hid (W2 = v2.alloc (.cells #[.int .i64 x1.1.kind, .int .i64 x1.1.num, .string x1.1.text, .slice ar x1.1.items.length car, .int .i64 x1.2.kind, .int .i64 x1.2.num, .string x1.2.text, .slice asx x1.2.items.length casx] 33)) := hW
      have hal : Below v2.heap.size v2 W2 := by rw [hW]; exact ((Grew.refl v2).alloc _).below
      have HBnb : Hid (Bx8 W2 nb (.int .i64 x1.1.kind) (.int .i64 x1.1.num) (.string x1.1.text) (.slice ar x1.1.items.length car) (.int .i64 x1.2.kind) (.int .i64 x1.2.num) (.string x1.2.text) (.slice asx x1.2.items.length casx)) := by rw [hW, hnb]; exact bx8_alloc _ _ _ _ _ _ _ _ _ _
      have HLnb : Hid (PrL W2 x1 (.slice ar x1.1.items.length car) (.slice asx x1.2.items.length casx)) := (⟨LiesB.lies _ _ _ hl1, LiesB.lies _ _ _ hl2⟩ : PrL v2 x1 _ _).keeps hal
      have hbv : Below w1.heap.size w1 W2 := hbx.trans (hal.mono hbx.size)
      have k0 := cell_keeps hal k0
      have k1 := cell_keeps hal k1
      have k2 := cell_keeps hal k2
      have k3 := cell_keeps hal k3
      have HBna : Hid (Bx8 W2 na (.int .i64 x1.1.kind) (.int .i64 x1.1.num) (.string x1.1.text) (.slice ap x1.1.items.length cap) (.int .i64 x1.2.kind) (.int .i64 x1.2.num) (.string x1.2.text) (.slice aq x1.2.items.length caq)) := HBna.out.keeps hal
      have HLna : Hid (PrL W2 x1 (.slice ap x1.1.items.length cap) (.slice aq x1.2.items.length caq)) := HLna.out.keeps hal
      clear hW hal hl1 hl2 hbx
      go_upto_region 11 with fail
      rw [← HW.out, ← hnb]
      clear HW hnb

      obtain ⟨y0, y1, y2, y3, y4, y5, y6, y7, _, _, _, _, _, _, _, _, _⟩ := HBna.out
      obtain ⟨z0, z1, z2, z3, z4, z5, z6, z7, _, _, _, _, _, _, _, _, _⟩ := HBnb.out
      have HP : Hid _ := pair_same x1 _ _ _ _ W2 HLna.out HLnb.out
      go_wp2_with fail
      refine Calls.mono HP.out ?_
      rintro e v3 ⟨rfl, hg⟩
      have hbw : Below w1.heap.size w1 v3 := hbv.trans (hg.mono hbv.size)
      have k0 := cell_keeps hg k0
      have k1 := cell_keeps hg k1
      have k2 := cell_keeps hg k2
      have k3 := cell_keeps hg k3

      clear hg HP hbv y0 y1 y2 y3 y4 y5 y6 y7 z0 z1 z2 z3 z4 z5 z6 z7 HBna HBnb HLna HLnb
      cases hO3 : itemAt t.items ((m : Int) - 1) with
      | none =>
        have HF3 : Hid (Calls Tryz.prog 11 #[.pointer (some ⟨b, 0, none⟩), .agg #[.int .i64 y.kind, .int .i64 y.num, .string y.text, .slice ay y.items.length cy]] v3 (Pr3 zeroPT false 0 v3)) := by have h9 := HF.out v3 hbw; rw [hO3] at h9; exact h9
        have hn0 : n = 0 := by
          have h9 := HML.out.1
          have h8 := HMN.out
          by_cases h7 : m = 0
          · omega
          · obtain ⟨m', rfl⟩ : ∃ m', m = m' + 1 := ⟨m - 1, by omega⟩
            have h6 : ((m' + 1 : Nat) : Int) - 1 = (m' : Int) := by omega
            rw [h6, itemAt_nat, List.getElem?_eq_none_iff] at hO3
            omega
        subst hn0
        clear HF hO3 HMN HML
        go_wp2_with fail
        refine Calls.mono HF3.out ?_
        rintro e v4 ⟨hg, a1, c1, a2, c2, rfl, _, _⟩
        have hbu : Below w1.heap.size w1 v4 := hbw.trans (hg.mono hbw.size)
        have HB4 : Hid (∀ A, Below w.heap.size w (v4.alloc A)) := fun A => (Hb1.out.trans (hbu.mono Hb1.out.size)).trans (((Grew.refl v4).alloc A).below.mono (Hb1.out.trans (hbu.mono Hb1.out.size)).size)
        clear hg hbw hbu HF3 k0 k1 k2 k3
        go_wp2_with fail
        refine Calls.mono (HSp.out _) ?_
        rintro e w9 ⟨rfl, hg9⟩
        have hb9 : Below w.heap.size w w9 := (HB4.out _).trans (hg9.mono (HB4.out _).size)
        clear hg9
        go_wp2_with fail
        go_ret
        exact ⟨rfl, hb9⟩
      | some x3 =>
        obtain ⟨r, hr0, hrx⟩ : ∃ r : Nat, m = r + 1 ∧ t.items[r]? = some x3 := by
          by_cases h7 : m = 0
          · subst h7
            have h8 : itemAt t.items (((0 : Nat) : Int) - 1) = none := by unfold itemAt; rw [if_neg (by omega)]
            rw [h8] at hO3
            cases hO3
          · obtain ⟨m', rfl⟩ : ∃ m', m = m' + 1 := ⟨m - 1, by omega⟩
            refine ⟨m', rfl, ?_⟩
            have h6 : ((m' + 1 : Nat) : Int) - 1 = (m' : Int) := by omega
            rwa [h6, itemAt_nat] at hO3
        have HF3 : Hid (Calls Tryz.prog 11 #[.pointer (some ⟨b, 0, none⟩), .agg #[.int .i64 y.kind, .int .i64 y.num, .string y.text, .slice ay y.items.length cy]] v3 (Pr3 x3 true 0 v3)) := by have h9 := HF.out v3 hbw; rw [hO3] at h9; exact h9
        have hmem : x3 ∈ t.items := List.mem_of_getElem? hrx
        have hg3 := (HM.out.right x3 hmem).1
        have hx3t : x3.1.text.size ≤ 9223372036854775807 := Nat.le_trans (right_text (right_own hg3.1)).1 (by omega)
        obtain ⟨O4, hO4⟩ : ∃ O, O = itemAt t.items ((r : Int) + 1) := ⟨_, rfl⟩
        have HR3 : Hid (∀ (a : Option Addr) (c : Nat) V, Below w1.heap.size w1 V → Lies 16 V x3.1.items (.slice a x3.1.items.length c) → Calls Tryz.prog 22 #[.pointer (some ⟨b, 0, none⟩), .agg #[.int .i64 x3.1.kind, .int .i64 x3.1.num, .string x3.1.text, .slice a x3.1.items.length c]] V fun e w' => e = .returned (.tuple #[.int .i64 (r : Int), .int .i64 0]) ∧ Below V.heap.size V w') := fun a c V hV hl => by
          have h9 := rank15_right 16 b q t x3.1 _ V (HM.out.keeps hV) hl hx3t hg3.1
          rw [upTo_at HM.out hrx false] at h9
          exact h9
        have HH3 : Hid (∀ (a : Option Addr) (c : Nat) V, Below w1.heap.size w1 V → Lies 16 V x3.1.items (.slice a x3.1.items.length c) → Calls Tryz.prog 17 #[.pointer (some ⟨b, 0, none⟩), .agg #[.int .i64 x3.1.kind, .int .i64 x3.1.num, .string x3.1.text, .slice a x3.1.items.length c]] V (Pr3 (orZ O4) O4.isSome 0 V)) := fun a c V hV hl => by
          have h9 := higher15_right 16 b q t x3.1 _ V (HM.out.keeps hV) hl hx3t hg3.1
          rw [upTo_at HM.out hrx true] at h9
          rw [hO4]
          exact Calls.mono h9 fun e w' h => h.pr
        have HA3 : Hid (∀ V, Below w1.heap.size w1 V → Calls Tryz.prog 20 #[.pointer (some ⟨b, 0, none⟩), .int .i64 ((r : Int) + 1)] V (PrE (orZ O4) (orE O4) V)) := fun V hV => by rw [hO4]; exact Calls.mono (rat_15 b q t _ V (HM.out.keeps hV)) fun e w' h => h.pr
        have hrn : n = r ∨ n = r + 1 := by have := HMN.out; omega
        have HRN : Hid (n = r ∨ n = r + 1) := hrn
        have hrz : r < 65536 := by have := HML.out; omega
        have e1 : IntKind.i64.wrap ((r : Int) + 1) = (r : Int) + 1 := by rw [IntKind.wrap_i64]; omega
        have hBE : O4.isSome = (orE O4 == 0) := by cases O4 <;> rfl
        rw [hBE] at HH3
        clear HF hO3 HMN HML hrx hmem hg3 hx3t hO4 hrn hr0 hBE
        generalize orZ O4 = x4 at *
        generalize orE O4 = E4 at *
        go_wp2_with fail
        refine Calls.mono HF3.out ?_
        rintro e v4 ⟨hg, at', cat', au', cau', rfl, hl1, hl2⟩
        have hbx : Below w1.heap.size w1 v4 := hbw.trans (hg.mono hbw.size)
        clear hg HF3 hbw k0 k1 k2 k3
        obtain ⟨nc, hnc⟩ : ∃ n, n = v4.heap.size := ⟨_, rfl⟩
        obtain ⟨W4, hW⟩ : ∃ W, W = v4.alloc (.cells #[.int .i64 x3.1.kind, .int .i64 x3.1.num, .string x3.1.text, .slice at' x3.1.items.length cat', .int .i64 x3.2.kind, .int .i64 x3.2.num, .string x3.2.text, .slice au' x3.2.items.length cau'] 33) := ⟨_, rfl⟩
        have HW : Hid (W4 = v4.alloc (.cells #[.int .i64 x3.1.kind, .int .i64 x3.1.num, .string x3.1.text, .slice at' x3.1.items.length cat', .int .i64 x3.2.kind, .int .i64 x3.2.num, .string x3.2.text, .slice au' x3.2.items.length cau'] 33)) := hW
        have hal : Below v4.heap.size v4 W4 := by rw [hW]; exact ((Grew.refl v4).alloc _).below
        have HBnc : Hid (Bx8 W4 nc (.int .i64 x3.1.kind) (.int .i64 x3.1.num) (.string x3.1.text) (.slice at' x3.1.items.length cat') (.int .i64 x3.2.kind) (.int .i64 x3.2.num) (.string x3.2.text) (.slice au' x3.2.items.length cau')) := by rw [hW, hnc]; exact bx8_alloc _ _ _ _ _ _ _ _ _ _
        have HLnc : Hid (PrL W4 x3 (.slice at' x3.1.items.length cat') (.slice au' x3.2.items.length cau')) := (⟨LiesB.lies _ _ _ hl1, LiesB.lies _ _ _ hl2⟩ : PrL v4 x3 _ _).keeps hal
        have hbv : Below w1.heap.size w1 W4 := hbx.trans (hal.mono hbx.size)
        clear hW hal hl1 hl2 hbx
        go_upto_region 14 with fail
        rw [← HW.out, ← hnc]
        clear HW hnc

        obtain ⟨y0, y1, y2, y3, y4, y5, y6, y7, _, _, _, _, _, _, _, _, _⟩ := HBnc.out
        go_wp2_with fail
        refine Calls.mono (HR3.out _ _ _ hbv HLnc.out.key) ?_
        rintro e v5 ⟨rfl, hg⟩
        have hbw : Below w1.heap.size w1 v5 := hbv.trans (hg.mono hbv.size)
        have y0 := cell_keeps hg y0
        have y1 := cell_keeps hg y1
        have y2 := cell_keeps hg y2
        have y3 := cell_keeps hg y3
        have HBnc : Hid (Bx8 v5 nc (.int .i64 x3.1.kind) (.int .i64 x3.1.num) (.string x3.1.text) (.slice at' x3.1.items.length cat') (.int .i64 x3.2.kind) (.int .i64 x3.2.num) (.string x3.2.text) (.slice au' x3.2.items.length cau')) := HBnc.out.keeps hg
        have HLnc : Hid (PrL v5 x3 (.slice at' x3.1.items.length cat') (.slice au' x3.2.items.length cau')) := HLnc.out.keeps hg

        clear hg hbv HR3 y4 y5 y6 y7
        go_wp2_with fail
        refine Calls.mono (HH3.out _ _ _ hbw HLnc.out.key) ?_
        rintro e v6 ⟨hg, av, cav, aw, caw, rfl, hl1, hl2⟩
        have hbx : Below w1.heap.size w1 v6 := hbw.trans (hg.mono hbw.size)
        clear hg HH3 hbw y0 y1 y2 y3 HBnc HLnc
        obtain ⟨nd, hnd⟩ : ∃ n, n = v6.heap.size := ⟨_, rfl⟩
        obtain ⟨W6, hW⟩ : ∃ W, W = v6.alloc (.cells #[.int .i64 x4.1.kind, .int .i64 x4.1.num, .string x4.1.text, .slice av x4.1.items.length cav, .int .i64 x4.2.kind, .int .i64 x4.2.num, .string x4.2.text, .slice aw x4.2.items.length caw] 33) := ⟨_, rfl⟩
        have HW : Hid (W6 = v6.alloc (.cells #[.int .i64 x4.1.kind, .int .i64 x4.1.num, .string x4.1.text, .slice av x4.1.items.length cav, .int .i64 x4.2.kind, .int .i64 x4.2.num, .string x4.2.text, .slice aw x4.2.items.length caw] 33)) := hW
        have hal : Below v6.heap.size v6 W6 := by rw [hW]; exact ((Grew.refl v6).alloc _).below
        have HBnd : Hid (Bx8 W6 nd (.int .i64 x4.1.kind) (.int .i64 x4.1.num) (.string x4.1.text) (.slice av x4.1.items.length cav) (.int .i64 x4.2.kind) (.int .i64 x4.2.num) (.string x4.2.text) (.slice aw x4.2.items.length caw)) := by rw [hW, hnd]; exact bx8_alloc _ _ _ _ _ _ _ _ _ _
        have HLnd : Hid (PrL W6 x4 (.slice av x4.1.items.length cav) (.slice aw x4.2.items.length caw)) := (⟨LiesB.lies _ _ _ hl1, LiesB.lies _ _ _ hl2⟩ : PrL v6 x4 _ _).keeps hal
        have hbv : Below w1.heap.size w1 W6 := hbx.trans (hal.mono hbx.size)
        clear hW hal hl1 hl2 hbx
        go_upto_region 18 with fail
        rw [← HW.out, ← hnd]
        clear HW hnd

        go_wp2_with fail
        refine Calls.mono (HA3.out _ hbv) ?_
        rintro e v7 ⟨hg, ax, cax, az, caz, rfl, hl1, hl2⟩
        have hbx : Below w1.heap.size w1 v7 := hbv.trans (hg.mono hbv.size)
        have HBnd : Hid (Bx8 v7 nd (.int .i64 x4.1.kind) (.int .i64 x4.1.num) (.string x4.1.text) (.slice av x4.1.items.length cav) (.int .i64 x4.2.kind) (.int .i64 x4.2.num) (.string x4.2.text) (.slice aw x4.2.items.length caw)) := HBnd.out.keeps hg
        have HLnd : Hid (PrL v7 x4 (.slice av x4.1.items.length cav) (.slice aw x4.2.items.length caw)) := HLnd.out.keeps hg

        clear hg HA3 hbv e1
        obtain ⟨ne, hne⟩ : ∃ n, n = v7.heap.size := ⟨_, rfl⟩
        obtain ⟨W7, hW⟩ : ∃ W, W = v7.alloc (.cells #[.int .i64 x4.1.kind, .int .i64 x4.1.num, .string x4.1.text, .slice ax x4.1.items.length cax, .int .i64 x4.2.kind, .int .i64 x4.2.num, .string x4.2.text, .slice az x4.2.items.length caz] 33) := ⟨_, rfl⟩
        have HW : Hid (W7 = v7.alloc (.cells #[.int .i64 x4.1.kind, .int .i64 x4.1.num, .string x4.1.text, .slice ax x4.1.items.length cax, .int .i64 x4.2.kind, .int .i64 x4.2.num, .string x4.2.text, .slice az x4.2.items.length caz] 33)) := hW
        have hal : Below v7.heap.size v7 W7 := by rw [hW]; exact ((Grew.refl v7).alloc _).below
        have HBne : Hid (Bx8 W7 ne (.int .i64 x4.1.kind) (.int .i64 x4.1.num) (.string x4.1.text) (.slice ax x4.1.items.length cax) (.int .i64 x4.2.kind) (.int .i64 x4.2.num) (.string x4.2.text) (.slice az x4.2.items.length caz)) := by rw [hW, hne]; exact bx8_alloc _ _ _ _ _ _ _ _ _ _
        have HLne : Hid (PrL W7 x4 (.slice ax x4.1.items.length cax) (.slice az x4.2.items.length caz)) := (⟨LiesB.lies _ _ _ hl1, LiesB.lies _ _ _ hl2⟩ : PrL v7 x4 _ _).keeps hal
        have hbv : Below w1.heap.size w1 W7 := hbx.trans (hal.mono hbx.size)
        have HBnd : Hid (Bx8 W7 nd (.int .i64 x4.1.kind) (.int .i64 x4.1.num) (.string x4.1.text) (.slice av x4.1.items.length cav) (.int .i64 x4.2.kind) (.int .i64 x4.2.num) (.string x4.2.text) (.slice aw x4.2.items.length caw)) := HBnd.out.keeps hal
        have HLnd : Hid (PrL W7 x4 (.slice av x4.1.items.length cav) (.slice aw x4.2.items.length caw)) := HLnd.out.keeps hal
        clear hW hal hl1 hl2 hbx
        go_upto_region 19 with fail
        rw [← HW.out, ← hne]
        clear HW hne

        obtain ⟨y0, y1, y2, y3, y4, y5, y6, y7, _, _, _, _, _, _, _, _, _⟩ := HBnd.out
        obtain ⟨z0, z1, z2, z3, z4, z5, z6, z7, _, _, _, _, _, _, _, _, _⟩ := HBne.out
        have HP : Hid _ := pair_same x4 _ _ _ _ W7 HLnd.out HLne.out
        go_wp2_with fail
        refine Calls.mono HP.out ?_
        rintro e v8 ⟨rfl, hg⟩
        have hb8 : Below w.heap.size w v8 := Hb1.out.trans ((hbv.trans (hg.mono hbv.size)).mono Hb1.out.size)
        clear hg HP hbv y0 y1 y2 y3 y4 y5 y6 y7 z0 z1 z2 z3 z4 z5 z6 z7 HBnd HBne HLnd HLne
        rcases HRN.out with hrn | hrn
        · subst hrn
          have e2 : ((n : Int) == (n : Int)) = true := by simp
          go_wp2_with fail
          refine Calls.mono (HSp.out _) ?_
          rintro e w9 ⟨rfl, hg9⟩
          have hb9 : Below w.heap.size w w9 := hb8.trans (hg9.mono hb8.size)
          clear hg9
          go_wp2_with fail
          go_ret
          exact ⟨rfl, hb9⟩
        · subst hrn
          have e2 : ((r : Int) == ((r + 1 : Nat) : Int)) = false := by simp; omega
          have e3 : IntKind.i64.wrap (((r + 1 : Nat) : Int) - 1) = (r : Int) := by rw [IntKind.wrap_i64]; omega
          have e4 : ((r : Int) == (r : Int)) = true := by simp
          go_wp2_with fail
          refine Calls.mono (HSp.out _) ?_
          rintro e w9 ⟨rfl, hg9⟩
          have hb9 : Below w.heap.size w w9 := hb8.trans (hg9.mono hb8.size)
          clear hg9
          go_wp2_with fail
          go_ret
          exact ⟨rfl, hb9⟩

end Go.Proofs.YtpmodiodpilmeaaGreat

