/-
  RangesNear.
-/
import Derived.Test.YtpmodiodpilmeaaGreatRNear
namespace Go.Proofs.YtpmodiodpilmeaaGreat
open Go.RowKit Go.Shelf

theorem Bx8.put {W : World} {n : Nat} {v0 v1 v2 v3 v4 v5 v6 v7 : Value} (h : Bx8 W n v0 v1 v2 v3 v4 v5 v6 v7) (u0 u1 u2 u3 u4 u5 u6 u7 : Value) : Bx8 (W.setCells n 0 [u0, u1, u2, u3, u4, u5, u6, u7]) n u0 u1 u2 u3 u4 u5 u6 u7 := by
  obtain ⟨q0, q1, q2, q3, q4, q5, q6, q7⟩ := put8_in h u0 u1 u2 u3 u4 u5 u6 u7
  refine ⟨q0, q1, q2, q3, q4, q5, q6, q7, ?_, ?_, ?_, ?_, ?_, ?_, ?_, ?_, ?_⟩
  · rw [World.frozen?_setCells]; exact h.f0
  · rw [World.frozen?_setCells]; exact h.f1
  · rw [World.frozen?_setCells]; exact h.f2
  · rw [World.frozen?_setCells]; exact h.f3
  · rw [World.frozen?_setCells]; exact h.f4
  · rw [World.frozen?_setCells]; exact h.f5
  · rw [World.frozen?_setCells]; exact h.f6
  · rw [World.frozen?_setCells]; exact h.f7
  · simp only [World.setCells]
    rw [World.cell?_setCell_other _ _ _ _ (by simp), World.cell?_setCell_other _ _ _ _ (by simp), World.cell?_setCell_other _ _ _ _ (by simp), World.cell?_setCell_other _ _ _ _ (by simp), World.cell?_setCell_other _ _ _ _ (by simp), World.cell?_setCell_other _ _ _ _ (by simp), World.cell?_setCell_other _ _ _ _ (by simp), World.cell?_setCell_other _ _ _ _ (by simp)]
    exact h.top

theorem floor_both (d b q : Nat) (t : RT PT) (y : VT) (ay : Option Addr) (cy : Nat) (ps : List PP) (v : Value) (w : World) (hm : MC w q t b) (hs : SlQ 0 16 w ps v) (hps : ps.map trT = t.items) (hy : Lies d w y.items (.slice ay y.items.length cy)) (ht : y.text.size ≤ 9223372036854775807) : ∃ (x : PT) (B : Bool) (E : Int),
    (∀ V, Below w.heap.size w V → Calls Tryz.prog 11 #[.pointer (some ⟨b, 0, none⟩), .agg #[.int .i64 y.kind, .int .i64 y.num, .string y.text, .slice ay y.items.length cy]] V (Pr3 x B E V)) ∧
    (∀ V, Below w.heap.size w V → Calls Tryz.prog 12 #[.int .i64 (q : Int), v, .agg #[.int .i64 y.kind, .int .i64 y.num, .string y.text, .slice ay y.items.length cy], .bool true] V (PrD3 w x B E V)) := by
  cases hr : rightV d y with
  | false =>
    refine ⟨zeroPT, false, 3, fun V hV => Calls.mono (floor15_wrong d b y _ V (Lies.keeps hV _ _ _ hy) ht hr) fun e w' h => h.pr, fun V hV => rfloor15_wrong d _ v y _ true w V (Lies.keeps hV _ _ _ hy) hr ?_⟩
    obtain ⟨a, c, e, _⟩ := hs
    exact ⟨a, _, c, e⟩
  | true =>
    have hc := canon hy hr
    have hrank : rankR q t.items y = RT.upTo (atK q y) false t := rank_up hm
    have hth := upTo_there (y := y) hm ⟨hc.2, Dp.of_lies 16 w y _ hc.1⟩
    have hlen : ps.length ≤ 65536 := by have h8 := congrArg List.length hps; rw [List.length_map, ← RT.size_items] at h8; have := hm.size; omega
    have hrt : ∀ p ∈ ps, rightV 16 p.1.1 = true := fun p hp => (hm.right (trT p) (by rw [← hps]; exact List.mem_map.2 ⟨p, hp, rfl⟩)).1.1
    refine ⟨orZ (itemAt t.items (((RT.upTo (atK q y) true t : Nat) : Int) - 1)), (itemAt t.items (((RT.upTo (atK q y) true t : Nat) : Int) - 1)).isSome, 0, fun V hV => Calls.mono (floor15_right d b q t y _ V (hm.keeps hV) (Lies.keeps hV _ _ _ hy) ht hr) fun e w' h => h.pr, fun V hV => ?_⟩
    have h9 := rfloor15_right q hm.q6 ps v y (.slice ay y.items.length cy) true w V hs hV hrt hlen (Lies.keeps hV _ _ _ hc.1) hc.2
    rw [hps, hrank] at h9
    simp only [Bool.and_true] at h9
    rw [hth]
    exact h9

theorem lower_both (d b q : Nat) (t : RT PT) (y : VT) (ay : Option Addr) (cy : Nat) (ps : List PP) (v : Value) (w : World) (hm : MC w q t b) (hs : SlQ 0 16 w ps v) (hps : ps.map trT = t.items) (hy : Lies d w y.items (.slice ay y.items.length cy)) (ht : y.text.size ≤ 9223372036854775807) : ∃ (x : PT) (B : Bool) (E : Int),
    (∀ V, Below w.heap.size w V → Calls Tryz.prog 14 #[.pointer (some ⟨b, 0, none⟩), .agg #[.int .i64 y.kind, .int .i64 y.num, .string y.text, .slice ay y.items.length cy]] V (Pr3 x B E V)) ∧
    (∀ V, Below w.heap.size w V → Calls Tryz.prog 12 #[.int .i64 (q : Int), v, .agg #[.int .i64 y.kind, .int .i64 y.num, .string y.text, .slice ay y.items.length cy], .bool false] V (PrD3 w x B E V)) := by
  cases hr : rightV d y with
  | false =>
    refine ⟨zeroPT, false, 3, fun V hV => Calls.mono (lower15_wrong d b y _ V (Lies.keeps hV _ _ _ hy) ht hr) fun e w' h => h.pr, fun V hV => rfloor15_wrong d _ v y _ false w V (Lies.keeps hV _ _ _ hy) hr ?_⟩
    obtain ⟨a, c, e, _⟩ := hs
    exact ⟨a, _, c, e⟩
  | true =>
    have hc := canon hy hr
    have hrank : rankR q t.items y = RT.upTo (atK q y) false t := rank_up hm
    have hth := upTo_there (y := y) hm ⟨hc.2, Dp.of_lies 16 w y _ hc.1⟩
    have hlen : ps.length ≤ 65536 := by have h8 := congrArg List.length hps; rw [List.length_map, ← RT.size_items] at h8; have := hm.size; omega
    have hrt : ∀ p ∈ ps, rightV 16 p.1.1 = true := fun p hp => (hm.right (trT p) (by rw [← hps]; exact List.mem_map.2 ⟨p, hp, rfl⟩)).1.1
    refine ⟨orZ (itemAt t.items (((RT.upTo (atK q y) false t : Nat) : Int) - 1)), (itemAt t.items (((RT.upTo (atK q y) false t : Nat) : Int) - 1)).isSome, 0, fun V hV => Calls.mono (lower15_right d b q t y _ V (hm.keeps hV) (Lies.keeps hV _ _ _ hy) ht hr) fun e w' h => h.pr, fun V hV => ?_⟩
    have h9 := rfloor15_right q hm.q6 ps v y (.slice ay y.items.length cy) false w V hs hV hrt hlen (Lies.keeps hV _ _ _ hc.1) hc.2
    rw [hps, hrank] at h9
    simp only [Bool.and_false, Bool.false_eq_true, if_false, Nat.add_zero] at h9
    exact h9

theorem ceil_both (d b q : Nat) (t : RT PT) (y : VT) (ay : Option Addr) (cy : Nat) (ps : List PP) (v : Value) (w : World) (hm : MC w q t b) (hs : SlQ 0 16 w ps v) (hps : ps.map trT = t.items) (hy : Lies d w y.items (.slice ay y.items.length cy)) (ht : y.text.size ≤ 9223372036854775807) : ∃ (x : PT) (B : Bool) (E : Int),
    (∀ V, Below w.heap.size w V → Calls Tryz.prog 15 #[.pointer (some ⟨b, 0, none⟩), .agg #[.int .i64 y.kind, .int .i64 y.num, .string y.text, .slice ay y.items.length cy]] V (Pr3 x B E V)) ∧
    (∀ V, Below w.heap.size w V → Calls Tryz.prog 16 #[.int .i64 (q : Int), v, .agg #[.int .i64 y.kind, .int .i64 y.num, .string y.text, .slice ay y.items.length cy], .bool true] V (PrD3 w x B E V)) := by
  cases hr : rightV d y with
  | false =>
    refine ⟨zeroPT, false, 3, fun V hV => Calls.mono (ceil15_wrong d b y _ V (Lies.keeps hV _ _ _ hy) ht hr) fun e w' h => h.pr, fun V hV => rceil15_wrong d _ v y _ true w V (Lies.keeps hV _ _ _ hy) hr ?_⟩
    obtain ⟨a, c, e, _⟩ := hs
    exact ⟨a, _, c, e⟩
  | true =>
    have hc := canon hy hr
    have hrank : rankR q t.items y = RT.upTo (atK q y) false t := rank_up hm
    have hth := upTo_there (y := y) hm ⟨hc.2, Dp.of_lies 16 w y _ hc.1⟩
    have hlen : ps.length ≤ 65536 := by have h8 := congrArg List.length hps; rw [List.length_map, ← RT.size_items] at h8; have := hm.size; omega
    have hrt : ∀ p ∈ ps, rightV 16 p.1.1 = true := fun p hp => (hm.right (trT p) (by rw [← hps]; exact List.mem_map.2 ⟨p, hp, rfl⟩)).1.1
    refine ⟨orZ (itemAt t.items ((RT.upTo (atK q y) false t : Nat) : Int)), (itemAt t.items ((RT.upTo (atK q y) false t : Nat) : Int)).isSome, 0, fun V hV => Calls.mono (ceil15_right d b q t y _ V (hm.keeps hV) (Lies.keeps hV _ _ _ hy) ht hr) fun e w' h => h.pr, fun V hV => ?_⟩
    have h9 := rceil15_right q hm.q6 ps v y (.slice ay y.items.length cy) true w V hs hV hrt hlen (Lies.keeps hV _ _ _ hc.1) hc.2
    rw [hps, hrank] at h9
    simp only [Bool.not_true, Bool.and_false, Bool.false_eq_true, if_false, Nat.add_zero] at h9
    exact h9

theorem higher_both (d b q : Nat) (t : RT PT) (y : VT) (ay : Option Addr) (cy : Nat) (ps : List PP) (v : Value) (w : World) (hm : MC w q t b) (hs : SlQ 0 16 w ps v) (hps : ps.map trT = t.items) (hy : Lies d w y.items (.slice ay y.items.length cy)) (ht : y.text.size ≤ 9223372036854775807) : ∃ (x : PT) (B : Bool) (E : Int),
    (∀ V, Below w.heap.size w V → Calls Tryz.prog 17 #[.pointer (some ⟨b, 0, none⟩), .agg #[.int .i64 y.kind, .int .i64 y.num, .string y.text, .slice ay y.items.length cy]] V (Pr3 x B E V)) ∧
    (∀ V, Below w.heap.size w V → Calls Tryz.prog 16 #[.int .i64 (q : Int), v, .agg #[.int .i64 y.kind, .int .i64 y.num, .string y.text, .slice ay y.items.length cy], .bool false] V (PrD3 w x B E V)) := by
  cases hr : rightV d y with
  | false =>
    refine ⟨zeroPT, false, 3, fun V hV => Calls.mono (higher15_wrong d b y _ V (Lies.keeps hV _ _ _ hy) ht hr) fun e w' h => h.pr, fun V hV => rceil15_wrong d _ v y _ false w V (Lies.keeps hV _ _ _ hy) hr ?_⟩
    obtain ⟨a, c, e, _⟩ := hs
    exact ⟨a, _, c, e⟩
  | true =>
    have hc := canon hy hr
    have hrank : rankR q t.items y = RT.upTo (atK q y) false t := rank_up hm
    have hth := upTo_there (y := y) hm ⟨hc.2, Dp.of_lies 16 w y _ hc.1⟩
    have hlen : ps.length ≤ 65536 := by have h8 := congrArg List.length hps; rw [List.length_map, ← RT.size_items] at h8; have := hm.size; omega
    have hrt : ∀ p ∈ ps, rightV 16 p.1.1 = true := fun p hp => (hm.right (trT p) (by rw [← hps]; exact List.mem_map.2 ⟨p, hp, rfl⟩)).1.1
    refine ⟨orZ (itemAt t.items ((RT.upTo (atK q y) true t : Nat) : Int)), (itemAt t.items ((RT.upTo (atK q y) true t : Nat) : Int)).isSome, 0, fun V hV => Calls.mono (higher15_right d b q t y _ V (hm.keeps hV) (Lies.keeps hV _ _ _ hy) ht hr) fun e w' h => h.pr, fun V hV => ?_⟩
    have h9 := rceil15_right q hm.q6 ps v y (.slice ay y.items.length cy) false w V hs hV hrt hlen (Lies.keeps hV _ _ _ hc.1) hc.2
    rw [hps, hrank] at h9
    simp only [Bool.not_false, Bool.and_true] at h9
    rw [hth]
    exact h9

set_option maxRecDepth 100000 in
set_option maxHeartbeats 16000000 in
theorem nears_walk (o : Int) (d : Nat) (qs : List PP) (u : Value) (d2 : Nat) (y : VT) (yu : Value) (w : World) (hu : SlQ 0 d w qs u) (hy : Lies d2 w y.items yu) (ht : y.text.size ≤ 9223372036854775807) :
    Calls Tryz.prog 3 #[.int .i64 o, u, .agg #[.int .i64 y.kind, .int .i64 y.num, .string y.text, yu]] w fun e w' => e = .returned (.bool true) ∧ Below w.heap.size w w' := by
  have HSp : Hid (∀ V, Calls Tryz.prog 9 #[] V fun e w' => e = .returned (.bool true) ∧ Below V.heap.size V w') := speaks15_any
  obtain ⟨au, cu, rfl, _⟩ := hu.slice
  obtain ⟨ay, cy, rfl, _⟩ := Lies.slice hy
  have HO : Hid (∀ V, Below w.heap.size w V → Calls Tryz.prog 8 #[.int .i64 o, .slice au qs.length cu] V (OfPost14 d o qs V)) := fun V hV => mof_14 d o qs _ V (hu.keeps hV)
  have HY : Hid (Lies d2 w y.items (.slice ay y.items.length cy)) := hy
  have HYt : Hid (y.text.size ≤ 9223372036854775807) := ht
  have HK0 : Hid (Bx (w.alloc (.cells #[.int .i64 y.kind, .int .i64 y.num, .string y.text, .slice ay y.items.length cy] 25)) w.heap.size y (.slice ay y.items.length cy)) := bx_alloc _ _ _
  have hb0 : Below w.heap.size w (w.alloc (.cells #[.int .i64 y.kind, .int .i64 y.num, .string y.text, .slice ay y.items.length cy] 25)) := ((Grew.refl w).alloc _).below
  clear hu hy ht
  go_enter Tryz.func3, Tryz.ntmps3
  go_wp2_with fail
  refine Calls.mono (HO.out _ hb0) ?_
  rintro e w1 ⟨hg1, hcase⟩
  have HK1 : Hid (Bx w1 w.heap.size y (.slice ay y.items.length cy)) := HK0.out.keeps hg1
  have hb1 : Below w.heap.size w w1 := hb0.trans (hg1.mono hb0.size)
  clear hg1 hb0 HO HK0
  rcases hcase with ⟨hne, rfl⟩ | ⟨he0, t, b, rfl, hm, _⟩
  · generalize ofErr d o (qs.map trT) = E at hne ⊢
    generalize qs.length = L at *
    go_wp2_with fail
    refine Calls.mono (HSp.out _) ?_
    rintro e w2 ⟨rfl, hg2⟩
    have hb2 : Below w.heap.size w w2 := hb1.trans (hg2.mono hb1.size)
    clear hg2
    go_wp2_with fail
    go_ret
    exact ⟨rfl, hb2⟩
  · obtain ⟨q, hq⟩ : ∃ q, q = o.toNat := ⟨_, rfl⟩
    rw [← hq] at hm
    have hoq : o = (q : Int) := by
      have h9 : ordErr o = 0 := by
        unfold ofErr at he0
        by_cases h8 : ordErr o = 0
        · exact h8
        · rw [if_pos h8] at he0; exact he0
      have h8 : 0 ≤ o := by
        unfold ordErr at h9
        by_cases h7 : 0 ≤ o
        · exact h7
        · rw [if_pos (by omega)] at h9; exact absurd h9 (by decide)
      omega
    subst hoq
    clear he0 hq
    have HM : Hid (MC w1 q t b) := hm
    have HPs : Hid _ := mpairs_14 hm
    generalize qs.length = L at *
    clear hm
    go_wp2_with fail
    refine Calls.mono HPs.out ?_
    rintro e w2 ⟨v, ps, rfl, hps, hs, _, hg2⟩
    have hs2 := hs.mono (Nat.zero_le _)
    have hm2 := HM.out.keeps hg2
    have hy2 := Lies.keeps (hb1.trans (hg2.mono hb1.size)) _ _ _ HY.out
    obtain ⟨av, cv, rfl⟩ : ∃ a c, v = .slice a ps.length c := by obtain ⟨a, c, h, _⟩ := hs2; exact ⟨a, c, h⟩
    obtain ⟨x1, B1, E1, hf, hr⟩ := floor_both d2 b q t y ay cy ps _ w2 hm2 hs2 hps hy2 HYt.out
    have HF1 : Hid _ := hf; have HR1 : Hid _ := hr
    clear hf hr
    obtain ⟨x2, B2, E2, hf, hr⟩ := lower_both d2 b q t y ay cy ps _ w2 hm2 hs2 hps hy2 HYt.out
    have HF2 : Hid _ := hf; have HR2 : Hid _ := hr
    clear hf hr
    obtain ⟨x3, B3, E3, hf, hr⟩ := ceil_both d2 b q t y ay cy ps _ w2 hm2 hs2 hps hy2 HYt.out
    have HF3 : Hid _ := hf; have HR3 : Hid _ := hr
    clear hf hr
    obtain ⟨x4, B4, E4, hf, hr⟩ := higher_both d2 b q t y ay cy ps _ w2 hm2 hs2 hps hy2 HYt.out
    have HF4 : Hid _ := hf; have HR4 : Hid _ := hr
    clear hf hr
    obtain ⟨k0, k1, k2, k3, _, _, _, _⟩ := HK1.out
    have k0 := cell_keeps hg2 k0; have k1 := cell_keeps hg2 k1; have k2 := cell_keeps hg2 k2; have k3 := cell_keeps hg2 k3
    have Hk : Hid (w2.cell? ⟨w.heap.size, 0, none⟩ = some (.int .i64 y.kind) ∧ w2.cell? ⟨w.heap.size, 1, none⟩ = some (.int .i64 y.num) ∧ w2.cell? ⟨w.heap.size, 2, none⟩ = some (.string y.text) ∧ w2.cell? ⟨w.heap.size, 3, none⟩ = some (.slice ay y.items.length cy)) := ⟨k0, k1, k2, k3⟩
    have Hb2 : Hid (Below w.heap.size w w2) := hb1.trans (hg2.mono hb1.size)
    have hbV : Below w2.heap.size w2 w2 := Below.refl _ _
    generalize ps.length = N at *
    clear hg2 hps hs hs2 hm2 hy2 hb1 HM HPs HK1 HY HYt
    go_wp2_with fail
    refine Calls.mono (HF1.out _ hbV) ?_
    rintro e p1 ⟨hg, a1p, ca1p, a1q, ca1q, rfl, hl1, hl2⟩
    have k0 := cell_keeps hg k0; have k1 := cell_keeps hg k1; have k2 := cell_keeps hg k2; have k3 := cell_keeps hg k3
    have hb1 : Below w2.heap.size w2 p1 := hbV.trans (hg.mono hbV.size)
    obtain ⟨na, hna⟩ : ∃ na, na = p1.heap.size := ⟨_, rfl⟩
    have Hna : Hid (w2.heap.size ≤ na) := by show _ ≤ _; rw [hna]; exact hb1.size
    obtain ⟨Wa1, hW⟩ : ∃ W, W = p1.alloc (.cells #[.int .i64 x1.1.kind, .int .i64 x1.1.num, .string x1.1.text, .slice a1p x1.1.items.length ca1p, .int .i64 x1.2.kind, .int .i64 x1.2.num, .string x1.2.text, .slice a1q x1.2.items.length ca1q] 33) := ⟨_, rfl⟩
    have HW : Hid (Wa1 = p1.alloc (.cells #[.int .i64 x1.1.kind, .int .i64 x1.1.num, .string x1.1.text, .slice a1p x1.1.items.length ca1p, .int .i64 x1.2.kind, .int .i64 x1.2.num, .string x1.2.text, .slice a1q x1.2.items.length ca1q] 33)) := hW
    have hal : Below p1.heap.size p1 Wa1 := by rw [hW]; exact ((Grew.refl p1).alloc _).below
    have HBa : Hid (Bx8 Wa1 na (.int .i64 x1.1.kind) (.int .i64 x1.1.num) (.string x1.1.text) (.slice a1p x1.1.items.length ca1p) (.int .i64 x1.2.kind) (.int .i64 x1.2.num) (.string x1.2.text) (.slice a1q x1.2.items.length ca1q)) := by rw [hW, hna]; exact bx8_alloc _ _ _ _ _ _ _ _ _ _
    have HL : Hid (PrL Wa1 x1 (.slice a1p x1.1.items.length ca1p) (.slice a1q x1.2.items.length ca1q)) := (⟨LiesB.lies _ _ _ hl1, LiesB.lies _ _ _ hl2⟩ : PrL p1 x1 _ _).keeps hal
    have hb2 : Below w2.heap.size w2 Wa1 := hb1.trans (hal.mono hb1.size)
    have k0 := cell_keeps hal k0; have k1 := cell_keeps hal k1; have k2 := cell_keeps hal k2; have k3 := cell_keeps hal k3
    clear hW hal hl1 hl2 hg hb1 hbV HF1
    go_upto_region 8 with fail
    rw [← HW.out, ← hna]
    clear HW hna
    go_wp2_with fail
    refine Calls.mono (HR1.out _ hb2) ?_
    rintro e d1 ⟨hg, a1r, ca1r, a1s, ca1s, rfl, hpl⟩
    have k0 := cell_keeps hg k0; have k1 := cell_keeps hg k1; have k2 := cell_keeps hg k2; have k3 := cell_keeps hg k3
    have hb3 : Below w2.heap.size w2 d1 := hb2.trans (hg.mono hb2.size)
    have HBa : Hid (Bx8 d1 na (.int .i64 x1.1.kind) (.int .i64 x1.1.num) (.string x1.1.text) (.slice a1p x1.1.items.length ca1p) (.int .i64 x1.2.kind) (.int .i64 x1.2.num) (.string x1.2.text) (.slice a1q x1.2.items.length ca1q)) := HBa.out.keeps hg
    have HL : Hid (PrL d1 x1 (.slice a1p x1.1.items.length ca1p) (.slice a1q x1.2.items.length ca1q)) := HL.out.keeps hg
    obtain ⟨nb, hnb⟩ : ∃ nb, nb = d1.heap.size := ⟨_, rfl⟩
    have Hnb : Hid (na < nb) := by have h9 := cell_lt HBa.out.c0; show na < nb; rw [hnb]; simpa using h9
    obtain ⟨Wb1, hW⟩ : ∃ W, W = d1.alloc (.cells #[.int .i64 x1.1.kind, .int .i64 x1.1.num, .string x1.1.text, .slice a1r x1.1.items.length ca1r, .int .i64 x1.2.kind, .int .i64 x1.2.num, .string x1.2.text, .slice a1s x1.2.items.length ca1s] 33) := ⟨_, rfl⟩
    have HW : Hid (Wb1 = d1.alloc (.cells #[.int .i64 x1.1.kind, .int .i64 x1.1.num, .string x1.1.text, .slice a1r x1.1.items.length ca1r, .int .i64 x1.2.kind, .int .i64 x1.2.num, .string x1.2.text, .slice a1s x1.2.items.length ca1s] 33)) := hW
    have hal : Below d1.heap.size d1 Wb1 := by rw [hW]; exact ((Grew.refl d1).alloc _).below
    have HBb : Hid (Bx8 Wb1 nb (.int .i64 x1.1.kind) (.int .i64 x1.1.num) (.string x1.1.text) (.slice a1r x1.1.items.length ca1r) (.int .i64 x1.2.kind) (.int .i64 x1.2.num) (.string x1.2.text) (.slice a1s x1.2.items.length ca1s)) := by rw [hW, hnb]; exact bx8_alloc _ _ _ _ _ _ _ _ _ _
    have HBa : Hid (Bx8 Wb1 na (.int .i64 x1.1.kind) (.int .i64 x1.1.num) (.string x1.1.text) (.slice a1p x1.1.items.length ca1p) (.int .i64 x1.2.kind) (.int .i64 x1.2.num) (.string x1.2.text) (.slice a1q x1.2.items.length ca1q)) := HBa.out.keeps hal
    have hb4 : Below w2.heap.size w2 Wb1 := hb3.trans (hal.mono hb3.size)
    have HP : Hid _ := pair_same x1 _ _ _ _ Wb1 (HL.out.keeps hal) (hpl.keeps hb4)
    have k0 := cell_keeps hal k0; have k1 := cell_keeps hal k1; have k2 := cell_keeps hal k2; have k3 := cell_keeps hal k3
    clear hW hal hg hb2 hb3 hpl HL HR1
    go_upto_region 9 with fail
    rw [← HW.out, ← hnb]
    clear HW hnb
    obtain ⟨y0, y1, y2, y3, y4, y5, y6, y7, _, _, _, _, _, _, _, _, _⟩ := HBa.out
    obtain ⟨z0, z1, z2, z3, z4, z5, z6, z7, _, _, _, _, _, _, _, _, _⟩ := HBb.out
    go_wp2_with fail
    refine Calls.mono HP.out ?_
    rintro e V1 ⟨rfl, hg⟩
    have k0 := cell_keeps hg k0; have k1 := cell_keeps hg k1; have k2 := cell_keeps hg k2; have k3 := cell_keeps hg k3
    have hbV : Below w2.heap.size w2 V1 := hb4.trans (hg.mono hb4.size)
    have HBa : Hid (Bx8 V1 na (.int .i64 x1.1.kind) (.int .i64 x1.1.num) (.string x1.1.text) (.slice a1p x1.1.items.length ca1p) (.int .i64 x1.2.kind) (.int .i64 x1.2.num) (.string x1.2.text) (.slice a1q x1.2.items.length ca1q)) := HBa.out.keeps hg
    have HBb : Hid (Bx8 V1 nb (.int .i64 x1.1.kind) (.int .i64 x1.1.num) (.string x1.1.text) (.slice a1r x1.1.items.length ca1r) (.int .i64 x1.2.kind) (.int .i64 x1.2.num) (.string x1.2.text) (.slice a1s x1.2.items.length ca1s)) := HBb.out.keeps hg
    have HS : Hid (na < V1.heap.size) := by have h9 := cell_lt HBa.out.c0; show na < _; simpa using h9
    have HT : Hid (nb < V1.heap.size) := by have h9 := cell_lt HBb.out.c0; show nb < _; simpa using h9
    have e1 : (B1 != B1) = false := by simp
    have e2 : (E1 != E1) = false := by simp
    have e3 : (B1 == B1) = true := by simp
    have e4 : (E1 == E1) = true := by simp
    clear hg hb4 HP y0 y1 y2 y3 y4 y5 y6 y7 z0 z1 z2 z3 z4 z5 z6 z7

    go_wp2_with fail
    refine Calls.mono (HF2.out _ hbV) ?_
    rintro e p2 ⟨hg, a2p, ca2p, a2q, ca2q, rfl, hl1, hl2⟩
    have k0 := cell_keeps hg k0; have k1 := cell_keeps hg k1; have k2 := cell_keeps hg k2; have k3 := cell_keeps hg k3
    have hb1 : Below w2.heap.size w2 p2 := hbV.trans (hg.mono hbV.size)
    have HBa : Hid (Bx8 p2 na (.int .i64 x1.1.kind) (.int .i64 x1.1.num) (.string x1.1.text) (.slice a1p x1.1.items.length ca1p) (.int .i64 x1.2.kind) (.int .i64 x1.2.num) (.string x1.2.text) (.slice a1q x1.2.items.length ca1q)) := HBa.out.keeps hg
    have HBb : Hid (Bx8 p2 nb (.int .i64 x1.1.kind) (.int .i64 x1.1.num) (.string x1.1.text) (.slice a1r x1.1.items.length ca1r) (.int .i64 x1.2.kind) (.int .i64 x1.2.num) (.string x1.2.text) (.slice a1s x1.2.items.length ca1s)) := HBb.out.keeps hg
    obtain ⟨y0, y1, y2, y3, y4, y5, y6, y7, f0, f1, f2, f3, f4, f5, f6, f7, _⟩ := HBa.out
    obtain ⟨Wa2, hW⟩ : ∃ W, W = p2.setCells na 0 [.int .i64 x2.1.kind, .int .i64 x2.1.num, .string x2.1.text, .slice a2p x2.1.items.length ca2p, .int .i64 x2.2.kind, .int .i64 x2.2.num, .string x2.2.text, .slice a2q x2.2.items.length ca2q] := ⟨_, rfl⟩
    have HW : Hid (Wa2 = (((((((p2.setCell ⟨na, 0, none⟩ (.int .i64 x2.1.kind)).setCell ⟨na, 1, none⟩ (.int .i64 x2.1.num)).setCell ⟨na, 2, none⟩ (.string x2.1.text)).setCell ⟨na, 3, none⟩ (.slice a2p x2.1.items.length ca2p)).setCell ⟨na, 4, none⟩ (.int .i64 x2.2.kind)).setCell ⟨na, 5, none⟩ (.int .i64 x2.2.num)).setCell ⟨na, 6, none⟩ (.string x2.2.text)).setCell ⟨na, 7, none⟩ (.slice a2q x2.2.items.length ca2q)) := hW
    have HBa' : Hid (Bx8 Wa2 na (.int .i64 x2.1.kind) (.int .i64 x2.1.num) (.string x2.1.text) (.slice a2p x2.1.items.length ca2p) (.int .i64 x2.2.kind) (.int .i64 x2.2.num) (.string x2.2.text) (.slice a2q x2.2.items.length ca2q)) := by rw [hW]; exact HBa.out.put _ _ _ _ _ _ _ _
    have HBb : Hid (Bx8 Wa2 nb (.int .i64 x1.1.kind) (.int .i64 x1.1.num) (.string x1.1.text) (.slice a1r x1.1.items.length ca1r) (.int .i64 x1.2.kind) (.int .i64 x1.2.num) (.string x1.2.text) (.slice a1s x1.2.items.length ca1s)) := by rw [hW]; exact bx8_other HBb.out (by have := Hnb.out; omega) _
    have hlt : na < V1.heap.size := HS.out
    have HL : Hid (LiesB V1.heap.size 16 Wa2 x2.1.items (.slice a2p x2.1.items.length ca2p) ∧ LiesB V1.heap.size 16 Wa2 x2.2.items (.slice a2q x2.2.items.length ca2q)) := by rw [hW]; exact ⟨LiesB.put8 hlt _ hl1, LiesB.put8 hlt _ hl2⟩
    have hb2 : Below w2.heap.size w2 Wa2 := by rw [hW]; exact below_put8 hb1 Hna.out _ _ _ _ _ _ _ _
    have HK : Hid (Wa2.cell? ⟨w.heap.size, 0, none⟩ = some (.int .i64 y.kind) ∧ Wa2.cell? ⟨w.heap.size, 1, none⟩ = some (.int .i64 y.num) ∧ Wa2.cell? ⟨w.heap.size, 2, none⟩ = some (.string y.text) ∧ Wa2.cell? ⟨w.heap.size, 3, none⟩ = some (.slice ay y.items.length cy)) := ⟨cell_keeps hb2 Hk.out.1, cell_keeps hb2 Hk.out.2.1, cell_keeps hb2 Hk.out.2.2.1, cell_keeps hb2 Hk.out.2.2.2⟩
    clear hW hl1 hl2 hg hb1 hbV HF2 hlt HBa k0 k1 k2 k3
    go_upto_region 12 with fail
    rw [← HW.out]
    clear HW y0 y1 y2 y3 y4 y5 y6 y7 f0 f1 f2 f3 f4 f5 f6 f7
    obtain ⟨k0, k1, k2, k3⟩ := HK.out
    clear HK
    go_wp2_with fail
    refine Calls.mono (HR2.out _ hb2) ?_
    rintro e d2 ⟨hg, a2r, ca2r, a2s, ca2s, rfl, hpl⟩
    have hb3 : Below w2.heap.size w2 d2 := hb2.trans (hg.mono hb2.size)
    have HBa : Hid (Bx8 d2 na (.int .i64 x2.1.kind) (.int .i64 x2.1.num) (.string x2.1.text) (.slice a2p x2.1.items.length ca2p) (.int .i64 x2.2.kind) (.int .i64 x2.2.num) (.string x2.2.text) (.slice a2q x2.2.items.length ca2q)) := HBa'.out.keeps hg
    have HBb : Hid (Bx8 d2 nb (.int .i64 x1.1.kind) (.int .i64 x1.1.num) (.string x1.1.text) (.slice a1r x1.1.items.length ca1r) (.int .i64 x1.2.kind) (.int .i64 x1.2.num) (.string x1.2.text) (.slice a1s x1.2.items.length ca1s)) := HBb.out.keeps hg
    obtain ⟨y0, y1, y2, y3, y4, y5, y6, y7, f0, f1, f2, f3, f4, f5, f6, f7, _⟩ := HBb.out
    obtain ⟨Wb2, hW⟩ : ∃ W, W = d2.setCells nb 0 [.int .i64 x2.1.kind, .int .i64 x2.1.num, .string x2.1.text, .slice a2r x2.1.items.length ca2r, .int .i64 x2.2.kind, .int .i64 x2.2.num, .string x2.2.text, .slice a2s x2.2.items.length ca2s] := ⟨_, rfl⟩
    have HW : Hid (Wb2 = (((((((d2.setCell ⟨nb, 0, none⟩ (.int .i64 x2.1.kind)).setCell ⟨nb, 1, none⟩ (.int .i64 x2.1.num)).setCell ⟨nb, 2, none⟩ (.string x2.1.text)).setCell ⟨nb, 3, none⟩ (.slice a2r x2.1.items.length ca2r)).setCell ⟨nb, 4, none⟩ (.int .i64 x2.2.kind)).setCell ⟨nb, 5, none⟩ (.int .i64 x2.2.num)).setCell ⟨nb, 6, none⟩ (.string x2.2.text)).setCell ⟨nb, 7, none⟩ (.slice a2s x2.2.items.length ca2s)) := hW
    have HBb' : Hid (Bx8 Wb2 nb (.int .i64 x2.1.kind) (.int .i64 x2.1.num) (.string x2.1.text) (.slice a2r x2.1.items.length ca2r) (.int .i64 x2.2.kind) (.int .i64 x2.2.num) (.string x2.2.text) (.slice a2s x2.2.items.length ca2s)) := by rw [hW]; exact HBb.out.put _ _ _ _ _ _ _ _
    have HBa : Hid (Bx8 Wb2 na (.int .i64 x2.1.kind) (.int .i64 x2.1.num) (.string x2.1.text) (.slice a2p x2.1.items.length ca2p) (.int .i64 x2.2.kind) (.int .i64 x2.2.num) (.string x2.2.text) (.slice a2q x2.2.items.length ca2q)) := by rw [hW]; exact bx8_other HBa.out (by have := Hnb.out; omega) _
    have hlt : nb < V1.heap.size := HT.out
    have hb4 : Below w2.heap.size w2 Wb2 := by rw [hW]; exact below_put8 hb3 (by have := Hnb.out; have := Hna.out; omega) _ _ _ _ _ _ _ _
    have HL2 : Hid (PrL Wb2 x2 (.slice a2p x2.1.items.length ca2p) (.slice a2q x2.2.items.length ca2q)) := by rw [hW]; exact ⟨LiesB.lies _ _ _ (LiesB.put8 hlt _ (LiesB.keepsB hg HL.out.1)), LiesB.lies _ _ _ (LiesB.put8 hlt _ (LiesB.keepsB hg HL.out.2))⟩
    have HP : Hid _ := pair_same x2 _ _ _ _ Wb2 HL2.out (hpl.keeps hb4)
    have HK : Hid (Wb2.cell? ⟨w.heap.size, 0, none⟩ = some (.int .i64 y.kind) ∧ Wb2.cell? ⟨w.heap.size, 1, none⟩ = some (.int .i64 y.num) ∧ Wb2.cell? ⟨w.heap.size, 2, none⟩ = some (.string y.text) ∧ Wb2.cell? ⟨w.heap.size, 3, none⟩ = some (.slice ay y.items.length cy)) := ⟨cell_keeps hb4 Hk.out.1, cell_keeps hb4 Hk.out.2.1, cell_keeps hb4 Hk.out.2.2.1, cell_keeps hb4 Hk.out.2.2.2⟩
    clear hW hg hb2 hb3 hpl HL HL2 HR2 hlt HBb HBa' k0 k1 k2 k3
    go_upto_region 13 with fail
    rw [← HW.out]
    clear HW y0 y1 y2 y3 y4 y5 y6 y7 f0 f1 f2 f3 f4 f5 f6 f7
    obtain ⟨k0, k1, k2, k3⟩ := HK.out
    have HBb : Hid (Bx8 Wb2 nb (.int .i64 x2.1.kind) (.int .i64 x2.1.num) (.string x2.1.text) (.slice a2r x2.1.items.length ca2r) (.int .i64 x2.2.kind) (.int .i64 x2.2.num) (.string x2.2.text) (.slice a2s x2.2.items.length ca2s)) := HBb'.out
    clear HK HBb'
    obtain ⟨y0, y1, y2, y3, y4, y5, y6, y7, _, _, _, _, _, _, _, _, _⟩ := HBa.out
    obtain ⟨z0, z1, z2, z3, z4, z5, z6, z7, _, _, _, _, _, _, _, _, _⟩ := HBb.out
    go_wp2_with fail
    refine Calls.mono HP.out ?_
    rintro e V2 ⟨rfl, hg⟩
    have k0 := cell_keeps hg k0; have k1 := cell_keeps hg k1; have k2 := cell_keeps hg k2; have k3 := cell_keeps hg k3
    have hbV : Below w2.heap.size w2 V2 := hb4.trans (hg.mono hb4.size)
    have HBa : Hid (Bx8 V2 na (.int .i64 x2.1.kind) (.int .i64 x2.1.num) (.string x2.1.text) (.slice a2p x2.1.items.length ca2p) (.int .i64 x2.2.kind) (.int .i64 x2.2.num) (.string x2.2.text) (.slice a2q x2.2.items.length ca2q)) := HBa.out.keeps hg
    have HBb : Hid (Bx8 V2 nb (.int .i64 x2.1.kind) (.int .i64 x2.1.num) (.string x2.1.text) (.slice a2r x2.1.items.length ca2r) (.int .i64 x2.2.kind) (.int .i64 x2.2.num) (.string x2.2.text) (.slice a2s x2.2.items.length ca2s)) := HBb.out.keeps hg
    have HS : Hid (na < V2.heap.size) := by have h9 := cell_lt HBa.out.c0; show na < _; simpa using h9
    have HT : Hid (nb < V2.heap.size) := by have h9 := cell_lt HBb.out.c0; show nb < _; simpa using h9
    have e1 : (B2 != B2) = false := by simp
    have e2 : (E2 != E2) = false := by simp
    have e3 : (B2 == B2) = true := by simp
    have e4 : (E2 == E2) = true := by simp
    clear hg hb4 HP y0 y1 y2 y3 y4 y5 y6 y7 z0 z1 z2 z3 z4 z5 z6 z7

    clear e1 e2 e3 e4
    go_wp2_with fail
    refine Calls.mono (HF3.out _ hbV) ?_
    rintro e p3 ⟨hg, a3p, ca3p, a3q, ca3q, rfl, hl1, hl2⟩
    have k0 := cell_keeps hg k0; have k1 := cell_keeps hg k1; have k2 := cell_keeps hg k2; have k3 := cell_keeps hg k3
    have hb1 : Below w2.heap.size w2 p3 := hbV.trans (hg.mono hbV.size)
    have HBa : Hid (Bx8 p3 na (.int .i64 x2.1.kind) (.int .i64 x2.1.num) (.string x2.1.text) (.slice a2p x2.1.items.length ca2p) (.int .i64 x2.2.kind) (.int .i64 x2.2.num) (.string x2.2.text) (.slice a2q x2.2.items.length ca2q)) := HBa.out.keeps hg
    have HBb : Hid (Bx8 p3 nb (.int .i64 x2.1.kind) (.int .i64 x2.1.num) (.string x2.1.text) (.slice a2r x2.1.items.length ca2r) (.int .i64 x2.2.kind) (.int .i64 x2.2.num) (.string x2.2.text) (.slice a2s x2.2.items.length ca2s)) := HBb.out.keeps hg
    obtain ⟨y0, y1, y2, y3, y4, y5, y6, y7, f0, f1, f2, f3, f4, f5, f6, f7, _⟩ := HBa.out
    obtain ⟨Wa3, hW⟩ : ∃ W, W = p3.setCells na 0 [.int .i64 x3.1.kind, .int .i64 x3.1.num, .string x3.1.text, .slice a3p x3.1.items.length ca3p, .int .i64 x3.2.kind, .int .i64 x3.2.num, .string x3.2.text, .slice a3q x3.2.items.length ca3q] := ⟨_, rfl⟩
    have HW : Hid (Wa3 = (((((((p3.setCell ⟨na, 0, none⟩ (.int .i64 x3.1.kind)).setCell ⟨na, 1, none⟩ (.int .i64 x3.1.num)).setCell ⟨na, 2, none⟩ (.string x3.1.text)).setCell ⟨na, 3, none⟩ (.slice a3p x3.1.items.length ca3p)).setCell ⟨na, 4, none⟩ (.int .i64 x3.2.kind)).setCell ⟨na, 5, none⟩ (.int .i64 x3.2.num)).setCell ⟨na, 6, none⟩ (.string x3.2.text)).setCell ⟨na, 7, none⟩ (.slice a3q x3.2.items.length ca3q)) := hW
    have HBa' : Hid (Bx8 Wa3 na (.int .i64 x3.1.kind) (.int .i64 x3.1.num) (.string x3.1.text) (.slice a3p x3.1.items.length ca3p) (.int .i64 x3.2.kind) (.int .i64 x3.2.num) (.string x3.2.text) (.slice a3q x3.2.items.length ca3q)) := by rw [hW]; exact HBa.out.put _ _ _ _ _ _ _ _
    have HBb : Hid (Bx8 Wa3 nb (.int .i64 x2.1.kind) (.int .i64 x2.1.num) (.string x2.1.text) (.slice a2r x2.1.items.length ca2r) (.int .i64 x2.2.kind) (.int .i64 x2.2.num) (.string x2.2.text) (.slice a2s x2.2.items.length ca2s)) := by rw [hW]; exact bx8_other HBb.out (by have := Hnb.out; omega) _
    have hlt : na < V2.heap.size := HS.out
    have HL : Hid (LiesB V2.heap.size 16 Wa3 x3.1.items (.slice a3p x3.1.items.length ca3p) ∧ LiesB V2.heap.size 16 Wa3 x3.2.items (.slice a3q x3.2.items.length ca3q)) := by rw [hW]; exact ⟨LiesB.put8 hlt _ hl1, LiesB.put8 hlt _ hl2⟩
    have hb2 : Below w2.heap.size w2 Wa3 := by rw [hW]; exact below_put8 hb1 Hna.out _ _ _ _ _ _ _ _
    have HK : Hid (Wa3.cell? ⟨w.heap.size, 0, none⟩ = some (.int .i64 y.kind) ∧ Wa3.cell? ⟨w.heap.size, 1, none⟩ = some (.int .i64 y.num) ∧ Wa3.cell? ⟨w.heap.size, 2, none⟩ = some (.string y.text) ∧ Wa3.cell? ⟨w.heap.size, 3, none⟩ = some (.slice ay y.items.length cy)) := ⟨cell_keeps hb2 Hk.out.1, cell_keeps hb2 Hk.out.2.1, cell_keeps hb2 Hk.out.2.2.1, cell_keeps hb2 Hk.out.2.2.2⟩
    clear hW hl1 hl2 hg hb1 hbV HF3 hlt HBa k0 k1 k2 k3
    go_upto_region 16 with fail
    rw [← HW.out]
    clear HW y0 y1 y2 y3 y4 y5 y6 y7 f0 f1 f2 f3 f4 f5 f6 f7
    obtain ⟨k0, k1, k2, k3⟩ := HK.out
    clear HK
    go_wp2_with fail
    refine Calls.mono (HR3.out _ hb2) ?_
    rintro e d3 ⟨hg, a3r, ca3r, a3s, ca3s, rfl, hpl⟩
    have hb3 : Below w2.heap.size w2 d3 := hb2.trans (hg.mono hb2.size)
    have HBa : Hid (Bx8 d3 na (.int .i64 x3.1.kind) (.int .i64 x3.1.num) (.string x3.1.text) (.slice a3p x3.1.items.length ca3p) (.int .i64 x3.2.kind) (.int .i64 x3.2.num) (.string x3.2.text) (.slice a3q x3.2.items.length ca3q)) := HBa'.out.keeps hg
    have HBb : Hid (Bx8 d3 nb (.int .i64 x2.1.kind) (.int .i64 x2.1.num) (.string x2.1.text) (.slice a2r x2.1.items.length ca2r) (.int .i64 x2.2.kind) (.int .i64 x2.2.num) (.string x2.2.text) (.slice a2s x2.2.items.length ca2s)) := HBb.out.keeps hg
    obtain ⟨y0, y1, y2, y3, y4, y5, y6, y7, f0, f1, f2, f3, f4, f5, f6, f7, _⟩ := HBb.out
    obtain ⟨Wb3, hW⟩ : ∃ W, W = d3.setCells nb 0 [.int .i64 x3.1.kind, .int .i64 x3.1.num, .string x3.1.text, .slice a3r x3.1.items.length ca3r, .int .i64 x3.2.kind, .int .i64 x3.2.num, .string x3.2.text, .slice a3s x3.2.items.length ca3s] := ⟨_, rfl⟩
    have HW : Hid (Wb3 = (((((((d3.setCell ⟨nb, 0, none⟩ (.int .i64 x3.1.kind)).setCell ⟨nb, 1, none⟩ (.int .i64 x3.1.num)).setCell ⟨nb, 2, none⟩ (.string x3.1.text)).setCell ⟨nb, 3, none⟩ (.slice a3r x3.1.items.length ca3r)).setCell ⟨nb, 4, none⟩ (.int .i64 x3.2.kind)).setCell ⟨nb, 5, none⟩ (.int .i64 x3.2.num)).setCell ⟨nb, 6, none⟩ (.string x3.2.text)).setCell ⟨nb, 7, none⟩ (.slice a3s x3.2.items.length ca3s)) := hW
    have HBb' : Hid (Bx8 Wb3 nb (.int .i64 x3.1.kind) (.int .i64 x3.1.num) (.string x3.1.text) (.slice a3r x3.1.items.length ca3r) (.int .i64 x3.2.kind) (.int .i64 x3.2.num) (.string x3.2.text) (.slice a3s x3.2.items.length ca3s)) := by rw [hW]; exact HBb.out.put _ _ _ _ _ _ _ _
    have HBa : Hid (Bx8 Wb3 na (.int .i64 x3.1.kind) (.int .i64 x3.1.num) (.string x3.1.text) (.slice a3p x3.1.items.length ca3p) (.int .i64 x3.2.kind) (.int .i64 x3.2.num) (.string x3.2.text) (.slice a3q x3.2.items.length ca3q)) := by rw [hW]; exact bx8_other HBa.out (by have := Hnb.out; omega) _
    have hlt : nb < V2.heap.size := HT.out
    have hb4 : Below w2.heap.size w2 Wb3 := by rw [hW]; exact below_put8 hb3 (by have := Hnb.out; have := Hna.out; omega) _ _ _ _ _ _ _ _
    have HL2 : Hid (PrL Wb3 x3 (.slice a3p x3.1.items.length ca3p) (.slice a3q x3.2.items.length ca3q)) := by rw [hW]; exact ⟨LiesB.lies _ _ _ (LiesB.put8 hlt _ (LiesB.keepsB hg HL.out.1)), LiesB.lies _ _ _ (LiesB.put8 hlt _ (LiesB.keepsB hg HL.out.2))⟩
    have HP : Hid _ := pair_same x3 _ _ _ _ Wb3 HL2.out (hpl.keeps hb4)
    have HK : Hid (Wb3.cell? ⟨w.heap.size, 0, none⟩ = some (.int .i64 y.kind) ∧ Wb3.cell? ⟨w.heap.size, 1, none⟩ = some (.int .i64 y.num) ∧ Wb3.cell? ⟨w.heap.size, 2, none⟩ = some (.string y.text) ∧ Wb3.cell? ⟨w.heap.size, 3, none⟩ = some (.slice ay y.items.length cy)) := ⟨cell_keeps hb4 Hk.out.1, cell_keeps hb4 Hk.out.2.1, cell_keeps hb4 Hk.out.2.2.1, cell_keeps hb4 Hk.out.2.2.2⟩
    clear hW hg hb2 hb3 hpl HL HL2 HR3 hlt HBb HBa' k0 k1 k2 k3
    go_upto_region 17 with fail
    rw [← HW.out]
    clear HW y0 y1 y2 y3 y4 y5 y6 y7 f0 f1 f2 f3 f4 f5 f6 f7
    obtain ⟨k0, k1, k2, k3⟩ := HK.out
    have HBb : Hid (Bx8 Wb3 nb (.int .i64 x3.1.kind) (.int .i64 x3.1.num) (.string x3.1.text) (.slice a3r x3.1.items.length ca3r) (.int .i64 x3.2.kind) (.int .i64 x3.2.num) (.string x3.2.text) (.slice a3s x3.2.items.length ca3s)) := HBb'.out
    clear HK HBb'
    obtain ⟨y0, y1, y2, y3, y4, y5, y6, y7, _, _, _, _, _, _, _, _, _⟩ := HBa.out
    obtain ⟨z0, z1, z2, z3, z4, z5, z6, z7, _, _, _, _, _, _, _, _, _⟩ := HBb.out
    go_wp2_with fail
    refine Calls.mono HP.out ?_
    rintro e V3 ⟨rfl, hg⟩
    have k0 := cell_keeps hg k0; have k1 := cell_keeps hg k1; have k2 := cell_keeps hg k2; have k3 := cell_keeps hg k3
    have hbV : Below w2.heap.size w2 V3 := hb4.trans (hg.mono hb4.size)
    have HBa : Hid (Bx8 V3 na (.int .i64 x3.1.kind) (.int .i64 x3.1.num) (.string x3.1.text) (.slice a3p x3.1.items.length ca3p) (.int .i64 x3.2.kind) (.int .i64 x3.2.num) (.string x3.2.text) (.slice a3q x3.2.items.length ca3q)) := HBa.out.keeps hg
    have HBb : Hid (Bx8 V3 nb (.int .i64 x3.1.kind) (.int .i64 x3.1.num) (.string x3.1.text) (.slice a3r x3.1.items.length ca3r) (.int .i64 x3.2.kind) (.int .i64 x3.2.num) (.string x3.2.text) (.slice a3s x3.2.items.length ca3s)) := HBb.out.keeps hg
    have HS : Hid (na < V3.heap.size) := by have h9 := cell_lt HBa.out.c0; show na < _; simpa using h9
    have HT : Hid (nb < V3.heap.size) := by have h9 := cell_lt HBb.out.c0; show nb < _; simpa using h9
    have e1 : (B3 != B3) = false := by simp
    have e2 : (E3 != E3) = false := by simp
    have e3 : (B3 == B3) = true := by simp
    have e4 : (E3 == E3) = true := by simp
    clear hg hb4 HP y0 y1 y2 y3 y4 y5 y6 y7 z0 z1 z2 z3 z4 z5 z6 z7

    clear e1 e2 e3 e4
    go_wp2_with fail
    refine Calls.mono (HF4.out _ hbV) ?_
    rintro e p4 ⟨hg, a4p, ca4p, a4q, ca4q, rfl, hl1, hl2⟩
    have k0 := cell_keeps hg k0; have k1 := cell_keeps hg k1; have k2 := cell_keeps hg k2; have k3 := cell_keeps hg k3
    have hb1 : Below w2.heap.size w2 p4 := hbV.trans (hg.mono hbV.size)
    have HBa : Hid (Bx8 p4 na (.int .i64 x3.1.kind) (.int .i64 x3.1.num) (.string x3.1.text) (.slice a3p x3.1.items.length ca3p) (.int .i64 x3.2.kind) (.int .i64 x3.2.num) (.string x3.2.text) (.slice a3q x3.2.items.length ca3q)) := HBa.out.keeps hg
    have HBb : Hid (Bx8 p4 nb (.int .i64 x3.1.kind) (.int .i64 x3.1.num) (.string x3.1.text) (.slice a3r x3.1.items.length ca3r) (.int .i64 x3.2.kind) (.int .i64 x3.2.num) (.string x3.2.text) (.slice a3s x3.2.items.length ca3s)) := HBb.out.keeps hg
    obtain ⟨y0, y1, y2, y3, y4, y5, y6, y7, f0, f1, f2, f3, f4, f5, f6, f7, _⟩ := HBa.out
    obtain ⟨Wa4, hW⟩ : ∃ W, W = p4.setCells na 0 [.int .i64 x4.1.kind, .int .i64 x4.1.num, .string x4.1.text, .slice a4p x4.1.items.length ca4p, .int .i64 x4.2.kind, .int .i64 x4.2.num, .string x4.2.text, .slice a4q x4.2.items.length ca4q] := ⟨_, rfl⟩
    have HW : Hid (Wa4 = (((((((p4.setCell ⟨na, 0, none⟩ (.int .i64 x4.1.kind)).setCell ⟨na, 1, none⟩ (.int .i64 x4.1.num)).setCell ⟨na, 2, none⟩ (.string x4.1.text)).setCell ⟨na, 3, none⟩ (.slice a4p x4.1.items.length ca4p)).setCell ⟨na, 4, none⟩ (.int .i64 x4.2.kind)).setCell ⟨na, 5, none⟩ (.int .i64 x4.2.num)).setCell ⟨na, 6, none⟩ (.string x4.2.text)).setCell ⟨na, 7, none⟩ (.slice a4q x4.2.items.length ca4q)) := hW
    have HBa' : Hid (Bx8 Wa4 na (.int .i64 x4.1.kind) (.int .i64 x4.1.num) (.string x4.1.text) (.slice a4p x4.1.items.length ca4p) (.int .i64 x4.2.kind) (.int .i64 x4.2.num) (.string x4.2.text) (.slice a4q x4.2.items.length ca4q)) := by rw [hW]; exact HBa.out.put _ _ _ _ _ _ _ _
    have HBb : Hid (Bx8 Wa4 nb (.int .i64 x3.1.kind) (.int .i64 x3.1.num) (.string x3.1.text) (.slice a3r x3.1.items.length ca3r) (.int .i64 x3.2.kind) (.int .i64 x3.2.num) (.string x3.2.text) (.slice a3s x3.2.items.length ca3s)) := by rw [hW]; exact bx8_other HBb.out (by have := Hnb.out; omega) _
    have hlt : na < V3.heap.size := HS.out
    have HL : Hid (LiesB V3.heap.size 16 Wa4 x4.1.items (.slice a4p x4.1.items.length ca4p) ∧ LiesB V3.heap.size 16 Wa4 x4.2.items (.slice a4q x4.2.items.length ca4q)) := by rw [hW]; exact ⟨LiesB.put8 hlt _ hl1, LiesB.put8 hlt _ hl2⟩
    have hb2 : Below w2.heap.size w2 Wa4 := by rw [hW]; exact below_put8 hb1 Hna.out _ _ _ _ _ _ _ _
    have HK : Hid (Wa4.cell? ⟨w.heap.size, 0, none⟩ = some (.int .i64 y.kind) ∧ Wa4.cell? ⟨w.heap.size, 1, none⟩ = some (.int .i64 y.num) ∧ Wa4.cell? ⟨w.heap.size, 2, none⟩ = some (.string y.text) ∧ Wa4.cell? ⟨w.heap.size, 3, none⟩ = some (.slice ay y.items.length cy)) := ⟨cell_keeps hb2 Hk.out.1, cell_keeps hb2 Hk.out.2.1, cell_keeps hb2 Hk.out.2.2.1, cell_keeps hb2 Hk.out.2.2.2⟩
    clear hW hl1 hl2 hg hb1 hbV HF4 hlt HBa k0 k1 k2 k3
    go_upto_region 20 with fail
    rw [← HW.out]
    clear HW y0 y1 y2 y3 y4 y5 y6 y7 f0 f1 f2 f3 f4 f5 f6 f7
    obtain ⟨k0, k1, k2, k3⟩ := HK.out
    clear HK
    go_wp2_with fail
    refine Calls.mono (HR4.out _ hb2) ?_
    rintro e d4 ⟨hg, a4r, ca4r, a4s, ca4s, rfl, hpl⟩
    have hb3 : Below w2.heap.size w2 d4 := hb2.trans (hg.mono hb2.size)
    have HBa : Hid (Bx8 d4 na (.int .i64 x4.1.kind) (.int .i64 x4.1.num) (.string x4.1.text) (.slice a4p x4.1.items.length ca4p) (.int .i64 x4.2.kind) (.int .i64 x4.2.num) (.string x4.2.text) (.slice a4q x4.2.items.length ca4q)) := HBa'.out.keeps hg
    have HBb : Hid (Bx8 d4 nb (.int .i64 x3.1.kind) (.int .i64 x3.1.num) (.string x3.1.text) (.slice a3r x3.1.items.length ca3r) (.int .i64 x3.2.kind) (.int .i64 x3.2.num) (.string x3.2.text) (.slice a3s x3.2.items.length ca3s)) := HBb.out.keeps hg
    obtain ⟨y0, y1, y2, y3, y4, y5, y6, y7, f0, f1, f2, f3, f4, f5, f6, f7, _⟩ := HBb.out
    obtain ⟨Wb4, hW⟩ : ∃ W, W = d4.setCells nb 0 [.int .i64 x4.1.kind, .int .i64 x4.1.num, .string x4.1.text, .slice a4r x4.1.items.length ca4r, .int .i64 x4.2.kind, .int .i64 x4.2.num, .string x4.2.text, .slice a4s x4.2.items.length ca4s] := ⟨_, rfl⟩
    have HW : Hid (Wb4 = (((((((d4.setCell ⟨nb, 0, none⟩ (.int .i64 x4.1.kind)).setCell ⟨nb, 1, none⟩ (.int .i64 x4.1.num)).setCell ⟨nb, 2, none⟩ (.string x4.1.text)).setCell ⟨nb, 3, none⟩ (.slice a4r x4.1.items.length ca4r)).setCell ⟨nb, 4, none⟩ (.int .i64 x4.2.kind)).setCell ⟨nb, 5, none⟩ (.int .i64 x4.2.num)).setCell ⟨nb, 6, none⟩ (.string x4.2.text)).setCell ⟨nb, 7, none⟩ (.slice a4s x4.2.items.length ca4s)) := hW
    have HBb' : Hid (Bx8 Wb4 nb (.int .i64 x4.1.kind) (.int .i64 x4.1.num) (.string x4.1.text) (.slice a4r x4.1.items.length ca4r) (.int .i64 x4.2.kind) (.int .i64 x4.2.num) (.string x4.2.text) (.slice a4s x4.2.items.length ca4s)) := by rw [hW]; exact HBb.out.put _ _ _ _ _ _ _ _
    have HBa : Hid (Bx8 Wb4 na (.int .i64 x4.1.kind) (.int .i64 x4.1.num) (.string x4.1.text) (.slice a4p x4.1.items.length ca4p) (.int .i64 x4.2.kind) (.int .i64 x4.2.num) (.string x4.2.text) (.slice a4q x4.2.items.length ca4q)) := by rw [hW]; exact bx8_other HBa.out (by have := Hnb.out; omega) _
    have hlt : nb < V3.heap.size := HT.out
    have hb4 : Below w2.heap.size w2 Wb4 := by rw [hW]; exact below_put8 hb3 (by have := Hnb.out; have := Hna.out; omega) _ _ _ _ _ _ _ _
    have HL2 : Hid (PrL Wb4 x4 (.slice a4p x4.1.items.length ca4p) (.slice a4q x4.2.items.length ca4q)) := by rw [hW]; exact ⟨LiesB.lies _ _ _ (LiesB.put8 hlt _ (LiesB.keepsB hg HL.out.1)), LiesB.lies _ _ _ (LiesB.put8 hlt _ (LiesB.keepsB hg HL.out.2))⟩
    have HP : Hid _ := pair_same x4 _ _ _ _ Wb4 HL2.out (hpl.keeps hb4)
    have HK : Hid (Wb4.cell? ⟨w.heap.size, 0, none⟩ = some (.int .i64 y.kind) ∧ Wb4.cell? ⟨w.heap.size, 1, none⟩ = some (.int .i64 y.num) ∧ Wb4.cell? ⟨w.heap.size, 2, none⟩ = some (.string y.text) ∧ Wb4.cell? ⟨w.heap.size, 3, none⟩ = some (.slice ay y.items.length cy)) := ⟨cell_keeps hb4 Hk.out.1, cell_keeps hb4 Hk.out.2.1, cell_keeps hb4 Hk.out.2.2.1, cell_keeps hb4 Hk.out.2.2.2⟩
    clear hW hg hb2 hb3 hpl HL HL2 HR4 hlt HBb HBa' k0 k1 k2 k3
    go_upto_region 21 with fail
    rw [← HW.out]
    clear HW y0 y1 y2 y3 y4 y5 y6 y7 f0 f1 f2 f3 f4 f5 f6 f7
    obtain ⟨k0, k1, k2, k3⟩ := HK.out
    have HBb : Hid (Bx8 Wb4 nb (.int .i64 x4.1.kind) (.int .i64 x4.1.num) (.string x4.1.text) (.slice a4r x4.1.items.length ca4r) (.int .i64 x4.2.kind) (.int .i64 x4.2.num) (.string x4.2.text) (.slice a4s x4.2.items.length ca4s)) := HBb'.out
    clear HK HBb'
    obtain ⟨y0, y1, y2, y3, y4, y5, y6, y7, _, _, _, _, _, _, _, _, _⟩ := HBa.out
    obtain ⟨z0, z1, z2, z3, z4, z5, z6, z7, _, _, _, _, _, _, _, _, _⟩ := HBb.out
    go_wp2_with fail
    refine Calls.mono HP.out ?_
    rintro e V4 ⟨rfl, hg⟩
    have k0 := cell_keeps hg k0; have k1 := cell_keeps hg k1; have k2 := cell_keeps hg k2; have k3 := cell_keeps hg k3
    have hbV : Below w2.heap.size w2 V4 := hb4.trans (hg.mono hb4.size)
    have HBa : Hid (Bx8 V4 na (.int .i64 x4.1.kind) (.int .i64 x4.1.num) (.string x4.1.text) (.slice a4p x4.1.items.length ca4p) (.int .i64 x4.2.kind) (.int .i64 x4.2.num) (.string x4.2.text) (.slice a4q x4.2.items.length ca4q)) := HBa.out.keeps hg
    have HBb : Hid (Bx8 V4 nb (.int .i64 x4.1.kind) (.int .i64 x4.1.num) (.string x4.1.text) (.slice a4r x4.1.items.length ca4r) (.int .i64 x4.2.kind) (.int .i64 x4.2.num) (.string x4.2.text) (.slice a4s x4.2.items.length ca4s)) := HBb.out.keeps hg
    have HS : Hid (na < V4.heap.size) := by have h9 := cell_lt HBa.out.c0; show na < _; simpa using h9
    have HT : Hid (nb < V4.heap.size) := by have h9 := cell_lt HBb.out.c0; show nb < _; simpa using h9
    have e1 : (B4 != B4) = false := by simp
    have e2 : (E4 != E4) = false := by simp
    have e3 : (B4 == B4) = true := by simp
    have e4 : (E4 == E4) = true := by simp
    clear hg hb4 HP y0 y1 y2 y3 y4 y5 y6 y7 z0 z1 z2 z3 z4 z5 z6 z7

    clear HBa HBb HS HT Hk k0 k1 k2 k3
    go_wp2_with fail
    refine Calls.mono (HSp.out _) ?_
    rintro e w9 ⟨rfl, hg9⟩
    have hb9 : Below w.heap.size w w9 := Hb2.out.trans ((hbV.trans (hg9.mono hbV.size)).mono Hb2.out.size)
    clear hg9
    go_wp2_with fail
    go_ret
    exact ⟨rfl, hb9⟩

end Go.Proofs.YtpmodiodpilmeaaGreat

