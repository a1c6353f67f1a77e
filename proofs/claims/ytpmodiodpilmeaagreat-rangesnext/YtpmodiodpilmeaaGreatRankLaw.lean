/-
  RangesRank.
-/
import Derived.Test.YtpmodiodpilmeaaGreatSpeaks15
import Derived.Test.YtpmodiodpilmeaaGreatSearchQ
import Derived.Test.YtpmodiodpilmeaaGreatPairsM
namespace Go.Proofs.YtpmodiodpilmeaaGreat
open Go.RowKit Go.Shelf

theorem rank_eq {q : Nat} {l : List PT} {y : VT} (hf : RT.Falls (atK q y) l) : rankR q l y = (l.filter (RT.ahead (atK q y) false)).length := by
  unfold rankR
  obtain ⟨_, h2⟩ := filter_ahead (atK q y) false l hf
  refine takeWhile_len _ l _ (List.length_filter_le _ _) (fun j hj hk => ?_) (fun hk => ?_)
  · have h9 := (h2 j l[j] (List.getElem?_eq_getElem hj)).2 hk
    simp only [RT.ahead, Bool.or_eq_true, Bool.and_false, Bool.false_eq_true, or_false, decide_eq_true_eq] at h9
    have h8 : 0 < ordV q y l[j].1 := h9
    have := ordV_turn q y l[j].1
    simp only [decide_eq_true_eq]
    omega
  · have h9 := mt (h2 _ _ (List.getElem?_eq_getElem hk)).1 (Nat.lt_irrefl _)
    simp only [RT.ahead, Bool.or_eq_true, Bool.and_false, Bool.false_eq_true, or_false, decide_eq_true_eq] at h9
    have h8 : ¬ 0 < ordV q y (l[(l.filter (RT.ahead (atK q y) false)).length]).1 := h9
    have := ordV_turn q y (l[(l.filter (RT.ahead (atK q y) false)).length]).1
    simp only [decide_eq_false_iff_not]
    omega

theorem rank_up {w : World} {q b : Nat} {t : RT PT} {y : VT} (h : MC w q t b) : rankR q t.items y = RT.upTo (atK q y) false t := by
  have hf := RT.Rises.falls (byK_cmp q) h.rises (y, y)
  rw [rank_eq hf]
  exact (RT.upTo_items (atK q y) false t hf).symm

set_option maxRecDepth 100000 in
set_option maxHeartbeats 8000000 in
theorem ranks_walk (o : Int) (d : Nat) (qs : List PP) (u : Value) (d2 : Nat) (y : VT) (yu : Value) (w : World) (hu : SlQ 0 d w qs u) (hy : Lies d2 w y.items yu) (ht : y.text.size ≤ 9223372036854775807) :
    Calls Tryz.prog 5 #[.int .i64 o, u, .agg #[.int .i64 y.kind, .int .i64 y.num, .string y.text, yu]] w fun e w' => e = .returned (.bool true) ∧ Below w.heap.size w w' := by
  have HSp : Hid (∀ V, Calls Tryz.prog 9 #[] V fun e w' => e = .returned (.bool true) ∧ Below V.heap.size V w') := speaks15_any
  obtain ⟨au, cu, rfl, _⟩ := hu.slice
  obtain ⟨ay, cy, rfl, _⟩ := Lies.slice hy
  have HO : Hid (∀ V, Below w.heap.size w V → Calls Tryz.prog 8 #[.int .i64 o, .slice au qs.length cu] V (OfPost14 d o qs V)) := fun V hV => mof_14 d o qs _ V (hu.keeps hV)
  have HY : Hid (Lies d2 w y.items (.slice ay y.items.length cy)) := hy
  have HYt : Hid (y.text.size ≤ 9223372036854775807) := ht
  have HK0 : Hid (Bx (w.alloc (.cells #[.int .i64 y.kind, .int .i64 y.num, .string y.text, .slice ay y.items.length cy] 25)) w.heap.size y (.slice ay y.items.length cy)) := bx_alloc _ _ _
  have hb0 : Below w.heap.size w (w.alloc (.cells #[.int .i64 y.kind, .int .i64 y.num, .string y.text, .slice ay y.items.length cy] 25)) := ((Grew.refl w).alloc _).below
  clear hu hy ht
  go_enter Tryz.func5, Tryz.ntmps5
  go_wp2_with fail
  refine Calls.mono (HO.out _ hb0) ?_
  rintro e w1 ⟨hg1, hcase⟩
  have HK1 : Hid (Bx w1 w.heap.size y (.slice ay y.items.length cy)) := HK0.out.keeps hg1
  have hb1 : Below w.heap.size w w1 := hb0.trans (hg1.mono hb0.size)
  clear hg1 hb0 HO HK0
  rcases hcase with ⟨hne, rfl⟩ | ⟨he0, t, b, rfl, hm, _⟩
  · generalize ofErr d o (qs.map trT) = E at hne ⊢
    generalize qs.length = L at *
    go_wp2_with fail
    refine Calls.mono (HSp.out _) ?_
    rintro e w2 ⟨rfl, hg2⟩
    have hb2 : Below w.heap.size w w2 := hb1.trans (hg2.mono hb1.size)
    clear hg2
    go_wp2_with fail
    go_ret
    exact ⟨rfl, hb2⟩
  · obtain ⟨q, hq⟩ : ∃ q, q = o.toNat := ⟨_, rfl⟩
    rw [← hq] at hm
    have hoq : o = (q : Int) := by
      have h9 : ordErr o = 0 := by
        unfold ofErr at he0
        by_cases h8 : ordErr o = 0
        · exact h8
        · rw [if_pos h8] at he0; exact he0
      have h8 : 0 ≤ o := by
        unfold ordErr at h9
        by_cases h7 : 0 ≤ o
        · exact h7
        · rw [if_pos (by omega)] at h9; exact absurd h9 (by decide)
      omega
    subst hoq
    clear he0 hq
    have HM : Hid (MC w1 q t b) := hm
    have HYw : Hid (∀ V, Below w1.heap.size w1 V → Lies d2 V y.items (.slice ay y.items.length cy)) := fun V hV => Lies.keeps (hb1.trans (hV.mono hb1.size)) _ _ _ HY.out
    obtain ⟨k0, k1, k2, k3, _, _, _, _⟩ := HK1.out
    generalize qs.length = L at *
    cases hr : rightV d2 y with
    | false =>
      have HR : Hid _ := rank15_wrong d2 b y _ w1 (HYw.out _ (Below.refl _ _)) HYt.out hr
      have HG : Hid (∀ V, Below w1.heap.size w1 V → Calls Tryz.prog 23 #[.pointer (some ⟨b, 0, none⟩), .agg #[.int .i64 y.kind, .int .i64 y.num, .string y.text, .slice ay y.items.length cy]] V (GetPost14 none 3 V)) := fun V hV => get_wrong d2 b y _ V (HYw.out _ hV) HYt.out hr
      clear hm hr
      go_wp2_with fail
      refine Calls.mono HR.out ?_
      rintro e w2 ⟨rfl, hg2⟩
      have k0 := cell_keeps hg2 k0; have k1 := cell_keeps hg2 k1; have k2 := cell_keeps hg2 k2; have k3 := cell_keeps hg2 k3
      have hb2 : Below w.heap.size w w2 := hb1.trans (hg2.mono hb1.size)
      go_wp2_with fail
      refine Calls.mono (HG.out _ hg2) ?_
      rintro e w3 ⟨hg3, ⟨_, rfl⟩ | ⟨x, xu, ho, _⟩⟩
      · have hb3 : Below w.heap.size w w3 := hb2.trans (hg3.mono hb2.size)
        have HB3 : Hid (∀ A, Below w.heap.size w (w3.alloc A)) := fun A => hb3.trans (((Grew.refl w3).alloc A).below.mono hb3.size)
        clear hg2 hg3 k0 k1 k2 k3
        go_wp2_with fail
        refine Calls.mono (HSp.out _) ?_
        rintro e w4 ⟨rfl, hg4⟩
        have hb4 : Below w.heap.size w w4 := (HB3.out _).trans (hg4.mono (HB3.out _).size)
        clear hg4
        go_wp2_with fail
        go_ret
        exact ⟨rfl, hb4⟩
      · cases ho
    | true =>
      obtain ⟨N, hN⟩ : ∃ N, N = RT.upTo (atK q y) false t := ⟨_, rfl⟩
      have HR : Hid (Calls Tryz.prog 22 #[.pointer (some ⟨b, 0, none⟩), .agg #[.int .i64 y.kind, .int .i64 y.num, .string y.text, .slice ay y.items.length cy]] w1 fun e w' => e = .returned (.tuple #[.int .i64 (N : Int), .int .i64 0]) ∧ Below w1.heap.size w1 w') := by rw [hN]; exact rank15_right d2 b q t y _ w1 hm (HYw.out _ (Below.refl _ _)) HYt.out hr
      have HG : Hid (∀ V, Below w1.heap.size w1 V → Calls Tryz.prog 23 #[.pointer (some ⟨b, 0, none⟩), .agg #[.int .i64 y.kind, .int .i64 y.num, .string y.text, .slice ay y.items.length cy]] V fun e w' => Below V.heap.size V w' ∧ ∃ a1 a2 a3 a4 a5 a6 a7, e = .returned (.tuple #[.agg #[.int .i64 a1, .int .i64 a2, .string a3, .slice a4 a5 a6], .bool a7, .int .i64 0])) := fun V hV => by
        refine Calls.mono (get_right d2 b q t y _ V (hm.keeps hV) (HYw.out _ hV) HYt.out hr) ?_
        rintro e w' ⟨hb, ⟨_, rfl⟩ | ⟨x, xu, _, rfl, hl⟩⟩
        · exact ⟨hb, _, _, _, _, _, _, _, rfl⟩
        · obtain ⟨a, c, rfl, _⟩ := LiesB.slice hl
          exact ⟨hb, _, _, _, _, _, _, _, rfl⟩
      have HP : Hid (∀ V, Below w1.heap.size w1 V → Calls Tryz.prog 10 #[.pointer (some ⟨b, 0, none⟩)] V fun e w' => Below V.heap.size V w' ∧ ∃ v, e = .returned v ∧ ∀ V2, Below w'.heap.size w' V2 → Calls Tryz.prog 24 #[.int .i64 (q : Int), v, .agg #[.int .i64 y.kind, .int .i64 y.num, .string y.text, .slice ay y.items.length cy]] V2 fun e w' => (∃ F, e = .returned (.tuple #[.int .i64 (N : Int), .bool F])) ∧ Below V2.heap.size V2 w') := fun V hV => by
        refine Calls.mono (mpairs_14 (hm.keeps hV)) ?_
        rintro e w' ⟨v, ps, rfl, hps, hs, _, hb⟩
        refine ⟨hb, v, rfl, fun V2 hV2 => ?_⟩
        have hbb : Below w1.heap.size w1 V2 := (hV.trans (hb.mono hV.size)).trans (hV2.mono (hV.trans (hb.mono hV.size)).size)
        have hc := canon (HYw.out _ hbb) hr
        have h9 := rrank_15 q hm.q6 ps v y _ V2 ((hs.keeps hV2).mono (Nat.zero_le _)) (fun p hp => ((hm.right (trT p) (by rw [← hps]; exact List.mem_map.2 ⟨p, hp, rfl⟩)).1.1)) (by have h8 := congrArg List.length hps; rw [List.length_map, ← RT.size_items] at h8; have := hm.size; omega) hc.1 hc.2
        rw [hps, rank_up hm, ← hN] at h9
        exact Calls.mono h9 fun e w' h => ⟨⟨_, h.1⟩, h.2⟩
      clear hm hr hN
      go_wp2_with fail
      refine Calls.mono HR.out ?_
      rintro e w2 ⟨rfl, hg2⟩
      have k0 := cell_keeps hg2 k0; have k1 := cell_keeps hg2 k1; have k2 := cell_keeps hg2 k2; have k3 := cell_keeps hg2 k3
      have hb2 : Below w.heap.size w w2 := hb1.trans (hg2.mono hb1.size)
      go_wp2_with fail
      refine Calls.mono (HG.out _ hg2) ?_
      rintro e w3 ⟨hg3, a1, a2, a3, a4, a5, a6, a7, rfl⟩
      have k0 := cell_keeps hg3 k0; have k1 := cell_keeps hg3 k1; have k2 := cell_keeps hg3 k2; have k3 := cell_keeps hg3 k3
      obtain ⟨W4, hW4⟩ : ∃ W4, W4 = w3.alloc (.cells #[.int .i64 a1, .int .i64 a2, .string a3, .slice a4 a5 a6] 25) := ⟨_, rfl⟩
      have HW4 : Hid (W4 = w3.alloc (.cells #[.int .i64 a1, .int .i64 a2, .string a3, .slice a4 a5 a6] 25)) := hW4
      have hal : Below w3.heap.size w3 W4 := by rw [hW4]; exact ((Grew.refl w3).alloc _).below
      have k0 := cell_keeps hal k0; have k1 := cell_keeps hal k1; have k2 := cell_keeps hal k2; have k3 := cell_keeps hal k3
      have hg13 : Below w1.heap.size w1 w3 := hg2.trans (hg3.mono hg2.size)
      have hg14 : Below w1.heap.size w1 W4 := hg13.trans (hal.mono hg13.size)
      clear hg2 hg3 hal hW4 hg13 hb2 HR HG
      go_upto_region 8 with fail
      rw [← HW4.out]
      clear HW4
      go_wp2_with fail
      go_region_held3 (fun w' => w'.cell? ⟨w.heap.size, 0, none⟩ = some (.int .i64 y.kind) ∧ w'.cell? ⟨w.heap.size, 1, none⟩ = some (.int .i64 y.num) ∧ w'.cell? ⟨w.heap.size, 2, none⟩ = some (.string y.text) ∧ w'.cell? ⟨w.heap.size, 3, none⟩ = some (.slice ay y.items.length cy)) (go_keep)
        (first
          | (go_at_call 24; (with_reducible refine Calls.mono (HRk.out _ ?_) ?_); (first | exact Below.refl _ _ | exact (Below.refl _ _).drew); rintro e w6 ⟨⟨F, rfl⟩, hg6⟩; have hg5 : Below W4.heap.size W4 w6 := hg5.trans (hg6.mono hg5.size); have k0 := cell_keeps hg6 k0; have k1 := cell_keeps hg6 k1; have k2 := cell_keeps hg6 k2; have k3 := cell_keeps hg6 k3; clear hg6)
          | (go_at_call 10; (with_reducible refine Calls.mono (HP.out _ (hg14.trans ((Below.refl _ _).drew.mono hg14.size))) ?_); rintro e w5 ⟨hg5', v5, rfl, hrk⟩; have hg5 : Below W4.heap.size W4 w5 := (Below.refl _ _).drew.trans hg5'; have HRk : Hid _ := hrk; have k0 := cell_keeps hg5 k0; have k1 := cell_keeps hg5 k1; have k2 := cell_keeps hg5 k2; have k3 := cell_keeps hg5 k3; clear hg5' hrk))
      have hb6 : Below w.heap.size w w6 := (hb1.trans (hg14.mono hb1.size)).trans (hg5.mono (hb1.trans (hg14.mono hb1.size)).size)
      clear hg5 hg14 k0 k1 k2 k3 HP HRk
      go_wp2_with fail
      refine Calls.mono (HSp.out _) ?_
      rintro e w7 ⟨rfl, hg7⟩
      have hb7 : Below w.heap.size w w7 := hb6.trans (hg7.mono hb6.size)
      clear hg7
      go_wp2_with fail
      go_ret
      exact ⟨rfl, hb7⟩

end Go.Proofs.YtpmodiodpilmeaaGreat

