/-
  ConcatJoins.
-/
import Derived.Test.YtpnfmcmhcjekfaaMade12
namespace Go.Proofs.Ytpnfmcmhcjekfaa
open Go.RowKit

/-- Two calls that tell the same, beside each other. -/
theorem pair_any {f g : Nat} {xs ys : Array Value} {R : List VT ⊕ Nat} {w : World} (hf : Calls Try.prog f xs w (VvPost R w)) (hg : ∀ W, Below w.heap.size w W → Calls Try.prog g ys W (LstPost R W)) (h0 : ∀ k, R = .inr k → k ≠ 0) :
    Calls Try.prog f xs w fun e w1 => Below w.heap.size w w1 ∧ ∃ (k : Nat) (p1 : Value), e = .returned (.tuple #[p1, .int .i64 (k : Int)]) ∧
      ∀ W, Below w1.heap.size w1 W → Calls Try.prog g ys W fun e w2 => Below W.heap.size W w2 ∧ ∃ (a1 : Option Addr) (n1 c1 : Nat), e = .returned (.tuple #[.slice a1 n1 c1, .int .i64 (k : Int)]) ∧ Pair12 w2 p1 k (.slice a1 n1 c1) := by
  refine Calls.mono hf ?_
  rintro e w1 ⟨hb1, hp⟩
  refine ⟨hb1, ?_⟩
  have hr := fun W (hW : Below w1.heap.size w1 W) => hg W (hb1.trans (hW.mono hb1.size))
  cases R with
  | inl m =>
    obtain ⟨b, rfl, v1⟩ := hp
    refine ⟨0, _, rfl, fun W hW => Calls.mono (hr W hW) ?_⟩
    rintro e w2 ⟨hb2, a1, c1, rfl, l1⟩
    exact ⟨hb2, a1, _, c1, rfl, .inl ⟨rfl, _, b, a1, c1, rfl, rfl, (v1.keeps hW).keeps hb2, l1⟩⟩
  | inr k =>
    have hk := h0 k rfl
    have hp' : e = _ := hp
    subst hp'
    refine ⟨k, _, rfl, fun W hW => Calls.mono (hr W hW) ?_⟩
    rintro e w2 ⟨hb2, hq⟩
    have hq' : e = _ := hq
    subst hq'
    exact ⟨hb2, none, 0, 0, rfl, .inr ⟨hk, rfl, rfl⟩⟩

theorem catR_err (l m : List VT) : ∀ k, catR l m = .inr k → k ≠ 0 := fun k h => by
  unfold catR at h
  split at h
  · cases h
  · injection h with h; omega

theorem spliceR_err (l m : List VT) (i j : Int) : ∀ k, spliceR l i j m = .inr k → k ≠ 0 := fun k h => by
  unfold spliceR at h
  split at h
  · split at h
    · cases h
    · injection h with h; omega
  · injection h with h; omega

set_option maxRecDepth 100000 in
theorem equal12_any (l m : List VT) (p q : Value) (w : World) (h1 : VV w l p) (h2 : VV w m q) : Calls Try.prog 40 #[p, q] w fun e w' => e = .returned (.bool (eqL (sameV 16) l m)) ∧ Below w.heap.size w w' := by
  obtain ⟨po, rfl⟩ := h1.vc.shape
  obtain ⟨qo, rfl⟩ := h2.vc.shape
  obtain ⟨R, hR⟩ : ∃ R, R = eqL (sameV 16) l m := ⟨_, rfl⟩
  have HS : Hid _ := rsame_any l m _ _ w h1 h2
  rw [← hR] at HS ⊢
  clear h1 h2 hR
  go_enter Try.func40, Try.ntmps40
  go_wp2_with fail
  refine Calls.mono HS.out ?_
  rintro e w1 ⟨rfl, hb⟩
  clear HS
  go_wp2_with fail
  go_ret
  exact ⟨rfl, hb⟩

set_option maxRecDepth 100000 in
set_option maxHeartbeats 16000000 in
theorem joins_walk (n : Nat) (l m : List VT) (ul um : Value) (i j : Int) (w : World) (hl : Lies (n + 1) w l ul) (hm : Lies (n + 1) w m um) : Calls Try.prog 8 #[.agg #[ul, um], .int .i64 i, .int .i64 j] w fun e w' => e = .returned (.bool true) ∧ Below w.heap.size w w' := by
  obtain ⟨al, cl, rfl, _⟩ := Lies.slice hl
  obtain ⟨am, cm, rfl, _⟩ := Lies.slice hm
  obtain ⟨wA, hwA⟩ : ∃ wA, wA = w.alloc (.cells #[.slice al l.length cl, .slice am m.length cm] 65) := ⟨_, rfl⟩
  have hbA : Below w.heap.size w wA := by rw [hwA]; exact ((Grew.refl w).alloc _).below
  have hc0 : wA.cell? ⟨w.heap.size, 0, none⟩ = some (.slice al l.length cl) := by rw [hwA]; simp
  have hc1 : wA.cell? ⟨w.heap.size, 1, none⟩ = some (.slice am m.length cm) := by rw [hwA]; simp
  have HMa : Hid _ := made2_any n l m al am cl cm wA (Lies.keeps hbA _ _ _ hl) (Lies.keeps hbA _ _ _ hm)
  have HSp : Hid (∀ V, Calls Try.prog 34 #[] V fun e w' => e = .returned (.bool true) ∧ Below V.heap.size V w') := speaks12_any
  have HIs : Hid (∀ (p : Value) (k : Nat) (u : Value) (W : World), Pair12 W p k u → Calls Try.prog 39 #[p, .int .i64 (k : Int), u, .int .i64 (k : Int)] W fun e w' => e = .returned (.bool true) ∧ Below W.heap.size W w') := is_pair
  have HwA : Hid (wA = w.alloc (.cells #[.slice al l.length cl, .slice am m.length cm] 65)) := hwA
  rw [hwA] at HMa
  clear hl hm hwA
  go_enter Try.func8, Try.ntmps8
  go_wp2_with fail
  refine Calls.mono HMa.out ?_
  rintro e w1 ⟨hg1, hp1⟩
  rw [← HwA.out] at hg1
  have hb1 : Below w.heap.size w w1 := hbA.trans (hg1.mono hbA.size)
  have Hd0 : Hid (w1.cell? ⟨w.heap.size, 0, none⟩ = some (.slice al l.length cl)) := cell_keeps hg1 hc0
  have Hd1 : Hid (w1.cell? ⟨w.heap.size, 1, none⟩ = some (.slice am m.length cm)) := cell_keeps hg1 hc1
  clear HMa HwA hc0 hc1 hg1 hbA
  rcases hp1 with ⟨b1, b2, rfl, hv1, hv2, hl17, hm17⟩ | ⟨p, q, rfl⟩
  · have hll := hv1.len
    have hml := hv2.len
    have HCa : Hid _ := pair_any (concat_any l m _ _ w1 hv1 hv2) (fun W hW => rconcat_any l m al am cl cm W (Lies.keeps hW _ _ _ hl17) hll (Lies.keeps hW _ _ _ hm17) hml) (catR_err l m)
    have HSl : Hid (∀ W, Below w1.heap.size w1 W → Calls Try.prog 37 #[.pointer (some ⟨b1, 0, none⟩), .int .i64 i, .int .i64 j, .pointer (some ⟨b2, 0, none⟩)] W fun e w2 => Below W.heap.size W w2 ∧ ∃ (k : Nat) (p1 : Value), e = .returned (.tuple #[p1, .int .i64 (k : Int)]) ∧
      ∀ V, Below w2.heap.size w2 V → Calls Try.prog 38 #[.slice al l.length cl, .int .i64 i, .int .i64 j, .slice am m.length cm] V fun e w2 => Below V.heap.size V w2 ∧ ∃ (a1 : Option Addr) (n1 c1 : Nat), e = .returned (.tuple #[.slice a1 n1 c1, .int .i64 (k : Int)]) ∧ Pair12 w2 p1 k (.slice a1 n1 c1)) := fun W hW => pair_any (splice_any l m _ _ i j W (hv1.keeps hW) (hv2.keeps hW)) (fun V hV => rsplice_any l m al am cl cm i j V (Lies.keeps (hW.trans (hV.mono hW.size)) _ _ _ hl17) hll (Lies.keeps (hW.trans (hV.mono hW.size)) _ _ _ hm17) hml) (spliceR_err l m i j)
    have HPl : Hid (Pair12 w1 (.pointer (some ⟨b1, 0, none⟩)) 0 (.slice al l.length cl)) := .inl ⟨rfl, l, b1, al, cl, rfl, rfl, hv1, hl17⟩
    have HPm : Hid (Pair12 w1 (.pointer (some ⟨b2, 0, none⟩)) 0 (.slice am m.length cm)) := .inl ⟨rfl, m, b2, am, cm, rfl, rfl, hv2, hm17⟩
    obtain ⟨R, hR⟩ : ∃ R, R = eqL (sameV 16) l m := ⟨_, rfl⟩
    have HEq : Hid (∀ W, Below w1.heap.size w1 W → Calls Try.prog 40 #[.pointer (some ⟨b1, 0, none⟩), .pointer (some ⟨b2, 0, none⟩)] W fun e w' => e = .returned (.bool R) ∧ Below W.heap.size W w') := fun W hW => by
      rw [hR]
      exact equal12_any l m _ _ W (hv1.keeps hW) (hv2.keeps hW)
    have HVs : Hid (∀ W, Below w1.heap.size w1 W → Calls Try.prog 17 #[.slice al l.length cl, .slice am m.length cm] W fun e w' => e = .returned (.bool R) ∧ Below W.heap.size W w') := fun W hW => by
      rw [hR]
      exact values_two 16 l m _ _ W (Lies.keeps hW _ _ _ hl17) (Lies.keeps hW _ _ _ hm17) hll
    clear hv1 hv2 hl17 hm17 hR
    go_wp2_with fail
    refine Calls.mono HCa.out ?_
    rintro e w2 ⟨hb2, k1, p1, rfl, hrc⟩
    have HRc : Hid _ := hrc w2 (Below.refl _ _)
    have d0 := cell_keeps hb2 Hd0.out
    have d1 := cell_keeps hb2 Hd1.out
    clear HCa hrc
    go_wp2_with fail
    refine Calls.mono HRc.out ?_
    rintro e w3 ⟨hb3, a1, n1, c1, rfl, hq1⟩
    have HQ1 : Hid (Pair12 w3 p1 k1 (.slice a1 n1 c1)) := hq1
    have hb13 : Below w1.heap.size w1 w3 := hb2.trans (hb3.mono hb2.size)
    have HS3 : Hid _ := HSl.out w3 hb13
    clear HRc hq1 d0 d1 HSl hb2 hb3
    go_wp2_with fail
    refine Calls.mono HS3.out ?_
    rintro e w4 ⟨hb4, k2, p2, rfl, hrs⟩
    have HRs : Hid _ := hrs w4 (Below.refl _ _)
    have hb14 : Below w1.heap.size w1 w4 := hb13.trans (hb4.mono hb13.size)
    have HQ1 : Hid (Pair12 w4 p1 k1 (.slice a1 n1 c1)) := HQ1.out.keeps hb4
    have d0 := cell_keeps hb14 Hd0.out
    have d1 := cell_keeps hb14 Hd1.out
    clear HS3 hrs hb13 hb4
    go_wp2_with fail
    refine Calls.mono HRs.out ?_
    rintro e w5 ⟨hb5, a2, n2, c2, rfl, hq2⟩
    have hb15 : Below w1.heap.size w1 w5 := hb14.trans (hb5.mono hb14.size)
    have HQ1 : Hid (Pair12 w5 p1 k1 (.slice a1 n1 c1)) := HQ1.out.keeps hb5
    have HQ2 : Hid (Pair12 w5 p2 k2 (.slice a2 n2 c2)) := hq2
    have HPl : Hid (Pair12 w5 (.pointer (some ⟨b1, 0, none⟩)) 0 (.slice al l.length cl)) := HPl.out.keeps hb15
    have HPm : Hid (Pair12 w5 (.pointer (some ⟨b2, 0, none⟩)) 0 (.slice am m.length cm)) := HPm.out.keeps hb15
    have D0 : Hid (w5.cell? ⟨w.heap.size, 0, none⟩ = some (.slice al l.length cl)) := cell_keeps hb15 Hd0.out
    have D1 : Hid (w5.cell? ⟨w.heap.size, 1, none⟩ = some (.slice am m.length cm)) := cell_keeps hb15 Hd1.out
    have x0 := D0.out
    have x1 := D1.out
    have HB5 : Hid (Below w.heap.size w w5) := hb1.trans (hb15.mono hb1.size)
    have HB15 : Hid (Below w1.heap.size w1 w5) := hb15
    have hbc : Below w5.heap.size w5 w5.drew := (Below.refl _ _).drew
    clear HRs hq2 d0 d1 hb14 hb5 hb15 hb1 Hd0 Hd1 hll hml
    go_wp2_with fail
    cases R
    all_goals
      go_region_held3 (fun w' => w'.cell? ⟨w.heap.size, 0, none⟩ = some (.slice al l.length cl) ∧ w'.cell? ⟨w.heap.size, 1, none⟩ = some (.slice am m.length cm)) (go_keep)
        (first
          | (go_at_call 40; refine Calls.mono (HEq.out _ (HB15.out.trans (hbc.mono HB15.out.size))) ?_; rintro e W ⟨rfl, hbn⟩; replace hbc := hbc.trans (hbn.mono hbc.size); clear hbn; have x0 := cell_keeps hbc D0.out; have x1 := cell_keeps hbc D1.out)
          | (go_at_call 17; refine Calls.mono (HVs.out _ (HB15.out.trans (hbc.mono HB15.out.size))) ?_; rintro e W ⟨rfl, hbn⟩; replace hbc := hbc.trans (hbn.mono hbc.size); clear hbn; have x0 := cell_keeps hbc D0.out; have x1 := cell_keeps hbc D1.out)
          | (go_at_call 34; refine Calls.mono (HSp.out _) ?_; rintro e W ⟨rfl, hbn⟩; replace hbc := hbc.trans (hbn.mono hbc.size); clear hbn; have x0 := cell_keeps hbc D0.out; have x1 := cell_keeps hbc D1.out)
          | (go_at_call 39; refine Calls.mono (HIs.out _ _ _ _ (HQ1.out.keeps hbc)) ?_; rintro e W ⟨rfl, hbn⟩; replace hbc := hbc.trans (hbn.mono hbc.size); clear hbn; have x0 := cell_keeps hbc D0.out; have x1 := cell_keeps hbc D1.out)
          | (go_at_call 39; refine Calls.mono (HIs.out _ _ _ _ (HQ2.out.keeps hbc)) ?_; rintro e W ⟨rfl, hbn⟩; replace hbc := hbc.trans (hbn.mono hbc.size); clear hbn; have x0 := cell_keeps hbc D0.out; have x1 := cell_keeps hbc D1.out)
          | (go_at_call 39; refine Calls.mono (HIs.out _ 0 _ _ (HPl.out.keeps hbc)) ?_; rintro e W ⟨rfl, hbn⟩; replace hbc := hbc.trans (hbn.mono hbc.size); clear hbn; have x0 := cell_keeps hbc D0.out; have x1 := cell_keeps hbc D1.out)
          | (go_at_call 39; refine Calls.mono (HIs.out _ 0 _ _ (HPm.out.keeps hbc)) ?_; rintro e W ⟨rfl, hbn⟩; replace hbc := hbc.trans (hbn.mono hbc.size); clear hbn; have x0 := cell_keeps hbc D0.out; have x1 := cell_keeps hbc D1.out))
    all_goals
      have HBz : Hid (Below w.heap.size w _) := HB5.out.trans (hbc.mono HB5.out.size)
      clear hbc x0 x1
      go_wp2_with fail
      go_ret
      exact ⟨rfl, HBz.out⟩
  · go_wp2_with fail
    refine Calls.mono (HSp.out _) ?_
    rintro e wz ⟨rfl, hbz⟩
    have HBz : Hid (Below w.heap.size w wz) := hb1.trans (hbz.mono hb1.size)
    clear hbz hb1
    go_wp2_with fail
    go_ret
    exact ⟨rfl, HBz.out⟩

end Go.Proofs.Ytpnfmcmhcjekfaa

