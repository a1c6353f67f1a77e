/-
  Two vectors made of two lists; three joined.
-/
import Derived.Test.YtpnfmcmhcjekfaaRef11
import Derived.Test.YtpnfmcmhcjekfaaVals2
import Derived.Test.YtpnfmcmhcjekfaaSame
import Derived.Test.YtpnfmcmhcjekfaaNumsR
import Derived.Deep.AppendLies
import Derived.Deep.RegionLaw
namespace Go.Proofs.Ytpnfmcmhcjekfaa
open Go.RowKit

/-- What Concat tells. -/
def catR (l m : List VT) : List VT ⊕ Nat := if (l ++ m).length ≤ 65536 then .inl (l ++ m) else .inr 2

/-- Join of vectors whose items are right. -/
theorem join_vv (vs : List (List VT × Value)) (B : Nat) (w : World) (hc : ∀ (i : Nat) (hi : i < vs.length), w.cell? ⟨B, i, none⟩ = some (vs[i]'hi).2) (h1 : 1 ≤ vs.length) (h2 : vs.length ≤ 65536) (hv : ∀ p ∈ vs, VV w p.1 p.2) : Calls Try.prog 53 #[.slice (some ⟨B, 0, none⟩) vs.length vs.length] w (VvPost (joinR vs) w) := by
  refine Calls.mono (join_any 16 vs _ w ⟨some ⟨B, 0, none⟩, vs.length, by rw [List.length_map], by rw [List.length_map]; exact Nat.le_refl _, fun _ => ⟨B, 0, rfl, fun i hi => by rw [List.getElem_map, Nat.zero_add]; exact hc i (by rw [List.length_map] at hi; exact hi)⟩⟩ h1 h2 (fun i hi => ⟨(hv _ (List.getElem_mem hi)).vc, (hv _ (List.getElem_mem hi)).len⟩)) ?_
  intro e w' hp
  refine VecPost.vv hp (fun m hm => ?_)
  unfold joinR at hm
  by_cases hl : (vs.flatMap (·.1)).length ≤ 65536
  · rw [if_pos hl] at hm
    injection hm with hm
    subst hm
    refine ⟨hl, List.all_eq_true.2 fun x hx => ?_⟩
    obtain ⟨p, hp1, hp2⟩ := List.mem_flatMap.1 hx
    exact List.all_eq_true.1 (hv p hp1).right x hp2
  · rw [if_neg hl] at hm; cases hm

set_option maxRecDepth 100000 in
set_option maxHeartbeats 4000000 in
theorem concat_any (l m : List VT) (p q : Value) (w : World) (h : VV w l p) (h2 : VV w m q) : Calls Try.prog 35 #[p, q] w (VvPost (catR l m) w) := by
  obtain ⟨po, rfl⟩ := h.vc.shape
  obtain ⟨qo, rfl⟩ := h2.vc.shape
  have hba : Below w.heap.size w (w.alloc (.cells #[.pointer po, .pointer qo] 23)) := ((Grew.refl w).alloc _).below
  obtain ⟨R, hR⟩ : ∃ R, R = catR l m := ⟨_, rfl⟩
  have HJ : Hid (Calls Try.prog 53 #[.slice (some ⟨w.heap.size, 0, none⟩) 2 2] (w.alloc (.cells #[.pointer po, .pointer qo] 23)) (VvPost R w)) := by
    have h9 := join_vv [(l, .pointer po), (m, .pointer qo)] w.heap.size (w.alloc (.cells #[.pointer po, .pointer qo] 23)) (fun i hi => by
      match i, hi with
      | 0, _ => simp
      | 1, _ => simp) (by simp) (by simp) (fun p hp => by
      simp only [List.mem_cons, List.not_mem_nil, or_false] at hp
      rcases hp with rfl | rfl
      · exact h.keeps hba
      · exact h2.keeps hba)
    have e : joinR [(l, .pointer po), (m, .pointer qo)] = R := by
      rw [hR]; unfold joinR catR; simp
    rw [e] at h9
    refine Calls.mono h9 (fun e w' hp => ⟨hba.trans (hp.1.mono hba.size), hp.2⟩)
  rw [← hR]
  clear h h2 hR hba
  go_enter Try.func35, Try.ntmps35
  go_wp2_with fail
  refine Calls.mono HJ.out ?_
  intro e w2 hp2
  have HE : Hid (VvPost R w e w2) := hp2
  obtain ⟨_, hp2⟩ := hp2
  clear HJ
  cases R with
  | inl m =>
    obtain ⟨b2, rfl, _⟩ := hp2
    go_wp2_with fail
    go_ret2
    exact HE.out
  | inr k =>
    subst hp2
    go_wp2_with fail
    go_ret2
    exact HE.out

/-- What Splice tells. -/
def spliceR (l : List VT) (i j : Int) (m : List VT) : List VT ⊕ Nat := if endB l i ∧ endB l j ∧ i ≤ j then (if (l.take i.toNat ++ (m ++ l.drop j.toNat)).length ≤ 65536 then .inl (l.take i.toNat ++ (m ++ l.drop j.toNat)) else .inr 2) else .inr 5

set_option maxRecDepth 100000 in
set_option maxHeartbeats 8000000 in
theorem splice_any (l m : List VT) (p q : Value) (i j : Int) (w : World) (h : VV w l p) (h2 : VV w m q) : Calls Try.prog 37 #[p, .int .i64 i, .int .i64 j, q] w (VvPost (spliceR l i j m) w) := by
  obtain ⟨po, rfl⟩ := h.vc.shape
  obtain ⟨qo, rfl⟩ := h2.vc.shape
  obtain ⟨R, hR⟩ : ∃ R, R = spliceR l i j m := ⟨_, rfl⟩
  have HC : Hid _ := cut_any l _ j w h
  rw [← hR]
  have HQ : Hid (VV w m (.pointer qo)) := h2
  have HJ : Hid (∀ V b1 b2, endB l j → i ≤ j → 0 ≤ i → VV V (l.take i.toNat) (.pointer (some ⟨b1, 0, none⟩)) → VV V m (.pointer qo) → VV V (l.drop j.toNat) (.pointer (some ⟨b2, 0, none⟩)) → Calls Try.prog 53 #[.slice (some ⟨V.heap.size, 0, none⟩) 3 3] (V.alloc (.cells #[.pointer (some ⟨b1, 0, none⟩), .pointer qo, .pointer (some ⟨b2, 0, none⟩)] 23)) (VvPost R V)) := fun V b1 b2 hj hij h0 k1 k2 k3 => by
    have hba : Below V.heap.size V (V.alloc (.cells #[.pointer (some ⟨b1, 0, none⟩), .pointer qo, .pointer (some ⟨b2, 0, none⟩)] 23)) := ((Grew.refl V).alloc _).below
    have h9 := join_vv [(l.take i.toNat, .pointer (some ⟨b1, 0, none⟩)), (m, .pointer qo), (l.drop j.toNat, .pointer (some ⟨b2, 0, none⟩))] V.heap.size (V.alloc (.cells #[.pointer (some ⟨b1, 0, none⟩), .pointer qo, .pointer (some ⟨b2, 0, none⟩)] 23)) (fun i hi => by
      match i, hi with
      | 0, _ => simp
      | 1, _ => simp
      | 2, _ => simp) (by simp) (by simp) (fun p hp => by
      simp only [List.mem_cons, List.not_mem_nil, or_false] at hp
      rcases hp with rfl | rfl | rfl
      · exact k1.keeps hba
      · exact k2.keeps hba
      · exact k3.keeps hba)
    have e : joinR [(l.take i.toNat, .pointer (some ⟨b1, 0, none⟩)), (m, .pointer qo), (l.drop j.toNat, .pointer (some ⟨b2, 0, none⟩))] = R := by
      have hc : endB l i ∧ endB l j ∧ i ≤ j := ⟨⟨h0, by omega⟩, hj, hij⟩
      rw [hR]
      unfold joinR spliceR
      rw [if_pos hc]
      simp only [List.flatMap_cons, List.flatMap_nil, List.append_nil]
    rw [e] at h9
    refine Calls.mono h9 (fun e w' hp => ⟨hba.trans (hp.1.mono hba.size), hp.2⟩)
  clear h h2
  have HN : Hid (¬ (endB l i ∧ endB l j ∧ i ≤ j) → R = .inr 5) := fun hn => by
    rw [hR]; unfold spliceR; rw [if_neg hn]
  clear hR
  go_enter Try.func37, Try.ntmps37
  go_wp2_with fail
  refine Calls.mono HC.out ?_
  rintro e w1 ⟨hb1, hp1⟩
  rcases hp1 with ⟨hj, b1, b2, rfl, hv1, hv2⟩ | ⟨hj, rfl⟩
  · have HF : Hid _ := vfirst_vv (l.take j.toNat) _ i w1 hv1
    have HV2 : Hid (VV w1 (l.drop j.toNat) (.pointer (some ⟨b2, 0, none⟩))) := hv2
    have hlt : (l.take j.toNat).length = j.toNat := by rw [List.length_take]; have := hj.2; omega
    by_cases hi : endB (l.take j.toNat) i
    · have hij : i ≤ j := by have := hi.2; rw [hlt] at this; omega
      have h0 : 0 ≤ i := hi.1
      unfold firstR at HF
      rw [if_pos hi, List.take_take, show min i.toNat j.toNat = i.toNat by omega] at HF
      clear HC hv1 hv2 hi hlt
      go_wp2_with fail
      refine Calls.mono HF.out ?_
      rintro e w3 ⟨hb3, b3, rfl, hv3⟩
      have HJ3 : Hid _ := HJ.out w3 b3 b2 hj hij h0 hv3 ((HQ.out.keeps hb1).keeps hb3) (HV2.out.keeps hb3)
      have hbw : Below w.heap.size w w3 := hb1.trans (hb3.mono hb1.size)
      clear HF HJ hv3 HV2 HQ hb3
      go_wp2_with fail
      refine Calls.mono HJ3.out ?_
      intro e w4 hp4
      have HE : Hid (VvPost R w e w4) := ⟨hbw.trans (hp4.1.mono hbw.size), hp4.2⟩
      obtain ⟨_, hp4⟩ := hp4
      clear HJ3
      cases R with
      | inl m =>
        obtain ⟨b4, rfl, _⟩ := hp4
        go_wp2_with fail
        go_ret2
        exact HE.out
      | inr k =>
        subst hp4
        go_wp2_with fail
        go_ret2
        exact HE.out
    · have hR5 : R = .inr 5 := HN.out (fun h => hi ⟨h.1.1, by rw [hlt]; have := h.2.2; have := h.1.1; omega⟩)
      have HR5 : Hid (R = .inr 5) := hR5
      unfold firstR at HF
      rw [if_neg hi] at HF
      clear HC hv1 hv2 hi hlt HJ hj hR5
      go_wp2_with fail
      refine Calls.mono HF.out ?_
      rintro e w3 ⟨hb3, rfl⟩
      have HE : Hid (VvPost R w (.returned (.tuple #[.pointer none, .int .i64 5])) w3) := by
        show VvPost _ _ _ _
        rw [HR5.out]
        exact ⟨hb1.trans (hb3.mono hb1.size), rfl⟩
      clear HF
      go_wp2_with fail
      go_ret2
      exact HE.out
  · have HR5 : Hid (R = .inr 5) := HN.out (fun h => hj h.2.1)
    have HE : Hid (VvPost R w (.returned (.tuple #[.pointer none, .int .i64 5])) w1) := by
      show VvPost _ _ _ _
      rw [HR5.out]
      exact ⟨hb1, rfl⟩
    clear HC HJ hj HR5 HN
    go_wp2_with fail
    go_ret2
    exact HE.out

set_option maxRecDepth 100000 in
set_option maxHeartbeats 8000000 in
theorem speaks12_any (w : World) : Calls Try.prog 34 #[] w fun e w' => e = .returned (.bool true) ∧ Below w.heap.size w w' := by
  have HI : Hid (∀ (V : World) (b : Nat) (zs : List Int), zs ≠ [] → zs.length ≤ 1000 → (∀ (i : Nat) (h : i < zs.length), V.cell? ⟨b, 0 + i, none⟩ = some (.int .i64 (zs[i]'h))) → Calls Try.prog 46 #[.slice (some ⟨b, 0, none⟩) zs.length zs.length] V fun e w' => ∃ g c, e = .returned (.slice (some ⟨g, 0, none⟩) zs.length c) ∧ Lies 17 w' (zs.map numT) (.slice (some ⟨g, 0, none⟩) zs.length c) ∧ Below V.heap.size V w') := fun V b zs h0 h1 h2 => nums_any zs b _ V h0 h1 h2
  have HO : Hid (∀ V v (zs : List Int), zs.length ≤ 1000 → Lies 17 V (zs.map numT) v → Calls Try.prog 9 #[v] V fun e w' => ∃ b, e = .returned (.tuple #[.pointer (some ⟨b, 0, none⟩), .int .i64 0]) ∧ VV w' (zs.map numT) (.pointer (some ⟨b, 0, none⟩)) ∧ Below V.heap.size V w') := fun V v zs hz hv => by
    have h9 := of_any _ v V hv
    rw [nums_of zs hz] at h9
    refine Calls.mono h9 ?_
    rintro e w1 ⟨hb, b, rfl, hvc⟩
    exact ⟨b, rfl, ⟨hvc, by rw [List.length_map]; omega, nums_right zs⟩, hb⟩
  have HI1 : Hid (Calls Try.prog 46 #[.slice (some ⟨w.heap.size, 0, none⟩) 2 2] (w.alloc (.cells #[.int .i64 1, .int .i64 2] 2)) fun e w' => ∃ g c, e = .returned (.slice (some ⟨g, 0, none⟩) 2 c) ∧ Lies 17 w' ([1, 2].map numT) (.slice (some ⟨g, 0, none⟩) 2 c) ∧ Below w.heap.size w w') := by
    have hbA : Below w.heap.size w (w.alloc (.cells #[.int .i64 1, .int .i64 2] 2)) := ((Grew.refl w).alloc _).below
    refine Calls.mono (HI.out _ w.heap.size [1, 2] (by simp) (by simp) (fun i hi => by
      match i, hi with
      | 0, _ => simp
      | 1, _ => simp)) ?_
    rintro e w1 ⟨g, c, rfl, hl, hb⟩
    exact ⟨g, c, rfl, hl, hbA.trans (hb.mono hbA.size)⟩
  have HI2 : Hid (∀ V : World, Calls Try.prog 46 #[.slice (some ⟨V.heap.size, 0, none⟩) 1 1] (V.alloc (.cells #[.int .i64 3] 2)) fun e w' => ∃ g c, e = .returned (.slice (some ⟨g, 0, none⟩) 1 c) ∧ Lies 17 w' ([3].map numT) (.slice (some ⟨g, 0, none⟩) 1 c) ∧ Below V.heap.size V w') := fun V => by
    have hbA : Below V.heap.size V (V.alloc (.cells #[.int .i64 3] 2)) := ((Grew.refl V).alloc _).below
    refine Calls.mono (HI.out _ V.heap.size [3] (by simp) (by simp) (fun i hi => by
      match i, hi with
      | 0, _ => simp)) ?_
    rintro e w1 ⟨g, c, rfl, hl, hb⟩
    exact ⟨g, c, rfl, hl, hbA.trans (hb.mono hbA.size)⟩
  have HI3 : Hid (∀ V : World, Calls Try.prog 46 #[.slice (some ⟨V.heap.size, 0, none⟩) 3 3] (V.alloc (.cells #[.int .i64 1, .int .i64 2, .int .i64 3] 2)) fun e w' => ∃ g c, e = .returned (.slice (some ⟨g, 0, none⟩) 3 c) ∧ Lies 17 w' ([1, 2, 3].map numT) (.slice (some ⟨g, 0, none⟩) 3 c) ∧ Below V.heap.size V w') := fun V => by
    have hbA : Below V.heap.size V (V.alloc (.cells #[.int .i64 1, .int .i64 2, .int .i64 3] 2)) := ((Grew.refl V).alloc _).below
    refine Calls.mono (HI.out _ V.heap.size [1, 2, 3] (by simp) (by simp) (fun i hi => by
      match i, hi with
      | 0, _ => simp
      | 1, _ => simp
      | 2, _ => simp)) ?_
    rintro e w1 ⟨g, c, rfl, hl, hb⟩
    exact ⟨g, c, rfl, hl, hbA.trans (hb.mono hbA.size)⟩
  clear HI
  go_enter Try.func34, Try.ntmps34
  go_wp2_with fail
  refine Calls.mono HI1.out ?_
  rintro e w1 ⟨g1, c1, rfl, hl1, hb1⟩
  have HO1 : Hid _ := HO.out w1 _ [1, 2] (by simp) hl1
  clear HI1 hl1
  go_wp2_with fail
  refine Calls.mono HO1.out ?_
  rintro e w2 ⟨b2, rfl, hv2, hg2⟩
  have hb2 : Below w.heap.size w w2 := hb1.trans (hg2.mono hb1.size)
  have HV2 : Hid (VV w2 ([1, 2].map numT) (.pointer (some ⟨b2, 0, none⟩))) := hv2
  have HI2w : Hid _ := HI2.out w2
  clear HO1 hv2 hg2 HI2
  go_wp2_with fail
  refine Calls.mono HI2w.out ?_
  rintro e w3 ⟨g3, c3, rfl, hl3, hg3⟩
  have hb3 : Below w.heap.size w w3 := hb2.trans (hg3.mono hb2.size)
  have HV3 : Hid (VV w3 ([1, 2].map numT) (.pointer (some ⟨b2, 0, none⟩))) := HV2.out.keeps hg3
  have HO3 : Hid _ := HO.out w3 _ [3] (by simp) hl3
  clear HI2w hl3 hg3 HV2 HO
  go_wp2_with fail
  refine Calls.mono HO3.out ?_
  rintro e w4 ⟨b4, rfl, hv4, hg4⟩
  have hb4 : Below w.heap.size w w4 := hb3.trans (hg4.mono hb3.size)
  have HC : Hid (Calls Try.prog 35 #[.pointer (some ⟨b2, 0, none⟩), .pointer (some ⟨b4, 0, none⟩)] w4 (VvPost (.inl ([1, 2, 3].map numT)) w4)) := concat_any _ _ _ _ w4 (HV3.out.keeps hg4) hv4
  clear HO3 hv4 hg4 HV3
  go_wp2_with fail
  refine Calls.mono HC.out ?_
  rintro e w5 ⟨hg5, b5, rfl, hv5⟩
  have hb5 : Below w.heap.size w w5 := hb4.trans (hg5.mono hb4.size)
  have HIt : Hid _ := items_any _ _ w5 hv5.vc hv5.len hv5.right
  clear HC hv5 hg5
  go_wp2_with fail
  refine Calls.mono HIt.out ?_
  rintro e w6 ⟨v6, rfl, hv6, hg6⟩
  have hb6 : Below w.heap.size w w6 := hb5.trans (hg6.mono hb5.size)
  have HL6 : Hid (Lies 17 w6 ([1, 2, 3].map numT) v6) := LiesB.lies _ _ _ hv6
  obtain ⟨a6, c6, rfl, _⟩ := Lies.slice HL6.out
  have HI3w : Hid _ := HI3.out w6
  clear HIt hv6 hg6 HI3
  go_wp2_with fail
  refine Calls.mono HI3w.out ?_
  rintro e w7 ⟨g7, c7, rfl, hl7, hg7⟩
  have hb7 : Below w.heap.size w w7 := hb6.trans (hg7.mono hb6.size)
  have HVs : Hid _ := values_one 16 ([1, 2, 3].map numT) _ _ w7 (Lies.keeps hg7 _ _ _ HL6.out) hl7 (by simp)
  clear HI3w hl7 hg7 HL6
  go_wp2_with fail
  refine Calls.mono HVs.out ?_
  rintro e w8 ⟨rfl, hg8⟩
  go_wp2_with fail
  go_ret
  exact ⟨rfl, hb7.trans (hg8.mono hb7.size)⟩

end Go.Proofs.Ytpnfmcmhcjekfaa

namespace Go.Proofs.Ytpnfmcmhcjekfaa
open Go.RowKit

set_option maxRecDepth 100000 in
set_option maxHeartbeats 4000000 in
theorem eqf_any (d : Nat) (l m : List VT) (u v : Value) (w : World) (hu : Lies (d + 1) w l u) (hv : Lies (d + 1) w m v) (hlen : l.length ≤ 65536) :
    Calls Try.prog 85 #[u, v, .func (.func 86) #[] #[]] w fun e w' => e = .returned (.bool (eqL (fun x y => cmpV d x y == 0) l m)) ∧ Below w.heap.size w w' := by
  obtain ⟨a1, c1, rfl, _, hr1⟩ := hu
  obtain ⟨a2, c2, rfl, _, hr2⟩ := hv
  obtain ⟨R, hR⟩ : ∃ R, R = eqL (fun x y => cmpV d x y == 0) l m := ⟨_, rfl⟩
  rw [← hR]
  by_cases hlm : l.length = m.length
  · have HT : Hid ((∀ (j : Nat) (h1 : j < l.length) (h2 : j < m.length), (cmpV d l[j] m[j] == 0) = true) → R = true) := fun h => by
      rw [hR]
      unfold eqL
      rw [decide_eq_true hlm, all2_of l m h]
      rfl
    have HF : Hid (∀ (j : Nat) (h1 : j < l.length) (h2 : j < m.length), (cmpV d l[j] m[j] == 0) = false → R = false) := fun j h1 h2 h => by
      rw [hR]
      unfold eqL
      cases e : all2 (fun x y => cmpV d x y == 0) l m with
      | false => simp
      | true => have h9 : (cmpV d l[j] m[j] == 0) = true := all2_get l m e j h1 h2; rw [h9] at h; cases h
    have Hr1 : Hid _ := hr1; have Hr2 : Hid _ := hr2
    clear hr1 hr2 hR
    have hne : ((l.length : Int) != (l.length : Int)) = false := by simp
    have Hlm : Hid (l.length = m.length) := hlm
    rw [← hlm]
    clear hlm
    go_enter Try.func85, Try.ntmps85
    go_wp2_with fail
    go_loopg [17] l.length (fun g i wr => ∃ j : Nat, i = .int .i64 (j : Int) ∧ j ≤ l.length ∧ g = l.length - j ∧ Below w.heap.size w wr ∧ Hid (∀ (i : Nat) (h1 : i < l.length) (h2 : i < m.length), i < j → (cmpV d l[i] m[i] == 0) = true))
    case atStart => exact ⟨0, rfl, by omega, by omega, Below.refl _ _, fun i _ _ h => absurd h (by omega)⟩
    case round =>
      obtain ⟨j, rfl, hj, hk, hbw, HI⟩ := hrel
      have Hk : Hid _ := hk
      clear hk hne
      by_cases hlt : j < l.length
      · have hlt2 : j < m.length := by have := Hlm.out; omega
        obtain ⟨b1, o1, rfl, hall1⟩ := Hr1.out (by intro e; simp [e] at hlt)
        obtain ⟨b2, o2, rfl, hall2⟩ := Hr2.out (by intro e; simp [e] at hlt2)
        obtain ⟨x, p0, p1, p2, p3, p4, _⟩ := hall1 j hlt
        obtain ⟨y, q0, q1, q2, q3, q4, _⟩ := hall2 j hlt2
        clear hall1 hall2
        obtain ⟨ax, cx, rfl, _⟩ := Lies.slice p4
        obtain ⟨ay, cy, rfl, _⟩ := Lies.slice q4
        have p0 := cell_keeps hbw p0; have p1 := cell_keeps hbw p1; have p2 := cell_keeps hbw p2; have p3 := cell_keeps hbw p3
        have q0 := cell_keeps hbw q0; have q1 := cell_keeps hbw q1; have q2 := cell_keeps hbw q2; have q3 := cell_keeps hbw q3
        have p4 : Hid (Lies d w l[j].items (.slice ax l[j].items.length cx)) := p4
        have q4 : Hid (Lies d w m[j].items (.slice ay m[j].items.length cy)) := q4
        have HIn : Hid ((cmpV d l[j] m[j] == 0) = true → ∀ (i : Nat) (h1 : i < l.length) (h2 : i < m.length), i < j + 1 → (cmpV d l[i] m[i] == 0) = true) := fun hs i h1 h2 hi => by
          by_cases e : i = j
          · subst e; exact hs
          · exact HI.out i h1 h2 (by omega)
        have HFj : Hid ((cmpV d l[j] m[j] == 0) = false → R = false) := HF.out j hlt hlt2
        clear HI
        generalize l[j] = X at *
        generalize m[j] = Y at *
        have hltm : (j : Int) < (l.length : Nat) := by omega
        obtain ⟨A1, hA1⟩ : ∃ A1, A1 = wr.alloc (.cells #[.int .i64 X.kind, .int .i64 X.num, .string X.text, .slice ax X.items.length cx] 31) := ⟨_, rfl⟩
        obtain ⟨A2, hA2⟩ : ∃ A2, A2 = A1.alloc (.cells #[.int .i64 Y.kind, .int .i64 Y.num, .string Y.text, .slice ay Y.items.length cy] 31) := ⟨_, rfl⟩
        have hg1 : Below wr.heap.size wr A1 := by rw [hA1]; exact ((Grew.refl wr).alloc _).below
        have hg2 : Below A1.heap.size A1 A2 := by rw [hA2]; exact ((Grew.refl A1).alloc _).below
        have hsz : A1.heap.size = wr.heap.size + 1 := by rw [hA1]; simp
        have hg12 : Below wr.heap.size wr A2 := hg1.trans (hg2.mono hg1.size)
        have hb2 : Below w.heap.size w A2 := hbw.trans (hg12.mono hbw.size)
        have BX : Hid (Bx A2 wr.heap.size X (.slice ax X.items.length cx)) := by
          have h9 : Bx A1 wr.heap.size X (.slice ax X.items.length cx) := by rw [hA1]; exact bx_alloc wr X _
          exact h9.keeps hg2
        have BY : Hid (Bx A2 (wr.heap.size + 1) Y (.slice ay Y.items.length cy)) := by
          rw [← hsz, hA2]
          exact bx_alloc A1 Y _
        have k0 := cell_keeps hg1 q0; have k1 := cell_keeps hg1 q1; have k2 := cell_keeps hg1 q2; have k3 := cell_keeps hg1 q3
        obtain ⟨x0, x1, x2, x3, _, _, _, _⟩ := BX.out
        obtain ⟨y0, y1, y2, y3, _, _, _, _⟩ := BY.out
        have HEq : Hid (Calls Try.prog 86 #[.agg #[.int .i64 X.kind, .int .i64 X.num, .string X.text, .slice ax X.items.length cx], .agg #[.int .i64 Y.kind, .int .i64 Y.num, .string Y.text, .slice ay Y.items.length cy]] A2 fun e W' => e = .returned (.bool (cmpV d X Y == 0)) ∧ Below w.heap.size w W') := (equal_any d X Y _ _ A2 (Lies.keeps hb2 _ _ _ p4.out) (Lies.keeps hb2 _ _ _ q4.out)).mono fun e W' h => ⟨h.1, hb2.trans (h.2.below.mono hb2.size)⟩
        rw [hA2, hA1] at HEq x0 x1 x2 x3 y0 y1 y2 y3
        rw [hA1] at k0 k1 k2 k3
        clear BX BY hA1 hA2 hg1 hg2 hg12 hsz hb2 p4 q4 q0 q1 q2 q3
        cases hs : (cmpV d X Y == 0) with
        | true =>
          rw [hs] at HEq
          go_wp2_with fail
          refine Calls.mono HEq.out ?_
          rintro e w1 ⟨rfl, hb3⟩
          clear p0 p1 p2 p3 k0 k1 k2 k3 x0 x1 x2 x3 y0 y1 y2 y3 HEq
          go_wp2_with fail
          go_roundg (l.length - (j + 1))
          case measure => have := Hk.out; omega
          case rel => exact ⟨j + 1, by go_num, by omega, rfl, hb3, HIn.out hs⟩
        | false =>
          rw [hs] at HEq
          go_wp2_with fail
          refine Calls.mono HEq.out ?_
          rintro e w1 ⟨rfl, hb3⟩
          clear p0 p1 p2 p3 k0 k1 k2 k3 x0 x1 x2 x3 y0 y1 y2 y3 HEq
          go_wp2_with fail
          go_ret
          exact ⟨by rw [HFj.out hs]; rfl, hb3⟩
      · have HRt : Hid (R = true) := HT.out fun i h1 h2 => HI.out i h1 h2 (by omega)
        clear HT HF HI
        go_wp2_with fail
        go_ret
        exact ⟨by rw [HRt.out]; rfl, hbw⟩
  · have hne : ((l.length : Int) != (m.length : Int)) = true := by simp; omega
    have HRf : Hid (R = false) := by
      show R = false
      rw [hR]
      unfold eqL
      rw [decide_eq_false hlm]
      rfl
    clear hr1 hr2 hR
    go_enter Try.func85, Try.ntmps85
    go_wp2_with fail
    go_ret
    exact ⟨by rw [HRf.out]; rfl, Below.refl _ _⟩

theorem all2_cong2 {f g : VT → VT → Bool} : ∀ (l m : List VT), (∀ x ∈ l, ∀ y ∈ m, f x y = g x y) → all2 f l m = all2 g l m
  | [], _, _ => by simp [all2]
  | _ :: _, [], _ => by simp [all2]
  | x :: xs, y :: ys, h => by
    simp only [all2]
    rw [h x (by simp) y (by simp), all2_cong2 xs ys fun a ha b hb => h a (by simp [ha]) b (by simp [hb])]

set_option maxRecDepth 100000 in
set_option maxHeartbeats 4000000 in
theorem rsame_any (l m : List VT) (p q : Value) (w : World) (h1 : VV w l p) (h2 : VV w m q) : Calls Try.prog 64 #[p, q] w fun e w' => e = .returned (.bool (eqL (sameV 16) l m)) ∧ Below w.heap.size w w' := by
  obtain ⟨po, rfl⟩ := h1.vc.shape
  obtain ⟨qo, rfl⟩ := h2.vc.shape
  have HK1 : Hid _ := kept_any 16 l _ w h1.vc h1.len
  have HV2 : Hid (VV w m (.pointer qo)) := h2
  have hlen := h1.len
  obtain ⟨R, hR⟩ : ∃ R, R = eqL (sameV 16) l m := ⟨_, rfl⟩
  rw [← hR]
  have HR : Hid (eqL (fun x y => cmpV 16 x y == 0) l m = R) := by
    show _ = _
    rw [hR]
    unfold eqL
    rw [all2_cong2 l m fun x hx y hy => right_same 16 x y (List.all_eq_true.1 h1.right x hx) (List.all_eq_true.1 h2.right y hy)]
  clear h1 h2 hR
  go_enter Try.func64, Try.ntmps64
  go_wp2_with fail
  refine Calls.mono HK1.out ?_
  rintro e w1 ⟨u1, rfl, ⟨ps, hps, hown, hsd⟩, hg1⟩
  have HL1 : Hid (Lies 17 w1 l u1) := by
    have h9 := own_lies (d := 16) rfl hown (fun p hp => (hsd p hp).keeps hg1) (by have := congrArg List.length hps; rw [List.length_map] at this; omega)
    rw [hps] at h9
    exact h9
  have HK2 : Hid _ := kept_any 16 m _ w1 (HV2.out.keeps hg1).vc HV2.out.len
  obtain ⟨a1, c1, rfl, _⟩ := Lies.slice HL1.out
  clear HK1 hown hsd hps
  go_wp2_with fail
  refine Calls.mono HK2.out ?_
  rintro e w2 ⟨u2, rfl, ⟨pm, hpm, hown, hsd⟩, hg2⟩
  have hm2 := HV2.out.len
  have HL2 : Hid (Lies 17 w2 m u2) := by
    have h9 := own_lies (d := 16) rfl hown (fun p hp => (hsd p hp).keeps hg2) (by have := congrArg List.length hpm; rw [List.length_map] at this; omega)
    rw [hpm] at h9
    exact h9
  have HEq : Hid _ := eqf_any 16 l m _ u2 w2 (Lies.keeps hg2 _ _ _ HL1.out) HL2.out hlen
  have hb2 : Below w.heap.size w w2 := hg1.trans (hg2.mono hg1.size)
  obtain ⟨a2, c2, rfl, _⟩ := Lies.slice HL2.out
  rw [HR.out] at HEq
  clear HK2 hown hsd hpm HL1 HL2 HR
  go_wp2_with fail
  refine Calls.mono HEq.out ?_
  rintro e w3 ⟨rfl, hg3⟩
  have hb3 : Below w.heap.size w w3 := hb2.trans (hg3.mono hb2.size)
  clear HEq
  go_wp2_with fail
  go_ret
  exact ⟨rfl, hb3⟩

end Go.Proofs.Ytpnfmcmhcjekfaa

namespace Go.Proofs.Ytpnfmcmhcjekfaa
open Go.RowKit

set_option maxRecDepth 100000 in
theorem rend_any (l : List VT) (a : Option Addr) (c : Nat) (i : Int) (w : World) : Calls Try.prog 63 #[.slice a l.length c, .int .i64 i] w fun e w' => e = .returned (.bool (decide (endB l i))) ∧ w' = w := by
  by_cases h0 : 0 ≤ i
  · by_cases h1 : i ≤ (l.length : Int)
    · rw [decide_eq_true (show endB l i from ⟨h0, h1⟩)]
      go_enter Try.func63, Try.ntmps63
      go_wp2_with fail
      go_ret
      exact ⟨rfl, rfl⟩
    · rw [decide_eq_false (fun h : endB l i => h1 h.2)]
      go_enter Try.func63, Try.ntmps63
      go_wp2_with fail
      go_ret
      exact ⟨rfl, rfl⟩
  · rw [decide_eq_false (fun h : endB l i => h0 h.1)]
    go_enter Try.func63, Try.ntmps63
    go_wp2_with fail
    go_ret
    exact ⟨rfl, rfl⟩

/-- Where a part of a list lies. -/
theorem src_part {w : World} {l : List VT} {g o c : Nat} (h : Lies 17 w l (.slice (some ⟨g, o, none⟩) l.length c)) (i j : Nat) (hj : j ≤ l.length) : ∃ ps : List (VT × Value), ps.map (·.1) = (l.take j).drop i ∧ ps.length = j - i ∧ Src w (some ⟨g, o + i * 4, none⟩) (j - i) 4 (ps.flatMap encP) ∧ ∀ p ∈ ps, Sound 16 w p := by
  have h1 := Lies.taken h j hj
  have e1 : (l.take j).length = j := by rw [List.length_take, Nat.min_eq_left hj]
  have h2 := Lies.dropped (l := l.take j) (by rw [e1]; exact h1) i
  have e2 : ((l.take j).drop i).length = j - i := by rw [List.length_drop, e1]
  rw [e1] at h2
  rw [← e2] at h2
  obtain ⟨ps, p1, p2, p3, p4⟩ := src_of h2
  rw [e2] at p3 p2
  exact ⟨ps, p1, p2, p3, p4⟩

/-- An empty list of one's own. -/
theorem own_empty (w : World) (base : Nat) (hb : base ≤ w.heap.size) : (w.alloc (.cells #[] 31)).ownsRow base 31 4 (.slice (some ⟨w.heap.size, 0, none⟩) 0 0) 0 [] := World.ownsRow_made w #[] 0 hb (by unfold maxLen; omega) rfl

end Go.Proofs.Ytpnfmcmhcjekfaa

namespace Go.Proofs.Ytpnfmcmhcjekfaa
open Go.RowKit

/-- Two rows of one's own, apart. -/
structure Cs (w W : World) (vA : Value) (nA : Nat) (xA : List Value) (vB : Value) (nB : Nat) (xB : List Value) : Prop where
  below : Below w.heap.size w W
  a : W.ownsRow w.heap.size 31 4 vA nA xA
  b : W.ownsRow w.heap.size 31 4 vB nB xB
  ne : vA.ownBlock = none ∨ vA.ownBlock ≠ vB.ownBlock

theorem Cs.symm {w W : World} {vA : Value} {nA : Nat} {xA : List Value} {vB : Value} {nB : Nat} {xB : List Value} (h : Cs w W vA nA xA vB nB xB) : Cs w W vB nB xB vA nA xA :=
  ⟨h.below, h.b, h.a, by
    cases e : vB.ownBlock with
    | none => exact .inl rfl
    | some k =>
      refine .inr (fun e2 => ?_)
      rcases h.ne with e3 | e3
      · rw [e3] at e2; cases e2
      · exact e3 (by rw [e, ← e2])⟩

theorem Cs.drew {w W : World} {vA : Value} {nA : Nat} {xA : List Value} {vB : Value} {nB : Nat} {xB : List Value} (h : Cs w W vA nA xA vB nB xB) : Cs w W.drew vA nA xA vB nB xB := ⟨h.below.drew, h.a.drew, h.b.drew, h.ne⟩

theorem Cs.start (w : World) : Cs w w (.slice none 0 0) 0 [] (.slice none 0 0) 0 [] := ⟨Below.refl _ _, World.ownsRow_nil _ _ _ _, World.ownsRow_nil _ _ _ _, .inl rfl⟩

theorem Cs.made {w W : World} {vB : Value} {nB : Nat} {xB : List Value} (h : Cs w W (.slice none 0 0) 0 [] vB nB xB) : Cs w (W.alloc (.cells #[] 31)) (.slice (some ⟨W.heap.size, 0, none⟩) 0 0) 0 [] vB nB xB :=
  ⟨h.below.alloc h.below.size _, own_empty W _ h.below.size, h.b.alloc _, .inr (fun e => by
    have : W.heap.size < W.heap.size := (h.b.lt _ e.symm).2
    omega)⟩

theorem Src.nil (w : World) (a : Option Addr) : Src w a 0 4 [] := ⟨fun _ => rfl, rfl, fun _ _ _ _ h => by simp at h, fun u h => by cases h⟩

/-- A source appended to the first one, while it is empty. -/
theorem Cs.step {w W : World} {ops : Array Oper} {o : Oper} {act : Act} {K : Act → World → Prop} {Q : Exit → Act → World → Prop} {E : Prop} (hgd : o.guard = none) (s x : Operand)
    (ho : o.op = .call { callee := .builtin .append, args := #[s, x], argTypes := #[22, 22] })
    {g : Nat} {vB : Value} {nB : Nat} {xB : List Value} (hs : act.eval s = .slice (some ⟨g, 0, none⟩) 0 0) {aa : Option Addr} {m c : Nat} (hx : act.eval x = .slice aa m c) (hc : Cs w W (.slice (some ⟨g, 0, none⟩) 0 0) 0 [] vB nB xB)
    {news : List Value} (hsrc : Src w aa m 4 news) (hm : m ≤ 65536)
    (h : ∀ a' c' W', Cs w W' (.slice a' m c') m news vB nB xB → K (act.put o.dst (.slice a' m c')) W') :
    if Region.wanted o (yielded ops act.tmps) = true then Oper.wp Try.prog o act W K Q else E := by
  have hw : Region.wanted o (yielded ops act.tmps) = true := by simp [Region.wanted, hgd]
  rw [if_pos hw]
  obtain ⟨i0, hi, hz0, hz1, hz2⟩ := info24
  by_cases h0 : m = 0
  · subst h0
    have hn : news = [] := List.eq_nil_of_length_eq_zero (by have := hsrc.len; omega)
    subst hn
    have hr : ∀ ty, (Builtin.append_ #[22, 22] ty #[.slice (some ⟨g, 0, none⟩) 0 0, .slice aa 0 c]).run Try.prog W = .ok (.slice (some ⟨g, 0, none⟩) 0 0) W := fun ty => by
      cases aa <;> simp [Builtin.append_, run_underlying Try.underlying22, sizeOf, typeInfo, hi, Builtin.lenOf, Builtin.firstCells, loadCells, loadCellsFrom, storeCells]
    unfold Oper.wp execOp
    simp only [ho, resolve, invoke, builtin, Sem.run_bind, Sem.run_pure, Result.andThen_ok, List.map_toArray, List.map_cons, List.map_nil, hs, hx, hr]
    exact h _ _ _ hc
  · obtain ⟨ad, rfl⟩ : ∃ ad, aa = some ad := by
      cases e : aa with
      | none => exact absurd (hsrc.none e) h0
      | some ad => exact ⟨ad, rfl⟩
    obtain ⟨g', cap, w', hr, r1, r2, r3, r4⟩ := run_append_lies (P := Try.prog) W 22 o.type w.heap.size 31 i0 _ 4 56 Try.underlying22 hi hz0 hz1 hz2 rfl (by decide) _ 0 [] hc.a ad m c news hsrc.len (hsrc.cell hc.below ad rfl) hsrc.one (by omega) (by unfold maxLen; omega) (by omega) hc.below.size _ rfl
    rw [Nat.zero_add, List.nil_append] at r1
    unfold Oper.wp execOp
    simp only [ho, resolve, invoke, builtin, Sem.run_bind, Sem.run_pure, Result.andThen_ok, List.map_toArray, List.map_cons, List.map_nil, hs, hx, hr, Nat.zero_add]
    refine h _ _ _ ⟨hc.below.grown r2 hc.below.size (fun k e => (hc.a.lt k e).1), r1, hc.b.kept r2 hc.symm.ne, .inr (fun e => ?_)⟩
    have e1 : vB.ownBlock = some g' := e.symm
    rcases r3 with r3 | r3
    · rcases hc.ne with e3 | e3
      · rw [e3] at r3; cases r3
      · exact e3 (r3.trans e1.symm)
    · have := (hc.b.lt _ e1).2
      omega

end Go.Proofs.Ytpnfmcmhcjekfaa

namespace Go.Proofs.Ytpnfmcmhcjekfaa
open Go.RowKit

/-- What Of tells, right or not. -/
theorem of_vv (n : Nat) (l : List VT) (u : Value) (w : World) (hl : Lies (n + 1) w l u) : Calls Try.prog 9 #[u] w fun e w' => Below w.heap.size w w' ∧ ((∃ b, e = .returned (.tuple #[.pointer (some ⟨b, 0, none⟩), .int .i64 0]) ∧ VV w' l (.pointer (some ⟨b, 0, none⟩)) ∧ Lies 17 w' l u) ∨ (∃ k : Nat, e = .returned (.tuple #[.pointer none, .int .i64 (k : Int)]) ∧ (k = 2 ∨ k = 3))) := by
  refine Calls.mono (of_n n l _ w hl) ?_
  rintro e w' ⟨hb, hp⟩
  refine ⟨hb, ?_⟩
  unfold ofN at hp
  by_cases h1 : 65536 < l.length
  · rw [if_pos h1] at hp
    exact .inr ⟨2, hp, .inl rfl⟩
  · rw [if_neg h1] at hp
    by_cases h2 : l.all (rightV n) = true
    · rw [if_pos h2] at hp
      obtain ⟨b, rfl, hv⟩ := hp
      exact .inl ⟨b, rfl, ⟨hv, by omega, (canonL hl h2).2⟩, Lies.keeps hb _ _ _ (canonL hl h2).1⟩
    · rw [if_neg h2] at hp
      exact .inr ⟨3, hp, .inr rfl⟩

/-- A vector and a list, or an error, as a statement holds them beside each other. -/
def Pair12 (w : World) (p : Value) (k : Nat) (u : Value) : Prop :=
  (k = 0 ∧ ∃ (l : List VT) (b : Nat) (a : Option Addr) (c : Nat), p = .pointer (some ⟨b, 0, none⟩) ∧ u = .slice a l.length c ∧ VV w l p ∧ Lies 17 w l u) ∨ (k ≠ 0 ∧ p = .pointer none ∧ u = .slice none 0 0)

theorem Pair12.keeps {w w' : World} {p : Value} {k : Nat} {u : Value} (h : Pair12 w p k u) (hb : Below w.heap.size w w') : Pair12 w' p k u := by
  rcases h with ⟨rfl, l, b, a, c, rfl, rfl, hv, hl⟩ | h
  · exact .inl ⟨rfl, l, b, a, c, rfl, rfl, hv.keeps hb, Lies.keeps hb _ _ _ hl⟩
  · exact .inr h

theorem is_pair (p : Value) (k : Nat) (u : Value) (w : World) (h : Pair12 w p k u) : Calls Try.prog 39 #[p, .int .i64 (k : Int), u, .int .i64 (k : Int)] w fun e w' => e = .returned (.bool true) ∧ Below w.heap.size w w' := by
  rcases h with ⟨rfl, l, b, a, c, rfl, rfl, hv, hl⟩ | ⟨hk, rfl, rfl⟩
  · exact is_some l b _ w hv hl
  · exact is_none k hk none 0 0 w

end Go.Proofs.Ytpnfmcmhcjekfaa

namespace Go.Proofs.Ytpnfmcmhcjekfaa
open Go.RowKit

structure Rw (w W : World) (v : Value) (n : Nat) (xs : List Value) : Prop where
  below : Below w.heap.size w W
  own : W.ownsRow w.heap.size 31 4 v n xs

theorem Rw.start (w : World) : Rw w (w.alloc (.cells #[] 31)) (.slice (some ⟨w.heap.size, 0, none⟩) 0 0) 0 [] := ⟨((Grew.refl w).alloc _).below, own_empty w _ (Nat.le_refl _)⟩

theorem Rw.append {w W : World} {ops : Array Oper} {rest : List Oper} {o : Oper} {act : Act} {Q : Exit → Act → World → Prop} (hgd : o.guard = none) (s x : Operand)
    (ho : o.op = .call { callee := .builtin .append, args := #[s, x], argTypes := #[22, 22] })
    {v : Value} {n : Nat} {xs : List Value} (hr : Rw w W v n xs) (hs : act.eval s = v) {aa : Option Addr} {m c : Nat} (hx : act.eval x = .slice aa m c) {news : List Value} (hsrc : Src w aa m 4 news) (k : Nat) (hk : n + m = k) (hm : k ≤ 200000)
    (h : ∀ a' c' W', Rw w W' (.slice a' k c') k (xs ++ news) → wpList Try.prog ops Q rest (act.put o.dst (.slice a' k c')) W') : wpList Try.prog ops Q (o :: rest) act W := by
  subst hk
  obtain ⟨i0, hi, hz0, hz1, hz2⟩ := info24
  refine wpList_append_row hgd s x ho w.heap.size i0 hi hz0 hz1 hz2 v n xs hs hr.own aa m c news hx hsrc.none hsrc.len (hsrc.cell hr.below) hsrc.one (by unfold maxLen; omega) (by omega) hr.below.size (fun v' w' h1 h2 => ?_)
  have hb : Below w.heap.size w w' := own_growM hr.below hr.below.size hr.own h2
  have hv : ∃ a' c', v' = .slice a' (n + m) c' := by
    rcases h1.2 with ⟨e1, e2⟩ | ⟨g, cap, _, e1, _⟩
    · exact ⟨none, 0, by rw [e1, e2]⟩
    · exact ⟨_, cap, e1⟩
  obtain ⟨a', c', rfl⟩ := hv
  exact h a' c' w' ⟨hb, h1⟩

theorem Rw.lies {w W : World} {v : Value} {n : Nat} {ps : List (VT × Value)} (h : Rw w W v n (ps.flatMap encP)) (hn : n = ps.length) (hs : ∀ p ∈ ps, Sound 16 w p) (hl : n ≤ 200000) : Lies 17 W (ps.map (·.1)) v :=
  own_lies (d := 16) hn h.own (fun p hp => (hs p hp).keeps h.below) (by omega)

/-- The first items of a list, as a source. -/
theorem src_take {w : World} {l : List VT} {a : Option Addr} {c : Nat} (hl : Lies 17 w l (.slice a l.length c)) (n : Nat) (hnl : n ≤ l.length) : ∃ ps : List (VT × Value), ps.map (·.1) = l.take n ∧ ps.length = n ∧ Src w a n 4 (ps.flatMap encP) ∧ ∀ p ∈ ps, Sound 16 w p := by
  have e1 : (l.take n).length = n := by rw [List.length_take, Nat.min_eq_left hnl]
  by_cases hn0 : n = 0
  · subst hn0
    exact ⟨[], rfl, rfl, Src.nil w a, fun p hp => by cases hp⟩
  · obtain ⟨g, o, rfl, _⟩ := Lies.some_at hl (by omega)
    have h2 := Lies.taken hl n hnl
    rw [← e1] at h2
    obtain ⟨ps, p1, p2, p3, p4⟩ := src_of (l := l.take n) (by rw [e1] at h2 ⊢; exact h2)
    rw [e1] at p2 p3
    exact ⟨ps, p1, p2, p3, p4⟩

end Go.Proofs.Ytpnfmcmhcjekfaa

namespace Go.Proofs.Ytpnfmcmhcjekfaa
open Go.RowKit

set_option maxRecDepth 100000 in
set_option maxHeartbeats 8000000 in
theorem rconcat_any (l m : List VT) (a am : Option Addr) (c cm : Nat) (w : World) (hl : Lies 17 w l (.slice a l.length c)) (hlen : l.length ≤ 65536) (hm : Lies 17 w m (.slice am m.length cm)) (hmlen : m.length ≤ 65536) : Calls Try.prog 36 #[.slice a l.length c, .slice am m.length cm] w (LstPost (catR l m) w) := by
  obtain ⟨R, hR⟩ : ∃ R, R = catR l m := ⟨_, rfl⟩
  rw [← hR]
  unfold catR at hR
  have e1 : (l ++ m).length = l.length + m.length := List.length_append
  obtain ⟨F, hF⟩ : ∃ F : Int, F = 65536 - (l.length : Nat) := ⟨_, rfl⟩
  have hw3 : IntKind.i64.wrap (65536 - ((l.length : Nat) : Int)) = F := by rw [IntKind.wrap_i64]; omega
  by_cases hsz : (l ++ m).length ≤ 65536
  · rw [if_pos hsz] at hR
    have hcmp : ¬ F < ((m.length : Nat) : Int) := by omega
    obtain ⟨ps, hp1, hp2, hsA, hsd⟩ := src_of hl
    obtain ⟨pm, hm1, hm2, hsM, hsm⟩ := src_of hm
    have HSA : Hid _ := hsA
    have HSM : Hid _ := hsM
    have HG : Hid (∀ (W : World) (a9 c9), Rw w W (.slice a9 (l.length + m.length) c9) (l.length + m.length) (([] ++ ps.flatMap encP) ++ pm.flatMap encP) → LstPost R w (.returned (.tuple #[.slice a9 (l.length + m.length) c9, .int .i64 0])) W) := fun W a9 c9 h => by
      have e9 : ([] ++ ps.flatMap encP) ++ pm.flatMap encP = (ps ++ pm).flatMap encP := by simp [List.flatMap_append]
      rw [e9] at h
      have h9 := h.lies (by rw [List.length_append, hp2, hm2]) (fun p hp => by
        rcases List.mem_append.1 hp with hp | hp
        · exact hsd p hp
        · exact hsm p hp) (by omega)
      rw [List.map_append, hp1, hm1] at h9
      rw [hR]
      rw [← e1] at h9 ⊢
      exact ⟨h.below, a9, c9, rfl, h9⟩
    obtain ⟨L, hL⟩ : ∃ L, L = l.length := ⟨_, rfl⟩
    obtain ⟨M, hM⟩ : ∃ M, M = m.length := ⟨_, rfl⟩
    rw [← hL] at HSA HG hw3 hlen ⊢
    rw [← hM] at HSM HG hcmp hmlen ⊢
    clear hl hm hsA hsM hp1 hp2 hm1 hm2 hsd hsm hR e1 hsz hL hM hF
    have HC := Rw.start w
    go_enter Try.func36, Try.ntmps36
    go_wp2_with
      (first
        | (at_builtin; refine Rw.append rfl _ _ rfl HC rfl rfl HSM.out (L + M) (by omega) (by omega) ?_; clear HC; intro ax cx W HC)
        | (at_builtin; refine Rw.append rfl _ _ rfl HC rfl rfl HSA.out L (by omega) (by omega) ?_; clear HC; intro ax cx W HC))
    have HE : Hid _ := HG.out _ _ _ HC
    clear HC HG
    go_wp2_with fail
    go_ret2
    exact HE.out
  · rw [if_neg hsz] at hR
    have hcmp : F < ((m.length : Nat) : Int) := by omega
    have HE : Hid (LstPost R w (.returned (.tuple #[.slice none 0 0, .int .i64 2])) w) := by
      show LstPost _ _ _ _
      rw [hR]
      exact ⟨Below.refl _ _, rfl⟩
    clear hl hm hR hsz e1 hF
    go_enter Try.func36, Try.ntmps36
    go_wp2_with fail
    go_ret2
    exact HE.out

end Go.Proofs.Ytpnfmcmhcjekfaa

namespace Go.Proofs.Ytpnfmcmhcjekfaa
open Go.RowKit

set_option maxRecDepth 100000 in
set_option maxHeartbeats 8000000 in
theorem rsplice_any (l m : List VT) (a am : Option Addr) (c cm : Nat) (i j : Int) (w : World) (hl : Lies 17 w l (.slice a l.length c)) (hlen : l.length ≤ 65536) (hm : Lies 17 w m (.slice am m.length cm)) (hmlen : m.length ≤ 65536) : Calls Try.prog 38 #[.slice a l.length c, .int .i64 i, .int .i64 j, .slice am m.length cm] w (LstPost (spliceR l i j m) w) := by
  have HE1 : Hid _ := rend_any l a c i w
  have HE2 : Hid _ := rend_any l a c j w
  obtain ⟨R, hR⟩ : ∃ R, R = spliceR l i j m := ⟨_, rfl⟩
  rw [← hR]
  unfold spliceR at hR
  by_cases h1 : endB l i
  · rw [decide_eq_true h1] at HE1
    by_cases h2 : endB l j
    · rw [decide_eq_true h2] at HE2
      by_cases h3 : i ≤ j
      · rw [if_pos ⟨h1, h2, h3⟩] at hR
        obtain ⟨ni, rfl⟩ := Int.eq_ofNat_of_zero_le h1.1
        obtain ⟨nj, rfl⟩ := Int.eq_ofNat_of_zero_le h2.1
        rw [Int.toNat_natCast, Int.toNat_natCast] at hR
        have hjl : nj ≤ l.length := by have := h2.2; omega
        have hij : ni ≤ nj := by omega
        have hgt : ¬ ((nj : Nat) : Int) < (ni : Nat) := by omega
        have hlc : l.length ≤ c := by obtain ⟨_, _, e, h, _⟩ := hl; injection e with _ _ e; omega
        have e1 : (l.take ni ++ (m ++ l.drop nj)).length = ni + m.length + (l.length - nj) := by
          rw [List.length_append, List.length_append, List.length_take, List.length_drop, Nat.min_eq_left (by omega)]
          omega
        obtain ⟨D, hD⟩ : ∃ D : Nat, D = nj - ni := ⟨_, rfl⟩
        obtain ⟨E, hE⟩ : ∃ E : Nat, E = l.length - D := ⟨_, rfl⟩
        obtain ⟨F, hF⟩ : ∃ F : Int, F = 65536 - (E : Nat) := ⟨_, rfl⟩
        have hw1 : IntKind.i64.wrap ((nj : Int) - (ni : Nat)) = (D : Nat) := by rw [IntKind.wrap_i64]; omega
        have hw2 : IntKind.i64.wrap ((l.length : Int) - (D : Nat)) = (E : Nat) := by rw [IntKind.wrap_i64]; omega
        have hw3 : IntKind.i64.wrap (65536 - ((E : Nat) : Int)) = F := by rw [IntKind.wrap_i64]; omega
        by_cases hsz : (l.take ni ++ (m ++ l.drop nj)).length ≤ 65536
        · rw [if_pos hsz] at hR
          have hcmp : ¬ F < ((m.length : Nat) : Int) := by omega
          rw [e1] at hsz
          have HR : Hid (R = .inl (l.take ni ++ (m ++ l.drop nj))) := hR
          obtain ⟨ps, hp1, hp2, hsA, hsd⟩ := src_take hl ni (by omega)
          obtain ⟨pm, hm1, hm2, hsM, hsm⟩ := src_of hm
          have HSA : Hid (Src w a ni 4 (ps.flatMap encP)) := hsA
          have HSM : Hid (Src w am m.length 4 (pm.flatMap encP)) := hsM
          have hfin : ∀ (qs : List (VT × Value)) (N : Nat) (W : World) (a9 c9), qs.map (·.1) = l.drop nj → (∀ p ∈ qs, Sound 16 w p) → N = ni + m.length + (l.length - nj) → Rw w W (.slice a9 N c9) N ((([] ++ ps.flatMap encP) ++ pm.flatMap encP) ++ qs.flatMap encP) → LstPost R w (.returned (.tuple #[.slice a9 N c9, .int .i64 0])) W := fun qs N W a9 c9 q1 q2 hN h => by
            have hq : qs.length = l.length - nj := by have := congrArg List.length q1; rw [List.length_map, List.length_drop] at this; exact this
            have e9 : (([] ++ ps.flatMap encP) ++ pm.flatMap encP) ++ qs.flatMap encP = (ps ++ (pm ++ qs)).flatMap encP := by simp [List.flatMap_append]
            rw [e9] at h
            have h9 := h.lies (by rw [List.length_append, List.length_append, hp2, hm2, hq]; omega) (fun p hp => by
              rcases List.mem_append.1 hp with hp | hp
              · exact hsd p hp
              · rcases List.mem_append.1 hp with hp | hp
                · exact hsm p hp
                · exact q2 p hp) (by omega)
            rw [List.map_append, List.map_append, hp1, hm1, q1] at h9
            rw [HR.out]
            obtain rfl : N = (l.take ni ++ (m ++ l.drop nj)).length := by rw [e1]; exact hN
            exact ⟨h.below, a9, c9, rfl, h9⟩
          obtain ⟨M, hM⟩ : ∃ M, M = m.length := ⟨_, rfl⟩
          by_cases hne : nj = l.length
          · have hd : l.drop nj = [] := List.drop_eq_nil_of_le (by omega)
            have HF : Hid (∀ (N : Nat) (W : World) (a9 c9), Rw w W (.slice a9 N c9) N ((([] ++ ps.flatMap encP) ++ pm.flatMap encP) ++ []) → N = ni + m.length → LstPost R w (.returned (.tuple #[.slice a9 N c9, .int .i64 0])) W) := fun N W a9 c9 h hN => hfin [] N W a9 c9 (by rw [hd]; rfl) (fun p hp => by cases hp) (by omega) h
            have hE' : E = l.length - D := hE
            obtain ⟨L, hL⟩ : ∃ L, L = l.length := ⟨_, rfl⟩
            rw [← hL] at hne hjl hlc hlen HE1 HE2 hw2 hsz ⊢
            rw [← hM] at hmlen HSM HF hcmp hsz ⊢
            subst hne
            have hnci : (nj : Int) ≤ (c : Nat) := by omega
            have hici : (ni : Int) ≤ (c : Nat) := by omega
            have hself : ¬ ((nj : Nat) : Int) < (nj : Nat) := by omega
            clear hfin hl hm hsA hsM hp1 hm1 hsd hsm e1 hd hL h1 h2 h3 hR hE hE' hD hF hM hm2 hp2
            by_cases hcn : c = nj
            · subst hcn
              cases a with
              | none =>
                go_enter Try.func38, Try.ntmps38
                go_wp2_with fail
                refine Calls.mono HE1.out ?_
                rintro e w1 ⟨rfl, hw1⟩
                obtain rfl : w = w1 := hw1.symm
                clear HE1
                go_wp2_with fail
                refine Calls.mono HE2.out ?_
                rintro e w1 ⟨rfl, hw1⟩
                obtain rfl : w = w1 := hw1.symm
                clear HE2
                have HC := Rw.start w
                go_wp2_with
                  (first
                    | (at_builtin; refine Rw.append rfl _ _ rfl HC rfl rfl HSA.out (ni) (by omega) (by omega) ?_; clear HC; intro ax cx W HC)
                    | (at_builtin; refine Rw.append rfl _ _ rfl HC rfl rfl HSM.out (ni + M) (by omega) (by omega) ?_; clear HC; intro ax cx W HC)
                    | (at_builtin; refine Rw.append rfl _ _ rfl HC rfl rfl (Src.nil w _) (ni + M) (by omega) (by omega) ?_; clear HC; intro ax cx W HC))
                have HG0 := HF.out _ _ _ _ HC
                have HG : Hid _ := HG0 (by omega)
                clear HG0
                clear HC HF
                go_wp2_with fail
                go_ret2
                exact HG.out
              | some ad =>
                go_enter Try.func38, Try.ntmps38
                go_wp2_with fail
                refine Calls.mono HE1.out ?_
                rintro e w1 ⟨rfl, hw1⟩
                obtain rfl : w = w1 := hw1.symm
                clear HE1
                go_wp2_with fail
                refine Calls.mono HE2.out ?_
                rintro e w1 ⟨rfl, hw1⟩
                obtain rfl : w = w1 := hw1.symm
                clear HE2
                have HC := Rw.start w
                go_wp2_with
                  (first
                    | (at_builtin; refine Rw.append rfl _ _ rfl HC rfl rfl HSA.out (ni) (by omega) (by omega) ?_; clear HC; intro ax cx W HC)
                    | (at_builtin; refine Rw.append rfl _ _ rfl HC rfl rfl HSM.out (ni + M) (by omega) (by omega) ?_; clear HC; intro ax cx W HC)
                    | (at_builtin; refine Rw.append rfl _ _ rfl HC rfl rfl (Src.nil w _) (ni + M) (by omega) (by omega) ?_; clear HC; intro ax cx W HC))
                have HG0 := HF.out _ _ _ _ HC
                have HG : Hid _ := HG0 (by omega)
                clear HG0
                clear HC HF
                go_wp2_with fail
                go_ret2
                exact HG.out
            · have hcni : ¬ ((c : Nat) : Int) = (nj : Nat) := by omega
              cases a with
              | none =>
                go_enter Try.func38, Try.ntmps38
                go_wp2_with fail
                refine Calls.mono HE1.out ?_
                rintro e w1 ⟨rfl, hw1⟩
                obtain rfl : w = w1 := hw1.symm
                clear HE1
                go_wp2_with fail
                refine Calls.mono HE2.out ?_
                rintro e w1 ⟨rfl, hw1⟩
                obtain rfl : w = w1 := hw1.symm
                clear HE2
                have HC := Rw.start w
                go_wp2_with
                  (first
                    | (at_builtin; refine Rw.append rfl _ _ rfl HC rfl rfl HSA.out (ni) (by omega) (by omega) ?_; clear HC; intro ax cx W HC)
                    | (at_builtin; refine Rw.append rfl _ _ rfl HC rfl rfl HSM.out (ni + M) (by omega) (by omega) ?_; clear HC; intro ax cx W HC)
                    | (at_builtin; refine Rw.append rfl _ _ rfl HC rfl rfl (Src.nil w _) (ni + M) (by omega) (by omega) ?_; clear HC; intro ax cx W HC))
                have HG0 := HF.out _ _ _ _ HC
                have HG : Hid _ := HG0 (by omega)
                clear HG0
                clear HC HF
                go_wp2_with fail
                go_ret2
                exact HG.out
              | some ad =>
                go_enter Try.func38, Try.ntmps38
                go_wp2_with fail
                refine Calls.mono HE1.out ?_
                rintro e w1 ⟨rfl, hw1⟩
                obtain rfl : w = w1 := hw1.symm
                clear HE1
                go_wp2_with fail
                refine Calls.mono HE2.out ?_
                rintro e w1 ⟨rfl, hw1⟩
                obtain rfl : w = w1 := hw1.symm
                clear HE2
                have HC := Rw.start w
                go_wp2_with
                  (first
                    | (at_builtin; refine Rw.append rfl _ _ rfl HC rfl rfl HSA.out (ni) (by omega) (by omega) ?_; clear HC; intro ax cx W HC)
                    | (at_builtin; refine Rw.append rfl _ _ rfl HC rfl rfl HSM.out (ni + M) (by omega) (by omega) ?_; clear HC; intro ax cx W HC)
                    | (at_builtin; refine Rw.append rfl _ _ rfl HC rfl rfl (Src.nil w _) (ni + M) (by omega) (by omega) ?_; clear HC; intro ax cx W HC))
                have HG0 := HF.out _ _ _ _ HC
                have HG : Hid _ := HG0 (by omega)
                clear HG0
                clear HC HF
                go_wp2_with fail
                go_ret2
                exact HG.out
          · have hlt : nj < l.length := by omega
            obtain ⟨g, o, rfl, hcl⟩ := Lies.some_at hl (by omega)
            obtain ⟨qs, q1, q2, hsB, hsq⟩ := src_part hl nj l.length (Nat.le_refl _)
            rw [List.take_length] at q1
            have HSB : Hid (Src w (some ⟨g, o + nj * 4, none⟩) (l.length - nj) 4 (qs.flatMap encP)) := hsB
            have HF : Hid (∀ (N : Nat) (W : World) (a9 c9), Rw w W (.slice a9 N c9) N ((([] ++ ps.flatMap encP) ++ pm.flatMap encP) ++ qs.flatMap encP) → N = ni + m.length + (l.length - nj) → LstPost R w (.returned (.tuple #[.slice a9 N c9, .int .i64 0])) W) := fun N W a9 c9 h hN => hfin qs N W a9 c9 q1 hsq hN h
            obtain ⟨L, hL⟩ : ∃ L, L = l.length := ⟨_, rfl⟩
            rw [← hL] at hlt hjl hlc hlen HE1 HE2 hw2 HSB HF hsz ⊢
            rw [← hM] at hmlen HSM HF hcmp hsz ⊢
            have hnci : (nj : Int) ≤ (c : Nat) := by omega
            have hici : (ni : Int) ≤ (c : Nat) := by omega
            have hnLi : (nj : Int) ≤ (L : Nat) := by omega
            have hLci : (L : Int) ≤ (c : Nat) := by omega
            have hcn : ¬ (c = nj) := by omega
            have hcni : ¬ ((c : Nat) : Int) = (nj : Nat) := by omega
            clear hfin hl hm hsA hsM hsB hp1 hm1 hsd hsm hsq q1 q2 e1 hL h1 h2 h3 hR hne hcl hE hD hF hM hm2 hp2
            go_enter Try.func38, Try.ntmps38
            go_wp2_with fail
            refine Calls.mono HE1.out ?_
            rintro e w1 ⟨rfl, hw1⟩
            obtain rfl : w = w1 := hw1.symm
            clear HE1
            go_wp2_with fail
            refine Calls.mono HE2.out ?_
            rintro e w1 ⟨rfl, hw1⟩
            obtain rfl : w = w1 := hw1.symm
            clear HE2
            have HC := Rw.start w
            go_wp2_with
              (first
                | (at_builtin; refine Rw.append rfl _ _ rfl HC rfl rfl HSA.out (ni) (by omega) (by omega) ?_; clear HC; intro ax cx W HC)
                | (at_builtin; refine Rw.append rfl _ _ rfl HC rfl rfl HSM.out (ni + M) (by omega) (by omega) ?_; clear HC; intro ax cx W HC)
                | (at_builtin; refine Rw.append rfl _ _ rfl HC rfl rfl HSB.out (ni + M + (L - nj)) (by omega) (by omega) ?_; clear HC; intro ax cx W HC))
            have HG0 := HF.out _ _ _ _ HC
            have HG : Hid _ := HG0 (by omega)
            clear HG0
            clear HC HF
            go_wp2_with fail
            go_ret2
            exact HG.out
        · rw [if_neg hsz] at hR
          have hcmp : F < ((m.length : Nat) : Int) := by omega
          have HE : Hid (LstPost R w (.returned (.tuple #[.slice none 0 0, .int .i64 2])) w) := by
            show LstPost _ _ _ _
            rw [hR]
            exact ⟨Below.refl _ _, rfl⟩
          clear hl hm hR hsz e1 hE hD hF h1 h2 h3
          go_enter Try.func38, Try.ntmps38
          go_wp2_with fail
          refine Calls.mono HE1.out ?_
          rintro e w1 ⟨rfl, hw1⟩
          obtain rfl : w = w1 := hw1.symm
          clear HE1
          go_wp2_with fail
          refine Calls.mono HE2.out ?_
          rintro e w1 ⟨rfl, hw1⟩
          obtain rfl : w = w1 := hw1.symm
          clear HE2
          go_wp2_with fail
          go_ret2
          exact HE.out
      · rw [if_neg (fun h => h3 h.2.2)] at hR
        have hgt : ((j : Int) < i) := by omega
        have HE : Hid (LstPost R w (.returned (.tuple #[.slice none 0 0, .int .i64 5])) w) := by
          show LstPost _ _ _ _
          rw [hR]
          exact ⟨Below.refl _ _, rfl⟩
        clear hl hm hR
        go_enter Try.func38, Try.ntmps38
        go_wp2_with fail
        refine Calls.mono HE1.out ?_
        rintro e w1 ⟨rfl, hw1⟩
        obtain rfl : w = w1 := hw1.symm
        clear HE1
        go_wp2_with fail
        refine Calls.mono HE2.out ?_
        rintro e w1 ⟨rfl, hw1⟩
        obtain rfl : w = w1 := hw1.symm
        clear HE2
        go_wp2_with fail
        go_ret2
        exact HE.out
    · rw [decide_eq_false h2] at HE2
      rw [if_neg (fun h => h2 h.2.1)] at hR
      have HE : Hid (LstPost R w (.returned (.tuple #[.slice none 0 0, .int .i64 5])) w) := by
        show LstPost _ _ _ _
        rw [hR]
        exact ⟨Below.refl _ _, rfl⟩
      clear hl hm hR
      go_enter Try.func38, Try.ntmps38
      go_wp2_with fail
      refine Calls.mono HE1.out ?_
      rintro e w1 ⟨rfl, hw1⟩
      obtain rfl : w = w1 := hw1.symm
      clear HE1
      go_wp2_with fail
      refine Calls.mono HE2.out ?_
      rintro e w1 ⟨rfl, hw1⟩
      obtain rfl : w = w1 := hw1.symm
      clear HE2
      go_wp2_with fail
      go_ret2
      exact HE.out
  · rw [decide_eq_false h1] at HE1
    rw [if_neg (fun h => h1 h.1)] at hR
    have HE : Hid (LstPost R w (.returned (.tuple #[.slice none 0 0, .int .i64 5])) w) := by
      show LstPost _ _ _ _
      rw [hR]
      exact ⟨Below.refl _ _, rfl⟩
    clear hl hm hR HE2
    go_enter Try.func38, Try.ntmps38
    go_wp2_with fail
    refine Calls.mono HE1.out ?_
    rintro e w1 ⟨rfl, hw1⟩
    obtain rfl : w = w1 := hw1.symm
    clear HE1
    go_wp2_with fail
    go_ret2
    exact HE.out

end Go.Proofs.Ytpnfmcmhcjekfaa

namespace Go.Proofs.Ytpnfmcmhcjekfaa
open Go.RowKit

/-- What 'made' tells. -/
def Made2Post (l m : List VT) (u1 u2 : Value) (w : World) (e : Ending) (w' : World) : Prop :=
  Below w.heap.size w w' ∧ ((∃ b1 b2, e = .returned (.tuple #[.pointer (some ⟨b1, 0, none⟩), .pointer (some ⟨b2, 0, none⟩), .bool true]) ∧ VV w' l (.pointer (some ⟨b1, 0, none⟩)) ∧ VV w' m (.pointer (some ⟨b2, 0, none⟩)) ∧ Lies 17 w' l u1 ∧ Lies 17 w' m u2) ∨ (∃ p q : Option Addr, e = .returned (.tuple #[.pointer p, .pointer q, .bool false])))

set_option maxRecDepth 100000 in
set_option maxHeartbeats 8000000 in
theorem made2_any (n : Nat) (l m : List VT) (a am : Option Addr) (c cm : Nat) (w : World) (hl : Lies (n + 1) w l (.slice a l.length c)) (hm : Lies (n + 1) w m (.slice am m.length cm)) :
    Calls Try.prog 33 #[.agg #[.slice a l.length c, .slice am m.length cm]] w (Made2Post l m (.slice a l.length c) (.slice am m.length cm) w) := by
  obtain ⟨wA, hwA⟩ : ∃ wA, wA = w.alloc (.cells #[.slice a l.length c, .slice am m.length cm] 65) := ⟨_, rfl⟩
  have hbA : Below w.heap.size w wA := by rw [hwA]; exact ((Grew.refl w).alloc _).below
  have hc : wA.cell? ⟨w.heap.size, 1, none⟩ = some (.slice am m.length cm) := by rw [hwA]; simp
  have HO : Hid _ := of_vv n l _ wA (Lies.keeps hbA _ _ _ hl)
  have HwA : Hid (wA = w.alloc (.cells #[.slice a l.length c, .slice am m.length cm] 65)) := hwA
  have HM : Hid (Lies (n + 1) w m (.slice am m.length cm)) := hm
  rw [hwA] at HO
  clear hl hm hwA
  go_enter Try.func33, Try.ntmps33
  go_wp2_with fail
  refine Calls.mono HO.out ?_
  rintro e w1 ⟨hg1, hp1⟩
  rw [← HwA.out] at hg1
  have hb1 : Below w.heap.size w w1 := hbA.trans (hg1.mono hbA.size)
  have hc1 := cell_keeps hg1 hc
  have HO2 : Hid _ := of_vv n m _ w1 (Lies.keeps hb1 _ _ _ HM.out)
  clear HO hc hg1 HM HwA hbA
  have hp1' : ∃ (p : Option Addr) (k : Nat), e = .returned (.tuple #[.pointer p, .int .i64 (k : Int)]) ∧ ((k = 0 ∧ ∃ b, p = some ⟨b, 0, none⟩ ∧ VV w1 l (.pointer p) ∧ Lies 17 w1 l (.slice a l.length c)) ∨ k ≠ 0) := by
    rcases hp1 with ⟨b, rfl, hv, hl⟩ | ⟨k, rfl, hk⟩
    · exact ⟨_, 0, rfl, .inl ⟨rfl, b, rfl, hv, hl⟩⟩
    · exact ⟨_, k, rfl, .inr (by omega)⟩
  obtain ⟨p, k, rfl, HP1⟩ := hp1'
  have HP1 : Hid _ := HP1
  clear hp1
  go_wp2_with fail
  refine Calls.mono HO2.out ?_
  rintro e w2 ⟨hg2, hp2⟩
  have hb2 : Below w.heap.size w w2 := hb1.trans (hg2.mono hb1.size)
  clear HO2 hc1
  rcases HP1.out with ⟨rfl, b1, rfl, hv1, hl1⟩ | hk
  · have HV1 : Hid (VV w2 l (.pointer (some ⟨b1, 0, none⟩))) := hv1.keeps hg2
    have HL1 : Hid (Lies 17 w2 l (.slice a l.length c)) := Lies.keeps hg2 _ _ _ hl1
    clear HP1 hv1 hl1
    rcases hp2 with ⟨b2, rfl, hv2, hl2⟩ | ⟨k2, rfl, hk2⟩
    · have HE : Hid (Made2Post l m (.slice a l.length c) (.slice am m.length cm) w (.returned (.tuple #[.pointer (some ⟨b1, 0, none⟩), .pointer (some ⟨b2, 0, none⟩), .bool true])) w2) := ⟨hb2, .inl ⟨b1, b2, rfl, HV1.out, hv2, HL1.out, hl2⟩⟩
      clear HV1 HL1 hv2 hl2
      go_wp2_with fail
      go_ret3
      exact HE.out
    · have hkz : ¬ ((k2 : Int) = 0) := by omega
      have HE : Hid (Made2Post l m (.slice a l.length c) (.slice am m.length cm) w (.returned (.tuple #[.pointer (some ⟨b1, 0, none⟩), .pointer none, .bool false])) w2) := ⟨hb2, .inr ⟨_, _, rfl⟩⟩
      clear HV1 HL1 hk2
      go_wp2_with fail
      go_ret3
      exact HE.out
  · have hkz : ¬ ((k : Int) = 0) := by omega
    obtain ⟨q, k2, rfl⟩ : ∃ (q : Option Addr) (k2 : Nat), e = .returned (.tuple #[.pointer q, .int .i64 (k2 : Int)]) := by
      rcases hp2 with ⟨b2, rfl, _⟩ | ⟨k2, rfl, _⟩
      · exact ⟨_, 0, rfl⟩
      · exact ⟨_, k2, rfl⟩
    have HE : Hid (Made2Post l m (.slice a l.length c) (.slice am m.length cm) w (.returned (.tuple #[.pointer p, .pointer q, .bool false])) w2) := ⟨hb2, .inr ⟨_, _, rfl⟩⟩
    clear HP1 hp2 hk
    go_wp2_with fail
    go_ret3
    exact HE.out

end Go.Proofs.Ytpnfmcmhcjekfaa

