/-
  The document's Concat.
-/
import Derived.Test.YtcijekihjdofeaaEqF
import Derived.Test.YtcijekihjdofeaaVals
import Derived.Deep.AppendLies
import Derived.Deep.RegionLaw
namespace Go.Proofs.Ytcijekihjdofeaa
open Go.RowKit

/-- What Concat tells. -/
def catR (l m : List VT) : List VT ⊕ Nat := if (l ++ m).length ≤ 65536 then .inl (l ++ m) else .inr 2

/-- Join of vectors whose items are right. -/
theorem join_vv (vs : List (List VT × Value)) (B : Nat) (w : World) (hc : ∀ (i : Nat) (hi : i < vs.length), w.cell? ⟨B, i, none⟩ = some (vs[i]'hi).2) (h1 : 1 ≤ vs.length) (h2 : vs.length ≤ 65536) (hv : ∀ p ∈ vs, VV w p.1 p.2) : Calls Try.prog 53 #[.slice (some ⟨B, 0, none⟩) vs.length vs.length] w (VvPost (joinR vs) w) := by
  refine Calls.mono (join_any 16 vs _ w ⟨some ⟨B, 0, none⟩, vs.length, by rw [List.length_map], by rw [List.length_map]; exact Nat.le_refl _, fun _ => ⟨B, 0, rfl, fun i hi => by rw [List.getElem_map, Nat.zero_add]; exact hc i (by rw [List.length_map] at hi; exact hi)⟩⟩ h1 h2 (fun i hi => ⟨(hv _ (List.getElem_mem hi)).vc, (hv _ (List.getElem_mem hi)).len⟩)) ?_
  intro e w' hp
  refine VecPost.vv hp (fun m hm => ?_)
  unfold joinR at hm
  by_cases hl : (vs.flatMap (·.1)).length ≤ 65536
  · rw [if_pos hl] at hm
    injection hm with hm
    subst hm
    refine ⟨hl, List.all_eq_true.2 fun x hx => ?_⟩
    obtain ⟨p, hp1, hp2⟩ := List.mem_flatMap.1 hx
    exact List.all_eq_true.1 (hv p hp1).right x hp2
  · rw [if_neg hl] at hm; cases hm

set_option maxRecDepth 100000 in
set_option maxHeartbeats 4000000 in
theorem concat_any (l m : List VT) (p q : Value) (w : World) (h : VV w l p) (h2 : VV w m q) : Calls Try.prog 35 #[p, q] w (VvPost (catR l m) w) := by
  obtain ⟨po, rfl⟩ := h.vc.shape
  obtain ⟨qo, rfl⟩ := h2.vc.shape
  have hba : Below w.heap.size w (w.alloc (.cells #[.pointer po, .pointer qo] 23)) := ((Grew.refl w).alloc _).below
  obtain ⟨R, hR⟩ : ∃ R, R = catR l m := ⟨_, rfl⟩
  have HJ : Hid (Calls Try.prog 53 #[.slice (some ⟨w.heap.size, 0, none⟩) 2 2] (w.alloc (.cells #[.pointer po, .pointer qo] 23)) (VvPost R w)) := by
    have h9 := join_vv [(l, .pointer po), (m, .pointer qo)] w.heap.size (w.alloc (.cells #[.pointer po, .pointer qo] 23)) (fun i hi => by
      match i, hi with
      | 0, _ => simp
      | 1, _ => simp) (by simp) (by simp) (fun p hp => by
      simp only [List.mem_cons, List.not_mem_nil, or_false] at hp
      rcases hp with rfl | rfl
      · exact h.keeps hba
      · exact h2.keeps hba)
    have e : joinR [(l, .pointer po), (m, .pointer qo)] = R := by
      rw [hR]; unfold joinR catR; simp
    rw [e] at h9
    refine Calls.mono h9 (fun e w' hp => ⟨hba.trans (hp.1.mono hba.size), hp.2⟩)
  rw [← hR]
  clear h h2 hR hba
  go_enter Try.func35, Try.ntmps35
  go_wp2_with fail
  refine Calls.mono HJ.out ?_
  intro e w2 hp2
  have HE : Hid (VvPost R w e w2) := hp2
  obtain ⟨_, hp2⟩ := hp2
  clear HJ
  cases R with
  | inl m =>
    obtain ⟨b2, rfl, _⟩ := hp2
    go_wp2_with fail
    go_ret2
    exact HE.out
  | inr k =>
    subst hp2
    go_wp2_with fail
    go_ret2
    exact HE.out

/-- What Splice tells. -/
def spliceR (l : List VT) (i j : Int) (m : List VT) : List VT ⊕ Nat := if endB l i ∧ endB l j ∧ i ≤ j then (if (l.take i.toNat ++ (m ++ l.drop j.toNat)).length ≤ 65536 then .inl (l.take i.toNat ++ (m ++ l.drop j.toNat)) else .inr 2) else .inr 5

set_option maxRecDepth 100000 in
set_option maxHeartbeats 8000000 in
theorem splice_any (l m : List VT) (p q : Value) (i j : Int) (w : World) (h : VV w l p) (h2 : VV w m q) : Calls Try.prog 37 #[p, .int .i64 i, .int .i64 j, q] w (VvPost (spliceR l i j m) w) := by
  obtain ⟨po, rfl⟩ := h.vc.shape
  obtain ⟨qo, rfl⟩ := h2.vc.shape
  obtain ⟨R, hR⟩ : ∃ R, R = spliceR l i j m := ⟨_, rfl⟩
  have HC : Hid _ := cut_any l _ j w h
  rw [← hR]
  have HQ : Hid (VV w m (.pointer qo)) := h2
  have HJ : Hid (∀ V b1 b2, endB l j → i ≤ j → 0 ≤ i → VV V (l.take i.toNat) (.pointer (some ⟨b1, 0, none⟩)) → VV V m (.pointer qo) → VV V (l.drop j.toNat) (.pointer (some ⟨b2, 0, none⟩)) → Calls Try.prog 53 #[.slice (some ⟨V.heap.size, 0, none⟩) 3 3] (V.alloc (.cells #[.pointer (some ⟨b1, 0, none⟩), .pointer qo, .pointer (some ⟨b2, 0, none⟩)] 23)) (VvPost R V)) := fun V b1 b2 hj hij h0 k1 k2 k3 => by
    have hba : Below V.heap.size V (V.alloc (.cells #[.pointer (some ⟨b1, 0, none⟩), .pointer qo, .pointer (some ⟨b2, 0, none⟩)] 23)) := ((Grew.refl V).alloc _).below
    have h9 := join_vv [(l.take i.toNat, .pointer (some ⟨b1, 0, none⟩)), (m, .pointer qo), (l.drop j.toNat, .pointer (some ⟨b2, 0, none⟩))] V.heap.size (V.alloc (.cells #[.pointer (some ⟨b1, 0, none⟩), .pointer qo, .pointer (some ⟨b2, 0, none⟩)] 23)) (fun i hi => by
      match i, hi with
      | 0, _ => simp
      | 1, _ => simp
      | 2, _ => simp) (by simp) (by simp) (fun p hp => by
      simp only [List.mem_cons, List.not_mem_nil, or_false] at hp
      rcases hp with rfl | rfl | rfl
      · exact k1.keeps hba
      · exact k2.keeps hba
      · exact k3.keeps hba)
    have e : joinR [(l.take i.toNat, .pointer (some ⟨b1, 0, none⟩)), (m, .pointer qo), (l.drop j.toNat, .pointer (some ⟨b2, 0, none⟩))] = R := by
      have hc : endB l i ∧ endB l j ∧ i ≤ j := ⟨⟨h0, by omega⟩, hj, hij⟩
      rw [hR]
      unfold joinR spliceR
      rw [if_pos hc]
      simp only [List.flatMap_cons, List.flatMap_nil, List.append_nil]
    rw [e] at h9
    refine Calls.mono h9 (fun e w' hp => ⟨hba.trans (hp.1.mono hba.size), hp.2⟩)
  clear h h2
  have HN : Hid (¬ (endB l i ∧ endB l j ∧ i ≤ j) → R = .inr 5) := fun hn => by
    rw [hR]; unfold spliceR; rw [if_neg hn]
  clear hR
  go_enter Try.func37, Try.ntmps37
  go_wp2_with fail
  refine Calls.mono HC.out ?_
  rintro e w1 ⟨hb1, hp1⟩
  rcases hp1 with ⟨hj, b1, b2, rfl, hv1, hv2⟩ | ⟨hj, rfl⟩
  · have HF : Hid _ := vfirst_vv (l.take j.toNat) _ i w1 hv1
    have HV2 : Hid (VV w1 (l.drop j.toNat) (.pointer (some ⟨b2, 0, none⟩))) := hv2
    have hlt : (l.take j.toNat).length = j.toNat := by rw [List.length_take]; have := hj.2; omega
    by_cases hi : endB (l.take j.toNat) i
    · have hij : i ≤ j := by have := hi.2; rw [hlt] at this; omega
      have h0 : 0 ≤ i := hi.1
      unfold firstR at HF
      rw [if_pos hi, List.take_take, show min i.toNat j.toNat = i.toNat by omega] at HF
      clear HC hv1 hv2 hi hlt
      go_wp2_with fail
      refine Calls.mono HF.out ?_
      rintro e w3 ⟨hb3, b3, rfl, hv3⟩
      have HJ3 : Hid _ := HJ.out w3 b3 b2 hj hij h0 hv3 ((HQ.out.keeps hb1).keeps hb3) (HV2.out.keeps hb3)
      have hbw : Below w.heap.size w w3 := hb1.trans (hb3.mono hb1.size)
      clear HF HJ hv3 HV2 HQ hb3
      go_wp2_with fail
      refine Calls.mono HJ3.out ?_
      intro e w4 hp4
      have HE : Hid (VvPost R w e w4) := ⟨hbw.trans (hp4.1.mono hbw.size), hp4.2⟩
      obtain ⟨_, hp4⟩ := hp4
      clear HJ3
      cases R with
      | inl m =>
        obtain ⟨b4, rfl, _⟩ := hp4
        go_wp2_with fail
        go_ret2
        exact HE.out
      | inr k =>
        subst hp4
        go_wp2_with fail
        go_ret2
        exact HE.out
    · have hR5 : R = .inr 5 := HN.out (fun h => hi ⟨h.1.1, by rw [hlt]; have := h.2.2; have := h.1.1; omega⟩)
      have HR5 : Hid (R = .inr 5) := hR5
      unfold firstR at HF
      rw [if_neg hi] at HF
      clear HC hv1 hv2 hi hlt HJ hj hR5
      go_wp2_with fail
      refine Calls.mono HF.out ?_
      rintro e w3 ⟨hb3, rfl⟩
      have HE : Hid (VvPost R w (.returned (.tuple #[.pointer none, .int .i64 5])) w3) := by
        show VvPost _ _ _ _
        rw [HR5.out]
        exact ⟨hb1.trans (hb3.mono hb1.size), rfl⟩
      clear HF
      go_wp2_with fail
      go_ret2
      exact HE.out
  · have HR5 : Hid (R = .inr 5) := HN.out (fun h => hj h.2.1)
    have HE : Hid (VvPost R w (.returned (.tuple #[.pointer none, .int .i64 5])) w1) := by
      show VvPost _ _ _ _
      rw [HR5.out]
      exact ⟨hb1, rfl⟩
    clear HC HJ hj HR5 HN
    go_wp2_with fail
    go_ret2
    exact HE.out

set_option maxRecDepth 100000 in
set_option maxHeartbeats 8000000 in
theorem speaks12_any (w : World) : Calls Try.prog 34 #[] w fun e w' => e = .returned (.bool true) ∧ Below w.heap.size w w' := by
  have HI : Hid (∀ (V : World) (b : Nat) (zs : List Int), zs ≠ [] → zs.length ≤ 1000 → (∀ (i : Nat) (h : i < zs.length), V.cell? ⟨b, 0 + i, none⟩ = some (.int .i64 (zs[i]'h))) → Calls Try.prog 46 #[.slice (some ⟨b, 0, none⟩) zs.length zs.length] V fun e w' => ∃ g c, e = .returned (.slice (some ⟨g, 0, none⟩) zs.length c) ∧ Lies 17 w' (zs.map numT) (.slice (some ⟨g, 0, none⟩) zs.length c) ∧ Below V.heap.size V w') := fun V b zs h0 h1 h2 => nums_any zs b _ V h0 h1 h2
  have HO : Hid (∀ V v (zs : List Int), zs.length ≤ 1000 → Lies 17 V (zs.map numT) v → Calls Try.prog 9 #[v] V fun e w' => ∃ b, e = .returned (.tuple #[.pointer (some ⟨b, 0, none⟩), .int .i64 0]) ∧ VV w' (zs.map numT) (.pointer (some ⟨b, 0, none⟩)) ∧ Below V.heap.size V w') := fun V v zs hz hv => by
    have h9 := of_any _ v V hv
    rw [nums_of zs hz] at h9
    refine Calls.mono h9 ?_
    rintro e w1 ⟨hb, b, rfl, hvc⟩
    exact ⟨b, rfl, ⟨hvc, by rw [List.length_map]; omega, nums_right zs⟩, hb⟩
  have HI1 : Hid (Calls Try.prog 46 #[.slice (some ⟨w.heap.size, 0, none⟩) 2 2] (w.alloc (.cells #[.int .i64 1, .int .i64 2] 2)) fun e w' => ∃ g c, e = .returned (.slice (some ⟨g, 0, none⟩) 2 c) ∧ Lies 17 w' ([1, 2].map numT) (.slice (some ⟨g, 0, none⟩) 2 c) ∧ Below w.heap.size w w') := by
    have hbA : Below w.heap.size w (w.alloc (.cells #[.int .i64 1, .int .i64 2] 2)) := ((Grew.refl w).alloc _).below
    refine Calls.mono (HI.out _ w.heap.size [1, 2] (by simp) (by simp) (fun i hi => by
      match i, hi with
      | 0, _ => simp
      | 1, _ => simp)) ?_
    rintro e w1 ⟨g, c, rfl, hl, hb⟩
    exact ⟨g, c, rfl, hl, hbA.trans (hb.mono hbA.size)⟩
  have HI2 : Hid (∀ V : World, Calls Try.prog 46 #[.slice (some ⟨V.heap.size, 0, none⟩) 1 1] (V.alloc (.cells #[.int .i64 3] 2)) fun e w' => ∃ g c, e = .returned (.slice (some ⟨g, 0, none⟩) 1 c) ∧ Lies 17 w' ([3].map numT) (.slice (some ⟨g, 0, none⟩) 1 c) ∧ Below V.heap.size V w') := fun V => by
    have hbA : Below V.heap.size V (V.alloc (.cells #[.int .i64 3] 2)) := ((Grew.refl V).alloc _).below
    refine Calls.mono (HI.out _ V.heap.size [3] (by simp) (by simp) (fun i hi => by
      match i, hi with
      | 0, _ => simp)) ?_
    rintro e w1 ⟨g, c, rfl, hl, hb⟩
    exact ⟨g, c, rfl, hl, hbA.trans (hb.mono hbA.size)⟩
  have HI3 : Hid (∀ V : World, Calls Try.prog 46 #[.slice (some ⟨V.heap.size, 0, none⟩) 3 3] (V.alloc (.cells #[.int .i64 1, .int .i64 2, .int .i64 3] 2)) fun e w' => ∃ g c, e = .returned (.slice (some ⟨g, 0, none⟩) 3 c) ∧ Lies 17 w' ([1, 2, 3].map numT) (.slice (some ⟨g, 0, none⟩) 3 c) ∧ Below V.heap.size V w') := fun V => by
    have hbA : Below V.heap.size V (V.alloc (.cells #[.int .i64 1, .int .i64 2, .int .i64 3] 2)) := ((Grew.refl V).alloc _).below
    refine Calls.mono (HI.out _ V.heap.size [1, 2, 3] (by simp) (by simp) (fun i hi => by
      match i, hi with
      | 0, _ => simp
      | 1, _ => simp
      | 2, _ => simp)) ?_
    rintro e w1 ⟨g, c, rfl, hl, hb⟩
    exact ⟨g, c, rfl, hl, hbA.trans (hb.mono hbA.size)⟩
  clear HI
  go_enter Try.func34, Try.ntmps34
  go_wp2_with fail
  refine Calls.mono HI1.out ?_
  rintro e w1 ⟨g1, c1, rfl, hl1, hb1⟩
  have HO1 : Hid _ := HO.out w1 _ [1, 2] (by simp) hl1
  clear HI1 hl1
  go_wp2_with fail
  refine Calls.mono HO1.out ?_
  rintro e w2 ⟨b2, rfl, hv2, hg2⟩
  have hb2 : Below w.heap.size w w2 := hb1.trans (hg2.mono hb1.size)
  have HV2 : Hid (VV w2 ([1, 2].map numT) (.pointer (some ⟨b2, 0, none⟩))) := hv2
  have HI2w : Hid _ := HI2.out w2
  clear HO1 hv2 hg2 HI2
  go_wp2_with fail
  refine Calls.mono HI2w.out ?_
  rintro e w3 ⟨g3, c3, rfl, hl3, hg3⟩
  have hb3 : Below w.heap.size w w3 := hb2.trans (hg3.mono hb2.size)
  have HV3 : Hid (VV w3 ([1, 2].map numT) (.pointer (some ⟨b2, 0, none⟩))) := HV2.out.keeps hg3
  have HO3 : Hid _ := HO.out w3 _ [3] (by simp) hl3
  clear HI2w hl3 hg3 HV2 HO
  go_wp2_with fail
  refine Calls.mono HO3.out ?_
  rintro e w4 ⟨b4, rfl, hv4, hg4⟩
  have hb4 : Below w.heap.size w w4 := hb3.trans (hg4.mono hb3.size)
  have HC : Hid (Calls Try.prog 35 #[.pointer (some ⟨b2, 0, none⟩), .pointer (some ⟨b4, 0, none⟩)] w4 (VvPost (.inl ([1, 2, 3].map numT)) w4)) := concat_any _ _ _ _ w4 (HV3.out.keeps hg4) hv4
  clear HO3 hv4 hg4 HV3
  go_wp2_with fail
  refine Calls.mono HC.out ?_
  rintro e w5 ⟨hg5, b5, rfl, hv5⟩
  have hb5 : Below w.heap.size w w5 := hb4.trans (hg5.mono hb4.size)
  have HIt : Hid _ := items_any _ _ w5 hv5.vc hv5.len hv5.right
  clear HC hv5 hg5
  go_wp2_with fail
  refine Calls.mono HIt.out ?_
  rintro e w6 ⟨v6, rfl, hv6, hg6⟩
  have hb6 : Below w.heap.size w w6 := hb5.trans (hg6.mono hb5.size)
  have HL6 : Hid (Lies 17 w6 ([1, 2, 3].map numT) v6) := LiesB.lies _ _ _ hv6
  obtain ⟨a6, c6, rfl, _⟩ := Lies.slice HL6.out
  have HI3w : Hid _ := HI3.out w6
  clear HIt hv6 hg6 HI3
  go_wp2_with fail
  refine Calls.mono HI3w.out ?_
  rintro e w7 ⟨g7, c7, rfl, hl7, hg7⟩
  have hb7 : Below w.heap.size w w7 := hb6.trans (hg7.mono hb6.size)
  have HVs : Hid _ := values_one 16 ([1, 2, 3].map numT) _ _ w7 (Lies.keeps hg7 _ _ _ HL6.out) hl7 (by simp)
  clear HI3w hl7 hg7 HL6
  go_wp2_with fail
  refine Calls.mono HVs.out ?_
  rintro e w8 ⟨rfl, hg8⟩
  go_wp2_with fail
  go_ret
  exact ⟨rfl, hb7.trans (hg8.mono hb7.size)⟩

end Go.Proofs.Ytcijekihjdofeaa

namespace Go.Proofs.Ytcijekihjdofeaa
open Go.RowKit

/-- A list is told, or an error. -/
def LstPost (r : List VT ⊕ Nat) (w : World) (e : Ending) (w' : World) : Prop :=
  Below w.heap.size w w' ∧ match r with
  | .inl m => ∃ a c, e = .returned (.tuple #[.slice a m.length c, .int .i64 0]) ∧ Lies 17 w' m (.slice a m.length c)
  | .inr k => e = .returned (.tuple #[.slice none 0 0, .int .i64 (k : Int)])

theorem src_of {w : World} {l : List VT} {a : Option Addr} {c : Nat} (h : Lies 17 w l (.slice a l.length c)) : ∃ ps : List (VT × Value), ps.map (·.1) = l ∧ ps.length = l.length ∧ Src w a l.length 4 (ps.flatMap encP) ∧ ∀ p ∈ ps, Sound 16 w p := by
  obtain ⟨ps, h1, h2, h3⟩ := SlP.of_lies h
  obtain ⟨_, _, e, _, _, _, h4⟩ := id h3
  exact ⟨ps, h1, h2, SlP.src h3, h4⟩

set_option maxRecDepth 100000 in
set_option maxHeartbeats 8000000 in
theorem rpush_any (n : Nat) (l : List VT) (a : Option Addr) (c : Nat) (x : VT) (ax : Option Addr) (cx : Nat) (w : World) (hl : Lies 17 w l (.slice a l.length c)) (hlen : l.length ≤ 65536) (hx : Lies n w x.items (.slice ax x.items.length cx)) (hts : x.text.size ≤ 9223372036854775807) :
    Calls Try.prog 21 #[.slice a l.length c, .agg #[.int .i64 x.kind, .int .i64 x.num, .string x.text, .slice ax x.items.length cx]] w (LstPost (pushN n l x) w) := by
  obtain ⟨i0, hi, hz0, hz1, hz2⟩ := info24
  have Hi : Hid _ := hi; have Hz0 : Hid _ := hz0; have Hz1 : Hid _ := hz1; have Hz2 : Hid _ := hz2
  obtain ⟨wA, hwA⟩ : ∃ wA, wA = w.alloc (.cells #[.int .i64 x.kind, .int .i64 x.num, .string x.text, .slice ax x.items.length cx] 31) := ⟨_, rfl⟩
  have hbA : Below w.heap.size w wA := by rw [hwA]; exact ((Grew.refl w).alloc _).below
  have HRt : Hid _ := right_any n x (.slice ax x.items.length cx) wA (Lies.keeps hbA _ _ _ hx)
  have HBx : Hid (Bx wA w.heap.size x (.slice ax x.items.length cx)) := by rw [hwA]; exact bx_alloc w x _
  obtain ⟨x0, x1, x2, x3, _, _, _, _⟩ := HBx.out
  have HwA : Hid (wA = w.alloc (.cells #[.int .i64 x.kind, .int .i64 x.num, .string x.text, .slice ax x.items.length cx] 31)) := hwA
  obtain ⟨R, hR⟩ : ∃ R, R = pushN n l x := ⟨_, rfl⟩
  rw [← hR]
  unfold pushN at hR
  clear hi hz0 hz1 hz2
  rw [hwA] at HRt x0 x1 x2 x3
  by_cases hr : rightV n x = true
  · rw [if_pos hr] at hR
    rw [hr] at HRt
    by_cases hs : l.length + 1 ≤ 65536
    · rw [if_pos hs] at hR
      have HR : Hid (R = .inl (l ++ [x])) := hR
      obtain ⟨ps, hp1, hp2, hsrc, hsd⟩ := src_of hl
      have HS : Hid (Src w a l.length 4 (ps.flatMap encP)) := hsrc
      have Hx16 : Hid (Lies 16 w x.items (.slice ax x.items.length cx)) := (canon hx hr).1
      obtain ⟨L, hL⟩ : ∃ L, L = l.length := ⟨_, rfl⟩
      rw [← hL] at hs HS ⊢
      have hLi : ¬ ((L : Nat) : Int) = 65536 := by omega
      have HF : Hid (∀ (v : Value) (w' : World), w'.ownsRow w.heap.size 31 4 v (L + 1) (ps.flatMap encP ++ encP (x, .slice ax x.items.length cx)) → Below w.heap.size w w' → ∃ a c, v = .slice a (l ++ [x]).length c ∧ LstPost R w (.returned (.tuple #[v, .int .i64 0])) w') := fun v w' ho hb => by
        have hl9 := own_lies (ps := ps ++ [(x, .slice ax x.items.length cx)]) (d := 16) (n := L + 1) (by rw [List.length_append, hp2, hL]; rfl) (by rw [List.flatMap_append]; simpa using ho) (fun p hp => by
          rcases List.mem_append.1 hp with hp | hp
          · exact (hsd p hp).keeps hb
          · rw [List.mem_singleton.1 hp]
            exact ⟨Lies.keeps hb _ _ _ Hx16.out, hts⟩) (by rw [List.length_append, hp2]; simp; omega)
        have e9 : (ps ++ [(x, Value.slice ax x.items.length cx)]).map (·.1) = l ++ [x] := by rw [List.map_append, hp1]; rfl
        rw [e9] at hl9
        obtain ⟨a9, c9, rfl, _⟩ := Lies.slice hl9
        refine ⟨a9, c9, rfl, ?_⟩
        rw [HR.out]
        exact ⟨hb, a9, c9, rfl, hl9⟩
      clear hl hlen hx hr hR hp1 hsd hsrc hL hwA hts
      go_enter Try.func21, Try.ntmps21
      go_wp2_with fail
      refine Calls.mono HRt.out ?_
      rintro e w1 ⟨rfl, hg1⟩
      rw [← HwA.out] at hg1
      have hb1 : Below w.heap.size w w1 := hbA.trans (hg1.mono hbA.size)
      have HB1 : Hid (Bx w1 w.heap.size x (.slice ax x.items.length cx)) := HBx.out.keeps hg1
      have hs1 : w.heap.size ≤ w1.heap.size := hb1.size
      clear HRt x0 x1 x2 x3 HBx HwA hg1 hbA
      have Hnil : Hid (w1.ownsRow w.heap.size 31 4 (.slice none 0 0) 0 []) := World.ownsRow_nil _ _ _ _
      have HFa : Hid (∀ v2 w2, w2.ownsRow w.heap.size 31 4 v2 (0 + L) ([] ++ ps.flatMap encP) → w1.grownBy w2 (Value.slice none 0 0).ownBlock → Bx w2 w.heap.size x (.slice ax x.items.length cx) ∧ Below w.heap.size w (w2.alloc (.cells #[.int .i64 x.kind, .int .i64 x.num, .string x.text, .slice ax x.items.length cx] 31)) ∧ (w2.alloc (.cells #[.int .i64 x.kind, .int .i64 x.num, .string x.text, .slice ax x.items.length cx] 31)).ownsRow w.heap.size 31 4 v2 L (ps.flatMap encP) ∧ (∀ ad, some (⟨w2.heap.size, 0, none⟩ : Addr) = some ad → ∀ j u, (encP (x, .slice ax x.items.length cx))[j]? = some u → (w2.alloc (.cells #[.int .i64 x.kind, .int .i64 x.num, .string x.text, .slice ax x.items.length cx] 31)).cell? (ad.add j) = some u)) := fun v2 w2 hown2 hgrow2 => by
        have hb2 : Below w.heap.size w w2 := own_growM hb1 hs1 Hnil.out hgrow2
        have hbx : Below w2.heap.size w2 (w2.alloc (.cells #[.int .i64 x.kind, .int .i64 x.num, .string x.text, .slice ax x.items.length cx] 31)) := ((Grew.refl w2).alloc _).below
        refine ⟨HB1.out.keeps ⟨hgrow2.os, hgrow2.tape, hgrow2.output, hgrow2.size, fun k hk => hgrow2.block k hk (by simp [Value.ownBlock])⟩, hb2.trans (hbx.mono hb2.size), World.ownsRow.alloc (by simpa using hown2) _, fun ad e j u hu => ?_⟩
        injection e with e
        subst e
        match j, hu with
        | 0, hu => simp [encP] at hu; subst hu; simp [Addr.add]
        | 1, hu => simp [encP] at hu; subst hu; simp [Addr.add]
        | 2, hu => simp [encP] at hu; subst hu; simp [Addr.add]
        | 3, hu => simp [encP] at hu; subst hu; simp [Addr.add]
      go_wp2_with (first
        | (at_builtin; refine wpList_append_row rfl _ _ rfl w.heap.size i0 Hi.out Hz0.out Hz1.out Hz2.out v2 L (ps.flatMap encP) rfl Hown3.out (some ⟨w2.heap.size, 0, none⟩) 1 1 (encP (x, .slice ax x.items.length cx)) rfl (fun e => nomatch e) rfl Hnews.out (by intro u hu; simp [encP] at hu; rcases hu with rfl | rfl | rfl | rfl <;> rfl) (by unfold maxLen; omega) (by omega) Hb3.out.size ?_; intro v4 w4 hown4 hgrow4)
        | (at_builtin; refine wpList_append_row rfl _ _ rfl w.heap.size i0 Hi.out Hz0.out Hz1.out Hz2.out (.slice none 0 0) 0 [] rfl Hnil.out a L c (ps.flatMap encP) rfl HS.out.none HS.out.len (HS.out.cell hb1) HS.out.one (by unfold maxLen; omega) (by omega) hs1 ?_; intro v2 w2 hown2 hgrow2; obtain ⟨hBx2, hb3, hown3, hnews⟩ := HFa.out v2 w2 hown2 hgrow2; obtain ⟨x0, x1, x2, x3, _, _, _, _⟩ := hBx2; have Hb3 : Hid _ := hb3; have Hown3 : Hid _ := hown3; have Hnews : Hid _ := hnews; clear hown2 hgrow2 hb3 hown3 hnews HFa))
      have hb4 : Below w.heap.size w w4 := own_growM Hb3.out Hb3.out.size Hown3.out hgrow4
      obtain ⟨a4, c4, rfl, hfin⟩ := HF.out v4 w4 hown4 hb4
      have HE : Hid _ := hfin
      clear hown4 hgrow4 hfin
      go_wp2_with fail
      go_ret2
      exact HE.out
    · rw [if_neg hs] at hR
      have HR : Hid (R = .inr 2) := hR
      have hL : l.length = 65536 := by omega
      clear hl hx hr hR hwA hts hs hlen
      rw [hL]
      go_enter Try.func21, Try.ntmps21
      go_wp2_with fail
      refine Calls.mono HRt.out ?_
      rintro e w1 ⟨rfl, hg1⟩
      rw [← HwA.out] at hg1
      have HE : Hid (LstPost R w (.returned (.tuple #[.slice none 0 0, .int .i64 2])) w1) := by
        show LstPost _ _ _ _
        rw [HR.out]
        exact ⟨hbA.trans (hg1.mono hbA.size), rfl⟩
      clear HRt x0 x1 x2 x3 HBx HwA hg1 hbA
      go_wp2_with fail
      go_ret2
      exact HE.out
  · rw [if_neg hr] at hR
    have hr' : rightV n x = false := by simpa using hr
    rw [hr'] at HRt
    have HR : Hid (R = .inr 3) := hR
    clear hl hx hr hr' hR hwA hts hlen
    go_enter Try.func21, Try.ntmps21
    go_wp2_with fail
    refine Calls.mono HRt.out ?_
    rintro e w1 ⟨rfl, hg1⟩
    rw [← HwA.out] at hg1
    have HE : Hid (LstPost R w (.returned (.tuple #[.slice none 0 0, .int .i64 3])) w1) := by
      show LstPost _ _ _ _
      rw [HR.out]
      exact ⟨hbA.trans (hg1.mono hbA.size), rfl⟩
    clear HRt x0 x1 x2 x3 HBx HwA hg1 hbA
    go_wp2_with fail
    go_ret2
    exact HE.out

end Go.Proofs.Ytcijekihjdofeaa

namespace Go.Proofs.Ytcijekihjdofeaa
open Go.RowKit

set_option maxRecDepth 100000 in
theorem rend_any (l : List VT) (a : Option Addr) (c : Nat) (i : Int) (w : World) : Calls Try.prog 63 #[.slice a l.length c, .int .i64 i] w fun e w' => e = .returned (.bool (decide (endB l i))) ∧ w' = w := by
  by_cases h0 : 0 ≤ i
  · by_cases h1 : i ≤ (l.length : Int)
    · rw [decide_eq_true (show endB l i from ⟨h0, h1⟩)]
      go_enter Try.func63, Try.ntmps63
      go_wp2_with fail
      go_ret
      exact ⟨rfl, rfl⟩
    · rw [decide_eq_false (fun h : endB l i => h1 h.2)]
      go_enter Try.func63, Try.ntmps63
      go_wp2_with fail
      go_ret
      exact ⟨rfl, rfl⟩
  · rw [decide_eq_false (fun h : endB l i => h0 h.1)]
    go_enter Try.func63, Try.ntmps63
    go_wp2_with fail
    go_ret
    exact ⟨rfl, rfl⟩

/-- Where a part of a list lies. -/
theorem src_part {w : World} {l : List VT} {g o c : Nat} (h : Lies 17 w l (.slice (some ⟨g, o, none⟩) l.length c)) (i j : Nat) (hj : j ≤ l.length) : ∃ ps : List (VT × Value), ps.map (·.1) = (l.take j).drop i ∧ ps.length = j - i ∧ Src w (some ⟨g, o + i * 4, none⟩) (j - i) 4 (ps.flatMap encP) ∧ ∀ p ∈ ps, Sound 16 w p := by
  have h1 := Lies.taken h j hj
  have e1 : (l.take j).length = j := by rw [List.length_take, Nat.min_eq_left hj]
  have h2 := Lies.dropped (l := l.take j) (by rw [e1]; exact h1) i
  have e2 : ((l.take j).drop i).length = j - i := by rw [List.length_drop, e1]
  rw [e1] at h2
  rw [← e2] at h2
  obtain ⟨ps, p1, p2, p3, p4⟩ := src_of h2
  rw [e2] at p3 p2
  exact ⟨ps, p1, p2, p3, p4⟩

/-- An empty list of one's own. -/
theorem own_empty (w : World) (base : Nat) (hb : base ≤ w.heap.size) : (w.alloc (.cells #[] 31)).ownsRow base 31 4 (.slice (some ⟨w.heap.size, 0, none⟩) 0 0) 0 [] := World.ownsRow_made w #[] 0 hb (by unfold maxLen; omega) rfl

end Go.Proofs.Ytcijekihjdofeaa

namespace Go.Proofs.Ytcijekihjdofeaa
open Go.RowKit

/-- Two rows of one's own, apart. -/
structure Cs (w W : World) (vA : Value) (nA : Nat) (xA : List Value) (vB : Value) (nB : Nat) (xB : List Value) : Prop where
  below : Below w.heap.size w W
  a : W.ownsRow w.heap.size 31 4 vA nA xA
  b : W.ownsRow w.heap.size 31 4 vB nB xB
  ne : vA.ownBlock = none ∨ vA.ownBlock ≠ vB.ownBlock

theorem Cs.symm {w W : World} {vA : Value} {nA : Nat} {xA : List Value} {vB : Value} {nB : Nat} {xB : List Value} (h : Cs w W vA nA xA vB nB xB) : Cs w W vB nB xB vA nA xA :=
  ⟨h.below, h.b, h.a, by
    cases e : vB.ownBlock with
    | none => exact .inl rfl
    | some k =>
      refine .inr (fun e2 => ?_)
      rcases h.ne with e3 | e3
      · rw [e3] at e2; cases e2
      · exact e3 (by rw [e, ← e2])⟩

theorem Cs.drew {w W : World} {vA : Value} {nA : Nat} {xA : List Value} {vB : Value} {nB : Nat} {xB : List Value} (h : Cs w W vA nA xA vB nB xB) : Cs w W.drew vA nA xA vB nB xB := ⟨h.below.drew, h.a.drew, h.b.drew, h.ne⟩

theorem Cs.start (w : World) : Cs w w (.slice none 0 0) 0 [] (.slice none 0 0) 0 [] := ⟨Below.refl _ _, World.ownsRow_nil _ _ _ _, World.ownsRow_nil _ _ _ _, .inl rfl⟩

theorem Cs.made {w W : World} {vB : Value} {nB : Nat} {xB : List Value} (h : Cs w W (.slice none 0 0) 0 [] vB nB xB) : Cs w (W.alloc (.cells #[] 31)) (.slice (some ⟨W.heap.size, 0, none⟩) 0 0) 0 [] vB nB xB :=
  ⟨h.below.alloc h.below.size _, own_empty W _ h.below.size, h.b.alloc _, .inr (fun e => by
    have : W.heap.size < W.heap.size := (h.b.lt _ e.symm).2
    omega)⟩

theorem Cs.made2 {w W : World} {vA : Value} {nA : Nat} {xA : List Value} (h : Cs w W vA nA xA (.slice none 0 0) 0 []) : Cs w (W.alloc (.cells #[] 31)) vA nA xA (.slice (some ⟨W.heap.size, 0, none⟩) 0 0) 0 [] := h.symm.made.symm

theorem Cs.madeG {w W : World} {vB : Value} {nB : Nat} {xB : List Value} {g : Nat} (h : Cs w W (.slice none 0 0) 0 [] vB nB xB) (hg : W.heap.size = g) : Cs w (W.alloc (.cells #[] 31)) (.slice (some ⟨g, 0, none⟩) 0 0) 0 [] vB nB xB := hg ▸ h.made

theorem Cs.made2G {w W : World} {vA : Value} {nA : Nat} {xA : List Value} {g : Nat} (h : Cs w W vA nA xA (.slice none 0 0) 0 []) (hg : W.heap.size = g) : Cs w (W.alloc (.cells #[] 31)) vA nA xA (.slice (some ⟨g, 0, none⟩) 0 0) 0 [] := hg ▸ h.made2

theorem Src.nil (w : World) (a : Option Addr) : Src w a 0 4 [] := ⟨fun _ => rfl, rfl, fun _ _ _ _ h => by simp at h, fun u h => by cases h⟩

/-- A source appended to the first one, while it is empty. -/
theorem Cs.step {w W : World} {ops : Array Oper} {o : Oper} {act : Act} {K : Act → World → Prop} {Q : Exit → Act → World → Prop} {E : Prop} (hgd : o.guard = none) (s x : Operand)
    (ho : o.op = .call { callee := .builtin .append, args := #[s, x], argTypes := #[22, 22] })
    {g : Nat} {vB : Value} {nB : Nat} {xB : List Value} (hs : act.eval s = .slice (some ⟨g, 0, none⟩) 0 0) {aa : Option Addr} {m c : Nat} (hx : act.eval x = .slice aa m c) (hc : Cs w W (.slice (some ⟨g, 0, none⟩) 0 0) 0 [] vB nB xB)
    {news : List Value} (hsrc : Src w aa m 4 news) (hm : m ≤ 65536)
    (h : ∀ a' c' W', Cs w W' (.slice a' m c') m news vB nB xB → K (act.put o.dst (.slice a' m c')) W') :
    if Region.wanted o (yielded ops act.tmps) = true then Oper.wp Try.prog o act W K Q else E := by
  have hw : Region.wanted o (yielded ops act.tmps) = true := by simp [Region.wanted, hgd]
  rw [if_pos hw]
  obtain ⟨i0, hi, hz0, hz1, hz2⟩ := info24
  by_cases h0 : m = 0
  · subst h0
    have hn : news = [] := List.eq_nil_of_length_eq_zero (by have := hsrc.len; omega)
    subst hn
    have hr : ∀ ty, (Builtin.append_ #[22, 22] ty #[.slice (some ⟨g, 0, none⟩) 0 0, .slice aa 0 c]).run Try.prog W = .ok (.slice (some ⟨g, 0, none⟩) 0 0) W := fun ty => by
      cases aa <;> simp [Builtin.append_, run_underlying Try.underlying22, sizeOf, typeInfo, hi, Builtin.lenOf, Builtin.firstCells, loadCells, loadCellsFrom, storeCells]
    unfold Oper.wp execOp
    simp only [ho, resolve, invoke, builtin, Sem.run_bind, Sem.run_pure, Result.andThen_ok, List.map_toArray, List.map_cons, List.map_nil, hs, hx, hr]
    exact h _ _ _ hc
  · obtain ⟨ad, rfl⟩ : ∃ ad, aa = some ad := by
      cases e : aa with
      | none => exact absurd (hsrc.none e) h0
      | some ad => exact ⟨ad, rfl⟩
    obtain ⟨g', cap, w', hr, r1, r2, r3, r4⟩ := run_append_lies (P := Try.prog) W 22 o.type w.heap.size 31 i0 _ 4 56 Try.underlying22 hi hz0 hz1 hz2 rfl (by decide) _ 0 [] hc.a ad m c news hsrc.len (hsrc.cell hc.below ad rfl) hsrc.one (by omega) (by unfold maxLen; omega) (by omega) hc.below.size _ rfl
    rw [Nat.zero_add, List.nil_append] at r1
    unfold Oper.wp execOp
    simp only [ho, resolve, invoke, builtin, Sem.run_bind, Sem.run_pure, Result.andThen_ok, List.map_toArray, List.map_cons, List.map_nil, hs, hx, hr, Nat.zero_add]
    refine h _ _ _ ⟨hc.below.grown r2 hc.below.size (fun k e => (hc.a.lt k e).1), r1, hc.b.kept r2 hc.symm.ne, .inr (fun e => ?_)⟩
    have e1 : vB.ownBlock = some g' := e.symm
    rcases r3 with r3 | r3
    · rcases hc.ne with e3 | e3
      · rw [e3] at r3; cases r3
      · exact e3 (r3.trans e1.symm)
    · have := (hc.b.lt _ e1).2
      omega

/-- A list cut is told, or an error. -/
def CutL (l : List VT) (i : Int) (w : World) (e : Ending) (w' : World) : Prop :=
  Below w.heap.size w w' ∧ if endB l i then ∃ a1 c1 a2 c2, e = .returned (.tuple #[.slice a1 (l.take i.toNat).length c1, .slice a2 (l.drop i.toNat).length c2, .int .i64 0]) ∧ Lies 17 w' (l.take i.toNat) (.slice a1 (l.take i.toNat).length c1) ∧ Lies 17 w' (l.drop i.toNat) (.slice a2 (l.drop i.toNat).length c2)
    else e = .returned (.tuple #[.slice none 0 0, .slice none 0 0, .int .i64 5])

end Go.Proofs.Ytcijekihjdofeaa

namespace Go.Proofs.Ytcijekihjdofeaa
open Go.RowKit

end Go.Proofs.Ytcijekihjdofeaa

namespace Go.Proofs.Ytcijekihjdofeaa
open Go.RowKit

/-- What Of tells, right or not. -/
theorem of_vv (n : Nat) (l : List VT) (u : Value) (w : World) (hl : Lies (n + 1) w l u) : Calls Try.prog 9 #[u] w fun e w' => Below w.heap.size w w' ∧ ((∃ b, e = .returned (.tuple #[.pointer (some ⟨b, 0, none⟩), .int .i64 0]) ∧ VV w' l (.pointer (some ⟨b, 0, none⟩)) ∧ Lies 17 w' l u) ∨ (∃ k : Nat, e = .returned (.tuple #[.pointer none, .int .i64 (k : Int)]) ∧ (k = 2 ∨ k = 3))) := by
  refine Calls.mono (of_n n l _ w hl) ?_
  rintro e w' ⟨hb, hp⟩
  refine ⟨hb, ?_⟩
  unfold ofN at hp
  by_cases h1 : 65536 < l.length
  · rw [if_pos h1] at hp
    exact .inr ⟨2, hp, .inl rfl⟩
  · rw [if_neg h1] at hp
    by_cases h2 : l.all (rightV n) = true
    · rw [if_pos h2] at hp
      obtain ⟨b, rfl, hv⟩ := hp
      exact .inl ⟨b, rfl, ⟨hv, by omega, (canonL hl h2).2⟩, Lies.keeps hb _ _ _ (canonL hl h2).1⟩
    · rw [if_neg h2] at hp
      exact .inr ⟨3, hp, .inr rfl⟩

/-- A vector and a list, or an error, as a statement holds them beside each other. -/
def Pair12 (w : World) (p : Value) (k : Nat) (u : Value) : Prop :=
  (k = 0 ∧ ∃ (l : List VT) (b : Nat) (a : Option Addr) (c : Nat), p = .pointer (some ⟨b, 0, none⟩) ∧ u = .slice a l.length c ∧ VV w l p ∧ Lies 17 w l u) ∨ (k ≠ 0 ∧ p = .pointer none ∧ u = .slice none 0 0)

theorem Pair12.keeps {w w' : World} {p : Value} {k : Nat} {u : Value} (h : Pair12 w p k u) (hb : Below w.heap.size w w') : Pair12 w' p k u := by
  rcases h with ⟨rfl, l, b, a, c, rfl, rfl, hv, hl⟩ | h
  · exact .inl ⟨rfl, l, b, a, c, rfl, rfl, hv.keeps hb, Lies.keeps hb _ _ _ hl⟩
  · exact .inr h

theorem is_pair (p : Value) (k : Nat) (u : Value) (w : World) (h : Pair12 w p k u) : Calls Try.prog 39 #[p, .int .i64 (k : Int), u, .int .i64 (k : Int)] w fun e w' => e = .returned (.bool true) ∧ Below w.heap.size w w' := by
  rcases h with ⟨rfl, l, b, a, c, rfl, rfl, hv, hl⟩ | ⟨hk, rfl, rfl⟩
  · exact is_some l b _ w hv hl
  · exact is_none k hk none 0 0 w

end Go.Proofs.Ytcijekihjdofeaa

namespace Go.Proofs.Ytcijekihjdofeaa
open Go.RowKit

structure Rw (w W : World) (v : Value) (n : Nat) (xs : List Value) : Prop where
  below : Below w.heap.size w W
  own : W.ownsRow w.heap.size 31 4 v n xs

theorem Rw.start (w : World) : Rw w (w.alloc (.cells #[] 31)) (.slice (some ⟨w.heap.size, 0, none⟩) 0 0) 0 [] := ⟨((Grew.refl w).alloc _).below, own_empty w _ (Nat.le_refl _)⟩

theorem Rw.append {w W : World} {ops : Array Oper} {rest : List Oper} {o : Oper} {act : Act} {Q : Exit → Act → World → Prop} (hgd : o.guard = none) (s x : Operand)
    (ho : o.op = .call { callee := .builtin .append, args := #[s, x], argTypes := #[22, 22] })
    {v : Value} {n : Nat} {xs : List Value} (hr : Rw w W v n xs) (hs : act.eval s = v) {aa : Option Addr} {m c : Nat} (hx : act.eval x = .slice aa m c) {news : List Value} (hsrc : Src w aa m 4 news) (k : Nat) (hk : n + m = k) (hm : k ≤ 200000)
    (h : ∀ a' c' W', Rw w W' (.slice a' k c') k (xs ++ news) → wpList Try.prog ops Q rest (act.put o.dst (.slice a' k c')) W') : wpList Try.prog ops Q (o :: rest) act W := by
  subst hk
  obtain ⟨i0, hi, hz0, hz1, hz2⟩ := info24
  refine wpList_append_row hgd s x ho w.heap.size i0 hi hz0 hz1 hz2 v n xs hs hr.own aa m c news hx hsrc.none hsrc.len (hsrc.cell hr.below) hsrc.one (by unfold maxLen; omega) (by omega) hr.below.size (fun v' w' h1 h2 => ?_)
  have hb : Below w.heap.size w w' := own_growM hr.below hr.below.size hr.own h2
  have hv : ∃ a' c', v' = .slice a' (n + m) c' := by
    rcases h1.2 with ⟨e1, e2⟩ | ⟨g, cap, _, e1, _⟩
    · exact ⟨none, 0, by rw [e1, e2]⟩
    · exact ⟨_, cap, e1⟩
  obtain ⟨a', c', rfl⟩ := hv
  exact h a' c' w' ⟨hb, h1⟩

theorem Rw.lies {w W : World} {v : Value} {n : Nat} {ps : List (VT × Value)} (h : Rw w W v n (ps.flatMap encP)) (hn : n = ps.length) (hs : ∀ p ∈ ps, Sound 16 w p) (hl : n ≤ 200000) : Lies 17 W (ps.map (·.1)) v :=
  own_lies (d := 16) hn h.own (fun p hp => (hs p hp).keeps h.below) (by omega)

/-- The first items of a list, as a source. -/
theorem src_take {w : World} {l : List VT} {a : Option Addr} {c : Nat} (hl : Lies 17 w l (.slice a l.length c)) (n : Nat) (hnl : n ≤ l.length) : ∃ ps : List (VT × Value), ps.map (·.1) = l.take n ∧ ps.length = n ∧ Src w a n 4 (ps.flatMap encP) ∧ ∀ p ∈ ps, Sound 16 w p := by
  have e1 : (l.take n).length = n := by rw [List.length_take, Nat.min_eq_left hnl]
  by_cases hn0 : n = 0
  · subst hn0
    exact ⟨[], rfl, rfl, Src.nil w a, fun p hp => by cases hp⟩
  · obtain ⟨g, o, rfl, _⟩ := Lies.some_at hl (by omega)
    have h2 := Lies.taken hl n hnl
    rw [← e1] at h2
    obtain ⟨ps, p1, p2, p3, p4⟩ := src_of (l := l.take n) (by rw [e1] at h2 ⊢; exact h2)
    rw [e1] at p2 p3
    exact ⟨ps, p1, p2, p3, p4⟩

end Go.Proofs.Ytcijekihjdofeaa

namespace Go.Proofs.Ytcijekihjdofeaa
open Go.RowKit

set_option maxRecDepth 100000 in
set_option maxHeartbeats 8000000 in
theorem rconcat_any (l m : List VT) (a am : Option Addr) (c cm : Nat) (w : World) (hl : Lies 17 w l (.slice a l.length c)) (hlen : l.length ≤ 65536) (hm : Lies 17 w m (.slice am m.length cm)) (hmlen : m.length ≤ 65536) : Calls Try.prog 36 #[.slice a l.length c, .slice am m.length cm] w (LstPost (catR l m) w) := by
  obtain ⟨R, hR⟩ : ∃ R, R = catR l m := ⟨_, rfl⟩
  rw [← hR]
  unfold catR at hR
  have e1 : (l ++ m).length = l.length + m.length := List.length_append
  obtain ⟨F, hF⟩ : ∃ F : Int, F = 65536 - (l.length : Nat) := ⟨_, rfl⟩
  have hw3 : IntKind.i64.wrap (65536 - ((l.length : Nat) : Int)) = F := by rw [IntKind.wrap_i64]; omega
  by_cases hsz : (l ++ m).length ≤ 65536
  · rw [if_pos hsz] at hR
    have hcmp : ¬ F < ((m.length : Nat) : Int) := by omega
    obtain ⟨ps, hp1, hp2, hsA, hsd⟩ := src_of hl
    obtain ⟨pm, hm1, hm2, hsM, hsm⟩ := src_of hm
    have HSA : Hid _ := hsA
    have HSM : Hid _ := hsM
    have HG : Hid (∀ (W : World) (a9 c9), Rw w W (.slice a9 (l.length + m.length) c9) (l.length + m.length) (([] ++ ps.flatMap encP) ++ pm.flatMap encP) → LstPost R w (.returned (.tuple #[.slice a9 (l.length + m.length) c9, .int .i64 0])) W) := fun W a9 c9 h => by
      have e9 : ([] ++ ps.flatMap encP) ++ pm.flatMap encP = (ps ++ pm).flatMap encP := by simp [List.flatMap_append]
      rw [e9] at h
      have h9 := h.lies (by rw [List.length_append, hp2, hm2]) (fun p hp => by
        rcases List.mem_append.1 hp with hp | hp
        · exact hsd p hp
        · exact hsm p hp) (by omega)
      rw [List.map_append, hp1, hm1] at h9
      rw [hR]
      rw [← e1] at h9 ⊢
      exact ⟨h.below, a9, c9, rfl, h9⟩
    obtain ⟨L, hL⟩ : ∃ L, L = l.length := ⟨_, rfl⟩
    obtain ⟨M, hM⟩ : ∃ M, M = m.length := ⟨_, rfl⟩
    rw [← hL] at HSA HG hw3 hlen ⊢
    rw [← hM] at HSM HG hcmp hmlen ⊢
    clear hl hm hsA hsM hp1 hp2 hm1 hm2 hsd hsm hR e1 hsz hL hM hF
    have HC := Rw.start w
    go_enter Try.func36, Try.ntmps36
    go_wp2_with
      (first
        | (at_builtin; refine Rw.append rfl _ _ rfl HC rfl rfl HSM.out (L + M) (by omega) (by omega) ?_; clear HC; intro ax cx W HC)
        | (at_builtin; refine Rw.append rfl _ _ rfl HC rfl rfl HSA.out L (by omega) (by omega) ?_; clear HC; intro ax cx W HC))
    have HE : Hid _ := HG.out _ _ _ HC
    clear HC HG
    go_wp2_with fail
    go_ret2
    exact HE.out
  · rw [if_neg hsz] at hR
    have hcmp : F < ((m.length : Nat) : Int) := by omega
    have HE : Hid (LstPost R w (.returned (.tuple #[.slice none 0 0, .int .i64 2])) w) := by
      show LstPost _ _ _ _
      rw [hR]
      exact ⟨Below.refl _ _, rfl⟩
    clear hl hm hR hsz e1 hF
    go_enter Try.func36, Try.ntmps36
    go_wp2_with fail
    go_ret2
    exact HE.out

end Go.Proofs.Ytcijekihjdofeaa

