/-
  The contracts of a vector's own calls: own, Len, hasPlace, hasEnd, Height, First, Rest.
-/
import Derived.Test.YtekoaiehhjgfiaaGreatBeside
import Derived.Test.YtekoaiehhjgfiaaGreatWith2
import Derived.Deep.RegionHeld3
import Derived.BigRegion
namespace Go.Proofs.YtekoaiehhjgfiaaGreat
open Go.RowKit

set_option maxRecDepth 100000 in
set_option maxHeartbeats 8000000 in
theorem beside_left (d m h : Nat) (la lb : List VT) (a b : Value) (w : World) (hm : m ≤ 1000) (hh : h ≤ m) (hna : ND d (m + 1) false w la a) (hnb : ND d h false w lb b) (hsum : la.length + lb.length ≤ 1099511627776)
    (ih : ∀ (la lb : List VT) (a b : Value) (w : World), ND d m false w la a → ND d h false w lb b → la.length + lb.length ≤ 1099511627776 → Calls Tryz.prog 215 #[a, b, .int .i64 ((m + 1 : Nat) : Int), .int .i64 ((h + 1 : Nat) : Int)] w (BesPost d m false (la ++ lb) w)) :
    Calls Tryz.prog 215 #[a, b, .int .i64 ((m + 2 : Nat) : Int), .int .i64 ((h + 1 : Nat) : Int)] w (BesPost d (m + 1) false (la ++ lb) w) := by
  obtain ⟨ba, sla, ela, pa, rfl, hca, _, hsa, _, ha1, ha2, ha3, hla, hpa⟩ := hna
  obtain ⟨ga, oa, ca, hsla, hcapa, hcsa⟩ := hsa.full (fun e => by have := congrArg List.length e; rw [List.length_map, List.length_nil] at this; omega)
  subst hsla
  rw [List.length_map] at hca hcapa
  have pla := hcsa (pa.length - 1) (by rw [List.length_map]; omega)
  rw [List.getElem_map] at pla
  have hna1 : ND d m false w (pa[pa.length - 1]'(by omega)).1 (pa[pa.length - 1]'(by omega)).2 := by
    have := hpa (pa.length - 1) (by omega)
    have e : (false || decide (pa.length - 1 + 1 < pa.length)) = false := by simp; omega
    rw [e] at this; exact this
  have hrA : Row d m true w (pa.take (pa.length - 1)) := Row.cut (k := false) hpa _ (by omega)
  have hsA : SlV w ((pa.take (pa.length - 1)).map (·.2)) (.slice (some ⟨ga, oa, none⟩) (pa.length - 1) ca) := by
    have := hsa.taken (pa.length - 1) ca (by rw [List.length_map]; omega) (by omega)
    rwa [← List.map_take] at this
  have hfa : la = (pa.take (pa.length - 1)).flatMap (·.1) ++ (pa[pa.length - 1]'(by omega)).1 := by rw [hla]; exact flat_last pa _ (by omega)
  have hlA : (pa.take (pa.length - 1)).length ≤ 31 := by rw [List.length_take]; omega
  obtain ⟨A0, hA0⟩ : ∃ A0, A0 = pa.take (pa.length - 1) := ⟨_, rfl⟩
  obtain ⟨qa, hqa⟩ : ∃ qa, qa = pa[pa.length - 1]'(by omega) := ⟨_, rfl⟩
  rw [← hA0] at hrA hsA hfa hlA
  rw [← hqa] at pla hna1 hfa
  obtain ⟨La, hLa⟩ : ∃ La, La = pa.length := ⟨_, rfl⟩
  rw [← hLa] at hca hcapa pla hsA ha1 ha2
  obtain ⟨Ta, hTa⟩ : ∃ Ta, Ta = La - 1 := ⟨_, rfl⟩
  rw [← hTa] at pla hsA
  have hwTa : IntKind.i64.wrap ((La : Nat) - 1 : Int) = (Ta : Int) := by rw [IntKind.wrap_i64]; omega
  have hTa1 : Ta < La := by omega
  have hTa2 : (Ta : Int) < (La : Nat) := by omega
  have hTa3 : (Ta : Int) ≤ (La : Nat) := by omega
  have hTa4 : Ta ≤ ca := by omega
  have hTa5 : (Ta : Int) ≤ (ca : Nat) := by omega
  have hTaL : Ta ≤ La := by omega
  have hca5 : (La : Int) ≤ (ca : Nat) := by omega
  have HsA : Hid (SlV w (A0.map (·.2)) (.slice (some ⟨ga, oa, none⟩) Ta ca)) := hsA
  have HrA : Hid (Row d m true w A0) := hrA
  have Hfa : Hid (la = A0.flatMap (·.1) ++ qa.1) := hfa
  have HlA : Hid (A0.length ≤ 31) := hlA
  have tba := as_B
  have hsum1 : qa.1.length + lb.length ≤ 1099511627776 := by rw [hfa, List.length_append] at hsum; omega
  have HC : Hid (∀ V, Below w.heap.size w V → Calls Tryz.prog 215 #[qa.2, b, .int .i64 ((m + 1 : Nat) : Int), .int .i64 ((h + 1 : Nat) : Int)] V (BesPost d m false (qa.1 ++ lb) V)) := fun V hV => ih _ _ _ _ V (hna1.keeps hV _ _ _ _) (hnb.keeps hV _ _ _ _) hsum1
  have HT : Hid (∀ (V w1 : World) (ps : List Part) (u1 u2 : Value), Below w.heap.size w V → Below V.heap.size V w1 → Row d m false w1 ps → 1 ≤ ps.length → ps.length ≤ 2 → ps.flatMap (·.1) = qa.1 ++ lb → SlV w1 ((ps.take (ps.length - 1)).map (·.2)) u1 → SlV w1 ((ps.drop (ps.length - 1)).map (·.2)) u2 → TailC w1 (.slice (some ⟨ga, oa, none⟩) Ta ca) u1 u2 (.slice none 0 0) (BesPost d (m + 1) false (la ++ lb) w)) := fun V w1 ps u1 u2 hV h1 r1 n1 n2 e1 s1 s2 => bes_tail (B0 := []) (hV.trans (h1.mono hV.size)) HrA.out (fun i hi => absurd hi (Nat.not_lt_zero _)) (by simpa using r1) n1 HsA.out ⟨_, 0, rfl, by simp, fun h => absurd rfl h⟩ s1 s2 HlA.out (by simp) n2 (fun h => by cases h) (by rw [e1, Hfa.out]; simp) (by rw [List.length_append]; exact hsum)
  obtain ⟨M, hM⟩ : ∃ M, M = m + 2 := ⟨_, rfl⟩
  obtain ⟨N, hN⟩ : ∃ N, N = m + 1 := ⟨_, rfl⟩
  obtain ⟨G, hG⟩ : ∃ G, G = h + 1 := ⟨_, rfl⟩
  rw [← hM, ← hG]
  rw [← hN, ← hG] at HC
  have hwN : IntKind.i64.wrap ((M : Nat) - 1 : Int) = (N : Int) := by rw [IntKind.wrap_i64]; omega
  have hM1 : ¬ ((M : Nat) : Int) = 1 := by omega
  have hNM : (N : Int) ≤ (M : Nat) := by omega
  have hMN2 : ¬ ((M : Nat) : Int) ≤ (N : Nat) := by omega
  have hMN3 : ¬ ((M : Nat) : Int) < (N : Nat) := by omega
  have hNM4 : (N : Int) < (M : Nat) := by omega
  have hGM : (G : Int) < (M : Nat) := by omega
  have hGM2 : (G : Int) ≤ (M : Nat) := by omega
  have hGM3 : ¬ ((M : Nat) : Int) < (G : Nat) := by omega
  have hGM4 : ¬ ((M : Nat) : Int) ≤ (G : Nat) := by omega
  have hGM5 : ¬ ((G : Nat) : Int) = (M : Nat) := by omega
  have hGN : (G : Int) ≤ (N : Nat) := by omega
  have hGN2 : ¬ ((N : Nat) : Int) < (G : Nat) := by omega
  generalize qa.2 = va at *
  clear ih hna1 hnb hsum hsum1 hsA hrA hfa hlA hpa hcsa hsa hla ha3 hqa hA0 hLa hTa hM hN hG hm hh
  · skip
    have hx1 : IntKind.i64.wrap (0 : Int) = 0 := by rfl
    go_enter Tryz.func215, Tryz.ntmps215
    go_wp2_with fail
    go_quiet (fail)
    go_wp2_with fail
    refine (HC.out _ (below_drewM _ _)).mono ?_
    rintro e w1 ⟨vM, ps, rfl, hsM, hrM, hfM, hn1, hn2, hbM⟩
    obtain ⟨bM, oM, cM, L, T, rfl, hL, hcM, hLp, s1, s2⟩ := mid_cut hsM hn1
    have HTC : Hid (TailC w1 (.slice (some ⟨ga, oa, none⟩) Ta ca) (.slice (some ⟨bM, oM, none⟩) T cM) (.slice (some ⟨bM, oM + T, none⟩) (L - T) (cM - T)) (.slice none 0 0) (BesPost d (m + 1) false (la ++ lb) w)) := HT.out _ w1 ps _ _ (below_drewM _ _) hbM hrM hn1 hn2 hfM s1 s2
    have hLi : (L : Int) ≤ 2 := by omega
    have hwT : IntKind.i64.wrap ((L : Nat) - 1 : Int) = (T : Int) := by rw [IntKind.wrap_i64]; omega
    have hT1 : (T : Int) ≤ (L : Nat) := by omega
    have hT2 : T ≤ L := by omega
    have hT3 : (T : Int) ≤ (cM : Nat) := by omega
    have hT4 : T ≤ cM := by omega
    have hT5 : ¬ (cM = T) := by omega
    have hT6 : ¬ ((cM : Int) = (T : Nat)) := by omega
    have hcM5 : (L : Int) ≤ (cM : Nat) := by omega
    clear HC HT hsM hrM hfM hn1 hn2 hbM s1 s2 hL hLp
    obtain ⟨xa, xb, t1, t2, t3⟩ := HTC.out
    have HT1 : Hid _ := t1
    have HT2 : Hid _ := t2
    have HT3 : Hid _ := t3
    clear t1 t2 t3 HTC
    go_wp2_with fail
    go_region_held3 (fun _ => True) (first | trivial | go_keep)
      (first
        | (go_at_call 233; refine Calls.mono HBr.out ?_; intro e w5 hp5; have HE : Hid (BesPost d (m + 1) false (la ++ lb) w e w5) := hp5; clear hp5; obtain ⟨v5, ps5, rfl, hx⟩ := HE.out; clear hx)
        | (go_at_call 234; refine (HT3.out _ _ _ hb3 HN2b.out HN3.out).mono ?_; rintro e w4 ⟨v4, rfl, hbr⟩; have HBr : Hid _ := hbr; clear hbr)
        | (go_at_call 235; refine (HT2.out _ _ (by first | exact hb2 | exact hb2.alloc hb2.size _) (by first | exact HK2.out _ _ (by simp) | simp) (by first | exact HK2.out _ _ (by simp) | simp)).mono ?_; rintro e w3 ⟨v3, rfl, hn3, hb3, hk3⟩; have HN3 : Hid (NdS w3 xb v3) := hn3; have HN2b : Hid (NdS w3 xa v2) := (by first | exact HN2.out.keepsC hk3 | exact HN2.out.keepsA hk3); clear hn3 hk3)
        | (go_at_call 235; refine (HT1.out _ _ (by first | exact (Below.refl _ _).drew.alloc (Nat.le_refl _) _ | exact ((Below.refl _ _).drew.alloc (Nat.le_refl _) _).alloc (by simp) _) (by simp) (by simp)).mono ?_; rintro e w2 ⟨v2, rfl, hn2, hb2, hk2⟩; have HN2 : Hid (NdS w2 xa v2) := hn2; have HK2 : Hid (KeepsC _ w2) := hk2; clear hn2 hk2))
    all_goals (first | (go_ret; exact HE.out) | (go_wp2_with fail; go_ret; exact HE.out))

end Go.Proofs.YtekoaiehhjgfiaaGreat

namespace Go.Proofs.YtekoaiehhjgfiaaGreat
open Go.RowKit

set_option maxRecDepth 100000 in
set_option maxHeartbeats 8000000 in
theorem beside_right (d m h : Nat) (k : Bool) (la lb : List VT) (a b : Value) (w : World) (hm : m ≤ 1000) (hh : h ≤ m) (hna : ND d h false w la a) (hnb : ND d (m + 1) k w lb b) (hsum : la.length + lb.length ≤ 1099511627776)
    (ih : ∀ (k : Bool) (la lb : List VT) (a b : Value) (w : World), ND d h false w la a → ND d m k w lb b → la.length + lb.length ≤ 1099511627776 → Calls Tryz.prog 215 #[a, b, .int .i64 ((h + 1 : Nat) : Int), .int .i64 ((m + 1 : Nat) : Int)] w (BesPost d m k (la ++ lb) w)) :
    Calls Tryz.prog 215 #[a, b, .int .i64 ((h + 1 : Nat) : Int), .int .i64 ((m + 2 : Nat) : Int)] w (BesPost d (m + 1) k (la ++ lb) w) := by
  obtain ⟨bb, slb, elb, pb, rfl, hcb, _, hsb, _, hb1, hb2, hb3, hlb, hpb⟩ := hnb
  obtain ⟨gb, ob, cb, hslb, hcapb, hcsb⟩ := hsb.full (fun e => by have := congrArg List.length e; rw [List.length_map, List.length_nil] at this; omega)
  subst hslb
  rw [List.length_map] at hcb hcapb
  have plb := hcsb 0 (by rw [List.length_map]; omega)
  rw [List.getElem_map, Nat.add_zero] at plb
  have hrB : Row d m k w (pb.drop 1) := Row.rest hpb 1
  have hnb1 : ND d m (k || decide (1 ≤ (pb.drop 1).length)) w (pb[0]'(by omega)).1 (pb[0]'(by omega)).2 := by
    have := hpb 0 (by omega)
    have e : decide (0 + 1 < pb.length) = decide (1 ≤ (pb.drop 1).length) := by rw [List.length_drop]; congr 1; apply propext; omega
    rw [e] at this; exact this
  obtain ⟨uB, huB⟩ : ∃ uB, uB = (if cb = 1 then Value.slice (some ⟨gb, ob, none⟩) (pb.length - 1) 0 else .slice (some ⟨gb, ob + 1, none⟩) (pb.length - 1) (cb - 1)) := ⟨_, rfl⟩
  have hsB : SlV w ((pb.drop 1).map (·.2)) uB := by
    by_cases hc : cb = 1
    · rw [huB, if_pos hc]
      have : pb.drop 1 = [] := List.eq_nil_of_length_eq_zero (by rw [List.length_drop]; omega)
      rw [this]
      have e0 : pb.length - 1 = 0 := by omega
      rw [e0]
      exact ⟨_, 0, rfl, by simp, fun h => absurd rfl h⟩
    · rw [huB, if_neg hc]
      have := hsb.dropped 1 (cb - 1) (by rw [List.length_map]; omega)
      rwa [← List.map_drop, List.length_map] at this
  have hfb : lb = (pb[0]'(by omega)).1 ++ (pb.drop 1).flatMap (·.1) := by rw [hlb]; exact flat_head pb (by omega)
  have hlB : (pb.drop 1).length ≤ 31 := by rw [List.length_drop]; omega
  have h15 : k = true → 15 ≤ (pb.drop 1).length := fun hk => by have := hb3 hk; rw [List.length_drop]; omega
  obtain ⟨B0, hB0⟩ : ∃ B0, B0 = pb.drop 1 := ⟨_, rfl⟩
  obtain ⟨qb, hqb⟩ : ∃ qb, qb = pb[0]'(by omega) := ⟨_, rfl⟩
  rw [← hB0] at hrB hsB hfb hlB h15 hnb1
  rw [← hqb] at plb hnb1 hfb
  obtain ⟨Lb, hLb⟩ : ∃ Lb, Lb = pb.length := ⟨_, rfl⟩
  rw [← hLb] at hcb hcapb hb1 hb2 huB
  have hLb0 : 0 < Lb := by omega
  have hLb1 : (1 : Int) ≤ (Lb : Nat) := by omega
  have hcb5 : (Lb : Int) ≤ (cb : Nat) := by omega
  have HsB : Hid (SlV w (B0.map (·.2)) uB) := hsB
  have HuB : Hid (uB = (if cb = 1 then Value.slice (some ⟨gb, ob, none⟩) (Lb - 1) 0 else .slice (some ⟨gb, ob + 1, none⟩) (Lb - 1) (cb - 1))) := huB
  have HrB : Hid (Row d m k w B0) := hrB
  have Hfb : Hid (lb = qb.1 ++ B0.flatMap (·.1)) := hfb
  have HlB : Hid (B0.length ≤ 31 ∧ (k = true → 15 ≤ B0.length)) := ⟨hlB, h15⟩
  have tbb := as_B
  have hsum1 : la.length + qb.1.length ≤ 1099511627776 := by rw [hfb, List.length_append] at hsum; omega
  have HC : Hid (∀ V, Below w.heap.size w V → Calls Tryz.prog 215 #[a, qb.2, .int .i64 ((h + 1 : Nat) : Int), .int .i64 ((m + 1 : Nat) : Int)] V (BesPost d m (k || decide (1 ≤ B0.length)) (la ++ qb.1) V)) := fun V hV => ih _ _ _ _ _ V (hna.keeps hV _ _ _ _) (hnb1.keeps hV _ _ _ _) hsum1
  have HT : Hid (∀ (V w1 : World) (ps : List Part) (u1 u2 : Value), Below w.heap.size w V → Below V.heap.size V w1 → Row d m (k || decide (1 ≤ B0.length)) w1 ps → 1 ≤ ps.length → ps.length ≤ 2 → ps.flatMap (·.1) = la ++ qb.1 → SlV w1 ((ps.take (ps.length - 1)).map (·.2)) u1 → SlV w1 ((ps.drop (ps.length - 1)).map (·.2)) u2 → TailC w1 (.slice none 0 0) u1 u2 uB (BesPost d (m + 1) k (la ++ lb) w)) := fun V w1 ps u1 u2 hV h1 r1 n1 n2 e1 s1 s2 => bes_tail (A0 := []) (hV.trans (h1.mono hV.size)) (fun i hi => absurd hi (Nat.not_lt_zero _)) HrB.out r1 n1 ⟨_, 0, rfl, by simp, fun h => absurd rfl h⟩ HsB.out s1 s2 (by simp) HlB.out.1 n2 HlB.out.2 (by rw [e1, Hfb.out]; simp) (by rw [List.length_append]; exact hsum)
  obtain ⟨M, hM⟩ : ∃ M, M = m + 2 := ⟨_, rfl⟩
  obtain ⟨N, hN⟩ : ∃ N, N = m + 1 := ⟨_, rfl⟩
  obtain ⟨G, hG⟩ : ∃ G, G = h + 1 := ⟨_, rfl⟩
  rw [← hM, ← hG]
  rw [← hN, ← hG] at HC
  have hwN : IntKind.i64.wrap ((M : Nat) - 1 : Int) = (N : Int) := by rw [IntKind.wrap_i64]; omega
  have hM1 : ¬ ((M : Nat) : Int) = 1 := by omega
  have hNM : (N : Int) ≤ (M : Nat) := by omega
  have hMN2 : ¬ ((M : Nat) : Int) ≤ (N : Nat) := by omega
  have hMN3 : ¬ ((M : Nat) : Int) < (N : Nat) := by omega
  have hNM4 : (N : Int) < (M : Nat) := by omega
  have hGM : (G : Int) < (M : Nat) := by omega
  have hGM2 : (G : Int) ≤ (M : Nat) := by omega
  have hGM3 : ¬ ((M : Nat) : Int) < (G : Nat) := by omega
  have hGM4 : ¬ ((M : Nat) : Int) ≤ (G : Nat) := by omega
  have hGM5 : ¬ ((G : Nat) : Int) = (M : Nat) := by omega
  have hGN : (G : Int) ≤ (N : Nat) := by omega
  have hGN2 : ¬ ((N : Nat) : Int) < (G : Nat) := by omega
  generalize qb.2 = vb at *
  clear ih hna hnb1 hsum hsum1 hsB hrB hfb hlB h15 hpb hcsb hsb hlb hb3 hqb hB0 hLb hM hN hG hm hh huB
  by_cases hc1 : cb = 1
  · skip
    rw [HuB.out, if_pos hc1] at HT
    have hx1 : IntKind.i64.wrap (0 : Int) = 0 := by rfl
    go_enter Tryz.func215, Tryz.ntmps215
    go_wp2_with fail
    go_quiet (fail)
    go_wp2_with fail
    refine (HC.out _ (below_drewM _ _)).mono ?_
    rintro e w1 ⟨vM, ps, rfl, hsM, hrM, hfM, hn1, hn2, hbM⟩
    obtain ⟨bM, oM, cM, L, T, rfl, hL, hcM, hLp, s1, s2⟩ := mid_cut hsM hn1
    have HTC : Hid (TailC w1 (.slice none 0 0) (.slice (some ⟨bM, oM, none⟩) T cM) (.slice (some ⟨bM, oM + T, none⟩) (L - T) (cM - T)) (.slice (some ⟨gb, ob, none⟩) (Lb - 1) 0) (BesPost d (m + 1) k (la ++ lb) w)) := HT.out _ w1 ps _ _ (below_drewM _ _) hbM hrM hn1 hn2 hfM s1 s2
    have hLi : (L : Int) ≤ 2 := by omega
    have hwT : IntKind.i64.wrap ((L : Nat) - 1 : Int) = (T : Int) := by rw [IntKind.wrap_i64]; omega
    have hT1 : (T : Int) ≤ (L : Nat) := by omega
    have hT2 : T ≤ L := by omega
    have hT3 : (T : Int) ≤ (cM : Nat) := by omega
    have hT4 : T ≤ cM := by omega
    have hT5 : ¬ (cM = T) := by omega
    have hT6 : ¬ ((cM : Int) = (T : Nat)) := by omega
    have hcM5 : (L : Int) ≤ (cM : Nat) := by omega
    clear HC HT hsM hrM hfM hn1 hn2 hbM s1 s2 hL hLp
    obtain ⟨xa, xb, t1, t2, t3⟩ := HTC.out
    have HT1 : Hid _ := t1
    have HT2 : Hid _ := t2
    have HT3 : Hid _ := t3
    clear t1 t2 t3 HTC
    go_wp2_with fail
    go_region_held3 (fun _ => True) (first | trivial | go_keep)
      (first
        | (go_at_call 233; refine Calls.mono HBr.out ?_; intro e w5 hp5; have HE : Hid (BesPost d (m + 1) k (la ++ lb) w e w5) := hp5; clear hp5; obtain ⟨v5, ps5, rfl, hx⟩ := HE.out; clear hx)
        | (go_at_call 234; refine (HT3.out _ _ _ hb3 HN2b.out HN3.out).mono ?_; rintro e w4 ⟨v4, rfl, hbr⟩; have HBr : Hid _ := hbr; clear hbr)
        | (go_at_call 235; refine (HT2.out _ _ (by first | exact hb2 | exact hb2.alloc hb2.size _) (by first | exact HK2.out _ _ (by simp) | simp) (by first | exact HK2.out _ _ (by simp) | simp)).mono ?_; rintro e w3 ⟨v3, rfl, hn3, hb3, hk3⟩; have HN3 : Hid (NdS w3 xb v3) := hn3; have HN2b : Hid (NdS w3 xa v2) := (by first | exact HN2.out.keepsC hk3 | exact HN2.out.keepsA hk3); clear hn3 hk3)
        | (go_at_call 235; refine (HT1.out _ _ (by first | exact (Below.refl _ _).drew.alloc (Nat.le_refl _) _ | exact ((Below.refl _ _).drew.alloc (Nat.le_refl _) _).alloc (by simp) _) (by simp) (by simp)).mono ?_; rintro e w2 ⟨v2, rfl, hn2, hb2, hk2⟩; have HN2 : Hid (NdS w2 xa v2) := hn2; have HK2 : Hid (KeepsC _ w2) := hk2; clear hn2 hk2))
    all_goals (first | (go_ret; exact HE.out) | (go_wp2_with fail; go_ret; exact HE.out))
  · skip
    rw [HuB.out, if_neg hc1] at HT
    have hc1i : ¬ ((cb : Nat) : Int) = 1 := by omega
    have hx1 : IntKind.i64.wrap (0 : Int) = 0 := by rfl
    go_enter Tryz.func215, Tryz.ntmps215
    go_wp2_with fail
    go_quiet (fail)
    go_wp2_with fail
    refine (HC.out _ (below_drewM _ _)).mono ?_
    rintro e w1 ⟨vM, ps, rfl, hsM, hrM, hfM, hn1, hn2, hbM⟩
    obtain ⟨bM, oM, cM, L, T, rfl, hL, hcM, hLp, s1, s2⟩ := mid_cut hsM hn1
    have HTC : Hid (TailC w1 (.slice none 0 0) (.slice (some ⟨bM, oM, none⟩) T cM) (.slice (some ⟨bM, oM + T, none⟩) (L - T) (cM - T)) (.slice (some ⟨gb, ob + 1, none⟩) (Lb - 1) (cb - 1)) (BesPost d (m + 1) k (la ++ lb) w)) := HT.out _ w1 ps _ _ (below_drewM _ _) hbM hrM hn1 hn2 hfM s1 s2
    have hLi : (L : Int) ≤ 2 := by omega
    have hwT : IntKind.i64.wrap ((L : Nat) - 1 : Int) = (T : Int) := by rw [IntKind.wrap_i64]; omega
    have hT1 : (T : Int) ≤ (L : Nat) := by omega
    have hT2 : T ≤ L := by omega
    have hT3 : (T : Int) ≤ (cM : Nat) := by omega
    have hT4 : T ≤ cM := by omega
    have hT5 : ¬ (cM = T) := by omega
    have hT6 : ¬ ((cM : Int) = (T : Nat)) := by omega
    have hcM5 : (L : Int) ≤ (cM : Nat) := by omega
    clear HC HT hsM hrM hfM hn1 hn2 hbM s1 s2 hL hLp
    obtain ⟨xa, xb, t1, t2, t3⟩ := HTC.out
    have HT1 : Hid _ := t1
    have HT2 : Hid _ := t2
    have HT3 : Hid _ := t3
    clear t1 t2 t3 HTC
    go_wp2_with fail
    go_region_held3 (fun _ => True) (first | trivial | go_keep)
      (first
        | (go_at_call 233; refine Calls.mono HBr.out ?_; intro e w5 hp5; have HE : Hid (BesPost d (m + 1) k (la ++ lb) w e w5) := hp5; clear hp5; obtain ⟨v5, ps5, rfl, hx⟩ := HE.out; clear hx)
        | (go_at_call 234; refine (HT3.out _ _ _ hb3 HN2b.out HN3.out).mono ?_; rintro e w4 ⟨v4, rfl, hbr⟩; have HBr : Hid _ := hbr; clear hbr)
        | (go_at_call 235; refine (HT2.out _ _ (by first | exact hb2 | exact hb2.alloc hb2.size _) (by first | exact HK2.out _ _ (by simp) | simp) (by first | exact HK2.out _ _ (by simp) | simp)).mono ?_; rintro e w3 ⟨v3, rfl, hn3, hb3, hk3⟩; have HN3 : Hid (NdS w3 xb v3) := hn3; have HN2b : Hid (NdS w3 xa v2) := (by first | exact HN2.out.keepsC hk3 | exact HN2.out.keepsA hk3); clear hn3 hk3)
        | (go_at_call 235; refine (HT1.out _ _ (by first | exact (Below.refl _ _).drew.alloc (Nat.le_refl _) _ | exact ((Below.refl _ _).drew.alloc (Nat.le_refl _) _).alloc (by simp) _) (by simp) (by simp)).mono ?_; rintro e w2 ⟨v2, rfl, hn2, hb2, hk2⟩; have HN2 : Hid (NdS w2 xa v2) := hn2; have HK2 : Hid (KeepsC _ w2) := hk2; clear hn2 hk2))
    all_goals (first | (go_ret; exact HE.out) | (go_wp2_with fail; go_ret; exact HE.out))

end Go.Proofs.YtekoaiehhjgfiaaGreat

namespace Go.Proofs.YtekoaiehhjgfiaaGreat
open Go.RowKit

theorem beside_any (d : Nat) : ∀ (m ha hb : Nat) (k : Bool) (la lb : List VT) (a b : Value) (w : World), ha ≤ m → hb ≤ m → (ha = m ∨ hb = m) → (k = true → ha ≤ hb) → m ≤ 1000 → ND d ha false w la a → ND d hb k w lb b → la.length + lb.length ≤ 1099511627776 →
    Calls Tryz.prog 215 #[a, b, .int .i64 ((ha + 1 : Nat) : Int), .int .i64 ((hb + 1 : Nat) : Int)] w (BesPost d m k (la ++ lb) w) := by
  intro m
  induction m with
  | zero =>
    intro ha hb k la lb a b w h1 h2 h3 h4 h5 hna hnb hsum
    have e1 : ha = 0 := by omega
    have e2 : hb = 0 := by omega
    subst e1 e2
    exact beside_zero d k la lb a b w hna hnb
  | succ m ih =>
    intro ha hb k la lb a b w h1 h2 h3 h4 h5 hna hnb hsum
    by_cases e1 : ha = m + 1
    · subst e1
      by_cases e2 : hb = m + 1
      · subst e2
        exact beside_both d m k la lb a b w (by omega) hna hnb hsum (fun k la lb a b w ha hb hs => ih m m k la lb a b w (Nat.le_refl _) (Nat.le_refl _) (.inl rfl) (fun _ => Nat.le_refl _) (by omega) ha hb hs)
      · have hk : k = false := by
          cases k with
          | false => rfl
          | true => have := h4 rfl; omega
        subst hk
        exact beside_left d m hb la lb a b w (by omega) (by omega) hna hnb hsum (fun la lb a b w ha hb' hs => ih m hb false la lb a b w (Nat.le_refl _) (by omega) (.inl rfl) (fun h => by cases h) (by omega) ha hb' hs)
    · have e2 : hb = m + 1 := by omega
      subst e2
      exact beside_right d m ha k la lb a b w (by omega) (by omega) hna hnb hsum (fun k la lb a b w ha' hb hs => ih ha m k la lb a b w (by omega) (Nat.le_refl _) (.inr rfl) (fun _ => by omega) (by omega) ha' hb hs)

end Go.Proofs.YtekoaiehhjgfiaaGreat

namespace Go.Proofs.YtekoaiehhjgfiaaGreat
open Go.RowKit

theorem nd_iface {d h : Nat} {k : Bool} {w : World} {l : List VT} {v : Value} (hn : ND d h k w l v) : ∃ T p, v = .iface T p := by
  cases h with
  | zero => obtain ⟨b, a, c, hv, _⟩ := hn; exact ⟨_, _, hv⟩
  | succ h => obtain ⟨b, sl, el, ps, hv, _⟩ := hn; exact ⟨_, _, hv⟩

theorem ND.loose {d h : Nat} {k : Bool} {w : World} {l : List VT} {v : Value} (hn : ND d h k w l v) : ND d h false w l v := by
  cases k with
  | false => exact hn
  | true => exact hn.edge _ _ _ _

/-- A tree, or nil without an item. -/
def OT (d : Nat) (w : World) (l : List VT) (v : Value) : Prop := (l = [] ∧ v = .nilIface) ∨ TN d w l v

theorem OT.keeps {d : Nat} {w w' : World} {l : List VT} {v : Value} (ht : OT d w l v) (hb : Below w.heap.size w w') : OT d w' l v := by
  rcases ht with h | h
  · exact .inl h
  · exact .inr (h.keeps hb)

theorem pow_low {h n : Nat} (hp : 16 ^ h ≤ n) (hn : n ≤ 1099511627776) : h ≤ 10 := by
  refine Nat.le_of_not_lt fun hlt => ?_
  have : (16 : Nat) ^ 11 ≤ 16 ^ h := Nat.pow_le_pow_right (by omega) hlt
  have e : (16 : Nat) ^ 11 = 17592186044416 := by decide
  omega

theorem TN.low {d : Nat} {w : World} {l : List VT} {v : Value} (ht : TN d w l v) (hn : l.length ≤ 1099511627776) : ∃ h, h ≤ 10 ∧ ND d h false w l v := by
  obtain ⟨h, hnd, hh⟩ := ht
  refine ⟨h, ?_, hnd⟩
  rcases hh with rfl | hh
  · omega
  · exact pow_low hh hn

/-- What joined tells. -/
def JoinPost (d : Nat) (l : List VT) (w : World) (e : Ending) (w' : World) : Prop := ∃ v, e = .returned v ∧ OT d w' l v ∧ Below w.heap.size w w'

set_option maxRecDepth 100000 in
set_option maxHeartbeats 4000000 in
theorem joined_nds (d ha hb : Nat) (la lb : List VT) (a b : Value) (w : World) (h1 : ha ≤ 999) (h2 : hb ≤ 999) (hna : ND d ha false w la a) (hnb : ND d hb false w lb b) (hsum : la.length + lb.length ≤ 1099511627776) : Calls Tryz.prog 182 #[a, b] w fun e w' => ∃ v, e = .returned v ∧ TN d w' (la ++ lb) v ∧ Below w.heap.size w w' := by
  obtain ⟨m, hm1, hm2, hm3, hm4⟩ : ∃ m, ha ≤ m ∧ hb ≤ m ∧ (ha = m ∨ hb = m) ∧ m ≤ 999 := ⟨max ha hb, by omega, by omega, by omega, by omega⟩
  have HA : Hid _ := height_any d ha false la a w hna (by omega)
  have HB : Hid _ := height_any d hb false lb b w hnb (by omega)
  have HC : Hid _ := beside_any d m ha hb false la lb a b w hm1 hm2 hm3 (fun h => by cases h) (by omega) hna hnb hsum
  obtain ⟨Ta, pa, rfl⟩ := nd_iface hna
  obtain ⟨Tb, pb, rfl⟩ := nd_iface hnb
  have Hs : Hid ((la ++ lb).length ≤ 1099511627776) := by show _ ≤ _; rw [List.length_append]; exact hsum
  generalize ha + 1 = Ga at *
  generalize hb + 1 = Gb at *
  clear hna hnb hsum h1 h2 hm1 hm2 hm3
  go_enter Tryz.func182, Tryz.ntmps182
  go_wp2_with fail
  refine Calls.mono HA.out ?_
  rintro e w1 ⟨rfl, hw⟩
  replace hw := hw.symm
  subst hw
  go_wp2_with fail
  refine Calls.mono HB.out ?_
  rintro e w1 ⟨rfl, hw⟩
  replace hw := hw.symm
  subst hw
  go_wp2_with fail
  refine Calls.mono HC.out ?_
  rintro e w1 ⟨v1, ps, rfl, hs1, hr1, hf1, hn1, hn2, hb1⟩
  have HAb : Hid _ := above_any d m false ps v1 w1 hs1 hn1 (by omega) (fun h => by cases h) hr1 (by rw [hf1]; exact Hs.out)
  rw [hf1] at HAb
  clear HA HB HC hs1 hr1 hf1 hn1 hn2
  go_wp2_with fail
  refine Calls.mono HAb.out ?_
  rintro e w2 ⟨b2, rfl, hnd2, hb2⟩
  have HLo : Hid _ := lowered_any d (m + 1) _ _ w2 hnd2
  have hb3 : Below w.heap.size w w2 := hb1.trans (hb2.mono hb1.size)
  clear HAb hnd2
  go_wp2_with fail
  refine Calls.mono HLo.out ?_
  rintro e w3 ⟨v3, rfl, ht, hw⟩
  replace hw := hw.symm
  subst hw
  have HE : Hid (∃ v, Ending.returned v3 = .returned v ∧ TN d w2 (la ++ lb) v ∧ Below w.heap.size w w2) := ⟨v3, rfl, ht, hb3⟩
  clear HLo ht
  go_wp2_with fail
  go_ret
  exact HE.out

set_option maxRecDepth 100000 in
set_option maxHeartbeats 4000000 in
theorem joined_nilA (b : Value) (w : World) : Calls Tryz.prog 182 #[.nilIface, b] w fun e w' => e = .returned b ∧ w' = w := by
  go_enter Tryz.func182, Tryz.ntmps182
  go_wp2_with fail
  go_ret
  exact ⟨rfl, rfl⟩

set_option maxRecDepth 100000 in
set_option maxHeartbeats 4000000 in
theorem joined_nilB (T : Nat) (p : Value) (w : World) : Calls Tryz.prog 182 #[.iface T p, .nilIface] w fun e w' => e = .returned (.iface T p) ∧ w' = w := by
  go_enter Tryz.func182, Tryz.ntmps182
  go_wp2_with fail
  go_ret
  exact ⟨rfl, rfl⟩

theorem joined_any (d : Nat) (la lb : List VT) (a b : Value) (w : World) (hna : OT d w la a) (hnb : OT d w lb b) (hsum : la.length + lb.length ≤ 1099511627776) : Calls Tryz.prog 182 #[a, b] w (JoinPost d (la ++ lb) w) := by
  rcases hna with ⟨rfl, rfl⟩ | hna
  · refine (joined_nilA b w).mono ?_
    rintro e w' ⟨rfl, rfl⟩
    exact ⟨b, rfl, hnb, Below.refl _ _⟩
  · rcases hnb with ⟨rfl, rfl⟩ | hnb
    · obtain ⟨h, hn, hh⟩ := hna
      obtain ⟨T, p, rfl⟩ := nd_iface hn
      refine (joined_nilB T p w).mono ?_
      rintro e w' ⟨rfl, rfl⟩
      exact ⟨_, rfl, .inr (by rw [List.append_nil]; exact ⟨h, hn, hh⟩), Below.refl _ _⟩
    · obtain ⟨h1, l1, n1⟩ := hna.low (by omega)
      obtain ⟨h2, l2, n2⟩ := hnb.low (by omega)
      refine (joined_nds d h1 h2 la lb a b w (by omega) (by omega) n1 n2 hsum).mono ?_
      rintro e w' ⟨v, rfl, ht, hb⟩
      exact ⟨v, rfl, .inr ht, hb⟩

end Go.Proofs.YtekoaiehhjgfiaaGreat

namespace Go.Proofs.YtekoaiehhjgfiaaGreat
open Go.RowKit

theorem part_split (ps : List Part) (kk : Nat) (hk : kk < ps.length) : ps.flatMap (·.1) = (ps.take kk).flatMap (·.1) ++ ((ps[kk]'hk).1 ++ (ps.drop (kk + 1)).flatMap (·.1)) := by
  have e : ps.flatMap (·.1) = (ps.take kk).flatMap (·.1) ++ (ps.drop kk).flatMap (·.1) := by rw [← List.flatMap_append, List.take_append_drop]
  rw [e, List.drop_eq_getElem_cons hk, List.flatMap_cons]

theorem part_ahead (ps : List Part) (kk : Nat) : ((ps.take kk).flatMap (·.1)).length = ((lensP ps).take kk).sum := by
  rw [flat_sum, List.map_take]; rfl

theorem in_take' (ps : List Part) (i kk q : Nat) (hk : kk < ps.length) (he : i = ((lensP ps).take kk).sum + q) (hq : q < (ps[kk]'hk).1.length) : (ps.flatMap (·.1)).take (i + 1) = (ps.take kk).flatMap (·.1) ++ (ps[kk]'hk).1.take (q + 1) := by
  subst he
  rw [part_split ps kk hk, ← part_ahead, Nat.add_assoc, List.take_length_add_append, List.take_append_of_le_length (by omega)]

theorem in_take {ps : List Part} {i kk q : Nat} (h : InPart ps i kk q) : (ps.flatMap (·.1)).take (i + 1) = (ps.take kk).flatMap (·.1) ++ (ps[kk]'h.lt).1.take (q + 1) := in_take' ps i kk q h.lt h.eq h.inn

theorem Lies.some_at {d : Nat} {w : World} {l : List VT} {a : Option Addr} {n c : Nat} (h : Lies (d + 1) w l (.slice a n c)) (hne : 1 ≤ l.length) : ∃ g o, a = some ⟨g, o, none⟩ ∧ l.length ≤ c := by
  obtain ⟨a', c', hv, hb, hr⟩ := h
  injection hv with q1 q2 q3
  subst q1 q2 q3
  obtain ⟨g, o, ha, _⟩ := hr (fun e => by rw [e] at hne; simp at hne)
  exact ⟨g, o, ha, hb.1⟩

theorem Row.loose {d h : Nat} {k : Bool} {w : World} {ps : List Part} (hr : Row d h k w ps) : Row d h false w ps := fun i hi => by
  have h1 := hr i hi
  rw [Bool.false_or]
  by_cases c : i + 1 < ps.length
  · have e : (k || decide (i + 1 < ps.length)) = true := by simp [c]
    rw [e] at h1
    exact h1.edge _ _ _ _
  · have e : decide (i + 1 < ps.length) = false := by simp; omega
    rw [e]
    exact h1.loose

end Go.Proofs.YtekoaiehhjgfiaaGreat

namespace Go.Proofs.YtekoaiehhjgfiaaGreat
open Go.RowKit

theorem SlVX.of_own {w : World} {base e : Nat} {v : Value} {vs : List Value} {n : Nat} (hn : n = vs.length) (h : w.ownsRow base e 1 v n vs) : SlVX (fun b => base ≤ b) w vs v := by
  obtain ⟨a, c, hv, hc, hr⟩ := SlV.of_own hn h
  refine ⟨a, c, hv, hc, fun hne => ?_⟩
  obtain ⟨b, o, ha, hcs⟩ := hr hne
  refine ⟨b, o, ha, ?_, hcs⟩
  have := h.lt b (by rw [hv, ha]; rfl)
  exact this.1

theorem NDX.loose {X : Nat → Prop} {d : Nat} {w : World} : ∀ (h : Nat) (k : Bool) (l : List VT) (v : Value), NDX X d h k w l v → NDX X d h false w l v := by
  intro h
  induction h with
  | zero =>
    intro k l v hn
    obtain ⟨b, a, c, hv, hx, hc, hl, h1, h2, _⟩ := hn
    exact ⟨b, a, c, hv, hx, hc, hl, h1, h2, fun h => by cases h⟩
  | succ h ih =>
    intro k l v hn
    obtain ⟨b, sl, el, ps, hv, hx, hc0, hc1, hs, he, h1, h2, _, hl, hp⟩ := hn
    refine ⟨b, sl, el, ps, hv, hx, hc0, hc1, hs, he, h1, h2, (fun h => by cases h), hl, fun i hi => ?_⟩
    have h9 := hp i hi
    by_cases c : i + 1 < ps.length
    · have e1 : (k || decide (i + 1 < ps.length)) = true := by simp [c]
      have e2 : (false || decide (i + 1 < ps.length)) = true := by simp [c]
      rw [e1] at h9; rw [e2]; exact h9
    · have e2 : (false || decide (i + 1 < ps.length)) = false := by simp; omega
      rw [e2]; exact ih _ _ _ h9

theorem concat_x (X : Nat → Prop) (l1 l2 : List Value) (u1 u2 : Value) (w1 V : World) (B : Nat) (hX : ∀ b, V.heap.size ≤ b → X b) (hb : Below w1.heap.size w1 V) (h1 : NdS w1 l1 u1) (h2 : NdS w1 l2 u2) (hl1 : l1.length ≤ 65536) (hl2 : l2.length ≤ 65536) (c1 : V.cell? ⟨B, 0, none⟩ = some u1) (c2 : V.cell? ⟨B, 1, none⟩ = some u2) :
    Calls Tryz.prog 235 #[.slice (some ⟨B, 0, none⟩) 2 2] V fun e w' => ∃ v, e = .returned v ∧ SlVX X w' (l1 ++ l2) v ∧ Below w1.heap.size w1 w' := by
  have k1 := h1.keeps hb
  have k2 := h2.keeps hb
  obtain ⟨a1, cc1, rfl, _⟩ := k1.1.slice
  obtain ⟨a2, cc2, rfl, _⟩ := k2.1.slice
  refine (concat2N_any l1.length l2.length l1 l2 a1 a2 cc1 cc2 B V c1 c2 (k1.1.src k1.2) (k2.1.src k2.2) hl1 hl2).mono ?_
  rintro e w' ⟨v, rfl, hown, hb2⟩
  exact ⟨v, rfl, (SlVX.of_own (by rw [List.length_append]) hown).stays hX (fun _ _ _ h => h), hb.trans (hb2.mono hb.size)⟩

/-- A node is told, in these blocks. -/
def NodeX (X : Nat → Prop) (d h : Nat) (k : Bool) (l : List VT) (W : World) (e : Ending) (w' : World) : Prop := ∃ T p, e = .returned (.iface T p) ∧ NDX X d h k w' l (.iface T p) ∧ Below W.heap.size W w'

theorem head_tailX {X : Nat → Prop} {d h : Nat} {k : Bool} {ps : List Part} {kk g o c : Nat} {w w3 : World} {T : Nat} {p : Value} {m : List VT} (hX : ∀ b, w.heap.size ≤ b → X b) (hr : ∀ (i : Nat) (hi : i < ps.length), NDX X d h (k || decide (i + 1 < ps.length)) w (ps[i]'hi).1 (ps[i]'hi).2) (hs : SlV w (ps.map (·.2)) (.slice (some ⟨g, o, none⟩) ps.length c)) (hk : kk < ps.length) (h32 : ps.length ≤ 32) (hcap : ps.length ≤ c) (hb : Below w.heap.size w w3) (hnd : NDX X d h false w3 m (.iface T p)) (hsum : ((ps.take kk).flatMap (·.1) ++ m).length ≤ 1099511627776) :
    Calls Tryz.prog 235 #[.slice (some ⟨w3.heap.size + 1, 0, none⟩) 2 2] ((w3.alloc (.cells #[.iface T p] 76)).alloc (.cells #[.slice (some ⟨g, o, none⟩) kk c, .slice (some ⟨w3.heap.size, 0, none⟩) 1 1] 148)) fun e w' => ∃ v, e = .returned v ∧ Below w.heap.size w w' ∧ Calls Tryz.prog 94 #[v] w' fun e w'' => ∃ b, e = .returned (.pointer (some ⟨b, 0, none⟩)) ∧ NodeX X d (h + 1) false ((ps.take kk).flatMap (·.1) ++ m) w (.returned (.iface 158 (.pointer (some ⟨b, 0, none⟩)))) w'' := by
  have hrN : Row d h k w ps := fun i hi => (hr i hi).nd _ _ _ _
  have hA : Row d h true w (ps.take kk) := hrN.cut kk hk
  have sA : SlV w ((ps.take kk).map (·.2)) (.slice (some ⟨g, o, none⟩) kk c) := by
    have := hs
    rw [← List.length_map (f := fun x : Part => x.2)] at this
    have := this.taken kk c (by rw [List.length_map]; omega) (by omega)
    rwa [← List.map_take] at this
  have hb4 : Below w3.heap.size w3 (w3.alloc (.cells #[.iface T p] 76)) := ((Grew.refl w3).alloc _).below
  have hb5 : Below w.heap.size w (w3.alloc (.cells #[.iface T p] 76)) := hb.trans (hb4.mono hb.size)
  have n1 : NdS (w3.alloc (.cells #[.iface T p] 76)) ((ps.take kk).map (·.2)) (.slice (some ⟨g, o, none⟩) kk c) := ⟨sA.keeps hb5, hA.one⟩
  have n2 : NdS (w3.alloc (.cells #[.iface T p] 76)) [.iface T p] (.slice (some ⟨w3.heap.size, 0, none⟩) 1 1) := by
    refine ⟨⟨_, 1, rfl, by simp, fun _ => ⟨w3.heap.size, 0, rfl, fun i hi => ?_⟩⟩, fun u hu => by rw [List.mem_singleton.1 hu]; rfl⟩
    have : i = 0 := by simp at hi; omega
    subst this; simp
  refine (concat_x X _ _ _ _ _ _ _ (fun b h => hX b (by have := hb.size; simp at h; omega)) ((Grew.refl _).alloc _).below n1 n2 (by rw [List.length_map, List.length_take]; omega) (by simp) (by simp) (by simp)).mono ?_
  rintro e w' ⟨v, rfl, hn, hbW⟩
  have hbw : Below w.heap.size w w' := hb5.trans (hbW.mono hb5.size)
  have hnd' : NDX X d h false w' m (.iface T p) := (hnd.keeps hb4 _ _ _ _).keeps hbW _ _ _ _
  refine ⟨v, rfl, hbw, ?_⟩
  have e1 : (ps.take kk ++ [(m, Value.iface T p)]).flatMap (·.1) = (ps.take kk).flatMap (·.1) ++ m := by rw [List.flatMap_append]; simp
  have h9 := above_x X d h false (ps.take kk ++ [(m, Value.iface T p)]) v w' (by rw [List.map_append]; exact hn) (by simp) (by simp; omega) (fun h => by cases h) (fun i hi => by
    rw [List.length_append, List.length_take, Nat.min_eq_left (by omega)] at hi
    by_cases hlt : i < kk
    · have h8 := (hr i (by omega)).keeps hbw _ _ _ _
      have c1 : i + 1 < ps.length := by omega
      have c2 : i + 1 < (ps.take kk ++ [(m, Value.iface T p)]).length := by rw [List.length_append, List.length_take, Nat.min_eq_left (by omega)]; simp; omega
      have e1 : (k || decide (i + 1 < ps.length)) = true := by simp [c1]
      have e2 : (false || decide (i + 1 < (ps.take kk ++ [(m, Value.iface T p)]).length)) = true := by rw [decide_eq_true c2]; rfl
      rw [e1] at h8
      rw [e2, List.getElem_append_left (by rw [List.length_take]; omega), List.getElem_take]
      exact h8
    · have hik : i = kk := by simp at hi; omega
      subst hik
      have c2 : ¬ (i + 1 < (ps.take i ++ [(m, Value.iface T p)]).length) := by rw [List.length_append, List.length_take, Nat.min_eq_left (by omega)]; simp
      have e2 : (false || decide (i + 1 < (ps.take i ++ [(m, Value.iface T p)]).length)) = false := by rw [decide_eq_false c2]; rfl
      have e3 : (ps.take i).length = i := by rw [List.length_take]; omega
      rw [e2, List.getElem_append_right (by omega)]
      simp only [e3, Nat.sub_self, List.getElem_cons_zero]
      exact hnd') (by rw [e1]; exact hsum)
  rw [e1] at h9
  refine h9.mono ?_
  rintro e w'' ⟨b, rfl, hx, hbx⟩
  exact ⟨b, rfl, _, _, rfl, hx.mono (fun b h => h.elim id (fun h => hX b (by have := hbw.size; omega))) _ _ _ _, hbw.trans (hbx.mono hbw.size)⟩

theorem LiesX.cut {X : Nat → Prop} {d : Nat} {w : World} {l : List VT} {b o n c : Nat} (h : LiesX X (d + 1) w l (.slice (some ⟨b, o, none⟩) n c)) (m c2 : Nat) (hm : m ≤ l.length) (hc2 : m ≤ c2) : LiesX X (d + 1) w (l.take m) (.slice (some ⟨b, o, none⟩) m c2) := by
  have e : (l.take m).length = m := by rw [List.length_take]; omega
  obtain ⟨a', c', hv, hb, hr⟩ := h
  injection hv with q1 q2 q3
  subst q1 q3
  refine ⟨_, c2, by rw [e], ⟨by rw [e]; exact hc2, by rw [e]; exact Nat.le_trans hm hb.2⟩, fun hne => ?_⟩
  obtain ⟨b', o', ha, hx, hrest⟩ := hr (fun e0 => hne (by rw [e0]; simp))
  refine ⟨b', o', ha, hx, fun i hi => ?_⟩
  rw [List.getElem_take]
  exact hrest i (by rw [e] at hi; omega)

set_option maxRecDepth 100000 in
set_option maxHeartbeats 4000000 in
theorem head_wholeX (X : Nat → Prop) (d h : Nat) (k : Bool) (l : List VT) (v : Value) (w : World) (hn : NDX X d h k w l v) : Calls Tryz.prog 219 #[v, .int .i64 ((l.length : Nat) : Int)] w (NodeX X d h false l w) := by
  have HN : Hid (NDX X d h false w l v) := hn.loose _ _ _ _
  rcases nd_size (hn.nd _ _ _ _) with ⟨b, rfl, hcall⟩ | ⟨b, rfl, hcall⟩
  · have HC : Hid _ := hcall w (Below.refl _ _)
    clear hcall hn
    generalize l.length = L at *
    go_enter Tryz.func219, Tryz.ntmps219
    go_wp2_with fail
    refine Calls.mono HC.out ?_
    rintro e w1 ⟨rfl, hg⟩
    have HE : Hid (NodeX X d h false l w (.returned (.iface 152 (.pointer (some ⟨b, 0, none⟩)))) w1) := ⟨_, _, rfl, HN.out.keeps hg _ _ _ _, hg⟩
    go_wp2_with fail
    go_ret
    exact HE.out
  · have HC : Hid _ := hcall w (Below.refl _ _)
    clear hcall hn
    generalize l.length = L at *
    go_enter Tryz.func219, Tryz.ntmps219
    go_wp2_with fail
    refine Calls.mono HC.out ?_
    rintro e w1 ⟨rfl, hg⟩
    have HE : Hid (NodeX X d h false l w (.returned (.iface 158 (.pointer (some ⟨b, 0, none⟩)))) w1) := ⟨_, _, rfl, HN.out.keeps hg _ _ _ _, hg⟩
    go_wp2_with fail
    go_ret
    exact HE.out

set_option maxRecDepth 100000 in
set_option maxHeartbeats 8000000 in
theorem headX_any (X : Nat → Prop) (d : Nat) : ∀ (h : Nat) (k : Bool) (l : List VT) (v : Value) (n : Nat) (w : World), (∀ b, w.heap.size ≤ b → X b) → NDX X d h k w l v → 1 ≤ n → n ≤ l.length → l.length ≤ 1099511627776 → Calls Tryz.prog 219 #[v, .int .i64 (n : Int)] w (NodeX X d h false (l.take n) w) := by
  intro h
  induction h with
  | zero =>
    intro k l v n w hX hn h1 h2 hbig
    by_cases hw : n = l.length
    · subst hw
      rw [List.take_length]
      exact head_wholeX X d 0 k l v w hn
    obtain ⟨b, a, c, rfl, _, hc, hl, hl1, hl2, hl3⟩ := hn
    obtain ⟨g, o, rfl, hcap⟩ := Lies.some_at hl.lies (by omega)
    have HSz : Hid _ := leafSize_any b (some ⟨g, o, none⟩) l.length c w hc
    have HL : Hid (LiesX X (d + 1) w l (.slice (some ⟨g, o, none⟩) l.length c)) := hl
    have HX : Hid (∀ b, w.heap.size ≤ b → X b) := hX
    have Hl : Hid (1 ≤ l.length ∧ l.length ≤ 32 ∧ n ≤ l.length) := ⟨hl1, hl2, h2⟩
    have Hc : Hid (w.cell? ⟨b, 0, none⟩ = some (.slice (some ⟨g, o, none⟩) l.length c)) := hc
    have ta := as_LL
    have hni : ¬ ((n : Nat) : Int) = (l.length : Nat) := by omega
    have hnc : n ≤ c := by omega
    have hnci : (n : Int) ≤ (c : Nat) := by omega
    have hlci : (l.length : Int) ≤ (c : Nat) := by omega
    have hnli : (n : Int) ≤ (l.length : Nat) := by omega
    have hn0 : ¬ (n = 0) := by omega
    have hn0i : ¬ ((n : Nat) : Int) = 0 := by omega
    clear hl hl3 hbig hl1 hl2 h2 hw hc hX
    go_enter Tryz.func219, Tryz.ntmps219
    go_wp2_with fail
    refine Calls.mono HSz.out ?_
    rintro e w1 ⟨rfl, hw⟩
    replace hw := hw.symm
    subst hw
    have hc := Hc.out
    have HE : Hid (NodeX X d 0 false (l.take n) w (.returned (.iface 152 (.pointer (some ⟨w.heap.size, 0, none⟩)))) (w.alloc (.cells #[.slice (some ⟨g, o, none⟩) n n] 154))) := by
      have hbb : Below w.heap.size w (w.alloc (.cells #[.slice (some ⟨g, o, none⟩) n n] 154)) := ((Grew.refl w).alloc _).below
      have hl := Hl.out
      have e1 : (l.take n).length = n := by rw [List.length_take]; omega
      have q : LiesX X (d + 1) w (l.take n) (.slice (some ⟨g, o, none⟩) n n) := LiesX.cut HL.out n n hl.2.2 (Nat.le_refl _)
      refine ⟨_, _, rfl, ⟨w.heap.size, some ⟨g, o, none⟩, n, rfl, HX.out _ (Nat.le_refl _), by rw [e1]; simp, by rw [e1]; exact LiesX.stays (fun _ h => h) (fun _ _ _ hv => cell_keeps hbb hv) q, by omega, by omega, fun h => by cases h⟩, hbb⟩
    go_wp2_with fail
    go_ret
    exact HE.out
  | succ h ih =>
    intro k l v n w hX hn h1 h2 hbig
    by_cases hw : n = l.length
    · subst hw
      rw [List.take_length]
      exact head_wholeX X d (h + 1) k l v w hn
    have hsz := nd_size (hn.nd _ _ _ _)
    obtain ⟨b, sl, el, ps, rfl, _, hc0, hc1, hsX, heX, hl1, hl2, hl3, hl, hp⟩ := hn
    have hs := hsX.slv
    have he := heX.slv
    subst hl
    obtain ⟨g, o, c, hsl, hcap, hcs⟩ := hs.full (fun e => by have := congrArg List.length e; rw [List.length_map, List.length_nil] at this; omega)
    subst hsl
    rw [List.length_map] at hc0 hcap
    have hs' : SlV w (ps.map (·.2)) (.slice (some ⟨g, o, none⟩) ps.length c) := by have := hs; rwa [List.length_map] at this
    obtain ⟨i, rfl⟩ : ∃ i, n = i + 1 := ⟨n - 1, by omega⟩
    have HSz : Hid (Calls Tryz.prog 280 #[.pointer (some ⟨b, 0, none⟩)] w fun e w' => e = .returned (.int .i64 (ps.flatMap (·.1)).length) ∧ Below w.heap.size w w') := by
      rcases hsz with ⟨b', hv', hcall⟩ | ⟨b', hv', hcall⟩
      · injection hv' with q _
        exact absurd q (by decide)
      · have e : b' = b := by simpa using hv'.symm
        subst e
        exact hcall w (Below.refl _ _)
    have HFi : Hid (∀ V, Below w.heap.size w V → Calls Tryz.prog 184 #[.pointer (some ⟨b, 0, none⟩), .int .i64 (i : Int)] V (FindPost ps i V)) := fun V hV => find_any ps b el i V (cell_keeps hV hc1) (he.keeps hV) (by omega) hl2 hbig
    have HIt : Hid (∀ (kk q : Nat), InPart ps i kk q → ∃ vk m, w.cell? ⟨g, o + kk, none⟩ = some vk ∧ q + 1 ≤ 1099511627776 ∧ (∀ V, Below w.heap.size w V → Calls Tryz.prog 219 #[vk, .int .i64 ((q + 1 : Nat) : Int)] V (NodeX X d h false m V)) ∧
        (∀ (T : Nat) (p : Value) (w3 : World), Below w.heap.size w w3 → NDX X d h false w3 m (.iface T p) → Calls Tryz.prog 235 #[.slice (some ⟨w3.heap.size + 1, 0, none⟩) 2 2] ((w3.alloc (.cells #[.iface T p] 76)).alloc (.cells #[.slice (some ⟨g, o, none⟩) kk c, .slice (some ⟨w3.heap.size, 0, none⟩) 1 1] 148)) fun e w' => ∃ v, e = .returned v ∧ Below w.heap.size w w' ∧ Calls Tryz.prog 94 #[v] w' fun e w'' => ∃ b, e = .returned (.pointer (some ⟨b, 0, none⟩)) ∧ NodeX X d (h + 1) false ((ps.flatMap (·.1)).take (i + 1)) w (.returned (.iface 158 (.pointer (some ⟨b, 0, none⟩)))) w'')) := fun kk q hin => by
      have hlt := hin.lt
      have hinn := hin.inn
      have hle : (ps[kk]'hlt).1.length ≤ (ps.flatMap (·.1)).length := by rw [part_split ps kk hlt]; simp; omega
      refine ⟨(ps[kk]'hlt).2, (ps[kk]'hlt).1.take (q + 1), ?_, by omega, fun V hV => ih _ _ _ (q + 1) V (fun b h => hX b (Nat.le_trans hV.size h)) ((hp kk hlt).keeps hV _ _ _ _) (by omega) (by omega) (by omega), fun T p w3 hb3 hnd => ?_⟩
      · have := hcs kk (by rw [List.length_map]; exact hlt)
        rwa [List.getElem_map] at this
      · have h9 := head_tailX (kk := kk) (T := T) (p := p) (m := (ps[kk]'hlt).1.take (q + 1)) (k := k) hX hp hs' hlt hl2 hcap hb3 hnd (by rw [← in_take hin, List.length_take]; omega)
        rw [← in_take hin] at h9
        exact h9
    have Hc0 : Hid (w.cell? ⟨b, 0, none⟩ = some (.slice (some ⟨g, o, none⟩) ps.length c)) := hc0
    have ta := as_BL
    have tb := as_B
    obtain ⟨n, hn⟩ : ∃ n, n = i + 1 := ⟨_, rfl⟩
    rw [← hn] at h1 h2 hw HIt ⊢
    have hwi : IntKind.i64.wrap ((n : Nat) - 1 : Int) = (i : Int) := by rw [IntKind.wrap_i64]; omega
    have hni : ¬ ((n : Nat) : Int) = ((ps.flatMap (·.1)).length : Nat) := by omega
    generalize (ps.flatMap (·.1)).take n = R at *
    generalize (ps.flatMap (·.1)).length = F at *
    clear ih hp hcs hs hs' he hc1 hc0 hsz hbig hn h1 h2 hw hsX heX hX
    go_enter Tryz.func219, Tryz.ntmps219
    go_wp2_with fail
    refine Calls.mono HSz.out ?_
    rintro e w1 ⟨rfl, hb1⟩
    go_wp2_with fail
    refine (HFi.out _ hb1).mono ?_
    rintro e w2 ⟨kk, q, rfl, hin, hg2⟩
    have hb2 : Below w.heap.size w w2 := hb1.trans (hg2.mono hb1.size)
    obtain ⟨vk, m, hck, hq, hw, hco⟩ := HIt.out kk q hin
    have pk := cell_keeps hb2 hck
    have p0 := cell_keeps hb2 Hc0.out
    have Pk : Hid (w.cell? ⟨g, o + kk, none⟩ = some vk) := hck
    have P0 : Hid (w.cell? ⟨b, 0, none⟩ = some (.slice (some ⟨g, o, none⟩) ps.length c)) := Hc0.out
    have hkl : kk < ps.length := hin.lt
    have hki : (kk : Int) < (ps.length : Nat) := by omega
    have hkle : (kk : Int) ≤ (ps.length : Nat) := by omega
    have hkle2 : kk ≤ ps.length := by omega
    have hkc : kk ≤ c := by omega
    have hkci : (kk : Int) ≤ (c : Nat) := by omega
    have hLci : (ps.length : Int) ≤ (c : Nat) := by omega
    have Hw : Hid _ := hw
    have Hco : Hid _ := hco
    obtain ⟨q1, hq1⟩ : ∃ q1, q1 = q + 1 := ⟨_, rfl⟩
    rw [← hq1] at Hw
    have hwq : IntKind.i64.wrap ((q : Nat) + 1 : Int) = (q1 : Int) := by rw [IntKind.wrap_i64]; omega
    clear hg2 HFi HIt hw hco hck Hc0 HSz hin hq hq1
    generalize hLg : ps.length = L at *
    clear hLg hl1 hl2 hl3
    go_wp2_with fail
    go_region_held3 (fun w' => (w'.cell? ⟨b, 0, none⟩ = some (.slice (some ⟨g, o, none⟩) L c)) ∧ (w'.cell? ⟨g, o + kk, none⟩ = some vk)) (go_keep)
      (first
        | (go_at_call 94; refine Calls.mono HAb.out ?_; rintro e w5 ⟨b5, rfl, hx⟩; have HE : Hid (NodeX X d (h + 1) false R w (.returned (.iface 158 (.pointer (some ⟨b5, 0, none⟩)))) w5) := hx; clear hx; have hbZ : Below w.heap.size w w5 := (by obtain ⟨_, _, _, _, hz⟩ := HE.out; exact hz); have p0 := cell_keeps hbZ P0.out; have pk := cell_keeps hbZ Pk.out)
        | (go_at_call 235; refine Calls.mono HCo.out ?_; rintro e w4 ⟨v4, rfl, hb4, hab⟩; have HAb : Hid _ := hab; clear hab; have p0 := cell_keeps hb4 P0.out; have pk := cell_keeps hb4 Pk.out)
        | (go_at_call 219; refine (Hw.out _ hb2.drew).mono ?_; rintro e w3 ⟨T, p, rfl, hnd, hg3⟩; have hb3 : Below w.heap.size w w3 := hb2.drew.trans (hg3.mono hb2.size); have HCo : Hid _ := Hco.out T p w3 hb3 hnd; clear hnd hg3; have p0 := cell_keeps hb3 P0.out; have pk := cell_keeps hb3 Pk.out))
    all_goals (first | (go_ret; exact HE.out) | (go_wp2_with fail; go_ret; exact HE.out))

/-- As TN, in these blocks. -/
def TNX (X : Nat → Prop) (d : Nat) (w : World) (l : List VT) (v : Value) : Prop := ∃ h, NDX X d h false w l v ∧ (h = 0 ∨ 16 ^ h ≤ l.length)

/-- As OT, in these blocks. -/
def OTX (X : Nat → Prop) (d : Nat) (w : World) (l : List VT) (v : Value) : Prop := (l = [] ∧ v = .nilIface) ∨ TNX X d w l v

end Go.Proofs.YtekoaiehhjgfiaaGreat

namespace Go.Proofs.YtekoaiehhjgfiaaGreat
open Go.RowKit

/-- A vector, nil or not, that holds these items. -/
def VC (d : Nat) (w : World) (l : List VT) (p : Value) : Prop := (l = [] ∧ p = .pointer none) ∨ ∃ b t, p = .pointer (some ⟨b, 0, none⟩) ∧ w.cell? ⟨b, 0, none⟩ = some t ∧ OT d w l t

theorem VC.keeps {d : Nat} {w w' : World} {l : List VT} {p : Value} (h : VC d w l p) (hb : Below w.heap.size w w') : VC d w' l p := by
  rcases h with h | ⟨b, t, hp, hc, ht⟩
  · exact .inl h
  · exact .inr ⟨b, t, hp, cell_keeps hb hc, ht.keeps hb⟩

theorem VC.made {d : Nat} {w : World} {l : List VT} {t : Value} (ht : OT d w l t) (T : Nat) : VC d (w.alloc (.cells #[t] T)) l (.pointer (some ⟨w.heap.size, 0, none⟩)) :=
  .inr ⟨w.heap.size, t, rfl, by simp, ht.keeps ((Grew.refl w).alloc _).below⟩

/-- What own tells. -/
def OwnPost (d : Nat) (l : List VT) (w : World) (e : Ending) (w' : World) : Prop := ∃ b t, e = .returned (.pointer (some ⟨b, 0, none⟩)) ∧ w'.cell? ⟨b, 0, none⟩ = some t ∧ OT d w' l t ∧ Below w.heap.size w w'

set_option maxRecDepth 100000 in
theorem vown_any (d : Nat) (l : List VT) (p : Value) (w : World) (h : VC d w l p) : Calls Tryz.prog 53 #[p] w (OwnPost d l w) := by
  rcases h with ⟨rfl, rfl⟩ | ⟨b, t, rfl, hc, ht⟩
  · have HE : Hid (OwnPost d [] w (.returned (.pointer (some ⟨w.heap.size, 0, none⟩))) (w.alloc (.cells #[.nilIface] 80))) := ⟨w.heap.size, .nilIface, rfl, by simp, .inl ⟨rfl, rfl⟩, ((Grew.refl w).alloc _).below⟩
    go_enter Tryz.func53, Tryz.ntmps53
    go_wp2_with fail
    go_ret
    exact HE.out
  · have HE : Hid (OwnPost d l w (.returned (.pointer (some ⟨b, 0, none⟩))) w) := ⟨b, t, rfl, hc, ht, Below.refl _ _⟩
    clear hc ht
    go_enter Tryz.func53, Tryz.ntmps53
    go_wp2_with fail
    go_ret
    exact HE.out

/-- A number is told. -/
def NumPost (n : Nat) (w : World) (e : Ending) (w' : World) : Prop := e = .returned (.int .i64 (n : Int)) ∧ Below w.heap.size w w'

set_option maxRecDepth 100000 in
theorem vlen_any (d : Nat) (l : List VT) (p : Value) (w : World) (h : VC d w l p) : Calls Tryz.prog 14 #[p] w (NumPost l.length w) := by
  have HO : Hid _ := vown_any d l p w h
  clear h
  go_enter Tryz.func14, Tryz.ntmps14
  go_wp2_with fail
  refine Calls.mono HO.out ?_
  rintro e w1 ⟨b, t, rfl, hc, ht, hb1⟩
  rcases ht with ⟨rfl, rfl⟩ | ht
  · have HE : Hid (NumPost ([] : List VT).length w (.returned (.int .i64 0)) w1) := ⟨rfl, hb1⟩
    clear HO
    go_wp2_with fail
    go_ret
    exact HE.out
  · obtain ⟨h, hn, _⟩ := ht
    rcases nd_size hn with ⟨b2, rfl, hcall⟩ | ⟨b2, rfl, hcall⟩
    · have HC : Hid _ := hcall w1 (Below.refl _ _)
      clear hcall hn HO
      go_wp2_with fail
      refine Calls.mono HC.out ?_
      rintro e w2 ⟨rfl, hb2⟩
      have HE : Hid (NumPost l.length w (.returned (.int .i64 l.length)) w2) := ⟨rfl, hb1.trans (hb2.mono hb1.size)⟩
      clear HC
      go_wp2_with fail
      go_ret
      exact HE.out
    · have HC : Hid _ := hcall w1 (Below.refl _ _)
      clear hcall hn HO
      go_wp2_with fail
      refine Calls.mono HC.out ?_
      rintro e w2 ⟨rfl, hb2⟩
      have HE : Hid (NumPost l.length w (.returned (.int .i64 l.length)) w2) := ⟨rfl, hb1.trans (hb2.mono hb1.size)⟩
      clear HC
      go_wp2_with fail
      go_ret
      exact HE.out

/-- A yes or no is told. -/
def BoolPost (y : Bool) (w : World) (e : Ending) (w' : World) : Prop := e = .returned (.bool y) ∧ Below w.heap.size w w'

set_option maxRecDepth 100000 in
theorem hasPlace_any (d : Nat) (l : List VT) (p : Value) (i : Int) (w : World) (h : VC d w l p) : Calls Tryz.prog 140 #[p, .int .i64 i] w (BoolPost (decide (0 ≤ i ∧ i < (l.length : Int))) w) := by
  have HO : Hid _ := vlen_any d l p w h
  clear h
  obtain ⟨D, hD⟩ : ∃ D, D = decide (0 ≤ i ∧ i < (l.length : Int)) := ⟨_, rfl⟩
  rw [← hD]
  have HDD : Hid (D = decide (0 ≤ i ∧ i < (l.length : Int))) := hD
  clear hD
  by_cases h0 : 0 ≤ i
  · have HD : Hid (decide (0 ≤ i ∧ i < (l.length : Int)) = decide (i < (l.length : Int))) := by show _ = _; simp [h0]
    go_enter Tryz.func140, Tryz.ntmps140
    go_wp2_with fail
    refine Calls.mono HO.out ?_
    rintro e w1 ⟨rfl, hb1⟩
    have HE : Hid (BoolPost D w (.returned (.bool (decide (i < (l.length : Int))))) w1) := ⟨by rw [HDD.out, HD.out], hb1⟩
    clear HO
    go_wp2_with fail
    go_ret
    exact HE.out
  · have HE : Hid (BoolPost D w (.returned (.bool false)) w) := ⟨by rw [HDD.out]; simp [h0], Below.refl _ _⟩
    have h0' : i < 0 := by omega
    clear HO
    go_enter Tryz.func140, Tryz.ntmps140
    go_wp2_with fail
    go_ret
    exact HE.out

set_option maxRecDepth 100000 in
theorem hasEnd_any (d : Nat) (l : List VT) (p : Value) (i : Int) (w : World) (h : VC d w l p) : Calls Tryz.prog 186 #[p, .int .i64 i] w (BoolPost (decide (0 ≤ i ∧ i ≤ (l.length : Int))) w) := by
  have HO : Hid _ := vlen_any d l p w h
  clear h
  obtain ⟨D, hD⟩ : ∃ D, D = decide (0 ≤ i ∧ i ≤ (l.length : Int)) := ⟨_, rfl⟩
  rw [← hD]
  have HDD : Hid (D = decide (0 ≤ i ∧ i ≤ (l.length : Int))) := hD
  clear hD
  by_cases h0 : 0 ≤ i
  · have HD : Hid (decide (0 ≤ i ∧ i ≤ (l.length : Int)) = decide (i ≤ (l.length : Int))) := by show _ = _; simp [h0]
    go_enter Tryz.func186, Tryz.ntmps186
    go_wp2_with fail
    refine Calls.mono HO.out ?_
    rintro e w1 ⟨rfl, hb1⟩
    have HE : Hid (BoolPost D w (.returned (.bool (decide (i ≤ (l.length : Int))))) w1) := ⟨by rw [HDD.out, HD.out], hb1⟩
    clear HO
    go_wp2_with fail
    go_ret
    exact HE.out
  · have HE : Hid (BoolPost D w (.returned (.bool false)) w) := ⟨by rw [HDD.out]; simp [h0], Below.refl _ _⟩
    have h0' : i < 0 := by omega
    clear HO
    go_enter Tryz.func186, Tryz.ntmps186
    go_wp2_with fail
    go_ret
    exact HE.out

/-- A vector is told, or an error alone. -/
def VecPost (d : Nat) (r : List VT ⊕ Nat) (w : World) (e : Ending) (w' : World) : Prop :=
  Below w.heap.size w w' ∧ match r with
  | .inl l => ∃ b, e = .returned (.tuple #[.pointer (some ⟨b, 0, none⟩), .int .i64 0]) ∧ VC d w' l (.pointer (some ⟨b, 0, none⟩))
  | .inr n => e = .returned (.tuple #[.pointer none, .int .i64 (n : Int)])

end Go.Proofs.YtekoaiehhjgfiaaGreat

