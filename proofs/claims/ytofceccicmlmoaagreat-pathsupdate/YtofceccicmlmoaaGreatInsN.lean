/-
  slices.Insert at values: at the end, and without room.
-/
import Derived.Test.YtofceccicmlmoaaGreatInsM
import Derived.Lib.AppendZerosOnto
import Derived.Laws.NewBlocks
import Derived.Deep.AppendLies
namespace Go.Proofs.YtofceccicmlmoaaGreat
open Go.RowKit Go.Shelf Go.Lib

set_option maxHeartbeats 4000000 in
set_option maxRecDepth 100000 in
/-- At the end. -/
theorem ins_end (M : Nat) (v : Value) (n m vb vc : Nat) (xs vs : List Value) (w : World) (hown : w.ownsRow M 24 4 v n xs) (hM : M ≤ w.heap.size) (hm : 0 < m) (hvl : vs.length = m * 4) (hc : n + m ≤ 65536) (hvs : ∀ j u, vs[j]? = some u → w.cell? ⟨vb, 0 + j, none⟩ = some u) (h1v : ∀ u ∈ vs, u.oneCell' = true) :
    Calls Tryz.prog 58 #[v, .int .i64 (n : Int), .slice (some ⟨vb, 0, none⟩) m vc] w fun e w' => ∃ g cap, e = .returned (.slice (some ⟨g, 0, none⟩) (n + m) cap) ∧ w'.ownsRow M 24 4 (.slice (some ⟨g, 0, none⟩) (n + m) cap) (n + m) (xs ++ vs) ∧ w.grownBy w' v.ownBlock ∧ (v.ownBlock = some g ∨ w.heap.size ≤ g) := by
  obtain ⟨i0, hi, hz0, hz1, hz2⟩ := info24
  have hz : ¬ ((m : Int) = 0) := by omega
  have HA : Hid (∀ j u, vs[j]? = some u → w.cell? ((⟨vb, 0, none⟩ : Addr).add j) = some u) := fun j u hj => by rw [addr_add26]; exact hvs j u hj
  have HO : Hid (w.ownsRow M 24 4 v n xs) := hown
  clear hvs
  rcases hown.2 with ⟨rfl, rfl⟩ | ⟨g, cap, cur, rfl, _, _, hnc, hcm, _⟩
  · clear hown
    go_enter Tryz.func58, Tryz.ntmps58
    go_wp2_with (at_builtin; refine wpList_append_lies _ rfl _ _ 22 rfl M 24 i0 _ 4 56 Tryz.underlying22 hi hz0 hz1 hz2 rfl (by decide) _ _ xs rfl HO.out ⟨vb, 0, none⟩ m vc vs rfl hvl HA.out h1v hm (by unfold maxLen; omega) (by omega) hM w.heap.size rfl ?_; intro g' cap' w' k1 k2 k3 _)
    go_ret
    exact ⟨g', cap', by rw [Nat.zero_add]; rfl, k1, k2, k3.imp (fun h => h) (fun h => by omega)⟩
  · clear hown
    have hnc1 : (n : Int) ≤ (cap : Int) := by omega
    have hc9 : cap ≤ 9223372036854775807 := by unfold maxLen at hcm; omega
    by_cases hcn : cap = n
    · subst hcn
      go_enter Tryz.func58, Tryz.ntmps58
      go_wp2_with (at_builtin; refine wpList_append_lies _ rfl _ _ 22 rfl M 24 i0 _ 4 56 Tryz.underlying22 hi hz0 hz1 hz2 rfl (by decide) _ _ xs rfl HO.out ⟨vb, 0, none⟩ m vc vs rfl hvl HA.out h1v hm (by unfold maxLen; omega) (by omega) hM w.heap.size rfl ?_; intro g' cap' w' k1 k2 k3 _)
      go_ret
      exact ⟨g', cap', rfl, k1, k2, k3.imp (fun h => h) (fun h => by omega)⟩
    · go_enter Tryz.func58, Tryz.ntmps58
      go_wp2_with (at_builtin; refine wpList_append_lies _ rfl _ _ 22 rfl M 24 i0 _ 4 56 Tryz.underlying22 hi hz0 hz1 hz2 rfl (by decide) _ _ xs rfl HO.out ⟨vb, 0, none⟩ m vc vs rfl hvl HA.out h1v hm (by unfold maxLen; omega) (by omega) hM w.heap.size rfl ?_; intro g' cap' w' k1 k2 k3 _)
      go_ret
      exact ⟨g', cap', rfl, k1, k2, k3.imp (fun h => h) (fun h => by omega)⟩

/-- The new row behind both copies. -/
theorem row_grow (Z xs vs : List Value) (N K J : Nat) (hxl : xs.length = N) (hK : K ≤ N) (hJ : J = K + vs.length) (hZ : N - K + vs.length ≤ Z.length) :
    let C := xs.take K ++ Z
    let C1 := C.take K ++ vs ++ C.drop (K + vs.length)
    let C2 := C1.take J ++ xs.drop K ++ C1.drop (J + (xs.drop K).length)
    C1.length = C.length ∧ C2.length = C.length ∧ C2.take (N + vs.length) = xs.take K ++ vs ++ xs.drop K := by
  intro C C1 C2
  have hxk : (xs.take K).length = K := by rw [List.length_take]; omega
  have hC : C.length = K + Z.length := by simp only [C, List.length_append, hxk]
  have hd : (xs.drop K).length = N - K := by rw [List.length_drop, hxl]
  have h1 : C1.length = C.length := by
    simp only [C1, List.length_append, List.length_take, List.length_drop]
    omega
  have h2 : C2.length = C.length := by
    simp only [C2, List.length_append, List.length_take, List.length_drop, h1, hxl]
    omega
  refine ⟨h1, h2, ?_⟩
  have hCK : C.take K = xs.take K := by
    simp only [C]
    rw [List.take_append_of_le_length (by omega), List.take_of_length_le (by omega)]
  have hC1J : C1.take J = xs.take K ++ vs := by
    simp only [C1]
    have hl : (C.take K ++ vs).length = J := by rw [List.length_append, List.length_take]; omega
    rw [List.take_append_of_le_length (by omega), List.take_of_length_le (by omega), hCK]
  simp only [C2]
  rw [hC1J, List.append_assoc, List.append_assoc, List.append_assoc]
  rw [← List.append_assoc vs, ← List.append_assoc (xs.take K), List.take_append_of_le_length (by simp only [List.length_append]; omega), List.take_of_length_le (by simp only [List.length_append]; omega)]

set_option maxHeartbeats 4000000 in
set_option maxRecDepth 100000 in
/-- No room, and something stands behind. -/
theorem ins_grow (g cap n m i vb vc N2 J : Nat) (cur vcur : Array Value) (tv : TypeId) (xs vs : List Value) (w : World) (hg : w.heap[g]? = some (.cells cur 24 (0, 0))) (htk : cur.toList.take (n * 4) = xs) (hxl : xs.length = n * 4) (hvl : vs.length = m * 4)
    (hi : i < n) (hm : 0 < m) (hN2 : N2 = n + m) (hJ : J = i + m) (hnc : n ≤ cap) (hroom : cap < N2) (hc : n + m ≤ 65536) (hvq : w.heap[vb]? = some (.cells vcur tv (0, 0))) (hvs : ∀ j u, vs[j]? = some u → w.cell? ⟨vb, 0 + j, none⟩ = some u) (h1x : ∀ u ∈ xs, u.oneCell' = true) (h1v : ∀ u ∈ vs, u.oneCell' = true) :
    Calls Tryz.prog 58 #[.slice (some ⟨g, 0, none⟩) n cap, .int .i64 (i : Int), .slice (some ⟨vb, 0, none⟩) m vc] w fun e w' =>
      ∃ G, e = .returned (.slice (some ⟨w.heap.size, 0, none⟩) N2 G) ∧ N2 ≤ G ∧ G ≤ maxLen ∧ (∃ cur', w'.heap[w.heap.size]? = some (.cells cur' 24 (0, 0)) ∧ cur'.size = G * 4 ∧ cur'.toList.take (N2 * 4) = xs.take (i * 4) ++ vs ++ xs.drop (i * 4)) ∧ w.grownBy w' none := by
  obtain ⟨i0, hi0, hz0, hz1, hz2⟩ := info24
  obtain ⟨k, hk⟩ : ∃ k, k = N2 - i := ⟨_, rfl⟩
  have hgl : g < w.heap.size := by
    by_cases hl : g < w.heap.size
    · exact hl
    · rw [Array.getElem?_eq_none (by omega)] at hg; cases hg
  have hvl2 : vb < w.heap.size := by
    by_cases hl : vb < w.heap.size
    · exact hl
    · rw [Array.getElem?_eq_none (by omega)] at hvq; cases hvq
  have hcx : ∀ (W : World), W.heap[g]? = some (.cells cur 24 (0, 0)) → ∀ j u, xs[j]? = some u → W.cell? ⟨g, j, none⟩ = some u := fun W hW j u hj => by
    unfold World.cell?
    rw [hW]
    rw [← htk, List.getElem?_take] at hj
    split at hj
    · simpa using hj
    · cases hj
  have hold : (Builtin.firstCells i0.size i (.slice (some ⟨g, 0, none⟩) i cap)).run Tryz.prog w.drew = .ok (xs.take (i * 4)).toArray w.drew := by
    rw [hz1]
    exact run_firstCells_some w.drew 4 i ⟨g, 0, none⟩ i cap (xs.take (i * 4)) (by rw [List.length_take]; omega) (fun j v hj => by
      rw [addr_add26, Nat.zero_add]
      rw [List.getElem?_take] at hj
      split at hj
      · exact hcx _ hg j v hj
      · cases hj)
  obtain ⟨G, hG⟩ : ∃ G, G = grownCap w N2 cap 24 := ⟨_, rfl⟩
  obtain ⟨Z, hZ⟩ : ∃ Z : List Value, Z = (Builtin.zeroCells (Value.agg #[.int .i64 0, .int .i64 0, .string ⟨#[]⟩, .slice none 0 0]).cells k ++ Builtin.zeroCells (Value.agg #[.int .i64 0, .int .i64 0, .string ⟨#[]⟩, .slice none 0 0]).cells (G - N2)).toList := ⟨_, rfl⟩
  have hrz : ∀ ty, (Builtin.append_ #[22, 3] ty #[.slice (some ⟨g, 0, none⟩) i cap, .int .i64 (k : Int)]).run Tryz.prog w = .ok (.slice (some ⟨w.heap.size, 0, none⟩) N2 G) (w.drew.alloc (.cells (xs.take (i * 4) ++ Z).toArray 24)) := fun ty => by
    have h := Lib.run_append_grow_zeros w 22 3 ty 24 i0 _ .i64 .i64 Tryz.underlying22 Tryz.underlying3 hi0 hz0 (some ⟨g, 0, none⟩) i cap (xs.take (i * 4)) hold k (by omega) (by omega) (by omega) (by omega) (by rw [hz2]; omega) (by rw [hz2, show i + k = N2 by omega]; exact growslice_fits hroom (by omega))
    rw [show i + k = N2 by omega, ← hG] at h
    rw [h, hZ]
    have e : ∀ (A B : Array Value) (L : List Value), L.toArray ++ A ++ B = (L ++ (A ++ B).toList).toArray := fun A B L => by apply Array.ext'; simp
    rw [e]
  have hGn : N2 ≤ G := by rw [hG]; exact grownCap_ge w _ _ _
  have hG63 : G ≤ maxLen := by rw [hG]; exact grownCap_le_maxLen w N2 cap 24 (by unfold maxLen; omega)
  have hZl : Z.length = (G - i) * 4 := by
    rw [hZ]
    simp [Builtin.zeroCells, Value.cells]
    omega
  obtain ⟨c1, c2, c3⟩ := row_grow Z xs vs (n * 4) (i * 4) (J * 4) hxl (by omega) (by omega) (by omega)
  have hCl : (xs.take (i * 4) ++ Z).length = G * 4 := by rw [List.length_append, List.length_take]; omega
  obtain ⟨C, hC⟩ : ∃ C, C = xs.take (i * 4) ++ Z := ⟨_, rfl⟩
  rw [← hC] at c1 c2 c3 hCl hrz
  obtain ⟨R1, hR1⟩ : ∃ R1, R1 = C.take (i * 4) ++ vs ++ C.drop (i * 4 + vs.length) := ⟨_, rfl⟩
  rw [← hR1] at c1 c2 c3
  obtain ⟨R2, hR2⟩ : ∃ R2, R2 = R1.take (J * 4) ++ xs.drop (i * 4) ++ R1.drop (J * 4 + (xs.drop (i * 4)).length) := ⟨_, rfl⟩
  rw [← hR2] at c2 c3
  have hdl : (xs.drop (i * 4)).length = (n - i) * 4 := by rw [List.length_drop, hxl]; omega
  obtain ⟨g2, hg2⟩ : ∃ g2, g2 = w.heap.size := ⟨_, rfl⟩
  have hA0 : ∀ (q : Nat → World → World), True := fun _ => trivial
  have hn1 : ∀ W : World, W.heap = (w.drew.alloc (.cells C.toArray 24)).heap → W.heap[g2]? = some (.cells C.toArray 24 (0, 0)) ∧ W.heap[vb]? = w.heap[vb]? ∧ W.heap[g]? = w.heap[g]? := fun W hW => by
    rw [hW, hg2]
    refine ⟨heap_alloc_new w.drew _, ?_, ?_⟩
    · exact ((Grew.refl w.drew).alloc (.cells C.toArray 24)).below.block vb hvl2
    · exact ((Grew.refl w.drew).alloc (.cells C.toArray 24)).below.block g hgl
  have hcpA : ∀ (W : World), W.heap = (w.drew.alloc (.cells C.toArray 24)).heap → ∀ ty dc, (Builtin.copy_ #[22, 22] ty #[.slice (some ⟨g2, i * 4, none⟩) (N2 - i) dc, .slice (some ⟨vb, 0, none⟩) m vc]).run Tryz.prog W = .ok (goInt m) (W.setRow g2 R1.toArray) := fun W hW ty dc => by
    have h := run_copy_row4 W ty g2 (i * 4) (N2 - i) dc ⟨vb, 0, none⟩ m vc C.toArray 24 vs (hn1 W hW).1 m (by simp only [Nat.min_def]; split <;> omega) hvl (fun j u hj => by
      rw [addr_add26]
      unfold World.cell?
      rw [(hn1 W hW).2.1]
      exact hvs j u hj) (by simp only [List.size_toArray]; rw [hCl]; omega) h1v
    rw [hR1]
    exact h
  have hcpB : ∀ (W : World), (∃ V : World, V.heap = (w.drew.alloc (.cells C.toArray 24)).heap ∧ W.heap = (V.setRow g2 R1.toArray).heap) → ∀ ty dc sc, (Builtin.copy_ #[22, 22] ty #[.slice (some ⟨g2, J * 4, none⟩) (N2 - J) dc, .slice (some ⟨g, i * 4, none⟩) (n - i) sc]).run Tryz.prog W = .ok (goInt ((n - i : Nat) : Int)) (W.setRow g2 R2.toArray) := fun W hW ty dc sc => by
    obtain ⟨V, hV, hWV⟩ := hW
    have hWg2 : W.heap[g2]? = some (.cells R1.toArray 24 (0, 0)) := by rw [hWV]; exact setRow_heap V _ _ _ _ _ (hn1 V hV).1
    have hWg : W.heap[g]? = some (.cells cur 24 (0, 0)) := by rw [hWV, setRow_other V _ _ _ (by omega), (hn1 V hV).2.2]; exact hg
    have h := run_copy_row4 W ty g2 (J * 4) (N2 - J) dc ⟨g, i * 4, none⟩ (n - i) sc R1.toArray 24 (xs.drop (i * 4)) hWg2 (n - i) (by simp only [Nat.min_def]; split <;> omega) hdl (fun j u hj => by
      rw [addr_add26]
      exact hcx W hWg (i * 4 + j) u (by rwa [List.getElem?_drop] at hj)) (by simp only [List.size_toArray]; rw [c1, hCl, hdl]; omega) (fun v hv => h1x v (List.mem_of_mem_drop hv))
    rw [hR2]
    exact h
  have HE : Hid (∀ (W : World), (∃ V : World, V.heap = (w.drew.alloc (.cells C.toArray 24)).heap ∧ V.os = w.os ∧ V.tape = w.tape ∧ V.output = w.output ∧ W.heap = ((V.setRow g2 R1.toArray).setRow g2 R2.toArray).heap ∧ W.os = V.os ∧ W.tape = V.tape ∧ W.output = V.output) → (∃ cur', W.heap[w.heap.size]? = some (.cells cur' 24 (0, 0)) ∧ cur'.size = G * 4 ∧ cur'.toList.take (N2 * 4) = xs.take (i * 4) ++ vs ++ xs.drop (i * 4)) ∧ w.grownBy W none) := by
    rintro W ⟨V, hV, v1, v2, v3, hWV, w1, w2, w3⟩
    refine ⟨⟨R2.toArray, ?_, by simp only [List.size_toArray]; rw [c2, hCl], ?_⟩, ⟨w1.trans v1, w2.trans v2, w3.trans v3, ?_, fun j hj _ => ?_⟩⟩
    · rw [hWV, ← hg2]
      exact setRow_heap _ _ _ _ _ _ (setRow_heap V _ _ _ _ _ (hn1 V hV).1)
    · rw [show N2 * 4 = n * 4 + vs.length by omega]; simpa using c3
    · rw [hWV]
      simp only [setRow_size, hV]
      exact ((Grew.refl w.drew).alloc (.cells C.toArray 24)).below.size
    · rw [hWV, setRow_other _ _ _ _ (by omega), setRow_other _ _ _ _ (by omega), hV]
      exact ((Grew.refl w.drew).alloc (.cells C.toArray 24)).below.block j hj
  have mixed : Tryz.prog.follows Departure.mixedOrders = true := by kernel_rfl
  have hz : ¬ ((m : Int) = 0) := by omega
  have hz2' : ¬ ((i : Int) = (n : Int)) := by omega
  have hz3 : (cap : Int) < (N2 : Int) := by omega
  have hw1 : IntKind.i64.wrap ((i : Int) + (m : Int)) = (J : Int) := by rw [IntKind.wrap_i64]; omega
  have hw2 : IntKind.i64.wrap ((n : Int) + (m : Int)) = (N2 : Int) := by rw [IntKind.wrap_i64]; omega
  have hw3 : IntKind.i64.wrap ((N2 : Int) - (i : Int)) = (k : Int) := by rw [IntKind.wrap_i64]; omega
  have hb3 : (i : Int) ≤ (n : Int) := by omega
  have hb4 : ¬ (cap = i) := by omega
  have hb5 : (J : Int) ≤ (N2 : Int) := by omega
  have hb6 : (i : Int) ≤ (N2 : Int) := by omega
  have hb7 : (i : Int) ≤ (cap : Int) := by omega
  have hb8 : ¬ (G = i) := by omega
  have hb9 : ¬ (G = J) := by omega
  have hbA : (N2 : Int) ≤ (G : Int) := by omega
  have hbB : (n : Int) ≤ (cap : Int) := by omega
  have hG9 : G ≤ 9223372036854775807 := by unfold maxLen at hG63; omega
  have HG : Hid (N2 ≤ G ∧ G ≤ maxLen) := ⟨hGn, hG63⟩
  have Hg2 : Hid (g2 = w.heap.size) := hg2
  rw [← hg2] at hrz
  clear c1 c2 c3 hR1 hR2 hdl hcx htk hxl hvl hvq hvs hN2 hJ hroom hold hG hZ hZl hCl hC hn1 hk hg hg2 hgl hvl2 hA0 hGn hG63 hnc
  have hcpA2 : ∀ ty dc, (Builtin.copy_ #[22, 22] ty #[.slice (some ⟨g2, i * 4, none⟩) (N2 - i) dc, .slice (some ⟨vb, 0, none⟩) m vc]).run Tryz.prog (w.alloc (.cells C.toArray 24)).drew = .ok (goInt m) ((w.alloc (.cells C.toArray 24)).drew.setRow g2 R1.toArray) := fun ty dc => hcpA _ rfl ty dc
  have hcpB2 : ∀ ty dc sc, (Builtin.copy_ #[22, 22] ty #[.slice (some ⟨g2, J * 4, none⟩) (N2 - J) dc, .slice (some ⟨g, i * 4, none⟩) (n - i) sc]).run Tryz.prog ((w.alloc (.cells C.toArray 24)).drew.setRow g2 R1.toArray).drew = .ok (goInt ((n - i : Nat) : Int)) (((w.alloc (.cells C.toArray 24)).drew.setRow g2 R1.toArray).drew.setRow g2 R2.toArray) := fun ty dc sc => hcpB ((w.alloc (.cells C.toArray 24)).drew.setRow g2 R1.toArray).drew ⟨(w.alloc (.cells C.toArray 24)).drew, rfl, rfl⟩ ty dc sc
  have HE2 : Hid ((∃ cur', (((w.alloc (.cells C.toArray 24)).drew.setRow g2 R1.toArray).drew.setRow g2 R2.toArray).heap[w.heap.size]? = some (.cells cur' 24 (0, 0)) ∧ cur'.size = G * 4 ∧ cur'.toList.take (N2 * 4) = xs.take (i * 4) ++ vs ++ xs.drop (i * 4)) ∧ w.grownBy (((w.alloc (.cells C.toArray 24)).drew.setRow g2 R1.toArray).drew.setRow g2 R2.toArray) none) := HE.out (((w.alloc (.cells C.toArray 24)).drew.setRow g2 R1.toArray).drew.setRow g2 R2.toArray) ⟨(w.alloc (.cells C.toArray 24)).drew, rfl, rfl, rfl, rfl, rfl, rfl, rfl, rfl⟩
  have hrz2 : ∀ ty, (Builtin.append_ #[22, 3] ty #[.slice (some ⟨g, 0, none⟩) i cap, .int .i64 (k : Int)]).run Tryz.prog w = .ok (.slice (some ⟨g2, 0, none⟩) N2 G) (w.alloc (.cells C.toArray 24)).drew := hrz
  clear hcpA hcpB HE hrz
  generalize (w.alloc (.cells C.toArray 24)).drew = WA at *
  go_enter Tryz.func58, Tryz.ntmps58
  go_wp2_with (first
    | (at_builtin; refine Lib.wpList_append_run _ rfl _ _ _ _ rfl _ _ rfl rfl _ _ (hrz2 _) ?_)
    | (at_builtin; refine wpList_copy_runI _ rfl _ _ 22 22 rfl _ _ rfl rfl (hcpA2 _ _) ?_))
  go_region_law_o (refine step_copy_runI rfl _ _ 22 22 rfl _ _ (by simp [Act.eval, Act.put]) (by simp [Act.eval, Act.put]) (hcpB2 _ _ _) ?_)
  go_wp2
  go_ret
  exact ⟨G, by rw [← Hg2.out]; rfl, HG.out.1, HG.out.2, HE2.out.1, HE2.out.2⟩

/-- slices.Insert at values: one row of one's own, wherever it lies. -/
theorem insert_any (M : Nat) (v : Value) (n m i vb vc : Nat) (xs vs : List Value) (vcur : Array Value) (tv : TypeId) (w : World) (hown : w.ownsRow M 24 4 v n xs) (hM : M ≤ w.heap.size) (hm : 0 < m) (hi : i ≤ n) (hvl : vs.length = m * 4) (hc : n + m ≤ 65536) (hne : v.ownBlock ≠ some vb) (hvq : w.heap[vb]? = some (.cells vcur tv (0, 0))) (hvs : ∀ j u, vs[j]? = some u → w.cell? ⟨vb, 0 + j, none⟩ = some u) (h1x : ∀ u ∈ xs, u.oneCell' = true) (h1v : ∀ u ∈ vs, u.oneCell' = true) :
    Calls Tryz.prog 58 #[v, .int .i64 (i : Int), .slice (some ⟨vb, 0, none⟩) m vc] w fun e w' => ∃ g cap, e = .returned (.slice (some ⟨g, 0, none⟩) (n + m) cap) ∧ w'.ownsRow M 24 4 (.slice (some ⟨g, 0, none⟩) (n + m) cap) (n + m) (xs.take (i * 4) ++ vs ++ xs.drop (i * 4)) ∧ w.grownBy w' v.ownBlock ∧ (v.ownBlock = some g ∨ w.heap.size ≤ g) := by
  have hxl : xs.length = n * 4 := hown.1
  by_cases hin : i = n
  · subst hin
    rw [List.take_of_length_le (by omega), List.drop_eq_nil_of_le (by omega), List.append_nil]
    exact ins_end M v i m vb vc xs vs w hown hM hm hvl hc hvs h1v
  · rcases hown.2 with ⟨rfl, rfl⟩ | ⟨g, cap, cur, rfl, hbs, hg, hncap, hcm, hcs, htk⟩
    · omega
    · by_cases hroom : n + m ≤ cap
      · refine (ins_shift g cap n m i vb vc (n + m) (i + m) cur vcur tv xs vs w hg hcs htk hxl hvl (by omega) hm rfl rfl hroom hc (by unfold maxLen at hcm; omega) (fun e => hne (by rw [e]; rfl)) hvq hvs h1x h1v).mono ?_
        rintro e w' ⟨rfl, ⟨cur', k1, k2, k3⟩, k4⟩
        exact ⟨_, _, rfl, ⟨by simp only [List.length_append, List.length_take, List.length_drop]; omega, .inr ⟨g, cap, cur', rfl, hbs, k1, hroom, hcm, k2, k3⟩⟩, k4, .inl rfl⟩
      · refine (ins_grow g cap n m i vb vc (n + m) (i + m) cur vcur tv xs vs w hg htk hxl hvl (by omega) hm rfl rfl hncap (by omega) hc hvq hvs h1x h1v).mono ?_
        rintro e w' ⟨G, rfl, k0, k00, ⟨cur', k1, k2, k3⟩, k4⟩
        exact ⟨_, _, rfl, ⟨by simp only [List.length_append, List.length_take, List.length_drop]; omega, .inr ⟨w.heap.size, G, cur', rfl, hM, k1, k0, k00, k2, k3⟩⟩, ⟨k4.os, k4.tape, k4.output, k4.size, fun j hj _ => k4.block j hj (by simp)⟩, .inr (Nat.le_refl _)⟩

end Go.Proofs.YtofceccicmlmoaaGreat

