/-
  slices.Insert at values, in place.
-/
import Derived.Test.YtofceccicmlmoaaGreatAppRow
import Derived.Test.YtofceccicmlmoaaGreatUtf
import Derived.Shelf.Spec.SlicesInsert
namespace Go.Proofs.YtofceccicmlmoaaGreat
open Go.RowKit Go.Shelf Go.Lib

/-- copy at elements of four cells, into a row. -/
theorem run_copy_row4 (w : World) (ty : TypeId) (g o dLen dCap : Nat) (a : Addr) (sLen sCap : Nat) (cur : Array Value) (t : TypeId) (cs : List Value)
    (hg : w.heap[g]? = some (.cells cur t (0, 0))) (k : Nat) (hk : Nat.min sLen dLen = k) (hn : cs.length = k * 4)
    (hsrc : ∀ j v, cs[j]? = some v → w.cell? (a.add j) = some v) (hfit : o + cs.length ≤ cur.size) (h1 : ∀ v ∈ cs, v.oneCell' = true) :
    (Builtin.copy_ #[22, 22] ty #[.slice (some ⟨g, o, none⟩) dLen dCap, .slice (some a) sLen sCap]).run Tryz.prog w =
      .ok (goInt k) (w.setRow g (cur.toList.take o ++ cs ++ cur.toList.drop (o + cs.length)).toArray) := by
  have hl := run_loadCells_list (P := Tryz.prog) w a cs hsrc
  have hst := run_storeCells_at Tryz.prog g o t cs 0 cur w hg (by simpa using hfit) h1
  obtain ⟨i0, hi, hz0, hz1, hz2⟩ := info24
  rw [hn] at hl
  simp [Builtin.copy_, run_underlying Tryz.underlying22, Builtin.lenOf, Builtin.firstCells, sizeOf, typeInfo, hi, hz1, hk, hl, hst]

theorem addr_add26 (b o j : Nat) : (⟨b, o, none⟩ : Addr).add j = ⟨b, o + j, none⟩ := by
  unfold Addr.add; split <;> simp_all

/-- The row behind both copies. -/
theorem row_ins (C xs vs : List Value) (N K J : Nat) (hx : C.take N = xs) (hxl : xs.length = N) (hK : K ≤ N) (hJ : J = K + vs.length) (hC : N + vs.length ≤ C.length) :
    let C1 := C.take J ++ xs.drop K ++ C.drop (J + (xs.drop K).length)
    let C2 := C1.take K ++ vs ++ C1.drop (K + vs.length)
    C1.length = C.length ∧ C2.length = C.length ∧ C2.take (N + vs.length) = xs.take K ++ vs ++ xs.drop K := by
  intro C1 C2
  have hd : (xs.drop K).length = N - K := by rw [List.length_drop, hxl]
  have h1 : C1.length = C.length := by
    simp only [C1, List.length_append, List.length_take, List.length_drop, hd]
    omega
  have hC1K : C1.take K = xs.take K := by
    simp only [C1, List.append_assoc]
    rw [List.take_append_of_le_length (by rw [List.length_take]; omega), List.take_take, ← hx, List.take_take]
    congr 1
    omega
  have h2 : C2.length = C.length := by
    simp only [C2, List.length_append, List.length_take, List.length_drop, h1]
    omega
  refine ⟨h1, h2, ?_⟩
  have hC1d : (C1.drop (K + vs.length)).take (N - K) = xs.drop K := by
    rw [← hJ]
    simp only [C1, List.append_assoc]
    rw [List.drop_append_of_le_length (by rw [List.length_take]; omega)]
    rw [List.drop_eq_nil_of_le (by rw [List.length_take]; omega), List.nil_append]
    rw [List.take_append_of_le_length (by rw [hd]; omega), List.take_of_length_le (by rw [hd]; omega)]
  simp only [C2]
  have hl3 : (C1.take K ++ vs).length = K + vs.length := by rw [List.length_append, List.length_take]; omega
  rw [List.take_append, hl3, List.take_of_length_le (l := C1.take K ++ vs) (by omega), show N + vs.length - (K + vs.length) = N - K by omega, hC1d, hC1K]

set_option maxHeartbeats 4000000 in
set_option maxRecDepth 100000 in
/-- There is room, and something stands behind. -/
theorem ins_shift (g cap n m i vb vc N2 J : Nat) (cur vcur : Array Value) (tv : TypeId) (xs vs : List Value) (w : World) (hg : w.heap[g]? = some (.cells cur 24 (0, 0))) (hcs : cur.size = cap * 4) (htk : cur.toList.take (n * 4) = xs) (hxl : xs.length = n * 4) (hvl : vs.length = m * 4)
    (hi : i < n) (hm : 0 < m) (hN2 : N2 = n + m) (hJ : J = i + m) (hroom : N2 ≤ cap) (hc : n + m ≤ 65536) (_hc9 : cap ≤ 9223372036854775807) (hvb : vb ≠ g) (hvq : w.heap[vb]? = some (.cells vcur tv (0, 0))) (hvs : ∀ j u, vs[j]? = some u → w.cell? ⟨vb, 0 + j, none⟩ = some u) (h1x : ∀ u ∈ xs, u.oneCell' = true) (h1v : ∀ u ∈ vs, u.oneCell' = true) :
    Calls Tryz.prog 58 #[.slice (some ⟨g, 0, none⟩) n cap, .int .i64 (i : Int), .slice (some ⟨vb, 0, none⟩) m vc] w fun e w' =>
      e = .returned (.slice (some ⟨g, 0, none⟩) N2 cap) ∧ (∃ cur', w'.heap[g]? = some (.cells cur' 24 (0, 0)) ∧ cur'.size = cap * 4 ∧ cur'.toList.take (N2 * 4) = xs.take (i * 4) ++ vs ++ xs.drop (i * 4)) ∧ w.grownBy w' (some g) := by
  obtain ⟨c1, c2, c3⟩ := row_ins cur.toList xs vs (n * 4) (i * 4) (J * 4) htk hxl (by omega) (by omega) (by simp; omega)
  obtain ⟨R1, hR1⟩ : ∃ R1, R1 = cur.toList.take (J * 4) ++ xs.drop (i * 4) ++ cur.toList.drop (J * 4 + (xs.drop (i * 4)).length) := ⟨_, rfl⟩
  rw [← hR1] at c1 c2 c3
  obtain ⟨R2, hR2⟩ : ∃ R2, R2 = R1.take (i * 4) ++ vs ++ R1.drop (i * 4 + vs.length) := ⟨_, rfl⟩
  rw [← hR2] at c2 c3
  have hdl : (xs.drop (i * 4)).length = (n - i) * 4 := by rw [List.length_drop, hxl]; omega
  have hcellx : ∀ (W : World), W.heap[g]? = some (.cells cur 24 (0, 0)) → ∀ j u, (xs.drop (i * 4))[j]? = some u → W.cell? ((⟨g, i * 4, none⟩ : Addr).add j) = some u := fun W hW j u hj => by
    rw [addr_add26]
    unfold World.cell?
    rw [hW]
    rw [List.getElem?_drop, ← htk, List.getElem?_take] at hj
    split at hj
    · simpa using hj
    · cases hj
  have hW1 : (w.drew.setRow g R1.toArray).heap[g]? = some (.cells R1.toArray 24 (0, 0)) := setRow_heap _ _ _ _ _ _ hg
  have hcp1 : ∀ ty dc sc, (Builtin.copy_ #[22, 22] ty #[.slice (some ⟨g, J * 4, none⟩) (N2 - J) dc, .slice (some ⟨g, i * 4, none⟩) (N2 - i) sc]).run Tryz.prog w.drew =   .ok (goInt ((n - i : Nat) : Int)) (w.drew.setRow g R1.toArray) := fun ty dc sc => by
    rw [hR1]
    exact run_copy_row4 w.drew ty g (J * 4) (N2 - J) dc _ (N2 - i) sc cur 24 (xs.drop (i * 4)) hg (n - i) (by simp only [Nat.min_def]; split <;> omega) hdl (hcellx _ hg) (by rw [hdl]; omega) (fun v hv => h1x v (List.mem_of_mem_drop hv))
  have hcp2 : ∀ ty dc, (Builtin.copy_ #[22, 22] ty #[.slice (some ⟨g, i * 4, none⟩) (N2 - i) dc, .slice (some ⟨vb, 0, none⟩) m vc]).run Tryz.prog (w.drew.setRow g R1.toArray) = .ok (goInt m) ((w.drew.setRow g R1.toArray).setRow g R2.toArray) := fun ty dc => by
    have h := run_copy_row4 (w.drew.setRow g R1.toArray) ty g (i * 4) (N2 - i) dc ⟨vb, 0, none⟩ m vc R1.toArray 24 vs hW1 m (by simp only [Nat.min_def]; split <;> omega) hvl (fun j u hj => by
      rw [addr_add26]
      unfold World.cell?
      rw [setRow_other _ _ _ _ hvb]
      exact hvs j u hj) (by simp only [List.size_toArray]; rw [c1]; simp; omega) h1v
    rw [hR2]
    exact h
  have hov : ∀ lb cb, (callFunc 84 #[.slice (some ⟨vb, 0, none⟩) m vc, .slice (some ⟨g, J * 4, none⟩) lb cb]).run Tryz.prog w = .ok (.value (.bool false)) w := fun lb cb => by
    rw [run_callFunc_extern Tryz.func84 (by kernel_rfl) (by kernel_rfl) (by kernel_rfl) (e := Extern.SlicesOverlaps.overlaps #[22, 22] #[4]) (by kernel_rfl),
      Lib.run_overlaps_apart w 22 4 24 Tryz.underlying22 4 Tryz.sizeOf24 ⟨vb, 0, none⟩ ⟨g, J * 4, none⟩ m vc lb cb hvb tv 24 vcur.size cur.size (by simp [World.shape?, hvq]) (by simp [World.shape?, hg]) (by rw [hcs]; omega) (by simp [World.frozen?, hvq]) (by simp [World.frozen?, hvq])]
    rfl
  have HE : Hid ((∃ cur', ((w.drew.setRow g R1.toArray).setRow g R2.toArray).heap[g]? = some (.cells cur' 24 (0, 0)) ∧ cur'.size = cap * 4 ∧ cur'.toList.take (N2 * 4) = xs.take (i * 4) ++ vs ++ xs.drop (i * 4)) ∧ w.grownBy ((w.drew.setRow g R1.toArray).setRow g R2.toArray) (some g)) := by
    refine ⟨⟨R2.toArray, setRow_heap _ _ _ _ _ _ hW1, by simp only [List.size_toArray]; rw [c2]; simpa using hcs, ?_⟩, ⟨rfl, rfl, rfl, by simp [setRow_size], fun k hk hne => ?_⟩⟩
    · rw [show N2 * 4 = n * 4 + vs.length by omega]; simpa using c3
    · have hkg : k ≠ g := fun e => hne (by rw [e])
      rw [setRow_other _ _ _ _ hkg, setRow_other _ _ _ _ hkg]; rfl
  have mixed : Tryz.prog.follows Departure.mixedOrders = true := by kernel_rfl
  have hz1 : ¬ ((m : Int) = 0) := by omega
  have hz2 : ¬ ((i : Int) = (n : Int)) := by omega
  have hw1 : IntKind.i64.wrap ((i : Int) + (m : Int)) = (J : Int) := by rw [IntKind.wrap_i64]; omega
  have hw2 : IntKind.i64.wrap ((n : Int) + (m : Int)) = (N2 : Int) := by rw [IntKind.wrap_i64]; omega
  have hb0 : ¬ ((cap : Int) < (N2 : Int)) := by omega
  have hb1 : (N2 : Int) ≤ (cap : Int) := by omega
  have hb2 : ¬ (cap = J) := by omega
  have hb3 : (i : Int) ≤ (n : Int) := by omega
  have hb4 : ¬ (cap = i) := by omega
  have hb5 : (J : Int) ≤ (N2 : Int) := by omega
  have hb6 : (i : Int) ≤ (N2 : Int) := by omega
  have hnc : (n : Int) ≤ (cap : Int) := by omega
  have hi63 : i ≤ n := by omega
  clear c1 c2 c3 hR1 hR2 hdl hcellx hW1 htk hxl hvl hvq hvs hcs hN2 hJ hroom
  go_enter Tryz.func58, Tryz.ntmps58
  go_wp2_with (simp only [hov])
  go_region_law_o (refine step_copy_runI rfl _ _ 22 22 rfl _ _ (by simp [Act.eval, Act.put]) (by simp [Act.eval, Act.put]) (hcp1 _ _ _) ?_)
  go_wp2_with (at_builtin; refine wpList_copy_runI _ rfl _ _ 22 22 rfl _ _ rfl rfl (hcp2 _ _) ?_)
  go_ret
  exact ⟨rfl, HE.out⟩

end Go.Proofs.YtofceccicmlmoaaGreat

