/-
  What put has come by: a new queue whose row grows.
-/
import Derived.Test.YtgmmocbgeilpiaaGreatMinQ
import Derived.Test.YtgmmocbgeilpiaaGreatAppRow
import Derived.Deep.AppendLies
import Derived.Deep.RegionLaw
import Derived.Laws.OwnMore
import Derived.OneCell
import Derived.Test.YtgmmocbgeilpiaaGreatGrownH
namespace Go.Proofs.YtgmmocbgeilpiaaGreat
open Go.RowKit

/-- What put makes of a sorted list. -/
theorem put_sorted (q : Nat) {L : List VT} {x : VT} {k : Nat} (hg : ∀ y ∈ L, Good 16 y) (hx : Good 16 x) (hup : srtV q L = L) (h1 : ∀ j (hj : j < L.length), j < k → ordV q L[j] x ≤ 0) (h2 : ∀ (hj : k < L.length), 0 < ordV q L[k] x) :
    L.take k ++ ([x] ++ L.drop k) = srtV q (L ++ [x]) := by
  have hU : Up (ltO q) L := by have := srtV_up q L; rwa [hup] at this
  have hp : (L.take k ++ ([x] ++ L.drop k)).Perm (L ++ [x]) := by
    have e1 : (L.take k ++ ([x] ++ L.drop k)).Perm (L.take k ++ (L.drop k ++ [x])) := List.Perm.append_left _ List.perm_append_comm
    rw [← List.append_assoc, ← List.append_assoc, List.take_append_drop] at e1
    rw [← List.append_assoc]
    exact e1
  refine up_one q _ _ (hp.trans (srt_perm _ _ _ : (srtV q (L ++ [x])).Perm _).symm) ?_ ?_ (srtV_up q _)
  · intro y hy
    rcases List.mem_append.1 (hp.mem_iff.1 hy) with hy | hy
    · exact hg y hy
    · rw [List.mem_singleton.1 hy]; exact hx
  · have hT : Up (ltO q) (L.take k) := List.Pairwise.take hU
    have hD : Up (ltO q) (L.drop k) := List.Pairwise.drop hU
    have hfst : ∀ a ∈ L.take k, ltO q x a = false := fun a ha => by
      obtain ⟨j, hj, rfl⟩ := List.mem_iff_getElem.1 ha
      rw [List.length_take] at hj
      have := h1 j (by omega) (by omega)
      have ht := ordV_turn q L[j] x
      unfold ltO
      simp only [List.getElem_take, decide_eq_false_iff_not]
      omega
    have hsnd : ∀ b ∈ L.drop k, ltO q b x = false := fun b hb => by
      by_cases hk : k < L.length
      · have h3 := h2 hk
        rw [List.drop_eq_getElem_cons hk] at hb hD
        have hkb : ordV q L[k] b ≤ 0 := by
          rcases List.mem_cons.1 hb with rfl | hb
          · rw [ordV_self]; exact Int.le_refl _
          · have := (List.pairwise_cons.1 hD).1 b hb
            unfold ltO at this
            simp only [decide_eq_false_iff_not] at this
            have ht := ordV_turn q L[k] b
            omega
        have h4 : ordV q x L[k] ≤ 0 := by have := ordV_turn q L[k] x; omega
        have h5 := (ordV_goes q x L[k] b h4 hkb).1
        have ht := ordV_turn q x b
        unfold ltO
        simp only [decide_eq_false_iff_not]
        omega
      · rw [List.drop_eq_nil_of_le (by omega)] at hb; cases hb
    refine List.pairwise_append.2 ⟨hT, List.pairwise_cons.2 ⟨hsnd, hD⟩, fun a ha b hb => ?_⟩
    rcases List.mem_cons.1 hb with rfl | hb
    · exact hfst a ha
    · have : a ∈ L.take k := ha
      have hPA : (L.take k ++ L.drop k).Pairwise fun a b => ltO q b a = false := by rw [List.take_append_drop]; exact hU
      exact (List.pairwise_append.1 hPA).2.2 a ha b hb

/-- What may be appended. -/
structure Src19 (w : World) (aa : Option Addr) (m : Nat) (news : List Value) : Prop where
  none : aa = none → m = 0
  len : news.length = m * 4
  cell : ∀ ad, aa = some ad → ∀ j u, news[j]? = some u → w.cell? (ad.add j) = some u
  one : ∀ u ∈ news, u.oneCell' = true

theorem Src19.keeps {w w' : World} (hb : Below w.heap.size w w') {aa : Option Addr} {m : Nat} {news : List Value} (h : Src19 w aa m news) : Src19 w' aa m news :=
  ⟨h.none, h.len, fun ad e j u hu => cell_keeps hb (h.cell ad e j u hu), h.one⟩

theorem step_append19 {W : World} {ops : Array Oper} {o : Oper} {act : Act} {K : Act → World → Prop} {Q : Exit → Act → World → Prop} {E : Prop} (hgd : o.guard = none) (s x : Operand)
    (ho : o.op = .call { callee := .builtin .append, args := #[s, x], argTypes := #[22, 22] })
    {base n : Nat} {v : Value} {xs : List Value} (hs : act.eval s = v) (hown : W.ownsRow base 37 4 v n xs) {aa : Option Addr} {m c : Nat} (hx : act.eval x = .slice aa m c)
    {news : List Value} (hsrc : Src19 W aa m news) (hm : n + m ≤ 1000000) (hbase : base ≤ W.heap.size)
    (h : ∀ a' c' W', W'.ownsRow base 37 4 (.slice a' (n + m) c') (n + m) (xs ++ news) → W.grownBy W' v.ownBlock → K (act.put o.dst (.slice a' (n + m) c')) W') :
    if Region.wanted o (yielded ops act.tmps) = true then Oper.wp Tryz.prog o act W K Q else E := by
  have hw : Region.wanted o (yielded ops act.tmps) = true := by simp [Region.wanted, hgd]
  rw [if_pos hw]
  obtain ⟨i0, hi, hz0, hz1, hz2⟩ := info24
  by_cases h0 : m = 0
  · subst h0
    have hn : news = [] := List.eq_nil_of_length_eq_zero (by have := hsrc.len; omega)
    subst hn
    have hr : ∀ ty, (Builtin.append_ #[22, 22] ty #[v, .slice aa 0 c]).run Tryz.prog W = .ok v W := fun ty => by
      rcases hown.2 with ⟨rfl, rfl⟩ | ⟨g, cap, cur, rfl, _, _, hnc, _⟩
      · cases aa <;> simp [Builtin.append_, run_underlying Tryz.underlying22, sizeOf, typeInfo, hi, Builtin.lenOf, Builtin.firstCells, loadCells, loadCellsFrom]
      · cases aa <;> simp [Builtin.append_, run_underlying Tryz.underlying22, sizeOf, typeInfo, hi, Builtin.lenOf, Builtin.firstCells, hnc, storeCells, loadCells, loadCellsFrom]
    unfold Oper.wp execOp
    simp only [ho, resolve, invoke, builtin, Sem.run_bind, Sem.run_pure, Result.andThen_ok, List.map_toArray, List.map_cons, List.map_nil, hs, hx, hr]
    have hvf : ∃ a' c', v = .slice a' n c' := by
      rcases hown.2 with ⟨e, e2⟩ | ⟨g, cap, cur, e, _⟩
      · exact ⟨_, _, by rw [e, e2]⟩
      · exact ⟨_, cap, e⟩
    obtain ⟨a', c', rfl⟩ := hvf
    exact h a' c' W (by simpa using hown) ⟨rfl, rfl, rfl, Nat.le_refl _, fun _ _ _ => rfl⟩
  · obtain ⟨ad, rfl⟩ : ∃ ad, aa = some ad := by
      cases e : aa with
      | none => exact absurd (hsrc.none e) h0
      | some ad => exact ⟨ad, rfl⟩
    obtain ⟨g', cap, w', hr, r1, r2, r3, r4⟩ := run_append_lies (P := Tryz.prog) W 22 o.type base 37 i0 _ 4 56 Tryz.underlying22 hi hz0 hz1 hz2 rfl (by decide) _ n xs hown ad m c news hsrc.len (hsrc.cell ad rfl) hsrc.one (by omega) (by unfold maxLen; omega) (by omega) hbase _ rfl
    unfold Oper.wp execOp
    simp only [ho, resolve, invoke, builtin, Sem.run_bind, Sem.run_pure, Result.andThen_ok, List.map_toArray, List.map_cons, List.map_nil, hs, hx, hr]
    exact h _ _ _ r1 r2

end Go.Proofs.YtgmmocbgeilpiaaGreat

namespace Go.Proofs.YtgmmocbgeilpiaaGreat
open Go.RowKit

/-- A new queue in block B, whose row is one's own. -/
structure PS (w0 W : World) (q B : Nat) (v : Value) (n : Nat) (rs : List (VT × Value)) : Prop where
  below : Below w0.heap.size w0 W
  hB : w0.heap.size ≤ B
  ord : W.cell? ⟨B, 0, none⟩ = some (.int .i64 (q : Int))
  lst : W.cell? ⟨B, 1, none⟩ = some v
  fr : W.frozen? ⟨B, 1, none⟩ = false
  own : W.ownsRow (B + 1) 37 4 v n (rs.flatMap encP)
  hn : n = rs.length

theorem PS.drew {w0 W : World} {q B n : Nat} {v : Value} {rs : List (VT × Value)} (h : PS w0 W q B v n rs) : PS w0 W.drew q B v n rs := ⟨h.below.drew, h.hB, h.ord, h.lst, h.fr, h.own.drew, h.hn⟩

theorem PS.alloc {w0 W : World} {q B n : Nat} {v : Value} {rs : List (VT × Value)} (h : PS w0 W q B v n rs) (o : Obj) : PS w0 (W.alloc o) q B v n rs :=
  ⟨h.below.alloc h.below.size o, h.hB, cell_keeps ((Grew.refl W).alloc o).below h.ord, cell_keeps ((Grew.refl W).alloc o).below h.lst, (((Grew.refl W).alloc o).below.frozen (p := ⟨B, 1, none⟩) (cell_lt h.lst)).trans h.fr, h.own.alloc o, h.hn⟩

theorem PS.start {w0 W : World} (hb : Below w0.heap.size w0 W) (q T : Nat) : PS w0 (W.alloc (.cells #[.int .i64 (q : Int), .slice none 0 0] T)) q W.heap.size (.slice none 0 0) 0 [] :=
  ⟨hb.alloc hb.size _, hb.size, by simp, by simp, by simp, World.ownsRow_nil _ _ _ _, rfl⟩

theorem PS.far {w0 W W' : World} {q B n : Nat} {v : Value} {rs : List (VT × Value)} (h : PS w0 W q B v n rs) (hg : W.grownBy W' v.ownBlock) : Below w0.heap.size w0 W' ∧ W'.cell? ⟨B, 0, none⟩ = some (.int .i64 (q : Int)) ∧ W'.cell? ⟨B, 1, none⟩ = some v ∧ W'.frozen? ⟨B, 1, none⟩ = false := by
  have hlt : B < W.heap.size := cell_lt h.lst
  have hne : ∀ k, v.ownBlock = some k → B + 1 ≤ k := fun k hk => (h.own.lt k hk).1
  have hB := h.hB
  refine ⟨h.below.grown hg h.below.size (fun k hk => by have := hne k hk; omega), ?_, ?_, ?_⟩
  · rw [hg.cell_far ⟨B, 0, none⟩ hlt (fun e => by have := hne B e.symm; omega)]; exact h.ord
  · rw [hg.cell_far ⟨B, 1, none⟩ hlt (fun e => by have := hne B e.symm; omega)]; exact h.lst
  · rw [hg.frozen_far ⟨B, 1, none⟩ hlt (fun e => by have := hne B e.symm; omega)]; exact h.fr

/-- A row appended, and the field written. -/
theorem PS.step {w0 W W' : World} {q B n m : Nat} {v v' : Value} {rs qs : List (VT × Value)} (h : PS w0 W q B v n rs) (hg : W.grownBy W' v.ownBlock) (hown : W'.ownsRow (B + 1) 37 4 v' (n + m) (rs.flatMap encP ++ qs.flatMap encP)) (hm : m = qs.length) : PS w0 (W'.setCell ⟨B, 1, none⟩ v') q B v' (n + m) (rs ++ qs) := by
  obtain ⟨k1, k2, k3, k4⟩ := h.far hg
  refine ⟨k1.setCell (p := ⟨B, 1, none⟩) h.hB _, h.hB, ?_, World.cell?_setCell_same _ _ _ k3, by rw [World.frozen?_setCell]; exact k4, ?_, by rw [List.length_append, h.hn, hm]⟩
  · rw [World.cell?_setCell_other _ _ _ _ (by intro e; injection e with _ e; cases e)]; exact k2
  · rw [List.flatMap_append]
    exact ownsRow_setCell_below hown (by show B < B + 1; omega) _

theorem set_end4 (xs : List Value) (z0 z1 z2 z3 a b c d : Value) : (((((xs ++ [z0, z1, z2, z3]).set xs.length a).set (xs.length + 1) b).set (xs.length + 2) c).set (xs.length + 3) d) = xs ++ [a, b, c, d] := by
  induction xs with
  | nil => rfl
  | cons y xs ih =>
    simp only [List.cons_append, List.length_cons, List.set_cons_succ]
    exact congrArg (y :: ·) ih

/-- An element appended as zeros, then written, and the field written. -/
theorem PS.put {w0 W W' : World} {q B n g cap : Nat} {v : Value} {rs : List (VT × Value)} {p : VT × Value} {z0 z1 z2 z3 : Value} (h : PS w0 W q B v n rs) (hg : W.grownBy W' v.ownBlock) (hown : W'.ownsRow (B + 1) 37 4 (.slice (some ⟨g, 0, none⟩) (n + 1) cap) (n + 1) (rs.flatMap encP ++ [z0, z1, z2, z3])) :
    PS w0 (((((W'.setCell ⟨g, n * 4, none⟩ (.int .i64 p.1.kind)).setCell ⟨g, n * 4 + 1, none⟩ (.int .i64 p.1.num)).setCell ⟨g, n * 4 + 2, none⟩ (.string p.1.text)).setCell ⟨g, n * 4 + 3, none⟩ p.2).setCell ⟨B, 1, none⟩ (.slice (some ⟨g, 0, none⟩) (n + 1) cap)) q B (.slice (some ⟨g, 0, none⟩) (n + 1) cap) (n + 1) (rs ++ [p]) := by
  have hB := h.hB
  have hgB : B + 1 ≤ g := (hown.lt g rfl).1
  obtain ⟨k1, k2, k3, k4⟩ := h.far hg
  have hlen : (rs.flatMap encP).length = n * 4 := by rw [flat_len, h.hn]
  have s1 := (hown.stored (n * 4) (.int .i64 p.1.kind)).1
  have s2 := (s1.stored (n * 4 + 1) (.int .i64 p.1.num)).1
  have s3 := (s2.stored (n * 4 + 2) (.string p.1.text)).1
  have s4 := (s3.stored (n * 4 + 3) p.2).1
  rw [← hlen, set_end4, hlen] at s4
  have hb4 := (((k1.setCell (p := ⟨g, n * 4, none⟩) (by show w0.heap.size ≤ g; omega) (.int .i64 p.1.kind)).setCell (p := ⟨g, n * 4 + 1, none⟩) (by show w0.heap.size ≤ g; omega) (.int .i64 p.1.num)).setCell (p := ⟨g, n * 4 + 2, none⟩) (by show w0.heap.size ≤ g; omega) (.string p.1.text)).setCell (p := ⟨g, n * 4 + 3, none⟩) (by show w0.heap.size ≤ g; omega) p.2
  have hoff : ∀ k u, W'.cell? ⟨B, k, none⟩ = some u → ((((W'.setCell ⟨g, n * 4, none⟩ (.int .i64 p.1.kind)).setCell ⟨g, n * 4 + 1, none⟩ (.int .i64 p.1.num)).setCell ⟨g, n * 4 + 2, none⟩ (.string p.1.text)).setCell ⟨g, n * 4 + 3, none⟩ p.2).cell? ⟨B, k, none⟩ = some u := fun k u hu => by
    rw [World.cell?_setCell_other _ _ _ _ (by intro e; injection e with e; omega), World.cell?_setCell_other _ _ _ _ (by intro e; injection e with e; omega), World.cell?_setCell_other _ _ _ _ (by intro e; injection e with e; omega), World.cell?_setCell_other _ _ _ _ (by intro e; injection e with e; omega)]
    exact hu
  refine ⟨hb4.setCell (p := ⟨B, 1, none⟩) hB _, hB, ?_, World.cell?_setCell_same _ _ _ (hoff 1 _ k3), by simp only [World.frozen?_setCell]; exact k4, ?_, by rw [List.length_append, h.hn]; rfl⟩
  · rw [World.cell?_setCell_other _ _ _ _ (by intro e; injection e with _ e; cases e)]; exact hoff 0 _ k2
  · rw [List.flatMap_append]
    have e : [p].flatMap encP = [.int .i64 p.1.kind, .int .i64 p.1.num, .string p.1.text, p.2] := by simp [encP]
    rw [e]
    exact ownsRow_setCell_below s4 (by show B < B + 1; omega) _

theorem setCell_comm19 (w : World) (a b : Addr) (x y : Value) (h : a.block ≠ b.block) : (w.setCell a x).setCell b y = (w.setCell b y).setCell a x := by
  unfold World.setCell
  congr 1
  apply Array.ext_getElem?
  intro i
  simp only [Array.getElem?_modify]
  by_cases h1 : b.block = i
  · by_cases h2 : a.block = i
    · exact absurd (h2.trans h1.symm) h
    · simp [h1, h2]
  · by_cases h2 : a.block = i
    · simp [h1, h2]
    · simp [h1, h2]

/-- The field first, then the element. -/
theorem PS.put2 {w0 W W' : World} {q B n g cap : Nat} {v : Value} {rs : List (VT × Value)} {p : VT × Value} {z0 z1 z2 z3 : Value} (h : PS w0 W q B v n rs) (hg : W.grownBy W' v.ownBlock) (hown : W'.ownsRow (B + 1) 37 4 (.slice (some ⟨g, 0, none⟩) (n + 1) cap) (n + 1) (rs.flatMap encP ++ [z0, z1, z2, z3])) :
    PS w0 (((((W'.setCell ⟨B, 1, none⟩ (.slice (some ⟨g, 0, none⟩) (n + 1) cap)).setCell ⟨g, n * 4, none⟩ (.int .i64 p.1.kind)).setCell ⟨g, n * 4 + 1, none⟩ (.int .i64 p.1.num)).setCell ⟨g, n * 4 + 2, none⟩ (.string p.1.text)).setCell ⟨g, n * 4 + 3, none⟩ p.2) q B (.slice (some ⟨g, 0, none⟩) (n + 1) cap) (n + 1) (rs ++ [p]) := by
  have hgB : B + 1 ≤ g := (hown.lt g rfl).1
  have hne : ∀ k, (⟨B, 1, none⟩ : Addr).block ≠ (⟨g, k, none⟩ : Addr).block := fun _ => by show B ≠ g; omega
  rw [setCell_comm19 W' _ _ _ _ (hne _), setCell_comm19 _ ⟨B, 1, none⟩ _ _ _ (hne _), setCell_comm19 _ ⟨B, 1, none⟩ _ _ _ (hne _), setCell_comm19 _ ⟨B, 1, none⟩ _ _ _ (hne _)]
  exact h.put hg hown

/-- Whatever part of a row may be appended. -/
theorem SlP.src19 {base d : Nat} {w : World} {ps : List (VT × Value)} {a : Option Addr} {n c : Nat} (h : SlP base d w ps (.slice a n c)) : Src19 w a n (ps.flatMap encP) := by
  obtain ⟨a', c', hv, hc, hl, hrow, hs⟩ := h
  injection hv with h1 h2 h3
  subst h1 h2 h3
  refine ⟨fun e => ?_, flat_len ps, fun ad e j u hu => ?_, fun u hu => ?_⟩
  · by_cases hne : ps = []
    · rw [hne]; rfl
    · obtain ⟨b, o, ha, _⟩ := hrow hne
      rw [e] at ha; cases ha
  · have hne : ps ≠ [] := by intro e2; rw [e2] at hu; simp at hu
    obtain ⟨b, o, ha, _, hr⟩ := hrow hne
    rw [e] at ha
    injection ha with ha
    subst ha
    rw [add_addr5]
    exact hr.flat j u hu
  · obtain ⟨p, hp, hu⟩ := List.mem_flatMap.1 hu
    exact encP_one (hs p hp) u hu

end Go.Proofs.YtgmmocbgeilpiaaGreat

