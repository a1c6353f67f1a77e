/-
  grown's levels.
-/
import Derived.Test.YtekoaiehhjgfiaaGreatChunkN
import Derived.Deep.AppendLies
namespace Go.Proofs.YtekoaiehhjgfiaaGreat
open Go.RowKit Go.Shelf

/-- The same at a step of a region that draws its order. -/
theorem appIn_step {F : Fence} {n : Nat} {w : World} {ops : Array Oper} {o : Oper} {a : Act} {K : Act → World → Prop} {Q : Exit → Act → World → Prop} {E : Prop} (hgd : o.guard = none) (s x : Operand)
    (ho : o.op = .call { callee := .builtin .append, args := #[s, x], argTypes := #[148, 148] })
    (base : Nat) (v : Value) (k : Nat) (xs : List Value) (hs : a.eval s = v) (hown : w.ownsRow base 76 1 v k xs) (B : Nat) (y : Value) (hx : a.eval x = .slice (some ⟨B, 0, none⟩) 1 1) (hy : w.cell? ⟨B, 0, none⟩ = some y) (h1 : y.oneCell' = true)
    (hk : k ≤ 65536) (hbase : base ≤ w.heap.size)
    (h : ∀ g cap w', w'.ownsRow base 76 1 (.slice (some ⟨g, 0, none⟩) (k + 1) cap) (k + 1) (xs ++ [y]) → w.grownBy w' v.ownBlock → (v.ownBlock = some g ∨ g = w.heap.size) → g < w'.heap.size → K (a.put o.dst (.slice (some ⟨g, 0, none⟩) (k + 1) cap)) w') :
    if Region.wanted o (yielded ops a.tmps) = true then Oper.wpIn F n Tryz.prog o a w K Q else E := by
  have hw : Region.wanted o (yielded ops a.tmps) = true := by simp [Region.wanted, hgd]
  rw [if_pos hw]
  obtain ⟨i0, hi, hz0, hz1, hz2⟩ := infoN
  obtain ⟨g, cap, w', hr, r1, r2, r3, r4⟩ := run_append_lies (P := Tryz.prog) w 148 o.type base 76 i0 .nilIface 1 16 Tryz.underlying148 hi hz0 hz1 hz2 rfl (by decide) v k xs hown ⟨B, 0, none⟩ 1 1 [y] rfl (fun j u hj => by
    match j, hj with
    | 0, hj => simp at hj; subst hj; simpa [Addr.add] using hy) (fun u hu => by rw [List.mem_singleton.1 hu]; exact h1) (by decide) (by unfold maxLen; omega) (by omega) hbase _ rfl
  unfold Oper.wpIn
  refine ⟨?_, ?_⟩
  · simp [Oper.about, ho, resolve, Target.leads, Sem.run_pure]
  · rw [Oper.semAt_plain F _ _ (by rw [ho]; intro c hc'; cases hc')]
    simp [execOp, ho, resolve, invoke, builtin, hs, hx, hr, Result.andThen]
    exact h g cap w' r1 r2 r3 r4

end Go.Proofs.YtekoaiehhjgfiaaGreat

namespace Go.Proofs.YtekoaiehhjgfiaaGreat
open Go.RowKit Go.Shelf

theorem SlVX.both {X : Nat → Prop} {w : World} {vs : List Value} {v : Value} (h : SlVX X w vs v) : SlVX (fun b => X b ∧ b < w.heap.size) w vs v := by
  obtain ⟨a, c, hv, hc, hr⟩ := h
  refine ⟨a, c, hv, hc, fun hne => ?_⟩
  obtain ⟨b, o, ha, hx, hcs⟩ := hr hne
  have h0 : 0 < vs.length := List.length_pos_iff.2 hne
  exact ⟨b, o, ha, ⟨hx, cell_lt (hcs 0 h0)⟩, hcs⟩

theorem NDX.both {X : Nat → Prop} {d : Nat} {w : World} : ∀ (h : Nat) (k : Bool) (l : List VT) (v : Value), NDX X d h k w l v → NDX (fun b => X b ∧ b < w.heap.size) d h k w l v := by
  intro h
  induction h with
  | zero =>
    intro k l v hn
    obtain ⟨b, a, c, hv, hx, hc, hl, h1, h2, h3⟩ := hn
    exact ⟨b, a, c, hv, ⟨hx, cell_lt hc⟩, hc, LiesX.both hl, h1, h2, h3⟩
  | succ h ih =>
    intro k l v hn
    obtain ⟨b, sl, el, ps, hv, hx, hc0, hc1, hs, he, h1, h2, h3, hl, hp⟩ := hn
    exact ⟨b, sl, el, ps, hv, ⟨hx, cell_lt hc0⟩, hc0, hc1, hs.both, he.both, h1, h2, h3, hl, fun i hi => ih _ _ _ (hp i hi)⟩

/-- The nodes so far, each with what is said of its right edge, in a row of their own; none lies in the blocks B (the box of the row) and C. -/
def Lv (d h B C n0 : Nat) (W : World) (v : Value) (qs : List (Part × Bool)) : Prop :=
  B < n0 ∧ C < n0 ∧ n0 ≤ W.heap.size ∧ W.ownsRow n0 76 1 v qs.length (qs.map (·.1.2)) ∧ ∀ (i : Nat) (hi : i < qs.length), NDX (fun b => b ≠ B ∧ b ≠ C ∧ v.ownBlock ≠ some b ∧ b < W.heap.size) d h (qs[i]'hi).2 W (qs[i]'hi).1.1 (qs[i]'hi).1.2

theorem Lv.nil (d h B C n0 : Nat) (W : World) (hB : B < n0) (hC : C < n0) (hn : n0 ≤ W.heap.size) : Lv d h B C n0 W (.slice none 0 0) [] := ⟨hB, hC, hn, World.ownsRow_nil _ _ _ _, fun _ hi => absurd hi (Nat.not_lt_zero _)⟩

theorem Lv.step {d h B C n0 : Nat} {W W2 w3 : World} {v : Value} {qs : List (Part × Bool)} (hv : Lv d h B C n0 W v qs) (hb : Below W.heap.size W W2) {l : List VT} {x : Value} {kf : Bool} (hx : NDX (fun b => (b < n0 ∧ b ≠ B ∧ b ≠ C) ∨ W.heap.size ≤ b) d h kf W2 l x) {g cap : Nat}
    (hown : w3.ownsRow n0 76 1 (.slice (some ⟨g, 0, none⟩) (qs.length + 1) cap) (qs.length + 1) (qs.map (·.1.2) ++ [x])) (hgrow : W2.grownBy w3 v.ownBlock) (hg : v.ownBlock = some g ∨ g = W2.heap.size) (hgl : g < w3.heap.size) :
    Lv d h B C n0 (w3.setCell ⟨B, 0, none⟩ (.slice (some ⟨g, 0, none⟩) (qs.length + 1) cap)) (.slice (some ⟨g, 0, none⟩) (qs.length + 1) cap) (qs ++ [((l, x), kf)]) := by
  obtain ⟨hB, hC, hn, hrow, hnd⟩ := hv
  have hng : n0 ≤ g := (hown.lt g rfl).1
  have hs2 : W.heap.size ≤ W2.heap.size := hb.size
  have hs3 : W2.heap.size ≤ w3.heap.size := hgrow.size
  have hsz : (w3.setCell ⟨B, 0, none⟩ (.slice (some ⟨g, 0, none⟩) (qs.length + 1) cap)).heap.size = w3.heap.size := by simp
  have hvo : ∀ b, v.ownBlock = some b → n0 ≤ b ∧ b < W.heap.size := fun b hb => hrow.lt b hb
  have hset : ∀ (a : Addr) (u : Value), a.block ≠ B → w3.cell? a = some u → (w3.setCell ⟨B, 0, none⟩ (.slice (some ⟨g, 0, none⟩) (qs.length + 1) cap)).cell? a = some u := fun a u ha hu => by
    have hg9 := grownBy_setCell' w3 B (.slice (some ⟨g, 0, none⟩) (qs.length + 1) cap)
    exact hg9.cell hu (fun e => ha (by injection e))
  refine ⟨hB, hC, by omega, ?_, fun i hi => ?_⟩
  · have h9 := hown.kept (grownBy_setCell' w3 B (.slice (some ⟨g, 0, none⟩) (qs.length + 1) cap)) (.inr (fun e => by simp [Value.ownBlock] at e; omega))
    rw [List.length_append, List.map_append]
    exact h9
  · rw [List.length_append] at hi
    by_cases hlt : i < qs.length
    · rw [List.getElem_append_left hlt]
      refine NDX.stays (Y := fun b => b ≠ B ∧ b ≠ C ∧ (Value.slice (some ⟨g, 0, none⟩) (qs.length + 1) cap).ownBlock ≠ some b ∧ b < (w3.setCell ⟨B, 0, none⟩ (.slice (some ⟨g, 0, none⟩) (qs.length + 1) cap)).heap.size) ?_ ?_ _ _ _ _ (hnd i hlt)
      · intro b hX
        refine ⟨hX.1, hX.2.1, ?_, by have := hX.2.2.2; omega⟩
        intro e
        have e' : g = b := by simpa [Value.ownBlock] using e
        rcases hg with hg | hg
        · exact hX.2.2.1 (by rw [hg, e'])
        · have := hX.2.2.2; omega
      · intro a u hX hu
        have u2 := cell_keeps hb hu
        have u3 := hgrow.cell u2 (fun e => hX.2.2.1 e.symm)
        exact hset a u hX.1 u3
    · have hiq : i = qs.length := by simp at hi; omega
      subst hiq
      rw [List.getElem_append_right (by omega)]
      simp only [Nat.sub_self, List.getElem_cons_zero]
      refine NDX.stays (Y := fun b => b ≠ B ∧ b ≠ C ∧ (Value.slice (some ⟨g, 0, none⟩) (qs.length + 1) cap).ownBlock ≠ some b ∧ b < (w3.setCell ⟨B, 0, none⟩ (.slice (some ⟨g, 0, none⟩) (qs.length + 1) cap)).heap.size) ?_ ?_ _ _ _ _ (hx.both _ _ _ _)
      · intro b hX
        obtain ⟨hX, hX2⟩ := hX
        refine ⟨by rcases hX with hX | hX <;> omega, by rcases hX with hX | hX <;> omega, fun e => ?_, by omega⟩
        have e' : g = b := by simpa [Value.ownBlock] using e
        rcases hg with hg | hg
        · have := hvo g hg
          rcases hX with hX | hX <;> omega
        · omega
      · intro a u hX hu
        obtain ⟨hX, hX2⟩ := hX
        have u3 := hgrow.cell hu (fun e => by
          have := hvo _ e.symm
          rcases hX with hX | hX <;> omega)
        exact hset a u (by rcases hX with hX | hX <;> omega) u3

/-- Blocks that hold no cells may turn. -/
theorem Lv.abides {d h B C n0 : Nat} {W W' : World} {v : Value} {qs : List (Part × Bool)} (hv : Lv d h B C n0 W v qs) {row : Option Nat} (hg : W.grownBy W' row) (hr : ∀ r, row = some r → ∃ o : Obj, W.heap[r]? = some o ∧ o.isCells = false) : Lv d h B C n0 W' v qs := by
  obtain ⟨hB, hC, hn, hrow, hnd⟩ := hv
  refine ⟨hB, hC, Nat.le_trans hn hg.size, ?_, fun i hi => ?_⟩
  · refine hrow.kept hg ?_
    cases hvo : v.ownBlock with
    | none => exact .inl rfl
    | some b =>
      refine .inr (fun e => ?_)
      obtain ⟨o, ho, hoc⟩ := hr b e.symm
      rcases hrow.2 with ⟨e1, _⟩ | ⟨g, cap, cur, e1, _, e2, _⟩
      · rw [e1] at hvo; cases hvo
      · rw [e1] at hvo
        have : g = b := by simpa [Value.ownBlock] using hvo
        subst this
        rw [e2] at ho
        cases ho
        simp [Obj.isCells] at hoc
  · refine NDX.stays (Y := fun b => b ≠ B ∧ b ≠ C ∧ v.ownBlock ≠ some b ∧ b < W'.heap.size) (fun b hX => ⟨hX.1, hX.2.1, hX.2.2.1, Nat.lt_of_lt_of_le hX.2.2.2 hg.size⟩) ?_ _ _ _ _ (hnd i hi)
    intro a u _ hu
    refine hg.cell hu (fun e => ?_)
    obtain ⟨o, ho, hoc⟩ := hr _ e.symm
    unfold World.cell? at hu
    rw [ho] at hu
    cases o <;> simp_all [Obj.isCells]

/-- The cells of a level's nodes stay, whatever is done to the box. -/
theorem Lv.keep {d h B C n0 : Nat} {W : World} {v : Value} {qs : List (Part × Bool)} (hv : Lv d h B C n0 W v qs) : SlVX (fun b => b ≠ B ∧ b ≠ C ∧ b < W.heap.size) W (qs.map (·.1.2)) v ∧ ∀ (i : Nat) (hi : i < qs.length), NDX (fun b => b ≠ B ∧ b ≠ C ∧ b < W.heap.size) d h (qs[i]'hi).2 W (qs[i]'hi).1.1 (qs[i]'hi).1.2 := by
  obtain ⟨hB, hC, hn, hrow, hnd⟩ := hv
  refine ⟨?_, fun i hi => (hnd i hi).mono (fun b hX => ⟨hX.1, hX.2.1, hX.2.2.2⟩)⟩
  have hs := SlV.of_own (by simp) hrow
  obtain ⟨a, c, e, hc, hr⟩ := hs
  refine ⟨a, c, e, hc, fun hne => ?_⟩
  obtain ⟨b, o, ha, hcs⟩ := hr hne
  have hlt := hrow.lt b (by rw [e, ha]; rfl)
  exact ⟨b, o, ha, ⟨by omega, by omega, hlt.2⟩, hcs⟩

end Go.Proofs.YtekoaiehhjgfiaaGreat

namespace Go.Proofs.YtekoaiehhjgfiaaGreat
open Go.RowKit Go.Shelf

theorem clone_x (X : Nat → Prop) (d : Nat) (l : List VT) (g o c : Nat) (w : World) (hX : ∀ b, w.heap.size ≤ b → X b) (hl : LiesX X (d + 1) w l (.slice (some ⟨g, o, none⟩) l.length c)) (h1 : 1 ≤ l.length) (h2 : l.length ≤ 65536) :
    Calls Tryz.prog 92 #[.slice (some ⟨g, o, none⟩) l.length c] w fun e w' => ∃ v, e = .returned v ∧ LiesX X (d + 1) w' l v ∧ Below w.heap.size w w' := by
  obtain ⟨ps, hps, hpl, hsl⟩ := SlP.of_lies hl.lies
  have hne : ps ≠ [] := fun e => by rw [e] at hpl; simp at hpl; omega
  obtain ⟨b', o', c', hv, _, hrow, hsd⟩ := hsl.some hne
  injection hv with q1 q2 q3
  injection q1 with q1
  injection q1 with q4 q5
  subst q4 q5
  subst hps
  have hit : ∀ (i : Nat) (hi : i < ps.length), LiesX X d w (ps[i]'hi).1.items (ps[i]'hi).2 := fun i hi => by
    obtain ⟨a9, c9, e9, _, hr9⟩ := hl
    injection e9 with e1 _ _
    obtain ⟨b9, o9, ha9, _, hall⟩ := hr9 (fun e => hne (by simpa using e))
    rw [← e1] at ha9
    injection ha9 with ha9
    injection ha9 with ha1 ha2
    subst ha1 ha2
    obtain ⟨u, _, _, _, p3, hL, _⟩ := hall i (by rw [List.length_map]; exact hi)
    have r3 := (hrow i hi).2.2.2
    rw [r3] at p3
    injection p3 with p3
    rw [p3]
    simpa using hL
  rw [List.length_map] at h2 ⊢
  refine (clone_some g o c ps d w hrow hsd h2).mono ?_
  rintro e w' ⟨v, rfl, hown, hb⟩
  refine ⟨v, rfl, ?_, hb⟩
  obtain ⟨g2, cap, rfl, hbase, hcap, _, hrow2, _⟩ := own_row hown hne
  refine ⟨_, cap, by rw [List.length_map], ⟨by rw [List.length_map]; exact hcap, by rw [List.length_map]; omega⟩, fun _ => ⟨g2, 0, rfl, hX g2 hbase, fun i hi => ?_⟩⟩
  rw [List.length_map] at hi
  obtain ⟨r0, r1, r2, r3⟩ := hrow2 i hi
  simp only [List.getElem_map]
  exact ⟨_, r0, r1, r2, r3, (hit i hi).keeps hb, (hsd _ (List.getElem_mem _)).2⟩

end Go.Proofs.YtekoaiehhjgfiaaGreat

namespace Go.Proofs.YtekoaiehhjgfiaaGreat
open Go.RowKit Go.Shelf

attribute [local go_sem] Oper.semAt_some

/-- What a round of slices.Chunk must keep. -/
def KpC (n0 Bs Bn : Nat) (W W' : World) : Prop := Below n0 W W' ∧ W'.cell? ⟨Bs, 0, none⟩ = W.cell? ⟨Bs, 0, none⟩ ∧ W'.cell? ⟨Bn, 0, none⟩ = W.cell? ⟨Bn, 0, none⟩

theorem KpC.t {n0 Bs Bn : Nat} {A B C : World} (h : KpC n0 Bs Bn A B) (k : KpC n0 Bs Bn B C) : KpC n0 Bs Bn A C := ⟨h.1.trans k.1, k.2.1.trans h.2.1, k.2.2.trans h.2.2⟩

theorem KpC.b {n0 Bs Bn : Nat} {w : World} (hn : n0 ≤ w.heap.size) (hs : Bs < w.heap.size) (hb : Bn < w.heap.size) (W : World) (l : Nat) (o o' : Obj) (hl : w.heap.size ≤ l) (h : W.heap[l]? = some o) (h1 : o.isCells = false) (h2 : o.isWalk = false) : KpC n0 Bs Bn W (W.putObj l o') := by
  have hg := grownBy_putObj' W l o'
  have hlt := (Array.getElem?_eq_some_iff.1 h).1
  exact ⟨belowK_b hn W l o o' hl h h1 h2, World.cell?_of_block (hg.block Bs (by omega) (fun e => by injection e; omega)), World.cell?_of_block (hg.block Bn (by omega) (fun e => by injection e; omega))⟩

/-- slices.Chunk's value, at values, for a loop. -/
theorem chunkV_stops (n : Nat) (hn : 1 ≤ n) (n0 Bs Bn b off len cap : Nat) (hlen : 0 < len) (hcap : len ≤ cap) (hbig : len ≤ 65536) (w : World) (hs : Bs < w.heap.size) (hb : Bn < w.heap.size) (hBs : w.cell? ⟨Bs, 0, none⟩ = some (.slice (some ⟨b, off, none⟩) len cap)) (hBn : w.cell? ⟨Bn, 0, none⟩ = some (.int .i64 32)) :
    SeqStopsK Fence.wide n Tryz.prog 137 #[.pointer (some ⟨Bs, 0, none⟩), .pointer (some ⟨Bn, 0, none⟩)] (fun x : Ck len => #[.slice (some ⟨b, off + x.1.1 * 4, none⟩) (x.1.2 - x.1.1) (x.1.2 - x.1.1)]) (KpC n0 Bs Bn) (fun ys => ys = cks len hlen ((len + 31) / 32)) (fun _ => True) ((len + 31) / 32) w := fun l J Jx W hW hJ _ hY h0 =>
  chunkV1_in n hn l Bs Bn b off len cap hlen hcap hbig (KpC n0 Bs Bn) (fun _ _ h => h.2) J Jx (fun s W q h => hJ s W (W.drewN q) none h ⟨rfl, rfl, rfl, Nat.le_refl _, fun _ _ _ => rfl⟩ (fun r e => by cases e)) hY W ((hW.cell (p := ⟨Bs, 0, none⟩) hs).trans hBs) ((hW.cell (p := ⟨Bn, 0, none⟩) hb).trans hBn) h0

/-- slices.Chunk's value, at nodes, for a loop. -/
theorem chunkN_stops (n : Nat) (hn : 1 ≤ n) (n0 Bs Bn b off len cap : Nat) (hlen : 0 < len) (hcap : len ≤ cap) (hbig : len ≤ 65536) (w : World) (hs : Bs < w.heap.size) (hb : Bn < w.heap.size) (hBs : w.cell? ⟨Bs, 0, none⟩ = some (.slice (some ⟨b, off, none⟩) len cap)) (hBn : w.cell? ⟨Bn, 0, none⟩ = some (.int .i64 32)) :
    SeqStopsK Fence.wide n Tryz.prog 138 #[.pointer (some ⟨Bs, 0, none⟩), .pointer (some ⟨Bn, 0, none⟩)] (fun x : Ck len => #[.slice (some ⟨b, off + x.1.1, none⟩) (x.1.2 - x.1.1) (x.1.2 - x.1.1)]) (KpC n0 Bs Bn) (fun ys => ys = cks len hlen ((len + 31) / 32)) (fun _ => True) ((len + 31) / 32) w := fun l J Jx W hW hJ _ hY h0 =>
  chunkN1_in n hn l Bs Bn b off len cap hlen hcap hbig (KpC n0 Bs Bn) (fun _ _ h => h.2) J Jx (fun s W q h => hJ s W (W.drewN q) none h ⟨rfl, rfl, rfl, Nat.le_refl _, fun _ _ _ => rfl⟩ (fun r e => by cases e)) hY W ((hW.cell (p := ⟨Bs, 0, none⟩) hs).trans hBs) ((hW.cell (p := ⟨Bn, 0, none⟩) hb).trans hBn) h0

end Go.Proofs.YtekoaiehhjgfiaaGreat

namespace Go.Proofs.YtekoaiehhjgfiaaGreat
open Go.RowKit Go.Shelf

/-- The mark of a range over a function. -/
def markD (D : Nat) : Deferred := { target := .collected D, args := #[] }

/-- Marks of ranges that are over, each with nothing deferred. -/
def Marks (n0 : Nat) (W : World) (ds : List Nat) : Prop := ds.Nodup ∧ ∀ D ∈ ds, n0 ≤ D ∧ W.heap[D]? = some (.deferred (some []))

theorem Marks.nil (n0 : Nat) (W : World) : Marks n0 W [] := ⟨List.nodup_nil, fun _ h => by cases h⟩

theorem Marks.lt {n0 : Nat} {W : World} {ds : List Nat} (h : Marks n0 W ds) : ∀ D ∈ ds, D < W.heap.size := fun D hD => (Array.getElem?_eq_some_iff.1 (h.2 D hD).2).1

theorem Marks.cons {n0 : Nat} {W : World} {ds : List Nat} (h : Marks n0 W ds) {D : Nat} (hn : n0 ≤ D) (hD : W.heap[D]? = some (.deferred (some []))) (hne : D ∉ ds) : Marks n0 W (D :: ds) :=
  ⟨List.nodup_cons.2 ⟨hne, h.1⟩, fun E hE => by
    rcases List.mem_cons.1 hE with rfl | hE
    · exact ⟨hn, hD⟩
    · exact h.2 E hE⟩

theorem Marks.keeps {n0 : Nat} {W W' : World} {ds : List Nat} (h : Marks n0 W ds) (hb : Below W.heap.size W W') : Marks n0 W' ds :=
  ⟨h.1, fun D hD => ⟨(h.2 D hD).1, (hb.block D (h.lt D hD)).trans (h.2 D hD).2⟩⟩

theorem Marks.others {n0 : Nat} {W W' : World} {ds : List Nat} (h : Marks n0 W ds) (hk : KeepsOthers W W') : Marks n0 W' ds :=
  ⟨h.1, fun D hD => ⟨(h.2 D hD).1, hk.same D _ (h.2 D hD).2 rfl⟩⟩

theorem Marks.own {n0 B : Nat} {W W' : World} {ds : List Nat} (h : Marks n0 W ds) (hB : ∀ D ∈ ds, D < B) {row : Option Nat} (hg : W.grownBy W' row) (hr : ∀ r, row = some r → B ≤ r) : Marks n0 W' ds :=
  ⟨h.1, fun D hD => ⟨(h.2 D hD).1, (hg.block D (h.lt D hD) (fun e => by have := hr D e.symm; have := hB D hD; omega)).trans (h.2 D hD).2⟩⟩

theorem leaves_marks {F : Fence} {n : Nat} {P : Program} {fn : Func} {tmps : Array Value} {R : Ending → World → Prop} (n0 : Nat) (T : World → Prop) (hT : ∀ W D, n0 ≤ D → W.heap[D]? = some (.deferred (some [])) → T W → T (W.putObj D (.deferred none)))
    (hend : ∀ W, T W → ∃ v, (results fn tmps).run P W = .ok v W ∧ R (.returned v) W) : ∀ (ds : List Nat) (W : World), Marks n0 W ds → T W → LeavesInM F n P fn tmps R (ds.map markD) .returning W := by
  intro ds
  induction ds with
  | nil => intro W _ h; exact hend W h
  | cons D ds ih =>
    intro W hm h
    obtain ⟨hn, hD⟩ := hm.2 D List.mem_cons_self
    refine ⟨by simp, .inl ⟨D, _, rfl, run_takeDeferred hD, ?_⟩⟩
    refine ih _ ⟨(List.nodup_cons.1 hm.1).2, fun E hE => ?_⟩ (hT W D hn hD h)
    obtain ⟨hn2, hE2⟩ := hm.2 E (List.mem_cons_of_mem _ hE)
    refine ⟨hn2, (World.putObj_heap_other (fun e => ?_)).trans hE2⟩
    subst e
    exact (List.nodup_cons.1 hm.1).1 hE

/-- Where a tree's cells stay as a block that holds no cells turns. -/
theorem cell_turns {W : World} {D : Nat} {o : Obj} (hD : W.heap[D]? = some o) (ho : o.isCells = false) (o' : Obj) (a : Addr) (u : Value) (hu : W.cell? a = some u) : (W.putObj D o').cell? a = some u := by
  refine (grownBy_putObj' W D o').cell hu (fun e => ?_)
  injection e with e
  unfold World.cell? at hu
  rw [e, hD] at hu
  cases o <;> simp_all [Obj.isCells]

/-- What of a list is in a chunk. -/
def ckOf {α : Type} {len : Nat} (l : List α) (x : Ck len) : List α := (l.drop x.1.1).take (x.1.2 - x.1.1)

theorem cks_take {α : Type} (l : List α) (h : 0 < l.length) : ∀ k, k ≤ (l.length + 31) / 32 → ((cks l.length h k).map (ckOf l)).flatten = l.take (k * 32) := by
  intro k
  induction k with
  | zero => intro _; simp [cks]
  | succ k ih =>
    intro hk
    have hv := ckAt_val l.length k h (by omega)
    rw [cks_succ, List.map_append, List.flatten_append, ih (by omega)]
    simp only [List.map_cons, List.map_nil, List.flatten_cons, List.flatten_nil, List.append_nil]
    unfold ckOf
    rw [hv]
    simp only []
    have e : k * 32 + min 32 (l.length - k * 32) - k * 32 = min 32 (l.length - k * 32) := by omega
    rw [e, Nat.succ_mul, List.take_add]
    congr 1
    rw [List.take_eq_take_iff]
    rw [List.length_drop]
    omega

theorem cks_flat {α : Type} (l : List α) (h : 0 < l.length) : ((cks l.length h ((l.length + 31) / 32)).map (ckOf l)).flatten = l := by
  rw [cks_take l h _ (Nat.le_refl _)]
  exact List.take_of_length_le (by omega)

theorem cks_get (len : Nat) (h : 0 < len) (k i : Nat) (hi : i < k) : (cks len h k)[i]? = some (ckAt len i h) := by
  simp [cks, hi]

end Go.Proofs.YtekoaiehhjgfiaaGreat

namespace Go.Proofs.YtekoaiehhjgfiaaGreat
open Go.RowKit Go.Shelf

attribute [local go_sem] Oper.semAt_some

/-- What stands between two rounds of a loop that makes a level. -/
def GI {len : Nat} (d h : Nat) (f : Ck len → List VT × Bool) (B C n0 : Nat) (w : World) (pre : List (Ck len)) (W : World) : Prop :=
  (∃ v qs, Go.Boxed W B 148 v ∧ Lv d h B C n0 W v qs ∧ qs.map (fun q => (q.1.1, q.2)) = pre.map f) ∧ Below w.heap.size w W

/-- It abides what the law of the loop does. -/
theorem GI.own {len : Nat} (d h : Nat) (f : Ck len → List VT × Bool) (B C n0 M : Nat) (w : World) (hB : B < M) (hw : w.heap.size ≤ M) : OwnFrom M (GI d h f B C n0 w) := by
  intro s A V row hs hg hr
  obtain ⟨⟨v, qs, bx, lv, hq⟩, hb⟩ := hs
  refine ⟨⟨v, qs, bx.kept hg (fun e => ?_), lv.abides hg (fun r e => (hr r e).2), hq⟩, hb.grown hg hb.size (fun k e => ?_)⟩
  · have := (hr _ e.symm).1
    omega
  · have := (hr _ e).1
    omega

/-- A node more. -/
theorem GI.step {len : Nat} {d h : Nat} {f : Ck len → List VT × Bool} {B C n0 Bs Bn : Nat} {w W W2 w3 : World} {pre : List (Ck len)} {x : Ck len} {v : Value} {qs : List (Part × Bool)} (bx : Go.Boxed W B 148 v) (lv : Lv d h B C n0 W v qs) (hq : qs.map (fun q => (q.1.1, q.2)) = pre.map f) (hB : Below w.heap.size w W) (hBw : w.heap.size ≤ B) (hs : Bs < n0) (hsB : Bs ≠ B) (hn : Bn < n0) (hnB : Bn ≠ B)
    (hb2 : Below W.heap.size W W2) {y : Value} (hnd : NDX (fun b => (b < n0 ∧ b ≠ B ∧ b ≠ C) ∨ W.heap.size ≤ b) d h (f x).2 W2 (f x).1 y) {g cap : Nat}
    (hown : w3.ownsRow n0 76 1 (.slice (some ⟨g, 0, none⟩) (qs.length + 1) cap) (qs.length + 1) (qs.map (·.1.2) ++ [y])) (hgrow : W2.grownBy w3 v.ownBlock) (hg : v.ownBlock = some g ∨ g = W2.heap.size) (hgl : g < w3.heap.size) :
    Go.Boxed w3 B 148 v ∧ KeepsOthers W (w3.setCell ⟨B, 0, none⟩ (.slice (some ⟨g, 0, none⟩) (qs.length + 1) cap)) ∧ KpC w.heap.size Bs Bn W (w3.setCell ⟨B, 0, none⟩ (.slice (some ⟨g, 0, none⟩) (qs.length + 1) cap)) ∧ GI d h f B C n0 w (pre ++ [x]) (w3.setCell ⟨B, 0, none⟩ (.slice (some ⟨g, 0, none⟩) (qs.length + 1) cap)) := by
  have hst := lv.step hb2 hnd hown hgrow hg hgl
  have hBn : B < n0 := lv.1
  have hnW : n0 ≤ W.heap.size := lv.2.2.1
  have hvo : ∀ b, v.ownBlock = some b → n0 ≤ b ∧ b < W.heap.size := fun b hb => lv.2.2.2.1.lt b hb
  have hne : ∀ b, b < n0 → some b ≠ v.ownBlock := fun b hb e => by have := hvo b e.symm; omega
  have hblk : ∀ b, b < n0 → w3.heap[b]? = W.heap[b]? := fun b hb => (hgrow.block b (by have := hb2.size; omega) (hne b hb)).trans (hb2.block b (by omega))
  have hbx3 : Go.Boxed w3 B 148 v := by
    have := bx.kept (row := none) (W' := W2) ⟨hb2.os, hb2.tape, hb2.output, hb2.size, fun k hk _ => hb2.block k hk⟩ (by simp)
    exact this.kept hgrow (hne B hBn)
  have hsz : (w3.setCell ⟨B, 0, none⟩ (.slice (some ⟨g, 0, none⟩) (qs.length + 1) cap)).heap.size = w3.heap.size := by simp
  have hset : ∀ b, b ≠ B → (w3.setCell ⟨B, 0, none⟩ (.slice (some ⟨g, 0, none⟩) (qs.length + 1) cap)).heap[b]? = w3.heap[b]? := fun b hb => by
    by_cases hlt : b < w3.heap.size
    · exact (grownBy_setCell' w3 B (.slice (some ⟨g, 0, none⟩) (qs.length + 1) cap)).block b hlt (fun e => hb (by injection e))
    · rw [Array.getElem?_eq_none (by rw [hsz]; omega), Array.getElem?_eq_none (by omega)]
  have hbelow : Below w.heap.size W (w3.setCell ⟨B, 0, none⟩ (.slice (some ⟨g, 0, none⟩) (qs.length + 1) cap)) := by
    have h1 : Below w.heap.size W w3 := (hb2.mono (by omega)).grown hgrow (by have := hb2.size; omega) (fun k e => by have := hvo k e; omega)
    exact h1.trans ((Below.refl _ _).setCell (p := ⟨B, 0, none⟩) hBw _)
  refine ⟨hbx3, ?_, ⟨hbelow, World.cell?_of_block ((hset Bs hsB).trans (hblk Bs hs)), World.cell?_of_block ((hset Bn hnB).trans (hblk Bn hn))⟩, ⟨_, _, ?_, hst, ?_⟩, hB.trans hbelow⟩
  · have k1 : KeepsOthers W W2 := ⟨hb2.size, fun k o hk _ => (hb2.block k (Array.getElem?_eq_some_iff.1 hk).1).trans hk⟩
    have k2 : KeepsOthers W2 w3 := KeepsOthers.of_grownBy hgrow (fun j o e ho => by
      have hj := hvo j e
      have ho2 := (hb2.block j hj.2).symm.trans ho
      rcases lv.2.2.2.1.2 with ⟨e1, _⟩ | ⟨g, cap, cur, e1, _, e2, _⟩
      · rw [e1] at e; cases e
      · rw [e1] at e
        have : g = j := by simpa [Value.ownBlock] using e
        subst this
        rw [e2] at ho2
        cases ho2
        rfl)
    exact (k1.trans k2).trans (KeepsOthers.setCell _ _ _)
  · exact hbx3.set _
  · rw [List.map_append, List.map_append, hq]; rfl


/-- A level of a tree in the making: its box holds a row of nodes of one height, none of them short but perhaps the last one at its right edge; none lies in the box. -/
structure LevO (d : Nat) (l : List VT) (B0 : Nat) (W : World) (v : Value) (ps : List Part) (h : Nat) : Prop where
  box : Go.Boxed W B0 148 v
  row : SlVX (fun b => b ≠ B0) W (ps.map (·.2)) v
  nd : ∀ (i : Nat) (hi : i < ps.length), NDX (fun b => b ≠ B0) d h (decide (i + 1 < ps.length)) W (ps[i]'hi).1 (ps[i]'hi).2
  flat : ps.flatMap (·.1) = l
  pos : 1 ≤ ps.length
  high : h = 0 ∨ 16 ^ h ≤ l.length

theorem ck_flag (len i : Nat) (h : 0 < len) (hi : i < (len + 31) / 32) : decide ((ckAt len i h).1.2 < len) = decide (i + 1 < (len + 31) / 32) := by
  rw [ckAt_val len i h (by omega)]
  by_cases hlt : i + 1 < (len + 31) / 32
  · rw [decide_eq_true hlt, decide_eq_true (by show i * 32 + min 32 (len - i * 32) < len; omega)]
  · rw [decide_eq_false hlt, decide_eq_false (by show ¬ (i * 32 + min 32 (len - i * 32) < len); omega)]

theorem levO_of {d h B0 : Nat} {l : List VT} {W : World} {v : Value} {qs : List (Part × Bool)} {len : Nat} (hlen : 0 < len) (F : Ck len → List VT) (hq : qs.map (fun q => (q.1.1, q.2)) = (cks len hlen ((len + 31) / 32)).map (fun x => (F x, decide (x.1.2 < len)))) (hF : ((cks len hlen ((len + 31) / 32)).map F).flatten = l)
    (box : Go.Boxed W B0 148 v) (row : SlVX (fun b => b ≠ B0) W (qs.map (·.1.2)) v) (nd : ∀ (i : Nat) (hi : i < qs.length), NDX (fun b => b ≠ B0) d h (qs[i]'hi).2 W (qs[i]'hi).1.1 (qs[i]'hi).1.2) (high : h = 0 ∨ 16 ^ h ≤ l.length) : LevO d l B0 W v (qs.map (·.1)) h ∧ (qs.map (·.1)).length = (len + 31) / 32 := by
  have hl : qs.length = (len + 31) / 32 := by
    have := congrArg List.length hq
    rwa [List.length_map, List.length_map, cks_len] at this
  have hl2 : (qs.map (·.1)).length = (len + 31) / 32 := by rw [List.length_map]; exact hl
  refine ⟨⟨box, by rw [List.map_map]; exact row, fun i hi => ?_, ?_, by omega, high⟩, hl2⟩
  · have hi' : i < qs.length := by rw [List.length_map] at hi; exact hi
    have h1 := nd i hi'
    have e : (qs.map (fun q => (q.1.1, q.2)))[i]? = ((cks len hlen ((len + 31) / 32)).map (fun x => (F x, decide (x.1.2 < len))))[i]? := by rw [hq]
    rw [List.getElem?_map, List.getElem?_map, cks_get len hlen _ i (by omega), List.getElem?_eq_getElem hi'] at e
    simp only [Option.map_some, Option.some.injEq, Prod.mk.injEq] at e
    rw [e.2, ck_flag len i hlen (by omega)] at h1
    rw [hl2]
    simpa using h1
  · have e1 : (qs.map (·.1)).flatMap (·.1) = (qs.map (fun q => (q.1.1, q.2))).flatMap (·.1) := by
      rw [List.flatMap_map, List.flatMap_map]
    rw [e1, hq, List.flatMap_map, ← hF, List.flatMap_def]

theorem SlVX.chunk {X : Nat → Prop} {W : World} {vs : List Value} {g o c : Nat} (h : SlVX X W vs (.slice (some ⟨g, o, none⟩) vs.length c)) (len : Nat) (hlen : len = vs.length) (x : Ck len) : SlVX X W (ckOf vs x) (.slice (some ⟨g, o + x.1.1, none⟩) (x.1.2 - x.1.1) (x.1.2 - x.1.1)) := by
  obtain ⟨a, c', hv, hc, hr⟩ := h
  have hx1 := x.2.1
  have hx2 := x.2.2.1
  have e : (ckOf vs x).length = x.1.2 - x.1.1 := by
    unfold ckOf
    rw [List.length_take, List.length_drop]
    omega
  refine ⟨_, x.1.2 - x.1.1, by rw [e], by rw [e]; exact Nat.le_refl _, fun _ => ?_⟩
  obtain ⟨b', o', ha, hX, hcs⟩ := hr (fun e0 => by rw [e0] at hlen; simp at hlen; omega)
  injection hv with q1 _ _
  rw [← q1] at ha
  injection ha with ha
  injection ha with hb1 ho1
  subst hb1 ho1
  refine ⟨g, o + x.1.1, rfl, hX, fun i hi => ?_⟩
  have hi2 : x.1.1 + i < vs.length := by rw [e] at hi; omega
  have := hcs (x.1.1 + i) hi2
  rw [← Nat.add_assoc] at this
  rw [this]
  simp only [ckOf, List.getElem_take, List.getElem_drop]

theorem ckOf_map {α β : Type} (f : α → β) {len : Nat} (l : List α) (x : Ck len) : (ckOf l x).map f = ckOf (l.map f) x := by
  unfold ckOf
  rw [List.map_take, List.map_drop]

theorem part_le (ps : List Part) {len : Nat} (x : Ck len) : ((ckOf ps x).flatMap (·.1)).length ≤ (ps.flatMap (·.1)).length := by
  have e : ps.flatMap (·.1) = (ps.take x.1.1).flatMap (·.1) ++ ((ckOf ps x).flatMap (·.1) ++ ((ps.drop x.1.1).drop (x.1.2 - x.1.1)).flatMap (·.1)) := by
    unfold ckOf
    rw [← List.flatMap_append, List.take_append_drop, ← List.flatMap_append, List.take_append_drop]
  rw [e, List.length_append, List.length_append]
  omega

/-- What above is asked of in a round. -/
theorem LevO.chunk {d h B0 : Nat} {l : List VT} {W : World} {v : Value} {ps : List Part} {g o c : Nat} (hv : v = .slice (some ⟨g, o, none⟩) ps.length c) (lo : LevO d l B0 W v ps h) (hbig : l.length ≤ 65536) (x : Ck ps.length) {X : Nat → Prop} {W' : World} (hX : ∀ b, b ≠ B0 → b < W.heap.size → X b) (hb : Below W.heap.size W W') :
    Calls Tryz.prog 94 #[.slice (some ⟨g, o + x.1.1, none⟩) (x.1.2 - x.1.1) (x.1.2 - x.1.1)] W' fun e w' => ∃ b, e = .returned (.pointer (some ⟨b, 0, none⟩)) ∧ NDX (fun b => X b ∨ W'.heap.size ≤ b) d (h + 1) (decide (x.1.2 < ps.length)) w' ((ckOf ps x).flatMap (·.1)) (.iface 158 (.pointer (some ⟨b, 0, none⟩))) ∧ Below W'.heap.size W' w' := by
  have hx1 := x.2.1
  have hx2 := x.2.2.1
  have e : (ckOf ps x).length = x.1.2 - x.1.1 := by
    unfold ckOf
    rw [List.length_take, List.length_drop]
    omega
  have hrow := lo.row
  rw [hv] at hrow
  have hch : SlVX (fun b => b ≠ B0) W (ckOf (ps.map (·.2)) x) (.slice (some ⟨g, o + x.1.1, none⟩) (x.1.2 - x.1.1) (x.1.2 - x.1.1)) := SlVX.chunk (c := c) (by rw [List.length_map]; exact hrow) _ (by rw [List.length_map]) x
  have hch2 : SlVX X W' ((ckOf ps x).map (·.2)) (.slice (some ⟨g, o + x.1.1, none⟩) (x.1.2 - x.1.1) (x.1.2 - x.1.1)) := by
    rw [ckOf_map]
    obtain ⟨a, c9, e9, h9, hr⟩ := hch
    refine ⟨a, c9, e9, h9, fun hne => ?_⟩
    obtain ⟨b, o9, ha, hx, hcs⟩ := hr hne
    exact ⟨b, o9, ha, hX b hx (cell_lt (hcs 0 (List.length_pos_iff.2 hne))), fun i hi => cell_keeps hb (hcs i hi)⟩
  refine above_x X d h (decide (x.1.2 < ps.length)) (ckOf ps x) _ W' hch2 (by omega) (by omega) (fun hk => by have := of_decide_eq_true hk; omega) (fun i hi => ?_) ?_
  · have hi2 : x.1.1 + i < ps.length := by omega
    have h1 := lo.nd (x.1.1 + i) hi2
    have e2 : (ckOf ps x)[i]'hi = ps[x.1.1 + i]'hi2 := by simp only [ckOf, List.getElem_take, List.getElem_drop]
    rw [e2]
    have e3 : (decide (x.1.2 < ps.length) || decide (i + 1 < (ckOf ps x).length)) = decide (x.1.1 + i + 1 < ps.length) := by
      rw [e]
      by_cases h7 : x.1.2 < ps.length
      · rw [decide_eq_true h7, Bool.true_or, decide_eq_true (by omega)]
      · rw [decide_eq_false h7, Bool.false_or]
        by_cases h8 : i + 1 < x.1.2 - x.1.1
        · rw [decide_eq_true h8, decide_eq_true (by omega)]
        · rw [decide_eq_false h8, decide_eq_false (by omega)]
    rw [e3]
    exact (h1.both _ _ _ _).stays (fun b hb9 => hX b hb9.1 hb9.2) (fun _ _ _ hc => cell_keeps hb hc) _ _ _ _
  · have h1 := part_le ps x
    rw [lo.flat] at h1
    omega

end Go.Proofs.YtekoaiehhjgfiaaGreat

