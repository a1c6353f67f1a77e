/-
  slices.AppendSeq of a vector's items.
-/
import Derived.Test.YtekoaiehhjgfiaaAppSeqP
namespace Go.Proofs.Ytekoaiehhjgfiaa
open Go.RowKit Go.Shelf

attribute [local go_sem] Oper.semAt_some

/-- What stands between two rounds: the box holds a row of what has come. -/
def SI {d : Nat} {w0 : World} {R : VT → Prop} (B : Nat) (w : World) (pre : List (PG d w0 R)) (W : World) : Prop :=
  (∃ v, Go.Boxed W B 22 v ∧ W.ownsRow w0.heap.size 33 4 v pre.length (pre.flatMap fun q => encP q.1)) ∧ Below w0.heap.size w W

theorem SI.own {d : Nat} {w0 : World} {R : VT → Prop} (B M : Nat) (w : World) (hB : B < M) (hw : w0.heap.size ≤ M) (hww : w0.heap.size ≤ w.heap.size) : OwnFrom M (SI (d := d) (w0 := w0) (R := R) B w) := by
  intro s A V row hs hg hr
  obtain ⟨⟨v, bx, hrow⟩, hb⟩ := hs
  refine ⟨⟨v, bx.kept hg (fun e => ?_), hrow.kept hg ?_⟩, hb.grown hg (by have := hb.size; omega) (fun k e => ?_)⟩
  · have := (hr _ e.symm).1
    omega
  · cases hvo : v.ownBlock with
    | none => exact .inl rfl
    | some b =>
      refine .inr (fun e => ?_)
      obtain ⟨_, o, ho, hoc⟩ := hr b e.symm
      rcases hrow.2 with ⟨e1, _⟩ | ⟨g, cap, cur, e1, _, e2, _⟩
      · rw [e1] at hvo; cases hvo
      · rw [e1] at hvo
        have : g = b := by simpa [Value.ownBlock] using hvo
        subst this
        rw [e2] at ho
        cases ho
        simp [Obj.isCells] at hoc
  · have := (hr _ e).1
    omega

/-- The value that a round is at, in a block of its own. -/
def SA {d : Nat} {w0 : World} {R : VT → Prop} (B : Nat) (f : Nat → Act) (x : PG d w0 R) (a : Act) (W : World) : Prop :=
  ∃ Bx, B < Bx ∧ Box4 W Bx x.1.1 x.1.2 ∧ (∃ v, Go.Boxed W B 22 v ∧ v.ownBlock ≠ some Bx) ∧ a = f Bx

theorem SA.own {d : Nat} {w0 : World} {R : VT → Prop} (B M : Nat) (f : Nat → Act) (x : PG d w0 R) (a : Act) : OwnFrom M (fun (_ : Unit) W => SA B f x a W) := by
  intro s A V row hs hg hr
  obtain ⟨Bx, hlt, b4, ⟨v, bx, hne⟩, rfl⟩ := hs
  have hb4 : A.heap[Bx]? = some (.cells #[.int .i64 x.1.1.kind, .int .i64 x.1.1.num, .string x.1.1.text, x.1.2] 33 (0, 0)) := b4
  have hbx : A.heap[B]? = some (.cells #[v] 22 (0, 0)) := bx
  refine ⟨Bx, hlt, b4.kept hg (fun e => ?_), ⟨v, bx.kept hg (fun e => ?_), hne⟩, rfl⟩
  · obtain ⟨_, o, ho, hoc⟩ := hr _ e.symm
    rw [hb4] at ho
    cases ho
    simp [Obj.isCells] at hoc
  · obtain ⟨_, o, ho, hoc⟩ := hr _ e.symm
    rw [hbx] at ho
    cases ho
    simp [Obj.isCells] at hoc

set_option maxRecDepth 100000 in
set_option maxHeartbeats 16000000 in
theorem appendSeq_any (d : Nat) (w0 : World) (R : VT → Prop) (qs : List (PG d w0 R)) (hq : qs.length ≤ 65536) (lb : Array Value) (s : Value) (w : World) (hb : Below w0.heap.size w0 w) (hrow : w.ownsRow w0.heap.size 33 4 s 0 [])
    (hseq : ∀ W, Below w.heap.size w W → SeqStopsK Fence.wide 5 Try.prog 56 lb (fun x : PG d w0 R => #[.agg #[.int .i64 x.1.1.kind, .int .i64 x.1.1.num, .string x.1.1.text, x.1.2]]) (Below w0.heap.size) (fun ys => ys = qs) (fun _ => True) qs.length W) :
    Calls Try.prog 42 #[s, .func (.func 56) #[] lb] w fun e w' => ∃ v, e = .returned v ∧ w'.ownsRow w0.heap.size 33 4 v qs.length (qs.flatMap fun q => encP q.1) ∧ Below w0.heap.size w w' := by
  obtain ⟨a0, n0, c0, rfl⟩ : ∃ a n c, s = .slice a n c := by
    rcases hrow.2 with ⟨rfl, _⟩ | ⟨g, cap, _, rfl, _⟩ <;> exact ⟨_, _, _, rfl⟩
  refine (callsIn_wide (n := 6)).1 ?_
  refine callsIn_of_wp_marks Try.func42 rfl trivial ?_ rfl
  simp only [Try.ntmps42, List.size_toArray, List.length_cons, List.length_nil, Nat.reduceAdd, Nat.reduceSub, Array.replicate_succ, Array.replicate_zero, List.push_toArray, List.append_toArray, List.nil_append, List.cons_append]
  have Hrow : Hid (w.ownsRow w0.heap.size 33 4 (.slice a0 n0 c0) 0 []) := hrow
  have hww : w0.heap.size ≤ w.heap.size := hb.size
  have hb1 : Below w.heap.size w (w.alloc (.cells #[.slice a0 n0 c0] 22)) := ((Grew.refl w).alloc _).below
  clear hrow
  gi_wp2
  refine wpIn_rangeFunc_ownH rfl (by omega) (gf := 56) (lb := lb) rfl trivial (enters_of Try.func56 (by kernel_rfl) rfl)
    (hseq _ hb1) belowK_t (belowK_b (by simp; omega)) (Below.refl _ _) (fun _ => rfl)
    (SI w.heap.size w) (fun _ _ _ => False)
    (SI.own _ _ _ (by simp) (by simp; omega) hww) (fun _ _ _ _ _ hs _ _ => hs) ?h0
    (fun x => SA w.heap.size (fun Bx => { tmps := #[.slice a0 n0 c0, .func (.func 56) #[] lb, .pointer (some ⟨w.heap.size, 0, none⟩), undef, .slice none 0 0, .pointer (some ⟨Bx, 0, none⟩), .func (.func 56) #[] lb, .agg #[.int .i64 x.1.1.kind, .int .i64 x.1.1.num, .string x.1.1.text, x.1.2], undef, undef, undef, undef, undef, undef, undef], defers := [] }) x) (fun x a' => SA.own _ _ _ _ _) ?assign ?body ?done ?stop
  case h0 => exact ⟨⟨_, Go.Boxed.new w 22 _, Hrow.out.alloc _⟩, hb1.mono hww⟩
  case assign =>
    rintro lp pre ⟨⟨t, u⟩, hsd, hRt⟩ W K ⟨⟨v, bx, hrow⟩, hB⟩ hK
    obtain ⟨au, cu, hu, _⟩ := Lies.slice hsd.1
    simp only at hu
    subst hu
    have HK : Hid (K _ _) := hK _ _ ((KeepsOthers.alloc W (.cells #[.int .i64 t.kind, .int .i64 t.num, .string t.text, .slice au t.items.length cu] 33)).from _) ((((Grew.refl W).alloc (.cells #[.int .i64 t.kind, .int .i64 t.num, .string t.text, .slice au t.items.length cu] 33)).below).mono (by have := hB.size; omega)) ⟨⟨v, bx.alloc _, hrow.alloc _⟩, hB.trans ((((Grew.refl W).alloc _).below).mono (by have := hB.size; omega))⟩ ⟨W.heap.size, bx.lt, World.alloc_heap_new W _, ⟨v, bx.alloc _, fun e => by have := (hrow.lt _ e).2; omega⟩, rfl⟩
    clear hK
    gi_wp2
    exact HK.out
  case body =>
    rintro lp pre ⟨⟨t, u⟩, hsd, hRt⟩ a' W hlp ⟨r, hr⟩ ⟨⟨v, bx, hrow⟩, hB⟩ ⟨Bx, hBx, b4, ⟨v', bx', hne⟩, rfl⟩ hlt
    have hvv : v' = v := by
      have h1 : W.heap[w.heap.size]? = some (.cells #[v'] 22 (0, 0)) := bx'
      have h2 : W.heap[w.heap.size]? = some (.cells #[v] 22 (0, 0)) := bx
      rw [h1] at h2
      injection h2 with h2
      injection h2 with h2
      simpa using h2
    subst hvv
    obtain ⟨au, cu, hu, _⟩ := Lies.slice hsd.1
    simp only at hu
    subst hu
    obtain ⟨av, cv, hv⟩ : ∃ a c, v' = .slice a pre.length c := by
      rcases hrow.2 with ⟨rfl, e⟩ | ⟨g, cap, _, rfl, _⟩
      · exact ⟨none, 0, by rw [e]⟩
      · exact ⟨_, _, rfl⟩
    subst hv
    obtain ⟨k, hk⟩ : ∃ k, k = pre.length := ⟨_, rfl⟩
    rw [← hk] at bx hrow hne hlt
    have hkq : k ≤ 65536 := by omega
    obtain ⟨b0, b1, b2, b3⟩ := b4.cells
    have hc := bx.cell
    have hBl := bx.lt
    have hBxl := b4.lt
    have hcD : W.drew.cell? ⟨w.heap.size, 0, none⟩ = some (.slice av k cv) := hc
    have d0 : W.drew.cell? ⟨Bx, 0, none⟩ = some (.int .i64 t.kind) := b0
    have d1 : W.drew.cell? ⟨Bx, 1, none⟩ = some (.int .i64 t.num) := b1
    have d2 : W.drew.cell? ⟨Bx, 2, none⟩ = some (.string t.text) := b2
    have d3 : W.drew.cell? ⟨Bx, 3, none⟩ = some (.slice au t.items.length cu) := b3
    have hn1 : ¬ (Bx = W.heap.size) := by omega
    have hn2 : ¬ (w.heap.size = W.heap.size) := by omega
    have HRow : Hid ((W.alloc (.cells #[.int .i64 0, .int .i64 0, .string ⟨#[]⟩, .slice none 0 0] 33)).drew.ownsRow w0.heap.size 33 4 (.slice av k cv) k (pre.flatMap fun q => encP q.1)) := (hrow.alloc _).drew
    have Hbs : Hid (w0.heap.size ≤ (W.alloc (.cells #[.int .i64 0, .int .i64 0, .string ⟨#[]⟩, .slice none 0 0] 33)).drew.heap.size) := by
      have := hB.size
      show _ ≤ _
      simp
      omega
    have Hxl : Hid ((pre.flatMap fun q => encP q.1).length = k * 4) := hrow.1
    have HStep : Hid (∀ (g cap : Nat) (w3 : World), w3.ownsRow w0.heap.size 33 4 (.slice (some ⟨g, 0, none⟩) (k + 1) cap) (k + 1) ((pre.flatMap fun q => encP q.1) ++ [.int .i64 0, .int .i64 0, .string ⟨#[]⟩, .slice none 0 0]) → (W.alloc (.cells #[.int .i64 0, .int .i64 0, .string ⟨#[]⟩, .slice none 0 0] 33)).drew.grownBy w3 (Value.slice av k cv).ownBlock → ((Value.slice av k cv).ownBlock = some g ∨ g = (W.alloc (.cells #[.int .i64 0, .int .i64 0, .string ⟨#[]⟩, .slice none 0 0] 33)).drew.heap.size) →
        Go.Boxed w3 w.heap.size 22 (.slice av k cv) ∧ g ≠ w.heap.size ∧ ∀ Z : World, (Z = (w3.setCells g (k * 4) (encP (t, .slice au t.items.length cu))).setCell ⟨w.heap.size, 0, none⟩ (.slice (some ⟨g, 0, none⟩) (k + 1) cap) ∨ Z = (w3.setCell ⟨w.heap.size, 0, none⟩ (.slice (some ⟨g, 0, none⟩) (k + 1) cap)).setCells g (k * 4) (encP (t, .slice au t.items.length cu))) →
          KeepsOthers W Z ∧ Below w0.heap.size W Z ∧ SI w.heap.size w (pre ++ [⟨(t, .slice au t.items.length cu), hsd, hRt⟩]) Z) := fun g cap w3 hown hgrow hg => by
      have hvo : ∀ j, (Value.slice av k cv).ownBlock = some j → w0.heap.size ≤ j ∧ j < W.heap.size := fun j hj => hrow.lt j hj
      have hbnr : some w.heap.size ≠ (Value.slice av k cv).ownBlock := bx.not_row (by decide) hrow
      have hg9 : g ≠ w.heap.size := by
        rcases hg with hg | hg
        · exact fun e => hbnr (by rw [hg, e])
        · simp at hg; omega
      have hbx3 : Go.Boxed w3 w.heap.size 22 (.slice av k cv) := (show Go.Boxed (W.alloc (.cells #[.int .i64 0, .int .i64 0, .string ⟨#[]⟩, .slice none 0 0] 33)).drew w.heap.size 22 (.slice av k cv) from bx.alloc _).kept hgrow hbnr
      have hw3 : Below w0.heap.size W w3 := by
        have h1 : Below w0.heap.size W (W.alloc (.cells #[.int .i64 0, .int .i64 0, .string ⟨#[]⟩, .slice none 0 0] 33)).drew := ((Below.refl _ W).alloc (by have := hB.size; omega) _).drew
        exact h1.grown hgrow Hbs.out (fun j e => (hvo j e).1)
      have hk3 : KeepsOthers W w3 := by
        refine ((KeepsOthers.alloc W _).trans (KeepsOthers.drew _)).trans (KeepsOthers.of_grownBy hgrow (fun j o e ho => ?_))
        rcases HRow.out.2 with ⟨e1, _⟩ | ⟨g9, cap9, cur, e1, _, e2, _⟩
        · rw [e1] at e; cases e
        · rw [e1] at e
          have : g9 = j := by simpa [Value.ownBlock] using e
          subst this
          rw [e2] at ho
          cases ho
          rfl
      refine ⟨hbx3, hg9, fun Z hZ => ?_⟩
      obtain ⟨z1, z2, z3, z4⟩ := seq_one (by have := hB.size; omega) (hown.lt g rfl).1 hg9 hbx3 hown Hxl.out hZ
      refine ⟨hk3.trans z3, hw3.trans z4, ⟨⟨_, z1, ?_⟩, hB.trans (hw3.trans z4)⟩⟩
      rw [List.length_append, List.flatMap_append, ← hk]
      simpa using z2
    have hmx : Try.prog.follows .mixedOrders = true := by kernel_rfl
    have hkk : ((k : Nat) : Int) < (k : Nat) + 1 := by omega
    clear hrow bx bx' b4 hB hr hlp hne hlt hk
    gi_wp2
    refine wpIn_region_any hmx ?_
    change wpAnyIn _ _ _ _ _ _ _ _ _ (World.drew _)
    refine wpAnyIn_ready (rs := [0, 1, 3]) (by kernel_rfl) (by simp) ?_
    refine AllReadyIn.cons rfl (fun K hK => ?_) ?_
    · go_simp
      refine hK _ _ ?_
      clear hK K
      refine wpAnyIn_ready (rs := [1, 2, 3]) (by kernel_rfl) (by simp) ?_
      refine AllReadyIn.cons rfl (fun K hK => ?_) ?_
      · go_simp
        refine hK _ _ ?_
        clear hK K
        refine wpAnyIn_ready (rs := [2, 3]) (by kernel_rfl) (by simp) ?_
        refine AllReadyIn.cons rfl (fun K hK => ?_) ?_
        · go_simp
          refine hK _ _ ?_
          clear hK K
          refine wpAnyIn_ready (rs := [3]) (by kernel_rfl) (by simp) ?_
          refine AllReadyIn.cons rfl (fun K hK => ?_) ?_
          · go_simp
            refine hK _ _ ?_
            clear hK K
            refine wpAnyIn_ready (rs := [4]) (by kernel_rfl) (by simp) ?_
            refine AllReadyIn.cons rfl (fun K hK => ?_) ?_
            · refine appZ_step rfl _ _ rfl w0.heap.size (.slice av k cv) k (pre.flatMap fun q => encP q.1) rfl HRow.out _ rfl (by simp) (by simp) (by simp) (by simp) hkq Hbs.out ?_
              intro g3 cap3 w3 hown3 hgrow3 hg3 hgl3
              obtain ⟨hbx3, hgB, hstep⟩ := HStep.out g3 cap3 w3 hown3 hgrow3 hg3
              have hc3 := hbx3.cell
              have hf3 := hbx3.frozen
              have hgB2 : ¬ (w.heap.size = g3) := fun e => hgB e.symm
              have q0 := hown3.cellAt (k * 4) (by omega)
              have q1 := hown3.cellAt (k * 4 + 1) (by omega)
              have q2 := hown3.cellAt (k * 4 + 2) (by omega)
              have q3 := hown3.cellAt (k * 4 + 3) (by omega)
              rw [List.getElem?_append_right (by rw [Hxl.out]; omega), Hxl.out] at q0 q1 q2 q3
              simp only [Nat.sub_self, Nat.add_sub_cancel_left, List.getElem?_cons_zero, List.getElem?_cons_succ] at q0 q1 q2 q3
              have z0 := hown3.frozenAt (k * 4)
              have z1 := hown3.frozenAt (k * 4 + 1)
              have z2 := hown3.frozenAt (k * 4 + 2)
              have z3 := hown3.frozenAt (k * 4 + 3)
              have Hst : Hid _ := hstep
              clear hown3 hgrow3 hg3 hstep
              refine hK _ _ ?_
              clear hK K
              refine wpAnyIn_ready (rs := [5, 7]) (by kernel_rfl) (by simp) ?_
              refine AllReadyIn.cons rfl (fun K hK => ?_) ?_
              · go_simp
                refine hK _ _ ?_
                clear hK K
                refine wpAnyIn_ready (rs := [6, 7]) (by kernel_rfl) (by simp) ?_
                refine AllReadyIn.cons rfl (fun K hK => ?_) ?_
                · go_simp
                  refine hK _ _ ?_
                  clear hK K
                  refine wpAnyIn_ready (rs := [7]) (by kernel_rfl) (by simp) ?_
                  refine AllReadyIn.cons rfl (fun K hK => ?_) ?_
                  · go_simp
                    refine hK _ _ ?_
                    clear hK K
                    refine wpAnyIn_done (by kernel_rfl) ?_ _
                    obtain ⟨k1, k2, k3⟩ := Hst.out _ (.inl rfl)
                    exact ⟨k1.from _, k2, k3⟩
                  exact AllReadyIn.nil
                refine AllReadyIn.cons rfl (fun K hK => ?_) ?_
                · go_simp
                  refine hK _ _ ?_
                  clear hK K
                  refine wpAnyIn_ready (rs := [6]) (by kernel_rfl) (by simp) ?_
                  refine AllReadyIn.cons rfl (fun K hK => ?_) ?_
                  · go_simp
                    refine hK _ _ ?_
                    clear hK K
                    refine wpAnyIn_done (by kernel_rfl) ?_ _
                    obtain ⟨k1, k2, k3⟩ := Hst.out _ (.inr rfl)
                    exact ⟨k1.from _, k2, k3⟩
                  exact AllReadyIn.nil
                exact AllReadyIn.nil
              refine AllReadyIn.cons rfl (fun K hK => ?_) ?_
              · go_simp
                refine hK _ _ ?_
                clear hK K
                refine wpAnyIn_ready (rs := [5]) (by kernel_rfl) (by simp) ?_
                refine AllReadyIn.cons rfl (fun K hK => ?_) ?_
                · go_simp
                  refine hK _ _ ?_
                  clear hK K
                  refine wpAnyIn_ready (rs := [6]) (by kernel_rfl) (by simp) ?_
                  refine AllReadyIn.cons rfl (fun K hK => ?_) ?_
                  · go_simp
                    refine hK _ _ ?_
                    clear hK K
                    refine wpAnyIn_done (by kernel_rfl) ?_ _
                    obtain ⟨k1, k2, k3⟩ := Hst.out _ (.inr rfl)
                    exact ⟨k1.from _, k2, k3⟩
                  exact AllReadyIn.nil
                exact AllReadyIn.nil
              exact AllReadyIn.nil
            exact AllReadyIn.nil
          exact AllReadyIn.nil
        refine AllReadyIn.cons rfl (fun K hK => ?_) ?_
        · go_simp
          refine hK _ _ ?_
          clear hK K
          refine wpAnyIn_ready (rs := [2]) (by kernel_rfl) (by simp) ?_
          refine AllReadyIn.cons rfl (fun K hK => ?_) ?_
          · go_simp
            refine hK _ _ ?_
            clear hK K
            refine wpAnyIn_ready (rs := [4]) (by kernel_rfl) (by simp) ?_
            refine AllReadyIn.cons rfl (fun K hK => ?_) ?_
            · refine appZ_step rfl _ _ rfl w0.heap.size (.slice av k cv) k (pre.flatMap fun q => encP q.1) rfl HRow.out _ rfl (by simp) (by simp) (by simp) (by simp) hkq Hbs.out ?_
              intro g3 cap3 w3 hown3 hgrow3 hg3 hgl3
              obtain ⟨hbx3, hgB, hstep⟩ := HStep.out g3 cap3 w3 hown3 hgrow3 hg3
              have hc3 := hbx3.cell
              have hf3 := hbx3.frozen
              have hgB2 : ¬ (w.heap.size = g3) := fun e => hgB e.symm
              have q0 := hown3.cellAt (k * 4) (by omega)
              have q1 := hown3.cellAt (k * 4 + 1) (by omega)
              have q2 := hown3.cellAt (k * 4 + 2) (by omega)
              have q3 := hown3.cellAt (k * 4 + 3) (by omega)
              rw [List.getElem?_append_right (by rw [Hxl.out]; omega), Hxl.out] at q0 q1 q2 q3
              simp only [Nat.sub_self, Nat.add_sub_cancel_left, List.getElem?_cons_zero, List.getElem?_cons_succ] at q0 q1 q2 q3
              have z0 := hown3.frozenAt (k * 4)
              have z1 := hown3.frozenAt (k * 4 + 1)
              have z2 := hown3.frozenAt (k * 4 + 2)
              have z3 := hown3.frozenAt (k * 4 + 3)
              have Hst : Hid _ := hstep
              clear hown3 hgrow3 hg3 hstep
              refine hK _ _ ?_
              clear hK K
              refine wpAnyIn_ready (rs := [5, 7]) (by kernel_rfl) (by simp) ?_
              refine AllReadyIn.cons rfl (fun K hK => ?_) ?_
              · go_simp
                refine hK _ _ ?_
                clear hK K
                refine wpAnyIn_ready (rs := [6, 7]) (by kernel_rfl) (by simp) ?_
                refine AllReadyIn.cons rfl (fun K hK => ?_) ?_
                · go_simp
                  refine hK _ _ ?_
                  clear hK K
                  refine wpAnyIn_ready (rs := [7]) (by kernel_rfl) (by simp) ?_
                  refine AllReadyIn.cons rfl (fun K hK => ?_) ?_
                  · go_simp
                    refine hK _ _ ?_
                    clear hK K
                    refine wpAnyIn_done (by kernel_rfl) ?_ _
                    obtain ⟨k1, k2, k3⟩ := Hst.out _ (.inl rfl)
                    exact ⟨k1.from _, k2, k3⟩
                  exact AllReadyIn.nil
                refine AllReadyIn.cons rfl (fun K hK => ?_) ?_
                · go_simp
                  refine hK _ _ ?_
                  clear hK K
                  refine wpAnyIn_ready (rs := [6]) (by kernel_rfl) (by simp) ?_
                  refine AllReadyIn.cons rfl (fun K hK => ?_) ?_
                  · go_simp
                    refine hK _ _ ?_
                    clear hK K
                    refine wpAnyIn_done (by kernel_rfl) ?_ _
                    obtain ⟨k1, k2, k3⟩ := Hst.out _ (.inr rfl)
                    exact ⟨k1.from _, k2, k3⟩
                  exact AllReadyIn.nil
                exact AllReadyIn.nil
              refine AllReadyIn.cons rfl (fun K hK => ?_) ?_
              · go_simp
                refine hK _ _ ?_
                clear hK K
                refine wpAnyIn_ready (rs := [5]) (by kernel_rfl) (by simp) ?_
                refine AllReadyIn.cons rfl (fun K hK => ?_) ?_
                · go_simp
                  refine hK _ _ ?_
                  clear hK K
                  refine wpAnyIn_ready (rs := [6]) (by kernel_rfl) (by simp) ?_
                  refine AllReadyIn.cons rfl (fun K hK => ?_) ?_
                  · go_simp
                    refine hK _ _ ?_
                    clear hK K
                    refine wpAnyIn_done (by kernel_rfl) ?_ _
                    obtain ⟨k1, k2, k3⟩ := Hst.out _ (.inr rfl)
                    exact ⟨k1.from _, k2, k3⟩
                  exact AllReadyIn.nil
                exact AllReadyIn.nil
              exact AllReadyIn.nil
            exact AllReadyIn.nil
          exact AllReadyIn.nil
        exact AllReadyIn.nil
      refine AllReadyIn.cons rfl (fun K hK => ?_) ?_
      · go_simp
        refine hK _ _ ?_
        clear hK K
        refine wpAnyIn_ready (rs := [1, 3]) (by kernel_rfl) (by simp) ?_
        refine AllReadyIn.cons rfl (fun K hK => ?_) ?_
        · go_simp
          refine hK _ _ ?_
          clear hK K
          refine wpAnyIn_ready (rs := [3]) (by kernel_rfl) (by simp) ?_
          refine AllReadyIn.cons rfl (fun K hK => ?_) ?_
          · go_simp
            refine hK _ _ ?_
            clear hK K
            refine wpAnyIn_ready (rs := [4]) (by kernel_rfl) (by simp) ?_
            refine AllReadyIn.cons rfl (fun K hK => ?_) ?_
            · refine appZ_step rfl _ _ rfl w0.heap.size (.slice av k cv) k (pre.flatMap fun q => encP q.1) rfl HRow.out _ rfl (by simp) (by simp) (by simp) (by simp) hkq Hbs.out ?_
              intro g3 cap3 w3 hown3 hgrow3 hg3 hgl3
              obtain ⟨hbx3, hgB, hstep⟩ := HStep.out g3 cap3 w3 hown3 hgrow3 hg3
              have hc3 := hbx3.cell
              have hf3 := hbx3.frozen
              have hgB2 : ¬ (w.heap.size = g3) := fun e => hgB e.symm
              have q0 := hown3.cellAt (k * 4) (by omega)
              have q1 := hown3.cellAt (k * 4 + 1) (by omega)
              have q2 := hown3.cellAt (k * 4 + 2) (by omega)
              have q3 := hown3.cellAt (k * 4 + 3) (by omega)
              rw [List.getElem?_append_right (by rw [Hxl.out]; omega), Hxl.out] at q0 q1 q2 q3
              simp only [Nat.sub_self, Nat.add_sub_cancel_left, List.getElem?_cons_zero, List.getElem?_cons_succ] at q0 q1 q2 q3
              have z0 := hown3.frozenAt (k * 4)
              have z1 := hown3.frozenAt (k * 4 + 1)
              have z2 := hown3.frozenAt (k * 4 + 2)
              have z3 := hown3.frozenAt (k * 4 + 3)
              have Hst : Hid _ := hstep
              clear hown3 hgrow3 hg3 hstep
              refine hK _ _ ?_
              clear hK K
              refine wpAnyIn_ready (rs := [5, 7]) (by kernel_rfl) (by simp) ?_
              refine AllReadyIn.cons rfl (fun K hK => ?_) ?_
              · go_simp
                refine hK _ _ ?_
                clear hK K
                refine wpAnyIn_ready (rs := [6, 7]) (by kernel_rfl) (by simp) ?_
                refine AllReadyIn.cons rfl (fun K hK => ?_) ?_
                · go_simp
                  refine hK _ _ ?_
                  clear hK K
                  refine wpAnyIn_ready (rs := [7]) (by kernel_rfl) (by simp) ?_
                  refine AllReadyIn.cons rfl (fun K hK => ?_) ?_
                  · go_simp
                    refine hK _ _ ?_
                    clear hK K
                    refine wpAnyIn_done (by kernel_rfl) ?_ _
                    obtain ⟨k1, k2, k3⟩ := Hst.out _ (.inl rfl)
                    exact ⟨k1.from _, k2, k3⟩
                  exact AllReadyIn.nil
                refine AllReadyIn.cons rfl (fun K hK => ?_) ?_
                · go_simp
                  refine hK _ _ ?_
                  clear hK K
                  refine wpAnyIn_ready (rs := [6]) (by kernel_rfl) (by simp) ?_
                  refine AllReadyIn.cons rfl (fun K hK => ?_) ?_
                  · go_simp
                    refine hK _ _ ?_
                    clear hK K
                    refine wpAnyIn_done (by kernel_rfl) ?_ _
                    obtain ⟨k1, k2, k3⟩ := Hst.out _ (.inr rfl)
                    exact ⟨k1.from _, k2, k3⟩
                  exact AllReadyIn.nil
                exact AllReadyIn.nil
              refine AllReadyIn.cons rfl (fun K hK => ?_) ?_
              · go_simp
                refine hK _ _ ?_
                clear hK K
                refine wpAnyIn_ready (rs := [5]) (by kernel_rfl) (by simp) ?_
                refine AllReadyIn.cons rfl (fun K hK => ?_) ?_
                · go_simp
                  refine hK _ _ ?_
                  clear hK K
                  refine wpAnyIn_ready (rs := [6]) (by kernel_rfl) (by simp) ?_
                  refine AllReadyIn.cons rfl (fun K hK => ?_) ?_
                  · go_simp
                    refine hK _ _ ?_
                    clear hK K
                    refine wpAnyIn_done (by kernel_rfl) ?_ _
                    obtain ⟨k1, k2, k3⟩ := Hst.out _ (.inr rfl)
                    exact ⟨k1.from _, k2, k3⟩
                  exact AllReadyIn.nil
                exact AllReadyIn.nil
              exact AllReadyIn.nil
            exact AllReadyIn.nil
          exact AllReadyIn.nil
        refine AllReadyIn.cons rfl (fun K hK => ?_) ?_
        · go_simp
          refine hK _ _ ?_
          clear hK K
          refine wpAnyIn_ready (rs := [1]) (by kernel_rfl) (by simp) ?_
          refine AllReadyIn.cons rfl (fun K hK => ?_) ?_
          · go_simp
            refine hK _ _ ?_
            clear hK K
            refine wpAnyIn_ready (rs := [4]) (by kernel_rfl) (by simp) ?_
            refine AllReadyIn.cons rfl (fun K hK => ?_) ?_
            · refine appZ_step rfl _ _ rfl w0.heap.size (.slice av k cv) k (pre.flatMap fun q => encP q.1) rfl HRow.out _ rfl (by simp) (by simp) (by simp) (by simp) hkq Hbs.out ?_
              intro g3 cap3 w3 hown3 hgrow3 hg3 hgl3
              obtain ⟨hbx3, hgB, hstep⟩ := HStep.out g3 cap3 w3 hown3 hgrow3 hg3
              have hc3 := hbx3.cell
              have hf3 := hbx3.frozen
              have hgB2 : ¬ (w.heap.size = g3) := fun e => hgB e.symm
              have q0 := hown3.cellAt (k * 4) (by omega)
              have q1 := hown3.cellAt (k * 4 + 1) (by omega)
              have q2 := hown3.cellAt (k * 4 + 2) (by omega)
              have q3 := hown3.cellAt (k * 4 + 3) (by omega)
              rw [List.getElem?_append_right (by rw [Hxl.out]; omega), Hxl.out] at q0 q1 q2 q3
              simp only [Nat.sub_self, Nat.add_sub_cancel_left, List.getElem?_cons_zero, List.getElem?_cons_succ] at q0 q1 q2 q3
              have z0 := hown3.frozenAt (k * 4)
              have z1 := hown3.frozenAt (k * 4 + 1)
              have z2 := hown3.frozenAt (k * 4 + 2)
              have z3 := hown3.frozenAt (k * 4 + 3)
              have Hst : Hid _ := hstep
              clear hown3 hgrow3 hg3 hstep
              refine hK _ _ ?_
              clear hK K
              refine wpAnyIn_ready (rs := [5, 7]) (by kernel_rfl) (by simp) ?_
              refine AllReadyIn.cons rfl (fun K hK => ?_) ?_
              · go_simp
                refine hK _ _ ?_
                clear hK K
                refine wpAnyIn_ready (rs := [6, 7]) (by kernel_rfl) (by simp) ?_
                refine AllReadyIn.cons rfl (fun K hK => ?_) ?_
                · go_simp
                  refine hK _ _ ?_
                  clear hK K
                  refine wpAnyIn_ready (rs := [7]) (by kernel_rfl) (by simp) ?_
                  refine AllReadyIn.cons rfl (fun K hK => ?_) ?_
                  · go_simp
                    refine hK _ _ ?_
                    clear hK K
                    refine wpAnyIn_done (by kernel_rfl) ?_ _
                    obtain ⟨k1, k2, k3⟩ := Hst.out _ (.inl rfl)
                    exact ⟨k1.from _, k2, k3⟩
                  exact AllReadyIn.nil
                refine AllReadyIn.cons rfl (fun K hK => ?_) ?_
                · go_simp
                  refine hK _ _ ?_
                  clear hK K
                  refine wpAnyIn_ready (rs := [6]) (by kernel_rfl) (by simp) ?_
                  refine AllReadyIn.cons rfl (fun K hK => ?_) ?_
                  · go_simp
                    refine hK _ _ ?_
                    clear hK K
                    refine wpAnyIn_done (by kernel_rfl) ?_ _
                    obtain ⟨k1, k2, k3⟩ := Hst.out _ (.inr rfl)
                    exact ⟨k1.from _, k2, k3⟩
                  exact AllReadyIn.nil
                exact AllReadyIn.nil
              refine AllReadyIn.cons rfl (fun K hK => ?_) ?_
              · go_simp
                refine hK _ _ ?_
                clear hK K
                refine wpAnyIn_ready (rs := [5]) (by kernel_rfl) (by simp) ?_
                refine AllReadyIn.cons rfl (fun K hK => ?_) ?_
                · go_simp
                  refine hK _ _ ?_
                  clear hK K
                  refine wpAnyIn_ready (rs := [6]) (by kernel_rfl) (by simp) ?_
                  refine AllReadyIn.cons rfl (fun K hK => ?_) ?_
                  · go_simp
                    refine hK _ _ ?_
                    clear hK K
                    refine wpAnyIn_done (by kernel_rfl) ?_ _
                    obtain ⟨k1, k2, k3⟩ := Hst.out _ (.inr rfl)
                    exact ⟨k1.from _, k2, k3⟩
                  exact AllReadyIn.nil
                exact AllReadyIn.nil
              exact AllReadyIn.nil
            exact AllReadyIn.nil
          exact AllReadyIn.nil
        exact AllReadyIn.nil
      refine AllReadyIn.cons rfl (fun K hK => ?_) ?_
      · go_simp
        refine hK _ _ ?_
        clear hK K
        refine wpAnyIn_ready (rs := [1, 2]) (by kernel_rfl) (by simp) ?_
        refine AllReadyIn.cons rfl (fun K hK => ?_) ?_
        · go_simp
          refine hK _ _ ?_
          clear hK K
          refine wpAnyIn_ready (rs := [2]) (by kernel_rfl) (by simp) ?_
          refine AllReadyIn.cons rfl (fun K hK => ?_) ?_
          · go_simp
            refine hK _ _ ?_
            clear hK K
            refine wpAnyIn_ready (rs := [4]) (by kernel_rfl) (by simp) ?_
            refine AllReadyIn.cons rfl (fun K hK => ?_) ?_
            · refine appZ_step rfl _ _ rfl w0.heap.size (.slice av k cv) k (pre.flatMap fun q => encP q.1) rfl HRow.out _ rfl (by simp) (by simp) (by simp) (by simp) hkq Hbs.out ?_
              intro g3 cap3 w3 hown3 hgrow3 hg3 hgl3
              obtain ⟨hbx3, hgB, hstep⟩ := HStep.out g3 cap3 w3 hown3 hgrow3 hg3
              have hc3 := hbx3.cell
              have hf3 := hbx3.frozen
              have hgB2 : ¬ (w.heap.size = g3) := fun e => hgB e.symm
              have q0 := hown3.cellAt (k * 4) (by omega)
              have q1 := hown3.cellAt (k * 4 + 1) (by omega)
              have q2 := hown3.cellAt (k * 4 + 2) (by omega)
              have q3 := hown3.cellAt (k * 4 + 3) (by omega)
              rw [List.getElem?_append_right (by rw [Hxl.out]; omega), Hxl.out] at q0 q1 q2 q3
              simp only [Nat.sub_self, Nat.add_sub_cancel_left, List.getElem?_cons_zero, List.getElem?_cons_succ] at q0 q1 q2 q3
              have z0 := hown3.frozenAt (k * 4)
              have z1 := hown3.frozenAt (k * 4 + 1)
              have z2 := hown3.frozenAt (k * 4 + 2)
              have z3 := hown3.frozenAt (k * 4 + 3)
              have Hst : Hid _ := hstep
              clear hown3 hgrow3 hg3 hstep
              refine hK _ _ ?_
              clear hK K
              refine wpAnyIn_ready (rs := [5, 7]) (by kernel_rfl) (by simp) ?_
              refine AllReadyIn.cons rfl (fun K hK => ?_) ?_
              · go_simp
                refine hK _ _ ?_
                clear hK K
                refine wpAnyIn_ready (rs := [6, 7]) (by kernel_rfl) (by simp) ?_
                refine AllReadyIn.cons rfl (fun K hK => ?_) ?_
                · go_simp
                  refine hK _ _ ?_
                  clear hK K
                  refine wpAnyIn_ready (rs := [7]) (by kernel_rfl) (by simp) ?_
                  refine AllReadyIn.cons rfl (fun K hK => ?_) ?_
                  · go_simp
                    refine hK _ _ ?_
                    clear hK K
                    refine wpAnyIn_done (by kernel_rfl) ?_ _
                    obtain ⟨k1, k2, k3⟩ := Hst.out _ (.inl rfl)
                    exact ⟨k1.from _, k2, k3⟩
                  exact AllReadyIn.nil
                refine AllReadyIn.cons rfl (fun K hK => ?_) ?_
                · go_simp
                  refine hK _ _ ?_
                  clear hK K
                  refine wpAnyIn_ready (rs := [6]) (by kernel_rfl) (by simp) ?_
                  refine AllReadyIn.cons rfl (fun K hK => ?_) ?_
                  · go_simp
                    refine hK _ _ ?_
                    clear hK K
                    refine wpAnyIn_done (by kernel_rfl) ?_ _
                    obtain ⟨k1, k2, k3⟩ := Hst.out _ (.inr rfl)
                    exact ⟨k1.from _, k2, k3⟩
                  exact AllReadyIn.nil
                exact AllReadyIn.nil
              refine AllReadyIn.cons rfl (fun K hK => ?_) ?_
              · go_simp
                refine hK _ _ ?_
                clear hK K
                refine wpAnyIn_ready (rs := [5]) (by kernel_rfl) (by simp) ?_
                refine AllReadyIn.cons rfl (fun K hK => ?_) ?_
                · go_simp
                  refine hK _ _ ?_
                  clear hK K
                  refine wpAnyIn_ready (rs := [6]) (by kernel_rfl) (by simp) ?_
                  refine AllReadyIn.cons rfl (fun K hK => ?_) ?_
                  · go_simp
                    refine hK _ _ ?_
                    clear hK K
                    refine wpAnyIn_done (by kernel_rfl) ?_ _
                    obtain ⟨k1, k2, k3⟩ := Hst.out _ (.inr rfl)
                    exact ⟨k1.from _, k2, k3⟩
                  exact AllReadyIn.nil
                exact AllReadyIn.nil
              exact AllReadyIn.nil
            exact AllReadyIn.nil
          exact AllReadyIn.nil
        refine AllReadyIn.cons rfl (fun K hK => ?_) ?_
        · go_simp
          refine hK _ _ ?_
          clear hK K
          refine wpAnyIn_ready (rs := [1]) (by kernel_rfl) (by simp) ?_
          refine AllReadyIn.cons rfl (fun K hK => ?_) ?_
          · go_simp
            refine hK _ _ ?_
            clear hK K
            refine wpAnyIn_ready (rs := [4]) (by kernel_rfl) (by simp) ?_
            refine AllReadyIn.cons rfl (fun K hK => ?_) ?_
            · refine appZ_step rfl _ _ rfl w0.heap.size (.slice av k cv) k (pre.flatMap fun q => encP q.1) rfl HRow.out _ rfl (by simp) (by simp) (by simp) (by simp) hkq Hbs.out ?_
              intro g3 cap3 w3 hown3 hgrow3 hg3 hgl3
              obtain ⟨hbx3, hgB, hstep⟩ := HStep.out g3 cap3 w3 hown3 hgrow3 hg3
              have hc3 := hbx3.cell
              have hf3 := hbx3.frozen
              have hgB2 : ¬ (w.heap.size = g3) := fun e => hgB e.symm
              have q0 := hown3.cellAt (k * 4) (by omega)
              have q1 := hown3.cellAt (k * 4 + 1) (by omega)
              have q2 := hown3.cellAt (k * 4 + 2) (by omega)
              have q3 := hown3.cellAt (k * 4 + 3) (by omega)
              rw [List.getElem?_append_right (by rw [Hxl.out]; omega), Hxl.out] at q0 q1 q2 q3
              simp only [Nat.sub_self, Nat.add_sub_cancel_left, List.getElem?_cons_zero, List.getElem?_cons_succ] at q0 q1 q2 q3
              have z0 := hown3.frozenAt (k * 4)
              have z1 := hown3.frozenAt (k * 4 + 1)
              have z2 := hown3.frozenAt (k * 4 + 2)
              have z3 := hown3.frozenAt (k * 4 + 3)
              have Hst : Hid _ := hstep
              clear hown3 hgrow3 hg3 hstep
              refine hK _ _ ?_
              clear hK K
              refine wpAnyIn_ready (rs := [5, 7]) (by kernel_rfl) (by simp) ?_
              refine AllReadyIn.cons rfl (fun K hK => ?_) ?_
              · go_simp
                refine hK _ _ ?_
                clear hK K
                refine wpAnyIn_ready (rs := [6, 7]) (by kernel_rfl) (by simp) ?_
                refine AllReadyIn.cons rfl (fun K hK => ?_) ?_
                · go_simp
                  refine hK _ _ ?_
                  clear hK K
                  refine wpAnyIn_ready (rs := [7]) (by kernel_rfl) (by simp) ?_
                  refine AllReadyIn.cons rfl (fun K hK => ?_) ?_
                  · go_simp
                    refine hK _ _ ?_
                    clear hK K
                    refine wpAnyIn_done (by kernel_rfl) ?_ _
                    obtain ⟨k1, k2, k3⟩ := Hst.out _ (.inl rfl)
                    exact ⟨k1.from _, k2, k3⟩
                  exact AllReadyIn.nil
                refine AllReadyIn.cons rfl (fun K hK => ?_) ?_
                · go_simp
                  refine hK _ _ ?_
                  clear hK K
                  refine wpAnyIn_ready (rs := [6]) (by kernel_rfl) (by simp) ?_
                  refine AllReadyIn.cons rfl (fun K hK => ?_) ?_
                  · go_simp
                    refine hK _ _ ?_
                    clear hK K
                    refine wpAnyIn_done (by kernel_rfl) ?_ _
                    obtain ⟨k1, k2, k3⟩ := Hst.out _ (.inr rfl)
                    exact ⟨k1.from _, k2, k3⟩
                  exact AllReadyIn.nil
                exact AllReadyIn.nil
              refine AllReadyIn.cons rfl (fun K hK => ?_) ?_
              · go_simp
                refine hK _ _ ?_
                clear hK K
                refine wpAnyIn_ready (rs := [5]) (by kernel_rfl) (by simp) ?_
                refine AllReadyIn.cons rfl (fun K hK => ?_) ?_
                · go_simp
                  refine hK _ _ ?_
                  clear hK K
                  refine wpAnyIn_ready (rs := [6]) (by kernel_rfl) (by simp) ?_
                  refine AllReadyIn.cons rfl (fun K hK => ?_) ?_
                  · go_simp
                    refine hK _ _ ?_
                    clear hK K
                    refine wpAnyIn_done (by kernel_rfl) ?_ _
                    obtain ⟨k1, k2, k3⟩ := Hst.out _ (.inr rfl)
                    exact ⟨k1.from _, k2, k3⟩
                  exact AllReadyIn.nil
                exact AllReadyIn.nil
              exact AllReadyIn.nil
            exact AllReadyIn.nil
          exact AllReadyIn.nil
        exact AllReadyIn.nil
      exact AllReadyIn.nil
    refine AllReadyIn.cons rfl (fun K hK => ?_) ?_
    · go_simp
      refine hK _ _ ?_
      clear hK K
      refine wpAnyIn_ready (rs := [0, 3]) (by kernel_rfl) (by simp) ?_
      refine AllReadyIn.cons rfl (fun K hK => ?_) ?_
      · go_simp
        refine hK _ _ ?_
        clear hK K
        refine wpAnyIn_ready (rs := [2, 3]) (by kernel_rfl) (by simp) ?_
        refine AllReadyIn.cons rfl (fun K hK => ?_) ?_
        · go_simp
          refine hK _ _ ?_
          clear hK K
          refine wpAnyIn_ready (rs := [3]) (by kernel_rfl) (by simp) ?_
          refine AllReadyIn.cons rfl (fun K hK => ?_) ?_
          · go_simp
            refine hK _ _ ?_
            clear hK K
            refine wpAnyIn_ready (rs := [4]) (by kernel_rfl) (by simp) ?_
            refine AllReadyIn.cons rfl (fun K hK => ?_) ?_
            · refine appZ_step rfl _ _ rfl w0.heap.size (.slice av k cv) k (pre.flatMap fun q => encP q.1) rfl HRow.out _ rfl (by simp) (by simp) (by simp) (by simp) hkq Hbs.out ?_
              intro g3 cap3 w3 hown3 hgrow3 hg3 hgl3
              obtain ⟨hbx3, hgB, hstep⟩ := HStep.out g3 cap3 w3 hown3 hgrow3 hg3
              have hc3 := hbx3.cell
              have hf3 := hbx3.frozen
              have hgB2 : ¬ (w.heap.size = g3) := fun e => hgB e.symm
              have q0 := hown3.cellAt (k * 4) (by omega)
              have q1 := hown3.cellAt (k * 4 + 1) (by omega)
              have q2 := hown3.cellAt (k * 4 + 2) (by omega)
              have q3 := hown3.cellAt (k * 4 + 3) (by omega)
              rw [List.getElem?_append_right (by rw [Hxl.out]; omega), Hxl.out] at q0 q1 q2 q3
              simp only [Nat.sub_self, Nat.add_sub_cancel_left, List.getElem?_cons_zero, List.getElem?_cons_succ] at q0 q1 q2 q3
              have z0 := hown3.frozenAt (k * 4)
              have z1 := hown3.frozenAt (k * 4 + 1)
              have z2 := hown3.frozenAt (k * 4 + 2)
              have z3 := hown3.frozenAt (k * 4 + 3)
              have Hst : Hid _ := hstep
              clear hown3 hgrow3 hg3 hstep
              refine hK _ _ ?_
              clear hK K
              refine wpAnyIn_ready (rs := [5, 7]) (by kernel_rfl) (by simp) ?_
              refine AllReadyIn.cons rfl (fun K hK => ?_) ?_
              · go_simp
                refine hK _ _ ?_
                clear hK K
                refine wpAnyIn_ready (rs := [6, 7]) (by kernel_rfl) (by simp) ?_
                refine AllReadyIn.cons rfl (fun K hK => ?_) ?_
                · go_simp
                  refine hK _ _ ?_
                  clear hK K
                  refine wpAnyIn_ready (rs := [7]) (by kernel_rfl) (by simp) ?_
                  refine AllReadyIn.cons rfl (fun K hK => ?_) ?_
                  · go_simp
                    refine hK _ _ ?_
                    clear hK K
                    refine wpAnyIn_done (by kernel_rfl) ?_ _
                    obtain ⟨k1, k2, k3⟩ := Hst.out _ (.inl rfl)
                    exact ⟨k1.from _, k2, k3⟩
                  exact AllReadyIn.nil
                refine AllReadyIn.cons rfl (fun K hK => ?_) ?_
                · go_simp
                  refine hK _ _ ?_
                  clear hK K
                  refine wpAnyIn_ready (rs := [6]) (by kernel_rfl) (by simp) ?_
                  refine AllReadyIn.cons rfl (fun K hK => ?_) ?_
                  · go_simp
                    refine hK _ _ ?_
                    clear hK K
                    refine wpAnyIn_done (by kernel_rfl) ?_ _
                    obtain ⟨k1, k2, k3⟩ := Hst.out _ (.inr rfl)
                    exact ⟨k1.from _, k2, k3⟩
                  exact AllReadyIn.nil
                exact AllReadyIn.nil
              refine AllReadyIn.cons rfl (fun K hK => ?_) ?_
              · go_simp
                refine hK _ _ ?_
                clear hK K
                refine wpAnyIn_ready (rs := [5]) (by kernel_rfl) (by simp) ?_
                refine AllReadyIn.cons rfl (fun K hK => ?_) ?_
                · go_simp
                  refine hK _ _ ?_
                  clear hK K
                  refine wpAnyIn_ready (rs := [6]) (by kernel_rfl) (by simp) ?_
                  refine AllReadyIn.cons rfl (fun K hK => ?_) ?_
                  · go_simp
                    refine hK _ _ ?_
                    clear hK K
                    refine wpAnyIn_done (by kernel_rfl) ?_ _
                    obtain ⟨k1, k2, k3⟩ := Hst.out _ (.inr rfl)
                    exact ⟨k1.from _, k2, k3⟩
                  exact AllReadyIn.nil
                exact AllReadyIn.nil
              exact AllReadyIn.nil
            exact AllReadyIn.nil
          exact AllReadyIn.nil
        refine AllReadyIn.cons rfl (fun K hK => ?_) ?_
        · go_simp
          refine hK _ _ ?_
          clear hK K
          refine wpAnyIn_ready (rs := [2]) (by kernel_rfl) (by simp) ?_
          refine AllReadyIn.cons rfl (fun K hK => ?_) ?_
          · go_simp
            refine hK _ _ ?_
            clear hK K
            refine wpAnyIn_ready (rs := [4]) (by kernel_rfl) (by simp) ?_
            refine AllReadyIn.cons rfl (fun K hK => ?_) ?_
            · refine appZ_step rfl _ _ rfl w0.heap.size (.slice av k cv) k (pre.flatMap fun q => encP q.1) rfl HRow.out _ rfl (by simp) (by simp) (by simp) (by simp) hkq Hbs.out ?_
              intro g3 cap3 w3 hown3 hgrow3 hg3 hgl3
              obtain ⟨hbx3, hgB, hstep⟩ := HStep.out g3 cap3 w3 hown3 hgrow3 hg3
              have hc3 := hbx3.cell
              have hf3 := hbx3.frozen
              have hgB2 : ¬ (w.heap.size = g3) := fun e => hgB e.symm
              have q0 := hown3.cellAt (k * 4) (by omega)
              have q1 := hown3.cellAt (k * 4 + 1) (by omega)
              have q2 := hown3.cellAt (k * 4 + 2) (by omega)
              have q3 := hown3.cellAt (k * 4 + 3) (by omega)
              rw [List.getElem?_append_right (by rw [Hxl.out]; omega), Hxl.out] at q0 q1 q2 q3
              simp only [Nat.sub_self, Nat.add_sub_cancel_left, List.getElem?_cons_zero, List.getElem?_cons_succ] at q0 q1 q2 q3
              have z0 := hown3.frozenAt (k * 4)
              have z1 := hown3.frozenAt (k * 4 + 1)
              have z2 := hown3.frozenAt (k * 4 + 2)
              have z3 := hown3.frozenAt (k * 4 + 3)
              have Hst : Hid _ := hstep
              clear hown3 hgrow3 hg3 hstep
              refine hK _ _ ?_
              clear hK K
              refine wpAnyIn_ready (rs := [5, 7]) (by kernel_rfl) (by simp) ?_
              refine AllReadyIn.cons rfl (fun K hK => ?_) ?_
              · go_simp
                refine hK _ _ ?_
                clear hK K
                refine wpAnyIn_ready (rs := [6, 7]) (by kernel_rfl) (by simp) ?_
                refine AllReadyIn.cons rfl (fun K hK => ?_) ?_
                · go_simp
                  refine hK _ _ ?_
                  clear hK K
                  refine wpAnyIn_ready (rs := [7]) (by kernel_rfl) (by simp) ?_
                  refine AllReadyIn.cons rfl (fun K hK => ?_) ?_
                  · go_simp
                    refine hK _ _ ?_
                    clear hK K
                    refine wpAnyIn_done (by kernel_rfl) ?_ _
                    obtain ⟨k1, k2, k3⟩ := Hst.out _ (.inl rfl)
                    exact ⟨k1.from _, k2, k3⟩
                  exact AllReadyIn.nil
                refine AllReadyIn.cons rfl (fun K hK => ?_) ?_
                · go_simp
                  refine hK _ _ ?_
                  clear hK K
                  refine wpAnyIn_ready (rs := [6]) (by kernel_rfl) (by simp) ?_
                  refine AllReadyIn.cons rfl (fun K hK => ?_) ?_
                  · go_simp
                    refine hK _ _ ?_
                    clear hK K
                    refine wpAnyIn_done (by kernel_rfl) ?_ _
                    obtain ⟨k1, k2, k3⟩ := Hst.out _ (.inr rfl)
                    exact ⟨k1.from _, k2, k3⟩
                  exact AllReadyIn.nil
                exact AllReadyIn.nil
              refine AllReadyIn.cons rfl (fun K hK => ?_) ?_
              · go_simp
                refine hK _ _ ?_
                clear hK K
                refine wpAnyIn_ready (rs := [5]) (by kernel_rfl) (by simp) ?_
                refine AllReadyIn.cons rfl (fun K hK => ?_) ?_
                · go_simp
                  refine hK _ _ ?_
                  clear hK K
                  refine wpAnyIn_ready (rs := [6]) (by kernel_rfl) (by simp) ?_
                  refine AllReadyIn.cons rfl (fun K hK => ?_) ?_
                  · go_simp
                    refine hK _ _ ?_
                    clear hK K
                    refine wpAnyIn_done (by kernel_rfl) ?_ _
                    obtain ⟨k1, k2, k3⟩ := Hst.out _ (.inr rfl)
                    exact ⟨k1.from _, k2, k3⟩
                  exact AllReadyIn.nil
                exact AllReadyIn.nil
              exact AllReadyIn.nil
            exact AllReadyIn.nil
          exact AllReadyIn.nil
        exact AllReadyIn.nil
      refine AllReadyIn.cons rfl (fun K hK => ?_) ?_
      · go_simp
        refine hK _ _ ?_
        clear hK K
        refine wpAnyIn_ready (rs := [0]) (by kernel_rfl) (by simp) ?_
        refine AllReadyIn.cons rfl (fun K hK => ?_) ?_
        · go_simp
          refine hK _ _ ?_
          clear hK K
          refine wpAnyIn_ready (rs := [2]) (by kernel_rfl) (by simp) ?_
          refine AllReadyIn.cons rfl (fun K hK => ?_) ?_
          · go_simp
            refine hK _ _ ?_
            clear hK K
            refine wpAnyIn_ready (rs := [4]) (by kernel_rfl) (by simp) ?_
            refine AllReadyIn.cons rfl (fun K hK => ?_) ?_
            · refine appZ_step rfl _ _ rfl w0.heap.size (.slice av k cv) k (pre.flatMap fun q => encP q.1) rfl HRow.out _ rfl (by simp) (by simp) (by simp) (by simp) hkq Hbs.out ?_
              intro g3 cap3 w3 hown3 hgrow3 hg3 hgl3
              obtain ⟨hbx3, hgB, hstep⟩ := HStep.out g3 cap3 w3 hown3 hgrow3 hg3
              have hc3 := hbx3.cell
              have hf3 := hbx3.frozen
              have hgB2 : ¬ (w.heap.size = g3) := fun e => hgB e.symm
              have q0 := hown3.cellAt (k * 4) (by omega)
              have q1 := hown3.cellAt (k * 4 + 1) (by omega)
              have q2 := hown3.cellAt (k * 4 + 2) (by omega)
              have q3 := hown3.cellAt (k * 4 + 3) (by omega)
              rw [List.getElem?_append_right (by rw [Hxl.out]; omega), Hxl.out] at q0 q1 q2 q3
              simp only [Nat.sub_self, Nat.add_sub_cancel_left, List.getElem?_cons_zero, List.getElem?_cons_succ] at q0 q1 q2 q3
              have z0 := hown3.frozenAt (k * 4)
              have z1 := hown3.frozenAt (k * 4 + 1)
              have z2 := hown3.frozenAt (k * 4 + 2)
              have z3 := hown3.frozenAt (k * 4 + 3)
              have Hst : Hid _ := hstep
              clear hown3 hgrow3 hg3 hstep
              refine hK _ _ ?_
              clear hK K
              refine wpAnyIn_ready (rs := [5, 7]) (by kernel_rfl) (by simp) ?_
              refine AllReadyIn.cons rfl (fun K hK => ?_) ?_
              · go_simp
                refine hK _ _ ?_
                clear hK K
                refine wpAnyIn_ready (rs := [6, 7]) (by kernel_rfl) (by simp) ?_
                refine AllReadyIn.cons rfl (fun K hK => ?_) ?_
                · go_simp
                  refine hK _ _ ?_
                  clear hK K
                  refine wpAnyIn_ready (rs := [7]) (by kernel_rfl) (by simp) ?_
                  refine AllReadyIn.cons rfl (fun K hK => ?_) ?_
                  · go_simp
                    refine hK _ _ ?_
                    clear hK K
                    refine wpAnyIn_done (by kernel_rfl) ?_ _
                    obtain ⟨k1, k2, k3⟩ := Hst.out _ (.inl rfl)
                    exact ⟨k1.from _, k2, k3⟩
                  exact AllReadyIn.nil
                refine AllReadyIn.cons rfl (fun K hK => ?_) ?_
                · go_simp
                  refine hK _ _ ?_
                  clear hK K
                  refine wpAnyIn_ready (rs := [6]) (by kernel_rfl) (by simp) ?_
                  refine AllReadyIn.cons rfl (fun K hK => ?_) ?_
                  · go_simp
                    refine hK _ _ ?_
                    clear hK K
                    refine wpAnyIn_done (by kernel_rfl) ?_ _
                    obtain ⟨k1, k2, k3⟩ := Hst.out _ (.inr rfl)
                    exact ⟨k1.from _, k2, k3⟩
                  exact AllReadyIn.nil
                exact AllReadyIn.nil
              refine AllReadyIn.cons rfl (fun K hK => ?_) ?_
              · go_simp
                refine hK _ _ ?_
                clear hK K
                refine wpAnyIn_ready (rs := [5]) (by kernel_rfl) (by simp) ?_
                refine AllReadyIn.cons rfl (fun K hK => ?_) ?_
                · go_simp
                  refine hK _ _ ?_
                  clear hK K
                  refine wpAnyIn_ready (rs := [6]) (by kernel_rfl) (by simp) ?_
                  refine AllReadyIn.cons rfl (fun K hK => ?_) ?_
                  · go_simp
                    refine hK _ _ ?_
                    clear hK K
                    refine wpAnyIn_done (by kernel_rfl) ?_ _
                    obtain ⟨k1, k2, k3⟩ := Hst.out _ (.inr rfl)
                    exact ⟨k1.from _, k2, k3⟩
                  exact AllReadyIn.nil
                exact AllReadyIn.nil
              exact AllReadyIn.nil
            exact AllReadyIn.nil
          exact AllReadyIn.nil
        exact AllReadyIn.nil
      exact AllReadyIn.nil
    refine AllReadyIn.cons rfl (fun K hK => ?_) ?_
    · go_simp
      refine hK _ _ ?_
      clear hK K
      refine wpAnyIn_ready (rs := [0, 1]) (by kernel_rfl) (by simp) ?_
      refine AllReadyIn.cons rfl (fun K hK => ?_) ?_
      · go_simp
        refine hK _ _ ?_
        clear hK K
        refine wpAnyIn_ready (rs := [1, 2]) (by kernel_rfl) (by simp) ?_
        refine AllReadyIn.cons rfl (fun K hK => ?_) ?_
        · go_simp
          refine hK _ _ ?_
          clear hK K
          refine wpAnyIn_ready (rs := [2]) (by kernel_rfl) (by simp) ?_
          refine AllReadyIn.cons rfl (fun K hK => ?_) ?_
          · go_simp
            refine hK _ _ ?_
            clear hK K
            refine wpAnyIn_ready (rs := [4]) (by kernel_rfl) (by simp) ?_
            refine AllReadyIn.cons rfl (fun K hK => ?_) ?_
            · refine appZ_step rfl _ _ rfl w0.heap.size (.slice av k cv) k (pre.flatMap fun q => encP q.1) rfl HRow.out _ rfl (by simp) (by simp) (by simp) (by simp) hkq Hbs.out ?_
              intro g3 cap3 w3 hown3 hgrow3 hg3 hgl3
              obtain ⟨hbx3, hgB, hstep⟩ := HStep.out g3 cap3 w3 hown3 hgrow3 hg3
              have hc3 := hbx3.cell
              have hf3 := hbx3.frozen
              have hgB2 : ¬ (w.heap.size = g3) := fun e => hgB e.symm
              have q0 := hown3.cellAt (k * 4) (by omega)
              have q1 := hown3.cellAt (k * 4 + 1) (by omega)
              have q2 := hown3.cellAt (k * 4 + 2) (by omega)
              have q3 := hown3.cellAt (k * 4 + 3) (by omega)
              rw [List.getElem?_append_right (by rw [Hxl.out]; omega), Hxl.out] at q0 q1 q2 q3
              simp only [Nat.sub_self, Nat.add_sub_cancel_left, List.getElem?_cons_zero, List.getElem?_cons_succ] at q0 q1 q2 q3
              have z0 := hown3.frozenAt (k * 4)
              have z1 := hown3.frozenAt (k * 4 + 1)
              have z2 := hown3.frozenAt (k * 4 + 2)
              have z3 := hown3.frozenAt (k * 4 + 3)
              have Hst : Hid _ := hstep
              clear hown3 hgrow3 hg3 hstep
              refine hK _ _ ?_
              clear hK K
              refine wpAnyIn_ready (rs := [5, 7]) (by kernel_rfl) (by simp) ?_
              refine AllReadyIn.cons rfl (fun K hK => ?_) ?_
              · go_simp
                refine hK _ _ ?_
                clear hK K
                refine wpAnyIn_ready (rs := [6, 7]) (by kernel_rfl) (by simp) ?_
                refine AllReadyIn.cons rfl (fun K hK => ?_) ?_
                · go_simp
                  refine hK _ _ ?_
                  clear hK K
                  refine wpAnyIn_ready (rs := [7]) (by kernel_rfl) (by simp) ?_
                  refine AllReadyIn.cons rfl (fun K hK => ?_) ?_
                  · go_simp
                    refine hK _ _ ?_
                    clear hK K
                    refine wpAnyIn_done (by kernel_rfl) ?_ _
                    obtain ⟨k1, k2, k3⟩ := Hst.out _ (.inl rfl)
                    exact ⟨k1.from _, k2, k3⟩
                  exact AllReadyIn.nil
                refine AllReadyIn.cons rfl (fun K hK => ?_) ?_
                · go_simp
                  refine hK _ _ ?_
                  clear hK K
                  refine wpAnyIn_ready (rs := [6]) (by kernel_rfl) (by simp) ?_
                  refine AllReadyIn.cons rfl (fun K hK => ?_) ?_
                  · go_simp
                    refine hK _ _ ?_
                    clear hK K
                    refine wpAnyIn_done (by kernel_rfl) ?_ _
                    obtain ⟨k1, k2, k3⟩ := Hst.out _ (.inr rfl)
                    exact ⟨k1.from _, k2, k3⟩
                  exact AllReadyIn.nil
                exact AllReadyIn.nil
              refine AllReadyIn.cons rfl (fun K hK => ?_) ?_
              · go_simp
                refine hK _ _ ?_
                clear hK K
                refine wpAnyIn_ready (rs := [5]) (by kernel_rfl) (by simp) ?_
                refine AllReadyIn.cons rfl (fun K hK => ?_) ?_
                · go_simp
                  refine hK _ _ ?_
                  clear hK K
                  refine wpAnyIn_ready (rs := [6]) (by kernel_rfl) (by simp) ?_
                  refine AllReadyIn.cons rfl (fun K hK => ?_) ?_
                  · go_simp
                    refine hK _ _ ?_
                    clear hK K
                    refine wpAnyIn_done (by kernel_rfl) ?_ _
                    obtain ⟨k1, k2, k3⟩ := Hst.out _ (.inr rfl)
                    exact ⟨k1.from _, k2, k3⟩
                  exact AllReadyIn.nil
                exact AllReadyIn.nil
              exact AllReadyIn.nil
            exact AllReadyIn.nil
          exact AllReadyIn.nil
        refine AllReadyIn.cons rfl (fun K hK => ?_) ?_
        · go_simp
          refine hK _ _ ?_
          clear hK K
          refine wpAnyIn_ready (rs := [1]) (by kernel_rfl) (by simp) ?_
          refine AllReadyIn.cons rfl (fun K hK => ?_) ?_
          · go_simp
            refine hK _ _ ?_
            clear hK K
            refine wpAnyIn_ready (rs := [4]) (by kernel_rfl) (by simp) ?_
            refine AllReadyIn.cons rfl (fun K hK => ?_) ?_
            · refine appZ_step rfl _ _ rfl w0.heap.size (.slice av k cv) k (pre.flatMap fun q => encP q.1) rfl HRow.out _ rfl (by simp) (by simp) (by simp) (by simp) hkq Hbs.out ?_
              intro g3 cap3 w3 hown3 hgrow3 hg3 hgl3
              obtain ⟨hbx3, hgB, hstep⟩ := HStep.out g3 cap3 w3 hown3 hgrow3 hg3
              have hc3 := hbx3.cell
              have hf3 := hbx3.frozen
              have hgB2 : ¬ (w.heap.size = g3) := fun e => hgB e.symm
              have q0 := hown3.cellAt (k * 4) (by omega)
              have q1 := hown3.cellAt (k * 4 + 1) (by omega)
              have q2 := hown3.cellAt (k * 4 + 2) (by omega)
              have q3 := hown3.cellAt (k * 4 + 3) (by omega)
              rw [List.getElem?_append_right (by rw [Hxl.out]; omega), Hxl.out] at q0 q1 q2 q3
              simp only [Nat.sub_self, Nat.add_sub_cancel_left, List.getElem?_cons_zero, List.getElem?_cons_succ] at q0 q1 q2 q3
              have z0 := hown3.frozenAt (k * 4)
              have z1 := hown3.frozenAt (k * 4 + 1)
              have z2 := hown3.frozenAt (k * 4 + 2)
              have z3 := hown3.frozenAt (k * 4 + 3)
              have Hst : Hid _ := hstep
              clear hown3 hgrow3 hg3 hstep
              refine hK _ _ ?_
              clear hK K
              refine wpAnyIn_ready (rs := [5, 7]) (by kernel_rfl) (by simp) ?_
              refine AllReadyIn.cons rfl (fun K hK => ?_) ?_
              · go_simp
                refine hK _ _ ?_
                clear hK K
                refine wpAnyIn_ready (rs := [6, 7]) (by kernel_rfl) (by simp) ?_
                refine AllReadyIn.cons rfl (fun K hK => ?_) ?_
                · go_simp
                  refine hK _ _ ?_
                  clear hK K
                  refine wpAnyIn_ready (rs := [7]) (by kernel_rfl) (by simp) ?_
                  refine AllReadyIn.cons rfl (fun K hK => ?_) ?_
                  · go_simp
                    refine hK _ _ ?_
                    clear hK K
                    refine wpAnyIn_done (by kernel_rfl) ?_ _
                    obtain ⟨k1, k2, k3⟩ := Hst.out _ (.inl rfl)
                    exact ⟨k1.from _, k2, k3⟩
                  exact AllReadyIn.nil
                refine AllReadyIn.cons rfl (fun K hK => ?_) ?_
                · go_simp
                  refine hK _ _ ?_
                  clear hK K
                  refine wpAnyIn_ready (rs := [6]) (by kernel_rfl) (by simp) ?_
                  refine AllReadyIn.cons rfl (fun K hK => ?_) ?_
                  · go_simp
                    refine hK _ _ ?_
                    clear hK K
                    refine wpAnyIn_done (by kernel_rfl) ?_ _
                    obtain ⟨k1, k2, k3⟩ := Hst.out _ (.inr rfl)
                    exact ⟨k1.from _, k2, k3⟩
                  exact AllReadyIn.nil
                exact AllReadyIn.nil
              refine AllReadyIn.cons rfl (fun K hK => ?_) ?_
              · go_simp
                refine hK _ _ ?_
                clear hK K
                refine wpAnyIn_ready (rs := [5]) (by kernel_rfl) (by simp) ?_
                refine AllReadyIn.cons rfl (fun K hK => ?_) ?_
                · go_simp
                  refine hK _ _ ?_
                  clear hK K
                  refine wpAnyIn_ready (rs := [6]) (by kernel_rfl) (by simp) ?_
                  refine AllReadyIn.cons rfl (fun K hK => ?_) ?_
                  · go_simp
                    refine hK _ _ ?_
                    clear hK K
                    refine wpAnyIn_done (by kernel_rfl) ?_ _
                    obtain ⟨k1, k2, k3⟩ := Hst.out _ (.inr rfl)
                    exact ⟨k1.from _, k2, k3⟩
                  exact AllReadyIn.nil
                exact AllReadyIn.nil
              exact AllReadyIn.nil
            exact AllReadyIn.nil
          exact AllReadyIn.nil
        exact AllReadyIn.nil
      refine AllReadyIn.cons rfl (fun K hK => ?_) ?_
      · go_simp
        refine hK _ _ ?_
        clear hK K
        refine wpAnyIn_ready (rs := [0]) (by kernel_rfl) (by simp) ?_
        refine AllReadyIn.cons rfl (fun K hK => ?_) ?_
        · go_simp
          refine hK _ _ ?_
          clear hK K
          refine wpAnyIn_ready (rs := [2]) (by kernel_rfl) (by simp) ?_
          refine AllReadyIn.cons rfl (fun K hK => ?_) ?_
          · go_simp
            refine hK _ _ ?_
            clear hK K
            refine wpAnyIn_ready (rs := [4]) (by kernel_rfl) (by simp) ?_
            refine AllReadyIn.cons rfl (fun K hK => ?_) ?_
            · refine appZ_step rfl _ _ rfl w0.heap.size (.slice av k cv) k (pre.flatMap fun q => encP q.1) rfl HRow.out _ rfl (by simp) (by simp) (by simp) (by simp) hkq Hbs.out ?_
              intro g3 cap3 w3 hown3 hgrow3 hg3 hgl3
              obtain ⟨hbx3, hgB, hstep⟩ := HStep.out g3 cap3 w3 hown3 hgrow3 hg3
              have hc3 := hbx3.cell
              have hf3 := hbx3.frozen
              have hgB2 : ¬ (w.heap.size = g3) := fun e => hgB e.symm
              have q0 := hown3.cellAt (k * 4) (by omega)
              have q1 := hown3.cellAt (k * 4 + 1) (by omega)
              have q2 := hown3.cellAt (k * 4 + 2) (by omega)
              have q3 := hown3.cellAt (k * 4 + 3) (by omega)
              rw [List.getElem?_append_right (by rw [Hxl.out]; omega), Hxl.out] at q0 q1 q2 q3
              simp only [Nat.sub_self, Nat.add_sub_cancel_left, List.getElem?_cons_zero, List.getElem?_cons_succ] at q0 q1 q2 q3
              have z0 := hown3.frozenAt (k * 4)
              have z1 := hown3.frozenAt (k * 4 + 1)
              have z2 := hown3.frozenAt (k * 4 + 2)
              have z3 := hown3.frozenAt (k * 4 + 3)
              have Hst : Hid _ := hstep
              clear hown3 hgrow3 hg3 hstep
              refine hK _ _ ?_
              clear hK K
              refine wpAnyIn_ready (rs := [5, 7]) (by kernel_rfl) (by simp) ?_
              refine AllReadyIn.cons rfl (fun K hK => ?_) ?_
              · go_simp
                refine hK _ _ ?_
                clear hK K
                refine wpAnyIn_ready (rs := [6, 7]) (by kernel_rfl) (by simp) ?_
                refine AllReadyIn.cons rfl (fun K hK => ?_) ?_
                · go_simp
                  refine hK _ _ ?_
                  clear hK K
                  refine wpAnyIn_ready (rs := [7]) (by kernel_rfl) (by simp) ?_
                  refine AllReadyIn.cons rfl (fun K hK => ?_) ?_
                  · go_simp
                    refine hK _ _ ?_
                    clear hK K
                    refine wpAnyIn_done (by kernel_rfl) ?_ _
                    obtain ⟨k1, k2, k3⟩ := Hst.out _ (.inl rfl)
                    exact ⟨k1.from _, k2, k3⟩
                  exact AllReadyIn.nil
                refine AllReadyIn.cons rfl (fun K hK => ?_) ?_
                · go_simp
                  refine hK _ _ ?_
                  clear hK K
                  refine wpAnyIn_ready (rs := [6]) (by kernel_rfl) (by simp) ?_
                  refine AllReadyIn.cons rfl (fun K hK => ?_) ?_
                  · go_simp
                    refine hK _ _ ?_
                    clear hK K
                    refine wpAnyIn_done (by kernel_rfl) ?_ _
                    obtain ⟨k1, k2, k3⟩ := Hst.out _ (.inr rfl)
                    exact ⟨k1.from _, k2, k3⟩
                  exact AllReadyIn.nil
                exact AllReadyIn.nil
              refine AllReadyIn.cons rfl (fun K hK => ?_) ?_
              · go_simp
                refine hK _ _ ?_
                clear hK K
                refine wpAnyIn_ready (rs := [5]) (by kernel_rfl) (by simp) ?_
                refine AllReadyIn.cons rfl (fun K hK => ?_) ?_
                · go_simp
                  refine hK _ _ ?_
                  clear hK K
                  refine wpAnyIn_ready (rs := [6]) (by kernel_rfl) (by simp) ?_
                  refine AllReadyIn.cons rfl (fun K hK => ?_) ?_
                  · go_simp
                    refine hK _ _ ?_
                    clear hK K
                    refine wpAnyIn_done (by kernel_rfl) ?_ _
                    obtain ⟨k1, k2, k3⟩ := Hst.out _ (.inr rfl)
                    exact ⟨k1.from _, k2, k3⟩
                  exact AllReadyIn.nil
                exact AllReadyIn.nil
              exact AllReadyIn.nil
            exact AllReadyIn.nil
          exact AllReadyIn.nil
        exact AllReadyIn.nil
      exact AllReadyIn.nil
    exact AllReadyIn.nil
  case done =>
    rintro D ys W hD rfl ⟨⟨v, bx, hrow⟩, hB⟩ hK
    have hc := bx.cell
    have HM : Hid (Marks w0.heap.size W [D]) := (Marks.nil _ _).cons (by simp at hD; omega) hK (by simp)
    have HT : Hid (W.ownsRow w0.heap.size 33 4 v ys.length (ys.flatMap fun q => encP q.1) ∧ Below w0.heap.size w W) := ⟨hrow, hB⟩
    have Hrw : Hid _ := hrow
    obtain ⟨av, nv, cv, rfl⟩ : ∃ a n c, v = .slice a n c := by
      rcases hrow.2 with ⟨rfl, _⟩ | ⟨g, cap, _, rfl, _⟩ <;> exact ⟨_, _, _, rfl⟩
    clear hrow hB bx hK
    gi_wp2
    refine leaves_marks w0.heap.size (fun W => W.ownsRow w0.heap.size 33 4 (.slice av nv cv) ys.length (ys.flatMap fun q => encP q.1) ∧ Below w0.heap.size w W) (fun W D hD hK hT => ⟨?_, hT.2.trans (belowK_b (w := w0) (Nat.le_refl _) W D _ _ hD hK rfl rfl)⟩) (fun W hT => ⟨_, results_tmp rfl _ _ _, ⟨_, rfl, hT.1, hT.2⟩⟩) [D] W HM.out HT.out
    exact ownsRow_putObj hT.1 _ hK rfl
  case stop =>
    rintro D c pre W _ _ h _
    exact h.elim

end Go.Proofs.Ytekoaiehhjgfiaa

