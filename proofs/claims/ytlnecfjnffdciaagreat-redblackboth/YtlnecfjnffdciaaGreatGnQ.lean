import Derived.Test.YtlnecfjnffdciaaGreatRangeX
import Derived.Test.YtlnecfjnffdciaaGreatRowP
import Derived.Test.YtlnecfjnffdciaaGreatMapP
import Derived.Test.YtlnecfjnffdciaaGreatLiesX
import Derived.Test.YtlnecfjnffdciaaGreatRotate
namespace Go.Proofs.YtlnecfjnffdciaaGreat
open Go.RowKit Go.Shelf

structure CQ where
 k : VT
 v : VT
 a1 : Option Addr
 c1 : Nat
 a2 : Option Addr
 c2 : Nat

def CQ.t (x : CQ) : VT × VT := (x.k, x.v)
def CQ.q (x : CQ) : PP := ((x.k, .slice x.a1 x.k.items.length x.c1), (x.v, .slice x.a2 x.v.items.length x.c2))
def encCQ (x : CQ) : Array Value := #[.agg #[.int .i64 x.k.kind, .int .i64 x.k.num, .string x.k.text, .slice x.a1 x.k.items.length x.c1], .agg #[.int .i64 x.v.kind, .int .i64 x.v.num, .string x.v.text, .slice x.a2 x.v.items.length x.c2]]

def NewC (B : Nat) (W : World) (x : CQ) : Prop := (LiesB B 16 W x.k.items (.slice x.a1 x.k.items.length x.c1) ∧ x.k.text.size ≤ 9223372036854775807) ∧ (LiesB B 16 W x.v.items (.slice x.a2 x.v.items.length x.c2) ∧ x.v.text.size ≤ 9223372036854775807)

def PreCQ (l : List (VT × VT)) (pre : List CQ) (x : CQ) (V W : World) : Prop := NewC V.heap.size W x ∧ (pre.map CQ.t ++ [x.t]) <+: l

end Go.Proofs.YtlnecfjnffdciaaGreat

namespace Go.Proofs.YtlnecfjnffdciaaGreat
open Go.RowKit Go.Shelf

def GonePost (l : List (VT × VT)) (w : World) (e : Ending) (w' : World) : Prop := Below w.heap.size w w' ∧ ∃ qs v, e = .returned v ∧ qs.map trT = l ∧ SlQ w.heap.size 16 w' qs v

def LsX (X : Nat → Prop) (W : World) (t : VT) (a : Option Addr) (c : Nat) : Prop := LiesX X 16 W t.items (.slice a t.items.length c) ∧ t.text.size ≤ 9223372036854775807

abbrev OffG (b : Nat) (v : Value) (W : World) (k : Nat) : Prop := k ≠ b + 1 ∧ v.ownBlock ≠ some k ∧ k < W.heap.size

def GnR (b : Nat) (pre : List CQ) (v : Value) (W : World) : Prop :=
 Go.Boxed W (b + 1) 22 v ∧ W.ownsRow b 69 8 v pre.length (pre.flatMap (fun x => encQ x.q)) ∧ ∀ x ∈ pre, LsX (OffG b v W) W x.k x.a1 x.c1 ∧ LsX (OffG b v W) W x.v x.a2 x.c2

def GnI (w : World) (M : Nat) (pre : List CQ) (W : World) : Prop := (∃ v, GnR w.heap.size pre v W) ∧ Go.Boxed W w.heap.size 3 (.int .i64 (M : Int)) ∧ Below w.heap.size w W

theorem cell_grownY {A V : World} {row : Option Nat} (hg : A.grownBy V row) (hr : ∀ r, row = some r → ∃ o : Obj, A.heap[r]? = some o ∧ o.isCells = false) {a : Addr} {u : Value} (hu : A.cell? a = some u) : V.cell? a = some u := by
 by_cases e : row = some a.block
 ·obtain ⟨o, ho, hoc⟩ := hr _ e
  obtain ⟨o2, ho2, hc2⟩ := cells_of_cell hu
  rw [ho] at ho2
  cases ho2
  rw [hoc] at hc2
  cases hc2
 ·exact (World.cell?_of_block (hg.block a.block (cell_lt hu) (fun e2 => e e2.symm))).trans hu

theorem LsX.grown {b : Nat} {v : Value} {A V : World} {row : Option Nat} (hg : A.grownBy V row) (hr : ∀ r, row = some r → ∃ o : Obj, A.heap[r]? = some o ∧ o.isCells = false) {t : VT} {a : Option Addr} {c : Nat} (h : LsX (OffG b v A) A t a c) : LsX (OffG b v V) V t a c :=
 ⟨h.1.stays (fun _ hk => ⟨hk.1, hk.2.1, Nat.lt_of_lt_of_le hk.2.2 hg.size⟩) (fun _ _ _ hu => cell_grownY hg hr hu), h.2⟩

theorem GnR.own (b M : Nat) (hB : b + 1 < M) (pre : List CQ) (v : Value) : OwnFrom M (fun (_ : Unit) W => GnR b pre v W) := by
 intro s A V row hs hg hr
 obtain ⟨bx, hrow, hl⟩ := hs
 have hr2 : ∀ r, row = some r → ∃ o : Obj, A.heap[r]? = some o ∧ o.isCells = false := fun r e => (hr r e).2
 refine ⟨bx.kept hg (fun e => by have := (hr _ e.symm).1; omega), hrow.kept hg ?_, fun x hx => ⟨(hl x hx).1.grown hg hr2, (hl x hx).2.grown hg hr2⟩⟩
 cases hvo : v.ownBlock with
 | none => exact .inl rfl
 | some k =>
  refine .inr (fun e => ?_)
  obtain ⟨_, o, ho, hoc⟩ := hr k e.symm
  rcases hrow.2 with ⟨e1, _⟩ | ⟨g, cap, cur, e1, _, e2, _, _, e4, _⟩
  ·rw [e1] at hvo; cases hvo
  ·rw [e1] at hvo
   have hgk : g = k := by simpa [Value.ownBlock] using hvo
   subst hgk
   rw [e2] at ho
   cases ho
   simp [Obj.isCells] at hoc

theorem GnI.own (w : World) (M B : Nat) (hB : w.heap.size + 1 < B) : OwnFrom B (GnI w M) := by
 intro s A V row hs hg hr
 obtain ⟨⟨v, hR⟩, b1, hb⟩ := hs
 refine ⟨⟨v, GnR.own w.heap.size B hB s v () A V row hR hg hr⟩, b1.kept hg (fun e => ?_), hb.grown hg hb.size (fun k e => ?_)⟩
 ·have := (hr _ e.symm).1; omega
 ·have := (hr _ e).1; omega

def BoxV (W : World) (B : Nat) (t : VT) (u : Value) : Prop := W.heap[B]? = some (.cells #[.int .i64 t.kind, .int .i64 t.num, .string t.text, u] 34 (0, 0))

theorem BoxV.lt {W : World} {B : Nat} {t : VT} {u : Value} (h : BoxV W B t u) : B < W.heap.size := (Array.getElem?_eq_some_iff.1 h).1
theorem BoxV.cells {W : World} {B : Nat} {t : VT} {u : Value} (h : BoxV W B t u) : W.cell? ⟨B, 0, none⟩ = some (.int .i64 t.kind) ∧ W.cell? ⟨B, 1, none⟩ = some (.int .i64 t.num) ∧ W.cell? ⟨B, 2, none⟩ = some (.string t.text) ∧ W.cell? ⟨B, 3, none⟩ = some u := by
 have h' : W.heap[B]? = some (.cells #[.int .i64 t.kind, .int .i64 t.num, .string t.text, u] 34 (0, 0)) := h
 unfold World.cell?
 simp [h']
theorem BoxV.kept {A V : World} {row : Option Nat} {B : Nat} {t : VT} {u : Value} (h : BoxV A B t u) (hg : A.grownBy V row) (hr : some B ≠ row) : BoxV V B t u := (hg.block _ h.lt hr).trans h

def GnA (b : Nat) (l : List (VT × VT)) (f : CQ → Nat → Nat → Act) (pre : List CQ) (x : CQ) (a : Act) (W : World) : Prop :=
 ∃ Bk Bv v, BoxV W Bk x.k (.slice x.a1 x.k.items.length x.c1) ∧ BoxV W Bv x.v (.slice x.a2 x.v.items.length x.c2) ∧ b + 1 < Bk ∧ b + 1 < Bv ∧ Go.Boxed W (b + 1) 22 v ∧ v.ownBlock ≠ some Bk ∧ v.ownBlock ≠ some Bv ∧ LsX (OffG b v W) W x.k x.a1 x.c1 ∧ LsX (OffG b v W) W x.v x.a2 x.c2 ∧ (pre.map CQ.t ++ [x.t]) <+: l ∧ a = f x Bk Bv

theorem boxV_grownY {A V : World} {row : Option Nat} (hg : A.grownBy V row) (hr : ∀ r, row = some r → ∃ o : Obj, A.heap[r]? = some o ∧ o.isCells = false) {B : Nat} {t : VT} {u : Value} (h : BoxV A B t u) : BoxV V B t u := by
 have h' : A.heap[B]? = some (.cells #[.int .i64 t.kind, .int .i64 t.num, .string t.text, u] 34 (0, 0)) := h
 refine h.kept hg (fun e => ?_)
 obtain ⟨o, ho, hoc⟩ := hr _ e.symm
 rw [h'] at ho
 cases ho
 simp [Obj.isCells] at hoc

theorem GnA.own (b : Nat) (l : List (VT × VT)) (M : Nat) (hM : b + 1 < M) (f : CQ → Nat → Nat → Act) (pre : List CQ) (x : CQ) (a : Act) : OwnFrom M (fun (_ : Unit) W => GnA b l f pre x a W) := by
 intro s A V row hs hg hr
 obtain ⟨Bk, Bv, v, bk, bv, h1, h2, bx, h3, h4, hL, hL2, hp, rfl⟩ := hs
 have hr2 : ∀ r, row = some r → ∃ o : Obj, A.heap[r]? = some o ∧ o.isCells = false := fun r e => (hr r e).2
 exact ⟨Bk, Bv, v, boxV_grownY hg hr2 bk, boxV_grownY hg hr2 bv, h1, h2, bx.kept hg (fun e => by have := (hr _ e.symm).1; omega), h3, h4, hL.grown hg hr2, hL2.grown hg hr2, hp, rfl⟩

end Go.Proofs.YtlnecfjnffdciaaGreat

namespace Go.Proofs.YtlnecfjnffdciaaGreat
open Go.RowKit Go.Shelf

attribute [local go_sem] Oper.semAt_some

theorem appInQ {F : Fence} {n : Nat} {w : World} {ops : Array Oper} {rest : List Oper} {o : Oper} {a : Act} {Q : Exit → Act → World → Prop} (hgd : o.guard = none) (s x : Operand)
 (ho : o.op = .call { callee := .builtin .append, args := #[s, x], argTypes := #[22, 22] })
 (base : Nat) (v : Value) (k : Nat) (xs : List Value) (hs : a.eval s = v) (hown : w.ownsRow base 69 8 v k xs) (B : Nat) (y : PP) (hx : a.eval x = .slice (some ⟨B, 0, none⟩) 1 1) (hy : Eight w B 0 y) (h1 : ∀ u ∈ encQ y, u.oneCell' = true)
 (hk : k ≤ 65536) (hbase : base ≤ w.heap.size)
 (h : ∀ g cap w', w'.ownsRow base 69 8 (.slice (some ⟨g, 0, none⟩) (k + 1) cap) (k + 1) (xs ++ encQ y) → w.grownBy w' v.ownBlock → (v.ownBlock = some g ∨ g = w.heap.size) → g < w'.heap.size → wpListIn F n Tryz.prog ops Q rest (a.put o.dst (.slice (some ⟨g, 0, none⟩) (k + 1) cap)) w') : wpListIn F n Tryz.prog ops Q (o :: rest) a w := by
 obtain ⟨i0, hi, hz0, hz1, hz2⟩ := infoQ
 refine wpListIn_plain hgd fun K hK => ?_
 obtain ⟨y0, y1, y2, y3, y4, y5, y6, y7⟩ := hy
 obtain ⟨g, cap, w', hr, r1, r2, r3, r4⟩ := run_append_lies (P := Tryz.prog) w 22 o.type base 69 i0 _ 8 112 Tryz.underlying22 hi hz0 hz1 hz2 rfl (by decide) v k xs hown ⟨B, 0, none⟩ 1 1 (encQ y) rfl (fun j u hj => by
  have e : encQ y = [.int .i64 y.1.1.kind, .int .i64 y.1.1.num, .string y.1.1.text, y.1.2, .int .i64 y.2.1.kind, .int .i64 y.2.1.num, .string y.2.1.text, y.2.2] := rfl
  rw [e] at hj
  match j, hj with
  | 0, hj => simp at hj; subst hj; simpa [Addr.add] using y0
  | 1, hj => simp at hj; subst hj; simpa [Addr.add] using y1
  | 2, hj => simp at hj; subst hj; simpa [Addr.add] using y2
  | 3, hj => simp at hj; subst hj; simpa [Addr.add] using y3
  | 4, hj => simp at hj; subst hj; simpa [Addr.add] using y4
  | 5, hj => simp at hj; subst hj; simpa [Addr.add] using y5
  | 6, hj => simp at hj; subst hj; simpa [Addr.add] using y6
  | 7, hj => simp at hj; subst hj; simpa [Addr.add] using y7) h1 (by decide) (by unfold maxLen; omega) (by omega) hbase _ rfl
 unfold Oper.wpIn
 refine ⟨?_, ?_⟩
 ·simp [Oper.about, ho, resolve, Target.leads, Sem.run_pure]
 ·rw [Oper.semAt_plain F _ _ (by rw [ho]; intro c hc'; cases hc')]
  simp [execOp, ho, resolve, invoke, builtin, hs, hx, hr, Result.andThen]
  exact hK _ _ (h g cap w' r1 r2 r3 r4)

theorem boxed_not_rowQ {W : World} {B T base n : Nat} {u v : Value} {xs : List Value} (hb : Go.Boxed W B T u) (hr : W.ownsRow base 69 8 v n xs) : some B ≠ v.ownBlock := fun e => by
 have hb' : W.heap[B]? = some (.cells #[u] T (0, 0)) := hb
 rcases hr.2 with ⟨e1, _⟩ | ⟨g9, cap9, cur, e1, _, e2, _, _, e4, _⟩
 ·rw [e1] at e; cases e
 ·rw [e1] at e
  have hgB : B = g9 := by simpa [Value.ownBlock] using e
  subst hgB
  rw [e2] at hb'
  injection hb' with hb'
  injection hb' with hcu _
  rw [hcu] at e4
  simp at e4
  omega

theorem gn_step {w : World} {M k n1 : Nat} {pre : List CQ} {x : CQ} {av : Option Addr} {cv : Nat} {W : World} (hk : k = pre.length) (hR : GnR w.heap.size pre (.slice av k cv) W) (hb1 : Go.Boxed W w.heap.size 3 (.int .i64 (M : Int))) (hB : Below w.heap.size w W)
 (hx1 : LsX (OffG w.heap.size (.slice av k cv) W) W x.k x.a1 x.c1) (hx2 : LsX (OffG w.heap.size (.slice av k cv) W) W x.v x.a2 x.c2) (o : Obj) (g cap : Nat) (w3 : World) (hown : w3.ownsRow w.heap.size 69 8 (.slice (some ⟨g, 0, none⟩) (k + 1) cap) (k + 1) (pre.flatMap (fun x => encQ x.q) ++ encQ x.q))
 (hgrow : (W.alloc o).grownBy w3 (Value.slice av k cv).ownBlock) (hg : (Value.slice av k cv).ownBlock = some g ∨ g = (W.alloc o).heap.size) :
 Go.Boxed w3 (w.heap.size + 1) 22 (.slice av k cv) ∧ w3.cell? ⟨w.heap.size, 0, none⟩ = some (.int .i64 (M : Int)) ∧ KeepsOthers W (w3.setCell ⟨w.heap.size + 1, 0, none⟩ (.slice (some ⟨g, 0, none⟩) (k + 1) cap)) ∧ KpY 22 w.heap.size n1 W (w3.setCell ⟨w.heap.size + 1, 0, none⟩ (.slice (some ⟨g, 0, none⟩) (k + 1) cap)) ∧ GnI w M (pre ++ [x]) (w3.setCell ⟨w.heap.size + 1, 0, none⟩ (.slice (some ⟨g, 0, none⟩) (k + 1) cap)) := by
 obtain ⟨bx, hrow, hl⟩ := hR
 have hvo : ∀ j, (Value.slice av k cv).ownBlock = some j → w.heap.size ≤ j ∧ j < W.heap.size := fun j hj => hrow.lt j hj
 have hbs := hB.size
 have hs1 : (W.alloc o).heap.size = W.heap.size + 1 := by simp
 have hbox : ∀ (B T : Nat) (u : Value), Go.Boxed W B T u → some B ≠ (Value.slice av k cv).ownBlock := fun B T u hbu => boxed_not_rowQ hbu hrow
 have hnb : ∀ (B T : Nat) (u : Value), Go.Boxed W B T u → g ≠ B := fun B T u hbu => by
  rcases hg with hg | hg
  ·exact fun e => hbox B T u hbu (by rw [hg, e])
  ·have := hbu.lt; omega
 have hk3B : ∀ (B T : Nat) (u : Value), Go.Boxed W B T u → Go.Boxed w3 B T u := fun B T u hbu => (show Go.Boxed (W.alloc o) B T u from hbu.alloc _).kept hgrow (hbox B T u hbu)
 have hw3 : Below w.heap.size W w3 := ((Below.refl _ W).alloc (by omega) _).grown hgrow (by omega) (fun j e => (hvo j e).1)
 have hk3 : KeepsOthers W w3 := by
  refine (KeepsOthers.alloc W _).trans (KeepsOthers.of_grownBy hgrow (fun j o2 e ho => ?_))
  rcases (hrow.alloc o).2 with ⟨e1, _⟩ | ⟨g9, cap9, cur, e1, _, e2, _⟩
  ·rw [e1] at e; cases e
  ·rw [e1] at e
   have : g9 = j := by simpa [Value.ownBlock] using e
   subst this
   rw [e2] at ho
   cases ho
   rfl
 have hkZ : KeepsOthers W (w3.setCell ⟨w.heap.size + 1, 0, none⟩ (.slice (some ⟨g, 0, none⟩) (k + 1) cap)) := hk3.trans (KeepsOthers.setCell _ _ _)
 have hbZ : Below w.heap.size W (w3.setCell ⟨w.heap.size + 1, 0, none⟩ (.slice (some ⟨g, 0, none⟩) (k + 1) cap)) := hw3.setCell (p := ⟨w.heap.size + 1, 0, none⟩) (by show w.heap.size ≤ w.heap.size + 1; omega) _
 have hboxZ : ∀ (B T : Nat) (u : Value), B ≠ w.heap.size + 1 → Go.Boxed W B T u → Go.Boxed (w3.setCell ⟨w.heap.size + 1, 0, none⟩ (.slice (some ⟨g, 0, none⟩) (k + 1) cap)) B T u := fun B T u hB8 hbu => (hk3B B T u hbu).kept (grownBy_setCell' _ _ _) (by simp; omega)
 have hgn : g ≠ w.heap.size + 1 := hnb _ _ _ bx
 have hls : ∀ (t : VT) (a : Option Addr) (c : Nat), LsX (OffG w.heap.size (.slice av k cv) W) W t a c → LsX (OffG w.heap.size (.slice (some ⟨g, 0, none⟩) (k + 1) cap) (w3.setCell ⟨w.heap.size + 1, 0, none⟩ (.slice (some ⟨g, 0, none⟩) (k + 1) cap))) (w3.setCell ⟨w.heap.size + 1, 0, none⟩ (.slice (some ⟨g, 0, none⟩) (k + 1) cap)) t a c := fun t a c h =>
  ⟨h.1.stays (fun k2 hk2 => ⟨hk2.1, (fun e => by
   have e2 : g = k2 := by simpa [Value.ownBlock] using e
   subst e2
   rcases hg with hg | hg
   ·exact hk2.2.1 hg
   ·have := hk2.2.2; omega), Nat.lt_of_lt_of_le hk2.2.2 hkZ.size⟩) (fun a2 u hX hu => by
   have h1 : (W.alloc o).cell? a2 = some u := cell_keeps ((Grew.refl W).alloc o).below hu
   have h3 : w3.cell? a2 = some u := (World.cell?_of_block (hgrow.block a2.block (cell_lt h1) (fun e => hX.2.1 e.symm))).trans h1
   exact (grownBy_setCell' w3 (w.heap.size + 1) _).cell h3 (fun e => hX.1 (by injection e))), h.2⟩
 refine ⟨hk3B _ _ _ bx, (hk3B _ _ _ hb1).cell, hkZ, ⟨hbZ, fun B T u hT hbu => hboxZ B T u (fun e => ?_) hbu, hkZ.from _⟩, ⟨_, (hk3B _ _ _ bx).set _, ?_, fun y hy => ?_⟩, hboxZ _ _ _ (by omega) hb1, hB.trans hbZ⟩
 ·subst e
  have h1 : W.heap[w.heap.size + 1]? = some (.cells #[u] T (0, 0)) := hbu
  have h2 : W.heap[w.heap.size + 1]? = some (.cells #[.slice av k cv] 22 (0, 0)) := bx
  rw [h1] at h2
  injection h2 with h2
  injection h2 with _ h2
  exact hT h2
 ·have h9 := ownsRow_setCell_other (a := ⟨w.heap.size + 1, 0, none⟩) hown (by simp [Value.ownBlock]; omega) (.slice (some ⟨g, 0, none⟩) (k + 1) cap)
  rw [List.length_append, List.flatMap_append, ← hk]
  simpa using h9
 ·rcases List.mem_append.1 hy with hy | hy
  ·exact ⟨hls _ _ _ (hl y hy).1, hls _ _ _ (hl y hy).2⟩
  ·rw [List.mem_singleton.1 hy]
   exact ⟨hls _ _ _ hx1, hls _ _ _ hx2⟩

theorem GnR.slq {b : Nat} {pre : List CQ} {v : Value} {W : World} (h : GnR b pre v W) (hl : pre.length ≤ 65536) : SlQ b 16 W (pre.map CQ.q) v := by
 have h9 := SlQ.of_own (base := b) (d := 16) (w := W) (v := v) (n := pre.length) (qs := pre.map CQ.q) (by rw [List.length_map]) (by rw [List.flatMap_map]; exact h.2.1) (fun p hp => by
  obtain ⟨x, hx, rfl⟩ := List.mem_map.1 hp
  obtain ⟨h1, h2⟩ := h.2.2 x hx
  exact ⟨⟨h1.1.lies, h1.2⟩, ⟨h2.1.lies, h2.2⟩⟩) (by rw [List.length_map]; omega)
 exact h9

theorem map_q_t (pre : List CQ) : (pre.map CQ.q).map trT = pre.map CQ.t := by rw [List.map_map]; rfl

theorem goodC {W : World} {b : Nat} {v : Value} {x : CQ} (h1 : LsX (OffG b v W) W x.k x.a1 x.c1) (h2 : LsX (OffG b v W) W x.v x.a2 x.c2) : GoodQ 16 W x.q := ⟨⟨h1.1.lies, h1.2⟩, ⟨h2.1.lies, h2.2⟩⟩

theorem slq_putObj {base d : Nat} {w : World} {qs : List PP} {v : Value} (h : SlQ base d w qs v) {D : Nat} {o o' : Obj} (hD : w.heap[D]? = some o) (ho : o.isCells = false) : SlQ base d (w.putObj D o') qs v := by
 obtain ⟨a, c, hv, h1, h2, h3, h4⟩ := h
 refine ⟨a, c, hv, h1, h2, fun hne => ?_, fun p hp => ?_⟩
 ·obtain ⟨b, o2, e1, e2, e3⟩ := h3 hne
  exact ⟨b, o2, e1, e2, fun j u hj => cell_turnsX hD ho _ _ _ (e3 j u hj)⟩
 ·obtain ⟨⟨k1, k2⟩, ⟨k3, k4⟩⟩ := h4 p hp
  exact ⟨⟨((LiesX.of_lies k1).stays (Y := fun _ => True) (fun _ _ => trivial) (fun a u _ hu => cell_turnsX hD ho _ a u hu)).lies, k2⟩, ⟨((LiesX.of_lies k3).stays (Y := fun _ => True) (fun _ _ => trivial) (fun a u _ hu => cell_turnsX hD ho _ a u hu)).lies, k4⟩⟩

end Go.Proofs.YtlnecfjnffdciaaGreat

