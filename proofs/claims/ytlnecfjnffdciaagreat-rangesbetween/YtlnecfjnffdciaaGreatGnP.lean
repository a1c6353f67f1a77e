import Derived.Test.YtlnecfjnffdciaaGreatRangeT
import Derived.Test.YtlnecfjnffdciaaGreatRowP
import Derived.Test.YtlnecfjnffdciaaGreatMapP
import Derived.Test.YtlnecfjnffdciaaGreatLiesX
import Derived.Test.YtlnecfjnffdciaaGreatRotate
namespace Go.Proofs.YtlnecfjnffdciaaGreat
open Go.RowKit Go.Shelf

structure CQ where
 k : VT
 v : VT
 a1 : Option Addr
 c1 : Nat
 a2 : Option Addr
 c2 : Nat

def CQ.t (x : CQ) : VT × VT := (x.k, x.v)
def encCQ (x : CQ) : Array Value := #[.agg #[.int .i64 x.k.kind, .int .i64 x.k.num, .string x.k.text, .slice x.a1 x.k.items.length x.c1], .agg #[.int .i64 x.v.kind, .int .i64 x.v.num, .string x.v.text, .slice x.a2 x.v.items.length x.c2]]

def NewC (B : Nat) (W : World) (x : CQ) : Prop := (LiesB B 16 W x.k.items (.slice x.a1 x.k.items.length x.c1) ∧ x.k.text.size ≤ 9223372036854775807) ∧ (LiesB B 16 W x.v.items (.slice x.a2 x.v.items.length x.c2) ∧ x.v.text.size ≤ 9223372036854775807)

def PreCQ (l : List (VT × VT)) (pre : List CQ) (x : CQ) (V W : World) : Prop := NewC V.heap.size W x ∧ (pre.map CQ.t ++ [x.t]) <+: l

end Go.Proofs.YtlnecfjnffdciaaGreat

namespace Go.Proofs.YtlnecfjnffdciaaGreat
open Go.RowKit Go.Shelf

theorem LiesX.notBoxY {X : Nat → Prop} {w : World} : ∀ {d : Nat} {l : List VT} {v : Value}, LiesX X d w l v → LiesX (fun k => X k ∧ ∀ T u, w.heap[k]? ≠ some (.cells #[u] T (0, 0))) d w l v := by
 intro d
 induction d with
 | zero => intro l v h; exact h
 | succ d ih =>
  intro l v h
  obtain ⟨a, c, hv, hb, hr⟩ := h
  refine ⟨a, c, hv, hb, fun hne => ?_⟩
  obtain ⟨b, o, ha, hx, hall⟩ := hr hne
  refine ⟨b, o, ha, ⟨hx, fun T u e => ?_⟩, fun i hi => ?_⟩
  ·obtain ⟨_, _, c1, _⟩ := hall 0 (List.length_pos_iff.2 hne)
   unfold World.cell? at c1
   simp [e] at c1
  ·obtain ⟨u, c0, c1, c2, c3, hL, hs⟩ := hall i hi
   exact ⟨u, c0, c1, c2, c3, ih hL, hs⟩

theorem cell_grownY {A V : World} {row : Option Nat} (hg : A.grownBy V row) (hr : ∀ r, row = some r → ∃ o : Obj, A.heap[r]? = some o ∧ o.isCells = false) {a : Addr} {u : Value} (hu : A.cell? a = some u) : V.cell? a = some u := by
 by_cases e : row = some a.block
 ·obtain ⟨o, ho, hoc⟩ := hr _ e
  obtain ⟨o2, ho2, hc2⟩ := cells_of_cell hu
  rw [ho] at ho2
  cases ho2
  rw [hoc] at hc2
  cases hc2
 ·exact (World.cell?_of_block (hg.block a.block (cell_lt hu) (fun e2 => e e2.symm))).trans hu

def BoxV (W : World) (B : Nat) (t : VT) (u : Value) : Prop := W.heap[B]? = some (.cells #[.int .i64 t.kind, .int .i64 t.num, .string t.text, u] 34 (0, 0))

theorem BoxV.lt {W : World} {B : Nat} {t : VT} {u : Value} (h : BoxV W B t u) : B < W.heap.size := (Array.getElem?_eq_some_iff.1 h).1
theorem BoxV.cells {W : World} {B : Nat} {t : VT} {u : Value} (h : BoxV W B t u) : W.cell? ⟨B, 0, none⟩ = some (.int .i64 t.kind) ∧ W.cell? ⟨B, 1, none⟩ = some (.int .i64 t.num) ∧ W.cell? ⟨B, 2, none⟩ = some (.string t.text) ∧ W.cell? ⟨B, 3, none⟩ = some u := by
 have h' : W.heap[B]? = some (.cells #[.int .i64 t.kind, .int .i64 t.num, .string t.text, u] 34 (0, 0)) := h
 unfold World.cell?
 simp [h']
theorem BoxV.kept {A V : World} {row : Option Nat} {B : Nat} {t : VT} {u : Value} (h : BoxV A B t u) (hg : A.grownBy V row) (hr : some B ≠ row) : BoxV V B t u := (hg.block _ h.lt hr).trans h

theorem boxV_grownY {A V : World} {row : Option Nat} (hg : A.grownBy V row) (hr : ∀ r, row = some r → ∃ o : Obj, A.heap[r]? = some o ∧ o.isCells = false) {B : Nat} {t : VT} {u : Value} (h : BoxV A B t u) : BoxV V B t u := by
 have h' : A.heap[B]? = some (.cells #[.int .i64 t.kind, .int .i64 t.num, .string t.text, u] 34 (0, 0)) := h
 refine h.kept hg (fun e => ?_)
 obtain ⟨o, ho, hoc⟩ := hr _ e.symm
 rw [h'] at ho
 cases ho
 simp [Obj.isCells] at hoc

end Go.Proofs.YtlnecfjnffdciaaGreat

