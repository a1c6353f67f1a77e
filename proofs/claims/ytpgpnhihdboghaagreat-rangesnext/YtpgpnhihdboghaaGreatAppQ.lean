/-
  A tree's pairs as a row: all, slices.AppendSeq.
-/
import Derived.Test.YtpgpnhihdboghaaGreatGrownM
import Derived.Deep.AppendLies
import Derived.Laws.OwnMore
import Derived.RangeFuncNested
import Derived.RangeFuncBound
import Derived.RangeFuncCalls
import Derived.RangeFuncLeaves
import Derived.Shelf.Abstract
import Derived.Shelf.RegionOpen
import Derived.WalkKit
import Derived.OwnWalkIn
import Derived.TacticsInMore
import Derived.LoopNIn
import Derived.LoopIn
namespace Go.Proofs.YtpgpnhihdboghaaGreat
open Go.RowKit Go.Shelf

attribute [local go_sem] Oper.semAt_some

/-- A pair that is sound in a world. -/
abbrev PQ (d : Nat) (w0 : World) : Type := { q : PP // GoodQ d w0 q }

end Go.Proofs.YtpgpnhihdboghaaGreat

namespace Go.Proofs.YtpgpnhihdboghaaGreat
open Go.RowKit Go.Shelf

attribute [local go_sem] Oper.semAt_some

/-- What stands between two rounds: the box holds a row of what has come. -/
def SIQ {d : Nat} {w0 : World} (B : Nat) (w : World) (pre : List (PQ d w0)) (W : World) : Prop :=
  (∃ v, Go.Boxed W B 22 v ∧ W.ownsRow w0.heap.size 33 8 v pre.length (pre.flatMap fun q => encQ q.1)) ∧ Below w0.heap.size w W

theorem SIQ.own {d : Nat} {w0 : World} (B M : Nat) (w : World) (hB : B < M) (hw : w0.heap.size ≤ M) (hww : w0.heap.size ≤ w.heap.size) : OwnFrom M (SIQ (d := d) (w0 := w0) B w) := by
  intro s A V row hs hg hr
  obtain ⟨⟨v, bx, hrow⟩, hb⟩ := hs
  refine ⟨⟨v, bx.kept hg (fun e => ?_), hrow.kept hg ?_⟩, hb.grown hg (by have := hb.size; omega) (fun k e => ?_)⟩
  · have := (hr _ e.symm).1
    omega
  · cases hvo : v.ownBlock with
    | none => exact .inl rfl
    | some b =>
      refine .inr (fun e => ?_)
      obtain ⟨_, o, ho, hoc⟩ := hr b e.symm
      rcases hrow.2 with ⟨e1, _⟩ | ⟨g, cap, cur, e1, _, e2, _⟩
      · rw [e1] at hvo; cases hvo
      · rw [e1] at hvo
        have : g = b := by simpa [Value.ownBlock] using hvo
        subst this
        rw [e2] at ho
        cases ho
        simp [Obj.isCells] at hoc
  · have := (hr _ e).1
    omega

/-- A pair's cells in a block of their own. -/
def Box8 (W : World) (B : Nat) (p : PP) : Prop := W.heap[B]? = some (.cells #[.int .i64 p.1.1.kind, .int .i64 p.1.1.num, .string p.1.1.text, p.1.2, .int .i64 p.2.1.kind, .int .i64 p.2.1.num, .string p.2.1.text, p.2.2] 33 (0, 0))

theorem Box8.lt {W : World} {B : Nat} {p : PP} (h : Box8 W B p) : B < W.heap.size := (Array.getElem?_eq_some_iff.1 h).1
/-- The pair that a round is at, in a block of its own. -/
def SAQ {d : Nat} {w0 : World} (B : Nat) (f : Nat → Act) (x : PQ d w0) (a : Act) (W : World) : Prop :=
  ∃ Bx, B < Bx ∧ Box8 W Bx x.1 ∧ a = f Bx

theorem SAQ.own {d : Nat} {w0 : World} (B M : Nat) (f : Nat → Act) (x : PQ d w0) (a : Act) : OwnFrom M (fun (_ : Unit) W => SAQ B f x a W) := by
  intro s A V row hs hg hr
  obtain ⟨Bx, hlt, b8, rfl⟩ := hs
  have hb8 : A.heap[Bx]? = some (.cells #[.int .i64 x.1.1.1.kind, .int .i64 x.1.1.1.num, .string x.1.1.1.text, x.1.1.2, .int .i64 x.1.2.1.kind, .int .i64 x.1.2.1.num, .string x.1.2.1.text, x.1.2.2] 33 (0, 0)) := b8
  refine ⟨Bx, hlt, (hg.block Bx b8.lt (fun e => ?_)).trans b8, rfl⟩
  obtain ⟨_, o, ho, hoc⟩ := hr _ e.symm
  rw [hb8] at ho
  cases ho
  simp [Obj.isCells] at hoc

end Go.Proofs.YtpgpnhihdboghaaGreat

