/-
  The reading of a seq of the statements, of a question and of a list of questions.
-/
import Derived.Test.YtnjgolibmllhnaaGreatReadS
import Derived.Test.YtnjgolibmllhnaaGreatAsksLaw
import Derived.Test.YtnjgolibmllhnaaGreatReadG
namespace Go.Proofs.YtnjgolibmllhnaaGreat
open Go.ChangeShapes Go.WideShapes Go.ChangeAt Go.RowKit Go.Deep Go.Joins

theorem cellsAsk23 : Tryz.prog.cellsOf 34 = 3 := by kernel_rfl

set_option maxRecDepth 100000 in
theorem read_ask23 {H : Type} {enc : TypeId × Value → H} {w : World} {spare : Nat → Bool} {held : Bool} {r : Reach} {b0 : Nat} {v : Value} {d : DataW H} {p : List MemPlace}
    (hv : Value.okWide Tryz.prog w r b0 34 v) (h : DataW.Trod enc Tryz.prog w 0 spare held 34 v d p) :
    ∃ q n m : Int, v = .agg #[.int .i64 q, .int .i64 n, .int .i64 m] := by
  obtain ⟨v0, v1, v2, y0, y1, y2, n, rfl, _, _, f0, f1, f2⟩ := open_agg3 Tryz.underlying34 (by kernel_rfl) cellsAsk23 hv h
  obtain ⟨k0, e0, _, _⟩ := DataW.trod_int Tryz.underlying3 f0
  obtain ⟨k1, e1, _, _⟩ := DataW.trod_int Tryz.underlying3 f1
  obtain ⟨k2, e2, _, _⟩ := DataW.trod_int Tryz.underlying3 f2
  simp only [List.cons.injEq, and_true] at e0 e1 e2
  subst e0 e1 e2
  exact ⟨k0, k1, k2, rfl⟩

end Go.Proofs.YtnjgolibmllhnaaGreat

