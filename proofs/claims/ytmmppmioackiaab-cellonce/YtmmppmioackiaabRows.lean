/-
  NARROWER THAN 'FOR EVERY INPUT', by the rows' own cells (each row's printed sentence says how): CellAhead: loops · CellCons: loops · CellOnce: loops.
  DERIVED. THE GIVEN ROWS OF THIS SEAT. 4 by the template 'for every input the law returns true; each argument reads behind the call as it read before'; 0 by the template 'total and deterministic' (their statements: YtmmppmioackiaabTotals.lean).
  GIVEN WITH THE SEED: the statements are not yours to turn. If you find one false, say at which input.
  Laid BY PROGRAM, IN A SANDBOX (cutbox-rows.mjs): the forced cells as the released guide's own fill.sh prints them over the translation c7e4bfc172c9674a… (all of the seat's roots in one cut). By AI agents, Wed Nov 11 2026. No macro, syntax, notation, axiom, sorry.
-/
import Derived.Test.YtmmppmioackiaabChecked
import GoSem.Claim
import GoSem.ClaimJoined
import GoSem.ClaimMapViews
import Derived.JoinedTies
import Derived.KernelRfl
namespace Go.Proofs.Ytmmppmioackiaab
/- THE CELL 'sum', in the pinned program and in every row, IS THE sha256 OF THE DUMP (.gsa) THAT YtmmppmioackiaabProg.lean LOADS. Nothing in Lean hashes anything: it is a label: what it is worth is what the hold of that sum in a sandbox is worth. -/
noncomputable def Try.pinned : Pinned := { name := "ytmmppmioackiaab", sum := "c7e4bfc172c9674a9826565b2c3e194feaebf74fbf975b669d85ffa1c144129f", checked := Try.checked }
namespace Rows
def none {H : Type} : Left H := { results := [], args := [] }

/-- 'spinneylaw22.CellAhead': WHATEVER THE INPUT: true; the input reads as it did. -/
def cellAheadSpec : ChangeSpec := { name := "cellAhead", fn := fun _ => fun
  | [d1, d2, d3] => { results := [.lit (.bool true)], args := [d1, d2, d3] }
  | _ => none }
def cellAheadRow : OpenClaim := { program := "ytmmppmioackiaab", sum := "c7e4bfc172c9674a9826565b2c3e194feaebf74fbf975b669d85ffa1c144129f", func := "spinney/spinneylaw22.CellAhead", spec := "cellAhead", unfollowed := true, recurses := true, loops := true, apart := false }
def CellAheadSaid : Prop := cellAheadRow.holds Try.pinned (OpenSpec.ofChange cellAheadSpec)

/-- ITS FALSE NEIGHBOUR: 'it returns false'. Refute it at one input. -/
def cellAheadWrong : ChangeSpec := { name := "cellAhead", fn := fun _ => fun
  | [d1, d2, d3] => { results := [.lit (.bool false)], args := [d1, d2, d3] }
  | _ => none }
def CellAheadWrongFalsely : Prop := cellAheadRow.holds Try.pinned (OpenSpec.ofChange cellAheadWrong)

/-- 'spinneylaw22.CellCons': WHATEVER THE INPUT: true; the input reads as it did. -/
def cellConsSpec : ChangeSpec := { name := "cellCons", fn := fun _ => fun
  | [d1, d2] => { results := [.lit (.bool true)], args := [d1, d2] }
  | _ => none }
def cellConsRow : OpenClaim := { program := "ytmmppmioackiaab", sum := "c7e4bfc172c9674a9826565b2c3e194feaebf74fbf975b669d85ffa1c144129f", func := "spinney/spinneylaw22.CellCons", spec := "cellCons", unfollowed := true, recurses := true, loops := true, apart := false }
def CellConsSaid : Prop := cellConsRow.holds Try.pinned (OpenSpec.ofChange cellConsSpec)

/-- ITS FALSE NEIGHBOUR: 'it returns false'. Refute it at one input. -/
def cellConsWrong : ChangeSpec := { name := "cellCons", fn := fun _ => fun
  | [d1, d2] => { results := [.lit (.bool false)], args := [d1, d2] }
  | _ => none }
def CellConsWrongFalsely : Prop := cellConsRow.holds Try.pinned (OpenSpec.ofChange cellConsWrong)

/-- 'spinneylaw22.CellOnce': WHATEVER THE INPUT: true; the input reads as it did. -/
def cellOnceSpec : ChangeSpec := { name := "cellOnce", fn := fun _ => fun
  | [d1, d2, d3] => { results := [.lit (.bool true)], args := [d1, d2, d3] }
  | _ => none }
def cellOnceRow : OpenClaim := { program := "ytmmppmioackiaab", sum := "c7e4bfc172c9674a9826565b2c3e194feaebf74fbf975b669d85ffa1c144129f", func := "spinney/spinneylaw22.CellOnce", spec := "cellOnce", unfollowed := true, recurses := true, loops := true, apart := false }
def CellOnceSaid : Prop := cellOnceRow.holds Try.pinned (OpenSpec.ofChange cellOnceSpec)

/-- ITS FALSE NEIGHBOUR: 'it returns false'. Refute it at one input. -/
def cellOnceWrong : ChangeSpec := { name := "cellOnce", fn := fun _ => fun
  | [d1, d2, d3] => { results := [.lit (.bool false)], args := [d1, d2, d3] }
  | _ => none }
def CellOnceWrongFalsely : Prop := cellOnceRow.holds Try.pinned (OpenSpec.ofChange cellOnceWrong)

/-- 'spinneylaw22.CellNil': WHATEVER THE INPUT: true; the input reads as it did. -/
def cellNilSpec : ChangeSpec := { name := "cellNil", fn := fun _ => fun
  | [d] => { results := [.lit (.bool true)], args := [d] }
  | _ => none }
def cellNilRow : OpenClaim := { program := "ytmmppmioackiaab", sum := "c7e4bfc172c9674a9826565b2c3e194feaebf74fbf975b669d85ffa1c144129f", func := "spinney/spinneylaw22.CellNil", spec := "cellNil", unfollowed := true, recurses := true, apart := false }
def CellNilSaid : Prop := cellNilRow.holds Try.pinned (OpenSpec.ofChange cellNilSpec)

/-- ITS FALSE NEIGHBOUR: 'it returns false'. Refute it at one input. -/
def cellNilWrong : ChangeSpec := { name := "cellNil", fn := fun _ => fun
  | [d] => { results := [.lit (.bool false)], args := [d] }
  | _ => none }
def CellNilWrongFalsely : Prop := cellNilRow.holds Try.pinned (OpenSpec.ofChange cellNilWrong)

/- THE SECOND FORM. 'bulk': how many values and letters a reading holds, each counted each time it is reached (what is shared counts as often as it is met; a slice's spare places count too). A statement '..UptoSaid' is the law's where the arguments, and the package variables that the reading takes, are together of bulk at most 1048576: NARROWER than '..Said'. Prove '..Said' where nothing that the law and all that it calls make is longer than what came in: it says more and counts as full. Else prove '..UptoSaid'. A law counts once. -/
mutual
def uptoBulk {H : Type} : DataW H → Nat
  | .lit (.string bytes) => bytes.length + 1
  | .lit _ => 1
  | .nil => 1
  | .ptr d => uptoBulk d + 1
  | .slice elems spare => uptoBulkAll elems + uptoBulkAll spare + 1
  | .agg parts => uptoBulkAll parts + 1
  | .iface _ d => uptoBulk d + 1
  | .map entries => uptoBulkEntries entries + 1
  | .held _ => 1
def uptoBulkAll {H : Type} : List (DataW H) → Nat
  | [] => 0
  | d :: r => uptoBulk d + uptoBulkAll r
def uptoBulkEntries {H : Type} : List (Lit × DataW H) → Nat
  | [] => 0
  | x :: r => uptoBulkEntry x + uptoBulkEntries r
def uptoBulkEntry {H : Type} : Lit × DataW H → Nat
  | (.string bytes, d) => bytes.length + uptoBulk d + 1
  | (_, d) => uptoBulk d + 1
 end
def uptoSmall : (H : Type) → List (DataW H) → Bool := fun _ ds => decide (uptoBulkAll ds ≤ 1048576)
def OpenSpec.upto (s : _root_.Go.ChangeSpec) : _root_.Go.OpenSpec := { _root_.Go.OpenSpec.ofChange s with cond := some uptoSmall }

/-- 'spinneylaw22.CellAhead', WHERE WHAT IT READS IS OF BULK AT MOST 1048576: true; the input reads as it did. -/
def cellAheadUptoRow : OpenClaim := { program := "ytmmppmioackiaab", sum := "c7e4bfc172c9674a9826565b2c3e194feaebf74fbf975b669d85ffa1c144129f", func := "spinney/spinneylaw22.CellAhead", spec := "cellAhead", unfollowed := true, recurses := true, loops := true, apart := false, narrowed := true }
def CellAheadUptoSaid : Prop := cellAheadUptoRow.holds Try.pinned (OpenSpec.upto cellAheadSpec)

/-- 'spinneylaw22.CellCons', WHERE WHAT IT READS IS OF BULK AT MOST 1048576: true; the input reads as it did. -/
def cellConsUptoRow : OpenClaim := { program := "ytmmppmioackiaab", sum := "c7e4bfc172c9674a9826565b2c3e194feaebf74fbf975b669d85ffa1c144129f", func := "spinney/spinneylaw22.CellCons", spec := "cellCons", unfollowed := true, recurses := true, loops := true, apart := false, narrowed := true }
def CellConsUptoSaid : Prop := cellConsUptoRow.holds Try.pinned (OpenSpec.upto cellConsSpec)

/-- 'spinneylaw22.CellOnce', WHERE WHAT IT READS IS OF BULK AT MOST 1048576: true; the input reads as it did. -/
def cellOnceUptoRow : OpenClaim := { program := "ytmmppmioackiaab", sum := "c7e4bfc172c9674a9826565b2c3e194feaebf74fbf975b669d85ffa1c144129f", func := "spinney/spinneylaw22.CellOnce", spec := "cellOnce", unfollowed := true, recurses := true, loops := true, apart := false, narrowed := true }
def CellOnceUptoSaid : Prop := cellOnceUptoRow.holds Try.pinned (OpenSpec.upto cellOnceSpec)

/-- 'spinneylaw22.CellNil', WHERE WHAT IT READS IS OF BULK AT MOST 1048576: true; the input reads as it did. -/
def cellNilUptoRow : OpenClaim := { program := "ytmmppmioackiaab", sum := "c7e4bfc172c9674a9826565b2c3e194feaebf74fbf975b669d85ffa1c144129f", func := "spinney/spinneylaw22.CellNil", spec := "cellNil", unfollowed := true, recurses := true, apart := false, narrowed := true }
def CellNilUptoSaid : Prop := cellNilUptoRow.holds Try.pinned (OpenSpec.upto cellNilSpec)

end Rows
end Go.Proofs.Ytmmppmioackiaab
