/-
  NARROWER THAN 'FOR EVERY INPUT', by the rows' own cells (each row's printed sentence says how): RangesNear: loops · RangesPlace: loops · RangesRank: loops · RangesBetween: loops · RangesNext: loops.
  DERIVED. THE GIVEN ROWS OF THIS SEAT. 5 by the template 'for every input the law returns true; each argument reads behind the call as it read before'; 0 by the template 'total and deterministic' (their statements: YtpmodiodpilmeaaGreatTotals.lean).
  GIVEN WITH THE SEED: the statements are not yours to turn. If you find one false, say at which input.
  Laid BY PROGRAM, IN A SANDBOX (cutbox-rows.mjs): the forced cells as the released guide's own fill.sh prints them over the translation ac8df012064f5e49… (all of the seat's roots in one cut). By AI agents, Wed Nov 11 2026. No macro, syntax, notation, axiom, sorry.
-/
import Derived.Test.YtpmodiodpilmeaaGreatChecked
import GoSem.Claim
import GoSem.ClaimJoined
import GoSem.ClaimMapViews
import Derived.JoinedTies
import Derived.KernelRfl
namespace Go.Proofs.YtpmodiodpilmeaaGreat
/- THE CELL 'sum', in the pinned program and in every row, IS THE sha256 OF THE DUMP (.gsa) THAT YtpmodiodpilmeaaGreatProg.lean LOADS. Nothing in Lean hashes anything: it is a label: what it is worth is what the hold of that sum in a sandbox is worth. -/
noncomputable def Tryz.pinned : Pinned := { name := "ytpmodiodpilmeaagreat", sum := "ac8df012064f5e49f2aec1b3a7e388d7911b97c50eae0402c56f3758bdde2cac", checked := Tryz.checked }
namespace Rows
def none {H : Type} : Left H := { results := [], args := [] }

/-- 'spinneylaw15.RangesNear': WHATEVER THE INPUT: true; the input reads as it did. -/
def rangesNearSpec : ChangeSpec := { name := "rangesNear", fn := fun _ => fun
  | [d1, d2, d3] => { results := [.lit (.bool true)], args := [d1, d2, d3] }
  | _ => none }
def rangesNearRow : OpenClaim := { program := "ytpmodiodpilmeaagreat", sum := "ac8df012064f5e49f2aec1b3a7e388d7911b97c50eae0402c56f3758bdde2cac", func := "spinney/spinneylaw15.RangesNear", spec := "rangesNear", unfollowed := true, recurses := true, loops := true, apart := false }
def RangesNearSaid : Prop := rangesNearRow.holds Tryz.pinned (OpenSpec.ofChange rangesNearSpec)

/-- ITS FALSE NEIGHBOUR: 'it returns false'. Refute it at one input. -/
def rangesNearWrong : ChangeSpec := { name := "rangesNear", fn := fun _ => fun
  | [d1, d2, d3] => { results := [.lit (.bool false)], args := [d1, d2, d3] }
  | _ => none }
def RangesNearWrongFalsely : Prop := rangesNearRow.holds Tryz.pinned (OpenSpec.ofChange rangesNearWrong)

/-- 'spinneylaw15.RangesPlace': WHATEVER THE INPUT: true; the input reads as it did. -/
def rangesPlaceSpec : ChangeSpec := { name := "rangesPlace", fn := fun _ => fun
  | [d1, d2, d3] => { results := [.lit (.bool true)], args := [d1, d2, d3] }
  | _ => none }
def rangesPlaceRow : OpenClaim := { program := "ytpmodiodpilmeaagreat", sum := "ac8df012064f5e49f2aec1b3a7e388d7911b97c50eae0402c56f3758bdde2cac", func := "spinney/spinneylaw15.RangesPlace", spec := "rangesPlace", unfollowed := true, recurses := true, loops := true, apart := false }
def RangesPlaceSaid : Prop := rangesPlaceRow.holds Tryz.pinned (OpenSpec.ofChange rangesPlaceSpec)

/-- ITS FALSE NEIGHBOUR: 'it returns false'. Refute it at one input. -/
def rangesPlaceWrong : ChangeSpec := { name := "rangesPlace", fn := fun _ => fun
  | [d1, d2, d3] => { results := [.lit (.bool false)], args := [d1, d2, d3] }
  | _ => none }
def RangesPlaceWrongFalsely : Prop := rangesPlaceRow.holds Tryz.pinned (OpenSpec.ofChange rangesPlaceWrong)

/-- 'spinneylaw15.RangesRank': WHATEVER THE INPUT: true; the input reads as it did. -/
def rangesRankSpec : ChangeSpec := { name := "rangesRank", fn := fun _ => fun
  | [d1, d2, d3] => { results := [.lit (.bool true)], args := [d1, d2, d3] }
  | _ => none }
def rangesRankRow : OpenClaim := { program := "ytpmodiodpilmeaagreat", sum := "ac8df012064f5e49f2aec1b3a7e388d7911b97c50eae0402c56f3758bdde2cac", func := "spinney/spinneylaw15.RangesRank", spec := "rangesRank", unfollowed := true, recurses := true, loops := true, apart := false }
def RangesRankSaid : Prop := rangesRankRow.holds Tryz.pinned (OpenSpec.ofChange rangesRankSpec)

/-- ITS FALSE NEIGHBOUR: 'it returns false'. Refute it at one input. -/
def rangesRankWrong : ChangeSpec := { name := "rangesRank", fn := fun _ => fun
  | [d1, d2, d3] => { results := [.lit (.bool false)], args := [d1, d2, d3] }
  | _ => none }
def RangesRankWrongFalsely : Prop := rangesRankRow.holds Tryz.pinned (OpenSpec.ofChange rangesRankWrong)

/-- 'spinneylaw15.RangesBetween': WHATEVER THE INPUT: true; the input reads as it did. -/
def rangesBetweenSpec : ChangeSpec := { name := "rangesBetween", fn := fun _ => fun
  | [d1, d2, d3] => { results := [.lit (.bool true)], args := [d1, d2, d3] }
  | _ => none }
def rangesBetweenRow : OpenClaim := { program := "ytpmodiodpilmeaagreat", sum := "ac8df012064f5e49f2aec1b3a7e388d7911b97c50eae0402c56f3758bdde2cac", func := "spinney/spinneylaw15.RangesBetween", spec := "rangesBetween", unfollowed := true, recurses := true, loops := true, apart := false }
def RangesBetweenSaid : Prop := rangesBetweenRow.holds Tryz.pinned (OpenSpec.ofChange rangesBetweenSpec)

/-- ITS FALSE NEIGHBOUR: 'it returns false'. Refute it at one input. -/
def rangesBetweenWrong : ChangeSpec := { name := "rangesBetween", fn := fun _ => fun
  | [d1, d2, d3] => { results := [.lit (.bool false)], args := [d1, d2, d3] }
  | _ => none }
def RangesBetweenWrongFalsely : Prop := rangesBetweenRow.holds Tryz.pinned (OpenSpec.ofChange rangesBetweenWrong)

/-- 'spinneylaw15.RangesNext': WHATEVER THE INPUT: true; the input reads as it did. -/
def rangesNextSpec : ChangeSpec := { name := "rangesNext", fn := fun _ => fun
  | [d1, d2, d3] => { results := [.lit (.bool true)], args := [d1, d2, d3] }
  | _ => none }
def rangesNextRow : OpenClaim := { program := "ytpmodiodpilmeaagreat", sum := "ac8df012064f5e49f2aec1b3a7e388d7911b97c50eae0402c56f3758bdde2cac", func := "spinney/spinneylaw15.RangesNext", spec := "rangesNext", unfollowed := true, recurses := true, loops := true, apart := false }
def RangesNextSaid : Prop := rangesNextRow.holds Tryz.pinned (OpenSpec.ofChange rangesNextSpec)

/-- ITS FALSE NEIGHBOUR: 'it returns false'. Refute it at one input. -/
def rangesNextWrong : ChangeSpec := { name := "rangesNext", fn := fun _ => fun
  | [d1, d2, d3] => { results := [.lit (.bool false)], args := [d1, d2, d3] }
  | _ => none }
def RangesNextWrongFalsely : Prop := rangesNextRow.holds Tryz.pinned (OpenSpec.ofChange rangesNextWrong)

/- THE SECOND FORM. 'bulk': how many values and letters a reading holds, each counted each time it is reached (what is shared counts as often as it is met; a slice's spare places count too). A statement '..UptoSaid' is the law's where the arguments, and the package variables that the reading takes, are together of bulk at most 1048576: NARROWER than '..Said'. Prove '..Said' where nothing that the law and all that it calls make is longer than what came in: it says more and counts as full. Else prove '..UptoSaid'. A law counts once. -/
mutual
def uptoBulk {H : Type} : DataW H → Nat
  | .lit (.string bytes) => bytes.length + 1
  | .lit _ => 1
  | .nil => 1
  | .ptr d => uptoBulk d + 1
  | .slice elems spare => uptoBulkAll elems + uptoBulkAll spare + 1
  | .agg parts => uptoBulkAll parts + 1
  | .iface _ d => uptoBulk d + 1
  | .map entries => uptoBulkEntries entries + 1
  | .held _ => 1
def uptoBulkAll {H : Type} : List (DataW H) → Nat
  | [] => 0
  | d :: r => uptoBulk d + uptoBulkAll r
def uptoBulkEntries {H : Type} : List (Lit × DataW H) → Nat
  | [] => 0
  | x :: r => uptoBulkEntry x + uptoBulkEntries r
def uptoBulkEntry {H : Type} : Lit × DataW H → Nat
  | (.string bytes, d) => bytes.length + uptoBulk d + 1
  | (_, d) => uptoBulk d + 1
 end
def uptoSmall : (H : Type) → List (DataW H) → Bool := fun _ ds => decide (uptoBulkAll ds ≤ 1048576)
def OpenSpec.upto (s : _root_.Go.ChangeSpec) : _root_.Go.OpenSpec := { _root_.Go.OpenSpec.ofChange s with cond := some uptoSmall }

/-- 'spinneylaw15.RangesNear', WHERE WHAT IT READS IS OF BULK AT MOST 1048576: true; the input reads as it did. -/
def rangesNearUptoRow : OpenClaim := { program := "ytpmodiodpilmeaagreat", sum := "ac8df012064f5e49f2aec1b3a7e388d7911b97c50eae0402c56f3758bdde2cac", func := "spinney/spinneylaw15.RangesNear", spec := "rangesNear", unfollowed := true, recurses := true, loops := true, apart := false, narrowed := true }
def RangesNearUptoSaid : Prop := rangesNearUptoRow.holds Tryz.pinned (OpenSpec.upto rangesNearSpec)

/-- 'spinneylaw15.RangesPlace', WHERE WHAT IT READS IS OF BULK AT MOST 1048576: true; the input reads as it did. -/
def rangesPlaceUptoRow : OpenClaim := { program := "ytpmodiodpilmeaagreat", sum := "ac8df012064f5e49f2aec1b3a7e388d7911b97c50eae0402c56f3758bdde2cac", func := "spinney/spinneylaw15.RangesPlace", spec := "rangesPlace", unfollowed := true, recurses := true, loops := true, apart := false, narrowed := true }
def RangesPlaceUptoSaid : Prop := rangesPlaceUptoRow.holds Tryz.pinned (OpenSpec.upto rangesPlaceSpec)

/-- 'spinneylaw15.RangesRank', WHERE WHAT IT READS IS OF BULK AT MOST 1048576: true; the input reads as it did. -/
def rangesRankUptoRow : OpenClaim := { program := "ytpmodiodpilmeaagreat", sum := "ac8df012064f5e49f2aec1b3a7e388d7911b97c50eae0402c56f3758bdde2cac", func := "spinney/spinneylaw15.RangesRank", spec := "rangesRank", unfollowed := true, recurses := true, loops := true, apart := false, narrowed := true }
def RangesRankUptoSaid : Prop := rangesRankUptoRow.holds Tryz.pinned (OpenSpec.upto rangesRankSpec)

/-- 'spinneylaw15.RangesBetween', WHERE WHAT IT READS IS OF BULK AT MOST 1048576: true; the input reads as it did. -/
def rangesBetweenUptoRow : OpenClaim := { program := "ytpmodiodpilmeaagreat", sum := "ac8df012064f5e49f2aec1b3a7e388d7911b97c50eae0402c56f3758bdde2cac", func := "spinney/spinneylaw15.RangesBetween", spec := "rangesBetween", unfollowed := true, recurses := true, loops := true, apart := false, narrowed := true }
def RangesBetweenUptoSaid : Prop := rangesBetweenUptoRow.holds Tryz.pinned (OpenSpec.upto rangesBetweenSpec)

/-- 'spinneylaw15.RangesNext', WHERE WHAT IT READS IS OF BULK AT MOST 1048576: true; the input reads as it did. -/
def rangesNextUptoRow : OpenClaim := { program := "ytpmodiodpilmeaagreat", sum := "ac8df012064f5e49f2aec1b3a7e388d7911b97c50eae0402c56f3758bdde2cac", func := "spinney/spinneylaw15.RangesNext", spec := "rangesNext", unfollowed := true, recurses := true, loops := true, apart := false, narrowed := true }
def RangesNextUptoSaid : Prop := rangesNextUptoRow.holds Tryz.pinned (OpenSpec.upto rangesNextSpec)

end Rows
end Go.Proofs.YtpmodiodpilmeaaGreat
