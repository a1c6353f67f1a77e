/-
  NARROWER THAN 'FOR EVERY INPUT', by the rows' own cells (each row's printed sentence says how): FnsOne: loops · FnsIs: loops · FnsTwo: loops · FnsRight: loops · FnsMore: loops.
  DERIVED. THE GIVEN ROWS OF THIS SEAT. 5 by the template 'for every input the law returns true; each argument reads behind the call as it read before'; 0 by the template 'total and deterministic' (their statements: YtacnfmamjbmhcaaTotals.lean).
  GIVEN WITH THE SEED: the statements are not yours to turn. If you find one false, say at which input.
  Laid BY PROGRAM, IN A SANDBOX (cutbox-rows.mjs): the forced cells as the released guide's own fill.sh prints them over the translation 65f1e93076cd6331… (all of the seat's roots in one cut). By AI agents, Wed Nov 11 2026. No macro, syntax, notation, axiom, sorry.
-/
import Derived.Test.YtacnfmamjbmhcaaChecked
import GoSem.Claim
import GoSem.ClaimJoined
import GoSem.ClaimMapViews
import Derived.JoinedTies
import Derived.KernelRfl
namespace Go.Proofs.Ytacnfmamjbmhcaa
/- THE CELL 'sum', in the pinned program and in every row, IS THE sha256 OF THE DUMP (.gsa) THAT YtacnfmamjbmhcaaProg.lean LOADS. Nothing in Lean hashes anything: it is a label: what it is worth is what the hold of that sum in a sandbox is worth. -/
noncomputable def Try.pinned : Pinned := { name := "ytacnfmamjbmhcaa", sum := "65f1e93076cd633119f454e310e7214d45c40d65fb1adfdab42bf2906270f7c0", checked := Try.checked }
namespace Rows
def none {H : Type} : Left H := { results := [], args := [] }

/-- 'spinneylaw05.FnsOne': WHATEVER THE INPUT: true; the input reads as it did. -/
def fnsOneSpec : ChangeSpec := { name := "fnsOne", fn := fun _ => fun
  | [d1, d2, d3] => { results := [.lit (.bool true)], args := [d1, d2, d3] }
  | _ => none }
def fnsOneRow : OpenClaim := { program := "ytacnfmamjbmhcaa", sum := "65f1e93076cd633119f454e310e7214d45c40d65fb1adfdab42bf2906270f7c0", func := "spinney/spinneylaw05.FnsOne", spec := "fnsOne", unfollowed := true, recurses := true, loops := true, apart := false }
def FnsOneSaid : Prop := fnsOneRow.holds Try.pinned (OpenSpec.ofChange fnsOneSpec)

/-- ITS FALSE NEIGHBOUR: 'it returns false'. Refute it at one input. -/
def fnsOneWrong : ChangeSpec := { name := "fnsOne", fn := fun _ => fun
  | [d1, d2, d3] => { results := [.lit (.bool false)], args := [d1, d2, d3] }
  | _ => none }
def FnsOneWrongFalsely : Prop := fnsOneRow.holds Try.pinned (OpenSpec.ofChange fnsOneWrong)

/-- 'spinneylaw05.FnsIs': WHATEVER THE INPUT: true; the input reads as it did. -/
def fnsIsSpec : ChangeSpec := { name := "fnsIs", fn := fun _ => fun
  | [d1, d2] => { results := [.lit (.bool true)], args := [d1, d2] }
  | _ => none }
def fnsIsRow : OpenClaim := { program := "ytacnfmamjbmhcaa", sum := "65f1e93076cd633119f454e310e7214d45c40d65fb1adfdab42bf2906270f7c0", func := "spinney/spinneylaw05.FnsIs", spec := "fnsIs", unfollowed := true, recurses := true, loops := true, apart := false }
def FnsIsSaid : Prop := fnsIsRow.holds Try.pinned (OpenSpec.ofChange fnsIsSpec)

/-- ITS FALSE NEIGHBOUR: 'it returns false'. Refute it at one input. -/
def fnsIsWrong : ChangeSpec := { name := "fnsIs", fn := fun _ => fun
  | [d1, d2] => { results := [.lit (.bool false)], args := [d1, d2] }
  | _ => none }
def FnsIsWrongFalsely : Prop := fnsIsRow.holds Try.pinned (OpenSpec.ofChange fnsIsWrong)

/-- 'spinneylaw05.FnsTwo': WHATEVER THE INPUT: true; the input reads as it did. -/
def fnsTwoSpec : ChangeSpec := { name := "fnsTwo", fn := fun _ => fun
  | [d1, d2, d3] => { results := [.lit (.bool true)], args := [d1, d2, d3] }
  | _ => none }
def fnsTwoRow : OpenClaim := { program := "ytacnfmamjbmhcaa", sum := "65f1e93076cd633119f454e310e7214d45c40d65fb1adfdab42bf2906270f7c0", func := "spinney/spinneylaw05.FnsTwo", spec := "fnsTwo", unfollowed := true, recurses := true, loops := true, apart := false }
def FnsTwoSaid : Prop := fnsTwoRow.holds Try.pinned (OpenSpec.ofChange fnsTwoSpec)

/-- ITS FALSE NEIGHBOUR: 'it returns false'. Refute it at one input. -/
def fnsTwoWrong : ChangeSpec := { name := "fnsTwo", fn := fun _ => fun
  | [d1, d2, d3] => { results := [.lit (.bool false)], args := [d1, d2, d3] }
  | _ => none }
def FnsTwoWrongFalsely : Prop := fnsTwoRow.holds Try.pinned (OpenSpec.ofChange fnsTwoWrong)

/-- 'spinneylaw05.FnsRight': WHATEVER THE INPUT: true; the input reads as it did. -/
def fnsRightSpec : ChangeSpec := { name := "fnsRight", fn := fun _ => fun
  | [d1, d2, d3] => { results := [.lit (.bool true)], args := [d1, d2, d3] }
  | _ => none }
def fnsRightRow : OpenClaim := { program := "ytacnfmamjbmhcaa", sum := "65f1e93076cd633119f454e310e7214d45c40d65fb1adfdab42bf2906270f7c0", func := "spinney/spinneylaw05.FnsRight", spec := "fnsRight", unfollowed := true, recurses := true, loops := true, apart := false }
def FnsRightSaid : Prop := fnsRightRow.holds Try.pinned (OpenSpec.ofChange fnsRightSpec)

/-- ITS FALSE NEIGHBOUR: 'it returns false'. Refute it at one input. -/
def fnsRightWrong : ChangeSpec := { name := "fnsRight", fn := fun _ => fun
  | [d1, d2, d3] => { results := [.lit (.bool false)], args := [d1, d2, d3] }
  | _ => none }
def FnsRightWrongFalsely : Prop := fnsRightRow.holds Try.pinned (OpenSpec.ofChange fnsRightWrong)

/-- 'spinneylaw05.FnsMore': WHATEVER THE INPUT: true; the input reads as it did. -/
def fnsMoreSpec : ChangeSpec := { name := "fnsMore", fn := fun _ => fun
  | [d1, d2] => { results := [.lit (.bool true)], args := [d1, d2] }
  | _ => none }
def fnsMoreRow : OpenClaim := { program := "ytacnfmamjbmhcaa", sum := "65f1e93076cd633119f454e310e7214d45c40d65fb1adfdab42bf2906270f7c0", func := "spinney/spinneylaw05.FnsMore", spec := "fnsMore", unfollowed := true, recurses := true, loops := true, apart := false }
def FnsMoreSaid : Prop := fnsMoreRow.holds Try.pinned (OpenSpec.ofChange fnsMoreSpec)

/-- ITS FALSE NEIGHBOUR: 'it returns false'. Refute it at one input. -/
def fnsMoreWrong : ChangeSpec := { name := "fnsMore", fn := fun _ => fun
  | [d1, d2] => { results := [.lit (.bool false)], args := [d1, d2] }
  | _ => none }
def FnsMoreWrongFalsely : Prop := fnsMoreRow.holds Try.pinned (OpenSpec.ofChange fnsMoreWrong)

/- THE SECOND FORM. 'bulk': how many values and letters a reading holds, each counted each time it is reached (what is shared counts as often as it is met; a slice's spare places count too). A statement '..UptoSaid' is the law's where the arguments, and the package variables that the reading takes, are together of bulk at most 1048576: NARROWER than '..Said'. Prove '..Said' where nothing that the law and all that it calls make is longer than what came in: it says more and counts as full. Else prove '..UptoSaid'. A law counts once. -/
mutual
def uptoBulk {H : Type} : DataW H → Nat
  | .lit (.string bytes) => bytes.length + 1
  | .lit _ => 1
  | .nil => 1
  | .ptr d => uptoBulk d + 1
  | .slice elems spare => uptoBulkAll elems + uptoBulkAll spare + 1
  | .agg parts => uptoBulkAll parts + 1
  | .iface _ d => uptoBulk d + 1
  | .map entries => uptoBulkEntries entries + 1
  | .held _ => 1
def uptoBulkAll {H : Type} : List (DataW H) → Nat
  | [] => 0
  | d :: r => uptoBulk d + uptoBulkAll r
def uptoBulkEntries {H : Type} : List (Lit × DataW H) → Nat
  | [] => 0
  | x :: r => uptoBulkEntry x + uptoBulkEntries r
def uptoBulkEntry {H : Type} : Lit × DataW H → Nat
  | (.string bytes, d) => bytes.length + uptoBulk d + 1
  | (_, d) => uptoBulk d + 1
 end
def uptoSmall : (H : Type) → List (DataW H) → Bool := fun _ ds => decide (uptoBulkAll ds ≤ 1048576)
def OpenSpec.upto (s : _root_.Go.ChangeSpec) : _root_.Go.OpenSpec := { _root_.Go.OpenSpec.ofChange s with cond := some uptoSmall }

/-- 'spinneylaw05.FnsOne', WHERE WHAT IT READS IS OF BULK AT MOST 1048576: true; the input reads as it did. -/
def fnsOneUptoRow : OpenClaim := { program := "ytacnfmamjbmhcaa", sum := "65f1e93076cd633119f454e310e7214d45c40d65fb1adfdab42bf2906270f7c0", func := "spinney/spinneylaw05.FnsOne", spec := "fnsOne", unfollowed := true, recurses := true, loops := true, apart := false, narrowed := true }
def FnsOneUptoSaid : Prop := fnsOneUptoRow.holds Try.pinned (OpenSpec.upto fnsOneSpec)

/-- 'spinneylaw05.FnsIs', WHERE WHAT IT READS IS OF BULK AT MOST 1048576: true; the input reads as it did. -/
def fnsIsUptoRow : OpenClaim := { program := "ytacnfmamjbmhcaa", sum := "65f1e93076cd633119f454e310e7214d45c40d65fb1adfdab42bf2906270f7c0", func := "spinney/spinneylaw05.FnsIs", spec := "fnsIs", unfollowed := true, recurses := true, loops := true, apart := false, narrowed := true }
def FnsIsUptoSaid : Prop := fnsIsUptoRow.holds Try.pinned (OpenSpec.upto fnsIsSpec)

/-- 'spinneylaw05.FnsTwo', WHERE WHAT IT READS IS OF BULK AT MOST 1048576: true; the input reads as it did. -/
def fnsTwoUptoRow : OpenClaim := { program := "ytacnfmamjbmhcaa", sum := "65f1e93076cd633119f454e310e7214d45c40d65fb1adfdab42bf2906270f7c0", func := "spinney/spinneylaw05.FnsTwo", spec := "fnsTwo", unfollowed := true, recurses := true, loops := true, apart := false, narrowed := true }
def FnsTwoUptoSaid : Prop := fnsTwoUptoRow.holds Try.pinned (OpenSpec.upto fnsTwoSpec)

/-- 'spinneylaw05.FnsRight', WHERE WHAT IT READS IS OF BULK AT MOST 1048576: true; the input reads as it did. -/
def fnsRightUptoRow : OpenClaim := { program := "ytacnfmamjbmhcaa", sum := "65f1e93076cd633119f454e310e7214d45c40d65fb1adfdab42bf2906270f7c0", func := "spinney/spinneylaw05.FnsRight", spec := "fnsRight", unfollowed := true, recurses := true, loops := true, apart := false, narrowed := true }
def FnsRightUptoSaid : Prop := fnsRightUptoRow.holds Try.pinned (OpenSpec.upto fnsRightSpec)

/-- 'spinneylaw05.FnsMore', WHERE WHAT IT READS IS OF BULK AT MOST 1048576: true; the input reads as it did. -/
def fnsMoreUptoRow : OpenClaim := { program := "ytacnfmamjbmhcaa", sum := "65f1e93076cd633119f454e310e7214d45c40d65fb1adfdab42bf2906270f7c0", func := "spinney/spinneylaw05.FnsMore", spec := "fnsMore", unfollowed := true, recurses := true, loops := true, apart := false, narrowed := true }
def FnsMoreUptoSaid : Prop := fnsMoreUptoRow.holds Try.pinned (OpenSpec.upto fnsMoreSpec)

end Rows
end Go.Proofs.Ytacnfmamjbmhcaa
