/-
  NARROWER THAN 'FOR EVERY INPUT', by the rows' own cells (each row's printed sentence says how): RrbOf: loops · RrbSteps: loops · RrbHeight: loops · RrbStays: loops · RrbValue: loops · ConcatJoins: loops.
  DERIVED. THE GIVEN ROWS OF THIS SEAT. 6 by the template 'for every input the law returns true; each argument reads behind the call as it read before'; 0 by the template 'total and deterministic' (their statements: YtpnfmcmhcjekfaaTotals.lean).
  GIVEN WITH THE SEED: the statements are not yours to turn. If you find one false, say at which input.
  Laid BY PROGRAM, IN A SANDBOX (cutbox-rows.mjs): the forced cells as the released guide's own fill.sh prints them over the translation 18725438d74b63de… (all of the seat's roots in one cut). By AI agents, Wed Nov 11 2026. No macro, syntax, notation, axiom, sorry.
-/
import Derived.Test.YtpnfmcmhcjekfaaChecked
import GoSem.Claim
import GoSem.ClaimJoined
import GoSem.ClaimMapViews
import Derived.JoinedTies
import Derived.KernelRfl
namespace Go.Proofs.Ytpnfmcmhcjekfaa
/- THE CELL 'sum', in the pinned program and in every row, IS THE sha256 OF THE DUMP (.gsa) THAT YtpnfmcmhcjekfaaProg.lean LOADS. Nothing in Lean hashes anything: it is a label: what it is worth is what the hold of that sum in a sandbox is worth. -/
noncomputable def Try.pinned : Pinned := { name := "ytpnfmcmhcjekfaa", sum := "18725438d74b63de5feba23147645e711ba581670ecf1f84a2460fd82e4c1b28", checked := Try.checked }
namespace Rows
def none {H : Type} : Left H := { results := [], args := [] }

/-- 'spinneylaw11.RrbOf': WHATEVER THE INPUT: true; the input reads as it did. -/
def rrbOfSpec : ChangeSpec := { name := "rrbOf", fn := fun _ => fun
  | [d1, d2] => { results := [.lit (.bool true)], args := [d1, d2] }
  | _ => none }
def rrbOfRow : OpenClaim := { program := "ytpnfmcmhcjekfaa", sum := "18725438d74b63de5feba23147645e711ba581670ecf1f84a2460fd82e4c1b28", func := "spinney/spinneylaw11.RrbOf", spec := "rrbOf", unfollowed := true, recurses := true, loops := true, apart := false }
def RrbOfSaid : Prop := rrbOfRow.holds Try.pinned (OpenSpec.ofChange rrbOfSpec)

/-- ITS FALSE NEIGHBOUR: 'it returns false'. Refute it at one input. -/
def rrbOfWrong : ChangeSpec := { name := "rrbOf", fn := fun _ => fun
  | [d1, d2] => { results := [.lit (.bool false)], args := [d1, d2] }
  | _ => none }
def RrbOfWrongFalsely : Prop := rrbOfRow.holds Try.pinned (OpenSpec.ofChange rrbOfWrong)

/-- 'spinneylaw11.RrbSteps': WHATEVER THE INPUT: true; the input reads as it did. -/
def rrbStepsSpec : ChangeSpec := { name := "rrbSteps", fn := fun _ => fun
  | [d1, d2] => { results := [.lit (.bool true)], args := [d1, d2] }
  | _ => none }
def rrbStepsRow : OpenClaim := { program := "ytpnfmcmhcjekfaa", sum := "18725438d74b63de5feba23147645e711ba581670ecf1f84a2460fd82e4c1b28", func := "spinney/spinneylaw11.RrbSteps", spec := "rrbSteps", unfollowed := true, recurses := true, loops := true, apart := false }
def RrbStepsSaid : Prop := rrbStepsRow.holds Try.pinned (OpenSpec.ofChange rrbStepsSpec)

/-- ITS FALSE NEIGHBOUR: 'it returns false'. Refute it at one input. -/
def rrbStepsWrong : ChangeSpec := { name := "rrbSteps", fn := fun _ => fun
  | [d1, d2] => { results := [.lit (.bool false)], args := [d1, d2] }
  | _ => none }
def RrbStepsWrongFalsely : Prop := rrbStepsRow.holds Try.pinned (OpenSpec.ofChange rrbStepsWrong)

/-- 'spinneylaw11.RrbHeight': WHATEVER THE INPUT: true; the input reads as it did. -/
def rrbHeightSpec : ChangeSpec := { name := "rrbHeight", fn := fun _ => fun
  | [d1, d2] => { results := [.lit (.bool true)], args := [d1, d2] }
  | _ => none }
def rrbHeightRow : OpenClaim := { program := "ytpnfmcmhcjekfaa", sum := "18725438d74b63de5feba23147645e711ba581670ecf1f84a2460fd82e4c1b28", func := "spinney/spinneylaw11.RrbHeight", spec := "rrbHeight", unfollowed := true, recurses := true, loops := true, apart := false }
def RrbHeightSaid : Prop := rrbHeightRow.holds Try.pinned (OpenSpec.ofChange rrbHeightSpec)

/-- ITS FALSE NEIGHBOUR: 'it returns false'. Refute it at one input. -/
def rrbHeightWrong : ChangeSpec := { name := "rrbHeight", fn := fun _ => fun
  | [d1, d2] => { results := [.lit (.bool false)], args := [d1, d2] }
  | _ => none }
def RrbHeightWrongFalsely : Prop := rrbHeightRow.holds Try.pinned (OpenSpec.ofChange rrbHeightWrong)

/-- 'spinneylaw11.RrbStays': WHATEVER THE INPUT: true; the input reads as it did. -/
def rrbStaysSpec : ChangeSpec := { name := "rrbStays", fn := fun _ => fun
  | [d1, d2] => { results := [.lit (.bool true)], args := [d1, d2] }
  | _ => none }
def rrbStaysRow : OpenClaim := { program := "ytpnfmcmhcjekfaa", sum := "18725438d74b63de5feba23147645e711ba581670ecf1f84a2460fd82e4c1b28", func := "spinney/spinneylaw11.RrbStays", spec := "rrbStays", unfollowed := true, recurses := true, loops := true, apart := false }
def RrbStaysSaid : Prop := rrbStaysRow.holds Try.pinned (OpenSpec.ofChange rrbStaysSpec)

/-- ITS FALSE NEIGHBOUR: 'it returns false'. Refute it at one input. -/
def rrbStaysWrong : ChangeSpec := { name := "rrbStays", fn := fun _ => fun
  | [d1, d2] => { results := [.lit (.bool false)], args := [d1, d2] }
  | _ => none }
def RrbStaysWrongFalsely : Prop := rrbStaysRow.holds Try.pinned (OpenSpec.ofChange rrbStaysWrong)

/-- 'spinneylaw11.RrbValue': WHATEVER THE INPUT: true; the input reads as it did. -/
def rrbValueSpec : ChangeSpec := { name := "rrbValue", fn := fun _ => fun
  | [d1, d2] => { results := [.lit (.bool true)], args := [d1, d2] }
  | _ => none }
def rrbValueRow : OpenClaim := { program := "ytpnfmcmhcjekfaa", sum := "18725438d74b63de5feba23147645e711ba581670ecf1f84a2460fd82e4c1b28", func := "spinney/spinneylaw11.RrbValue", spec := "rrbValue", unfollowed := true, recurses := true, loops := true, apart := false }
def RrbValueSaid : Prop := rrbValueRow.holds Try.pinned (OpenSpec.ofChange rrbValueSpec)

/-- ITS FALSE NEIGHBOUR: 'it returns false'. Refute it at one input. -/
def rrbValueWrong : ChangeSpec := { name := "rrbValue", fn := fun _ => fun
  | [d1, d2] => { results := [.lit (.bool false)], args := [d1, d2] }
  | _ => none }
def RrbValueWrongFalsely : Prop := rrbValueRow.holds Try.pinned (OpenSpec.ofChange rrbValueWrong)

/-- 'spinneylaw12.ConcatJoins': WHATEVER THE INPUT: true; the input reads as it did. -/
def concatJoinsSpec : ChangeSpec := { name := "concatJoins", fn := fun _ => fun
  | [d1, d2, d3] => { results := [.lit (.bool true)], args := [d1, d2, d3] }
  | _ => none }
def concatJoinsRow : OpenClaim := { program := "ytpnfmcmhcjekfaa", sum := "18725438d74b63de5feba23147645e711ba581670ecf1f84a2460fd82e4c1b28", func := "spinney/spinneylaw12.ConcatJoins", spec := "concatJoins", unfollowed := true, recurses := true, loops := true, apart := false }
def ConcatJoinsSaid : Prop := concatJoinsRow.holds Try.pinned (OpenSpec.ofChange concatJoinsSpec)

/-- ITS FALSE NEIGHBOUR: 'it returns false'. Refute it at one input. -/
def concatJoinsWrong : ChangeSpec := { name := "concatJoins", fn := fun _ => fun
  | [d1, d2, d3] => { results := [.lit (.bool false)], args := [d1, d2, d3] }
  | _ => none }
def ConcatJoinsWrongFalsely : Prop := concatJoinsRow.holds Try.pinned (OpenSpec.ofChange concatJoinsWrong)

/- THE SECOND FORM. 'bulk': how many values and letters a reading holds, each counted each time it is reached (what is shared counts as often as it is met; a slice's spare places count too). A statement '..UptoSaid' is the law's where the arguments, and the package variables that the reading takes, are together of bulk at most 1048576: NARROWER than '..Said'. Prove '..Said' where nothing that the law and all that it calls make is longer than what came in: it says more and counts as full. Else prove '..UptoSaid'. A law counts once. -/
mutual
def uptoBulk {H : Type} : DataW H → Nat
  | .lit (.string bytes) => bytes.length + 1
  | .lit _ => 1
  | .nil => 1
  | .ptr d => uptoBulk d + 1
  | .slice elems spare => uptoBulkAll elems + uptoBulkAll spare + 1
  | .agg parts => uptoBulkAll parts + 1
  | .iface _ d => uptoBulk d + 1
  | .map entries => uptoBulkEntries entries + 1
  | .held _ => 1
def uptoBulkAll {H : Type} : List (DataW H) → Nat
  | [] => 0
  | d :: r => uptoBulk d + uptoBulkAll r
def uptoBulkEntries {H : Type} : List (Lit × DataW H) → Nat
  | [] => 0
  | x :: r => uptoBulkEntry x + uptoBulkEntries r
def uptoBulkEntry {H : Type} : Lit × DataW H → Nat
  | (.string bytes, d) => bytes.length + uptoBulk d + 1
  | (_, d) => uptoBulk d + 1
 end
def uptoSmall : (H : Type) → List (DataW H) → Bool := fun _ ds => decide (uptoBulkAll ds ≤ 1048576)
def OpenSpec.upto (s : _root_.Go.ChangeSpec) : _root_.Go.OpenSpec := { _root_.Go.OpenSpec.ofChange s with cond := some uptoSmall }

/-- 'spinneylaw11.RrbOf', WHERE WHAT IT READS IS OF BULK AT MOST 1048576: true; the input reads as it did. -/
def rrbOfUptoRow : OpenClaim := { program := "ytpnfmcmhcjekfaa", sum := "18725438d74b63de5feba23147645e711ba581670ecf1f84a2460fd82e4c1b28", func := "spinney/spinneylaw11.RrbOf", spec := "rrbOf", unfollowed := true, recurses := true, loops := true, apart := false, narrowed := true }
def RrbOfUptoSaid : Prop := rrbOfUptoRow.holds Try.pinned (OpenSpec.upto rrbOfSpec)

/-- 'spinneylaw11.RrbSteps', WHERE WHAT IT READS IS OF BULK AT MOST 1048576: true; the input reads as it did. -/
def rrbStepsUptoRow : OpenClaim := { program := "ytpnfmcmhcjekfaa", sum := "18725438d74b63de5feba23147645e711ba581670ecf1f84a2460fd82e4c1b28", func := "spinney/spinneylaw11.RrbSteps", spec := "rrbSteps", unfollowed := true, recurses := true, loops := true, apart := false, narrowed := true }
def RrbStepsUptoSaid : Prop := rrbStepsUptoRow.holds Try.pinned (OpenSpec.upto rrbStepsSpec)

/-- 'spinneylaw11.RrbHeight', WHERE WHAT IT READS IS OF BULK AT MOST 1048576: true; the input reads as it did. -/
def rrbHeightUptoRow : OpenClaim := { program := "ytpnfmcmhcjekfaa", sum := "18725438d74b63de5feba23147645e711ba581670ecf1f84a2460fd82e4c1b28", func := "spinney/spinneylaw11.RrbHeight", spec := "rrbHeight", unfollowed := true, recurses := true, loops := true, apart := false, narrowed := true }
def RrbHeightUptoSaid : Prop := rrbHeightUptoRow.holds Try.pinned (OpenSpec.upto rrbHeightSpec)

/-- 'spinneylaw11.RrbStays', WHERE WHAT IT READS IS OF BULK AT MOST 1048576: true; the input reads as it did. -/
def rrbStaysUptoRow : OpenClaim := { program := "ytpnfmcmhcjekfaa", sum := "18725438d74b63de5feba23147645e711ba581670ecf1f84a2460fd82e4c1b28", func := "spinney/spinneylaw11.RrbStays", spec := "rrbStays", unfollowed := true, recurses := true, loops := true, apart := false, narrowed := true }
def RrbStaysUptoSaid : Prop := rrbStaysUptoRow.holds Try.pinned (OpenSpec.upto rrbStaysSpec)

/-- 'spinneylaw11.RrbValue', WHERE WHAT IT READS IS OF BULK AT MOST 1048576: true; the input reads as it did. -/
def rrbValueUptoRow : OpenClaim := { program := "ytpnfmcmhcjekfaa", sum := "18725438d74b63de5feba23147645e711ba581670ecf1f84a2460fd82e4c1b28", func := "spinney/spinneylaw11.RrbValue", spec := "rrbValue", unfollowed := true, recurses := true, loops := true, apart := false, narrowed := true }
def RrbValueUptoSaid : Prop := rrbValueUptoRow.holds Try.pinned (OpenSpec.upto rrbValueSpec)

/-- 'spinneylaw12.ConcatJoins', WHERE WHAT IT READS IS OF BULK AT MOST 1048576: true; the input reads as it did. -/
def concatJoinsUptoRow : OpenClaim := { program := "ytpnfmcmhcjekfaa", sum := "18725438d74b63de5feba23147645e711ba581670ecf1f84a2460fd82e4c1b28", func := "spinney/spinneylaw12.ConcatJoins", spec := "concatJoins", unfollowed := true, recurses := true, loops := true, apart := false, narrowed := true }
def ConcatJoinsUptoSaid : Prop := concatJoinsUptoRow.holds Try.pinned (OpenSpec.upto concatJoinsSpec)

end Rows
end Go.Proofs.Ytpnfmcmhcjekfaa
