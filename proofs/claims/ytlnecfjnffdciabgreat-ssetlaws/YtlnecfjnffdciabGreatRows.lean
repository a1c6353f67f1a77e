/-
  NARROWER THAN 'FOR EVERY INPUT', by the rows' own cells (each row's printed sentence says how): SsetOf: loops · SsetSteps: loops · SsetAsked: loops · SsetBoth: loops · SsetLaws: loops · TopMaps: loops.
  DERIVED. THE GIVEN ROWS OF THIS SEAT. 6 by the template 'for every input the law returns true; each argument reads behind the call as it read before'; 0 by the template 'total and deterministic' (their statements: YtlnecfjnffdciabGreatTotals.lean).
  GIVEN WITH THE SEED: the statements are not yours to turn. If you find one false, say at which input.
  Laid BY PROGRAM, IN A SANDBOX (cutbox-rows.mjs): the forced cells as the released guide's own fill.sh prints them over the translation 9bf4f5c74607846e… (all of the seat's roots in one cut). By AI agents, Wed Nov 11 2026. No macro, syntax, notation, axiom, sorry.
-/
import Derived.Test.YtlnecfjnffdciabGreatChecked
import GoSem.Claim
import GoSem.ClaimJoined
import GoSem.ClaimMapViews
import Derived.JoinedTies
import Derived.KernelRfl
namespace Go.Proofs.YtlnecfjnffdciabGreat
/- THE CELL 'sum', in the pinned program and in every row, IS THE sha256 OF THE DUMP (.gsa) THAT YtlnecfjnffdciabGreatProg.lean LOADS. Nothing in Lean hashes anything: it is a label: what it is worth is what the hold of that sum in a sandbox is worth. -/
noncomputable def Tryz.pinned : Pinned := { name := "ytlnecfjnffdciabgreat", sum := "9bf4f5c74607846e1d2ed0a14f43738c6b2c72472428a74da3465e764369b11a", checked := Tryz.checked }
namespace Rows
def none {H : Type} : Left H := { results := [], args := [] }

/-- 'spinneylaw16.SsetOf': WHATEVER THE INPUT: true; the input reads as it did. -/
def ssetOfSpec : ChangeSpec := { name := "ssetOf", fn := fun _ => fun
  | [d1, d2] => { results := [.lit (.bool true)], args := [d1, d2] }
  | _ => none }
def ssetOfRow : OpenClaim := { program := "ytlnecfjnffdciabgreat", sum := "9bf4f5c74607846e1d2ed0a14f43738c6b2c72472428a74da3465e764369b11a", func := "spinney/spinneylaw16.SsetOf", spec := "ssetOf", unfollowed := true, recurses := true, loops := true, apart := false }
def SsetOfSaid : Prop := ssetOfRow.holds Tryz.pinned (OpenSpec.ofChange ssetOfSpec)

/-- ITS FALSE NEIGHBOUR: 'it returns false'. Refute it at one input. -/
def ssetOfWrong : ChangeSpec := { name := "ssetOf", fn := fun _ => fun
  | [d1, d2] => { results := [.lit (.bool false)], args := [d1, d2] }
  | _ => none }
def SsetOfWrongFalsely : Prop := ssetOfRow.holds Tryz.pinned (OpenSpec.ofChange ssetOfWrong)

/-- 'spinneylaw16.SsetSteps': WHATEVER THE INPUT: true; the input reads as it did. -/
def ssetStepsSpec : ChangeSpec := { name := "ssetSteps", fn := fun _ => fun
  | [d1, d2, d3] => { results := [.lit (.bool true)], args := [d1, d2, d3] }
  | _ => none }
def ssetStepsRow : OpenClaim := { program := "ytlnecfjnffdciabgreat", sum := "9bf4f5c74607846e1d2ed0a14f43738c6b2c72472428a74da3465e764369b11a", func := "spinney/spinneylaw16.SsetSteps", spec := "ssetSteps", unfollowed := true, recurses := true, loops := true, apart := false }
def SsetStepsSaid : Prop := ssetStepsRow.holds Tryz.pinned (OpenSpec.ofChange ssetStepsSpec)

/-- ITS FALSE NEIGHBOUR: 'it returns false'. Refute it at one input. -/
def ssetStepsWrong : ChangeSpec := { name := "ssetSteps", fn := fun _ => fun
  | [d1, d2, d3] => { results := [.lit (.bool false)], args := [d1, d2, d3] }
  | _ => none }
def SsetStepsWrongFalsely : Prop := ssetStepsRow.holds Tryz.pinned (OpenSpec.ofChange ssetStepsWrong)

/-- 'spinneylaw16.SsetAsked': WHATEVER THE INPUT: true; the input reads as it did. -/
def ssetAskedSpec : ChangeSpec := { name := "ssetAsked", fn := fun _ => fun
  | [d1, d2, d3] => { results := [.lit (.bool true)], args := [d1, d2, d3] }
  | _ => none }
def ssetAskedRow : OpenClaim := { program := "ytlnecfjnffdciabgreat", sum := "9bf4f5c74607846e1d2ed0a14f43738c6b2c72472428a74da3465e764369b11a", func := "spinney/spinneylaw16.SsetAsked", spec := "ssetAsked", unfollowed := true, recurses := true, loops := true, apart := false }
def SsetAskedSaid : Prop := ssetAskedRow.holds Tryz.pinned (OpenSpec.ofChange ssetAskedSpec)

/-- ITS FALSE NEIGHBOUR: 'it returns false'. Refute it at one input. -/
def ssetAskedWrong : ChangeSpec := { name := "ssetAsked", fn := fun _ => fun
  | [d1, d2, d3] => { results := [.lit (.bool false)], args := [d1, d2, d3] }
  | _ => none }
def SsetAskedWrongFalsely : Prop := ssetAskedRow.holds Tryz.pinned (OpenSpec.ofChange ssetAskedWrong)

/-- 'spinneylaw16.SsetBoth': WHATEVER THE INPUT: true; the input reads as it did. -/
def ssetBothSpec : ChangeSpec := { name := "ssetBoth", fn := fun _ => fun
  | [d] => { results := [.lit (.bool true)], args := [d] }
  | _ => none }
def ssetBothRow : OpenClaim := { program := "ytlnecfjnffdciabgreat", sum := "9bf4f5c74607846e1d2ed0a14f43738c6b2c72472428a74da3465e764369b11a", func := "spinney/spinneylaw16.SsetBoth", spec := "ssetBoth", unfollowed := true, recurses := true, loops := true, apart := false }
def SsetBothSaid : Prop := ssetBothRow.holds Tryz.pinned (OpenSpec.ofChange ssetBothSpec)

/-- ITS FALSE NEIGHBOUR: 'it returns false'. Refute it at one input. -/
def ssetBothWrong : ChangeSpec := { name := "ssetBoth", fn := fun _ => fun
  | [d] => { results := [.lit (.bool false)], args := [d] }
  | _ => none }
def SsetBothWrongFalsely : Prop := ssetBothRow.holds Tryz.pinned (OpenSpec.ofChange ssetBothWrong)

/-- 'spinneylaw16.SsetLaws': WHATEVER THE INPUT: true; the input reads as it did. -/
def ssetLawsSpec : ChangeSpec := { name := "ssetLaws", fn := fun _ => fun
  | [d] => { results := [.lit (.bool true)], args := [d] }
  | _ => none }
def ssetLawsRow : OpenClaim := { program := "ytlnecfjnffdciabgreat", sum := "9bf4f5c74607846e1d2ed0a14f43738c6b2c72472428a74da3465e764369b11a", func := "spinney/spinneylaw16.SsetLaws", spec := "ssetLaws", unfollowed := true, recurses := true, loops := true, apart := false }
def SsetLawsSaid : Prop := ssetLawsRow.holds Tryz.pinned (OpenSpec.ofChange ssetLawsSpec)

/-- ITS FALSE NEIGHBOUR: 'it returns false'. Refute it at one input. -/
def ssetLawsWrong : ChangeSpec := { name := "ssetLaws", fn := fun _ => fun
  | [d] => { results := [.lit (.bool false)], args := [d] }
  | _ => none }
def SsetLawsWrongFalsely : Prop := ssetLawsRow.holds Tryz.pinned (OpenSpec.ofChange ssetLawsWrong)

/-- 'spinneytop.TopMaps': WHATEVER THE INPUT: true; the input reads as it did. -/
def topMapsSpec : ChangeSpec := { name := "topMaps", fn := fun _ => fun
  | [d1, d2, d3] => { results := [.lit (.bool true)], args := [d1, d2, d3] }
  | _ => none }
def topMapsRow : OpenClaim := { program := "ytlnecfjnffdciabgreat", sum := "9bf4f5c74607846e1d2ed0a14f43738c6b2c72472428a74da3465e764369b11a", func := "spinney/spinneytop.TopMaps", spec := "topMaps", unfollowed := true, recurses := true, loops := true, apart := false }
def TopMapsSaid : Prop := topMapsRow.holds Tryz.pinned (OpenSpec.ofChange topMapsSpec)

/-- ITS FALSE NEIGHBOUR: 'it returns false'. Refute it at one input. -/
def topMapsWrong : ChangeSpec := { name := "topMaps", fn := fun _ => fun
  | [d1, d2, d3] => { results := [.lit (.bool false)], args := [d1, d2, d3] }
  | _ => none }
def TopMapsWrongFalsely : Prop := topMapsRow.holds Tryz.pinned (OpenSpec.ofChange topMapsWrong)

/- THE SECOND FORM. 'bulk': how many values and letters a reading holds, each counted each time it is reached (what is shared counts as often as it is met; a slice's spare places count too). A statement '..UptoSaid' is the law's where the arguments, and the package variables that the reading takes, are together of bulk at most 1048576: NARROWER than '..Said'. Prove '..Said' where nothing that the law and all that it calls make is longer than what came in: it says more and counts as full. Else prove '..UptoSaid'. A law counts once. -/
mutual
def uptoBulk {H : Type} : DataW H → Nat
  | .lit (.string bytes) => bytes.length + 1
  | .lit _ => 1
  | .nil => 1
  | .ptr d => uptoBulk d + 1
  | .slice elems spare => uptoBulkAll elems + uptoBulkAll spare + 1
  | .agg parts => uptoBulkAll parts + 1
  | .iface _ d => uptoBulk d + 1
  | .map entries => uptoBulkEntries entries + 1
  | .held _ => 1
def uptoBulkAll {H : Type} : List (DataW H) → Nat
  | [] => 0
  | d :: r => uptoBulk d + uptoBulkAll r
def uptoBulkEntries {H : Type} : List (Lit × DataW H) → Nat
  | [] => 0
  | x :: r => uptoBulkEntry x + uptoBulkEntries r
def uptoBulkEntry {H : Type} : Lit × DataW H → Nat
  | (.string bytes, d) => bytes.length + uptoBulk d + 1
  | (_, d) => uptoBulk d + 1
 end
def uptoSmall : (H : Type) → List (DataW H) → Bool := fun _ ds => decide (uptoBulkAll ds ≤ 1048576)
def OpenSpec.upto (s : _root_.Go.ChangeSpec) : _root_.Go.OpenSpec := { _root_.Go.OpenSpec.ofChange s with cond := some uptoSmall }

/-- 'spinneylaw16.SsetOf', WHERE WHAT IT READS IS OF BULK AT MOST 1048576: true; the input reads as it did. -/
def ssetOfUptoRow : OpenClaim := { program := "ytlnecfjnffdciabgreat", sum := "9bf4f5c74607846e1d2ed0a14f43738c6b2c72472428a74da3465e764369b11a", func := "spinney/spinneylaw16.SsetOf", spec := "ssetOf", unfollowed := true, recurses := true, loops := true, apart := false, narrowed := true }
def SsetOfUptoSaid : Prop := ssetOfUptoRow.holds Tryz.pinned (OpenSpec.upto ssetOfSpec)

/-- 'spinneylaw16.SsetSteps', WHERE WHAT IT READS IS OF BULK AT MOST 1048576: true; the input reads as it did. -/
def ssetStepsUptoRow : OpenClaim := { program := "ytlnecfjnffdciabgreat", sum := "9bf4f5c74607846e1d2ed0a14f43738c6b2c72472428a74da3465e764369b11a", func := "spinney/spinneylaw16.SsetSteps", spec := "ssetSteps", unfollowed := true, recurses := true, loops := true, apart := false, narrowed := true }
def SsetStepsUptoSaid : Prop := ssetStepsUptoRow.holds Tryz.pinned (OpenSpec.upto ssetStepsSpec)

/-- 'spinneylaw16.SsetAsked', WHERE WHAT IT READS IS OF BULK AT MOST 1048576: true; the input reads as it did. -/
def ssetAskedUptoRow : OpenClaim := { program := "ytlnecfjnffdciabgreat", sum := "9bf4f5c74607846e1d2ed0a14f43738c6b2c72472428a74da3465e764369b11a", func := "spinney/spinneylaw16.SsetAsked", spec := "ssetAsked", unfollowed := true, recurses := true, loops := true, apart := false, narrowed := true }
def SsetAskedUptoSaid : Prop := ssetAskedUptoRow.holds Tryz.pinned (OpenSpec.upto ssetAskedSpec)

/-- 'spinneylaw16.SsetBoth', WHERE WHAT IT READS IS OF BULK AT MOST 1048576: true; the input reads as it did. -/
def ssetBothUptoRow : OpenClaim := { program := "ytlnecfjnffdciabgreat", sum := "9bf4f5c74607846e1d2ed0a14f43738c6b2c72472428a74da3465e764369b11a", func := "spinney/spinneylaw16.SsetBoth", spec := "ssetBoth", unfollowed := true, recurses := true, loops := true, apart := false, narrowed := true }
def SsetBothUptoSaid : Prop := ssetBothUptoRow.holds Tryz.pinned (OpenSpec.upto ssetBothSpec)

/-- 'spinneylaw16.SsetLaws', WHERE WHAT IT READS IS OF BULK AT MOST 1048576: true; the input reads as it did. -/
def ssetLawsUptoRow : OpenClaim := { program := "ytlnecfjnffdciabgreat", sum := "9bf4f5c74607846e1d2ed0a14f43738c6b2c72472428a74da3465e764369b11a", func := "spinney/spinneylaw16.SsetLaws", spec := "ssetLaws", unfollowed := true, recurses := true, loops := true, apart := false, narrowed := true }
def SsetLawsUptoSaid : Prop := ssetLawsUptoRow.holds Tryz.pinned (OpenSpec.upto ssetLawsSpec)

/-- 'spinneytop.TopMaps', WHERE WHAT IT READS IS OF BULK AT MOST 1048576: true; the input reads as it did. -/
def topMapsUptoRow : OpenClaim := { program := "ytlnecfjnffdciabgreat", sum := "9bf4f5c74607846e1d2ed0a14f43738c6b2c72472428a74da3465e764369b11a", func := "spinney/spinneytop.TopMaps", spec := "topMaps", unfollowed := true, recurses := true, loops := true, apart := false, narrowed := true }
def TopMapsUptoSaid : Prop := topMapsUptoRow.holds Tryz.pinned (OpenSpec.upto topMapsSpec)

end Rows
end Go.Proofs.YtlnecfjnffdciabGreat
