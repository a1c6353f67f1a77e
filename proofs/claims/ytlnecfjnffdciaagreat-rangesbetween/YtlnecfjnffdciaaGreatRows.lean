/-
  NARROWER THAN 'FOR EVERY INPUT', by the rows' own cells (each row's printed sentence says how): RedblackOf: loops · RedblackSteps: loops · RedblackBoth: loops · RedblackStays: loops · RangesBetween: loops.
  DERIVED. THE GIVEN ROWS OF THIS SEAT. 6 by the template 'for every input the law returns true; each argument reads behind the call as it read before'; 0 by the template 'total and deterministic' (their statements: YtlnecfjnffdciaaGreatTotals.lean).
  GIVEN WITH THE SEED: the statements are not yours to turn. If you find one false, say at which input.
  Laid BY PROGRAM, IN A SANDBOX (cutbox-rows.mjs): the forced cells as the released guide's own fill.sh prints them over the translation 2ba49a85133919f4… (all of the seat's roots in one cut). By AI agents, Wed Nov 11 2026. No macro, syntax, notation, axiom, sorry.
-/
import Derived.Test.YtlnecfjnffdciaaGreatChecked
import GoSem.Claim
import GoSem.ClaimJoined
import GoSem.ClaimMapViews
import Derived.JoinedTies
import Derived.KernelRfl
namespace Go.Proofs.YtlnecfjnffdciaaGreat
/- THE CELL 'sum', in the pinned program and in every row, IS THE sha256 OF THE DUMP (.gsa) THAT YtlnecfjnffdciaaGreatProg.lean LOADS. Nothing in Lean hashes anything: it is a label: what it is worth is what the hold of that sum in a sandbox is worth. -/
noncomputable def Tryz.pinned : Pinned := { name := "ytlnecfjnffdciaagreat", sum := "2ba49a85133919f4f1583462f1226c583319ec8a2be3155fd41925d2bf1bc73c", checked := Tryz.checked }
namespace Rows
def none {H : Type} : Left H := { results := [], args := [] }

/-- 'spinneylaw14.RedblackOf': WHATEVER THE INPUT: true; the input reads as it did. -/
def redblackOfSpec : ChangeSpec := { name := "redblackOf", fn := fun _ => fun
  | [d1, d2] => { results := [.lit (.bool true)], args := [d1, d2] }
  | _ => none }
def redblackOfRow : OpenClaim := { program := "ytlnecfjnffdciaagreat", sum := "2ba49a85133919f4f1583462f1226c583319ec8a2be3155fd41925d2bf1bc73c", func := "spinney/spinneylaw14.RedblackOf", spec := "redblackOf", unfollowed := true, recurses := true, loops := true, apart := false }
def RedblackOfSaid : Prop := redblackOfRow.holds Tryz.pinned (OpenSpec.ofChange redblackOfSpec)

/-- ITS FALSE NEIGHBOUR: 'it returns false'. Refute it at one input. -/
def redblackOfWrong : ChangeSpec := { name := "redblackOf", fn := fun _ => fun
  | [d1, d2] => { results := [.lit (.bool false)], args := [d1, d2] }
  | _ => none }
def RedblackOfWrongFalsely : Prop := redblackOfRow.holds Tryz.pinned (OpenSpec.ofChange redblackOfWrong)

/-- 'spinneylaw14.RedblackSteps': WHATEVER THE INPUT: true; the input reads as it did. -/
def redblackStepsSpec : ChangeSpec := { name := "redblackSteps", fn := fun _ => fun
  | [d1, d2] => { results := [.lit (.bool true)], args := [d1, d2] }
  | _ => none }
def redblackStepsRow : OpenClaim := { program := "ytlnecfjnffdciaagreat", sum := "2ba49a85133919f4f1583462f1226c583319ec8a2be3155fd41925d2bf1bc73c", func := "spinney/spinneylaw14.RedblackSteps", spec := "redblackSteps", unfollowed := true, recurses := true, loops := true, apart := false }
def RedblackStepsSaid : Prop := redblackStepsRow.holds Tryz.pinned (OpenSpec.ofChange redblackStepsSpec)

/-- ITS FALSE NEIGHBOUR: 'it returns false'. Refute it at one input. -/
def redblackStepsWrong : ChangeSpec := { name := "redblackSteps", fn := fun _ => fun
  | [d1, d2] => { results := [.lit (.bool false)], args := [d1, d2] }
  | _ => none }
def RedblackStepsWrongFalsely : Prop := redblackStepsRow.holds Tryz.pinned (OpenSpec.ofChange redblackStepsWrong)

/-- 'spinneylaw14.RedblackBoth': WHATEVER THE INPUT: true; the input reads as it did. -/
def redblackBothSpec : ChangeSpec := { name := "redblackBoth", fn := fun _ => fun
  | [d] => { results := [.lit (.bool true)], args := [d] }
  | _ => none }
def redblackBothRow : OpenClaim := { program := "ytlnecfjnffdciaagreat", sum := "2ba49a85133919f4f1583462f1226c583319ec8a2be3155fd41925d2bf1bc73c", func := "spinney/spinneylaw14.RedblackBoth", spec := "redblackBoth", unfollowed := true, recurses := true, loops := true, apart := false }
def RedblackBothSaid : Prop := redblackBothRow.holds Tryz.pinned (OpenSpec.ofChange redblackBothSpec)

/-- ITS FALSE NEIGHBOUR: 'it returns false'. Refute it at one input. -/
def redblackBothWrong : ChangeSpec := { name := "redblackBoth", fn := fun _ => fun
  | [d] => { results := [.lit (.bool false)], args := [d] }
  | _ => none }
def RedblackBothWrongFalsely : Prop := redblackBothRow.holds Tryz.pinned (OpenSpec.ofChange redblackBothWrong)

/-- 'spinneylaw14.RedblackStays': WHATEVER THE INPUT: true; the input reads as it did. -/
def redblackStaysSpec : ChangeSpec := { name := "redblackStays", fn := fun _ => fun
  | [d1, d2, d3] => { results := [.lit (.bool true)], args := [d1, d2, d3] }
  | _ => none }
def redblackStaysRow : OpenClaim := { program := "ytlnecfjnffdciaagreat", sum := "2ba49a85133919f4f1583462f1226c583319ec8a2be3155fd41925d2bf1bc73c", func := "spinney/spinneylaw14.RedblackStays", spec := "redblackStays", unfollowed := true, recurses := true, loops := true, apart := false }
def RedblackStaysSaid : Prop := redblackStaysRow.holds Tryz.pinned (OpenSpec.ofChange redblackStaysSpec)

/-- ITS FALSE NEIGHBOUR: 'it returns false'. Refute it at one input. -/
def redblackStaysWrong : ChangeSpec := { name := "redblackStays", fn := fun _ => fun
  | [d1, d2, d3] => { results := [.lit (.bool false)], args := [d1, d2, d3] }
  | _ => none }
def RedblackStaysWrongFalsely : Prop := redblackStaysRow.holds Tryz.pinned (OpenSpec.ofChange redblackStaysWrong)

/-- 'spinneylaw14.RedblackMany': WHATEVER THE INPUT: true; the input reads as it did. -/
def redblackManySpec : ChangeSpec := { name := "redblackMany", fn := fun _ => fun
  | [d1, d2] => { results := [.lit (.bool true)], args := [d1, d2] }
  | _ => none }
def redblackManyRow : OpenClaim := { program := "ytlnecfjnffdciaagreat", sum := "2ba49a85133919f4f1583462f1226c583319ec8a2be3155fd41925d2bf1bc73c", func := "spinney/spinneylaw14.RedblackMany", spec := "redblackMany", unfollowed := true, recurses := true, apart := false }
def RedblackManySaid : Prop := redblackManyRow.holds Tryz.pinned (OpenSpec.ofChange redblackManySpec)

/-- ITS FALSE NEIGHBOUR: 'it returns false'. Refute it at one input. -/
def redblackManyWrong : ChangeSpec := { name := "redblackMany", fn := fun _ => fun
  | [d1, d2] => { results := [.lit (.bool false)], args := [d1, d2] }
  | _ => none }
def RedblackManyWrongFalsely : Prop := redblackManyRow.holds Tryz.pinned (OpenSpec.ofChange redblackManyWrong)

/-- 'spinneylaw15.RangesBetween': WHATEVER THE INPUT: true; the input reads as it did. -/
def rangesBetweenSpec : ChangeSpec := { name := "rangesBetween", fn := fun _ => fun
  | [d1, d2, d3] => { results := [.lit (.bool true)], args := [d1, d2, d3] }
  | _ => none }
def rangesBetweenRow : OpenClaim := { program := "ytlnecfjnffdciaagreat", sum := "2ba49a85133919f4f1583462f1226c583319ec8a2be3155fd41925d2bf1bc73c", func := "spinney/spinneylaw15.RangesBetween", spec := "rangesBetween", unfollowed := true, recurses := true, loops := true, apart := false }
def RangesBetweenSaid : Prop := rangesBetweenRow.holds Tryz.pinned (OpenSpec.ofChange rangesBetweenSpec)

/-- ITS FALSE NEIGHBOUR: 'it returns false'. Refute it at one input. -/
def rangesBetweenWrong : ChangeSpec := { name := "rangesBetween", fn := fun _ => fun
  | [d1, d2, d3] => { results := [.lit (.bool false)], args := [d1, d2, d3] }
  | _ => none }
def RangesBetweenWrongFalsely : Prop := rangesBetweenRow.holds Tryz.pinned (OpenSpec.ofChange rangesBetweenWrong)

/- THE SECOND FORM. 'bulk': how many values and letters a reading holds, each counted each time it is reached (what is shared counts as often as it is met; a slice's spare places count too). A statement '..UptoSaid' is the law's where the arguments, and the package variables that the reading takes, are together of bulk at most 1048576: NARROWER than '..Said'. Prove '..Said' where nothing that the law and all that it calls make is longer than what came in: it says more and counts as full. Else prove '..UptoSaid'. A law counts once. -/
mutual
def uptoBulk {H : Type} : DataW H → Nat
  | .lit (.string bytes) => bytes.length + 1
  | .lit _ => 1
  | .nil => 1
  | .ptr d => uptoBulk d + 1
  | .slice elems spare => uptoBulkAll elems + uptoBulkAll spare + 1
  | .agg parts => uptoBulkAll parts + 1
  | .iface _ d => uptoBulk d + 1
  | .map entries => uptoBulkEntries entries + 1
  | .held _ => 1
def uptoBulkAll {H : Type} : List (DataW H) → Nat
  | [] => 0
  | d :: r => uptoBulk d + uptoBulkAll r
def uptoBulkEntries {H : Type} : List (Lit × DataW H) → Nat
  | [] => 0
  | x :: r => uptoBulkEntry x + uptoBulkEntries r
def uptoBulkEntry {H : Type} : Lit × DataW H → Nat
  | (.string bytes, d) => bytes.length + uptoBulk d + 1
  | (_, d) => uptoBulk d + 1
 end
def uptoSmall : (H : Type) → List (DataW H) → Bool := fun _ ds => decide (uptoBulkAll ds ≤ 1048576)
def OpenSpec.upto (s : _root_.Go.ChangeSpec) : _root_.Go.OpenSpec := { _root_.Go.OpenSpec.ofChange s with cond := some uptoSmall }

/-- 'spinneylaw14.RedblackOf', WHERE WHAT IT READS IS OF BULK AT MOST 1048576: true; the input reads as it did. -/
def redblackOfUptoRow : OpenClaim := { program := "ytlnecfjnffdciaagreat", sum := "2ba49a85133919f4f1583462f1226c583319ec8a2be3155fd41925d2bf1bc73c", func := "spinney/spinneylaw14.RedblackOf", spec := "redblackOf", unfollowed := true, recurses := true, loops := true, apart := false, narrowed := true }
def RedblackOfUptoSaid : Prop := redblackOfUptoRow.holds Tryz.pinned (OpenSpec.upto redblackOfSpec)

/-- 'spinneylaw14.RedblackSteps', WHERE WHAT IT READS IS OF BULK AT MOST 1048576: true; the input reads as it did. -/
def redblackStepsUptoRow : OpenClaim := { program := "ytlnecfjnffdciaagreat", sum := "2ba49a85133919f4f1583462f1226c583319ec8a2be3155fd41925d2bf1bc73c", func := "spinney/spinneylaw14.RedblackSteps", spec := "redblackSteps", unfollowed := true, recurses := true, loops := true, apart := false, narrowed := true }
def RedblackStepsUptoSaid : Prop := redblackStepsUptoRow.holds Tryz.pinned (OpenSpec.upto redblackStepsSpec)

/-- 'spinneylaw14.RedblackBoth', WHERE WHAT IT READS IS OF BULK AT MOST 1048576: true; the input reads as it did. -/
def redblackBothUptoRow : OpenClaim := { program := "ytlnecfjnffdciaagreat", sum := "2ba49a85133919f4f1583462f1226c583319ec8a2be3155fd41925d2bf1bc73c", func := "spinney/spinneylaw14.RedblackBoth", spec := "redblackBoth", unfollowed := true, recurses := true, loops := true, apart := false, narrowed := true }
def RedblackBothUptoSaid : Prop := redblackBothUptoRow.holds Tryz.pinned (OpenSpec.upto redblackBothSpec)

/-- 'spinneylaw14.RedblackStays', WHERE WHAT IT READS IS OF BULK AT MOST 1048576: true; the input reads as it did. -/
def redblackStaysUptoRow : OpenClaim := { program := "ytlnecfjnffdciaagreat", sum := "2ba49a85133919f4f1583462f1226c583319ec8a2be3155fd41925d2bf1bc73c", func := "spinney/spinneylaw14.RedblackStays", spec := "redblackStays", unfollowed := true, recurses := true, loops := true, apart := false, narrowed := true }
def RedblackStaysUptoSaid : Prop := redblackStaysUptoRow.holds Tryz.pinned (OpenSpec.upto redblackStaysSpec)

/-- 'spinneylaw14.RedblackMany', WHERE WHAT IT READS IS OF BULK AT MOST 1048576: true; the input reads as it did. -/
def redblackManyUptoRow : OpenClaim := { program := "ytlnecfjnffdciaagreat", sum := "2ba49a85133919f4f1583462f1226c583319ec8a2be3155fd41925d2bf1bc73c", func := "spinney/spinneylaw14.RedblackMany", spec := "redblackMany", unfollowed := true, recurses := true, apart := false, narrowed := true }
def RedblackManyUptoSaid : Prop := redblackManyUptoRow.holds Tryz.pinned (OpenSpec.upto redblackManySpec)

/-- 'spinneylaw15.RangesBetween', WHERE WHAT IT READS IS OF BULK AT MOST 1048576: true; the input reads as it did. -/
def rangesBetweenUptoRow : OpenClaim := { program := "ytlnecfjnffdciaagreat", sum := "2ba49a85133919f4f1583462f1226c583319ec8a2be3155fd41925d2bf1bc73c", func := "spinney/spinneylaw15.RangesBetween", spec := "rangesBetween", unfollowed := true, recurses := true, loops := true, apart := false, narrowed := true }
def RangesBetweenUptoSaid : Prop := rangesBetweenUptoRow.holds Tryz.pinned (OpenSpec.upto rangesBetweenSpec)

end Rows
end Go.Proofs.YtlnecfjnffdciaaGreat
