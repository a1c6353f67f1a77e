/-
  NARROWER THAN 'FOR EVERY INPUT', by the rows' own cells (each row's printed sentence says how): TvecSteps: loops · TvecMany: loops · RedblackOf: loops · RedblackSteps: loops.
  DERIVED. THE GIVEN ROWS OF THIS SEAT. 4 by the template 'for every input the law returns true; each argument reads behind the call as it read before'; 0 by the template 'total and deterministic' (their statements: YtekoaiehhjgfiaaGreatTotals.lean).
  GIVEN WITH THE SEED: the statements are not yours to turn. If you find one false, say at which input.
  Laid BY PROGRAM, IN A SANDBOX (cutbox-rows.mjs): the forced cells as the released guide's own fill.sh prints them over the translation fe032daf1e3d552a… (all of the seat's roots in one cut). By AI agents, Wed Nov 11 2026. No macro, syntax, notation, axiom, sorry.
-/
import Derived.Test.YtekoaiehhjgfiaaGreatChecked
import GoSem.Claim
import GoSem.ClaimJoined
import GoSem.ClaimMapViews
import Derived.JoinedTies
import Derived.KernelRfl
namespace Go.Proofs.YtekoaiehhjgfiaaGreat
/- THE CELL 'sum', in the pinned program and in every row, IS THE sha256 OF THE DUMP (.gsa) THAT YtekoaiehhjgfiaaGreatProg.lean LOADS. Nothing in Lean hashes anything: it is a label: what it is worth is what the hold of that sum in a sandbox is worth. -/
noncomputable def Tryz.pinned : Pinned := { name := "ytekoaiehhjgfiaagreat", sum := "fe032daf1e3d552a0c7ddb17f16421ecdfd2d4a5ab167f096e14a1b114078b6c", checked := Tryz.checked }
namespace Rows
def none {H : Type} : Left H := { results := [], args := [] }

/-- 'spinneylaw13.TvecSteps': WHATEVER THE INPUT: true; the input reads as it did. -/
def tvecStepsSpec : ChangeSpec := { name := "tvecSteps", fn := fun _ => fun
  | [d1, d2] => { results := [.lit (.bool true)], args := [d1, d2] }
  | _ => none }
def tvecStepsRow : OpenClaim := { program := "ytekoaiehhjgfiaagreat", sum := "fe032daf1e3d552a0c7ddb17f16421ecdfd2d4a5ab167f096e14a1b114078b6c", func := "spinney/spinneylaw13.TvecSteps", spec := "tvecSteps", unfollowed := true, recurses := true, loops := true, apart := false }
def TvecStepsSaid : Prop := tvecStepsRow.holds Tryz.pinned (OpenSpec.ofChange tvecStepsSpec)

/-- ITS FALSE NEIGHBOUR: 'it returns false'. Refute it at one input. -/
def tvecStepsWrong : ChangeSpec := { name := "tvecSteps", fn := fun _ => fun
  | [d1, d2] => { results := [.lit (.bool false)], args := [d1, d2] }
  | _ => none }
def TvecStepsWrongFalsely : Prop := tvecStepsRow.holds Tryz.pinned (OpenSpec.ofChange tvecStepsWrong)

/-- 'spinneylaw13.TvecMany': WHATEVER THE INPUT: true; the input reads as it did. -/
def tvecManySpec : ChangeSpec := { name := "tvecMany", fn := fun _ => fun
  | [d1, d2] => { results := [.lit (.bool true)], args := [d1, d2] }
  | _ => none }
def tvecManyRow : OpenClaim := { program := "ytekoaiehhjgfiaagreat", sum := "fe032daf1e3d552a0c7ddb17f16421ecdfd2d4a5ab167f096e14a1b114078b6c", func := "spinney/spinneylaw13.TvecMany", spec := "tvecMany", unfollowed := true, recurses := true, loops := true, apart := false }
def TvecManySaid : Prop := tvecManyRow.holds Tryz.pinned (OpenSpec.ofChange tvecManySpec)

/-- ITS FALSE NEIGHBOUR: 'it returns false'. Refute it at one input. -/
def tvecManyWrong : ChangeSpec := { name := "tvecMany", fn := fun _ => fun
  | [d1, d2] => { results := [.lit (.bool false)], args := [d1, d2] }
  | _ => none }
def TvecManyWrongFalsely : Prop := tvecManyRow.holds Tryz.pinned (OpenSpec.ofChange tvecManyWrong)

/-- 'spinneylaw14.RedblackOf': WHATEVER THE INPUT: true; the input reads as it did. -/
def redblackOfSpec : ChangeSpec := { name := "redblackOf", fn := fun _ => fun
  | [d1, d2] => { results := [.lit (.bool true)], args := [d1, d2] }
  | _ => none }
def redblackOfRow : OpenClaim := { program := "ytekoaiehhjgfiaagreat", sum := "fe032daf1e3d552a0c7ddb17f16421ecdfd2d4a5ab167f096e14a1b114078b6c", func := "spinney/spinneylaw14.RedblackOf", spec := "redblackOf", unfollowed := true, recurses := true, loops := true, apart := false }
def RedblackOfSaid : Prop := redblackOfRow.holds Tryz.pinned (OpenSpec.ofChange redblackOfSpec)

/-- ITS FALSE NEIGHBOUR: 'it returns false'. Refute it at one input. -/
def redblackOfWrong : ChangeSpec := { name := "redblackOf", fn := fun _ => fun
  | [d1, d2] => { results := [.lit (.bool false)], args := [d1, d2] }
  | _ => none }
def RedblackOfWrongFalsely : Prop := redblackOfRow.holds Tryz.pinned (OpenSpec.ofChange redblackOfWrong)

/-- 'spinneylaw14.RedblackSteps': WHATEVER THE INPUT: true; the input reads as it did. -/
def redblackStepsSpec : ChangeSpec := { name := "redblackSteps", fn := fun _ => fun
  | [d1, d2] => { results := [.lit (.bool true)], args := [d1, d2] }
  | _ => none }
def redblackStepsRow : OpenClaim := { program := "ytekoaiehhjgfiaagreat", sum := "fe032daf1e3d552a0c7ddb17f16421ecdfd2d4a5ab167f096e14a1b114078b6c", func := "spinney/spinneylaw14.RedblackSteps", spec := "redblackSteps", unfollowed := true, recurses := true, loops := true, apart := false }
def RedblackStepsSaid : Prop := redblackStepsRow.holds Tryz.pinned (OpenSpec.ofChange redblackStepsSpec)

/-- ITS FALSE NEIGHBOUR: 'it returns false'. Refute it at one input. -/
def redblackStepsWrong : ChangeSpec := { name := "redblackSteps", fn := fun _ => fun
  | [d1, d2] => { results := [.lit (.bool false)], args := [d1, d2] }
  | _ => none }
def RedblackStepsWrongFalsely : Prop := redblackStepsRow.holds Tryz.pinned (OpenSpec.ofChange redblackStepsWrong)

/- THE SECOND FORM. 'bulk': how many values and letters a reading holds, each counted each time it is reached (what is shared counts as often as it is met; a slice's spare places count too). A statement '..UptoSaid' is the law's where the arguments, and the package variables that the reading takes, are together of bulk at most 1048576: NARROWER than '..Said'. Prove '..Said' where nothing that the law and all that it calls make is longer than what came in: it says more and counts as full. Else prove '..UptoSaid'. A law counts once. -/
mutual
def uptoBulk {H : Type} : DataW H → Nat
  | .lit (.string bytes) => bytes.length + 1
  | .lit _ => 1
  | .nil => 1
  | .ptr d => uptoBulk d + 1
  | .slice elems spare => uptoBulkAll elems + uptoBulkAll spare + 1
  | .agg parts => uptoBulkAll parts + 1
  | .iface _ d => uptoBulk d + 1
  | .map entries => uptoBulkEntries entries + 1
  | .held _ => 1
def uptoBulkAll {H : Type} : List (DataW H) → Nat
  | [] => 0
  | d :: r => uptoBulk d + uptoBulkAll r
def uptoBulkEntries {H : Type} : List (Lit × DataW H) → Nat
  | [] => 0
  | x :: r => uptoBulkEntry x + uptoBulkEntries r
def uptoBulkEntry {H : Type} : Lit × DataW H → Nat
  | (.string bytes, d) => bytes.length + uptoBulk d + 1
  | (_, d) => uptoBulk d + 1
 end
def uptoSmall : (H : Type) → List (DataW H) → Bool := fun _ ds => decide (uptoBulkAll ds ≤ 1048576)
def OpenSpec.upto (s : _root_.Go.ChangeSpec) : _root_.Go.OpenSpec := { _root_.Go.OpenSpec.ofChange s with cond := some uptoSmall }

/-- 'spinneylaw13.TvecSteps', WHERE WHAT IT READS IS OF BULK AT MOST 1048576: true; the input reads as it did. -/
def tvecStepsUptoRow : OpenClaim := { program := "ytekoaiehhjgfiaagreat", sum := "fe032daf1e3d552a0c7ddb17f16421ecdfd2d4a5ab167f096e14a1b114078b6c", func := "spinney/spinneylaw13.TvecSteps", spec := "tvecSteps", unfollowed := true, recurses := true, loops := true, apart := false, narrowed := true }
def TvecStepsUptoSaid : Prop := tvecStepsUptoRow.holds Tryz.pinned (OpenSpec.upto tvecStepsSpec)

/-- 'spinneylaw13.TvecMany', WHERE WHAT IT READS IS OF BULK AT MOST 1048576: true; the input reads as it did. -/
def tvecManyUptoRow : OpenClaim := { program := "ytekoaiehhjgfiaagreat", sum := "fe032daf1e3d552a0c7ddb17f16421ecdfd2d4a5ab167f096e14a1b114078b6c", func := "spinney/spinneylaw13.TvecMany", spec := "tvecMany", unfollowed := true, recurses := true, loops := true, apart := false, narrowed := true }
def TvecManyUptoSaid : Prop := tvecManyUptoRow.holds Tryz.pinned (OpenSpec.upto tvecManySpec)

/-- 'spinneylaw14.RedblackOf', WHERE WHAT IT READS IS OF BULK AT MOST 1048576: true; the input reads as it did. -/
def redblackOfUptoRow : OpenClaim := { program := "ytekoaiehhjgfiaagreat", sum := "fe032daf1e3d552a0c7ddb17f16421ecdfd2d4a5ab167f096e14a1b114078b6c", func := "spinney/spinneylaw14.RedblackOf", spec := "redblackOf", unfollowed := true, recurses := true, loops := true, apart := false, narrowed := true }
def RedblackOfUptoSaid : Prop := redblackOfUptoRow.holds Tryz.pinned (OpenSpec.upto redblackOfSpec)

/-- 'spinneylaw14.RedblackSteps', WHERE WHAT IT READS IS OF BULK AT MOST 1048576: true; the input reads as it did. -/
def redblackStepsUptoRow : OpenClaim := { program := "ytekoaiehhjgfiaagreat", sum := "fe032daf1e3d552a0c7ddb17f16421ecdfd2d4a5ab167f096e14a1b114078b6c", func := "spinney/spinneylaw14.RedblackSteps", spec := "redblackSteps", unfollowed := true, recurses := true, loops := true, apart := false, narrowed := true }
def RedblackStepsUptoSaid : Prop := redblackStepsUptoRow.holds Tryz.pinned (OpenSpec.upto redblackStepsSpec)

end Rows
end Go.Proofs.YtekoaiehhjgfiaaGreat
