/-
  NARROWER THAN 'FOR EVERY INPUT', by the rows' own cells (each row's printed sentence says how): PairingOf: loops · PairingSteps: loops · PairingMelds: loops.
  DERIVED. THE GIVEN ROWS OF THIS SEAT. 3 by the template 'for every input the law returns true; each argument reads behind the call as it read before'; 0 by the template 'total and deterministic' (their statements: YtgmmocbgeilpiaaGreatTotals.lean).
  GIVEN WITH THE SEED: the statements are not yours to turn. If you find one false, say at which input.
  Laid BY PROGRAM, IN A SANDBOX (cutbox-rows.mjs): the forced cells as the released guide's own fill.sh prints them over the translation 151fe8c81410c277… (all of the seat's roots in one cut). By AI agents, Wed Nov 11 2026. No macro, syntax, notation, axiom, sorry.
-/
import Derived.Test.YtgmmocbgeilpiaaGreatChecked
import GoSem.Claim
import GoSem.ClaimJoined
import GoSem.ClaimMapViews
import Derived.JoinedTies
import Derived.KernelRfl
namespace Go.Proofs.YtgmmocbgeilpiaaGreat
/- THE CELL 'sum', in the pinned program and in every row, IS THE sha256 OF THE DUMP (.gsa) THAT YtgmmocbgeilpiaaGreatProg.lean LOADS. Nothing in Lean hashes anything: it is a label: what it is worth is what the hold of that sum in a sandbox is worth. -/
noncomputable def Tryz.pinned : Pinned := { name := "ytgmmocbgeilpiaagreat", sum := "151fe8c81410c277fba71608a784e787d2c6de6ec62c3192068000763fe8e3ee", checked := Tryz.checked }
namespace Rows
def none {H : Type} : Left H := { results := [], args := [] }

/-- 'spinneylaw19.PairingOf': WHATEVER THE INPUT: true; the input reads as it did. -/
def pairingOfSpec : ChangeSpec := { name := "pairingOf", fn := fun _ => fun
  | [d1, d2] => { results := [.lit (.bool true)], args := [d1, d2] }
  | _ => none }
def pairingOfRow : OpenClaim := { program := "ytgmmocbgeilpiaagreat", sum := "151fe8c81410c277fba71608a784e787d2c6de6ec62c3192068000763fe8e3ee", func := "spinney/spinneylaw19.PairingOf", spec := "pairingOf", unfollowed := true, recurses := true, loops := true, apart := false }
def PairingOfSaid : Prop := pairingOfRow.holds Tryz.pinned (OpenSpec.ofChange pairingOfSpec)

/-- ITS FALSE NEIGHBOUR: 'it returns false'. Refute it at one input. -/
def pairingOfWrong : ChangeSpec := { name := "pairingOf", fn := fun _ => fun
  | [d1, d2] => { results := [.lit (.bool false)], args := [d1, d2] }
  | _ => none }
def PairingOfWrongFalsely : Prop := pairingOfRow.holds Tryz.pinned (OpenSpec.ofChange pairingOfWrong)

/-- 'spinneylaw19.PairingSteps': WHATEVER THE INPUT: true; the input reads as it did. -/
def pairingStepsSpec : ChangeSpec := { name := "pairingSteps", fn := fun _ => fun
  | [d1, d2, d3] => { results := [.lit (.bool true)], args := [d1, d2, d3] }
  | _ => none }
def pairingStepsRow : OpenClaim := { program := "ytgmmocbgeilpiaagreat", sum := "151fe8c81410c277fba71608a784e787d2c6de6ec62c3192068000763fe8e3ee", func := "spinney/spinneylaw19.PairingSteps", spec := "pairingSteps", unfollowed := true, recurses := true, loops := true, apart := false }
def PairingStepsSaid : Prop := pairingStepsRow.holds Tryz.pinned (OpenSpec.ofChange pairingStepsSpec)

/-- ITS FALSE NEIGHBOUR: 'it returns false'. Refute it at one input. -/
def pairingStepsWrong : ChangeSpec := { name := "pairingSteps", fn := fun _ => fun
  | [d1, d2, d3] => { results := [.lit (.bool false)], args := [d1, d2, d3] }
  | _ => none }
def PairingStepsWrongFalsely : Prop := pairingStepsRow.holds Tryz.pinned (OpenSpec.ofChange pairingStepsWrong)

/-- 'spinneylaw19.PairingMelds': WHATEVER THE INPUT: true; the input reads as it did. -/
def pairingMeldsSpec : ChangeSpec := { name := "pairingMelds", fn := fun _ => fun
  | [d] => { results := [.lit (.bool true)], args := [d] }
  | _ => none }
def pairingMeldsRow : OpenClaim := { program := "ytgmmocbgeilpiaagreat", sum := "151fe8c81410c277fba71608a784e787d2c6de6ec62c3192068000763fe8e3ee", func := "spinney/spinneylaw19.PairingMelds", spec := "pairingMelds", unfollowed := true, recurses := true, loops := true, apart := false }
def PairingMeldsSaid : Prop := pairingMeldsRow.holds Tryz.pinned (OpenSpec.ofChange pairingMeldsSpec)

/-- ITS FALSE NEIGHBOUR: 'it returns false'. Refute it at one input. -/
def pairingMeldsWrong : ChangeSpec := { name := "pairingMelds", fn := fun _ => fun
  | [d] => { results := [.lit (.bool false)], args := [d] }
  | _ => none }
def PairingMeldsWrongFalsely : Prop := pairingMeldsRow.holds Tryz.pinned (OpenSpec.ofChange pairingMeldsWrong)

/- THE SECOND FORM. 'bulk': how many values and letters a reading holds, each counted each time it is reached (what is shared counts as often as it is met; a slice's spare places count too). A statement '..UptoSaid' is the law's where the arguments, and the package variables that the reading takes, are together of bulk at most 1048576: NARROWER than '..Said'. Prove '..Said' where nothing that the law and all that it calls make is longer than what came in: it says more and counts as full. Else prove '..UptoSaid'. A law counts once. -/
mutual
def uptoBulk {H : Type} : DataW H → Nat
  | .lit (.string bytes) => bytes.length + 1
  | .lit _ => 1
  | .nil => 1
  | .ptr d => uptoBulk d + 1
  | .slice elems spare => uptoBulkAll elems + uptoBulkAll spare + 1
  | .agg parts => uptoBulkAll parts + 1
  | .iface _ d => uptoBulk d + 1
  | .map entries => uptoBulkEntries entries + 1
  | .held _ => 1
def uptoBulkAll {H : Type} : List (DataW H) → Nat
  | [] => 0
  | d :: r => uptoBulk d + uptoBulkAll r
def uptoBulkEntries {H : Type} : List (Lit × DataW H) → Nat
  | [] => 0
  | x :: r => uptoBulkEntry x + uptoBulkEntries r
def uptoBulkEntry {H : Type} : Lit × DataW H → Nat
  | (.string bytes, d) => bytes.length + uptoBulk d + 1
  | (_, d) => uptoBulk d + 1
 end
def uptoSmall : (H : Type) → List (DataW H) → Bool := fun _ ds => decide (uptoBulkAll ds ≤ 1048576)
def OpenSpec.upto (s : _root_.Go.ChangeSpec) : _root_.Go.OpenSpec := { _root_.Go.OpenSpec.ofChange s with cond := some uptoSmall }

/-- 'spinneylaw19.PairingOf', WHERE WHAT IT READS IS OF BULK AT MOST 1048576: true; the input reads as it did. -/
def pairingOfUptoRow : OpenClaim := { program := "ytgmmocbgeilpiaagreat", sum := "151fe8c81410c277fba71608a784e787d2c6de6ec62c3192068000763fe8e3ee", func := "spinney/spinneylaw19.PairingOf", spec := "pairingOf", unfollowed := true, recurses := true, loops := true, apart := false, narrowed := true }
def PairingOfUptoSaid : Prop := pairingOfUptoRow.holds Tryz.pinned (OpenSpec.upto pairingOfSpec)

/-- 'spinneylaw19.PairingSteps', WHERE WHAT IT READS IS OF BULK AT MOST 1048576: true; the input reads as it did. -/
def pairingStepsUptoRow : OpenClaim := { program := "ytgmmocbgeilpiaagreat", sum := "151fe8c81410c277fba71608a784e787d2c6de6ec62c3192068000763fe8e3ee", func := "spinney/spinneylaw19.PairingSteps", spec := "pairingSteps", unfollowed := true, recurses := true, loops := true, apart := false, narrowed := true }
def PairingStepsUptoSaid : Prop := pairingStepsUptoRow.holds Tryz.pinned (OpenSpec.upto pairingStepsSpec)

/-- 'spinneylaw19.PairingMelds', WHERE WHAT IT READS IS OF BULK AT MOST 1048576: true; the input reads as it did. -/
def pairingMeldsUptoRow : OpenClaim := { program := "ytgmmocbgeilpiaagreat", sum := "151fe8c81410c277fba71608a784e787d2c6de6ec62c3192068000763fe8e3ee", func := "spinney/spinneylaw19.PairingMelds", spec := "pairingMelds", unfollowed := true, recurses := true, loops := true, apart := false, narrowed := true }
def PairingMeldsUptoSaid : Prop := pairingMeldsUptoRow.holds Tryz.pinned (OpenSpec.upto pairingMeldsSpec)

end Rows
end Go.Proofs.YtgmmocbgeilpiaaGreat
