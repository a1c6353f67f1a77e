/-
  NARROWER THAN 'FOR EVERY INPUT', by the rows' own cells (each row's printed sentence says how): ConcatCuts: loops · ConcatOne: loops · ConcatTurns: loops · ConcatLaws: loops · ConcatDeep: loops.
  DERIVED. THE GIVEN ROWS OF THIS SEAT. 5 by the template 'for every input the law returns true; each argument reads behind the call as it read before'; 0 by the template 'total and deterministic' (their statements: YtpnfmcmhcjekfabTotals.lean).
  GIVEN WITH THE SEED: the statements are not yours to turn. If you find one false, say at which input.
  Laid BY PROGRAM, IN A SANDBOX (cutbox-rows.mjs): the forced cells as the released guide's own fill.sh prints them over the translation 03f04d1ee660470b… (all of the seat's roots in one cut). By AI agents, Wed Nov 11 2026. No macro, syntax, notation, axiom, sorry.
-/
import Derived.Test.YtpnfmcmhcjekfabChecked
import GoSem.Claim
import GoSem.ClaimJoined
import GoSem.ClaimMapViews
import Derived.JoinedTies
import Derived.KernelRfl
namespace Go.Proofs.Ytpnfmcmhcjekfab
/- THE CELL 'sum', in the pinned program and in every row, IS THE sha256 OF THE DUMP (.gsa) THAT YtpnfmcmhcjekfabProg.lean LOADS. Nothing in Lean hashes anything: it is a label: what it is worth is what the hold of that sum in a sandbox is worth. -/
noncomputable def Try.pinned : Pinned := { name := "ytpnfmcmhcjekfab", sum := "03f04d1ee660470baacada28e0a140a7cd138f703f2d3c04f1c0044eefe77305", checked := Try.checked }
namespace Rows
def none {H : Type} : Left H := { results := [], args := [] }

/-- 'spinneylaw12.ConcatCuts': WHATEVER THE INPUT: true; the input reads as it did. -/
def concatCutsSpec : ChangeSpec := { name := "concatCuts", fn := fun _ => fun
  | [d1, d2, d3] => { results := [.lit (.bool true)], args := [d1, d2, d3] }
  | _ => none }
def concatCutsRow : OpenClaim := { program := "ytpnfmcmhcjekfab", sum := "03f04d1ee660470baacada28e0a140a7cd138f703f2d3c04f1c0044eefe77305", func := "spinney/spinneylaw12.ConcatCuts", spec := "concatCuts", unfollowed := true, recurses := true, loops := true, apart := false }
def ConcatCutsSaid : Prop := concatCutsRow.holds Try.pinned (OpenSpec.ofChange concatCutsSpec)

/-- ITS FALSE NEIGHBOUR: 'it returns false'. Refute it at one input. -/
def concatCutsWrong : ChangeSpec := { name := "concatCuts", fn := fun _ => fun
  | [d1, d2, d3] => { results := [.lit (.bool false)], args := [d1, d2, d3] }
  | _ => none }
def ConcatCutsWrongFalsely : Prop := concatCutsRow.holds Try.pinned (OpenSpec.ofChange concatCutsWrong)

/-- 'spinneylaw12.ConcatOne': WHATEVER THE INPUT: true; the input reads as it did. -/
def concatOneSpec : ChangeSpec := { name := "concatOne", fn := fun _ => fun
  | [d1, d2, d3] => { results := [.lit (.bool true)], args := [d1, d2, d3] }
  | _ => none }
def concatOneRow : OpenClaim := { program := "ytpnfmcmhcjekfab", sum := "03f04d1ee660470baacada28e0a140a7cd138f703f2d3c04f1c0044eefe77305", func := "spinney/spinneylaw12.ConcatOne", spec := "concatOne", unfollowed := true, recurses := true, loops := true, apart := false }
def ConcatOneSaid : Prop := concatOneRow.holds Try.pinned (OpenSpec.ofChange concatOneSpec)

/-- ITS FALSE NEIGHBOUR: 'it returns false'. Refute it at one input. -/
def concatOneWrong : ChangeSpec := { name := "concatOne", fn := fun _ => fun
  | [d1, d2, d3] => { results := [.lit (.bool false)], args := [d1, d2, d3] }
  | _ => none }
def ConcatOneWrongFalsely : Prop := concatOneRow.holds Try.pinned (OpenSpec.ofChange concatOneWrong)

/-- 'spinneylaw12.ConcatTurns': WHATEVER THE INPUT: true; the input reads as it did. -/
def concatTurnsSpec : ChangeSpec := { name := "concatTurns", fn := fun _ => fun
  | [d1, d2] => { results := [.lit (.bool true)], args := [d1, d2] }
  | _ => none }
def concatTurnsRow : OpenClaim := { program := "ytpnfmcmhcjekfab", sum := "03f04d1ee660470baacada28e0a140a7cd138f703f2d3c04f1c0044eefe77305", func := "spinney/spinneylaw12.ConcatTurns", spec := "concatTurns", unfollowed := true, recurses := true, loops := true, apart := false }
def ConcatTurnsSaid : Prop := concatTurnsRow.holds Try.pinned (OpenSpec.ofChange concatTurnsSpec)

/-- ITS FALSE NEIGHBOUR: 'it returns false'. Refute it at one input. -/
def concatTurnsWrong : ChangeSpec := { name := "concatTurns", fn := fun _ => fun
  | [d1, d2] => { results := [.lit (.bool false)], args := [d1, d2] }
  | _ => none }
def ConcatTurnsWrongFalsely : Prop := concatTurnsRow.holds Try.pinned (OpenSpec.ofChange concatTurnsWrong)

/-- 'spinneylaw12.ConcatLaws': WHATEVER THE INPUT: true; the input reads as it did. -/
def concatLawsSpec : ChangeSpec := { name := "concatLaws", fn := fun _ => fun
  | [d1, d2] => { results := [.lit (.bool true)], args := [d1, d2] }
  | _ => none }
def concatLawsRow : OpenClaim := { program := "ytpnfmcmhcjekfab", sum := "03f04d1ee660470baacada28e0a140a7cd138f703f2d3c04f1c0044eefe77305", func := "spinney/spinneylaw12.ConcatLaws", spec := "concatLaws", unfollowed := true, recurses := true, loops := true, apart := false }
def ConcatLawsSaid : Prop := concatLawsRow.holds Try.pinned (OpenSpec.ofChange concatLawsSpec)

/-- ITS FALSE NEIGHBOUR: 'it returns false'. Refute it at one input. -/
def concatLawsWrong : ChangeSpec := { name := "concatLaws", fn := fun _ => fun
  | [d1, d2] => { results := [.lit (.bool false)], args := [d1, d2] }
  | _ => none }
def ConcatLawsWrongFalsely : Prop := concatLawsRow.holds Try.pinned (OpenSpec.ofChange concatLawsWrong)

/-- 'spinneylaw12.ConcatDeep': WHATEVER THE INPUT: true; the input reads as it did. -/
def concatDeepSpec : ChangeSpec := { name := "concatDeep", fn := fun _ => fun
  | [d1, d2] => { results := [.lit (.bool true)], args := [d1, d2] }
  | _ => none }
def concatDeepRow : OpenClaim := { program := "ytpnfmcmhcjekfab", sum := "03f04d1ee660470baacada28e0a140a7cd138f703f2d3c04f1c0044eefe77305", func := "spinney/spinneylaw12.ConcatDeep", spec := "concatDeep", unfollowed := true, recurses := true, loops := true, apart := false }
def ConcatDeepSaid : Prop := concatDeepRow.holds Try.pinned (OpenSpec.ofChange concatDeepSpec)

/-- ITS FALSE NEIGHBOUR: 'it returns false'. Refute it at one input. -/
def concatDeepWrong : ChangeSpec := { name := "concatDeep", fn := fun _ => fun
  | [d1, d2] => { results := [.lit (.bool false)], args := [d1, d2] }
  | _ => none }
def ConcatDeepWrongFalsely : Prop := concatDeepRow.holds Try.pinned (OpenSpec.ofChange concatDeepWrong)

/- THE SECOND FORM. 'bulk': how many values and letters a reading holds, each counted each time it is reached (what is shared counts as often as it is met; a slice's spare places count too). A statement '..UptoSaid' is the law's where the arguments, and the package variables that the reading takes, are together of bulk at most 1048576: NARROWER than '..Said'. Prove '..Said' where nothing that the law and all that it calls make is longer than what came in: it says more and counts as full. Else prove '..UptoSaid'. A law counts once. -/
mutual
def uptoBulk {H : Type} : DataW H → Nat
  | .lit (.string bytes) => bytes.length + 1
  | .lit _ => 1
  | .nil => 1
  | .ptr d => uptoBulk d + 1
  | .slice elems spare => uptoBulkAll elems + uptoBulkAll spare + 1
  | .agg parts => uptoBulkAll parts + 1
  | .iface _ d => uptoBulk d + 1
  | .map entries => uptoBulkEntries entries + 1
  | .held _ => 1
def uptoBulkAll {H : Type} : List (DataW H) → Nat
  | [] => 0
  | d :: r => uptoBulk d + uptoBulkAll r
def uptoBulkEntries {H : Type} : List (Lit × DataW H) → Nat
  | [] => 0
  | x :: r => uptoBulkEntry x + uptoBulkEntries r
def uptoBulkEntry {H : Type} : Lit × DataW H → Nat
  | (.string bytes, d) => bytes.length + uptoBulk d + 1
  | (_, d) => uptoBulk d + 1
 end
def uptoSmall : (H : Type) → List (DataW H) → Bool := fun _ ds => decide (uptoBulkAll ds ≤ 1048576)
def OpenSpec.upto (s : _root_.Go.ChangeSpec) : _root_.Go.OpenSpec := { _root_.Go.OpenSpec.ofChange s with cond := some uptoSmall }

/-- 'spinneylaw12.ConcatCuts', WHERE WHAT IT READS IS OF BULK AT MOST 1048576: true; the input reads as it did. -/
def concatCutsUptoRow : OpenClaim := { program := "ytpnfmcmhcjekfab", sum := "03f04d1ee660470baacada28e0a140a7cd138f703f2d3c04f1c0044eefe77305", func := "spinney/spinneylaw12.ConcatCuts", spec := "concatCuts", unfollowed := true, recurses := true, loops := true, apart := false, narrowed := true }
def ConcatCutsUptoSaid : Prop := concatCutsUptoRow.holds Try.pinned (OpenSpec.upto concatCutsSpec)

/-- 'spinneylaw12.ConcatOne', WHERE WHAT IT READS IS OF BULK AT MOST 1048576: true; the input reads as it did. -/
def concatOneUptoRow : OpenClaim := { program := "ytpnfmcmhcjekfab", sum := "03f04d1ee660470baacada28e0a140a7cd138f703f2d3c04f1c0044eefe77305", func := "spinney/spinneylaw12.ConcatOne", spec := "concatOne", unfollowed := true, recurses := true, loops := true, apart := false, narrowed := true }
def ConcatOneUptoSaid : Prop := concatOneUptoRow.holds Try.pinned (OpenSpec.upto concatOneSpec)

/-- 'spinneylaw12.ConcatTurns', WHERE WHAT IT READS IS OF BULK AT MOST 1048576: true; the input reads as it did. -/
def concatTurnsUptoRow : OpenClaim := { program := "ytpnfmcmhcjekfab", sum := "03f04d1ee660470baacada28e0a140a7cd138f703f2d3c04f1c0044eefe77305", func := "spinney/spinneylaw12.ConcatTurns", spec := "concatTurns", unfollowed := true, recurses := true, loops := true, apart := false, narrowed := true }
def ConcatTurnsUptoSaid : Prop := concatTurnsUptoRow.holds Try.pinned (OpenSpec.upto concatTurnsSpec)

/-- 'spinneylaw12.ConcatLaws', WHERE WHAT IT READS IS OF BULK AT MOST 1048576: true; the input reads as it did. -/
def concatLawsUptoRow : OpenClaim := { program := "ytpnfmcmhcjekfab", sum := "03f04d1ee660470baacada28e0a140a7cd138f703f2d3c04f1c0044eefe77305", func := "spinney/spinneylaw12.ConcatLaws", spec := "concatLaws", unfollowed := true, recurses := true, loops := true, apart := false, narrowed := true }
def ConcatLawsUptoSaid : Prop := concatLawsUptoRow.holds Try.pinned (OpenSpec.upto concatLawsSpec)

/-- 'spinneylaw12.ConcatDeep', WHERE WHAT IT READS IS OF BULK AT MOST 1048576: true; the input reads as it did. -/
def concatDeepUptoRow : OpenClaim := { program := "ytpnfmcmhcjekfab", sum := "03f04d1ee660470baacada28e0a140a7cd138f703f2d3c04f1c0044eefe77305", func := "spinney/spinneylaw12.ConcatDeep", spec := "concatDeep", unfollowed := true, recurses := true, loops := true, apart := false, narrowed := true }
def ConcatDeepUptoSaid : Prop := concatDeepUptoRow.holds Try.pinned (OpenSpec.upto concatDeepSpec)

end Rows
end Go.Proofs.Ytpnfmcmhcjekfab
