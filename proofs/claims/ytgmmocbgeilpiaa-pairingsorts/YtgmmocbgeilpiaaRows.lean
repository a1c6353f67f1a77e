/-
  NARROWER THAN 'FOR EVERY INPUT', by the rows' own cells (each row's printed sentence says how): PairingSorts: loops · PairingNil: loops.
  DERIVED. THE GIVEN ROWS OF THIS SEAT. 2 by the template 'for every input the law returns true; each argument reads behind the call as it read before'; 0 by the template 'total and deterministic' (their statements: YtgmmocbgeilpiaaTotals.lean).
  GIVEN WITH THE SEED: the statements are not yours to turn. If you find one false, say at which input.
  Laid BY PROGRAM, IN A SANDBOX (cutbox-rows.mjs): the forced cells as the released guide's own fill.sh prints them over the translation 09b5266024e0b5a9… (all of the seat's roots in one cut). By AI agents, Wed Nov 11 2026. No macro, syntax, notation, axiom, sorry.
-/
import Derived.Test.YtgmmocbgeilpiaaChecked
import GoSem.Claim
import GoSem.ClaimJoined
import GoSem.ClaimMapViews
import Derived.JoinedTies
import Derived.KernelRfl
namespace Go.Proofs.Ytgmmocbgeilpiaa
/- THE CELL 'sum', in the pinned program and in every row, IS THE sha256 OF THE DUMP (.gsa) THAT YtgmmocbgeilpiaaProg.lean LOADS. Nothing in Lean hashes anything: it is a label: what it is worth is what the hold of that sum in a sandbox is worth. -/
noncomputable def Try.pinned : Pinned := { name := "ytgmmocbgeilpiaa", sum := "09b5266024e0b5a9d29f0438078e41e43ae05fa7d7a70421d4632a1762dafae1", checked := Try.checked }
namespace Rows
def none {H : Type} : Left H := { results := [], args := [] }

/-- 'spinneylaw19.PairingSorts': WHATEVER THE INPUT: true; the input reads as it did. -/
def pairingSortsSpec : ChangeSpec := { name := "pairingSorts", fn := fun _ => fun
  | [d1, d2] => { results := [.lit (.bool true)], args := [d1, d2] }
  | _ => none }
def pairingSortsRow : OpenClaim := { program := "ytgmmocbgeilpiaa", sum := "09b5266024e0b5a9d29f0438078e41e43ae05fa7d7a70421d4632a1762dafae1", func := "spinney/spinneylaw19.PairingSorts", spec := "pairingSorts", unfollowed := true, recurses := true, loops := true, apart := false }
def PairingSortsSaid : Prop := pairingSortsRow.holds Try.pinned (OpenSpec.ofChange pairingSortsSpec)

/-- ITS FALSE NEIGHBOUR: 'it returns false'. Refute it at one input. -/
def pairingSortsWrong : ChangeSpec := { name := "pairingSorts", fn := fun _ => fun
  | [d1, d2] => { results := [.lit (.bool false)], args := [d1, d2] }
  | _ => none }
def PairingSortsWrongFalsely : Prop := pairingSortsRow.holds Try.pinned (OpenSpec.ofChange pairingSortsWrong)

/-- 'spinneylaw19.PairingNil': WHATEVER THE INPUT: true; the input reads as it did. -/
def pairingNilSpec : ChangeSpec := { name := "pairingNil", fn := fun _ => fun
  | [d] => { results := [.lit (.bool true)], args := [d] }
  | _ => none }
def pairingNilRow : OpenClaim := { program := "ytgmmocbgeilpiaa", sum := "09b5266024e0b5a9d29f0438078e41e43ae05fa7d7a70421d4632a1762dafae1", func := "spinney/spinneylaw19.PairingNil", spec := "pairingNil", unfollowed := true, recurses := true, loops := true, apart := false }
def PairingNilSaid : Prop := pairingNilRow.holds Try.pinned (OpenSpec.ofChange pairingNilSpec)

/-- ITS FALSE NEIGHBOUR: 'it returns false'. Refute it at one input. -/
def pairingNilWrong : ChangeSpec := { name := "pairingNil", fn := fun _ => fun
  | [d] => { results := [.lit (.bool false)], args := [d] }
  | _ => none }
def PairingNilWrongFalsely : Prop := pairingNilRow.holds Try.pinned (OpenSpec.ofChange pairingNilWrong)

/- THE SECOND FORM. 'bulk': how many values and letters a reading holds, each counted each time it is reached (what is shared counts as often as it is met; a slice's spare places count too). A statement '..UptoSaid' is the law's where the arguments, and the package variables that the reading takes, are together of bulk at most 1048576: NARROWER than '..Said'. Prove '..Said' where nothing that the law and all that it calls make is longer than what came in: it says more and counts as full. Else prove '..UptoSaid'. A law counts once. -/
mutual
def uptoBulk {H : Type} : DataW H → Nat
  | .lit (.string bytes) => bytes.length + 1
  | .lit _ => 1
  | .nil => 1
  | .ptr d => uptoBulk d + 1
  | .slice elems spare => uptoBulkAll elems + uptoBulkAll spare + 1
  | .agg parts => uptoBulkAll parts + 1
  | .iface _ d => uptoBulk d + 1
  | .map entries => uptoBulkEntries entries + 1
  | .held _ => 1
def uptoBulkAll {H : Type} : List (DataW H) → Nat
  | [] => 0
  | d :: r => uptoBulk d + uptoBulkAll r
def uptoBulkEntries {H : Type} : List (Lit × DataW H) → Nat
  | [] => 0
  | x :: r => uptoBulkEntry x + uptoBulkEntries r
def uptoBulkEntry {H : Type} : Lit × DataW H → Nat
  | (.string bytes, d) => bytes.length + uptoBulk d + 1
  | (_, d) => uptoBulk d + 1
 end
def uptoSmall : (H : Type) → List (DataW H) → Bool := fun _ ds => decide (uptoBulkAll ds ≤ 1048576)
def OpenSpec.upto (s : _root_.Go.ChangeSpec) : _root_.Go.OpenSpec := { _root_.Go.OpenSpec.ofChange s with cond := some uptoSmall }

/-- 'spinneylaw19.PairingSorts', WHERE WHAT IT READS IS OF BULK AT MOST 1048576: true; the input reads as it did. -/
def pairingSortsUptoRow : OpenClaim := { program := "ytgmmocbgeilpiaa", sum := "09b5266024e0b5a9d29f0438078e41e43ae05fa7d7a70421d4632a1762dafae1", func := "spinney/spinneylaw19.PairingSorts", spec := "pairingSorts", unfollowed := true, recurses := true, loops := true, apart := false, narrowed := true }
def PairingSortsUptoSaid : Prop := pairingSortsUptoRow.holds Try.pinned (OpenSpec.upto pairingSortsSpec)

/-- 'spinneylaw19.PairingNil', WHERE WHAT IT READS IS OF BULK AT MOST 1048576: true; the input reads as it did. -/
def pairingNilUptoRow : OpenClaim := { program := "ytgmmocbgeilpiaa", sum := "09b5266024e0b5a9d29f0438078e41e43ae05fa7d7a70421d4632a1762dafae1", func := "spinney/spinneylaw19.PairingNil", spec := "pairingNil", unfollowed := true, recurses := true, loops := true, apart := false, narrowed := true }
def PairingNilUptoSaid : Prop := pairingNilUptoRow.holds Try.pinned (OpenSpec.upto pairingNilSpec)

end Rows
end Go.Proofs.Ytgmmocbgeilpiaa
