/-
  NARROWER THAN 'FOR EVERY INPUT', by the rows' own cells (each row's printed sentence says how): SeqAsks: loops · SeqSame: loops · LazyRuns: loops · LazyCalls: loops.
  DERIVED. THE GIVEN ROWS OF THIS SEAT. 4 by the template 'for every input the law returns true; each argument reads behind the call as it read before'; 0 by the template 'total and deterministic' (their statements: YtbhfbjbigafnpaaGreatTotals.lean).
  GIVEN WITH THE SEED: the statements are not yours to turn. If you find one false, say at which input.
  Laid BY PROGRAM, IN A SANDBOX (cutbox-rows.mjs): the forced cells as the released guide's own fill.sh prints them over the translation 0844e640628b329d… (all of the seat's roots in one cut). By AI agents, Wed Nov 11 2026. No macro, syntax, notation, axiom, sorry.
-/
import Derived.Test.YtbhfbjbigafnpaaGreatChecked
import GoSem.Claim
import GoSem.ClaimJoined
import GoSem.ClaimMapViews
import Derived.JoinedTies
import Derived.KernelRfl
namespace Go.Proofs.YtbhfbjbigafnpaaGreat
/- THE CELL 'sum', in the pinned program and in every row, IS THE sha256 OF THE DUMP (.gsa) THAT YtbhfbjbigafnpaaGreatProg.lean LOADS. Nothing in Lean hashes anything: it is a label: what it is worth is what the hold of that sum in a sandbox is worth. -/
noncomputable def Tryz.pinned : Pinned := { name := "ytbhfbjbigafnpaagreat", sum := "0844e640628b329df2887a7656132767443b186a351b28d86982c59294917aba", checked := Tryz.checked }
namespace Rows
def none {H : Type} : Left H := { results := [], args := [] }

/-- 'spinneylaw23.SeqAsks': WHATEVER THE INPUT: true; the input reads as it did. -/
def seqAsksSpec : ChangeSpec := { name := "seqAsks", fn := fun _ => fun
  | [d1, d2] => { results := [.lit (.bool true)], args := [d1, d2] }
  | _ => none }
def seqAsksRow : OpenClaim := { program := "ytbhfbjbigafnpaagreat", sum := "0844e640628b329df2887a7656132767443b186a351b28d86982c59294917aba", func := "spinney/spinneylaw23.SeqAsks", spec := "seqAsks", unfollowed := true, recurses := true, loops := true, apart := false }
def SeqAsksSaid : Prop := seqAsksRow.holds Tryz.pinned (OpenSpec.ofChange seqAsksSpec)

/-- ITS FALSE NEIGHBOUR: 'it returns false'. Refute it at one input. -/
def seqAsksWrong : ChangeSpec := { name := "seqAsks", fn := fun _ => fun
  | [d1, d2] => { results := [.lit (.bool false)], args := [d1, d2] }
  | _ => none }
def SeqAsksWrongFalsely : Prop := seqAsksRow.holds Tryz.pinned (OpenSpec.ofChange seqAsksWrong)

/-- 'spinneylaw23.SeqSame': WHATEVER THE INPUT: true; the input reads as it did. -/
def seqSameSpec : ChangeSpec := { name := "seqSame", fn := fun _ => fun
  | [d1, d2, d3] => { results := [.lit (.bool true)], args := [d1, d2, d3] }
  | _ => none }
def seqSameRow : OpenClaim := { program := "ytbhfbjbigafnpaagreat", sum := "0844e640628b329df2887a7656132767443b186a351b28d86982c59294917aba", func := "spinney/spinneylaw23.SeqSame", spec := "seqSame", unfollowed := true, recurses := true, loops := true, apart := false }
def SeqSameSaid : Prop := seqSameRow.holds Tryz.pinned (OpenSpec.ofChange seqSameSpec)

/-- ITS FALSE NEIGHBOUR: 'it returns false'. Refute it at one input. -/
def seqSameWrong : ChangeSpec := { name := "seqSame", fn := fun _ => fun
  | [d1, d2, d3] => { results := [.lit (.bool false)], args := [d1, d2, d3] }
  | _ => none }
def SeqSameWrongFalsely : Prop := seqSameRow.holds Tryz.pinned (OpenSpec.ofChange seqSameWrong)

/-- 'spinneylaw24.LazyRuns': WHATEVER THE INPUT: true; the input reads as it did. -/
def lazyRunsSpec : ChangeSpec := { name := "lazyRuns", fn := fun _ => fun
  | [d1, d2, d3] => { results := [.lit (.bool true)], args := [d1, d2, d3] }
  | _ => none }
def lazyRunsRow : OpenClaim := { program := "ytbhfbjbigafnpaagreat", sum := "0844e640628b329df2887a7656132767443b186a351b28d86982c59294917aba", func := "spinney/spinneylaw24.LazyRuns", spec := "lazyRuns", unfollowed := true, recurses := true, loops := true, apart := false }
def LazyRunsSaid : Prop := lazyRunsRow.holds Tryz.pinned (OpenSpec.ofChange lazyRunsSpec)

/-- ITS FALSE NEIGHBOUR: 'it returns false'. Refute it at one input. -/
def lazyRunsWrong : ChangeSpec := { name := "lazyRuns", fn := fun _ => fun
  | [d1, d2, d3] => { results := [.lit (.bool false)], args := [d1, d2, d3] }
  | _ => none }
def LazyRunsWrongFalsely : Prop := lazyRunsRow.holds Tryz.pinned (OpenSpec.ofChange lazyRunsWrong)

/-- 'spinneylaw24.LazyCalls': WHATEVER THE INPUT: true; the input reads as it did. -/
def lazyCallsSpec : ChangeSpec := { name := "lazyCalls", fn := fun _ => fun
  | [d1, d2, d3] => { results := [.lit (.bool true)], args := [d1, d2, d3] }
  | _ => none }
def lazyCallsRow : OpenClaim := { program := "ytbhfbjbigafnpaagreat", sum := "0844e640628b329df2887a7656132767443b186a351b28d86982c59294917aba", func := "spinney/spinneylaw24.LazyCalls", spec := "lazyCalls", unfollowed := true, recurses := true, loops := true, apart := false }
def LazyCallsSaid : Prop := lazyCallsRow.holds Tryz.pinned (OpenSpec.ofChange lazyCallsSpec)

/-- ITS FALSE NEIGHBOUR: 'it returns false'. Refute it at one input. -/
def lazyCallsWrong : ChangeSpec := { name := "lazyCalls", fn := fun _ => fun
  | [d1, d2, d3] => { results := [.lit (.bool false)], args := [d1, d2, d3] }
  | _ => none }
def LazyCallsWrongFalsely : Prop := lazyCallsRow.holds Tryz.pinned (OpenSpec.ofChange lazyCallsWrong)

/- THE SECOND FORM. 'bulk': how many values and letters a reading holds, each counted each time it is reached (what is shared counts as often as it is met; a slice's spare places count too). A statement '..UptoSaid' is the law's where the arguments, and the package variables that the reading takes, are together of bulk at most 1048576: NARROWER than '..Said'. Prove '..Said' where nothing that the law and all that it calls make is longer than what came in: it says more and counts as full. Else prove '..UptoSaid'. A law counts once. -/
mutual
def uptoBulk {H : Type} : DataW H → Nat
  | .lit (.string bytes) => bytes.length + 1
  | .lit _ => 1
  | .nil => 1
  | .ptr d => uptoBulk d + 1
  | .slice elems spare => uptoBulkAll elems + uptoBulkAll spare + 1
  | .agg parts => uptoBulkAll parts + 1
  | .iface _ d => uptoBulk d + 1
  | .map entries => uptoBulkEntries entries + 1
  | .held _ => 1
def uptoBulkAll {H : Type} : List (DataW H) → Nat
  | [] => 0
  | d :: r => uptoBulk d + uptoBulkAll r
def uptoBulkEntries {H : Type} : List (Lit × DataW H) → Nat
  | [] => 0
  | x :: r => uptoBulkEntry x + uptoBulkEntries r
def uptoBulkEntry {H : Type} : Lit × DataW H → Nat
  | (.string bytes, d) => bytes.length + uptoBulk d + 1
  | (_, d) => uptoBulk d + 1
 end
def uptoSmall : (H : Type) → List (DataW H) → Bool := fun _ ds => decide (uptoBulkAll ds ≤ 1048576)
def OpenSpec.upto (s : _root_.Go.ChangeSpec) : _root_.Go.OpenSpec := { _root_.Go.OpenSpec.ofChange s with cond := some uptoSmall }

/-- 'spinneylaw23.SeqAsks', WHERE WHAT IT READS IS OF BULK AT MOST 1048576: true; the input reads as it did. -/
def seqAsksUptoRow : OpenClaim := { program := "ytbhfbjbigafnpaagreat", sum := "0844e640628b329df2887a7656132767443b186a351b28d86982c59294917aba", func := "spinney/spinneylaw23.SeqAsks", spec := "seqAsks", unfollowed := true, recurses := true, loops := true, apart := false, narrowed := true }
def SeqAsksUptoSaid : Prop := seqAsksUptoRow.holds Tryz.pinned (OpenSpec.upto seqAsksSpec)

/-- 'spinneylaw23.SeqSame', WHERE WHAT IT READS IS OF BULK AT MOST 1048576: true; the input reads as it did. -/
def seqSameUptoRow : OpenClaim := { program := "ytbhfbjbigafnpaagreat", sum := "0844e640628b329df2887a7656132767443b186a351b28d86982c59294917aba", func := "spinney/spinneylaw23.SeqSame", spec := "seqSame", unfollowed := true, recurses := true, loops := true, apart := false, narrowed := true }
def SeqSameUptoSaid : Prop := seqSameUptoRow.holds Tryz.pinned (OpenSpec.upto seqSameSpec)

/-- 'spinneylaw24.LazyRuns', WHERE WHAT IT READS IS OF BULK AT MOST 1048576: true; the input reads as it did. -/
def lazyRunsUptoRow : OpenClaim := { program := "ytbhfbjbigafnpaagreat", sum := "0844e640628b329df2887a7656132767443b186a351b28d86982c59294917aba", func := "spinney/spinneylaw24.LazyRuns", spec := "lazyRuns", unfollowed := true, recurses := true, loops := true, apart := false, narrowed := true }
def LazyRunsUptoSaid : Prop := lazyRunsUptoRow.holds Tryz.pinned (OpenSpec.upto lazyRunsSpec)

/-- 'spinneylaw24.LazyCalls', WHERE WHAT IT READS IS OF BULK AT MOST 1048576: true; the input reads as it did. -/
def lazyCallsUptoRow : OpenClaim := { program := "ytbhfbjbigafnpaagreat", sum := "0844e640628b329df2887a7656132767443b186a351b28d86982c59294917aba", func := "spinney/spinneylaw24.LazyCalls", spec := "lazyCalls", unfollowed := true, recurses := true, loops := true, apart := false, narrowed := true }
def LazyCallsUptoSaid : Prop := lazyCallsUptoRow.holds Tryz.pinned (OpenSpec.upto lazyCallsSpec)

end Rows
end Go.Proofs.YtbhfbjbigafnpaaGreat
