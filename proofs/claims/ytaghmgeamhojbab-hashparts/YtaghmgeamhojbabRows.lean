/-
  NARROWER THAN 'FOR EVERY INPUT', by the rows' own cells (each row's printed sentence says how): HashFull: loops · HashKinds: loops · HashBefore: loops · HashLine: loops · HashMore: loops.
  DERIVED. THE GIVEN ROWS OF THIS SEAT. 6 by the template 'for every input the law returns true; each argument reads behind the call as it read before'; 0 by the template 'total and deterministic' (their statements: YtaghmgeamhojbabTotals.lean).
  GIVEN WITH THE SEED: the statements are not yours to turn. If you find one false, say at which input.
  Laid BY PROGRAM, IN A SANDBOX (cutbox-rows.mjs): the forced cells as the released guide's own fill.sh prints them over the translation 3db4cc99f343951b… (all of the seat's roots in one cut). By AI agents, Wed Nov 11 2026. No macro, syntax, notation, axiom, sorry.
-/
import Derived.Test.YtaghmgeamhojbabChecked
import GoSem.Claim
import GoSem.ClaimJoined
import GoSem.ClaimMapViews
import Derived.JoinedTies
import Derived.KernelRfl
namespace Go.Proofs.Ytaghmgeamhojbab
/- THE CELL 'sum', in the pinned program and in every row, IS THE sha256 OF THE DUMP (.gsa) THAT YtaghmgeamhojbabProg.lean LOADS. Nothing in Lean hashes anything: it is a label: what it is worth is what the hold of that sum in a sandbox is worth. -/
noncomputable def Try.pinned : Pinned := { name := "ytaghmgeamhojbab", sum := "3db4cc99f343951bbc601eb546bf40db07cc68045b60d307ccd3707ccee51589", checked := Try.checked }
namespace Rows
def none {H : Type} : Left H := { results := [], args := [] }

/-- 'spinneylaw04.HashFull': WHATEVER THE INPUT: true; the input reads as it did. -/
def hashFullSpec : ChangeSpec := { name := "hashFull", fn := fun _ => fun
  | [d1, d2] => { results := [.lit (.bool true)], args := [d1, d2] }
  | _ => none }
def hashFullRow : OpenClaim := { program := "ytaghmgeamhojbab", sum := "3db4cc99f343951bbc601eb546bf40db07cc68045b60d307ccd3707ccee51589", func := "spinney/spinneylaw04.HashFull", spec := "hashFull", unfollowed := true, recurses := true, loops := true, apart := false }
def HashFullSaid : Prop := hashFullRow.holds Try.pinned (OpenSpec.ofChange hashFullSpec)

/-- ITS FALSE NEIGHBOUR: 'it returns false'. Refute it at one input. -/
def hashFullWrong : ChangeSpec := { name := "hashFull", fn := fun _ => fun
  | [d1, d2] => { results := [.lit (.bool false)], args := [d1, d2] }
  | _ => none }
def HashFullWrongFalsely : Prop := hashFullRow.holds Try.pinned (OpenSpec.ofChange hashFullWrong)

/-- 'spinneylaw04.HashKinds': WHATEVER THE INPUT: true; the input reads as it did. -/
def hashKindsSpec : ChangeSpec := { name := "hashKinds", fn := fun _ => fun
  | [d1, d2, d3] => { results := [.lit (.bool true)], args := [d1, d2, d3] }
  | _ => none }
def hashKindsRow : OpenClaim := { program := "ytaghmgeamhojbab", sum := "3db4cc99f343951bbc601eb546bf40db07cc68045b60d307ccd3707ccee51589", func := "spinney/spinneylaw04.HashKinds", spec := "hashKinds", unfollowed := true, recurses := true, loops := true, apart := false }
def HashKindsSaid : Prop := hashKindsRow.holds Try.pinned (OpenSpec.ofChange hashKindsSpec)

/-- ITS FALSE NEIGHBOUR: 'it returns false'. Refute it at one input. -/
def hashKindsWrong : ChangeSpec := { name := "hashKinds", fn := fun _ => fun
  | [d1, d2, d3] => { results := [.lit (.bool false)], args := [d1, d2, d3] }
  | _ => none }
def HashKindsWrongFalsely : Prop := hashKindsRow.holds Try.pinned (OpenSpec.ofChange hashKindsWrong)

/-- 'spinneylaw04.HashParts': WHATEVER THE INPUT: true; the input reads as it did. -/
def hashPartsSpec : ChangeSpec := { name := "hashParts", fn := fun _ => fun
  | [d1, d2, d3] => { results := [.lit (.bool true)], args := [d1, d2, d3] }
  | _ => none }
def hashPartsRow : OpenClaim := { program := "ytaghmgeamhojbab", sum := "3db4cc99f343951bbc601eb546bf40db07cc68045b60d307ccd3707ccee51589", func := "spinney/spinneylaw04.HashParts", spec := "hashParts", unfollowed := true, recurses := true, apart := false }
def HashPartsSaid : Prop := hashPartsRow.holds Try.pinned (OpenSpec.ofChange hashPartsSpec)

/-- ITS FALSE NEIGHBOUR: 'it returns false'. Refute it at one input. -/
def hashPartsWrong : ChangeSpec := { name := "hashParts", fn := fun _ => fun
  | [d1, d2, d3] => { results := [.lit (.bool false)], args := [d1, d2, d3] }
  | _ => none }
def HashPartsWrongFalsely : Prop := hashPartsRow.holds Try.pinned (OpenSpec.ofChange hashPartsWrong)

/-- 'spinneylaw04.HashBefore': WHATEVER THE INPUT: true; the input reads as it did. -/
def hashBeforeSpec : ChangeSpec := { name := "hashBefore", fn := fun _ => fun
  | [d1, d2, d3] => { results := [.lit (.bool true)], args := [d1, d2, d3] }
  | _ => none }
def hashBeforeRow : OpenClaim := { program := "ytaghmgeamhojbab", sum := "3db4cc99f343951bbc601eb546bf40db07cc68045b60d307ccd3707ccee51589", func := "spinney/spinneylaw04.HashBefore", spec := "hashBefore", unfollowed := true, recurses := true, loops := true, apart := false }
def HashBeforeSaid : Prop := hashBeforeRow.holds Try.pinned (OpenSpec.ofChange hashBeforeSpec)

/-- ITS FALSE NEIGHBOUR: 'it returns false'. Refute it at one input. -/
def hashBeforeWrong : ChangeSpec := { name := "hashBefore", fn := fun _ => fun
  | [d1, d2, d3] => { results := [.lit (.bool false)], args := [d1, d2, d3] }
  | _ => none }
def HashBeforeWrongFalsely : Prop := hashBeforeRow.holds Try.pinned (OpenSpec.ofChange hashBeforeWrong)

/-- 'spinneylaw04.HashLine': WHATEVER THE INPUT: true; the input reads as it did. -/
def hashLineSpec : ChangeSpec := { name := "hashLine", fn := fun _ => fun
  | [d] => { results := [.lit (.bool true)], args := [d] }
  | _ => none }
def hashLineRow : OpenClaim := { program := "ytaghmgeamhojbab", sum := "3db4cc99f343951bbc601eb546bf40db07cc68045b60d307ccd3707ccee51589", func := "spinney/spinneylaw04.HashLine", spec := "hashLine", unfollowed := true, recurses := true, loops := true, apart := false }
def HashLineSaid : Prop := hashLineRow.holds Try.pinned (OpenSpec.ofChange hashLineSpec)

/-- ITS FALSE NEIGHBOUR: 'it returns false'. Refute it at one input. -/
def hashLineWrong : ChangeSpec := { name := "hashLine", fn := fun _ => fun
  | [d] => { results := [.lit (.bool false)], args := [d] }
  | _ => none }
def HashLineWrongFalsely : Prop := hashLineRow.holds Try.pinned (OpenSpec.ofChange hashLineWrong)

/-- 'spinneylaw04.HashMore': WHATEVER THE INPUT: true; the input reads as it did. -/
def hashMoreSpec : ChangeSpec := { name := "hashMore", fn := fun _ => fun
  | [d1, d2, d3] => { results := [.lit (.bool true)], args := [d1, d2, d3] }
  | _ => none }
def hashMoreRow : OpenClaim := { program := "ytaghmgeamhojbab", sum := "3db4cc99f343951bbc601eb546bf40db07cc68045b60d307ccd3707ccee51589", func := "spinney/spinneylaw04.HashMore", spec := "hashMore", unfollowed := true, recurses := true, loops := true, apart := false }
def HashMoreSaid : Prop := hashMoreRow.holds Try.pinned (OpenSpec.ofChange hashMoreSpec)

/-- ITS FALSE NEIGHBOUR: 'it returns false'. Refute it at one input. -/
def hashMoreWrong : ChangeSpec := { name := "hashMore", fn := fun _ => fun
  | [d1, d2, d3] => { results := [.lit (.bool false)], args := [d1, d2, d3] }
  | _ => none }
def HashMoreWrongFalsely : Prop := hashMoreRow.holds Try.pinned (OpenSpec.ofChange hashMoreWrong)

/- THE SECOND FORM. 'bulk': how many values and letters a reading holds, each counted each time it is reached (what is shared counts as often as it is met; a slice's spare places count too). A statement '..UptoSaid' is the law's where the arguments, and the package variables that the reading takes, are together of bulk at most 1048576: NARROWER than '..Said'. Prove '..Said' where nothing that the law and all that it calls make is longer than what came in: it says more and counts as full. Else prove '..UptoSaid'. A law counts once. -/
mutual
def uptoBulk {H : Type} : DataW H → Nat
  | .lit (.string bytes) => bytes.length + 1
  | .lit _ => 1
  | .nil => 1
  | .ptr d => uptoBulk d + 1
  | .slice elems spare => uptoBulkAll elems + uptoBulkAll spare + 1
  | .agg parts => uptoBulkAll parts + 1
  | .iface _ d => uptoBulk d + 1
  | .map entries => uptoBulkEntries entries + 1
  | .held _ => 1
def uptoBulkAll {H : Type} : List (DataW H) → Nat
  | [] => 0
  | d :: r => uptoBulk d + uptoBulkAll r
def uptoBulkEntries {H : Type} : List (Lit × DataW H) → Nat
  | [] => 0
  | x :: r => uptoBulkEntry x + uptoBulkEntries r
def uptoBulkEntry {H : Type} : Lit × DataW H → Nat
  | (.string bytes, d) => bytes.length + uptoBulk d + 1
  | (_, d) => uptoBulk d + 1
 end
def uptoSmall : (H : Type) → List (DataW H) → Bool := fun _ ds => decide (uptoBulkAll ds ≤ 1048576)
def OpenSpec.upto (s : _root_.Go.ChangeSpec) : _root_.Go.OpenSpec := { _root_.Go.OpenSpec.ofChange s with cond := some uptoSmall }

/-- 'spinneylaw04.HashFull', WHERE WHAT IT READS IS OF BULK AT MOST 1048576: true; the input reads as it did. -/
def hashFullUptoRow : OpenClaim := { program := "ytaghmgeamhojbab", sum := "3db4cc99f343951bbc601eb546bf40db07cc68045b60d307ccd3707ccee51589", func := "spinney/spinneylaw04.HashFull", spec := "hashFull", unfollowed := true, recurses := true, loops := true, apart := false, narrowed := true }
def HashFullUptoSaid : Prop := hashFullUptoRow.holds Try.pinned (OpenSpec.upto hashFullSpec)

/-- 'spinneylaw04.HashKinds', WHERE WHAT IT READS IS OF BULK AT MOST 1048576: true; the input reads as it did. -/
def hashKindsUptoRow : OpenClaim := { program := "ytaghmgeamhojbab", sum := "3db4cc99f343951bbc601eb546bf40db07cc68045b60d307ccd3707ccee51589", func := "spinney/spinneylaw04.HashKinds", spec := "hashKinds", unfollowed := true, recurses := true, loops := true, apart := false, narrowed := true }
def HashKindsUptoSaid : Prop := hashKindsUptoRow.holds Try.pinned (OpenSpec.upto hashKindsSpec)

/-- 'spinneylaw04.HashParts', WHERE WHAT IT READS IS OF BULK AT MOST 1048576: true; the input reads as it did. -/
def hashPartsUptoRow : OpenClaim := { program := "ytaghmgeamhojbab", sum := "3db4cc99f343951bbc601eb546bf40db07cc68045b60d307ccd3707ccee51589", func := "spinney/spinneylaw04.HashParts", spec := "hashParts", unfollowed := true, recurses := true, apart := false, narrowed := true }
def HashPartsUptoSaid : Prop := hashPartsUptoRow.holds Try.pinned (OpenSpec.upto hashPartsSpec)

/-- 'spinneylaw04.HashBefore', WHERE WHAT IT READS IS OF BULK AT MOST 1048576: true; the input reads as it did. -/
def hashBeforeUptoRow : OpenClaim := { program := "ytaghmgeamhojbab", sum := "3db4cc99f343951bbc601eb546bf40db07cc68045b60d307ccd3707ccee51589", func := "spinney/spinneylaw04.HashBefore", spec := "hashBefore", unfollowed := true, recurses := true, loops := true, apart := false, narrowed := true }
def HashBeforeUptoSaid : Prop := hashBeforeUptoRow.holds Try.pinned (OpenSpec.upto hashBeforeSpec)

/-- 'spinneylaw04.HashLine', WHERE WHAT IT READS IS OF BULK AT MOST 1048576: true; the input reads as it did. -/
def hashLineUptoRow : OpenClaim := { program := "ytaghmgeamhojbab", sum := "3db4cc99f343951bbc601eb546bf40db07cc68045b60d307ccd3707ccee51589", func := "spinney/spinneylaw04.HashLine", spec := "hashLine", unfollowed := true, recurses := true, loops := true, apart := false, narrowed := true }
def HashLineUptoSaid : Prop := hashLineUptoRow.holds Try.pinned (OpenSpec.upto hashLineSpec)

/-- 'spinneylaw04.HashMore', WHERE WHAT IT READS IS OF BULK AT MOST 1048576: true; the input reads as it did. -/
def hashMoreUptoRow : OpenClaim := { program := "ytaghmgeamhojbab", sum := "3db4cc99f343951bbc601eb546bf40db07cc68045b60d307ccd3707ccee51589", func := "spinney/spinneylaw04.HashMore", spec := "hashMore", unfollowed := true, recurses := true, loops := true, apart := false, narrowed := true }
def HashMoreUptoSaid : Prop := hashMoreUptoRow.holds Try.pinned (OpenSpec.upto hashMoreSpec)

end Rows
end Go.Proofs.Ytaghmgeamhojbab
