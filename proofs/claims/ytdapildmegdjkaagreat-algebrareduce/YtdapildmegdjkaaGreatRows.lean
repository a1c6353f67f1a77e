/-
  NARROWER THAN 'FOR EVERY INPUT', by the rows' own cells (each row's printed sentence says how): AlgebraReduce: loops · AlgebraGroups: loops · AlgebraInto: loops · AlgebraParts: loops · AlgebraWhole: loops.
  DERIVED. THE GIVEN ROWS OF THIS SEAT. 5 by the template 'for every input the law returns true; each argument reads behind the call as it read before'; 0 by the template 'total and deterministic' (their statements: YtdapildmegdjkaaGreatTotals.lean).
  GIVEN WITH THE SEED: the statements are not yours to turn. If you find one false, say at which input.
  Laid BY PROGRAM, IN A SANDBOX (cutbox-rows.mjs): the forced cells as the released guide's own fill.sh prints them over the translation d3e7d5bbe56cd979… (all of the seat's roots in one cut). By AI agents, Wed Nov 11 2026. No macro, syntax, notation, axiom, sorry.
-/
import Derived.Test.YtdapildmegdjkaaGreatChecked
import GoSem.Claim
import GoSem.ClaimJoined
import GoSem.ClaimMapViews
import Derived.JoinedTies
import Derived.KernelRfl
namespace Go.Proofs.YtdapildmegdjkaaGreat
/- THE CELL 'sum', in the pinned program and in every row, IS THE sha256 OF THE DUMP (.gsa) THAT YtdapildmegdjkaaGreatProg.lean LOADS. Nothing in Lean hashes anything: it is a label: what it is worth is what the hold of that sum in a sandbox is worth. -/
noncomputable def Tryz.pinned : Pinned := { name := "ytdapildmegdjkaagreat", sum := "d3e7d5bbe56cd97931e200cfbc9d9249e8f3e19c12265e59308c8074b31a4e49", checked := Tryz.checked }
namespace Rows
def none {H : Type} : Left H := { results := [], args := [] }

/-- 'spinneylaw25.AlgebraReduce': WHATEVER THE INPUT: true; the input reads as it did. -/
def algebraReduceSpec : ChangeSpec := { name := "algebraReduce", fn := fun _ => fun
  | [d1, d2, d3] => { results := [.lit (.bool true)], args := [d1, d2, d3] }
  | _ => none }
def algebraReduceRow : OpenClaim := { program := "ytdapildmegdjkaagreat", sum := "d3e7d5bbe56cd97931e200cfbc9d9249e8f3e19c12265e59308c8074b31a4e49", func := "spinney/spinneylaw25.AlgebraReduce", spec := "algebraReduce", unfollowed := true, recurses := true, loops := true, apart := false }
def AlgebraReduceSaid : Prop := algebraReduceRow.holds Tryz.pinned (OpenSpec.ofChange algebraReduceSpec)

/-- ITS FALSE NEIGHBOUR: 'it returns false'. Refute it at one input. -/
def algebraReduceWrong : ChangeSpec := { name := "algebraReduce", fn := fun _ => fun
  | [d1, d2, d3] => { results := [.lit (.bool false)], args := [d1, d2, d3] }
  | _ => none }
def AlgebraReduceWrongFalsely : Prop := algebraReduceRow.holds Tryz.pinned (OpenSpec.ofChange algebraReduceWrong)

/-- 'spinneylaw25.AlgebraGroups': WHATEVER THE INPUT: true; the input reads as it did. -/
def algebraGroupsSpec : ChangeSpec := { name := "algebraGroups", fn := fun _ => fun
  | [d1, d2] => { results := [.lit (.bool true)], args := [d1, d2] }
  | _ => none }
def algebraGroupsRow : OpenClaim := { program := "ytdapildmegdjkaagreat", sum := "d3e7d5bbe56cd97931e200cfbc9d9249e8f3e19c12265e59308c8074b31a4e49", func := "spinney/spinneylaw25.AlgebraGroups", spec := "algebraGroups", unfollowed := true, recurses := true, loops := true, apart := false }
def AlgebraGroupsSaid : Prop := algebraGroupsRow.holds Tryz.pinned (OpenSpec.ofChange algebraGroupsSpec)

/-- ITS FALSE NEIGHBOUR: 'it returns false'. Refute it at one input. -/
def algebraGroupsWrong : ChangeSpec := { name := "algebraGroups", fn := fun _ => fun
  | [d1, d2] => { results := [.lit (.bool false)], args := [d1, d2] }
  | _ => none }
def AlgebraGroupsWrongFalsely : Prop := algebraGroupsRow.holds Tryz.pinned (OpenSpec.ofChange algebraGroupsWrong)

/-- 'spinneylaw25.AlgebraInto': WHATEVER THE INPUT: true; the input reads as it did. -/
def algebraIntoSpec : ChangeSpec := { name := "algebraInto", fn := fun _ => fun
  | [d1, d2] => { results := [.lit (.bool true)], args := [d1, d2] }
  | _ => none }
def algebraIntoRow : OpenClaim := { program := "ytdapildmegdjkaagreat", sum := "d3e7d5bbe56cd97931e200cfbc9d9249e8f3e19c12265e59308c8074b31a4e49", func := "spinney/spinneylaw25.AlgebraInto", spec := "algebraInto", unfollowed := true, recurses := true, loops := true, apart := false }
def AlgebraIntoSaid : Prop := algebraIntoRow.holds Tryz.pinned (OpenSpec.ofChange algebraIntoSpec)

/-- ITS FALSE NEIGHBOUR: 'it returns false'. Refute it at one input. -/
def algebraIntoWrong : ChangeSpec := { name := "algebraInto", fn := fun _ => fun
  | [d1, d2] => { results := [.lit (.bool false)], args := [d1, d2] }
  | _ => none }
def AlgebraIntoWrongFalsely : Prop := algebraIntoRow.holds Tryz.pinned (OpenSpec.ofChange algebraIntoWrong)

/-- 'spinneylaw25.AlgebraParts': WHATEVER THE INPUT: true; the input reads as it did. -/
def algebraPartsSpec : ChangeSpec := { name := "algebraParts", fn := fun _ => fun
  | [d1, d2, d3] => { results := [.lit (.bool true)], args := [d1, d2, d3] }
  | _ => none }
def algebraPartsRow : OpenClaim := { program := "ytdapildmegdjkaagreat", sum := "d3e7d5bbe56cd97931e200cfbc9d9249e8f3e19c12265e59308c8074b31a4e49", func := "spinney/spinneylaw25.AlgebraParts", spec := "algebraParts", unfollowed := true, recurses := true, loops := true, apart := false }
def AlgebraPartsSaid : Prop := algebraPartsRow.holds Tryz.pinned (OpenSpec.ofChange algebraPartsSpec)

/-- ITS FALSE NEIGHBOUR: 'it returns false'. Refute it at one input. -/
def algebraPartsWrong : ChangeSpec := { name := "algebraParts", fn := fun _ => fun
  | [d1, d2, d3] => { results := [.lit (.bool false)], args := [d1, d2, d3] }
  | _ => none }
def AlgebraPartsWrongFalsely : Prop := algebraPartsRow.holds Tryz.pinned (OpenSpec.ofChange algebraPartsWrong)

/-- 'spinneylaw25.AlgebraWhole': WHATEVER THE INPUT: true; the input reads as it did. -/
def algebraWholeSpec : ChangeSpec := { name := "algebraWhole", fn := fun _ => fun
  | [d1, d2, d3] => { results := [.lit (.bool true)], args := [d1, d2, d3] }
  | _ => none }
def algebraWholeRow : OpenClaim := { program := "ytdapildmegdjkaagreat", sum := "d3e7d5bbe56cd97931e200cfbc9d9249e8f3e19c12265e59308c8074b31a4e49", func := "spinney/spinneylaw25.AlgebraWhole", spec := "algebraWhole", unfollowed := true, recurses := true, loops := true, apart := false }
def AlgebraWholeSaid : Prop := algebraWholeRow.holds Tryz.pinned (OpenSpec.ofChange algebraWholeSpec)

/-- ITS FALSE NEIGHBOUR: 'it returns false'. Refute it at one input. -/
def algebraWholeWrong : ChangeSpec := { name := "algebraWhole", fn := fun _ => fun
  | [d1, d2, d3] => { results := [.lit (.bool false)], args := [d1, d2, d3] }
  | _ => none }
def AlgebraWholeWrongFalsely : Prop := algebraWholeRow.holds Tryz.pinned (OpenSpec.ofChange algebraWholeWrong)

/- THE SECOND FORM. 'bulk': how many values and letters a reading holds, each counted each time it is reached (what is shared counts as often as it is met; a slice's spare places count too). A statement '..UptoSaid' is the law's where the arguments, and the package variables that the reading takes, are together of bulk at most 1048576: NARROWER than '..Said'. Prove '..Said' where nothing that the law and all that it calls make is longer than what came in: it says more and counts as full. Else prove '..UptoSaid'. A law counts once. -/
mutual
def uptoBulk {H : Type} : DataW H → Nat
  | .lit (.string bytes) => bytes.length + 1
  | .lit _ => 1
  | .nil => 1
  | .ptr d => uptoBulk d + 1
  | .slice elems spare => uptoBulkAll elems + uptoBulkAll spare + 1
  | .agg parts => uptoBulkAll parts + 1
  | .iface _ d => uptoBulk d + 1
  | .map entries => uptoBulkEntries entries + 1
  | .held _ => 1
def uptoBulkAll {H : Type} : List (DataW H) → Nat
  | [] => 0
  | d :: r => uptoBulk d + uptoBulkAll r
def uptoBulkEntries {H : Type} : List (Lit × DataW H) → Nat
  | [] => 0
  | x :: r => uptoBulkEntry x + uptoBulkEntries r
def uptoBulkEntry {H : Type} : Lit × DataW H → Nat
  | (.string bytes, d) => bytes.length + uptoBulk d + 1
  | (_, d) => uptoBulk d + 1
 end
def uptoSmall : (H : Type) → List (DataW H) → Bool := fun _ ds => decide (uptoBulkAll ds ≤ 1048576)
def OpenSpec.upto (s : _root_.Go.ChangeSpec) : _root_.Go.OpenSpec := { _root_.Go.OpenSpec.ofChange s with cond := some uptoSmall }

/-- 'spinneylaw25.AlgebraReduce', WHERE WHAT IT READS IS OF BULK AT MOST 1048576: true; the input reads as it did. -/
def algebraReduceUptoRow : OpenClaim := { program := "ytdapildmegdjkaagreat", sum := "d3e7d5bbe56cd97931e200cfbc9d9249e8f3e19c12265e59308c8074b31a4e49", func := "spinney/spinneylaw25.AlgebraReduce", spec := "algebraReduce", unfollowed := true, recurses := true, loops := true, apart := false, narrowed := true }
def AlgebraReduceUptoSaid : Prop := algebraReduceUptoRow.holds Tryz.pinned (OpenSpec.upto algebraReduceSpec)

/-- 'spinneylaw25.AlgebraGroups', WHERE WHAT IT READS IS OF BULK AT MOST 1048576: true; the input reads as it did. -/
def algebraGroupsUptoRow : OpenClaim := { program := "ytdapildmegdjkaagreat", sum := "d3e7d5bbe56cd97931e200cfbc9d9249e8f3e19c12265e59308c8074b31a4e49", func := "spinney/spinneylaw25.AlgebraGroups", spec := "algebraGroups", unfollowed := true, recurses := true, loops := true, apart := false, narrowed := true }
def AlgebraGroupsUptoSaid : Prop := algebraGroupsUptoRow.holds Tryz.pinned (OpenSpec.upto algebraGroupsSpec)

/-- 'spinneylaw25.AlgebraInto', WHERE WHAT IT READS IS OF BULK AT MOST 1048576: true; the input reads as it did. -/
def algebraIntoUptoRow : OpenClaim := { program := "ytdapildmegdjkaagreat", sum := "d3e7d5bbe56cd97931e200cfbc9d9249e8f3e19c12265e59308c8074b31a4e49", func := "spinney/spinneylaw25.AlgebraInto", spec := "algebraInto", unfollowed := true, recurses := true, loops := true, apart := false, narrowed := true }
def AlgebraIntoUptoSaid : Prop := algebraIntoUptoRow.holds Tryz.pinned (OpenSpec.upto algebraIntoSpec)

/-- 'spinneylaw25.AlgebraParts', WHERE WHAT IT READS IS OF BULK AT MOST 1048576: true; the input reads as it did. -/
def algebraPartsUptoRow : OpenClaim := { program := "ytdapildmegdjkaagreat", sum := "d3e7d5bbe56cd97931e200cfbc9d9249e8f3e19c12265e59308c8074b31a4e49", func := "spinney/spinneylaw25.AlgebraParts", spec := "algebraParts", unfollowed := true, recurses := true, loops := true, apart := false, narrowed := true }
def AlgebraPartsUptoSaid : Prop := algebraPartsUptoRow.holds Tryz.pinned (OpenSpec.upto algebraPartsSpec)

/-- 'spinneylaw25.AlgebraWhole', WHERE WHAT IT READS IS OF BULK AT MOST 1048576: true; the input reads as it did. -/
def algebraWholeUptoRow : OpenClaim := { program := "ytdapildmegdjkaagreat", sum := "d3e7d5bbe56cd97931e200cfbc9d9249e8f3e19c12265e59308c8074b31a4e49", func := "spinney/spinneylaw25.AlgebraWhole", spec := "algebraWhole", unfollowed := true, recurses := true, loops := true, apart := false, narrowed := true }
def AlgebraWholeUptoSaid : Prop := algebraWholeUptoRow.holds Tryz.pinned (OpenSpec.upto algebraWholeSpec)

end Rows
end Go.Proofs.YtdapildmegdjkaaGreat
