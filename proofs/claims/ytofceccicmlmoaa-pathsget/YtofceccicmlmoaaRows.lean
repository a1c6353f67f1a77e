/-
  NARROWER THAN 'FOR EVERY INPUT', by the rows' own cells (each row's printed sentence says how): PathsGet: loops · PathsPut: loops · PathsMerge: loops · PathsOnly: loops · PathsBack: loops.
  DERIVED. THE GIVEN ROWS OF THIS SEAT. 5 by the template 'for every input the law returns true; each argument reads behind the call as it read before'; 0 by the template 'total and deterministic' (their statements: YtofceccicmlmoaaTotals.lean).
  GIVEN WITH THE SEED: the statements are not yours to turn. If you find one false, say at which input.
  Laid BY PROGRAM, IN A SANDBOX (cutbox-rows.mjs): the forced cells as the released guide's own fill.sh prints them over the translation b447df73166a59a6… (all of the seat's roots in one cut). By AI agents, Wed Nov 11 2026. No macro, syntax, notation, axiom, sorry.
-/
import Derived.Test.YtofceccicmlmoaaChecked
import GoSem.Claim
import GoSem.ClaimJoined
import GoSem.ClaimMapViews
import Derived.JoinedTies
import Derived.KernelRfl
namespace Go.Proofs.Ytofceccicmlmoaa
/- THE CELL 'sum', in the pinned program and in every row, IS THE sha256 OF THE DUMP (.gsa) THAT YtofceccicmlmoaaProg.lean LOADS. Nothing in Lean hashes anything: it is a label: what it is worth is what the hold of that sum in a sandbox is worth. -/
noncomputable def Try.pinned : Pinned := { name := "ytofceccicmlmoaa", sum := "b447df73166a59a6b9d6078989e33f31a3534c2a1a5ef16277fdf48e1acd3e31", checked := Try.checked }
namespace Rows
def none {H : Type} : Left H := { results := [], args := [] }

/-- 'spinneylaw26.PathsGet': WHATEVER THE INPUT: true; the input reads as it did. -/
def pathsGetSpec : ChangeSpec := { name := "pathsGet", fn := fun _ => fun
  | [d1, d2] => { results := [.lit (.bool true)], args := [d1, d2] }
  | _ => none }
def pathsGetRow : OpenClaim := { program := "ytofceccicmlmoaa", sum := "b447df73166a59a6b9d6078989e33f31a3534c2a1a5ef16277fdf48e1acd3e31", func := "spinney/spinneylaw26.PathsGet", spec := "pathsGet", inPlace := ["slices.overlaps[spinney/api.Value]"], unfollowed := true, recurses := true, loops := true, apart := false }
def PathsGetSaid : Prop := pathsGetRow.holds Try.pinned (OpenSpec.ofChange pathsGetSpec)

/-- ITS FALSE NEIGHBOUR: 'it returns false'. Refute it at one input. -/
def pathsGetWrong : ChangeSpec := { name := "pathsGet", fn := fun _ => fun
  | [d1, d2] => { results := [.lit (.bool false)], args := [d1, d2] }
  | _ => none }
def PathsGetWrongFalsely : Prop := pathsGetRow.holds Try.pinned (OpenSpec.ofChange pathsGetWrong)

/-- 'spinneylaw26.PathsPut': WHATEVER THE INPUT: true; the input reads as it did. -/
def pathsPutSpec : ChangeSpec := { name := "pathsPut", fn := fun _ => fun
  | [d1, d2, d3] => { results := [.lit (.bool true)], args := [d1, d2, d3] }
  | _ => none }
def pathsPutRow : OpenClaim := { program := "ytofceccicmlmoaa", sum := "b447df73166a59a6b9d6078989e33f31a3534c2a1a5ef16277fdf48e1acd3e31", func := "spinney/spinneylaw26.PathsPut", spec := "pathsPut", inPlace := ["slices.overlaps[spinney/api.Value]"], unfollowed := true, recurses := true, loops := true, apart := false }
def PathsPutSaid : Prop := pathsPutRow.holds Try.pinned (OpenSpec.ofChange pathsPutSpec)

/-- ITS FALSE NEIGHBOUR: 'it returns false'. Refute it at one input. -/
def pathsPutWrong : ChangeSpec := { name := "pathsPut", fn := fun _ => fun
  | [d1, d2, d3] => { results := [.lit (.bool false)], args := [d1, d2, d3] }
  | _ => none }
def PathsPutWrongFalsely : Prop := pathsPutRow.holds Try.pinned (OpenSpec.ofChange pathsPutWrong)

/-- 'spinneylaw26.PathsMerge': WHATEVER THE INPUT: true; the input reads as it did. -/
def pathsMergeSpec : ChangeSpec := { name := "pathsMerge", fn := fun _ => fun
  | [d1, d2] => { results := [.lit (.bool true)], args := [d1, d2] }
  | _ => none }
def pathsMergeRow : OpenClaim := { program := "ytofceccicmlmoaa", sum := "b447df73166a59a6b9d6078989e33f31a3534c2a1a5ef16277fdf48e1acd3e31", func := "spinney/spinneylaw26.PathsMerge", spec := "pathsMerge", inPlace := ["slices.overlaps[spinney/api.Value]"], unfollowed := true, recurses := true, loops := true, apart := false }
def PathsMergeSaid : Prop := pathsMergeRow.holds Try.pinned (OpenSpec.ofChange pathsMergeSpec)

/-- ITS FALSE NEIGHBOUR: 'it returns false'. Refute it at one input. -/
def pathsMergeWrong : ChangeSpec := { name := "pathsMerge", fn := fun _ => fun
  | [d1, d2] => { results := [.lit (.bool false)], args := [d1, d2] }
  | _ => none }
def PathsMergeWrongFalsely : Prop := pathsMergeRow.holds Try.pinned (OpenSpec.ofChange pathsMergeWrong)

/-- 'spinneylaw26.PathsOnly': WHATEVER THE INPUT: true; the input reads as it did. -/
def pathsOnlySpec : ChangeSpec := { name := "pathsOnly", fn := fun _ => fun
  | [d1, d2] => { results := [.lit (.bool true)], args := [d1, d2] }
  | _ => none }
def pathsOnlyRow : OpenClaim := { program := "ytofceccicmlmoaa", sum := "b447df73166a59a6b9d6078989e33f31a3534c2a1a5ef16277fdf48e1acd3e31", func := "spinney/spinneylaw26.PathsOnly", spec := "pathsOnly", inPlace := ["slices.overlaps[spinney/api.Value]"], unfollowed := true, recurses := true, loops := true, apart := false }
def PathsOnlySaid : Prop := pathsOnlyRow.holds Try.pinned (OpenSpec.ofChange pathsOnlySpec)

/-- ITS FALSE NEIGHBOUR: 'it returns false'. Refute it at one input. -/
def pathsOnlyWrong : ChangeSpec := { name := "pathsOnly", fn := fun _ => fun
  | [d1, d2] => { results := [.lit (.bool false)], args := [d1, d2] }
  | _ => none }
def PathsOnlyWrongFalsely : Prop := pathsOnlyRow.holds Try.pinned (OpenSpec.ofChange pathsOnlyWrong)

/-- 'spinneylaw26.PathsBack': WHATEVER THE INPUT: true; the input reads as it did. -/
def pathsBackSpec : ChangeSpec := { name := "pathsBack", fn := fun _ => fun
  | [d1, d2, d3] => { results := [.lit (.bool true)], args := [d1, d2, d3] }
  | _ => none }
def pathsBackRow : OpenClaim := { program := "ytofceccicmlmoaa", sum := "b447df73166a59a6b9d6078989e33f31a3534c2a1a5ef16277fdf48e1acd3e31", func := "spinney/spinneylaw26.PathsBack", spec := "pathsBack", inPlace := ["slices.overlaps[spinney/api.Value]"], unfollowed := true, recurses := true, loops := true, apart := false }
def PathsBackSaid : Prop := pathsBackRow.holds Try.pinned (OpenSpec.ofChange pathsBackSpec)

/-- ITS FALSE NEIGHBOUR: 'it returns false'. Refute it at one input. -/
def pathsBackWrong : ChangeSpec := { name := "pathsBack", fn := fun _ => fun
  | [d1, d2, d3] => { results := [.lit (.bool false)], args := [d1, d2, d3] }
  | _ => none }
def PathsBackWrongFalsely : Prop := pathsBackRow.holds Try.pinned (OpenSpec.ofChange pathsBackWrong)

/- THE SECOND FORM. 'bulk': how many values and letters a reading holds, each counted each time it is reached (what is shared counts as often as it is met; a slice's spare places count too). A statement '..UptoSaid' is the law's where the arguments, and the package variables that the reading takes, are together of bulk at most 1048576: NARROWER than '..Said'. Prove '..Said' where nothing that the law and all that it calls make is longer than what came in: it says more and counts as full. Else prove '..UptoSaid'. A law counts once. -/
mutual
def uptoBulk {H : Type} : DataW H → Nat
  | .lit (.string bytes) => bytes.length + 1
  | .lit _ => 1
  | .nil => 1
  | .ptr d => uptoBulk d + 1
  | .slice elems spare => uptoBulkAll elems + uptoBulkAll spare + 1
  | .agg parts => uptoBulkAll parts + 1
  | .iface _ d => uptoBulk d + 1
  | .map entries => uptoBulkEntries entries + 1
  | .held _ => 1
def uptoBulkAll {H : Type} : List (DataW H) → Nat
  | [] => 0
  | d :: r => uptoBulk d + uptoBulkAll r
def uptoBulkEntries {H : Type} : List (Lit × DataW H) → Nat
  | [] => 0
  | x :: r => uptoBulkEntry x + uptoBulkEntries r
def uptoBulkEntry {H : Type} : Lit × DataW H → Nat
  | (.string bytes, d) => bytes.length + uptoBulk d + 1
  | (_, d) => uptoBulk d + 1
 end
def uptoSmall : (H : Type) → List (DataW H) → Bool := fun _ ds => decide (uptoBulkAll ds ≤ 1048576)
def OpenSpec.upto (s : _root_.Go.ChangeSpec) : _root_.Go.OpenSpec := { _root_.Go.OpenSpec.ofChange s with cond := some uptoSmall }

/-- 'spinneylaw26.PathsGet', WHERE WHAT IT READS IS OF BULK AT MOST 1048576: true; the input reads as it did. -/
def pathsGetUptoRow : OpenClaim := { program := "ytofceccicmlmoaa", sum := "b447df73166a59a6b9d6078989e33f31a3534c2a1a5ef16277fdf48e1acd3e31", func := "spinney/spinneylaw26.PathsGet", spec := "pathsGet", inPlace := ["slices.overlaps[spinney/api.Value]"], unfollowed := true, recurses := true, loops := true, apart := false, narrowed := true }
def PathsGetUptoSaid : Prop := pathsGetUptoRow.holds Try.pinned (OpenSpec.upto pathsGetSpec)

/-- 'spinneylaw26.PathsPut', WHERE WHAT IT READS IS OF BULK AT MOST 1048576: true; the input reads as it did. -/
def pathsPutUptoRow : OpenClaim := { program := "ytofceccicmlmoaa", sum := "b447df73166a59a6b9d6078989e33f31a3534c2a1a5ef16277fdf48e1acd3e31", func := "spinney/spinneylaw26.PathsPut", spec := "pathsPut", inPlace := ["slices.overlaps[spinney/api.Value]"], unfollowed := true, recurses := true, loops := true, apart := false, narrowed := true }
def PathsPutUptoSaid : Prop := pathsPutUptoRow.holds Try.pinned (OpenSpec.upto pathsPutSpec)

/-- 'spinneylaw26.PathsMerge', WHERE WHAT IT READS IS OF BULK AT MOST 1048576: true; the input reads as it did. -/
def pathsMergeUptoRow : OpenClaim := { program := "ytofceccicmlmoaa", sum := "b447df73166a59a6b9d6078989e33f31a3534c2a1a5ef16277fdf48e1acd3e31", func := "spinney/spinneylaw26.PathsMerge", spec := "pathsMerge", inPlace := ["slices.overlaps[spinney/api.Value]"], unfollowed := true, recurses := true, loops := true, apart := false, narrowed := true }
def PathsMergeUptoSaid : Prop := pathsMergeUptoRow.holds Try.pinned (OpenSpec.upto pathsMergeSpec)

/-- 'spinneylaw26.PathsOnly', WHERE WHAT IT READS IS OF BULK AT MOST 1048576: true; the input reads as it did. -/
def pathsOnlyUptoRow : OpenClaim := { program := "ytofceccicmlmoaa", sum := "b447df73166a59a6b9d6078989e33f31a3534c2a1a5ef16277fdf48e1acd3e31", func := "spinney/spinneylaw26.PathsOnly", spec := "pathsOnly", inPlace := ["slices.overlaps[spinney/api.Value]"], unfollowed := true, recurses := true, loops := true, apart := false, narrowed := true }
def PathsOnlyUptoSaid : Prop := pathsOnlyUptoRow.holds Try.pinned (OpenSpec.upto pathsOnlySpec)

/-- 'spinneylaw26.PathsBack', WHERE WHAT IT READS IS OF BULK AT MOST 1048576: true; the input reads as it did. -/
def pathsBackUptoRow : OpenClaim := { program := "ytofceccicmlmoaa", sum := "b447df73166a59a6b9d6078989e33f31a3534c2a1a5ef16277fdf48e1acd3e31", func := "spinney/spinneylaw26.PathsBack", spec := "pathsBack", inPlace := ["slices.overlaps[spinney/api.Value]"], unfollowed := true, recurses := true, loops := true, apart := false, narrowed := true }
def PathsBackUptoSaid : Prop := pathsBackUptoRow.holds Try.pinned (OpenSpec.upto pathsBackSpec)

end Rows
end Go.Proofs.Ytofceccicmlmoaa
