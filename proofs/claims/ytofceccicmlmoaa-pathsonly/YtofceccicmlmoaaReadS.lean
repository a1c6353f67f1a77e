/-
  Two closed facts of the program, and the reading of a text.
-/
import Derived.Test.YtofceccicmlmoaaRows
import Derived.Test.YtofceccicmlmoaaRead
import Derived.OpenShut
import Derived.ShutString
import Derived.ChangeOld
import Derived.Below
namespace Go.Proofs.Ytofceccicmlmoaa
open Go.ChangeShapes Go.WideShapes Go.ChangeAt Go.RowKit

theorem own : ownKnob Try.prog.godebug = none := by kernel_rfl
theorem laidOut : laidOutB Try.prog = true := by kernel_rfl

end Go.Proofs.Ytofceccicmlmoaa

