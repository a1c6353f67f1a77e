/-
  Two closed facts of the program, and the reading of a text.
-/
import Derived.Test.YtekoaiehhjgfiabGreatRows
import Derived.Test.YtekoaiehhjgfiabGreatRead
import Derived.OpenShut
import Derived.ShutString
import Derived.ChangeOld
import Derived.Below
namespace Go.Proofs.YtekoaiehhjgfiabGreat
open Go.ChangeShapes Go.WideShapes Go.ChangeAt Go.RowKit

theorem own : ownKnob Tryz.prog.godebug = none := by kernel_rfl
theorem laidOut : laidOutB Tryz.prog = true := by kernel_rfl

end Go.Proofs.YtekoaiehhjgfiabGreat

