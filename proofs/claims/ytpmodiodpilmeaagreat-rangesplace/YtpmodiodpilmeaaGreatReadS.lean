/-
  Two closed facts of the program, and the reading of a text.
-/
import Derived.Test.YtpmodiodpilmeaaGreatRows
import Derived.Test.YtpmodiodpilmeaaGreatRead
import Derived.OpenShut
import Derived.ShutString
import Derived.ChangeOld
import Derived.Below
namespace Go.Proofs.YtpmodiodpilmeaaGreat
open Go.ChangeShapes Go.WideShapes Go.ChangeAt Go.RowKit

theorem own : ownKnob Tryz.prog.godebug = none := by kernel_rfl
theorem laidOut : laidOutB Tryz.prog = true := by kernel_rfl

end Go.Proofs.YtpmodiodpilmeaaGreat

