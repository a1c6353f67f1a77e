import Derived.Test.YtlnecfjnffdciaaGreatRows
import Derived.Test.YtlnecfjnffdciaaGreatRead
import Derived.OpenShut
import Derived.ShutString
import Derived.ChangeOld
import Derived.Below
namespace Go.Proofs.YtlnecfjnffdciaaGreat
open Go.ChangeShapes Go.WideShapes Go.ChangeAt Go.RowKit

theorem own : ownKnob Tryz.prog.godebug = none := by kernel_rfl
theorem laidOut : laidOutB Tryz.prog = true := by kernel_rfl

end Go.Proofs.YtlnecfjnffdciaaGreat

