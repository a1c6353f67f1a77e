/-
  The contracts of the functions of one value that call no other layer.
-/
import Derived.Test.YtofceccicmlmoaaTab
import Derived.Test.YtofceccicmlmoaaLastP
import Derived.Test.YtofceccicmlmoaaRotate
import Derived.Test.YtofceccicmlmoaaRowX
namespace Go.Proofs.Ytofceccicmlmoaa
open Go.RowKit

/-- A number, nothing. -/
def nilT : VT := ⟨0, 0, ⟨#[]⟩, []⟩

end Go.Proofs.Ytofceccicmlmoaa

