/-
  The contracts of the functions of one value that call no other layer.
-/
import Derived.Test.YtmbolemcpobbgaaTab
import Derived.Test.YtmbolemcpobbgaaLine
import Derived.Test.YtmbolemcpobbgaaUniq
import Derived.Test.YtmbolemcpobbgaaRowX
namespace Go.Proofs.Ytmbolemcpobbgaa
open Go.RowKit

/-- A number, nothing. -/
def nilT : VT := ⟨0, 0, ⟨#[]⟩, []⟩

end Go.Proofs.Ytmbolemcpobbgaa

