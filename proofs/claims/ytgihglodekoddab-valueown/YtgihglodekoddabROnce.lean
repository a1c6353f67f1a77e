/-
  The contract of the document's Once.
-/
import Derived.Test.YtgihglodekoddabRSorted
import Derived.Test.YtgihglodekoddabOnceP
import Derived.Test.YtgihglodekoddabOwnRow
namespace Go.Proofs.Ytgihglodekoddab
open Go.RowKit

/-- Are two the same? -/
def eqQ (d : Nat) (x y : PR) : Bool := cmpV d x.1 y.1 == 0

end Go.Proofs.Ytgihglodekoddab

