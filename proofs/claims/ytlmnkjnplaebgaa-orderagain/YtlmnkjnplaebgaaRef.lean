/-
  The contract of the document's Compare.
-/
import Derived.Test.YtlmnkjnplaebgaaCmp
import Derived.Deep.RegionWith
import Derived.Deep.RegionHeld3
namespace Go.Proofs.Ytlmnkjnplaebgaa
open Go.RowKit

end Go.Proofs.Ytlmnkjnplaebgaa
