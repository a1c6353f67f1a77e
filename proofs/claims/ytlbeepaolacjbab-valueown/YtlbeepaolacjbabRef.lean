/-
  The contract of the document's Compare.
-/
import Derived.Test.YtlbeepaolacjbabCmp
import Derived.Deep.RegionWith
import Derived.Deep.RegionHeld3
namespace Go.Proofs.Ytlbeepaolacjbab
open Go.RowKit

end Go.Proofs.Ytlbeepaolacjbab
