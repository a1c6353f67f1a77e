/-
  The walk of ValueOrder.
-/
import Derived.Test.YtlmnkjnplaebgaaGreatRef
namespace Go.Proofs.YtlmnkjnplaebgaaGreat
open Go.RowKit

end Go.Proofs.YtlmnkjnplaebgaaGreat
