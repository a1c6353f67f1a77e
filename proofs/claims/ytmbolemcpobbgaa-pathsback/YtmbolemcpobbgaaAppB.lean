/-
  Rows of one's own while other cells are written.
-/
import Derived.Test.YtmbolemcpobbgaaRowX
import Derived.Test.YtmbolemcpobbgaaUtf
import Derived.Test.YtmbolemcpobbgaaUniq
import Derived.Laws.OwnMore
import Derived.Deep.AppendLies
import Derived.Deep.RegionLaw
namespace Go.Proofs.Ytmbolemcpobbgaa
open Go.RowKit

theorem KC.alloc {B : Nat → Prop} {w w1 : World} (k : KC B w w1) (o : Obj) : KC B w (w1.alloc o) :=
  k.trans2 (KC.of_below (B := fun _ => False) ((Grew.refl w1).alloc o).below) (fun _ _ h => h.elim)

end Go.Proofs.Ytmbolemcpobbgaa

