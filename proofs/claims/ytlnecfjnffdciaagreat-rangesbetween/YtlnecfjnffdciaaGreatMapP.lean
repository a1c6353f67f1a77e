import Derived.Test.YtlnecfjnffdciaaGreatPlaceP
import Derived.Test.YtlnecfjnffdciaaGreatSym2
import Derived.Test.YtlnecfjnffdciaaGreatSetM
import Derived.Test.YtlnecfjnffdciaaGreatClo
import Derived.Test.YtlnecfjnffdciaaGreatRotate
import Derived.Laws.IdiomCopy
import Derived.Test.YtlnecfjnffdciaaGreatEq
import Derived.Test.YtlnecfjnffdciaaGreatSameEq
namespace Go.Proofs.YtlnecfjnffdciaaGreat
open Go.RowKit

abbrev TP : Type := VT × VT

theorem cmp3_of {α : Type} (d : Nat) (f : α → VT) : Cmp3 (fun a b : α => cmpV d (f a) (f b)) :=
 ⟨fun x y => cmpV_turn d (f x) (f y), fun _ _ _ h1 h2 => lt_le h1 h2, fun _ _ _ h1 h2 => le_lt h1 h2, fun a b c h1 h2 => (goes_V d (f a) (f b) (f c) h1 h2).1⟩

theorem cmp3Q (d : Nat) : Cmp3 (cmpQ d) := cmp3_of d (fun p : PP => p.1.1)

def trT (q : PP) : TP := (q.1.1, q.2.1)

def okP (d : Nat) (p : TP) : Bool := rightV d p.1 && rightV d p.2
def pErr (d : Nat) (ts : List TP) : Int := if 65536 < ts.length then 2 else if ts.all (okP d) then 0 else 3

end Go.Proofs.YtlnecfjnffdciaaGreat

