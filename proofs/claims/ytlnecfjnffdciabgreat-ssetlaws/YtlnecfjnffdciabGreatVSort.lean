import Derived.Shelf.SlSortCmp.NoneTotal
import Derived.Test.YtlnecfjnffdciabGreatSetM
import Derived.Test.YtlnecfjnffdciabGreatTold
import Derived.Test.YtlnecfjnffdciabGreatAppRow
namespace Go.Proofs.YtlnecfjnffdciabGreat
open Go.RowKit
def Tells (d:Nat) (a:VT×Int) (w:World) (e:Ending) (w':World):Prop:=
 ∃v,e=.returned (.tuple #[.agg #[.int .i64 a.1.kind,.int .i64 a.1.num,.string a.1.text,v],.int .i64 a.2])∧Lies d w' a.1.items v∧Below w.heap.size w w'
theorem tells_zero (d:Nat) (n:Int) {w w':World} (h:Below w.heap.size w w'):Tells d (zeroT,n) w (.returned (.tuple #[zeroAgg,.int .i64 n])) w':=
 ⟨.slice none 0 0,rfl,lies_nil d w',h⟩
end Go.Proofs.YtlnecfjnffdciabGreat
