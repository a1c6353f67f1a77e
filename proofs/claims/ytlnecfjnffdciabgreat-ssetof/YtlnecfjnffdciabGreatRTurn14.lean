import Derived.Test.YtlnecfjnffdciabGreatToldM
import Derived.Test.YtlnecfjnffdciabGreatRowP
import Derived.Test.YtlnecfjnffdciabGreatMapP
import Derived.Test.YtlnecfjnffdciabGreatEq
import Derived.Deep.RegionHeld3
import Derived.Test.YtlnecfjnffdciabGreatRSets
import Derived.Deep.AppendLies
import Derived.Test.YtlnecfjnffdciabGreatMapV
import Derived.Test.YtlnecfjnffdciabGreatRHave14
namespace Go.Proofs.YtlnecfjnffdciabGreat
open Go.RowKit Go.Shelf
def ofK (q:Nat) (qs:List PP):List PT:=(kyd (cmpO q) (qs.length+1) qs).map trT
theorem ofErr_zero {d:Nat} {o:Int} {l:List PT} (h:ofErr d o l=0):(0≤o∧o<6)∧pErr d l=0:=by
 unfold ofErr zau at h
 by_cases ho:o<0∨6≤o
 ·rw [if_pos ho,if_pos (by decide)] at h;cases h
 ·rw [if_neg ho,if_neg (by decide)] at h;exact⟨by omega,h⟩
end Go.Proofs.YtlnecfjnffdciabGreat

namespace Go.Proofs.YtlnecfjnffdciabGreat
open Go.RowKit Go.Shelf
def ofL (q:Nat) (l:List PT):List PT:=kyd (byK q) (l.length+1) l
theorem ofK_is (q:Nat) (qs:List PP):ofK q qs=ofL q (qs.map trT):=by
 unfold ofK ofL
 rw [List.length_map,kyd_map trT (cmpO q) (byK q) (fun _ _=>rfl)]
end Go.Proofs.YtlnecfjnffdciabGreat

