import Derived.Test.YtcflooaoocngdaaGreatRotate
import Derived.Test.YtcflooaoocngdaaGreatSameEq
namespace Go.Proofs.YtcflooaoocngdaaGreat
open Go.RowKit
theorem lt_le {d:Nat} {a b c:VT} (h1:cmpV d a b<0) (h2:cmpV d b c≤0):cmpV d a c<0:=by
 have h:=goes_V d a b c (by omega) h2
 have:cmpV d a c≠0:=fun e=>by have:=(h.2 e).1;omega
 omega
theorem le_lt {d:Nat} {a b c:VT} (h1:cmpV d a b≤0) (h2:cmpV d b c<0):cmpV d a c<0:=by
 have h:=goes_V d a b c h1 (by omega)
 have:cmpV d a c≠0:=fun e=>by have:=(h.2 e).2;omega
 omega
end Go.Proofs.YtcflooaoocngdaaGreat
