import Derived.Test.YtlnecfjnffdciabGreatSplitM
import Derived.Test.YtlnecfjnffdciabGreatLook
namespace Go.Proofs.YtlnecfjnffdciabGreat
open Go.RowKit
def byK (q:Nat) (a b:PT):Int:=ordV q a.1 b.1
theorem ordR_right (q:Nat) (hq:q<6) (a b:VT) (ha:zab 16 a=true) (hb:zab 16 b=true):ordR 16 q a b=ordV q a b∧ordE 16 q a b=0:=by
 have e:ordE 16 q a b=0:=by
  unfold ordE
  rw [if_neg (by omega),if_pos ⟨ha,hb⟩]
 refine⟨?_,e⟩
 unfold ordR
 rw [if_pos e]
 rfl
end Go.Proofs.YtlnecfjnffdciabGreat

