import Derived.Test.YtcflooaoocngdaaGreatRows
import Derived.Test.YtcflooaoocngdaaGreatRead
namespace Go.Proofs.YtcflooaoocngdaaGreat
open Go.ChangeShapes Go.WideShapes Go.ChangeAt Go.RowKit
theorem own:ownKnob Tryz.prog.godebug=none:=by kernel_rfl
theorem laidOut:laidOutB Tryz.prog=true:=by kernel_rfl
open Go.Deep Go.Joins
set_option maxRecDepth 100000 in
theorem read_list {H:Type} {enc:TypeId×Value→H} {w:World} {spare:Nat→Bool} {held:Bool} {r:Reach} {b0:Nat} {v:Value} {d:DataW H} {p:List MemPlace}
 (hv:Value.okWide Tryz.prog w r b0 22 v) (h:DataW.Trod enc Tryz.prog w 0 spare held 22 v d p):∃(n:Nat) (l:List VT) (a:Option Addr) (c:Nat),v=.slice a l.length c∧Lies (n+1) w l v∧l.length≤9223372036854775807:=by
 obtain⟨a0,len,cap,rfl⟩:=okWide_slice Tryz.underlying22 hv
 obtain⟨fuel,hf⟩:=h
 obtain⟨l,u,e,hL⟩:=read_items fuel fuel (Nat.le_refl _) _ _ hf
 have e':(Value.slice a0 len cap)=u:=by simpa [Value.cells] using e
 subst e'
 obtain⟨a,c,hs,hb⟩:=Lies.slice hL
 exact⟨fuel,l,a,c,hs,Lies.deeper _ _ _ hL,hb⟩
end Go.Proofs.YtcflooaoocngdaaGreat
