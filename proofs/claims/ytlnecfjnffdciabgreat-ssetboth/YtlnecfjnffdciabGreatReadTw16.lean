import Derived.Test.YtlnecfjnffdciabGreatRows
import Derived.Test.YtlnecfjnffdciabGreatRead
namespace Go.Proofs.YtlnecfjnffdciabGreat
open Go.ChangeShapes Go.WideShapes Go.ChangeAt Go.RowKit
theorem own:ownKnob Tryz.prog.godebug=none:=by kernel_rfl
theorem laidOut:laidOutB Tryz.prog=true:=by kernel_rfl
open Go.Deep Go.Joins
theorem cellsTwo16:Tryz.prog.cellsOf 66=4:=by kernel_rfl
set_option maxRecDepth 100000 in
theorem read_two16 {H:Type} {enc:TypeId×Value→H} {w:World} {spare:Nat→Bool} {held:Bool} {r:Reach} {b0:Nat} {v:Value} {d:DataW H} {p:List MemPlace}
 (hv:Value.okWide Tryz.prog w r b0 66 v) (h:DataW.Trod enc Tryz.prog w 0 spare held 66 v d p) :
 ∃(n:Nat) (oa ob:Int) (l m:List VT) (u1 u2:Value),v=.agg #[.int .i64 oa,.int .i64 ob,u1,u2]∧Lies (n+1) w l u1∧Lies (n+1) w m u2:=by
 obtain⟨cs,rfl,hsz⟩:=okWide_struct Tryz.underlying66 hv
 rw [cellsTwo16] at hsz
 obtain⟨cl⟩:=cs
 obtain⟨c0,c1,c2,c3,rfl⟩:∃c0 c1 c2 c3,cl=[c0,c1,c2,c3]:=by
  match cl,hsz with
  | [c0,c1,c2,c3],_=>exact⟨c0,c1,c2,c3,rfl⟩
 obtain⟨fuel,hf⟩:=h
 obtain⟨xs,n',_,_,_,hxl,hff⟩:=DataW.trod_struct Tryz.underlying66 hf
 obtain⟨y0,y1,y2,y3,rfl⟩:∃y0 y1 y2 y3,xs=[y0,y1,y2,y3]:=by
  match xs,hxl with
  | [y0,y1,y2,y3],_=>exact⟨y0,y1,y2,y3,rfl⟩
 have f0:DataW.trod enc Tryz.prog w 0 spare held n' 3 [c0]=some y0:=by simpa [Tryz.cells3,Value.cells] using hff 0 _ rfl
 have f1:DataW.trod enc Tryz.prog w 0 spare held n' 3 [c1]=some y1:=by simpa [Tryz.cells3,Value.cells] using hff 1 _ rfl
 have f2:DataW.trod enc Tryz.prog w 0 spare held n' 22 [c2]=some y2:=by simpa [Tryz.cells22,Value.cells] using hff 2 _ rfl
 have f3:DataW.trod enc Tryz.prog w 0 spare held n' 22 [c3]=some y3:=by simpa [Tryz.cells22,Value.cells] using hff 3 _ rfl
 obtain⟨oa,e0,_,_⟩:=DataW.trod_int Tryz.underlying3 f0
 obtain⟨ob,e1,_,_⟩:=DataW.trod_int Tryz.underlying3 f1
 obtain⟨l,u,e2,L0⟩:=read_items n' n' (Nat.le_refl _) _ _ f2
 obtain⟨m,v,e3,L1⟩:=read_items n' n' (Nat.le_refl _) _ _ f3
 simp only [List.cons.injEq,and_true] at e0 e1 e2 e3
 subst e0 e1 e2 e3
 exact⟨n',oa,ob,l,m,c2,c3,rfl,Lies.deeper _ _ _ L0,Lies.deeper _ _ _ L1⟩
end Go.Proofs.YtlnecfjnffdciabGreat
