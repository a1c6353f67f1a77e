import Derived.Test.YtlnecfjnffdciabGreatReadL
import Derived.Test.YtlnecfjnffdciabGreatLastOf
namespace Go.Proofs.YtlnecfjnffdciabGreat
open Go.ChangeShapes Go.WideShapes Go.ChangeAt Go.RowKit Go.Deep Go.Joins
theorem read_four {H:Type} {enc:TypeId×Value→H} {w:World} {spare:Nat→Bool} {held:Bool} {m:Nat} {c0 c1 c2 c3:Value} {x:DataW H×List MemPlace}
 (h:DataW.trod enc Tryz.prog w 0 spare held m 33 [c0,c1,c2,c3]=some x):∃t:VT,c0=.int .i64 t.kind∧c1=.int .i64 t.num∧c2=.string t.text∧Lies m w t.items c3∧t.text.size≤9223372036854775807:=by
 obtain⟨xs,n',rfl,_,_,_,hf⟩:=DataW.trod_struct Tryz.underlying33 h
 obtain⟨y0,y1,y2,y3,rfl⟩:=list_four (show xs.length=4 by simpa using ‹xs.length=_›)
 have f0:DataW.trod enc Tryz.prog w 0 spare held n' 3 [c0]=some y0:=by simpa [Tryz.cells3] using hf 0 _ rfl
 have f1:DataW.trod enc Tryz.prog w 0 spare held n' 2 [c1]=some y1:=by simpa [Tryz.cells2] using hf 1 _ rfl
 have f2:DataW.trod enc Tryz.prog w 0 spare held n' 9 [c2]=some y2:=by simpa [Tryz.cells9] using hf 2 _ rfl
 have f3:DataW.trod enc Tryz.prog w 0 spare held n' 22 [c3]=some y3:=by simpa [Tryz.cells22] using hf 3 _ rfl
 obtain⟨kd,e0,_,_⟩:=DataW.trod_int Tryz.underlying3 f0
 obtain⟨nm,e1,_,_⟩:=DataW.trod_int Tryz.underlying2 f1
 obtain⟨tx,e2,_,hs⟩:=DataW.trod_string Tryz.underlying9 f2
 obtain⟨l,u,e3,hL⟩:=read_items n' n' (Nat.le_refl _) _ _ f3
 simp only [List.cons.injEq,and_true] at e0 e1 e2 e3
 subst e0 e1 e2 e3
 exact⟨⟨kd,nm,tx,l⟩,rfl,rfl,rfl,hL.atLeast _ (by omega),by unfold maxLen at hs;show tx.size≤_;omega⟩
end Go.Proofs.YtlnecfjnffdciabGreat

namespace Go.Proofs.YtlnecfjnffdciabGreat
open Go.ChangeShapes Go.WideShapes Go.ChangeAt Go.RowKit Go.Deep Go.Joins
theorem cellsAsk16:Tryz.prog.cellsOf 51=9:=by kernel_rfl
set_option maxRecDepth 100000 in
theorem read_ask16 {H:Type} {enc:TypeId×Value→H} {w:World} {spare:Nat→Bool} {held:Bool} {r:Reach} {b0:Nat} {v:Value} {d:DataW H} {p:List MemPlace}
 (hv:Value.okWide Tryz.prog w r b0 51 v) (h:DataW.Trod enc Tryz.prog w 0 spare held 51 v d p) :
 ∃(n:Nat) (i:Int) (y z:VT) (yu zu:Value),v=.agg #[.int .i64 i,.int .i64 y.kind,.int .i64 y.num,.string y.text,yu,.int .i64 z.kind,.int .i64 z.num,.string z.text,zu]∧(Lies n w y.items yu∧y.text.size≤9223372036854775807)∧(Lies n w z.items zu∧z.text.size≤9223372036854775807):=by
 obtain⟨cs,rfl,hsz⟩:=okWide_struct Tryz.underlying51 hv
 rw [cellsAsk16] at hsz
 obtain⟨cl⟩:=cs
 obtain⟨c8,c0,c1,c2,c3,c4,c5,c6,c7,rfl⟩:∃c8 c0 c1 c2 c3 c4 c5 c6 c7,cl=[c8,c0,c1,c2,c3,c4,c5,c6,c7]:=by
  match cl,hsz with
  | [c8,c0,c1,c2,c3,c4,c5,c6,c7],_=>exact⟨c8,c0,c1,c2,c3,c4,c5,c6,c7,rfl⟩
 obtain⟨fuel,hf⟩:=h
 obtain⟨xs,n',_,_,_,hxl,hff⟩:=DataW.trod_struct Tryz.underlying51 hf
 obtain⟨y2,y0,y1,rfl⟩:∃y2 y0 y1,xs=[y2,y0,y1]:=by
  match xs,hxl with
  | [y2,y0,y1],_=>exact⟨y2,y0,y1,rfl⟩
 have f2:DataW.trod enc Tryz.prog w 0 spare held n' 3 [c8]=some y2:=by simpa [Tryz.cells3,Value.cells] using hff 0 _ rfl
 have f0:DataW.trod enc Tryz.prog w 0 spare held n' 33 [c0,c1,c2,c3]=some y0:=by simpa [Tryz.cells24,Value.cells] using hff 1 _ rfl
 have f1:DataW.trod enc Tryz.prog w 0 spare held n' 33 [c4,c5,c6,c7]=some y1:=by simpa [Tryz.cells24,Value.cells] using hff 2 _ rfl
 obtain⟨t1,e0,e1,e2,hL1,hs1⟩:=read_four f0
 obtain⟨t2,e4,e5,e6,hL2,hs2⟩:=read_four f1
 obtain⟨i,e8,_,_⟩:=DataW.trod_int Tryz.underlying3 f2
 simp only [List.cons.injEq,and_true] at e8
 subst e0 e1 e2 e4 e5 e6 e8
 exact⟨n',i,t1,t2,c3,c7,rfl,⟨hL1.atLeast _ (by omega),hs1⟩,⟨hL2.atLeast _ (by omega),hs2⟩⟩
end Go.Proofs.YtlnecfjnffdciabGreat

