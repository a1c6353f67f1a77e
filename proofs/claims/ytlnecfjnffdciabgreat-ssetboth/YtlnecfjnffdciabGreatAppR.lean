import Derived.Test.YtlnecfjnffdciabGreatLastOf
import Derived.Test.YtlnecfjnffdciabGreatRangeX
namespace Go.Proofs.YtlnecfjnffdciabGreat
open Go.RowKit Go.Shelf
structure SrcR (w:World) (aa:Option Addr) (m:Nat) (news:List Value):Prop where
 none:aa=none→m=0
 len:news.length=m*8
 cell:∀ad,aa=some ad→∀j u,news[j]? = some u→w.cell? (ad.add j)=some u
 one:∀u∈news,u.oneCell'=true
theorem stepR_append {W:World} {ops:Array Oper} {o:Oper} {act:Act} {K:Act→World→Prop} {Q:Exit→Act→World→Prop} {E:Prop} (hgd:o.guard=none) (s x:Operand)
 (ho:o.op=.call { callee:=.builtin .append,args:=#[s,x],argTypes:=#[76,76] })
 {base n:Nat} {v:Value} {xs:List Value} (hs:act.eval s=v) (hown:W.ownsRow base 108 8 v n xs) {aa:Option Addr} {m c:Nat} (hx:act.eval x=.slice aa m c)
 {news:List Value} (hsrc:SrcR W aa m news) (hm:n+m≤1000000) (hbase:base≤W.heap.size) (k:Nat) (hk:n+m=k) (ys:List Value) (hys:xs++news=ys)
 (h:∀a' c' W',W'.ownsRow base 108 8 (.slice a' k c') k ys→W.grownBy W' v.ownBlock→K (act.put o.dst (.slice a' k c')) W') :
 if Region.wanted o (yielded ops act.tmps)=true then Oper.wp Tryz.prog o act W K Q else E:=by
 have hw:Region.wanted o (yielded ops act.tmps)=true:=by simp [Region.wanted,hgd]
 rw [if_pos hw]
 obtain⟨i0,hi,hz0,hz1,hz2⟩:=infoQ
 subst hk hys
 by_cases h0:m=0
 ·subst h0
  have hn:news=[]:=List.eq_nil_of_length_eq_zero (by have:=hsrc.len;omega)
  subst hn
  have hr:∀ty,(Builtin.append_ #[76,76] ty #[v,.slice aa 0 c]).run Tryz.prog W=.ok v W:=fun ty=>by
   rcases hown.2 with ⟨rfl,rfl⟩|⟨g,cap,cur,rfl,_,_,hnc,_⟩
   ·cases aa <;> simp [Builtin.append_,run_underlying Tryz.underlying76,sizeOf,typeInfo,hi,Builtin.lenOf,Builtin.firstCells,loadCells,loadCellsFrom]
   ·cases aa <;> simp [Builtin.append_,run_underlying Tryz.underlying76,sizeOf,typeInfo,hi,Builtin.lenOf,Builtin.firstCells,hnc,storeCells,loadCells,loadCellsFrom]
  unfold Oper.wp execOp
  simp only [ho,resolve,invoke,builtin,Sem.run_bind,Sem.run_pure,Result.andThen_ok,List.map_toArray,List.map_cons,List.map_nil,hs,hx,hr]
  have hvf:∃a' c',v=.slice a' n c':=by
   rcases hown.2 with ⟨e,e2⟩|⟨g,cap,cur,e,_⟩
   ·exact⟨_,_,by rw [e,e2]⟩
   ·exact⟨_,cap,e⟩
  obtain⟨a',c',rfl⟩:=hvf
  exact h a' c' W (by simpa using hown) ⟨rfl,rfl,rfl,Nat.le_refl _,fun _ _ _=>rfl⟩
 ·obtain⟨ad,rfl⟩:∃ad,aa=some ad:=by
   cases e:aa with
   | none=>exact absurd (hsrc.none e) h0
   | some ad=>exact⟨ad,rfl⟩
  obtain⟨g',cap,w',hr,r1,r2,r3,r4⟩:=run_append_lies (P:=Tryz.prog) W 76 o.type base 108 i0 _ 8 112 Tryz.underlying76 hi hz0 hz1 hz2 rfl (by decide) _ n xs hown ad m c news hsrc.len (hsrc.cell ad rfl) hsrc.one (by omega) (by unfold maxLen;omega) (by omega) hbase _ rfl
  unfold Oper.wp execOp
  simp only [ho,resolve,invoke,builtin,Sem.run_bind,Sem.run_pure,Result.andThen_ok,List.map_toArray,List.map_cons,List.map_nil,hs,hx,hr]
  exact h _ _ _ r1 r2
def Box2 (W:World) (B T:Nat) (u v:Value):Prop:=W.heap[B]? = some (.cells #[u,v] T (0,0))
theorem Box2.lt {W:World} {B T:Nat} {u v:Value} (h:Box2 W B T u v):B<W.heap.size:=(Array.getElem?_eq_some_iff.1 h).1
theorem Box2.new (W:World) (T:Nat) (u v:Value):Box2 (W.alloc (.cells #[u,v] T)) W.heap.size T u v:=World.alloc_heap_new W _
theorem Box2.keeps {W W':World} {B T:Nat} {u v:Value} (h:Box2 W B T u v) (hb:Below W.heap.size W W'):Box2 W' B T u v:=(hb.block _ h.lt).trans h
theorem Box2.cells {W:World} {B T:Nat} {u v:Value} (h:Box2 W B T u v):W.cell? ⟨B,0,none⟩=some u∧W.cell? ⟨B,1,none⟩=some v∧W.frozen? ⟨B,0,none⟩=false∧W.frozen? ⟨B,1,none⟩=false:=by
 have h':W.heap[B]? = some (.cells #[u,v] T (0,0)):=h
 refine⟨?_,?_,?_,?_⟩ <;> simp [World.cell?,World.frozen?,h']
theorem Box2.kept {W W':World} {row:Option Nat} {B T:Nat} {u v:Value} (h:Box2 W B T u v) (hg:W.grownBy W' row) (hne:some B≠row):Box2 W' B T u v:=(hg.block B h.lt hne).trans h
theorem Box2.set1 {W:World} {B T:Nat} {u v:Value} (h:Box2 W B T u v) (z:Value):Box2 (W.setCell ⟨B,1,none⟩ z) B T u z:=by
 obtain⟨hlt,hk⟩:=Array.getElem?_eq_some_iff.1 h
 show (W.heap.modify B _)[B]? = _
 rw [Array.getElem?_eq_getElem (by rw [Array.size_modify];exact hlt),Array.getElem_modify_self,hk]
 rfl
theorem Box2.not_row {W:World} {B T base n:Nat} {u v x:Value} {xs:List Value} (hb:Box2 W B T u v) (hr:W.ownsRow base 108 8 x n xs):some B≠x.ownBlock:=fun e=>by
 have hb':W.heap[B]? = some (.cells #[u,v] T (0,0)):=hb
 rcases hr.2 with ⟨e1,_⟩|⟨g9,cap9,cur,e1,_,e2,_,_,e4,_⟩
 ·rw [e1] at e;cases e
 ·rw [e1] at e
  have hgB:B=g9:=by simpa [Value.ownBlock] using e
  subst hgB
  rw [e2] at hb'
  injection hb' with hb'
  injection hb' with hcu _
  rw [hcu] at e4
  simp at e4
  omega
theorem row2_step {V w5:World} {base G T n k:Nat} {u v v5:Value} {xs ys:List Value} (hb:Box2 V G T u v) (hG:base≤G) (hbase:base≤V.heap.size) (hr:V.ownsRow base 108 8 v n xs) (ho:w5.ownsRow base 108 8 v5 k ys) (hg:V.grownBy w5 v.ownBlock) :
 Box2 w5 G T u v∧Box2 (w5.setCell ⟨G,1,none⟩ v5) G T u v5∧(w5.setCell ⟨G,1,none⟩ v5).ownsRow base 108 8 v5 k ys∧Below base V (w5.setCell ⟨G,1,none⟩ v5):=by
 have h5:=hb.kept hg (hb.not_row hr)
 refine⟨h5,h5.set1 _,ownsRow_setCell_other ho (fun e=>h5.not_row ho e.symm) _,?_⟩
 exact ((Below.refl base V).grown hg hbase (fun j e=>(hr.lt j e).1)).setCell (p:=⟨G,1,none⟩) hG _
theorem litR (W:World) (p:PP) (h1:∀u∈encQ p,u.oneCell'=true):SrcR (W.alloc (.cells #[.int .i64 p.1.1.kind,.int .i64 p.1.1.num,.string p.1.1.text,p.1.2,.int .i64 p.2.1.kind,.int .i64 p.2.1.num,.string p.2.1.text,p.2.2] 108)) (some ⟨W.heap.size,0,none⟩) 1 (encQ p):=by
 refine⟨fun e=>(by cases e),rfl,fun ad e j u hj=>?_,h1⟩
 injection e with e
 subst e
 have e2:encQ p=[.int .i64 p.1.1.kind,.int .i64 p.1.1.num,.string p.1.1.text,p.1.2,.int .i64 p.2.1.kind,.int .i64 p.2.1.num,.string p.2.1.text,p.2.2]:=rfl
 rw [e2] at hj
 match j,hj with
 | 0,hj=>simp at hj;subst hj;simp [Addr.add]
 | 1,hj=>simp at hj;subst hj;simp [Addr.add]
 | 2,hj=>simp at hj;subst hj;simp [Addr.add]
 | 3,hj=>simp at hj;subst hj;simp [Addr.add]
 | 4,hj=>simp at hj;subst hj;simp [Addr.add]
 | 5,hj=>simp at hj;subst hj;simp [Addr.add]
 | 6,hj=>simp at hj;subst hj;simp [Addr.add]
 | 7,hj=>simp at hj;subst hj;simp [Addr.add]
end Go.Proofs.YtlnecfjnffdciabGreat
