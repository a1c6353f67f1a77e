import Derived.Test.YtlnecfjnffdciabGreatCopies
import Derived.Deep.RegionLaw
import Derived.OneCell
namespace Go.Proofs.YtlnecfjnffdciabGreat
open Go.RowKit
structure Src19 (w:World) (aa:Option Addr) (m:Nat) (news:List Value):Prop where
 none:aa=none→m=0
 len:news.length=m*4
 cell:∀ad,aa=some ad→∀j u,news[j]? = some u→w.cell? (ad.add j)=some u
 one:∀u∈news,u.oneCell'=true
theorem Src19.keeps {w w':World} (hb:Below w.heap.size w w') {aa:Option Addr} {m:Nat} {news:List Value} (h:Src19 w aa m news):Src19 w' aa m news:=
 ⟨h.none,h.len,fun ad e j u hu=>zaa hb (h.cell ad e j u hu),h.one⟩
theorem step_append19 {W:World} {ops:Array Oper} {o:Oper} {act:Act} {K:Act→World→Prop} {Q:Exit→Act→World→Prop} {E:Prop} (hgd:o.guard=none) (s x:Operand)
 (ho:o.op=.call { callee:=.builtin .append,args:=#[s,x],argTypes:=#[22,22] })
 {base n:Nat} {v:Value} {xs:List Value} (hs:act.eval s=v) (hown:W.ownsRow base 33 4 v n xs) {aa:Option Addr} {m c:Nat} (hx:act.eval x=.slice aa m c)
 {news:List Value} (hsrc:Src19 W aa m news) (hm:n+m≤1000000) (hbase:base≤W.heap.size)
 (h:∀a' c' W',W'.ownsRow base 33 4 (.slice a' (n+m) c') (n+m) (xs++news)→W.grownBy W' v.ownBlock→K (act.put o.dst (.slice a' (n+m) c')) W') :
 if Region.wanted o (yielded ops act.tmps)=true then Oper.wp Tryz.prog o act W K Q else E:=by
 have hw:Region.wanted o (yielded ops act.tmps)=true:=by simp [Region.wanted,hgd]
 rw [if_pos hw]
 obtain⟨i0,hi,hz0,hz1,hz2⟩:=info24
 by_cases h0:m=0
 ·subst h0
  have hn:news=[]:=List.eq_nil_of_length_eq_zero (by have:=hsrc.len;omega)
  subst hn
  have hr:∀ty,(Builtin.append_ #[22,22] ty #[v,.slice aa 0 c]).run Tryz.prog W=.ok v W:=fun ty=>by
   rcases hown.2 with ⟨rfl,rfl⟩|⟨g,cap,cur,rfl,_,_,hnc,_⟩
   ·cases aa <;> simp [Builtin.append_,run_underlying Tryz.underlying22,sizeOf,typeInfo,hi,Builtin.lenOf,Builtin.firstCells,loadCells,loadCellsFrom]
   ·cases aa <;> simp [Builtin.append_,run_underlying Tryz.underlying22,sizeOf,typeInfo,hi,Builtin.lenOf,Builtin.firstCells,hnc,storeCells,loadCells,loadCellsFrom]
  unfold Oper.wp execOp
  simp only [ho,resolve,invoke,builtin,Sem.run_bind,Sem.run_pure,Result.andThen_ok,List.map_toArray,List.map_cons,List.map_nil,hs,hx,hr]
  have hvf:∃a' c',v=.slice a' n c':=by
   rcases hown.2 with ⟨e,e2⟩|⟨g,cap,cur,e,_⟩
   ·exact⟨_,_,by rw [e,e2]⟩
   ·exact⟨_,cap,e⟩
  obtain⟨a',c',rfl⟩:=hvf
  exact h a' c' W (by simpa using hown) ⟨rfl,rfl,rfl,Nat.le_refl _,fun _ _ _=>rfl⟩
 ·obtain⟨ad,rfl⟩:∃ad,aa=some ad:=by
   cases e:aa with
   | none=>exact absurd (hsrc.none e) h0
   | some ad=>exact⟨ad,rfl⟩
  obtain⟨g',cap,w',hr,r1,r2,r3,r4⟩:=run_append_lies (P:=Tryz.prog) W 22 o.type base 33 i0 _ 4 56 Tryz.underlying22 hi hz0 hz1 hz2 rfl (by decide) _ n xs hown ad m c news hsrc.len (hsrc.cell ad rfl) hsrc.one (by omega) (by unfold maxLen;omega) (by omega) hbase _ rfl
  unfold Oper.wp execOp
  simp only [ho,resolve,invoke,builtin,Sem.run_bind,Sem.run_pure,Result.andThen_ok,List.map_toArray,List.map_cons,List.map_nil,hs,hx,hr]
  exact h _ _ _ r1 r2
end Go.Proofs.YtlnecfjnffdciabGreat
