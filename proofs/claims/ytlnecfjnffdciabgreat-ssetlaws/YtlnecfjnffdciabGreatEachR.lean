import Derived.Test.YtlnecfjnffdciabGreatGrownM
import Derived.Test.YtlnecfjnffdciabGreatRangeX
set_option maxRecDepth 100000
set_option maxHeartbeats 16000000
namespace Go.Proofs.YtlnecfjnffdciabGreat
open Go.RowKit Go.Shelf
attribute [local go_sem] Oper.semAt_some
theorem room_wide14 (k:Nat):Fence.wide.room k:=fun d h=>by cases h
theorem roundIn_deep14 {m m':Nat} {P:Program} {l:Nat} {f:FuncId} {tmps:Array Value} {assign body:Code} {w:World} {R:Ending→World→Prop}
 (h:RoundIn Fence.wide m P l f tmps assign body w R):RoundIn Fence.wide m' P l f tmps assign body w R:=⟨h.1,fun c cs _=>h.2 c cs (room_wide14 _)⟩
theorem yieldAt_deep14 {m:Nat} (m':Nat) {P:Program} {l:Nat} {args:Array Value} {W:World} {R:Ending→World→Prop} (h:YieldAt Fence.wide m P l args W R):YieldAt Fence.wide m' P l args W R:=by
 obtain⟨fn,tmps,assign,body,hy,hR⟩:=h
 exact⟨fn,tmps,assign,body,hy,roundIn_deep14 hR⟩
abbrev PQ (d:Nat) (w0:World):Type:={ q:PP // GoodQ d w0 q }
def EachPostQ {d:Nat} {w0:World} (J Jx:List (PQ d w0)→World→Prop) (ys:List (PQ d w0)) (W:World) (e:Ending) (W':World):Prop:=
 (e=.returned (.bool true)∧J ys W'∧Below w0.heap.size W W')∨(e=.returned (.bool false)∧∃pre,Jx pre W')
def EachQ {d:Nat} {w0:World} (p:Option Addr) (qs:List (PQ d w0)):Prop:=
 ∀(lp N:Nat) (J Jx:List (PQ d w0)→World→Prop),(∀s A B,J s A→Below A.heap.size A B→J s B)→
  (∀m pre (x:PQ d w0) W,J pre W→pre.length<N→YieldAt Fence.wide m Tryz.prog lp #[.agg #[.int .i64 x.1.1.1.kind,.int .i64 x.1.1.1.num,.string x.1.1.1.text,x.1.1.2,.int .i64 x.1.2.1.kind,.int .i64 x.1.2.1.num,.string x.1.2.1.text,x.1.2.2]] W fun e W'=>
   (e=.returned (.bool true)∧J (pre++[x]) W'∧Below w0.heap.size W W')∨(e=.returned (.bool false)∧Jx (pre++[x]) W'))→
  ∀(n:Nat) (pre:List (PQ d w0)) (W:World),pre.length+qs.length≤N→Below w0.heap.size w0 W→J pre W→
   CallsIn Fence.wide n Tryz.prog 241 #[.pointer p,.func (.yield lp) #[] #[]] W (EachPostQ J Jx (pre++qs) W)
theorem each_none14 (lp:Nat) (W:World):Calls Tryz.prog 241 #[.pointer none,.func (.yield lp) #[] #[]] W fun e w'=>e=.returned (.bool true)∧w'=W:=by
 go_enter Tryz.func241,Tryz.ntmps241
 go_wp2_with fail
 go_ret
 exact⟨rfl,rfl⟩
theorem each_nil14 (d:Nat) (w0:World):EachQ (d:=d) (w0:=w0) none []:=by
 intro lp N J Jx hJ hY n pre W hN hW hpre
 refine (callsIn_wide.2 (each_none14 lp W)).mono ?_
 rintro e w' ⟨rfl,rfl⟩
 exact .inl ⟨rfl,by rw [List.append_nil];exact hpre,Below.refl _ _⟩
theorem each_node14 (d:Nat) (w0:World) (b:Nat) (pl pr:Option Addr) (y:PT) (ku vu:Value) (c:Bool) (s h k:Nat) (hn:NCells w0 b pl pr y ku vu c s h k) (hg:GoodQ d w0 ((y.1,ku),(y.2,vu))) (ql qr:List (PQ d w0)) (hl:EachQ pl ql) (hr:EachQ pr qr):EachQ (some ⟨b,0,none⟩) (ql++⟨((y.1,ku),(y.2,vu)),hg⟩::qr):=by
 intro lp N J Jx hJ hY n pre W hN hW hpre
 have hlen:pre.length+(ql.length+(qr.length+1))≤N:=by simpa using hN
 have HA:Hid (CallsIn Fence.wide (n-1) Tryz.prog 241 #[.pointer pl,.func (.yield lp) #[] #[]] W (EachPostQ J Jx (pre++ql) W)):=hl lp N J Jx hJ hY (n-1) pre W (by omega) hW hpre
 have HB:Hid (∀V,Below w0.heap.size w0 V→J (pre++ql) V→YieldAt Fence.wide (n-1) Tryz.prog lp #[.agg #[.int .i64 y.1.kind,.int .i64 y.1.num,.string y.1.text,ku,.int .i64 y.2.kind,.int .i64 y.2.num,.string y.2.text,vu]] V fun e W'=>
  (e=.returned (.bool true)∧J ((pre++ql)++[⟨((y.1,ku),(y.2,vu)),hg⟩]) W'∧Below w0.heap.size V W')∨(e=.returned (.bool false)∧Jx ((pre++ql)++[⟨((y.1,ku),(y.2,vu)),hg⟩]) W')):=fun V _ hV=>hY (n-1) (pre++ql) ⟨((y.1,ku),(y.2,vu)),hg⟩ V hV (by rw [List.length_append];omega)
 have HC:Hid (∀V,Below w0.heap.size w0 V→J ((pre++ql)++[⟨((y.1,ku),(y.2,vu)),hg⟩]) V→CallsIn Fence.wide (n-1) Tryz.prog 241 #[.pointer pr,.func (.yield lp) #[] #[]] V (EachPostQ J Jx (pre++(ql++⟨((y.1,ku),(y.2,vu)),hg⟩::qr)) V)):=fun V h1 h2=>by
  have h9:=hr lp N J Jx hJ hY (n-1) ((pre++ql)++[⟨((y.1,ku),(y.2,vu)),hg⟩]) V (by simp;omega) h1 h2
  have e:((pre++ql)++[⟨((y.1,ku),(y.2,vu)),hg⟩])++qr=pre++(ql++⟨((y.1,ku),(y.2,vu)),hg⟩::qr):=by simp
  rwa [e] at h9
 have HW:Hid (Below w0.heap.size w0 W):=hW
 have HN:Hid _:=hn
 obtain⟨c0,c1,c2,c3,c4,c5,c6,c7,c8,c9,_,_,_,_⟩:=hn.keeps hW
 clear hl hr hJ hY hpre hN hlen
 refine callsIn_of_wp Tryz.func241 rfl trivial ?_ rfl
 simp only [Tryz.ntmps241,List.size_toArray,List.length_cons,List.length_nil,Nat.reduceAdd,Nat.reduceSub,Array.replicate_succ,Array.replicate_zero,List.push_toArray,List.append_toArray,List.nil_append,List.cons_append]
 gi_wp2
 refine⟨trivial,(fun h=>by cases h),?_⟩
 refine HA.out.mono ?_
 rintro e W1 (⟨rfl,hJ1,hb1⟩|⟨rfl,pre3,hx3⟩)
 ·have HJ1:Hid (J (pre++ql) W1):=hJ1
  have hw1:Below w0.heap.size w0 W1:=HW.out.trans hb1
  have Hb1:Hid (Below w0.heap.size W W1):=hb1
  clear c0 c1 c2 c3 c4 c5 c6 c7 c8 c9
  obtain⟨c0,c1,c2,c3,c4,c5,c6,c7,c8,c9,_,_,_,_⟩:=HN.out.keeps hw1
  clear hJ1
  obtain⟨fn,tmps,assign,body,hy,hR⟩:=HB.out _ hw1 HJ1.out
  gi_wp2
  refine⟨(fun h=>by cases h),?_⟩
  refine hR.mono ?_
  rintro e W2 (⟨rfl,hJ2,hb2⟩|⟨rfl,hx3⟩)
  ·have hw2:Below w0.heap.size w0 W2:=hw1.trans hb2
   have HC2:Hid _:=HC.out W2 hw2 hJ2
   have Hb2:Hid (Below w0.heap.size W W2):=Hb1.out.trans hb2
   clear c0 c1 c2 c3 c4 c5 c6 c7 c8 c9
   obtain⟨c0,c1,c2,c3,c4,c5,c6,c7,c8,c9,_,_,_,_⟩:=HN.out.keeps hw2
   clear hy hR HB HC hJ2
   gi_wp2
   refine⟨trivial,(fun h=>by cases h),?_⟩
   refine CallsIn.mono HC2.out ?_
   rintro e W3 (⟨rfl,hJ3,hb3⟩|⟨rfl,pre3,hx3⟩)
   ·gi_wp2
    go_ret
    exact .inl ⟨rfl,hJ3,Hb2.out.trans hb3⟩
   ·gi_wp2
    go_ret
    exact .inr ⟨rfl,_,hx3⟩
  ·gi_wp2
   refine⟨trivial,?_⟩
   gi_wp2
   go_ret
   exact .inr ⟨rfl,_,hx3⟩
 ·gi_wp2
  refine⟨(fun f h=>by cases h),?_⟩
  gi_wp2
  refine⟨trivial,?_⟩
  gi_wp2
  go_ret
  exact .inr ⟨rfl,_,hx3⟩
attribute [local go_sem] Oper.semAt_some
theorem each14 (X:Nat→Prop) (d:Nat) (w0:World):∀(t:RT PT) (p:Option Addr),NM X d w0 t p→∃qs:List (PQ d w0),qs.map (fun q=>trT q.1)=t.items∧EachQ p qs
 | .nil,p,h=>by
  have hp:p=none:=h
  subst hp
  exact⟨[],rfl,each_nil14 d w0⟩
 | .node c l x r,p,h=>by
  obtain⟨b,pl,pr,ku,vu,rfl,hn,hk,hv,hl,hr⟩:=h
  obtain⟨ql,h1,h2⟩:=each14 X d w0 l pl hl
  obtain⟨qr,h3,h4⟩:=each14 X d w0 r pr hr
  have hg:GoodQ d w0 ((x.1,ku),(x.2,vu)):=⟨⟨hk.1.lies,hk.2⟩,⟨hv.1.lies,hv.2⟩⟩
  refine⟨ql++⟨((x.1,ku),(x.2,vu)),hg⟩::qr,?_,each_node14 d w0 b pl pr x ku vu c _ _ _ hn hg ql qr h2 h4⟩
  rw [List.map_append,List.map_cons,h1,h3]
  rfl
theorem all1_core (d:Nat) (w0:World) (p:Option Addr) (qs:List (PQ d w0)) (hE:EachQ p qs) (n lp Bp:Nat) (J Jx:List (PQ d w0)→World→Prop) (hJ:∀s A B,J s A→Below A.heap.size A B→J s B)
 (hY:∀m pre (x:PQ d w0) W,J pre W→pre.length<qs.length→YieldAt Fence.wide m Tryz.prog lp #[.agg #[.int .i64 x.1.1.1.kind,.int .i64 x.1.1.1.num,.string x.1.1.1.text,x.1.1.2,.int .i64 x.1.2.1.kind,.int .i64 x.1.2.1.num,.string x.1.2.1.text,x.1.2.2]] W fun e W'=>(e=.returned (.bool true)∧J (pre++[x]) W'∧Below w0.heap.size W W')∨(e=.returned (.bool false)∧Jx (pre++[x]) W'))
 (W:World) (hW:Below w0.heap.size w0 W) (hp:W.cell? ⟨Bp,0,none⟩=some (.pointer p)) (h0:J [] W) :
 CallsIn Fence.wide n Tryz.prog 240 #[.func (.yield lp) #[] #[],.pointer (some ⟨Bp,0,none⟩)] W fun e W'=>(∃v,e=.returned v)∧((∃ys,ys=qs∧J ys W')∨(∃pre,True∧Jx pre W')):=by
 have HE:Hid (CallsIn Fence.wide (n-1) Tryz.prog 241 #[.pointer p,.func (.yield lp) #[] #[]] W fun e W'=>∃y:Bool,e=.returned (.bool y)∧((∃ys,ys=qs∧J ys W')∨(∃pre,True∧Jx pre W'))):=by
  refine (hE lp qs.length J Jx hJ hY (n-1) [] W (by simp) hW h0).mono ?_
  rintro e W' (⟨rfl,hj,_⟩|⟨rfl,pre,hx⟩)
  ·exact⟨true,rfl,.inl ⟨_,rfl,by simpa using hj⟩⟩
  ·exact⟨false,rfl,.inr ⟨pre,trivial,hx⟩⟩
 clear hE hY hJ h0 hW
 refine callsIn_of_wp Tryz.func240 rfl trivial ?_ rfl
 simp only [Tryz.ntmps240,List.size_toArray,List.length_cons,List.length_nil,Nat.reduceAdd,Nat.reduceSub,Array.replicate_succ,Array.replicate_zero,List.push_toArray,List.append_toArray,List.nil_append,List.cons_append]
 gi_wp2
 refine⟨trivial,(fun h=>by cases h),?_⟩
 refine CallsIn.mono HE.out ?_
 rintro e w2 ⟨y,rfl,hR⟩
 gi_wp2
 go_end0
 exact⟨⟨_,rfl⟩,hR⟩
theorem all1_stops (d:Nat) (w0:World) (p:Option Addr) (qs:List (PQ d w0)) (hE:EachQ p qs) (n Bp:Nat) (w:World) (hb:Below w0.heap.size w0 w) (hlp:Bp<w.heap.size) (hp:w.cell? ⟨Bp,0,none⟩=some (.pointer p)) :
 SeqStopsK Fence.wide n Tryz.prog 240 #[.pointer (some ⟨Bp,0,none⟩)] (fun x:PQ d w0=>#[.agg #[.int .i64 x.1.1.1.kind,.int .i64 x.1.1.1.num,.string x.1.1.1.text,x.1.1.2,.int .i64 x.1.2.1.kind,.int .i64 x.1.2.1.num,.string x.1.2.1.text,x.1.2.2]]) (Below w0.heap.size) (fun ys=>ys=qs) (fun _=>True) qs.length w:=by
 intro lp J Jx W hW hJ _ hY h0
 have hJ2:∀s A B,J s A→Below A.heap.size A B→J s B:=fun s A B hs hb=>hJ s A B none hs ⟨hb.os,hb.tape,hb.output,hb.size,fun k hk _=>hb.block k hk⟩ (fun r e=>by cases e)
 exact all1_core d w0 p qs hE n lp Bp J Jx hJ2 (fun m pre x W1 hj hl=>yieldAt_deep14 m (hY pre x W1 hj hl)) W (hb.trans (hW.mono hb.size)) ((hW.cell (p:=⟨Bp,0,none⟩) hlp).trans hp) h0
theorem all_14 (p:Option Addr) (w:World):Calls Tryz.prog 177 #[.pointer p] w fun e w'=>e=.returned (.func (.func 240) #[] #[.pointer (some ⟨w.heap.size,0,none⟩)])∧w'=w.alloc (.cells #[.pointer p] 160):=by
 go_enter Tryz.func177,Tryz.ntmps177
 go_wp2_with fail
 go_ret
 exact⟨rfl,rfl⟩
def markQ (D:Nat):Deferred:={ target:=.collected D,args:=#[] }
theorem leaves_one14 {F:Fence} {n:Nat} {P:Program} {fn:Func} {tmps:Array Value} {R:Ending→World→Prop} (D:Nat) (W:World) (hD:W.heap[D]? = some (.deferred (some [])))
 (hend:∃v,(results fn tmps).run P (W.putObj D (.deferred none))=.ok v (W.putObj D (.deferred none))∧R (.returned v) (W.putObj D (.deferred none))):LeavesInM F n P fn tmps R [markQ D] .returning W:=
 ⟨by simp,.inl ⟨D,_,rfl,run_takeDeferred hD,hend⟩⟩
theorem appIn_pair {F:Fence} {n:Nat} {w:World} {ops:Array Oper} {rest:List Oper} {o:Oper} {a:Act} {Q:Exit→Act→World→Prop} (hgd:o.guard=none) (s x:Operand)
 (ho:o.op=.call { callee:=.builtin .append,args:=#[s,x],argTypes:=#[76,76] })
 (base:Nat) (v:Value) (k:Nat) (xs:List Value) (hs:a.eval s=v) (hown:w.ownsRow base 108 8 v k xs) (B:Nat) (y:PP) (hx:a.eval x=.slice (some ⟨B,0,none⟩) 1 1) (hy:Eight w B 0 y) (h1:∀u∈encQ y,u.oneCell'=true)
 (hk:k≤65536) (hbase:base≤w.heap.size)
 (h:∀g cap w',w'.ownsRow base 108 8 (.slice (some ⟨g,0,none⟩) (k+1) cap) (k+1) (xs++encQ y)→w.grownBy w' v.ownBlock→(v.ownBlock=some g∨g=w.heap.size)→g<w'.heap.size→wpListIn F n Tryz.prog ops Q rest (a.put o.dst (.slice (some ⟨g,0,none⟩) (k+1) cap)) w'):wpListIn F n Tryz.prog ops Q (o::rest) a w:=by
 obtain⟨i0,hi,hz0,hz1,hz2⟩:=infoQ
 refine wpListIn_plain hgd fun K hK=>?_
 obtain⟨y0,y1,y2,y3,y4,y5,y6,y7⟩:=hy
 obtain⟨g,cap,w',hr,r1,r2,r3,r4⟩:=run_append_lies (P:=Tryz.prog) w 76 o.type base 108 i0 _ 8 112 Tryz.underlying76 hi hz0 hz1 hz2 rfl (by decide) v k xs hown ⟨B,0,none⟩ 1 1 (encQ y) rfl (fun j u hj=>by
  have e:encQ y=[.int .i64 y.1.1.kind,.int .i64 y.1.1.num,.string y.1.1.text,y.1.2,.int .i64 y.2.1.kind,.int .i64 y.2.1.num,.string y.2.1.text,y.2.2]:=rfl
  rw [e] at hj
  match j,hj with
  | 0,hj=>simp at hj;subst hj;simpa [Addr.add] using y0
  | 1,hj=>simp at hj;subst hj;simpa [Addr.add] using y1
  | 2,hj=>simp at hj;subst hj;simpa [Addr.add] using y2
  | 3,hj=>simp at hj;subst hj;simpa [Addr.add] using y3
  | 4,hj=>simp at hj;subst hj;simpa [Addr.add] using y4
  | 5,hj=>simp at hj;subst hj;simpa [Addr.add] using y5
  | 6,hj=>simp at hj;subst hj;simpa [Addr.add] using y6
  | 7,hj=>simp at hj;subst hj;simpa [Addr.add] using y7) h1 (by decide) (by unfold maxLen;omega) (by omega) hbase _ rfl
 unfold Oper.wpIn
 refine⟨?_,?_⟩
 ·simp [Oper.about,ho,resolve,Target.leads,Sem.run_pure]
 ·rw [Oper.semAt_plain F _ _ (by rw [ho];intro c hc';cases hc')]
  simp [execOp,ho,resolve,invoke,builtin,hs,hx,hr,Result.andThen]
  exact hK _ _ (h g cap w' r1 r2 r3 r4)
def SIQ {d:Nat} {w0:World} (B:Nat) (w:World) (pre:List (PQ d w0)) (W:World):Prop:=
 (∃v,Go.Boxed W B 76 v∧W.ownsRow w0.heap.size 108 8 v pre.length (pre.flatMap fun q=>encQ q.1))∧Below w0.heap.size w W
theorem SIQ.own {d:Nat} {w0:World} (B M:Nat) (w:World) (hB:B<M) (hw:w0.heap.size≤M) (hww:w0.heap.size≤w.heap.size):OwnFrom M (SIQ (d:=d) (w0:=w0) B w):=by
 intro s A V row hs hg hr
 obtain⟨⟨v,bx,hrow⟩,hb⟩:=hs
 refine⟨⟨v,bx.kept hg (fun e=>?_),hrow.kept hg ?_⟩,hb.grown hg (by have:=hb.size;omega) (fun k e=>?_)⟩
 ·have:=(hr _ e.symm).1
  omega
 ·cases hvo:v.ownBlock with
  | none=>exact .inl rfl
  | some b=>
   refine .inr (fun e=>?_)
   obtain⟨_,o,ho,hoc⟩:=hr b e.symm
   rcases hrow.2 with ⟨e1,_⟩|⟨g,cap,cur,e1,_,e2,_⟩
   ·rw [e1] at hvo;cases hvo
   ·rw [e1] at hvo
    have:g=b:=by simpa [Value.ownBlock] using hvo
    subst this
    rw [e2] at ho
    cases ho
    simp [Obj.isCells] at hoc
 ·have:=(hr _ e).1
  omega
def Box8 (W:World) (B:Nat) (p:PP):Prop:=W.heap[B]? = some (.cells #[.int .i64 p.1.1.kind,.int .i64 p.1.1.num,.string p.1.1.text,p.1.2,.int .i64 p.2.1.kind,.int .i64 p.2.1.num,.string p.2.1.text,p.2.2] 108 (0,0))
theorem Box8.lt {W:World} {B:Nat} {p:PP} (h:Box8 W B p):B<W.heap.size:=(Array.getElem?_eq_some_iff.1 h).1
theorem Box8.eight {W:World} {B:Nat} {p:PP} (h:Box8 W B p):Eight W B 0 p:=by
 have h':W.heap[B]? = some (.cells #[.int .i64 p.1.1.kind,.int .i64 p.1.1.num,.string p.1.1.text,p.1.2,.int .i64 p.2.1.kind,.int .i64 p.2.1.num,.string p.2.1.text,p.2.2] 108 (0,0)):=h
 refine⟨?_,?_,?_,?_,?_,?_,?_,?_⟩ <;> simp [World.cell?,h']
def SAQ {d:Nat} {w0:World} (B:Nat) (f:Nat→Act) (x:PQ d w0) (a:Act) (W:World):Prop:=
 ∃Bx,B<Bx∧Box8 W Bx x.1∧a=f Bx
theorem SAQ.own {d:Nat} {w0:World} (B M:Nat) (f:Nat→Act) (x:PQ d w0) (a:Act):OwnFrom M (fun (_:Unit) W=>SAQ B f x a W):=by
 intro s A V row hs hg hr
 obtain⟨Bx,hlt,b8,rfl⟩:=hs
 have hb8:A.heap[Bx]? = some (.cells #[.int .i64 x.1.1.1.kind,.int .i64 x.1.1.1.num,.string x.1.1.1.text,x.1.1.2,.int .i64 x.1.2.1.kind,.int .i64 x.1.2.1.num,.string x.1.2.1.text,x.1.2.2] 108 (0,0)):=b8
 refine⟨Bx,hlt,(hg.block Bx b8.lt (fun e=>?_)).trans b8,rfl⟩
 obtain⟨_,o,ho,hoc⟩:=hr _ e.symm
 rw [hb8] at ho
 cases ho
 simp [Obj.isCells] at hoc
theorem appendSeq_14 (d:Nat) (w0:World) (qs:List (PQ d w0)) (hq:qs.length≤65536) (lb:Array Value) (s:Value) (w:World) (hb:Below w0.heap.size w0 w) (hrow:w.ownsRow w0.heap.size 108 8 s 0 [])
 (hseq:∀W,Below w.heap.size w W→SeqStopsK Fence.wide 5 Tryz.prog 240 lb (fun x:PQ d w0=>#[.agg #[.int .i64 x.1.1.1.kind,.int .i64 x.1.1.1.num,.string x.1.1.1.text,x.1.1.2,.int .i64 x.1.2.1.kind,.int .i64 x.1.2.1.num,.string x.1.2.1.text,x.1.2.2]]) (Below w0.heap.size) (fun ys=>ys=qs) (fun _=>True) qs.length W) :
 Calls Tryz.prog 176 #[s,.func (.func 240) #[] lb] w fun e w'=>∃v,e=.returned v∧w'.ownsRow w0.heap.size 108 8 v qs.length (qs.flatMap fun q=>encQ q.1)∧Below w0.heap.size w w':=by
 obtain⟨a0,n0,c0,rfl⟩:∃a n c,s=.slice a n c:=by
  rcases hrow.2 with ⟨rfl,_⟩|⟨g,cap,_,rfl,_⟩ <;> exact⟨_,_,_,rfl⟩
 refine (callsIn_wide (n:=6)).1 ?_
 refine callsIn_of_wp_marks Tryz.func176 rfl trivial ?_ rfl
 simp only [Tryz.ntmps176,List.size_toArray,List.length_cons,List.length_nil,Nat.reduceAdd,Nat.reduceSub,Array.replicate_succ,Array.replicate_zero,List.push_toArray,List.append_toArray,List.nil_append,List.cons_append]
 have Hrow:Hid (w.ownsRow w0.heap.size 108 8 (.slice a0 n0 c0) 0 []):=hrow
 have hww:w0.heap.size≤w.heap.size:=hb.size
 have hb1:Below w.heap.size w (w.alloc (.cells #[.slice a0 n0 c0] 76)):=((Grew.refl w).alloc _).below
 clear hrow
 gi_wp2
 refine wpIn_rangeFunc_ownH rfl (by omega) (gf:=240) (lb:=lb) rfl trivial (enters_of Tryz.func240 (by kernel_rfl) rfl)
  (hseq _ hb1) belowK_t (belowK_b (by simp;omega)) (Below.refl _ _) (fun _=>rfl)
  (SIQ w.heap.size w) (fun _ _ _=>False)
  (SIQ.own _ _ _ (by simp) (by simp;omega) hww) (fun _ _ _ _ _ hs _ _=>hs) ?h0
  (fun x=>SAQ w.heap.size (fun Bx=>{ tmps:=#[.slice a0 n0 c0,.func (.func 240) #[] lb,.pointer (some ⟨w.heap.size,0,none⟩),undef,.slice none 0 0,.pointer (some ⟨Bx,0,none⟩),.func (.func 240) #[] lb,.agg #[.int .i64 x.1.1.1.kind,.int .i64 x.1.1.1.num,.string x.1.1.1.text,x.1.1.2,.int .i64 x.1.2.1.kind,.int .i64 x.1.2.1.num,.string x.1.2.1.text,x.1.2.2],undef,undef,undef,undef,undef],defers:=[] }) x) (fun x a'=>SAQ.own _ _ _ _ _) ?assign ?body ?done ?stop
 case h0=>exact⟨⟨_,Go.Boxed.new w 76 _,Hrow.out.alloc _⟩,hb1.mono hww⟩
 case assign=>
  rintro lp pre ⟨⟨⟨t1,u1⟩,⟨t2,u2⟩⟩,hgd⟩ W K ⟨⟨v,bx,hrow⟩,hB⟩ hK
  obtain⟨a1,c1,hu1,_⟩:=Lies.slice hgd.1.1
  obtain⟨a2,c2,hu2,_⟩:=Lies.slice hgd.2.1
  simp only at hu1 hu2
  subst hu1 hu2
  have HK:Hid (K _ _):=hK _ _ ((KeepsOthers.alloc W (.cells #[.int .i64 t1.kind,.int .i64 t1.num,.string t1.text,.slice a1 t1.items.length c1,.int .i64 t2.kind,.int .i64 t2.num,.string t2.text,.slice a2 t2.items.length c2] 108)).from _) ((((Grew.refl W).alloc (.cells #[.int .i64 t1.kind,.int .i64 t1.num,.string t1.text,.slice a1 t1.items.length c1,.int .i64 t2.kind,.int .i64 t2.num,.string t2.text,.slice a2 t2.items.length c2] 108)).below).mono (by have:=hB.size;omega)) ⟨⟨v,bx.alloc _,hrow.alloc _⟩,hB.trans ((((Grew.refl W).alloc _).below).mono (by have:=hB.size;omega))⟩ ⟨W.heap.size,bx.lt,World.alloc_heap_new W _,rfl⟩
  clear hK
  gi_wp2
  exact HK.out
 case body=>
  rintro lp pre ⟨⟨⟨t1,u1⟩,⟨t2,u2⟩⟩,hgd⟩ a' W hlp ⟨r,hr⟩ ⟨⟨v,bx,hrow⟩,hB⟩ ⟨Bx,hBx,b8,rfl⟩ hlt
  obtain⟨a1,c1,hu1,_⟩:=Lies.slice hgd.1.1
  obtain⟨a2,c2,hu2,_⟩:=Lies.slice hgd.2.1
  simp only at hu1 hu2
  subst hu1 hu2
  obtain⟨av,cv,hv⟩:∃a c,v=.slice a pre.length c:=by
   rcases hrow.2 with ⟨rfl,e⟩|⟨g,cap,_,rfl,_⟩
   ·exact⟨none,0,by rw [e]⟩
   ·exact⟨_,_,rfl⟩
  subst hv
  obtain⟨k,hk⟩:∃k,k=pre.length:=⟨_,rfl⟩
  rw [←hk] at bx hrow hlt
  have hkq:k≤65536:=by omega
  have b8':Box8 W Bx ((t1,.slice a1 t1.items.length c1),(t2,.slice a2 t2.items.length c2)):=b8
  obtain⟨b0,b1,b2,b3,b4,b5,b6,b7⟩:=b8'.eight
  simp only [Nat.zero_add] at b0 b1 b2 b3 b4 b5 b6 b7
  have hc:=bx.cell
  have hf:=bx.frozen
  have hBl:=bx.lt
  have hBxl:=b8'.lt
  have hn1 : ¬(Bx=W.heap.size):=by omega
  have hn2 : ¬(w.heap.size=W.heap.size):=by omega
  obtain⟨W1,hW1⟩:∃W1,W1=W.alloc (.cells #[.int .i64 t1.kind,.int .i64 t1.num,.string t1.text,.slice a1 t1.items.length c1,.int .i64 t2.kind,.int .i64 t2.num,.string t2.text,.slice a2 t2.items.length c2] 108):=⟨_,rfl⟩
  have HRow:Hid (W1.ownsRow w0.heap.size 108 8 (.slice av k cv) k (pre.flatMap fun q=>encQ q.1)):=by rw [hW1];exact hrow.alloc _
  have hs1:W1.heap.size=W.heap.size+1:=by rw [hW1];simp
  have Hbs:Hid (w0.heap.size≤W1.heap.size):=by show _≤_;have:=hB.size;omega
  have HE8:Hid (Eight W1 W.heap.size 0 ((t1,.slice a1 t1.items.length c1),(t2,.slice a2 t2.items.length c2))):=by
   rw [hW1]
   refine⟨?_,?_,?_,?_,?_,?_,?_,?_⟩ <;> simp
  have HOn:Hid (∀u∈encQ ((t1,.slice a1 t1.items.length c1),(t2,.slice a2 t2.items.length c2)),u.oneCell'=true):=encQ_one hgd
  have HStep:Hid (∀(g cap:Nat) (w3:World),w3.ownsRow w0.heap.size 108 8 (.slice (some ⟨g,0,none⟩) (k+1) cap) (k+1) ((pre.flatMap fun q=>encQ q.1)++encQ ((t1,.slice a1 t1.items.length c1),(t2,.slice a2 t2.items.length c2)))→W1.grownBy w3 (Value.slice av k cv).ownBlock→((Value.slice av k cv).ownBlock=some g∨g=W1.heap.size)→
   Go.Boxed w3 w.heap.size 76 (.slice av k cv)∧KeepsOthers W (w3.setCell ⟨w.heap.size,0,none⟩ (.slice (some ⟨g,0,none⟩) (k+1) cap))∧Below w0.heap.size W (w3.setCell ⟨w.heap.size,0,none⟩ (.slice (some ⟨g,0,none⟩) (k+1) cap))∧SIQ w.heap.size w (pre++[⟨((t1,.slice a1 t1.items.length c1),(t2,.slice a2 t2.items.length c2)),hgd⟩]) (w3.setCell ⟨w.heap.size,0,none⟩ (.slice (some ⟨g,0,none⟩) (k+1) cap))):=fun g cap w3 hown hgrow hg=>by
   have hvo:∀j,(Value.slice av k cv).ownBlock=some j→w0.heap.size≤j∧j<W.heap.size:=fun j hj=>hrow.lt j hj
   have hbnr:some w.heap.size≠(Value.slice av k cv).ownBlock:=bx.not_row (by decide) hrow
   have hg9:g≠w.heap.size:=by
    rcases hg with hg|hg
    ·exact fun e=>hbnr (by rw [hg,e])
    ·omega
   have hbx3:Go.Boxed w3 w.heap.size 76 (.slice av k cv):=(show Go.Boxed W1 w.heap.size 76 (.slice av k cv) by rw [hW1];exact bx.alloc _).kept hgrow hbnr
   have hw3:Below w0.heap.size W w3:=by
    have h1:Below w0.heap.size W W1:=by rw [hW1];exact (Below.refl _ W).alloc (by have:=hB.size;omega) _
    exact h1.grown hgrow Hbs.out (fun j e=>(hvo j e).1)
   have hk3:KeepsOthers W w3:=by
    have hk1:KeepsOthers W W1:=by rw [hW1];exact KeepsOthers.alloc W _
    refine hk1.trans (KeepsOthers.of_grownBy hgrow (fun j o e ho=>?_))
    rcases HRow.out.2 with ⟨e1,_⟩|⟨g9,cap9,cur,e1,_,e2,_⟩
    ·rw [e1] at e;cases e
    ·rw [e1] at e
     have:g9=j:=by simpa [Value.ownBlock] using e
     subst this
     rw [e2] at ho
     cases ho
     rfl
   have hBB:w0.heap.size≤w.heap.size:=hww
   refine⟨hbx3,hk3.trans (KeepsOthers.setCell _ _ _),hw3.setCell (p:=⟨w.heap.size,0,none⟩) hBB _,⟨⟨_,hbx3.set _,?_⟩,(hB.trans hw3).setCell (p:=⟨w.heap.size,0,none⟩) hBB _⟩⟩
   have h9:=ownsRow_setCell_other (a:=⟨w.heap.size,0,none⟩) hown (by simp [Value.ownBlock];omega) (.slice (some ⟨g,0,none⟩) (k+1) cap)
   rw [List.length_append,List.flatMap_append,←hk]
   simpa using h9
  clear hrow bx b8 b8' hB hr hlp hlt hk
  gi_wp2_with (gi_at_builtin;rw [←hW1];refine appIn_pair rfl _ _ rfl w0.heap.size _ _ _ rfl HRow.out W.heap.size _ rfl HE8.out HOn.out hkq Hbs.out ?_;intro g3 cap3 w3 hown3 hgrow3 hg3 hgl3;obtain⟨hbx3,hst⟩:=HStep.out g3 cap3 w3 hown3 hgrow3 hg3;have hc3:=hbx3.cell;have hf3:=hbx3.frozen;have Hst:Hid _:=hst;clear hown3 hgrow3 hg3 hst)
  obtain⟨k1,k2,k3⟩:=Hst.out
  exact⟨k1.from _,k2,k3⟩
 case done=>
  rintro D ys W hD rfl ⟨⟨v,bx,hrow⟩,hB⟩ hK
  have hc:=bx.cell
  have HT:Hid (W.ownsRow w0.heap.size 108 8 v ys.length (ys.flatMap fun q=>encQ q.1)∧Below w0.heap.size w W):=⟨hrow,hB⟩
  have HKD:Hid (W.heap[D]? = some (.deferred (some []))):=hK
  have HD:Hid (w0.heap.size≤D):=by show _≤_;simp at hD;omega
  obtain⟨av,nv,cv,rfl⟩:∃a n c,v=.slice a n c:=by
   rcases hrow.2 with ⟨rfl,_⟩|⟨g,cap,_,rfl,_⟩ <;> exact⟨_,_,_,rfl⟩
  clear hrow hB bx hK
  gi_wp2
  refine leaves_one14 D W HKD.out ⟨_,results_tmp rfl _ _ _,⟨_,rfl,ownsRow_putObj HT.out.1 _ HKD.out rfl,HT.out.2.trans (belowK_b (w:=w0) (Nat.le_refl _) W D _ _ HD.out HKD.out rfl rfl)⟩⟩
 case stop=>
  rintro D c pre W _ _ h _
  exact h.elim
attribute [local go_sem] Oper.semAt_some
abbrev PQR (d:Nat) (w0:World) (R:PT→Prop):Type:={ q:PP // GoodQ d w0 q∧R (trT q) }
def EachPostR {d:Nat} {w0:World} {R:PT→Prop} (J Jx:List (PQR d w0 R)→World→Prop) (ys:List (PQR d w0 R)) (W:World) (e:Ending) (W':World):Prop:=
 (e=.returned (.bool true)∧J ys W'∧Below w0.heap.size W W')∨(e=.returned (.bool false)∧∃pre,Jx pre W')
def EachR {d:Nat} {w0:World} {R:PT→Prop} (p:Option Addr) (qs:List (PQR d w0 R)):Prop:=
 ∀(lp:Nat) (L:List (PQR d w0 R)) (J Jx:List (PQR d w0 R)→World→Prop),(∀s A B,J s A→Below A.heap.size A B→J s B)→
  (∀m pre (x:PQR d w0 R) W,J pre W→(pre++[x]) <+: L→YieldAt Fence.wide m Tryz.prog lp #[.agg #[.int .i64 x.1.1.1.kind,.int .i64 x.1.1.1.num,.string x.1.1.1.text,x.1.1.2,.int .i64 x.1.2.1.kind,.int .i64 x.1.2.1.num,.string x.1.2.1.text,x.1.2.2]] W fun e W'=>
   (e=.returned (.bool true)∧J (pre++[x]) W'∧Below w0.heap.size W W')∨(e=.returned (.bool false)∧Jx (pre++[x]) W'))→
  ∀(n:Nat) (pre:List (PQR d w0 R)) (W:World),(pre++qs) <+: L→Below w0.heap.size w0 W→J pre W→
   CallsIn Fence.wide n Tryz.prog 241 #[.pointer p,.func (.yield lp) #[] #[]] W (EachPostR J Jx (pre++qs) W)
theorem each_nilR (d:Nat) (w0:World) (R:PT→Prop):EachR (d:=d) (w0:=w0) (R:=R) none []:=by
 intro lp L J Jx hJ hY n pre W hN hW hpre
 refine (callsIn_wide.2 (each_none14 lp W)).mono ?_
 rintro e w' ⟨rfl,rfl⟩
 exact .inl ⟨rfl,by rw [List.append_nil];exact hpre,Below.refl _ _⟩
theorem each_nodeR (d:Nat) (w0:World) (R:PT→Prop) (b:Nat) (pl pr:Option Addr) (y:PT) (ku vu:Value) (c:Bool) (s h k:Nat) (hn:NCells w0 b pl pr y ku vu c s h k) (hg:GoodQ d w0 ((y.1,ku),(y.2,vu))∧R (trT ((y.1,ku),(y.2,vu)))) (ql qr:List (PQR d w0 R)) (hl:EachR pl ql) (hr:EachR pr qr):EachR (some ⟨b,0,none⟩) (ql++⟨((y.1,ku),(y.2,vu)),hg⟩::qr):=by
 intro lp L J Jx hJ hY n pre W hN hW hpre
 have HA:Hid (CallsIn Fence.wide (n-1) Tryz.prog 241 #[.pointer pl,.func (.yield lp) #[] #[]] W (EachPostR J Jx (pre++ql) W)):=hl lp L J Jx hJ hY (n-1) pre W ((List.prefix_append _ _).trans (by simpa using hN)) hW hpre
 have HB:Hid (∀V,Below w0.heap.size w0 V→J (pre++ql) V→YieldAt Fence.wide (n-1) Tryz.prog lp #[.agg #[.int .i64 y.1.kind,.int .i64 y.1.num,.string y.1.text,ku,.int .i64 y.2.kind,.int .i64 y.2.num,.string y.2.text,vu]] V fun e W'=>
  (e=.returned (.bool true)∧J ((pre++ql)++[⟨((y.1,ku),(y.2,vu)),hg⟩]) W'∧Below w0.heap.size V W')∨(e=.returned (.bool false)∧Jx ((pre++ql)++[⟨((y.1,ku),(y.2,vu)),hg⟩]) W')):=fun V _ hV=>hY (n-1) (pre++ql) ⟨((y.1,ku),(y.2,vu)),hg⟩ V hV (List.IsPrefix.trans ⟨qr,by simp⟩ hN)
 have HC:Hid (∀V,Below w0.heap.size w0 V→J ((pre++ql)++[⟨((y.1,ku),(y.2,vu)),hg⟩]) V→CallsIn Fence.wide (n-1) Tryz.prog 241 #[.pointer pr,.func (.yield lp) #[] #[]] V (EachPostR J Jx (pre++(ql++⟨((y.1,ku),(y.2,vu)),hg⟩::qr)) V)):=fun V h1 h2=>by
  have h9:=hr lp L J Jx hJ hY (n-1) ((pre++ql)++[⟨((y.1,ku),(y.2,vu)),hg⟩]) V (by simpa using hN) h1 h2
  have e:((pre++ql)++[⟨((y.1,ku),(y.2,vu)),hg⟩])++qr=pre++(ql++⟨((y.1,ku),(y.2,vu)),hg⟩::qr):=by simp
  rwa [e] at h9
 have HW:Hid (Below w0.heap.size w0 W):=hW
 have HN:Hid _:=hn
 obtain⟨c0,c1,c2,c3,c4,c5,c6,c7,c8,c9,_,_,_,_⟩:=hn.keeps hW
 clear hl hr hJ hY hpre hN
 refine callsIn_of_wp Tryz.func241 rfl trivial ?_ rfl
 simp only [Tryz.ntmps241,List.size_toArray,List.length_cons,List.length_nil,Nat.reduceAdd,Nat.reduceSub,Array.replicate_succ,Array.replicate_zero,List.push_toArray,List.append_toArray,List.nil_append,List.cons_append]
 gi_wp2
 refine⟨trivial,(fun h=>by cases h),?_⟩
 refine HA.out.mono ?_
 rintro e W1 (⟨rfl,hJ1,hb1⟩|⟨rfl,pre3,hx3⟩)
 ·have HJ1:Hid (J (pre++ql) W1):=hJ1
  have hw1:Below w0.heap.size w0 W1:=HW.out.trans hb1
  have Hb1:Hid (Below w0.heap.size W W1):=hb1
  clear c0 c1 c2 c3 c4 c5 c6 c7 c8 c9
  obtain⟨c0,c1,c2,c3,c4,c5,c6,c7,c8,c9,_,_,_,_⟩:=HN.out.keeps hw1
  clear hJ1
  obtain⟨fn,tmps,assign,body,hy,hR⟩:=HB.out _ hw1 HJ1.out
  gi_wp2
  refine⟨(fun h=>by cases h),?_⟩
  refine hR.mono ?_
  rintro e W2 (⟨rfl,hJ2,hb2⟩|⟨rfl,hx3⟩)
  ·have hw2:Below w0.heap.size w0 W2:=hw1.trans hb2
   have HC2:Hid _:=HC.out W2 hw2 hJ2
   have Hb2:Hid (Below w0.heap.size W W2):=Hb1.out.trans hb2
   clear c0 c1 c2 c3 c4 c5 c6 c7 c8 c9
   obtain⟨c0,c1,c2,c3,c4,c5,c6,c7,c8,c9,_,_,_,_⟩:=HN.out.keeps hw2
   clear hy hR HB HC hJ2
   gi_wp2
   refine⟨trivial,(fun h=>by cases h),?_⟩
   refine CallsIn.mono HC2.out ?_
   rintro e W3 (⟨rfl,hJ3,hb3⟩|⟨rfl,pre3,hx3⟩)
   ·gi_wp2
    go_ret
    exact .inl ⟨rfl,hJ3,Hb2.out.trans hb3⟩
   ·gi_wp2
    go_ret
    exact .inr ⟨rfl,_,hx3⟩
  ·gi_wp2
   refine⟨trivial,?_⟩
   gi_wp2
   go_ret
   exact .inr ⟨rfl,_,hx3⟩
 ·gi_wp2
  refine⟨(fun f h=>by cases h),?_⟩
  gi_wp2
  refine⟨trivial,?_⟩
  gi_wp2
  go_ret
  exact .inr ⟨rfl,_,hx3⟩
theorem each14R (X:Nat→Prop) (d:Nat) (w0:World) (R:PT→Prop):∀(t:RT PT) (p:Option Addr),NM X d w0 t p→(∀x∈t.items,R x)→∃qs:List (PQR d w0 R),qs.map (fun q=>trT q.1)=t.items∧EachR p qs
 | .nil,p,h,_=>by
  have hp:p=none:=h
  subst hp
  exact⟨[],rfl,each_nilR d w0 R⟩
 | .node c l x r,p,h,hR=>by
  obtain⟨b,pl,pr,ku,vu,rfl,hn,hk,hv,hl,hr⟩:=h
  obtain⟨ql,h1,h2⟩:=each14R X d w0 R l pl hl (fun y hy=>hR y (by simp [RT.items,hy]))
  obtain⟨qr,h3,h4⟩:=each14R X d w0 R r pr hr (fun y hy=>hR y (by simp [RT.items,hy]))
  have hg:GoodQ d w0 ((x.1,ku),(x.2,vu))∧R (trT ((x.1,ku),(x.2,vu))):=⟨⟨⟨hk.1.lies,hk.2⟩,⟨hv.1.lies,hv.2⟩⟩,hR x (by simp [RT.items])⟩
  refine⟨ql++⟨((x.1,ku),(x.2,vu)),hg⟩::qr,?_,each_nodeR d w0 R b pl pr x ku vu c _ _ _ hn hg ql qr h2 h4⟩
  rw [List.map_append,List.map_cons,h1,h3]
  rfl
theorem all1_seqR (d:Nat) (w0:World) (R:PT→Prop) (p:Option Addr) (qs:List (PQR d w0 R)) (hE:EachR p qs) (n Bp:Nat) (w:World) (hb:Below w0.heap.size w0 w) (hlp:Bp<w.heap.size) (hp:w.cell? ⟨Bp,0,none⟩=some (.pointer p)) :
 SeqX Fence.wide n Tryz.prog 240 #[.pointer (some ⟨Bp,0,none⟩)] (fun x:PQR d w0 R=>#[.agg #[.int .i64 x.1.1.1.kind,.int .i64 x.1.1.1.num,.string x.1.1.1.text,x.1.1.2,.int .i64 x.1.2.1.kind,.int .i64 x.1.2.1.num,.string x.1.2.1.text,x.1.2.2]]) (fun _=>Below w0.heap.size) (fun pre x _ _=>(pre++[x]) <+: qs) (fun ys=>ys=qs) (fun _=>True) qs.length w:=by
 intro lp J Jx W hW hJ _ hY h0
 have hJ2:∀s A B,J s A→Below A.heap.size A B→J s B:=fun s A B hs hb=>hJ s A B none hs (zam hb) (fun r e=>by cases e)
 have hp1:W.cell? ⟨Bp,0,none⟩=some (.pointer p):=(hW.cell (p:=⟨Bp,0,none⟩) hlp).trans hp
 have HE:Hid (CallsIn Fence.wide (n-1) Tryz.prog 241 #[.pointer p,.func (.yield lp) #[] #[]] W fun e W'=>∃y:Bool,e=.returned (.bool y)∧((∃ys,ys=qs∧J ys W')∨(∃pre,True∧Jx pre W'))):=by
  refine (hE lp qs J Jx hJ2 (fun m pre x W1 hj hl=>?_) (n-1) [] W (by simp) (hb.trans (hW.mono hb.size)) h0).mono ?_
  ·refine yieldAt_deepX m (YieldAt.mono (hY pre x W1 W1 hj (Below.refl _ _) hl (by have:=hl.length_le;simp at this;omega)) ?_)
   rintro e W' (⟨h1,h2,h3⟩|⟨h1,h2,_⟩)
   ·exact .inl ⟨h1,h2,h3⟩
   ·exact .inr ⟨h1,h2⟩
  ·rintro e W' (⟨rfl,hj,_⟩|⟨rfl,pre,hx⟩)
   ·exact⟨true,rfl,.inl ⟨_,rfl,by simpa using hj⟩⟩
   ·exact⟨false,rfl,.inr ⟨pre,trivial,hx⟩⟩
 have hlp1:=zad hp1
 simp only at hlp1
 clear hE hY hJ h0 hW hJ2 hp hb hlp
 refine callsIn_of_wp Tryz.func240 rfl trivial ?_ rfl
 simp only [Tryz.ntmps240,List.size_toArray,List.length_cons,List.length_nil,Nat.reduceAdd,Nat.reduceSub,Array.replicate_succ,Array.replicate_zero,List.push_toArray,List.append_toArray,List.nil_append,List.cons_append]
 gi_wp2
 refine⟨trivial,(fun h=>by cases h),?_⟩
 refine CallsIn.mono HE.out ?_
 rintro e w2 ⟨y,rfl,hR⟩
 gi_wp2
 go_end0
 exact⟨⟨_,rfl⟩,hR⟩
end Go.Proofs.YtlnecfjnffdciabGreat
