import Derived.Test.YtlnecfjnffdciacGreatGrownM
import Derived.Test.YtlnecfjnffdciacGreatRangeX
set_option maxRecDepth 100000
set_option maxHeartbeats 16000000
namespace Go.Proofs.YtlnecfjnffdciacGreat
open Go.RowKit Go.Shelf
attribute [local go_sem] Oper.semAt_some
theorem each_none14 (lp:Nat) (W:World):Calls Tryz.prog 188 #[.pointer none,.func (.yield lp) #[] #[]] W fun e w'=>e=.returned (.bool true)∧w'=W:=by
 go_enter Tryz.func188,Tryz.ntmps188
 go_wp2_with fail
 go_ret
 exact⟨rfl,rfl⟩
attribute [local go_sem] Oper.semAt_some
theorem all_14 (p:Option Addr) (w:World):Calls Tryz.prog 172 #[.pointer p] w fun e w'=>e=.returned (.func (.func 187) #[] #[.pointer (some ⟨w.heap.size,0,none⟩)])∧w'=w.alloc (.cells #[.pointer p] 127):=by
 go_enter Tryz.func172,Tryz.ntmps172
 go_wp2_with fail
 go_ret
 exact⟨rfl,rfl⟩
def Box8 (W:World) (B:Nat) (p:PP):Prop:=W.heap[B]? = some (.cells #[.int .i64 p.1.1.kind,.int .i64 p.1.1.num,.string p.1.1.text,p.1.2,.int .i64 p.2.1.kind,.int .i64 p.2.1.num,.string p.2.1.text,p.2.2] 124 (0,0))
theorem Box8.lt {W:World} {B:Nat} {p:PP} (h:Box8 W B p):B<W.heap.size:=(Array.getElem?_eq_some_iff.1 h).1
theorem Box8.eight {W:World} {B:Nat} {p:PP} (h:Box8 W B p):Eight W B 0 p:=by
 have h':W.heap[B]? = some (.cells #[.int .i64 p.1.1.kind,.int .i64 p.1.1.num,.string p.1.1.text,p.1.2,.int .i64 p.2.1.kind,.int .i64 p.2.1.num,.string p.2.1.text,p.2.2] 124 (0,0)):=h
 refine⟨?_,?_,?_,?_,?_,?_,?_,?_⟩ <;> simp [World.cell?,h']
attribute [local go_sem] Oper.semAt_some
abbrev PQR (d:Nat) (w0:World) (R:PT→Prop):Type:={ q:PP // GoodQ d w0 q∧R (trT q) }
def EachPostR {d:Nat} {w0:World} {R:PT→Prop} (J Jx:List (PQR d w0 R)→World→Prop) (ys:List (PQR d w0 R)) (W:World) (e:Ending) (W':World):Prop:=
 (e=.returned (.bool true)∧J ys W'∧Below w0.heap.size W W')∨(e=.returned (.bool false)∧∃pre,Jx pre W')
def EachR {d:Nat} {w0:World} {R:PT→Prop} (p:Option Addr) (qs:List (PQR d w0 R)):Prop:=
 ∀(lp:Nat) (L:List (PQR d w0 R)) (J Jx:List (PQR d w0 R)→World→Prop),(∀s A B,J s A→Below A.heap.size A B→J s B)→
  (∀m pre (x:PQR d w0 R) W,J pre W→(pre++[x]) <+: L→YieldAt Fence.wide m Tryz.prog lp #[.agg #[.int .i64 x.1.1.1.kind,.int .i64 x.1.1.1.num,.string x.1.1.1.text,x.1.1.2,.int .i64 x.1.2.1.kind,.int .i64 x.1.2.1.num,.string x.1.2.1.text,x.1.2.2]] W fun e W'=>
   (e=.returned (.bool true)∧J (pre++[x]) W'∧Below w0.heap.size W W')∨(e=.returned (.bool false)∧Jx (pre++[x]) W'))→
  ∀(n:Nat) (pre:List (PQR d w0 R)) (W:World),(pre++qs) <+: L→Below w0.heap.size w0 W→J pre W→
   CallsIn Fence.wide n Tryz.prog 188 #[.pointer p,.func (.yield lp) #[] #[]] W (EachPostR J Jx (pre++qs) W)
theorem each_nilR (d:Nat) (w0:World) (R:PT→Prop):EachR (d:=d) (w0:=w0) (R:=R) none []:=by
 intro lp L J Jx hJ hY n pre W hN hW hpre
 refine (callsIn_wide.2 (each_none14 lp W)).mono ?_
 rintro e w' ⟨rfl,rfl⟩
 exact .inl ⟨rfl,by rw [List.append_nil];exact hpre,Below.refl _ _⟩
theorem each_nodeR (d:Nat) (w0:World) (R:PT→Prop) (b:Nat) (pl pr:Option Addr) (y:PT) (ku vu:Value) (c:Bool) (s h k:Nat) (hn:NCells w0 b pl pr y ku vu c s h k) (hg:GoodQ d w0 ((y.1,ku),(y.2,vu))∧R (trT ((y.1,ku),(y.2,vu)))) (ql qr:List (PQR d w0 R)) (hl:EachR pl ql) (hr:EachR pr qr):EachR (some ⟨b,0,none⟩) (ql++⟨((y.1,ku),(y.2,vu)),hg⟩::qr):=by
 intro lp L J Jx hJ hY n pre W hN hW hpre
 have HA:Hid (CallsIn Fence.wide (n-1) Tryz.prog 188 #[.pointer pl,.func (.yield lp) #[] #[]] W (EachPostR J Jx (pre++ql) W)):=hl lp L J Jx hJ hY (n-1) pre W ((List.prefix_append _ _).trans (by simpa using hN)) hW hpre
 have HB:Hid (∀V,Below w0.heap.size w0 V→J (pre++ql) V→YieldAt Fence.wide (n-1) Tryz.prog lp #[.agg #[.int .i64 y.1.kind,.int .i64 y.1.num,.string y.1.text,ku,.int .i64 y.2.kind,.int .i64 y.2.num,.string y.2.text,vu]] V fun e W'=>
  (e=.returned (.bool true)∧J ((pre++ql)++[⟨((y.1,ku),(y.2,vu)),hg⟩]) W'∧Below w0.heap.size V W')∨(e=.returned (.bool false)∧Jx ((pre++ql)++[⟨((y.1,ku),(y.2,vu)),hg⟩]) W')):=fun V _ hV=>hY (n-1) (pre++ql) ⟨((y.1,ku),(y.2,vu)),hg⟩ V hV (List.IsPrefix.trans ⟨qr,by simp⟩ hN)
 have HC:Hid (∀V,Below w0.heap.size w0 V→J ((pre++ql)++[⟨((y.1,ku),(y.2,vu)),hg⟩]) V→CallsIn Fence.wide (n-1) Tryz.prog 188 #[.pointer pr,.func (.yield lp) #[] #[]] V (EachPostR J Jx (pre++(ql++⟨((y.1,ku),(y.2,vu)),hg⟩::qr)) V)):=fun V h1 h2=>by
  have h9:=hr lp L J Jx hJ hY (n-1) ((pre++ql)++[⟨((y.1,ku),(y.2,vu)),hg⟩]) V (by simpa using hN) h1 h2
  have e:((pre++ql)++[⟨((y.1,ku),(y.2,vu)),hg⟩])++qr=pre++(ql++⟨((y.1,ku),(y.2,vu)),hg⟩::qr):=by simp
  rwa [e] at h9
 have HW:Hid (Below w0.heap.size w0 W):=hW
 have HN:Hid _:=hn
 obtain⟨c0,c1,c2,c3,c4,c5,c6,c7,c8,c9,_,_,_,_⟩:=hn.keeps hW
 clear hl hr hJ hY hpre hN
 refine callsIn_of_wp Tryz.func188 rfl trivial ?_ rfl
 simp only [Tryz.ntmps188,List.size_toArray,List.length_cons,List.length_nil,Nat.reduceAdd,Nat.reduceSub,Array.replicate_succ,Array.replicate_zero,List.push_toArray,List.append_toArray,List.nil_append,List.cons_append]
 gi_wp2
 refine⟨trivial,(fun h=>by cases h),?_⟩
 refine HA.out.mono ?_
 rintro e W1 (⟨rfl,hJ1,hb1⟩|⟨rfl,pre3,hx3⟩)
 ·have HJ1:Hid (J (pre++ql) W1):=hJ1
  have hw1:Below w0.heap.size w0 W1:=HW.out.trans hb1
  have Hb1:Hid (Below w0.heap.size W W1):=hb1
  clear c0 c1 c2 c3 c4 c5 c6 c7 c8 c9
  obtain⟨c0,c1,c2,c3,c4,c5,c6,c7,c8,c9,_,_,_,_⟩:=HN.out.keeps hw1
  clear hJ1
  obtain⟨fn,tmps,assign,body,hy,hR⟩:=HB.out _ hw1 HJ1.out
  gi_wp2
  refine⟨(fun h=>by cases h),?_⟩
  refine hR.mono ?_
  rintro e W2 (⟨rfl,hJ2,hb2⟩|⟨rfl,hx3⟩)
  ·have hw2:Below w0.heap.size w0 W2:=hw1.trans hb2
   have HC2:Hid _:=HC.out W2 hw2 hJ2
   have Hb2:Hid (Below w0.heap.size W W2):=Hb1.out.trans hb2
   clear c0 c1 c2 c3 c4 c5 c6 c7 c8 c9
   obtain⟨c0,c1,c2,c3,c4,c5,c6,c7,c8,c9,_,_,_,_⟩:=HN.out.keeps hw2
   clear hy hR HB HC hJ2
   gi_wp2
   refine⟨trivial,(fun h=>by cases h),?_⟩
   refine CallsIn.mono HC2.out ?_
   rintro e W3 (⟨rfl,hJ3,hb3⟩|⟨rfl,pre3,hx3⟩)
   ·gi_wp2
    go_ret
    exact .inl ⟨rfl,hJ3,Hb2.out.trans hb3⟩
   ·gi_wp2
    go_ret
    exact .inr ⟨rfl,_,hx3⟩
  ·gi_wp2
   refine⟨trivial,?_⟩
   gi_wp2
   go_ret
   exact .inr ⟨rfl,_,hx3⟩
 ·gi_wp2
  refine⟨(fun f h=>by cases h),?_⟩
  gi_wp2
  refine⟨trivial,?_⟩
  gi_wp2
  go_ret
  exact .inr ⟨rfl,_,hx3⟩
theorem each14R (X:Nat→Prop) (d:Nat) (w0:World) (R:PT→Prop):∀(t:RT PT) (p:Option Addr),NM X d w0 t p→(∀x∈t.items,R x)→∃qs:List (PQR d w0 R),qs.map (fun q=>trT q.1)=t.items∧EachR p qs
 | .nil,p,h,_=>by
  have hp:p=none:=h
  subst hp
  exact⟨[],rfl,each_nilR d w0 R⟩
 | .node c l x r,p,h,hR=>by
  obtain⟨b,pl,pr,ku,vu,rfl,hn,hk,hv,hl,hr⟩:=h
  obtain⟨ql,h1,h2⟩:=each14R X d w0 R l pl hl (fun y hy=>hR y (by simp [RT.items,hy]))
  obtain⟨qr,h3,h4⟩:=each14R X d w0 R r pr hr (fun y hy=>hR y (by simp [RT.items,hy]))
  have hg:GoodQ d w0 ((x.1,ku),(x.2,vu))∧R (trT ((x.1,ku),(x.2,vu))):=⟨⟨⟨hk.1.lies,hk.2⟩,⟨hv.1.lies,hv.2⟩⟩,hR x (by simp [RT.items])⟩
  refine⟨ql++⟨((x.1,ku),(x.2,vu)),hg⟩::qr,?_,each_nodeR d w0 R b pl pr x ku vu c _ _ _ hn hg ql qr h2 h4⟩
  rw [List.map_append,List.map_cons,h1,h3]
  rfl
theorem all1_seqR (d:Nat) (w0:World) (R:PT→Prop) (p:Option Addr) (qs:List (PQR d w0 R)) (hE:EachR p qs) (n Bp:Nat) (w:World) (hb:Below w0.heap.size w0 w) (hlp:Bp<w.heap.size) (hp:w.cell? ⟨Bp,0,none⟩=some (.pointer p)) :
 SeqX Fence.wide n Tryz.prog 187 #[.pointer (some ⟨Bp,0,none⟩)] (fun x:PQR d w0 R=>#[.agg #[.int .i64 x.1.1.1.kind,.int .i64 x.1.1.1.num,.string x.1.1.1.text,x.1.1.2,.int .i64 x.1.2.1.kind,.int .i64 x.1.2.1.num,.string x.1.2.1.text,x.1.2.2]]) (fun _=>Below w0.heap.size) (fun pre x _ _=>(pre++[x]) <+: qs) (fun ys=>ys=qs) (fun _=>True) qs.length w:=by
 intro lp J Jx W hW hJ _ hY h0
 have hJ2:∀s A B,J s A→Below A.heap.size A B→J s B:=fun s A B hs hb=>hJ s A B none hs (zag hb) (fun r e=>by cases e)
 have hp1:W.cell? ⟨Bp,0,none⟩=some (.pointer p):=(hW.cell (p:=⟨Bp,0,none⟩) hlp).trans hp
 have HE:Hid (CallsIn Fence.wide (n-1) Tryz.prog 188 #[.pointer p,.func (.yield lp) #[] #[]] W fun e W'=>∃y:Bool,e=.returned (.bool y)∧((∃ys,ys=qs∧J ys W')∨(∃pre,True∧Jx pre W'))):=by
  refine (hE lp qs J Jx hJ2 (fun m pre x W1 hj hl=>?_) (n-1) [] W (by simp) (hb.trans (hW.mono hb.size)) h0).mono ?_
  ·refine yieldAt_deepX m (YieldAt.mono (hY pre x W1 W1 hj (Below.refl _ _) hl (by have:=hl.length_le;simp at this;omega)) ?_)
   rintro e W' (⟨h1,h2,h3⟩|⟨h1,h2,_⟩)
   ·exact .inl ⟨h1,h2,h3⟩
   ·exact .inr ⟨h1,h2⟩
  ·rintro e W' (⟨rfl,hj,_⟩|⟨rfl,pre,hx⟩)
   ·exact⟨true,rfl,.inl ⟨_,rfl,by simpa using hj⟩⟩
   ·exact⟨false,rfl,.inr ⟨pre,trivial,hx⟩⟩
 have hlp1:=zad hp1
 simp only at hlp1
 clear hE hY hJ h0 hW hJ2 hp hb hlp
 refine callsIn_of_wp Tryz.func187 rfl trivial ?_ rfl
 simp only [Tryz.ntmps187,List.size_toArray,List.length_cons,List.length_nil,Nat.reduceAdd,Nat.reduceSub,Array.replicate_succ,Array.replicate_zero,List.push_toArray,List.append_toArray,List.nil_append,List.cons_append]
 gi_wp2
 refine⟨trivial,(fun h=>by cases h),?_⟩
 refine CallsIn.mono HE.out ?_
 rintro e w2 ⟨y,rfl,hR⟩
 gi_wp2
 go_end0
 exact⟨⟨_,rfl⟩,hR⟩
end Go.Proofs.YtlnecfjnffdciacGreat
