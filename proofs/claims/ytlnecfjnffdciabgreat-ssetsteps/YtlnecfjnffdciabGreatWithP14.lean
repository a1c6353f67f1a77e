import Derived.Test.YtlnecfjnffdciabGreatMapM
import Derived.Test.YtlnecfjnffdciabGreatCopies
import Derived.Test.YtlnecfjnffdciabGreatEachR
import Derived.Test.YtlnecfjnffdciabGreatGvP
namespace Go.Proofs.YtlnecfjnffdciabGreat
open Go.RowKit Go.Shelf
theorem LiesB.put8 {W:World} {base n:Nat} (hn:n<base) (vs:List Value) {d:Nat} {l:List VT} {v:Value} (h:LiesB base d W l v):LiesB base d (W.setCells n 0 vs) l v:=
 LiesB.stays (fun _ _ ha hu=>⟨zag (g:=n) (fun e=>by omega) hu,by rw [World.frozen?_setCells]⟩) _ _ _ h
theorem LiesB.keepsB {W W':World} {base:Nat} (hb:Below W.heap.size W W') {d:Nat} {l:List VT} {v:Value} (h:LiesB base d W l v):LiesB base d W' l v:=
 LiesB.stays (fun _ _ _ hu=>⟨zaa hb hu,hb.frozen (zad hu)⟩) _ _ _ h
theorem LiesB.lower14 {W:World} {b b':Nat} (hb:b'≤b):∀(d:Nat) (l:List VT) (v:Value),LiesB b d W l v→LiesB b' d W l v
 | 0,_,_,h=>h
 | d+1,l,v,h=>by
  obtain⟨a,c,hv,hc,h1⟩:=h
  refine⟨a,c,hv,hc,fun hne=>?_⟩
  obtain⟨g,o,ha,hg,hf,h2⟩:=h1 hne
  refine⟨g,o,ha,by omega,hf,fun i hi=>?_⟩
  obtain⟨u,c0,c1,c2,c3,h3,h4⟩:=h2 i hi
  exact⟨u,c0,c1,c2,c3,LiesB.lower14 hb d _ _ h3,h4⟩
def zba (x:PT) (w:World) (e:Ending) (w':World):Prop:=∃ku vu,e=.returned (.agg #[.int .i64 x.1.kind,.int .i64 x.1.num,.string x.1.text,ku,.int .i64 x.2.kind,.int .i64 x.2.num,.string x.2.text,vu])∧LiesB w.heap.size 16 w' x.1.items ku∧LiesB w.heap.size 16 w' x.2.items vu∧Below w.heap.size w w'
set_option maxRecDepth 100000 in
set_option maxHeartbeats 8000000 in
theorem copied_14 (x:PT) (ku vu:Value) (w:World) (hk:Lies 16 w x.1.items ku) (hv:Lies 16 w x.2.items vu) (hr:zab 16 x.1=true∧zab 16 x.2=true):Calls Tryz.prog 137 #[.agg #[.int .i64 x.1.kind,.int .i64 x.1.num,.string x.1.text,ku,.int .i64 x.2.kind,.int .i64 x.2.num,.string x.2.text,vu]] w (zba x w):=by
 obtain⟨ak,ck,rfl,_⟩:=Lies.slice hk
 obtain⟨av,cv,rfl,_⟩:=Lies.slice hv
 have HK:Hid (∀V,Below w.heap.size w V→Calls Tryz.prog 130 #[.agg #[.int .i64 x.1.kind,.int .i64 x.1.num,.string x.1.text,.slice ak x.1.items.length ck]] V (CopyPost 16 x.1 V)):=fun V hV=>copy_right x.1 _ V (Lies.keeps hV _ _ _ hk) hr.1
 have HV:Hid (∀V,Below w.heap.size w V→Calls Tryz.prog 130 #[.agg #[.int .i64 x.2.kind,.int .i64 x.2.num,.string x.2.text,.slice av x.2.items.length cv]] V (CopyPost 16 x.2 V)):=fun V hV=>copy_right x.2 _ V (Lies.keeps hV _ _ _ hv) hr.2
 clear hk hv hr
 go_enter Tryz.func137,Tryz.ntmps137
 go_wp2_with fail
 obtain⟨W0,hW0⟩:∃W0,W0=(w.alloc (.cells #[.int .i64 x.1.kind,.int .i64 x.1.num,.string x.1.text,.slice ak x.1.items.length ck,.int .i64 x.2.kind,.int .i64 x.2.num,.string x.2.text,.slice av x.2.items.length cv] 108)).alloc (.cells #[.int .i64 0,.int .i64 0,.string ⟨#[]⟩,.slice none 0 0,.int .i64 0,.int .i64 0,.string ⟨#[]⟩,.slice none 0 0] 108):=⟨_,rfl⟩
 rw [←hW0]
 have hb0:Below w.heap.size w W0:=by rw [hW0];exact (((Grew.refl w).alloc _).alloc _).below
 have hs0:W0.heap.size=w.heap.size+1+1:=by rw [hW0];simp
 have HX0:Hid (Bx8 W0 w.heap.size (.int .i64 x.1.kind) (.int .i64 x.1.num) (.string x.1.text) (.slice ak x.1.items.length ck) (.int .i64 x.2.kind) (.int .i64 x.2.num) (.string x.2.text) (.slice av x.2.items.length cv)):=by
  rw [hW0];exact (bx8_alloc w _ _ _ _ _ _ _ _ _).keeps ((Grew.refl _).alloc _).below
 have HZ0:Hid (Bx8 W0 (w.heap.size+1) (.int .i64 0) (.int .i64 0) (.string ⟨#[]⟩) (.slice none 0 0) (.int .i64 0) (.int .i64 0) (.string ⟨#[]⟩) (.slice none 0 0)):=by
  rw [hW0]
  have h9:=bx8_alloc (w.alloc (.cells #[.int .i64 x.1.kind,.int .i64 x.1.num,.string x.1.text,.slice ak x.1.items.length ck,.int .i64 x.2.kind,.int .i64 x.2.num,.string x.2.text,.slice av x.2.items.length cv] 108)) 108 (.int .i64 0) (.int .i64 0) (.string ⟨#[]⟩) (.slice none 0 0) (.int .i64 0) (.int .i64 0) (.string ⟨#[]⟩) (.slice none 0 0)
  rwa [World.size_alloc] at h9
 obtain⟨x0,x1,x2,x3,x4,x5,x6,x7,_⟩:=HX0.out
 have HS0:Hid (W0.heap.size=w.heap.size+1+1):=hs0
 clear hW0 hs0
 have hbc:Below W0.heap.size W0 W0.drew:=(Below.refl _ _).drew
 have hn1:w.heap.size≠w.heap.size+1:=by omega
 go_region_held3 (fun w'=>w'.cell? ⟨w.heap.size,0,none⟩=some (.int .i64 x.1.kind)∧w'.cell? ⟨w.heap.size,1,none⟩=some (.int .i64 x.1.num)∧w'.cell? ⟨w.heap.size,2,none⟩=some (.string x.1.text)∧w'.cell? ⟨w.heap.size,3,none⟩=some ((.slice ak x.1.items.length ck))∧w'.cell? ⟨w.heap.size,4,none⟩=some (.int .i64 x.2.kind)∧w'.cell? ⟨w.heap.size,5,none⟩=some (.int .i64 x.2.num)∧w'.cell? ⟨w.heap.size,6,none⟩=some (.string x.2.text)∧w'.cell? ⟨w.heap.size,7,none⟩=some ((.slice av x.2.items.length cv))) (first|go_keep|exact⟨zaj hn1 x0,zaj hn1 x1,zaj hn1 x2,zaj hn1 x3,zaj hn1 x4,zaj hn1 x5,zaj hn1 x6,zaj hn1 x7⟩)
  (first
   | (go_at_call 130;(with_reducible refine Calls.mono (HK.out _ (hb0.trans (hbc.mono hb0.size))) ?_);rintro e w5 ⟨v5,rfl,hl5,hg⟩;obtain⟨a5,c5,rfl,_⟩:=LiesB.slice hl5;have HL5:Hid (LiesB (w.heap.size+1+1) 16 w5 x.1.items (.slice a5 x.1.items.length c5)):=LiesB.lower14 (by have:=hbc.size;have:=HS0.out;omega) _ _ _ hl5;replace hbc:=hbc.trans (hg.mono hbc.size);have x0:=zaa hg x0;have x1:=zaa hg x1;have x2:=zaa hg x2;have x3:=zaa hg x3;have x4:=zaa hg x4;have x5:=zaa hg x5;have x6:=zaa hg x6;have x7:=zaa hg x7;clear hg hl5)
   | (go_at_call 130;(with_reducible refine Calls.mono (HV.out _ (hb0.trans (hbc.mono hb0.size))) ?_);rintro e w6 ⟨v6,rfl,hl6,hg⟩;obtain⟨a6,c6,rfl,_⟩:=LiesB.slice hl6;have HL6:Hid (LiesB (w.heap.size+1+1) 16 w6 x.2.items (.slice a6 x.2.items.length c6)):=LiesB.lower14 (by have:=hbc.size;have:=HS0.out;omega) _ _ _ hl6;have HL5:Hid (LiesB (w.heap.size+1+1) 16 w6 x.1.items _):=LiesB.keepsB hg HL5.out;replace hbc:=hbc.trans (hg.mono hbc.size);have x0:=zaa hg x0;have x1:=zaa hg x1;have x2:=zaa hg x2;have x3:=zaa hg x3;have x4:=zaa hg x4;have x5:=zaa hg x5;have x6:=zaa hg x6;have x7:=zaa hg x7;have HZ6:Hid (Bx8 w6 (w.heap.size+1) (.int .i64 0) (.int .i64 0) (.string ⟨#[]⟩) (.slice none 0 0) (.int .i64 0) (.int .i64 0) (.string ⟨#[]⟩) (.slice none 0 0)):=HZ0.out.keeps hbc;obtain⟨y0,y1,y2,y3,y4,y5,y6,y7,f0,f1,f2,f3,f4,f5,f6,f7,_⟩:=HZ6.out;clear hg hl6))
 have Hq:Hid _:=put8_in HZ6.out (.int .i64 x.1.kind) (.int .i64 x.1.num) (.string x.1.text) (.slice a5 x.1.items.length c5) (.int .i64 x.2.kind) (.int .i64 x.2.num) (.string x.2.text) (.slice a6 x.2.items.length c6)
 have hbz:Below w.heap.size w w6:=hb0.trans (hbc.mono hb0.size)
 have HE:Hid (zba x w (.returned (.agg #[.int .i64 x.1.kind,.int .i64 x.1.num,.string x.1.text,.slice a5 x.1.items.length c5,.int .i64 x.2.kind,.int .i64 x.2.num,.string x.2.text,.slice a6 x.2.items.length c6])) (w6.setCells (w.heap.size+1) 0 [.int .i64 x.1.kind,.int .i64 x.1.num,.string x.1.text,.slice a5 x.1.items.length c5,.int .i64 x.2.kind,.int .i64 x.2.num,.string x.2.text,.slice a6 x.2.items.length c6])):=⟨_,_,rfl,LiesB.lower14 (by omega) _ _ _ (LiesB.put8 (by omega) _ HL5.out),LiesB.lower14 (by omega) _ _ _ (LiesB.put8 (by omega) _ HL6.out),zbc hbz (by omega) _ _ _ _ _ _ _ _⟩
 go_wp2_with fail
 refine bodyPost_ret (v:=.agg #[.int .i64 x.1.kind,.int .i64 x.1.num,.string x.1.text,.slice a5 x.1.items.length c5,.int .i64 x.2.kind,.int .i64 x.2.num,.string x.2.text,.slice a6 x.2.items.length c6]) ?_ rfl HE.out
 obtain⟨q0,q1,q2,q3,q4,q5,q6,q7⟩:=Hq.out
 simp only [World.setCells,Nat.zero_add,Nat.reduceAdd] at q0 q1 q2 q3 q4 q5 q6 q7
 simp [results,Tryz.results137,go_sem,q0,q1,q2,q3,q4,q5,q6,q7]
end Go.Proofs.YtlnecfjnffdciabGreat

namespace Go.Proofs.YtlnecfjnffdciabGreat
open Go.RowKit Go.Shelf
attribute [local go_sem] Oper.semAt_some
def RightP (x:VT×VT):Prop:=zab 16 x.1=true∧zab 16 x.2=true
def AlI {w0:World} {R:PT→Prop} (J:List CQ→World→Prop) (lo By:Nat) (pre:List (PQR 16 w0 R)) (W:World):Prop:=
 ∃ys:List CQ,ys.map CQ.t=pre.map (fun q=>trT q.1)∧J ys W∧Go.Boxed W By 38 (.func (.yield lo) #[] #[])∧Below w0.heap.size w0 W
def AlX {w0:World} {R:PT→Prop} (Jx:List CQ→World→Prop) (c:Code) (_:List (PQR 16 w0 R)) (W:World):Prop:=c=.ret∧∃ys,Jx ys W
theorem AlI.own {w0:World} {R:PT→Prop} (J:List CQ→World→Prop) (lo By B M:Nat) (hJ:OwnFrom B J) (hB:B≤M) (h1:By<M) (h3:w0.heap.size≤M):OwnFrom M (AlI (w0:=w0) (R:=R) J lo By):=by
 intro s A V row hs hg hr
 obtain⟨ys,hy,hj,b1,hb⟩:=hs
 refine⟨ys,hy,hJ ys A V row hj hg (fun r e=>⟨by have:=(hr r e).1;omega,(hr r e).2⟩),b1.kept hg (fun e=>?_),hb.grown hg hb.size (fun k e=>?_)⟩
 ·have:=(hr _ e.symm).1;omega
 ·have:=(hr _ e).1;omega
theorem AlX.own {w0:World} {R:PT→Prop} (Jx:List CQ→World→Prop) (c:Code) (B M:Nat) (hJ:OwnFrom B Jx) (hB:B≤M):OwnFrom M (AlX (w0:=w0) (R:=R) Jx c):=by
 intro s A V row hs hg hr
 obtain⟨hc,ys,hj⟩:=hs
 exact⟨hc,ys,hJ ys A V row hj hg (fun r e=>⟨by have:=(hr r e).1;omega,(hr r e).2⟩)⟩
def AlA {w0:World} {R:PT→Prop} (qs:List (PQR 16 w0 R)) (f:PQR 16 w0 R→Nat→Act) (pre:List (PQR 16 w0 R)) (x:PQR 16 w0 R) (a:Act) (W:World):Prop:=(∃Bx,Box8 W Bx x.1∧a=f x Bx)∧(pre++[x]) <+: qs
theorem AlA.own {w0:World} {R:PT→Prop} (qs:List (PQR 16 w0 R)) (M:Nat) (f:PQR 16 w0 R→Nat→Act) (pre:List (PQR 16 w0 R)) (x:PQR 16 w0 R) (a:Act):OwnFrom M (fun (_:Unit) W=>AlA qs f pre x a W):=by
 intro s A V row hs hg hr
 obtain⟨⟨Bx,b8,rfl⟩,hpx⟩:=hs
 refine⟨⟨Bx,(hg.block _ b8.lt (fun e=>?_)).trans b8,rfl⟩,hpx⟩
 obtain⟨_,o,ho,hoc⟩:=hr _ e.symm
 have hb8:A.heap[Bx]? = _:=b8
 rw [hb8] at ho
 cases ho
 simp [Obj.isCells] at hoc
set_option maxRecDepth 100000 in
set_option maxHeartbeats 16000000 in
theorem mall1_14 {w0:World} {q:Nat} {t:RT PT} {b:Nat} (h:MC w0 q t b) (Z:Nat) (hZ:38≠Z) (n Bm:Nat) (hn:3≤n) (w:World) (hw0:Below w0.heap.size w0 w) (hm:w.cell? ⟨Bm,0,none⟩=some (.pointer (some ⟨b,0,none⟩))) :
 SeqX Fence.wide n Tryz.prog 270 #[.pointer (some ⟨Bm,0,none⟩)] encCQ (KpY Z w0.heap.size) (PreCQ t.items) (fun xs=>xs.map CQ.t=t.items) (fun _=>True) t.items.length w:=by
 intro lo J Jx W hW hJ hJx hY h0
 have hm1:=zaa hW hm
 have hlm:=zad hm1
 have hWw:Below w0.heap.size w0 W:=hw0.trans (hW.mono hw0.size)
 obtain⟨p,hp,hnm⟩:=h.top
 have hp1:=zaa hWw hp
 have hlb:=zad hp1
 simp only at hlb hlm
 obtain⟨qs,hq1,hE⟩:=each14R TT 16 w0 RightP t p hnm (fun x hx=>⟨(h.right x hx).1.1,(h.right x hx).2.1⟩)
 have hqn:qs.length=t.items.length:=by rw [←hq1,List.length_map]
 have HSt:Hid _:=fun n Bp w h1 h2 h3=>all1_seqR 16 w0 RightP p qs hE n Bp w h1 h2 h3
 have HY:Hid _:=hY
 have HJ:Hid _:=hJ
 have HJx:Hid _:=hJx
 have H0:Hid (J [] W):=h0
 clear hY hJ hJx h0 hE
 refine callsIn_of_wp_marks Tryz.func270 rfl trivial ?_ rfl
 simp only [Tryz.ntmps270,List.size_toArray,List.length_cons,List.length_nil,Nat.reduceAdd,Nat.reduceSub,Array.replicate_succ,Array.replicate_zero,List.push_toArray,List.append_toArray,List.nil_append,List.cons_append]
 gi_wp2
 refine⟨trivial,(fun h=>by cases h),?_⟩
 refine (callsIn_wide.2 (own_14 _ _)).mono ?_
 rintro e w1 ⟨rfl,rfl⟩
 gi_wp2
 refine⟨trivial,(fun h=>by cases h),?_⟩
 refine (callsIn_wide.2 (all_14 _ _)).mono ?_
 rintro e w1 ⟨rfl,rfl⟩
 simp only [World.size_alloc]
 gi_wp2
 obtain⟨Wi,hWi⟩:∃Wi,Wi=((W.alloc (.cells #[.func (.yield lo) #[] #[]] 38)).alloc (.cells #[.pointer p] 160)):=⟨_,rfl⟩
 rw [←hWi]
 have hsz:Wi.heap.size=W.heap.size+2:=by rw [hWi];simp
 have hbi:Below W.heap.size W Wi:=by rw [hWi];exact ((Grew.refl W).alloc _).alloc _ |>.below
 have hw0i:Below w0.heap.size w0 Wi:=hWw.trans (hbi.mono hWw.size)
 have hws:w0.heap.size≤W.heap.size:=hWw.size
 have bY:Go.Boxed Wi W.heap.size 38 (.func (.yield lo) #[] #[]):=by
  rw [hWi]
  exact (Go.Boxed.new W _ _).alloc _
 have c2:Wi.cell? ⟨W.heap.size+1,0,none⟩=some (.pointer p):=by
  rw [hWi]
  have h9:=(Go.Boxed.new (W.alloc (.cells #[.func (.yield lo) #[] #[]] 38)) 160 (.pointer p)).cell
  rwa [World.size_alloc] at h9
 have hJi:J [] Wi:=HJ.out [] W Wi none H0.out (zan hbi) (fun r e=>by cases e)
 have Hq1:Hid (qs.map (fun q=>trT q.1)=t.items):=hq1
 have Hqn:Hid (qs.length=t.items.length):=hqn
 have Hh:Hid (MC w0 q t b):=h
 clear hm1 hm hq1 hWi hqn h hnm hp hp1
 refine rangeX (α:=PQR 16 w0 RightP) rfl (by omega) (gf:=240) (lb:=#[.pointer (some ⟨W.heap.size+1,0,none⟩)]) rfl trivial (enters_of Tryz.func240 (by kernel_rfl) rfl)
  (HSt.out _ _ Wi hw0i (by omega) c2) belowK_t (fun W o o' hl ho=>below_putX (by omega)) (Below.refl _ _) (fun _=>rfl)
  (AlI J lo W.heap.size) (AlX Jx) (AlI.own J lo _ W.heap.size _ HJ.out (by omega) (by omega) (by omega)) (fun c=>AlX.own Jx c W.heap.size _ HJx.out (by omega)) ?h0
  (AlA qs (fun x Bx=>{ tmps:=#[.func (.yield lo) #[] #[],.pointer (some ⟨Bm,0,none⟩),.pointer (some ⟨W.heap.size,0,none⟩),.pointer (some ⟨Bx,0,none⟩),undef,.pointer (some ⟨b,0,none⟩),.pointer (some ⟨b,0,none⟩),.pointer (some ⟨b,0,none⟩),.pointer (some ⟨b,1,none⟩),.pointer p,.func (.func 240) #[] #[.pointer (some ⟨W.heap.size+1,0,none⟩)],.agg #[.int .i64 x.1.1.1.kind,.int .i64 x.1.1.1.num,.string x.1.1.1.text,x.1.1.2,.int .i64 x.1.2.1.kind,.int .i64 x.1.2.1.num,.string x.1.2.1.text,x.1.2.2],undef,undef,undef,undef,undef,undef,undef,undef,undef],defers:=[] })) (fun pre x a'=>AlA.own _ _ _ _ _ _) ?assign ?body ?done ?stop
 case h0=>exact⟨[],rfl,hJi,bY,hw0i⟩
 case assign=>
  rintro lp pre ⟨x,hx⟩ V0 V K hI hVV hpx hK
  have hI2:AlI J lo W.heap.size pre V:=AlI.own J lo W.heap.size W.heap.size Wi.heap.size HJ.out (by omega) (by omega) (by omega) pre V0 V none hI (zan hVV) (fun r e=>by cases e)
  obtain⟨ys,hys,hj,b1,hB⟩:=hI2
  have hba:Below V.heap.size V (V.alloc (.cells #[.int .i64 x.1.1.kind,.int .i64 x.1.1.num,.string x.1.1.text,x.1.2,.int .i64 x.2.1.kind,.int .i64 x.2.1.num,.string x.2.1.text,x.2.2] 108)):=((Grew.refl V).alloc _).below
  have HK:Hid (K _ _):=hK _ _ ((KeepsOthers.alloc V (.cells #[.int .i64 x.1.1.kind,.int .i64 x.1.1.num,.string x.1.1.text,x.1.2,.int .i64 x.2.1.kind,.int .i64 x.2.1.num,.string x.2.1.text,x.2.2] 108)).from _) (hba.mono hB.size) ⟨ys,hys,HJ.out ys V _ none hj (zan hba) (fun r e=>by cases e),b1.alloc _,hB.trans (hba.mono hB.size)⟩ ⟨⟨V.heap.size,World.alloc_heap_new V _,rfl⟩,hpx⟩
  obtain⟨⟨k,ku⟩,⟨v,vu⟩⟩:=x
  obtain⟨ak,ck,hku,_⟩:=Lies.slice hx.1.1.1
  obtain⟨av,cv,hvu,_⟩:=Lies.slice hx.1.2.1
  simp only at hku hvu
  subst hku hvu
  clear hK
  gi_wp2
  exact HK.out
 case body=>
  rintro lp pre ⟨x,hx⟩ a' V hlp ⟨ys,hys,hj,b1,hB⟩ ⟨⟨Bx,b8,rfl⟩,hpx⟩ hlt
  have hyl:ys.length=pre.length:=by have:=congrArg List.length hys;rwa [List.length_map,List.length_map] at this
  obtain⟨⟨k,ku⟩,⟨v,vu⟩⟩:=x
  obtain⟨ak,ck,hku,_⟩:=Lies.slice hx.1.1.1
  obtain⟨av,cv,hvu,_⟩:=Lies.slice hx.1.2.1
  simp only at hku hvu
  subst hku hvu
  have hVd:Below V.heap.size V V.drew:=(Below.refl _ _).drew
  have hVa:∀o,Below V.heap.size V (V.drew.alloc o):=fun o=>hVd.alloc (Nat.le_refl _) o
  have HCp:Hid (∀V',Below V.heap.size V V'→Calls Tryz.prog 137 #[.agg #[.int .i64 k.kind,.int .i64 k.num,.string k.text,.slice ak k.items.length ck,.int .i64 v.kind,.int .i64 v.num,.string v.text,.slice av v.items.length cv]] V' (zba (k,v) V')):=fun V' hV'=>copied_14 (k,v) _ _ V' (Lies.keeps (hB.trans (hV'.mono hB.size)) _ _ _ hx.1.1.1) (Lies.keeps (hB.trans (hV'.mono hB.size)) _ _ _ hx.1.2.1) hx.2
  obtain⟨y0,y1,y2,y3,y4,y5,y6,y7⟩:=b8.eight
  simp only [Nat.zero_add] at y0 y1 y2 y3 y4 y5 y6 y7
  have hlx:=b8.lt
  have HY8:Hid _:=HY.out
  clear HSt
  gi_wp2
  refine⟨trivial,(fun h=>by cases h),?_⟩
  refine (CallsIn.inRound lp (callsIn_wide.2 (HCp.out V (Below.refl _ _)))).mono ?_
  rintro e w1 ⟨u1,u2,rfl,hL1,hL2,hg1⟩
  obtain⟨a1,c1,rfl,_⟩:=LiesB.slice hL1
  obtain⟨a2,c2,rfl,_⟩:=LiesB.slice hL2
  simp only at hL1 hL2
  have d1:Go.Boxed w1 W.heap.size 38 (.func (.yield lo) #[] #[]):=(hg1.block _ b1.lt).trans b1
  have hbn:Below V.heap.size V (w1.alloc (.cells #[.int .i64 k.kind,.int .i64 k.num,.string k.text,.slice a1 k.items.length c1,.int .i64 v.kind,.int .i64 v.num,.string v.text,.slice a2 v.items.length c2] 108)):=hg1.alloc hg1.size _
  have hN1:NewC V.heap.size (w1.alloc (.cells #[.int .i64 k.kind,.int .i64 k.num,.string k.text,.slice a1 k.items.length c1,.int .i64 v.kind,.int .i64 v.num,.string v.text,.slice a2 v.items.length c2] 108)) ⟨k,v,a1,c1,a2,c2⟩:=⟨⟨LiesB.keepsB ((Below.refl _ _).alloc (Nat.le_refl _) _) hL1,hx.1.1.2⟩,⟨LiesB.keepsB ((Below.refl _ _).alloc (Nat.le_refl _) _) hL2,hx.1.2.2⟩⟩
  have hpx2:(ys.map CQ.t++[(CQ.mk k v a1 c1 a2 c2).t]) <+: t.items:=by
   rw [←Hq1.out,hys]
   have h9:=hpx.map (fun q:PQR 16 w0 RightP=>trT q.1)
   rw [List.map_append] at h9
   exact h9
  have hyy:=HY.out ys ⟨k,v,a1,c1,a2,c2⟩ V _ hj hbn ⟨hN1,hpx2⟩ (by rw [hyl,←Hqn.out];exact hlt)
  obtain⟨fn,tm,asg,bod,hy,hR⟩:=hyy
  simp only [encCQ] at hy
  have d2:=d1.cell
  have d3:=d1.lt
  clear HCp hpx hpx2 y0 y1 y2 y3 y4 y5 y6 y7
  gi_wp2
  refine⟨(fun h=>by cases h),?_⟩
  refine (roundIn_inX hR lp _).mono ?_
  have Hfin:Hid (∀w2,J (ys++[⟨k,v,a1,c1,a2,c2⟩]) w2→KpY Z w0.heap.size W.heap.size (w1.alloc (.cells #[.int .i64 k.kind,.int .i64 k.num,.string k.text,.slice a1 k.items.length c1,.int .i64 v.kind,.int .i64 v.num,.string v.text,.slice a2 v.items.length c2] 108)) w2→KeepsFrom Wi.heap.size V w2∧Below w0.heap.size V w2∧AlI J lo W.heap.size (pre++[⟨((k,.slice ak k.items.length ck),(v,.slice av v.items.length cv)),hx⟩]) w2):=fun w2 h1 hk=>⟨(keepsBelowY hbn).trans (keepsLaterY hk.2.2 (by omega)),(hbn.mono hB.size).trans hk.1,_,by rw [List.map_append,List.map_append,hys];rfl,h1,hk.2.1 _ _ _ hZ (d1.alloc _),hB.trans ((hbn.mono hB.size).trans hk.1)⟩
  have Hstp:Hid (∀w2,Jx (ys++[⟨k,v,a1,c1,a2,c2⟩]) w2→KpY Z w0.heap.size W.heap.size (w1.alloc (.cells #[.int .i64 k.kind,.int .i64 k.num,.string k.text,.slice a1 k.items.length c1,.int .i64 v.kind,.int .i64 v.num,.string v.text,.slice a2 v.items.length c2] 108)) w2→KeepsFrom Wi.heap.size V w2∧Below w0.heap.size V w2∧AlX Jx .ret (pre++[⟨((k,.slice ak k.items.length ck),(v,.slice av v.items.length cv)),hx⟩]) w2):=fun w2 h1 hk=>⟨(keepsBelowY hbn).trans (keepsLaterY hk.2.2 (by omega)),(hbn.mono hB.size).trans hk.1,rfl,_,h1⟩
  rintro e w2 (⟨rfl,hj2,hk2⟩|⟨rfl,hj2,hk2⟩)
  ·have HE:Hid _:=Hfin.out w2 hj2 hk2
   clear hj2 hk2 Hfin Hstp hy hR d1 d2 d3 hN1 hbn hL1 hL2 hg1
   gi_wp2
   exact HE.out
  ·have HE:Hid _:=Hstp.out w2 hj2 hk2
   clear hj2 hk2 Hfin Hstp hy hR d1 d2 d3 hN1 hbn hL1 hL2 hg1
   gi_wp2
   exact HE.out
 case done=>
  rintro D xs V hD rfl ⟨ys,hys,hj,b1,hB⟩ hK
  have HM:Hid (MarksX W.heap.size V [D]):=MarksX.one (by omega) hK
  have HT:Hid (J ys V):=hj
  have HS:Hid (ys.map CQ.t=t.items):=hys.trans Hq1.out
  clear hj b1 hB hK hys
  gi_wp2
  refine leavesX W.heap.size (fun V=>J ys V) (fun V D hD hK hT=>OwnFrom.putObj (show OwnFrom W.heap.size J from HJ.out) _ hT hD hK rfl) (fun V hT=>⟨.tuple #[],by simp [results,Tryz.results270,go_sem],⟨_,rfl⟩,.inl ⟨ys,HS.out,hT⟩⟩) [D] V HM.out HT.out
 case stop=>
  rintro D c pre V hD _ ⟨rfl,ys,hj⟩ hK
  have HM:Hid (MarksX W.heap.size V [D]):=MarksX.one (by omega) hK
  have HT:Hid (Jx ys V):=hj
  clear hj hK
  gi_wp2
  refine leavesX W.heap.size (fun V=>Jx ys V) (fun V D hD hK hT=>OwnFrom.putObj (show OwnFrom W.heap.size Jx from HJx.out) _ hT hD hK rfl) (fun V hT=>⟨.tuple #[],by simp [results,Tryz.results270,go_sem],⟨_,rfl⟩,.inr ⟨ys,trivial,hT⟩⟩) [D] V HM.out HT.out
end Go.Proofs.YtlnecfjnffdciabGreat

namespace Go.Proofs.YtlnecfjnffdciabGreat
open Go.RowKit Go.Shelf
theorem make_pairs (n:Nat) (hn:n≤65536):∃M:Array Value,M.size=n*8∧∀W:World,(Instr.makeSlice 76 (.int .i64 (n:Int)) (.int .i64 (n:Int))).run Tryz.prog W=.ok (.slice (some ⟨W.heap.size,0,none⟩) n n) (W.alloc (.cells M 108)):=by
 obtain⟨i0,hi,hz0,hz1,hz2⟩:=infoQ
 refine⟨madeCells (Value.agg #[.int .i64 0,.int .i64 0,.string ⟨#[]⟩,.slice none 0 0,.int .i64 0,.int .i64 0,.string ⟨#[]⟩,.slice none 0 0]).cells (((n:Nat):Int).toNat*i0.size),?_,fun W=>?_⟩
 ·rw [size_madeCells,hz1];simp
 ·have h:=run_make (P:=Tryz.prog) W 76 108 i0 _ Tryz.underlying76 hi hz0 .i64 .i64 (n:Int) (n:Int) (by omega) (by omega) (by rw [hz2];omega) (by omega)
  simpa using h
def NewQ (base:Nat) (w:World) (p:PP):Prop:=(LiesB base 16 w p.1.1.items p.1.2∧p.1.1.text.size≤9223372036854775807)∧(LiesB base 16 w p.2.1.items p.2.2∧p.2.1.text.size≤9223372036854775807)
theorem NewQ.keeps {base:Nat} {w w':World} {p:PP} (h:NewQ base w p) (hb:Below w.heap.size w w'):NewQ base w' p:=⟨⟨LiesB.keepsB hb h.1.1,h.1.2⟩,⟨LiesB.keepsB hb h.2.1,h.2.2⟩⟩
theorem NewQ.good {base:Nat} {w:World} {p:PP} (h:NewQ base w p):GoodQ 16 w p:=⟨⟨LiesB.lies _ _ _ h.1.1,h.1.2⟩,⟨LiesB.lies _ _ _ h.2.1,h.2.2⟩⟩
theorem NewQ.lower {base b':Nat} {w:World} {p:PP} (h:NewQ base w p) (hb:b'≤base):NewQ b' w p:=⟨⟨LiesB.lower14 hb _ _ _ h.1.1,h.1.2⟩,⟨LiesB.lower14 hb _ _ _ h.2.1,h.2.2⟩⟩
structure CpQ (G n:Nat) (wr:World) (ps:List PP):Prop where
 row:QAt wr G 0 ps
 lists:∀p∈ps,NewQ (G+1) wr p
 there:∀k,k<n*8→(wr.cell? ⟨G,k,none⟩).isSome∧wr.frozen? ⟨G,k,none⟩=false
 lt:G<wr.heap.size
theorem CpQ.keeps {G n:Nat} {wr wr':World} {ps:List PP} (h:CpQ G n wr ps) (hb:Below wr.heap.size wr wr'):CpQ G n wr' ps:=
 ⟨h.row.keeps hb,fun p hp=>(h.lists p hp).keeps hb,fun k hk=>by
  obtain⟨v,hv⟩:=Option.isSome_iff_exists.1 (h.there k hk).1
  exact⟨by rw [zaa hb hv];rfl,(hb.frozen (p:=⟨G,k,none⟩) h.lt).trans (h.there k hk).2⟩,Nat.lt_of_lt_of_le h.lt hb.size⟩
theorem CpQ.put {G n:Nat} {wr:World} {ps:List PP} (h:CpQ G n wr ps) (p:PP) (hp:NewQ (G+1) wr p) (hl:ps.length<n):CpQ G n (wr.setCells G (ps.length*8) (encQ p)) (ps++[p]):=by
 have hlen:(encQ p).length=8:=za9 p
 have hin:=World.cell?_setCells_in G (encQ p) (ps.length*8) wr (fun j hj=>by
  obtain⟨v,hv⟩:=Option.isSome_iff_exists.1 (h.there (ps.length*8+j) (by omega)).1
  rw [hv];rfl)
 have hnew:∀q,NewQ (G+1) wr q→NewQ (G+1) (wr.setCells G (ps.length*8) (encQ p)) q:=fun q hq=>⟨⟨LiesB.stays (fun a u ha hu=>⟨zag (g:=G) (fun e=>by omega) hu,by rw [World.frozen?_setCells]⟩) _ _ _ hq.1.1,hq.1.2⟩,⟨LiesB.stays (fun a u ha hu=>⟨zag (g:=G) (fun e=>by omega) hu,by rw [World.frozen?_setCells]⟩) _ _ _ hq.2.1,hq.2.2⟩⟩
 refine⟨fun j u hj=>?_,fun q hq=>?_,fun k hk=>⟨?_,by rw [World.frozen?_setCells];exact (h.there k hk).2⟩,by rw [size_setCells];exact h.lt⟩
 ·rw [List.flatMap_append] at hj
  by_cases hlt:j<(ps.flatMap encQ).length
  ·rw [List.getElem?_append_left hlt] at hj
   rw [zay] at hlt
   rw [World.cell?_setCells_out G (encQ p) (ps.length*8) wr ⟨G,0+j,none⟩ (fun _ _=>by simp only;omega)]
   exact h.row j u hj
  ·rw [List.getElem?_append_right (by omega),zay] at hj
   rw [zay] at hlt
   have e:[p].flatMap encQ=encQ p:=by simp
   rw [e] at hj
   obtain⟨hl2,he⟩:=List.getElem?_eq_some_iff.1 hj
   have h9:=hin (j-ps.length*8) hl2
   have e2:ps.length*8+(j-ps.length*8)=0+j:=by omega
   rw [e2,he] at h9
   exact h9
 ·rcases List.mem_append.1 hq with hq|hq
  ·exact hnew q (h.lists q hq)
  ·rw [List.mem_singleton.1 hq];exact hnew p hp
 ·by_cases hr:ps.length*8≤k∧k<ps.length*8+8
  ·have h9:=hin (k-ps.length*8) (by omega)
   have e2:ps.length*8+(k-ps.length*8)=k:=by omega
   rw [e2] at h9
   rw [h9];rfl
  ·rw [World.cell?_setCells_out G (encQ p) (ps.length*8) wr ⟨G,k,none⟩ (fun _ _=>by simp only;omega)]
   exact (h.there k hk).1
def CopiesPost (l:List PT) (w:World) (e:Ending) (w':World):Prop:=∃v qs,e=.returned v∧qs.map trT=l∧SlQ w.heap.size 16 w' qs v∧(∀p∈qs,NewQ w.heap.size w' p)∧Below w.heap.size w w'
set_option maxRecDepth 100000 in
set_option maxHeartbeats 8000000 in
theorem copies_14 (qs:List PP) (v:Value) (w:World) (hv:SlQ 0 16 w qs v) (hlen:qs.length≤65536) (hr:∀p∈qs,zab 16 p.1.1=true∧zab 16 p.2.1=true) :
 Calls Tryz.prog 106 #[v] w (CopiesPost (qs.map trT) w):=by
 have HS:Hid (SlQ 0 16 w qs v):=hv
 obtain⟨a0,c0,rfl,_⟩:=hv.slice
 have HR:Hid _:=hr
 obtain⟨M,hMs,hmk⟩:=make_pairs qs.length hlen
 have HMs:Hid (M.size=qs.length*8):=hMs
 obtain⟨n,hn⟩:∃n,n=qs.length:=⟨_,rfl⟩
 have HN:Hid (n=qs.length):=hn
 rw [←hn] at hmk hlen HMs ⊢
 clear hMs hv hr hn
 go_enter Tryz.func106,Tryz.ntmps106
 go_wp2_with fail
 go_loopg [11] n (fun q i wr=>∃(j:Nat) (ps:List PP),i=.int .i64 (j:Int)∧j≤n∧q=n-j∧Hid (ps.length=j∧ps.map trT=(qs.take j).map trT)∧Hid (CpQ w.heap.size n wr ps)∧Hid (Below w.heap.size w wr))
 case atStart=>
  refine⟨0,[],rfl,by omega,by omega,⟨rfl,rfl⟩,⟨QAt.nil _ _ _,(fun p hp=>by cases hp),(fun k hk=>?_),(by simp)⟩,(Below.refl _ _).alloc (Nat.le_refl _) _⟩
  have hk':k<M.size:=by rw [HMs.out];exact hk
  simp [hk']
 case round=>
  obtain⟨j,ps,rfl,hj,hk,Hps,HC,HB⟩:=hrel
  have Hk:Hid _:=hk
  clear hk hmk
  have hbw:=HB.out
  by_cases hlt:j<n
  ·have hlt':j<qs.length:=by have:=HN.out;omega
   obtain⟨b1,o1,c1',hv1,_,hq,hgq⟩:=HS.out.full (fun e=>by rw [e] at hlt';cases hlt')
   have ha1:a0=some ⟨b1,o1,none⟩:=by injection hv1
   subst ha1
   have Ex:=hq.at j hlt'
   have gx:=hgq qs[j] (List.getElem_mem hlt')
   have rx:=HR.out qs[j] (List.getElem_mem hlt')
   have Htk:Hid ((qs.take (j+1)).map trT=(qs.take j).map trT++[trT qs[j]]):=by
    show _=_
    rw [List.take_succ_eq_append_getElem hlt',List.map_append];rfl
   generalize qs[j]=x at *
   obtain⟨⟨t1,u1⟩,⟨t2,u2⟩⟩:=x
   obtain⟨a1,c1,hu1,_⟩:=Lies.slice gx.1.1
   obtain⟨a2,c2,hu2,_⟩:=Lies.slice gx.2.1
   simp only at hu1 hu2
   subst hu1 hu2
   obtain⟨p0,p1,p2,p3,p4,p5,p6,p7⟩:=Ex.keeps hbw
   simp only at p0 p1 p2 p3 p4 p5 p6 p7
   have hl1:b1<wr.heap.size:=zad p0
   have hws2:w.heap.size≤wr.heap.size:=hbw.size
   have hG:=HC.out.lt
   have hbA:∀o,Below w.heap.size w (wr.alloc o):=fun o=>hbw.alloc hws2 o
   have HCp:Hid (∀o,Calls Tryz.prog 137 #[.agg #[.int .i64 t1.kind,.int .i64 t1.num,.string t1.text,(.slice a1 t1.items.length c1),.int .i64 t2.kind,.int .i64 t2.num,.string t2.text,(.slice a2 t2.items.length c2)]] (wr.alloc o) (zba (t1,t2) (wr.alloc o))):=fun o=>copied_14 (t1,t2) _ _ (wr.alloc o) (Lies.keeps (hbA o) _ _ _ gx.1.1) (Lies.keeps (hbA o) _ _ _ gx.2.1) rx
   have HTx:Hid (t1.text.size≤9223372036854775807∧t2.text.size≤9223372036854775807):=⟨gx.1.2,gx.2.2⟩
   have HBA:Hid _:=hbA
   have hji:(j:Int)<(n:Nat):=by omega
   clear gx rx Ex hq hgq hv1 hbA
   go_wp2_with fail
   refine Calls.mono (HCp.out _) ?_
   rintro e w1 ⟨k5,v5,rfl,hl1',hl2',hg⟩
   obtain⟨b1',d1,rfl,_⟩:=LiesB.slice hl1'
   obtain⟨b2',d2,rfl,_⟩:=LiesB.slice hl2'
   have hb2:Below w.heap.size w w1:=(HBA.out _).trans (hg.mono (HBA.out _).size)
   have HC1:Hid (CpQ w.heap.size n w1 ps):=(HC.out.keeps ((Below.refl _ _).alloc (Nat.le_refl _) _)).keeps hg
   have hpl:=Hps.out.1
   have HNw:Hid (NewQ (w.heap.size+1) w1 ((t1,.slice b1' t1.items.length d1),(t2,.slice b2' t2.items.length d2))):=⟨⟨LiesB.lower14 (by simp;omega) _ _ _ hl1',HTx.out.1⟩,⟨LiesB.lower14 (by simp;omega) _ _ _ hl2',HTx.out.2⟩⟩
   have hput:=HC1.out.put _ HNw.out (by omega)
   rw [hpl] at hput
   have Hput:Hid _:=hput
   clear hg p0 p1 p2 p3 p4 p5 p6 p7 hl1' hl2' HC HCp hput
   obtain⟨y0,s0⟩:=Option.isSome_iff_exists.1 (HC1.out.there (j*8) (by omega)).1
   obtain⟨y1,s1⟩:=Option.isSome_iff_exists.1 (HC1.out.there (j*8+1) (by omega)).1
   obtain⟨y2,s2⟩:=Option.isSome_iff_exists.1 (HC1.out.there (j*8+2) (by omega)).1
   obtain⟨y3,s3⟩:=Option.isSome_iff_exists.1 (HC1.out.there (j*8+3) (by omega)).1
   obtain⟨y4,s4⟩:=Option.isSome_iff_exists.1 (HC1.out.there (j*8+4) (by omega)).1
   obtain⟨y5,s5⟩:=Option.isSome_iff_exists.1 (HC1.out.there (j*8+5) (by omega)).1
   obtain⟨y6,s6⟩:=Option.isSome_iff_exists.1 (HC1.out.there (j*8+6) (by omega)).1
   obtain⟨y7,s7⟩:=Option.isSome_iff_exists.1 (HC1.out.there (j*8+7) (by omega)).1
   have z0:=(HC1.out.there (j*8) (by omega)).2
   have z1:=(HC1.out.there (j*8+1) (by omega)).2
   have z2:=(HC1.out.there (j*8+2) (by omega)).2
   have z3:=(HC1.out.there (j*8+3) (by omega)).2
   have z4:=(HC1.out.there (j*8+4) (by omega)).2
   have z5:=(HC1.out.there (j*8+5) (by omega)).2
   have z6:=(HC1.out.there (j*8+6) (by omega)).2
   have z7:=(HC1.out.there (j*8+7) (by omega)).2
   have HB2:Hid (Below w.heap.size w (w1.setCells w.heap.size (j*8) (encQ ((t1,.slice b1' t1.items.length d1),(t2,.slice b2' t2.items.length d2))))):=
    (((((((hb2.setCell (p:=⟨w.heap.size,j*8,none⟩) (Nat.le_refl _) _).setCell (p:=⟨w.heap.size,j*8+1,none⟩) (Nat.le_refl _) _).setCell (p:=⟨w.heap.size,j*8+1+1,none⟩) (Nat.le_refl _) _).setCell (p:=⟨w.heap.size,j*8+1+1+1,none⟩) (Nat.le_refl _) _).setCell (p:=⟨w.heap.size,j*8+1+1+1+1,none⟩) (Nat.le_refl _) _).setCell (p:=⟨w.heap.size,j*8+1+1+1+1+1,none⟩) (Nat.le_refl _) _).setCell (p:=⟨w.heap.size,j*8+1+1+1+1+1+1,none⟩) (Nat.le_refl _) _).setCell (p:=⟨w.heap.size,j*8+1+1+1+1+1+1+1,none⟩) (Nat.le_refl _) _
   have Hp2:Hid ((ps++[((t1,Value.slice b1' t1.items.length d1),(t2,Value.slice b2' t2.items.length d2))]).length=j+1∧(ps++[((t1,Value.slice b1' t1.items.length d1),(t2,Value.slice b2' t2.items.length d2))]).map trT=(qs.take (j+1)).map trT):=by
    refine⟨by simp [hpl],?_⟩
    rw [List.map_append,Hps.out.2,Htk.out];rfl
   clear hpl
   go_wp2_with fail
   go_roundg (n-(j+1))
   case measure=>have:=Hk.out;omega
   case rel=>exact⟨j+1,_,by go_num,by omega,rfl,Hp2,Hput,HB2⟩
  ·have hjl:j=n:=by omega
   have HE:Hid (CopiesPost (qs.map trT) w (.returned (.slice (some ⟨w.heap.size,0,none⟩) n n)) wr):=by
    refine⟨_,ps,rfl,?_,⟨_,n,by rw [Hps.out.1,hjl],by rw [Hps.out.1,hjl];exact Nat.le_refl _,by rw [Hps.out.1];omega,fun _=>⟨w.heap.size,0,rfl,Nat.le_refl _,HC.out.row⟩,fun p hp=>(HC.out.lists p hp).good⟩,fun p hp=>(HC.out.lists p hp).lower (by omega),hbw⟩
    rw [Hps.out.2,hjl,HN.out,List.take_length]
   have hji : ¬(j:Int)<(n:Nat):=by omega
   go_wp2_with fail
   go_ret
   exact HE.out
end Go.Proofs.YtlnecfjnffdciabGreat

namespace Go.Proofs.YtlnecfjnffdciabGreat
open Go.RowKit Go.Shelf
attribute [local go_sem] Oper.semAt_some
set_option maxRecDepth 100000 in
theorem mall14 (p:Option Addr) (w:World):Calls Tryz.prog 219 #[.pointer p] w fun e w'=>e=.returned (.func (.func 270) #[] #[.pointer (some ⟨w.heap.size,0,none⟩)])∧w'=w.alloc (.cells #[.pointer p] 80):=by
 go_enter Tryz.func219,Tryz.ntmps219
 go_wp2_with fail
 go_ret
 exact⟨rfl,rfl⟩
end Go.Proofs.YtlnecfjnffdciabGreat

namespace Go.Proofs.YtlnecfjnffdciabGreat
open Go.RowKit Go.Shelf
theorem za5 (q:Nat):RT.Cmp (byK q):=by
 refine⟨fun a b=>?_,fun a b c h1 h2=>?_⟩
 ·have:=zap q a.1 b.1
  show ordV q a.1 b.1<0↔0<ordV q b.1 a.1
  omega
 ·have h1':ordV q a.1 b.1≤0:=h1
  have h2':ordV q b.1 c.1<0:=h2
  obtain⟨h3,h4⟩:=ordV_goes q a.1 b.1 c.1 h1' (by omega)
  show ordV q a.1 c.1<0
  by_cases h0:ordV q a.1 c.1=0
  ·have:=(h4 h0).2
   omega
  ·omega
theorem eg_at1:∀args w,(callFunc 203 args).run Tryz.prog w=.ok (.enter 203 args) w:=enters_of Tryz.func203 (by kernel_rfl) rfl
abbrev atK (q:Nat) (k:VT) (x:PT):Int:=ordV q k x.1
set_option maxRecDepth 100000 in
set_option maxHeartbeats 4000000 in
theorem mfind_wrong (d b:Nat) (k:VT) (ku:Value) (w:World) (hk:Lies d w k.items ku) (ht:k.text.size≤9223372036854775807) (hr:zab d k=false):Calls Tryz.prog 129 #[.pointer (some ⟨b,0,none⟩),.agg #[.int .i64 k.kind,.int .i64 k.num,.string k.text,ku]] w fun e w'=>e=.returned (.tuple #[.pointer none,.int .i64 3])∧Below w.heap.size w w':=by
 obtain⟨ak,ck,rfl,_⟩:=Lies.slice hk
 have hb0:∀o,Below w.heap.size w (w.alloc o):=fun o=>((Grew.refl w).alloc o).below
 have HC:Hid (∀o,Calls Tryz.prog 101 #[.agg #[.int .i64 k.kind,.int .i64 k.num,.string k.text,.slice ak k.items.length ck]] (w.alloc o) fun e w'=>e=.returned (.int .i64 3)∧Below (w.alloc o).heap.size (w.alloc o) w'):=fun o=>by
  have h9:=za0 d k _ (w.alloc o) (Lies.keeps (hb0 o) _ _ _ hk) ht
  rwa [hr] at h9
 have HB:Hid _:=hb0
 clear hk ht hr hb0
 go_enter Tryz.func129,Tryz.ntmps129
 go_wp2_with fail
 refine (HC.out _).mono ?_
 rintro e w1 ⟨rfl,hg⟩
 have hb1:Below w.heap.size w w1:=(HB.out _).trans (hg.mono (HB.out _).size)
 clear hg
 go_wp2_with fail
 go_ret2
 exact⟨rfl,hb1⟩
def MFindPost (q:Nat) (t:RT PT) (k:VT) (w:World) (e:Ending) (w':World):Prop:=∃p,e=.returned (.tuple #[.pointer p,.int .i64 0])∧FindPost14 TT 16 (RT.find (atK q k) t) w (.returned (.pointer p)) w'
set_option maxRecDepth 100000 in
set_option maxHeartbeats 8000000 in
theorem mfind_right (d b q:Nat) (t:RT PT) (k:VT) (ku:Value) (w:World) (hm:MC w q t b) (hk:Lies d w k.items ku) (ht:k.text.size≤9223372036854775807) (hr:zab d k=true):Calls Tryz.prog 129 #[.pointer (some ⟨b,0,none⟩),.agg #[.int .i64 k.kind,.int .i64 k.num,.string k.text,ku]] w (MFindPost q t k w):=by
 obtain⟨ak,ck,rfl,_⟩:=Lies.slice hk
 obtain⟨h16,hr16⟩:=canon hk hr
 have hb0:∀o,Below w.heap.size w (w.alloc o):=fun o=>((Grew.refl w).alloc o).below
 have HC:Hid (∀o,Calls Tryz.prog 101 #[.agg #[.int .i64 k.kind,.int .i64 k.num,.string k.text,.slice ak k.items.length ck]] (w.alloc o) fun e w'=>e=.returned (.int .i64 0)∧Below (w.alloc o).heap.size (w.alloc o) w'):=fun o=>by
  have h9:=za0 d k _ (w.alloc o) (Lies.keeps (hb0 o) _ _ _ hk) ht
  rwa [hr] at h9
 obtain⟨po,hpo,hn⟩:=hm.top
 have HA:Hid (∀V,Below w.heap.size w V→Calls Tryz.prog 135 #[.pointer (some ⟨b,0,none⟩),.agg #[.int .i64 k.kind,.int .i64 k.num,.string k.text,.slice ak k.items.length ck]] V (AtPost q k V)):=fun V hV=>at_14 q b hm.q6 k _ V (zaa hV hm.ord) (Lies.keeps hV _ _ _ h16) ht hr16
 have HF:Hid (∀V q1 q2,Below w.heap.size w V→AtC TT 16 203 q1 q2 (atK q k) (fun x=>zab 16 x.1=true) V→Calls Tryz.prog 196 #[.pointer po,.func (.func 203) #[] #[.pointer q1,.pointer q2]] V (FindPost14 TT 16 (RT.find (atK q k) t) V)):=fun V q1 q2 hV ha=>find_14 TT 16 203 q1 q2 (atK q k) _ eg_at1 t po V ha (hn.keeps hV) (fun x hx=>(hm.right x hx).1.1)
 have HB:Hid _:=hb0
 have HP:Hid (∀(p:Option Addr) (V V':World),Below w.heap.size w V→FindPost14 TT 16 (RT.find (atK q k) t) V (.returned (.pointer p)) V'→MFindPost q t k w (.returned (.tuple #[.pointer p,.int .i64 0])) V'):=fun p V V' hV h=>⟨p,rfl,hV.trans (h.1.mono hV.size),h.2⟩
 have hbl:=zad hpo
 simp only at hbl
 clear hk ht hr hb0 hm hn h16 hr16
 go_enter Tryz.func129,Tryz.ntmps129
 go_wp2_with fail
 obtain⟨W0,hW0⟩:∃W0,W0=w.alloc (.cells #[.int .i64 k.kind,.int .i64 k.num,.string k.text,.slice ak k.items.length ck] 33):=⟨_,rfl⟩
 have HCk:Hid _:=HC.out (.cells #[.int .i64 k.kind,.int .i64 k.num,.string k.text,.slice ak k.items.length ck] 33)
 rw [←hW0] at HCk ⊢
 have hb0:Below w.heap.size w W0:=by rw [hW0];exact HB.out _
 have k0:W0.cell? ⟨w.heap.size,0,none⟩=some (.int .i64 k.kind):=by rw [hW0];simp
 have k1:W0.cell? ⟨w.heap.size,1,none⟩=some (.int .i64 k.num):=by rw [hW0];simp
 have k2:W0.cell? ⟨w.heap.size,2,none⟩=some (.string k.text):=by rw [hW0];simp
 have k3:W0.cell? ⟨w.heap.size,3,none⟩=some (.slice ak k.items.length ck):=by rw [hW0];simp
 clear hW0 HC
 refine Calls.mono HCk.out ?_
 rintro e w1 ⟨rfl,hg⟩
 have hb1:Below w.heap.size w w1:=hb0.trans (hg.mono hb0.size)
 have k0:=zaa hg k0;have k1:=zaa hg k1;have k2:=zaa hg k2;have k3:=zaa hg k3
 have hpo:=zaa hb1 hpo
 clear hg HCk hb0
 go_wp2_with fail
 go_region_held3 (fun w'=>w'.cell? ⟨b,1,none⟩=some (.pointer po)∧w'.cell? ⟨w.heap.size,0,none⟩=some (.int .i64 k.kind)∧w'.cell? ⟨w.heap.size,1,none⟩=some (.int .i64 k.num)∧w'.cell? ⟨w.heap.size,2,none⟩=some (.string k.text)∧w'.cell? ⟨w.heap.size,3,none⟩=some (.slice ak k.items.length ck)) (go_keep)
  (first
   | (go_at_call 135;(with_reducible refine Calls.mono (HA.out _ hb1.drew) ?_);rintro e w2 ⟨hg,q1,q2,rfl,ha⟩;have HAC:Hid (AtC TT 16 203 q1 q2 (atK q k) (fun x=>zab 16 x.1=true) w2):=ha TT;have hb2:Below w.heap.size w w2:=hb1.drew.trans (hg.mono hb1.drew.size);have hg2:Below w1.heap.size w1 w2:=(Below.refl _ _).drew.trans hg;have k0:=zaa hg2 k0;have k1:=zaa hg2 k1;have k2:=zaa hg2 k2;have k3:=zaa hg2 k3;have hpo:=zaa hg2 hpo;clear hg ha)
   | (go_at_call 196;(with_reducible refine Calls.mono (HF.out _ _ _ hb2 HAC.out) ?_);rintro e w3 hf;obtain⟨p3,rfl⟩:∃p3,e=.returned (.pointer p3):=(by rcases hf.2 with ⟨_,h9⟩|⟨_,_,_,_,_,_,_,_,_,_,_,h9,_⟩ <;> exact⟨_,h9⟩);have HE:Hid _:=HP.out p3 _ _ hb2 hf;have hg3:Below w2.heap.size w2 w3:=hf.1;have k0:=zaa hg3 k0;have k1:=zaa hg3 k1;have k2:=zaa hg3 k2;have k3:=zaa hg3 k3;have hpo:=zaa hg3 hpo;clear hf))
 all_goals (first|(go_ret2;exact HE.out)|(go_wp2_with fail;go_ret2;exact HE.out))
def MapPost14 (q:Nat) (l:List PT) (w:World) (e:Ending) (w':World):Prop:=Below w.heap.size w w'∧∃t b,e=.returned (.pointer (some ⟨b,0,none⟩))∧MC w' q t b∧t.items=l
set_option maxRecDepth 100000 in
set_option maxHeartbeats 8000000 in
theorem of_14 (b q:Nat) (t:RT PT) (p:Option Addr) (w:World) (ho:w.cell? ⟨b,0,none⟩=some (.int .i64 (q:Int))) (hn:NM TT 16 w t p) (hw:RT.Well t) (hq:q<6) (hr:∀x∈t.items,Good 16 x.1∧Good 16 x.2) (hs:RT.Rises (byK q) t.items) (hz:t.size≤65536) :
 Calls Tryz.prog 133 #[.pointer (some ⟨b,0,none⟩),.pointer p] w (MapPost14 q t.items w):=by
 have HB:Hid (∀V,Below w.heap.size w V→Calls Tryz.prog 200 #[.pointer p] V (zac TT 16 t.black V)):=fun V hV=>black_14 (hn.keeps hV) (by omega)
 have hbw:RT.Well t.black:=⟨hw.1.black,by obtain⟨_,n,hB⟩:=hw;obtain⟨m,hm⟩:=hB.black;exact⟨m,hm⟩⟩
 have HP:Hid (∀(V:World) (p:Option Addr),Below w.heap.size w V→NM TT 16 V t.black p→MapPost14 q t.items w (.returned (.pointer (some ⟨V.heap.size,0,none⟩))) (V.alloc (.cells #[.int .i64 (q:Int),.pointer p] 165))):=fun V p hV ht=>by
  have hb9:Below V.heap.size V (V.alloc (.cells #[.int .i64 (q:Int),.pointer p] 165)):=((Grew.refl V).alloc _).below
  refine⟨hV.trans (hb9.mono hV.size),t.black,V.heap.size,rfl,⟨by simp,⟨p,by simp,ht.keeps hb9⟩,hbw,RT.black_red14 t,hq,?_,?_,?_⟩,RT.black_items t⟩
  ·rw [RT.black_items];exact hr
  ·rw [RT.black_items];exact hs
  ·rw [RT.size_items,RT.black_items,←RT.size_items];exact hz
 clear hn hw hq hr hs hz hbw
 go_enter Tryz.func133,Tryz.ntmps133
 go_wp2_with fail
 go_region_held3 (fun w'=>w'.cell? ⟨b,0,none⟩=some (.int .i64 (q:Int))) (go_keep)
  (first|(go_at_call 200;(with_reducible refine Calls.mono (HB.out _ (Below.refl _ _).drew) ?_);rintro e w2 ⟨hg,p2,rfl,ht⟩;have hg2:Below w.heap.size w w2:=(Below.refl _ _).drew.trans hg;have ho:=zaa hg2 ho;have HE:Hid _:=HP.out w2 p2 hg2 ht;clear hg ht))
 all_goals (first|(go_ret;exact HE.out)|(go_wp2_with fail;go_ret;exact HE.out))
end Go.Proofs.YtlnecfjnffdciabGreat

namespace Go.Proofs.YtlnecfjnffdciabGreat
open Go.RowKit Go.Shelf
theorem find_some {q:Nat} {t:RT PT} (hs:RT.Rises (byK q) t.items) {k v:VT} {x:PT} (h:RT.find (atK q k) t=some x):x∈t.items∧ordV q k x.1=0:=by
 have e:=RT.find_eq (atK q k) t (RT.Rises.falls (za5 q) hs (k,v))
 rw [e] at h
 exact⟨List.mem_of_find?_eq_some h,by simpa using List.find?_some h⟩
theorem find_none {q:Nat} {t:RT PT} (hs:RT.Rises (byK q) t.items) {k v:VT} (h:RT.find (atK q k) t=none):∀x∈t.items,ordV q k x.1≠0:=by
 have e:=RT.find_eq (atK q k) t (RT.Rises.falls (za5 q) hs (k,v))
 rw [e] at h
 intro x hx
 have:=List.find?_eq_none.1 h x hx
 simpa using this
def lessK (q:Nat) (k:VT) (l:List PT):List PT:=l.filter (fun y=>decide (ordV q k y.1≠0))
theorem less_none {q:Nat} {k:VT} {l:List PT} (h:∀x∈l,ordV q k x.1≠0):lessK q k l=l:=by
 unfold lessK
 rw [List.filter_eq_self]
 intro a ha
 exact decide_eq_true (h a ha)
def OrPost (q:Nat) (l:List PT) (E:Int) (w:World) (e:Ending) (w':World):Prop:=Below w.heap.size w w'∧((E≠0∧e=.returned (.tuple #[.pointer none,.int .i64 E]))∨(E=0∧∃t b,e=.returned (.tuple #[.pointer (some ⟨b,0,none⟩),.int .i64 0])∧MC w' q t b∧t.items=l))
set_option maxRecDepth 100000 in
set_option maxHeartbeats 8000000 in
theorem dissoc_14 (d b q:Nat) (t:RT PT) (k:VT) (ku:Value) (w:World) (hm:MC w q t b) (hk:Lies d w k.items ku) (ht:k.text.size≤9223372036854775807):Calls Tryz.prog 81 #[.pointer (some ⟨b,0,none⟩),.agg #[.int .i64 k.kind,.int .i64 k.num,.string k.text,ku]] w (OrPost q (lessK q k t.items) (errOf (zab d k)) w):=by
 obtain⟨ak,ck,rfl,_⟩:=Lies.slice hk
 have hb0:∀o,Below w.heap.size w (w.alloc o):=fun o=>((Grew.refl w).alloc o).below
 cases hr:zab d k with
 | false=>
  have HF:Hid (∀o,Calls Tryz.prog 129 #[.pointer (some ⟨b,0,none⟩),.agg #[.int .i64 k.kind,.int .i64 k.num,.string k.text,.slice ak k.items.length ck]] (w.alloc o) fun e w'=>e=.returned (.tuple #[.pointer none,.int .i64 3])∧Below (w.alloc o).heap.size (w.alloc o) w'):=fun o=>mfind_wrong d b k _ (w.alloc o) (Lies.keeps (hb0 o) _ _ _ hk) ht hr
  have HP:Hid (∀w',Below w.heap.size w w'→OrPost q (lessK q k t.items) (errOf false) w (.returned (.tuple #[.pointer none,.int .i64 3])) w'):=fun w' h=>⟨h,.inl ⟨by decide,rfl⟩⟩
  have HB:Hid _:=hb0
  clear hk ht hm hb0
  go_enter Tryz.func81,Tryz.ntmps81
  go_wp2_with fail
  refine (own_14 _ _).mono ?_
  rintro e w1 ⟨rfl,rfl⟩
  go_wp2_with fail
  refine (HF.out _).mono ?_
  rintro e w2 ⟨rfl,hg⟩
  have HE:Hid _:=HP.out w2 ((HB.out _).trans (hg.mono (HB.out _).size))
  clear hg
  go_wp2_with fail
  go_ret2
  exact HE.out
 | true=>
  obtain⟨h16,hr16⟩:=canon hk hr
  have HF:Hid (∀o,Calls Tryz.prog 129 #[.pointer (some ⟨b,0,none⟩),.agg #[.int .i64 k.kind,.int .i64 k.num,.string k.text,.slice ak k.items.length ck]] (w.alloc o) (MFindPost q t k (w.alloc o))):=fun o=>mfind_right d b q t k _ (w.alloc o) (hm.keeps (hb0 o)) (Lies.keeps (hb0 o) _ _ _ hk) ht hr
  have he:errOf true=0:=rfl
  rw [he]
  have HM:Hid (MC w q t b):=hm
  obtain⟨po,hpo,hn⟩:=hm.top
  have HA:Hid (∀V,Below w.heap.size w V→Calls Tryz.prog 135 #[.pointer (some ⟨b,0,none⟩),.agg #[.int .i64 k.kind,.int .i64 k.num,.string k.text,.slice ak k.items.length ck]] V (AtPost q k V)):=fun V hV=>at_14 q b hm.q6 k _ V (zaa hV hm.ord) (Lies.keeps hV _ _ _ h16) ht hr16
  have HW:Hid (∀V q1 q2,Below w.heap.size w V→AtC TT 16 203 q1 q2 (atK q k) (fun x=>zab 16 x.1=true) V→Calls Tryz.prog 134 #[.pointer po,.func (.func 203) #[] #[.pointer q1,.pointer q2]] V (zac TT 16 (RT.without (atK q k) t) V)):=fun V q1 q2 hV ha=>without_14 TT 16 203 q1 q2 po (atK q k) _ eg_at1 t V ha (hn.keeps hV) hm.well (fun x hx=>(hm.right x hx).1.1) (by have:=hm.size;omega)
  have hitems:(RT.without (atK q k) t).items=lessK q k t.items:=RT.without_eq (za5 q) hm.rises (k,k)
  have HO:Hid (∀V p,Below w.heap.size w V→NM TT 16 V (RT.without (atK q k) t) p→Calls Tryz.prog 133 #[.pointer (some ⟨b,0,none⟩),.pointer p] V (MapPost14 q (lessK q k t.items) V)):=fun V p hV hp=>by
   have h9:=of_14 b q (RT.without (atK q k) t) p V (zaa hV hm.ord) hp (RT.without_well _ hm.well) hm.q6 (fun x hx=>hm.right x (by rw [hitems] at hx;exact (List.mem_filter.1 hx).1)) (by rw [hitems];exact List.Pairwise.filter _ hm.rises) (by
    rw [RT.size_items,hitems]
    have h1:=List.length_filter_le (fun y:PT=>decide (ordV q k y.1≠0)) t.items
    have h2:=hm.size
    rw [RT.size_items] at h2
    exact Nat.le_trans h1 h2)
   rwa [hitems] at h9
  have HN:Hid (RT.find (atK q k) t=none→lessK q k t.items=t.items):=fun h=>less_none (find_none (v:=k) hm.rises h)
  have HB:Hid _:=hb0
  clear hk ht hr hb0 hn h16 hr16 he hitems hm
  go_enter Tryz.func81,Tryz.ntmps81
  go_wp2_with fail
  obtain⟨W0,hW0⟩:∃W0,W0=w.alloc (.cells #[.int .i64 k.kind,.int .i64 k.num,.string k.text,.slice ak k.items.length ck] 33):=⟨_,rfl⟩
  have HCk:Hid _:=HF.out (.cells #[.int .i64 k.kind,.int .i64 k.num,.string k.text,.slice ak k.items.length ck] 33)
  rw [←hW0] at HCk ⊢
  have hb0:Below w.heap.size w W0:=by rw [hW0];exact HB.out _
  have k0:W0.cell? ⟨w.heap.size,0,none⟩=some (.int .i64 k.kind):=by rw [hW0];simp
  have k1:W0.cell? ⟨w.heap.size,1,none⟩=some (.int .i64 k.num):=by rw [hW0];simp
  have k2:W0.cell? ⟨w.heap.size,2,none⟩=some (.string k.text):=by rw [hW0];simp
  have k3:W0.cell? ⟨w.heap.size,3,none⟩=some (.slice ak k.items.length ck):=by rw [hW0];simp
  clear hW0 HF
  refine (own_14 _ _).mono ?_
  rintro e w1 ⟨rfl,hw⟩
  obtain rfl:W0=w1:=hw.symm
  go_wp2_with fail
  refine Calls.mono HCk.out ?_
  rintro e w1 ⟨p1,rfl,hf⟩
  have hg:=hf.1
  have hb1:Below w.heap.size w w1:=hb0.trans (hg.mono hb0.size)
  have k0:=zaa hg k0;have k1:=zaa hg k1;have k2:=zaa hg k2;have k3:=zaa hg k3
  have hpo:=zaa hb1 hpo
  rcases hf.2 with ⟨hnone,he⟩|⟨x,xb,xl,xr,xk,xv,xc,xs,xh,xn,hsome,he,hcl,hlx⟩
  ·obtain rfl:p1=none:=by injection he with he;injection he
   have HE:Hid (OrPost q (lessK q k t.items) 0 w (.returned (.tuple #[.pointer (some ⟨b,0,none⟩),.int .i64 0])) w1):=⟨hb1,.inr ⟨rfl,t,b,rfl,HM.out.keeps hb1,(HN.out hnone).symm⟩⟩
   clear hf hg he hnone
   go_wp2_with fail
   go_ret2
   exact HE.out
  ·obtain rfl:p1=some ⟨xb,0,none⟩:=by injection he with he;injection he
   clear hf hg he hsome hcl hlx HN HCk
   go_wp2_with fail
   go_region_held3 (fun w'=>w'.cell? ⟨b,1,none⟩=some (.pointer po)∧w'.cell? ⟨w.heap.size,0,none⟩=some (.int .i64 k.kind)∧w'.cell? ⟨w.heap.size,1,none⟩=some (.int .i64 k.num)∧w'.cell? ⟨w.heap.size,2,none⟩=some (.string k.text)∧w'.cell? ⟨w.heap.size,3,none⟩=some (.slice ak k.items.length ck)) (go_keep)
    (first
     | (go_at_call 135;(with_reducible refine Calls.mono (HA.out _ hb1.drew) ?_);rintro e w2 ⟨hg,q1,q2,rfl,ha⟩;have HAC:Hid (AtC TT 16 203 q1 q2 (atK q k) (fun x=>zab 16 x.1=true) w2):=ha TT;have hb2:Below w.heap.size w w2:=hb1.drew.trans (hg.mono hb1.drew.size);have hg2:Below w1.heap.size w1 w2:=(Below.refl _ _).drew.trans hg;have k0:=zaa hg2 k0;have k1:=zaa hg2 k1;have k2:=zaa hg2 k2;have k3:=zaa hg2 k3;have hpo:=zaa hg2 hpo;clear hg ha)
     | (go_at_call 134;(with_reducible refine Calls.mono (HW.out _ _ _ hb2 HAC.out) ?_);rintro e w3 ⟨hg3,p3,rfl,ht3⟩;have hb3:Below w.heap.size w w3:=hb2.trans (hg3.mono hb2.size);have HT3:Hid (NM TT 16 w3 (RT.without (atK q k) t) p3):=ht3;have k0:=zaa hg3 k0;have k1:=zaa hg3 k1;have k2:=zaa hg3 k2;have k3:=zaa hg3 k3;have hpo:=zaa hg3 hpo;clear ht3)
     | (go_at_call 133;(with_reducible refine Calls.mono (HO.out _ _ hb3 HT3.out) ?_);rintro e w4 ⟨hg4,t4,b4,rfl,hm4,hi4⟩;have HE:Hid (OrPost q (lessK q k t.items) 0 w (.returned (.tuple #[.pointer (some ⟨b4,0,none⟩),.int .i64 0])) w4):=⟨hb3.trans (hg4.mono hb3.size),.inr ⟨rfl,t4,b4,rfl,hm4,hi4⟩⟩;have k0:=zaa hg4 k0;have k1:=zaa hg4 k1;have k2:=zaa hg4 k2;have k3:=zaa hg4 k3;have hpo:=zaa hg4 hpo;clear hm4 hi4))
   all_goals (first|(go_ret2;exact HE.out)|(go_wp2_with fail;go_ret2;exact HE.out))
end Go.Proofs.YtlnecfjnffdciabGreat

namespace Go.Proofs.YtlnecfjnffdciabGreat
open Go.RowKit Go.Shelf
def assocE (d q:Nat) (k v:VT) (t:RT PT):Int:=if zab d k=false then 3 else if zab d v=false then 3 else if RT.find (atK q k) t=none∧t.size=65536 then 2 else 0
theorem with_len (g:PT→Int) (x:PT) (t:RT PT) (h:RT.Falls g t.items):(RT.with_ g x t).size≤t.size+1∧((∃y∈t.items,g y=0)→(RT.with_ g x t).size≤t.size):=by
 have e:=RT.with_items g x t h
 have f:=RT.falls_parts g t.items h
 have l1:=congrArg List.length e
 have l2:=congrArg List.length f
 rw [RT.size_items,RT.size_items]
 simp only [List.length_append,List.length_cons] at l1 l2
 refine⟨by omega,fun ⟨y,hy,hg⟩=>?_⟩
 have:0<(t.items.filter (fun a=>decide (g a=0))).length:=List.length_pos_of_mem (List.mem_filter.2 ⟨hy,decide_eq_true hg⟩)
 omega
theorem with_same {q:Nat} {t:RT PT} (hs:RT.Rises (byK q) t.items) {x:PT} (hx:x∈t.items):(RT.with_ (byK q x) x t).items=t.items:=by
 refine RT.rises_eq (za5 q) _ _ (RT.with_rises (za5 q) hs x) hs fun y=>?_
 rw [RT.mem_with (za5 q) hs x y]
 refine⟨fun h=>?_,fun h=>?_⟩
 ·rcases h with rfl|h
  ·exact hx
  ·exact h.1
 ·by_cases h0:byK q x y=0
  ·refine .inl ?_
   obtain⟨i,hi,rfl⟩:=List.getElem_of_mem hx
   obtain⟨j,hj,rfl⟩:=List.getElem_of_mem h
   have hpw:=List.pairwise_iff_getElem.1 hs
   rcases Nat.lt_trichotomy i j with hlt|heq|hgt
   ·have:=hpw i j hi hj hlt;omega
   ·subst heq;rfl
   ·have h9:=hpw j i hj hi hgt
    have h8:ordV q (t.items[j]).1 (t.items[i]).1<0:=h9
    have h7:ordV q (t.items[i]).1 (t.items[j]).1=0:=h0
    have:=zap q (t.items[j]).1 (t.items[i]).1
    omega
  ·exact .inr ⟨h,h0⟩
set_option maxRecDepth 100000 in
set_option maxHeartbeats 16000000 in
theorem assoc_14 (d b q:Nat) (t:RT PT) (k v:VT) (ku vu:Value) (w:World) (hm:MC w q t b) (hk:Lies d w k.items ku) (ht:k.text.size≤9223372036854775807) (hv:Lies d w v.items vu) (htv:v.text.size≤9223372036854775807) :
 Calls Tryz.prog 83 #[.pointer (some ⟨b,0,none⟩),.agg #[.int .i64 k.kind,.int .i64 k.num,.string k.text,ku],.agg #[.int .i64 v.kind,.int .i64 v.num,.string v.text,vu]] w (OrPost q (RT.with_ (atK q k) (k,v) t).items (assocE d q k v t) w):=by
 obtain⟨ak,ck,rfl,_⟩:=Lies.slice hk
 obtain⟨av,cv,rfl,_⟩:=Lies.slice hv
 have hb0:∀A B,Below w.heap.size w ((w.alloc A).alloc B):=fun A B=>(((Grew.refl w).alloc A).alloc B).below
 cases hr:zab d k with
 | false=>
  have HF:Hid (∀A B,Calls Tryz.prog 129 #[.pointer (some ⟨b,0,none⟩),.agg #[.int .i64 k.kind,.int .i64 k.num,.string k.text,.slice ak k.items.length ck]] ((w.alloc A).alloc B) fun e w'=>e=.returned (.tuple #[.pointer none,.int .i64 3])∧Below ((w.alloc A).alloc B).heap.size ((w.alloc A).alloc B) w'):=fun A B=>mfind_wrong d b k _ _ (Lies.keeps (hb0 A B) _ _ _ hk) ht hr
  have he:assocE d q k v t=3:=by unfold assocE;rw [if_pos hr]
  rw [he]
  have HP:Hid (∀w',Below w.heap.size w w'→OrPost q (RT.with_ (atK q k) (k,v) t).items 3 w (.returned (.tuple #[.pointer none,.int .i64 3])) w'):=fun w' h=>⟨h,.inl ⟨by decide,rfl⟩⟩
  have HB:Hid _:=hb0
  clear hk ht hm hb0 hv htv he
  go_enter Tryz.func83,Tryz.ntmps83
  go_wp2_with fail
  refine (own_14 _ _).mono ?_
  rintro e w1 ⟨rfl,rfl⟩
  go_wp2_with fail
  refine (HF.out _ _).mono ?_
  rintro e w2 ⟨rfl,hg⟩
  have HE:Hid (OrPost q (RT.with_ (atK q k) (k,v) t).items 3 w (.returned (.tuple #[.pointer none,.int .i64 3])) w2):=HP.out w2 ((HB.out _ _).trans (hg.mono (HB.out _ _).size))
  clear hg
  go_wp2_with fail
  go_ret2
  exact HE.out
 | true=>
  obtain⟨h16,hr16⟩:=canon hk hr
  have HF:Hid (∀A B,Calls Tryz.prog 129 #[.pointer (some ⟨b,0,none⟩),.agg #[.int .i64 k.kind,.int .i64 k.num,.string k.text,.slice ak k.items.length ck]] ((w.alloc A).alloc B) (MFindPost q t k ((w.alloc A).alloc B))):=fun A B=>mfind_right d b q t k _ _ (hm.keeps (hb0 A B)) (Lies.keeps (hb0 A B) _ _ _ hk) ht hr
  have HC:Hid (∀V,Below w.heap.size w V→Calls Tryz.prog 101 #[.agg #[.int .i64 v.kind,.int .i64 v.num,.string v.text,.slice av v.items.length cv]] V fun e w'=>e=.returned (.int .i64 (errOf (zab d v)))∧Below V.heap.size V w'):=fun V hV=>za0 d v _ V (Lies.keeps hV _ _ _ hv) htv
  have HM:Hid (MC w q t b):=hm
  have HL:Hid (∀V,Below w.heap.size w V→Calls Tryz.prog 53 #[.pointer (some ⟨b,0,none⟩)] V fun e w'=>e=.returned (.int .i64 (t.size:Nat))∧Below V.heap.size V w'):=fun V hV=>mlen_14 (hm.keeps hV)
  obtain⟨po,hpo,hn⟩:=hm.top
  have Hpo:Hid (w.cell? ⟨b,1,none⟩=some (.pointer po)):=hpo
  have HA:Hid (∀V,Below w.heap.size w V→Calls Tryz.prog 135 #[.pointer (some ⟨b,0,none⟩),.agg #[.int .i64 k.kind,.int .i64 k.num,.string k.text,.slice ak k.items.length ck]] V (AtPost q k V)):=fun V hV=>at_14 q b hm.q6 k _ V (zaa hV hm.ord) (Lies.keeps hV _ _ _ h16) ht hr16
  have HW:Hid (∀V q1 q2 k9 v9,Below w.heap.size w V→AtC TT 16 203 q1 q2 (atK q k) (fun x=>zab 16 x.1=true) V→LiesX TT 16 V k.items k9→LiesX TT 16 V v.items v9→Calls Tryz.prog 138 #[.pointer po,.agg #[.int .i64 k.kind,.int .i64 k.num,.string k.text,k9,.int .i64 v.kind,.int .i64 v.num,.string v.text,v9],.func (.func 203) #[] #[.pointer q1,.pointer q2]] V (zac TT 16 (RT.with_ (atK q k) (k,v) t) V)):=fun V q1 q2 k9 v9 hV ha h1 h2=>with_14 TT 16 203 q1 q2 po (atK q k) _ eg_at1 t (k,v) k9 v9 V ha (hn.keeps hV) hm.well (fun x hx=>(hm.right x hx).1.1) (by have:=hm.size;omega) ⟨h1,ht⟩ ⟨h2,htv⟩
  have hk16:Good 16 k:=⟨hr16,Dp.of_lies 16 w k _ h16⟩
  have HO:Hid (zab d v=true→(RT.with_ (atK q k) (k,v) t).size≤65536→∀V p,Below w.heap.size w V→NM TT 16 V (RT.with_ (atK q k) (k,v) t) p→Calls Tryz.prog 133 #[.pointer (some ⟨b,0,none⟩),.pointer p] V (MapPost14 q (RT.with_ (atK q k) (k,v) t).items V)):=fun hrv hsz V p hV hp=>by
   obtain⟨hv16,hrv16⟩:=canon hv hrv
   exact of_14 b q _ p V (zaa hV hm.ord) hp (RT.with_well _ _ hm.well) hm.q6 (fun x hx=>by
    rcases (RT.mem_with (za5 q) hm.rises (k,v) x).1 hx with rfl|⟨hx,_⟩
    ·exact⟨hk16,⟨hrv16,Dp.of_lies 16 w v _ hv16⟩⟩
    ·exact hm.right x hx) (RT.with_rises (za5 q) hm.rises (k,v)) hsz
  have HCp:Hid (zab d v=true→∀V,Below w.heap.size w V→Calls Tryz.prog 137 #[.agg #[.int .i64 k.kind,.int .i64 k.num,.string k.text,.slice ak k.items.length ck,.int .i64 v.kind,.int .i64 v.num,.string v.text,.slice av v.items.length cv]] V (zba (k,v) V)):=fun hrv V hV=>by
   obtain⟨hv16,hrv16⟩:=canon hv hrv
   exact copied_14 (k,v) _ _ V (Lies.keeps hV _ _ _ h16) (Lies.keeps hV _ _ _ hv16) ⟨hr16,hrv16⟩
  have hwl:=with_len (atK q k) (k,v) t (RT.Rises.falls (za5 q) hm.rises (k,v))
  have HS1:Hid (t.size<65536→(RT.with_ (atK q k) (k,v) t).size≤65536):=fun h=>by have:=hwl.1;omega
  have HS2:Hid (∀x,RT.find (atK q k) t=some x→(RT.with_ (atK q k) (k,v) t).size≤65536):=fun x h=>by
   have h9:=find_some (v:=v) hm.rises h
   have h8:=hwl.2 ⟨x,h9.1,h9.2⟩
   have:=hm.size
   omega
  have HQ:Hid (∀x xv V,Below w.heap.size w V→RT.find (atK q k) t=some x→zab d v=true→LiesX TT 16 V x.2.items xv→Calls Tryz.prog 124 #[.agg #[.int .i64 x.2.kind,.int .i64 x.2.num,.string x.2.text,xv],.agg #[.int .i64 v.kind,.int .i64 v.num,.string v.text,.slice av v.items.length cv]] V fun e w'=>e=.returned (.bool (cmpV 16 x.2 v==0))∧Grew V w'):=fun x xv V hV hx hrv hl=>by
   obtain⟨hv16,hrv16⟩:=canon hv hrv
   exact equal_any 16 x.2 v xv _ V hl.lies (Lies.keeps hV _ _ _ hv16)
  have HEq:Hid (∀x,RT.find (atK q k) t=some x→zab d v=true→(cmpV 16 x.2 v==0)=true→(RT.with_ (atK q k) (k,v) t).items=t.items):=fun x hx hrv hc=>by
   obtain⟨hv16,hrv16⟩:=canon hv hrv
   obtain⟨h1,h2⟩:=find_some (v:=v) hm.rises hx
   have e1:k=x.1:=ordV_eq q hk16 (hm.right x h1).1 h2
   have e2:x.2=v:=good_eq (hm.right x h1).2 ⟨hrv16,Dp.of_lies 16 w v _ hv16⟩ (by simpa using hc)
   have e3:(k,v)=x:=by rw [e1,←e2]
   have h9:=with_same hm.rises h1
   rw [←e3] at h9
   exact h9
  have hszb:=hm.size
  have HE0:Hid (assocE d q k v t=if zab d v=false then 3 else if RT.find (atK q k) t=none∧t.size=65536 then 2 else 0):=by show _=_;unfold assocE;rw [if_neg (by rw [hr];simp)]
  have HB:Hid _:=hb0
  clear hk ht hr hb0 hn h16 hr16 hm hv htv hk16 hwl
  generalize assocE d q k v t=EE at *
  go_enter Tryz.func83,Tryz.ntmps83
  go_wp2_with fail
  obtain⟨W0,hW0⟩:∃W0,W0=(w.alloc (.cells #[.int .i64 k.kind,.int .i64 k.num,.string k.text,.slice ak k.items.length ck] 33)).alloc (.cells #[.int .i64 v.kind,.int .i64 v.num,.string v.text,.slice av v.items.length cv] 33):=⟨_,rfl⟩
  have HCk:Hid _:=HF.out (.cells #[.int .i64 k.kind,.int .i64 k.num,.string k.text,.slice ak k.items.length ck] 33) (.cells #[.int .i64 v.kind,.int .i64 v.num,.string v.text,.slice av v.items.length cv] 33)
  rw [←hW0] at HCk ⊢
  have hb0:Below w.heap.size w W0:=by rw [hW0];exact HB.out _ _
  have HK0:Hid (Bx W0 w.heap.size k (.slice ak k.items.length ck)):=by rw [hW0];exact (zao w k _).keeps ((Grew.refl _).alloc _).below
  have HV0:Hid (Bx W0 (w.heap.size+1) v (.slice av v.items.length cv)):=by
   rw [hW0]
   have h9:=zao (w.alloc (.cells #[.int .i64 k.kind,.int .i64 k.num,.string k.text,.slice ak k.items.length ck] 33)) v (.slice av v.items.length cv)
   rwa [World.size_alloc] at h9
  obtain⟨k0,k1,k2,k3,_⟩:=HK0.out
  obtain⟨v0,v1,v2,v3,_⟩:=HV0.out
  clear hW0 HF HK0 HV0
  refine (own_14 _ _).mono ?_
  rintro e w1 ⟨rfl,hw⟩
  obtain rfl:W0=w1:=hw.symm
  go_wp2_with fail
  refine Calls.mono HCk.out ?_
  rintro e w1 ⟨p1,rfl,hf⟩
  have HFp:Hid _:=hf.2
  have hg:=hf.1
  have hb1:Below w.heap.size w w1:=hb0.trans (hg.mono hb0.size)
  have k0:=zaa hg k0;have k1:=zaa hg k1;have k2:=zaa hg k2;have k3:=zaa hg k3;have v0:=zaa hg v0;have v1:=zaa hg v1;have v2:=zaa hg v2;have v3:=zaa hg v3
  clear hf hg HCk hb0
  go_wp2_with fail
  refine Calls.mono (HC.out _ hb1) ?_
  rintro e w2 ⟨rfl,hg⟩
  have hb2:Below w.heap.size w w2:=hb1.trans (hg.mono hb1.size)
  have k0:=zaa hg k0;have k1:=zaa hg k1;have k2:=zaa hg k2;have k3:=zaa hg k3;have v0:=zaa hg v0;have v1:=zaa hg v1;have v2:=zaa hg v2;have v3:=zaa hg v3
  have Hg2:Hid (Below w1.heap.size w1 w2):=hg
  clear hg hb1 HC
  cases hrv:zab d v with
  | false=>
   have he:errOf false=3:=rfl
   rw [he]
   have HE:Hid (OrPost q (RT.with_ (atK q k) (k,v) t).items EE w (.returned (.tuple #[.pointer none,.int .i64 3])) w2):=by
    have e9:EE=3:=by rw [HE0.out,if_pos hrv]
    rw [e9]
    exact⟨hb2,.inl ⟨by decide,rfl⟩⟩
   clear he HE0
   go_wp2_with fail
   go_ret2
   exact HE.out
  | true=>
   have he:errOf true=0:=rfl
   rw [he]
   have HCp:Hid _:=HCp.out hrv
   have HO:Hid _:=HO.out hrv
   have HEE:Hid (EE=if RT.find (atK q k) t=none∧t.size=65536 then 2 else 0):=by show _=_;rw [HE0.out,if_neg (by rw [hrv];simp)]
   clear he HE0
   rcases HFp.out with ⟨hnone,he⟩|⟨x,xb,xl,xr,xk,xv,xc,xs,xh,xn,hsome,he,hcl,hlx⟩
   ·obtain rfl:p1=none:=by injection he with he;injection he
    have Hnone:Hid (RT.find (atK q k) t=none):=hnone
    clear HFp he hnone HQ HEq HS2
    have HL2:Hid _:=HL.out _ hb2
    obtain⟨SZ,hSZ⟩:∃SZ,SZ=t.size:=⟨_,rfl⟩
    have HSZ:Hid (SZ=t.size):=hSZ
    rw [←hSZ] at HL2 hszb
    clear hSZ
    go_wp2_with fail
    refine Calls.mono HL2.out ?_
    rintro e w4 ⟨rfl,hg⟩
    have hb4:Below w.heap.size w w4:=hb2.trans (hg.mono hb2.size)
    have k0:=zaa hg k0;have k1:=zaa hg k1;have k2:=zaa hg k2;have k3:=zaa hg k3;have v0:=zaa hg v0;have v1:=zaa hg v1;have v2:=zaa hg v2;have v3:=zaa hg v3
    clear hg HL HL2
    by_cases hfull:SZ=65536
    ·have HE:Hid (OrPost q (RT.with_ (atK q k) (k,v) t).items EE w (.returned (.tuple #[.pointer none,.int .i64 2])) w4):=by
      have e9:EE=2:=by rw [HEE.out,if_pos ⟨Hnone.out,by rw [←HSZ.out];exact hfull⟩]
      rw [e9]
      exact⟨hb4,.inl ⟨by decide,rfl⟩⟩
     have hf1:(SZ:Int)=65536:=by omega
     clear hfull
     go_wp2_with fail
     go_ret2
     exact HE.out
    ·have e9:EE=0:=by rw [HEE.out,if_neg (fun h=>hfull (by rw [HSZ.out];exact h.2))]
     subst e9
     have hsz:(RT.with_ (atK q k) (k,v) t).size≤65536:=HS1.out (by have:=HSZ.out;omega)
     have hf1 : ¬(SZ:Int)=65536:=by omega
     have Hsz:Hid (SZ≠65536):=hfull
     clear HEE hfull
     go_wp2_with fail
     go_quiet (fail)
     obtain⟨w6,hw6⟩:∃w6,w6=w4.drewN nq:=⟨_,rfl⟩
     have hb4:Below w.heap.size w w6:=by rw [hw6];exact hb4.trans ((below_drewN _ _).mono hb4.size)
     have k0:w6.cell? ⟨w.heap.size,0,none⟩=some (.int .i64 k.kind):=by rw [hw6];exact k0
     have k1:w6.cell? ⟨w.heap.size,1,none⟩=some (.int .i64 k.num):=by rw [hw6];exact k1
     have k2:w6.cell? ⟨w.heap.size,2,none⟩=some (.string k.text):=by rw [hw6];exact k2
     have k3:w6.cell? ⟨w.heap.size,3,none⟩=some (.slice ak k.items.length ck):=by rw [hw6];exact k3
     have v0:w6.cell? ⟨w.heap.size+1,0,none⟩=some (.int .i64 v.kind):=by rw [hw6];exact v0
     have v1:w6.cell? ⟨w.heap.size+1,1,none⟩=some (.int .i64 v.num):=by rw [hw6];exact v1
     have v2:w6.cell? ⟨w.heap.size+1,2,none⟩=some (.string v.text):=by rw [hw6];exact v2
     have v3:w6.cell? ⟨w.heap.size+1,3,none⟩=some (.slice av v.items.length cv):=by rw [hw6];exact v3
     rw [←hw6]
     clear hw6
     go_wp2_with fail
     refine Calls.mono (HCp.out _ hb4) ?_
     rintro e w5 ⟨k5,v5,rfl,hl5,hl6,hg5⟩
     obtain⟨a5,c5,rfl,_⟩:=LiesB.slice hl5
     obtain⟨a6,c6,rfl,_⟩:=LiesB.slice hl6
     have hb5:Below w.heap.size w w5:=hb4.trans (hg5.mono hb4.size)
     have k0:=zaa hg5 k0;have k1:=zaa hg5 k1;have k2:=zaa hg5 k2;have k3:=zaa hg5 k3
     obtain⟨W5,hW5⟩:∃W5,W5=w5.alloc (.cells #[.int .i64 k.kind,.int .i64 k.num,.string k.text,.slice a5 k.items.length c5,.int .i64 v.kind,.int .i64 v.num,.string v.text,.slice a6 v.items.length c6] 108):=⟨_,rfl⟩
     have hbA:Below w5.heap.size w5 W5:=by rw [hW5];exact ((Grew.refl w5).alloc _).below
     have hb6:Below w.heap.size w W5:=hb5.trans (hbA.mono hb5.size)
     have HK5:Hid (LiesX TT 16 W5 k.items (.slice a5 k.items.length c5)):=(LiesX.of_b (LiesB.keepsB hbA hl5)).mono (fun _ _=>trivial)
     have HV5:Hid (LiesX TT 16 W5 v.items (.slice a6 v.items.length c6)):=(LiesX.of_b (LiesB.keepsB hbA hl6)).mono (fun _ _=>trivial)
     have k0:=zaa hbA k0;have k1:=zaa hbA k1;have k2:=zaa hbA k2;have k3:=zaa hbA k3
     have hpo:=zaa hb6 Hpo.out
     clear hl5 hl6 hg5 v0 v1 v2 v3
     go_wp2_with fail
     rw [←hW5]
     have z0:W5.cell? ⟨w5.heap.size,0,none⟩=some (.int .i64 k.kind):=by rw [hW5];simp
     have z1:W5.cell? ⟨w5.heap.size,1,none⟩=some (.int .i64 k.num):=by rw [hW5];simp
     have z2:W5.cell? ⟨w5.heap.size,2,none⟩=some (.string k.text):=by rw [hW5];simp
     have z3:W5.cell? ⟨w5.heap.size,3,none⟩=some (.slice a5 k.items.length c5):=by rw [hW5];simp
     have z4:W5.cell? ⟨w5.heap.size,4,none⟩=some (.int .i64 v.kind):=by rw [hW5];simp
     have z5:W5.cell? ⟨w5.heap.size,5,none⟩=some (.int .i64 v.num):=by rw [hW5];simp
     have z6:W5.cell? ⟨w5.heap.size,6,none⟩=some (.string v.text):=by rw [hW5];simp
     have z7:W5.cell? ⟨w5.heap.size,7,none⟩=some (.slice a6 v.items.length c6):=by rw [hW5];simp
     clear hW5 hbA hb5
     generalize w5.heap.size=P at *
     go_region_held3 (fun w'=>w'.cell? ⟨b,1,none⟩=some (.pointer po)∧w'.cell? ⟨w.heap.size,0,none⟩=some (.int .i64 k.kind)∧w'.cell? ⟨w.heap.size,1,none⟩=some (.int .i64 k.num)∧w'.cell? ⟨w.heap.size,2,none⟩=some (.string k.text)∧w'.cell? ⟨w.heap.size,3,none⟩=some (.slice ak k.items.length ck)∧w'.cell? ⟨P,0,none⟩=some (.int .i64 k.kind)∧w'.cell? ⟨P,1,none⟩=some (.int .i64 k.num)∧w'.cell? ⟨P,2,none⟩=some (.string k.text)∧w'.cell? ⟨P,3,none⟩=some (.slice a5 k.items.length c5)∧w'.cell? ⟨P,4,none⟩=some (.int .i64 v.kind)∧w'.cell? ⟨P,5,none⟩=some (.int .i64 v.num)∧w'.cell? ⟨P,6,none⟩=some (.string v.text)∧w'.cell? ⟨P,7,none⟩=some (.slice a6 v.items.length c6)) (go_keep)
      (first
       | (go_at_call 135;(with_reducible refine Calls.mono (HA.out _ hb6.drew) ?_);rintro e w7 ⟨hg,q1,q2,rfl,ha⟩;have HAC:Hid (AtC TT 16 203 q1 q2 (atK q k) (fun x=>zab 16 x.1=true) w7):=ha TT;have hb7:Below w.heap.size w w7:=hb6.drew.trans (hg.mono hb6.drew.size);have hg7:Below W5.heap.size W5 w7:=(Below.refl _ _).drew.trans hg;have k0:=zaa hg7 k0;have k1:=zaa hg7 k1;have k2:=zaa hg7 k2;have k3:=zaa hg7 k3;have z0:=zaa hg7 z0;have z1:=zaa hg7 z1;have z2:=zaa hg7 z2;have z3:=zaa hg7 z3;have z4:=zaa hg7 z4;have z5:=zaa hg7 z5;have z6:=zaa hg7 z6;have z7:=zaa hg7 z7;have hpo:=zaa hg7 hpo;clear hg ha)
       | (go_at_call 138;(with_reducible refine Calls.mono (HW.out _ _ _ _ _ hb7 HAC.out (HK5.out.keeps hg7) (HV5.out.keeps hg7)) ?_);rintro e w8 ⟨hg8,p8,rfl,ht8⟩;have hb8:Below w.heap.size w w8:=hb7.trans (hg8.mono hb7.size);have HT8:Hid (NM TT 16 w8 (RT.with_ (atK q k) (k,v) t) p8):=ht8;have k0:=zaa hg8 k0;have k1:=zaa hg8 k1;have k2:=zaa hg8 k2;have k3:=zaa hg8 k3;have z0:=zaa hg8 z0;have z1:=zaa hg8 z1;have z2:=zaa hg8 z2;have z3:=zaa hg8 z3;have z4:=zaa hg8 z4;have z5:=zaa hg8 z5;have z6:=zaa hg8 z6;have z7:=zaa hg8 z7;have hpo:=zaa hg8 hpo;clear ht8)
       | (go_at_call 133;(with_reducible refine Calls.mono (HO.out hsz _ _ hb8 HT8.out) ?_);rintro e w9 ⟨hg9,t9,b9,rfl,hm9,hi9⟩;have HE:Hid (OrPost q (RT.with_ (atK q k) (k,v) t).items 0 w (.returned (.tuple #[.pointer (some ⟨b9,0,none⟩),.int .i64 0])) w9):=⟨hb8.trans (hg9.mono hb8.size),.inr ⟨rfl,t9,b9,rfl,hm9,hi9⟩⟩;have k0:=zaa hg9 k0;have k1:=zaa hg9 k1;have k2:=zaa hg9 k2;have k3:=zaa hg9 k3;have z0:=zaa hg9 z0;have z1:=zaa hg9 z1;have z2:=zaa hg9 z2;have z3:=zaa hg9 z3;have z4:=zaa hg9 z4;have z5:=zaa hg9 z5;have z6:=zaa hg9 z6;have z7:=zaa hg9 z7;have hpo:=zaa hg9 hpo;clear hm9 hi9))
     all_goals (first|(go_ret2;exact HE.out)|(go_wp2_with fail;go_ret2;exact HE.out))
   ·obtain rfl:p1=some ⟨xb,0,none⟩:=by injection he with he;injection he
    have e9:EE=0:=by rw [HEE.out,if_neg (fun h=>by rw [hsome] at h;cases h.1)]
    subst e9
    have hsz:(RT.with_ (atK q k) (k,v) t).size≤65536:=HS2.out x hsome
    obtain⟨ax,cx,rfl,_⟩:=hlx.2.1.slice
    have HQ2:Hid (∀V,Below w2.heap.size w2 V→Calls Tryz.prog 124 #[.agg #[.int .i64 x.2.kind,.int .i64 x.2.num,.string x.2.text,.slice ax x.2.items.length cx],.agg #[.int .i64 v.kind,.int .i64 v.num,.string v.text,.slice av v.items.length cv]] V fun e w'=>e=.returned (.bool (cmpV 16 x.2 v==0))∧Grew V w'):=fun V hV=>HQ.out x _ V (hb2.trans (hV.mono hb2.size)) hsome hrv (LiesX.keeps (Hg2.out.trans (hV.mono Hg2.out.size)) hlx.2.1)
    have HEq2:Hid ((cmpV 16 x.2 v==0)=true→(RT.with_ (atK q k) (k,v) t).items=t.items):=fun h=>HEq.out x hsome hrv h
    have hcl2:=hcl.keeps Hg2.out
    obtain⟨_,_,_,_,_,_,x6,x7,x8,x9,_,_,_,_⟩:=hcl2
    obtain⟨BQ,hBQ⟩:∃BQ,BQ=(cmpV 16 x.2 v==0):=⟨_,rfl⟩
    rw [←hBQ] at HQ2 HEq2
    clear HFp he hsome hcl hlx HQ HEq HEE HS1 HS2 HL hBQ
    go_wp2_with fail
    go_region_held3 (fun w'=>w'.cell? ⟨xb,6,none⟩=some (.int .i64 x.2.kind)∧w'.cell? ⟨xb,7,none⟩=some (.int .i64 x.2.num)∧w'.cell? ⟨xb,8,none⟩=some (.string x.2.text)∧w'.cell? ⟨xb,9,none⟩=some (.slice ax x.2.items.length cx)∧w'.cell? ⟨w.heap.size,0,none⟩=some (.int .i64 k.kind)∧w'.cell? ⟨w.heap.size,1,none⟩=some (.int .i64 k.num)∧w'.cell? ⟨w.heap.size,2,none⟩=some (.string k.text)∧w'.cell? ⟨w.heap.size,3,none⟩=some (.slice ak k.items.length ck)∧w'.cell? ⟨w.heap.size+1,0,none⟩=some (.int .i64 v.kind)∧w'.cell? ⟨w.heap.size+1,1,none⟩=some (.int .i64 v.num)∧w'.cell? ⟨w.heap.size+1,2,none⟩=some (.string v.text)∧w'.cell? ⟨w.heap.size+1,3,none⟩=some (.slice av v.items.length cv)) (go_keep)
     (first|(go_at_call 124;(with_reducible refine Calls.mono (HQ2.out _ (Below.refl _ _).drew) ?_);rintro e w6 ⟨rfl,hgq⟩;have hg6:Below w2.heap.size w2 w6:=(Below.refl _ _).drew.trans hgq.below;have hb4:Below w.heap.size w w6:=hb2.trans (hg6.mono hb2.size);have x6:=zaa hg6 x6;have x7:=zaa hg6 x7;have x8:=zaa hg6 x8;have x9:=zaa hg6 x9;have k0:=zaa hg6 k0;have k1:=zaa hg6 k1;have k2:=zaa hg6 k2;have k3:=zaa hg6 k3;have v0:=zaa hg6 v0;have v1:=zaa hg6 v1;have v2:=zaa hg6 v2;have v3:=zaa hg6 v3;clear hgq hg6))
    clear x6 x7 x8 x9 HQ2
    cases BQ with
    | true=>
     have HE:Hid (OrPost q (RT.with_ (atK q k) (k,v) t).items 0 w (.returned (.tuple #[.pointer (some ⟨b,0,none⟩),.int .i64 0])) w6):=⟨hb4,.inr ⟨rfl,t,b,rfl,HM.out.keeps hb4,(HEq2.out rfl).symm⟩⟩
     go_wp2_with fail
     go_ret2
     exact HE.out
    | false=>
     go_wp2_with fail
     refine Calls.mono (HCp.out _ hb4) ?_
     rintro e w5 ⟨k5,v5,rfl,hl5,hl6,hg5⟩
     obtain⟨a5,c5,rfl,_⟩:=LiesB.slice hl5
     obtain⟨a6,c6,rfl,_⟩:=LiesB.slice hl6
     have hb5:Below w.heap.size w w5:=hb4.trans (hg5.mono hb4.size)
     have k0:=zaa hg5 k0;have k1:=zaa hg5 k1;have k2:=zaa hg5 k2;have k3:=zaa hg5 k3
     obtain⟨W5,hW5⟩:∃W5,W5=w5.alloc (.cells #[.int .i64 k.kind,.int .i64 k.num,.string k.text,.slice a5 k.items.length c5,.int .i64 v.kind,.int .i64 v.num,.string v.text,.slice a6 v.items.length c6] 108):=⟨_,rfl⟩
     have hbA:Below w5.heap.size w5 W5:=by rw [hW5];exact ((Grew.refl w5).alloc _).below
     have hb6:Below w.heap.size w W5:=hb5.trans (hbA.mono hb5.size)
     have HK5:Hid (LiesX TT 16 W5 k.items (.slice a5 k.items.length c5)):=(LiesX.of_b (LiesB.keepsB hbA hl5)).mono (fun _ _=>trivial)
     have HV5:Hid (LiesX TT 16 W5 v.items (.slice a6 v.items.length c6)):=(LiesX.of_b (LiesB.keepsB hbA hl6)).mono (fun _ _=>trivial)
     have k0:=zaa hbA k0;have k1:=zaa hbA k1;have k2:=zaa hbA k2;have k3:=zaa hbA k3
     have hpo:=zaa hb6 Hpo.out
     clear hl5 hl6 hg5 v0 v1 v2 v3
     go_wp2_with fail
     rw [←hW5]
     have z0:W5.cell? ⟨w5.heap.size,0,none⟩=some (.int .i64 k.kind):=by rw [hW5];simp
     have z1:W5.cell? ⟨w5.heap.size,1,none⟩=some (.int .i64 k.num):=by rw [hW5];simp
     have z2:W5.cell? ⟨w5.heap.size,2,none⟩=some (.string k.text):=by rw [hW5];simp
     have z3:W5.cell? ⟨w5.heap.size,3,none⟩=some (.slice a5 k.items.length c5):=by rw [hW5];simp
     have z4:W5.cell? ⟨w5.heap.size,4,none⟩=some (.int .i64 v.kind):=by rw [hW5];simp
     have z5:W5.cell? ⟨w5.heap.size,5,none⟩=some (.int .i64 v.num):=by rw [hW5];simp
     have z6:W5.cell? ⟨w5.heap.size,6,none⟩=some (.string v.text):=by rw [hW5];simp
     have z7:W5.cell? ⟨w5.heap.size,7,none⟩=some (.slice a6 v.items.length c6):=by rw [hW5];simp
     clear hW5 hbA hb5
     generalize w5.heap.size=P at *
     go_region_held3 (fun w'=>w'.cell? ⟨b,1,none⟩=some (.pointer po)∧w'.cell? ⟨w.heap.size,0,none⟩=some (.int .i64 k.kind)∧w'.cell? ⟨w.heap.size,1,none⟩=some (.int .i64 k.num)∧w'.cell? ⟨w.heap.size,2,none⟩=some (.string k.text)∧w'.cell? ⟨w.heap.size,3,none⟩=some (.slice ak k.items.length ck)∧w'.cell? ⟨P,0,none⟩=some (.int .i64 k.kind)∧w'.cell? ⟨P,1,none⟩=some (.int .i64 k.num)∧w'.cell? ⟨P,2,none⟩=some (.string k.text)∧w'.cell? ⟨P,3,none⟩=some (.slice a5 k.items.length c5)∧w'.cell? ⟨P,4,none⟩=some (.int .i64 v.kind)∧w'.cell? ⟨P,5,none⟩=some (.int .i64 v.num)∧w'.cell? ⟨P,6,none⟩=some (.string v.text)∧w'.cell? ⟨P,7,none⟩=some (.slice a6 v.items.length c6)) (go_keep)
      (first
       | (go_at_call 135;(with_reducible refine Calls.mono (HA.out _ hb6.drew) ?_);rintro e w7 ⟨hg,q1,q2,rfl,ha⟩;have HAC:Hid (AtC TT 16 203 q1 q2 (atK q k) (fun x=>zab 16 x.1=true) w7):=ha TT;have hb7:Below w.heap.size w w7:=hb6.drew.trans (hg.mono hb6.drew.size);have hg7:Below W5.heap.size W5 w7:=(Below.refl _ _).drew.trans hg;have k0:=zaa hg7 k0;have k1:=zaa hg7 k1;have k2:=zaa hg7 k2;have k3:=zaa hg7 k3;have z0:=zaa hg7 z0;have z1:=zaa hg7 z1;have z2:=zaa hg7 z2;have z3:=zaa hg7 z3;have z4:=zaa hg7 z4;have z5:=zaa hg7 z5;have z6:=zaa hg7 z6;have z7:=zaa hg7 z7;have hpo:=zaa hg7 hpo;clear hg ha)
       | (go_at_call 138;(with_reducible refine Calls.mono (HW.out _ _ _ _ _ hb7 HAC.out (HK5.out.keeps hg7) (HV5.out.keeps hg7)) ?_);rintro e w8 ⟨hg8,p8,rfl,ht8⟩;have hb8:Below w.heap.size w w8:=hb7.trans (hg8.mono hb7.size);have HT8:Hid (NM TT 16 w8 (RT.with_ (atK q k) (k,v) t) p8):=ht8;have k0:=zaa hg8 k0;have k1:=zaa hg8 k1;have k2:=zaa hg8 k2;have k3:=zaa hg8 k3;have z0:=zaa hg8 z0;have z1:=zaa hg8 z1;have z2:=zaa hg8 z2;have z3:=zaa hg8 z3;have z4:=zaa hg8 z4;have z5:=zaa hg8 z5;have z6:=zaa hg8 z6;have z7:=zaa hg8 z7;have hpo:=zaa hg8 hpo;clear ht8)
       | (go_at_call 133;(with_reducible refine Calls.mono (HO.out hsz _ _ hb8 HT8.out) ?_);rintro e w9 ⟨hg9,t9,b9,rfl,hm9,hi9⟩;have HE:Hid (OrPost q (RT.with_ (atK q k) (k,v) t).items 0 w (.returned (.tuple #[.pointer (some ⟨b9,0,none⟩),.int .i64 0])) w9):=⟨hb8.trans (hg9.mono hb8.size),.inr ⟨rfl,t9,b9,rfl,hm9,hi9⟩⟩;have k0:=zaa hg9 k0;have k1:=zaa hg9 k1;have k2:=zaa hg9 k2;have k3:=zaa hg9 k3;have z0:=zaa hg9 z0;have z1:=zaa hg9 z1;have z2:=zaa hg9 z2;have z3:=zaa hg9 z3;have z4:=zaa hg9 z4;have z5:=zaa hg9 z5;have z6:=zaa hg9 z6;have z7:=zaa hg9 z7;have hpo:=zaa hg9 hpo;clear hm9 hi9))
     all_goals (first|(go_ret2;exact HE.out)|(go_wp2_with fail;go_ret2;exact HE.out))
end Go.Proofs.YtlnecfjnffdciabGreat

namespace Go.Proofs.YtlnecfjnffdciabGreat
open Go.RowKit Go.Shelf
def GetPost14 (o:Option PT) (E:Int) (w:World) (e:Ending) (w':World):Prop:=Below w.heap.size w w'∧((o=none∧e=.returned (.tuple #[.agg #[.int .i64 0,.int .i64 0,.string ⟨#[]⟩,.slice none 0 0],.bool false,.int .i64 E]))∨∃x u,o=some x∧e=.returned (.tuple #[.agg #[.int .i64 x.2.kind,.int .i64 x.2.num,.string x.2.text,u],.bool true,.int .i64 0])∧LiesB w.heap.size 16 w' x.2.items u)
set_option maxRecDepth 100000 in
set_option maxHeartbeats 8000000 in
theorem get_wrong (d b:Nat) (k:VT) (ku:Value) (w:World) (hk:Lies d w k.items ku) (ht:k.text.size≤9223372036854775807) (hr:zab d k=false):Calls Tryz.prog 78 #[.pointer (some ⟨b,0,none⟩),.agg #[.int .i64 k.kind,.int .i64 k.num,.string k.text,ku]] w (GetPost14 none 3 w):=by
 obtain⟨ak,ck,rfl,_⟩:=Lies.slice hk
 have HB:Hid (∀A B,Below w.heap.size w ((w.alloc A).alloc B)):=fun A B=>(((Grew.refl w).alloc A).alloc B).below
 have HF:Hid (∀V,Below w.heap.size w V→Calls Tryz.prog 129 #[.pointer (some ⟨b,0,none⟩),.agg #[.int .i64 k.kind,.int .i64 k.num,.string k.text,.slice ak k.items.length ck]] V fun e w'=>e=.returned (.tuple #[.pointer none,.int .i64 3])∧Below V.heap.size V w'):=fun V hV=>mfind_wrong d b k _ V (Lies.keeps hV _ _ _ hk) ht hr
 clear hk ht hr
 go_enter Tryz.func78,Tryz.ntmps78
 go_wp2_with fail
 obtain⟨W0,hW0⟩:∃W0,W0=(w.alloc (.cells #[.int .i64 k.kind,.int .i64 k.num,.string k.text,.slice ak k.items.length ck] 33)).alloc (.cells #[.int .i64 0,.int .i64 0,.string ⟨#[]⟩,.slice none 0 0] 33):=⟨_,rfl⟩
 rw [←hW0]
 have hb0:Below w.heap.size w W0:=by rw [hW0];exact HB.out _ _
 have HK0:Hid (Bx W0 w.heap.size k (.slice ak k.items.length ck)):=by rw [hW0];exact (zao w k _).keeps ((Grew.refl _).alloc _).below
 have HV0:Hid (Bx W0 (w.heap.size+1) zeroT (.slice none 0 0)):=by
  rw [hW0]
  have h9:=zao (w.alloc (.cells #[.int .i64 k.kind,.int .i64 k.num,.string k.text,.slice ak k.items.length ck] 33)) zeroT (.slice none 0 0)
  rwa [World.size_alloc] at h9
 have hs0:w.heap.size+1<W0.heap.size:=by rw [hW0];simp
 have Hs0:Hid (w.heap.size+1<W0.heap.size):=hs0
 obtain⟨k0,k1,k2,k3,_⟩:=HK0.out
 clear hW0 HK0 hs0
 go_region_held3 (fun w'=>w'.cell? ⟨w.heap.size,0,none⟩=some (.int .i64 k.kind)∧w'.cell? ⟨w.heap.size,1,none⟩=some (.int .i64 k.num)∧w'.cell? ⟨w.heap.size,2,none⟩=some (.string k.text)∧w'.cell? ⟨w.heap.size,3,none⟩=some (.slice ak k.items.length ck)) (go_keep)
  (first
   | (go_at_call 112;refine (own_14 _ _).mono ?_;rintro e w3 ⟨rfl,hw⟩;subst hw)
   | (go_at_call 129;(with_reducible refine Calls.mono (HF.out _ hb0.drew) ?_);rintro e w1 ⟨rfl,hg'⟩;have hg:Below W0.heap.size W0 w1:=(Below.refl _ _).drew.trans hg';have k0:=zaa hg k0;have k1:=zaa hg k1;have k2:=zaa hg k2;have k3:=zaa hg k3;clear hg'))
 have HV1:Hid (Bx w1 (w.heap.size+1) zeroT (.slice none 0 0)):=HV0.out.keeps hg
 obtain⟨y0,y1,y2,y3,f0,f1,f2,f3⟩:=HV1.out
 have hb1:Below w.heap.size w w1:=hb0.trans (hg.mono hb0.size)
 have HE:Hid (GetPost14 none 3 w (.returned (.tuple #[.agg #[.int .i64 0,.int .i64 0,.string ⟨#[]⟩,.slice none 0 0],.bool false,.int .i64 3])) (w1.setCells (w.heap.size+1) 0 (encP (zeroT,.slice none 0 0)))):=⟨below_put hb1 (by omega) _,.inl ⟨rfl,rfl⟩⟩
 have Hbx:Hid _:=HV1.out.put (zeroT,.slice none 0 0)
 clear hg k0 k1 k2 k3
 go_wp2_with fail
 refine bodyPost_ret (v:=.tuple #[.agg #[.int .i64 0,.int .i64 0,.string ⟨#[]⟩,.slice none 0 0],.bool false,.int .i64 3]) ?_ rfl HE.out
 obtain⟨q0,q1,q2,q3,_,_,_,_⟩:=Hbx.out
 simp only [encP,World.setCells,Nat.zero_add,Nat.reduceAdd] at q0 q1 q2 q3
 simp [results,Tryz.results78,go_sem,q0,q1,q2,q3]
set_option maxRecDepth 100000 in
set_option maxHeartbeats 8000000 in
theorem get_right (d b q:Nat) (t:RT PT) (k:VT) (ku:Value) (w:World) (hm:MC w q t b) (hk:Lies d w k.items ku) (ht:k.text.size≤9223372036854775807) (hr:zab d k=true):Calls Tryz.prog 78 #[.pointer (some ⟨b,0,none⟩),.agg #[.int .i64 k.kind,.int .i64 k.num,.string k.text,ku]] w (GetPost14 (RT.find (atK q k) t) 0 w):=by
 obtain⟨ak,ck,rfl,_⟩:=Lies.slice hk
 have HB:Hid (∀A B,Below w.heap.size w ((w.alloc A).alloc B)):=fun A B=>(((Grew.refl w).alloc A).alloc B).below
 have HF:Hid (∀V,Below w.heap.size w V→Calls Tryz.prog 129 #[.pointer (some ⟨b,0,none⟩),.agg #[.int .i64 k.kind,.int .i64 k.num,.string k.text,.slice ak k.items.length ck]] V (MFindPost q t k V)):=fun V hV=>mfind_right d b q t k _ V (hm.keeps hV) (Lies.keeps hV _ _ _ hk) ht hr
 have HR:Hid (∀x,RT.find (atK q k) t=some x→zab 16 x.2=true):=fun x hx=>(hm.right x (find_some (v:=k) hm.rises hx).1).2.1
 clear hk ht hr hm
 go_enter Tryz.func78,Tryz.ntmps78
 go_wp2_with fail
 obtain⟨W0,hW0⟩:∃W0,W0=(w.alloc (.cells #[.int .i64 k.kind,.int .i64 k.num,.string k.text,.slice ak k.items.length ck] 33)).alloc (.cells #[.int .i64 0,.int .i64 0,.string ⟨#[]⟩,.slice none 0 0] 33):=⟨_,rfl⟩
 rw [←hW0]
 have hb0:Below w.heap.size w W0:=by rw [hW0];exact HB.out _ _
 have HK0:Hid (Bx W0 w.heap.size k (.slice ak k.items.length ck)):=by rw [hW0];exact (zao w k _).keeps ((Grew.refl _).alloc _).below
 have HV0:Hid (Bx W0 (w.heap.size+1) zeroT (.slice none 0 0)):=by
  rw [hW0]
  have h9:=zao (w.alloc (.cells #[.int .i64 k.kind,.int .i64 k.num,.string k.text,.slice ak k.items.length ck] 33)) zeroT (.slice none 0 0)
  rwa [World.size_alloc] at h9
 have hs0:w.heap.size+1<W0.heap.size:=by rw [hW0];simp
 have Hs0:Hid (w.heap.size+1<W0.heap.size):=hs0
 obtain⟨k0,k1,k2,k3,_⟩:=HK0.out
 clear hW0 HK0 hs0
 go_region_held3 (fun w'=>w'.cell? ⟨w.heap.size,0,none⟩=some (.int .i64 k.kind)∧w'.cell? ⟨w.heap.size,1,none⟩=some (.int .i64 k.num)∧w'.cell? ⟨w.heap.size,2,none⟩=some (.string k.text)∧w'.cell? ⟨w.heap.size,3,none⟩=some (.slice ak k.items.length ck)) (go_keep)
  (first
   | (go_at_call 112;refine (own_14 _ _).mono ?_;rintro e w3 ⟨rfl,hw⟩;subst hw)
   | (go_at_call 129;(with_reducible refine Calls.mono (HF.out _ hb0.drew) ?_);rintro e w1 ⟨p1,rfl,hf⟩;have hg:Below W0.heap.size W0 w1:=(Below.refl _ _).drew.trans hf.1;have HFp:Hid _:=hf.2;have k0:=zaa hg k0;have k1:=zaa hg k1;have k2:=zaa hg k2;have k3:=zaa hg k3;clear hf))
 have HV1:Hid (Bx w1 (w.heap.size+1) zeroT (.slice none 0 0)):=HV0.out.keeps hg
 have hb1:Below w.heap.size w w1:=hb0.trans (hg.mono hb0.size)
 clear hg k0 k1 k2 k3 HF HV0 hb0
 rcases HFp.out with ⟨hnone,he⟩|⟨x,xb,xl,xr,xk,xv,xc,xs,xh,xn,hsome,he,hcl,hlx⟩
 ·obtain rfl:p1=none:=by injection he with he;injection he
  obtain⟨y0,y1,y2,y3,f0,f1,f2,f3⟩:=HV1.out
  have HE:Hid (GetPost14 (RT.find (atK q k) t) 0 w (.returned (.tuple #[.agg #[.int .i64 0,.int .i64 0,.string ⟨#[]⟩,.slice none 0 0],.bool false,.int .i64 0])) (w1.setCells (w.heap.size+1) 0 (encP (zeroT,.slice none 0 0)))):=⟨below_put hb1 (by omega) _,.inl ⟨hnone,rfl⟩⟩
  have Hbx:Hid _:=HV1.out.put (zeroT,.slice none 0 0)
  clear HFp he hnone HR
  go_wp2_with fail
  refine bodyPost_ret (v:=.tuple #[.agg #[.int .i64 0,.int .i64 0,.string ⟨#[]⟩,.slice none 0 0],.bool false,.int .i64 0]) ?_ rfl HE.out
  obtain⟨q0,q1,q2,q3,_,_,_,_⟩:=Hbx.out
  simp only [encP,World.setCells,Nat.zero_add,Nat.reduceAdd] at q0 q1 q2 q3
  simp [results,Tryz.results78,go_sem,q0,q1,q2,q3]
 ·obtain rfl:p1=some ⟨xb,0,none⟩:=by injection he with he;injection he
  obtain⟨ax,cx,rfl,_⟩:=hlx.2.1.slice
  obtain⟨_,_,_,_,_,_,x6,x7,x8,x9,_,_,_,_⟩:=hcl
  have HCp:Hid _:=copy_right x.2 _ w1 hlx.2.1.lies (HR.out x hsome)
  have Hsome:Hid (RT.find (atK q k) t=some x):=hsome
  have hlt1:w.heap.size+1<w1.heap.size:=by have:=zad HV1.out.c0;simpa using this
  clear HFp he hsome HR hlx
  go_wp2_with fail
  refine Calls.mono HCp.out ?_
  rintro e w2 ⟨v2,rfl,hl2,hg2⟩
  obtain⟨a2,c2,rfl,_⟩:=LiesB.slice hl2
  have HV2:Hid (Bx w2 (w.heap.size+1) zeroT (.slice none 0 0)):=HV1.out.keeps hg2
  have hb2:Below w.heap.size w w2:=hb1.trans (hg2.mono hb1.size)
  have hL2:LiesB w1.heap.size 16 (w2.setCells (w.heap.size+1) 0 (encP (x.2,.slice a2 x.2.items.length c2))) x.2.items (.slice a2 x.2.items.length c2):=LiesB.put8 hlt1 _ hl2
  have HE:Hid (GetPost14 (RT.find (atK q k) t) 0 w (.returned (.tuple #[.agg #[.int .i64 x.2.kind,.int .i64 x.2.num,.string x.2.text,.slice a2 x.2.items.length c2],.bool true,.int .i64 0])) (w2.setCells (w.heap.size+1) 0 (encP (x.2,.slice a2 x.2.items.length c2)))):=⟨below_put hb2 (by omega) _,.inr ⟨x,_,Hsome.out,rfl,LiesB.lower14 hb1.size _ _ _ hL2⟩⟩
  have Hbx:Hid _:=HV2.out.put (x.2,.slice a2 x.2.items.length c2)
  obtain⟨y0,y1,y2,y3,f0,f1,f2,f3⟩:=HV2.out
  clear hl2 hL2 hg2 x6 x7 x8 x9 HCp HV1
  go_wp2_with fail
  refine bodyPost_ret (v:=.tuple #[.agg #[.int .i64 x.2.kind,.int .i64 x.2.num,.string x.2.text,.slice a2 x.2.items.length c2],.bool true,.int .i64 0]) ?_ rfl HE.out
  obtain⟨q0,q1,q2,q3,_,_,_,_⟩:=Hbx.out
  simp only [encP,World.setCells,Nat.zero_add,Nat.reduceAdd] at q0 q1 q2 q3
  simp [results,Tryz.results78,go_sem,q0,q1,q2,q3]
end Go.Proofs.YtlnecfjnffdciabGreat

namespace Go.Proofs.YtlnecfjnffdciabGreat
open Go.RowKit Go.Shelf
def withK (q:Nat) (k v:VT) (l:List PT):List PT:=l.filter (fun a=>decide (0<atK q k a))++(k,v)::l.filter (fun a=>decide (atK q k a<0))
theorem with_is {q:Nat} {k v:VT} {t:RT PT} (h:RT.Rises (byK q) t.items):(RT.with_ (atK q k) (k,v) t).items=withK q k v t.items:=
 RT.with_items (atK q k) (k,v) t (RT.Rises.falls (za5 q) h (k,v))
def findK (q:Nat) (k:VT) (l:List PT):Option PT:=l.find? (fun a=>decide (atK q k a=0))
theorem find_is {q:Nat} {k:VT} {t:RT PT} (h:RT.Rises (byK q) t.items):RT.find (atK q k) t=findK q k t.items:=
 RT.find_eq (atK q k) t (RT.Rises.falls (za5 q) h (k,k))
structure PlK (q:Nat) (k:VT) (l:List PT) (r:Nat):Prop where
 le:r≤l.length
 lo:∀(j:Nat) (hj:j<l.length),j<r→ordV q l[j].1 k<0
 hi:∀(j:Nat) (hj:j<l.length),r≤j→¬ordV q l[j].1 k<0
theorem PlK.take {q:Nat} {k:VT} {l:List PT} {r:Nat} (h:PlK q k l r):l.take r=l.filter (fun a=>decide (0<atK q k a)):=by
 conv=>rhs;rw [←List.take_append_drop r l]
 rw [List.filter_append,List.filter_eq_self.2,List.filter_eq_nil_iff.2,List.append_nil]
 ·intro x hx
  obtain⟨j,hj,rfl⟩:=List.getElem_of_mem hx
  rw [List.length_drop] at hj
  rw [List.getElem_drop]
  have h1:=h.hi (r+j) (by omega) (by omega)
  have h2:=zap q k l[r+j].1
  simp [atK]
  omega
 ·intro x hx
  obtain⟨j,hj,rfl⟩:=List.getElem_of_mem hx
  rw [List.length_take] at hj
  rw [List.getElem_take]
  have h1:=h.lo j (by omega) (by omega)
  have h2:=zap q k l[j].1
  simp [atK]
  omega
theorem PlK.none_at {q:Nat} {k:VT} {l:List PT} {r:Nat} (h:PlK q k l r) (hs:RT.Rises (byK q) l) (hn:∀hr:r<l.length,ordV q l[r].1 k≠0):l.drop r=l.filter (fun a=>decide (atK q k a<0))∧findK q k l=none:=by
 have h0:∀j (hj:j<l.length),r≤j→atK q k l[j]<0:=by
  intro j hj hrj
  have hr:r<l.length:=by omega
  have h1:=h.hi r hr (Nat.le_refl _)
  have h2:=hn hr
  have h3:=zap q l[r].1 k
  show ordV q k l[j].1<0
  by_cases e:r=j
  ·subst e
   omega
  ·have h4:=List.pairwise_iff_getElem.1 hs r j hr hj (by omega)
   exact (za5 q).trans (k,k) l[r] l[j] (by show ordV q k l[r].1≤0;omega) h4
 constructor
 ·conv=>rhs;rw [←List.take_append_drop r l]
  rw [List.filter_append,List.filter_eq_nil_iff.2,List.filter_eq_self.2,List.nil_append]
  ·intro x hx
   obtain⟨j,hj,rfl⟩:=List.getElem_of_mem hx
   rw [List.length_drop] at hj
   rw [List.getElem_drop]
   have:=h0 (r+j) (by omega) (by omega)
   simpa using this
  ·intro x hx
   obtain⟨j,hj,rfl⟩:=List.getElem_of_mem hx
   rw [List.length_take] at hj
   rw [List.getElem_take]
   have h1:=h.lo j (by omega) (by omega)
   have h2:=zap q k l[j].1
   simp [atK]
   omega
 ·refine List.find?_eq_none.2 (fun x hx=>?_)
  obtain⟨j,hj,rfl⟩:=List.getElem_of_mem hx
  by_cases e:r≤j
  ·have:ordV q k l[j].1<0:=h0 j hj e
   simp [atK]
   omega
  ·have h1:=h.lo j hj (by omega)
   have h2:=zap q k l[j].1
   simp [atK]
   omega
theorem PlK.some_at {q:Nat} {k:VT} {l:List PT} {r:Nat} (h:PlK q k l r) (hs:RT.Rises (byK q) l) (hr:r<l.length) (hz:ordV q l[r].1 k=0):l.drop (r+1)=l.filter (fun a=>decide (atK q k a<0))∧findK q k l=some l[r]∧l.take r++l.drop (r+1)=lessK q k l:=by
 have hz':ordV q k l[r].1=0:=by have:=zap q l[r].1 k;omega
 have h0:∀j (hj:j<l.length),r<j→atK q k l[j]<0:=by
  intro j hj hrj
  have h4:=List.pairwise_iff_getElem.1 hs r j hr hj hrj
  exact (za5 q).trans (k,k) l[r] l[j] (by show ordV q k l[r].1≤0;omega) h4
 have hlo:∀j (hj:j<l.length),j<r→0<atK q k l[j]:=by
  intro j hj hjr
  have h1:=h.lo j hj hjr
  have h2:=zap q k l[j].1
  show 0<ordV q k l[j].1
  omega
 have ed:l.drop r=l[r]::l.drop (r+1):=List.drop_eq_getElem_cons hr
 have e1:∀(p:PT→Bool),l.filter p=(l.take r).filter p++((if p l[r] then [l[r]] else [])++(l.drop (r+1)).filter p):=by
  intro p
  conv=>lhs;rw [←List.take_append_drop r l,ed]
  rw [List.filter_append,List.filter_cons]
  split <;> simp
 refine⟨?_,?_,?_⟩
 ·rw [e1,List.filter_eq_nil_iff.2,List.filter_eq_self.2]
  ·have : ¬atK q k l[r]<0:=by show ¬ordV q k l[r].1<0;omega
   simp [this]
  ·intro x hx
   obtain⟨j,hj,rfl⟩:=List.getElem_of_mem hx
   rw [List.length_drop] at hj
   rw [List.getElem_drop]
   have:=h0 (r+1+j) (by omega) (by omega)
   simpa using this
  ·intro x hx
   obtain⟨j,hj,rfl⟩:=List.getElem_of_mem hx
   rw [List.length_take] at hj
   rw [List.getElem_take]
   have:0<ordV q k l[j].1:=hlo j (by omega) (by omega)
   simp [atK]
   omega
 ·unfold findK
  conv=>lhs;rw [←List.take_append_drop r l,ed]
  rw [List.find?_append,List.find?_eq_none.2,List.find?_cons_of_pos]
  ·rfl
  ·show decide (ordV q k l[r].1=0)=true
   simpa using hz'
  ·intro x hx
   obtain⟨j,hj,rfl⟩:=List.getElem_of_mem hx
   rw [List.length_take] at hj
   rw [List.getElem_take]
   have:0<ordV q k l[j].1:=hlo j (by omega) (by omega)
   simp [atK]
   omega
 ·unfold lessK
  rw [e1,List.filter_eq_self.2,List.filter_eq_self.2]
  ·have : ¬ordV q k l[r].1≠0:=by omega
   simp [this]
  ·intro x hx
   obtain⟨j,hj,rfl⟩:=List.getElem_of_mem hx
   rw [List.length_drop] at hj
   rw [List.getElem_drop]
   have:ordV q k l[r+1+j].1<0:=h0 (r+1+j) (by omega) (by omega)
   simp
   omega
  ·intro x hx
   obtain⟨j,hj,rfl⟩:=List.getElem_of_mem hx
   rw [List.length_take] at hj
   rw [List.getElem_take]
   have:0<ordV q k l[j].1:=hlo j (by omega) (by omega)
   simp
   omega
end Go.Proofs.YtlnecfjnffdciabGreat

namespace Go.Proofs.YtlnecfjnffdciabGreat
open Go.RowKit Go.Shelf
set_option maxRecDepth 100000 in
set_option maxHeartbeats 4000000 in
theorem natural_14 (d:Nat) (x:PT) (k:VT) (ku vu uk:Value) (w:World) (hx:Lies d w x.1.items ku) (hk:Lies d w k.items uk):Calls Tryz.prog 171 #[.agg #[.int .i64 x.1.kind,.int .i64 x.1.num,.string x.1.text,ku,.int .i64 x.2.kind,.int .i64 x.2.num,.string x.2.text,vu],.agg #[.int .i64 k.kind,.int .i64 k.num,.string k.text,uk]] w fun e w'=>e=.returned (.int .i64 (cmpV d x.1 k))∧Below w.heap.size w w':=by
 have HC:Hid (∀V,Below w.heap.size w V→Calls Tryz.prog 190 #[.agg #[.int .i64 x.1.kind,.int .i64 x.1.num,.string x.1.text,ku],.agg #[.int .i64 k.kind,.int .i64 k.num,.string k.text,uk]] V fun e w'=>e=.returned (.int .i64 (cmpV d x.1 k))∧Grew V w'):=fun V hV=>compare_any d x.1 k ku uk V (Lies.keeps hV _ _ _ hx) (Lies.keeps hV _ _ _ hk)
 have HB:Hid (∀A B,Below w.heap.size w ((w.alloc A).alloc B)):=fun A B=>(((Grew.refl w).alloc A).alloc B).below
 clear hx hk
 go_enter Tryz.func171,Tryz.ntmps171
 go_wp2_with fail
 refine (HC.out _ (HB.out _ _)).mono ?_
 rintro e w1 ⟨rfl,hg⟩
 have hb1:Below w.heap.size w w1:=(HB.out _ _).trans (hg.below.mono (HB.out _ _).size)
 clear hg
 go_wp2_with fail
 go_ret
 exact⟨rfl,hb1⟩
set_option maxRecDepth 100000 in
set_option maxHeartbeats 4000000 in
theorem sorted1_14 (d:Nat):CmpQ 170 (GoodQ d) (cmpQ d):=by
 intro p r W hp hr
 obtain⟨⟨t,u⟩,⟨t2,u2⟩⟩:=p
 obtain⟨⟨s,v⟩,⟨s2,v2⟩⟩:=r
 have HC:Hid (∀V,Below W.heap.size W V→Calls Tryz.prog 171 #[.agg #[.int .i64 t.kind,.int .i64 t.num,.string t.text,u,.int .i64 t2.kind,.int .i64 t2.num,.string t2.text,u2],.agg #[.int .i64 s.kind,.int .i64 s.num,.string s.text,v]] V fun e w'=>e=.returned (.int .i64 (cmpV d t s))∧Below V.heap.size V w'):=fun V hV=>natural_14 d (t,t2) s u u2 v V (Lies.keeps hV _ _ _ hp.1.1) (Lies.keeps hV _ _ _ hr.1.1)
 show Calls Tryz.prog 170 #[.agg #[.int .i64 t.kind,.int .i64 t.num,.string t.text,u,.int .i64 t2.kind,.int .i64 t2.num,.string t2.text,u2],.agg #[.int .i64 s.kind,.int .i64 s.num,.string s.text,v,.int .i64 s2.kind,.int .i64 s2.num,.string s2.text,v2]] W fun e W'=>e=.returned (.int .i64 (cmpV d t s))∧Below W.heap.size W W'
 have HB:Hid (∀A B,Below W.heap.size W ((W.alloc A).alloc B)):=fun A B=>(((Grew.refl W).alloc A).alloc B).below
 clear hp hr
 go_enter Tryz.func170,Tryz.ntmps170
 go_wp2_with fail
 refine (HC.out _ (HB.out _ _)).mono ?_
 rintro e w1 ⟨rfl,hg⟩
 have hb1:Below W.heap.size W w1:=(HB.out _ _).trans (hg.mono (HB.out _ _).size)
 clear hg
 go_wp2_with fail
 go_ret
 exact⟨rfl,hb1⟩
set_option maxRecDepth 100000 in
set_option maxHeartbeats 8000000 in
theorem search_14 (d:Nat) (qs:List PP) (v:Value) (k:VT) (uk:Value) (w:World) (hv:SlQ 0 d w qs v) (hk:Lies d w k.items uk) (hlen:qs.length≤65536)
 (K:Nat) (hK:K<qs.length) (hlo:∀t (h:t<qs.length),t<K→cmpV d qs[t].1.1 k<0) (hhi:∀t (h:t<qs.length),K≤t→¬cmpV d qs[t].1.1 k<0) (hF:cmpV d qs[K].1.1 k=0) :
 Calls Tryz.prog 173 #[v,.agg #[.int .i64 k.kind,.int .i64 k.num,.string k.text,uk],.func (.func 171) #[] #[]] w fun e w'=>e=.returned (.tuple #[.int .i64 (K:Int),.bool true])∧Below w.heap.size w w':=by
 obtain⟨ak,ck,rfl,_⟩:=Lies.slice hk
 obtain⟨b,o,c,rfl,_,hrow,hgd⟩:=hv.full (fun e=>by rw [e] at hK;cases hK)
 have Hr:Hid (QAt w b o qs):=hrow
 have HG:Hid (∀p∈qs,GoodQ d w p):=hgd
 have HT:Hid (Lies d w k.items (.slice ak k.items.length ck)):=hk
 have Hlo:Hid _:=hlo
 have Hhi:Hid _:=hhi
 have HF:Hid (∀(h:K<qs.length),cmpV d qs[K].1.1 k=0):=fun _=>hF
 have eg:∀args w,(callFunc 171 args).run Tryz.prog w=.ok (.enter 171 args) w:=enters_of Tryz.func171 (by kernel_rfl) rfl
 obtain⟨n,hn⟩:∃n,n=qs.length:=⟨_,rfl⟩
 have HNn:Hid (n=qs.length):=hn
 rw [←hn] at hlen ⊢
 have HKn:Hid (K<qs.length):=hK
 have hKn:K<n:=by omega
 have HB0:Hid (Bx (w.alloc (.cells #[.int .i64 k.kind,.int .i64 k.num,.string k.text,.slice ak k.items.length ck] 33)) w.heap.size k (.slice ak k.items.length ck)):=zao w k _
 clear hrow hgd hk hlo hhi hF hv hn hK
 go_enter Tryz.func173,Tryz.ntmps173
 go_wp2_with fail
 go_loopg [9,10] n (fun q i j wr=>∃a e:Nat,i=.int .i64 (a:Int)∧j=.int .i64 (e:Int)∧q=e-a∧a≤K∧K≤e∧e≤n∧Hid (Bx wr w.heap.size k (.slice ak k.items.length ck))∧Hid (Below w.heap.size w wr))
 case atStart=>exact⟨0,n,rfl,rfl,by omega,by omega,by omega,Nat.le_refl _,HB0,((Grew.refl _).alloc _).below⟩
 case round=>
  obtain⟨a,e,rfl,rfl,hq,haK,hKe,hen,HBx,HB⟩:=hrel
  have Hq:Hid _:=hq
  have hbw:=HB.out
  clear hq HB0
  by_cases hlt:a<e
  ·obtain⟨h,hh⟩:∃h,h=(a+e) / 2:=⟨_,rfl⟩
   have Hh:Hid (h=(a+e) / 2):=hh
   have hl1:h<qs.length:=by have:=HNn.out;omega
   have hlti:(a:Int)<(e:Int):=by omega
   have hd:((a:Int)+(e:Int)) / 2=(h:Int):=by omega
   have hhn:h<n:=by omega
   have hhi1:(h:Int)<(n:Nat):=by omega
   clear hh
   have h8:=Hr.out.at h hl1
   have gp:=HG.out qs[h] (List.getElem_mem hl1)
   have HLo:Hid (h<K→cmpV d qs[h].1.1 k<0):=fun hk=>Hlo.out h hl1 hk
   have HHi:Hid (K≤h→¬cmpV d qs[h].1.1 k<0):=fun hk=>by have:=Hhi.out h hl1 hk;omega
   generalize qs[h]=x at *
   obtain⟨⟨t1,u1⟩,⟨t2,u2⟩⟩:=x
   obtain⟨a1,c1,hu1,_⟩:=Lies.slice gp.1.1
   obtain⟨a2,c2,hu2,_⟩:=Lies.slice gp.2.1
   simp only at hu1 hu2
   subst hu1 hu2
   obtain⟨p0,p1,p2,p3,p4,p5,p6,p7⟩:=h8.keeps hbw
   simp only at p0 p1 p2 p3 p4 p5 p6 p7
   obtain⟨r0,r1,r2,r3,_⟩:=HBx.out
   have HN:Hid (∀V,Below wr.heap.size wr V→Calls Tryz.prog 171 #[.agg #[.int .i64 t1.kind,.int .i64 t1.num,.string t1.text,(.slice a1 t1.items.length c1),.int .i64 t2.kind,.int .i64 t2.num,.string t2.text,(.slice a2 t2.items.length c2)],.agg #[.int .i64 k.kind,.int .i64 k.num,.string k.text,.slice ak k.items.length ck]] V fun e w'=>e=.returned (.int .i64 (cmpV d t1 k))∧Below V.heap.size V w'):=fun V hV=>natural_14 d (t1,t2) k _ _ _ V (Lies.keeps (hbw.trans (hV.mono hbw.size)) _ _ _ gp.1.1) (Lies.keeps (hbw.trans (hV.mono hbw.size)) _ _ _ HT.out)
   have HZl:Hid (h<K→cmpV d t1 k<0):=HLo
   have HZh:Hid (K≤h→¬cmpV d t1 k<0):=HHi
   obtain⟨Z,hZ⟩:∃Z,Z=cmpV d t1 k:=⟨_,rfl⟩
   rw [←hZ] at HN HZl HZh
   clear gp h8 HLo HHi hZ
   go_wp2_with fail
   go_region_held3 (fun w'=>w'.cell? ⟨b,o+h*8,none⟩=some (.int .i64 t1.kind)∧w'.cell? ⟨b,o+h*8+1,none⟩=some (.int .i64 t1.num)∧w'.cell? ⟨b,o+h*8+2,none⟩=some (.string t1.text)∧w'.cell? ⟨b,o+h*8+3,none⟩=some (.slice a1 t1.items.length c1)∧w'.cell? ⟨b,o+h*8+4,none⟩=some (.int .i64 t2.kind)∧w'.cell? ⟨b,o+h*8+5,none⟩=some (.int .i64 t2.num)∧w'.cell? ⟨b,o+h*8+6,none⟩=some (.string t2.text)∧w'.cell? ⟨b,o+h*8+7,none⟩=some (.slice a2 t2.items.length c2)∧w'.cell? ⟨w.heap.size,0,none⟩=some (.int .i64 k.kind)∧w'.cell? ⟨w.heap.size,1,none⟩=some (.int .i64 k.num)∧w'.cell? ⟨w.heap.size,2,none⟩=some (.string k.text)∧w'.cell? ⟨w.heap.size,3,none⟩=some (.slice ak k.items.length ck)) (go_keep)
    (first|(go_at_fn 171;(with_reducible refine Calls.mono (HN.out _ ((Below.refl _ _).drew)) ?_);rintro ee w1 ⟨rfl,hg1⟩;have hb1':Below wr.heap.size wr w1:=(Below.refl _ _).drew.trans hg1;have hb1:Below w.heap.size w w1:=hbw.trans (hb1'.mono hbw.size);have p0:=zaa hb1' p0;have p1:=zaa hb1' p1;have p2:=zaa hb1' p2;have p3:=zaa hb1' p3;have p4:=zaa hb1' p4;have p5:=zaa hb1' p5;have p6:=zaa hb1' p6;have p7:=zaa hb1' p7;have r0:=zaa hb1' r0;have r1:=zaa hb1' r1;have r2:=zaa hb1' r2;have r3:=zaa hb1' r3;clear hg1))
   have HBx1:Hid (Bx w1 w.heap.size k (.slice ak k.items.length ck)):=HBx.out.keeps hb1'
   clear p0 p1 p2 p3 p4 p5 p6 p7 r0 r1 r2 r3 hb1' HBx HN
   by_cases hz:Z<0
   ·have hhK:h<K:=by
     by_cases hk:h<K
     ·exact hk
     ·have:=HZh.out (by omega);omega
    go_wp2_with fail
    go_roundg (e-(h+1))
    case measure=>have:=Hq.out;have:=Hh.out;omega
    case rel=>exact⟨h+1,e,by go_num,rfl,rfl,by omega,hKe,hen,HBx1,hb1⟩
   ·have hhK:K≤h:=by
     by_cases hk:h<K
     ·exact absurd (HZl.out hk) hz
     ·omega
    go_wp2_with fail
    go_roundg (h-a)
    case measure=>have:=Hq.out;have:=Hh.out;omega
    case rel=>exact⟨a,h,rfl,by go_num,rfl,haK,hhK,by have:=Hh.out;omega,HBx1,hb1⟩
  ·have haK2:a=K:=by omega
   have hnlt : ¬(a:Int)<(e:Int):=by omega
   have hendi:(a:Int)<(n:Nat):=by omega
   have hl1:K<qs.length:=HKn.out
   have h8:=Hr.out.at K hl1
   have gp:=HG.out qs[K] (List.getElem_mem hl1)
   have HZ:Hid (cmpV d qs[K].1.1 k=0):=HF.out hl1
   clear HF Hlo Hhi
   generalize qs[K]=x at *
   obtain⟨⟨t1,u1⟩,⟨t2,u2⟩⟩:=x
   obtain⟨a1,c1,hu1,_⟩:=Lies.slice gp.1.1
   obtain⟨a2,c2,hu2,_⟩:=Lies.slice gp.2.1
   simp only at hu1 hu2
   subst hu1 hu2
   subst haK2
   obtain⟨p0,p1,p2,p3,p4,p5,p6,p7⟩:=h8.keeps hbw
   simp only at p0 p1 p2 p3 p4 p5 p6 p7
   obtain⟨r0,r1,r2,r3,_⟩:=HBx.out
   have HN:Hid (∀V,Below wr.heap.size wr V→Calls Tryz.prog 171 #[.agg #[.int .i64 t1.kind,.int .i64 t1.num,.string t1.text,(.slice a1 t1.items.length c1),.int .i64 t2.kind,.int .i64 t2.num,.string t2.text,(.slice a2 t2.items.length c2)],.agg #[.int .i64 k.kind,.int .i64 k.num,.string k.text,.slice ak k.items.length ck]] V fun e w'=>e=.returned (.int .i64 0)∧Below V.heap.size V w'):=fun V hV=>by
    have h9:=natural_14 d (t1,t2) k (.slice a1 t1.items.length c1) (.slice a2 t2.items.length c2) (.slice ak k.items.length ck) V (Lies.keeps (hbw.trans (hV.mono hbw.size)) _ _ _ gp.1.1) (Lies.keeps (hbw.trans (hV.mono hbw.size)) _ _ _ HT.out)
    have e0:cmpV d t1 k=0:=HZ.out
    rwa [e0] at h9
   clear gp h8 HZ
   go_wp2_with fail
   go_region_held3 (fun w'=>w'.cell? ⟨b,o+a*8,none⟩=some (.int .i64 t1.kind)∧w'.cell? ⟨b,o+a*8+1,none⟩=some (.int .i64 t1.num)∧w'.cell? ⟨b,o+a*8+2,none⟩=some (.string t1.text)∧w'.cell? ⟨b,o+a*8+3,none⟩=some (.slice a1 t1.items.length c1)∧w'.cell? ⟨b,o+a*8+4,none⟩=some (.int .i64 t2.kind)∧w'.cell? ⟨b,o+a*8+5,none⟩=some (.int .i64 t2.num)∧w'.cell? ⟨b,o+a*8+6,none⟩=some (.string t2.text)∧w'.cell? ⟨b,o+a*8+7,none⟩=some (.slice a2 t2.items.length c2)∧w'.cell? ⟨w.heap.size,0,none⟩=some (.int .i64 k.kind)∧w'.cell? ⟨w.heap.size,1,none⟩=some (.int .i64 k.num)∧w'.cell? ⟨w.heap.size,2,none⟩=some (.string k.text)∧w'.cell? ⟨w.heap.size,3,none⟩=some (.slice ak k.items.length ck)) (go_keep)
    (first|(go_at_fn 171;(with_reducible refine Calls.mono (HN.out _ ((Below.refl _ _).drew)) ?_);rintro ee w1 ⟨rfl,hg1⟩;have hb1':Below wr.heap.size wr w1:=(Below.refl _ _).drew.trans hg1;have hb1:Below w.heap.size w w1:=hbw.trans (hb1'.mono hbw.size);have p0:=zaa hb1' p0;have p1:=zaa hb1' p1;have p2:=zaa hb1' p2;have p3:=zaa hb1' p3;have p4:=zaa hb1' p4;have p5:=zaa hb1' p5;have p6:=zaa hb1' p6;have p7:=zaa hb1' p7;have r0:=zaa hb1' r0;have r1:=zaa hb1' r1;have r2:=zaa hb1' r2;have r3:=zaa hb1' r3;clear hg1))
   all_goals (first|(go_ret2;exact⟨rfl,hb1⟩)|(go_wp2_with fail;go_ret2;exact⟨rfl,hb1⟩))
end Go.Proofs.YtlnecfjnffdciabGreat

namespace Go.Proofs.YtlnecfjnffdciabGreat
open Go.RowKit Go.Shelf
theorem withK_mem {q:Nat} {k v:VT} {l:List PT} {x:PT} (h:x∈withK q k v l):x=(k,v)∨x∈l:=by
 unfold withK at h
 rcases List.mem_append.1 h with h|h
 ·exact .inr (List.mem_filter.1 h).1
 ·rcases List.mem_cons.1 h with h|h
  ·exact .inl h
  ·exact .inr (List.mem_filter.1 h).1
theorem withK_rises {q:Nat} {k v:VT} {l:List PT} (h:RT.Rises (byK q) l):RT.Rises (byK q) (withK q k v l):=by
 unfold withK RT.Rises
 have e1:∀x∈l.filter (fun a=>decide (0<atK q k a)),byK q x (k,v)<0:=fun x hx=>by
  have h1:0<ordV q k x.1:=by simpa using (List.mem_filter.1 hx).2
  have h2:=zap q k x.1
  show ordV q x.1 k<0
  omega
 have e2:∀x∈l.filter (fun a=>decide (atK q k a<0)),byK q (k,v) x<0:=fun x hx=>by
  have h1:ordV q k x.1<0:=by simpa using (List.mem_filter.1 hx).2
  exact h1
 rw [List.pairwise_append,List.pairwise_cons]
 refine⟨h.filter _,⟨e2,h.filter _⟩,fun a ha b hb=>?_⟩
 rcases List.mem_cons.1 hb with rfl|hb
 ·exact e1 a ha
 ·exact (za5 q).trans a (k,v) b (Int.le_of_lt (e1 a ha)) (e2 b hb)
theorem lessK_rises {q:Nat} {k:VT} {l:List PT} (h:RT.Rises (byK q) l):RT.Rises (byK q) (lessK q k l):=h.filter _
end Go.Proofs.YtlnecfjnffdciabGreat

