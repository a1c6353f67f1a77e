import Derived.Test.YtlnecfjnffdciacGreatMapM
import Derived.Test.YtlnecfjnffdciacGreatQueueN
import Derived.Test.YtlnecfjnffdciacGreatGvP
import Derived.Test.YtlnecfjnffdciacGreatMapV
set_option maxRecDepth 100000
set_option maxHeartbeats 16000000
namespace Go.Proofs.YtlnecfjnffdciacGreat
open Go.RowKit Go.Shelf
theorem LiesB.put8 {W:World} {base n:Nat} (hn:n<base) (vs:List Value) {d:Nat} {l:List VT} {v:Value} (h:LiesB base d W l v):LiesB base d (W.setCells n 0 vs) l v:=
 LiesB.stays (fun _ _ ha hu=>⟨zap (g:=n) (fun e=>by omega) hu,by rw [World.frozen?_setCells]⟩) _ _ _ h
theorem LiesB.keepsB {W W':World} {base:Nat} (hb:Below W.heap.size W W') {d:Nat} {l:List VT} {v:Value} (h:LiesB base d W l v):LiesB base d W' l v:=
 LiesB.stays (fun _ _ _ hu=>⟨zaa hb hu,hb.frozen (zad hu)⟩) _ _ _ h
theorem LiesB.lower14 {W:World} {b b':Nat} (hb:b'≤b):∀(d:Nat) (l:List VT) (v:Value),LiesB b d W l v→LiesB b' d W l v
 | 0,_,_,h=>h
 | d+1,l,v,h=>by
  obtain⟨a,c,hv,hc,h1⟩:=h
  refine⟨a,c,hv,hc,fun hne=>?_⟩
  obtain⟨g,o,ha,hg,hf,h2⟩:=h1 hne
  refine⟨g,o,ha,by omega,hf,fun i hi=>?_⟩
  obtain⟨u,c0,c1,c2,c3,h3,h4⟩:=h2 i hi
  exact⟨u,c0,c1,c2,c3,LiesB.lower14 hb d _ _ h3,h4⟩
def CopiedPost (x:PT) (w:World) (e:Ending) (w':World):Prop:=∃ku vu,e=.returned (.agg #[.int .i64 x.1.kind,.int .i64 x.1.num,.string x.1.text,ku,.int .i64 x.2.kind,.int .i64 x.2.num,.string x.2.text,vu])∧LiesB w.heap.size 16 w' x.1.items ku∧LiesB w.heap.size 16 w' x.2.items vu∧Below w.heap.size w w'
theorem copied_14 (x:PT) (ku vu:Value) (w:World) (hk:Lies 16 w x.1.items ku) (hv:Lies 16 w x.2.items vu) (hr:zab 16 x.1=true∧zab 16 x.2=true):Calls Tryz.prog 108 #[.agg #[.int .i64 x.1.kind,.int .i64 x.1.num,.string x.1.text,ku,.int .i64 x.2.kind,.int .i64 x.2.num,.string x.2.text,vu]] w (CopiedPost x w):=by
 obtain⟨ak,ck,rfl,_⟩:=Lies.slice hk
 obtain⟨av,cv,rfl,_⟩:=Lies.slice hv
 have HK:Hid (∀V,Below w.heap.size w V→Calls Tryz.prog 66 #[.agg #[.int .i64 x.1.kind,.int .i64 x.1.num,.string x.1.text,.slice ak x.1.items.length ck]] V (CopyPost 16 x.1 V)):=fun V hV=>copy_right x.1 _ V (Lies.keeps hV _ _ _ hk) hr.1
 have HV:Hid (∀V,Below w.heap.size w V→Calls Tryz.prog 66 #[.agg #[.int .i64 x.2.kind,.int .i64 x.2.num,.string x.2.text,.slice av x.2.items.length cv]] V (CopyPost 16 x.2 V)):=fun V hV=>copy_right x.2 _ V (Lies.keeps hV _ _ _ hv) hr.2
 clear hk hv hr
 go_enter Tryz.func108,Tryz.ntmps108
 go_wp2_with fail
 obtain⟨W0,hW0⟩:∃W0,W0=(w.alloc (.cells #[.int .i64 x.1.kind,.int .i64 x.1.num,.string x.1.text,.slice ak x.1.items.length ck,.int .i64 x.2.kind,.int .i64 x.2.num,.string x.2.text,.slice av x.2.items.length cv] 124)).alloc (.cells #[.int .i64 0,.int .i64 0,.string ⟨#[]⟩,.slice none 0 0,.int .i64 0,.int .i64 0,.string ⟨#[]⟩,.slice none 0 0] 124):=⟨_,rfl⟩
 rw [←hW0]
 have hb0:Below w.heap.size w W0:=by rw [hW0];exact (((Grew.refl w).alloc _).alloc _).below
 have hs0:W0.heap.size=w.heap.size+1+1:=by rw [hW0];simp
 have HX0:Hid (Bx8 W0 w.heap.size (.int .i64 x.1.kind) (.int .i64 x.1.num) (.string x.1.text) (.slice ak x.1.items.length ck) (.int .i64 x.2.kind) (.int .i64 x.2.num) (.string x.2.text) (.slice av x.2.items.length cv)):=by
  rw [hW0];exact (bx8_alloc w _ _ _ _ _ _ _ _ _).keeps ((Grew.refl _).alloc _).below
 have HZ0:Hid (Bx8 W0 (w.heap.size+1) (.int .i64 0) (.int .i64 0) (.string ⟨#[]⟩) (.slice none 0 0) (.int .i64 0) (.int .i64 0) (.string ⟨#[]⟩) (.slice none 0 0)):=by
  rw [hW0]
  have h9:=bx8_alloc (w.alloc (.cells #[.int .i64 x.1.kind,.int .i64 x.1.num,.string x.1.text,.slice ak x.1.items.length ck,.int .i64 x.2.kind,.int .i64 x.2.num,.string x.2.text,.slice av x.2.items.length cv] 124)) 124 (.int .i64 0) (.int .i64 0) (.string ⟨#[]⟩) (.slice none 0 0) (.int .i64 0) (.int .i64 0) (.string ⟨#[]⟩) (.slice none 0 0)
  rwa [World.size_alloc] at h9
 obtain⟨x0,x1,x2,x3,x4,x5,x6,x7,_⟩:=HX0.out
 have HS0:Hid (W0.heap.size=w.heap.size+1+1):=hs0
 clear hW0 hs0
 have hbc:Below W0.heap.size W0 W0.drew:=(Below.refl _ _).drew
 have hn1:w.heap.size≠w.heap.size+1:=by omega
 go_region_held3 (fun w'=>w'.cell? ⟨w.heap.size,0,none⟩=some (.int .i64 x.1.kind)∧w'.cell? ⟨w.heap.size,1,none⟩=some (.int .i64 x.1.num)∧w'.cell? ⟨w.heap.size,2,none⟩=some (.string x.1.text)∧w'.cell? ⟨w.heap.size,3,none⟩=some ((.slice ak x.1.items.length ck))∧w'.cell? ⟨w.heap.size,4,none⟩=some (.int .i64 x.2.kind)∧w'.cell? ⟨w.heap.size,5,none⟩=some (.int .i64 x.2.num)∧w'.cell? ⟨w.heap.size,6,none⟩=some (.string x.2.text)∧w'.cell? ⟨w.heap.size,7,none⟩=some ((.slice av x.2.items.length cv))) (first|go_keep|exact⟨set8_keep hn1 x0,set8_keep hn1 x1,set8_keep hn1 x2,set8_keep hn1 x3,set8_keep hn1 x4,set8_keep hn1 x5,set8_keep hn1 x6,set8_keep hn1 x7⟩)
  (first
   | (go_at_call 66;(with_reducible refine Calls.mono (HK.out _ (hb0.trans (hbc.mono hb0.size))) ?_);rintro e w5 ⟨v5,rfl,hl5,hg⟩;obtain⟨a5,c5,rfl,_⟩:=LiesB.slice hl5;have HL5:Hid (LiesB (w.heap.size+1+1) 16 w5 x.1.items (.slice a5 x.1.items.length c5)):=LiesB.lower14 (by have:=hbc.size;have:=HS0.out;omega) _ _ _ hl5;replace hbc:=hbc.trans (hg.mono hbc.size);have x0:=zaa hg x0;have x1:=zaa hg x1;have x2:=zaa hg x2;have x3:=zaa hg x3;have x4:=zaa hg x4;have x5:=zaa hg x5;have x6:=zaa hg x6;have x7:=zaa hg x7;clear hg hl5)
   | (go_at_call 66;(with_reducible refine Calls.mono (HV.out _ (hb0.trans (hbc.mono hb0.size))) ?_);rintro e w6 ⟨v6,rfl,hl6,hg⟩;obtain⟨a6,c6,rfl,_⟩:=LiesB.slice hl6;have HL6:Hid (LiesB (w.heap.size+1+1) 16 w6 x.2.items (.slice a6 x.2.items.length c6)):=LiesB.lower14 (by have:=hbc.size;have:=HS0.out;omega) _ _ _ hl6;have HL5:Hid (LiesB (w.heap.size+1+1) 16 w6 x.1.items _):=LiesB.keepsB hg HL5.out;replace hbc:=hbc.trans (hg.mono hbc.size);have x0:=zaa hg x0;have x1:=zaa hg x1;have x2:=zaa hg x2;have x3:=zaa hg x3;have x4:=zaa hg x4;have x5:=zaa hg x5;have x6:=zaa hg x6;have x7:=zaa hg x7;have HZ6:Hid (Bx8 w6 (w.heap.size+1) (.int .i64 0) (.int .i64 0) (.string ⟨#[]⟩) (.slice none 0 0) (.int .i64 0) (.int .i64 0) (.string ⟨#[]⟩) (.slice none 0 0)):=HZ0.out.keeps hbc;obtain⟨y0,y1,y2,y3,y4,y5,y6,y7,f0,f1,f2,f3,f4,f5,f6,f7,_⟩:=HZ6.out;clear hg hl6))
 have Hq:Hid _:=put8_in HZ6.out (.int .i64 x.1.kind) (.int .i64 x.1.num) (.string x.1.text) (.slice a5 x.1.items.length c5) (.int .i64 x.2.kind) (.int .i64 x.2.num) (.string x.2.text) (.slice a6 x.2.items.length c6)
 have hbz:Below w.heap.size w w6:=hb0.trans (hbc.mono hb0.size)
 have HE:Hid (CopiedPost x w (.returned (.agg #[.int .i64 x.1.kind,.int .i64 x.1.num,.string x.1.text,.slice a5 x.1.items.length c5,.int .i64 x.2.kind,.int .i64 x.2.num,.string x.2.text,.slice a6 x.2.items.length c6])) (w6.setCells (w.heap.size+1) 0 [.int .i64 x.1.kind,.int .i64 x.1.num,.string x.1.text,.slice a5 x.1.items.length c5,.int .i64 x.2.kind,.int .i64 x.2.num,.string x.2.text,.slice a6 x.2.items.length c6])):=⟨_,_,rfl,LiesB.lower14 (by omega) _ _ _ (LiesB.put8 (by omega) _ HL5.out),LiesB.lower14 (by omega) _ _ _ (LiesB.put8 (by omega) _ HL6.out),below_put8 hbz (by omega) _ _ _ _ _ _ _ _⟩
 go_wp2_with fail
 refine bodyPost_ret (v:=.agg #[.int .i64 x.1.kind,.int .i64 x.1.num,.string x.1.text,.slice a5 x.1.items.length c5,.int .i64 x.2.kind,.int .i64 x.2.num,.string x.2.text,.slice a6 x.2.items.length c6]) ?_ rfl HE.out
 obtain⟨q0,q1,q2,q3,q4,q5,q6,q7⟩:=Hq.out
 simp only [World.setCells,Nat.zero_add,Nat.reduceAdd] at q0 q1 q2 q3 q4 q5 q6 q7
 simp [results,Tryz.results108,go_sem,q0,q1,q2,q3,q4,q5,q6,q7]
attribute [local go_sem] Oper.semAt_some
def RightP (x:VT×VT):Prop:=zab 16 x.1=true∧zab 16 x.2=true
def AlI {w0:World} {R:PT→Prop} (J:List CQ→World→Prop) (lo By:Nat) (pre:List (PQR 16 w0 R)) (W:World):Prop:=
 ∃ys:List CQ,ys.map CQ.t=pre.map (fun q=>trT q.1)∧J ys W∧Go.Boxed W By 37 (.func (.yield lo) #[] #[])∧Below w0.heap.size w0 W
def AlX {w0:World} {R:PT→Prop} (Jx:List CQ→World→Prop) (c:Code) (_:List (PQR 16 w0 R)) (W:World):Prop:=c=.ret∧∃ys,Jx ys W
theorem AlI.own {w0:World} {R:PT→Prop} (J:List CQ→World→Prop) (lo By B M:Nat) (hJ:OwnFrom B J) (hB:B≤M) (h1:By<M) (h3:w0.heap.size≤M):OwnFrom M (AlI (w0:=w0) (R:=R) J lo By):=by
 intro s A V row hs hg hr
 obtain⟨ys,hy,hj,b1,hb⟩:=hs
 refine⟨ys,hy,hJ ys A V row hj hg (fun r e=>⟨by have:=(hr r e).1;omega,(hr r e).2⟩),b1.kept hg (fun e=>?_),hb.grown hg hb.size (fun k e=>?_)⟩
 ·have:=(hr _ e.symm).1;omega
 ·have:=(hr _ e).1;omega
theorem AlX.own {w0:World} {R:PT→Prop} (Jx:List CQ→World→Prop) (c:Code) (B M:Nat) (hJ:OwnFrom B Jx) (hB:B≤M):OwnFrom M (AlX (w0:=w0) (R:=R) Jx c):=by
 intro s A V row hs hg hr
 obtain⟨hc,ys,hj⟩:=hs
 exact⟨hc,ys,hJ ys A V row hj hg (fun r e=>⟨by have:=(hr r e).1;omega,(hr r e).2⟩)⟩
def AlA {w0:World} {R:PT→Prop} (qs:List (PQR 16 w0 R)) (f:PQR 16 w0 R→Nat→Act) (pre:List (PQR 16 w0 R)) (x:PQR 16 w0 R) (a:Act) (W:World):Prop:=(∃Bx,Box8 W Bx x.1∧a=f x Bx)∧(pre++[x]) <+: qs
theorem AlA.own {w0:World} {R:PT→Prop} (qs:List (PQR 16 w0 R)) (M:Nat) (f:PQR 16 w0 R→Nat→Act) (pre:List (PQR 16 w0 R)) (x:PQR 16 w0 R) (a:Act):OwnFrom M (fun (_:Unit) W=>AlA qs f pre x a W):=by
 intro s A V row hs hg hr
 obtain⟨⟨Bx,b8,rfl⟩,hpx⟩:=hs
 refine⟨⟨Bx,(hg.block _ b8.lt (fun e=>?_)).trans b8,rfl⟩,hpx⟩
 obtain⟨_,o,ho,hoc⟩:=hr _ e.symm
 have hb8:A.heap[Bx]? = _:=b8
 rw [hb8] at ho
 cases ho
 simp [Obj.isCells] at hoc
theorem mall1_14 {w0:World} {q:Nat} {t:RT PT} {b:Nat} (h:MC w0 q t b) (Z:Nat) (hZ:37≠Z) (n Bm:Nat) (hn:3≤n) (w:World) (hw0:Below w0.heap.size w0 w) (hm:w.cell? ⟨Bm,0,none⟩=some (.pointer (some ⟨b,0,none⟩))) :
 SeqX Fence.wide n Tryz.prog 171 #[.pointer (some ⟨Bm,0,none⟩)] encCQ (KpY Z w0.heap.size) (PreCQ t.items) (fun xs=>xs.map CQ.t=t.items) (fun _=>True) t.items.length w:=by
 intro lo J Jx W hW hJ hJx hY h0
 have hm1:=zaa hW hm
 have hlm:=zad hm1
 have hWw:Below w0.heap.size w0 W:=hw0.trans (hW.mono hw0.size)
 obtain⟨p,hp,hnm⟩:=h.top
 have hp1:=zaa hWw hp
 have hlb:=zad hp1
 simp only at hlb hlm
 obtain⟨qs,hq1,hE⟩:=each14R TT 16 w0 RightP t p hnm (fun x hx=>⟨(h.right x hx).1.1,(h.right x hx).2.1⟩)
 have hqn:qs.length=t.items.length:=by rw [←hq1,List.length_map]
 have HSt:Hid _:=fun n Bp w h1 h2 h3=>all1_seqR 16 w0 RightP p qs hE n Bp w h1 h2 h3
 have HY:Hid _:=hY
 have HJ:Hid _:=hJ
 have HJx:Hid _:=hJx
 have H0:Hid (J [] W):=h0
 clear hY hJ hJx h0 hE
 refine callsIn_of_wp_marks Tryz.func171 rfl trivial ?_ rfl
 simp only [Tryz.ntmps171,List.size_toArray,List.length_cons,List.length_nil,Nat.reduceAdd,Nat.reduceSub,Array.replicate_succ,Array.replicate_zero,List.push_toArray,List.append_toArray,List.nil_append,List.cons_append]
 gi_wp2
 refine⟨trivial,(fun h=>by cases h),?_⟩
 refine (callsIn_wide.2 (own_14 _ _)).mono ?_
 rintro e w1 ⟨rfl,rfl⟩
 gi_wp2
 refine⟨trivial,(fun h=>by cases h),?_⟩
 refine (callsIn_wide.2 (all_14 _ _)).mono ?_
 rintro e w1 ⟨rfl,rfl⟩
 simp only [World.size_alloc]
 gi_wp2
 obtain⟨Wi,hWi⟩:∃Wi,Wi=((W.alloc (.cells #[.func (.yield lo) #[] #[]] 37)).alloc (.cells #[.pointer p] 127)):=⟨_,rfl⟩
 rw [←hWi]
 have hsz:Wi.heap.size=W.heap.size+2:=by rw [hWi];simp
 have hbi:Below W.heap.size W Wi:=by rw [hWi];exact ((Grew.refl W).alloc _).alloc _ |>.below
 have hw0i:Below w0.heap.size w0 Wi:=hWw.trans (hbi.mono hWw.size)
 have hws:w0.heap.size≤W.heap.size:=hWw.size
 have bY:Go.Boxed Wi W.heap.size 37 (.func (.yield lo) #[] #[]):=by
  rw [hWi]
  exact (Go.Boxed.new W _ _).alloc _
 have c2:Wi.cell? ⟨W.heap.size+1,0,none⟩=some (.pointer p):=by
  rw [hWi]
  have h9:=(Go.Boxed.new (W.alloc (.cells #[.func (.yield lo) #[] #[]] 37)) 127 (.pointer p)).cell
  rwa [World.size_alloc] at h9
 have hJi:J [] Wi:=HJ.out [] W Wi none H0.out (zag hbi) (fun r e=>by cases e)
 have Hq1:Hid (qs.map (fun q=>trT q.1)=t.items):=hq1
 have Hqn:Hid (qs.length=t.items.length):=hqn
 have Hh:Hid (MC w0 q t b):=h
 clear hm1 hm hq1 hWi hqn h hnm hp hp1
 refine rangeX (α:=PQR 16 w0 RightP) rfl (by omega) (gf:=187) (lb:=#[.pointer (some ⟨W.heap.size+1,0,none⟩)]) rfl trivial (enters_of Tryz.func187 (by kernel_rfl) rfl)
  (HSt.out _ _ Wi hw0i (by omega) c2) belowK_t (fun W o o' hl ho=>below_putX (by omega)) (Below.refl _ _) (fun _=>rfl)
  (AlI J lo W.heap.size) (AlX Jx) (AlI.own J lo _ W.heap.size _ HJ.out (by omega) (by omega) (by omega)) (fun c=>AlX.own Jx c W.heap.size _ HJx.out (by omega)) ?h0
  (AlA qs (fun x Bx=>{ tmps:=#[.func (.yield lo) #[] #[],.pointer (some ⟨Bm,0,none⟩),.pointer (some ⟨W.heap.size,0,none⟩),.pointer (some ⟨Bx,0,none⟩),undef,.pointer (some ⟨b,0,none⟩),.pointer (some ⟨b,0,none⟩),.pointer (some ⟨b,0,none⟩),.pointer (some ⟨b,1,none⟩),.pointer p,.func (.func 187) #[] #[.pointer (some ⟨W.heap.size+1,0,none⟩)],.agg #[.int .i64 x.1.1.1.kind,.int .i64 x.1.1.1.num,.string x.1.1.1.text,x.1.1.2,.int .i64 x.1.2.1.kind,.int .i64 x.1.2.1.num,.string x.1.2.1.text,x.1.2.2],undef,undef,undef,undef,undef,undef,undef,undef,undef],defers:=[] })) (fun pre x a'=>AlA.own _ _ _ _ _ _) ?assign ?body ?done ?stop
 case h0=>exact⟨[],rfl,hJi,bY,hw0i⟩
 case assign=>
  rintro lp pre ⟨x,hx⟩ V0 V K hI hVV hpx hK
  have hI2:AlI J lo W.heap.size pre V:=AlI.own J lo W.heap.size W.heap.size Wi.heap.size HJ.out (by omega) (by omega) (by omega) pre V0 V none hI (zag hVV) (fun r e=>by cases e)
  obtain⟨ys,hys,hj,b1,hB⟩:=hI2
  have hba:Below V.heap.size V (V.alloc (.cells #[.int .i64 x.1.1.kind,.int .i64 x.1.1.num,.string x.1.1.text,x.1.2,.int .i64 x.2.1.kind,.int .i64 x.2.1.num,.string x.2.1.text,x.2.2] 124)):=((Grew.refl V).alloc _).below
  have HK:Hid (K _ _):=hK _ _ ((KeepsOthers.alloc V (.cells #[.int .i64 x.1.1.kind,.int .i64 x.1.1.num,.string x.1.1.text,x.1.2,.int .i64 x.2.1.kind,.int .i64 x.2.1.num,.string x.2.1.text,x.2.2] 124)).from _) (hba.mono hB.size) ⟨ys,hys,HJ.out ys V _ none hj (zag hba) (fun r e=>by cases e),b1.alloc _,hB.trans (hba.mono hB.size)⟩ ⟨⟨V.heap.size,World.alloc_heap_new V _,rfl⟩,hpx⟩
  obtain⟨⟨k,ku⟩,⟨v,vu⟩⟩:=x
  obtain⟨ak,ck,hku,_⟩:=Lies.slice hx.1.1.1
  obtain⟨av,cv,hvu,_⟩:=Lies.slice hx.1.2.1
  simp only at hku hvu
  subst hku hvu
  clear hK
  gi_wp2
  exact HK.out
 case body=>
  rintro lp pre ⟨x,hx⟩ a' V hlp ⟨ys,hys,hj,b1,hB⟩ ⟨⟨Bx,b8,rfl⟩,hpx⟩ hlt
  have hyl:ys.length=pre.length:=by have:=congrArg List.length hys;rwa [List.length_map,List.length_map] at this
  obtain⟨⟨k,ku⟩,⟨v,vu⟩⟩:=x
  obtain⟨ak,ck,hku,_⟩:=Lies.slice hx.1.1.1
  obtain⟨av,cv,hvu,_⟩:=Lies.slice hx.1.2.1
  simp only at hku hvu
  subst hku hvu
  have hVd:Below V.heap.size V V.drew:=(Below.refl _ _).drew
  have hVa:∀o,Below V.heap.size V (V.drew.alloc o):=fun o=>hVd.alloc (Nat.le_refl _) o
  have HCp:Hid (∀V',Below V.heap.size V V'→Calls Tryz.prog 108 #[.agg #[.int .i64 k.kind,.int .i64 k.num,.string k.text,.slice ak k.items.length ck,.int .i64 v.kind,.int .i64 v.num,.string v.text,.slice av v.items.length cv]] V' (CopiedPost (k,v) V')):=fun V' hV'=>copied_14 (k,v) _ _ V' (Lies.keeps (hB.trans (hV'.mono hB.size)) _ _ _ hx.1.1.1) (Lies.keeps (hB.trans (hV'.mono hB.size)) _ _ _ hx.1.2.1) hx.2
  obtain⟨y0,y1,y2,y3,y4,y5,y6,y7⟩:=b8.eight
  simp only [Nat.zero_add] at y0 y1 y2 y3 y4 y5 y6 y7
  have hlx:=b8.lt
  have HY8:Hid _:=HY.out
  clear HSt
  gi_wp2
  refine⟨trivial,(fun h=>by cases h),?_⟩
  refine (CallsIn.inRound lp (callsIn_wide.2 (HCp.out V (Below.refl _ _)))).mono ?_
  rintro e w1 ⟨u1,u2,rfl,hL1,hL2,hg1⟩
  obtain⟨a1,c1,rfl,_⟩:=LiesB.slice hL1
  obtain⟨a2,c2,rfl,_⟩:=LiesB.slice hL2
  simp only at hL1 hL2
  have d1:Go.Boxed w1 W.heap.size 37 (.func (.yield lo) #[] #[]):=(hg1.block _ b1.lt).trans b1
  have hbn:Below V.heap.size V (w1.alloc (.cells #[.int .i64 k.kind,.int .i64 k.num,.string k.text,.slice a1 k.items.length c1,.int .i64 v.kind,.int .i64 v.num,.string v.text,.slice a2 v.items.length c2] 124)):=hg1.alloc hg1.size _
  have hN1:NewC V.heap.size (w1.alloc (.cells #[.int .i64 k.kind,.int .i64 k.num,.string k.text,.slice a1 k.items.length c1,.int .i64 v.kind,.int .i64 v.num,.string v.text,.slice a2 v.items.length c2] 124)) ⟨k,v,a1,c1,a2,c2⟩:=⟨⟨LiesB.keepsB ((Below.refl _ _).alloc (Nat.le_refl _) _) hL1,hx.1.1.2⟩,⟨LiesB.keepsB ((Below.refl _ _).alloc (Nat.le_refl _) _) hL2,hx.1.2.2⟩⟩
  have hpx2:(ys.map CQ.t++[(CQ.mk k v a1 c1 a2 c2).t]) <+: t.items:=by
   rw [←Hq1.out,hys]
   have h9:=hpx.map (fun q:PQR 16 w0 RightP=>trT q.1)
   rw [List.map_append] at h9
   exact h9
  have hyy:=HY.out ys ⟨k,v,a1,c1,a2,c2⟩ V _ hj hbn ⟨hN1,hpx2⟩ (by rw [hyl,←Hqn.out];exact hlt)
  obtain⟨fn,tm,asg,bod,hy,hR⟩:=hyy
  simp only [encCQ] at hy
  have d2:=d1.cell
  have d3:=d1.lt
  clear HCp hpx hpx2 y0 y1 y2 y3 y4 y5 y6 y7
  gi_wp2
  refine⟨(fun h=>by cases h),?_⟩
  refine (roundIn_inX hR lp _).mono ?_
  have Hfin:Hid (∀w2,J (ys++[⟨k,v,a1,c1,a2,c2⟩]) w2→KpY Z w0.heap.size W.heap.size (w1.alloc (.cells #[.int .i64 k.kind,.int .i64 k.num,.string k.text,.slice a1 k.items.length c1,.int .i64 v.kind,.int .i64 v.num,.string v.text,.slice a2 v.items.length c2] 124)) w2→KeepsFrom Wi.heap.size V w2∧Below w0.heap.size V w2∧AlI J lo W.heap.size (pre++[⟨((k,.slice ak k.items.length ck),(v,.slice av v.items.length cv)),hx⟩]) w2):=fun w2 h1 hk=>⟨(keepsBelowY hbn).trans (keepsLaterY hk.2.2 (by omega)),(hbn.mono hB.size).trans hk.1,_,by rw [List.map_append,List.map_append,hys];rfl,h1,hk.2.1 _ _ _ hZ (d1.alloc _),hB.trans ((hbn.mono hB.size).trans hk.1)⟩
  have Hstp:Hid (∀w2,Jx (ys++[⟨k,v,a1,c1,a2,c2⟩]) w2→KpY Z w0.heap.size W.heap.size (w1.alloc (.cells #[.int .i64 k.kind,.int .i64 k.num,.string k.text,.slice a1 k.items.length c1,.int .i64 v.kind,.int .i64 v.num,.string v.text,.slice a2 v.items.length c2] 124)) w2→KeepsFrom Wi.heap.size V w2∧Below w0.heap.size V w2∧AlX Jx .ret (pre++[⟨((k,.slice ak k.items.length ck),(v,.slice av v.items.length cv)),hx⟩]) w2):=fun w2 h1 hk=>⟨(keepsBelowY hbn).trans (keepsLaterY hk.2.2 (by omega)),(hbn.mono hB.size).trans hk.1,rfl,_,h1⟩
  rintro e w2 (⟨rfl,hj2,hk2⟩|⟨rfl,hj2,hk2⟩)
  ·have HE:Hid _:=Hfin.out w2 hj2 hk2
   clear hj2 hk2 Hfin Hstp hy hR d1 d2 d3 hN1 hbn hL1 hL2 hg1
   gi_wp2
   exact HE.out
  ·have HE:Hid _:=Hstp.out w2 hj2 hk2
   clear hj2 hk2 Hfin Hstp hy hR d1 d2 d3 hN1 hbn hL1 hL2 hg1
   gi_wp2
   exact HE.out
 case done=>
  rintro D xs V hD rfl ⟨ys,hys,hj,b1,hB⟩ hK
  have HM:Hid (MarksX W.heap.size V [D]):=MarksX.one (by omega) hK
  have HT:Hid (J ys V):=hj
  have HS:Hid (ys.map CQ.t=t.items):=hys.trans Hq1.out
  clear hj b1 hB hK hys
  gi_wp2
  refine leavesX W.heap.size (fun V=>J ys V) (fun V D hD hK hT=>OwnFrom.putObj (show OwnFrom W.heap.size J from HJ.out) _ hT hD hK rfl) (fun V hT=>⟨.tuple #[],by simp [results,Tryz.results171,go_sem],⟨_,rfl⟩,.inl ⟨ys,HS.out,hT⟩⟩) [D] V HM.out HT.out
 case stop=>
  rintro D c pre V hD _ ⟨rfl,ys,hj⟩ hK
  have HM:Hid (MarksX W.heap.size V [D]):=MarksX.one (by omega) hK
  have HT:Hid (Jx ys V):=hj
  clear hj hK
  gi_wp2
  refine leavesX W.heap.size (fun V=>Jx ys V) (fun V D hD hK hT=>OwnFrom.putObj (show OwnFrom W.heap.size Jx from HJx.out) _ hT hD hK rfl) (fun V hT=>⟨.tuple #[],by simp [results,Tryz.results171,go_sem],⟨_,rfl⟩,.inr ⟨ys,trivial,hT⟩⟩) [D] V HM.out HT.out
theorem make_pairs (n:Nat) (hn:n≤65536):∃M:Array Value,M.size=n*8∧∀W:World,(Instr.makeSlice 56 (.int .i64 (n:Int)) (.int .i64 (n:Int))).run Tryz.prog W=.ok (.slice (some ⟨W.heap.size,0,none⟩) n n) (W.alloc (.cells M 124)):=by
 obtain⟨i0,hi,hz0,hz1,hz2⟩:=infoQ
 refine⟨madeCells (Value.agg #[.int .i64 0,.int .i64 0,.string ⟨#[]⟩,.slice none 0 0,.int .i64 0,.int .i64 0,.string ⟨#[]⟩,.slice none 0 0]).cells (((n:Nat):Int).toNat*i0.size),?_,fun W=>?_⟩
 ·rw [size_madeCells,hz1];simp
 ·have h:=run_make (P:=Tryz.prog) W 56 124 i0 _ Tryz.underlying56 hi hz0 .i64 .i64 (n:Int) (n:Int) (by omega) (by omega) (by rw [hz2];omega) (by omega)
  simpa using h
def NewQ (base:Nat) (w:World) (p:PP):Prop:=(LiesB base 16 w p.1.1.items p.1.2∧p.1.1.text.size≤9223372036854775807)∧(LiesB base 16 w p.2.1.items p.2.2∧p.2.1.text.size≤9223372036854775807)
theorem NewQ.keeps {base:Nat} {w w':World} {p:PP} (h:NewQ base w p) (hb:Below w.heap.size w w'):NewQ base w' p:=⟨⟨LiesB.keepsB hb h.1.1,h.1.2⟩,⟨LiesB.keepsB hb h.2.1,h.2.2⟩⟩
theorem NewQ.good {base:Nat} {w:World} {p:PP} (h:NewQ base w p):GoodQ 16 w p:=⟨⟨LiesB.lies _ _ _ h.1.1,h.1.2⟩,⟨LiesB.lies _ _ _ h.2.1,h.2.2⟩⟩
theorem NewQ.lower {base b':Nat} {w:World} {p:PP} (h:NewQ base w p) (hb:b'≤base):NewQ b' w p:=⟨⟨LiesB.lower14 hb _ _ _ h.1.1,h.1.2⟩,⟨LiesB.lower14 hb _ _ _ h.2.1,h.2.2⟩⟩
structure CpQ (G n:Nat) (wr:World) (ps:List PP):Prop where
 row:QAt wr G 0 ps
 lists:∀p∈ps,NewQ (G+1) wr p
 there:∀k,k<n*8→(wr.cell? ⟨G,k,none⟩).isSome∧wr.frozen? ⟨G,k,none⟩=false
 lt:G<wr.heap.size
theorem CpQ.keeps {G n:Nat} {wr wr':World} {ps:List PP} (h:CpQ G n wr ps) (hb:Below wr.heap.size wr wr'):CpQ G n wr' ps:=
 ⟨h.row.keeps hb,fun p hp=>(h.lists p hp).keeps hb,fun k hk=>by
  obtain⟨v,hv⟩:=Option.isSome_iff_exists.1 (h.there k hk).1
  exact⟨by rw [zaa hb hv];rfl,(hb.frozen (p:=⟨G,k,none⟩) h.lt).trans (h.there k hk).2⟩,Nat.lt_of_lt_of_le h.lt hb.size⟩
theorem CpQ.put {G n:Nat} {wr:World} {ps:List PP} (h:CpQ G n wr ps) (p:PP) (hp:NewQ (G+1) wr p) (hl:ps.length<n):CpQ G n (wr.setCells G (ps.length*8) (encQ p)) (ps++[p]):=by
 have hlen:(encQ p).length=8:=zar p
 have hin:=World.cell?_setCells_in G (encQ p) (ps.length*8) wr (fun j hj=>by
  obtain⟨v,hv⟩:=Option.isSome_iff_exists.1 (h.there (ps.length*8+j) (by omega)).1
  rw [hv];rfl)
 have hnew:∀q,NewQ (G+1) wr q→NewQ (G+1) (wr.setCells G (ps.length*8) (encQ p)) q:=fun q hq=>⟨⟨LiesB.stays (fun a u ha hu=>⟨zap (g:=G) (fun e=>by omega) hu,by rw [World.frozen?_setCells]⟩) _ _ _ hq.1.1,hq.1.2⟩,⟨LiesB.stays (fun a u ha hu=>⟨zap (g:=G) (fun e=>by omega) hu,by rw [World.frozen?_setCells]⟩) _ _ _ hq.2.1,hq.2.2⟩⟩
 refine⟨fun j u hj=>?_,fun q hq=>?_,fun k hk=>⟨?_,by rw [World.frozen?_setCells];exact (h.there k hk).2⟩,by rw [size_setCells];exact h.lt⟩
 ·rw [List.flatMap_append] at hj
  by_cases hlt:j<(ps.flatMap encQ).length
  ·rw [List.getElem?_append_left hlt] at hj
   rw [zav] at hlt
   rw [World.cell?_setCells_out G (encQ p) (ps.length*8) wr ⟨G,0+j,none⟩ (fun _ _=>by simp only;omega)]
   exact h.row j u hj
  ·rw [List.getElem?_append_right (by omega),zav] at hj
   rw [zav] at hlt
   have e:[p].flatMap encQ=encQ p:=by simp
   rw [e] at hj
   obtain⟨hl2,he⟩:=List.getElem?_eq_some_iff.1 hj
   have h9:=hin (j-ps.length*8) hl2
   have e2:ps.length*8+(j-ps.length*8)=0+j:=by omega
   rw [e2,he] at h9
   exact h9
 ·rcases List.mem_append.1 hq with hq|hq
  ·exact hnew q (h.lists q hq)
  ·rw [List.mem_singleton.1 hq];exact hnew p hp
 ·by_cases hr:ps.length*8≤k∧k<ps.length*8+8
  ·have h9:=hin (k-ps.length*8) (by omega)
   have e2:ps.length*8+(k-ps.length*8)=k:=by omega
   rw [e2] at h9
   rw [h9];rfl
  ·rw [World.cell?_setCells_out G (encQ p) (ps.length*8) wr ⟨G,k,none⟩ (fun _ _=>by simp only;omega)]
   exact (h.there k hk).1
def CopiesPost (l:List PT) (w:World) (e:Ending) (w':World):Prop:=∃v qs,e=.returned v∧qs.map trT=l∧SlQ w.heap.size 16 w' qs v∧(∀p∈qs,NewQ w.heap.size w' p)∧Below w.heap.size w w'
theorem copies_14 (qs:List PP) (v:Value) (w:World) (hv:SlQ 0 16 w qs v) (hlen:qs.length≤65536) (hr:∀p∈qs,zab 16 p.1.1=true∧zab 16 p.2.1=true) :
 Calls Tryz.prog 63 #[v] w (CopiesPost (qs.map trT) w):=by
 have HS:Hid (SlQ 0 16 w qs v):=hv
 obtain⟨a0,c0,rfl,_⟩:=hv.slice
 have HR:Hid _:=hr
 obtain⟨M,hMs,hmk⟩:=make_pairs qs.length hlen
 have HMs:Hid (M.size=qs.length*8):=hMs
 obtain⟨n,hn⟩:∃n,n=qs.length:=⟨_,rfl⟩
 have HN:Hid (n=qs.length):=hn
 rw [←hn] at hmk hlen HMs ⊢
 clear hMs hv hr hn
 go_enter Tryz.func63,Tryz.ntmps63
 go_wp2_with fail
 go_loopg [11] n (fun q i wr=>∃(j:Nat) (ps:List PP),i=.int .i64 (j:Int)∧j≤n∧q=n-j∧Hid (ps.length=j∧ps.map trT=(qs.take j).map trT)∧Hid (CpQ w.heap.size n wr ps)∧Hid (Below w.heap.size w wr))
 case atStart=>
  refine⟨0,[],rfl,by omega,by omega,⟨rfl,rfl⟩,⟨QAt.nil _ _ _,(fun p hp=>by cases hp),(fun k hk=>?_),(by simp)⟩,(Below.refl _ _).alloc (Nat.le_refl _) _⟩
  have hk':k<M.size:=by rw [HMs.out];exact hk
  simp [hk']
 case round=>
  obtain⟨j,ps,rfl,hj,hk,Hps,HC,HB⟩:=hrel
  have Hk:Hid _:=hk
  clear hk hmk
  have hbw:=HB.out
  by_cases hlt:j<n
  ·have hlt':j<qs.length:=by have:=HN.out;omega
   obtain⟨b1,o1,c1',hv1,_,hq,hgq⟩:=HS.out.full (fun e=>by rw [e] at hlt';cases hlt')
   have ha1:a0=some ⟨b1,o1,none⟩:=by injection hv1
   subst ha1
   have Ex:=hq.at j hlt'
   have gx:=hgq qs[j] (List.getElem_mem hlt')
   have rx:=HR.out qs[j] (List.getElem_mem hlt')
   have Htk:Hid ((qs.take (j+1)).map trT=(qs.take j).map trT++[trT qs[j]]):=by
    show _=_
    rw [List.take_succ_eq_append_getElem hlt',List.map_append];rfl
   generalize qs[j]=x at *
   obtain⟨⟨t1,u1⟩,⟨t2,u2⟩⟩:=x
   obtain⟨a1,c1,hu1,_⟩:=Lies.slice gx.1.1
   obtain⟨a2,c2,hu2,_⟩:=Lies.slice gx.2.1
   simp only at hu1 hu2
   subst hu1 hu2
   obtain⟨p0,p1,p2,p3,p4,p5,p6,p7⟩:=Ex.keeps hbw
   simp only at p0 p1 p2 p3 p4 p5 p6 p7
   have hl1:b1<wr.heap.size:=zad p0
   have hws2:w.heap.size≤wr.heap.size:=hbw.size
   have hG:=HC.out.lt
   have hbA:∀o,Below w.heap.size w (wr.alloc o):=fun o=>hbw.alloc hws2 o
   have HCp:Hid (∀o,Calls Tryz.prog 108 #[.agg #[.int .i64 t1.kind,.int .i64 t1.num,.string t1.text,(.slice a1 t1.items.length c1),.int .i64 t2.kind,.int .i64 t2.num,.string t2.text,(.slice a2 t2.items.length c2)]] (wr.alloc o) (CopiedPost (t1,t2) (wr.alloc o))):=fun o=>copied_14 (t1,t2) _ _ (wr.alloc o) (Lies.keeps (hbA o) _ _ _ gx.1.1) (Lies.keeps (hbA o) _ _ _ gx.2.1) rx
   have HTx:Hid (t1.text.size≤9223372036854775807∧t2.text.size≤9223372036854775807):=⟨gx.1.2,gx.2.2⟩
   have HBA:Hid _:=hbA
   have hji:(j:Int)<(n:Nat):=by omega
   clear gx rx Ex hq hgq hv1 hbA
   go_wp2_with fail
   refine Calls.mono (HCp.out _) ?_
   rintro e w1 ⟨k5,v5,rfl,hl1',hl2',hg⟩
   obtain⟨b1',d1,rfl,_⟩:=LiesB.slice hl1'
   obtain⟨b2',d2,rfl,_⟩:=LiesB.slice hl2'
   have hb2:Below w.heap.size w w1:=(HBA.out _).trans (hg.mono (HBA.out _).size)
   have HC1:Hid (CpQ w.heap.size n w1 ps):=(HC.out.keeps ((Below.refl _ _).alloc (Nat.le_refl _) _)).keeps hg
   have hpl:=Hps.out.1
   have HNw:Hid (NewQ (w.heap.size+1) w1 ((t1,.slice b1' t1.items.length d1),(t2,.slice b2' t2.items.length d2))):=⟨⟨LiesB.lower14 (by simp;omega) _ _ _ hl1',HTx.out.1⟩,⟨LiesB.lower14 (by simp;omega) _ _ _ hl2',HTx.out.2⟩⟩
   have hput:=HC1.out.put _ HNw.out (by omega)
   rw [hpl] at hput
   have Hput:Hid _:=hput
   clear hg p0 p1 p2 p3 p4 p5 p6 p7 hl1' hl2' HC HCp hput
   obtain⟨y0,s0⟩:=Option.isSome_iff_exists.1 (HC1.out.there (j*8) (by omega)).1
   obtain⟨y1,s1⟩:=Option.isSome_iff_exists.1 (HC1.out.there (j*8+1) (by omega)).1
   obtain⟨y2,s2⟩:=Option.isSome_iff_exists.1 (HC1.out.there (j*8+2) (by omega)).1
   obtain⟨y3,s3⟩:=Option.isSome_iff_exists.1 (HC1.out.there (j*8+3) (by omega)).1
   obtain⟨y4,s4⟩:=Option.isSome_iff_exists.1 (HC1.out.there (j*8+4) (by omega)).1
   obtain⟨y5,s5⟩:=Option.isSome_iff_exists.1 (HC1.out.there (j*8+5) (by omega)).1
   obtain⟨y6,s6⟩:=Option.isSome_iff_exists.1 (HC1.out.there (j*8+6) (by omega)).1
   obtain⟨y7,s7⟩:=Option.isSome_iff_exists.1 (HC1.out.there (j*8+7) (by omega)).1
   have z0:=(HC1.out.there (j*8) (by omega)).2
   have z1:=(HC1.out.there (j*8+1) (by omega)).2
   have z2:=(HC1.out.there (j*8+2) (by omega)).2
   have z3:=(HC1.out.there (j*8+3) (by omega)).2
   have z4:=(HC1.out.there (j*8+4) (by omega)).2
   have z5:=(HC1.out.there (j*8+5) (by omega)).2
   have z6:=(HC1.out.there (j*8+6) (by omega)).2
   have z7:=(HC1.out.there (j*8+7) (by omega)).2
   have HB2:Hid (Below w.heap.size w (w1.setCells w.heap.size (j*8) (encQ ((t1,.slice b1' t1.items.length d1),(t2,.slice b2' t2.items.length d2))))):=
    (((((((hb2.setCell (p:=⟨w.heap.size,j*8,none⟩) (Nat.le_refl _) _).setCell (p:=⟨w.heap.size,j*8+1,none⟩) (Nat.le_refl _) _).setCell (p:=⟨w.heap.size,j*8+1+1,none⟩) (Nat.le_refl _) _).setCell (p:=⟨w.heap.size,j*8+1+1+1,none⟩) (Nat.le_refl _) _).setCell (p:=⟨w.heap.size,j*8+1+1+1+1,none⟩) (Nat.le_refl _) _).setCell (p:=⟨w.heap.size,j*8+1+1+1+1+1,none⟩) (Nat.le_refl _) _).setCell (p:=⟨w.heap.size,j*8+1+1+1+1+1+1,none⟩) (Nat.le_refl _) _).setCell (p:=⟨w.heap.size,j*8+1+1+1+1+1+1+1,none⟩) (Nat.le_refl _) _
   have Hp2:Hid ((ps++[((t1,Value.slice b1' t1.items.length d1),(t2,Value.slice b2' t2.items.length d2))]).length=j+1∧(ps++[((t1,Value.slice b1' t1.items.length d1),(t2,Value.slice b2' t2.items.length d2))]).map trT=(qs.take (j+1)).map trT):=by
    refine⟨by simp [hpl],?_⟩
    rw [List.map_append,Hps.out.2,Htk.out];rfl
   clear hpl
   go_wp2_with fail
   go_roundg (n-(j+1))
   case measure=>have:=Hk.out;omega
   case rel=>exact⟨j+1,_,by go_num,by omega,rfl,Hp2,Hput,HB2⟩
  ·have hjl:j=n:=by omega
   have HE:Hid (CopiesPost (qs.map trT) w (.returned (.slice (some ⟨w.heap.size,0,none⟩) n n)) wr):=by
    refine⟨_,ps,rfl,?_,⟨_,n,by rw [Hps.out.1,hjl],by rw [Hps.out.1,hjl];exact Nat.le_refl _,by rw [Hps.out.1];omega,fun _=>⟨w.heap.size,0,rfl,Nat.le_refl _,HC.out.row⟩,fun p hp=>(HC.out.lists p hp).good⟩,fun p hp=>(HC.out.lists p hp).lower (by omega),hbw⟩
    rw [Hps.out.2,hjl,HN.out,List.take_length]
   have hji : ¬(j:Int)<(n:Nat):=by omega
   go_wp2_with fail
   go_ret
   exact HE.out
attribute [local go_sem] Oper.semAt_some
theorem mall14 (p:Option Addr) (w:World):Calls Tryz.prog 140 #[.pointer p] w fun e w'=>e=.returned (.func (.func 171) #[] #[.pointer (some ⟨w.heap.size,0,none⟩)])∧w'=w.alloc (.cells #[.pointer p] 58):=by
 go_enter Tryz.func140,Tryz.ntmps140
 go_wp2_with fail
 go_ret
 exact⟨rfl,rfl⟩
theorem byK_cmp (q:Nat):RT.Cmp (byK q):=by
 refine⟨fun a b=>?_,fun a b c h1 h2=>?_⟩
 ·have:=zai q a.1 b.1
  show ordV q a.1 b.1<0↔0<ordV q b.1 a.1
  omega
 ·have h1':ordV q a.1 b.1≤0:=h1
  have h2':ordV q b.1 c.1<0:=h2
  obtain⟨h3,h4⟩:=ordV_goes q a.1 b.1 c.1 h1' (by omega)
  show ordV q a.1 c.1<0
  by_cases h0:ordV q a.1 c.1=0
  ·have:=(h4 h0).2
   omega
  ·omega
theorem natural_14 (d:Nat) (x:PT) (k:VT) (ku vu uk:Value) (w:World) (hx:Lies d w x.1.items ku) (hk:Lies d w k.items uk):Calls Tryz.prog 110 #[.agg #[.int .i64 x.1.kind,.int .i64 x.1.num,.string x.1.text,ku,.int .i64 x.2.kind,.int .i64 x.2.num,.string x.2.text,vu],.agg #[.int .i64 k.kind,.int .i64 k.num,.string k.text,uk]] w fun e w'=>e=.returned (.int .i64 (cmpV d x.1 k))∧Below w.heap.size w w':=by
 have HC:Hid (∀V,Below w.heap.size w V→Calls Tryz.prog 69 #[.agg #[.int .i64 x.1.kind,.int .i64 x.1.num,.string x.1.text,ku],.agg #[.int .i64 k.kind,.int .i64 k.num,.string k.text,uk]] V fun e w'=>e=.returned (.int .i64 (cmpV d x.1 k))∧Grew V w'):=fun V hV=>compare_any d x.1 k ku uk V (Lies.keeps hV _ _ _ hx) (Lies.keeps hV _ _ _ hk)
 have HB:Hid (∀A B,Below w.heap.size w ((w.alloc A).alloc B)):=fun A B=>(((Grew.refl w).alloc A).alloc B).below
 clear hx hk
 go_enter Tryz.func110,Tryz.ntmps110
 go_wp2_with fail
 refine (HC.out _ (HB.out _ _)).mono ?_
 rintro e w1 ⟨rfl,hg⟩
 have hb1:Below w.heap.size w w1:=(HB.out _ _).trans (hg.below.mono (HB.out _ _).size)
 clear hg
 go_wp2_with fail
 go_ret
 exact⟨rfl,hb1⟩
theorem sorted1_14 (d:Nat):CmpQ 109 (GoodQ d) (cmpQ d):=by
 intro p r W hp hr
 obtain⟨⟨t,u⟩,⟨t2,u2⟩⟩:=p
 obtain⟨⟨s,v⟩,⟨s2,v2⟩⟩:=r
 have HC:Hid (∀V,Below W.heap.size W V→Calls Tryz.prog 110 #[.agg #[.int .i64 t.kind,.int .i64 t.num,.string t.text,u,.int .i64 t2.kind,.int .i64 t2.num,.string t2.text,u2],.agg #[.int .i64 s.kind,.int .i64 s.num,.string s.text,v]] V fun e w'=>e=.returned (.int .i64 (cmpV d t s))∧Below V.heap.size V w'):=fun V hV=>natural_14 d (t,t2) s u u2 v V (Lies.keeps hV _ _ _ hp.1.1) (Lies.keeps hV _ _ _ hr.1.1)
 show Calls Tryz.prog 109 #[.agg #[.int .i64 t.kind,.int .i64 t.num,.string t.text,u,.int .i64 t2.kind,.int .i64 t2.num,.string t2.text,u2],.agg #[.int .i64 s.kind,.int .i64 s.num,.string s.text,v,.int .i64 s2.kind,.int .i64 s2.num,.string s2.text,v2]] W fun e W'=>e=.returned (.int .i64 (cmpV d t s))∧Below W.heap.size W W'
 have HB:Hid (∀A B,Below W.heap.size W ((W.alloc A).alloc B)):=fun A B=>(((Grew.refl W).alloc A).alloc B).below
 clear hp hr
 go_enter Tryz.func109,Tryz.ntmps109
 go_wp2_with fail
 refine (HC.out _ (HB.out _ _)).mono ?_
 rintro e w1 ⟨rfl,hg⟩
 have hb1:Below W.heap.size W w1:=(HB.out _ _).trans (hg.mono (HB.out _ _).size)
 clear hg
 go_wp2_with fail
 go_ret
 exact⟨rfl,hb1⟩
theorem search_14 (d:Nat) (qs:List PP) (v:Value) (k:VT) (uk:Value) (w:World) (hv:SlQ 0 d w qs v) (hk:Lies d w k.items uk) (hlen:qs.length≤65536)
 (K:Nat) (hK:K<qs.length) (hlo:∀t (h:t<qs.length),t<K→cmpV d qs[t].1.1 k<0) (hhi:∀t (h:t<qs.length),K≤t→¬cmpV d qs[t].1.1 k<0) (hF:cmpV d qs[K].1.1 k=0) :
 Calls Tryz.prog 111 #[v,.agg #[.int .i64 k.kind,.int .i64 k.num,.string k.text,uk],.func (.func 110) #[] #[]] w fun e w'=>e=.returned (.tuple #[.int .i64 (K:Int),.bool true])∧Below w.heap.size w w':=by
 obtain⟨ak,ck,rfl,_⟩:=Lies.slice hk
 obtain⟨b,o,c,rfl,_,hrow,hgd⟩:=hv.full (fun e=>by rw [e] at hK;cases hK)
 have Hr:Hid (QAt w b o qs):=hrow
 have HG:Hid (∀p∈qs,GoodQ d w p):=hgd
 have HT:Hid (Lies d w k.items (.slice ak k.items.length ck)):=hk
 have Hlo:Hid _:=hlo
 have Hhi:Hid _:=hhi
 have HF:Hid (∀(h:K<qs.length),cmpV d qs[K].1.1 k=0):=fun _=>hF
 have eg:∀args w,(callFunc 110 args).run Tryz.prog w=.ok (.enter 110 args) w:=enters_of Tryz.func110 (by kernel_rfl) rfl
 obtain⟨n,hn⟩:∃n,n=qs.length:=⟨_,rfl⟩
 have HNn:Hid (n=qs.length):=hn
 rw [←hn] at hlen ⊢
 have HKn:Hid (K<qs.length):=hK
 have hKn:K<n:=by omega
 have HB0:Hid (Bx (w.alloc (.cells #[.int .i64 k.kind,.int .i64 k.num,.string k.text,.slice ak k.items.length ck] 24)) w.heap.size k (.slice ak k.items.length ck)):=bx_alloc w k _
 clear hrow hgd hk hlo hhi hF hv hn hK
 go_enter Tryz.func111,Tryz.ntmps111
 go_wp2_with fail
 go_loopg [9,10] n (fun q i j wr=>∃a e:Nat,i=.int .i64 (a:Int)∧j=.int .i64 (e:Int)∧q=e-a∧a≤K∧K≤e∧e≤n∧Hid (Bx wr w.heap.size k (.slice ak k.items.length ck))∧Hid (Below w.heap.size w wr))
 case atStart=>exact⟨0,n,rfl,rfl,by omega,by omega,by omega,Nat.le_refl _,HB0,((Grew.refl _).alloc _).below⟩
 case round=>
  obtain⟨a,e,rfl,rfl,hq,haK,hKe,hen,HBx,HB⟩:=hrel
  have Hq:Hid _:=hq
  have hbw:=HB.out
  clear hq HB0
  by_cases hlt:a<e
  ·obtain⟨h,hh⟩:∃h,h=(a+e) / 2:=⟨_,rfl⟩
   have Hh:Hid (h=(a+e) / 2):=hh
   have hl1:h<qs.length:=by have:=HNn.out;omega
   have hlti:(a:Int)<(e:Int):=by omega
   have hd:((a:Int)+(e:Int)) / 2=(h:Int):=by omega
   have hhn:h<n:=by omega
   have hhi1:(h:Int)<(n:Nat):=by omega
   clear hh
   have h8:=Hr.out.at h hl1
   have gp:=HG.out qs[h] (List.getElem_mem hl1)
   have HLo:Hid (h<K→cmpV d qs[h].1.1 k<0):=fun hk=>Hlo.out h hl1 hk
   have HHi:Hid (K≤h→¬cmpV d qs[h].1.1 k<0):=fun hk=>by have:=Hhi.out h hl1 hk;omega
   generalize qs[h]=x at *
   obtain⟨⟨t1,u1⟩,⟨t2,u2⟩⟩:=x
   obtain⟨a1,c1,hu1,_⟩:=Lies.slice gp.1.1
   obtain⟨a2,c2,hu2,_⟩:=Lies.slice gp.2.1
   simp only at hu1 hu2
   subst hu1 hu2
   obtain⟨p0,p1,p2,p3,p4,p5,p6,p7⟩:=h8.keeps hbw
   simp only at p0 p1 p2 p3 p4 p5 p6 p7
   obtain⟨r0,r1,r2,r3,_⟩:=HBx.out
   have HN:Hid (∀V,Below wr.heap.size wr V→Calls Tryz.prog 110 #[.agg #[.int .i64 t1.kind,.int .i64 t1.num,.string t1.text,(.slice a1 t1.items.length c1),.int .i64 t2.kind,.int .i64 t2.num,.string t2.text,(.slice a2 t2.items.length c2)],.agg #[.int .i64 k.kind,.int .i64 k.num,.string k.text,.slice ak k.items.length ck]] V fun e w'=>e=.returned (.int .i64 (cmpV d t1 k))∧Below V.heap.size V w'):=fun V hV=>natural_14 d (t1,t2) k _ _ _ V (Lies.keeps (hbw.trans (hV.mono hbw.size)) _ _ _ gp.1.1) (Lies.keeps (hbw.trans (hV.mono hbw.size)) _ _ _ HT.out)
   have HZl:Hid (h<K→cmpV d t1 k<0):=HLo
   have HZh:Hid (K≤h→¬cmpV d t1 k<0):=HHi
   obtain⟨Z,hZ⟩:∃Z,Z=cmpV d t1 k:=⟨_,rfl⟩
   rw [←hZ] at HN HZl HZh
   clear gp h8 HLo HHi hZ
   go_wp2_with fail
   go_region_held3 (fun w'=>w'.cell? ⟨b,o+h*8,none⟩=some (.int .i64 t1.kind)∧w'.cell? ⟨b,o+h*8+1,none⟩=some (.int .i64 t1.num)∧w'.cell? ⟨b,o+h*8+2,none⟩=some (.string t1.text)∧w'.cell? ⟨b,o+h*8+3,none⟩=some (.slice a1 t1.items.length c1)∧w'.cell? ⟨b,o+h*8+4,none⟩=some (.int .i64 t2.kind)∧w'.cell? ⟨b,o+h*8+5,none⟩=some (.int .i64 t2.num)∧w'.cell? ⟨b,o+h*8+6,none⟩=some (.string t2.text)∧w'.cell? ⟨b,o+h*8+7,none⟩=some (.slice a2 t2.items.length c2)∧w'.cell? ⟨w.heap.size,0,none⟩=some (.int .i64 k.kind)∧w'.cell? ⟨w.heap.size,1,none⟩=some (.int .i64 k.num)∧w'.cell? ⟨w.heap.size,2,none⟩=some (.string k.text)∧w'.cell? ⟨w.heap.size,3,none⟩=some (.slice ak k.items.length ck)) (go_keep)
    (first|(go_at_fn 110;(with_reducible refine Calls.mono (HN.out _ ((Below.refl _ _).drew)) ?_);rintro ee w1 ⟨rfl,hg1⟩;have hb1':Below wr.heap.size wr w1:=(Below.refl _ _).drew.trans hg1;have hb1:Below w.heap.size w w1:=hbw.trans (hb1'.mono hbw.size);have p0:=zaa hb1' p0;have p1:=zaa hb1' p1;have p2:=zaa hb1' p2;have p3:=zaa hb1' p3;have p4:=zaa hb1' p4;have p5:=zaa hb1' p5;have p6:=zaa hb1' p6;have p7:=zaa hb1' p7;have r0:=zaa hb1' r0;have r1:=zaa hb1' r1;have r2:=zaa hb1' r2;have r3:=zaa hb1' r3;clear hg1))
   have HBx1:Hid (Bx w1 w.heap.size k (.slice ak k.items.length ck)):=HBx.out.keeps hb1'
   clear p0 p1 p2 p3 p4 p5 p6 p7 r0 r1 r2 r3 hb1' HBx HN
   by_cases hz:Z<0
   ·have hhK:h<K:=by
     by_cases hk:h<K
     ·exact hk
     ·have:=HZh.out (by omega);omega
    go_wp2_with fail
    go_roundg (e-(h+1))
    case measure=>have:=Hq.out;have:=Hh.out;omega
    case rel=>exact⟨h+1,e,by go_num,rfl,rfl,by omega,hKe,hen,HBx1,hb1⟩
   ·have hhK:K≤h:=by
     by_cases hk:h<K
     ·exact absurd (HZl.out hk) hz
     ·omega
    go_wp2_with fail
    go_roundg (h-a)
    case measure=>have:=Hq.out;have:=Hh.out;omega
    case rel=>exact⟨a,h,rfl,by go_num,rfl,haK,hhK,by have:=Hh.out;omega,HBx1,hb1⟩
  ·have haK2:a=K:=by omega
   have hnlt : ¬(a:Int)<(e:Int):=by omega
   have hendi:(a:Int)<(n:Nat):=by omega
   have hl1:K<qs.length:=HKn.out
   have h8:=Hr.out.at K hl1
   have gp:=HG.out qs[K] (List.getElem_mem hl1)
   have HZ:Hid (cmpV d qs[K].1.1 k=0):=HF.out hl1
   clear HF Hlo Hhi
   generalize qs[K]=x at *
   obtain⟨⟨t1,u1⟩,⟨t2,u2⟩⟩:=x
   obtain⟨a1,c1,hu1,_⟩:=Lies.slice gp.1.1
   obtain⟨a2,c2,hu2,_⟩:=Lies.slice gp.2.1
   simp only at hu1 hu2
   subst hu1 hu2
   subst haK2
   obtain⟨p0,p1,p2,p3,p4,p5,p6,p7⟩:=h8.keeps hbw
   simp only at p0 p1 p2 p3 p4 p5 p6 p7
   obtain⟨r0,r1,r2,r3,_⟩:=HBx.out
   have HN:Hid (∀V,Below wr.heap.size wr V→Calls Tryz.prog 110 #[.agg #[.int .i64 t1.kind,.int .i64 t1.num,.string t1.text,(.slice a1 t1.items.length c1),.int .i64 t2.kind,.int .i64 t2.num,.string t2.text,(.slice a2 t2.items.length c2)],.agg #[.int .i64 k.kind,.int .i64 k.num,.string k.text,.slice ak k.items.length ck]] V fun e w'=>e=.returned (.int .i64 0)∧Below V.heap.size V w'):=fun V hV=>by
    have h9:=natural_14 d (t1,t2) k (.slice a1 t1.items.length c1) (.slice a2 t2.items.length c2) (.slice ak k.items.length ck) V (Lies.keeps (hbw.trans (hV.mono hbw.size)) _ _ _ gp.1.1) (Lies.keeps (hbw.trans (hV.mono hbw.size)) _ _ _ HT.out)
    have e0:cmpV d t1 k=0:=HZ.out
    rwa [e0] at h9
   clear gp h8 HZ
   go_wp2_with fail
   go_region_held3 (fun w'=>w'.cell? ⟨b,o+a*8,none⟩=some (.int .i64 t1.kind)∧w'.cell? ⟨b,o+a*8+1,none⟩=some (.int .i64 t1.num)∧w'.cell? ⟨b,o+a*8+2,none⟩=some (.string t1.text)∧w'.cell? ⟨b,o+a*8+3,none⟩=some (.slice a1 t1.items.length c1)∧w'.cell? ⟨b,o+a*8+4,none⟩=some (.int .i64 t2.kind)∧w'.cell? ⟨b,o+a*8+5,none⟩=some (.int .i64 t2.num)∧w'.cell? ⟨b,o+a*8+6,none⟩=some (.string t2.text)∧w'.cell? ⟨b,o+a*8+7,none⟩=some (.slice a2 t2.items.length c2)∧w'.cell? ⟨w.heap.size,0,none⟩=some (.int .i64 k.kind)∧w'.cell? ⟨w.heap.size,1,none⟩=some (.int .i64 k.num)∧w'.cell? ⟨w.heap.size,2,none⟩=some (.string k.text)∧w'.cell? ⟨w.heap.size,3,none⟩=some (.slice ak k.items.length ck)) (go_keep)
    (first|(go_at_fn 110;(with_reducible refine Calls.mono (HN.out _ ((Below.refl _ _).drew)) ?_);rintro ee w1 ⟨rfl,hg1⟩;have hb1':Below wr.heap.size wr w1:=(Below.refl _ _).drew.trans hg1;have hb1:Below w.heap.size w w1:=hbw.trans (hb1'.mono hbw.size);have p0:=zaa hb1' p0;have p1:=zaa hb1' p1;have p2:=zaa hb1' p2;have p3:=zaa hb1' p3;have p4:=zaa hb1' p4;have p5:=zaa hb1' p5;have p6:=zaa hb1' p6;have p7:=zaa hb1' p7;have r0:=zaa hb1' r0;have r1:=zaa hb1' r1;have r2:=zaa hb1' r2;have r3:=zaa hb1' r3;clear hg1))
   all_goals (first|(go_ret2;exact⟨rfl,hb1⟩)|(go_wp2_with fail;go_ret2;exact⟨rfl,hb1⟩))
theorem place_of {l:List PP} (hr:RisesK (cmpQ 16) l) {k:VT} (hk:k∈l.map (·.1.1)):∃K,∃h:K<l.length,l[K].1.1=k∧(∀t (h2:t<l.length),t<K→cmpV 16 l[t].1.1 k<0)∧(∀t (h2:t<l.length),K≤t→¬cmpV 16 l[t].1.1 k<0)∧cmpV 16 l[K].1.1 k=0:=by
 obtain⟨p,hp,rfl⟩:=List.mem_map.1 hk
 obtain⟨K,hK,rfl⟩:=List.getElem_of_mem hp
 have hpw:=List.pairwise_iff_getElem.1 hr
 have hs:cmpV 16 l[K].1.1 l[K].1.1=0:=by have:=zao 16 l[K].1.1 l[K].1.1;omega
 refine⟨K,hK,rfl,fun t h2 hlt=>hpw t K h2 hK hlt,fun t h2 hle=>?_,hs⟩
 by_cases e:t=K
 ·subst e;omega
 ·have h9:cmpV 16 l[K].1.1 l[t].1.1<0:=hpw K t hK h2 (by omega)
  have:=zao 16 l[K].1.1 l[t].1.1
  omega
def SortedPost (q:Nat) (qs:List PP) (w:World) (e:Ending) (w':World):Prop:=
 ∃v rs,e=.returned v∧SlQ w.heap.size 16 w' rs v∧rs.length≤65536∧(∀p∈rs,p∈qs)∧RT.Rises (byK q) (rs.map trT)∧(∀y,y∈rs.map trT↔y∈(kyd (cmpQ 16) (qs.length+1) qs).map trT)∧Below w.heap.size w w'
theorem sorted_plain (q:Nat) (last ds:List PP) (hr:RisesK (cmpQ 16) last) (hg:∀p∈last,Good 16 p.1.1) (hd:∀p∈ds,p∈last) (hk:ds.map (·.1.1)=srtV q (last.map (·.1.1))):RT.Rises (byK q) (ds.map trT)∧∀y,y∈ds.map trT↔y∈last.map trT:=by
 have hperm:(ds.map (·.1.1)).Perm (last.map (·.1.1)):=by rw [hk];exact srt_perm _ _ _
 have hne:(last.map (·.1.1)).Pairwise (fun a b=>a≠b):=by
  rw [List.pairwise_map]
  refine List.Pairwise.imp (R:=fun (a b:PP)=>cmpV 16 a.1.1 b.1.1<0) (fun {a b} h e=>?_) hr
  rw [e] at h
  have:=zao 16 b.1.1 b.1.1
  omega
 have hne2:(ds.map (·.1.1)).Nodup:=hperm.symm.nodup hne
 have hup:(ds.map (·.1.1)).Pairwise (fun a b=>ordV q a b≤0):=by
  rw [hk]
  refine List.Pairwise.imp (fun {a b} h=>?_) (srt_up (ltO q) (fun a b h=>?_) (fun a b c h1 h2=>?_) _ _ (by omega))
  ·have h9 : ¬ordV q b a<0:=of_decide_eq_false h
   have:=zai q a b
   omega
  ·have h9:ordV q a b<0:=of_decide_eq_true h
   have:=zai q a b
   exact decide_eq_false (by omega)
  ·have k1 : ¬ordV q b a<0:=of_decide_eq_false h1
   have k2 : ¬ordV q c b<0:=of_decide_eq_false h2
   have t1:=zai q a b
   have t2:=zai q b c
   have t3:=zai q a c
   have:=(ordV_goes q a b c (by omega) (by omega)).1
   exact decide_eq_false (by omega)
 have hdk:∀p∈ds,Good 16 p.1.1:=fun p hp=>hg p (hd p hp)
 refine⟨?_,fun y=>?_⟩
 ·show (ds.map trT).Pairwise _
  rw [List.pairwise_map]
  have h1:=List.pairwise_map.1 hup
  have h2:=List.pairwise_map.1 hne2
  refine (h1.and h2).imp_of_mem fun {a b} ha hb hab=>?_
  have h0:ordV q a.1.1 b.1.1≠0:=fun e=>hab.2 (ordV_eq q (hdk a ha) (hdk b hb) e)
  show ordV q a.1.1 b.1.1<0
  have:=hab.1
  omega
 ·constructor
  ·intro hy
   obtain⟨p,hp,rfl⟩:=List.mem_map.1 hy
   exact List.mem_map.2 ⟨p,hd p hp,rfl⟩
  ·intro hy
   obtain⟨p,hp,rfl⟩:=List.mem_map.1 hy
   have hk2:p.1.1∈ds.map (·.1.1):=hperm.mem_iff.2 (List.mem_map.2 ⟨p,hp,rfl⟩)
   obtain⟨r,hr2,e⟩:=List.mem_map.1 hk2
   have:r=p:=by
    obtain⟨i,hi,rfl⟩:=List.getElem_of_mem (hd r hr2)
    obtain⟨j,hj,rfl⟩:=List.getElem_of_mem hp
    have hpw:=List.pairwise_iff_getElem.1 hr
    rcases Nat.lt_trichotomy i j with hlt|heq|hgt
    ·have h9:cmpV 16 last[i].1.1 last[j].1.1<0:=hpw i j hi hj hlt
     rw [e] at h9
     have:=zao 16 last[j].1.1 last[j].1.1
     omega
    ·subst heq;rfl
    ·have h9:cmpV 16 last[j].1.1 last[i].1.1<0:=hpw j i hj hi hgt
     rw [e] at h9
     have:=zao 16 last[j].1.1 last[j].1.1
     omega
   rw [←this]
   exact List.mem_map.2 ⟨r,hr2,rfl⟩
theorem sorted_14 (q:Nat) (hq:q<6) (qs:List PP) (u:Value) (w:World) (hu:SlQ 0 16 w qs u) (hlen:qs.length≤65536) (hright:∀p∈qs,zab 16 p.1.1=true) :
 Calls Tryz.prog 64 #[.int .i64 (q:Int),u] w (SortedPost q qs w):=by
 obtain⟨i0,hi,hz0,hz1,hz2⟩:=info24
 have Hi:Hid _:=hi;have Hz0:Hid _:=hz0;have Hz1:Hid _:=hz1;have Hz2:Hid _:=hz2
 obtain⟨i1,ii,iz0,iz1,iz2⟩:=infoQ
 have Ii:Hid _:=ii;have Iz0:Hid _:=iz0;have Iz1:Hid _:=iz1;have Iz2:Hid _:=iz2
 clear hi hz0 hz1 hz2 ii iz0 iz1 iz2
 have HL:Hid _:=lastOf_any 109 16 (enters_of Tryz.func109 (by kernel_rfl) rfl) (cmpQ 16) (sorted1_14 16) (cmp3Q 16) qs u w hu hlen
 have HRl:Hid ((kyd (cmpQ 16) (qs.length+1) qs).length≤65536):=by show _≤_;have:=kyd_len (cmpQ 16) (qs.length+1) qs;omega
 have HRr:Hid (RisesK (cmpQ 16) (kyd (cmpQ 16) (qs.length+1) qs)):=(kyd_spec (cmp3Q 16) (qs.length+1) qs (by omega)).1
 have HRm:Hid (∀p∈kyd (cmpQ 16) (qs.length+1) qs,p∈qs):=fun p hp=>kyd_mem (cmpQ 16) _ _ p hp
 have HRg:Hid (∀p∈kyd (cmpQ 16) (qs.length+1) qs,zab 16 p.1.1=true):=fun p hp=>hright p (kyd_mem (cmpQ 16) _ _ p hp)
 obtain⟨a,c,rfl,_⟩:=hu.slice
 have HPost:Hid (∀e w',SortedPost q qs w e w'↔∃v rs,e=.returned v∧SlQ w.heap.size 16 w' rs v∧rs.length≤65536∧(∀p∈rs,p∈qs)∧RT.Rises (byK q) (rs.map trT)∧(∀y,y∈rs.map trT↔y∈(kyd (cmpQ 16) (qs.length+1) qs).map trT)∧Below w.heap.size w w'):=fun _ _=>Iff.rfl
 generalize SortedPost q qs w=PO at *
 clear hu hright
 generalize kyd (cmpQ 16) (qs.length+1) qs=R at *
 generalize qs.length=L0 at *
 go_enter Tryz.func64,Tryz.ntmps64
 go_wp2_with fail
 refine Calls.mono HL.out ?_
 rintro e w1 ⟨v,rfl,hs,hb1⟩
 obtain⟨a1,c1,rfl,hc1⟩:=hs.slice
 have HS:Hid (SlQ w.heap.size 16 w1 R (.slice a1 R.length c1)):=hs
 have hL:=HRl.out
 have HGd:Hid (∀p∈R,GoodQ 16 w1 p):=hs.good
 obtain⟨B,hB⟩:∃B,B=w1.heap.size:=⟨_,rfl⟩
 have HB:Hid (B=w1.heap.size):=hB
 clear hs HL hB
 generalize hLL:R.length=L at *
 have HLL:Hid (R.length=L):=hLL
 clear hLL
 go_wp2_with fail
 go_loopg [18,6] L (fun z vj vo wr=>∃(j:Nat),vj=.int .i64 (j:Int)∧z=L-j∧j≤L∧Hid (wr.ownsRow B 24 4 vo j (((R.take j).map (·.1)).flatMap encP)∧Below B w1 wr))
 case atStart=>exact⟨0,rfl,rfl,Nat.zero_le _,by simp;exact World.ownsRow_nil _ _ _ _,Below.refl _ _⟩
 case round=>
  obtain⟨j,rfl,hk,hjL,HM⟩:=hrel
  have Hk:Hid _:=hk
  clear hk
  have hbw1:Below w1.heap.size w1 wr:=by have:=HM.out.2;rwa [HB.out] at this
  have hwl1:w1.heap.size≤wr.heap.size:=hbw1.size
  have hBs:B=w1.heap.size:=HB.out
  by_cases hjl:j<L
  ·have hji:(j:Int)<(L:Nat):=by omega
   have hjR:j<R.length:=by have:=HLL.out;omega
   obtain⟨b1,o1,c1',hv1,_,hq1,_⟩:=HS.out.full (fun e=>by rw [e] at hjR;cases hjR)
   have ha1:a1=some ⟨b1,o1,none⟩:=by injection hv1
   subst ha1
   obtain⟨x,hxe⟩:∃x,x=R[j]:=⟨_,rfl⟩
   have Gx:GoodQ 16 w1 x:=HGd.out x (by rw [hxe];exact List.getElem_mem hjR)
   have Ex:=hq1.at j hjR
   rw [←hxe] at Ex
   have Htk:Hid (R.take (j+1)=R.take j++[x]):=by show _=_;rw [hxe];exact (List.take_append_getElem hjR).symm
   obtain⟨⟨t1,tv1⟩,⟨t2,tv2⟩⟩:=x
   obtain⟨ta,tc,et1,_⟩:=Lies.slice Gx.1.1
   obtain⟨tb,td,et2,_⟩:=Lies.slice Gx.2.1
   simp only at et1 et2
   subst et1 et2
   obtain⟨p0,p1,p2,p3,p4,p5,p6,p7⟩:=Ex.keeps hbw1
   simp only at p0 p1 p2 p3 p4 p5 p6 p7
   have hgr:b1<wr.heap.size:=zad p0
   obtain⟨WA,hWA⟩:∃WA,WA=wr.alloc (.cells #[.int .i64 t1.kind,.int .i64 t1.num,.string t1.text,.slice ta t1.items.length tc,.int .i64 t2.kind,.int .i64 t2.num,.string t2.text,.slice tb t2.items.length td] 124):=⟨_,rfl⟩
   have Hown:Hid ((wr.alloc (.cells #[.int .i64 t1.kind,.int .i64 t1.num,.string t1.text,.slice ta t1.items.length tc,.int .i64 t2.kind,.int .i64 t2.num,.string t2.text,.slice tb t2.items.length td] 124)).ownsRow B 24 4 u6 j (((R.take j).map (·.1)).flatMap encP)):=HM.out.1.alloc _
   have HbW:Hid (Below B w1 (wr.alloc (.cells #[.int .i64 t1.kind,.int .i64 t1.num,.string t1.text,.slice ta t1.items.length tc,.int .i64 t2.kind,.int .i64 t2.num,.string t2.text,.slice tb t2.items.length td] 124))):=HM.out.2.alloc (by omega) _
   have HN:Hid (∀(v':Value) (W:World),W.ownsRow B 24 4 v' (j+1) (((R.take j).map (·.1)).flatMap encP++encP (t1,.slice ta t1.items.length tc))→Below B w1 W→W.ownsRow B 24 4 v' (j+1) (((R.take (j+1)).map (·.1)).flatMap encP)∧Below B w1 W):=fun v' W k1 k2=>by
    refine⟨?_,k2⟩
    rw [Htk.out,List.map_append,List.flatMap_append]
    simpa using k1
   clear Ex hxe Gx HM hq1 hv1 Htk hjR hWA
   go_wp2_with (first
    | (at_builtin;refine wpList_append_own _ rfl _ _ 22 rfl B 24 i0 (.agg #[.int .i64 0,.int .i64 0,.string ⟨#[]⟩,.slice none 0 0]) 4 56 Tryz.underlying22 Hi.out Hz0.out Hz1.out Hz2.out rfl (by decide) _ _ _ rfl (Hown.out.alloc _) ⟨wr.heap.size+1,0,none⟩ 1 1 [.int .i64 t1.kind,.int .i64 t1.num,.string t1.text,.slice ta t1.items.length tc] rfl rfl (fun q u hq=>by match q,hq with|0,hq=>(simp at hq;subst hq;simp [Addr.add])|1,hq=>(simp at hq;subst hq;simp [Addr.add])|2,hq=>(simp at hq;subst hq;simp [Addr.add])|3,hq=>(simp at hq;subst hq;simp [Addr.add])) (fun u hu=>by simp at hu;rcases hu with rfl|rfl|rfl|rfl <;> rfl) (by unfold maxLen;omega) (by omega) (by simp;omega) ?_;intro v9 w9 hown hgrow _))
   have hb9:Below B w1 w9:=zak (HbW.out.alloc (by simp;omega) _) (by simp;omega) (Hown.out.alloc _) hgrow
   have HR9:Hid _:=HN.out v9 w9 (by simpa [encP] using hown) hb9
   clear hown hgrow p0 p1 p2 p3 p4 p5 p6 p7
   go_roundg (L-(j+1))
   case measure=>have:=Hk.out;omega
   case rel=>exact⟨j+1,by go_num,rfl,by omega,HR9⟩
  ·obtain rfl:j=L:=by omega
   have hji : ¬(j:Int)<(j:Nat):=by omega
   have hbr:Below w.heap.size w wr:=hb1.trans (hbw1.mono hb1.size)
   have h1:=HM.out.1
   rw [List.take_of_length_le (by have:=HLL.out;omega)] at h1
   have hLk:Lies 17 wr ((R.map (·.1)).map (·.1)) u6:=own_lies (d:=16) (by rw [List.length_map,HLL.out]) h1 (fun p hp=>by
    obtain⟨r,hr,rfl⟩:=List.mem_map.1 hp
    exact ((HGd.out r hr).keeps hbw1).1) (by rw [List.length_map];have:=HLL.out;omega)
   have hkl:((R.map (·.1)).map (·.1))=R.map (·.1.1):=by rw [List.map_map];rfl
   rw [hkl] at hLk
   have HSo:Hid _:=sort6_any 16 (q:Int) (R.map (·.1.1)) u6 wr hLk
   have HLk0:Hid (lookE 16 (q:Int) (R.map (·.1.1))=0):=by
    show _=_
    unfold lookE
    rw [if_neg (by omega)]
    unfold zae
    rw [if_neg (by rw [List.length_map];have:=HLL.out;omega),if_pos]
    rw [List.all_eq_true]
    intro k hk
    obtain⟨p,hp,rfl⟩:=List.mem_map.1 hk
    exact HRg.out p hp
   obtain⟨a6,c6,hu6,_⟩:=Lies.slice hLk
   have e6:(R.map (·.1.1)).length=j:=by rw [List.length_map,HLL.out]
   rw [e6] at hu6
   subst hu6
   clear h1 hLk hkl HM e6
   go_wp2_with fail
   refine Calls.mono HSo.out ?_
   rintro e w2 hs2
   rcases hs2 with ⟨hne,_⟩|⟨_,vs,rfl,hvs,hg2⟩
   ·exact absurd HLk0.out hne
   have hb2:Below w.heap.size w w2:=hbr.trans (hg2.mono hbr.size)
   obtain⟨SK,hSK⟩:∃SK,SK=srtV q (R.map (·.1.1)):=⟨_,rfl⟩
   have hvs':Lies 17 w2 SK vs:=by rw [hSK];exact LiesB.lies _ _ _ hvs
   have hSKl:SK.length=j:=by rw [hSK];show (srt _ _ _).length=_;rw [srt_len,List.length_map,HLL.out]
   obtain⟨asl,csl,hvse,_⟩:=Lies.slice hvs'
   rw [hSKl] at hvse
   subst hvse
   have HVS:Hid (Lies 17 w2 SK (.slice asl j csl)):=hvs'
   have HSKl:Hid (SK.length=j):=hSKl
   have HSKe:Hid (SK=srtV q (R.map (·.1.1))):=hSK
   have HSKm:Hid (∀k∈SK,k∈R.map (·.1.1)):=fun k hk=>by rw [hSK] at hk;exact srt_mem _ _ _ k hk
   have HS2:Hid (SlQ 0 16 w2 R (.slice a1 j c1)):=by
    have h9:=(HS.out.keeps (hbw1.trans (hg2.mono hbw1.size))).mono (Nat.zero_le _)
    exact h9
   obtain⟨B2,hB2⟩:∃B2,B2=w2.heap.size:=⟨_,rfl⟩
   have HB2:Hid (B2=w2.heap.size):=hB2
   clear hvs hvs' hSKl hSK hg2 HSo hB2 HS HGd
   go_wp2_with fail
   go_loopg [36,9] j (fun z vj vo wz=>∃(i:Nat) (ds:List PP),vj=.int .i64 (i:Int)∧z=j-i∧i≤j∧Hid (ds.length=i∧ds.map (·.1.1)=SK.take i∧∀p∈ds,p∈R)∧Hid (wz.ownsRow B2 124 8 vo i (ds.flatMap encQ)∧Below B2 w2 wz))
   case atStart=>exact⟨0,[],rfl,rfl,Nat.zero_le _,⟨rfl,rfl,fun p hp=>by cases hp⟩,World.ownsRow_nil _ _ _ _,Below.refl _ _⟩
   case round=>
    obtain⟨i,ds,rfl,hz,hij,Hds,HM2⟩:=hrel
    have Hz:Hid _:=hz
    clear hz
    have hbw2:Below w2.heap.size w2 wr:=by have:=HM2.out.2;rwa [HB2.out] at this
    have hwl2:w2.heap.size≤wr.heap.size:=hbw2.size
    have hBs2:B2=w2.heap.size:=HB2.out
    by_cases hil:i<j
    ·have hii:(i:Int)<(j:Nat):=by omega
     have hiS:i<SK.length:=by have:=HSKl.out;omega
     obtain⟨aS,cS,hvS,_,h1S⟩:=HVS.out
     obtain⟨bk,ok,haS,hcS⟩:=h1S (fun e=>by rw [e] at hiS;cases hiS)
     have haS2:asl=some ⟨bk,ok,none⟩:=by injection hvS with e1 _ _;rw [e1];exact haS
     subst haS2
     obtain⟨uk,r0,r1,r2,r3,hlk,htk⟩:=hcS i hiS
     obtain⟨ks,hks⟩:∃ks,ks=SK[i]:=⟨_,rfl⟩
     rw [←hks] at r0 r1 r2 hlk htk
     have hkm:ks∈R.map (·.1.1):=HSKm.out ks (by rw [hks];exact List.getElem_mem hiS)
     obtain⟨K,hKR,hKe,hKlo,hKhi,hKz⟩:=place_of HRr.out hkm
     have hKj:K<j:=by have:=HLL.out;omega
     have hKi:(K:Int)<(j:Nat):=by omega
     obtain⟨ka,kc,hke,_⟩:=Lies.slice hlk
     subst hke
     have r0:=zaa hbw2 r0;have r1:=zaa hbw2 r1;have r2:=zaa hbw2 r2;have r3:=zaa hbw2 r3
     have hbkl:bk<wr.heap.size:=zad r0
     obtain⟨b1,o1,c1',hv1,_,hq1,hgq⟩:=HS2.out.full (fun e=>by rw [e] at hKR;cases hKR)
     have ha1:a1=some ⟨b1,o1,none⟩:=by injection hv1
     subst ha1
     have HBS:Hid (∀V,Below w2.heap.size w2 V→Calls Tryz.prog 111 #[.slice (some ⟨b1,o1,none⟩) j c1,.agg #[.int .i64 ks.kind,.int .i64 ks.num,.string ks.text,.slice ka ks.items.length kc],.func (.func 110) #[] #[]] V fun e w'=>e=.returned (.tuple #[.int .i64 (K:Int),.bool true])∧Below V.heap.size V w'):=fun V hV=>search_14 16 R _ ks _ V (HS2.out.keeps hV) (Lies.keeps hV _ _ _ hlk) (by have:=HLL.out;omega) K hKR hKlo hKhi hKz
     have Ex:=hq1.at K hKR
     have Gx:=hgq R[K] (List.getElem_mem hKR)
     have Hdn:Hid (∀x,x=R[K]→(ds++[x]).length=i+1∧(ds++[x]).map (·.1.1)=SK.take (i+1)∧∀p∈ds++[x],p∈R):=fun x hx=>by
      refine⟨by simp [Hds.out.1],?_,fun p hp=>?_⟩
      ·rw [List.map_append,Hds.out.2.1,List.take_succ_eq_append_getElem hiS,hx,←hks,←hKe];rfl
      ·rcases List.mem_append.1 hp with hp|hp
       ·exact Hds.out.2.2 p hp
       ·rw [List.mem_singleton.1 hp,hx];exact List.getElem_mem hKR
     obtain⟨x,hxe⟩:∃x,x=R[K]:=⟨_,rfl⟩
     have Hdx:Hid _:=Hdn.out x hxe
     rw [←hxe] at Ex Gx
     obtain⟨⟨t1,tv1⟩,⟨t2,tv2⟩⟩:=x
     obtain⟨ta,tc,et1,_⟩:=Lies.slice Gx.1.1
     obtain⟨tb,td,et2,_⟩:=Lies.slice Gx.2.1
     simp only at et1 et2
     subst et1 et2
     obtain⟨p0,p1,p2,p3,p4,p5,p6,p7⟩:=Ex.keeps hbw2
     simp only at p0 p1 p2 p3 p4 p5 p6 p7
     have hgr:b1<wr.heap.size:=zad p0
     have Hown:Hid (wr.ownsRow B2 124 8 u9 i (ds.flatMap encQ)):=HM2.out.1
     have HBw:Hid (Below B2 w2 wr):=HM2.out.2
     have hbA:∀o,Below wr.heap.size wr (wr.alloc o):=fun o=>((Grew.refl wr).alloc o).below
     have HBA:Hid (∀o,Below wr.heap.size wr (wr.alloc o)):=hbA
     clear hKlo hKhi hKz hlk hcS h1S hvS haS hv1 hq1 hgq Ex Gx hxe Hdn hkm hKe hks HM2 hKR hiS hbA
     go_wp2_with fail
     refine Calls.mono (HBS.out _ (hbw2.trans ((HBA.out _).mono hbw2.size))) ?_
     rintro e w3 ⟨rfl,hg3⟩
     have hg3':Below wr.heap.size wr w3:=(HBA.out _).trans (hg3.mono (HBA.out _).size)
     have Hown3:Hid (w3.ownsRow B2 124 8 u9 i (ds.flatMap encQ)):=Hown.out.kept (row:=none) ⟨hg3'.os,hg3'.tape,hg3'.output,hg3'.size,fun k hk _=>hg3'.block k hk⟩ (by cases u9.ownBlock <;> simp)
     have hB3:Below B2 w2 w3:=HBw.out.trans (hg3'.mono (by omega))
     have p0:=zaa hg3' p0;have p1:=zaa hg3' p1;have p2:=zaa hg3' p2;have p3:=zaa hg3' p3;have p4:=zaa hg3' p4;have p5:=zaa hg3' p5;have p6:=zaa hg3' p6;have p7:=zaa hg3' p7
     have hsz3:B2≤w3.heap.size:=by have:=hg3'.size;omega
     have hgr3:b1<w3.heap.size:=by have:=hg3'.size;omega
     clear hg3 hg3' r0 r1 r2 r3 HBS
     go_wp2_with (first
      | (at_builtin;refine wpList_append_own _ rfl _ _ 56 rfl B2 124 i1 (.agg #[.int .i64 0,.int .i64 0,.string ⟨#[]⟩,.slice none 0 0,.int .i64 0,.int .i64 0,.string ⟨#[]⟩,.slice none 0 0]) 8 112 Tryz.underlying56 Ii.out Iz0.out Iz1.out Iz2.out rfl (by decide) _ _ _ rfl (Hown3.out.alloc _) ⟨w3.heap.size,0,none⟩ 1 1 [.int .i64 t1.kind,.int .i64 t1.num,.string t1.text,.slice ta t1.items.length tc,.int .i64 t2.kind,.int .i64 t2.num,.string t2.text,.slice tb t2.items.length td] rfl rfl (fun q u hq=>by match q,hq with|0,hq=>(simp at hq;subst hq;simp [Addr.add])|1,hq=>(simp at hq;subst hq;simp [Addr.add])|2,hq=>(simp at hq;subst hq;simp [Addr.add])|3,hq=>(simp at hq;subst hq;simp [Addr.add])|4,hq=>(simp at hq;subst hq;simp [Addr.add])|5,hq=>(simp at hq;subst hq;simp [Addr.add])|6,hq=>(simp at hq;subst hq;simp [Addr.add])|7,hq=>(simp at hq;subst hq;simp [Addr.add])) (fun u hu=>by simp at hu;rcases hu with rfl|rfl|rfl|rfl|rfl|rfl|rfl|rfl <;> rfl) (by unfold maxLen;omega) (by omega) (by simp;omega) ?_;intro v9 w9 hown hgrow _))
     have hb9:Below B2 w2 w9:=zak (hB3.alloc hsz3 _) (by simp;omega) (Hown3.out.alloc _) hgrow
     have HR9:Hid (w9.ownsRow B2 124 8 v9 (i+1) ((ds++[(((t1,.slice ta t1.items.length tc),(t2,.slice tb t2.items.length td)):PP)]).flatMap encQ)∧Below B2 w2 w9):=by
      refine⟨?_,hb9⟩
      rw [List.flatMap_append]
      simpa [encQ,encP] using hown
     clear hown hgrow p0 p1 p2 p3 p4 p5 p6 p7
     go_roundg (j-(i+1))
     case measure=>have:=Hz.out;omega
     case rel=>exact⟨i+1,_,by go_num,rfl,by omega,Hdx,HR9⟩
    ·obtain rfl:i=j:=by omega
     have hii : ¬(i:Int)<(i:Nat):=by omega
     have hbz:Below w.heap.size w wr:=hb2.trans (hbw2.mono hb2.size)
     have hdk:ds.map (·.1.1)=srtV q (R.map (·.1.1)):=by
      rw [Hds.out.2.1,List.take_of_length_le (by have:=HSKl.out;omega)];exact HSKe.out
     have hgR:∀p∈R,Good 16 p.1.1:=fun p hp=>⟨HRg.out p hp,Dp.of_lies 16 w2 p.1.1 p.1.2 (HS2.out.good p hp).1.1⟩
     have hpl:=sorted_plain q R ds HRr.out hgR Hds.out.2.2 hdk
     obtain⟨a9,n9,c9,hu9⟩:∃a n c,u9=.slice a n c:=by
      rcases HM2.out.1.2 with ⟨e,_⟩|⟨g,cap,_,e,_⟩ <;> exact⟨_,_,_,e⟩
     have HE:Hid (PO (.returned u9) wr):=by
      refine (HPost.out _ _).2 ⟨u9,ds,rfl,?_,by rw [Hds.out.1];omega,fun p hp=>HRm.out p (Hds.out.2.2 p hp),hpl.1,hpl.2,hbz⟩
      refine (SlQ.of_own (d:=16) Hds.out.1.symm HM2.out.1 (fun p hp=>((HS2.out.good p (Hds.out.2.2 p hp)).keeps hbw2)) (by rw [Hds.out.1];omega)).mono (by have:=hb2.size;omega)
     subst hu9
     clear HM2 hpl hdk hgR
     go_wp2_with fail
     first|(go_ret;exact HE.out)|exact HE.out
def zan (o:Int):Int:=if o<0∨6≤o then 4 else 0
theorem zero_right:zab 16 ⟨0,0,⟨#[]⟩,[]⟩=true:=by kernel_rfl
theorem zero_lies (d:Nat) (w:World):Lies d w [] (.slice none 0 0):=(liesX_nil TT d w none 0).lies
theorem checkOrder_14 (o:Int) (w:World):Calls Tryz.prog 105 #[.int .i64 o] w fun e w'=>e=.returned (.int .i64 (zan o))∧Below w.heap.size w w':=by
 have h9:=compareO_any 16 o ⟨0,0,⟨#[]⟩,[]⟩ ⟨0,0,⟨#[]⟩,[]⟩ (.slice none 0 0) (.slice none 0 0) w (zero_lies 16 w) (zero_lies 16 w) (by decide) (by decide)
 have e9:ordE 16 o ⟨0,0,⟨#[]⟩,[]⟩ ⟨0,0,⟨#[]⟩,[]⟩=zan o:=by
  unfold ordE zan
  split
  ·rfl
  ·rw [if_pos ⟨zero_right,zero_right⟩]
 rw [e9] at h9
 have HC:Hid (Calls Tryz.prog 85 #[.int .i64 o,.agg #[.int .i64 0,.int .i64 0,.string ⟨#[]⟩,.slice none 0 0],.agg #[.int .i64 0,.int .i64 0,.string ⟨#[]⟩,.slice none 0 0]] w fun e w'=>e=.returned (.tuple #[.int .i64 (ordR 16 o ⟨0,0,⟨#[]⟩,[]⟩ ⟨0,0,⟨#[]⟩,[]⟩),.int .i64 (zan o)])∧Below w.heap.size w w'):=h9
 generalize ordR 16 o ⟨0,0,⟨#[]⟩,[]⟩ ⟨0,0,⟨#[]⟩,[]⟩=R at *
 generalize zan o=E at *
 clear h9 e9
 go_enter Tryz.func105,Tryz.ntmps105
 go_wp2_with fail
 refine Calls.mono HC.out ?_
 rintro e w1 ⟨rfl,hb⟩
 go_wp2_with fail
 go_ret
 exact⟨rfl,hb⟩
def ofErr (d:Nat) (o:Int) (l:List PT):Int:=if zan o≠0 then zan o else pErr d l
theorem check_14 (d:Nat) (o:Int) (qs:List PP) (u:Value) (w:World) (hu:SlQ 0 d w qs u):Calls Tryz.prog 61 #[.int .i64 o,u] w fun e w'=>e=.returned (.int .i64 (ofErr d o (qs.map trT)))∧Below w.heap.size w w':=by
 have HO:Hid _:=checkOrder_14 o w
 have HP:Hid (∀V,Below w.heap.size w V→Calls Tryz.prog 57 #[u,.func (.func 41) #[] #[]] V fun e w'=>e=.returned (.int .i64 (pErr d (qs.map trT)))∧Below V.heap.size V w'):=fun V hV=>checkPairs_any d qs u V (hu.keeps hV)
 have HE:Hid (ofErr d o (qs.map trT)=if zan o≠0 then zan o else pErr d (qs.map trT)):=rfl
 generalize ofErr d o (qs.map trT)=E at *
 generalize pErr d (qs.map trT)=Pe at *
 generalize zan o=Oe at *
 obtain⟨a,c,rfl,_⟩:=hu.slice
 clear hu
 go_enter Tryz.func61,Tryz.ntmps61
 go_wp2_with fail
 refine Calls.mono HO.out ?_
 rintro e w1 ⟨rfl,hb⟩
 by_cases h0:Oe=0
 ·have e0:E=Pe:=by rw [HE.out,if_neg (by simp [h0])]
  subst e0
  subst h0
  clear HE
  go_wp2_with fail
  refine Calls.mono (HP.out _ hb) ?_
  rintro e w2 ⟨rfl,hg⟩
  have hb2:Below w.heap.size w w2:=hb.trans (hg.mono hb.size)
  clear hg
  go_wp2_with fail
  go_ret
  exact⟨rfl,hb2⟩
 ·have e0:E=Oe:=by rw [HE.out,if_pos h0]
  subst e0
  clear HE
  go_wp2_with fail
  go_ret
  exact⟨rfl,hb⟩
def OfPost14 (d:Nat) (o:Int) (qs:List PP) (w:World) (e:Ending) (w':World):Prop:=
 Below w.heap.size w w'∧((ofErr d o (qs.map trT)≠0∧e=.returned (.tuple #[.pointer none,.int .i64 (ofErr d o (qs.map trT))]))∨
  (ofErr d o (qs.map trT)=0∧∃t b,e=.returned (.tuple #[.pointer (some ⟨b,0,none⟩),.int .i64 0])∧MC w' o.toNat t b∧∀y,y∈t.items↔y∈(kyd (cmpQ 16) (qs.length+1) qs).map trT))
theorem slq_canon {d:Nat} {w:World} {qs:List PP} {u:Value} (hu:SlQ 0 d w qs u) (h:∀p∈qs,zab d p.1.1=true∧zab d p.2.1=true):SlQ 0 16 w qs u∧∀p∈qs,zab 16 p.1.1=true∧zab 16 p.2.1=true:=by
 obtain⟨a,c,hv,h1,h2,h3,h4⟩:=hu
 refine⟨⟨a,c,hv,h1,h2,h3,fun p hp=>?_⟩,fun p hp=>?_⟩
 ·have g:=h4 p hp
  exact⟨⟨(canon g.1.1 (h p hp).1).1,g.1.2⟩,⟨(canon g.2.1 (h p hp).2).1,g.2.2⟩⟩
 ·have g:=h4 p hp
  exact⟨(canon g.1.1 (h p hp).1).2,(canon g.2.1 (h p hp).2).2⟩
theorem mof_14 (d:Nat) (o:Int) (qs:List PP) (u:Value) (w:World) (hu:SlQ 0 d w qs u):Calls Tryz.prog 28 #[.int .i64 o,u] w (OfPost14 d o qs w):=by
 have HC:Hid _:=check_14 d o qs u w hu
 have HU:Hid (SlQ 0 d w qs u):=hu
 have HPe:Hid (ofErr d o (qs.map trT)≠0→∀w',Below w.heap.size w w'→OfPost14 d o qs w (.returned (.tuple #[.pointer none,.int .i64 (ofErr d o (qs.map trT))])) w'):=fun h w' hb=>⟨hb,.inl ⟨h,rfl⟩⟩
 have HPk:Hid (ofErr d o (qs.map trT)=0→∀t b w',Below w.heap.size w w'→MC w' o.toNat t b→(∀y,y∈t.items↔y∈(kyd (cmpQ 16) (qs.length+1) qs).map trT)→OfPost14 d o qs w (.returned (.tuple #[.pointer (some ⟨b,0,none⟩),.int .i64 0])) w'):=fun h t b w' hb h1 h2=>⟨hb,.inr ⟨h,t,b,rfl,h1,h2⟩⟩
 have H0:Hid (ofErr d o (qs.map trT)=0→(0≤o∧o<6)∧qs.length≤65536∧∀p∈qs,zab d p.1.1=true∧zab d p.2.1=true):=fun h=>by
  unfold ofErr zan at h
  by_cases ho:o<0∨6≤o
  ·rw [if_pos ho,if_pos (by decide)] at h;cases h
  ·rw [if_neg ho,if_neg (by simp)] at h
   unfold pErr at h
   split at h
   ·cases h
   ·next hl=>
    rw [List.length_map] at hl
    split at h
    ·next ha=>
     refine⟨by omega,by omega,fun p hp=>?_⟩
     have h9:=List.all_eq_true.1 ha (trT p) (List.mem_map.2 ⟨p,hp,rfl⟩)
     simpa [okP,trT,Bool.and_eq_true] using h9
    ·cases h
 obtain⟨a,c,rfl,_⟩:=hu.slice
 generalize OfPost14 d o qs w=PO at *
 generalize ofErr d o (qs.map trT)=E at *
 clear hu
 go_enter Tryz.func28,Tryz.ntmps28
 go_wp2_with fail
 refine Calls.mono HC.out ?_
 rintro e w1 ⟨rfl,hb1⟩
 by_cases hE:E=0
 ·have HPk2:Hid _:=HPk.out hE
  obtain⟨ho,hlen,hr⟩:=H0.out hE
  subst hE
  clear HPk HPe
  obtain⟨q,rfl⟩:∃q:Nat,o=q:=⟨o.toNat,by omega⟩
  obtain⟨hs16,hr16⟩:=slq_canon HU.out hr
  have HS:Hid _:=sorted_14 q (by omega) qs _ w1 (hs16.keeps hb1) hlen (fun p hp=>(hr16 p hp).1)
  have HR:Hid (∀p∈qs,Good 16 p.1.1∧Good 16 p.2.1):=fun p hp=>⟨⟨(hr16 p hp).1,Dp.of_lies 16 w p.1.1 p.1.2 (hs16.good p hp).1.1⟩,⟨(hr16 p hp).2,Dp.of_lies 16 w p.2.1 p.2.2 (hs16.good p hp).2.1⟩⟩
  have hq6:q<6:=by omega
  clear HC H0 HU hr hs16 hr16
  go_wp2_with fail
  refine Calls.mono HS.out ?_
  rintro e w2 ⟨v2,rs,rfl,hs2,hl2,hm2,hri2,hme2,hg2⟩
  have hb2:Below w.heap.size w w2:=hb1.trans (hg2.mono hb1.size)
  obtain⟨a2,c2,rfl,_⟩:=hs2.slice
  have HCs:Hid _:=copies_14 rs _ w2 (hs2.mono (Nat.zero_le _)) hl2 (fun p hp=>⟨(HR.out p (hm2 p hp)).1.1,(HR.out p (hm2 p hp)).2.1⟩)
  have HRi:Hid (RT.Rises (byK q) (rs.map trT)∧(∀y,y∈rs.map trT↔y∈(kyd (cmpQ 16) (qs.length+1) qs).map trT)∧rs.length≤65536∧∀y∈rs.map trT,Good 16 y.1∧Good 16 y.2):=⟨hri2,hme2,hl2,fun y hy=>by
   obtain⟨p,hp,rfl⟩:=List.mem_map.1 hy
   exact HR.out p (hm2 p hp)⟩
  obtain⟨RL,hRL⟩:∃RL,RL=rs.map trT:=⟨_,rfl⟩
  have HRLl:Hid (RL.length=rs.length):=by show _=_;rw [hRL,List.length_map]
  rw [←hRL] at HCs HRi
  clear hs2 hm2 hri2 hme2 hg2 HS HR hRL
  generalize rs.length=n2 at *
  go_wp2_with fail
  refine Calls.mono HCs.out ?_
  rintro e w3 ⟨v3,ps,rfl,hps,hs3,hn3,hg3⟩
  have hb3:Below w.heap.size w w3:=hb2.trans (hg3.mono hb2.size)
  obtain⟨a3,c3,rfl,_⟩:=hs3.slice
  have Hpl:Hid (ps.length=RL.length):=by show _=_;rw [←hps,List.length_map]
  have HG:Hid _:=grown_14 TT 16 ps _ w3 (hs3.mono (Nat.zero_le _)) (fun p hp=>⟨⟨(LiesX.of_b (hn3 p hp).1.1).mono (fun _ _=>trivial),(hn3 p hp).1.2⟩,⟨(LiesX.of_b (hn3 p hp).2.1).mono (fun _ _=>trivial),(hn3 p hp).2.2⟩⟩) (by have:=Hpl.out;have:=HRLl.out;have:=HRi.out.2.2.1;omega)
  have hG2:=HG.out
  rw [hps] at hG2
  have HG:Hid (Calls Tryz.prog 62 #[.slice a3 ps.length c3] w3 (GrownPost TT 16 RL w3)):=hG2
  clear hs3 hn3 hg3 HCs hG2 hps
  generalize ps.length=n3 at *
  go_wp2_with fail
  refine Calls.mono HG.out ?_
  rintro e w4 ⟨hg4,t,p4,rfl,hn4,hi4,hw4,hbl4⟩
  have hb4:Below w.heap.size w w4:=hb3.trans (hg4.mono hb3.size)
  have hbA:Below w4.heap.size w4 (w4.alloc (.cells #[.int .i64 (q:Int),.pointer p4] 132)):=((Grew.refl w4).alloc _).below
  have HE:Hid (PO (.returned (.tuple #[.pointer (some ⟨w4.heap.size,0,none⟩),.int .i64 0])) (w4.alloc (.cells #[.int .i64 (q:Int),.pointer p4] 132))):=by
   refine HPk2.out t w4.heap.size _ (hb4.trans (hbA.mono hb4.size)) ⟨by simp,⟨p4,by simp,hn4.keeps hbA⟩,hw4,hbl4,hq6,?_,?_,?_⟩ ?_
   ·rw [hi4];exact HRi.out.2.2.2
   ·rw [hi4];exact HRi.out.1
   ·rw [RT.size_items,hi4,HRLl.out];exact HRi.out.2.2.1
   ·rw [hi4];exact HRi.out.2.1
  clear hn4 hi4 hw4 hbl4 hg4 HG
  go_wp2_with fail
  first|exact HE.out|(go_ret2;exact HE.out)
 ·have HE:Hid (PO (.returned (.tuple #[.pointer none,.int .i64 E])) w1):=HPe.out hE w1 hb1
  clear HC H0 HPe HPk
  go_wp2_with fail
  first|exact HE.out|(go_ret2;exact HE.out)
theorem nil_slq (w:World):SlQ 0 16 w [] (.slice none 0 0):=⟨none,0,rfl,by simp,by simp,(fun h=>absurd rfl h),(fun p hp=>by cases hp)⟩
end Go.Proofs.YtlnecfjnffdciacGreat
