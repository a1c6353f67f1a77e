import Derived.Test.YtlnecfjnffdciacGreatManyLaw
import Derived.Deep.CutBlock
import Derived.Test.YtlnecfjnffdciacGreatReadL
set_option maxRecDepth 100000
set_option maxHeartbeats 16000000
namespace Go.Proofs.YtlnecfjnffdciacGreat
open Go.RowKit Go.Shelf
def MpPost (q:Nat) (l:List PT) (E:Int) (w:World) (e:Ending) (w':World):Prop:=Below w.heap.size w w'∧∃p:Option Addr,e=.returned (.tuple #[.pointer p,.int .i64 E])∧((E≠0∧p=none)∨(E=0∧∃t b,p=some ⟨b,0,none⟩∧MC w' q t b∧t.items=l))
theorem mnew_14 (o:Int) (w:World):Calls Tryz.prog 26 #[.int .i64 o] w (MpPost o.toNat [] (zan o) w):=by
 have he:ofErr 16 o ([]:List PT)=zan o:=by
  unfold ofErr
  by_cases h:zan o≠0
  ·rw [if_pos h]
  ·rw [if_neg h]
   have:zan o=0:=by omega
   rw [this];unfold pErr;simp
 have HO:Hid (Calls Tryz.prog 28 #[.int .i64 o,.slice none 0 0] w (MpPost o.toNat [] (zan o) w)):=by
  refine Calls.mono (mof_14 16 o [] _ w (nil_slq w)) ?_
  intro e w' ⟨hb,h⟩
  have e0:(([]:List PP).map trT)=[]:=rfl
  rw [e0,he] at h
  rcases h with ⟨hne,rfl⟩|⟨h0,t,b,rfl,hm,hme⟩
  ·exact⟨hb,none,rfl,.inl ⟨hne,rfl⟩⟩
  ·refine⟨hb,_,by rw [h0],.inr ⟨h0,t,b,rfl,hm,?_⟩⟩
   refine List.eq_nil_iff_forall_not_mem.2 fun y hy=>?_
   have h9:=(hme y).1 hy
   have e9:(kyd (cmpQ 16) (([]:List PP).length+1) []).map trT=[]:=by kernel_rfl
   rw [e9] at h9
   cases h9
 clear he
 go_enter Tryz.func26,Tryz.ntmps26
 go_wp2_with fail
 refine Calls.mono HO.out ?_
 rintro e w1 ⟨hb,p,rfl,hp⟩
 have HE:Hid (MpPost o.toNat [] (zan o) w (.returned (.tuple #[.pointer p,.int .i64 (zan o)])) w1):=⟨hb,p,rfl,hp⟩
 clear hb hp HO
 go_wp2_with fail
 go_ret2
 exact HE.out
def nilT:VT:=⟨0,0,⟨#[]⟩,[]⟩
def Nils (l:List PT):Prop:=∀x∈l,x.2=nilT
def SC (w:World) (q:Nat) (l:List PT) (s:Nat):Prop:=∃b t,w.cell? ⟨s,0,none⟩=some (.pointer (some ⟨b,0,none⟩))∧MC w q t b∧t.items=l∧Nils l
theorem SC.keeps {w w':World} {q:Nat} {l:List PT} {s:Nat} (h:SC w q l s) (hb:Below w.heap.size w w'):SC w' q l s:=by
 obtain⟨b,t,h1,h2,h3,h4⟩:=h
 exact⟨b,t,zaa hb h1,h2.keeps hb,h3,h4⟩
def SpPost (q:Nat) (l:List PT) (E:Int) (w:World) (e:Ending) (w':World):Prop:=Below w.heap.size w w'∧∃p:Option Addr,e=.returned (.tuple #[.pointer p,.int .i64 E])∧((E≠0∧p=none)∨(E=0∧∃s,p=some ⟨s,0,none⟩∧SC w' q l s))
theorem sown_16 (s:Addr) (w:World):Calls Tryz.prog 38 #[.pointer (some s)] w fun e w'=>e=.returned (.pointer (some s))∧w'=w:=by
 go_enter Tryz.func38,Tryz.ntmps38
 go_wp2_with fail
 go_ret
 exact⟨rfl,rfl⟩
theorem sof_16 (p:Option Addr) (w:World):Calls Tryz.prog 60 #[.pointer p] w fun e w'=>e=.returned (.pointer (some ⟨w.heap.size,0,none⟩))∧w'=w.alloc (.cells #[.pointer p] 76):=by
 go_enter Tryz.func60,Tryz.ntmps60
 go_wp2_with fail
 go_ret
 exact⟨rfl,rfl⟩
theorem smade_wrong16 (p:Option Addr) (E:Int) (hE:E≠0) (w:World):Calls Tryz.prog 27 #[.pointer p,.int .i64 E] w fun e w'=>e=.returned (.tuple #[.pointer none,.int .i64 E])∧w'=w:=by
 go_enter Tryz.func27,Tryz.ntmps27
 go_wp2_with fail
 go_ret2
 exact⟨rfl,rfl⟩
theorem smade_right16 (p:Option Addr) (w:World):Calls Tryz.prog 27 #[.pointer p,.int .i64 0] w fun e w'=>e=.returned (.tuple #[.pointer (some ⟨w.heap.size,0,none⟩),.int .i64 0])∧w'=w.alloc (.cells #[.pointer p] 76):=by
 go_enter Tryz.func27,Tryz.ntmps27
 go_wp2_with fail
 refine (sof_16 _ _).mono ?_
 rintro e w1 ⟨rfl,hw⟩
 subst hw
 go_wp2_with fail
 go_ret2
 exact⟨rfl,rfl⟩
theorem sc_new {w:World} {q:Nat} {l:List PT} {t:RT PT} {b:Nat} (hm:MC w q t b) (hi:t.items=l) (hn:Nils l):SC (w.alloc (.cells #[.pointer (some ⟨b,0,none⟩)] 76)) q l w.heap.size:=
 ⟨b,t,by simp,hm.keeps ((Grew.refl w).alloc _).below,hi,hn⟩
theorem smade_16 {q:Nat} {l:List PT} {E:Int} {p:Option Addr} {w:World} (h:(E≠0∧p=none)∨(E=0∧∃t b,p=some ⟨b,0,none⟩∧MC w q t b∧t.items=l)) (hn:Nils l):Calls Tryz.prog 27 #[.pointer p,.int .i64 E] w (SpPost q l E w):=by
 rcases h with ⟨hE,rfl⟩|⟨rfl,t,b,rfl,hm,hi⟩
 ·refine (smade_wrong16 none E hE w).mono ?_
  rintro e w' ⟨rfl,rfl⟩
  exact⟨Below.refl _ _,none,rfl,.inl ⟨hE,rfl⟩⟩
 ·refine (smade_right16 (some ⟨b,0,none⟩) w).mono ?_
  rintro e w' ⟨rfl,rfl⟩
  exact⟨((Grew.refl w).alloc _).below,_,rfl,.inr ⟨rfl,_,rfl,sc_new hm hi hn⟩⟩
def keyP (p:VT×Value):PP:=(p,(nilT,.slice none 0 0))
theorem keyP_len (ps:List (VT×Value)):(ps.map keyP).length=ps.length:=List.length_map _
theorem keyP_good {d:Nat} {w:World} {p:VT×Value} (h:Sound d w p):GoodQ d w (keyP p):=⟨h,zero_lies d w,show (0:Nat)≤9223372036854775807 by decide⟩
def zero8:Array Value:=#[.int .i64 0,.int .i64 0,.string ⟨#[]⟩,.slice none 0 0,.int .i64 0,.int .i64 0,.string ⟨#[]⟩,.slice none 0 0]
theorem madeCells_at (z:Array Value) (n k:Nat) (hk:k<(madeCells z n).size):(madeCells z n)[k]=z[k % z.size]! :=by
 have h2:(madeCells z n)[k]? = some (z[k % z.size]!):=by
  have hk2:k<n:=by rw [size_madeCells] at hk;exact hk
  simp [madeCells,hk2]
 rw [Array.getElem?_eq_getElem hk] at h2
 injection h2
theorem make_pairs0 (n:Nat) (hn:n≤65536):∃M:Array Value,(M.size=n*8∧∀k (hk:k<M.size),M[k]=zero8[k % 8]!)∧∀W:World,(Instr.makeSlice 56 (.int .i64 (n:Int)) (.int .i64 (n:Int))).run Tryz.prog W=.ok (.slice (some ⟨W.heap.size,0,none⟩) n n) (W.alloc (.cells M 124)):=by
 obtain⟨i0,hi,hz0,hz1,hz2⟩:=infoQ
 refine⟨madeCells (Value.agg #[.int .i64 0,.int .i64 0,.string ⟨#[]⟩,.slice none 0 0,.int .i64 0,.int .i64 0,.string ⟨#[]⟩,.slice none 0 0]).cells (((n:Nat):Int).toNat*i0.size),⟨?_,fun k hk=>?_⟩,fun W=>?_⟩
 ·rw [size_madeCells,hz1];simp
 ·exact madeCells_at _ _ _ _
 ·have h:=run_make (P:=Tryz.prog) W 56 124 i0 _ Tryz.underlying56 hi hz0 .i64 .i64 (n:Int) (n:Int) (by omega) (by omega) (by rw [hz2];omega) (by omega)
  simpa using h
structure KpQ (G n:Nat) (wr:World) (ps:List (VT×Value)):Prop where
 row:QAt wr G 0 (ps.map keyP)
 rest:∀k,ps.length*8≤k→k<n*8→wr.cell? ⟨G,k,none⟩=some (zero8[k % 8]!)
 froz:∀k,wr.frozen? ⟨G,k,none⟩=false
 lt:G<wr.heap.size
theorem KpQ.keeps {G n:Nat} {wr wr':World} {ps:List (VT×Value)} (h:KpQ G n wr ps) (hb:Below wr.heap.size wr wr'):KpQ G n wr' ps:=
 ⟨h.row.keeps hb,fun k h1 h2=>zaa hb (h.rest k h1 h2),fun k=>(hb.frozen (p:=⟨G,k,none⟩) h.lt).trans (h.froz k),Nat.lt_of_lt_of_le h.lt hb.size⟩
theorem KpQ.put {G n:Nat} {wr:World} {ps:List (VT×Value)} (h:KpQ G n wr ps) (p:VT×Value) (hl:ps.length<n):KpQ G n (wr.setCells G (ps.length*8) (encP p)) (ps++[p]):=by
 have hlen:(encP p).length=4:=rfl
 have hin:=World.cell?_setCells_in G (encP p) (ps.length*8) wr (fun j hj=>by
  rw [h.rest (ps.length*8+j) (by omega) (by omega)];rfl)
 have hm:(ps.map keyP).length=ps.length:=keyP_len ps
 refine⟨fun j u hj=>?_,fun k h1 h2=>?_,fun k=>by rw [World.frozen?_setCells];exact h.froz k,by rw [size_setCells];exact h.lt⟩
 ·rw [List.map_append,List.flatMap_append] at hj
  by_cases hlt:j<((ps.map keyP).flatMap encQ).length
  ·rw [List.getElem?_append_left hlt] at hj
   rw [zav,hm] at hlt
   rw [World.cell?_setCells_out G (encP p) (ps.length*8) wr ⟨G,0+j,none⟩ (fun _ _=>by simp only;omega)]
   exact h.row j u hj
  ·rw [List.getElem?_append_right (by omega),zav,hm] at hj
   rw [zav,hm] at hlt
   have e:([p].map keyP).flatMap encQ=encQ (keyP p):=by simp
   rw [e] at hj
   obtain⟨r,hr⟩:∃r,r=j-ps.length*8:=⟨_,rfl⟩
   rw [←hr] at hj
   have hj2:0+j=ps.length*8+r:=by omega
   rw [hj2]
   by_cases h4:r<4
   ·have h9:=hin r (by omega)
    rw [h9]
    have e2:(encQ (keyP p))[r]? = (encP p)[r]?:=by
     match r,h4 with
     | 0,_=>rfl
     | 1,_=>rfl
     | 2,_=>rfl
     | 3,_=>rfl
    rw [e2,List.getElem?_eq_getElem (by omega)] at hj
    exact hj
   ·have h8:r<8:=by
     rcases Nat.lt_or_ge r 8 with h|h
     ·exact h
     ·rw [List.getElem?_eq_none (by rw [zar];omega)] at hj;cases hj
    rw [World.cell?_setCells_out G (encP p) (ps.length*8) wr ⟨G,ps.length*8+r,none⟩ (fun _ _=>by simp only;omega),h.rest _ (by omega) (by omega)]
    have e3:(ps.length*8+r) % 8=r:=by omega
    rw [e3,←hj]
    match r,h4,h8 with
    | 4,_,_=>rfl
    | 5,_,_=>rfl
    | 6,_,_=>rfl
    | 7,_,_=>rfl
    | r+8,_,h=>omega
 ·rw [List.length_append] at h1
  simp only [List.length_singleton] at h1
  rw [World.cell?_setCells_out G (encP p) (ps.length*8) wr ⟨G,k,none⟩ (fun _ _=>by simp only;omega)]
  exact h.rest k (by omega) h2
def KyPost (ps:List (VT×Value)) (d:Nat) (w:World) (e:Ending) (w':World):Prop:=Below w.heap.size w w'∧∃v,e=.returned v∧SlQ 0 d w' (ps.map keyP) v
theorem keyed_16 (d:Nat) (ps:List (VT×Value)) (v:Value) (w:World) (hv:SlP 0 d w ps v) (hlen:ps.length≤65536):Calls Tryz.prog 29 #[v] w (KyPost ps d w):=by
 have HS:Hid (SlP 0 d w ps v):=hv
 obtain⟨a0,c0,rfl,_⟩:=hv.slice
 obtain⟨M,⟨hMs,hMz⟩,hmk⟩:=make_pairs0 ps.length hlen
 have HMs:Hid (M.size=ps.length*8∧∀k (hk:k<M.size),M[k]=zero8[k % 8]!):=⟨hMs,hMz⟩
 have HL:Hid (ps.length≤65536):=hlen
 obtain⟨n,hn⟩:∃n,n=ps.length:=⟨_,rfl⟩
 have HN:Hid (n=ps.length):=hn
 rw [←hn] at hmk hlen HMs ⊢
 clear hMs hMz hv hn
 go_enter Tryz.func29,Tryz.ntmps29
 go_wp2_with fail
 go_loopg [11,4,5] n (fun q i _ _ wr=>∃j:Nat,i=.int .i64 (j:Int)∧j≤n∧q=n-j∧Hid (KpQ w.heap.size n wr (ps.take j))∧Hid (Below w.heap.size w wr))
 case atStart=>
  refine⟨0,rfl,by omega,by omega,⟨QAt.nil _ _ _,(fun k _ hk=>?_),(fun k=>by simp),(by simp)⟩,(Below.refl _ _).alloc (Nat.le_refl _) _⟩
  have hk':k<M.size:=by rw [HMs.out.1];exact hk
  simp [hk',HMs.out.2]
 case round=>
  obtain⟨j,rfl,hj,hk,HC,HB⟩:=hrel
  have Hk:Hid _:=hk
  clear hk hmk
  have hbw:=HB.out
  by_cases hlt:j<n
  ·have hlt':j<ps.length:=by have:=HN.out;omega
   obtain⟨b1,o1,c1',hv1,_,hq,hgq⟩:=HS.out.some (fun e=>by rw [e] at hlt';cases hlt')
   have ha1:a0=some ⟨b1,o1,none⟩:=by injection hv1
   subst ha1
   obtain⟨p0,p1,p2,p3⟩:=hq j hlt'
   have hg:=hgq ps[j] (List.getElem_mem hlt')
   have htl:(ps.take j).length=j:=by rw [List.length_take];omega
   have hput:=HC.out.put ps[j] (by omega)
   rw [htl,←List.take_succ_eq_append_getElem hlt'] at hput
   obtain⟨a1,c1,hu1,_⟩:=Lies.slice hg.1
   rw [hu1] at p3
   generalize hx:ps[j]=x at *
   obtain⟨t1,u1⟩:=x
   simp only at p0 p1 p2 p3 hu1 hput
   subst hu1
   have Hput:Hid (KpQ w.heap.size n ((wr.setCells w.heap.size (j*8) [.int .i64 t1.kind,.int .i64 t1.num,.string t1.text,.slice a1 t1.items.length c1]).alloc (.cells #[.int .i64 t1.kind,.int .i64 t1.num,.string t1.text,.slice a1 t1.items.length c1] 24)) (ps.take (j+1))):=KpQ.keeps hput ((Grew.refl _).alloc _).below
   have p0:=zaa hbw p0;have p1:=zaa hbw p1;have p2:=zaa hbw p2;have p3:=zaa hbw p3
   have HCr:Hid _:=HC.out.rest
   have s0:=HC.out.rest (j*8) (by omega) (by omega)
   have s1:=HC.out.rest (j*8+1) (by omega) (by omega)
   have s2:=HC.out.rest (j*8+2) (by omega) (by omega)
   have s3:=HC.out.rest (j*8+3) (by omega) (by omega)
   have z0:=HC.out.froz (j*8)
   have z1:=HC.out.froz (j*8+1)
   have z2:=HC.out.froz (j*8+2)
   have z3:=HC.out.froz (j*8+3)
   have hji:(j:Int)<(n:Nat):=by omega
   have hws2:w.heap.size<wr.heap.size:=HC.out.lt
   have hwn : ¬w.heap.size=wr.heap.size:=by omega
   have hwn2 : ¬wr.heap.size=w.heap.size:=by omega
   have hbs:Below w.heap.size w (wr.setCells w.heap.size (j*8) [.int .i64 t1.kind,.int .i64 t1.num,.string t1.text,.slice a1 t1.items.length c1]):=
    (((hbw.setCell (p:=⟨w.heap.size,j*8,none⟩) (Nat.le_refl _) _).setCell (p:=⟨w.heap.size,j*8+1,none⟩) (Nat.le_refl _) _).setCell (p:=⟨w.heap.size,j*8+1+1,none⟩) (Nat.le_refl _) _).setCell (p:=⟨w.heap.size,j*8+1+1+1,none⟩) (Nat.le_refl _) _
   have HB2:Hid (Below w.heap.size w ((wr.setCells w.heap.size (j*8) [.int .i64 t1.kind,.int .i64 t1.num,.string t1.text,.slice a1 t1.items.length c1]).alloc (.cells #[.int .i64 t1.kind,.int .i64 t1.num,.string t1.text,.slice a1 t1.items.length c1] 24))):=hbs.alloc hbs.size _
   clear hbs
   clear hput hx hq hgq hg htl HC hv1
   go_wp2_with fail
   go_roundg (n-(j+1))
   case measure=>have:=Hk.out;omega
   case rel=>exact⟨j+1,by go_num,by omega,rfl,Hput,HB2⟩
  ·have hjl:j=n:=by omega
   have HE:Hid (KyPost ps d w (.returned (.slice (some ⟨w.heap.size,0,none⟩) n n)) wr):=by
    have htk:ps.take j=ps:=by rw [hjl,HN.out,List.take_length]
    have hrow:=HC.out.row
    rw [htk] at hrow
    refine⟨hbw,_,rfl,_,n,by rw [keyP_len,←HN.out],by rw [keyP_len,←HN.out];exact Nat.le_refl _,by rw [keyP_len];have:=HL.out;omega,fun _=>⟨w.heap.size,0,rfl,Nat.zero_le _,hrow⟩,fun p hp=>?_⟩
    obtain⟨x,hx,rfl⟩:=List.mem_map.1 hp
    obtain⟨_,_,_,_,_,_,hgs⟩:=HS.out
    exact (keyP_good (hgs x hx)).keeps hbw
   have hji : ¬(j:Int)<(n:Nat):=by omega
   go_wp2_with fail
   go_ret
   exact HE.out
attribute [local go_sem] Oper.semAt_some
def CQ.cv (x:CQ):CV:=⟨x.k,x.a1,x.c1⟩
def AkI (w0:World) (J:List CV→World→Prop) (lo By:Nat) (pre:List CQ) (W:World):Prop:=
 J (pre.map CQ.cv) W∧Go.Boxed W By 133 (.func (.yield lo) #[] #[])∧Below w0.heap.size w0 W
def AkX (Jx:List CV→World→Prop) (c:Code) (_:List CQ) (W:World):Prop:=c=.ret∧∃ys,Jx ys W
theorem AkI.own {w0:World} (J:List CV→World→Prop) (lo By B M:Nat) (hJ:OwnFrom B J) (hB:B≤M) (h1:By<M) (h3:w0.heap.size≤M):OwnFrom M (AkI w0 J lo By):=by
 intro s A V row hs hg hr
 obtain⟨hj,b1,hb⟩:=hs
 refine⟨hJ _ A V row hj hg (fun r e=>⟨by have:=(hr r e).1;omega,(hr r e).2⟩),b1.kept hg (fun e=>?_),hb.grown hg hb.size (fun k e=>?_)⟩
 ·have:=(hr _ e.symm).1;omega
 ·have:=(hr _ e).1;omega
theorem AkX.own (Jx:List CV→World→Prop) (c:Code) (B M:Nat) (hJ:OwnFrom B Jx) (hB:B≤M):OwnFrom M (AkX Jx c):=by
 intro s A V row hs hg hr
 obtain⟨hc,ys,hj⟩:=hs
 exact⟨hc,ys,hJ ys A V row hj hg (fun r e=>⟨by have:=(hr r e).1;omega,(hr r e).2⟩)⟩
def AkA (J:List CV→World→Prop) (l:List (VT×VT)) (f:CQ→Nat→Act) (pre:List CQ) (x:CQ) (a:Act) (W:World):Prop:=
 ∃Bx V0,J (pre.map CQ.cv) V0∧Below V0.heap.size V0 W∧NewV V0.heap.size W x.cv∧BoxV W Bx x.k (.slice x.a1 x.k.items.length x.c1)∧(pre.map CQ.t++[x.t]) <+: l∧a=f x Bx
theorem newV_grown {B:Nat} {A V:World} {row:Option Nat} (hg:A.grownBy V row) (hr:∀r,row=some r→∃o:Obj,A.heap[r]? = some o∧o.isCells=false) {x:CV} (h:NewV B A x):NewV B V x:=by
 refine⟨LiesB.stays (fun a u _ hu=>?_) _ _ _ h.1,h.2⟩
 have hne:row≠some a.block:=fun e=>by
  obtain⟨o,ho,hoc⟩:=hr _ e
  obtain⟨o2,ho2,hc2⟩:=cells_of_cell hu
  rw [ho] at ho2
  cases ho2
  rw [hoc] at hc2
  cases hc2
 have hb:=hg.block a.block (zad hu) (fun e2=>hne e2.symm)
 exact⟨(World.cell?_of_block hb).trans hu,by unfold World.frozen?;rw [hb]⟩
theorem AkA.own (J:List CV→World→Prop) (l:List (VT×VT)) (B M:Nat) (hJ:OwnFrom B J) (hB:B≤M) (f:CQ→Nat→Act) (pre:List CQ) (x:CQ) (a:Act):OwnFrom M (fun (_:Unit) W=>AkA J l f pre x a W):=by
 intro s A V row hs hg hr
 obtain⟨Bx,V0,hj,hb,hN,b4,hp,rfl⟩:=hs
 have hr2:∀r,row=some r→∃o:Obj,A.heap[r]? = some o∧o.isCells=false:=fun r e=>(hr r e).2
 have hN2:=newV_grown hg hr2 hN
 by_cases hin:∃r,row=some r∧r<V0.heap.size
 ·obtain⟨r,rfl,hlt⟩:=hin
  obtain⟨hMr,o,ho,hoc⟩:=hr r rfl
  have h0:V0.heap[r]? = some o:=(hb.block r hlt).symm.trans ho
  have hlV:r<V.heap.size:=Nat.lt_of_lt_of_le hlt (Nat.le_trans hb.size hg.size)
  obtain⟨o',ho'⟩:∃o',V.heap[r]? = some o':=⟨_,Array.getElem?_eq_getElem hlV⟩
  have hs1:(V0.putObj r o').heap.size=V0.heap.size:=by simp [World.putObj]
  refine⟨Bx,V0.putObj r o',hJ _ V0 _ (some r) hj (grownBy_putObj' V0 r o') (fun r2 e=>?_),⟨hg.os.trans hb.os,hg.tape.trans hb.tape,hg.output.trans hb.output,by rw [hs1];exact Nat.le_trans hb.size hg.size,fun k hk=>?_⟩,by rw [hs1];exact hN2,boxV_grownY hg hr2 b4,hp,rfl⟩
  ·injection e with e
   subst e
   exact⟨by omega,o,h0,hoc⟩
  ·rw [hs1] at hk
   by_cases e:k=r
   ·subst e
    rw [ho',World.putObj_heap_same hlt]
   ·rw [World.putObj_heap_other e]
    exact (hg.block k (Nat.lt_of_lt_of_le hk hb.size) (fun e2=>e (by injection e2))).trans (hb.block k hk)
 ·refine⟨Bx,V0,hj,⟨hg.os.trans hb.os,hg.tape.trans hb.tape,hg.output.trans hb.output,Nat.le_trans hb.size hg.size,fun k hk=>?_⟩,hN2,boxV_grownY hg hr2 b4,hp,rfl⟩
  exact (hg.block k (Nat.lt_of_lt_of_le hk hb.size) (fun e2=>hin ⟨k,e2.symm,hk⟩)).trans (hb.block k hk)
theorem sall1_16 {w0:World} {q:Nat} {t:RT PT} {b:Nat} (h:MC w0 q t b) (Z:Nat) (hZ:37≠Z) (hZ2:133≠Z) (n Bm:Nat) (hn:6≤n) (w:World) (hw0:Below w0.heap.size w0 w) (hm:w.cell? ⟨Bm,0,none⟩=some (.pointer (some ⟨b,0,none⟩))) :
 SeqX Fence.wide n Tryz.prog 139 #[.pointer (some ⟨Bm,0,none⟩)] encCV (KpY Z w0.heap.size) (PreCV (t.items.map (·.1))) (fun xs=>xs.map CV.k=t.items.map (·.1)) (fun _=>True) t.items.length w:=by
 intro lo J Jx W hW hJ hJx hY h0
 have hm1:=zaa hW hm
 have hlm:=zad hm1
 have hWw:Below w0.heap.size w0 W:=hw0.trans (hW.mono hw0.size)
 simp only at hlm
 have HSt:Hid _:=fun n Bm w h1 h2 h3=>mall1_14 h Z hZ n Bm h1 w h2 h3
 have HY:Hid _:=hY
 have HJ:Hid _:=hJ
 have HJx:Hid _:=hJx
 have H0:Hid (J [] W):=h0
 clear hY hJ hJx h0
 refine callsIn_of_wp_marks Tryz.func139 rfl trivial ?_ rfl
 simp only [Tryz.ntmps139,List.size_toArray,List.length_cons,List.length_nil,Nat.reduceAdd,Nat.reduceSub,Array.replicate_succ,Array.replicate_zero,List.push_toArray,List.append_toArray,List.nil_append,List.cons_append]
 gi_wp2
 refine⟨trivial,(fun h=>by cases h),?_⟩
 refine (callsIn_wide.2 (mall14 _ _)).mono ?_
 rintro e w1 ⟨rfl,rfl⟩
 simp only [World.size_alloc]
 gi_wp2
 obtain⟨Wi,hWi⟩:∃Wi,Wi=((W.alloc (.cells #[.func (.yield lo) #[] #[]] 133)).alloc (.cells #[.pointer (some ⟨b,0,none⟩)] 58)):=⟨_,rfl⟩
 rw [←hWi]
 have hsz:Wi.heap.size=W.heap.size+2:=by rw [hWi];simp
 have hbi:Below W.heap.size W Wi:=by rw [hWi];exact ((Grew.refl W).alloc _).alloc _ |>.below
 have hw0i:Below w0.heap.size w0 Wi:=hWw.trans (hbi.mono hWw.size)
 have hws:w0.heap.size≤W.heap.size:=hWw.size
 have bY:Go.Boxed Wi W.heap.size 133 (.func (.yield lo) #[] #[]):=by
  rw [hWi]
  exact (Go.Boxed.new W _ _).alloc _
 have c2:Wi.cell? ⟨W.heap.size+1,0,none⟩=some (.pointer (some ⟨b,0,none⟩)):=by
  rw [hWi]
  have h9:=(Go.Boxed.new (W.alloc (.cells #[.func (.yield lo) #[] #[]] 133)) 58 (.pointer (some ⟨b,0,none⟩))).cell
  rwa [World.size_alloc] at h9
 have hJi:J [] Wi:=HJ.out [] W Wi none H0.out (zag hbi) (fun r e=>by cases e)
 clear hm1 hm hWi h
 refine rangeX (α:=CQ) rfl (by omega) (gf:=171) (lb:=#[.pointer (some ⟨W.heap.size+1,0,none⟩)]) rfl trivial (enters_of Tryz.func171 (by kernel_rfl) rfl)
  (HSt.out _ _ Wi (by omega) hw0i c2) kpY_t (fun W o o' hl ho=>kpY_b (by omega) (by omega) W o o' hl ho) (Below.refl _ _) (fun _=>rfl)
  (AkI w0 J lo W.heap.size) (AkX Jx) (AkI.own J lo _ W.heap.size _ HJ.out (by omega) (by omega) (by omega)) (fun c=>AkX.own Jx c W.heap.size _ HJx.out (by omega)) ?h0
  (AkA J t.items (fun x Bx=>{ tmps:=#[.func (.yield lo) #[] #[],.pointer (some ⟨Bm,0,none⟩),.pointer (some ⟨W.heap.size,0,none⟩),.pointer (some ⟨Bx,0,none⟩),.pointer (some ⟨Bm,0,none⟩),.pointer (some ⟨b,0,none⟩),.func (.func 171) #[] #[.pointer (some ⟨W.heap.size+1,0,none⟩)],.agg #[.int .i64 x.k.kind,.int .i64 x.k.num,.string x.k.text,.slice x.a1 x.k.items.length x.c1],.agg #[.int .i64 x.v.kind,.int .i64 x.v.num,.string x.v.text,.slice x.a2 x.v.items.length x.c2],undef,undef,undef,undef],defers:=[] })) (fun pre x a'=>AkA.own J t.items W.heap.size _ HJ.out (by omega) _ _ _ _) ?assign ?body ?done ?stop
 case h0=>exact⟨hJi,bY,hw0i⟩
 case assign=>
  rintro lp pre x V0 V K hI hVV ⟨hN,hpx⟩ hK
  have hI2:AkI w0 J lo W.heap.size pre V:=AkI.own J lo W.heap.size W.heap.size Wi.heap.size HJ.out (by omega) (by omega) (by omega) pre V0 V none hI (zag hVV) (fun r e=>by cases e)
  obtain⟨hj,b1,hB⟩:=hI2
  have hba:Below V.heap.size V (V.alloc (.cells #[.int .i64 x.k.kind,.int .i64 x.k.num,.string x.k.text,.slice x.a1 x.k.items.length x.c1] 24)):=((Grew.refl V).alloc _).below
  have HK:Hid (K _ _):=hK _ _ ((KeepsOthers.alloc V (.cells #[.int .i64 x.k.kind,.int .i64 x.k.num,.string x.k.text,.slice x.a1 x.k.items.length x.c1] 24)).from _) ⟨hba.mono hB.size,KBy.below hba,keepsBelowY hba⟩ ⟨HJ.out _ V _ none hj (zag hba) (fun r e=>by cases e),b1.alloc _,hB.trans (hba.mono hB.size)⟩
   ⟨V.heap.size,V0,hI.1,hVV.trans (hba.mono hVV.size),newV_grown (zag hba) (fun r e=>by cases e) (show NewV V0.heap.size V x.cv from hN.1),World.alloc_heap_new V _,hpx,rfl⟩
  clear hK
  unfold encCQ
  gi_wp2
  exact HK.out
 case body=>
  rintro lp pre x a' V hlp ⟨hj,b1,hB⟩ ⟨Bx,V0,hj0,hVV,hN,b4,hpx,rfl⟩ hlt
  obtain⟨y0,y1,y2,y3⟩:=b4.cells
  have hlx:=b4.lt
  have hpx2:((pre.map CQ.cv).map CV.k++[x.cv.k]) <+: t.items.map (·.1):=by
   have h9:=hpx.map (·.1)
   rw [List.map_append,List.map_map] at h9
   rw [List.map_map]
   exact h9
  have hyy:=HY.out (pre.map CQ.cv) x.cv V0 V hj0 hVV ⟨hN,hpx2⟩ (by rw [List.length_map];exact hlt)
  obtain⟨fn,tm,asg,bod,hy,hR⟩:=hyy
  simp only [encCV,CQ.cv] at hy
  have d2:=b1.cell
  have d3:=b1.lt
  have Hfin:Hid (∀w2,J (pre.map CQ.cv++[x.cv]) w2→KpY Z w0.heap.size W.heap.size V w2→KeepsFrom Wi.heap.size V w2∧KpY Z w0.heap.size (Wi.heap.size+2) V w2∧AkI w0 J lo W.heap.size (pre++[x]) w2):=fun w2 h1 hk=>⟨keepsLaterY hk.2.2 (by omega),⟨hk.1,hk.2.1,keepsLaterY hk.2.2 (by omega)⟩,by rw [List.map_append];exact h1,hk.2.1 _ _ _ hZ2 b1,hB.trans hk.1⟩
  have Hstp:Hid (∀w2,Jx (pre.map CQ.cv++[x.cv]) w2→KpY Z w0.heap.size W.heap.size V w2→KeepsFrom Wi.heap.size V w2∧KpY Z w0.heap.size (Wi.heap.size+2) V w2∧AkX Jx .ret (pre++[x]) w2):=fun w2 h1 hk=>⟨keepsLaterY hk.2.2 (by omega),⟨hk.1,hk.2.1,keepsLaterY hk.2.2 (by omega)⟩,rfl,_,h1⟩
  clear HSt hpx hpx2 hN hj hj0 hVV b4 hB
  gi_wp2
  refine⟨(fun h=>by cases h),?_⟩
  refine (roundIn_inX hR lp _).mono ?_
  rintro e w2 (⟨rfl,hj2,hk2⟩|⟨rfl,hj2,hk2⟩)
  ·have HE:Hid _:=Hfin.out w2 hj2 hk2
   clear hj2 hk2 Hfin Hstp hy hR d2 d3 b1
   gi_wp2
   exact HE.out
  ·have HE:Hid _:=Hstp.out w2 hj2 hk2
   clear hj2 hk2 Hfin Hstp hy hR d2 d3 b1
   gi_wp2
   exact HE.out
 case done=>
  rintro D xs V hD hxs ⟨hj,b1,hB⟩ hK
  have HM:Hid (MarksX W.heap.size V [D]):=MarksX.one (by omega) hK
  have HT:Hid (J (xs.map CQ.cv) V):=hj
  have HS:Hid ((xs.map CQ.cv).map CV.k=t.items.map (·.1)):=by
   show _=_
   rw [←hxs,List.map_map,List.map_map]
   rfl
  clear hj b1 hB hK hxs
  gi_wp2
  refine leavesX W.heap.size (fun V=>J (xs.map CQ.cv) V) (fun V D hD hK hT=>OwnFrom.putObj (show OwnFrom W.heap.size J from HJ.out) _ hT hD hK rfl) (fun V hT=>⟨.tuple #[],by simp [results,Tryz.results139,go_sem],⟨_,rfl⟩,.inl ⟨xs.map CQ.cv,HS.out,hT⟩⟩) [D] V HM.out HT.out
 case stop=>
  rintro D c pre V hD _ ⟨rfl,ys,hj⟩ hK
  have HM:Hid (MarksX W.heap.size V [D]):=MarksX.one (by omega) hK
  have HT:Hid (Jx ys V):=hj
  clear hj hK
  gi_wp2
  refine leavesX W.heap.size (fun V=>Jx ys V) (fun V D hD hK hT=>OwnFrom.putObj (show OwnFrom W.heap.size Jx from HJx.out) _ hT hD hK rfl) (fun V hT=>⟨.tuple #[],by simp [results,Tryz.results139,go_sem],⟨_,rfl⟩,.inr ⟨ys,trivial,hT⟩⟩) [D] V HM.out HT.out
end Go.Proofs.YtlnecfjnffdciacGreat
