import Derived.Test.YtlnecfjnffdciabGreatSFst16
import Derived.Test.YtlnecfjnffdciabGreatEqP
set_option maxRecDepth 100000
set_option maxHeartbeats 32000000
namespace Go.Proofs.YtlnecfjnffdciabGreat
open Go.RowKit Go.Shelf
def DS (w:World) (q:Nat) (l:List PT) (c:Nat):Prop:=∃m,w.cell? ⟨c,0,none⟩=some (.pointer (some ⟨m,0,none⟩))∧DM w q l m∧Nils l
theorem DS.keeps {w w':World} {q:Nat} {l:List PT} {c:Nat} (h:DS w q l c) (hb:Below w.heap.size w w'):DS w' q l c:=by
 obtain⟨m,h1,h2,h3⟩:=h
 exact⟨m,zaa hb h1,h2.keeps hb,h3⟩
def nilP (v:VT):PT:=(v,nilT)
def setL (q:Nat) (vs:List VT):List PT:=ofL q (vs.map nilP)
theorem setL_nils (q:Nat) (vs:List VT):Nils (setL q vs):=fun x hx=>by
 obtain⟨v,_,rfl⟩:=List.mem_map.1 (kyd_mem _ _ _ _ hx)
 rfl
theorem setL_len (q:Nat) (vs:List VT):(setL q vs).length≤vs.length:=by
 have h9:=kyd_len (byK q) ((vs.map nilP).length+1) (vs.map nilP)
 rw [List.length_map] at h9
 unfold setL ofL
 rw [List.length_map]
 exact h9
theorem keyP_map (ps:List (VT×Value)):(ps.map keyP).map trT=(ps.map (·.1)).map nilP:=by rw [List.map_map,List.map_map];rfl
def MkPost (q:Nat) (l:List PT) (w:World) (e:Ending) (w':World):Prop:=Below w.heap.size w w'∧∃c m a9 c9,e=.returned (.pointer (some ⟨c,0,none⟩))∧w'.cell? ⟨c,0,none⟩=some (.pointer (some ⟨m,0,none⟩))∧w'.cell? ⟨m,1,none⟩=some (.slice a9 l.length c9)∧(l.length≤65536→DS w' q l c)
theorem nil_right:zac 16 nilT=true∧Dp 16 nilT:=⟨by kernel_rfl,Dp.of_lies 16 (default:World) nilT (.slice none 0 0) (zero_lies 16 _)⟩
theorem rmake_16 (q:Nat) (hq:q<6) (ps:List (VT×Value)) (v:Value) (w:World) (hv:SlP 0 16 w ps v) (hlen:ps.length≤131072) (hg:∀p∈ps,zac 16 p.1=true):Calls Tryz.prog 61 #[.int .i64 (q:Int),v] w (MkPost q (setL q (ps.map (·.1))) w):=by
 obtain⟨i0,hi,hz0,hz1,hz2⟩:=infoQ
 have Hi:Hid _:=hi;have Hz0:Hid _:=hz0;have Hz1:Hid _:=hz1;have Hz2:Hid _:=hz2
 have HS:Hid (SlP 0 16 w ps v):=hv
 have HL:Hid (ps.length≤131072):=hlen
 obtain⟨_,_,hvv,_,_,_,hgs⟩:=hv
 clear hvv
 have hG:∀p∈ps.map keyP,Good 16 p.1.1∧Good 16 p.2.1:=fun p hp=>by
  obtain⟨x,hx,rfl⟩:=List.mem_map.1 hp
  exact⟨⟨hg x hx,Dp.of_lies 16 w x.1 x.2 (hgs x hx).1⟩,nil_right⟩
 have hK:(kyd (cmpO q) ((ps.map keyP).length+1) (ps.map keyP)).map trT=setL q (ps.map (·.1)):=by
  unfold setL
  rw [←keyP_map]
  exact ofK_is q (ps.map keyP)
 have HB:Hid (∀V u,SlQ 0 16 V (ps.map keyP) u→Calls Tryz.prog 118 #[.int .i64 (q:Int),u] V fun e w'=>Below V.heap.size V w'∧∃m a9 c9,e=.returned (.pointer (some ⟨m,0,none⟩))∧w'.cell? ⟨m,1,none⟩=some (.slice a9 (setL q (ps.map (·.1))).length c9)∧((setL q (ps.map (·.1))).length≤65536→DM w' q (setL q (ps.map (·.1))) m)):=fun V u hu=>by
  refine (rbuild_any q hq (ps.map keyP).length (ps.map keyP) u V hu (fun p hp=>(hG p hp).1.1) (by rw [keyP_len];exact hlen) (by omega)).mono fun e w' h=>?_
  have h2:=h
  obtain⟨hb,b,v,rfl,h0,h1,hs⟩:=h
  obtain⟨a9,c9,rfl,_⟩:=hs.slice
  have hl:(kyd (cmpO q) ((ps.map keyP).length+1) (ps.map keyP)).length=(setL q (ps.map (·.1))).length:=by rw [←hK];simp
  rw [hl] at h1
  refine⟨hb,b,a9,c9,rfl,h1,fun hz=>?_⟩
  obtain⟨_,b2,he,hd⟩:=BdP.dm hq (by omega) h2 hG (by rw [hl];exact hz)
  simp only [Ending.returned.injEq,Value.pointer.injEq,Option.some.injEq,Addr.mk.injEq,and_true] at he
  subst he
  rw [hK] at hd
  exact hd
 have HNl:Hid (Nils (setL q (ps.map (·.1)))):=setL_nils q _
 obtain⟨a0,c0,rfl,_⟩:=HS.out.slice
 obtain⟨n,hn⟩:∃n,n=ps.length:=⟨_,rfl⟩
 have HN:Hid (n=ps.length):=hn
 rw [←hn] at hlen ⊢
 clear hi hz0 hz1 hz2 hgs hG hK hg hn hq
 generalize setL q (ps.map (·.1))=SL at *
 go_enter Tryz.func61,Tryz.ntmps61
 go_wp2_with fail
 go_loopg [6,5] n (fun z i u wr=>∃j:Nat,i=.int .i64 (j:Int)∧j≤n∧z=n-j∧Hid (wr.ownsRow w.heap.size 108 8 u j (((ps.take j).map keyP).flatMap encQ))∧Hid (Below w.heap.size w wr))
 case atStart=>exact⟨0,rfl,by omega,by omega,World.ownsRow_nil _ _ _ _,Below.refl _ _⟩
 case round=>
  obtain⟨j,rfl,hj,hk,HOw,HBw⟩:=hrel
  have Hk:Hid _:=hk
  have hbw:=HBw.out
  clear hk
  by_cases hlt:j<n
  ·have hlt':j<ps.length:=by have:=HN.out;omega
   obtain⟨b1,o1,c1',hv1,_,hq1,hgq⟩:=HS.out.some (fun e=>by rw [e] at hlt';cases hlt')
   have ha1:a0=some ⟨b1,o1,none⟩:=by injection hv1
   subst ha1
   obtain⟨p0,p1,p2,p3⟩:=hq1 j hlt'
   have hg:=hgq ps[j] (List.getElem_mem hlt')
   have Htk:Hid (((ps.take (j+1)).map keyP).flatMap encQ=((ps.take j).map keyP).flatMap encQ++encQ (keyP ps[j])):=by
    show _=_
    rw [List.take_succ_eq_append_getElem hlt',List.map_append,List.flatMap_append];simp
   obtain⟨a1,c1,hu1,_⟩:=Lies.slice hg.1
   rw [hu1] at p3
   generalize ps[j]=x at *
   obtain⟨t1,u1⟩:=x
   simp only at p0 p1 p2 p3 hu1
   subst hu1
   have p0:=zaa hbw p0;have p1:=zaa hbw p1;have p2:=zaa hbw p2;have p3:=zaa hbw p3
   have hji:(j:Int)<(n:Nat):=by omega
   have hws:w.heap.size≤wr.heap.size:=hbw.size
   clear hq1 hgq hg hv1
   go_wp2_with (first
    | (at_builtin;refine wpList_append_own _ rfl _ _ 76 rfl w.heap.size 108 i0 (.agg #[.int .i64 0,.int .i64 0,.string ⟨#[]⟩,.slice none 0 0,.int .i64 0,.int .i64 0,.string ⟨#[]⟩,.slice none 0 0]) 8 112 Tryz.underlying76 Hi.out Hz0.out Hz1.out Hz2.out rfl (by decide) _ _ _ rfl (HOw.out.alloc _) ⟨wr.heap.size,0,none⟩ 1 1 [.int .i64 t1.kind,.int .i64 t1.num,.string t1.text,.slice a1 t1.items.length c1,.int .i64 0,.int .i64 0,.string ⟨#[]⟩,.slice none 0 0] rfl rfl (fun q u hq=>by match q,hq with|0,hq=>(simp at hq;subst hq;simp [Addr.add])|1,hq=>(simp at hq;subst hq;simp [Addr.add])|2,hq=>(simp at hq;subst hq;simp [Addr.add])|3,hq=>(simp at hq;subst hq;simp [Addr.add])|4,hq=>(simp at hq;subst hq;simp [Addr.add])|5,hq=>(simp at hq;subst hq;simp [Addr.add])|6,hq=>(simp at hq;subst hq;simp [Addr.add])|7,hq=>(simp at hq;subst hq;simp [Addr.add])) (fun u hu=>by simp at hu;rcases hu with rfl|rfl|rfl|rfl|rfl|rfl|rfl|rfl <;> rfl) (by unfold maxLen;omega) (by omega) (by simp;omega) ?_;intro v9 w9 hown hgrow _))
   have hb9:Below w.heap.size w w9:=zao (hbw.alloc hws _) (by simp;omega) (HOw.out.alloc _) hgrow
   have HR9:Hid (w9.ownsRow w.heap.size 108 8 v9 (j+1) (((ps.take (j+1)).map keyP).flatMap encQ)):=by
    rw [Htk.out]
    exact hown
   clear hown hgrow p0 p1 p2 p3
   go_roundg (n-(j+1))
   case measure=>have:=Hk.out;omega
   case rel=>exact⟨j+1,by go_num,by omega,rfl,HR9,hb9⟩
  ·have hjl:j=n:=by omega
   have hji : ¬(j:Int)<(n:Nat):=by omega
   have HSq:Hid (SlQ 0 16 wr (ps.map keyP) u5):=by
    have h9:=HOw.out
    rw [hjl,HN.out,List.take_length] at h9
    refine (SlQ.of_own (by rw [keyP_len]) h9 (fun p hp=>?_) (by rw [keyP_len];have:=HL.out;omega)).mono (Nat.zero_le _)
    obtain⟨x,hx,rfl⟩:=List.mem_map.1 hp
    obtain⟨_,_,_,_,_,_,hgs⟩:=HS.out
    exact (keyP_good (hgs x hx)).keeps hbw
   have HBd:Hid _:=HB.out wr _ HSq.out
   clear HOw HB HSq hjl
   go_wp2_with fail
   refine Calls.mono HBd.out ?_
   rintro e w2 ⟨hg2,m,a9,c9,rfl,hm1,hmd⟩
   have hb2:Below w.heap.size w w2:=hbw.trans (hg2.mono hbw.size)
   have hal:Below w2.heap.size w2 (w2.alloc (.cells #[.pointer (some ⟨m,0,none⟩)] 101)):=((Grew.refl w2).alloc _).below
   have HE:Hid (MkPost q SL w (.returned (.pointer (some ⟨w2.heap.size,0,none⟩))) (w2.alloc (.cells #[.pointer (some ⟨m,0,none⟩)] 101))):=⟨hb2.trans (hal.mono hb2.size),_,m,a9,c9,rfl,by simp,zaa hal hm1,fun hz=>⟨m,by simp,(hmd hz).keeps hal,HNl.out⟩⟩
   clear hg2 hm1 hmd hb2 hal HBd
   go_wp2_with fail
   first|exact HE.out|(go_ret;exact HE.out)
def DsPost (q:Nat) (l:List PT) (E:Int) (w:World) (e:Ending) (w':World):Prop:=Below w.heap.size w w'∧∃p:Option Addr,e=.returned (.tuple #[.pointer p,.int .i64 E])∧((E≠0∧p=none)∨(E=0∧∃c,p=some ⟨c,0,none⟩∧DS w' q l c))
theorem lookE_zero {d:Nat} {o:Int} {l:List VT} (h:lookE d o l=0):(0≤o∧o<6)∧l.length≤65536∧∀v∈l,zac d v=true:=by
 unfold lookE at h
 split at h
 ·cases h
 ·rename_i ho
  unfold zan at h
  split at h
  ·cases h
  ·split at h
   ·rename_i h1 h2
    exact⟨by omega,by omega,by simpa [List.all_eq_true] using h2⟩
   ·cases h
theorem rof_16 (d:Nat) (o:Int) (l:List VT) (u:Value) (w:World) (hu:Lies (d+1) w l u):Calls Tryz.prog 10 #[.int .i64 o,u] w (DsPost o.toNat (setL o.toNat l) (lookE d o l) w):=by
 obtain⟨a0,c0,rfl,_⟩:=Lies.slice hu
 have HF:Hid _:=rfit_any d o l _ w hu
 by_cases hz:lookE d o l=0
 ·obtain⟨ho,hlen,hr⟩:=lookE_zero hz
  obtain⟨q,rfl⟩:∃p:Nat,o=(p:Int):=⟨o.toNat,by omega⟩
  have HM:Hid (∀V,Below w.heap.size w V→Calls Tryz.prog 61 #[.int .i64 (q:Int),.slice a0 l.length c0] V (MkPost q (setL q l) V)):=fun V hV=>by
   obtain⟨ps,hps,hpl,hsp⟩:=SlP.of_lies (Lies.keeps hV _ _ _ hu)
   have hg:∀p∈ps,zac d p.1=true:=fun p hp=>hr p.1 (by rw [←hps];exact List.mem_map_of_mem hp)
   obtain⟨a2,c2,e2,h2,h3,h4,h5⟩:=hsp
   have h9:=rmake_16 q (by omega) ps _ V ⟨a2,c2,e2,h2,h3,h4,fun p hp=>⟨(canon (h5 p hp).1 (hg p hp)).1,(h5 p hp).2⟩⟩ (by omega) (fun p hp=>(canon (h5 p hp).1 (hg p hp)).2)
   rw [hps] at h9
   exact h9
  have HLn:Hid ((setL q l).length≤65536):=by have:=setL_len q l;show _≤_;omega
  rw [hz] at HF ⊢
  rw [show ((q:Int)).toNat=q by omega]
  clear hu hz ho hlen hr
  generalize setL q l=SL at *
  generalize l.length=N at *
  go_enter Tryz.func10,Tryz.ntmps10
  go_wp2_with fail
  refine Calls.mono HF.out ?_
  rintro e w1 ⟨rfl,hg1⟩
  go_wp2_with fail
  refine Calls.mono (HM.out _ hg1) ?_
  rintro e w2 ⟨hg2,c,m,a9,c9,rfl,_,_,hd⟩
  have HE:Hid (DsPost q SL 0 w (.returned (.tuple #[.pointer (some ⟨c,0,none⟩),.int .i64 0])) w2):=⟨hg1.trans (hg2.mono hg1.size),_,rfl,.inr ⟨rfl,c,rfl,hd HLn.out⟩⟩
  clear hd hg1 hg2 HM HF
  go_wp2_with fail
  go_ret2
  exact HE.out
 ·have HZ:Hid (¬lookE d o l=0):=hz
  clear hu
  generalize lookE d o l=E at *
  generalize l.length=N at *
  go_enter Tryz.func10,Tryz.ntmps10
  go_wp2_with fail
  refine Calls.mono HF.out ?_
  rintro e w1 ⟨rfl,hg1⟩
  have HE:Hid (∀L,DsPost o.toNat L E w (.returned (.tuple #[.pointer none,.int .i64 E])) w1):=fun L=>⟨hg1,none,rfl,.inl ⟨HZ.out,rfl⟩⟩
  clear hg1 HF
  go_wp2_with fail
  go_ret2
  exact HE.out _
theorem rlen_16 {w:World} {c m N:Nat} {a9:Option Addr} {c9:Nat} (h0:w.cell? ⟨c,0,none⟩=some (.pointer (some ⟨m,0,none⟩))) (h1:w.cell? ⟨m,1,none⟩=some (.slice a9 N c9)):Calls Tryz.prog 75 #[.pointer (some ⟨c,0,none⟩)] w fun e w'=>e=.returned (.int .i64 (N:Nat))∧w'=w:=by
 go_enter Tryz.func75,Tryz.ntmps75
 go_wp2_with fail
 go_ret
 exact⟨rfl,rfl⟩
theorem DS.row {w:World} {q:Nat} {l:List PT} {c:Nat} (h:DS w q l c):∃(m:Nat) (qs:List PP) (a9:Option Addr) (c9:Nat),w.cell? ⟨c,0,none⟩=some (.pointer (some ⟨m,0,none⟩))∧w.cell? ⟨m,0,none⟩=some (.int .i64 (q:Int))∧w.cell? ⟨m,1,none⟩=some (.slice a9 qs.length c9)∧qs.map trT=l∧SlQ 0 16 w qs (.slice a9 qs.length c9)∧DM w q l m:=by
 obtain⟨m,h0,hd,hn⟩:=h
 have hd2:=hd
 obtain⟨ho,⟨qs,v,h1,h2,h3⟩,_,_,_,_⟩:=hd2
 obtain⟨a9,c9,rfl,_⟩:=h3.slice
 exact⟨m,qs,a9,c9,h0,ho,h1,h2,h3,hd⟩
def ItPost (base:Nat) (vs:List VT) (w:World) (e:Ending) (w':World):Prop:=Below w.heap.size w w'∧∃ps v,e=.returned v∧ps.map (·.1)=vs∧SlP base 16 w' ps v
theorem ritems_16 {w:World} {q:Nat} {l:List PT} {c:Nat} (h:DS w q l c):Calls Tryz.prog 64 #[.pointer (some ⟨c,0,none⟩)] w (ItPost w.heap.size (l.map (·.1)) w):=by
 obtain⟨i0,hi,hz0,hz1,hz2⟩:=info24
 have Hi:Hid _:=hi;have Hz0:Hid _:=hz0;have Hz1:Hid _:=hz1;have Hz2:Hid _:=hz2
 obtain⟨m,qs,a0,c0,h0,_,h1,rfl,hs,hd⟩:=h.row
 have hlen:qs.length≤65536:=by have:=hd.size;rwa [List.length_map] at this
 have HL:Hid (qs.length≤65536):=hlen
 have HS:Hid (SlQ 0 16 w qs (.slice a0 qs.length c0)):=hs
 have HP:Hid (∀(u:Value) (V:World),V.ownsRow w.heap.size 33 4 u qs.length ((qs.map (·.1)).flatMap encP)→Below w.heap.size w V→ItPost w.heap.size ((qs.map trT).map (·.1)) w (.returned u) V):=fun u V h2 h3=>by
  refine⟨h3,qs.map (·.1),u,rfl,by rw [List.map_map,List.map_map];rfl,?_⟩
  refine SlP.of_own (by rw [List.length_map]) h2 (fun p hp=>?_) (by rw [List.length_map];omega)
  obtain⟨x,hx,rfl⟩:=List.mem_map.1 hp
  exact (hs.good x hx).1.keeps h3
 obtain⟨n,hn⟩:∃n,n=qs.length:=⟨_,rfl⟩
 have HN:Hid (n=qs.length):=hn
 rw [←hn] at h1 hlen
 clear hi hz0 hz1 hz2 hs hd hn
 generalize ItPost w.heap.size ((qs.map trT).map (·.1)) w=PO at *
 have h0c:=h0;have h1c:=h1
 have H01:Hid (w.cell? ⟨c,0,none⟩=some (.pointer (some ⟨m,0,none⟩))∧w.cell? ⟨m,1,none⟩=some (.slice a0 n c0)):=⟨h0,h1⟩
 clear h0 h1 h0c h1c
 go_enter Tryz.func64,Tryz.ntmps64
 go_wp2_with fail
 go_loopg [4,3] n (fun z i u wr=>∃j:Nat,i=.int .i64 (j:Int)∧j≤n∧z=n-j∧Hid (wr.ownsRow w.heap.size 33 4 u j (((qs.take j).map (·.1)).flatMap encP))∧Hid (Below w.heap.size w wr))
 case atStart=>exact⟨0,rfl,by omega,by omega,World.ownsRow_nil _ _ _ _,Below.refl _ _⟩
 case round=>
  obtain⟨j,rfl,hj,hk,HOw,HBw⟩:=hrel
  have Hk:Hid _:=hk
  have hbw:=HBw.out
  have h0:=zaa hbw H01.out.1
  have h1:=zaa hbw H01.out.2
  clear hk
  by_cases hlt:j<n
  ·have hlt':j<qs.length:=by have:=HN.out;omega
   obtain⟨b1,o1,c1',hv1,_,hq1,hgq⟩:=HS.out.full (fun e=>by rw [e] at hlt';cases hlt')
   have ha1:a0=some ⟨b1,o1,none⟩:=by injection hv1
   subst ha1
   obtain⟨p0,p1,p2,p3,_,_,_,_⟩:=hq1.at j hlt'
   have hg:=hgq qs[j] (List.getElem_mem hlt')
   have Htk:Hid (((qs.take (j+1)).map (·.1)).flatMap encP=((qs.take j).map (·.1)).flatMap encP++encP qs[j].1):=by
    show _=_
    rw [List.take_succ_eq_append_getElem hlt',List.map_append,List.flatMap_append];simp
   obtain⟨a1,c1,hu1,_⟩:=Lies.slice hg.1.1
   rw [hu1] at p3
   generalize qs[j]=x at *
   obtain⟨⟨t1,u1⟩,y2⟩:=x
   simp only at p0 p1 p2 p3 hu1 Htk
   subst hu1
   have p0:=zaa hbw p0;have p1:=zaa hbw p1;have p2:=zaa hbw p2;have p3:=zaa hbw p3
   have hji:(j:Int)<(n:Nat):=by omega
   have hji0:(0:Int)≤(j:Int):=by omega
   have hws:w.heap.size≤wr.heap.size:=hbw.size
   clear hq1 hgq hg hv1
   go_wp2_with (first
    | (at_builtin;refine wpList_append_own _ rfl _ _ 22 rfl w.heap.size 33 i0 (.agg #[.int .i64 0,.int .i64 0,.string ⟨#[]⟩,.slice none 0 0]) 4 56 Tryz.underlying22 Hi.out Hz0.out Hz1.out Hz2.out rfl (by decide) _ _ _ rfl (HOw.out.alloc _) ⟨wr.heap.size,0,none⟩ 1 1 [.int .i64 t1.kind,.int .i64 t1.num,.string t1.text,.slice a1 t1.items.length c1] rfl rfl (fun q u hq=>by match q,hq with|0,hq=>(simp at hq;subst hq;simp [Addr.add])|1,hq=>(simp at hq;subst hq;simp [Addr.add])|2,hq=>(simp at hq;subst hq;simp [Addr.add])|3,hq=>(simp at hq;subst hq;simp [Addr.add])) (fun u hu=>by simp at hu;rcases hu with rfl|rfl|rfl|rfl <;> rfl) (by unfold maxLen;omega) (by omega) (by simp;omega) ?_;intro v9 w9 hown hgrow _))
   have hb9:Below w.heap.size w w9:=zao (hbw.alloc hws _) (by simp;omega) (HOw.out.alloc _) hgrow
   have HR9:Hid (w9.ownsRow w.heap.size 33 4 v9 (j+1) (((qs.take (j+1)).map (·.1)).flatMap encP)):=by
    rw [Htk.out]
    exact hown
   clear hown hgrow p0 p1 p2 p3 h0 h1
   go_roundg (n-(j+1))
   case measure=>have:=Hk.out;omega
   case rel=>exact⟨j+1,by go_num,by omega,rfl,HR9,hb9⟩
  ·have hjl:j=n:=by omega
   have hji : ¬(j:Int)<(n:Nat):=by omega
   have HE:Hid (PO (.returned u3) wr):=by
    have h9:=HOw.out
    rw [hjl,HN.out,List.take_length] at h9
    exact HP.out _ _ h9 hbw
   clear HOw HP hjl
   go_wp2_with fail
   first|exact HE.out|(go_ret;exact HE.out)
def MkM14 (q:Nat) (l:List PT) (w:World) (e:Ending) (w':World):Prop:=Below w.heap.size w w'∧∃t b,e=.returned (.pointer (some ⟨b,0,none⟩))∧MC w' q t b∧t.items=l
def lessL (q:Nat) (la lb:List PT):List PT:=la.filter fun y=>lb.all fun x=>decide (byK q x y≠0)
theorem all_mem {α:Type} {l m:List α} (h:∀y,y∈l↔y∈m) (f:α→Bool):l.all f=m.all f:=by
 rw [Bool.eq_iff_iff,List.all_eq_true,List.all_eq_true]
 exact⟨fun h9 x hx=>h9 x ((h x).2 hx),fun h9 x hx=>h9 x ((h x).1 hx)⟩
theorem less_lessL {q:Nat} {s ta:RT PT} {lb:List PT} (hs:RT.Rises (byK q) s.items) (ha:RT.Rises (byK q) ta.items) (hm:∀y,y∈s.items↔y∈lb):(RT.less (byK q) s ta).items=lessL q ta.items lb:=by
 rw [RT.less_items (zbd q) s ta hs ha]
 unfold lessL
 exact List.filter_congr fun y _=>all_mem hm _
theorem mless_14 {w:World} {q r:Nat} {ta tb:RT PT} {a b:Nat} (ha:MC w q ta a) (hb:MC w r tb b):Calls Tryz.prog 95 #[.pointer (some ⟨a,0,none⟩),.pointer (some ⟨b,0,none⟩)] w (MkM14 q (lessL q ta.items tb.items) w):=by
 have HT:Hid (Calls Tryz.prog 147 #[.pointer (some ⟨b,0,none⟩),.int .i64 (q:Int)] w fun e w'=>Below w.heap.size w w'∧∃s b2 pb,e=.returned (.tuple #[.pointer (some ⟨b2,0,none⟩),.int .i64 0])∧MC w' q s b2∧w'.cell? ⟨b2,1,none⟩=some (.pointer pb)∧NM TT 16 w' s pb∧∀y,y∈s.items↔y∈tb.items):=by
  refine (turn_14 (q:Int) hb).mono fun e w' h=>?_
  have hq6:=ha.q6
  obtain⟨hb,⟨h0,_⟩|⟨_,s,b2,rfl,hm,hi⟩⟩:=h
  ·exact absurd (show zal (q:Int)=0 by unfold zal;rw [if_neg (by omega)]) h0
  ·rw [show ((q:Nat):Int).toNat=q by omega] at hm
   obtain⟨pb,h1,h2⟩:=hm.top
   exact⟨hb,s,b2,pb,rfl,hm,h1,h2,hi⟩
 obtain⟨pa,hpa,na⟩:=ha.top
 have hoa:=ha.ord
 have za:=ha.size
 have HA:Hid (MC w q ta a):=ha
 have HNa:Hid (NM TT 16 w ta pa):=na
 have HEq:Hid (∀s:RT PT,RT.Rises (byK q) s.items→(∀y,y∈s.items↔y∈tb.items)→(RT.less (byK q) s ta).items=lessL q ta.items tb.items):=fun s h1 h2=>less_lessL h1 ha.rises h2
 have HUl:Hid (lessL q ta.items tb.items=ta.items.filter fun y=>tb.items.all fun x=>decide (byK q x y≠0)):=rfl
 generalize lessL q ta.items tb.items=UL at *
 clear ha hb na
 go_enter Tryz.func95,Tryz.ntmps95
 go_wp2_with fail
 refine (own_14 _ _).mono ?_
 rintro e w1 ⟨rfl,hw⟩
 obtain rfl:w=w1:=hw.symm
 go_wp2_with fail
 refine Calls.mono HT.out ?_
 rintro e w1 ⟨hb1,s,b2,pb,rfl,hms,hpb,nb,hsi⟩
 have hus:=less_sizes (byK q) s ta
 have zs:=hms.size
 have hae:(RT.less (byK q) s ta).items=UL:=HEq.out s hms.rises hsi
 have HU:Hid (∀V bb,Below w1.heap.size w1 V→V.cell? ⟨bb,0,none⟩=some (.int .i64 (q:Int))→Calls Tryz.prog 150 #[.pointer pa,.pointer pb,.func (.func 215) #[] #[.pointer (some ⟨bb,0,none⟩)]] V (zab TT 16 (RT.less (byK q) s ta) V)):=fun V bb hV hbb=>less_14 TT 16 215 eg_byK1 _ (byK q) _ s ta pb pa V (byK_cmpC q bb hms.q6 V hbb) (nb.keeps hV) (HNa.out.keeps (hb1.trans (hV.mono hb1.size))) hms.well HA.out.well (fun x hx=>(hms.right x hx).1.1) (fun x hx=>(HA.out.right x hx).1.1) (by omega)
 have HO:Hid (∀V p,Below w.heap.size w V→NM TT 16 V (RT.less (byK q) s ta) p→Calls Tryz.prog 133 #[.pointer (some ⟨a,0,none⟩),.pointer p] V (RawPost q (RT.less (byK q) s ta).black V)):=fun V p hV hp=>of_raw a q _ p V (zaa hV HA.out.ord) hp (by omega)
 have hblk:(RT.less (byK q) s ta).black.items=(RT.less (byK q) s ta).items:=RT.black_items _
 have hbsz:(RT.less (byK q) s ta).black.size=(RT.less (byK q) s ta).size:=by rw [RT.size_items,hblk,←RT.size_items]
 have hwell:RT.Well (RT.less (byK q) s ta):=RT.less_well (byK q) s ta hms.well HA.out.well
 have hwellb:RT.Well (RT.less (byK q) s ta).black:=⟨hwell.1.black,by obtain⟨_,n,hB⟩:=hwell;obtain⟨m,hm⟩:=hB.black;exact⟨m,hm⟩⟩
 have HMC:Hid (∀V b',RawM V q (RT.less (byK q) s ta).black b'→MC V q (RT.less (byK q) s ta).black b'):=fun V b' h=>by
  refine⟨h.1,h.2,hwellb,RT.black_red14 _,hms.q6,?_,?_,by rw [hbsz];omega⟩
  ·rw [hblk,hae,HUl.out]
   intro x hx
   exact HA.out.right x (List.mem_filter.1 hx).1
  ·rw [hblk,hae,HUl.out]
   exact List.Pairwise.filter _ HA.out.rises
 have HBl:Hid ((RT.less (byK q) s ta).black.items=UL):=hblk.trans hae
 generalize RT.less (byK q) s ta=T at *
 have hpa:=zaa hb1 hpa;have hoa:=zaa hb1 hoa
 clear nb hblk hbsz hwell hwellb hus za zs hms hsi hae HT HA HNa HEq HUl
 go_wp2_with fail
 go_region_held3 (fun w'=>w'.cell? ⟨a,0,none⟩=some (.int .i64 (q:Int))∧w'.cell? ⟨a,1,none⟩=some (.pointer pa)∧w'.cell? ⟨b2,1,none⟩=some (.pointer pb)) (go_keep)
  (first
   | (go_at_call 149;refine (byKeys_14 _ _).mono ?_;rintro e w2 ⟨rfl,hw2⟩;have hg2:Below w1.heap.size w1 w2:=(by rw [hw2];exact (Below.refl w1.heap.size w1).drew.trans ((Grew.refl w1.drew).alloc _).below);have hb2:Below w.heap.size w w2:=hb1.trans (hg2.mono hb1.size);have hbb:w2.cell? ⟨w1.heap.size,0,none⟩=some (.int .i64 (q:Int)):=(by rw [hw2];exact (Go.Boxed.new w1.drew 3 (.int .i64 (q:Int))).cell);have hpa:=zaa hg2 hpa;have hpb:=zaa hg2 hpb;have hoa:=zaa hg2 hoa;clear hw2)
   | (go_at_call 150;(with_reducible refine Calls.mono (HU.out _ _ hg2 hbb) ?_);rintro e w3 ⟨hg3,p3,rfl,ht3⟩;have hb3:Below w.heap.size w w3:=hb2.trans (hg3.mono hb2.size);have HT3:Hid (NM TT 16 w3 T p3):=ht3;have hpa:=zaa hg3 hpa;have hpb:=zaa hg3 hpb;have hoa:=zaa hg3 hoa;clear ht3 hg3)
   | (go_at_call 133;(with_reducible refine Calls.mono (HO.out _ _ hb3 HT3.out) ?_);rintro e w4 ⟨hg4,b4,rfl,hr4⟩;have HE:Hid (MkM14 q UL w (.returned (.pointer (some ⟨b4,0,none⟩))) w4):=⟨hb3.trans (hg4.mono hb3.size),T.black,b4,rfl,HMC.out _ _ hr4,HBl.out⟩;have hpa:=zaa hg4 hpa;have hpb:=zaa hg4 hpb;have hoa:=zaa hg4 hoa;clear hr4 hg4))
 all_goals (first|(go_ret;exact HE.out)|(go_wp2_with fail;go_ret;exact HE.out))
theorem nil_back {l:List PT} (hn:Nils l):(l.map (·.1)).map nilP=l:=by
 rw [List.map_map]
 refine (List.map_congr_left (g:=id) fun x hx=>?_).trans (List.map_id l)
 show (x.1,nilT)=x
 rw [←hn x hx]
theorem setL_self {q:Nat} {l:List PT} (hr:RT.Rises (byK q) l) (hn:Nils l):setL q (l.map (·.1))=l:=by
 unfold setL ofL
 rw [nil_back hn]
 exact kyd_rises (byK_3 q) _ l (by omega) hr
theorem setL_uni {q:Nat} {la lb:List PT} (ha:Nils la) (hb:Nils lb):setL q (la.map (·.1)++lb.map (·.1))=uniL q la lb:=by
 unfold setL uniL
 rw [List.map_append,nil_back ha,nil_back hb]
theorem setL_keep {q:Nat} {l:List PT} (hr:RT.Rises (byK q) l) (hn:Nils l) (P:VT→Bool):setL q ((l.map (·.1)).filter P)=l.filter (fun x=>P x.1):=by
 rw [List.filter_map]
 exact setL_self (List.Pairwise.filter _ hr) (fun x hx=>hn x (List.mem_filter.1 hx).1)
def partL (r:Nat) (la lb:List PT) (b:Bool):List PT:=la.filter fun x=>(findK r x.1 lb).isSome==b
theorem find_in16 {r:Nat} {lb:List PT} {k:VT}:(findK r k lb).isSome=true↔∃z∈lb,ordV r k z.1=0:=by
 unfold findK
 rw [List.find?_isSome]
 constructor
 ·rintro ⟨z,hz,h⟩
  exact⟨z,hz,of_decide_eq_true h⟩
 ·rintro ⟨z,hz,h⟩
  exact⟨z,hz,decide_eq_true h⟩
theorem find_is_q {q r:Nat} {lb:List PT} {x:PT} (hx:Good 16 x.1) (hb:∀z∈lb,Good 16 z.1):(findK r x.1 lb).isSome=true↔∃z∈lb,byK q z x=0:=by
 rw [find_in16]
 constructor
 ·rintro ⟨z,hz,h⟩
  refine⟨z,hz,?_⟩
  have h9:ordV q x.1 z.1=0:=(zax q hx (hb z hz)).2 ((zax r hx (hb z hz)).1 h)
  have h8:=(byK_3 q).turn x z
  have h7:byK q x z=0:=h9
  omega
 ·rintro ⟨z,hz,h⟩
  refine⟨z,hz,?_⟩
  have h8:=(byK_3 q).turn x z
  have h9:ordV q x.1 z.1=0:=(show byK q x z=0 by omega)
  exact (zax r hx (hb z hz)).2 ((zax q hx (hb z hz)).1 h9)
theorem all_not {q:Nat} {lb:List PT} {x:PT}:(lb.all fun z=>decide (byK q z x≠0))=true↔¬∃z∈lb,byK q z x=0:=by
 rw [List.all_eq_true]
 constructor
 ·rintro h ⟨z,hz,h0⟩
  exact of_decide_eq_true (h z hz) h0
 ·intro h z hz
  exact decide_eq_true fun h0=>h ⟨z,hz,h0⟩
theorem part_less {q r:Nat} {la lb:List PT} (ha:∀x∈la,Good 16 x.1) (hb:∀x∈lb,Good 16 x.1):partL r la lb false=lessL q la lb:=by
 unfold partL lessL
 refine List.filter_congr fun x hx=>?_
 have h1:=find_is_q (q:=q) (r:=r) (ha x hx) hb
 have h2:=all_not (q:=q) (lb:=lb) (x:=x)
 rw [Bool.eq_iff_iff,h2,←h1]
 cases (findK r x.1 lb).isSome <;> simp
theorem part_meet {q r:Nat} {la lb:List PT} (ha:∀x∈la,Good 16 x.1) (hb:∀x∈lb,Good 16 x.1):partL r la lb true=lessL q la (lessL q la lb):=by
 show partL r la lb true=la.filter _
 unfold partL
 refine List.filter_congr fun y hy=>?_
 have h1:=find_is_q (q:=q) (r:=r) (ha y hy) hb
 have h2:=all_not (q:=q) (lb:=lessL q la lb) (x:=y)
 rw [Bool.eq_iff_iff,h2,beq_iff_eq,h1]
 constructor
 ·rintro ⟨z,hz,h0⟩ ⟨x,hx,hxy⟩
  obtain⟨hxa,hxl⟩:=List.mem_filter.1 hx
  refine all_not.1 hxl ⟨z,hz,?_⟩
  have e:x.1=y.1:=good_eq (ha x hxa) (ha y hy) ((zax q (ha x hxa) (ha y hy)).1 hxy)
  show ordV q z.1 x.1=0
  rw [e]
  exact h0
 ·intro h
  by_cases hz:∃z∈lb,byK q z y=0
  ·exact hz
  ·exact absurd ⟨y,List.mem_filter.2 ⟨hy,all_not.2 hz⟩,(byK_3 q).self y⟩ h
theorem has_nils {r:Nat} {la lb:List PT} (ha:Nils la) (hb:Nils lb):∀x∈la,hasP r lb x=(findK r x.1 lb).isSome:=fun x hx=>by
 unfold hasP
 cases h:findK r x.1 lb with
 | none=>rfl
 | some z=>
  have hz:z∈lb:=List.mem_of_find?_eq_some h
  show (cmpV 16 z.2 x.2==0)=true
  rw [ha x hx,hb z hz,cmpV_self]
  rfl
theorem eqS_part {r:Nat} {la lb:List PT} (ha:Nils la) (hb:Nils lb):eqS r la lb=(decide (la.length=lb.length)&&decide ((partL r la lb false).length=0)):=by
 unfold eqS
 congr 1
 rw [Bool.eq_iff_iff,List.all_eq_true,decide_eq_true_eq,List.length_eq_zero_iff,partL,List.filter_eq_nil_iff]
 constructor
 ·intro h x hx h9
  have h8:=h x hx
  rw [has_nils ha hb x hx] at h8
  rw [h8] at h9
  exact absurd h9 (by decide)
 ·intro h x hx
  rw [has_nils ha hb x hx]
  have h9:=h x hx
  cases h8:(findK r x.1 lb).isSome with
  | true=>rfl
  | false=>rw [h8] at h9;exact absurd rfl h9
def ItPostO (w0:World) (base:Nat) (vs:List VT) (w:World) (e:Ending) (w':World):Prop:=Below w.heap.size w w'∧∃ps v,e=.returned v∧ps.map (·.1)=vs∧SlP base 16 w' ps v∧∀p∈ps,Sound 16 w0 p
theorem ritemsO_16 {w0 w:World} {q:Nat} {l:List PT} {c:Nat} (h:DS w0 q l c) (hw0:Below w0.heap.size w0 w):Calls Tryz.prog 64 #[.pointer (some ⟨c,0,none⟩)] w (ItPostO w0 w.heap.size (l.map (·.1)) w):=by
 obtain⟨i0,hi,hz0,hz1,hz2⟩:=info24
 have Hi:Hid _:=hi;have Hz0:Hid _:=hz0;have Hz1:Hid _:=hz1;have Hz2:Hid _:=hz2
 obtain⟨m,qs,a0,c0,h0,_,h1,rfl,hs,hd⟩:=h.row
 have hlen:qs.length≤65536:=by have:=hd.size;rwa [List.length_map] at this
 have HL:Hid (qs.length≤65536):=hlen
 have HS:Hid (SlQ 0 16 w qs (.slice a0 qs.length c0)):=hs.keeps hw0
 have h0:=zaa hw0 h0
 have h1:=zaa hw0 h1
 have HP:Hid (∀(u:Value) (V:World),V.ownsRow w.heap.size 33 4 u qs.length ((qs.map (·.1)).flatMap encP)→Below w.heap.size w V→ItPostO w0 w.heap.size ((qs.map trT).map (·.1)) w (.returned u) V):=fun u V h2 h3=>by
  refine⟨h3,qs.map (·.1),u,rfl,by rw [List.map_map,List.map_map];rfl,?_⟩
  have hsd:∀p∈qs.map (·.1),Sound 16 w0 p:=fun p hp=>by
   obtain⟨x,hx,rfl⟩:=List.mem_map.1 hp
   exact (hs.good x hx).1
  exact⟨SlP.of_own (by rw [List.length_map]) h2 (fun p hp=>(hsd p hp).keeps (hw0.trans (h3.mono hw0.size))) (by rw [List.length_map];omega),hsd⟩
 obtain⟨n,hn⟩:∃n,n=qs.length:=⟨_,rfl⟩
 have HN:Hid (n=qs.length):=hn
 rw [←hn] at h1 hlen
 clear hi hz0 hz1 hz2 hs hd hn h hw0
 generalize ItPostO w0 w.heap.size ((qs.map trT).map (·.1)) w=PO at *
 have h0c:=h0;have h1c:=h1
 have H01:Hid (w.cell? ⟨c,0,none⟩=some (.pointer (some ⟨m,0,none⟩))∧w.cell? ⟨m,1,none⟩=some (.slice a0 n c0)):=⟨h0,h1⟩
 clear h0 h1 h0c h1c
 go_enter Tryz.func64,Tryz.ntmps64
 go_wp2_with fail
 go_loopg [4,3] n (fun z i u wr=>∃j:Nat,i=.int .i64 (j:Int)∧j≤n∧z=n-j∧Hid (wr.ownsRow w.heap.size 33 4 u j (((qs.take j).map (·.1)).flatMap encP))∧Hid (Below w.heap.size w wr))
 case atStart=>exact⟨0,rfl,by omega,by omega,World.ownsRow_nil _ _ _ _,Below.refl _ _⟩
 case round=>
  obtain⟨j,rfl,hj,hk,HOw,HBw⟩:=hrel
  have Hk:Hid _:=hk
  have hbw:=HBw.out
  have h0:=zaa hbw H01.out.1
  have h1:=zaa hbw H01.out.2
  clear hk
  by_cases hlt:j<n
  ·have hlt':j<qs.length:=by have:=HN.out;omega
   obtain⟨b1,o1,c1',hv1,_,hq1,hgq⟩:=HS.out.full (fun e=>by rw [e] at hlt';cases hlt')
   have ha1:a0=some ⟨b1,o1,none⟩:=by injection hv1
   subst ha1
   obtain⟨p0,p1,p2,p3,_,_,_,_⟩:=hq1.at j hlt'
   have hg:=hgq qs[j] (List.getElem_mem hlt')
   have Htk:Hid (((qs.take (j+1)).map (·.1)).flatMap encP=((qs.take j).map (·.1)).flatMap encP++encP qs[j].1):=by
    show _=_
    rw [List.take_succ_eq_append_getElem hlt',List.map_append,List.flatMap_append];simp
   obtain⟨a1,c1,hu1,_⟩:=Lies.slice hg.1.1
   rw [hu1] at p3
   generalize qs[j]=x at *
   obtain⟨⟨t1,u1⟩,y2⟩:=x
   simp only at p0 p1 p2 p3 hu1 Htk
   subst hu1
   have p0:=zaa hbw p0;have p1:=zaa hbw p1;have p2:=zaa hbw p2;have p3:=zaa hbw p3
   have hji:(j:Int)<(n:Nat):=by omega
   have hji0:(0:Int)≤(j:Int):=by omega
   have hws:w.heap.size≤wr.heap.size:=hbw.size
   clear hq1 hgq hg hv1
   go_wp2_with (first
    | (at_builtin;refine wpList_append_own _ rfl _ _ 22 rfl w.heap.size 33 i0 (.agg #[.int .i64 0,.int .i64 0,.string ⟨#[]⟩,.slice none 0 0]) 4 56 Tryz.underlying22 Hi.out Hz0.out Hz1.out Hz2.out rfl (by decide) _ _ _ rfl (HOw.out.alloc _) ⟨wr.heap.size,0,none⟩ 1 1 [.int .i64 t1.kind,.int .i64 t1.num,.string t1.text,.slice a1 t1.items.length c1] rfl rfl (fun q u hq=>by match q,hq with|0,hq=>(simp at hq;subst hq;simp [Addr.add])|1,hq=>(simp at hq;subst hq;simp [Addr.add])|2,hq=>(simp at hq;subst hq;simp [Addr.add])|3,hq=>(simp at hq;subst hq;simp [Addr.add])) (fun u hu=>by simp at hu;rcases hu with rfl|rfl|rfl|rfl <;> rfl) (by unfold maxLen;omega) (by omega) (by simp;omega) ?_;intro v9 w9 hown hgrow _))
   have hb9:Below w.heap.size w w9:=zao (hbw.alloc hws _) (by simp;omega) (HOw.out.alloc _) hgrow
   have HR9:Hid (w9.ownsRow w.heap.size 33 4 v9 (j+1) (((qs.take (j+1)).map (·.1)).flatMap encP)):=by
    rw [Htk.out]
    exact hown
   clear hown hgrow p0 p1 p2 p3 h0 h1
   go_roundg (n-(j+1))
   case measure=>have:=Hk.out;omega
   case rel=>exact⟨j+1,by go_num,by omega,rfl,HR9,hb9⟩
  ·have hjl:j=n:=by omega
   have hji : ¬(j:Int)<(n:Nat):=by omega
   have HE:Hid (PO (.returned u3) wr):=by
    have h9:=HOw.out
    rw [hjl,HN.out,List.take_length] at h9
    exact HP.out _ _ h9 hbw
   clear HOw HP hjl
   go_wp2_with fail
   first|exact HE.out|(go_ret;exact HE.out)
attribute [local go_sem] Oper.semAt_some
theorem small_16 (v:Value) (w:World):Calls Tryz.prog 154 #[.agg #[v]] w fun e w'=>e=.returned (.func (.func 218) #[] #[.pointer (some ⟨w.heap.size,0,none⟩)])∧w'=w.alloc (.cells #[v] 112):=by
 go_enter Tryz.func154,Tryz.ntmps154
 go_wp2_with fail
 go_ret
 exact⟨rfl,rfl⟩
theorem sall_16 (s b:Nat) (w:World) (hs:w.cell? ⟨s,0,none⟩=some (.pointer (some ⟨b,0,none⟩))):Calls Tryz.prog 98 #[.pointer (some ⟨s,0,none⟩)] w fun e w'=>e=.returned (.func (.func 218) #[] #[.pointer (some ⟨w.heap.size,0,none⟩)])∧w'=w.alloc (.cells #[.pointer (some ⟨b,0,none⟩)] 112):=by
 go_enter Tryz.func98,Tryz.ntmps98
 go_wp2_with fail
 refine (sown_16 _ _).mono ?_
 rintro e w1 ⟨rfl,hw⟩
 obtain rfl:w=w1:=hw.symm
 go_wp2_with fail
 refine (small_16 _ _).mono ?_
 rintro e w2 ⟨rfl,hw2⟩
 subst hw2
 go_wp2_with fail
 go_ret
 exact⟨rfl,rfl⟩
theorem sappend_16 (l:List VT) (hlen:l.length≤65536) (lb:Array Value) (w:World)
 (hseq:∀(n:Nat) (W:World),6≤n→Below w.heap.size w W→SeqX Fence.wide n Tryz.prog 218 lb encCV (KpY 22 w.heap.size) (PreCV l) (fun xs=>xs.map CV.k=l) (fun _=>True) l.length W) :
 Calls Tryz.prog 153 #[.slice none 0 0,.func (.func 218) #[] lb] w (ItPost w.heap.size l w):=by
 refine (callsIn_wide (n:=8)).1 ?_
 refine callsIn_of_wp_marks Tryz.func153 rfl trivial ?_ rfl
 simp only [Tryz.ntmps153,List.size_toArray,List.length_cons,List.length_nil,Nat.reduceAdd,Nat.reduceSub,Array.replicate_succ,Array.replicate_zero,List.push_toArray,List.append_toArray,List.nil_append,List.cons_append]
 have HL:Hid (l.length≤65536):=hlen
 have HSq:Hid _:=hseq
 clear hseq hlen
 gi_wp2
 obtain⟨Wi,hWi⟩:∃Wi,Wi=w.alloc (.cells #[.slice none 0 0] 22):=⟨_,rfl⟩
 rw [←hWi]
 have hB0:Below w.heap.size w Wi:=by rw [hWi];exact ((Grew.refl w).alloc _).below
 have hsz:Wi.heap.size=w.heap.size+1:=by rw [hWi];simp
 have hG0:GvI w w.heap.size [] Wi:=⟨⟨.slice none 0 0,by rw [hWi];exact Go.Boxed.new w 22 _,World.ownsRow_nil _ _ _ _,fun x hx=>by cases hx⟩,hB0⟩
 have HSq2:Hid _:=HSq.out 7 Wi (by omega) hB0
 clear hWi HSq
 refine rangeX (α:=CV) rfl (by omega) (gf:=218) (lb:=lb) rfl trivial (enters_of Tryz.func218 (by kernel_rfl) rfl)
  HSq2.out kpY_t (fun W o o' hl ho=>kpY_b (by omega) (by omega) W o o' hl ho) (Below.refl _ _) (fun _=>rfl)
  (fun pre W=>GvI w w.heap.size pre W∧pre.map CV.k <+: l) (fun _ _ _=>False)
  (fun s A V row hs hg hr=>⟨GvI.own w _ _ (by omega) (by omega) s A V row hs.1 hg hr,hs.2⟩) (fun _ _ _ _ _ hs _ _=>hs) ⟨hG0,by simp⟩
  (GvA (w.heap.size) l (fun x Bk=>{ tmps:=#[.slice none 0 0,.func (.func 218) #[] lb,.pointer (some ⟨w.heap.size,0,none⟩),undef,.slice none 0 0,.pointer (some ⟨Bk,0,none⟩),.func (.func 218) #[] lb,.agg #[.int .i64 x.k.kind,.int .i64 x.k.num,.string x.k.text,.slice x.a1 x.k.items.length x.c1],undef,undef,undef,undef,undef,undef,undef],defers:=[] })) (fun pre x a'=>GvA.own _ _ _ (by omega) _ _ _ _) ?assign ?body ?done ?stop
 case assign=>
  rintro lp pre x V W K hI hbVW ⟨hN,hpx⟩ hK
  have hba:Below W.heap.size W (W.alloc (.cells #[.int .i64 x.k.kind,.int .i64 x.k.num,.string x.k.text,.slice x.a1 x.k.items.length x.c1] 33)):=((Grew.refl W).alloc _).below
  have hws:w.heap.size≤W.heap.size:=Nat.le_trans hI.1.2.size hbVW.size
  obtain⟨hA,hI3⟩:=GvA.make (l:=l) (f:=(fun x Bk=>{ tmps:=#[.slice none 0 0,.func (.func 218) #[] lb,.pointer (some ⟨w.heap.size,0,none⟩),undef,.slice none 0 0,.pointer (some ⟨Bk,0,none⟩),.func (.func 218) #[] lb,.agg #[.int .i64 x.k.kind,.int .i64 x.k.num,.string x.k.text,.slice x.a1 x.k.items.length x.c1],undef,undef,undef,undef,undef,undef,undef],defers:=[] })) hI.1 hbVW hN hpx
  skip
  have HK:Hid (K _ _):=hK _ _ ((KeepsOthers.alloc W _).from _) ⟨hba.mono hws,KBy.below hba,keepsBelowY hba⟩ ⟨hI3,hI.2⟩ hA
  clear hK hA
  unfold encCV
  gi_wp2
  exact HK.out
 case body=>
  rintro lp pre x a' W hlp ⟨⟨⟨v',bx0,hrow,hl⟩,hB⟩,hpl⟩ ⟨Bk,v,bk,hBk,bx',hnk,hLk,hpx,rfl⟩ hlt
  have hvv:v'=v:=by
   have h1:W.heap[w.heap.size]? = some (.cells #[v] 22 (0,0)):=bx'
   have h2:W.heap[w.heap.size]? = some (.cells #[v'] 22 (0,0)):=bx0
   rw [h1] at h2
   injection h2 with h2
   injection h2 with h2
   simpa using h2.symm
  subst hvv
  obtain⟨av,cv,hv⟩:∃a c,v'=.slice a pre.length c:=by
   rcases hrow.2 with ⟨rfl,e⟩|⟨g,cap,_,rfl,_⟩
   ·exact⟨none,0,by rw [e]⟩
   ·exact⟨_,_,rfl⟩
  subst hv
  obtain⟨k,hk⟩:∃k,k=pre.length:=⟨_,rfl⟩
  have hpx2:(pre++[x]).map CV.k <+: l:=by rw [List.map_append];exact hpx
  have hkl:k+1≤l.length:=by have:=hpx2.length_le;rw [List.length_map,List.length_append,←hk] at this;exact this
  have hkq:k≤65537:=by have:=HL.out;omega
  have HStep:Hid (∀(g cap:Nat) (w3:World),w3.ownsRow w.heap.size 33 4 (.slice (some ⟨g,0,none⟩) (k+1) cap) (k+1) (pre.flatMap (fun x=>encP x.p)++[.int .i64 0,.int .i64 0,.string ⟨#[]⟩,.slice none 0 0])→(W.alloc Z4V).drew.grownBy w3 (Value.slice av k cv).ownBlock→((Value.slice av k cv).ownBlock=some g∨g=(W.alloc Z4V).drew.heap.size)→_):=fun g cap w3 h1 h2 h3=>gv_step (B:=w.heap.size) (n1:=Wi.heap.size+2) hk (by omega) (by rw [hk];exact⟨bx',hrow,hl⟩) hB (by rw [hk];exact hLk) g cap w3 h1 h2 h3
  rw [←hk] at bx' hrow hnk hlt
  obtain⟨y0,y1,y2,y3⟩:=bk.cells
  have hc:=bx'.cell
  have hBl:=bx'.lt
  have hBkl:=bk.lt
  skip
  have hcD:W.drew.cell? ⟨w.heap.size,0,none⟩=some (.slice av k cv):=hc
  have d0:W.drew.cell? ⟨Bk,0,none⟩=some (.int .i64 x.k.kind):=y0
  have d1:W.drew.cell? ⟨Bk,1,none⟩=some (.int .i64 x.k.num):=y1
  have d2:W.drew.cell? ⟨Bk,2,none⟩=some (.string x.k.text):=y2
  have d3:W.drew.cell? ⟨Bk,3,none⟩=some (.slice x.a1 x.k.items.length x.c1):=y3
  have hn1 : ¬(Bk=W.heap.size):=by omega
  have hn2 : ¬(w.heap.size=W.heap.size):=by omega
  have HRow:Hid ((W.alloc Z4V).drew.ownsRow w.heap.size 33 4 (.slice av k cv) k (pre.flatMap (fun x=>encP x.p))):=(hrow.alloc _).drew
  have Hbs:Hid (w.heap.size≤(W.alloc Z4V).drew.heap.size):=by
   have:=hB.size
   show _≤_
   simp
   omega
  have Hxl:Hid ((pre.flatMap (fun x=>encP x.p)).length=k*4):=hrow.1
  have HP:Hid ((pre++[x]).map CV.k <+: l):=hpx2
  have Hk:Hid (k=pre.length):=hk
  have hmx:Tryz.prog.follows .mixedOrders=true:=by kernel_rfl
  have hkk:((k:Nat):Int)<(k:Nat)+1:=by omega
  clear hrow bx' bx0 bk hB hlp hlt hk hl hLk hnk hpx hpx2 hkl hpl
  gi_wp2
  refine wpIn_region_any hmx ?_
  change wpAnyIn _ _ _ _ _ _ _ _ _ (World.drew _)
  all_goals (first|refine wpAnyIn_ready (rs:=[0,1,3]) (by decide +kernel) (by simp) (AllReadyIn.cons rfl (fun K hK=>?_) (AllReadyIn.cons rfl (fun K hK=>?_) (AllReadyIn.cons rfl (fun K hK=>?_) AllReadyIn.nil))))
  all_goals (go_simp;refine hK _ _ ?_;clear hK K)
  all_goals (first|refine wpAnyIn_ready (rs:=[1,2,3]) (by decide +kernel) (by simp) (AllReadyIn.cons rfl (fun K hK=>?_) (AllReadyIn.cons rfl (fun K hK=>?_) (AllReadyIn.cons rfl (fun K hK=>?_) AllReadyIn.nil)))|refine wpAnyIn_ready (rs:=[0,3]) (by decide +kernel) (by simp) (AllReadyIn.cons rfl (fun K hK=>?_) (AllReadyIn.cons rfl (fun K hK=>?_) AllReadyIn.nil))|refine wpAnyIn_ready (rs:=[0,1]) (by decide +kernel) (by simp) (AllReadyIn.cons rfl (fun K hK=>?_) (AllReadyIn.cons rfl (fun K hK=>?_) AllReadyIn.nil)))
  all_goals (go_simp;refine hK _ _ ?_;clear hK K)
  all_goals (first|refine wpAnyIn_ready (rs:=[2,3]) (by decide +kernel) (by simp) (AllReadyIn.cons rfl (fun K hK=>?_) (AllReadyIn.cons rfl (fun K hK=>?_) AllReadyIn.nil))|refine wpAnyIn_ready (rs:=[1,3]) (by decide +kernel) (by simp) (AllReadyIn.cons rfl (fun K hK=>?_) (AllReadyIn.cons rfl (fun K hK=>?_) AllReadyIn.nil))|refine wpAnyIn_ready (rs:=[1,2]) (by decide +kernel) (by simp) (AllReadyIn.cons rfl (fun K hK=>?_) (AllReadyIn.cons rfl (fun K hK=>?_) AllReadyIn.nil))|refine wpAnyIn_ready (rs:=[0]) (by decide +kernel) (by simp) (AllReadyIn.cons rfl (fun K hK=>?_) AllReadyIn.nil))
  all_goals (go_simp;refine hK _ _ ?_;clear hK K)
  all_goals (first|refine wpAnyIn_ready (rs:=[3]) (by decide +kernel) (by simp) (AllReadyIn.cons rfl (fun K hK=>?_) AllReadyIn.nil)|refine wpAnyIn_ready (rs:=[2]) (by decide +kernel) (by simp) (AllReadyIn.cons rfl (fun K hK=>?_) AllReadyIn.nil)|refine wpAnyIn_ready (rs:=[1]) (by decide +kernel) (by simp) (AllReadyIn.cons rfl (fun K hK=>?_) AllReadyIn.nil))
  all_goals (go_simp;refine hK _ _ ?_;clear hK K)
  all_goals refine ?restV9
  refine wpAnyIn_ready (rs:=[4]) (by kernel_rfl) (by simp) ?_
  refine AllReadyIn.cons rfl (fun K hK=>?_) ?_
  ·refine appV_step rfl _ _ rfl w.heap.size (.slice av k cv) k (pre.flatMap (fun x=>encP x.p)) rfl HRow.out _ rfl (by simp) (by simp) (by simp) (by simp) hkq Hbs.out ?_
   intro g3 cap3 w3 hown3 hgrow3 hg3 hgl3
   obtain⟨hbx3,hboxes,hgB,hstep⟩:=HStep.out g3 cap3 w3 hown3 hgrow3 hg3
   have hc3:=hbx3.cell
   have hf3:=hbx3.frozen
   have hgB2 : ¬(w.heap.size=g3):=fun e=>hgB e.symm
   have q0:=hown3.cellAt (k*4) (by omega)
   have q1:=hown3.cellAt (k*4+1) (by omega)
   have q2:=hown3.cellAt (k*4+2) (by omega)
   have q3:=hown3.cellAt (k*4+3) (by omega)
   rw [List.getElem?_append_right (by rw [Hxl.out];omega),Hxl.out] at q0 q1 q2 q3
   simp only [Nat.sub_self,Nat.add_sub_cancel_left,List.getElem?_cons_zero,List.getElem?_cons_succ] at q0 q1 q2 q3
   have z0:=hown3.frozenAt (k*4)
   have z1:=hown3.frozenAt (k*4+1)
   have z2:=hown3.frozenAt (k*4+2)
   have z3:=hown3.frozenAt (k*4+3)
   have Hst:Hid _:=hstep
   clear hown3 hgrow3 hg3 hstep hboxes
   refine hK _ _ ?_
   clear hK K
   refine wpAnyIn_ready (rs:=[5,7]) (by kernel_rfl) (by simp) ?_
   refine AllReadyIn.cons rfl (fun K hK=>?_) ?_
   ·go_simp
    refine hK _ _ ?_
    clear hK K
    refine wpAnyIn_ready (rs:=[6,7]) (by kernel_rfl) (by simp) ?_
    refine AllReadyIn.cons rfl (fun K hK=>?_) ?_
    ·go_simp
     refine hK _ _ ?_
     clear hK K
     refine wpAnyIn_ready (rs:=[7]) (by kernel_rfl) (by simp) ?_
     refine AllReadyIn.cons rfl (fun K hK=>?_) ?_
     ·go_simp
      refine hK _ _ ?_
      clear hK K
      refine wpAnyIn_done (by kernel_rfl) ?_ _
      obtain⟨k1,k2,k3,k4⟩:=Hst.out _ (Or.inl rfl)
      exact⟨k1.from _,k2,⟨⟨_,k3⟩,k4⟩,HP.out⟩
     exact AllReadyIn.nil
    refine AllReadyIn.cons rfl (fun K hK=>?_) ?_
    ·go_simp
     refine hK _ _ ?_
     clear hK K
     refine wpAnyIn_ready (rs:=[6]) (by kernel_rfl) (by simp) ?_
     refine AllReadyIn.cons rfl (fun K hK=>?_) ?_
     ·go_simp
      refine hK _ _ ?_
      clear hK K
      refine wpAnyIn_done (by kernel_rfl) ?_ _
      obtain⟨k1,k2,k3,k4⟩:=Hst.out _ (Or.inr rfl)
      exact⟨k1.from _,k2,⟨⟨_,k3⟩,k4⟩,HP.out⟩
     exact AllReadyIn.nil
    exact AllReadyIn.nil
   refine AllReadyIn.cons rfl (fun K hK=>?_) ?_
   ·go_simp
    refine hK _ _ ?_
    clear hK K
    refine wpAnyIn_ready (rs:=[5]) (by kernel_rfl) (by simp) ?_
    refine AllReadyIn.cons rfl (fun K hK=>?_) ?_
    ·go_simp
     refine hK _ _ ?_
     clear hK K
     refine wpAnyIn_ready (rs:=[6]) (by kernel_rfl) (by simp) ?_
     refine AllReadyIn.cons rfl (fun K hK=>?_) ?_
     ·go_simp
      refine hK _ _ ?_
      clear hK K
      refine wpAnyIn_done (by kernel_rfl) ?_ _
      obtain⟨k1,k2,k3,k4⟩:=Hst.out _ (Or.inr rfl)
      exact⟨k1.from _,k2,⟨⟨_,k3⟩,k4⟩,HP.out⟩
     exact AllReadyIn.nil
    exact AllReadyIn.nil
   exact AllReadyIn.nil
  exact AllReadyIn.nil
 case done=>
  rintro D pre W hD hxs ⟨⟨⟨v,hR⟩,hB⟩,hpl⟩ hK
  have htk:pre.map CV.k=l:=hxs
  have hpl2:pre.length≤65536:=by have:=congrArg List.length htk;rw [List.length_map] at this;skip;have:=HL.out;omega
  have hS:SlP w.heap.size 16 W (pre.map CV.p) v:=hR.slp hpl2
  obtain⟨av,cv,rfl,_⟩:=hS.slice
  obtain⟨NL,hNL⟩:∃NL,NL=(pre.map CV.p).length:=⟨_,rfl⟩
  rw [←hNL] at hS hR
  have hc:=hR.1.cell
  have HS:Hid (SlP w.heap.size 16 W (pre.map CV.p) (.slice av NL cv)∧Below w.heap.size w W):=⟨hS,hB⟩
  have HMk:Hid (MarksX w.heap.size W [D]):=MarksX.one (by omega) hK
  have HT:Hid ((pre.map CV.p).map (·.1)=l):=by rw [map_p_k];exact htk
  clear hR hS hB hK hNL htk hxs
  gi_wp2
  refine leavesX w.heap.size (fun V=>SlP w.heap.size 16 V (pre.map CV.p) (.slice av NL cv)∧Below w.heap.size w V) (fun V D hD hK hT=>⟨slp_putObj hT.1 hK rfl,hT.2.trans (below_putX hD)⟩) (fun V hT=>⟨.slice av NL cv,by simp [results,Tryz.results153,go_sem],hT.2,_,_,rfl,HT.out,hT.1⟩) [D] _ HMk.out HS.out
 case stop=>
  rintro D c pre W _ _ h _
  exact h.elim
theorem scollect_16 (l:List VT) (hlen:l.length≤65536) (lb:Array Value) (w:World)
 (hseq:∀(n:Nat) (W:World),6≤n→Below w.heap.size w W→SeqX Fence.wide n Tryz.prog 218 lb encCV (KpY 22 w.heap.size) (PreCV l) (fun xs=>xs.map CV.k=l) (fun _=>True) l.length W) :
 Calls Tryz.prog 97 #[.func (.func 218) #[] lb] w (ItPost w.heap.size l w):=by
 have HA:Hid _:=sappend_16 l hlen lb w hseq
 clear hseq
 go_enter Tryz.func97,Tryz.ntmps97
 go_wp2_with fail
 refine Calls.mono HA.out ?_
 rintro e w1 ⟨hb,ps,v,rfl,hm,hS⟩
 have HE:Hid (ItPost w.heap.size l w (.returned v) w1):=⟨hb,ps,v,rfl,hm,hS⟩
 obtain⟨av,cv,rfl,_⟩:=hS.slice
 clear hb hm hS HA
 go_wp2_with fail
 go_ret
 exact HE.out
theorem SC.seq {w0:World} {q:Nat} {l:List PT} {s:Nat} (h:SC w0 q l s):∃b,w0.cell? ⟨s,0,none⟩=some (.pointer (some ⟨b,0,none⟩))∧l.length≤65536∧∀(n Bm:Nat) (W:World),6≤n→Below w0.heap.size w0 W→W.cell? ⟨Bm,0,none⟩=some (.pointer (some ⟨b,0,none⟩))→SeqX Fence.wide n Tryz.prog 218 #[.pointer (some ⟨Bm,0,none⟩)] encCV (KpY 22 w0.heap.size) (PreCV (l.map (·.1))) (fun xs=>xs.map CV.k=l.map (·.1)) (fun _=>True) (l.map (·.1)).length W:=by
 obtain⟨b,t,h1,hm,rfl,_⟩:=h
 refine⟨b,h1,?_,fun n Bm W hn hW hc=>?_⟩
 ·have:=hm.size
  rwa [RT.size_items] at this
 ·rw [List.length_map]
  exact sall1_16 hm 22 (by decide) (by decide) n Bm hn W hW hc
theorem sitems_16 {w:World} {q:Nat} {l:List PT} {s:Nat} (h:SC w q l s):Calls Tryz.prog 46 #[.pointer (some ⟨s,0,none⟩)] w (ItPost w.heap.size (l.map (·.1)) w):=by
 obtain⟨b,hs,hl,hq⟩:=h.seq
 have hb:Below w.heap.size w (w.alloc (.cells #[.pointer (some ⟨b,0,none⟩)] 112)):=((Grew.refl w).alloc _).below
 have hc9:(w.alloc (.cells #[.pointer (some ⟨b,0,none⟩)] 112)).cell? ⟨w.heap.size,0,none⟩=some (.pointer (some ⟨b,0,none⟩)):=(Go.Boxed.new w 112 _).cell
 have HA:Hid (Calls Tryz.prog 97 #[.func (.func 218) #[] #[.pointer (some ⟨w.heap.size,0,none⟩)]] (w.alloc (.cells #[.pointer (some ⟨b,0,none⟩)] 112)) (ItPost w.heap.size (l.map (·.1)) w)):=by
  obtain⟨b2,hs2,_,hq2⟩:=(h.keeps hb).seq
  have e2:b2=b:=by
   have h9:=zaa hb hs
   rw [hs2] at h9
   injection h9 with h9
   injection h9 with h9
   injection h9 with h9
   injection h9
  subst e2
  refine (scollect_16 (l.map (·.1)) (by rw [List.length_map];exact hl) _ _ (fun n W hn hW=>hq2 n _ W hn hW (zaa hW hc9))).mono fun e w' h=>?_
  obtain⟨h1,ps,v,h2,h3,h4⟩:=h
  exact⟨hb.trans (h1.mono hb.size),ps,v,h2,h3,h4.mono hb.size⟩
 clear hq hb hc9 h
 go_enter Tryz.func46,Tryz.ntmps46
 go_wp2_with fail
 refine (sall_16 s b _ hs).mono ?_
 rintro e w1 ⟨rfl,hw1⟩
 subst hw1
 go_wp2_with fail
 refine Calls.mono HA.out ?_
 rintro e w1 ⟨hb,ps,v,rfl,hm,hS⟩
 have HE:Hid (ItPost w.heap.size (l.map (·.1)) w (.returned v) w1):=⟨hb,ps,v,rfl,hm,hS⟩
 obtain⟨av,cv,rfl,_⟩:=hS.slice
 clear hb hm hS HA
 go_wp2_with fail
 go_ret
 exact HE.out
attribute [local go_sem] Oper.semAt_some
theorem eql_nilF16 (f:Fn) (lb:Array Value) (W:World):Sem.run Tryz.prog (binOp BinOp.eql 137 (.func f #[] lb) .nilFunc) W=.ok (.bool false) W:=by
 first|kernel_rfl|rfl
theorem sgone_16 (l:List VT) (hlen:l.length≤65536) (M:Nat) (hM:1≤M) (hM2:M≤65537) (s b:Nat) (w:World) (hs:w.cell? ⟨s,0,none⟩=some (.pointer (some ⟨b,0,none⟩)))
 (hseq:∀(n Bm:Nat) (W:World),6≤n→Below w.heap.size w W→W.cell? ⟨Bm,0,none⟩=some (.pointer (some ⟨b,0,none⟩))→SeqX Fence.wide n Tryz.prog 218 #[.pointer (some ⟨Bm,0,none⟩)] encCV (KpY 22 w.heap.size) (PreCV l) (fun xs=>xs.map CV.k=l) (fun _=>True) l.length W) :
 Calls Tryz.prog 67 #[.pointer (some ⟨s,0,none⟩),.int .i64 (M:Int)] w (ItPost w.heap.size (l.take M) w):=by
 refine (callsIn_wide (n:=8)).1 ?_
 refine callsIn_of_wp_marks Tryz.func67 rfl trivial ?_ rfl
 simp only [Tryz.ntmps67,List.size_toArray,List.length_cons,List.length_nil,Nat.reduceAdd,Nat.reduceSub,Array.replicate_succ,Array.replicate_zero,List.push_toArray,List.append_toArray,List.nil_append,List.cons_append]
 have hM1 : ¬((M:Nat):Int)<1:=by omega
 have tf:=eql_nilF16
 have HSq:Hid _:=hseq
 have HL:Hid (l.length≤65536):=hlen
 have Hs:Hid (w.cell? ⟨s,0,none⟩=some (.pointer (some ⟨b,0,none⟩))):=hs
 clear hseq hlen
 gi_wp2
 refine⟨trivial,?_⟩
 refine (callsIn_wide.2 (sall_16 s b _ (zaa (((Grew.refl w).alloc _).alloc _).below Hs.out))).mono ?_
 rintro e w1 ⟨rfl,rfl⟩
 simp only [World.size_alloc]
 gi_wp2
 obtain⟨Wi,hWi⟩:∃Wi,Wi=(((w.alloc (.cells #[.int .i64 (M:Int)] 3)).alloc (.cells #[.slice none 0 0] 22)).alloc (.cells #[.pointer (some ⟨b,0,none⟩)] 112)):=⟨_,rfl⟩
 rw [←hWi]
 have hB0:Below w.heap.size w Wi:=by rw [hWi];exact (((Grew.refl w).alloc _).alloc _).alloc _ |>.below
 have hsz:Wi.heap.size=w.heap.size+3:=by rw [hWi];simp
 have cM:Wi.cell? ⟨w.heap.size+1+1,0,none⟩=some (.pointer (some ⟨b,0,none⟩)):=by
  rw [hWi]
  have h9:=(Go.Boxed.new ((w.alloc (.cells #[.int .i64 (M:Int)] 3)).alloc (.cells #[.slice none 0 0] 22)) 112 (.pointer (some ⟨b,0,none⟩))).cell
  simpa only [World.size_alloc] using h9
 have hG0:GvI w (w.heap.size+1) [] Wi:=by
  refine⟨⟨.slice none 0 0,?_,World.ownsRow_nil _ _ _ _,fun x hx=>by cases hx⟩,hB0⟩
  rw [hWi]
  have h9:=(Go.Boxed.new (w.alloc (.cells #[.int .i64 (M:Int)] 3)) 22 (.slice none 0 0)).alloc (.cells #[.pointer (some ⟨b,0,none⟩)] 112)
  simpa only [World.size_alloc] using h9
 have hM0:Go.Boxed Wi w.heap.size 3 (.int .i64 (M:Int)):=by
  rw [hWi]
  exact ((Go.Boxed.new w 3 (.int .i64 (M:Int))).alloc _).alloc _
 have HM:Hid (1≤M∧M≤65537):=⟨hM,hM2⟩
 have HSq2:Hid _:=HSq.out 7 (w.heap.size+1+1) Wi (by omega) hB0 cM
 clear hWi tf hM hM2 hs cM HSq
 refine rangeX (α:=CV) rfl (by omega) (gf:=218) (lb:=#[.pointer (some ⟨w.heap.size+1+1,0,none⟩)]) rfl trivial (enters_of Tryz.func218 (by kernel_rfl) rfl)
  HSq2.out kpY_t (fun W o o' hl ho=>kpY_b (by omega) (by omega) W o o' hl ho) (Below.refl _ _) (fun _=>rfl)
  (fun pre W=>GvI w (w.heap.size+1) pre W∧Go.Boxed W w.heap.size 3 (.int .i64 (M:Int))∧pre.length<M∧pre.map CV.k <+: l) (fun c pre W=>c=.exit 0∧GvI w (w.heap.size+1) pre W∧pre.length=M∧pre.map CV.k <+: l)
  (fun s A V row hs hg hr=>⟨GvI.own w _ _ (by omega) (by omega) s A V row hs.1 hg hr,hs.2.1.kept hg (fun e=>by have:=(hr _ e.symm).1;omega),hs.2.2⟩) (fun c s A V row hs hg hr=>⟨hs.1,GvI.own w _ _ (by omega) (by omega) s A V row hs.2.1 hg hr,hs.2.2⟩) ⟨hG0,hM0,by have:=HM.out.1;simp;omega,by simp⟩
  (GvA (w.heap.size+1) l (fun x Bk=>{ tmps:=#[.pointer (some ⟨s,0,none⟩),.int .i64 (M:Int),undef,.pointer (some ⟨w.heap.size,0,none⟩),.slice none 0 0,.pointer (some ⟨w.heap.size+1,0,none⟩),.func (.func 218) #[] #[.pointer (some ⟨w.heap.size+1+1,0,none⟩)],.pointer (some ⟨Bk,0,none⟩),.pointer (some ⟨s,0,none⟩),.func (.func 218) #[] #[.pointer (some ⟨w.heap.size+1+1,0,none⟩)],.func (.func 218) #[] #[.pointer (some ⟨w.heap.size+1+1,0,none⟩)],.bool false,.bool false,.int .i64 (M:Int),.bool (decide ((M:Int)<1)),.bool (decide ((M:Int)<1)),.func (.func 218) #[] #[.pointer (some ⟨w.heap.size+1+1,0,none⟩)],.agg #[.int .i64 x.k.kind,.int .i64 x.k.num,.string x.k.text,.slice x.a1 x.k.items.length x.c1],undef,undef,undef,undef,undef,undef,undef,undef,undef,undef,undef],defers:=[] })) (fun pre x a'=>GvA.own _ _ _ (by omega) _ _ _ _) ?assign ?body ?done ?stop
 case assign=>
  rintro lp pre x V W K hI hbVW ⟨hN,hpx⟩ hK
  have hba:Below W.heap.size W (W.alloc (.cells #[.int .i64 x.k.kind,.int .i64 x.k.num,.string x.k.text,.slice x.a1 x.k.items.length x.c1] 33)):=((Grew.refl W).alloc _).below
  have hws:w.heap.size≤W.heap.size:=Nat.le_trans hI.1.2.size hbVW.size
  obtain⟨hA,hI3⟩:=GvA.make (l:=l) (f:=(fun x Bk=>{ tmps:=#[.pointer (some ⟨s,0,none⟩),.int .i64 (M:Int),undef,.pointer (some ⟨w.heap.size,0,none⟩),.slice none 0 0,.pointer (some ⟨w.heap.size+1,0,none⟩),.func (.func 218) #[] #[.pointer (some ⟨w.heap.size+1+1,0,none⟩)],.pointer (some ⟨Bk,0,none⟩),.pointer (some ⟨s,0,none⟩),.func (.func 218) #[] #[.pointer (some ⟨w.heap.size+1+1,0,none⟩)],.func (.func 218) #[] #[.pointer (some ⟨w.heap.size+1+1,0,none⟩)],.bool false,.bool false,.int .i64 (M:Int),.bool (decide ((M:Int)<1)),.bool (decide ((M:Int)<1)),.func (.func 218) #[] #[.pointer (some ⟨w.heap.size+1+1,0,none⟩)],.agg #[.int .i64 x.k.kind,.int .i64 x.k.num,.string x.k.text,.slice x.a1 x.k.items.length x.c1],undef,undef,undef,undef,undef,undef,undef,undef,undef,undef,undef],defers:=[] })) hI.1 hbVW hN hpx
  have hm9:=(hbVW.block _ hI.2.1.lt).trans hI.2.1
  have HK:Hid (K _ _):=hK _ _ ((KeepsOthers.alloc W _).from _) ⟨hba.mono hws,KBy.below hba,keepsBelowY hba⟩ ⟨hI3,(show Go.Boxed W w.heap.size 3 (.int .i64 (M:Int)) from hm9).alloc _,hI.2.2⟩ hA
  clear hK hA
  unfold encCV
  gi_wp2
  exact HK.out
 case body=>
  rintro lp pre x a' W hlp ⟨⟨⟨v',bx0,hrow,hl⟩,hB⟩,b1,hlM,hpl⟩ ⟨Bk,v,bk,hBk,bx',hnk,hLk,hpx,rfl⟩ hlt
  have hvv:v'=v:=by
   have h1:W.heap[w.heap.size+1]? = some (.cells #[v] 22 (0,0)):=bx'
   have h2:W.heap[w.heap.size+1]? = some (.cells #[v'] 22 (0,0)):=bx0
   rw [h1] at h2
   injection h2 with h2
   injection h2 with h2
   simpa using h2.symm
  subst hvv
  obtain⟨av,cv,hv⟩:∃a c,v'=.slice a pre.length c:=by
   rcases hrow.2 with ⟨rfl,e⟩|⟨g,cap,_,rfl,_⟩
   ·exact⟨none,0,by rw [e]⟩
   ·exact⟨_,_,rfl⟩
  subst hv
  obtain⟨k,hk⟩:∃k,k=pre.length:=⟨_,rfl⟩
  have hpx2:(pre++[x]).map CV.k <+: l:=by rw [List.map_append];exact hpx
  have hkl:k+1≤l.length:=by have:=hpx2.length_le;rw [List.length_map,List.length_append,←hk] at this;exact this
  have hkq:k≤65537:=by have:=HL.out;omega
  have HStep:Hid (∀(g cap:Nat) (w3:World),w3.ownsRow w.heap.size 33 4 (.slice (some ⟨g,0,none⟩) (k+1) cap) (k+1) (pre.flatMap (fun x=>encP x.p)++[.int .i64 0,.int .i64 0,.string ⟨#[]⟩,.slice none 0 0])→(W.alloc Z4V).drew.grownBy w3 (Value.slice av k cv).ownBlock→((Value.slice av k cv).ownBlock=some g∨g=(W.alloc Z4V).drew.heap.size)→_):=fun g cap w3 h1 h2 h3=>gv_step (B:=w.heap.size+1) (n1:=Wi.heap.size+2) hk (by omega) (by rw [hk];exact⟨bx',hrow,hl⟩) hB (by rw [hk];exact hLk) g cap w3 h1 h2 h3
  rw [←hk] at bx' hrow hnk hlt hlM
  obtain⟨y0,y1,y2,y3⟩:=bk.cells
  have hc:=bx'.cell
  have hBl:=bx'.lt
  have hBkl:=bk.lt
  have c4:=b1.cell
  have HB1:Hid (Go.Boxed W w.heap.size 3 (.int .i64 (M:Int))):=b1
  have hcD:W.drew.cell? ⟨w.heap.size+1,0,none⟩=some (.slice av k cv):=hc
  have d0:W.drew.cell? ⟨Bk,0,none⟩=some (.int .i64 x.k.kind):=y0
  have d1:W.drew.cell? ⟨Bk,1,none⟩=some (.int .i64 x.k.num):=y1
  have d2:W.drew.cell? ⟨Bk,2,none⟩=some (.string x.k.text):=y2
  have d3:W.drew.cell? ⟨Bk,3,none⟩=some (.slice x.a1 x.k.items.length x.c1):=y3
  have hn1 : ¬(Bk=W.heap.size):=by omega
  have hn2 : ¬(w.heap.size+1=W.heap.size):=by omega
  have HRow:Hid ((W.alloc Z4V).drew.ownsRow w.heap.size 33 4 (.slice av k cv) k (pre.flatMap (fun x=>encP x.p))):=(hrow.alloc _).drew
  have Hbs:Hid (w.heap.size≤(W.alloc Z4V).drew.heap.size):=by
   have:=hB.size
   show _≤_
   simp
   omega
  have Hxl:Hid ((pre.flatMap (fun x=>encP x.p)).length=k*4):=hrow.1
  have HP:Hid ((pre++[x]).map CV.k <+: l):=hpx2
  have Hk:Hid (k=pre.length):=hk
  have hmx:Tryz.prog.follows .mixedOrders=true:=by kernel_rfl
  have hkk:((k:Nat):Int)<(k:Nat)+1:=by omega
  clear hrow bx' bx0 bk hB hlp hlt hk hl hLk hnk hpx hpx2 hkl b1 hpl
  by_cases hge:k+1=M
  ·have hgeI:((M:Nat):Int)≤(k:Int)+1:=by omega
   have hgeN:M≤k+1:=by omega
   have Hge:Hid (k+1=M):=hge
   clear hge hlM
   gi_wp2
   refine wpIn_region_any hmx ?_
   change wpAnyIn _ _ _ _ _ _ _ _ _ (World.drew _)
   all_goals (first|refine wpAnyIn_ready (rs:=[0,1,3]) (by decide +kernel) (by simp) (AllReadyIn.cons rfl (fun K hK=>?_) (AllReadyIn.cons rfl (fun K hK=>?_) (AllReadyIn.cons rfl (fun K hK=>?_) AllReadyIn.nil))))
   all_goals (go_simp;refine hK _ _ ?_;clear hK K)
   all_goals (first|refine wpAnyIn_ready (rs:=[1,2,3]) (by decide +kernel) (by simp) (AllReadyIn.cons rfl (fun K hK=>?_) (AllReadyIn.cons rfl (fun K hK=>?_) (AllReadyIn.cons rfl (fun K hK=>?_) AllReadyIn.nil)))|refine wpAnyIn_ready (rs:=[0,3]) (by decide +kernel) (by simp) (AllReadyIn.cons rfl (fun K hK=>?_) (AllReadyIn.cons rfl (fun K hK=>?_) AllReadyIn.nil))|refine wpAnyIn_ready (rs:=[0,1]) (by decide +kernel) (by simp) (AllReadyIn.cons rfl (fun K hK=>?_) (AllReadyIn.cons rfl (fun K hK=>?_) AllReadyIn.nil)))
   all_goals (go_simp;refine hK _ _ ?_;clear hK K)
   all_goals (first|refine wpAnyIn_ready (rs:=[2,3]) (by decide +kernel) (by simp) (AllReadyIn.cons rfl (fun K hK=>?_) (AllReadyIn.cons rfl (fun K hK=>?_) AllReadyIn.nil))|refine wpAnyIn_ready (rs:=[1,3]) (by decide +kernel) (by simp) (AllReadyIn.cons rfl (fun K hK=>?_) (AllReadyIn.cons rfl (fun K hK=>?_) AllReadyIn.nil))|refine wpAnyIn_ready (rs:=[1,2]) (by decide +kernel) (by simp) (AllReadyIn.cons rfl (fun K hK=>?_) (AllReadyIn.cons rfl (fun K hK=>?_) AllReadyIn.nil))|refine wpAnyIn_ready (rs:=[0]) (by decide +kernel) (by simp) (AllReadyIn.cons rfl (fun K hK=>?_) AllReadyIn.nil))
   all_goals (go_simp;refine hK _ _ ?_;clear hK K)
   all_goals (first|refine wpAnyIn_ready (rs:=[3]) (by decide +kernel) (by simp) (AllReadyIn.cons rfl (fun K hK=>?_) AllReadyIn.nil)|refine wpAnyIn_ready (rs:=[2]) (by decide +kernel) (by simp) (AllReadyIn.cons rfl (fun K hK=>?_) AllReadyIn.nil)|refine wpAnyIn_ready (rs:=[1]) (by decide +kernel) (by simp) (AllReadyIn.cons rfl (fun K hK=>?_) AllReadyIn.nil))
   all_goals (go_simp;refine hK _ _ ?_;clear hK K)
   all_goals refine ?restV9
   refine wpAnyIn_ready (rs:=[4]) (by kernel_rfl) (by simp) ?_
   refine AllReadyIn.cons rfl (fun K hK=>?_) ?_
   ·refine appV_step rfl _ _ rfl w.heap.size (.slice av k cv) k (pre.flatMap (fun x=>encP x.p)) rfl HRow.out _ rfl (by simp) (by simp) (by simp) (by simp) hkq Hbs.out ?_
    intro g3 cap3 w3 hown3 hgrow3 hg3 hgl3
    obtain⟨hbx3,hboxes,hgB,hstep⟩:=HStep.out g3 cap3 w3 hown3 hgrow3 hg3
    have hm3:=(hboxes _ _ _ HB1.out).1.cell
    have hgn2 : ¬(w.heap.size=g3):=fun e=>(hboxes _ _ _ HB1.out).2 e.symm
    have hc3:=hbx3.cell
    have hf3:=hbx3.frozen
    have hgB2 : ¬(w.heap.size+1=g3):=fun e=>hgB e.symm
    have q0:=hown3.cellAt (k*4) (by omega)
    have q1:=hown3.cellAt (k*4+1) (by omega)
    have q2:=hown3.cellAt (k*4+2) (by omega)
    have q3:=hown3.cellAt (k*4+3) (by omega)
    rw [List.getElem?_append_right (by rw [Hxl.out];omega),Hxl.out] at q0 q1 q2 q3
    simp only [Nat.sub_self,Nat.add_sub_cancel_left,List.getElem?_cons_zero,List.getElem?_cons_succ] at q0 q1 q2 q3
    have z0:=hown3.frozenAt (k*4)
    have z1:=hown3.frozenAt (k*4+1)
    have z2:=hown3.frozenAt (k*4+2)
    have z3:=hown3.frozenAt (k*4+3)
    have Hst:Hid _:=hstep
    clear hown3 hgrow3 hg3 hstep hboxes
    refine hK _ _ ?_
    clear hK K
    refine wpAnyIn_ready (rs:=[5,7]) (by kernel_rfl) (by simp) ?_
    refine AllReadyIn.cons rfl (fun K hK=>?_) ?_
    ·go_simp
     refine hK _ _ ?_
     clear hK K
     refine wpAnyIn_ready (rs:=[6,7]) (by kernel_rfl) (by simp) ?_
     refine AllReadyIn.cons rfl (fun K hK=>?_) ?_
     ·go_simp
      refine hK _ _ ?_
      clear hK K
      refine wpAnyIn_ready (rs:=[7]) (by kernel_rfl) (by simp) ?_
      refine AllReadyIn.cons rfl (fun K hK=>?_) ?_
      ·go_simp
       refine hK _ _ ?_
       clear hK K
       refine wpAnyIn_done (by kernel_rfl) ?_ _
       gi_wp2
       obtain⟨k1,k2,k3,k4⟩:=Hst.out _ (Or.inl rfl)
       exact⟨k1.from _,k2,rfl,⟨⟨_,k3⟩,k4⟩,by rw [List.length_append,←Hk.out,←Hge.out];rfl,HP.out⟩
      exact AllReadyIn.nil
     refine AllReadyIn.cons rfl (fun K hK=>?_) ?_
     ·go_simp
      refine hK _ _ ?_
      clear hK K
      refine wpAnyIn_ready (rs:=[6]) (by kernel_rfl) (by simp) ?_
      refine AllReadyIn.cons rfl (fun K hK=>?_) ?_
      ·go_simp
       refine hK _ _ ?_
       clear hK K
       refine wpAnyIn_done (by kernel_rfl) ?_ _
       gi_wp2
       obtain⟨k1,k2,k3,k4⟩:=Hst.out _ (Or.inr rfl)
       exact⟨k1.from _,k2,rfl,⟨⟨_,k3⟩,k4⟩,by rw [List.length_append,←Hk.out,←Hge.out];rfl,HP.out⟩
      exact AllReadyIn.nil
     exact AllReadyIn.nil
    refine AllReadyIn.cons rfl (fun K hK=>?_) ?_
    ·go_simp
     refine hK _ _ ?_
     clear hK K
     refine wpAnyIn_ready (rs:=[5]) (by kernel_rfl) (by simp) ?_
     refine AllReadyIn.cons rfl (fun K hK=>?_) ?_
     ·go_simp
      refine hK _ _ ?_
      clear hK K
      refine wpAnyIn_ready (rs:=[6]) (by kernel_rfl) (by simp) ?_
      refine AllReadyIn.cons rfl (fun K hK=>?_) ?_
      ·go_simp
       refine hK _ _ ?_
       clear hK K
       refine wpAnyIn_done (by kernel_rfl) ?_ _
       gi_wp2
       obtain⟨k1,k2,k3,k4⟩:=Hst.out _ (Or.inr rfl)
       exact⟨k1.from _,k2,rfl,⟨⟨_,k3⟩,k4⟩,by rw [List.length_append,←Hk.out,←Hge.out];rfl,HP.out⟩
      exact AllReadyIn.nil
     exact AllReadyIn.nil
    exact AllReadyIn.nil
   exact AllReadyIn.nil
  ·have hgeI : ¬((M:Nat):Int)≤(k:Int)+1:=by omega
   have hgeN : ¬M≤k+1:=by omega
   have HgeN:Hid (¬M≤k+1):=hgeN
   clear hge hlM
   gi_wp2
   refine wpIn_region_any hmx ?_
   change wpAnyIn _ _ _ _ _ _ _ _ _ (World.drew _)
   all_goals (first|refine wpAnyIn_ready (rs:=[0,1,3]) (by decide +kernel) (by simp) (AllReadyIn.cons rfl (fun K hK=>?_) (AllReadyIn.cons rfl (fun K hK=>?_) (AllReadyIn.cons rfl (fun K hK=>?_) AllReadyIn.nil))))
   all_goals (go_simp;refine hK _ _ ?_;clear hK K)
   all_goals (first|refine wpAnyIn_ready (rs:=[1,2,3]) (by decide +kernel) (by simp) (AllReadyIn.cons rfl (fun K hK=>?_) (AllReadyIn.cons rfl (fun K hK=>?_) (AllReadyIn.cons rfl (fun K hK=>?_) AllReadyIn.nil)))|refine wpAnyIn_ready (rs:=[0,3]) (by decide +kernel) (by simp) (AllReadyIn.cons rfl (fun K hK=>?_) (AllReadyIn.cons rfl (fun K hK=>?_) AllReadyIn.nil))|refine wpAnyIn_ready (rs:=[0,1]) (by decide +kernel) (by simp) (AllReadyIn.cons rfl (fun K hK=>?_) (AllReadyIn.cons rfl (fun K hK=>?_) AllReadyIn.nil)))
   all_goals (go_simp;refine hK _ _ ?_;clear hK K)
   all_goals (first|refine wpAnyIn_ready (rs:=[2,3]) (by decide +kernel) (by simp) (AllReadyIn.cons rfl (fun K hK=>?_) (AllReadyIn.cons rfl (fun K hK=>?_) AllReadyIn.nil))|refine wpAnyIn_ready (rs:=[1,3]) (by decide +kernel) (by simp) (AllReadyIn.cons rfl (fun K hK=>?_) (AllReadyIn.cons rfl (fun K hK=>?_) AllReadyIn.nil))|refine wpAnyIn_ready (rs:=[1,2]) (by decide +kernel) (by simp) (AllReadyIn.cons rfl (fun K hK=>?_) (AllReadyIn.cons rfl (fun K hK=>?_) AllReadyIn.nil))|refine wpAnyIn_ready (rs:=[0]) (by decide +kernel) (by simp) (AllReadyIn.cons rfl (fun K hK=>?_) AllReadyIn.nil))
   all_goals (go_simp;refine hK _ _ ?_;clear hK K)
   all_goals (first|refine wpAnyIn_ready (rs:=[3]) (by decide +kernel) (by simp) (AllReadyIn.cons rfl (fun K hK=>?_) AllReadyIn.nil)|refine wpAnyIn_ready (rs:=[2]) (by decide +kernel) (by simp) (AllReadyIn.cons rfl (fun K hK=>?_) AllReadyIn.nil)|refine wpAnyIn_ready (rs:=[1]) (by decide +kernel) (by simp) (AllReadyIn.cons rfl (fun K hK=>?_) AllReadyIn.nil))
   all_goals (go_simp;refine hK _ _ ?_;clear hK K)
   all_goals refine ?restW9
   refine wpAnyIn_ready (rs:=[4]) (by kernel_rfl) (by simp) ?_
   refine AllReadyIn.cons rfl (fun K hK=>?_) ?_
   ·refine appV_step rfl _ _ rfl w.heap.size (.slice av k cv) k (pre.flatMap (fun x=>encP x.p)) rfl HRow.out _ rfl (by simp) (by simp) (by simp) (by simp) hkq Hbs.out ?_
    intro g3 cap3 w3 hown3 hgrow3 hg3 hgl3
    obtain⟨hbx3,hboxes,hgB,hstep⟩:=HStep.out g3 cap3 w3 hown3 hgrow3 hg3
    have hm3:=(hboxes _ _ _ HB1.out).1.cell
    have hgn2 : ¬(w.heap.size=g3):=fun e=>(hboxes _ _ _ HB1.out).2 e.symm
    have hc3:=hbx3.cell
    have hf3:=hbx3.frozen
    have hgB2 : ¬(w.heap.size+1=g3):=fun e=>hgB e.symm
    have q0:=hown3.cellAt (k*4) (by omega)
    have q1:=hown3.cellAt (k*4+1) (by omega)
    have q2:=hown3.cellAt (k*4+2) (by omega)
    have q3:=hown3.cellAt (k*4+3) (by omega)
    rw [List.getElem?_append_right (by rw [Hxl.out];omega),Hxl.out] at q0 q1 q2 q3
    simp only [Nat.sub_self,Nat.add_sub_cancel_left,List.getElem?_cons_zero,List.getElem?_cons_succ] at q0 q1 q2 q3
    have z0:=hown3.frozenAt (k*4)
    have z1:=hown3.frozenAt (k*4+1)
    have z2:=hown3.frozenAt (k*4+2)
    have z3:=hown3.frozenAt (k*4+3)
    have Hst:Hid _:=hstep
    clear hown3 hgrow3 hg3 hstep hboxes
    refine hK _ _ ?_
    clear hK K
    refine wpAnyIn_ready (rs:=[5,7]) (by kernel_rfl) (by simp) ?_
    refine AllReadyIn.cons rfl (fun K hK=>?_) ?_
    ·go_simp
     refine hK _ _ ?_
     clear hK K
     refine wpAnyIn_ready (rs:=[6,7]) (by kernel_rfl) (by simp) ?_
     refine AllReadyIn.cons rfl (fun K hK=>?_) ?_
     ·go_simp
      refine hK _ _ ?_
      clear hK K
      refine wpAnyIn_ready (rs:=[7]) (by kernel_rfl) (by simp) ?_
      refine AllReadyIn.cons rfl (fun K hK=>?_) ?_
      ·go_simp
       refine hK _ _ ?_
       clear hK K
       refine wpAnyIn_done (by kernel_rfl) ?_ _
       gi_wp2
       obtain⟨k1,k2,k3,k4⟩:=Hst.out _ (Or.inl rfl)
       exact⟨k1.from _,k2,⟨⟨_,k3⟩,k4⟩,k2.2.1 _ _ _ (by decide) HB1.out,by rw [List.length_append,←Hk.out];have:=HgeN.out;simp;omega,HP.out⟩
      exact AllReadyIn.nil
     refine AllReadyIn.cons rfl (fun K hK=>?_) ?_
     ·go_simp
      refine hK _ _ ?_
      clear hK K
      refine wpAnyIn_ready (rs:=[6]) (by kernel_rfl) (by simp) ?_
      refine AllReadyIn.cons rfl (fun K hK=>?_) ?_
      ·go_simp
       refine hK _ _ ?_
       clear hK K
       refine wpAnyIn_done (by kernel_rfl) ?_ _
       gi_wp2
       obtain⟨k1,k2,k3,k4⟩:=Hst.out _ (Or.inr rfl)
       exact⟨k1.from _,k2,⟨⟨_,k3⟩,k4⟩,k2.2.1 _ _ _ (by decide) HB1.out,by rw [List.length_append,←Hk.out];have:=HgeN.out;simp;omega,HP.out⟩
      exact AllReadyIn.nil
     exact AllReadyIn.nil
    refine AllReadyIn.cons rfl (fun K hK=>?_) ?_
    ·go_simp
     refine hK _ _ ?_
     clear hK K
     refine wpAnyIn_ready (rs:=[5]) (by kernel_rfl) (by simp) ?_
     refine AllReadyIn.cons rfl (fun K hK=>?_) ?_
     ·go_simp
      refine hK _ _ ?_
      clear hK K
      refine wpAnyIn_ready (rs:=[6]) (by kernel_rfl) (by simp) ?_
      refine AllReadyIn.cons rfl (fun K hK=>?_) ?_
      ·go_simp
       refine hK _ _ ?_
       clear hK K
       refine wpAnyIn_done (by kernel_rfl) ?_ _
       gi_wp2
       obtain⟨k1,k2,k3,k4⟩:=Hst.out _ (Or.inr rfl)
       exact⟨k1.from _,k2,⟨⟨_,k3⟩,k4⟩,k2.2.1 _ _ _ (by decide) HB1.out,by rw [List.length_append,←Hk.out];have:=HgeN.out;simp;omega,HP.out⟩
      exact AllReadyIn.nil
     exact AllReadyIn.nil
    exact AllReadyIn.nil
   exact AllReadyIn.nil
 case done=>
  rintro D pre W hD hxs ⟨⟨⟨v,hR⟩,hB⟩,b1,hlM,hpl⟩ hK
  have htk:pre.map CV.k=l.take M:=by rw [←hxs,List.take_of_length_le (by rw [List.length_map];omega)]
  have hpl2:pre.length≤65536:=by have:=congrArg List.length htk;rw [List.length_map] at this;rw [List.length_take] at this;have:=HL.out;omega
  have hS:SlP w.heap.size 16 W (pre.map CV.p) v:=hR.slp hpl2
  obtain⟨av,cv,rfl,_⟩:=hS.slice
  obtain⟨NL,hNL⟩:∃NL,NL=(pre.map CV.p).length:=⟨_,rfl⟩
  rw [←hNL] at hS hR
  have hc:=hR.1.cell
  have HS:Hid (SlP w.heap.size 16 W (pre.map CV.p) (.slice av NL cv)∧Below w.heap.size w W):=⟨hS,hB⟩
  have HMk:Hid (MarksX w.heap.size W [D]):=MarksX.one (by omega) hK
  have HT:Hid ((pre.map CV.p).map (·.1)=l.take M):=by rw [map_p_k];exact htk
  clear hR hS hB hK hNL htk b1
  gi_wp2
  refine leavesX w.heap.size (fun V=>SlP w.heap.size 16 V (pre.map CV.p) (.slice av NL cv)∧Below w.heap.size w V) (fun V D hD hK hT=>⟨slp_putObj hT.1 hK rfl,hT.2.trans (below_putX hD)⟩) (fun V hT=>⟨.slice av NL cv,by simp [results,Tryz.results67,go_sem],hT.2,_,_,rfl,HT.out,hT.1⟩) [D] _ HMk.out HS.out
 case stop=>
  rintro D c pre W hD _ ⟨rfl,⟨⟨v,hR⟩,hB⟩,hlM,hpl⟩ hK
  have htk:pre.map CV.k=l.take M:=by rw [List.prefix_iff_eq_take.1 hpl,List.length_map,hlM]
  have hpl2:pre.length≤65536:=by have:=congrArg List.length htk;rw [List.length_map] at this;rw [List.length_take] at this;have:=HL.out;omega
  have hS:SlP w.heap.size 16 W (pre.map CV.p) v:=hR.slp hpl2
  obtain⟨av,cv,rfl,_⟩:=hS.slice
  obtain⟨NL,hNL⟩:∃NL,NL=(pre.map CV.p).length:=⟨_,rfl⟩
  rw [←hNL] at hS hR
  have hc:=hR.1.cell
  have HS:Hid (SlP w.heap.size 16 W (pre.map CV.p) (.slice av NL cv)∧Below w.heap.size w W):=⟨hS,hB⟩
  have HMk:Hid (MarksX w.heap.size W [D]):=MarksX.one (by omega) hK
  have HT:Hid ((pre.map CV.p).map (·.1)=l.take M):=by rw [map_p_k];exact htk
  clear hR hS hB hK hNL htk 
  gi_wp2
  refine leavesX w.heap.size (fun V=>SlP w.heap.size 16 V (pre.map CV.p) (.slice av NL cv)∧Below w.heap.size w V) (fun V D hD hK hT=>⟨slp_putObj hT.1 hK rfl,hT.2.trans (below_putX hD)⟩) (fun V hT=>⟨.slice av NL cv,by simp [results,Tryz.results67,go_sem],hT.2,_,_,rfl,HT.out,hT.1⟩) [D] _ HMk.out HS.out
theorem sgoneM_16 {w:World} {q:Nat} {l:List PT} {s:Nat} (h:SC w q l s) (M:Nat) (hM:1≤M) (hM2:M≤65537):Calls Tryz.prog 67 #[.pointer (some ⟨s,0,none⟩),.int .i64 (M:Int)] w (ItPost w.heap.size ((l.map (·.1)).take M) w):=by
 obtain⟨b,hs,hl,hq⟩:=h.seq
 exact sgone_16 (l.map (·.1)) (by rw [List.length_map];exact hl) M hM hM2 s b w hs hq
theorem right_nil (d:Nat):zac d nilT=true:=by
 rw [←rightV_any nilT (Dp.of_lies d (default:World) nilT (.slice none 0 0) (zero_lies d _)) (Dp.of_lies 16 (default:World) nilT (.slice none 0 0) (zero_lies 16 _))]
 kernel_rfl
theorem of_good16 {d:Nat} {o:Int} {qs:List PP} {u:Value} {w:World} (hu:SlQ 0 d w qs u) (h:ofErr d o (qs.map trT)=0):∀p∈qs,Good 16 p.1.1∧Good 16 p.2.1:=by
 obtain⟨_,hp⟩:=ofErr_zero h
 obtain⟨_,hr⟩:=pErr_zero hp
 obtain⟨h16,hr16⟩:=slq_canon hu (fun p hpq=>hr (trT p) (List.mem_map_of_mem hpq))
 exact fun p hpq=>⟨⟨(hr16 p hpq).1,Dp.of_lies 16 w p.1.1 p.1.2 (h16.good p hpq).1.1⟩,⟨(hr16 p hpq).2,Dp.of_lies 16 w p.2.1 p.2.2 (h16.good p hpq).2.1⟩⟩
theorem mof_mp16 (d:Nat) (o:Int) (qs:List PP) (u:Value) (w:World) (hu:SlQ 0 d w qs u):Calls Tryz.prog 49 #[.int .i64 o,u] w (MpPost o.toNat (ofK o.toNat qs) (ofErr d o (qs.map trT)) w):=by
 refine (mof_14 d o qs u w hu).mono fun e w' h=>?_
 obtain⟨hb,⟨h0,rfl⟩|⟨h0,t,b,rfl,hm,hi⟩⟩:=h
 ·exact⟨hb,none,rfl,.inl ⟨h0,rfl⟩⟩
 ·rw [h0]
  exact⟨hb,_,rfl,.inr ⟨rfl,t,b,rfl,hm,kydO_eq (fun p hp=>(of_good16 hu h0 p hp).1) _ _ (by omega) (by omega) hm.rises hi⟩⟩
theorem keys_err {d:Nat} {o:Int} {l:List VT} (ho:zal o=0) (hl : ¬65536<l.length):ofErr d o (l.map nilP)=lookE d o l:=by
 have h1 : ¬(o<0∨6≤o):=fun h=>by unfold zal at ho;rw [if_pos h] at ho;cases ho
 unfold ofErr lookE pErr zan
 rw [if_neg (by omega),if_neg h1,if_neg (by rw [List.length_map];exact hl),if_neg hl]
 have h2:(l.map nilP).all (okP d)=l.all (zac d):=by
  rw [List.all_map]
  congr 1
  funext v
  show (zac d v&&zac d nilT)=zac d v
  rw [right_nil,Bool.and_true]
 rw [h2]
theorem sof_list16 (d:Nat) (o:Int) (l:List VT) (u:Value) (w:World) (hu:Lies (d+1) w l u):Calls Tryz.prog 9 #[.int .i64 o,u] w (SpPost o.toNat (setL o.toNat l) (lookE d o l) w):=by
 obtain⟨a0,c0,rfl,_⟩:=Lies.slice hu
 have HNw:Hid _:=mnew_14 o w
 by_cases ho:zal o=0
 ·have hoN:(o<0∨6≤o)=False:=by
   refine eq_false fun h=>?_
   unfold zal at ho
   rw [if_pos h] at ho
   cases ho
  rw [ho] at HNw
  by_cases hl:65536<l.length
  ·have hE:lookE d o l=2:=by unfold lookE zan;rw [if_neg (by rw [hoN];exact id),if_pos hl]
   rw [hE]
   have hli:(65536:Int)<(l.length:Nat):=by omega
   clear hu ho hoN hE hl
   generalize setL o.toNat l=SL at *
   generalize l.length=N at *
   go_enter Tryz.func9,Tryz.ntmps9
   go_wp2_with fail
   refine Calls.mono HNw.out ?_
   rintro e w1 ⟨hb,p,rfl,_⟩
   have HE:Hid (SpPost o.toNat SL 2 w (.returned (.tuple #[.pointer none,.int .i64 2])) w1):=⟨hb,none,rfl,.inl ⟨by decide,rfl⟩⟩
   clear hb HNw
   go_wp2_with fail
   go_ret2
   exact HE.out
  ·obtain⟨ps,hps,hpl,hsp⟩:=SlP.of_lies hu
   have HKy:Hid (∀V,Below w.heap.size w V→Calls Tryz.prog 59 #[.slice a0 l.length c0] V (KyPost ps d V)):=fun V hV=>keyed_16 d ps _ V (hsp.keeps hV) (by omega)
   have hmap:(ps.map keyP).map trT=l.map nilP:=by rw [keyP_map,hps]
   have HOf:Hid (∀V v,SlQ 0 d V (ps.map keyP) v→Calls Tryz.prog 49 #[.int .i64 o,v] V (MpPost o.toNat (setL o.toNat l) (lookE d o l) V)):=fun V v hv=>by
    have h9:=mof_mp16 d o (ps.map keyP) v V hv
    rw [hmap,keys_err ho hl,ofK_is,hmap] at h9
    exact h9
   have HN:Hid (Nils (setL o.toNat l)):=setL_nils _ _
   have hli : ¬(65536:Int)<(l.length:Nat):=by omega
   clear hu ho hoN hl hps hpl hsp hmap
   generalize setL o.toNat l=SL at *
   generalize lookE d o l=E at *
   generalize l.length=N at *
   go_enter Tryz.func9,Tryz.ntmps9
   go_wp2_with fail
   refine Calls.mono HNw.out ?_
   rintro e w1 ⟨hb1,p,rfl,_⟩
   clear HNw
   go_wp2_with fail
   refine Calls.mono (HKy.out _ hb1) ?_
   rintro e w2 ⟨hg2,v2,rfl,hv2⟩
   have hb2:Below w.heap.size w w2:=hb1.trans (hg2.mono hb1.size)
   have HO2:Hid _:=HOf.out w2 v2 hv2
   clear HKy HOf hg2 hv2 hb1
   go_wp2_with fail
   refine Calls.mono HO2.out ?_
   rintro e w3 ⟨hg3,p3,rfl,hp3⟩
   have HM:Hid _:=smade_16 hp3 HN.out
   have hb3:Below w.heap.size w w3:=hb2.trans (hg3.mono hb2.size)
   clear hg3 hp3 HO2 hb2
   go_wp2_with fail
   refine Calls.mono HM.out ?_
   rintro e w4 ⟨hg4,p4,rfl,hp4⟩
   have HE:Hid (SpPost o.toNat SL E w (.returned (.tuple #[.pointer p4,.int .i64 E])) w4):=⟨hb3.trans (hg4.mono hb3.size),p4,rfl,hp4⟩
   clear hg4 hp4 HM hb3
   go_wp2_with fail
   go_ret2
   exact HE.out
 ·have hE:lookE d o l=zal o:=by
   unfold lookE zal
   have h1:o<0∨6≤o:=Classical.byContradiction fun h=>ho (by unfold zal;rw [if_neg h])
   rw [if_pos h1,if_pos h1]
  rw [hE]
  have HZ:Hid (¬zal o=0):=ho
  clear hu hE ho
  generalize setL o.toNat l=SL at *
  generalize zal o=E at *
  generalize l.length=N at *
  go_enter Tryz.func9,Tryz.ntmps9
  go_wp2_with fail
  refine Calls.mono HNw.out ?_
  rintro e w1 ⟨hb,p,rfl,_⟩
  have hz:=HZ.out
  have HE:Hid (SpPost o.toNat SL E w (.returned (.tuple #[.pointer none,.int .i64 E])) w1):=⟨hb,none,rfl,.inl ⟨HZ.out,rfl⟩⟩
  clear hb HNw
  go_wp2_with fail
  go_ret2
  exact HE.out
theorem DS.len {w:World} {q:Nat} {l:List PT} {c:Nat} (h:DS w q l c):Calls Tryz.prog 75 #[.pointer (some ⟨c,0,none⟩)] w fun e w'=>e=.returned (.int .i64 (l.length:Nat))∧Below w.heap.size w w':=by
 obtain⟨m,qs,a0,c0,h0,_,h1,rfl,hs,hd⟩:=h.row
 refine (rlen_16 h0 h1).mono ?_
 rintro e w' ⟨rfl,rfl⟩
 exact⟨by rw [List.length_map],Below.refl _ _⟩
theorem rin_16 {w0 w:World} {q:Nat} {l:List PT} {c:Nat} (h0:DS w0 q l c) (hw0:Below w0.heap.size w0 w) (y:VT) (yu:Value) (hy:Lies 16 w y.items yu) (hyr:zac 16 y=true):Calls Tryz.prog 80 #[.pointer (some ⟨c,0,none⟩),.agg #[.int .i64 y.kind,.int .i64 y.num,.string y.text,yu]] w fun e w'=>e=.returned (.bool (findK q y l).isSome)∧Below w.heap.size w w':=by
 have h:=h0.keeps hw0
 obtain⟨m,hs,hm,hn⟩:=h
 obtain⟨ay,cy,rfl,_⟩:=Lies.slice hy
 have HA:Hid (∀V,Below w.heap.size w V→Calls Tryz.prog 132 #[.pointer (some ⟨m,0,none⟩),.agg #[.int .i64 y.kind,.int .i64 y.num,.string y.text,.slice ay y.items.length cy]] V (HvPost w.heap.size (findK q y l) V)):=fun V hV=>rhave_14 hm hV y _ (Lies.keeps hV _ _ _ hy) hyr
 obtain⟨W0,hW0⟩:∃W0,W0=w.alloc (.cells #[.int .i64 y.kind,.int .i64 y.num,.string y.text,.slice ay y.items.length cy] 33):=⟨_,rfl⟩
 have HW0:Hid (W0=w.alloc (.cells #[.int .i64 y.kind,.int .i64 y.num,.string y.text,.slice ay y.items.length cy] 33)):=hW0
 have hb0:Below w.heap.size w W0:=by rw [hW0];exact ((Grew.refl w).alloc _).below
 have k0:W0.cell? ⟨w.heap.size,0,none⟩=some (.int .i64 y.kind):=by rw [hW0];simp
 have k1:W0.cell? ⟨w.heap.size,1,none⟩=some (.int .i64 y.num):=by rw [hW0];simp
 have k2:W0.cell? ⟨w.heap.size,2,none⟩=some (.string y.text):=by rw [hW0];simp
 have k3:W0.cell? ⟨w.heap.size,3,none⟩=some (.slice ay y.items.length cy):=by rw [hW0];simp
 have hs0:=zaa hb0 hs
 clear hW0 hs hm hn hy h0 hw0
 generalize findK q y l=O at *
 go_enter Tryz.func80,Tryz.ntmps80
 go_upto_region 1 with fail
 rw [←HW0.out]
 clear HW0
 have hbA:Below W0.heap.size W0 (W0.alloc (.cells #[.int .i64 0,.int .i64 0,.string ⟨#[]⟩,.slice none 0 0] 33)):=((Grew.refl W0).alloc _).below
 have HBA:Hid (Below W0.heap.size W0 (W0.alloc (.cells #[.int .i64 0,.int .i64 0,.string ⟨#[]⟩,.slice none 0 0] 33)).drew):=hbA.drew
 have HBd:Hid (Below W0.heap.size W0 W0.drew):=(Below.refl _ _).drew
 have HXA:Hid (Bx (W0.alloc (.cells #[.int .i64 0,.int .i64 0,.string ⟨#[]⟩,.slice none 0 0] 33)).drew W0.heap.size nilT (.slice none 0 0)):=(show Bx (W0.alloc (.cells #[.int .i64 0,.int .i64 0,.string ⟨#[]⟩,.slice none 0 0] 33)) W0.heap.size nilT (.slice none 0 0) from bx_alloc W0 nilT (.slice none 0 0)).keeps (Below.refl _ _).drew
 have HB0:Hid (Below w.heap.size w W0):=hb0
 have HKp:Hid (∀(n:Nat) (v0 v1 v2 v3:Value) (V:World),W0.heap.size≤n→(fun w'=>w'.cell? ⟨c,0,none⟩=some (.pointer (some ⟨m,0,none⟩))∧w'.cell? ⟨w.heap.size,0,none⟩=some (.int .i64 y.kind)∧w'.cell? ⟨w.heap.size,1,none⟩=some (.int .i64 y.num)∧w'.cell? ⟨w.heap.size,2,none⟩=some (.string y.text)∧w'.cell? ⟨w.heap.size,3,none⟩=some (.slice ay y.items.length cy)) V→(fun w'=>w'.cell? ⟨c,0,none⟩=some (.pointer (some ⟨m,0,none⟩))∧w'.cell? ⟨w.heap.size,0,none⟩=some (.int .i64 y.kind)∧w'.cell? ⟨w.heap.size,1,none⟩=some (.int .i64 y.num)∧w'.cell? ⟨w.heap.size,2,none⟩=some (.string y.text)∧w'.cell? ⟨w.heap.size,3,none⟩=some (.slice ay y.items.length cy)) ((((V.setCell ⟨n,0,none⟩ v0).setCell ⟨n,1,none⟩ v1).setCell ⟨n,2,none⟩ v2).setCell ⟨n,3,none⟩ v3)):=fun n v0 v1 v2 v3 V hn h=>by
  have l1:=zad hs0
  have l2:=zad k0
  simp only at l1 l2
  exact⟨set4_keep16 (by simp only;omega) h.1,set4_keep16 (by simp only;omega) h.2.1,set4_keep16 (by simp only;omega) h.2.2.1,set4_keep16 (by simp only;omega) h.2.2.2.1,set4_keep16 (by simp only;omega) h.2.2.2.2⟩
 have hl0:=zad hs0
 have hl1:=zad k0
 simp only at hl0 hl1
 have n1 : ¬c=W0.heap.size:=by omega
 have n2 : ¬w.heap.size=W0.heap.size:=by omega
 have HGs:Hid (∀(n:Nat) (v0 v1 v2 v3:Value) (V:World),Below w.heap.size w V→w.heap.size≤n→Below w.heap.size w ((((V.setCell ⟨n,0,none⟩ v0).setCell ⟨n,1,none⟩ v1).setCell ⟨n,2,none⟩ v2).setCell ⟨n,3,none⟩ v3)):=fun n v0 v1 v2 v3 V h hn=>(((h.setCell (p:=⟨n,0,none⟩) hn _).setCell (p:=⟨n,1,none⟩) hn _).setCell (p:=⟨n,2,none⟩) hn _).setCell (p:=⟨n,3,none⟩) hn _
 clear hbA hb0
 go_region_held3 (fun w'=>w'.cell? ⟨c,0,none⟩=some (.pointer (some ⟨m,0,none⟩))∧w'.cell? ⟨w.heap.size,0,none⟩=some (.int .i64 y.kind)∧w'.cell? ⟨w.heap.size,1,none⟩=some (.int .i64 y.num)∧w'.cell? ⟨w.heap.size,2,none⟩=some (.string y.text)∧w'.cell? ⟨w.heap.size,3,none⟩=some (.slice ay y.items.length cy)) (first|go_keep|(exact HKp.out _ _ _ _ _ _ (Nat.le_refl _) (by assumption))|(exact HKp.out _ _ _ _ _ _ (by assumption) (by assumption)))
  (first
   | (go_at_call 132;(with_reducible refine Calls.mono (HA.out _ (HB0.out.trans (Below.mono ?_ HB0.out.size))) ?_);(first|exact HBd.out|exact HBA.out);rintro e w2 ⟨hg2',a2,c2,rfl,hl2⟩;have hg2:Below W0.heap.size W0 w2:=(by first|exact HBd.out.trans hg2'|exact HBA.out.trans (hg2'.mono HBA.out.size));have hs0:=zaa hg2 hs0;have k0:=zaa hg2 k0;have k1:=zaa hg2 k1;have k2:=zaa hg2 k2;have k3:=zaa hg2 k3;have hw2s:W0.heap.size≤w2.heap.size:=hg2.size;(first|(have hz:=Bx.keeps HXA.out hg2';obtain⟨z0,z1,z2,z3,y0,y1,y2,y3⟩:=hz)|skip);have HG2:Hid (Below w.heap.size w w2):=HB0.out.trans (hg2.mono HB0.out.size);clear hg2' hl2 hg2))
 all_goals go_wp2_with fail
 all_goals (first|exact⟨rfl,HG2.out⟩|(go_ret;first|exact⟨rfl,HG2.out⟩|(refine⟨rfl,?_⟩;first|exact HGs.out _ _ _ _ _ _ HG2.out (by omega)|exact HGs.out _ _ _ _ _ _ (HG2.out.alloc HG2.out.size _) (by have:=HG2.out.size;omega)|exact HG2.out.alloc HG2.out.size _|exact HG2.out)))
def DqPost (q:Nat) (l:List PT) (w:World) (e:Ending) (w':World):Prop:=Below w.heap.size w w'∧∃c,e=.returned (.pointer (some ⟨c,0,none⟩))∧DS w' q l c
theorem rpart_16 {w:World} {q r:Nat} {la lb:List PT} {c d:Nat} (h1:DS w q la c) (h2:DS w r lb d) (B:Bool):Calls Tryz.prog 93 #[.pointer (some ⟨c,0,none⟩),.pointer (some ⟨d,0,none⟩),.bool B] w (DqPost q (partL r la lb B) w):=by
 obtain⟨i0,hi,hz0,hz1,hz2⟩:=info24
 have Hi:Hid _:=hi;have Hz0:Hid _:=hz0;have Hz1:Hid _:=hz1;have Hz2:Hid _:=hz2
 have HI:Hid (Calls Tryz.prog 64 #[.pointer (some ⟨c,0,none⟩)] w (ItPost w.heap.size (la.map (·.1)) w)):=ritems_16 h1
 obtain⟨m,k0,hdm,hnl⟩:=h1
 have ho:=hdm.ord
 have hq6:=hdm.q6
 have H01:Hid (w.cell? ⟨c,0,none⟩=some (.pointer (some ⟨m,0,none⟩))∧w.cell? ⟨m,0,none⟩=some (.int .i64 (q:Int))):=⟨k0,ho⟩
 have hga:∀k∈la.map (·.1),zac 16 k=true:=fun k hk=>by
  obtain⟨x,hx,rfl⟩:=List.mem_map.1 hk
  exact (hdm.right x hx).1.1
 have HGa:Hid (∀k∈la.map (·.1),zac 16 k=true):=hga
 have HIn:Hid (∀V,Below w.heap.size w V→∀(y:VT) (yu:Value),Lies 16 V y.items yu→zac 16 y=true→Calls Tryz.prog 80 #[.pointer (some ⟨d,0,none⟩),.agg #[.int .i64 y.kind,.int .i64 y.num,.string y.text,yu]] V fun e w'=>e=.returned (.bool (findK r y lb).isSome)∧Below V.heap.size V w'):=fun V hV y yu hy hyr=>rin_16 h2 hV y yu hy hyr
 have hsz:la.length≤65536:=hdm.size
 have hpl:partL r la lb B=la.filter (fun x=>(findK r x.1 lb).isSome==B):=rfl
 have Hend:Hid (∀(ps:List (VT×Value)) (u:Value) (V:World),ps.map (·.1)=(la.map (·.1)).filter (fun k=>(findK r k lb).isSome==B)→SlP 0 16 V ps u→Calls Tryz.prog 61 #[.int .i64 (q:Int),u] V (MkPost q (partL r la lb B) V)):=fun ps u V hps hs=>by
  have hl:ps.length≤65536:=by
   have e:=congrArg List.length hps
   rw [List.length_map] at e
   have:=List.length_filter_le (fun k=>(findK r k lb).isSome==B) (la.map (·.1))
   rw [List.length_map] at this
   omega
  have h9:=rmake_16 q hq6 ps u V hs (by omega) (fun p hp=>hga p.1 (by
   have:p.1∈ps.map (·.1):=List.mem_map_of_mem hp
   rw [hps] at this
   exact (List.mem_filter.1 this).1))
  rw [hps,setL_keep hdm.rises hnl] at h9
  exact h9
 have Hlen:Hid ((partL r la lb B).length≤65536):=by
  have:=List.length_filter_le (fun x:PT=>(findK r x.1 lb).isSome==B) la
  show _≤_
  rw [hpl]
  omega
 have hkl:(la.map (·.1)).length≤65536:=by rw [List.length_map];exact hsz
 clear hi hz0 hz1 hz2 h2 k0 ho hdm hnl hga hsz hpl hq6
 generalize partL r la lb B=PL at *
 obtain⟨kp,hkp⟩:∃kp:VT→Bool,kp=fun k=>(findK r k lb).isSome==B:=⟨_,rfl⟩
 have Hkp:Hid (∀k,kp k=((findK r k lb).isSome==B)):=fun k=>by rw [hkp]
 rw [←hkp] at Hend
 clear hkp
 generalize la.map (·.1)=ks at *
 go_enter Tryz.func93,Tryz.ntmps93
 go_wp2_with fail
 refine Calls.mono HI.out ?_
 rintro e w1 ⟨hb1,ps,v1,rfl,hks,hs1⟩
 obtain⟨a0,c0,rfl,_⟩:=hs1.slice
 have HS:Hid (SlP w.heap.size 16 w1 ps (.slice a0 ps.length c0)):=hs1
 have HKs:Hid (ps.map (·.1)=ks):=hks
 have HB1:Hid (Below w.heap.size w w1):=hb1
 obtain⟨N,hN⟩:∃N,N=ps.length:=⟨_,rfl⟩
 have HN:Hid (N=ps.length):=hN
 have HN6:Hid (N≤65536):=by
  have e:=congrArg List.length hks
  rw [List.length_map] at e
  show _≤_
  omega
 rw [←hN]
 have Hstep:Hid (∀(k:Nat) (hk:k<ps.length),kp ps[k].1=true→(ps.take (k+1)).filter (fun p=>kp p.1)=(ps.take k).filter (fun p=>kp p.1)++[ps[k]]):=fun k hk h=>by
  rw [List.take_succ_eq_append_getElem hk,List.filter_append,List.filter_cons_of_pos (by exact h)];rfl
 have Hskip:Hid (∀(k:Nat) (hk:k<ps.length),kp ps[k].1=false→(ps.take (k+1)).filter (fun p=>kp p.1)=(ps.take k).filter (fun p=>kp p.1)):=fun k hk h=>by
  rw [List.take_succ_eq_append_getElem hk,List.filter_append,List.filter_cons_of_neg (by rw [h];decide)];simp
 clear HI hks hs1 hN hkl hb1
 go_wp2_with fail
 go_loopg [9,7] N (fun z9 i u wr=>∃j:Nat,i=.int .i64 (j:Int)∧j≤N∧z9=N-j∧Hid (wr.ownsRow w1.heap.size 33 4 u ((ps.take j).filter (fun p=>kp p.1)).length (((ps.take j).filter (fun p=>kp p.1)).flatMap encP))∧Hid (Below w1.heap.size w1 wr))
 case atStart=>exact⟨0,rfl,by omega,by omega,World.ownsRow_nil _ _ _ _,Below.refl _ _⟩
 case round=>
  obtain⟨j,rfl,hj,hk,HOw,HBw⟩:=hrel
  have Hk:Hid _:=hk
  have hbw:=HBw.out
  clear hk
  by_cases hlt:j<N
  ·have hji:(j:Int)<(N:Nat):=by omega
   have hji0:(0:Int)≤(j:Int):=by omega
   have hltq:j<ps.length:=by have:=HN.out;omega
   have Hst:Hid _:=Hstep.out j hltq
   have Hsk:Hid _:=Hskip.out j hltq
   obtain⟨fl,hfl⟩:∃fl,fl=((ps.take j).filter (fun p=>kp p.1)).length:=⟨_,rfl⟩
   have hfll:fl≤j:=by
    rw [hfl]
    refine Nat.le_trans (List.length_filter_le _ _) ?_
    rw [List.length_take];omega
   have Hfl:Hid (fl=((ps.take j).filter (fun p=>kp p.1)).length):=hfl
   rw [←hfl] at HOw
   have hnn:ps≠[]:=by intro e;rw [e] at hltq;cases hltq
   obtain⟨av,cv,hv1,hcl,_,hrow,hgq⟩:=HS.out
   obtain⟨bb,oo,hav,_,hq1⟩:=hrow hnn
   have ha1:a0=some ⟨bb,oo,none⟩:=by rw [←hav];injection hv1
   subst ha1
   obtain⟨p0,p1,p2,p3⟩:=hq1 j hltq
   have hg:=hgq ps[j] (List.getElem_mem hltq)
   have hgr:zac 16 ps[j].1=true:=HGa.out _ (by rw [←HKs.out];exact List.mem_map_of_mem (List.getElem_mem hltq))
   obtain⟨a1,c1,hu1,_⟩:=Lies.slice hg.1
   rw [hu1] at p3
   have HX:Hid (Lies 16 w1 ps[j].1.items (.slice a1 ps[j].1.items.length c1)∧zac 16 ps[j].1=true):=⟨by rw [←hu1];exact hg.1,hgr⟩
   generalize ps[j]=x at *
   obtain⟨t1,u1⟩:=x
   simp only at p0 p1 p2 p3 hu1 HX Hst Hsk
   subst hu1
   have p0:=zaa hbw p0;have p1:=zaa hbw p1;have p2:=zaa hbw p2;have p3:=zaa hbw p3
   have hwb:Below w.heap.size w wr:=HB1.out.trans (hbw.mono HB1.out.size)
   have HIc:Hid (Calls Tryz.prog 80 #[.pointer (some ⟨d,0,none⟩),.agg #[.int .i64 t1.kind,.int .i64 t1.num,.string t1.text,.slice a1 t1.items.length c1]] wr fun e w'=>e=.returned (.bool (findK r t1 lb).isSome)∧Below wr.heap.size wr w'):=HIn.out wr hwb t1 _ (Lies.keeps hbw _ _ _ HX.out.1) HX.out.2
   have hk9:=Hkp.out t1
   have Hk9:Hid _:=hk9
   generalize (findK r t1 lb).isSome=F at *
   clear hq1 hgq hg hgr hv1 hfl hwb HX hk9 hrow hcl hav
   go_wp2_with fail
   refine Calls.mono HIc.out ?_
   rintro e w3 ⟨rfl,hg3⟩
   have hb3:Below w1.heap.size w1 w3:=hbw.trans (hg3.mono hbw.size)
   have p0:=zaa hg3 p0;have p1:=zaa hg3 p1;have p2:=zaa hg3 p2;have p3:=zaa hg3 p3
   have HO3:Hid (w3.ownsRow w1.heap.size 33 4 u7 fl (((ps.take j).filter (fun p=>kp p.1)).flatMap encP)):=za2 HOw.out hg3
   have hs3:w1.heap.size≤w3.heap.size:=hb3.size
   have hfj:fl<65536:=by have:=HN6.out;omega
   clear hg3 HIc HOw HBw hbw
   cases hkq:kp t1 with
   | false=>
    have hfb:(F==B)=false:=Hk9.out.symm.trans hkq
    have hsk:=Hsk.out hkq
    have HE:Hid (w3.ownsRow w1.heap.size 33 4 u7 ((ps.take (j+1)).filter (fun p=>kp p.1)).length (((ps.take (j+1)).filter (fun p=>kp p.1)).flatMap encP)):=by
     rw [hsk,←Hfl.out]
     exact HO3.out
    clear hsk Hsk Hst Hkp Hstep Hskip HO3 Hfl hkq Hk9 p0 p1 p2 p3
    go_wp2_with fail
    go_roundg (N-(j+1))
    case measure=>have:=Hk.out;omega
    case rel=>exact⟨j+1,by go_num,by omega,rfl,HE.out,hb3⟩
   | true=>
    have hfb:(F==B)=true:=Hk9.out.symm.trans hkq
    have hst:=Hst.out hkq
    have Htl:Hid (((ps.take (j+1)).filter (fun p=>kp p.1)).length=fl+1):=by
     show _=_
     rw [hst,List.length_append,←Hfl.out]
     rfl
    have Htk:Hid (((ps.take (j+1)).filter (fun p=>kp p.1)).flatMap encP=((ps.take j).filter (fun p=>kp p.1)).flatMap encP++encP (t1,.slice a1 t1.items.length c1)):=by
     show _=_
     rw [hst,List.flatMap_append]
     simp
    clear hst Hsk Hst Hkp Hstep Hskip Hfl hkq Hk9
    go_wp2_with (first
     | (at_builtin;refine wpList_append_own _ rfl _ _ 22 rfl w1.heap.size 33 i0 (.agg #[.int .i64 0,.int .i64 0,.string ⟨#[]⟩,.slice none 0 0]) 4 56 Tryz.underlying22 Hi.out Hz0.out Hz1.out Hz2.out rfl (by decide) _ _ _ rfl (HO3.out.alloc _) ⟨w3.heap.size,0,none⟩ 1 1 [.int .i64 t1.kind,.int .i64 t1.num,.string t1.text,.slice a1 t1.items.length c1] rfl rfl (fun q u hq=>by match q,hq with|0,hq=>(simp at hq;subst hq;simp [Addr.add])|1,hq=>(simp at hq;subst hq;simp [Addr.add])|2,hq=>(simp at hq;subst hq;simp [Addr.add])|3,hq=>(simp at hq;subst hq;simp [Addr.add])) (fun u hu=>by simp at hu;rcases hu with rfl|rfl|rfl|rfl <;> rfl) (by unfold maxLen;omega) (by omega) (by simp;omega) ?_;intro v9 w9 hown hgrow _))
    have hb9:Below w1.heap.size w1 w9:=zao (hb3.alloc hs3 _) (by simp;omega) (HO3.out.alloc _) hgrow
    have HR9:Hid (w9.ownsRow w1.heap.size 33 4 v9 ((ps.take (j+1)).filter (fun p=>kp p.1)).length (((ps.take (j+1)).filter (fun p=>kp p.1)).flatMap encP)):=by
     rw [Htl.out,Htk.out]
     exact hown
    clear hown hgrow hb3 HO3 p0 p1 p2 p3
    go_roundg (N-(j+1))
    case measure=>have:=Hk.out;omega
    case rel=>exact⟨j+1,by go_num,by omega,rfl,HR9,hb9⟩
  ·have hjl:j=N:=by omega
   have hji : ¬(j:Int)<(N:Nat):=by omega
   have hbl:Below w.heap.size w wr:=HB1.out.trans (hbw.mono HB1.out.size)
   have HMk:Hid (Calls Tryz.prog 61 #[.int .i64 (q:Int),u7] wr (MkPost q PL wr)):=by
    have h9:=HOw.out
    rw [hjl,HN.out,List.take_length] at h9
    refine Hend.out (ps.filter (fun p=>kp p.1)) _ _ ?_ ((SlP.of_own rfl h9 (fun p hp=>?_) (by have:=List.length_filter_le (fun p:VT×Value=>kp p.1) ps;have:=HN6.out;have:=HN.out;omega)).mono (Nat.zero_le _))
    ·rw [←HKs.out,List.filter_map];rfl
    ·obtain⟨_,_,_,_,_,_,hgs⟩:=HS.out
     exact (hgs p (List.mem_filter.1 hp).1).keeps hbw
   obtain⟨g0,g1⟩:=H01.out
   have g0:=zaa hbl g0;have g1:=zaa hbl g1
   have HBl:Hid (Below w.heap.size w wr):=hbl
   clear HOw HBw hjl hbw Hend hbl
   go_wp2_with fail
   refine Calls.mono HMk.out ?_
   rintro e w9 ⟨hg9,c9,m9,a9,k9,rfl,_,_,hd9⟩
   have HE:Hid (DqPost q PL w (.returned (.pointer (some ⟨c9,0,none⟩))) w9):=⟨HBl.out.trans (hg9.mono HBl.out.size),c9,rfl,hd9 Hlen.out⟩
   clear hd9 hg9 HMk g0 g1
   go_wp2_with fail
   go_ret
   exact HE.out
theorem rmeet_16 {w:World} {q r:Nat} {la lb:List PT} {c d:Nat} (h1:DS w q la c) (h2:DS w r lb d):Calls Tryz.prog 41 #[.pointer (some ⟨c,0,none⟩),.pointer (some ⟨d,0,none⟩)] w (DqPost q (partL r la lb true) w):=by
 have HP:Hid _:=rpart_16 h1 h2 true
 clear h1 h2
 generalize partL r la lb true=PL at *
 go_enter Tryz.func41,Tryz.ntmps41
 go_wp2_with fail
 refine Calls.mono HP.out ?_
 rintro e w1 ⟨hg,c1,rfl,hd⟩
 have HE:Hid (DqPost q PL w (.returned (.pointer (some ⟨c1,0,none⟩))) w1):=⟨hg,c1,rfl,hd⟩
 clear hg hd
 go_wp2_with fail
 go_ret
 exact HE.out
theorem rless_16 {w:World} {q r:Nat} {la lb:List PT} {c d:Nat} (h1:DS w q la c) (h2:DS w r lb d):Calls Tryz.prog 43 #[.pointer (some ⟨c,0,none⟩),.pointer (some ⟨d,0,none⟩)] w (DqPost q (partL r la lb false) w):=by
 have HP:Hid _:=rpart_16 h1 h2 false
 clear h1 h2
 generalize partL r la lb false=PL at *
 go_enter Tryz.func43,Tryz.ntmps43
 go_wp2_with fail
 refine Calls.mono HP.out ?_
 rintro e w1 ⟨hg,c1,rfl,hd⟩
 have HE:Hid (DqPost q PL w (.returned (.pointer (some ⟨c1,0,none⟩))) w1):=⟨hg,c1,rfl,hd⟩
 clear hg hd
 go_wp2_with fail
 go_ret
 exact HE.out
theorem requal_16 {w:World} {q r:Nat} {la lb:List PT} {c d:Nat} (h1:DS w q la c) (h2:DS w r lb d):Calls Tryz.prog 45 #[.pointer (some ⟨c,0,none⟩),.pointer (some ⟨d,0,none⟩)] w fun e w'=>e=.returned (.bool (eqS r la lb))∧Below w.heap.size w w':=by
 have na:Nils la:=by obtain⟨_,_,_,h⟩:=h1;exact h
 have nb:Nils lb:=by obtain⟨_,_,_,h⟩:=h2;exact h
 have HEq:Hid (eqS r la lb=(decide (la.length=lb.length)&&decide ((partL r la lb false).length=0))):=eqS_part na nb
 have HL1:Hid _:=h1.len
 have HL2:Hid (∀V,Below w.heap.size w V→Calls Tryz.prog 75 #[.pointer (some ⟨d,0,none⟩)] V fun e w'=>e=.returned (.int .i64 (lb.length:Nat))∧Below V.heap.size V w'):=fun V hV=>(h2.keeps hV).len
 have HP:Hid (∀V,Below w.heap.size w V→Calls Tryz.prog 93 #[.pointer (some ⟨c,0,none⟩),.pointer (some ⟨d,0,none⟩),.bool false] V (DqPost q (partL r la lb false) V)):=fun V hV=>rpart_16 (h1.keeps hV) (h2.keeps hV) false
 have HLp:Hid (∀V p,DS V q (partL r la lb false) p→Calls Tryz.prog 75 #[.pointer (some ⟨p,0,none⟩)] V fun e w'=>e=.returned (.int .i64 ((partL r la lb false).length:Nat))∧Below V.heap.size V w'):=fun V p h=>h.len
 clear h1 h2 na nb
 generalize eqS r la lb=R at *
 generalize partL r la lb false=PL at *
 generalize la.length=NA at *
 generalize lb.length=NB at *
 by_cases hne:NA=NB
 ·subst hne
  have HE2:Hid (R=decide (PL.length=0)):=by show _=_;rw [HEq.out,decide_eq_true rfl,Bool.true_and]
  clear HEq
  go_enter Tryz.func45,Tryz.ntmps45
  go_wp2_with fail
  refine Calls.mono HL1.out ?_
  rintro e w1 ⟨rfl,hb1⟩
  have HL21:=show Hid _ from HL2.out w1 hb1
  clear HL1 HL2
  go_wp2_with fail
  refine Calls.mono HL21.out ?_
  rintro e w2 ⟨rfl,hg2⟩
  have hb2:Below w.heap.size w w2:=hb1.trans (hg2.mono hb1.size)
  have HP2:=show Hid _ from HP.out w2 hb2
  clear HL21 HP hg2 hb1
  go_wp2_with fail
  refine Calls.mono HP2.out ?_
  rintro e w3 ⟨hg3,p3,rfl,hd3⟩
  have hb3:Below w.heap.size w w3:=hb2.trans (hg3.mono hb2.size)
  have HL3:=show Hid _ from HLp.out w3 p3 hd3
  clear HP2 HLp hg3 hb2 hd3
  go_wp2_with fail
  refine Calls.mono HL3.out ?_
  rintro e w4 ⟨rfl,hg4⟩
  have hb4:Below w.heap.size w w4:=hb3.trans (hg4.mono hb3.size)
  have HF:Hid (Ending.returned (.bool (((PL.length:Nat):Int)==0))=.returned (.bool R)∧Below w.heap.size w w4):=by
   refine⟨?_,hb4⟩
   rw [HE2.out]
   congr 2
   rw [Bool.eq_iff_iff,beq_iff_eq,decide_eq_true_eq]
   omega
  clear HL3 hg4 hb3 HE2
  go_wp2_with fail
  go_ret
  exact HF.out
 ·have HE2:Hid (R=false):=by show _=_;rw [HEq.out,decide_eq_false hne,Bool.false_and]
  have hnI : ¬(NA:Int)=(NB:Int):=by omega
  clear HEq HLp HP
  go_enter Tryz.func45,Tryz.ntmps45
  go_wp2_with fail
  refine Calls.mono HL1.out ?_
  rintro e w1 ⟨rfl,hb1⟩
  have HL21:=show Hid _ from HL2.out w1 hb1
  clear HL1 HL2
  go_wp2_with fail
  refine Calls.mono HL21.out ?_
  rintro e w2 ⟨rfl,hg2⟩
  have HF:Hid (Ending.returned (.bool false)=.returned (.bool R)∧Below w.heap.size w w2):=⟨by rw [HE2.out],hb1.trans (hg2.mono hb1.size)⟩
  clear HL21 hg2 hb1 HE2
  go_wp2_with fail
  go_ret
  exact HF.out
theorem sheightC_16 {w:World} {H b s:Nat} (hb:w.cell? ⟨s,0,none⟩=some (.pointer (some ⟨b,0,none⟩))) (hc:Calls Tryz.prog 120 #[.pointer (some ⟨b,0,none⟩)] w fun e w'=>e=.returned (.int .i64 (H:Nat))∧Below w.heap.size w w'):Calls Tryz.prog 68 #[.pointer (some ⟨s,0,none⟩)] w fun e w'=>e=.returned (.int .i64 (H:Nat))∧Below w.heap.size w w':=by
 have HL:Hid _:=hc
 clear hc
 go_enter Tryz.func68,Tryz.ntmps68
 go_wp2_with fail
 refine (sown_16 _ _).mono ?_
 rintro e w1 ⟨rfl,hw⟩
 obtain rfl:w=w1:=hw.symm
 go_wp2_with fail
 refine Calls.mono HL.out ?_
 rintro e w2 ⟨rfl,hg⟩
 go_wp2_with fail
 go_ret
 exact⟨rfl,hg⟩
theorem sheightF_16 {w:World} {q:Nat} {l:List PT} {s:Nat} (h:SC w q l s):∃H:Nat,(∀j,l.length<2^j→H≤2*j)∧∀V,Below w.heap.size w V→Calls Tryz.prog 68 #[.pointer (some ⟨s,0,none⟩)] V fun e w'=>e=.returned (.int .i64 (H:Nat))∧Below V.heap.size V w':=by
 obtain⟨b,t,hb,hm,hi,_⟩:=h
 exact⟨t.high,fun j hj=>flat_high hm.well hm.black (by rw [RT.size_items,hi];exact hj),fun V hV=>sheightC_16 (zaa hV hb) (mheight_14 (hm.keeps hV))⟩
theorem same_16 {w:World} {q:Nat} {l:List PT} {s c:Nat} (h:SC w q l s) (hd:DS w q l c):Calls Tryz.prog 12 #[.pointer (some ⟨s,0,none⟩),.pointer (some ⟨c,0,none⟩)] w fun e w'=>e=.returned (.bool true)∧Below w.heap.size w w':=by
 obtain⟨m,qs,a9,c9,k0,k1,_,hqt,_,hdm⟩:=hd.row
 have hz:l.length≤65536:=hdm.size
 obtain⟨N,hN⟩:∃N,N=l.length:=⟨_,rfl⟩
 have HIt:Hid (Calls Tryz.prog 64 #[.pointer (some ⟨c,0,none⟩)] w (ItPost w.heap.size (l.map (·.1)) w)):=ritems_16 hd
 have HO:Hid (∀V,Below w.heap.size w V→Calls Tryz.prog 65 #[.pointer (some ⟨s,0,none⟩)] V fun e w'=>e=.returned (.int .i64 (q:Int))∧w'=V):=fun V hV=>sorder_16 (h.keeps hV)
 have HL:Hid (∀V,Below w.heap.size w V→Calls Tryz.prog 66 #[.pointer (some ⟨s,0,none⟩)] V fun e w'=>e=.returned (.int .i64 (N:Int))∧Below V.heap.size V w'):=fun V hV=>by
  have:=slen_16 (h.keeps hV)
  rwa [←hN] at this
 have HI:Hid (∀V,Below w.heap.size w V→Calls Tryz.prog 46 #[.pointer (some ⟨s,0,none⟩)] V (ItPost V.heap.size (l.map (·.1)) V)):=fun V hV=>sitems_16 (h.keeps hV)
 have HG:Hid (∀V,Below w.heap.size w V→Calls Tryz.prog 67 #[.pointer (some ⟨s,0,none⟩),.int .i64 ((N:Int)+1)] V (ItPost V.heap.size (l.map (·.1)) V)):=fun V hV=>by
  have:=sgoneM_16 (h.keeps hV) (N+1) (by omega) (by omega)
  rw [List.take_of_length_le (by rw [List.length_map];omega)] at this
  rwa [show ((N+1:Nat):Int)=(N:Int)+1 by omega] at this
 obtain⟨H,hH,hHc⟩:=sheightF_16 h
 have HH:Hid (∀V,Below w.heap.size w V→Calls Tryz.prog 68 #[.pointer (some ⟨s,0,none⟩)] V fun e w'=>e=.returned (.int .i64 (H:Nat))∧Below V.heap.size V w'):=hHc
 have HHj:Hid (∀j,N<2^j→H≤2*j):=by rw [hN];exact hH
 have HM:Hid (∀V,Calls Tryz.prog 69 #[.int .i64 (N:Nat)] V (MostPost N V)):=fun V=>most_any N V (by omega)
 have HS:Hid (∀V ps u ps2 u2,ps.map (·.1)=l.map (·.1)→ps2.map (·.1)=l.map (·.1)→SlP 0 16 V ps u→SlP 0 16 V ps2 u2→Calls Tryz.prog 47 #[u,u2] V fun e w'=>e=.returned (.bool true)∧Below V.heap.size V w'):=fun V ps u ps2 u2 h1 h2 h3 h4=>by
  have k3:=h3.lies
  have k4:=h4.lies
  rw [h1] at k3
  rw [h2] at k4
  exact values_same 16 (l.map (·.1)) u u2 V k3 k4 (by rw [List.length_map];exact hz)
 have hwr:IntKind.i64.wrap ((N:Int)+1)=(N:Int)+1:=by rw [IntKind.wrap_i64];omega
 have HN:Hid (N=(l.map (·.1)).length):=by rw [List.length_map];exact hN
 clear h hd hqt hdm hz hN hH hHc
 generalize l.map (·.1)=ks at *
 go_enter Tryz.func12,Tryz.ntmps12
 go_wp2_with fail
 refine Calls.mono HIt.out ?_
 rintro e w1 ⟨hbc,ps0,v0,rfl,hm0,hs0⟩
 have hp0:ps0.length=N:=by have:=congrArg List.length hm0;rw [List.length_map] at this;rw [this,HN.out]
 obtain⟨a0,c0,rfl,_⟩:=hs0.slice
 rw [hp0] at hs0 ⊢
 have HSs:Hid (∀V ps u,Below w1.heap.size w1 V→ps.map (·.1)=ks→SlP 0 16 V ps u→Calls Tryz.prog 47 #[u,.slice a0 N c0] V fun e w'=>e=.returned (.bool true)∧Below V.heap.size V w'):=fun V ps u hV h1 h2=>HS.out V ps u ps0 _ h1 hm0 h2 ((hs0.mono (Nat.zero_le _)).keeps hV)
 have k0:=zaa hbc k0
 have k1:=zaa hbc k1
 have hbx:Below w1.heap.size w1 w1:=Below.refl _ _
 have HB1:Hid (Below w.heap.size w w1):=hbc
 clear hm0 hs0 hp0 HIt HS hbc
 go_wp2_with fail
 go_region_held3 (fun w'=>w'.cell? ⟨c,0,none⟩=some (.pointer (some ⟨m,0,none⟩))∧w'.cell? ⟨m,0,none⟩=some (.int .i64 (q:Int))) (go_keep)
  (first
   | (go_at_call 65;(with_reducible refine Calls.mono (HO.out _ (HB1.out.trans ((hbx.trans ((Below.refl _ _).drew.mono hbx.size)).mono HB1.out.size))) ?_);rintro e w3 ⟨rfl,hw⟩;subst hw)
   | (go_at_call 66;(with_reducible refine Calls.mono (HL.out _ (HB1.out.trans ((hbx.trans ((Below.refl _ _).drew.mono hbx.size)).mono HB1.out.size))) ?_);rintro e w4 ⟨rfl,hg⟩;replace hbx:=hbx.trans ((Below.drew (Below.refl _ _)).trans (hg.mono hbx.size));have k0:=zaa hg k0;have k1:=zaa hg k1;clear hg)
   | (go_at_call 46;(with_reducible refine Calls.mono (HI.out _ (HB1.out.trans (hbx.mono HB1.out.size))) ?_);rintro e w5 ⟨hg,ps5,u5,rfl,hq5,hs5⟩;obtain⟨a5,c5,rfl,_⟩:=hs5.slice;replace hbx:=hbx.trans (hg.mono hbx.size);have HS5:Hid _:=HSs.out _ ps5 _ hbx hq5 (hs5.mono (Nat.zero_le _));clear hs5 hq5;have k0:=zaa hg k0;have k1:=zaa hg k1;clear hg)
   | (go_at_call 47;refine Calls.mono HS7.out ?_;rintro e w8 ⟨rfl,hg⟩;replace hbx:=hbx.trans (hg.mono hbx.size);have k0:=zaa hg k0;have k1:=zaa hg k1;clear hg)
   | (go_at_call 47;refine Calls.mono HS5.out ?_;rintro e w6 ⟨rfl,hg⟩;replace hbx:=hbx.trans (hg.mono hbx.size);have k0:=zaa hg k0;have k1:=zaa hg k1;clear hg)
   | (go_at_call 67;(with_reducible refine Calls.mono (HG.out _ (HB1.out.trans (hbx.mono HB1.out.size))) ?_);rintro e w7 ⟨hg,ps7,u7,rfl,hq7,hs7⟩;obtain⟨a7,c7,rfl,_⟩:=hs7.slice;replace hbx:=hbx.trans (hg.mono hbx.size);have HS7:Hid _:=HSs.out _ ps7 _ hbx hq7 (hs7.mono (Nat.zero_le _));clear hs7 hq7;have k0:=zaa hg k0;have k1:=zaa hg k1;clear hg)
   | (go_at_call 68;(with_reducible refine Calls.mono (HH.out _ (HB1.out.trans (hbx.mono HB1.out.size))) ?_);rintro e w9 ⟨rfl,hg⟩;replace hbx:=hbx.trans (hg.mono hbx.size);have k0:=zaa hg k0;have k1:=zaa hg k1;clear hg)
   | (go_at_call 69;refine Calls.mono (HM.out _) ?_;rintro e wm ⟨⟨j,rfl,_,hj⟩,hw⟩;subst hw;have hle0:(H:Int)≤((2*j:Nat):Int):=(by have:=HHj.out j hj;omega);clear hj;obtain⟨J,hJ⟩:∃J,J=2*j:=⟨_,rfl⟩;rw [←hJ] at hle0 ⊢;clear hJ))
 all_goals (first|(go_ret;exact⟨rfl,HB1.out.trans (hbx.mono HB1.out.size)⟩)|(go_wp2_with fail;go_ret;exact⟨rfl,HB1.out.trans (hbx.mono HB1.out.size)⟩))
abbrev nw16 (n:Int):VT:=⟨2,n,⟨#[]⟩,[]⟩
theorem three_16 (x y z:Int) (b cap:Nat) (w:World) (h0:w.cell? ⟨b,0,none⟩=some (.int .i64 x)) (h1:w.cell? ⟨b,1,none⟩=some (.int .i64 y)) (h2:w.cell? ⟨b,2,none⟩=some (.int .i64 z)) :
 Calls Tryz.prog 62 #[.slice (some ⟨b,0,none⟩) 3 cap] w fun e w'=>∃a c,e=.returned (.slice a 3 c)∧Lies 17 w' [nw16 x,nw16 y,nw16 z] (.slice a 3 c)∧Below w.heap.size w w':=by
 refine (ints_any b [x,y,z] cap w (by simp) (fun i hi=>?_)).mono ?_
 ·match i,hi with
  | 0,_=>exact h0
  | 1,_=>exact h1
  | 2,_=>exact h2
 rintro e w' ⟨v,rfl,hown,hb⟩
 have hown2:w'.ownsRow w.heap.size 33 4 v 3 ([(nw16 x,Value.slice none 0 0),(nw16 y,Value.slice none 0 0),(nw16 z,Value.slice none 0 0)].flatMap encP):=hown
 have hl:=own_liesX (X:=fun _=>True) (d:=16) hown2 rfl (fun _ _=>trivial) (fun p hp=>by
  simp only [List.mem_cons,List.not_mem_nil,or_false] at hp
  rcases hp with rfl|rfl|rfl <;> exact⟨⟨none,0,rfl,by simp,fun h=>absurd rfl h⟩,(show (0:Nat)≤9223372036854775807 by decide)⟩) (by simp)
 obtain⟨a,c,rfl,_⟩:=LiesX.slice hl
 exact⟨a,c,rfl,hl.lies,hb⟩
def three16:List PT:=[nilP (nw16 0),nilP (nw16 1),nilP (nw16 (-2))]
theorem three_set:setL (5:Int).toNat [nw16 (-2),nw16 1,nw16 0]=three16:=by kernel_rfl
theorem three_look:lookE 16 5 [nw16 (-2),nw16 1,nw16 0]=0:=by kernel_rfl
theorem three_rank:rankN 16 5 (nw16 (-1)) three16=1:=by kernel_rfl
theorem three_right:errOf (zac 16 (nw16 (-1)))=0:=by kernel_rfl
theorem speaks16_any (w:World):Calls Tryz.prog 11 #[] w fun e w'=>e=.returned (.bool true)∧Below w.heap.size w w':=by
 have HI:Hid (∀n W,Calls Tryz.prog 63 #[.int .i64 n] W fun e w'=>e=.returned (.agg #[.int .i64 2,.int .i64 n,.string ⟨#[]⟩,.slice none 0 0])∧Below W.heap.size W w'):=fun n W=>Calls.mono (int_any n W) fun _ _ h=>⟨h.1,h.2.below⟩
 obtain⟨W1,hW1⟩:∃W1,W1=w.alloc (.cells #[.int .i64 (-2),.int .i64 1,.int .i64 0] 2):=⟨_,rfl⟩
 have HW1:Hid (W1=w.alloc (.cells #[.int .i64 (-2),.int .i64 1,.int .i64 0] 2)):=hW1
 have HB1:Hid (Below w.heap.size w W1):=by rw [hW1];exact ((Grew.refl w).alloc _).below
 have HC:Hid (Calls Tryz.prog 62 #[.slice (some ⟨w.heap.size,0,none⟩) 3 3] W1 fun e w'=>∃a c,e=.returned (.slice a 3 c)∧Lies 17 w' [nw16 (-2),nw16 1,nw16 0] (.slice a 3 c)∧Below W1.heap.size W1 w'):=three_16 _ _ _ _ _ _ (by rw [hW1];simp) (by rw [hW1];simp) (by rw [hW1];simp)
 clear hW1
 go_enter Tryz.func11,Tryz.ntmps11
 go_wp2_with fail
 rw [←HW1.out]
 clear HW1
 refine Calls.mono HC.out ?_
 rintro e w2 ⟨a2,c2,rfl,hl2,hg2⟩
 have hb2:Below w.heap.size w w2:=HB1.out.trans (hg2.mono HB1.out.size)
 have HOf:Hid (Calls Tryz.prog 9 #[.int .i64 5,.slice a2 3 c2] w2 (SpPost 5 three16 0 w2)):=by
  have h9:=sof_list16 16 5 _ _ w2 hl2
  rw [three_set,three_look] at h9
  exact h9
 clear HC HB1 hl2 hg2
 go_wp2_with fail
 refine Calls.mono HOf.out ?_
 rintro e w3 ⟨hg3,p3,rfl,⟨h0,_⟩|⟨_,s,rfl,hs⟩⟩
 ·exact absurd rfl h0
 have hb3:Below w.heap.size w w3:=hb2.trans (hg3.mono hb2.size)
 have HR:Hid (∀V,Below w3.heap.size w3 V→Calls Tryz.prog 30 #[.pointer (some ⟨s,0,none⟩),.agg #[.int .i64 2,.int .i64 (-1),.string ⟨#[]⟩,.slice none 0 0]] V (RkPost 1 0 V)):=fun V hV=>by
  have h9:=srank_16 (hs.keeps hV) 16 (nw16 (-1)) (.slice none 0 0) (zero_lies 16 V) (show (0:Nat)≤9223372036854775807 by decide)
  rw [three_rank,three_right] at h9
  exact h9
 have HF:Hid (∀V,Below w3.heap.size w3 V→Calls Tryz.prog 15 #[.pointer (some ⟨s,0,none⟩)] V fun e w'=>∃a c,e=.returned (.tuple #[.agg #[.int .i64 2,.int .i64 0,.string ⟨#[]⟩,.slice a 0 c],.int .i64 0])∧Below V.heap.size V w'):=fun V hV=>by
  refine (sfirst_16 (hs.keeps hV)).mono ?_
  rintro e w' ⟨hb,⟨ho,_⟩|⟨x,a,c,ho,rfl,_⟩⟩
  ·exact absurd ho (by unfold itemAt three16;simp)
  ·have hx:x=nilP (nw16 0):=by unfold itemAt three16 at ho;simp at ho;exact ho.symm
   subst hx
   exact⟨a,c,rfl,hb⟩
 have HIt:Hid (∀V,Below w3.heap.size w3 V→Calls Tryz.prog 46 #[.pointer (some ⟨s,0,none⟩)] V fun e w'=>∃a c,e=.returned (.slice a 3 c)∧Lies 17 w' [nw16 0,nw16 1,nw16 (-2)] (.slice a 3 c)∧Below V.heap.size V w'):=fun V hV=>by
  refine (sitems_16 (hs.keeps hV)).mono ?_
  rintro e w' ⟨hb,ps,v,rfl,hm,hS⟩
  have hl:=hS.lies
  rw [hm] at hl
  obtain⟨a,c,rfl,_⟩:=hS.slice
  have hp:ps.length=3:=by have:=congrArg List.length hm;rw [List.length_map] at this;rw [this];rfl
  rw [hp] at hl ⊢
  exact⟨a,c,rfl,hl,hb⟩
 clear hs hg3 HOf hb2
 go_wp2_with fail
 refine Calls.mono (HI.out _ _) ?_
 rintro e w4 ⟨rfl,hg4⟩
 have hb4:Below w.heap.size w w4:=hb3.trans (hg4.mono hb3.size)
 go_wp2_with fail
 refine Calls.mono (HR.out _ hg4) ?_
 rintro e w5 ⟨rfl,hg5'⟩
 have hg5:Below w3.heap.size w3 w5:=hg4.trans (hg5'.mono hg4.size)
 have hb5:Below w.heap.size w w5:=hb4.trans (hg5'.mono hb4.size)
 clear hg5' hg4 hb4 HR
 go_wp2_with fail
 refine Calls.mono (HF.out _ hg5) ?_
 rintro e w6 ⟨a6,c6,rfl,hg6'⟩
 have hg6:Below w3.heap.size w3 w6:=hg5.trans (hg6'.mono hg5.size)
 have hb6:Below w.heap.size w w6:=hb5.trans (hg6'.mono hb5.size)
 obtain⟨W7,hW7⟩:∃W7,W7=w6.alloc (.cells #[.int .i64 2,.int .i64 0,.string ⟨#[]⟩,.slice a6 0 c6] 33):=⟨_,rfl⟩
 have HW7:Hid (W7=w6.alloc (.cells #[.int .i64 2,.int .i64 0,.string ⟨#[]⟩,.slice a6 0 c6] 33)):=hW7
 have hal:Below w6.heap.size w6 W7:=by rw [hW7];exact ((Grew.refl w6).alloc _).below
 have k7:W7.cell? ⟨w6.heap.size,1,none⟩=some (.int .i64 0):=by rw [hW7];exact (bx_alloc _ (nw16 0) _).c1
 have hg7:Below w3.heap.size w3 W7:=hg6.trans (hal.mono hg6.size)
 have hb7:Below w.heap.size w W7:=hb6.trans (hal.mono hb6.size)
 clear hg6' hg6 hb6 HF hW7 hal hg5 hb5
 go_upto_region 6 with fail
 rw [←HW7.out]
 clear HW7
 go_wp2_with fail
 refine Calls.mono (HIt.out _ hg7) ?_
 rintro e w8 ⟨a8,c8,rfl,hl8,hg8'⟩
 have hb8:Below w.heap.size w w8:=hb7.trans (hg8'.mono hb7.size)
 have HL8:Hid (Lies 17 w8 [nw16 0,nw16 1,nw16 (-2)] (.slice a8 3 c8)):=hl8
 clear hg8' hg7 hb7 HIt hl8 k7
 go_wp2_with fail
 obtain⟨W9,hW9⟩:∃W9,W9=w8.alloc (.cells #[.int .i64 0,.int .i64 1,.int .i64 (-2)] 2):=⟨_,rfl⟩
 have HB9:Hid (Below w8.heap.size w8 W9):=by rw [hW9];exact ((Grew.refl w8).alloc _).below
 have HC9:Hid (Calls Tryz.prog 62 #[.slice (some ⟨w8.heap.size,0,none⟩) 3 3] W9 fun e w'=>∃a c,e=.returned (.slice a 3 c)∧Lies 17 w' [nw16 0,nw16 1,nw16 (-2)] (.slice a 3 c)∧Below W9.heap.size W9 w'):=three_16 _ _ _ _ _ _ (by rw [hW9];simp) (by rw [hW9];simp) (by rw [hW9];simp)
 rw [←hW9]
 clear hW9
 refine Calls.mono HC9.out ?_
 rintro e w10 ⟨a10,c10,rfl,hl10,hg10⟩
 have hg:Below w8.heap.size w8 w10:=HB9.out.trans (hg10.mono HB9.out.size)
 have HV:Hid (Calls Tryz.prog 47 #[.slice a8 3 c8,.slice a10 3 c10] w10 fun e w'=>e=.returned (.bool true)∧Below w10.heap.size w10 w'):=values_same 16 _ _ _ _ (Lies.keeps hg _ _ _ HL8.out) hl10 (by simp)
 have hb10:Below w.heap.size w w10:=hb8.trans (hg.mono hb8.size)
 clear hl10 hg10 hg HC9 HB9 HL8 hb8
 go_wp2_with fail
 refine Calls.mono HV.out ?_
 rintro e w11 ⟨rfl,hg11⟩
 have hb11:Below w.heap.size w w11:=hb10.trans (hg11.mono hb10.size)
 clear HV hg11 hb10
 go_wp2_with fail
 first|(go_ret;exact⟨by simp,hb11⟩)|(go_ret;exact⟨rfl,hb11⟩)
theorem muni_14 {w:World} {q r:Nat} {ta tb:RT PT} {a b:Nat} (ha:MC w q ta a) (hb:MC w r tb b):Calls Tryz.prog 92 #[.pointer (some ⟨a,0,none⟩),.pointer (some ⟨b,0,none⟩)] w (MpPost q (uniL q ta.items tb.items) (uniE (uniL q ta.items tb.items)) w):=by
 have HT:Hid (Calls Tryz.prog 147 #[.pointer (some ⟨b,0,none⟩),.int .i64 (q:Int)] w fun e w'=>Below w.heap.size w w'∧∃s b2 pb,e=.returned (.tuple #[.pointer (some ⟨b2,0,none⟩),.int .i64 0])∧MC w' q s b2∧w'.cell? ⟨b2,1,none⟩=some (.pointer pb)∧NM TT 16 w' s pb∧∀y,y∈s.items↔y∈tb.items):=by
  refine (turn_14 (q:Int) hb).mono fun e w' h=>?_
  have hq6:=ha.q6
  obtain⟨hb,⟨h0,_⟩|⟨_,s,b2,rfl,hm,hi⟩⟩:=h
  ·exact absurd (show zal (q:Int)=0 by unfold zal;rw [if_neg (by omega)]) h0
  ·rw [show ((q:Nat):Int).toNat=q by omega] at hm
   obtain⟨pb,h1,h2⟩:=hm.top
   exact⟨hb,s,b2,pb,rfl,hm,h1,h2,hi⟩
 obtain⟨pa,hpa,na⟩:=ha.top
 have hoa:=ha.ord
 have za:=ha.size
 have HA:Hid (MC w q ta a):=ha
 have HNa:Hid (NM TT 16 w ta pa):=na
 have HEq:Hid (∀s:RT PT,RT.Rises (byK q) s.items→(∀y,y∈s.items↔y∈tb.items)→(RT.union (byK q) s ta).items=uniL q ta.items tb.items):=fun s h1 h2=>union_uniL h1 ha.rises h2 hb.rises (fun x hx=>(ha.right x hx).1) (fun x hx=>(hb.right x hx).1)
 have HP:Hid (∀E l e w',MpPost q l E w e w'→MpPost q l E w e w'):=fun _ _ _ _ h=>h
 generalize uniL q ta.items tb.items=UL at *
 have HUE:Hid (uniE UL=if 65536<UL.length then 2 else 0):=rfl
 generalize uniE UL=E at *
 clear ha hb na
 go_enter Tryz.func92,Tryz.ntmps92
 go_wp2_with fail
 refine (own_14 _ _).mono ?_
 rintro e w1 ⟨rfl,hw⟩
 obtain rfl:w=w1:=hw.symm
 go_wp2_with fail
 refine Calls.mono HT.out ?_
 rintro e w1 ⟨hb1,s,b2,pb,rfl,hms,hpb,nb,hsi⟩
 have hus:=union_sizes (byK q) s ta
 have zs:=hms.size
 have hae:(RT.union (byK q) s ta).items=UL:=HEq.out s hms.rises hsi
 have HU:Hid (∀V bb,Below w1.heap.size w1 V→V.cell? ⟨bb,0,none⟩=some (.int .i64 (q:Int))→Calls Tryz.prog 148 #[.pointer pa,.pointer pb,.func (.func 215) #[] #[.pointer (some ⟨bb,0,none⟩)]] V (zab TT 16 (RT.union (byK q) s ta) V)):=fun V bb hV hbb=>union_14 TT 16 215 eg_byK1 _ (byK q) _ s ta pb pa V (byK_cmpC q bb hms.q6 V hbb) (nb.keeps hV) (HNa.out.keeps (hb1.trans (hV.mono hb1.size))) hms.well HA.out.well (fun x hx=>(hms.right x hx).1.1) (fun x hx=>(HA.out.right x hx).1.1) (by omega)
 have HO:Hid (∀V p,Below w.heap.size w V→NM TT 16 V (RT.union (byK q) s ta) p→Calls Tryz.prog 133 #[.pointer (some ⟨a,0,none⟩),.pointer p] V (RawPost q (RT.union (byK q) s ta).black V)):=fun V p hV hp=>of_raw a q _ p V (zaa hV HA.out.ord) hp (by omega)
 have hblk:(RT.union (byK q) s ta).black.items=(RT.union (byK q) s ta).items:=RT.black_items _
 have hbsz:(RT.union (byK q) s ta).black.size=(RT.union (byK q) s ta).size:=by rw [RT.size_items,hblk,←RT.size_items]
 have hwell:RT.Well (RT.union (byK q) s ta):=RT.union_well (byK q) s ta hms.well HA.out.well
 have hwellb:RT.Well (RT.union (byK q) s ta).black:=⟨hwell.1.black,by obtain⟨_,n,hB⟩:=hwell;obtain⟨m,hm⟩:=hB.black;exact⟨m,hm⟩⟩
 have HMC:Hid (∀V b',RawM V q (RT.union (byK q) s ta).black b'→(RT.union (byK q) s ta).size≤65536→MC V q (RT.union (byK q) s ta).black b'):=fun V b' h hz=>by
  refine⟨h.1,h.2,hwellb,RT.black_red14 _,hms.q6,?_,?_,by rw [hbsz];exact hz⟩
  ·rw [hblk]
   intro x hx
   rcases (RT.mem_union (zbd q) s ta hms.rises HA.out.rises x).1 hx with h1|h1
   ·exact hms.right x h1
   ·exact HA.out.right x h1.1
  ·rw [hblk];exact RT.union_rises (zbd q) s ta hms.rises HA.out.rises
 have HLn:Hid (∀V b',RawM V q (RT.union (byK q) s ta).black b'→Calls Tryz.prog 53 #[.pointer (some ⟨b',0,none⟩)] V fun e w'=>e=.returned (.int .i64 ((RT.union (byK q) s ta).size:Nat))∧Below V.heap.size V w'):=fun V b' h=>by have h9:=len_raw h;rwa [hbsz] at h9
 have HBl:Hid ((RT.union (byK q) s ta).black.items=UL):=hblk.trans hae
 have HZs:Hid ((RT.union (byK q) s ta).size=UL.length):=by show _=_;rw [RT.size_items,hae]
 have hzz:(RT.union (byK q) s ta).size≤131072:=by omega
 generalize RT.union (byK q) s ta=T at *
 obtain⟨Z,hZ⟩:∃Z,Z=T.size:=⟨_,rfl⟩
 have HZ:Hid (Z=T.size):=hZ
 rw [←hZ] at HLn HMC hzz HZs
 have hpa:=zaa hb1 hpa;have hoa:=zaa hb1 hoa
 clear nb hblk hbsz hwell hwellb hus za zs hZ hms hsi hae HT HA HNa HEq HP
 go_wp2_with fail
 go_region_held3 (fun w'=>w'.cell? ⟨a,0,none⟩=some (.int .i64 (q:Int))∧w'.cell? ⟨a,1,none⟩=some (.pointer pa)∧w'.cell? ⟨b2,1,none⟩=some (.pointer pb)) (go_keep)
  (first
   | (go_at_call 149;refine (byKeys_14 _ _).mono ?_;rintro e w2 ⟨rfl,hw2⟩;have hg2:Below w1.heap.size w1 w2:=(by rw [hw2];exact (Below.refl w1.heap.size w1).drew.trans ((Grew.refl w1.drew).alloc _).below);have hb2:Below w.heap.size w w2:=hb1.trans (hg2.mono hb1.size);have hbb:w2.cell? ⟨w1.heap.size,0,none⟩=some (.int .i64 (q:Int)):=(by rw [hw2];exact (Go.Boxed.new w1.drew 3 (.int .i64 (q:Int))).cell);have hpa:=zaa hg2 hpa;have hpb:=zaa hg2 hpb;have hoa:=zaa hg2 hoa;clear hw2)
   | (go_at_call 148;(with_reducible refine Calls.mono (HU.out _ _ hg2 hbb) ?_);rintro e w3 ⟨hg3,p3,rfl,ht3⟩;have hb3:Below w.heap.size w w3:=hb2.trans (hg3.mono hb2.size);have HT3:Hid (NM TT 16 w3 T p3):=ht3;have hpa:=zaa hg3 hpa;have hpb:=zaa hg3 hpb;have hoa:=zaa hg3 hoa;clear ht3 hg3)
   | (go_at_call 133;(with_reducible refine Calls.mono (HO.out _ _ hb3 HT3.out) ?_);rintro e w4 ⟨hg4,b4,rfl,hr4⟩;have hb4:Below w.heap.size w w4:=hb3.trans (hg4.mono hb3.size);have HR4:Hid (RawM w4 q T.black b4):=hr4;have hpa:=zaa hg4 hpa;have hpb:=zaa hg4 hpb;have hoa:=zaa hg4 hoa;clear hr4 hg4))
 clear hpa hpb hoa
 go_wp2_with fail
 refine Calls.mono (HLn.out _ _ HR4.out) ?_
 rintro e w5 ⟨rfl,hg5⟩
 have hb5:Below w.heap.size w w5:=hb4.trans (hg5.mono hb4.size)
 by_cases hbig:65536<Z
 ·have e9:E=2:=by rw [HUE.out,if_pos (by have:=HZs.out;omega)]
  subst e9
  have HE:Hid (MpPost q UL 2 w (.returned (.tuple #[.pointer none,.int .i64 2])) w5):=⟨hb5,none,rfl,.inl ⟨by decide,rfl⟩⟩
  have hbi:65536<(Z:Int):=by omega
  clear hbig
  go_wp2_with fail
  go_ret2
  exact HE.out
 ·have e9:E=0:=by rw [HUE.out,if_neg (by have:=HZs.out;omega)]
  subst e9
  have HE:Hid (MpPost q UL 0 w (.returned (.tuple #[.pointer (some ⟨b4,0,none⟩),.int .i64 0])) w5):=⟨hb5,_,rfl,.inr ⟨rfl,T.black,b4,rfl,(HMC.out w4 b4 HR4.out (by omega)).keeps hg5,HBl.out⟩⟩
  have hbi : ¬65536<(Z:Int):=by omega
  clear hbig
  go_wp2_with fail
  go_ret2
  exact HE.out
def SmPost (q:Nat) (l:List PT) (w:World) (e:Ending) (w':World):Prop:=Below w.heap.size w w'∧∃s,e=.returned (.pointer (some ⟨s,0,none⟩))∧SC w' q l s
theorem nils_lessL {q:Nat} {la lb:List PT} (h:Nils la):Nils (lessL q la lb):=fun x hx=>h x (List.mem_filter.1 hx).1
theorem nils_uni {q:Nat} {la lb:List PT} (ha:Nils la) (hb:Nils lb):Nils (uniL q la lb):=fun x hx=>by
 rcases List.mem_append.1 (kyd_mem _ _ _ _ hx) with h|h
 ·exact ha x h
 ·exact hb x h
theorem sless_16 {w:World} {q r:Nat} {la lb:List PT} {s c:Nat} (h1:SC w q la s) (h2:SC w r lb c):Calls Tryz.prog 42 #[.pointer (some ⟨s,0,none⟩),.pointer (some ⟨c,0,none⟩)] w (SmPost q (lessL q la lb) w):=by
 obtain⟨a,ta,hs0,hm1,rfl,hn1⟩:=h1
 obtain⟨b,tb,hc0,hm2,rfl,hn2⟩:=h2
 have HN:Hid (Nils (lessL q ta.items tb.items)):=nils_lessL hn1
 have HA:Hid (∀V,Below w.heap.size w V→Calls Tryz.prog 95 #[.pointer (some ⟨a,0,none⟩),.pointer (some ⟨b,0,none⟩)] V (MkM14 q (lessL q ta.items tb.items) V)):=fun V hV=>mless_14 (hm1.keeps hV) (hm2.keeps hV)
 clear hm1 hm2 hn1 hn2
 generalize lessL q ta.items tb.items=L at *
 go_enter Tryz.func42,Tryz.ntmps42
 go_wp2_with fail
 go_region_held3 (fun w'=>w'.cell? ⟨s,0,none⟩=some (.pointer (some ⟨a,0,none⟩))∧w'.cell? ⟨c,0,none⟩=some (.pointer (some ⟨b,0,none⟩))) (go_keep)
  (first
   | (go_at_call 74;(with_reducible refine Calls.mono (sown_16 _ _) ?_);rintro e wo ⟨rfl,hwo⟩;subst hwo)
   | (go_at_call 95;(with_reducible refine Calls.mono (HA.out _ (Below.refl _ _).drew) ?_);rintro e w2 ⟨hg2',t2,b2,rfl,hm2,hi2⟩;have hg2:Below w.heap.size w w2:=(Below.refl _ _).drew.trans hg2';have hs0:=zaa hg2 hs0;have hc0:=zaa hg2 hc0;have HM2:Hid (MC w2 q t2 b2∧t2.items=L):=⟨hm2,hi2⟩;clear hg2' hm2 hi2)
   | (go_at_call 94;(with_reducible refine Calls.mono (sof_16 _ _) ?_);rintro e w3 ⟨rfl,hw3⟩;have hg3:Below w2.heap.size w2 w3:=(by rw [hw3];exact ((Grew.refl _).alloc _).below);have hs0:=zaa hg3 hs0;have hc0:=zaa hg3 hc0;have HE:Hid (SmPost q L w (.returned (.pointer (some ⟨w2.heap.size,0,none⟩))) w3):=⟨hg2.trans (hg3.mono hg2.size),_,rfl,(by rw [hw3];exact sc_new HM2.out.1 HM2.out.2 HN.out)⟩;clear hg3 hw3))
 all_goals (first|(go_ret;exact HE.out)|(go_ret2;exact HE.out)|(go_wp2_with fail;go_ret;exact HE.out)|(go_wp2_with fail;go_ret2;exact HE.out))
theorem smeet_16 {w:World} {q r:Nat} {la lb:List PT} {s c:Nat} (h1:SC w q la s) (h2:SC w r lb c):Calls Tryz.prog 40 #[.pointer (some ⟨s,0,none⟩),.pointer (some ⟨c,0,none⟩)] w (SmPost q (lessL q la (lessL q la lb)) w):=by
 have HA:Hid _:=sless_16 h1 h2
 have HB:Hid (∀V m,Below w.heap.size w V→SC V q (lessL q la lb) m→Calls Tryz.prog 42 #[.pointer (some ⟨s,0,none⟩),.pointer (some ⟨m,0,none⟩)] V (SmPost q (lessL q la (lessL q la lb)) V)):=fun V m hV hm=>sless_16 (h1.keeps hV) hm
 clear h1 h2
 generalize lessL q la (lessL q la lb)=L2 at *
 generalize lessL q la lb=L at *
 go_enter Tryz.func40,Tryz.ntmps40
 go_wp2_with fail
 refine Calls.mono HA.out ?_
 rintro e w1 ⟨hg1,m,rfl,hm⟩
 have HM:Hid (SC w1 q L m):=hm
 clear HA hm
 go_wp2_with fail
 refine Calls.mono (HB.out _ _ hg1 HM.out) ?_
 rintro e w2 ⟨hg2,m2,rfl,hm2⟩
 have HE:Hid (SmPost q L2 w (.returned (.pointer (some ⟨m2,0,none⟩))) w2):=⟨hg1.trans (hg2.mono hg1.size),m2,rfl,hm2⟩
 clear hm2 hg2 HB HM
 go_wp2_with fail
 go_ret
 exact HE.out
theorem suni_16 {w:World} {q r:Nat} {la lb:List PT} {s c:Nat} (h1:SC w q la s) (h2:SC w r lb c):Calls Tryz.prog 38 #[.pointer (some ⟨s,0,none⟩),.pointer (some ⟨c,0,none⟩)] w (SpPost q (uniL q la lb) (uniE (uniL q la lb)) w):=by
 obtain⟨a,ta,hs0,hm1,rfl,hn1⟩:=h1
 obtain⟨b,tb,hc0,hm2,rfl,hn2⟩:=h2
 have HN:Hid (Nils (uniL q ta.items tb.items)):=nils_uni hn1 hn2
 have HA:Hid (∀V,Below w.heap.size w V→Calls Tryz.prog 92 #[.pointer (some ⟨a,0,none⟩),.pointer (some ⟨b,0,none⟩)] V (MpPost q (uniL q ta.items tb.items) (uniE (uniL q ta.items tb.items)) V)):=fun V hV=>muni_14 (hm1.keeps hV) (hm2.keeps hV)
 clear hm1 hm2 hn1 hn2
 generalize uniE (uniL q ta.items tb.items)=E at *
 generalize uniL q ta.items tb.items=L at *
 go_enter Tryz.func38,Tryz.ntmps38
 go_wp2_with fail
 go_region_held3 (fun w'=>w'.cell? ⟨s,0,none⟩=some (.pointer (some ⟨a,0,none⟩))∧w'.cell? ⟨c,0,none⟩=some (.pointer (some ⟨b,0,none⟩))) (go_keep)
  (first
   | (go_at_call 74;(with_reducible refine Calls.mono (sown_16 _ _) ?_);rintro e wo ⟨rfl,hwo⟩;subst hwo)
   | (go_at_call 92;(with_reducible refine Calls.mono (HA.out _ (Below.refl _ _).drew) ?_);rintro e w2 ⟨hg2',p2,rfl,hp2⟩;have hg2:Below w.heap.size w w2:=(Below.refl _ _).drew.trans hg2';have hs0:=zaa hg2 hs0;have hc0:=zaa hg2 hc0;have HP2:Hid _:=hp2;clear hg2' hp2)
   | (go_at_call 58;(with_reducible refine Calls.mono (smade_16 HP2.out HN.out) ?_);rintro e w3 ⟨hg3,p3,rfl,hp3⟩;have hs0:=zaa hg3 hs0;have hc0:=zaa hg3 hc0;have HE:Hid (SpPost q L E w (.returned (.tuple #[.pointer p3,.int .i64 E])) w3):=⟨hg2.trans (hg3.mono hg2.size),p3,rfl,hp3⟩;clear hg3 hp3))
 all_goals (first|(go_ret;exact HE.out)|(go_ret2;exact HE.out)|(go_wp2_with fail;go_ret;exact HE.out)|(go_wp2_with fail;go_ret2;exact HE.out))
theorem sequal_16 {w:World} {q r:Nat} {la lb:List PT} {s c:Nat} (h1:SC w q la s) (h2:SC w r lb c) (R:Bool) (hR:R=true↔∀y,y∈la↔y∈lb):Calls Tryz.prog 44 #[.pointer (some ⟨s,0,none⟩),.pointer (some ⟨c,0,none⟩)] w fun e w'=>e=.returned (.bool R)∧Below w.heap.size w w':=by
 obtain⟨a,ta,hs0,hm1,rfl,hn1⟩:=h1
 obtain⟨b,tb,hc0,hm2,rfl,hn2⟩:=h2
 have HA:Hid (∀V,Below w.heap.size w V→Calls Tryz.prog 96 #[.pointer (some ⟨a,0,none⟩),.pointer (some ⟨b,0,none⟩)] V fun e w'=>e=.returned (.bool R)∧Below V.heap.size V w'):=fun V hV=>equal_14 (hm1.keeps hV) (hm2.keeps hV) R hR
 clear hR
 clear hm1 hm2 hn1 hn2
 go_enter Tryz.func44,Tryz.ntmps44
 go_wp2_with fail
 go_region_held3 (fun w'=>w'.cell? ⟨s,0,none⟩=some (.pointer (some ⟨a,0,none⟩))∧w'.cell? ⟨c,0,none⟩=some (.pointer (some ⟨b,0,none⟩))) (go_keep)
  (first
   | (go_at_call 74;(with_reducible refine Calls.mono (sown_16 _ _) ?_);rintro e wo ⟨rfl,hwo⟩;subst hwo)
   | (go_at_call 96;(with_reducible refine Calls.mono (HA.out _ (Below.refl _ _).drew) ?_);rintro e w2 ⟨rfl,hg2'⟩;have hg2:Below w.heap.size w w2:=(Below.refl _ _).drew.trans hg2';have hs0:=zaa hg2 hs0;have hc0:=zaa hg2 hc0;clear hg2'))
 all_goals (first|(go_ret;exact⟨rfl,hg2⟩)|(go_wp2_with fail;go_ret;exact⟨rfl,hg2⟩))
end Go.Proofs.YtlnecfjnffdciabGreat
