import Derived.Test.YtlnecfjnffdciabGreatUniP
import Derived.Test.YtlnecfjnffdciabGreatSBtw16
namespace Go.Proofs.YtlnecfjnffdciabGreat
open Go.RowKit Go.Shelf
def DS (w:World) (q:Nat) (l:List PT) (c:Nat):Prop:=∃m,w.cell? ⟨c,0,none⟩=some (.pointer (some ⟨m,0,none⟩))∧DM w q l m∧Nils l
theorem DS.keeps {w w':World} {q:Nat} {l:List PT} {c:Nat} (h:DS w q l c) (hb:Below w.heap.size w w'):DS w' q l c:=by
 obtain⟨m,h1,h2,h3⟩:=h
 exact⟨m,zaa hb h1,h2.keeps hb,h3⟩
def nilP (v:VT):PT:=(v,nilT)
def setL (q:Nat) (vs:List VT):List PT:=ofL q (vs.map nilP)
theorem setL_nils (q:Nat) (vs:List VT):Nils (setL q vs):=fun x hx=>by
 obtain⟨v,_,rfl⟩:=List.mem_map.1 (kyd_mem _ _ _ _ hx)
 rfl
theorem setL_len (q:Nat) (vs:List VT):(setL q vs).length≤vs.length:=by
 have h9:=kyd_len (byK q) ((vs.map nilP).length+1) (vs.map nilP)
 rw [List.length_map] at h9
 unfold setL ofL
 rw [List.length_map]
 exact h9
theorem keyP_map (ps:List (VT×Value)):(ps.map keyP).map trT=(ps.map (·.1)).map nilP:=by rw [List.map_map,List.map_map];rfl
def MkPost (q:Nat) (l:List PT) (w:World) (e:Ending) (w':World):Prop:=Below w.heap.size w w'∧∃c m a9 c9,e=.returned (.pointer (some ⟨c,0,none⟩))∧w'.cell? ⟨c,0,none⟩=some (.pointer (some ⟨m,0,none⟩))∧w'.cell? ⟨m,1,none⟩=some (.slice a9 l.length c9)∧(l.length≤65536→DS w' q l c)
theorem nil_right:zab 16 nilT=true∧Dp 16 nilT:=⟨by kernel_rfl,Dp.of_lies 16 (default:World) nilT (.slice none 0 0) (zero_lies 16 _)⟩
set_option maxRecDepth 100000 in
set_option maxHeartbeats 8000000 in
theorem rmake_16 (q:Nat) (hq:q<6) (ps:List (VT×Value)) (v:Value) (w:World) (hv:SlP 0 16 w ps v) (hlen:ps.length≤131072) (hg:∀p∈ps,zab 16 p.1=true):Calls Tryz.prog 61 #[.int .i64 (q:Int),v] w (MkPost q (setL q (ps.map (·.1))) w):=by
 obtain⟨i0,hi,hz0,hz1,hz2⟩:=infoQ
 have Hi:Hid _:=hi;have Hz0:Hid _:=hz0;have Hz1:Hid _:=hz1;have Hz2:Hid _:=hz2
 have HS:Hid (SlP 0 16 w ps v):=hv
 have HL:Hid (ps.length≤131072):=hlen
 obtain⟨_,_,hvv,_,_,_,hgs⟩:=hv
 clear hvv
 have hG:∀p∈ps.map keyP,Good 16 p.1.1∧Good 16 p.2.1:=fun p hp=>by
  obtain⟨x,hx,rfl⟩:=List.mem_map.1 hp
  exact⟨⟨hg x hx,Dp.of_lies 16 w x.1 x.2 (hgs x hx).1⟩,nil_right⟩
 have hK:(kyd (cmpO q) ((ps.map keyP).length+1) (ps.map keyP)).map trT=setL q (ps.map (·.1)):=by
  unfold setL
  rw [←keyP_map]
  exact ofK_is q (ps.map keyP)
 have HB:Hid (∀V u,SlQ 0 16 V (ps.map keyP) u→Calls Tryz.prog 118 #[.int .i64 (q:Int),u] V fun e w'=>Below V.heap.size V w'∧∃m a9 c9,e=.returned (.pointer (some ⟨m,0,none⟩))∧w'.cell? ⟨m,1,none⟩=some (.slice a9 (setL q (ps.map (·.1))).length c9)∧((setL q (ps.map (·.1))).length≤65536→DM w' q (setL q (ps.map (·.1))) m)):=fun V u hu=>by
  refine (rbuild_any q hq (ps.map keyP).length (ps.map keyP) u V hu (fun p hp=>(hG p hp).1.1) (by rw [keyP_len];exact hlen) (by omega)).mono fun e w' h=>?_
  have h2:=h
  obtain⟨hb,b,v,rfl,h0,h1,hs⟩:=h
  obtain⟨a9,c9,rfl,_⟩:=hs.slice
  have hl:(kyd (cmpO q) ((ps.map keyP).length+1) (ps.map keyP)).length=(setL q (ps.map (·.1))).length:=by rw [←hK];simp
  rw [hl] at h1
  refine⟨hb,b,a9,c9,rfl,h1,fun hz=>?_⟩
  obtain⟨_,b2,he,hd⟩:=BdP.dm hq (by omega) h2 hG (by rw [hl];exact hz)
  simp only [Ending.returned.injEq,Value.pointer.injEq,Option.some.injEq,Addr.mk.injEq,and_true] at he
  subst he
  rw [hK] at hd
  exact hd
 have HNl:Hid (Nils (setL q (ps.map (·.1)))):=setL_nils q _
 obtain⟨a0,c0,rfl,_⟩:=HS.out.slice
 obtain⟨n,hn⟩:∃n,n=ps.length:=⟨_,rfl⟩
 have HN:Hid (n=ps.length):=hn
 rw [←hn] at hlen ⊢
 clear hi hz0 hz1 hz2 hgs hG hK hg hn hq
 generalize setL q (ps.map (·.1))=SL at *
 go_enter Tryz.func61,Tryz.ntmps61
 go_wp2_with fail
 go_loopg [6,5] n (fun z i u wr=>∃j:Nat,i=.int .i64 (j:Int)∧j≤n∧z=n-j∧Hid (wr.ownsRow w.heap.size 108 8 u j (((ps.take j).map keyP).flatMap encQ))∧Hid (Below w.heap.size w wr))
 case atStart=>exact⟨0,rfl,by omega,by omega,World.ownsRow_nil _ _ _ _,Below.refl _ _⟩
 case round=>
  obtain⟨j,rfl,hj,hk,HOw,HBw⟩:=hrel
  have Hk:Hid _:=hk
  have hbw:=HBw.out
  clear hk
  by_cases hlt:j<n
  ·have hlt':j<ps.length:=by have:=HN.out;omega
   obtain⟨b1,o1,c1',hv1,_,hq1,hgq⟩:=HS.out.some (fun e=>by rw [e] at hlt';cases hlt')
   have ha1:a0=some ⟨b1,o1,none⟩:=by injection hv1
   subst ha1
   obtain⟨p0,p1,p2,p3⟩:=hq1 j hlt'
   have hg:=hgq ps[j] (List.getElem_mem hlt')
   have Htk:Hid (((ps.take (j+1)).map keyP).flatMap encQ=((ps.take j).map keyP).flatMap encQ++encQ (keyP ps[j])):=by
    show _=_
    rw [List.take_succ_eq_append_getElem hlt',List.map_append,List.flatMap_append];simp
   obtain⟨a1,c1,hu1,_⟩:=Lies.slice hg.1
   rw [hu1] at p3
   generalize ps[j]=x at *
   obtain⟨t1,u1⟩:=x
   simp only at p0 p1 p2 p3 hu1
   subst hu1
   have p0:=zaa hbw p0;have p1:=zaa hbw p1;have p2:=zaa hbw p2;have p3:=zaa hbw p3
   have hji:(j:Int)<(n:Nat):=by omega
   have hws:w.heap.size≤wr.heap.size:=hbw.size
   clear hq1 hgq hg hv1
   go_wp2_with (first
    | (at_builtin;refine wpList_append_own _ rfl _ _ 76 rfl w.heap.size 108 i0 (.agg #[.int .i64 0,.int .i64 0,.string ⟨#[]⟩,.slice none 0 0,.int .i64 0,.int .i64 0,.string ⟨#[]⟩,.slice none 0 0]) 8 112 Tryz.underlying76 Hi.out Hz0.out Hz1.out Hz2.out rfl (by decide) _ _ _ rfl (HOw.out.alloc _) ⟨wr.heap.size,0,none⟩ 1 1 [.int .i64 t1.kind,.int .i64 t1.num,.string t1.text,.slice a1 t1.items.length c1,.int .i64 0,.int .i64 0,.string ⟨#[]⟩,.slice none 0 0] rfl rfl (fun q u hq=>by match q,hq with|0,hq=>(simp at hq;subst hq;simp [Addr.add])|1,hq=>(simp at hq;subst hq;simp [Addr.add])|2,hq=>(simp at hq;subst hq;simp [Addr.add])|3,hq=>(simp at hq;subst hq;simp [Addr.add])|4,hq=>(simp at hq;subst hq;simp [Addr.add])|5,hq=>(simp at hq;subst hq;simp [Addr.add])|6,hq=>(simp at hq;subst hq;simp [Addr.add])|7,hq=>(simp at hq;subst hq;simp [Addr.add])) (fun u hu=>by simp at hu;rcases hu with rfl|rfl|rfl|rfl|rfl|rfl|rfl|rfl <;> rfl) (by unfold maxLen;omega) (by omega) (by simp;omega) ?_;intro v9 w9 hown hgrow _))
   have hb9:Below w.heap.size w w9:=zat (hbw.alloc hws _) (by simp;omega) (HOw.out.alloc _) hgrow
   have HR9:Hid (w9.ownsRow w.heap.size 108 8 v9 (j+1) (((ps.take (j+1)).map keyP).flatMap encQ)):=by
    rw [Htk.out]
    exact hown
   clear hown hgrow p0 p1 p2 p3
   go_roundg (n-(j+1))
   case measure=>have:=Hk.out;omega
   case rel=>exact⟨j+1,by go_num,by omega,rfl,HR9,hb9⟩
  ·have hjl:j=n:=by omega
   have hji : ¬(j:Int)<(n:Nat):=by omega
   have HSq:Hid (SlQ 0 16 wr (ps.map keyP) u5):=by
    have h9:=HOw.out
    rw [hjl,HN.out,List.take_length] at h9
    refine (SlQ.of_own (by rw [keyP_len]) h9 (fun p hp=>?_) (by rw [keyP_len];have:=HL.out;omega)).mono (Nat.zero_le _)
    obtain⟨x,hx,rfl⟩:=List.mem_map.1 hp
    obtain⟨_,_,_,_,_,_,hgs⟩:=HS.out
    exact (keyP_good (hgs x hx)).keeps hbw
   have HBd:Hid _:=HB.out wr _ HSq.out
   clear HOw HB HSq hjl
   go_wp2_with fail
   refine Calls.mono HBd.out ?_
   rintro e w2 ⟨hg2,m,a9,c9,rfl,hm1,hmd⟩
   have hb2:Below w.heap.size w w2:=hbw.trans (hg2.mono hbw.size)
   have hal:Below w2.heap.size w2 (w2.alloc (.cells #[.pointer (some ⟨m,0,none⟩)] 101)):=((Grew.refl w2).alloc _).below
   have HE:Hid (MkPost q SL w (.returned (.pointer (some ⟨w2.heap.size,0,none⟩))) (w2.alloc (.cells #[.pointer (some ⟨m,0,none⟩)] 101))):=⟨hb2.trans (hal.mono hb2.size),_,m,a9,c9,rfl,by simp,zaa hal hm1,fun hz=>⟨m,by simp,(hmd hz).keeps hal,HNl.out⟩⟩
   clear hg2 hm1 hmd hb2 hal HBd
   go_wp2_with fail
   first|exact HE.out|(go_ret;exact HE.out)
def DsPost (q:Nat) (l:List PT) (E:Int) (w:World) (e:Ending) (w':World):Prop:=Below w.heap.size w w'∧∃p:Option Addr,e=.returned (.tuple #[.pointer p,.int .i64 E])∧((E≠0∧p=none)∨(E=0∧∃c,p=some ⟨c,0,none⟩∧DS w' q l c))
theorem lookE_zero {d:Nat} {o:Int} {l:List VT} (h:lookE d o l=0):(0≤o∧o<6)∧l.length≤65536∧∀v∈l,zab d v=true:=by
 unfold lookE at h
 split at h
 ·cases h
 ·rename_i ho
  unfold zap at h
  split at h
  ·cases h
  ·split at h
   ·rename_i h1 h2
    exact⟨by omega,by omega,by simpa [List.all_eq_true] using h2⟩
   ·cases h
set_option maxRecDepth 100000 in
set_option maxHeartbeats 4000000 in
theorem rof_16 (d:Nat) (o:Int) (l:List VT) (u:Value) (w:World) (hu:Lies (d+1) w l u):Calls Tryz.prog 10 #[.int .i64 o,u] w (DsPost o.toNat (setL o.toNat l) (lookE d o l) w):=by
 obtain⟨a0,c0,rfl,_⟩:=Lies.slice hu
 have HF:Hid _:=rfit_any d o l _ w hu
 by_cases hz:lookE d o l=0
 ·obtain⟨ho,hlen,hr⟩:=lookE_zero hz
  obtain⟨q,rfl⟩:∃p:Nat,o=(p:Int):=⟨o.toNat,by omega⟩
  have HM:Hid (∀V,Below w.heap.size w V→Calls Tryz.prog 61 #[.int .i64 (q:Int),.slice a0 l.length c0] V (MkPost q (setL q l) V)):=fun V hV=>by
   obtain⟨ps,hps,hpl,hsp⟩:=SlP.of_lies (Lies.keeps hV _ _ _ hu)
   have hg:∀p∈ps,zab d p.1=true:=fun p hp=>hr p.1 (by rw [←hps];exact List.mem_map_of_mem hp)
   obtain⟨a2,c2,e2,h2,h3,h4,h5⟩:=hsp
   have h9:=rmake_16 q (by omega) ps _ V ⟨a2,c2,e2,h2,h3,h4,fun p hp=>⟨(canon (h5 p hp).1 (hg p hp)).1,(h5 p hp).2⟩⟩ (by omega) (fun p hp=>(canon (h5 p hp).1 (hg p hp)).2)
   rw [hps] at h9
   exact h9
  have HLn:Hid ((setL q l).length≤65536):=by have:=setL_len q l;show _≤_;omega
  rw [hz] at HF ⊢
  rw [show ((q:Int)).toNat=q by omega]
  clear hu hz ho hlen hr
  generalize setL q l=SL at *
  generalize l.length=N at *
  go_enter Tryz.func10,Tryz.ntmps10
  go_wp2_with fail
  refine Calls.mono HF.out ?_
  rintro e w1 ⟨rfl,hg1⟩
  go_wp2_with fail
  refine Calls.mono (HM.out _ hg1) ?_
  rintro e w2 ⟨hg2,c,m,a9,c9,rfl,_,_,hd⟩
  have HE:Hid (DsPost q SL 0 w (.returned (.tuple #[.pointer (some ⟨c,0,none⟩),.int .i64 0])) w2):=⟨hg1.trans (hg2.mono hg1.size),_,rfl,.inr ⟨rfl,c,rfl,hd HLn.out⟩⟩
  clear hd hg1 hg2 HM HF
  go_wp2_with fail
  go_ret2
  exact HE.out
 ·have HZ:Hid (¬lookE d o l=0):=hz
  clear hu
  generalize lookE d o l=E at *
  generalize l.length=N at *
  go_enter Tryz.func10,Tryz.ntmps10
  go_wp2_with fail
  refine Calls.mono HF.out ?_
  rintro e w1 ⟨rfl,hg1⟩
  have HE:Hid (∀L,DsPost o.toNat L E w (.returned (.tuple #[.pointer none,.int .i64 E])) w1):=fun L=>⟨hg1,none,rfl,.inl ⟨HZ.out,rfl⟩⟩
  clear hg1 HF
  go_wp2_with fail
  go_ret2
  exact HE.out _
set_option maxRecDepth 100000 in
set_option maxHeartbeats 4000000 in
theorem rlen_16 {w:World} {c m N:Nat} {a9:Option Addr} {c9:Nat} (h0:w.cell? ⟨c,0,none⟩=some (.pointer (some ⟨m,0,none⟩))) (h1:w.cell? ⟨m,1,none⟩=some (.slice a9 N c9)):Calls Tryz.prog 75 #[.pointer (some ⟨c,0,none⟩)] w fun e w'=>e=.returned (.int .i64 (N:Nat))∧w'=w:=by
 go_enter Tryz.func75,Tryz.ntmps75
 go_wp2_with fail
 go_ret
 exact⟨rfl,rfl⟩
theorem DS.row {w:World} {q:Nat} {l:List PT} {c:Nat} (h:DS w q l c):∃(m:Nat) (qs:List PP) (a9:Option Addr) (c9:Nat),w.cell? ⟨c,0,none⟩=some (.pointer (some ⟨m,0,none⟩))∧w.cell? ⟨m,0,none⟩=some (.int .i64 (q:Int))∧w.cell? ⟨m,1,none⟩=some (.slice a9 qs.length c9)∧qs.map trT=l∧SlQ 0 16 w qs (.slice a9 qs.length c9)∧DM w q l m:=by
 obtain⟨m,h0,hd,hn⟩:=h
 have hd2:=hd
 obtain⟨ho,⟨qs,v,h1,h2,h3⟩,_,_,_,_⟩:=hd2
 obtain⟨a9,c9,rfl,_⟩:=h3.slice
 exact⟨m,qs,a9,c9,h0,ho,h1,h2,h3,hd⟩
def ItPost (base:Nat) (vs:List VT) (w:World) (e:Ending) (w':World):Prop:=Below w.heap.size w w'∧∃ps v,e=.returned v∧ps.map (·.1)=vs∧SlP base 16 w' ps v
set_option maxRecDepth 100000 in
set_option maxHeartbeats 8000000 in
theorem ritems_16 {w:World} {q:Nat} {l:List PT} {c:Nat} (h:DS w q l c):Calls Tryz.prog 64 #[.pointer (some ⟨c,0,none⟩)] w (ItPost w.heap.size (l.map (·.1)) w):=by
 obtain⟨i0,hi,hz0,hz1,hz2⟩:=info24
 have Hi:Hid _:=hi;have Hz0:Hid _:=hz0;have Hz1:Hid _:=hz1;have Hz2:Hid _:=hz2
 obtain⟨m,qs,a0,c0,h0,_,h1,rfl,hs,hd⟩:=h.row
 have hlen:qs.length≤65536:=by have:=hd.size;rwa [List.length_map] at this
 have HL:Hid (qs.length≤65536):=hlen
 have HS:Hid (SlQ 0 16 w qs (.slice a0 qs.length c0)):=hs
 have HP:Hid (∀(u:Value) (V:World),V.ownsRow w.heap.size 33 4 u qs.length ((qs.map (·.1)).flatMap encP)→Below w.heap.size w V→ItPost w.heap.size ((qs.map trT).map (·.1)) w (.returned u) V):=fun u V h2 h3=>by
  refine⟨h3,qs.map (·.1),u,rfl,by rw [List.map_map,List.map_map];rfl,?_⟩
  refine SlP.of_own (by rw [List.length_map]) h2 (fun p hp=>?_) (by rw [List.length_map];omega)
  obtain⟨x,hx,rfl⟩:=List.mem_map.1 hp
  exact (hs.good x hx).1.keeps h3
 obtain⟨n,hn⟩:∃n,n=qs.length:=⟨_,rfl⟩
 have HN:Hid (n=qs.length):=hn
 rw [←hn] at h1 hlen
 clear hi hz0 hz1 hz2 hs hd hn
 generalize ItPost w.heap.size ((qs.map trT).map (·.1)) w=PO at *
 have h0c:=h0;have h1c:=h1
 have H01:Hid (w.cell? ⟨c,0,none⟩=some (.pointer (some ⟨m,0,none⟩))∧w.cell? ⟨m,1,none⟩=some (.slice a0 n c0)):=⟨h0,h1⟩
 clear h0 h1 h0c h1c
 go_enter Tryz.func64,Tryz.ntmps64
 go_wp2_with fail
 go_loopg [4,3] n (fun z i u wr=>∃j:Nat,i=.int .i64 (j:Int)∧j≤n∧z=n-j∧Hid (wr.ownsRow w.heap.size 33 4 u j (((qs.take j).map (·.1)).flatMap encP))∧Hid (Below w.heap.size w wr))
 case atStart=>exact⟨0,rfl,by omega,by omega,World.ownsRow_nil _ _ _ _,Below.refl _ _⟩
 case round=>
  obtain⟨j,rfl,hj,hk,HOw,HBw⟩:=hrel
  have Hk:Hid _:=hk
  have hbw:=HBw.out
  have h0:=zaa hbw H01.out.1
  have h1:=zaa hbw H01.out.2
  clear hk
  by_cases hlt:j<n
  ·have hlt':j<qs.length:=by have:=HN.out;omega
   obtain⟨b1,o1,c1',hv1,_,hq1,hgq⟩:=HS.out.full (fun e=>by rw [e] at hlt';cases hlt')
   have ha1:a0=some ⟨b1,o1,none⟩:=by injection hv1
   subst ha1
   obtain⟨p0,p1,p2,p3,_,_,_,_⟩:=hq1.at j hlt'
   have hg:=hgq qs[j] (List.getElem_mem hlt')
   have Htk:Hid (((qs.take (j+1)).map (·.1)).flatMap encP=((qs.take j).map (·.1)).flatMap encP++encP qs[j].1):=by
    show _=_
    rw [List.take_succ_eq_append_getElem hlt',List.map_append,List.flatMap_append];simp
   obtain⟨a1,c1,hu1,_⟩:=Lies.slice hg.1.1
   rw [hu1] at p3
   generalize qs[j]=x at *
   obtain⟨⟨t1,u1⟩,y2⟩:=x
   simp only at p0 p1 p2 p3 hu1 Htk
   subst hu1
   have p0:=zaa hbw p0;have p1:=zaa hbw p1;have p2:=zaa hbw p2;have p3:=zaa hbw p3
   have hji:(j:Int)<(n:Nat):=by omega
   have hji0:(0:Int)≤(j:Int):=by omega
   have hws:w.heap.size≤wr.heap.size:=hbw.size
   clear hq1 hgq hg hv1
   go_wp2_with (first
    | (at_builtin;refine wpList_append_own _ rfl _ _ 22 rfl w.heap.size 33 i0 (.agg #[.int .i64 0,.int .i64 0,.string ⟨#[]⟩,.slice none 0 0]) 4 56 Tryz.underlying22 Hi.out Hz0.out Hz1.out Hz2.out rfl (by decide) _ _ _ rfl (HOw.out.alloc _) ⟨wr.heap.size,0,none⟩ 1 1 [.int .i64 t1.kind,.int .i64 t1.num,.string t1.text,.slice a1 t1.items.length c1] rfl rfl (fun q u hq=>by match q,hq with|0,hq=>(simp at hq;subst hq;simp [Addr.add])|1,hq=>(simp at hq;subst hq;simp [Addr.add])|2,hq=>(simp at hq;subst hq;simp [Addr.add])|3,hq=>(simp at hq;subst hq;simp [Addr.add])) (fun u hu=>by simp at hu;rcases hu with rfl|rfl|rfl|rfl <;> rfl) (by unfold maxLen;omega) (by omega) (by simp;omega) ?_;intro v9 w9 hown hgrow _))
   have hb9:Below w.heap.size w w9:=zat (hbw.alloc hws _) (by simp;omega) (HOw.out.alloc _) hgrow
   have HR9:Hid (w9.ownsRow w.heap.size 33 4 v9 (j+1) (((qs.take (j+1)).map (·.1)).flatMap encP)):=by
    rw [Htk.out]
    exact hown
   clear hown hgrow p0 p1 p2 p3 h0 h1
   go_roundg (n-(j+1))
   case measure=>have:=Hk.out;omega
   case rel=>exact⟨j+1,by go_num,by omega,rfl,HR9,hb9⟩
  ·have hjl:j=n:=by omega
   have hji : ¬(j:Int)<(n:Nat):=by omega
   have HE:Hid (PO (.returned u3) wr):=by
    have h9:=HOw.out
    rw [hjl,HN.out,List.take_length] at h9
    exact HP.out _ _ h9 hbw
   clear HOw HP hjl
   go_wp2_with fail
   first|exact HE.out|(go_ret;exact HE.out)
end Go.Proofs.YtlnecfjnffdciabGreat

namespace Go.Proofs.YtlnecfjnffdciabGreat
open Go.RowKit Go.Shelf
theorem nil_back {l:List PT} (hn:Nils l):(l.map (·.1)).map nilP=l:=by
 rw [List.map_map]
 refine (List.map_congr_left (g:=id) fun x hx=>?_).trans (List.map_id l)
 show (x.1,nilT)=x
 rw [←hn x hx]
theorem setL_self {q:Nat} {l:List PT} (hr:RT.Rises (byK q) l) (hn:Nils l):setL q (l.map (·.1))=l:=by
 unfold setL ofL
 rw [nil_back hn]
 exact kyd_rises (byK_3 q) _ l (by omega) hr
theorem setL_keep {q:Nat} {l:List PT} (hr:RT.Rises (byK q) l) (hn:Nils l) (P:VT→Bool):setL q ((l.map (·.1)).filter P)=l.filter (fun x=>P x.1):=by
 rw [List.filter_map]
 exact setL_self (List.Pairwise.filter _ hr) (fun x hx=>hn x (List.mem_filter.1 hx).1)
end Go.Proofs.YtlnecfjnffdciabGreat

namespace Go.Proofs.YtlnecfjnffdciabGreat
open Go.RowKit Go.Shelf
def inB (q:Nat) (y z:VT) (k:VT):Bool:=decide (0≤ordV q k y)&&decide (ordV q k z≤0)
theorem btwS_keep {q:Nat} {l:List PT} (h:RT.Rises (byK q) l) (y z:VT):btwS q y z l=l.filter (fun x=>inB q y z x.1):=by
 have hf1:=RT.Rises.falls (byK_cmp q) h (y,y)
 have hf2:=RT.Rises.falls (byK_cmp q) h (z,z)
 unfold btwS
 obtain⟨e2,_⟩:=filter_ahead (atK q z) true l hf2
 obtain⟨_,h1⟩:=filter_ahead (atK q y) false l hf1
 rw [drop_is (RT.ahead (atK q y) false) _ _ (fun i x hx=>h1 i x (by
  rw [List.getElem?_take] at hx
  split at hx
  ·exact hx
  ·cases hx)),e2,List.filter_filter]
 refine List.filter_congr fun x _=>?_
 unfold inB RT.ahead atK
 have e1:=zar q y x.1
 have e3:=zar q z x.1
 rw [e1,e3]
 generalize ordV q y x.1=A
 generalize ordV q z x.1=B
 rw [Bool.eq_iff_iff]
 simp
 omega
end Go.Proofs.YtlnecfjnffdciabGreat

namespace Go.Proofs.YtlnecfjnffdciabGreat
open Go.RowKit Go.Shelf
attribute [local go_sem] Oper.semAt_some
set_option maxRecDepth 100000 in
theorem small_16 (v:Value) (w:World):Calls Tryz.prog 154 #[.agg #[v]] w fun e w'=>e=.returned (.func (.func 218) #[] #[.pointer (some ⟨w.heap.size,0,none⟩)])∧w'=w.alloc (.cells #[v] 112):=by
 go_enter Tryz.func154,Tryz.ntmps154
 go_wp2_with fail
 go_ret
 exact⟨rfl,rfl⟩
set_option maxRecDepth 100000 in
theorem sall_16 (s b:Nat) (w:World) (hs:w.cell? ⟨s,0,none⟩=some (.pointer (some ⟨b,0,none⟩))):Calls Tryz.prog 98 #[.pointer (some ⟨s,0,none⟩)] w fun e w'=>e=.returned (.func (.func 218) #[] #[.pointer (some ⟨w.heap.size,0,none⟩)])∧w'=w.alloc (.cells #[.pointer (some ⟨b,0,none⟩)] 112):=by
 go_enter Tryz.func98,Tryz.ntmps98
 go_wp2_with fail
 refine (sown_16 _ _).mono ?_
 rintro e w1 ⟨rfl,hw⟩
 obtain rfl:w=w1:=hw.symm
 go_wp2_with fail
 refine (small_16 _ _).mono ?_
 rintro e w2 ⟨rfl,hw2⟩
 subst hw2
 go_wp2_with fail
 go_ret
 exact⟨rfl,rfl⟩
set_option maxRecDepth 100000 in
set_option maxHeartbeats 32000000 in
theorem sappend_16 (l:List VT) (hlen:l.length≤65536) (lb:Array Value) (w:World)
 (hseq:∀(n:Nat) (W:World),6≤n→Below w.heap.size w W→SeqX Fence.wide n Tryz.prog 218 lb encCV (KpY 22 w.heap.size) (PreCV l) (fun xs=>xs.map CV.k=l) (fun _=>True) l.length W) :
 Calls Tryz.prog 153 #[.slice none 0 0,.func (.func 218) #[] lb] w (ItPost w.heap.size l w):=by
 refine (callsIn_wide (n:=8)).1 ?_
 refine callsIn_of_wp_marks Tryz.func153 rfl trivial ?_ rfl
 simp only [Tryz.ntmps153,List.size_toArray,List.length_cons,List.length_nil,Nat.reduceAdd,Nat.reduceSub,Array.replicate_succ,Array.replicate_zero,List.push_toArray,List.append_toArray,List.nil_append,List.cons_append]
 have HL:Hid (l.length≤65536):=hlen
 have HSq:Hid _:=hseq
 clear hseq hlen
 gi_wp2
 obtain⟨Wi,hWi⟩:∃Wi,Wi=w.alloc (.cells #[.slice none 0 0] 22):=⟨_,rfl⟩
 rw [←hWi]
 have hB0:Below w.heap.size w Wi:=by rw [hWi];exact ((Grew.refl w).alloc _).below
 have hsz:Wi.heap.size=w.heap.size+1:=by rw [hWi];simp
 have hG0:GvI w w.heap.size [] Wi:=⟨⟨.slice none 0 0,by rw [hWi];exact Go.Boxed.new w 22 _,World.ownsRow_nil _ _ _ _,fun x hx=>by cases hx⟩,hB0⟩
 have HSq2:Hid _:=HSq.out 7 Wi (by omega) hB0
 clear hWi HSq
 refine rangeX (α:=CV) rfl (by omega) (gf:=218) (lb:=lb) rfl trivial (enters_of Tryz.func218 (by kernel_rfl) rfl)
  HSq2.out kpY_t (fun W o o' hl ho=>kpY_b (by omega) (by omega) W o o' hl ho) (Below.refl _ _) (fun _=>rfl)
  (fun pre W=>GvI w w.heap.size pre W∧pre.map CV.k <+: l) (fun _ _ _=>False)
  (fun s A V row hs hg hr=>⟨GvI.own w _ _ (by omega) (by omega) s A V row hs.1 hg hr,hs.2⟩) (fun _ _ _ _ _ hs _ _=>hs) ⟨hG0,by simp⟩
  (GvA (w.heap.size) l (fun x Bk=>{ tmps:=#[.slice none 0 0,.func (.func 218) #[] lb,.pointer (some ⟨w.heap.size,0,none⟩),undef,.slice none 0 0,.pointer (some ⟨Bk,0,none⟩),.func (.func 218) #[] lb,.agg #[.int .i64 x.k.kind,.int .i64 x.k.num,.string x.k.text,.slice x.a1 x.k.items.length x.c1],undef,undef,undef,undef,undef,undef,undef],defers:=[] })) (fun pre x a'=>GvA.own _ _ _ (by omega) _ _ _ _) ?assign ?body ?done ?stop
 case assign=>
  rintro lp pre x V W K hI hbVW ⟨hN,hpx⟩ hK
  have hba:Below W.heap.size W (W.alloc (.cells #[.int .i64 x.k.kind,.int .i64 x.k.num,.string x.k.text,.slice x.a1 x.k.items.length x.c1] 33)):=((Grew.refl W).alloc _).below
  have hws:w.heap.size≤W.heap.size:=Nat.le_trans hI.1.2.size hbVW.size
  obtain⟨hA,hI3⟩:=GvA.make (l:=l) (f:=(fun x Bk=>{ tmps:=#[.slice none 0 0,.func (.func 218) #[] lb,.pointer (some ⟨w.heap.size,0,none⟩),undef,.slice none 0 0,.pointer (some ⟨Bk,0,none⟩),.func (.func 218) #[] lb,.agg #[.int .i64 x.k.kind,.int .i64 x.k.num,.string x.k.text,.slice x.a1 x.k.items.length x.c1],undef,undef,undef,undef,undef,undef,undef],defers:=[] })) hI.1 hbVW hN hpx
  skip
  have HK:Hid (K _ _):=hK _ _ ((KeepsOthers.alloc W _).from _) ⟨hba.mono hws,KBy.below hba,keepsBelowY hba⟩ ⟨hI3,hI.2⟩ hA
  clear hK hA
  unfold encCV
  gi_wp2
  exact HK.out
 case body=>
  rintro lp pre x a' W hlp ⟨⟨⟨v',bx0,hrow,hl⟩,hB⟩,hpl⟩ ⟨Bk,v,bk,hBk,bx',hnk,hLk,hpx,rfl⟩ hlt
  have hvv:v'=v:=by
   have h1:W.heap[w.heap.size]? = some (.cells #[v] 22 (0,0)):=bx'
   have h2:W.heap[w.heap.size]? = some (.cells #[v'] 22 (0,0)):=bx0
   rw [h1] at h2
   injection h2 with h2
   injection h2 with h2
   simpa using h2.symm
  subst hvv
  obtain⟨av,cv,hv⟩:∃a c,v'=.slice a pre.length c:=by
   rcases hrow.2 with ⟨rfl,e⟩|⟨g,cap,_,rfl,_⟩
   ·exact⟨none,0,by rw [e]⟩
   ·exact⟨_,_,rfl⟩
  subst hv
  obtain⟨k,hk⟩:∃k,k=pre.length:=⟨_,rfl⟩
  have hpx2:(pre++[x]).map CV.k <+: l:=by rw [List.map_append];exact hpx
  have hkl:k+1≤l.length:=by have:=hpx2.length_le;rw [List.length_map,List.length_append,←hk] at this;exact this
  have hkq:k≤65537:=by have:=HL.out;omega
  have HStep:Hid (∀(g cap:Nat) (w3:World),w3.ownsRow w.heap.size 33 4 (.slice (some ⟨g,0,none⟩) (k+1) cap) (k+1) (pre.flatMap (fun x=>encP x.p)++[.int .i64 0,.int .i64 0,.string ⟨#[]⟩,.slice none 0 0])→(W.alloc Z4V).drew.grownBy w3 (Value.slice av k cv).ownBlock→((Value.slice av k cv).ownBlock=some g∨g=(W.alloc Z4V).drew.heap.size)→_):=fun g cap w3 h1 h2 h3=>gv_step (B:=w.heap.size) (n1:=Wi.heap.size+2) hk (by omega) (by rw [hk];exact⟨bx',hrow,hl⟩) hB (by rw [hk];exact hLk) g cap w3 h1 h2 h3
  rw [←hk] at bx' hrow hnk hlt
  obtain⟨y0,y1,y2,y3⟩:=bk.cells
  have hc:=bx'.cell
  have hBl:=bx'.lt
  have hBkl:=bk.lt
  skip
  have hcD:W.drew.cell? ⟨w.heap.size,0,none⟩=some (.slice av k cv):=hc
  have d0:W.drew.cell? ⟨Bk,0,none⟩=some (.int .i64 x.k.kind):=y0
  have d1:W.drew.cell? ⟨Bk,1,none⟩=some (.int .i64 x.k.num):=y1
  have d2:W.drew.cell? ⟨Bk,2,none⟩=some (.string x.k.text):=y2
  have d3:W.drew.cell? ⟨Bk,3,none⟩=some (.slice x.a1 x.k.items.length x.c1):=y3
  have hn1 : ¬(Bk=W.heap.size):=by omega
  have hn2 : ¬(w.heap.size=W.heap.size):=by omega
  have HRow:Hid ((W.alloc Z4V).drew.ownsRow w.heap.size 33 4 (.slice av k cv) k (pre.flatMap (fun x=>encP x.p))):=(hrow.alloc _).drew
  have Hbs:Hid (w.heap.size≤(W.alloc Z4V).drew.heap.size):=by
   have:=hB.size
   show _≤_
   simp
   omega
  have Hxl:Hid ((pre.flatMap (fun x=>encP x.p)).length=k*4):=hrow.1
  have HP:Hid ((pre++[x]).map CV.k <+: l):=hpx2
  have Hk:Hid (k=pre.length):=hk
  have hmx:Tryz.prog.follows .mixedOrders=true:=by kernel_rfl
  have hkk:((k:Nat):Int)<(k:Nat)+1:=by omega
  clear hrow bx' bx0 bk hB hlp hlt hk hl hLk hnk hpx hpx2 hkl hpl
  gi_wp2
  refine wpIn_region_any hmx ?_
  change wpAnyIn _ _ _ _ _ _ _ _ _ (World.drew _)
  all_goals (first|refine wpAnyIn_ready (rs:=[0,1,3]) (by decide +kernel) (by simp) (AllReadyIn.cons rfl (fun K hK=>?_) (AllReadyIn.cons rfl (fun K hK=>?_) (AllReadyIn.cons rfl (fun K hK=>?_) AllReadyIn.nil))))
  all_goals (go_simp;refine hK _ _ ?_;clear hK K)
  all_goals (first|refine wpAnyIn_ready (rs:=[1,2,3]) (by decide +kernel) (by simp) (AllReadyIn.cons rfl (fun K hK=>?_) (AllReadyIn.cons rfl (fun K hK=>?_) (AllReadyIn.cons rfl (fun K hK=>?_) AllReadyIn.nil)))|refine wpAnyIn_ready (rs:=[0,3]) (by decide +kernel) (by simp) (AllReadyIn.cons rfl (fun K hK=>?_) (AllReadyIn.cons rfl (fun K hK=>?_) AllReadyIn.nil))|refine wpAnyIn_ready (rs:=[0,1]) (by decide +kernel) (by simp) (AllReadyIn.cons rfl (fun K hK=>?_) (AllReadyIn.cons rfl (fun K hK=>?_) AllReadyIn.nil)))
  all_goals (go_simp;refine hK _ _ ?_;clear hK K)
  all_goals (first|refine wpAnyIn_ready (rs:=[2,3]) (by decide +kernel) (by simp) (AllReadyIn.cons rfl (fun K hK=>?_) (AllReadyIn.cons rfl (fun K hK=>?_) AllReadyIn.nil))|refine wpAnyIn_ready (rs:=[1,3]) (by decide +kernel) (by simp) (AllReadyIn.cons rfl (fun K hK=>?_) (AllReadyIn.cons rfl (fun K hK=>?_) AllReadyIn.nil))|refine wpAnyIn_ready (rs:=[1,2]) (by decide +kernel) (by simp) (AllReadyIn.cons rfl (fun K hK=>?_) (AllReadyIn.cons rfl (fun K hK=>?_) AllReadyIn.nil))|refine wpAnyIn_ready (rs:=[0]) (by decide +kernel) (by simp) (AllReadyIn.cons rfl (fun K hK=>?_) AllReadyIn.nil))
  all_goals (go_simp;refine hK _ _ ?_;clear hK K)
  all_goals (first|refine wpAnyIn_ready (rs:=[3]) (by decide +kernel) (by simp) (AllReadyIn.cons rfl (fun K hK=>?_) AllReadyIn.nil)|refine wpAnyIn_ready (rs:=[2]) (by decide +kernel) (by simp) (AllReadyIn.cons rfl (fun K hK=>?_) AllReadyIn.nil)|refine wpAnyIn_ready (rs:=[1]) (by decide +kernel) (by simp) (AllReadyIn.cons rfl (fun K hK=>?_) AllReadyIn.nil))
  all_goals (go_simp;refine hK _ _ ?_;clear hK K)
  all_goals refine ?restV9
  refine wpAnyIn_ready (rs:=[4]) (by kernel_rfl) (by simp) ?_
  refine AllReadyIn.cons rfl (fun K hK=>?_) ?_
  ·refine appV_step rfl _ _ rfl w.heap.size (.slice av k cv) k (pre.flatMap (fun x=>encP x.p)) rfl HRow.out _ rfl (by simp) (by simp) (by simp) (by simp) hkq Hbs.out ?_
   intro g3 cap3 w3 hown3 hgrow3 hg3 hgl3
   obtain⟨hbx3,hboxes,hgB,hstep⟩:=HStep.out g3 cap3 w3 hown3 hgrow3 hg3
   have hc3:=hbx3.cell
   have hf3:=hbx3.frozen
   have hgB2 : ¬(w.heap.size=g3):=fun e=>hgB e.symm
   have q0:=hown3.cellAt (k*4) (by omega)
   have q1:=hown3.cellAt (k*4+1) (by omega)
   have q2:=hown3.cellAt (k*4+2) (by omega)
   have q3:=hown3.cellAt (k*4+3) (by omega)
   rw [List.getElem?_append_right (by rw [Hxl.out];omega),Hxl.out] at q0 q1 q2 q3
   simp only [Nat.sub_self,Nat.add_sub_cancel_left,List.getElem?_cons_zero,List.getElem?_cons_succ] at q0 q1 q2 q3
   have z0:=hown3.frozenAt (k*4)
   have z1:=hown3.frozenAt (k*4+1)
   have z2:=hown3.frozenAt (k*4+2)
   have z3:=hown3.frozenAt (k*4+3)
   have Hst:Hid _:=hstep
   clear hown3 hgrow3 hg3 hstep hboxes
   refine hK _ _ ?_
   clear hK K
   refine wpAnyIn_ready (rs:=[5,7]) (by kernel_rfl) (by simp) ?_
   refine AllReadyIn.cons rfl (fun K hK=>?_) ?_
   ·go_simp
    refine hK _ _ ?_
    clear hK K
    refine wpAnyIn_ready (rs:=[6,7]) (by kernel_rfl) (by simp) ?_
    refine AllReadyIn.cons rfl (fun K hK=>?_) ?_
    ·go_simp
     refine hK _ _ ?_
     clear hK K
     refine wpAnyIn_ready (rs:=[7]) (by kernel_rfl) (by simp) ?_
     refine AllReadyIn.cons rfl (fun K hK=>?_) ?_
     ·go_simp
      refine hK _ _ ?_
      clear hK K
      refine wpAnyIn_done (by kernel_rfl) ?_ _
      obtain⟨k1,k2,k3,k4⟩:=Hst.out _ (Or.inl rfl)
      exact⟨k1.from _,k2,⟨⟨_,k3⟩,k4⟩,HP.out⟩
     exact AllReadyIn.nil
    refine AllReadyIn.cons rfl (fun K hK=>?_) ?_
    ·go_simp
     refine hK _ _ ?_
     clear hK K
     refine wpAnyIn_ready (rs:=[6]) (by kernel_rfl) (by simp) ?_
     refine AllReadyIn.cons rfl (fun K hK=>?_) ?_
     ·go_simp
      refine hK _ _ ?_
      clear hK K
      refine wpAnyIn_done (by kernel_rfl) ?_ _
      obtain⟨k1,k2,k3,k4⟩:=Hst.out _ (Or.inr rfl)
      exact⟨k1.from _,k2,⟨⟨_,k3⟩,k4⟩,HP.out⟩
     exact AllReadyIn.nil
    exact AllReadyIn.nil
   refine AllReadyIn.cons rfl (fun K hK=>?_) ?_
   ·go_simp
    refine hK _ _ ?_
    clear hK K
    refine wpAnyIn_ready (rs:=[5]) (by kernel_rfl) (by simp) ?_
    refine AllReadyIn.cons rfl (fun K hK=>?_) ?_
    ·go_simp
     refine hK _ _ ?_
     clear hK K
     refine wpAnyIn_ready (rs:=[6]) (by kernel_rfl) (by simp) ?_
     refine AllReadyIn.cons rfl (fun K hK=>?_) ?_
     ·go_simp
      refine hK _ _ ?_
      clear hK K
      refine wpAnyIn_done (by kernel_rfl) ?_ _
      obtain⟨k1,k2,k3,k4⟩:=Hst.out _ (Or.inr rfl)
      exact⟨k1.from _,k2,⟨⟨_,k3⟩,k4⟩,HP.out⟩
     exact AllReadyIn.nil
    exact AllReadyIn.nil
   exact AllReadyIn.nil
  exact AllReadyIn.nil
 case done=>
  rintro D pre W hD hxs ⟨⟨⟨v,hR⟩,hB⟩,hpl⟩ hK
  have htk:pre.map CV.k=l:=hxs
  have hpl2:pre.length≤65536:=by have:=congrArg List.length htk;rw [List.length_map] at this;skip;have:=HL.out;omega
  have hS:SlP w.heap.size 16 W (pre.map CV.p) v:=hR.slp hpl2
  obtain⟨av,cv,rfl,_⟩:=hS.slice
  obtain⟨NL,hNL⟩:∃NL,NL=(pre.map CV.p).length:=⟨_,rfl⟩
  rw [←hNL] at hS hR
  have hc:=hR.1.cell
  have HS:Hid (SlP w.heap.size 16 W (pre.map CV.p) (.slice av NL cv)∧Below w.heap.size w W):=⟨hS,hB⟩
  have HMk:Hid (MarksX w.heap.size W [D]):=MarksX.one (by omega) hK
  have HT:Hid ((pre.map CV.p).map (·.1)=l):=by rw [map_p_k];exact htk
  clear hR hS hB hK hNL htk hxs
  gi_wp2
  refine leavesX w.heap.size (fun V=>SlP w.heap.size 16 V (pre.map CV.p) (.slice av NL cv)∧Below w.heap.size w V) (fun V D hD hK hT=>⟨slp_putObj hT.1 hK rfl,hT.2.trans (below_putX hD)⟩) (fun V hT=>⟨.slice av NL cv,by simp [results,Tryz.results153,go_sem],hT.2,_,_,rfl,HT.out,hT.1⟩) [D] _ HMk.out HS.out
 case stop=>
  rintro D c pre W _ _ h _
  exact h.elim
set_option maxRecDepth 100000 in
theorem scollect_16 (l:List VT) (hlen:l.length≤65536) (lb:Array Value) (w:World)
 (hseq:∀(n:Nat) (W:World),6≤n→Below w.heap.size w W→SeqX Fence.wide n Tryz.prog 218 lb encCV (KpY 22 w.heap.size) (PreCV l) (fun xs=>xs.map CV.k=l) (fun _=>True) l.length W) :
 Calls Tryz.prog 97 #[.func (.func 218) #[] lb] w (ItPost w.heap.size l w):=by
 have HA:Hid _:=sappend_16 l hlen lb w hseq
 clear hseq
 go_enter Tryz.func97,Tryz.ntmps97
 go_wp2_with fail
 refine Calls.mono HA.out ?_
 rintro e w1 ⟨hb,ps,v,rfl,hm,hS⟩
 have HE:Hid (ItPost w.heap.size l w (.returned v) w1):=⟨hb,ps,v,rfl,hm,hS⟩
 obtain⟨av,cv,rfl,_⟩:=hS.slice
 clear hb hm hS HA
 go_wp2_with fail
 go_ret
 exact HE.out
theorem SC.seq {w0:World} {q:Nat} {l:List PT} {s:Nat} (h:SC w0 q l s):∃b,w0.cell? ⟨s,0,none⟩=some (.pointer (some ⟨b,0,none⟩))∧l.length≤65536∧∀(n Bm:Nat) (W:World),6≤n→Below w0.heap.size w0 W→W.cell? ⟨Bm,0,none⟩=some (.pointer (some ⟨b,0,none⟩))→SeqX Fence.wide n Tryz.prog 218 #[.pointer (some ⟨Bm,0,none⟩)] encCV (KpY 22 w0.heap.size) (PreCV (l.map (·.1))) (fun xs=>xs.map CV.k=l.map (·.1)) (fun _=>True) (l.map (·.1)).length W:=by
 obtain⟨b,t,h1,hm,rfl,_⟩:=h
 refine⟨b,h1,?_,fun n Bm W hn hW hc=>?_⟩
 ·have:=hm.size
  rwa [RT.size_items] at this
 ·rw [List.length_map]
  exact sall1_16 hm 22 (by decide) (by decide) n Bm hn W hW hc
set_option maxRecDepth 100000 in
theorem sitems_16 {w:World} {q:Nat} {l:List PT} {s:Nat} (h:SC w q l s):Calls Tryz.prog 46 #[.pointer (some ⟨s,0,none⟩)] w (ItPost w.heap.size (l.map (·.1)) w):=by
 obtain⟨b,hs,hl,hq⟩:=h.seq
 have hb:Below w.heap.size w (w.alloc (.cells #[.pointer (some ⟨b,0,none⟩)] 112)):=((Grew.refl w).alloc _).below
 have hc9:(w.alloc (.cells #[.pointer (some ⟨b,0,none⟩)] 112)).cell? ⟨w.heap.size,0,none⟩=some (.pointer (some ⟨b,0,none⟩)):=(Go.Boxed.new w 112 _).cell
 have HA:Hid (Calls Tryz.prog 97 #[.func (.func 218) #[] #[.pointer (some ⟨w.heap.size,0,none⟩)]] (w.alloc (.cells #[.pointer (some ⟨b,0,none⟩)] 112)) (ItPost w.heap.size (l.map (·.1)) w)):=by
  obtain⟨b2,hs2,_,hq2⟩:=(h.keeps hb).seq
  have e2:b2=b:=by
   have h9:=zaa hb hs
   rw [hs2] at h9
   injection h9 with h9
   injection h9 with h9
   injection h9 with h9
   injection h9
  subst e2
  refine (scollect_16 (l.map (·.1)) (by rw [List.length_map];exact hl) _ _ (fun n W hn hW=>hq2 n _ W hn hW (zaa hW hc9))).mono fun e w' h=>?_
  obtain⟨h1,ps,v,h2,h3,h4⟩:=h
  exact⟨hb.trans (h1.mono hb.size),ps,v,h2,h3,h4.mono hb.size⟩
 clear hq hb hc9 h
 go_enter Tryz.func46,Tryz.ntmps46
 go_wp2_with fail
 refine (sall_16 s b _ hs).mono ?_
 rintro e w1 ⟨rfl,hw1⟩
 subst hw1
 go_wp2_with fail
 refine Calls.mono HA.out ?_
 rintro e w1 ⟨hb,ps,v,rfl,hm,hS⟩
 have HE:Hid (ItPost w.heap.size (l.map (·.1)) w (.returned v) w1):=⟨hb,ps,v,rfl,hm,hS⟩
 obtain⟨av,cv,rfl,_⟩:=hS.slice
 clear hb hm hS HA
 go_wp2_with fail
 go_ret
 exact HE.out
end Go.Proofs.YtlnecfjnffdciabGreat

namespace Go.Proofs.YtlnecfjnffdciabGreat
open Go.RowKit Go.Shelf
attribute [local go_sem] Oper.semAt_some
theorem eql_nilF16 (f:Fn) (lb:Array Value) (W:World):Sem.run Tryz.prog (binOp BinOp.eql 137 (.func f #[] lb) .nilFunc) W=.ok (.bool false) W:=by
 first|kernel_rfl|rfl
set_option maxRecDepth 100000 in
set_option maxHeartbeats 32000000 in
theorem sgone_16 (l:List VT) (hlen:l.length≤65536) (M:Nat) (hM:1≤M) (hM2:M≤65537) (s b:Nat) (w:World) (hs:w.cell? ⟨s,0,none⟩=some (.pointer (some ⟨b,0,none⟩)))
 (hseq:∀(n Bm:Nat) (W:World),6≤n→Below w.heap.size w W→W.cell? ⟨Bm,0,none⟩=some (.pointer (some ⟨b,0,none⟩))→SeqX Fence.wide n Tryz.prog 218 #[.pointer (some ⟨Bm,0,none⟩)] encCV (KpY 22 w.heap.size) (PreCV l) (fun xs=>xs.map CV.k=l) (fun _=>True) l.length W) :
 Calls Tryz.prog 67 #[.pointer (some ⟨s,0,none⟩),.int .i64 (M:Int)] w (ItPost w.heap.size (l.take M) w):=by
 refine (callsIn_wide (n:=8)).1 ?_
 refine callsIn_of_wp_marks Tryz.func67 rfl trivial ?_ rfl
 simp only [Tryz.ntmps67,List.size_toArray,List.length_cons,List.length_nil,Nat.reduceAdd,Nat.reduceSub,Array.replicate_succ,Array.replicate_zero,List.push_toArray,List.append_toArray,List.nil_append,List.cons_append]
 have hM1 : ¬((M:Nat):Int)<1:=by omega
 have tf:=eql_nilF16
 have HSq:Hid _:=hseq
 have HL:Hid (l.length≤65536):=hlen
 have Hs:Hid (w.cell? ⟨s,0,none⟩=some (.pointer (some ⟨b,0,none⟩))):=hs
 clear hseq hlen
 gi_wp2
 refine⟨trivial,?_⟩
 refine (callsIn_wide.2 (sall_16 s b _ (zaa (((Grew.refl w).alloc _).alloc _).below Hs.out))).mono ?_
 rintro e w1 ⟨rfl,rfl⟩
 simp only [World.size_alloc]
 gi_wp2
 obtain⟨Wi,hWi⟩:∃Wi,Wi=(((w.alloc (.cells #[.int .i64 (M:Int)] 3)).alloc (.cells #[.slice none 0 0] 22)).alloc (.cells #[.pointer (some ⟨b,0,none⟩)] 112)):=⟨_,rfl⟩
 rw [←hWi]
 have hB0:Below w.heap.size w Wi:=by rw [hWi];exact (((Grew.refl w).alloc _).alloc _).alloc _ |>.below
 have hsz:Wi.heap.size=w.heap.size+3:=by rw [hWi];simp
 have cM:Wi.cell? ⟨w.heap.size+1+1,0,none⟩=some (.pointer (some ⟨b,0,none⟩)):=by
  rw [hWi]
  have h9:=(Go.Boxed.new ((w.alloc (.cells #[.int .i64 (M:Int)] 3)).alloc (.cells #[.slice none 0 0] 22)) 112 (.pointer (some ⟨b,0,none⟩))).cell
  simpa only [World.size_alloc] using h9
 have hG0:GvI w (w.heap.size+1) [] Wi:=by
  refine⟨⟨.slice none 0 0,?_,World.ownsRow_nil _ _ _ _,fun x hx=>by cases hx⟩,hB0⟩
  rw [hWi]
  have h9:=(Go.Boxed.new (w.alloc (.cells #[.int .i64 (M:Int)] 3)) 22 (.slice none 0 0)).alloc (.cells #[.pointer (some ⟨b,0,none⟩)] 112)
  simpa only [World.size_alloc] using h9
 have hM0:Go.Boxed Wi w.heap.size 3 (.int .i64 (M:Int)):=by
  rw [hWi]
  exact ((Go.Boxed.new w 3 (.int .i64 (M:Int))).alloc _).alloc _
 have HM:Hid (1≤M∧M≤65537):=⟨hM,hM2⟩
 have HSq2:Hid _:=HSq.out 7 (w.heap.size+1+1) Wi (by omega) hB0 cM
 clear hWi tf hM hM2 hs cM HSq
 refine rangeX (α:=CV) rfl (by omega) (gf:=218) (lb:=#[.pointer (some ⟨w.heap.size+1+1,0,none⟩)]) rfl trivial (enters_of Tryz.func218 (by kernel_rfl) rfl)
  HSq2.out kpY_t (fun W o o' hl ho=>kpY_b (by omega) (by omega) W o o' hl ho) (Below.refl _ _) (fun _=>rfl)
  (fun pre W=>GvI w (w.heap.size+1) pre W∧Go.Boxed W w.heap.size 3 (.int .i64 (M:Int))∧pre.length<M∧pre.map CV.k <+: l) (fun c pre W=>c=.exit 0∧GvI w (w.heap.size+1) pre W∧pre.length=M∧pre.map CV.k <+: l)
  (fun s A V row hs hg hr=>⟨GvI.own w _ _ (by omega) (by omega) s A V row hs.1 hg hr,hs.2.1.kept hg (fun e=>by have:=(hr _ e.symm).1;omega),hs.2.2⟩) (fun c s A V row hs hg hr=>⟨hs.1,GvI.own w _ _ (by omega) (by omega) s A V row hs.2.1 hg hr,hs.2.2⟩) ⟨hG0,hM0,by have:=HM.out.1;simp;omega,by simp⟩
  (GvA (w.heap.size+1) l (fun x Bk=>{ tmps:=#[.pointer (some ⟨s,0,none⟩),.int .i64 (M:Int),undef,.pointer (some ⟨w.heap.size,0,none⟩),.slice none 0 0,.pointer (some ⟨w.heap.size+1,0,none⟩),.func (.func 218) #[] #[.pointer (some ⟨w.heap.size+1+1,0,none⟩)],.pointer (some ⟨Bk,0,none⟩),.pointer (some ⟨s,0,none⟩),.func (.func 218) #[] #[.pointer (some ⟨w.heap.size+1+1,0,none⟩)],.func (.func 218) #[] #[.pointer (some ⟨w.heap.size+1+1,0,none⟩)],.bool false,.bool false,.int .i64 (M:Int),.bool (decide ((M:Int)<1)),.bool (decide ((M:Int)<1)),.func (.func 218) #[] #[.pointer (some ⟨w.heap.size+1+1,0,none⟩)],.agg #[.int .i64 x.k.kind,.int .i64 x.k.num,.string x.k.text,.slice x.a1 x.k.items.length x.c1],undef,undef,undef,undef,undef,undef,undef,undef,undef,undef,undef],defers:=[] })) (fun pre x a'=>GvA.own _ _ _ (by omega) _ _ _ _) ?assign ?body ?done ?stop
 case assign=>
  rintro lp pre x V W K hI hbVW ⟨hN,hpx⟩ hK
  have hba:Below W.heap.size W (W.alloc (.cells #[.int .i64 x.k.kind,.int .i64 x.k.num,.string x.k.text,.slice x.a1 x.k.items.length x.c1] 33)):=((Grew.refl W).alloc _).below
  have hws:w.heap.size≤W.heap.size:=Nat.le_trans hI.1.2.size hbVW.size
  obtain⟨hA,hI3⟩:=GvA.make (l:=l) (f:=(fun x Bk=>{ tmps:=#[.pointer (some ⟨s,0,none⟩),.int .i64 (M:Int),undef,.pointer (some ⟨w.heap.size,0,none⟩),.slice none 0 0,.pointer (some ⟨w.heap.size+1,0,none⟩),.func (.func 218) #[] #[.pointer (some ⟨w.heap.size+1+1,0,none⟩)],.pointer (some ⟨Bk,0,none⟩),.pointer (some ⟨s,0,none⟩),.func (.func 218) #[] #[.pointer (some ⟨w.heap.size+1+1,0,none⟩)],.func (.func 218) #[] #[.pointer (some ⟨w.heap.size+1+1,0,none⟩)],.bool false,.bool false,.int .i64 (M:Int),.bool (decide ((M:Int)<1)),.bool (decide ((M:Int)<1)),.func (.func 218) #[] #[.pointer (some ⟨w.heap.size+1+1,0,none⟩)],.agg #[.int .i64 x.k.kind,.int .i64 x.k.num,.string x.k.text,.slice x.a1 x.k.items.length x.c1],undef,undef,undef,undef,undef,undef,undef,undef,undef,undef,undef],defers:=[] })) hI.1 hbVW hN hpx
  have hm9:=(hbVW.block _ hI.2.1.lt).trans hI.2.1
  have HK:Hid (K _ _):=hK _ _ ((KeepsOthers.alloc W _).from _) ⟨hba.mono hws,KBy.below hba,keepsBelowY hba⟩ ⟨hI3,(show Go.Boxed W w.heap.size 3 (.int .i64 (M:Int)) from hm9).alloc _,hI.2.2⟩ hA
  clear hK hA
  unfold encCV
  gi_wp2
  exact HK.out
 case body=>
  rintro lp pre x a' W hlp ⟨⟨⟨v',bx0,hrow,hl⟩,hB⟩,b1,hlM,hpl⟩ ⟨Bk,v,bk,hBk,bx',hnk,hLk,hpx,rfl⟩ hlt
  have hvv:v'=v:=by
   have h1:W.heap[w.heap.size+1]? = some (.cells #[v] 22 (0,0)):=bx'
   have h2:W.heap[w.heap.size+1]? = some (.cells #[v'] 22 (0,0)):=bx0
   rw [h1] at h2
   injection h2 with h2
   injection h2 with h2
   simpa using h2.symm
  subst hvv
  obtain⟨av,cv,hv⟩:∃a c,v'=.slice a pre.length c:=by
   rcases hrow.2 with ⟨rfl,e⟩|⟨g,cap,_,rfl,_⟩
   ·exact⟨none,0,by rw [e]⟩
   ·exact⟨_,_,rfl⟩
  subst hv
  obtain⟨k,hk⟩:∃k,k=pre.length:=⟨_,rfl⟩
  have hpx2:(pre++[x]).map CV.k <+: l:=by rw [List.map_append];exact hpx
  have hkl:k+1≤l.length:=by have:=hpx2.length_le;rw [List.length_map,List.length_append,←hk] at this;exact this
  have hkq:k≤65537:=by have:=HL.out;omega
  have HStep:Hid (∀(g cap:Nat) (w3:World),w3.ownsRow w.heap.size 33 4 (.slice (some ⟨g,0,none⟩) (k+1) cap) (k+1) (pre.flatMap (fun x=>encP x.p)++[.int .i64 0,.int .i64 0,.string ⟨#[]⟩,.slice none 0 0])→(W.alloc Z4V).drew.grownBy w3 (Value.slice av k cv).ownBlock→((Value.slice av k cv).ownBlock=some g∨g=(W.alloc Z4V).drew.heap.size)→_):=fun g cap w3 h1 h2 h3=>gv_step (B:=w.heap.size+1) (n1:=Wi.heap.size+2) hk (by omega) (by rw [hk];exact⟨bx',hrow,hl⟩) hB (by rw [hk];exact hLk) g cap w3 h1 h2 h3
  rw [←hk] at bx' hrow hnk hlt hlM
  obtain⟨y0,y1,y2,y3⟩:=bk.cells
  have hc:=bx'.cell
  have hBl:=bx'.lt
  have hBkl:=bk.lt
  have c4:=b1.cell
  have HB1:Hid (Go.Boxed W w.heap.size 3 (.int .i64 (M:Int))):=b1
  have hcD:W.drew.cell? ⟨w.heap.size+1,0,none⟩=some (.slice av k cv):=hc
  have d0:W.drew.cell? ⟨Bk,0,none⟩=some (.int .i64 x.k.kind):=y0
  have d1:W.drew.cell? ⟨Bk,1,none⟩=some (.int .i64 x.k.num):=y1
  have d2:W.drew.cell? ⟨Bk,2,none⟩=some (.string x.k.text):=y2
  have d3:W.drew.cell? ⟨Bk,3,none⟩=some (.slice x.a1 x.k.items.length x.c1):=y3
  have hn1 : ¬(Bk=W.heap.size):=by omega
  have hn2 : ¬(w.heap.size+1=W.heap.size):=by omega
  have HRow:Hid ((W.alloc Z4V).drew.ownsRow w.heap.size 33 4 (.slice av k cv) k (pre.flatMap (fun x=>encP x.p))):=(hrow.alloc _).drew
  have Hbs:Hid (w.heap.size≤(W.alloc Z4V).drew.heap.size):=by
   have:=hB.size
   show _≤_
   simp
   omega
  have Hxl:Hid ((pre.flatMap (fun x=>encP x.p)).length=k*4):=hrow.1
  have HP:Hid ((pre++[x]).map CV.k <+: l):=hpx2
  have Hk:Hid (k=pre.length):=hk
  have hmx:Tryz.prog.follows .mixedOrders=true:=by kernel_rfl
  have hkk:((k:Nat):Int)<(k:Nat)+1:=by omega
  clear hrow bx' bx0 bk hB hlp hlt hk hl hLk hnk hpx hpx2 hkl b1 hpl
  by_cases hge:k+1=M
  ·have hgeI:((M:Nat):Int)≤(k:Int)+1:=by omega
   have hgeN:M≤k+1:=by omega
   have Hge:Hid (k+1=M):=hge
   clear hge hlM
   gi_wp2
   refine wpIn_region_any hmx ?_
   change wpAnyIn _ _ _ _ _ _ _ _ _ (World.drew _)
   all_goals (first|refine wpAnyIn_ready (rs:=[0,1,3]) (by decide +kernel) (by simp) (AllReadyIn.cons rfl (fun K hK=>?_) (AllReadyIn.cons rfl (fun K hK=>?_) (AllReadyIn.cons rfl (fun K hK=>?_) AllReadyIn.nil))))
   all_goals (go_simp;refine hK _ _ ?_;clear hK K)
   all_goals (first|refine wpAnyIn_ready (rs:=[1,2,3]) (by decide +kernel) (by simp) (AllReadyIn.cons rfl (fun K hK=>?_) (AllReadyIn.cons rfl (fun K hK=>?_) (AllReadyIn.cons rfl (fun K hK=>?_) AllReadyIn.nil)))|refine wpAnyIn_ready (rs:=[0,3]) (by decide +kernel) (by simp) (AllReadyIn.cons rfl (fun K hK=>?_) (AllReadyIn.cons rfl (fun K hK=>?_) AllReadyIn.nil))|refine wpAnyIn_ready (rs:=[0,1]) (by decide +kernel) (by simp) (AllReadyIn.cons rfl (fun K hK=>?_) (AllReadyIn.cons rfl (fun K hK=>?_) AllReadyIn.nil)))
   all_goals (go_simp;refine hK _ _ ?_;clear hK K)
   all_goals (first|refine wpAnyIn_ready (rs:=[2,3]) (by decide +kernel) (by simp) (AllReadyIn.cons rfl (fun K hK=>?_) (AllReadyIn.cons rfl (fun K hK=>?_) AllReadyIn.nil))|refine wpAnyIn_ready (rs:=[1,3]) (by decide +kernel) (by simp) (AllReadyIn.cons rfl (fun K hK=>?_) (AllReadyIn.cons rfl (fun K hK=>?_) AllReadyIn.nil))|refine wpAnyIn_ready (rs:=[1,2]) (by decide +kernel) (by simp) (AllReadyIn.cons rfl (fun K hK=>?_) (AllReadyIn.cons rfl (fun K hK=>?_) AllReadyIn.nil))|refine wpAnyIn_ready (rs:=[0]) (by decide +kernel) (by simp) (AllReadyIn.cons rfl (fun K hK=>?_) AllReadyIn.nil))
   all_goals (go_simp;refine hK _ _ ?_;clear hK K)
   all_goals (first|refine wpAnyIn_ready (rs:=[3]) (by decide +kernel) (by simp) (AllReadyIn.cons rfl (fun K hK=>?_) AllReadyIn.nil)|refine wpAnyIn_ready (rs:=[2]) (by decide +kernel) (by simp) (AllReadyIn.cons rfl (fun K hK=>?_) AllReadyIn.nil)|refine wpAnyIn_ready (rs:=[1]) (by decide +kernel) (by simp) (AllReadyIn.cons rfl (fun K hK=>?_) AllReadyIn.nil))
   all_goals (go_simp;refine hK _ _ ?_;clear hK K)
   all_goals refine ?restV9
   refine wpAnyIn_ready (rs:=[4]) (by kernel_rfl) (by simp) ?_
   refine AllReadyIn.cons rfl (fun K hK=>?_) ?_
   ·refine appV_step rfl _ _ rfl w.heap.size (.slice av k cv) k (pre.flatMap (fun x=>encP x.p)) rfl HRow.out _ rfl (by simp) (by simp) (by simp) (by simp) hkq Hbs.out ?_
    intro g3 cap3 w3 hown3 hgrow3 hg3 hgl3
    obtain⟨hbx3,hboxes,hgB,hstep⟩:=HStep.out g3 cap3 w3 hown3 hgrow3 hg3
    have hm3:=(hboxes _ _ _ HB1.out).1.cell
    have hgn2 : ¬(w.heap.size=g3):=fun e=>(hboxes _ _ _ HB1.out).2 e.symm
    have hc3:=hbx3.cell
    have hf3:=hbx3.frozen
    have hgB2 : ¬(w.heap.size+1=g3):=fun e=>hgB e.symm
    have q0:=hown3.cellAt (k*4) (by omega)
    have q1:=hown3.cellAt (k*4+1) (by omega)
    have q2:=hown3.cellAt (k*4+2) (by omega)
    have q3:=hown3.cellAt (k*4+3) (by omega)
    rw [List.getElem?_append_right (by rw [Hxl.out];omega),Hxl.out] at q0 q1 q2 q3
    simp only [Nat.sub_self,Nat.add_sub_cancel_left,List.getElem?_cons_zero,List.getElem?_cons_succ] at q0 q1 q2 q3
    have z0:=hown3.frozenAt (k*4)
    have z1:=hown3.frozenAt (k*4+1)
    have z2:=hown3.frozenAt (k*4+2)
    have z3:=hown3.frozenAt (k*4+3)
    have Hst:Hid _:=hstep
    clear hown3 hgrow3 hg3 hstep hboxes
    refine hK _ _ ?_
    clear hK K
    refine wpAnyIn_ready (rs:=[5,7]) (by kernel_rfl) (by simp) ?_
    refine AllReadyIn.cons rfl (fun K hK=>?_) ?_
    ·go_simp
     refine hK _ _ ?_
     clear hK K
     refine wpAnyIn_ready (rs:=[6,7]) (by kernel_rfl) (by simp) ?_
     refine AllReadyIn.cons rfl (fun K hK=>?_) ?_
     ·go_simp
      refine hK _ _ ?_
      clear hK K
      refine wpAnyIn_ready (rs:=[7]) (by kernel_rfl) (by simp) ?_
      refine AllReadyIn.cons rfl (fun K hK=>?_) ?_
      ·go_simp
       refine hK _ _ ?_
       clear hK K
       refine wpAnyIn_done (by kernel_rfl) ?_ _
       gi_wp2
       obtain⟨k1,k2,k3,k4⟩:=Hst.out _ (Or.inl rfl)
       exact⟨k1.from _,k2,rfl,⟨⟨_,k3⟩,k4⟩,by rw [List.length_append,←Hk.out,←Hge.out];rfl,HP.out⟩
      exact AllReadyIn.nil
     refine AllReadyIn.cons rfl (fun K hK=>?_) ?_
     ·go_simp
      refine hK _ _ ?_
      clear hK K
      refine wpAnyIn_ready (rs:=[6]) (by kernel_rfl) (by simp) ?_
      refine AllReadyIn.cons rfl (fun K hK=>?_) ?_
      ·go_simp
       refine hK _ _ ?_
       clear hK K
       refine wpAnyIn_done (by kernel_rfl) ?_ _
       gi_wp2
       obtain⟨k1,k2,k3,k4⟩:=Hst.out _ (Or.inr rfl)
       exact⟨k1.from _,k2,rfl,⟨⟨_,k3⟩,k4⟩,by rw [List.length_append,←Hk.out,←Hge.out];rfl,HP.out⟩
      exact AllReadyIn.nil
     exact AllReadyIn.nil
    refine AllReadyIn.cons rfl (fun K hK=>?_) ?_
    ·go_simp
     refine hK _ _ ?_
     clear hK K
     refine wpAnyIn_ready (rs:=[5]) (by kernel_rfl) (by simp) ?_
     refine AllReadyIn.cons rfl (fun K hK=>?_) ?_
     ·go_simp
      refine hK _ _ ?_
      clear hK K
      refine wpAnyIn_ready (rs:=[6]) (by kernel_rfl) (by simp) ?_
      refine AllReadyIn.cons rfl (fun K hK=>?_) ?_
      ·go_simp
       refine hK _ _ ?_
       clear hK K
       refine wpAnyIn_done (by kernel_rfl) ?_ _
       gi_wp2
       obtain⟨k1,k2,k3,k4⟩:=Hst.out _ (Or.inr rfl)
       exact⟨k1.from _,k2,rfl,⟨⟨_,k3⟩,k4⟩,by rw [List.length_append,←Hk.out,←Hge.out];rfl,HP.out⟩
      exact AllReadyIn.nil
     exact AllReadyIn.nil
    exact AllReadyIn.nil
   exact AllReadyIn.nil
  ·have hgeI : ¬((M:Nat):Int)≤(k:Int)+1:=by omega
   have hgeN : ¬M≤k+1:=by omega
   have HgeN:Hid (¬M≤k+1):=hgeN
   clear hge hlM
   gi_wp2
   refine wpIn_region_any hmx ?_
   change wpAnyIn _ _ _ _ _ _ _ _ _ (World.drew _)
   all_goals (first|refine wpAnyIn_ready (rs:=[0,1,3]) (by decide +kernel) (by simp) (AllReadyIn.cons rfl (fun K hK=>?_) (AllReadyIn.cons rfl (fun K hK=>?_) (AllReadyIn.cons rfl (fun K hK=>?_) AllReadyIn.nil))))
   all_goals (go_simp;refine hK _ _ ?_;clear hK K)
   all_goals (first|refine wpAnyIn_ready (rs:=[1,2,3]) (by decide +kernel) (by simp) (AllReadyIn.cons rfl (fun K hK=>?_) (AllReadyIn.cons rfl (fun K hK=>?_) (AllReadyIn.cons rfl (fun K hK=>?_) AllReadyIn.nil)))|refine wpAnyIn_ready (rs:=[0,3]) (by decide +kernel) (by simp) (AllReadyIn.cons rfl (fun K hK=>?_) (AllReadyIn.cons rfl (fun K hK=>?_) AllReadyIn.nil))|refine wpAnyIn_ready (rs:=[0,1]) (by decide +kernel) (by simp) (AllReadyIn.cons rfl (fun K hK=>?_) (AllReadyIn.cons rfl (fun K hK=>?_) AllReadyIn.nil)))
   all_goals (go_simp;refine hK _ _ ?_;clear hK K)
   all_goals (first|refine wpAnyIn_ready (rs:=[2,3]) (by decide +kernel) (by simp) (AllReadyIn.cons rfl (fun K hK=>?_) (AllReadyIn.cons rfl (fun K hK=>?_) AllReadyIn.nil))|refine wpAnyIn_ready (rs:=[1,3]) (by decide +kernel) (by simp) (AllReadyIn.cons rfl (fun K hK=>?_) (AllReadyIn.cons rfl (fun K hK=>?_) AllReadyIn.nil))|refine wpAnyIn_ready (rs:=[1,2]) (by decide +kernel) (by simp) (AllReadyIn.cons rfl (fun K hK=>?_) (AllReadyIn.cons rfl (fun K hK=>?_) AllReadyIn.nil))|refine wpAnyIn_ready (rs:=[0]) (by decide +kernel) (by simp) (AllReadyIn.cons rfl (fun K hK=>?_) AllReadyIn.nil))
   all_goals (go_simp;refine hK _ _ ?_;clear hK K)
   all_goals (first|refine wpAnyIn_ready (rs:=[3]) (by decide +kernel) (by simp) (AllReadyIn.cons rfl (fun K hK=>?_) AllReadyIn.nil)|refine wpAnyIn_ready (rs:=[2]) (by decide +kernel) (by simp) (AllReadyIn.cons rfl (fun K hK=>?_) AllReadyIn.nil)|refine wpAnyIn_ready (rs:=[1]) (by decide +kernel) (by simp) (AllReadyIn.cons rfl (fun K hK=>?_) AllReadyIn.nil))
   all_goals (go_simp;refine hK _ _ ?_;clear hK K)
   all_goals refine ?restW9
   refine wpAnyIn_ready (rs:=[4]) (by kernel_rfl) (by simp) ?_
   refine AllReadyIn.cons rfl (fun K hK=>?_) ?_
   ·refine appV_step rfl _ _ rfl w.heap.size (.slice av k cv) k (pre.flatMap (fun x=>encP x.p)) rfl HRow.out _ rfl (by simp) (by simp) (by simp) (by simp) hkq Hbs.out ?_
    intro g3 cap3 w3 hown3 hgrow3 hg3 hgl3
    obtain⟨hbx3,hboxes,hgB,hstep⟩:=HStep.out g3 cap3 w3 hown3 hgrow3 hg3
    have hm3:=(hboxes _ _ _ HB1.out).1.cell
    have hgn2 : ¬(w.heap.size=g3):=fun e=>(hboxes _ _ _ HB1.out).2 e.symm
    have hc3:=hbx3.cell
    have hf3:=hbx3.frozen
    have hgB2 : ¬(w.heap.size+1=g3):=fun e=>hgB e.symm
    have q0:=hown3.cellAt (k*4) (by omega)
    have q1:=hown3.cellAt (k*4+1) (by omega)
    have q2:=hown3.cellAt (k*4+2) (by omega)
    have q3:=hown3.cellAt (k*4+3) (by omega)
    rw [List.getElem?_append_right (by rw [Hxl.out];omega),Hxl.out] at q0 q1 q2 q3
    simp only [Nat.sub_self,Nat.add_sub_cancel_left,List.getElem?_cons_zero,List.getElem?_cons_succ] at q0 q1 q2 q3
    have z0:=hown3.frozenAt (k*4)
    have z1:=hown3.frozenAt (k*4+1)
    have z2:=hown3.frozenAt (k*4+2)
    have z3:=hown3.frozenAt (k*4+3)
    have Hst:Hid _:=hstep
    clear hown3 hgrow3 hg3 hstep hboxes
    refine hK _ _ ?_
    clear hK K
    refine wpAnyIn_ready (rs:=[5,7]) (by kernel_rfl) (by simp) ?_
    refine AllReadyIn.cons rfl (fun K hK=>?_) ?_
    ·go_simp
     refine hK _ _ ?_
     clear hK K
     refine wpAnyIn_ready (rs:=[6,7]) (by kernel_rfl) (by simp) ?_
     refine AllReadyIn.cons rfl (fun K hK=>?_) ?_
     ·go_simp
      refine hK _ _ ?_
      clear hK K
      refine wpAnyIn_ready (rs:=[7]) (by kernel_rfl) (by simp) ?_
      refine AllReadyIn.cons rfl (fun K hK=>?_) ?_
      ·go_simp
       refine hK _ _ ?_
       clear hK K
       refine wpAnyIn_done (by kernel_rfl) ?_ _
       gi_wp2
       obtain⟨k1,k2,k3,k4⟩:=Hst.out _ (Or.inl rfl)
       exact⟨k1.from _,k2,⟨⟨_,k3⟩,k4⟩,k2.2.1 _ _ _ (by decide) HB1.out,by rw [List.length_append,←Hk.out];have:=HgeN.out;simp;omega,HP.out⟩
      exact AllReadyIn.nil
     refine AllReadyIn.cons rfl (fun K hK=>?_) ?_
     ·go_simp
      refine hK _ _ ?_
      clear hK K
      refine wpAnyIn_ready (rs:=[6]) (by kernel_rfl) (by simp) ?_
      refine AllReadyIn.cons rfl (fun K hK=>?_) ?_
      ·go_simp
       refine hK _ _ ?_
       clear hK K
       refine wpAnyIn_done (by kernel_rfl) ?_ _
       gi_wp2
       obtain⟨k1,k2,k3,k4⟩:=Hst.out _ (Or.inr rfl)
       exact⟨k1.from _,k2,⟨⟨_,k3⟩,k4⟩,k2.2.1 _ _ _ (by decide) HB1.out,by rw [List.length_append,←Hk.out];have:=HgeN.out;simp;omega,HP.out⟩
      exact AllReadyIn.nil
     exact AllReadyIn.nil
    refine AllReadyIn.cons rfl (fun K hK=>?_) ?_
    ·go_simp
     refine hK _ _ ?_
     clear hK K
     refine wpAnyIn_ready (rs:=[5]) (by kernel_rfl) (by simp) ?_
     refine AllReadyIn.cons rfl (fun K hK=>?_) ?_
     ·go_simp
      refine hK _ _ ?_
      clear hK K
      refine wpAnyIn_ready (rs:=[6]) (by kernel_rfl) (by simp) ?_
      refine AllReadyIn.cons rfl (fun K hK=>?_) ?_
      ·go_simp
       refine hK _ _ ?_
       clear hK K
       refine wpAnyIn_done (by kernel_rfl) ?_ _
       gi_wp2
       obtain⟨k1,k2,k3,k4⟩:=Hst.out _ (Or.inr rfl)
       exact⟨k1.from _,k2,⟨⟨_,k3⟩,k4⟩,k2.2.1 _ _ _ (by decide) HB1.out,by rw [List.length_append,←Hk.out];have:=HgeN.out;simp;omega,HP.out⟩
      exact AllReadyIn.nil
     exact AllReadyIn.nil
    exact AllReadyIn.nil
   exact AllReadyIn.nil
 case done=>
  rintro D pre W hD hxs ⟨⟨⟨v,hR⟩,hB⟩,b1,hlM,hpl⟩ hK
  have htk:pre.map CV.k=l.take M:=by rw [←hxs,List.take_of_length_le (by rw [List.length_map];omega)]
  have hpl2:pre.length≤65536:=by have:=congrArg List.length htk;rw [List.length_map] at this;rw [List.length_take] at this;have:=HL.out;omega
  have hS:SlP w.heap.size 16 W (pre.map CV.p) v:=hR.slp hpl2
  obtain⟨av,cv,rfl,_⟩:=hS.slice
  obtain⟨NL,hNL⟩:∃NL,NL=(pre.map CV.p).length:=⟨_,rfl⟩
  rw [←hNL] at hS hR
  have hc:=hR.1.cell
  have HS:Hid (SlP w.heap.size 16 W (pre.map CV.p) (.slice av NL cv)∧Below w.heap.size w W):=⟨hS,hB⟩
  have HMk:Hid (MarksX w.heap.size W [D]):=MarksX.one (by omega) hK
  have HT:Hid ((pre.map CV.p).map (·.1)=l.take M):=by rw [map_p_k];exact htk
  clear hR hS hB hK hNL htk b1
  gi_wp2
  refine leavesX w.heap.size (fun V=>SlP w.heap.size 16 V (pre.map CV.p) (.slice av NL cv)∧Below w.heap.size w V) (fun V D hD hK hT=>⟨slp_putObj hT.1 hK rfl,hT.2.trans (below_putX hD)⟩) (fun V hT=>⟨.slice av NL cv,by simp [results,Tryz.results67,go_sem],hT.2,_,_,rfl,HT.out,hT.1⟩) [D] _ HMk.out HS.out
 case stop=>
  rintro D c pre W hD _ ⟨rfl,⟨⟨v,hR⟩,hB⟩,hlM,hpl⟩ hK
  have htk:pre.map CV.k=l.take M:=by rw [List.prefix_iff_eq_take.1 hpl,List.length_map,hlM]
  have hpl2:pre.length≤65536:=by have:=congrArg List.length htk;rw [List.length_map] at this;rw [List.length_take] at this;have:=HL.out;omega
  have hS:SlP w.heap.size 16 W (pre.map CV.p) v:=hR.slp hpl2
  obtain⟨av,cv,rfl,_⟩:=hS.slice
  obtain⟨NL,hNL⟩:∃NL,NL=(pre.map CV.p).length:=⟨_,rfl⟩
  rw [←hNL] at hS hR
  have hc:=hR.1.cell
  have HS:Hid (SlP w.heap.size 16 W (pre.map CV.p) (.slice av NL cv)∧Below w.heap.size w W):=⟨hS,hB⟩
  have HMk:Hid (MarksX w.heap.size W [D]):=MarksX.one (by omega) hK
  have HT:Hid ((pre.map CV.p).map (·.1)=l.take M):=by rw [map_p_k];exact htk
  clear hR hS hB hK hNL htk 
  gi_wp2
  refine leavesX w.heap.size (fun V=>SlP w.heap.size 16 V (pre.map CV.p) (.slice av NL cv)∧Below w.heap.size w V) (fun V D hD hK hT=>⟨slp_putObj hT.1 hK rfl,hT.2.trans (below_putX hD)⟩) (fun V hT=>⟨.slice av NL cv,by simp [results,Tryz.results67,go_sem],hT.2,_,_,rfl,HT.out,hT.1⟩) [D] _ HMk.out HS.out
theorem sgoneM_16 {w:World} {q:Nat} {l:List PT} {s:Nat} (h:SC w q l s) (M:Nat) (hM:1≤M) (hM2:M≤65537):Calls Tryz.prog 67 #[.pointer (some ⟨s,0,none⟩),.int .i64 (M:Int)] w (ItPost w.heap.size ((l.map (·.1)).take M) w):=by
 obtain⟨b,hs,hl,hq⟩:=h.seq
 exact sgone_16 (l.map (·.1)) (by rw [List.length_map];exact hl) M hM hM2 s b w hs hq
end Go.Proofs.YtlnecfjnffdciabGreat

namespace Go.Proofs.YtlnecfjnffdciabGreat
open Go.RowKit Go.Shelf
theorem right_nil (d:Nat):zab d nilT=true:=by
 rw [←rightV_any nilT (Dp.of_lies d (default:World) nilT (.slice none 0 0) (zero_lies d _)) (Dp.of_lies 16 (default:World) nilT (.slice none 0 0) (zero_lies 16 _))]
 kernel_rfl
theorem of_good16 {d:Nat} {o:Int} {qs:List PP} {u:Value} {w:World} (hu:SlQ 0 d w qs u) (h:ofErr d o (qs.map trT)=0):∀p∈qs,Good 16 p.1.1∧Good 16 p.2.1:=by
 obtain⟨_,hp⟩:=ofErr_zero h
 obtain⟨_,hr⟩:=pErr_zero hp
 obtain⟨h16,hr16⟩:=slq_canon hu (fun p hpq=>hr (trT p) (List.mem_map_of_mem hpq))
 exact fun p hpq=>⟨⟨(hr16 p hpq).1,Dp.of_lies 16 w p.1.1 p.1.2 (h16.good p hpq).1.1⟩,⟨(hr16 p hpq).2,Dp.of_lies 16 w p.2.1 p.2.2 (h16.good p hpq).2.1⟩⟩
theorem mof_mp16 (d:Nat) (o:Int) (qs:List PP) (u:Value) (w:World) (hu:SlQ 0 d w qs u):Calls Tryz.prog 49 #[.int .i64 o,u] w (MpPost o.toNat (ofK o.toNat qs) (ofErr d o (qs.map trT)) w):=by
 refine (mof_14 d o qs u w hu).mono fun e w' h=>?_
 obtain⟨hb,⟨h0,rfl⟩|⟨h0,t,b,rfl,hm,hi⟩⟩:=h
 ·exact⟨hb,none,rfl,.inl ⟨h0,rfl⟩⟩
 ·rw [h0]
  exact⟨hb,_,rfl,.inr ⟨rfl,t,b,rfl,hm,kydO_eq (fun p hp=>(of_good16 hu h0 p hp).1) _ _ (by omega) (by omega) hm.rises hi⟩⟩
theorem keys_err {d:Nat} {o:Int} {l:List VT} (ho:zay o=0) (hl : ¬65536<l.length):ofErr d o (l.map nilP)=lookE d o l:=by
 have h1 : ¬(o<0∨6≤o):=fun h=>by unfold zay at ho;rw [if_pos h] at ho;cases ho
 unfold ofErr lookE pErr zap
 rw [if_neg (by omega),if_neg h1,if_neg (by rw [List.length_map];exact hl),if_neg hl]
 have h2:(l.map nilP).all (okP d)=l.all (zab d):=by
  rw [List.all_map]
  congr 1
  funext v
  show (zab d v&&zab d nilT)=zab d v
  rw [right_nil,Bool.and_true]
 rw [h2]
set_option maxRecDepth 100000 in
set_option maxHeartbeats 8000000 in
theorem sof_list16 (d:Nat) (o:Int) (l:List VT) (u:Value) (w:World) (hu:Lies (d+1) w l u):Calls Tryz.prog 9 #[.int .i64 o,u] w (SpPost o.toNat (setL o.toNat l) (lookE d o l) w):=by
 obtain⟨a0,c0,rfl,_⟩:=Lies.slice hu
 have HNw:Hid _:=mnew_14 o w
 by_cases ho:zay o=0
 ·have hoN:(o<0∨6≤o)=False:=by
   refine eq_false fun h=>?_
   unfold zay at ho
   rw [if_pos h] at ho
   cases ho
  rw [ho] at HNw
  by_cases hl:65536<l.length
  ·have hE:lookE d o l=2:=by unfold lookE zap;rw [if_neg (by rw [hoN];exact id),if_pos hl]
   rw [hE]
   have hli:(65536:Int)<(l.length:Nat):=by omega
   clear hu ho hoN hE hl
   generalize setL o.toNat l=SL at *
   generalize l.length=N at *
   go_enter Tryz.func9,Tryz.ntmps9
   go_wp2_with fail
   refine Calls.mono HNw.out ?_
   rintro e w1 ⟨hb,p,rfl,_⟩
   have HE:Hid (SpPost o.toNat SL 2 w (.returned (.tuple #[.pointer none,.int .i64 2])) w1):=⟨hb,none,rfl,.inl ⟨by decide,rfl⟩⟩
   clear hb HNw
   go_wp2_with fail
   go_ret2
   exact HE.out
  ·obtain⟨ps,hps,hpl,hsp⟩:=SlP.of_lies hu
   have HKy:Hid (∀V,Below w.heap.size w V→Calls Tryz.prog 59 #[.slice a0 l.length c0] V (KyPost ps d V)):=fun V hV=>keyed_16 d ps _ V (hsp.keeps hV) (by omega)
   have hmap:(ps.map keyP).map trT=l.map nilP:=by rw [keyP_map,hps]
   have HOf:Hid (∀V v,SlQ 0 d V (ps.map keyP) v→Calls Tryz.prog 49 #[.int .i64 o,v] V (MpPost o.toNat (setL o.toNat l) (lookE d o l) V)):=fun V v hv=>by
    have h9:=mof_mp16 d o (ps.map keyP) v V hv
    rw [hmap,keys_err ho hl,ofK_is,hmap] at h9
    exact h9
   have HN:Hid (Nils (setL o.toNat l)):=setL_nils _ _
   have hli : ¬(65536:Int)<(l.length:Nat):=by omega
   clear hu ho hoN hl hps hpl hsp hmap
   generalize setL o.toNat l=SL at *
   generalize lookE d o l=E at *
   generalize l.length=N at *
   go_enter Tryz.func9,Tryz.ntmps9
   go_wp2_with fail
   refine Calls.mono HNw.out ?_
   rintro e w1 ⟨hb1,p,rfl,_⟩
   clear HNw
   go_wp2_with fail
   refine Calls.mono (HKy.out _ hb1) ?_
   rintro e w2 ⟨hg2,v2,rfl,hv2⟩
   have hb2:Below w.heap.size w w2:=hb1.trans (hg2.mono hb1.size)
   have HO2:Hid _:=HOf.out w2 v2 hv2
   clear HKy HOf hg2 hv2 hb1
   go_wp2_with fail
   refine Calls.mono HO2.out ?_
   rintro e w3 ⟨hg3,p3,rfl,hp3⟩
   have HM:Hid _:=smade_16 hp3 HN.out
   have hb3:Below w.heap.size w w3:=hb2.trans (hg3.mono hb2.size)
   clear hg3 hp3 HO2 hb2
   go_wp2_with fail
   refine Calls.mono HM.out ?_
   rintro e w4 ⟨hg4,p4,rfl,hp4⟩
   have HE:Hid (SpPost o.toNat SL E w (.returned (.tuple #[.pointer p4,.int .i64 E])) w4):=⟨hb3.trans (hg4.mono hb3.size),p4,rfl,hp4⟩
   clear hg4 hp4 HM hb3
   go_wp2_with fail
   go_ret2
   exact HE.out
 ·have hE:lookE d o l=zay o:=by
   unfold lookE zay
   have h1:o<0∨6≤o:=Classical.byContradiction fun h=>ho (by unfold zay;rw [if_neg h])
   rw [if_pos h1,if_pos h1]
  rw [hE]
  have HZ:Hid (¬zay o=0):=ho
  clear hu hE ho
  generalize setL o.toNat l=SL at *
  generalize zay o=E at *
  generalize l.length=N at *
  go_enter Tryz.func9,Tryz.ntmps9
  go_wp2_with fail
  refine Calls.mono HNw.out ?_
  rintro e w1 ⟨hb,p,rfl,_⟩
  have hz:=HZ.out
  have HE:Hid (SpPost o.toNat SL E w (.returned (.tuple #[.pointer none,.int .i64 E])) w1):=⟨hb,none,rfl,.inl ⟨HZ.out,rfl⟩⟩
  clear hb HNw
  go_wp2_with fail
  go_ret2
  exact HE.out
end Go.Proofs.YtlnecfjnffdciabGreat

namespace Go.Proofs.YtlnecfjnffdciabGreat
open Go.RowKit Go.Shelf
theorem DS.len {w:World} {q:Nat} {l:List PT} {c:Nat} (h:DS w q l c):Calls Tryz.prog 75 #[.pointer (some ⟨c,0,none⟩)] w fun e w'=>e=.returned (.int .i64 (l.length:Nat))∧Below w.heap.size w w':=by
 obtain⟨m,qs,a0,c0,h0,_,h1,rfl,hs,hd⟩:=h.row
 refine (rlen_16 h0 h1).mono ?_
 rintro e w' ⟨rfl,rfl⟩
 exact⟨by rw [List.length_map],Below.refl _ _⟩
end Go.Proofs.YtlnecfjnffdciabGreat

namespace Go.Proofs.YtlnecfjnffdciabGreat
open Go.RowKit Go.Shelf
def keyO (o:Option PT):VT:=match o with|some x=>x.1|none=>zeroT
def errO (o:Option PT) (E:Int):Int:=match o with|some _=>0|none=>E
def MbPost (o:Option PT) (E:Int) (w:World) (e:Ending) (w':World):Prop:=Tells 16 (keyO o,errO o E) w e w'
theorem itemAt_natL (l:List PT) (j:Nat):zal l (j:Int)=l[j]?:=by
 unfold zal
 rw [if_pos (by omega)]
 rfl
theorem itemAt_row {qs:List PP} {j:Nat} (hj:j<qs.length):zal (qs.map trT) (j:Int)=some (trT qs[j]):=by
 rw [itemAt_natL,List.getElem?_map,List.getElem?_eq_getElem hj]
 rfl
theorem itemAt_out {qs:List PP} {i:Int} (hi:i<0∨(qs.length:Int)≤i):zal (qs.map trT) i=none:=by
 unfold zal
 split
 ·rw [List.getElem?_eq_none (by rw [List.length_map];omega)]
 ·rfl
end Go.Proofs.YtlnecfjnffdciabGreat

namespace Go.Proofs.YtlnecfjnffdciabGreat
open Go.RowKit Go.Shelf
set_option maxRecDepth 100000 in
set_option maxHeartbeats 8000000 in
theorem rat_16 {w:World} {q:Nat} {l:List PT} {c:Nat} (h:DS w q l c) (i:Int):Calls Tryz.prog 29 #[.pointer (some ⟨c,0,none⟩),.int .i64 i] w (MbPost (zal l i) 5 w):=by
 obtain⟨m,qs,a0,c0,h0,_,h1,rfl,hs,hd⟩:=h.row
 have HLn:Hid (∀V,Below w.heap.size w V→Calls Tryz.prog 75 #[.pointer (some ⟨c,0,none⟩)] V fun e w'=>e=.returned (.int .i64 (qs.length:Nat))∧Below V.heap.size V w'):=fun V hV=>by
  have h9:=(h.keeps hV).len
  rwa [List.length_map] at h9
 obtain⟨W0,hW0⟩:∃W0,W0=w.alloc (.cells #[.int .i64 0,.int .i64 0,.string ⟨#[]⟩,.slice none 0 0] 33):=⟨_,rfl⟩
 have HW0:Hid (W0=w.alloc (.cells #[.int .i64 0,.int .i64 0,.string ⟨#[]⟩,.slice none 0 0] 33)):=hW0
 have hb0:Below w.heap.size w W0:=by rw [hW0];exact ((Grew.refl w).alloc _).below
 have HK0:Hid (Bx W0 w.heap.size zeroT (.slice none 0 0)):=by rw [hW0];exact zag w zeroT _
 obtain⟨N,hN⟩:∃N,N=qs.length:=⟨_,rfl⟩
 have HN:Hid (N=qs.length):=hN
 have HSz:Hid (N≤65536):=by have:=hd.size;rw [List.length_map] at this;show _≤_;omega
 rw [←hN] at h1 hs HLn
 have HS:Hid (SlQ 0 16 w qs (.slice a0 N c0)):=hs
 clear h hs hd hN hW0
 have hb00:=hb0
 by_cases hneg:i<0
 ·have HNeg:Hid (i<0):=hneg
  go_enter Tryz.func29,Tryz.ntmps29
  go_upto_region 1 with fail
  rw [←HW0.out]
  clear HW0
  obtain⟨y0,y1,y2,y3,z0,z1,z2,z3⟩:=HK0.out
  have Hbx:Hid (Bx (W0.setCells w.heap.size 0 (encP (zeroT,.slice none 0 0))) w.heap.size zeroT (.slice none 0 0)):=HK0.out.put (zeroT,.slice none 0 0)
  have Hbl:Hid (Below w.heap.size w (W0.setCells w.heap.size 0 (encP (zeroT,.slice none 0 0)))):=zas hb0 (Nat.le_refl _) (zeroT,.slice none 0 0)
  have HT:Hid (MbPost (zal (qs.map trT) i) 5 w (.returned (.tuple #[.agg #[.int .i64 0,.int .i64 0,.string ⟨#[]⟩,.slice none 0 0],.int .i64 5])) (W0.setCells w.heap.size 0 (encP (zeroT,.slice none 0 0)))):=by
   have hO:zal (qs.map trT) i=none:=itemAt_out (.inl HNeg.out)
   rw [hO]
   exact tells_zero _ _ Hbl.out
  clear HLn HS HN h0 h1 hb0 hb00
  go_wp2_with fail
  refine bodyPost_ret (v:=.tuple #[.agg #[.int .i64 0,.int .i64 0,.string ⟨#[]⟩,.slice none 0 0],.int .i64 5]) ?_ rfl HT.out
  obtain⟨q0,q1,q2,q3,_,_,_,_⟩:=Hbx.out
  simp only [encP,World.setCells,Nat.zero_add,Nat.reduceAdd] at q0 q1 q2 q3
  simp [results,Tryz.results29,go_sem,q0,q1,q2,q3]
 ·have hneg2 : ¬(i<0):=hneg
  obtain⟨J1,hJ1⟩:∃J1:Nat,i=(J1:Int):=⟨i.toNat,by omega⟩
  subst hJ1
  clear hneg
  by_cases hz:J1<N
  ·have hzI : ¬(N:Int)≤(J1:Int):=by omega
   have hjN:(J1:Int)<(N:Int):=by omega
   have hj0:(0:Int)≤(J1:Int):=by omega
   have hjq:J1<qs.length:=by have:=HN.out;omega
   obtain⟨a1,c1,a2,c2,b,o,rfl,hl1,hl2,p0,p1,p2,p3,_,_,_,_⟩:=row_pair14 HS.out (j:=J1) hjq
   obtain⟨x,hx⟩:∃x,x=trT qs[J1]:=⟨_,rfl⟩
   rw [←hx] at hl1 p0 p1 p2 p3
   have hOx:zal (qs.map trT) ((J1:Nat):Int)=some x:=by rw [hx];exact itemAt_row hjq
   clear hx hl2
   clear hz
   have HLc:=show Hid _ from HLn.out W0 hb0
   go_enter Tryz.func29,Tryz.ntmps29
   go_upto_region 1 with fail
   rw [←HW0.out]
   clear HW0
   go_wp2_with fail
   refine Calls.mono HLc.out ?_
   rintro e w1 ⟨rfl,hg1⟩
   have hb1:Below w.heap.size w w1:=hb0.trans (hg1.mono hb0.size)
   have HK1:Hid (Bx w1 w.heap.size zeroT (.slice none 0 0)):=HK0.out.keeps hg1
   clear hg1 HLc HK0 hb0 hb00
   obtain⟨y0,y1,y2,y3,z0,z1,z2,z3⟩:=HK1.out
   have p0:=zaa hb1 p0;have p1:=zaa hb1 p1;have p2:=zaa hb1 p2;have p3:=zaa hb1 p3
   have k0:=zaa hb1 h0;have k1:=zaa hb1 h1
   have HL:Hid (Lies 16 w1 x.1.items (.slice a1 x.1.items.length c1)):=Lies.keeps hb1 _ _ _ hl1
   have Hbx:Hid (Bx (w1.setCells w.heap.size 0 (encP (x.1,.slice a1 x.1.items.length c1))) w.heap.size x.1 (.slice a1 x.1.items.length c1)):=HK1.out.put (x.1,.slice a1 x.1.items.length c1)
   have Hbl:Hid (Below w.heap.size w (w1.setCells w.heap.size 0 (encP (x.1,.slice a1 x.1.items.length c1)))):=zas hb1 (Nat.le_refl _) (x.1,.slice a1 x.1.items.length c1)
   have Hfin:Hid (Lies 16 (w1.setCells w.heap.size 0 (encP (x.1,.slice a1 x.1.items.length c1))) x.1.items (.slice a1 x.1.items.length c1)):=by
    have h9:=((LiesX.of_lies hl1).keeps hb1).mono (Y:=fun b=>b≠w.heap.size) (fun b (h:b<w.heap.size)=>by omega)
    exact (LiesX.set (g:=w.heap.size) (fun h=>h rfl) h9).lies
   have HT:Hid (MbPost (zal (qs.map trT) ((J1:Nat):Int)) 5 w (.returned (.tuple #[.agg #[.int .i64 x.1.kind,.int .i64 x.1.num,.string x.1.text,.slice a1 x.1.items.length c1],.int .i64 0])) (w1.setCells w.heap.size 0 (encP (x.1,.slice a1 x.1.items.length c1)))):=by
    have hO:zal (qs.map trT) ((J1:Nat):Int)=some x:=hOx
    rw [hO]
    exact⟨_,rfl,Hfin.out,Hbl.out⟩
   clear HLn HS HN h0 h1 hb1 hl1 HL hOx
   go_wp2_with fail
   refine bodyPost_ret (v:=.tuple #[.agg #[.int .i64 x.1.kind,.int .i64 x.1.num,.string x.1.text,.slice a1 x.1.items.length c1],.int .i64 0]) ?_ rfl HT.out
   obtain⟨q0,q1,q2,q3,_,_,_,_⟩:=Hbx.out
   simp only [encP,World.setCells,Nat.zero_add,Nat.reduceAdd] at q0 q1 q2 q3
   simp [results,Tryz.results29,go_sem,q0,q1,q2,q3]
  ·have hzI:(N:Int)≤(J1:Int):=by omega
   have HZ:Hid (N≤J1):=by show _≤_;omega
   clear hz
   have HLc:=show Hid _ from HLn.out W0 hb0
   go_enter Tryz.func29,Tryz.ntmps29
   go_upto_region 1 with fail
   rw [←HW0.out]
   clear HW0
   go_wp2_with fail
   refine Calls.mono HLc.out ?_
   rintro e w1 ⟨rfl,hg1⟩
   have hb1:Below w.heap.size w w1:=hb0.trans (hg1.mono hb0.size)
   have HK1:Hid (Bx w1 w.heap.size zeroT (.slice none 0 0)):=HK0.out.keeps hg1
   clear hg1 HLc HK0 hb0 hb00
   obtain⟨y0,y1,y2,y3,z0,z1,z2,z3⟩:=HK1.out
   have Hbx:Hid (Bx (w1.setCells w.heap.size 0 (encP (zeroT,.slice none 0 0))) w.heap.size zeroT (.slice none 0 0)):=HK1.out.put (zeroT,.slice none 0 0)
   have Hbl:Hid (Below w.heap.size w (w1.setCells w.heap.size 0 (encP (zeroT,.slice none 0 0)))):=zas hb1 (Nat.le_refl _) (zeroT,.slice none 0 0)
   have HT:Hid (MbPost (zal (qs.map trT) ((J1:Nat):Int)) 5 w (.returned (.tuple #[.agg #[.int .i64 0,.int .i64 0,.string ⟨#[]⟩,.slice none 0 0],.int .i64 5])) (w1.setCells w.heap.size 0 (encP (zeroT,.slice none 0 0)))):=by
    have hO:zal (qs.map trT) ((J1:Nat):Int)=none:=itemAt_out (.inr (by have:=HN.out;have:=HZ.out;omega))
    rw [hO]
    exact tells_zero _ _ Hbl.out
   clear HLn HS HN h0 h1 hb1
   go_wp2_with fail
   refine bodyPost_ret (v:=.tuple #[.agg #[.int .i64 0,.int .i64 0,.string ⟨#[]⟩,.slice none 0 0],.int .i64 5]) ?_ rfl HT.out
   obtain⟨q0,q1,q2,q3,_,_,_,_⟩:=Hbx.out
   simp only [encP,World.setCells,Nat.zero_add,Nat.reduceAdd] at q0 q1 q2 q3
   simp [results,Tryz.results29,go_sem,q0,q1,q2,q3]
end Go.Proofs.YtlnecfjnffdciabGreat

namespace Go.Proofs.YtlnecfjnffdciabGreat
open Go.RowKit Go.Shelf
theorem up_place {q:Nat} {y:VT} {l:List PT} {r:Nat} (h:PlK q y l r):upS q y l=r:=by
 unfold upS
 have e:l.filter (RT.ahead (atK q y) false)=l.filter (fun a=>decide (0<atK q y a)):=by
  refine List.filter_congr fun x _=>?_
  unfold RT.ahead
  simp
 rw [e,←h.take,List.length_take]
 have:=h.le
 omega
def upE (q:Nat) (y:VT) (l:List PT):Nat:=(l.filter (RT.ahead (atK q y) true)).length
theorem upE_split (q:Nat) (y:VT) (l:List PT):upE q y l+(l.filter (fun a=>decide (atK q y a<0))).length=l.length:=by
 unfold upE
 induction l with
 | nil=>rfl
 | cons a l ih=>
  by_cases h:atK q y a<0
  ·have h1:RT.ahead (atK q y) true a=false:=by unfold RT.ahead;simp;omega
   rw [List.filter_cons_of_neg (by rw [h1];simp),List.filter_cons_of_pos (by simpa using h)]
   simp only [List.length_cons]
   omega
  ·have h1:RT.ahead (atK q y) true a=true:=by unfold RT.ahead;simp;omega
   rw [List.filter_cons_of_pos h1,List.filter_cons_of_neg (by simpa using h)]
   simp only [List.length_cons]
   omega
theorem upE_place {q:Nat} {y:VT} {l:List PT} {r:Nat} {F:Bool} (h:PlK q y l r) (hf:FzP q y l r F) (hs:RT.Rises (byK q) l):upE q y l=if F=true then r+1 else r:=by
 have h9:=upE_split q y l
 have hle:=h.le
 cases F with
 | true=>
  obtain⟨hr,hz⟩:=hf.1 rfl
  rw [←(h.some_at hs hr hz).1,List.length_drop] at h9
  rw [if_pos rfl]
  omega
 | false=>
  rw [←(h.none_at hs (hf.2 rfl)).1,List.length_drop] at h9
  rw [if_neg (by simp)]
  omega
def AhPost (q:Nat) (y:VT) (l:List PT) (w:World) (e:Ending) (w':World):Prop:=Below w.heap.size w w'∧∃F:Bool,e=.returned (.tuple #[.int .i64 (upS q y l:Nat),.bool F])∧upE q y l=if F=true then upS q y l+1 else upS q y l
set_option maxRecDepth 100000 in
set_option maxHeartbeats 8000000 in
theorem rahead_14 {w:World} {q:Nat} {l:List PT} {c:Nat} (h:DM w q l c) (y:VT) (yu:Value) (hy:Lies 16 w y.items yu) (hyr:zab 16 y=true) :
 Calls Tryz.prog 87 #[.pointer (some ⟨c,0,none⟩),.agg #[.int .i64 y.kind,.int .i64 y.num,.string y.text,yu]] w (AhPost q y l w):=by
 obtain⟨ay,cy,rfl,_⟩:=Lies.slice hy
 obtain⟨W0,hW0⟩:∃W0,W0=w.alloc (.cells #[.int .i64 y.kind,.int .i64 y.num,.string y.text,.slice ay y.items.length cy] 33):=⟨_,rfl⟩
 have hb0:Below w.heap.size w W0:=by rw [hW0];exact ((Grew.refl w).alloc _).below
 have HY0:Hid (Bx W0 w.heap.size y (.slice ay y.items.length cy)):=by rw [hW0];exact zag _ _ _
 have HP:Hid (Calls Tryz.prog 141 #[.pointer (some ⟨c,0,none⟩),.agg #[.int .i64 y.kind,.int .i64 y.num,.string y.text,.slice ay y.items.length cy]] W0 (PlPost q y l W0)):=rplc_14 (h.keeps hb0) y _ (Lies.keeps hb0 _ _ _ hy) hyr
 have HRs:Hid (RT.Rises (byK q) l):=h.rises
 clear h hy
 go_enter Tryz.func87,Tryz.ntmps87
 obtain⟨r0,r1,r2,r3,_,_,_,_⟩:=HY0.out
 go_wp2_with fail
 rw [←hW0]
 clear hW0
 go_wp2_with fail
 refine Calls.mono HP.out ?_
 rintro e w1 ⟨hg1,r,F,rfl,hpl,hfz⟩
 have HE:Hid (AhPost q y l w (.returned (.tuple #[.int .i64 (r:Nat),.bool F])) w1):=⟨hb0.trans (hg1.mono hb0.size),F,by rw [up_place hpl],by rw [up_place hpl];exact upE_place hpl hfz HRs.out⟩
 clear r0 r1 r2 r3 HP HY0 hg1 hb0 hpl hfz
 go_wp2_with fail
 go_ret2
 exact HE.out
set_option maxRecDepth 100000 in
set_option maxHeartbeats 8000000 in
theorem rrank_16 {w0 w:World} {q:Nat} {l:List PT} {c:Nat} (h0:DS w0 q l c) (hw0:Below w0.heap.size w0 w) (d:Nat) (y:VT) (yu:Value) (hy:Lies d w y.items yu):Calls Tryz.prog 31 #[.pointer (some ⟨c,0,none⟩),.agg #[.int .i64 y.kind,.int .i64 y.num,.string y.text,yu]] w (RkPost (rankN d q y l) (errOf (zab d y)) w):=by
 have h:=h0.keeps hw0
 obtain⟨m,hs,hm,hn⟩:=h
 obtain⟨ay,cy,rfl,_⟩:=Lies.slice hy
 obtain⟨W0,hW0⟩:∃W0,W0=w.alloc (.cells #[.int .i64 y.kind,.int .i64 y.num,.string y.text,.slice ay y.items.length cy] 33):=⟨_,rfl⟩
 have hb0:Below w.heap.size w W0:=by rw [hW0];exact ((Grew.refl w).alloc _).below
 have HY0:Hid (Bx W0 w.heap.size y (.slice ay y.items.length cy)):=by rw [hW0];exact zag _ _ _
 have HR:Hid (Calls Tryz.prog 79 #[.agg #[.int .i64 y.kind,.int .i64 y.num,.string y.text,.slice ay y.items.length cy]] W0 fun e w'=>e=.returned (.bool (zab d y))∧Below W0.heap.size W0 w'):=right_any d y _ W0 (Lies.keeps hb0 _ _ _ hy)
 have HA:Hid (zab d y=true→∀V,Below w.heap.size w V→Calls Tryz.prog 87 #[.pointer (some ⟨m,0,none⟩),.agg #[.int .i64 y.kind,.int .i64 y.num,.string y.text,.slice ay y.items.length cy]] V (AhPost q y l V)):=fun hr V hV=>by
  obtain⟨h1,h2⟩:=canon hy hr
  exact rahead_14 (hm.keeps hV) y _ (Lies.keeps hV _ _ _ h1) h2
 clear hy h0 hw0 hm hn
 cases hr:zab d y with
 | false=>
  have HRr:Hid (rankN d q y l=0):=by show _=_;unfold rankN;rw [hr];rfl
  rw [hr] at HR
  clear HA hr
  go_enter Tryz.func31,Tryz.ntmps31
  obtain⟨r0,r1,r2,r3,_,_,_,_⟩:=HY0.out
  go_wp2_with fail
  rw [←hW0]
  clear hW0
  go_wp2_with fail
  refine Calls.mono HR.out ?_
  rintro e w1 ⟨rfl,hg1⟩
  have HE:Hid (RkPost (rankN d q y l) (errOf false) w (.returned (.tuple #[.int .i64 0,.int .i64 3])) w1):=by rw [HRr.out];exact⟨rfl,hb0.trans (hg1.mono hb0.size)⟩
  clear r0 r1 r2 r3 HR HY0 hg1 hb0
  go_wp2_with fail
  go_ret2
  exact HE.out
 | true=>
  have HRr:Hid (rankN d q y l=upS q y l):=by show _=_;unfold rankN;rw [if_pos hr]
  rw [hr] at HR
  have HA2:Hid (∀V,Below w.heap.size w V→Calls Tryz.prog 87 #[.pointer (some ⟨m,0,none⟩),.agg #[.int .i64 y.kind,.int .i64 y.num,.string y.text,.slice ay y.items.length cy]] V (AhPost q y l V)):=HA.out hr
  clear HA hr
  have hs0:=zaa hb0 hs
  clear hs
  go_enter Tryz.func31,Tryz.ntmps31
  obtain⟨k0,k1,k2,k3,_,_,_,_⟩:=HY0.out
  go_wp2_with fail
  rw [←hW0]
  clear hW0
  go_wp2_with fail
  refine Calls.mono HR.out ?_
  rintro e w1 ⟨rfl,hg1⟩
  have hb1:Below w.heap.size w w1:=hb0.trans (hg1.mono hb0.size)
  clear k0 k1 k2 k3
  have hs0:=zaa hg1 hs0
  obtain⟨k0,k1,k2,k3,_,_,_,_⟩:=HY0.out.keeps hg1
  clear hg1 HY0 HR hb0
  go_wp2_with fail
  go_region_held3 (fun w'=>w'.cell? ⟨c,0,none⟩=some (.pointer (some ⟨m,0,none⟩))∧w'.cell? ⟨w.heap.size,0,none⟩=some (.int .i64 y.kind)∧w'.cell? ⟨w.heap.size,1,none⟩=some (.int .i64 y.num)∧w'.cell? ⟨w.heap.size,2,none⟩=some (.string y.text)∧w'.cell? ⟨w.heap.size,3,none⟩=some (.slice ay y.items.length cy)) (go_keep)
   (first
    | (go_at_call 87;(with_reducible refine Calls.mono (HA2.out _ hb1.drew) ?_);rintro e w2 ⟨hg2',F,rfl,_⟩;have hg2:Below w1.heap.size w1 w2:=(Below.refl _ _).drew.trans hg2';have hs0:=zaa hg2 hs0;have k0:=zaa hg2 k0;have k1:=zaa hg2 k1;have k2:=zaa hg2 k2;have k3:=zaa hg2 k3;have HE:Hid (RkPost (rankN d q y l) (errOf true) w (.returned (.tuple #[.int .i64 (upS q y l:Nat),.int .i64 0])) w2):=(by rw [HRr.out];exact⟨rfl,hb1.trans (hg2.mono hb1.size)⟩);clear hg2'))
  all_goals (first|(go_ret2;exact HE.out)|(go_wp2_with fail;go_ret2;exact HE.out))
end Go.Proofs.YtlnecfjnffdciabGreat

namespace Go.Proofs.YtlnecfjnffdciabGreat
open Go.RowKit Go.Shelf
def zbe (w0:World) (o:Option PT) (E:Int) (w:World) (e:Ending) (w':World):Prop:=∃a c,e=.returned (.tuple #[.agg #[.int .i64 (keyO o).kind,.int .i64 (keyO o).num,.string (keyO o).text,.slice a (keyO o).items.length c],.bool o.isSome,.int .i64 E])∧LiesX (fun b=>b<w0.heap.size∨w.heap.size≤b) 16 w' (keyO o).items (.slice a (keyO o).items.length c)∧Below w.heap.size w w'
theorem nx_zero (w0:World) (E:Int) {w w':World} (h:Below w.heap.size w w'):zbe w0 none E w (.returned (.tuple #[.agg #[.int .i64 0,.int .i64 0,.string ⟨#[]⟩,.slice none 0 0],.bool false,.int .i64 E])) w':=⟨none,0,rfl,liesX_nil _ 16 w' none 0,h⟩
def nextO (d q:Nat) (y:VT) (l:List PT):Option PT:=if zab d y=true then zal l (upE q y l:Nat) else none
def zbb (d q:Nat) (y:VT) (l:List PT):Option PT:=if zab d y=true then zal l ((upS q y l:Nat)-1:Int) else none
theorem upE_le (q:Nat) (y:VT) (l:List PT):upE q y l≤l.length:=List.length_filter_le _ _
theorem upS_le (q:Nat) (y:VT) (l:List PT):upS q y l≤l.length:=List.length_filter_le _ _
set_option maxRecDepth 100000 in
set_option maxHeartbeats 16000000 in
theorem rnext_16 {w0 w:World} {q:Nat} {l:List PT} {c:Nat} (h00:DS w0 q l c) (hw0:Below w0.heap.size w0 w) (d:Nat) (y:VT) (yu:Value) (hy:Lies d w y.items yu):Calls Tryz.prog 33 #[.pointer (some ⟨c,0,none⟩),.agg #[.int .i64 y.kind,.int .i64 y.num,.string y.text,yu]] w (zbe w0 (nextO d q y l) (errOf (zab d y)) w):=by
 have h:=h00.keeps hw0
 obtain⟨m,qs,a0,c0,h0,_,h1,rfl,hs,hd⟩:=h00.row
 have h0:=zaa hw0 h0
 have h1:=zaa hw0 h1
 have hd:=hd.keeps hw0
 have HW:Hid (Below w0.heap.size w0 w):=hw0
 obtain⟨ay,cy,rfl,_⟩:=Lies.slice hy
 have HLn:Hid (∀V,Below w.heap.size w V→Calls Tryz.prog 75 #[.pointer (some ⟨c,0,none⟩)] V fun e w'=>e=.returned (.int .i64 (qs.length:Nat))∧Below V.heap.size V w'):=fun V hV=>by
  have h9:=(h.keeps hV).len
  rwa [List.length_map] at h9
 obtain⟨W0,hW0⟩:∃W0,W0=(w.alloc (.cells #[.int .i64 y.kind,.int .i64 y.num,.string y.text,.slice ay y.items.length cy] 33)).alloc (.cells #[.int .i64 0,.int .i64 0,.string ⟨#[]⟩,.slice none 0 0] 33):=⟨_,rfl⟩
 have hb0:Below w.heap.size w W0:=by rw [hW0];exact (((Grew.refl w).alloc _).alloc _).below
 have HY0:Hid (Bx W0 w.heap.size y (.slice ay y.items.length cy)):=by rw [hW0];exact (zag _ _ _).keeps ((Grew.refl _).alloc _).below
 have HK0:Hid (Bx W0 (w.heap.size+1) zeroT (.slice none 0 0)):=by
  rw [hW0]
  have h9:=zag (w.alloc (.cells #[.int .i64 y.kind,.int .i64 y.num,.string y.text,.slice ay y.items.length cy] 33)) zeroT (.slice none 0 0)
  rwa [World.size_alloc] at h9
 have HR:Hid (Calls Tryz.prog 79 #[.agg #[.int .i64 y.kind,.int .i64 y.num,.string y.text,.slice ay y.items.length cy]] W0 fun e w'=>e=.returned (.bool (zab d y))∧Below W0.heap.size W0 w'):=right_any d y _ W0 (Lies.keeps hb0 _ _ _ hy)
 have HA:Hid (zab d y=true→∀V,Below w.heap.size w V→Calls Tryz.prog 87 #[.pointer (some ⟨m,0,none⟩),.agg #[.int .i64 y.kind,.int .i64 y.num,.string y.text,.slice ay y.items.length cy]] V (AhPost q y (qs.map trT) V)):=fun hr V hV=>by
  obtain⟨g1,g2⟩:=canon hy hr
  exact rahead_14 (hd.keeps hV) y _ (Lies.keeps hV _ _ _ g1) g2
 obtain⟨N,hN⟩:∃N,N=qs.length:=⟨_,rfl⟩
 have HN:Hid (N=qs.length):=hN
 have HSz:Hid (N≤65536):=by have:=hd.size;rw [List.length_map] at this;show _≤_;omega
 have HU:Hid (upE q y (qs.map trT)≤N∧upS q y (qs.map trT)≤N):=by
  have u1:=upE_le q y (qs.map trT)
  have u2:=upS_le q y (qs.map trT)
  rw [List.length_map,←hN] at u1 u2
  exact⟨u1,u2⟩
 rw [←hN] at h1 hs HLn
 have HS:Hid (SlQ 0 16 w0 qs (.slice a0 N c0)):=hs
 clear h h00 hw0 hs hd hN hy
 cases hr:zab d y with
 | false=>
  have HOn:Hid (nextO d q y (qs.map trT)=none):=by show _=_;unfold nextO;rw [if_neg (by rw [hr];simp)]
  rw [hr] at HR
  clear HA hr HLn HS h0 h1
  go_enter Tryz.func33,Tryz.ntmps33
  obtain⟨r0,r1,r2,r3,_,_,_,_⟩:=HY0.out
  go_upto_region 1 with fail
  rw [←hW0]
  clear hW0
  go_wp2_with fail
  refine Calls.mono HR.out ?_
  rintro e w1 ⟨rfl,hg1⟩
  have hb1:Below w.heap.size w w1:=hb0.trans (hg1.mono hb0.size)
  have HK1:Hid (Bx w1 (w.heap.size+1) zeroT (.slice none 0 0)):=HK0.out.keeps hg1
  clear r0 r1 r2 r3 HR HY0 HK0 hg1 hb0
  obtain⟨y0,y1,y2,y3,z0,z1,z2,z3⟩:=HK1.out
  have Hbx:Hid (Bx (w1.setCells (w.heap.size+1) 0 (encP (zeroT,.slice none 0 0))) (w.heap.size+1) zeroT (.slice none 0 0)):=HK1.out.put (zeroT,.slice none 0 0)
  have Hbl:Hid (Below w.heap.size w (w1.setCells (w.heap.size+1) 0 (encP (zeroT,.slice none 0 0)))):=zas hb1 (by omega) (zeroT,.slice none 0 0)
  have HT:Hid (zbe w0 (nextO d q y (qs.map trT)) (errOf false) w (.returned (.tuple #[.agg #[.int .i64 0,.int .i64 0,.string ⟨#[]⟩,.slice none 0 0],.bool false,.int .i64 3])) (w1.setCells (w.heap.size+1) 0 (encP (zeroT,.slice none 0 0)))):=by
   have hO:nextO d q y (qs.map trT)=none:=HOn.out
   rw [hO]
   exact nx_zero w0 (errOf false) Hbl.out
  clear hb1 HOn
  go_wp2_with fail
  refine bodyPost_ret (v:=.tuple #[.agg #[.int .i64 0,.int .i64 0,.string ⟨#[]⟩,.slice none 0 0],.bool false,.int .i64 3]) ?_ rfl HT.out
  obtain⟨q0,q1,q2,q3,_,_,_,_⟩:=Hbx.out
  simp only [encP,World.setCells,Nat.zero_add,Nat.reduceAdd] at q0 q1 q2 q3
  simp [results,Tryz.results33,go_sem,q0,q1,q2,q3]
 | true=>
  have HOt:Hid (nextO d q y (qs.map trT)=zal (qs.map trT) (upE q y (qs.map trT):Nat)):=by show _=_;unfold nextO;rw [if_pos hr]
  rw [hr] at HR
  have HA2:Hid (∀V,Below w.heap.size w V→Calls Tryz.prog 87 #[.pointer (some ⟨m,0,none⟩),.agg #[.int .i64 y.kind,.int .i64 y.num,.string y.text,.slice ay y.items.length cy]] V (AhPost q y (qs.map trT) V)):=HA.out hr
  clear HA hr
  have hs0:=zaa hb0 h0
  go_enter Tryz.func33,Tryz.ntmps33
  obtain⟨k0,k1,k2,k3,_,_,_,_⟩:=HY0.out
  go_upto_region 1 with fail
  rw [←hW0]
  clear hW0
  go_wp2_with fail
  refine Calls.mono HR.out ?_
  rintro e w1 ⟨rfl,hg1⟩
  have hb1:Below w.heap.size w w1:=hb0.trans (hg1.mono hb0.size)
  clear k0 k1 k2 k3
  have hs0:=zaa hg1 hs0
  obtain⟨k0,k1,k2,k3,_,_,_,_⟩:=HY0.out.keeps hg1
  have HK1:Hid (Bx w1 (w.heap.size+1) zeroT (.slice none 0 0)):=HK0.out.keeps hg1
  have H01:Hid (w.cell? ⟨c,0,none⟩=some (.pointer (some ⟨m,0,none⟩))∧w.cell? ⟨m,1,none⟩=some (.slice a0 N c0)):=⟨h0,h1⟩
  clear hg1 HY0 HR hb0 HK0 h0 h1
  go_upto_region 3 with fail
  go_region_held3 (fun w'=>w'.cell? ⟨c,0,none⟩=some (.pointer (some ⟨m,0,none⟩))∧w'.cell? ⟨w.heap.size,0,none⟩=some (.int .i64 y.kind)∧w'.cell? ⟨w.heap.size,1,none⟩=some (.int .i64 y.num)∧w'.cell? ⟨w.heap.size,2,none⟩=some (.string y.text)∧w'.cell? ⟨w.heap.size,3,none⟩=some (.slice ay y.items.length cy)) (go_keep)
   (first
    | (go_at_call 87;(with_reducible refine Calls.mono (HA2.out _ hb1.drew) ?_);rintro e w2 ⟨hg2',F,rfl,hF⟩;have hg2:Below w1.heap.size w1 w2:=(Below.refl _ _).drew.trans hg2';have hs0:=zaa hg2 hs0;have k0:=zaa hg2 k0;have k1:=zaa hg2 k1;have k2:=zaa hg2 k2;have k3:=zaa hg2 k3;have HF:Hid (upE q y (qs.map trT)=if F=true then upS q y (qs.map trT)+1 else upS q y (qs.map trT)):=hF;clear hg2' hF))
  have hb2:Below w.heap.size w w2:=hb1.trans (hg2.mono hb1.size)
  have HK2:Hid (Bx w2 (w.heap.size+1) zeroT (.slice none 0 0)):=HK1.out.keeps hg2
  obtain⟨h0,h1⟩:=H01.out
  obtain⟨r,hr⟩:∃r,r=upS q y (qs.map trT):=⟨_,rfl⟩
  have HRr:Hid (r=upS q y (qs.map trT)):=hr
  rw [←hr]
  have hrN:r≤N:=by rw [hr];exact HU.out.2
  clear hs0 k0 k1 k2 k3 HK1 hg2 hb1 HA2 H01 hr
  cases F with
  | true=>
   obtain⟨n,hn⟩:∃n,n=r+1:=⟨_,rfl⟩
   have HEn:Hid (upE q y (qs.map trT)=n):=by show _=_;rw [HF.out,hn,HRr.out];rfl
   have HOO:Hid (nextO d q y (qs.map trT)=zal (qs.map trT) (n:Int)):=by show _=_;rw [HOt.out,HEn.out]
   have hnN:n≤N:=by rw [←HEn.out];exact HU.out.1
   have hwr:IntKind.i64.wrap ((r:Int)+1)=(n:Int):=by rw [IntKind.wrap_i64];have:=HSz.out;omega
   clear hn
   have HLc:=show Hid _ from HLn.out w2 hb2
   clear HF HOt HRr HU HEn
   go_wp2_with fail
   refine Calls.mono HLc.out ?_
   rintro e w3 ⟨rfl,hg3⟩
   have hb3:Below w.heap.size w w3:=hb2.trans (hg3.mono hb2.size)
   have HK3:Hid (Bx w3 (w.heap.size+1) zeroT (.slice none 0 0)):=HK2.out.keeps hg3
   clear hg3 HLc HLn HK2 hb2
   by_cases hz:n<N
   ·have hzI : ¬(N:Int)≤(n:Int):=by omega
    have hzI2:(n:Int)<(N:Int):=by omega
    have hn0:(0:Int)≤(n:Int):=by omega
    have hjq:n<qs.length:=by have:=HN.out;omega
    obtain⟨a1,c1,a2,c2,b,o,rfl,hl1,hl2,p0,p1,p2,p3,_,_,_,_⟩:=row_pair14 HS.out (j:=n) hjq
    have p0:=zaa HW.out p0;have p1:=zaa HW.out p1;have p2:=zaa HW.out p2;have p3:=zaa HW.out p3
    obtain⟨x,hx⟩:∃x,x=trT qs[n]:=⟨_,rfl⟩
    rw [←hx] at hl1 p0 p1 p2 p3
    have hOx:nextO d q y (qs.map trT)=some x:=by rw [HOO.out,hx];exact itemAt_row hjq
    clear hx hl2
    obtain⟨y0,y1,y2,y3,z0,z1,z2,z3⟩:=HK3.out
    have p0:=zaa hb3 p0;have p1:=zaa hb3 p1;have p2:=zaa hb3 p2;have p3:=zaa hb3 p3
    have t0:=zaa hb3 h0;have t1:=zaa hb3 h1
    have Hbx:Hid (Bx (w3.setCells (w.heap.size+1) 0 (encP (x.1,.slice a1 x.1.items.length c1))) (w.heap.size+1) x.1 (.slice a1 x.1.items.length c1)):=HK3.out.put (x.1,.slice a1 x.1.items.length c1)
    have HT:Hid (zbe w0 (nextO d q y (qs.map trT)) (errOf true) w (.returned (.tuple #[.agg #[.int .i64 x.1.kind,.int .i64 x.1.num,.string x.1.text,.slice a1 x.1.items.length c1],.bool true,.int .i64 0])) (w3.setCells (w.heap.size+1) 0 (encP (x.1,.slice a1 x.1.items.length c1)))):=by
     rw [hOx]
     exact⟨_,_,rfl,(LiesX.set (g:=(w.heap.size+1)) (fun (h:(w.heap.size+1)<w0.heap.size)=>by have:=HW.out.size;omega) (((LiesX.of_lies hl1).keeps HW.out).keeps hb3)).mono (fun b h=>.inl h),zas hb3 (by omega) (x.1,.slice a1 x.1.items.length c1)⟩
    clear HS HN h0 h1 hb3 hl1 hOx hz HOO
    go_wp2_with fail
    refine bodyPost_ret (v:=.tuple #[.agg #[.int .i64 x.1.kind,.int .i64 x.1.num,.string x.1.text,.slice a1 x.1.items.length c1],.bool true,.int .i64 0]) ?_ rfl HT.out
    obtain⟨q0,q1,q2,q3,_,_,_,_⟩:=Hbx.out
    simp only [encP,World.setCells,Nat.zero_add,Nat.reduceAdd] at q0 q1 q2 q3
    simp [results,Tryz.results33,go_sem,q0,q1,q2,q3]
   ·have hzI:(N:Int)≤(n:Int):=by omega
    have HZ:Hid (N≤n):=by show _≤_;omega
    clear hz
    obtain⟨y0,y1,y2,y3,z0,z1,z2,z3⟩:=HK3.out
    have Hbx:Hid (Bx (w3.setCells (w.heap.size+1) 0 (encP (zeroT,.slice none 0 0))) (w.heap.size+1) zeroT (.slice none 0 0)):=HK3.out.put (zeroT,.slice none 0 0)
    have Hbl:Hid (Below w.heap.size w (w3.setCells (w.heap.size+1) 0 (encP (zeroT,.slice none 0 0)))):=zas hb3 (by omega) (zeroT,.slice none 0 0)
    have HT:Hid (zbe w0 (nextO d q y (qs.map trT)) (errOf true) w (.returned (.tuple #[.agg #[.int .i64 0,.int .i64 0,.string ⟨#[]⟩,.slice none 0 0],.bool false,.int .i64 0])) (w3.setCells (w.heap.size+1) 0 (encP (zeroT,.slice none 0 0)))):=by
     have hO:nextO d q y (qs.map trT)=none:=(by rw [HOO.out];exact itemAt_out (.inr (by have:=HN.out;have:=HZ.out;omega)))
     rw [hO]
     exact nx_zero w0 (errOf true) Hbl.out
    clear HS HN h0 h1 hb3 HOO
    go_wp2_with fail
    refine bodyPost_ret (v:=.tuple #[.agg #[.int .i64 0,.int .i64 0,.string ⟨#[]⟩,.slice none 0 0],.bool false,.int .i64 0]) ?_ rfl HT.out
    obtain⟨q0,q1,q2,q3,_,_,_,_⟩:=Hbx.out
    simp only [encP,World.setCells,Nat.zero_add,Nat.reduceAdd] at q0 q1 q2 q3
    simp [results,Tryz.results33,go_sem,q0,q1,q2,q3]
  | false=>
   skip
   have HEn:Hid (upE q y (qs.map trT)=r):=by show _=_;rw [HF.out,HRr.out];rfl
   have HOO:Hid (nextO d q y (qs.map trT)=zal (qs.map trT) (r:Int)):=by show _=_;rw [HOt.out,HEn.out]
   have HLc:=show Hid _ from HLn.out w2 hb2
   clear HF HOt HRr HU HEn
   go_wp2_with fail
   refine Calls.mono HLc.out ?_
   rintro e w3 ⟨rfl,hg3⟩
   have hb3:Below w.heap.size w w3:=hb2.trans (hg3.mono hb2.size)
   have HK3:Hid (Bx w3 (w.heap.size+1) zeroT (.slice none 0 0)):=HK2.out.keeps hg3
   clear hg3 HLc HLn HK2 hb2
   by_cases hz:r<N
   ·have hzI : ¬(N:Int)≤(r:Int):=by omega
    have hzI2:(r:Int)<(N:Int):=by omega
    have hn0:(0:Int)≤(r:Int):=by omega
    have hjq:r<qs.length:=by have:=HN.out;omega
    obtain⟨a1,c1,a2,c2,b,o,rfl,hl1,hl2,p0,p1,p2,p3,_,_,_,_⟩:=row_pair14 HS.out (j:=r) hjq
    have p0:=zaa HW.out p0;have p1:=zaa HW.out p1;have p2:=zaa HW.out p2;have p3:=zaa HW.out p3
    obtain⟨x,hx⟩:∃x,x=trT qs[r]:=⟨_,rfl⟩
    rw [←hx] at hl1 p0 p1 p2 p3
    have hOx:nextO d q y (qs.map trT)=some x:=by rw [HOO.out,hx];exact itemAt_row hjq
    clear hx hl2
    obtain⟨y0,y1,y2,y3,z0,z1,z2,z3⟩:=HK3.out
    have p0:=zaa hb3 p0;have p1:=zaa hb3 p1;have p2:=zaa hb3 p2;have p3:=zaa hb3 p3
    have t0:=zaa hb3 h0;have t1:=zaa hb3 h1
    have Hbx:Hid (Bx (w3.setCells (w.heap.size+1) 0 (encP (x.1,.slice a1 x.1.items.length c1))) (w.heap.size+1) x.1 (.slice a1 x.1.items.length c1)):=HK3.out.put (x.1,.slice a1 x.1.items.length c1)
    have HT:Hid (zbe w0 (nextO d q y (qs.map trT)) (errOf true) w (.returned (.tuple #[.agg #[.int .i64 x.1.kind,.int .i64 x.1.num,.string x.1.text,.slice a1 x.1.items.length c1],.bool true,.int .i64 0])) (w3.setCells (w.heap.size+1) 0 (encP (x.1,.slice a1 x.1.items.length c1)))):=by
     rw [hOx]
     exact⟨_,_,rfl,(LiesX.set (g:=(w.heap.size+1)) (fun (h:(w.heap.size+1)<w0.heap.size)=>by have:=HW.out.size;omega) (((LiesX.of_lies hl1).keeps HW.out).keeps hb3)).mono (fun b h=>.inl h),zas hb3 (by omega) (x.1,.slice a1 x.1.items.length c1)⟩
    clear HS HN h0 h1 hb3 hl1 hOx hz HOO
    go_wp2_with fail
    refine bodyPost_ret (v:=.tuple #[.agg #[.int .i64 x.1.kind,.int .i64 x.1.num,.string x.1.text,.slice a1 x.1.items.length c1],.bool true,.int .i64 0]) ?_ rfl HT.out
    obtain⟨q0,q1,q2,q3,_,_,_,_⟩:=Hbx.out
    simp only [encP,World.setCells,Nat.zero_add,Nat.reduceAdd] at q0 q1 q2 q3
    simp [results,Tryz.results33,go_sem,q0,q1,q2,q3]
   ·have hzI:(N:Int)≤(r:Int):=by omega
    have HZ:Hid (N≤r):=by show _≤_;omega
    clear hz
    obtain⟨y0,y1,y2,y3,z0,z1,z2,z3⟩:=HK3.out
    have Hbx:Hid (Bx (w3.setCells (w.heap.size+1) 0 (encP (zeroT,.slice none 0 0))) (w.heap.size+1) zeroT (.slice none 0 0)):=HK3.out.put (zeroT,.slice none 0 0)
    have Hbl:Hid (Below w.heap.size w (w3.setCells (w.heap.size+1) 0 (encP (zeroT,.slice none 0 0)))):=zas hb3 (by omega) (zeroT,.slice none 0 0)
    have HT:Hid (zbe w0 (nextO d q y (qs.map trT)) (errOf true) w (.returned (.tuple #[.agg #[.int .i64 0,.int .i64 0,.string ⟨#[]⟩,.slice none 0 0],.bool false,.int .i64 0])) (w3.setCells (w.heap.size+1) 0 (encP (zeroT,.slice none 0 0)))):=by
     have hO:nextO d q y (qs.map trT)=none:=(by rw [HOO.out];exact itemAt_out (.inr (by have:=HN.out;have:=HZ.out;omega)))
     rw [hO]
     exact nx_zero w0 (errOf true) Hbl.out
    clear HS HN h0 h1 hb3 HOO
    go_wp2_with fail
    refine bodyPost_ret (v:=.tuple #[.agg #[.int .i64 0,.int .i64 0,.string ⟨#[]⟩,.slice none 0 0],.bool false,.int .i64 0]) ?_ rfl HT.out
    obtain⟨q0,q1,q2,q3,_,_,_,_⟩:=Hbx.out
    simp only [encP,World.setCells,Nat.zero_add,Nat.reduceAdd] at q0 q1 q2 q3
    simp [results,Tryz.results33,go_sem,q0,q1,q2,q3]
set_option maxRecDepth 100000 in
set_option maxHeartbeats 16000000 in
theorem rahd_16 {w0 w:World} {q:Nat} {l:List PT} {c:Nat} (h00:DS w0 q l c) (hw0:Below w0.heap.size w0 w) (d:Nat) (y:VT) (yu:Value) (hy:Lies d w y.items yu):Calls Tryz.prog 35 #[.pointer (some ⟨c,0,none⟩),.agg #[.int .i64 y.kind,.int .i64 y.num,.string y.text,yu]] w (zbe w0 (zbb d q y l) (errOf (zab d y)) w):=by
 have h:=h00.keeps hw0
 obtain⟨m,qs,a0,c0,h0,_,h1,rfl,hs,hd⟩:=h00.row
 have h0:=zaa hw0 h0
 have h1:=zaa hw0 h1
 have hd:=hd.keeps hw0
 have HW:Hid (Below w0.heap.size w0 w):=hw0
 obtain⟨ay,cy,rfl,_⟩:=Lies.slice hy
 have HLn:Hid (∀V,Below w.heap.size w V→Calls Tryz.prog 75 #[.pointer (some ⟨c,0,none⟩)] V fun e w'=>e=.returned (.int .i64 (qs.length:Nat))∧Below V.heap.size V w'):=fun V hV=>by
  have h9:=(h.keeps hV).len
  rwa [List.length_map] at h9
 obtain⟨W0,hW0⟩:∃W0,W0=(w.alloc (.cells #[.int .i64 y.kind,.int .i64 y.num,.string y.text,.slice ay y.items.length cy] 33)).alloc (.cells #[.int .i64 0,.int .i64 0,.string ⟨#[]⟩,.slice none 0 0] 33):=⟨_,rfl⟩
 have hb0:Below w.heap.size w W0:=by rw [hW0];exact (((Grew.refl w).alloc _).alloc _).below
 have HY0:Hid (Bx W0 w.heap.size y (.slice ay y.items.length cy)):=by rw [hW0];exact (zag _ _ _).keeps ((Grew.refl _).alloc _).below
 have HK0:Hid (Bx W0 (w.heap.size+1) zeroT (.slice none 0 0)):=by
  rw [hW0]
  have h9:=zag (w.alloc (.cells #[.int .i64 y.kind,.int .i64 y.num,.string y.text,.slice ay y.items.length cy] 33)) zeroT (.slice none 0 0)
  rwa [World.size_alloc] at h9
 have HR:Hid (Calls Tryz.prog 79 #[.agg #[.int .i64 y.kind,.int .i64 y.num,.string y.text,.slice ay y.items.length cy]] W0 fun e w'=>e=.returned (.bool (zab d y))∧Below W0.heap.size W0 w'):=right_any d y _ W0 (Lies.keeps hb0 _ _ _ hy)
 have HA:Hid (zab d y=true→∀V,Below w.heap.size w V→Calls Tryz.prog 87 #[.pointer (some ⟨m,0,none⟩),.agg #[.int .i64 y.kind,.int .i64 y.num,.string y.text,.slice ay y.items.length cy]] V (AhPost q y (qs.map trT) V)):=fun hr V hV=>by
  obtain⟨g1,g2⟩:=canon hy hr
  exact rahead_14 (hd.keeps hV) y _ (Lies.keeps hV _ _ _ g1) g2
 obtain⟨N,hN⟩:∃N,N=qs.length:=⟨_,rfl⟩
 have HN:Hid (N=qs.length):=hN
 have HSz:Hid (N≤65536):=by have:=hd.size;rw [List.length_map] at this;show _≤_;omega
 have HU:Hid (upE q y (qs.map trT)≤N∧upS q y (qs.map trT)≤N):=by
  have u1:=upE_le q y (qs.map trT)
  have u2:=upS_le q y (qs.map trT)
  rw [List.length_map,←hN] at u1 u2
  exact⟨u1,u2⟩
 rw [←hN] at h1 hs HLn
 have HS:Hid (SlQ 0 16 w0 qs (.slice a0 N c0)):=hs
 clear h h00 hw0 hs hd hN hy
 cases hr:zab d y with
 | false=>
  have HOn:Hid (zbb d q y (qs.map trT)=none):=by show _=_;unfold zbb;rw [if_neg (by rw [hr];simp)]
  rw [hr] at HR
  clear HA hr HLn HS h0 h1
  go_enter Tryz.func35,Tryz.ntmps35
  obtain⟨r0,r1,r2,r3,_,_,_,_⟩:=HY0.out
  go_upto_region 1 with fail
  rw [←hW0]
  clear hW0
  go_wp2_with fail
  refine Calls.mono HR.out ?_
  rintro e w1 ⟨rfl,hg1⟩
  have hb1:Below w.heap.size w w1:=hb0.trans (hg1.mono hb0.size)
  have HK1:Hid (Bx w1 (w.heap.size+1) zeroT (.slice none 0 0)):=HK0.out.keeps hg1
  clear r0 r1 r2 r3 HR HY0 HK0 hg1 hb0
  obtain⟨y0,y1,y2,y3,z0,z1,z2,z3⟩:=HK1.out
  have Hbx:Hid (Bx (w1.setCells (w.heap.size+1) 0 (encP (zeroT,.slice none 0 0))) (w.heap.size+1) zeroT (.slice none 0 0)):=HK1.out.put (zeroT,.slice none 0 0)
  have Hbl:Hid (Below w.heap.size w (w1.setCells (w.heap.size+1) 0 (encP (zeroT,.slice none 0 0)))):=zas hb1 (by omega) (zeroT,.slice none 0 0)
  have HT:Hid (zbe w0 (zbb d q y (qs.map trT)) (errOf false) w (.returned (.tuple #[.agg #[.int .i64 0,.int .i64 0,.string ⟨#[]⟩,.slice none 0 0],.bool false,.int .i64 3])) (w1.setCells (w.heap.size+1) 0 (encP (zeroT,.slice none 0 0)))):=by
   have hO:zbb d q y (qs.map trT)=none:=HOn.out
   rw [hO]
   exact nx_zero w0 (errOf false) Hbl.out
  clear hb1 HOn
  go_wp2_with fail
  refine bodyPost_ret (v:=.tuple #[.agg #[.int .i64 0,.int .i64 0,.string ⟨#[]⟩,.slice none 0 0],.bool false,.int .i64 3]) ?_ rfl HT.out
  obtain⟨q0,q1,q2,q3,_,_,_,_⟩:=Hbx.out
  simp only [encP,World.setCells,Nat.zero_add,Nat.reduceAdd] at q0 q1 q2 q3
  simp [results,Tryz.results35,go_sem,q0,q1,q2,q3]
 | true=>
  have HOt:Hid (zbb d q y (qs.map trT)=zal (qs.map trT) ((upS q y (qs.map trT):Nat)-1:Int)):=by show _=_;unfold zbb;rw [if_pos hr]
  rw [hr] at HR
  have HA2:Hid (∀V,Below w.heap.size w V→Calls Tryz.prog 87 #[.pointer (some ⟨m,0,none⟩),.agg #[.int .i64 y.kind,.int .i64 y.num,.string y.text,.slice ay y.items.length cy]] V (AhPost q y (qs.map trT) V)):=HA.out hr
  clear HA hr
  have hs0:=zaa hb0 h0
  go_enter Tryz.func35,Tryz.ntmps35
  obtain⟨k0,k1,k2,k3,_,_,_,_⟩:=HY0.out
  go_upto_region 1 with fail
  rw [←hW0]
  clear hW0
  go_wp2_with fail
  refine Calls.mono HR.out ?_
  rintro e w1 ⟨rfl,hg1⟩
  have hb1:Below w.heap.size w w1:=hb0.trans (hg1.mono hb0.size)
  clear k0 k1 k2 k3
  have hs0:=zaa hg1 hs0
  obtain⟨k0,k1,k2,k3,_,_,_,_⟩:=HY0.out.keeps hg1
  have HK1:Hid (Bx w1 (w.heap.size+1) zeroT (.slice none 0 0)):=HK0.out.keeps hg1
  have H01:Hid (w.cell? ⟨c,0,none⟩=some (.pointer (some ⟨m,0,none⟩))∧w.cell? ⟨m,1,none⟩=some (.slice a0 N c0)):=⟨h0,h1⟩
  clear hg1 HY0 HR hb0 HK0 h0 h1
  go_upto_region 3 with fail
  go_region_held3 (fun w'=>w'.cell? ⟨c,0,none⟩=some (.pointer (some ⟨m,0,none⟩))∧w'.cell? ⟨w.heap.size,0,none⟩=some (.int .i64 y.kind)∧w'.cell? ⟨w.heap.size,1,none⟩=some (.int .i64 y.num)∧w'.cell? ⟨w.heap.size,2,none⟩=some (.string y.text)∧w'.cell? ⟨w.heap.size,3,none⟩=some (.slice ay y.items.length cy)) (go_keep)
   (first
    | (go_at_call 87;(with_reducible refine Calls.mono (HA2.out _ hb1.drew) ?_);rintro e w2 ⟨hg2',F,rfl,hF⟩;have hg2:Below w1.heap.size w1 w2:=(Below.refl _ _).drew.trans hg2';have hs0:=zaa hg2 hs0;have k0:=zaa hg2 k0;have k1:=zaa hg2 k1;have k2:=zaa hg2 k2;have k3:=zaa hg2 k3;have HF:Hid (upE q y (qs.map trT)=if F=true then upS q y (qs.map trT)+1 else upS q y (qs.map trT)):=hF;clear hg2' hF))
  have hb2:Below w.heap.size w w2:=hb1.trans (hg2.mono hb1.size)
  have HK2:Hid (Bx w2 (w.heap.size+1) zeroT (.slice none 0 0)):=HK1.out.keeps hg2
  obtain⟨h0,h1⟩:=H01.out
  obtain⟨r,hr⟩:∃r,r=upS q y (qs.map trT):=⟨_,rfl⟩
  have HRr:Hid (r=upS q y (qs.map trT)):=hr
  rw [←hr]
  have hrN:r≤N:=by rw [hr];exact HU.out.2
  clear hs0 k0 k1 k2 k3 HK1 hg2 hb1 HA2 H01 hr
  clear HF
  by_cases hz:r=0
  ·have HZ:Hid (r=0):=hz
   subst hz
   clear hrN
   obtain⟨y0,y1,y2,y3,z0,z1,z2,z3⟩:=HK2.out
   have Hbx:Hid (Bx (w2.setCells (w.heap.size+1) 0 (encP (zeroT,.slice none 0 0))) (w.heap.size+1) zeroT (.slice none 0 0)):=HK2.out.put (zeroT,.slice none 0 0)
   have Hbl:Hid (Below w.heap.size w (w2.setCells (w.heap.size+1) 0 (encP (zeroT,.slice none 0 0)))):=zas hb2 (by omega) (zeroT,.slice none 0 0)
   have HT:Hid (zbe w0 (zbb d q y (qs.map trT)) (errOf true) w (.returned (.tuple #[.agg #[.int .i64 0,.int .i64 0,.string ⟨#[]⟩,.slice none 0 0],.bool false,.int .i64 0])) (w2.setCells (w.heap.size+1) 0 (encP (zeroT,.slice none 0 0)))):=by
    have hO:zbb d q y (qs.map trT)=none:=(by rw [HOt.out,←HRr.out];exact itemAt_out (.inl (by omega)))
    rw [hO]
    exact nx_zero w0 (errOf true) Hbl.out
   clear HS HN h0 h1 hb2 HOt HRr HU HLn HZ
   go_wp2_with fail
   refine bodyPost_ret (v:=.tuple #[.agg #[.int .i64 0,.int .i64 0,.string ⟨#[]⟩,.slice none 0 0],.bool false,.int .i64 0]) ?_ rfl HT.out
   obtain⟨q0,q1,q2,q3,_,_,_,_⟩:=Hbx.out
   simp only [encP,World.setCells,Nat.zero_add,Nat.reduceAdd] at q0 q1 q2 q3
   simp [results,Tryz.results35,go_sem,q0,q1,q2,q3]
  ·obtain⟨n,hn⟩:∃n,r=n+1:=⟨r-1,by omega⟩
   have HOO:Hid (zbb d q y (qs.map trT)=zal (qs.map trT) (n:Int)):=by show _=_;rw [HOt.out,←HRr.out,hn];congr 1;omega
   have hr1 : ¬((r:Int)=0):=by omega
   have hwr:IntKind.i64.wrap ((r:Int)-1)=(n:Int):=by rw [IntKind.wrap_i64];have:=HSz.out;omega
   have hzI2:(n:Int)<(N:Int):=by omega
   have hn0:(0:Int)≤(n:Int):=by omega
   have hjq:n<qs.length:=by have:=HN.out;omega
   clear HOt HRr HU hn hz hrN HLn
   obtain⟨a1,c1,a2,c2,b,o,rfl,hl1,hl2,p0,p1,p2,p3,_,_,_,_⟩:=row_pair14 HS.out (j:=n) hjq
   have p0:=zaa HW.out p0;have p1:=zaa HW.out p1;have p2:=zaa HW.out p2;have p3:=zaa HW.out p3
   obtain⟨x,hx⟩:∃x,x=trT qs[n]:=⟨_,rfl⟩
   rw [←hx] at hl1 p0 p1 p2 p3
   have hOx:zbb d q y (qs.map trT)=some x:=by rw [HOO.out,hx];exact itemAt_row hjq
   clear hx hl2
   obtain⟨y0,y1,y2,y3,z0,z1,z2,z3⟩:=HK2.out
   have p0:=zaa hb2 p0;have p1:=zaa hb2 p1;have p2:=zaa hb2 p2;have p3:=zaa hb2 p3
   have t0:=zaa hb2 h0;have t1:=zaa hb2 h1
   have Hbx:Hid (Bx (w2.setCells (w.heap.size+1) 0 (encP (x.1,.slice a1 x.1.items.length c1))) (w.heap.size+1) x.1 (.slice a1 x.1.items.length c1)):=HK2.out.put (x.1,.slice a1 x.1.items.length c1)
   have HT:Hid (zbe w0 (zbb d q y (qs.map trT)) (errOf true) w (.returned (.tuple #[.agg #[.int .i64 x.1.kind,.int .i64 x.1.num,.string x.1.text,.slice a1 x.1.items.length c1],.bool true,.int .i64 0])) (w2.setCells (w.heap.size+1) 0 (encP (x.1,.slice a1 x.1.items.length c1)))):=by
    rw [hOx]
    exact⟨_,_,rfl,(LiesX.set (g:=(w.heap.size+1)) (fun (h:(w.heap.size+1)<w0.heap.size)=>by have:=HW.out.size;omega) (((LiesX.of_lies hl1).keeps HW.out).keeps hb2)).mono (fun b h=>.inl h),zas hb2 (by omega) (x.1,.slice a1 x.1.items.length c1)⟩
   clear HS HN h0 h1 hb2 hl1 hOx HOO
   go_wp2_with fail
   refine bodyPost_ret (v:=.tuple #[.agg #[.int .i64 x.1.kind,.int .i64 x.1.num,.string x.1.text,.slice a1 x.1.items.length c1],.bool true,.int .i64 0]) ?_ rfl HT.out
   obtain⟨q0,q1,q2,q3,_,_,_,_⟩:=Hbx.out
   simp only [encP,World.setCells,Nat.zero_add,Nat.reduceAdd] at q0 q1 q2 q3
   simp [results,Tryz.results35,go_sem,q0,q1,q2,q3]
end Go.Proofs.YtlnecfjnffdciabGreat

namespace Go.Proofs.YtlnecfjnffdciabGreat
open Go.RowKit Go.Shelf
set_option maxRecDepth 100000 in
set_option maxHeartbeats 8000000 in
theorem rbtw16_wrong (d:Nat) (c:Nat) (y z:VT) (ay az:Option Addr) (cy cz:Nat) (w:World) (hy:Lies d w y.items (.slice ay y.items.length cy)) (hz:Lies d w z.items (.slice az z.items.length cz)) (hr : ¬(zab d y=true∧zab d z=true)) :
 Calls Tryz.prog 37 #[.pointer (some ⟨c,0,none⟩),.agg #[.int .i64 y.kind,.int .i64 y.num,.string y.text,.slice ay y.items.length cy],.agg #[.int .i64 z.kind,.int .i64 z.num,.string z.text,.slice az z.items.length cz]] w fun e w'=>e=.returned (.tuple #[.pointer none,.int .i64 3])∧Below w.heap.size w w':=by
 have HR1:Hid (∀V,Below w.heap.size w V→Calls Tryz.prog 79 #[.agg #[.int .i64 y.kind,.int .i64 y.num,.string y.text,.slice ay y.items.length cy]] V fun e w'=>e=.returned (.bool (zab d y))∧Below V.heap.size V w'):=fun V hV=>right_any d y _ V (Lies.keeps hV _ _ _ hy)
 have HR2:Hid (∀V,Below w.heap.size w V→Calls Tryz.prog 79 #[.agg #[.int .i64 z.kind,.int .i64 z.num,.string z.text,.slice az z.items.length cz]] V fun e w'=>e=.returned (.bool (zab d z))∧Below V.heap.size V w'):=fun V hV=>right_any d z _ V (Lies.keeps hV _ _ _ hz)
 obtain⟨W0,hW0⟩:∃W0,W0=(w.alloc (.cells #[.int .i64 y.kind,.int .i64 y.num,.string y.text,.slice ay y.items.length cy] 33)).alloc (.cells #[.int .i64 z.kind,.int .i64 z.num,.string z.text,.slice az z.items.length cz] 33):=⟨_,rfl⟩
 have HW0:Hid (W0=(w.alloc (.cells #[.int .i64 y.kind,.int .i64 y.num,.string y.text,.slice ay y.items.length cy] 33)).alloc (.cells #[.int .i64 z.kind,.int .i64 z.num,.string z.text,.slice az z.items.length cz] 33)):=hW0
 have hb0:Below w.heap.size w W0:=by rw [hW0];exact (((Grew.refl w).alloc _).alloc _).below
 have hyb:Bx W0 w.heap.size y (.slice ay y.items.length cy):=by rw [hW0];exact (zag _ _ _).keeps ((Grew.refl _).alloc _).below
 have hzb:Bx W0 (w.heap.size+1) z (.slice az z.items.length cz):=by
  rw [hW0]
  have h9:=zag (w.alloc (.cells #[.int .i64 y.kind,.int .i64 y.num,.string y.text,.slice ay y.items.length cy] 33)) z (.slice az z.items.length cz)
  rwa [World.size_alloc] at h9
 have hsz0:W0.heap.size=w.heap.size+2:=by rw [hW0];simp
 obtain⟨b0,b1,b2,b3,_,_,_,_⟩:=hyb
 obtain⟨d0,d1,d2,d3,_,_,_,_⟩:=hzb
 have HR:Hid (¬(zab d y=true∧zab d z=true)):=hr
 clear hW0 hy hz hr
 generalize zab d y=R1 at *
 generalize zab d z=R2 at *
 go_enter Tryz.func37,Tryz.ntmps37
 go_upto_region 1 with fail
 rw [←HW0.out]
 clear HW0
 cases R1 with
 | false=>
  go_wp2_with fail
  refine Calls.mono (HR1.out _ hb0) ?_
  rintro e w1 ⟨rfl,hg1⟩
  have hb1:Below w.heap.size w w1:=hb0.trans (hg1.mono hb0.size)
  clear hg1 HR1 HR2 hb0 b0 b1 b2 b3 d0 d1 d2 d3
  go_wp2_with fail
  go_ret2
  exact⟨rfl,hb1⟩
 | true=>
  cases R2 with
  | true=>exact absurd ⟨rfl,rfl⟩ HR.out
  | false=>
   go_wp2_with fail
   refine Calls.mono (HR1.out _ hb0) ?_
   rintro e w1 ⟨rfl,hg1⟩
   have hb1:Below w.heap.size w w1:=hb0.trans (hg1.mono hb0.size)
   have b0:=zaa hg1 b0;have b1:=zaa hg1 b1;have b2:=zaa hg1 b2;have b3:=zaa hg1 b3;have d0:=zaa hg1 d0;have d1:=zaa hg1 d1;have d2:=zaa hg1 d2;have d3:=zaa hg1 d3
   clear hg1 HR1 hb0
   go_wp2_with fail
   refine Calls.mono (HR2.out _ hb1) ?_
   rintro e w2 ⟨rfl,hg2⟩
   have hb2:Below w.heap.size w w2:=hb1.trans (hg2.mono hb1.size)
   clear hg2 HR2 hb1 b0 b1 b2 b3 d0 d1 d2 d3
   go_wp2_with fail
   go_ret2
   exact⟨rfl,hb2⟩
theorem inB_no {A C:Int} (h:(decide (0≤A)&&decide (C≤0))=false) : ¬0≤A∨(0≤A∧¬C≤0):=by
 by_cases h1:0≤A
 ·by_cases h2:C≤0
  ·simp [h1,h2] at h
  ·exact .inr ⟨h1,h2⟩
 ·exact .inl h1
set_option maxRecDepth 100000 in
set_option maxHeartbeats 16000000 in
theorem rbtw16_right {w:World} {q:Nat} {l:List PT} {c:Nat} (h:DS w q l c) (y z:VT) (ay az:Option Addr) (cy cz:Nat) (hy:Lies 16 w y.items (.slice ay y.items.length cy)) (hz:Lies 16 w z.items (.slice az z.items.length cz)) (hyr:zab 16 y=true) (hzr:zab 16 z=true) :
 Calls Tryz.prog 37 #[.pointer (some ⟨c,0,none⟩),.agg #[.int .i64 y.kind,.int .i64 y.num,.string y.text,.slice ay y.items.length cy],.agg #[.int .i64 z.kind,.int .i64 z.num,.string z.text,.slice az z.items.length cz]] w (DsPost q (btwS q y z l) 0 w):=by
 obtain⟨i0,hi,hz0,hz1,hz2⟩:=info24
 have Hi:Hid _:=hi;have Hz0:Hid _:=hz0;have Hz1:Hid _:=hz1;have Hz2:Hid _:=hz2
 obtain⟨m,qs,a0,c0,h0,ho,h1,rfl,hs,hd⟩:=h.row
 have hq6:=hd.q6
 have hnl:Nils (qs.map trT):=by obtain⟨_,_,_,h9⟩:=h;exact h9
 have hlen:qs.length≤65536:=by have:=hd.size;rwa [List.length_map] at this
 have HG:Hid (∀p∈qs,zab 16 p.1.1=true):=fun p hp=>(hd.right (trT p) (List.mem_map_of_mem hp)).1.1
 have HLn:Hid (∀V,Below w.heap.size w V→Calls Tryz.prog 75 #[.pointer (some ⟨c,0,none⟩)] V fun e w'=>e=.returned (.int .i64 (qs.length:Nat))∧Below V.heap.size V w'):=fun V hV=>by
  have h9:=(h.keeps hV).len
  rwa [List.length_map] at h9
 have HR1:Hid (∀V,Below w.heap.size w V→Calls Tryz.prog 79 #[.agg #[.int .i64 y.kind,.int .i64 y.num,.string y.text,.slice ay y.items.length cy]] V fun e w'=>e=.returned (.bool true)∧Below V.heap.size V w'):=fun V hV=>by
  have h9:=right_any 16 y _ V (Lies.keeps hV _ _ _ hy)
  rwa [hyr] at h9
 have HR2:Hid (∀V,Below w.heap.size w V→Calls Tryz.prog 79 #[.agg #[.int .i64 z.kind,.int .i64 z.num,.string z.text,.slice az z.items.length cz]] V fun e w'=>e=.returned (.bool true)∧Below V.heap.size V w'):=fun V hV=>by
  have h9:=right_any 16 z _ V (Lies.keeps hV _ _ _ hz)
  rwa [hzr] at h9
 have HO1:Hid (∀(x:VT) (xu:Value) V,Below w.heap.size w V→Lies 16 V x.items xu→zab 16 x=true→Calls Tryz.prog 91 #[.int .i64 (q:Int),.agg #[.int .i64 x.kind,.int .i64 x.num,.string x.text,xu],.agg #[.int .i64 y.kind,.int .i64 y.num,.string y.text,.slice ay y.items.length cy]] V fun e w'=>e=.returned (.int .i64 (ordV q x y))∧Below V.heap.size V w'):=fun x xu V hV h1 h2=>rordV_any q hq6 x y xu _ V h1 (Lies.keeps hV _ _ _ hy) h2 hyr
 have HO2:Hid (∀(x:VT) (xu:Value) V,Below w.heap.size w V→Lies 16 V x.items xu→zab 16 x=true→Calls Tryz.prog 91 #[.int .i64 (q:Int),.agg #[.int .i64 x.kind,.int .i64 x.num,.string x.text,xu],.agg #[.int .i64 z.kind,.int .i64 z.num,.string z.text,.slice az z.items.length cz]] V fun e w'=>e=.returned (.int .i64 (ordV q x z))∧Below V.heap.size V w'):=fun x xu V hV h1 h2=>rordV_any q hq6 x z xu _ V h1 (Lies.keeps hV _ _ _ hz) h2 hzr
 obtain⟨W0,hW0⟩:∃W0,W0=(w.alloc (.cells #[.int .i64 y.kind,.int .i64 y.num,.string y.text,.slice ay y.items.length cy] 33)).alloc (.cells #[.int .i64 z.kind,.int .i64 z.num,.string z.text,.slice az z.items.length cz] 33):=⟨_,rfl⟩
 have HW0:Hid (W0=(w.alloc (.cells #[.int .i64 y.kind,.int .i64 y.num,.string y.text,.slice ay y.items.length cy] 33)).alloc (.cells #[.int .i64 z.kind,.int .i64 z.num,.string z.text,.slice az z.items.length cz] 33)):=hW0
 have hb0:Below w.heap.size w W0:=by rw [hW0];exact (((Grew.refl w).alloc _).alloc _).below
 have hyb:Bx W0 w.heap.size y (.slice ay y.items.length cy):=by rw [hW0];exact (zag _ _ _).keeps ((Grew.refl _).alloc _).below
 have hzb:Bx W0 (w.heap.size+1) z (.slice az z.items.length cz):=by
  rw [hW0]
  have h9:=zag (w.alloc (.cells #[.int .i64 y.kind,.int .i64 y.num,.string y.text,.slice ay y.items.length cy] 33)) z (.slice az z.items.length cz)
  rwa [World.size_alloc] at h9
 have hsz0:W0.heap.size=w.heap.size+2:=by rw [hW0];simp
 obtain⟨b0,b1,b2,b3,_,_,_,_⟩:=hyb
 obtain⟨d0,d1,d2,d3,_,_,_,_⟩:=hzb
 obtain⟨kp,hkp⟩:∃kp:VT×Value→Bool,kp=fun p=>inB q y z p.1:=⟨_,rfl⟩
 have HS:Hid (SlQ 0 16 w qs (.slice a0 qs.length c0)):=hs
 have Hend:Hid (∀(u:Value) (V:World),Below w.heap.size w V→V.ownsRow W0.heap.size 33 4 u (((qs.map (·.1)).filter kp).length) (((qs.map (·.1)).filter kp).flatMap encP)→Calls Tryz.prog 61 #[.int .i64 (q:Int),u] V (MkPost q (btwS q y z (qs.map trT)) V)):=fun u V hV hu=>by
  have hgs:∀p∈(qs.map (·.1)).filter kp,∃x∈qs,x.1=p:=fun p hp=>List.mem_map.1 (List.mem_filter.1 hp).1
  have hsl:SlP 0 16 V ((qs.map (·.1)).filter kp) u:=(SlP.of_own rfl hu (fun p hp=>by
   obtain⟨x,hx,rfl⟩:=hgs p hp
   exact (hs.good x hx).1.keeps hV) (by have:=List.length_filter_le kp (qs.map (·.1));rw [List.length_map] at this;omega)).mono (Nat.zero_le _)
  have h9:=rmake_16 q hq6 ((qs.map (·.1)).filter kp) u V hsl (by have:=List.length_filter_le kp (qs.map (·.1));rw [List.length_map] at this;omega) (fun p hp=>by
   obtain⟨x,hx,rfl⟩:=hgs p hp
   exact HG.out x hx)
  have e:((qs.map (·.1)).filter kp).map (·.1)=((qs.map trT).map (·.1)).filter (inB q y z):=by
   have e1:(qs.map trT).map (·.1)=(qs.map (·.1)).map (·.1):=by rw [List.map_map,List.map_map];rfl
   rw [e1,hkp]
   generalize qs.map (·.1)=M
   rw [List.filter_map]
   rfl
  rw [e,setL_keep hd.rises hnl,←btwS_keep hd.rises] at h9
  exact h9
 have Hstep:Hid (∀(k:Nat) (hk:k<qs.length),kp qs[k].1=true→((qs.take (k+1)).map (·.1)).filter kp=((qs.take k).map (·.1)).filter kp++[qs[k].1]):=fun k hk h=>by
  rw [List.take_succ_eq_append_getElem hk,List.map_append,List.filter_append]
  simp [h]
 have Hskip:Hid (∀(k:Nat) (hk:k<qs.length),kp qs[k].1=false→((qs.take (k+1)).map (·.1)).filter kp=((qs.take k).map (·.1)).filter kp):=fun k hk h=>by
  rw [List.take_succ_eq_append_getElem hk,List.map_append,List.filter_append]
  simp [h]
 have Hkp:Hid (∀p:VT×Value,kp p=(decide (0≤ordV q p.1 y)&&decide (ordV q p.1 z≤0))):=fun p=>by rw [hkp];rfl
 have Hlen:Hid ((btwS q y z (qs.map trT)).length≤65536):=by
  rw [btwS_keep hd.rises]
  have h9:=List.length_filter_le (fun x:PT=>inB q y z x.1) (qs.map trT)
  rw [List.length_map] at h9
  show _≤_
  omega
 obtain⟨N,hN⟩:∃N,N=qs.length:=⟨_,rfl⟩
 have HN:Hid (N=qs.length):=hN
 have H01:Hid (w.cell? ⟨c,0,none⟩=some (.pointer (some ⟨m,0,none⟩))∧w.cell? ⟨m,0,none⟩=some (.int .i64 (q:Int))∧w.cell? ⟨m,1,none⟩=some (.slice a0 N c0)):=⟨h0,ho,by rw [hN];exact h1⟩
 have HN6:Hid (N≤65536):=by show _≤_;omega
 rw [←hN] at HLn
 have hsz1:w.heap.size+2≤W0.heap.size:=by omega
 have HSz0:Hid (w.heap.size+2≤W0.heap.size):=hsz1
 have HYZ:Hid (W0.cell? ⟨w.heap.size,0,none⟩=some (.int .i64 y.kind)∧W0.cell? ⟨w.heap.size,1,none⟩=some (.int .i64 y.num)∧W0.cell? ⟨w.heap.size,2,none⟩=some (.string y.text)∧W0.cell? ⟨w.heap.size,3,none⟩=some (.slice ay y.items.length cy)∧W0.cell? ⟨w.heap.size+1,0,none⟩=some (.int .i64 z.kind)∧W0.cell? ⟨w.heap.size+1,1,none⟩=some (.int .i64 z.num)∧W0.cell? ⟨w.heap.size+1,2,none⟩=some (.string z.text)∧W0.cell? ⟨w.heap.size+1,3,none⟩=some (.slice az z.items.length cz)):=⟨b0,b1,b2,b3,d0,d1,d2,d3⟩
 have HB0:Hid (Below w.heap.size w W0):=hb0
 clear hi hz0 hz1 hz2 h hs hd hnl h0 ho h1 hN hkp hW0 hy hz hyr hzr hlen hsz0 hsz1 hq6
 generalize btwS q y z (qs.map trT)=L at *
 generalize ordV q=g at *
 go_enter Tryz.func37,Tryz.ntmps37
 go_upto_region 1 with fail
 rw [←HW0.out]
 clear HW0
 go_wp2_with fail
 refine Calls.mono (HR1.out _ hb0) ?_
 rintro e w1 ⟨rfl,hg1⟩
 have hb1:Below w.heap.size w w1:=hb0.trans (hg1.mono hb0.size)
 have b0:=zaa hg1 b0;have b1:=zaa hg1 b1;have b2:=zaa hg1 b2;have b3:=zaa hg1 b3;have d0:=zaa hg1 d0;have d1:=zaa hg1 d1;have d2:=zaa hg1 d2;have d3:=zaa hg1 d3
 go_wp2_with fail
 refine Calls.mono (HR2.out _ hb1) ?_
 rintro e w2 ⟨rfl,hg2⟩
 have hb2:Below w.heap.size w w2:=hb1.trans (hg2.mono hb1.size)
 have hB2:Below W0.heap.size W0 w2:=hg1.trans (hg2.mono hg1.size)
 have b0:=zaa hg2 b0;have b1:=zaa hg2 b1;have b2:=zaa hg2 b2;have b3:=zaa hg2 b3;have d0:=zaa hg2 d0;have d1:=zaa hg2 d1;have d2:=zaa hg2 d2;have d3:=zaa hg2 d3
 have HB2:Hid (Below W0.heap.size W0 w2):=hB2
 clear hg1 hg2 HR1 HR2 hb0 hb1 b0 b1 b2 b3 d0 d1 d2 d3
 go_wp2_with fail
 go_loopg [9,8,10] N (fun z9 i u _ wr=>∃j:Nat,i=.int .i64 (j:Int)∧j≤N∧z9=N-j∧Hid (wr.ownsRow W0.heap.size 33 4 u (((qs.take j).map (·.1)).filter kp).length ((((qs.take j).map (·.1)).filter kp).flatMap encP))∧Hid (Below W0.heap.size W0 wr)∧Hid (Below w.heap.size w wr))
 case atStart=>exact⟨0,rfl,by omega,by omega,World.ownsRow_nil _ _ _ _,HB2.out,hb2⟩
 case round=>
  obtain⟨j,rfl,hj,hk,HOw,HBw,HW⟩:=hrel
  have Hk:Hid _:=hk
  have hbw:=HW.out
  clear hk
  by_cases hlt:j<N
  ·have hji:(j:Int)<(N:Nat):=by omega
   have hji0:(0:Int)≤(j:Int):=by omega
   have hN6:N≤65536:=HN6.out
   have hltq:j<qs.length:=by have:=HN.out;omega
   have HLc:=show Hid _ from HLn.out wr hbw
   go_wp2_with fail
   refine Calls.mono HLc.out ?_
   rintro e wl ⟨rfl,hgl⟩
   have hbl:Below w.heap.size w wl:=hbw.trans (hgl.mono hbw.size)
   have HBl:Hid (Below W0.heap.size W0 wl):=HBw.out.trans (hgl.mono HBw.out.size)
   have Hst:Hid _:=Hstep.out j hltq
   have Hsk:Hid _:=Hskip.out j hltq
   obtain⟨fl,hfl⟩:∃fl,fl=(((qs.take j).map (·.1)).filter kp).length:=⟨_,rfl⟩
   have hfll:fl≤j:=by
    rw [hfl]
    refine Nat.le_trans (List.length_filter_le _ _) ?_
    rw [List.length_map,List.length_take];omega
   have Hfl:Hid (fl=(((qs.take j).map (·.1)).filter kp).length):=hfl
   rw [←hfl] at HOw
   have HOl:Hid (wl.ownsRow W0.heap.size 33 4 u8 fl ((((qs.take j).map (·.1)).filter kp).flatMap encP)):=za0 HOw.out hgl
   obtain⟨g0,g1,g2⟩:=H01.out
   have g0:=zaa hbl g0;have g1:=zaa hbl g1;have g2:=zaa hbl g2
   obtain⟨bb,oo,cc,hv1,_,hq1,hgq⟩:=HS.out.full (fun e=>by rw [e] at hltq;cases hltq)
   have ha1:a0=some ⟨bb,oo,none⟩:=by injection hv1
   subst ha1
   obtain⟨p0,p1,p2,p3,_,_,_,_⟩:=hq1.at j hltq
   have hg:=hgq qs[j] (List.getElem_mem hltq)
   have hgr:=HG.out qs[j] (List.getElem_mem hltq)
   obtain⟨a1,c1,hu1,_⟩:=Lies.slice hg.1.1
   rw [hu1] at p3
   have HX:Hid (Lies 16 w qs[j].1.1.items (.slice a1 qs[j].1.1.items.length c1)∧zab 16 qs[j].1.1=true):=⟨by rw [←hu1];exact hg.1.1,hgr⟩
   generalize qs[j]=x at *
   obtain⟨⟨t1,u1⟩,y2⟩:=x
   simp only at p0 p1 p2 p3 hu1 HX Hst Hsk
   subst hu1
   have p0:=zaa hbl p0;have p1:=zaa hbl p1;have p2:=zaa hbl p2;have p3:=zaa hbl p3
   clear hq1 hgq hg hgr hv1 HLc HOw HBw hgl hbw hfl
   obtain⟨WA,hWA⟩:∃WA,WA=wl.alloc (.cells #[.int .i64 t1.kind,.int .i64 t1.num,.string t1.text,.slice a1 t1.items.length c1] 33):=⟨_,rfl⟩
   have HWA:Hid (WA=wl.alloc (.cells #[.int .i64 t1.kind,.int .i64 t1.num,.string t1.text,.slice a1 t1.items.length c1] 33)):=hWA
   have hgA:Below wl.heap.size wl WA:=by rw [hWA];exact ((Grew.refl wl).alloc _).below
   obtain⟨x0,x1,x2,x3,_,_,_,_⟩:Bx WA wl.heap.size t1 (.slice a1 t1.items.length c1):=by rw [hWA];exact zag _ _ _
   clear hWA
   go_upto_region 8 with fail
   rw [←HWA.out]
   clear HWA p0 p1 p2 p3
   have hbA:Below w.heap.size w WA:=hbl.trans (hgA.mono hbl.size)
   have HBA:Hid (Below W0.heap.size W0 WA):=HBl.out.trans (hgA.mono HBl.out.size)
   have HOA:Hid (WA.ownsRow W0.heap.size 33 4 u8 fl ((((qs.take j).map (·.1)).filter kp).flatMap encP)):=za0 HOl.out hgA
   have g0:=zaa hgA g0;have g1:=zaa hgA g1
   obtain⟨b0,b1,b2,b3,d0,d1,d2,d3⟩:=HYZ.out
   have b0:=zaa HBA.out b0;have b1:=zaa HBA.out b1;have b2:=zaa HBA.out b2;have b3:=zaa HBA.out b3;have d0:=zaa HBA.out d0;have d1:=zaa HBA.out d1;have d2:=zaa HBA.out d2;have d3:=zaa HBA.out d3
   have HX1:Hid (∀V,Below WA.heap.size WA V→Calls Tryz.prog 91 #[.int .i64 (q:Int),.agg #[.int .i64 t1.kind,.int .i64 t1.num,.string t1.text,.slice a1 t1.items.length c1],.agg #[.int .i64 y.kind,.int .i64 y.num,.string y.text,.slice ay y.items.length cy]] V fun e w'=>e=.returned (.int .i64 (g t1 y))∧Below V.heap.size V w'):=fun V hV=>HO1.out t1 _ V (hbA.trans (hV.mono hbA.size)) (Lies.keeps (hbA.trans (hV.mono hbA.size)) _ _ _ HX.out.1) HX.out.2
   have HX2:Hid (∀V,Below WA.heap.size WA V→Calls Tryz.prog 91 #[.int .i64 (q:Int),.agg #[.int .i64 t1.kind,.int .i64 t1.num,.string t1.text,.slice a1 t1.items.length c1],.agg #[.int .i64 z.kind,.int .i64 z.num,.string z.text,.slice az z.items.length cz]] V fun e w'=>e=.returned (.int .i64 (g t1 z))∧Below V.heap.size V w'):=fun V hV=>HO2.out t1 _ V (hbA.trans (hV.mono hbA.size)) (Lies.keeps (hbA.trans (hV.mono hbA.size)) _ _ _ HX.out.1) HX.out.2
   have HK9:Hid _:=Hkp.out (t1,.slice a1 t1.items.length c1)
   have HbA:Hid (Below w.heap.size w WA):=hbA
   simp only at HK9
   clear hbl hgA hbA HOl HBl g2
   generalize g t1 y=A at *
   generalize g t1 z=C at *
   have hbx:Below WA.heap.size WA WA:=Below.refl _ _
   cases hkq:kp (t1,.slice a1 t1.items.length c1) with
   | false=>
    have hsk:=Hsk.out hkq
    have HE:Hid (WA.ownsRow W0.heap.size 33 4 u8 (((qs.take (j+1)).map (·.1)).filter kp).length ((((qs.take (j+1)).map (·.1)).filter kp).flatMap encP)):=by
     rw [hsk,←Hfl.out]
     exact HOA.out
    have hno:=inB_no (HK9.out.symm.trans hkq)
    clear hsk Hsk Hst Hkp Hstep Hskip HOA Hfl HX hkq HK9
    rcases hno with hA|⟨hA,hC⟩
    ·have hA2:decide (0≤A)=false:=decide_eq_false hA
     clear hA
     have hS0:Below WA.heap.size WA WA.drew:=(Below.refl _ _).drew
     refine wp_region_held_drew (S:=fun w9=>Below WA.heap.size WA w9) (by kernel_rfl) hS0 (fun _=>?_)
     refine wpAnyH_take (i:=0) (v:=(.pointer (some ⟨c,0,none⟩))) rfl (by kernel_rfl) (by kernel_rfl) (by kernel_rfl) (fun _ _ _ h=>h) (.inl ⟨by kernel_rfl,fun w9 hS=>?_⟩) hS0 ?_
     ·(try clear hS);simp [go_sem]
     refine wpAnyH_take (i:=1) (v:=(.pointer (some ⟨c,0,none⟩))) rfl (by kernel_rfl) (by kernel_rfl) (by kernel_rfl) (fun _ _ _ h=>h) (.inl ⟨by kernel_rfl,fun w9 hS=>?_⟩) hS0 ?_
     ·(try clear hS);simp [go_sem]
     refine wpAnyH_take (i:=2) (v:=(.pointer (some ⟨c,0,none⟩))) rfl (by kernel_rfl) (by kernel_rfl) (by kernel_rfl) (fun _ _ _ h=>h) (.inl ⟨by kernel_rfl,fun w9 hS=>?_⟩) hS0 ?_
     ·(try clear hS);simp [go_sem]
     refine wpAnyH_take (i:=3) (v:=(.pointer (some ⟨m,0,none⟩))) rfl (by kernel_rfl) (by kernel_rfl) (by kernel_rfl) (fun _ _ _ h=>h) (.inl ⟨by kernel_rfl,fun w9 hS=>?_⟩) hS0 ?_
     ·have g0:=zaa hS g0;(try clear hS);simp [go_sem,g0]
     refine wpAnyH_take (i:=4) (v:=(.pointer (some ⟨m,0,none⟩))) rfl (by kernel_rfl) (by kernel_rfl) (by kernel_rfl) (fun _ _ _ h=>h) (.inl ⟨by kernel_rfl,fun w9 hS=>?_⟩) hS0 ?_
     ·(try clear hS);simp [go_sem]
     refine wpAnyH_take (i:=5) (v:=(.pointer (some ⟨m,0,none⟩))) rfl (by kernel_rfl) (by kernel_rfl) (by kernel_rfl) (fun _ _ _ h=>h) (.inl ⟨by kernel_rfl,fun w9 hS=>?_⟩) hS0 ?_
     ·(try clear hS);simp [go_sem]
     refine wpAnyH_take (i:=6) (v:=(.int .i64 (q:Int))) rfl (by kernel_rfl) (by kernel_rfl) (by kernel_rfl) (fun _ _ _ h=>h) (.inl ⟨by kernel_rfl,fun w9 hS=>?_⟩) hS0 ?_
     ·have g1:=zaa hS g1;(try clear hS);simp [go_sem,g1]
     refine wpAnyH_take (i:=7) (v:=(.agg #[.int .i64 t1.kind,.int .i64 t1.num,.string t1.text,.slice a1 t1.items.length c1])) rfl (by kernel_rfl) (by kernel_rfl) (by kernel_rfl) (fun _ _ _ h=>h) (.inl ⟨by kernel_rfl,fun w9 hS=>?_⟩) hS0 ?_
     ·have x0:=zaa hS x0;have x1:=zaa hS x1;have x2:=zaa hS x2;have x3:=zaa hS x3;(try clear hS);simp [go_sem,x0,x1,x2,x3]
     refine wpAnyH_take (i:=8) (v:=(.agg #[.int .i64 y.kind,.int .i64 y.num,.string y.text,.slice ay y.items.length cy])) rfl (by kernel_rfl) (by kernel_rfl) (by kernel_rfl) (fun _ _ _ h=>h) (.inl ⟨by kernel_rfl,fun w9 hS=>?_⟩) hS0 ?_
     ·have b0:=zaa hS b0;have b1:=zaa hS b1;have b2:=zaa hS b2;have b3:=zaa hS b3;(try clear hS);simp [go_sem,b0,b1,b2,b3]
     refine wpAnyH_ready (rs:=[9]) (by kernel_rfl) (by simp) ?_
     refine AllReadyH.cons rfl (fun K hK=>?_) AllReadyH.nil
     go_simp
     refine Calls.mono (HX1.out _ hS0) ?_
     rintro e w3 ⟨rfl,hg3⟩
     have hS3:Below WA.heap.size WA w3:=hS0.trans (hg3.mono hS0.size)
     replace hbx:=hS3
     refine hK.out _ _ hS3 (fun _=>?_)
     clear hK K hg3
     refine wpAnyH_take (i:=10) (v:=(.bool false)) rfl (by kernel_rfl) (by kernel_rfl) (by kernel_rfl) (fun _ _ _ h=>h) (.inl ⟨by kernel_rfl,fun w9 hS=>?_⟩) hS3 ?_
     ·clear hS;simp [go_sem,hA2]
     refine wpAnyH_take (i:=11) (v:=(.bool false)) rfl (by kernel_rfl) (by kernel_rfl) (by kernel_rfl) (fun _ _ _ h=>h) (.inl ⟨by kernel_rfl,fun w9 hS=>?_⟩) hS3 ?_
     ·clear hS;simp [go_sem]
     refine wpAnyH_take (i:=12) (v:=undef) rfl (by kernel_rfl) (by kernel_rfl) (by kernel_rfl) (fun _ _ _ h=>h) (.inr ⟨by kernel_rfl,rfl⟩) hS3 ?_
     refine wpAnyH_take (i:=13) (v:=undef) rfl (by kernel_rfl) (by kernel_rfl) (by kernel_rfl) (fun _ _ _ h=>h) (.inr ⟨by kernel_rfl,rfl⟩) hS3 ?_
     refine wpAnyH_take (i:=14) (v:=undef) rfl (by kernel_rfl) (by kernel_rfl) (by kernel_rfl) (fun _ _ _ h=>h) (.inr ⟨by kernel_rfl,rfl⟩) hS3 ?_
     refine wpAnyH_take (i:=15) (v:=undef) rfl (by kernel_rfl) (by kernel_rfl) (by kernel_rfl) (fun _ _ _ h=>h) (.inr ⟨by kernel_rfl,rfl⟩) hS3 ?_
     refine wpAnyH_take (i:=16) (v:=undef) rfl (by kernel_rfl) (by kernel_rfl) (by kernel_rfl) (fun _ _ _ h=>h) (.inr ⟨by kernel_rfl,rfl⟩) hS3 ?_
     refine wpAnyH_take (i:=17) (v:=undef) rfl (by kernel_rfl) (by kernel_rfl) (by kernel_rfl) (fun _ _ _ h=>h) (.inr ⟨by kernel_rfl,rfl⟩) hS3 ?_
     refine wpAnyH_take (i:=18) (v:=undef) rfl (by kernel_rfl) (by kernel_rfl) (by kernel_rfl) (fun _ _ _ h=>h) (.inr ⟨by kernel_rfl,rfl⟩) hS3 ?_
     refine wpAnyH_take (i:=19) (v:=undef) rfl (by kernel_rfl) (by kernel_rfl) (by kernel_rfl) (fun _ _ _ h=>h) (.inr ⟨by kernel_rfl,rfl⟩) hS3 ?_
     refine wpAnyH_take (i:=20) (v:=undef) rfl (by kernel_rfl) (by kernel_rfl) (by kernel_rfl) (fun _ _ _ h=>h) (.inr ⟨by kernel_rfl,rfl⟩) hS3 ?_
     refine wpAnyH_take (i:=21) (v:=undef) rfl (by kernel_rfl) (by kernel_rfl) (by kernel_rfl) (fun _ _ _ h=>h) (.inr ⟨by kernel_rfl,rfl⟩) hS3 ?_
     refine wpAnyH_take (i:=22) (v:=undef) rfl (by kernel_rfl) (by kernel_rfl) (by kernel_rfl) (fun _ _ _ h=>h) (.inr ⟨by kernel_rfl,rfl⟩) hS3 ?_
     refine wpAnyH_take (i:=23) (v:=(.bool false)) rfl (by kernel_rfl) (by kernel_rfl) (by kernel_rfl) (fun _ _ _ h=>h) (.inl ⟨by kernel_rfl,fun w9 hS=>?_⟩) hS3 ?_
     ·clear hS;simp [go_sem]
     refine wpAnyH_done (by kernel_rfl) ?_ _
     simp only [Act.put,List.getElem_toArray,List.getElem_cons_zero,List.getElem_cons_succ,List.setIfInBounds_toArray,List.set_cons_zero,List.set_cons_succ]
     have hb9:Below w.heap.size w w3:=HbA.out.trans (hbx.mono HbA.out.size)
     have HB9:Hid (Below W0.heap.size W0 w3):=HBA.out.trans (hbx.mono HBA.out.size)
     have HE9:Hid _:=za0 HE.out hbx
     go_wp2_with fail
     go_roundg (N-(j+1))
     case measure=>have:=Hk.out;omega
     case rel=>exact⟨j+1,by go_num,by omega,rfl,HE9.out,HB9.out,hb9⟩
    ·have hA2:decide (0≤A)=true:=decide_eq_true hA
     have hC2:decide (C≤0)=false:=decide_eq_false hC
     clear hA hC
     go_region_held3 (fun w'=>w'.cell? ⟨c,0,none⟩=some (.pointer (some ⟨m,0,none⟩))∧w'.cell? ⟨m,0,none⟩=some (.int .i64 (q:Int))∧w'.cell? ⟨wl.heap.size,0,none⟩=some (.int .i64 t1.kind)∧w'.cell? ⟨wl.heap.size,1,none⟩=some (.int .i64 t1.num)∧w'.cell? ⟨wl.heap.size,2,none⟩=some (.string t1.text)∧w'.cell? ⟨wl.heap.size,3,none⟩=some (.slice a1 t1.items.length c1)∧w'.cell? ⟨w.heap.size,0,none⟩=some (.int .i64 y.kind)∧w'.cell? ⟨w.heap.size,1,none⟩=some (.int .i64 y.num)∧w'.cell? ⟨w.heap.size,2,none⟩=some (.string y.text)∧w'.cell? ⟨w.heap.size,3,none⟩=some (.slice ay y.items.length cy)∧w'.cell? ⟨w.heap.size+1,0,none⟩=some (.int .i64 z.kind)∧w'.cell? ⟨w.heap.size+1,1,none⟩=some (.int .i64 z.num)∧w'.cell? ⟨w.heap.size+1,2,none⟩=some (.string z.text)∧w'.cell? ⟨w.heap.size+1,3,none⟩=some (.slice az z.items.length cz)) (go_keep)
      (first
       | (go_at_call 91;(with_reducible refine Calls.mono (HX1.out _ (hbx.trans ((Below.refl _ _).drew.mono hbx.size))) ?_);rintro e w3 ⟨rfl,hg3⟩;replace hbx:=(hbx.trans ((Below.refl WA.heap.size WA).drew.mono hbx.size)).trans (hg3.mono (hbx.trans ((Below.refl WA.heap.size WA).drew.mono hbx.size)).size);have g0:=zaa hg3 g0;have g1:=zaa hg3 g1;have x0:=zaa hg3 x0;have x1:=zaa hg3 x1;have x2:=zaa hg3 x2;have x3:=zaa hg3 x3;have b0:=zaa hg3 b0;have b1:=zaa hg3 b1;have b2:=zaa hg3 b2;have b3:=zaa hg3 b3;have d0:=zaa hg3 d0;have d1:=zaa hg3 d1;have d2:=zaa hg3 d2;have d3:=zaa hg3 d3;clear hg3)
       | (go_at_call 91;(with_reducible refine Calls.mono (HX2.out _ (hbx)) ?_);rintro e w3 ⟨rfl,hg3⟩;replace hbx:=(hbx).trans (hg3.mono (hbx).size);have g0:=zaa hg3 g0;have g1:=zaa hg3 g1;have x0:=zaa hg3 x0;have x1:=zaa hg3 x1;have x2:=zaa hg3 x2;have x3:=zaa hg3 x3;have b0:=zaa hg3 b0;have b1:=zaa hg3 b1;have b2:=zaa hg3 b2;have b3:=zaa hg3 b3;have d0:=zaa hg3 d0;have d1:=zaa hg3 d1;have d2:=zaa hg3 d2;have d3:=zaa hg3 d3;clear hg3))
     have hb9:Below w.heap.size w w3:=HbA.out.trans (hbx.mono HbA.out.size)
     have HB9:Hid (Below W0.heap.size W0 w3):=HBA.out.trans (hbx.mono HBA.out.size)
     have HE9:Hid _:=za0 HE.out hbx
     go_wp2_with fail
     go_roundg (N-(j+1))
     case measure=>have:=Hk.out;omega
     case rel=>exact⟨j+1,by go_num,by omega,rfl,HE9.out,HB9.out,hb9⟩
   | true=>
    have hst:=Hst.out hkq
    obtain⟨hA,hC⟩:0≤A∧C≤0:=by
     have h9:=HK9.out.symm.trans hkq
     simp only [Bool.and_eq_true,decide_eq_true_eq] at h9
     exact h9
    have Htl:Hid ((((qs.take (j+1)).map (·.1)).filter kp).length=fl+1):=by
     show _=_
     rw [hst,List.length_append,←Hfl.out]
     rfl
    have Htk:Hid ((((qs.take (j+1)).map (·.1)).filter kp).flatMap encP=(((qs.take j).map (·.1)).filter kp).flatMap encP++encP (t1,.slice a1 t1.items.length c1)):=by
     show _=_
     rw [hst,List.flatMap_append]
     simp
    have hA2:decide (0≤A)=true:=decide_eq_true hA
    have hC2:decide (C≤0)=true:=decide_eq_true hC
    clear hst Hsk Hst Hkp Hstep Hskip Hfl HX hkq HK9 hA hC
    go_region_held3 (fun w'=>w'.cell? ⟨c,0,none⟩=some (.pointer (some ⟨m,0,none⟩))∧w'.cell? ⟨m,0,none⟩=some (.int .i64 (q:Int))∧w'.cell? ⟨wl.heap.size,0,none⟩=some (.int .i64 t1.kind)∧w'.cell? ⟨wl.heap.size,1,none⟩=some (.int .i64 t1.num)∧w'.cell? ⟨wl.heap.size,2,none⟩=some (.string t1.text)∧w'.cell? ⟨wl.heap.size,3,none⟩=some (.slice a1 t1.items.length c1)∧w'.cell? ⟨w.heap.size,0,none⟩=some (.int .i64 y.kind)∧w'.cell? ⟨w.heap.size,1,none⟩=some (.int .i64 y.num)∧w'.cell? ⟨w.heap.size,2,none⟩=some (.string y.text)∧w'.cell? ⟨w.heap.size,3,none⟩=some (.slice ay y.items.length cy)∧w'.cell? ⟨w.heap.size+1,0,none⟩=some (.int .i64 z.kind)∧w'.cell? ⟨w.heap.size+1,1,none⟩=some (.int .i64 z.num)∧w'.cell? ⟨w.heap.size+1,2,none⟩=some (.string z.text)∧w'.cell? ⟨w.heap.size+1,3,none⟩=some (.slice az z.items.length cz)) (go_keep)
     (first
      | (go_at_call 91;(with_reducible refine Calls.mono (HX1.out _ (hbx.trans ((Below.refl _ _).drew.mono hbx.size))) ?_);rintro e w3 ⟨rfl,hg3⟩;replace hbx:=(hbx.trans ((Below.refl WA.heap.size WA).drew.mono hbx.size)).trans (hg3.mono (hbx.trans ((Below.refl WA.heap.size WA).drew.mono hbx.size)).size);have g0:=zaa hg3 g0;have g1:=zaa hg3 g1;have x0:=zaa hg3 x0;have x1:=zaa hg3 x1;have x2:=zaa hg3 x2;have x3:=zaa hg3 x3;have b0:=zaa hg3 b0;have b1:=zaa hg3 b1;have b2:=zaa hg3 b2;have b3:=zaa hg3 b3;have d0:=zaa hg3 d0;have d1:=zaa hg3 d1;have d2:=zaa hg3 d2;have d3:=zaa hg3 d3;clear hg3)
      | (go_at_call 91;(with_reducible refine Calls.mono (HX2.out _ (hbx)) ?_);rintro e w3 ⟨rfl,hg3⟩;replace hbx:=(hbx).trans (hg3.mono (hbx).size);have g0:=zaa hg3 g0;have g1:=zaa hg3 g1;have x0:=zaa hg3 x0;have x1:=zaa hg3 x1;have x2:=zaa hg3 x2;have x3:=zaa hg3 x3;have b0:=zaa hg3 b0;have b1:=zaa hg3 b1;have b2:=zaa hg3 b2;have b3:=zaa hg3 b3;have d0:=zaa hg3 d0;have d1:=zaa hg3 d1;have d2:=zaa hg3 d2;have d3:=zaa hg3 d3;clear hg3))
    have hb3:Below W0.heap.size W0 w3:=HBA.out.trans (hbx.mono HBA.out.size)
    have HO3:Hid (w3.ownsRow W0.heap.size 33 4 u8 fl ((((qs.take j).map (·.1)).filter kp).flatMap encP)):=za0 HOA.out hbx
    have hs3:W0.heap.size≤w3.heap.size:=hb3.size
    have hfj:fl<65536:=by have:=HN6.out;omega
    clear hbx HX1 HX2 HOA
    go_wp2_with (first
     | (at_builtin;refine wpList_append_own _ rfl _ _ 22 rfl W0.heap.size 33 i0 (.agg #[.int .i64 0,.int .i64 0,.string ⟨#[]⟩,.slice none 0 0]) 4 56 Tryz.underlying22 Hi.out Hz0.out Hz1.out Hz2.out rfl (by decide) _ _ _ rfl (HO3.out.alloc _) ⟨w3.heap.size,0,none⟩ 1 1 [.int .i64 t1.kind,.int .i64 t1.num,.string t1.text,.slice a1 t1.items.length c1] rfl rfl (fun q u hq=>by match q,hq with|0,hq=>(simp at hq;subst hq;simp [Addr.add])|1,hq=>(simp at hq;subst hq;simp [Addr.add])|2,hq=>(simp at hq;subst hq;simp [Addr.add])|3,hq=>(simp at hq;subst hq;simp [Addr.add])) (fun u hu=>by simp at hu;rcases hu with rfl|rfl|rfl|rfl <;> rfl) (by unfold maxLen;omega) (by omega) (by simp;omega) ?_;intro v9 w9 hown hgrow _))
    have hb9:Below W0.heap.size W0 w9:=zat (hb3.alloc hs3 _) (by simp;omega) (HO3.out.alloc _) hgrow
    have HR9:Hid (w9.ownsRow W0.heap.size 33 4 v9 (((qs.take (j+1)).map (·.1)).filter kp).length ((((qs.take (j+1)).map (·.1)).filter kp).flatMap encP)):=by
     rw [Htl.out,Htk.out]
     exact hown
    have HB9:Hid (Below W0.heap.size W0 w9):=hb9
    have hbw9:Below w.heap.size w w9:=HB0.out.trans (hb9.mono HB0.out.size)
    clear hown hgrow hb3 hb9 HO3 b0 b1 b2 b3 d0 d1 d2 d3 x0 x1 x2 x3 g0 g1 hA2 hC2
    go_roundg (N-(j+1))
    case measure=>have:=Hk.out;omega
    case rel=>exact⟨j+1,by go_num,by omega,rfl,HR9,HB9,hbw9⟩
  ·have hjl:j=N:=by omega
   have hji : ¬(j:Int)<(N:Nat):=by omega
   have HLc:=show Hid _ from HLn.out wr hbw
   have HOe:Hid (wr.ownsRow W0.heap.size 33 4 u8 ((qs.map (·.1)).filter kp).length (((qs.map (·.1)).filter kp).flatMap encP)):=by
    have h9:=HOw.out
    rw [hjl,HN.out,List.take_length] at h9
    exact h9
   clear HOw HBw hjl
   go_wp2_with fail
   refine Calls.mono HLc.out ?_
   rintro e wl ⟨rfl,hgl⟩
   have hbl:Below w.heap.size w wl:=hbw.trans (hgl.mono hbw.size)
   obtain⟨g0,g1,_⟩:=H01.out
   have g0:=zaa hbl g0;have g1:=zaa hbl g1
   have HMk:=show Hid _ from Hend.out _ _ hbl (za0 HOe.out hgl)
   clear HLc HOe Hend hgl
   go_wp2_with fail
   refine Calls.mono HMk.out ?_
   rintro e w9 ⟨hg9,c9,m9,a9,k9,rfl,_,_,hd9⟩
   have HE:Hid (DsPost q L 0 w (.returned (.tuple #[.pointer (some ⟨c9,0,none⟩),.int .i64 0])) w9):=⟨hbl.trans (hg9.mono hbl.size),_,rfl,.inr ⟨rfl,c9,rfl,hd9 Hlen.out⟩⟩
   clear hd9 hg9 HMk hbl g0 g1
   go_wp2_with fail
   go_ret2
   exact HE.out
theorem rbtw_16 {w:World} {q:Nat} {l:List PT} {c:Nat} (h:DS w q l c) (d:Nat) (y z:VT) (yu zu:Value) (hy:Lies d w y.items yu) (hz:Lies d w z.items zu):Calls Tryz.prog 37 #[.pointer (some ⟨c,0,none⟩),.agg #[.int .i64 y.kind,.int .i64 y.num,.string y.text,yu],.agg #[.int .i64 z.kind,.int .i64 z.num,.string z.text,zu]] w (DsPost q (btwS q y z l) (btwE d d y z) w):=by
 obtain⟨ay,cy,rfl,_⟩:=Lies.slice hy
 obtain⟨az,cz,rfl,_⟩:=Lies.slice hz
 by_cases hr:zab d y=true∧zab d z=true
 ·have e:btwE d d y z=0:=by unfold btwE;simp [hr.1,hr.2]
  rw [e]
  obtain⟨g1,g2⟩:=canon hy hr.1
  obtain⟨k1,k2⟩:=canon hz hr.2
  exact rbtw16_right h y z ay az cy cz g1 k1 g2 k2
 ·have e:btwE d d y z=3:=by
   unfold btwE
   rw [if_neg (by simpa using hr)]
  rw [e]
  refine (rbtw16_wrong d c y z ay az cy cz w hy hz hr).mono fun e w' h9=>?_
  obtain⟨rfl,hb⟩:=h9
  exact⟨hb,none,rfl,.inl ⟨by decide,rfl⟩⟩
end Go.Proofs.YtlnecfjnffdciabGreat

