import Derived.Test.YtlnecfjnffdciabGreatSFst16
import Derived.Test.YtlnecfjnffdciabGreatRTurn14
import Derived.Test.YtlnecfjnffdciabGreatRIn
import Derived.Test.YtlnecfjnffdciabGreatRunesP
import Derived.Test.YtlnecfjnffdciabGreatRSets
import Derived.Test.YtlnecfjnffdciabGreatRHave14
import Derived.Test.YtlnecfjnffdciabGreatAppR
import Derived.Deep.RegionLaw
import Derived.Deep.CutRange
import Derived.Deep.CutBlock
import Derived.Test.YtlnecfjnffdciabGreatTold
import Derived.Test.YtlnecfjnffdciabGreatBx8
import Derived.Test.YtlnecfjnffdciabGreatReadL
namespace Go.Proofs.YtlnecfjnffdciabGreat
open Go.RowKit Go.Shelf
def DS (w:World) (q:Nat) (l:List PT) (c:Nat):Prop:=∃m,w.cell? ⟨c,0,none⟩=some (.pointer (some ⟨m,0,none⟩))∧DM w q l m∧Nils l
theorem DS.keeps {w w':World} {q:Nat} {l:List PT} {c:Nat} (h:DS w q l c) (hb:Below w.heap.size w w'):DS w' q l c:=by
 obtain⟨m,h1,h2,h3⟩:=h
 exact⟨m,zaa hb h1,h2.keeps hb,h3⟩
def nilP (v:VT):PT:=(v,nilT)
def setL (q:Nat) (vs:List VT):List PT:=ofL q (vs.map nilP)
theorem setL_nils (q:Nat) (vs:List VT):Nils (setL q vs):=fun x hx=>by
 obtain⟨v,_,rfl⟩:=List.mem_map.1 (kyd_mem _ _ _ _ hx)
 rfl
theorem setL_len (q:Nat) (vs:List VT):(setL q vs).length≤vs.length:=by
 have h9:=kyd_len (byK q) ((vs.map nilP).length+1) (vs.map nilP)
 rw [List.length_map] at h9
 unfold setL ofL
 rw [List.length_map]
 exact h9
theorem keyP_map (ps:List (VT×Value)):(ps.map keyP).map trT=(ps.map (·.1)).map nilP:=by rw [List.map_map,List.map_map];rfl
def MkPost (q:Nat) (l:List PT) (w:World) (e:Ending) (w':World):Prop:=Below w.heap.size w w'∧∃c m a9 c9,e=.returned (.pointer (some ⟨c,0,none⟩))∧w'.cell? ⟨c,0,none⟩=some (.pointer (some ⟨m,0,none⟩))∧w'.cell? ⟨m,1,none⟩=some (.slice a9 l.length c9)∧(l.length≤65536→DS w' q l c)
theorem nil_right:zab 16 nilT=true∧Dp 16 nilT:=⟨by kernel_rfl,Dp.of_lies 16 (default:World) nilT (.slice none 0 0) (zero_lies 16 _)⟩
set_option maxRecDepth 100000 in
set_option maxHeartbeats 8000000 in
theorem rmake_16 (q:Nat) (hq:q<6) (ps:List (VT×Value)) (v:Value) (w:World) (hv:SlP 0 16 w ps v) (hlen:ps.length≤131072) (hg:∀p∈ps,zab 16 p.1=true):Calls Tryz.prog 61 #[.int .i64 (q:Int),v] w (MkPost q (setL q (ps.map (·.1))) w):=by
 obtain⟨i0,hi,hz0,hz1,hz2⟩:=infoQ
 have Hi:Hid _:=hi;have Hz0:Hid _:=hz0;have Hz1:Hid _:=hz1;have Hz2:Hid _:=hz2
 have HS:Hid (SlP 0 16 w ps v):=hv
 have HL:Hid (ps.length≤131072):=hlen
 obtain⟨_,_,hvv,_,_,_,hgs⟩:=hv
 clear hvv
 have hG:∀p∈ps.map keyP,Good 16 p.1.1∧Good 16 p.2.1:=fun p hp=>by
  obtain⟨x,hx,rfl⟩:=List.mem_map.1 hp
  exact⟨⟨hg x hx,Dp.of_lies 16 w x.1 x.2 (hgs x hx).1⟩,nil_right⟩
 have hK:(kyd (cmpO q) ((ps.map keyP).length+1) (ps.map keyP)).map trT=setL q (ps.map (·.1)):=by
  unfold setL
  rw [←keyP_map]
  exact ofK_is q (ps.map keyP)
 have HB:Hid (∀V u,SlQ 0 16 V (ps.map keyP) u→Calls Tryz.prog 118 #[.int .i64 (q:Int),u] V fun e w'=>Below V.heap.size V w'∧∃m a9 c9,e=.returned (.pointer (some ⟨m,0,none⟩))∧w'.cell? ⟨m,1,none⟩=some (.slice a9 (setL q (ps.map (·.1))).length c9)∧((setL q (ps.map (·.1))).length≤65536→DM w' q (setL q (ps.map (·.1))) m)):=fun V u hu=>by
  refine (rbuild_any q hq (ps.map keyP).length (ps.map keyP) u V hu (fun p hp=>(hG p hp).1.1) (by rw [keyP_len];exact hlen) (by omega)).mono fun e w' h=>?_
  have h2:=h
  obtain⟨hb,b,v,rfl,h0,h1,hs⟩:=h
  obtain⟨a9,c9,rfl,_⟩:=hs.slice
  have hl:(kyd (cmpO q) ((ps.map keyP).length+1) (ps.map keyP)).length=(setL q (ps.map (·.1))).length:=by rw [←hK];simp
  rw [hl] at h1
  refine⟨hb,b,a9,c9,rfl,h1,fun hz=>?_⟩
  obtain⟨_,b2,he,hd⟩:=BdP.dm hq (by omega) h2 hG (by rw [hl];exact hz)
  simp only [Ending.returned.injEq,Value.pointer.injEq,Option.some.injEq,Addr.mk.injEq,and_true] at he
  subst he
  rw [hK] at hd
  exact hd
 have HNl:Hid (Nils (setL q (ps.map (·.1)))):=setL_nils q _
 obtain⟨a0,c0,rfl,_⟩:=HS.out.slice
 obtain⟨n,hn⟩:∃n,n=ps.length:=⟨_,rfl⟩
 have HN:Hid (n=ps.length):=hn
 rw [←hn] at hlen ⊢
 clear hi hz0 hz1 hz2 hgs hG hK hg hn hq
 generalize setL q (ps.map (·.1))=SL at *
 go_enter Tryz.func61,Tryz.ntmps61
 go_wp2_with fail
 go_loopg [6,5] n (fun z i u wr=>∃j:Nat,i=.int .i64 (j:Int)∧j≤n∧z=n-j∧Hid (wr.ownsRow w.heap.size 108 8 u j (((ps.take j).map keyP).flatMap encQ))∧Hid (Below w.heap.size w wr))
 case atStart=>exact⟨0,rfl,by omega,by omega,World.ownsRow_nil _ _ _ _,Below.refl _ _⟩
 case round=>
  obtain⟨j,rfl,hj,hk,HOw,HBw⟩:=hrel
  have Hk:Hid _:=hk
  have hbw:=HBw.out
  clear hk
  by_cases hlt:j<n
  ·have hlt':j<ps.length:=by have:=HN.out;omega
   obtain⟨b1,o1,c1',hv1,_,hq1,hgq⟩:=HS.out.some (fun e=>by rw [e] at hlt';cases hlt')
   have ha1:a0=some ⟨b1,o1,none⟩:=by injection hv1
   subst ha1
   obtain⟨p0,p1,p2,p3⟩:=hq1 j hlt'
   have hg:=hgq ps[j] (List.getElem_mem hlt')
   have Htk:Hid (((ps.take (j+1)).map keyP).flatMap encQ=((ps.take j).map keyP).flatMap encQ++encQ (keyP ps[j])):=by
    show _=_
    rw [List.take_succ_eq_append_getElem hlt',List.map_append,List.flatMap_append];simp
   obtain⟨a1,c1,hu1,_⟩:=Lies.slice hg.1
   rw [hu1] at p3
   generalize ps[j]=x at *
   obtain⟨t1,u1⟩:=x
   simp only at p0 p1 p2 p3 hu1
   subst hu1
   have p0:=zaa hbw p0;have p1:=zaa hbw p1;have p2:=zaa hbw p2;have p3:=zaa hbw p3
   have hji:(j:Int)<(n:Nat):=by omega
   have hws:w.heap.size≤wr.heap.size:=hbw.size
   clear hq1 hgq hg hv1
   go_wp2_with (first
    | (at_builtin;refine wpList_append_own _ rfl _ _ 76 rfl w.heap.size 108 i0 (.agg #[.int .i64 0,.int .i64 0,.string ⟨#[]⟩,.slice none 0 0,.int .i64 0,.int .i64 0,.string ⟨#[]⟩,.slice none 0 0]) 8 112 Tryz.underlying76 Hi.out Hz0.out Hz1.out Hz2.out rfl (by decide) _ _ _ rfl (HOw.out.alloc _) ⟨wr.heap.size,0,none⟩ 1 1 [.int .i64 t1.kind,.int .i64 t1.num,.string t1.text,.slice a1 t1.items.length c1,.int .i64 0,.int .i64 0,.string ⟨#[]⟩,.slice none 0 0] rfl rfl (fun q u hq=>by match q,hq with|0,hq=>(simp at hq;subst hq;simp [Addr.add])|1,hq=>(simp at hq;subst hq;simp [Addr.add])|2,hq=>(simp at hq;subst hq;simp [Addr.add])|3,hq=>(simp at hq;subst hq;simp [Addr.add])|4,hq=>(simp at hq;subst hq;simp [Addr.add])|5,hq=>(simp at hq;subst hq;simp [Addr.add])|6,hq=>(simp at hq;subst hq;simp [Addr.add])|7,hq=>(simp at hq;subst hq;simp [Addr.add])) (fun u hu=>by simp at hu;rcases hu with rfl|rfl|rfl|rfl|rfl|rfl|rfl|rfl <;> rfl) (by unfold maxLen;omega) (by omega) (by simp;omega) ?_;intro v9 w9 hown hgrow _))
   have hb9:Below w.heap.size w w9:=zah (hbw.alloc hws _) (by simp;omega) (HOw.out.alloc _) hgrow
   have HR9:Hid (w9.ownsRow w.heap.size 108 8 v9 (j+1) (((ps.take (j+1)).map keyP).flatMap encQ)):=by
    rw [Htk.out]
    exact hown
   clear hown hgrow p0 p1 p2 p3
   go_roundg (n-(j+1))
   case measure=>have:=Hk.out;omega
   case rel=>exact⟨j+1,by go_num,by omega,rfl,HR9,hb9⟩
  ·have hjl:j=n:=by omega
   have hji : ¬(j:Int)<(n:Nat):=by omega
   have HSq:Hid (SlQ 0 16 wr (ps.map keyP) u5):=by
    have h9:=HOw.out
    rw [hjl,HN.out,List.take_length] at h9
    refine (SlQ.of_own (by rw [keyP_len]) h9 (fun p hp=>?_) (by rw [keyP_len];have:=HL.out;omega)).mono (Nat.zero_le _)
    obtain⟨x,hx,rfl⟩:=List.mem_map.1 hp
    obtain⟨_,_,_,_,_,_,hgs⟩:=HS.out
    exact (keyP_good (hgs x hx)).keeps hbw
   have HBd:Hid _:=HB.out wr _ HSq.out
   clear HOw HB HSq hjl
   go_wp2_with fail
   refine Calls.mono HBd.out ?_
   rintro e w2 ⟨hg2,m,a9,c9,rfl,hm1,hmd⟩
   have hb2:Below w.heap.size w w2:=hbw.trans (hg2.mono hbw.size)
   have hal:Below w2.heap.size w2 (w2.alloc (.cells #[.pointer (some ⟨m,0,none⟩)] 101)):=((Grew.refl w2).alloc _).below
   have HE:Hid (MkPost q SL w (.returned (.pointer (some ⟨w2.heap.size,0,none⟩))) (w2.alloc (.cells #[.pointer (some ⟨m,0,none⟩)] 101))):=⟨hb2.trans (hal.mono hb2.size),_,m,a9,c9,rfl,by simp,zaa hal hm1,fun hz=>⟨m,by simp,(hmd hz).keeps hal,HNl.out⟩⟩
   clear hg2 hm1 hmd hb2 hal HBd
   go_wp2_with fail
   first|exact HE.out|(go_ret;exact HE.out)
def DsPost (q:Nat) (l:List PT) (E:Int) (w:World) (e:Ending) (w':World):Prop:=Below w.heap.size w w'∧∃p:Option Addr,e=.returned (.tuple #[.pointer p,.int .i64 E])∧((E≠0∧p=none)∨(E=0∧∃c,p=some ⟨c,0,none⟩∧DS w' q l c))
theorem lookE_zero {d:Nat} {o:Int} {l:List VT} (h:lookE d o l=0):(0≤o∧o<6)∧l.length≤65536∧∀v∈l,zab d v=true:=by
 unfold lookE at h
 split at h
 ·cases h
 ·rename_i ho
  unfold zaf at h
  split at h
  ·cases h
  ·split at h
   ·rename_i h1 h2
    exact⟨by omega,by omega,by simpa [List.all_eq_true] using h2⟩
   ·cases h
set_option maxRecDepth 100000 in
set_option maxHeartbeats 4000000 in
theorem rof_16 (d:Nat) (o:Int) (l:List VT) (u:Value) (w:World) (hu:Lies (d+1) w l u):Calls Tryz.prog 10 #[.int .i64 o,u] w (DsPost o.toNat (setL o.toNat l) (lookE d o l) w):=by
 obtain⟨a0,c0,rfl,_⟩:=Lies.slice hu
 have HF:Hid _:=rfit_any d o l _ w hu
 by_cases hz:lookE d o l=0
 ·obtain⟨ho,hlen,hr⟩:=lookE_zero hz
  obtain⟨q,rfl⟩:∃p:Nat,o=(p:Int):=⟨o.toNat,by omega⟩
  have HM:Hid (∀V,Below w.heap.size w V→Calls Tryz.prog 61 #[.int .i64 (q:Int),.slice a0 l.length c0] V (MkPost q (setL q l) V)):=fun V hV=>by
   obtain⟨ps,hps,hpl,hsp⟩:=SlP.of_lies (Lies.keeps hV _ _ _ hu)
   have hg:∀p∈ps,zab d p.1=true:=fun p hp=>hr p.1 (by rw [←hps];exact List.mem_map_of_mem hp)
   obtain⟨a2,c2,e2,h2,h3,h4,h5⟩:=hsp
   have h9:=rmake_16 q (by omega) ps _ V ⟨a2,c2,e2,h2,h3,h4,fun p hp=>⟨(canon (h5 p hp).1 (hg p hp)).1,(h5 p hp).2⟩⟩ (by omega) (fun p hp=>(canon (h5 p hp).1 (hg p hp)).2)
   rw [hps] at h9
   exact h9
  have HLn:Hid ((setL q l).length≤65536):=by have:=setL_len q l;show _≤_;omega
  rw [hz] at HF ⊢
  rw [show ((q:Int)).toNat=q by omega]
  clear hu hz ho hlen hr
  generalize setL q l=SL at *
  generalize l.length=N at *
  go_enter Tryz.func10,Tryz.ntmps10
  go_wp2_with fail
  refine Calls.mono HF.out ?_
  rintro e w1 ⟨rfl,hg1⟩
  go_wp2_with fail
  refine Calls.mono (HM.out _ hg1) ?_
  rintro e w2 ⟨hg2,c,m,a9,c9,rfl,_,_,hd⟩
  have HE:Hid (DsPost q SL 0 w (.returned (.tuple #[.pointer (some ⟨c,0,none⟩),.int .i64 0])) w2):=⟨hg1.trans (hg2.mono hg1.size),_,rfl,.inr ⟨rfl,c,rfl,hd HLn.out⟩⟩
  clear hd hg1 hg2 HM HF
  go_wp2_with fail
  go_ret2
  exact HE.out
 ·have HZ:Hid (¬lookE d o l=0):=hz
  clear hu
  generalize lookE d o l=E at *
  generalize l.length=N at *
  go_enter Tryz.func10,Tryz.ntmps10
  go_wp2_with fail
  refine Calls.mono HF.out ?_
  rintro e w1 ⟨rfl,hg1⟩
  have HE:Hid (∀L,DsPost o.toNat L E w (.returned (.tuple #[.pointer none,.int .i64 E])) w1):=fun L=>⟨hg1,none,rfl,.inl ⟨HZ.out,rfl⟩⟩
  clear hg1 HF
  go_wp2_with fail
  go_ret2
  exact HE.out _
set_option maxRecDepth 100000 in
set_option maxHeartbeats 4000000 in
theorem rlen_16 {w:World} {c m N:Nat} {a9:Option Addr} {c9:Nat} (h0:w.cell? ⟨c,0,none⟩=some (.pointer (some ⟨m,0,none⟩))) (h1:w.cell? ⟨m,1,none⟩=some (.slice a9 N c9)):Calls Tryz.prog 75 #[.pointer (some ⟨c,0,none⟩)] w fun e w'=>e=.returned (.int .i64 (N:Nat))∧w'=w:=by
 go_enter Tryz.func75,Tryz.ntmps75
 go_wp2_with fail
 go_ret
 exact⟨rfl,rfl⟩
theorem DS.row {w:World} {q:Nat} {l:List PT} {c:Nat} (h:DS w q l c):∃(m:Nat) (qs:List PP) (a9:Option Addr) (c9:Nat),w.cell? ⟨c,0,none⟩=some (.pointer (some ⟨m,0,none⟩))∧w.cell? ⟨m,0,none⟩=some (.int .i64 (q:Int))∧w.cell? ⟨m,1,none⟩=some (.slice a9 qs.length c9)∧qs.map trT=l∧SlQ 0 16 w qs (.slice a9 qs.length c9)∧DM w q l m:=by
 obtain⟨m,h0,hd,hn⟩:=h
 have hd2:=hd
 obtain⟨ho,⟨qs,v,h1,h2,h3⟩,_,_,_,_⟩:=hd2
 obtain⟨a9,c9,rfl,_⟩:=h3.slice
 exact⟨m,qs,a9,c9,h0,ho,h1,h2,h3,hd⟩
def ItPost (base:Nat) (vs:List VT) (w:World) (e:Ending) (w':World):Prop:=Below w.heap.size w w'∧∃ps v,e=.returned v∧ps.map (·.1)=vs∧SlP base 16 w' ps v
set_option maxRecDepth 100000 in
set_option maxHeartbeats 8000000 in
theorem ritems_16 {w:World} {q:Nat} {l:List PT} {c:Nat} (h:DS w q l c):Calls Tryz.prog 64 #[.pointer (some ⟨c,0,none⟩)] w (ItPost w.heap.size (l.map (·.1)) w):=by
 obtain⟨i0,hi,hz0,hz1,hz2⟩:=info24
 have Hi:Hid _:=hi;have Hz0:Hid _:=hz0;have Hz1:Hid _:=hz1;have Hz2:Hid _:=hz2
 obtain⟨m,qs,a0,c0,h0,_,h1,rfl,hs,hd⟩:=h.row
 have hlen:qs.length≤65536:=by have:=hd.size;rwa [List.length_map] at this
 have HL:Hid (qs.length≤65536):=hlen
 have HS:Hid (SlQ 0 16 w qs (.slice a0 qs.length c0)):=hs
 have HP:Hid (∀(u:Value) (V:World),V.ownsRow w.heap.size 33 4 u qs.length ((qs.map (·.1)).flatMap encP)→Below w.heap.size w V→ItPost w.heap.size ((qs.map trT).map (·.1)) w (.returned u) V):=fun u V h2 h3=>by
  refine⟨h3,qs.map (·.1),u,rfl,by rw [List.map_map,List.map_map];rfl,?_⟩
  refine SlP.of_own (by rw [List.length_map]) h2 (fun p hp=>?_) (by rw [List.length_map];omega)
  obtain⟨x,hx,rfl⟩:=List.mem_map.1 hp
  exact (hs.good x hx).1.keeps h3
 obtain⟨n,hn⟩:∃n,n=qs.length:=⟨_,rfl⟩
 have HN:Hid (n=qs.length):=hn
 rw [←hn] at h1 hlen
 clear hi hz0 hz1 hz2 hs hd hn
 generalize ItPost w.heap.size ((qs.map trT).map (·.1)) w=PO at *
 have h0c:=h0;have h1c:=h1
 have H01:Hid (w.cell? ⟨c,0,none⟩=some (.pointer (some ⟨m,0,none⟩))∧w.cell? ⟨m,1,none⟩=some (.slice a0 n c0)):=⟨h0,h1⟩
 clear h0 h1 h0c h1c
 go_enter Tryz.func64,Tryz.ntmps64
 go_wp2_with fail
 go_loopg [4,3] n (fun z i u wr=>∃j:Nat,i=.int .i64 (j:Int)∧j≤n∧z=n-j∧Hid (wr.ownsRow w.heap.size 33 4 u j (((qs.take j).map (·.1)).flatMap encP))∧Hid (Below w.heap.size w wr))
 case atStart=>exact⟨0,rfl,by omega,by omega,World.ownsRow_nil _ _ _ _,Below.refl _ _⟩
 case round=>
  obtain⟨j,rfl,hj,hk,HOw,HBw⟩:=hrel
  have Hk:Hid _:=hk
  have hbw:=HBw.out
  have h0:=zaa hbw H01.out.1
  have h1:=zaa hbw H01.out.2
  clear hk
  by_cases hlt:j<n
  ·have hlt':j<qs.length:=by have:=HN.out;omega
   obtain⟨b1,o1,c1',hv1,_,hq1,hgq⟩:=HS.out.full (fun e=>by rw [e] at hlt';cases hlt')
   have ha1:a0=some ⟨b1,o1,none⟩:=by injection hv1
   subst ha1
   obtain⟨p0,p1,p2,p3,_,_,_,_⟩:=hq1.at j hlt'
   have hg:=hgq qs[j] (List.getElem_mem hlt')
   have Htk:Hid (((qs.take (j+1)).map (·.1)).flatMap encP=((qs.take j).map (·.1)).flatMap encP++encP qs[j].1):=by
    show _=_
    rw [List.take_succ_eq_append_getElem hlt',List.map_append,List.flatMap_append];simp
   obtain⟨a1,c1,hu1,_⟩:=Lies.slice hg.1.1
   rw [hu1] at p3
   generalize qs[j]=x at *
   obtain⟨⟨t1,u1⟩,y2⟩:=x
   simp only at p0 p1 p2 p3 hu1 Htk
   subst hu1
   have p0:=zaa hbw p0;have p1:=zaa hbw p1;have p2:=zaa hbw p2;have p3:=zaa hbw p3
   have hji:(j:Int)<(n:Nat):=by omega
   have hji0:(0:Int)≤(j:Int):=by omega
   have hws:w.heap.size≤wr.heap.size:=hbw.size
   clear hq1 hgq hg hv1
   go_wp2_with (first
    | (at_builtin;refine wpList_append_own _ rfl _ _ 22 rfl w.heap.size 33 i0 (.agg #[.int .i64 0,.int .i64 0,.string ⟨#[]⟩,.slice none 0 0]) 4 56 Tryz.underlying22 Hi.out Hz0.out Hz1.out Hz2.out rfl (by decide) _ _ _ rfl (HOw.out.alloc _) ⟨wr.heap.size,0,none⟩ 1 1 [.int .i64 t1.kind,.int .i64 t1.num,.string t1.text,.slice a1 t1.items.length c1] rfl rfl (fun q u hq=>by match q,hq with|0,hq=>(simp at hq;subst hq;simp [Addr.add])|1,hq=>(simp at hq;subst hq;simp [Addr.add])|2,hq=>(simp at hq;subst hq;simp [Addr.add])|3,hq=>(simp at hq;subst hq;simp [Addr.add])) (fun u hu=>by simp at hu;rcases hu with rfl|rfl|rfl|rfl <;> rfl) (by unfold maxLen;omega) (by omega) (by simp;omega) ?_;intro v9 w9 hown hgrow _))
   have hb9:Below w.heap.size w w9:=zah (hbw.alloc hws _) (by simp;omega) (HOw.out.alloc _) hgrow
   have HR9:Hid (w9.ownsRow w.heap.size 33 4 v9 (j+1) (((qs.take (j+1)).map (·.1)).flatMap encP)):=by
    rw [Htk.out]
    exact hown
   clear hown hgrow p0 p1 p2 p3 h0 h1
   go_roundg (n-(j+1))
   case measure=>have:=Hk.out;omega
   case rel=>exact⟨j+1,by go_num,by omega,rfl,HR9,hb9⟩
  ·have hjl:j=n:=by omega
   have hji : ¬(j:Int)<(n:Nat):=by omega
   have HE:Hid (PO (.returned u3) wr):=by
    have h9:=HOw.out
    rw [hjl,HN.out,List.take_length] at h9
    exact HP.out _ _ h9 hbw
   clear HOw HP hjl
   go_wp2_with fail
   first|exact HE.out|(go_ret;exact HE.out)
end Go.Proofs.YtlnecfjnffdciabGreat

namespace Go.Proofs.YtlnecfjnffdciabGreat
open Go.RowKit Go.Shelf
attribute [local go_sem] Oper.semAt_some
set_option maxRecDepth 100000 in
theorem small_16 (v:Value) (w:World):Calls Tryz.prog 154 #[.agg #[v]] w fun e w'=>e=.returned (.func (.func 218) #[] #[.pointer (some ⟨w.heap.size,0,none⟩)])∧w'=w.alloc (.cells #[v] 112):=by
 go_enter Tryz.func154,Tryz.ntmps154
 go_wp2_with fail
 go_ret
 exact⟨rfl,rfl⟩
set_option maxRecDepth 100000 in
theorem sall_16 (s b:Nat) (w:World) (hs:w.cell? ⟨s,0,none⟩=some (.pointer (some ⟨b,0,none⟩))):Calls Tryz.prog 98 #[.pointer (some ⟨s,0,none⟩)] w fun e w'=>e=.returned (.func (.func 218) #[] #[.pointer (some ⟨w.heap.size,0,none⟩)])∧w'=w.alloc (.cells #[.pointer (some ⟨b,0,none⟩)] 112):=by
 go_enter Tryz.func98,Tryz.ntmps98
 go_wp2_with fail
 refine (sown_16 _ _).mono ?_
 rintro e w1 ⟨rfl,hw⟩
 obtain rfl:w=w1:=hw.symm
 go_wp2_with fail
 refine (small_16 _ _).mono ?_
 rintro e w2 ⟨rfl,hw2⟩
 subst hw2
 go_wp2_with fail
 go_ret
 exact⟨rfl,rfl⟩
set_option maxRecDepth 100000 in
set_option maxHeartbeats 32000000 in
theorem sappend_16 (l:List VT) (hlen:l.length≤65536) (lb:Array Value) (w:World)
 (hseq:∀(n:Nat) (W:World),6≤n→Below w.heap.size w W→SeqX Fence.wide n Tryz.prog 218 lb encCV (KpY 22 w.heap.size) (PreCV l) (fun xs=>xs.map CV.k=l) (fun _=>True) l.length W) :
 Calls Tryz.prog 153 #[.slice none 0 0,.func (.func 218) #[] lb] w (ItPost w.heap.size l w):=by
 refine (callsIn_wide (n:=8)).1 ?_
 refine callsIn_of_wp_marks Tryz.func153 rfl trivial ?_ rfl
 simp only [Tryz.ntmps153,List.size_toArray,List.length_cons,List.length_nil,Nat.reduceAdd,Nat.reduceSub,Array.replicate_succ,Array.replicate_zero,List.push_toArray,List.append_toArray,List.nil_append,List.cons_append]
 have HL:Hid (l.length≤65536):=hlen
 have HSq:Hid _:=hseq
 clear hseq hlen
 gi_wp2
 obtain⟨Wi,hWi⟩:∃Wi,Wi=w.alloc (.cells #[.slice none 0 0] 22):=⟨_,rfl⟩
 rw [←hWi]
 have hB0:Below w.heap.size w Wi:=by rw [hWi];exact ((Grew.refl w).alloc _).below
 have hsz:Wi.heap.size=w.heap.size+1:=by rw [hWi];simp
 have hG0:GvI w w.heap.size [] Wi:=⟨⟨.slice none 0 0,by rw [hWi];exact Go.Boxed.new w 22 _,World.ownsRow_nil _ _ _ _,fun x hx=>by cases hx⟩,hB0⟩
 have HSq2:Hid _:=HSq.out 7 Wi (by omega) hB0
 clear hWi HSq
 refine rangeX (α:=CV) rfl (by omega) (gf:=218) (lb:=lb) rfl trivial (enters_of Tryz.func218 (by kernel_rfl) rfl)
  HSq2.out kpY_t (fun W o o' hl ho=>kpY_b (by omega) (by omega) W o o' hl ho) (Below.refl _ _) (fun _=>rfl)
  (fun pre W=>GvI w w.heap.size pre W∧pre.map CV.k <+: l) (fun _ _ _=>False)
  (fun s A V row hs hg hr=>⟨GvI.own w _ _ (by omega) (by omega) s A V row hs.1 hg hr,hs.2⟩) (fun _ _ _ _ _ hs _ _=>hs) ⟨hG0,by simp⟩
  (GvA (w.heap.size) l (fun x Bk=>{ tmps:=#[.slice none 0 0,.func (.func 218) #[] lb,.pointer (some ⟨w.heap.size,0,none⟩),undef,.slice none 0 0,.pointer (some ⟨Bk,0,none⟩),.func (.func 218) #[] lb,.agg #[.int .i64 x.k.kind,.int .i64 x.k.num,.string x.k.text,.slice x.a1 x.k.items.length x.c1],undef,undef,undef,undef,undef,undef,undef],defers:=[] })) (fun pre x a'=>GvA.own _ _ _ (by omega) _ _ _ _) ?assign ?body ?done ?stop
 case assign=>
  rintro lp pre x V W K hI hbVW ⟨hN,hpx⟩ hK
  have hba:Below W.heap.size W (W.alloc (.cells #[.int .i64 x.k.kind,.int .i64 x.k.num,.string x.k.text,.slice x.a1 x.k.items.length x.c1] 33)):=((Grew.refl W).alloc _).below
  have hws:w.heap.size≤W.heap.size:=Nat.le_trans hI.1.2.size hbVW.size
  obtain⟨hA,hI3⟩:=GvA.make (l:=l) (f:=(fun x Bk=>{ tmps:=#[.slice none 0 0,.func (.func 218) #[] lb,.pointer (some ⟨w.heap.size,0,none⟩),undef,.slice none 0 0,.pointer (some ⟨Bk,0,none⟩),.func (.func 218) #[] lb,.agg #[.int .i64 x.k.kind,.int .i64 x.k.num,.string x.k.text,.slice x.a1 x.k.items.length x.c1],undef,undef,undef,undef,undef,undef,undef],defers:=[] })) hI.1 hbVW hN hpx
  skip
  have HK:Hid (K _ _):=hK _ _ ((KeepsOthers.alloc W _).from _) ⟨hba.mono hws,KBy.below hba,keepsBelowY hba⟩ ⟨hI3,hI.2⟩ hA
  clear hK hA
  unfold encCV
  gi_wp2
  exact HK.out
 case body=>
  rintro lp pre x a' W hlp ⟨⟨⟨v',bx0,hrow,hl⟩,hB⟩,hpl⟩ ⟨Bk,v,bk,hBk,bx',hnk,hLk,hpx,rfl⟩ hlt
  have hvv:v'=v:=by
   have h1:W.heap[w.heap.size]? = some (.cells #[v] 22 (0,0)):=bx'
   have h2:W.heap[w.heap.size]? = some (.cells #[v'] 22 (0,0)):=bx0
   rw [h1] at h2
   injection h2 with h2
   injection h2 with h2
   simpa using h2.symm
  subst hvv
  obtain⟨av,cv,hv⟩:∃a c,v'=.slice a pre.length c:=by
   rcases hrow.2 with ⟨rfl,e⟩|⟨g,cap,_,rfl,_⟩
   ·exact⟨none,0,by rw [e]⟩
   ·exact⟨_,_,rfl⟩
  subst hv
  obtain⟨k,hk⟩:∃k,k=pre.length:=⟨_,rfl⟩
  have hpx2:(pre++[x]).map CV.k <+: l:=by rw [List.map_append];exact hpx
  have hkl:k+1≤l.length:=by have:=hpx2.length_le;rw [List.length_map,List.length_append,←hk] at this;exact this
  have hkq:k≤65537:=by have:=HL.out;omega
  have HStep:Hid (∀(g cap:Nat) (w3:World),w3.ownsRow w.heap.size 33 4 (.slice (some ⟨g,0,none⟩) (k+1) cap) (k+1) (pre.flatMap (fun x=>encP x.p)++[.int .i64 0,.int .i64 0,.string ⟨#[]⟩,.slice none 0 0])→(W.alloc Z4V).drew.grownBy w3 (Value.slice av k cv).ownBlock→((Value.slice av k cv).ownBlock=some g∨g=(W.alloc Z4V).drew.heap.size)→_):=fun g cap w3 h1 h2 h3=>gv_step (B:=w.heap.size) (n1:=Wi.heap.size+2) hk (by omega) (by rw [hk];exact⟨bx',hrow,hl⟩) hB (by rw [hk];exact hLk) g cap w3 h1 h2 h3
  rw [←hk] at bx' hrow hnk hlt
  obtain⟨y0,y1,y2,y3⟩:=bk.cells
  have hc:=bx'.cell
  have hBl:=bx'.lt
  have hBkl:=bk.lt
  skip
  have hcD:W.drew.cell? ⟨w.heap.size,0,none⟩=some (.slice av k cv):=hc
  have d0:W.drew.cell? ⟨Bk,0,none⟩=some (.int .i64 x.k.kind):=y0
  have d1:W.drew.cell? ⟨Bk,1,none⟩=some (.int .i64 x.k.num):=y1
  have d2:W.drew.cell? ⟨Bk,2,none⟩=some (.string x.k.text):=y2
  have d3:W.drew.cell? ⟨Bk,3,none⟩=some (.slice x.a1 x.k.items.length x.c1):=y3
  have hn1 : ¬(Bk=W.heap.size):=by omega
  have hn2 : ¬(w.heap.size=W.heap.size):=by omega
  have HRow:Hid ((W.alloc Z4V).drew.ownsRow w.heap.size 33 4 (.slice av k cv) k (pre.flatMap (fun x=>encP x.p))):=(hrow.alloc _).drew
  have Hbs:Hid (w.heap.size≤(W.alloc Z4V).drew.heap.size):=by
   have:=hB.size
   show _≤_
   simp
   omega
  have Hxl:Hid ((pre.flatMap (fun x=>encP x.p)).length=k*4):=hrow.1
  have HP:Hid ((pre++[x]).map CV.k <+: l):=hpx2
  have Hk:Hid (k=pre.length):=hk
  have hmx:Tryz.prog.follows .mixedOrders=true:=by kernel_rfl
  have hkk:((k:Nat):Int)<(k:Nat)+1:=by omega
  clear hrow bx' bx0 bk hB hlp hlt hk hl hLk hnk hpx hpx2 hkl hpl
  gi_wp2
  refine wpIn_region_any hmx ?_
  change wpAnyIn _ _ _ _ _ _ _ _ _ (World.drew _)
  all_goals (first|refine wpAnyIn_ready (rs:=[0,1,3]) (by decide +kernel) (by simp) (AllReadyIn.cons rfl (fun K hK=>?_) (AllReadyIn.cons rfl (fun K hK=>?_) (AllReadyIn.cons rfl (fun K hK=>?_) AllReadyIn.nil))))
  all_goals (go_simp;refine hK _ _ ?_;clear hK K)
  all_goals (first|refine wpAnyIn_ready (rs:=[1,2,3]) (by decide +kernel) (by simp) (AllReadyIn.cons rfl (fun K hK=>?_) (AllReadyIn.cons rfl (fun K hK=>?_) (AllReadyIn.cons rfl (fun K hK=>?_) AllReadyIn.nil)))|refine wpAnyIn_ready (rs:=[0,3]) (by decide +kernel) (by simp) (AllReadyIn.cons rfl (fun K hK=>?_) (AllReadyIn.cons rfl (fun K hK=>?_) AllReadyIn.nil))|refine wpAnyIn_ready (rs:=[0,1]) (by decide +kernel) (by simp) (AllReadyIn.cons rfl (fun K hK=>?_) (AllReadyIn.cons rfl (fun K hK=>?_) AllReadyIn.nil)))
  all_goals (go_simp;refine hK _ _ ?_;clear hK K)
  all_goals (first|refine wpAnyIn_ready (rs:=[2,3]) (by decide +kernel) (by simp) (AllReadyIn.cons rfl (fun K hK=>?_) (AllReadyIn.cons rfl (fun K hK=>?_) AllReadyIn.nil))|refine wpAnyIn_ready (rs:=[1,3]) (by decide +kernel) (by simp) (AllReadyIn.cons rfl (fun K hK=>?_) (AllReadyIn.cons rfl (fun K hK=>?_) AllReadyIn.nil))|refine wpAnyIn_ready (rs:=[1,2]) (by decide +kernel) (by simp) (AllReadyIn.cons rfl (fun K hK=>?_) (AllReadyIn.cons rfl (fun K hK=>?_) AllReadyIn.nil))|refine wpAnyIn_ready (rs:=[0]) (by decide +kernel) (by simp) (AllReadyIn.cons rfl (fun K hK=>?_) AllReadyIn.nil))
  all_goals (go_simp;refine hK _ _ ?_;clear hK K)
  all_goals (first|refine wpAnyIn_ready (rs:=[3]) (by decide +kernel) (by simp) (AllReadyIn.cons rfl (fun K hK=>?_) AllReadyIn.nil)|refine wpAnyIn_ready (rs:=[2]) (by decide +kernel) (by simp) (AllReadyIn.cons rfl (fun K hK=>?_) AllReadyIn.nil)|refine wpAnyIn_ready (rs:=[1]) (by decide +kernel) (by simp) (AllReadyIn.cons rfl (fun K hK=>?_) AllReadyIn.nil))
  all_goals (go_simp;refine hK _ _ ?_;clear hK K)
  all_goals refine ?restV9
  refine wpAnyIn_ready (rs:=[4]) (by kernel_rfl) (by simp) ?_
  refine AllReadyIn.cons rfl (fun K hK=>?_) ?_
  ·refine appV_step rfl _ _ rfl w.heap.size (.slice av k cv) k (pre.flatMap (fun x=>encP x.p)) rfl HRow.out _ rfl (by simp) (by simp) (by simp) (by simp) hkq Hbs.out ?_
   intro g3 cap3 w3 hown3 hgrow3 hg3 hgl3
   obtain⟨hbx3,hboxes,hgB,hstep⟩:=HStep.out g3 cap3 w3 hown3 hgrow3 hg3
   have hc3:=hbx3.cell
   have hf3:=hbx3.frozen
   have hgB2 : ¬(w.heap.size=g3):=fun e=>hgB e.symm
   have q0:=hown3.cellAt (k*4) (by omega)
   have q1:=hown3.cellAt (k*4+1) (by omega)
   have q2:=hown3.cellAt (k*4+2) (by omega)
   have q3:=hown3.cellAt (k*4+3) (by omega)
   rw [List.getElem?_append_right (by rw [Hxl.out];omega),Hxl.out] at q0 q1 q2 q3
   simp only [Nat.sub_self,Nat.add_sub_cancel_left,List.getElem?_cons_zero,List.getElem?_cons_succ] at q0 q1 q2 q3
   have z0:=hown3.frozenAt (k*4)
   have z1:=hown3.frozenAt (k*4+1)
   have z2:=hown3.frozenAt (k*4+2)
   have z3:=hown3.frozenAt (k*4+3)
   have Hst:Hid _:=hstep
   clear hown3 hgrow3 hg3 hstep hboxes
   refine hK _ _ ?_
   clear hK K
   refine wpAnyIn_ready (rs:=[5,7]) (by kernel_rfl) (by simp) ?_
   refine AllReadyIn.cons rfl (fun K hK=>?_) ?_
   ·go_simp
    refine hK _ _ ?_
    clear hK K
    refine wpAnyIn_ready (rs:=[6,7]) (by kernel_rfl) (by simp) ?_
    refine AllReadyIn.cons rfl (fun K hK=>?_) ?_
    ·go_simp
     refine hK _ _ ?_
     clear hK K
     refine wpAnyIn_ready (rs:=[7]) (by kernel_rfl) (by simp) ?_
     refine AllReadyIn.cons rfl (fun K hK=>?_) ?_
     ·go_simp
      refine hK _ _ ?_
      clear hK K
      refine wpAnyIn_done (by kernel_rfl) ?_ _
      obtain⟨k1,k2,k3,k4⟩:=Hst.out _ (Or.inl rfl)
      exact⟨k1.from _,k2,⟨⟨_,k3⟩,k4⟩,HP.out⟩
     exact AllReadyIn.nil
    refine AllReadyIn.cons rfl (fun K hK=>?_) ?_
    ·go_simp
     refine hK _ _ ?_
     clear hK K
     refine wpAnyIn_ready (rs:=[6]) (by kernel_rfl) (by simp) ?_
     refine AllReadyIn.cons rfl (fun K hK=>?_) ?_
     ·go_simp
      refine hK _ _ ?_
      clear hK K
      refine wpAnyIn_done (by kernel_rfl) ?_ _
      obtain⟨k1,k2,k3,k4⟩:=Hst.out _ (Or.inr rfl)
      exact⟨k1.from _,k2,⟨⟨_,k3⟩,k4⟩,HP.out⟩
     exact AllReadyIn.nil
    exact AllReadyIn.nil
   refine AllReadyIn.cons rfl (fun K hK=>?_) ?_
   ·go_simp
    refine hK _ _ ?_
    clear hK K
    refine wpAnyIn_ready (rs:=[5]) (by kernel_rfl) (by simp) ?_
    refine AllReadyIn.cons rfl (fun K hK=>?_) ?_
    ·go_simp
     refine hK _ _ ?_
     clear hK K
     refine wpAnyIn_ready (rs:=[6]) (by kernel_rfl) (by simp) ?_
     refine AllReadyIn.cons rfl (fun K hK=>?_) ?_
     ·go_simp
      refine hK _ _ ?_
      clear hK K
      refine wpAnyIn_done (by kernel_rfl) ?_ _
      obtain⟨k1,k2,k3,k4⟩:=Hst.out _ (Or.inr rfl)
      exact⟨k1.from _,k2,⟨⟨_,k3⟩,k4⟩,HP.out⟩
     exact AllReadyIn.nil
    exact AllReadyIn.nil
   exact AllReadyIn.nil
  exact AllReadyIn.nil
 case done=>
  rintro D pre W hD hxs ⟨⟨⟨v,hR⟩,hB⟩,hpl⟩ hK
  have htk:pre.map CV.k=l:=hxs
  have hpl2:pre.length≤65536:=by have:=congrArg List.length htk;rw [List.length_map] at this;skip;have:=HL.out;omega
  have hS:SlP w.heap.size 16 W (pre.map CV.p) v:=hR.slp hpl2
  obtain⟨av,cv,rfl,_⟩:=hS.slice
  obtain⟨NL,hNL⟩:∃NL,NL=(pre.map CV.p).length:=⟨_,rfl⟩
  rw [←hNL] at hS hR
  have hc:=hR.1.cell
  have HS:Hid (SlP w.heap.size 16 W (pre.map CV.p) (.slice av NL cv)∧Below w.heap.size w W):=⟨hS,hB⟩
  have HMk:Hid (MarksX w.heap.size W [D]):=MarksX.one (by omega) hK
  have HT:Hid ((pre.map CV.p).map (·.1)=l):=by rw [map_p_k];exact htk
  clear hR hS hB hK hNL htk hxs
  gi_wp2
  refine leavesX w.heap.size (fun V=>SlP w.heap.size 16 V (pre.map CV.p) (.slice av NL cv)∧Below w.heap.size w V) (fun V D hD hK hT=>⟨slp_putObj hT.1 hK rfl,hT.2.trans (below_putX hD)⟩) (fun V hT=>⟨.slice av NL cv,by simp [results,Tryz.results153,go_sem],hT.2,_,_,rfl,HT.out,hT.1⟩) [D] _ HMk.out HS.out
 case stop=>
  rintro D c pre W _ _ h _
  exact h.elim
set_option maxRecDepth 100000 in
theorem scollect_16 (l:List VT) (hlen:l.length≤65536) (lb:Array Value) (w:World)
 (hseq:∀(n:Nat) (W:World),6≤n→Below w.heap.size w W→SeqX Fence.wide n Tryz.prog 218 lb encCV (KpY 22 w.heap.size) (PreCV l) (fun xs=>xs.map CV.k=l) (fun _=>True) l.length W) :
 Calls Tryz.prog 97 #[.func (.func 218) #[] lb] w (ItPost w.heap.size l w):=by
 have HA:Hid _:=sappend_16 l hlen lb w hseq
 clear hseq
 go_enter Tryz.func97,Tryz.ntmps97
 go_wp2_with fail
 refine Calls.mono HA.out ?_
 rintro e w1 ⟨hb,ps,v,rfl,hm,hS⟩
 have HE:Hid (ItPost w.heap.size l w (.returned v) w1):=⟨hb,ps,v,rfl,hm,hS⟩
 obtain⟨av,cv,rfl,_⟩:=hS.slice
 clear hb hm hS HA
 go_wp2_with fail
 go_ret
 exact HE.out
theorem SC.seq {w0:World} {q:Nat} {l:List PT} {s:Nat} (h:SC w0 q l s):∃b,w0.cell? ⟨s,0,none⟩=some (.pointer (some ⟨b,0,none⟩))∧l.length≤65536∧∀(n Bm:Nat) (W:World),6≤n→Below w0.heap.size w0 W→W.cell? ⟨Bm,0,none⟩=some (.pointer (some ⟨b,0,none⟩))→SeqX Fence.wide n Tryz.prog 218 #[.pointer (some ⟨Bm,0,none⟩)] encCV (KpY 22 w0.heap.size) (PreCV (l.map (·.1))) (fun xs=>xs.map CV.k=l.map (·.1)) (fun _=>True) (l.map (·.1)).length W:=by
 obtain⟨b,t,h1,hm,rfl,_⟩:=h
 refine⟨b,h1,?_,fun n Bm W hn hW hc=>?_⟩
 ·have:=hm.size
  rwa [RT.size_items] at this
 ·rw [List.length_map]
  exact sall1_16 hm 22 (by decide) (by decide) n Bm hn W hW hc
set_option maxRecDepth 100000 in
theorem sitems_16 {w:World} {q:Nat} {l:List PT} {s:Nat} (h:SC w q l s):Calls Tryz.prog 46 #[.pointer (some ⟨s,0,none⟩)] w (ItPost w.heap.size (l.map (·.1)) w):=by
 obtain⟨b,hs,hl,hq⟩:=h.seq
 have hb:Below w.heap.size w (w.alloc (.cells #[.pointer (some ⟨b,0,none⟩)] 112)):=((Grew.refl w).alloc _).below
 have hc9:(w.alloc (.cells #[.pointer (some ⟨b,0,none⟩)] 112)).cell? ⟨w.heap.size,0,none⟩=some (.pointer (some ⟨b,0,none⟩)):=(Go.Boxed.new w 112 _).cell
 have HA:Hid (Calls Tryz.prog 97 #[.func (.func 218) #[] #[.pointer (some ⟨w.heap.size,0,none⟩)]] (w.alloc (.cells #[.pointer (some ⟨b,0,none⟩)] 112)) (ItPost w.heap.size (l.map (·.1)) w)):=by
  obtain⟨b2,hs2,_,hq2⟩:=(h.keeps hb).seq
  have e2:b2=b:=by
   have h9:=zaa hb hs
   rw [hs2] at h9
   injection h9 with h9
   injection h9 with h9
   injection h9 with h9
   injection h9
  subst e2
  refine (scollect_16 (l.map (·.1)) (by rw [List.length_map];exact hl) _ _ (fun n W hn hW=>hq2 n _ W hn hW (zaa hW hc9))).mono fun e w' h=>?_
  obtain⟨h1,ps,v,h2,h3,h4⟩:=h
  exact⟨hb.trans (h1.mono hb.size),ps,v,h2,h3,h4.mono hb.size⟩
 clear hq hb hc9 h
 go_enter Tryz.func46,Tryz.ntmps46
 go_wp2_with fail
 refine (sall_16 s b _ hs).mono ?_
 rintro e w1 ⟨rfl,hw1⟩
 subst hw1
 go_wp2_with fail
 refine Calls.mono HA.out ?_
 rintro e w1 ⟨hb,ps,v,rfl,hm,hS⟩
 have HE:Hid (ItPost w.heap.size (l.map (·.1)) w (.returned v) w1):=⟨hb,ps,v,rfl,hm,hS⟩
 obtain⟨av,cv,rfl,_⟩:=hS.slice
 clear hb hm hS HA
 go_wp2_with fail
 go_ret
 exact HE.out
end Go.Proofs.YtlnecfjnffdciabGreat

namespace Go.Proofs.YtlnecfjnffdciabGreat
open Go.RowKit Go.Shelf
def ItPostW (w0:World) (base:Nat) (vs:List VT) (w:World) (e:Ending) (w':World):Prop:=Below w.heap.size w w'∧∃ps v,e=.returned v∧ps.map (·.1)=vs∧SlP base 16 w' ps v∧∀p∈ps,Sound 16 w0 p
theorem tellsX_zero (X:Nat→Prop) (d:Nat) (n:Int) {w w':World} (h:Below w.heap.size w w'):TellsX X d (zeroT,n) w (.returned (.tuple #[zeroAgg,.int .i64 n])) w':=⟨.slice none 0 0,rfl,liesX_nil _ _ _ _ _,h⟩
theorem vset_tellsX (B:Nat) (d:Nat) (l:List VT) (a:Option Addr) (c:Nat) (w:World) (hB:B<w.heap.size) (hu:Lies (d+1) w l (.slice a l.length c)):Calls Tryz.prog 70 #[.slice a l.length c] w (TellsX (fun b=>b≠B) (d+1) (setA d l) w):=by
 refine (set_anyB d l a c w hu).mono ?_
 rintro e w' ⟨hb,⟨h0,rfl⟩|⟨h0,m,hm,⟨hf,rfl⟩|⟨hf,v,rfl,hL⟩⟩⟩
 ·unfold setA
  rw [if_pos h0]
  exact tellsX_zero _ _ _ hb
 ·have hme:=members_one hm (setM_members d l (good_list hu (za8 h0).2)) (fun x=>Iff.rfl)
  unfold setA
  rw [if_neg (fun h=>h h0),←hme,if_neg (by rw [hf];simp)]
  exact tellsX_zero _ _ _ hb
 ·have hme:=members_one hm (setM_members d l (good_list hu (za8 h0).2)) (fun x=>Iff.rfl)
  unfold setA
  rw [if_neg (fun h=>h h0),←hme,if_pos hf]
  exact⟨v,rfl,(LiesX.of_b hL).mono (fun b h=>by omega),hb⟩
set_option maxHeartbeats 4000000 in
theorem rset_tellsX (B:Nat) (d:Nat) (ps:List PR) (u:Value) (w:World) (hB:B<w.heap.size) (hsl:SlP 0 d w ps u) (hpx:∀p∈ps,LiesX (fun b=>b≠B∧b<w.heap.size) d w p.1.items p.2):Calls Tryz.prog 71 #[u] w (TellsX (fun b=>b≠B) (d+1) (setA d (ps.map (·.1))) w):=by
 have hu:Lies (d+1) w (ps.map (·.1)) u:=hsl.lies
 obtain⟨l,hps⟩:∃l,ps.map (·.1)=l:=⟨_,rfl⟩
 have hpl:ps.length=l.length:=by rw [←hps,List.length_map]
 rw [hps] at hu ⊢
 have HG:Hid (zaf d l=0→l.length≤65536∧∀x∈l,Good d x):=fun h=>⟨(za8 h).1,good_list hu (za8 h).2⟩
 obtain⟨a,c,rfl,_⟩:=Lies.slice hu
 have HL:Hid (Lies (d+1) w l (.slice a l.length c)):=hu
 have HK:Hid (Bx (w.alloc (.cells #[.int .i64 0,.int .i64 0,.string ⟨#[]⟩,.slice none 0 0] 33)) w.heap.size zeroT (.slice none 0 0)):=zan w zeroT _
 have hbz:Below w.heap.size w (w.alloc (.cells #[.int .i64 0,.int .i64 0,.string ⟨#[]⟩,.slice none 0 0] 33)):=((Grew.refl w).alloc _).below
 clear hu
 by_cases herr:zaf d l=0
 ·have Herr:Hid (zaf d l=0):=herr
  have Ha:Hid ((if zab (d+1) ⟨5,0,⟨#[]⟩,setM d l⟩=true then ((⟨5,0,⟨#[]⟩,setM d l⟩,0):VT×Int) else (zeroT,2))=setA d l):=by
   show _=_
   unfold setA
   rw [set_right' d l (HG.out herr).2,if_neg (show ¬(zaf d l≠0) from fun h=>h herr)]
  have Hlen:Hid (l.length≤65536):=(HG.out herr).1
  have HSP:Hid (SlP 0 d w ps (.slice a l.length c)):=hsl
  have HPX:Hid (∀p∈ps,LiesX (fun b=>b≠B∧b<w.heap.size) d w p.1.items p.2):=hpx
  have HSo:Hid _:=fun (W:World) (h:SlP 0 d W ps (.slice a l.length c))=>rsorted_any d ps.length ps (.slice a l.length c) W h (by rw [hpl];exact Hlen.out) (by omega)
  have HOn:Hid _:=fun (v:Value) (W:World) (h:SlP 0 d W (srt (ltQ d) (ps.length+1) ps) v)=>ronce_any d (srt (ltQ d) (ps.length+1) ps) v W h (by rw [srt_len,hpl];exact Hlen.out)
  have HM:Hid ((once (eqQ d) (srt (ltQ d) (ps.length+1) ps)).map (·.1)=setM d l):=setM_of d ps l _ hps (by rw [hpl])
  have HMM:Hid (∀p∈once (eqQ d) (srt (ltQ d) (ps.length+1) ps),p∈ps):=fun p hp=>srt_mem _ _ _ _ (once_mem _ _ _ hp)
  clear hps hpl hsl hpx
  clear herr HG
  go_enter Tryz.func71,Tryz.ntmps71
  go_wp2_with fail
  refine (listed_any d l (.slice a l.length c) _ (Lies.keeps hbz _ _ _ HL.out)).mono ?_
  rintro e w1 ⟨rfl,hb⟩
  rw [Herr.out]
  have hb1:Below w.heap.size w w1:=hbz.trans (hb.mono (by simp))
  have HK1:Hid (Bx w1 w.heap.size zeroT (.slice none 0 0)):=HK.out.keeps hb
  clear hb HK hbz
  go_wp2_with fail
  refine (HSo.out _ (HSP.out.keeps hb1)).mono ?_
  rintro e w3 ⟨v3,rfl,hL3,hb3⟩
  have HL3:Hid (SlP 0 d w3 (srt (ltQ d) (ps.length+1) ps) v3):=hL3.mono (Nat.zero_le _)
  have hbw3:Below w.heap.size w w3:=hb1.trans (hb3.mono hb1.size)
  have hsz3:w.heap.size<w3.heap.size:=by have h1:w.heap.size<w1.heap.size:=zac HK1.out.c0;have:=hb3.size;omega
  have HK3:Hid (Bx w3 w.heap.size zeroT (.slice none 0 0)):=HK1.out.keeps hb3
  clear hL3 hb3 HK1 hb1
  go_wp2_with fail
  refine (HOn.out _ _ HL3.out).mono ?_
  rintro e w4 ⟨v4,rfl,hL4,hb4⟩
  obtain⟨a4,c4,rfl,_⟩:=SlP.slice hL4
  generalize hn4:(once (eqQ d) (srt (ltQ d) (ps.length+1) ps)).length=n4 at *
  have hbw4:Below w.heap.size w w4:=hbw3.trans (hb4.mono hbw3.size)
  have hs4:w.heap.size≤w4.heap.size:=hbw4.size
  have HL4:Hid (LiesX (fun b=>b≠B∧b≠w.heap.size∧b<w4.heap.size) (d+1) w4 (setM d l) (.slice a4 n4 c4)):=by
   rw [←HM.out]
   exact SlP.liesX hL4 (fun b h1 h2=>⟨by have:=hbw3.size;omega,by have:=hbw3.size;omega,h2⟩) (fun p hp=>((HPX.out p (HMM.out p hp)).keeps hbw4).mono (fun b (h:b≠B∧b<w.heap.size)=>⟨h.1,by omega,by omega⟩))
  have HK4:Hid (Bx w4 w.heap.size zeroT (.slice none 0 0)):=HK3.out.keeps hb4
  clear hL4 hb4 HK3 hbw3 HSo HOn HL3 HM HMM HPX HSP
  go_wp2_with fail
  refine (rtold_any (fun b=>b≠B∧b≠w.heap.size∧b<w4.heap.size) (d+1) ⟨5,0,⟨#[]⟩,setM d l⟩ (.slice a4 n4 c4) _ (fun b h=>h.2.2) HL4.out).mono ?_
  intro e w2 ht
  have ht:=told_tells ht
  rw [Ha.out] at ht
  obtain⟨v,rfl,hL2,hb2⟩:=ht
  have hbw2:Below w.heap.size w w2:=hbw4.trans (hb2.mono hbw4.size)
  have HK2:Hid (Bx w2 w.heap.size zeroT (.slice none 0 0)):=HK4.out.keeps hb2
  clear hb2 HK4 Ha Herr HL4
  obtain⟨⟨t,n⟩,hA⟩:∃A,setA d l=A:=⟨_,rfl⟩
  have HA:Hid (setA d l=(t,n)):=hA
  rw [hA] at hL2 ⊢
  clear hA
  obtain⟨av,cv,rfl,_⟩:=LiesX.slice hL2
  obtain⟨y0,y1,y2,y3,z0,z1,z2,z3⟩:=HK2.out
  have Hbx:Hid (Bx (w2.setCells w.heap.size 0 (encP (t,.slice av t.items.length cv))) w.heap.size t (.slice av t.items.length cv)):=HK2.out.put (t,.slice av t.items.length cv)
  have Hbl:Hid (Below w.heap.size w (w2.setCells w.heap.size 0 (encP (t,.slice av t.items.length cv)))):=zap hbw2 (Nat.le_refl _) (t,.slice av t.items.length cv)
  have HLx:Hid (LiesX (fun b=>b≠B∧b≠w.heap.size) (d+1) w2 t.items (.slice av t.items.length cv)):=hL2.mono (fun b h=>⟨h.1,h.2.1⟩)
  have Hfin:Hid (LiesX (fun b=>b≠B) (d+1) (w2.setCells w.heap.size 0 (encP (t,.slice av t.items.length cv))) t.items (.slice av t.items.length cv)):=(HLx.out.set (g:=w.heap.size) (fun h=>h.2 rfl)).mono (fun b h=>h.1)
  go_wp2_with fail
  refine bodyPost_ret (v:=.tuple #[.agg #[.int .i64 t.kind,.int .i64 t.num,.string t.text,.slice av t.items.length cv],.int .i64 n]) ?_ rfl (by first|exact⟨_,rfl,Hfin.out,Hbl.out⟩|(rw [HA.out];exact⟨_,rfl,Hfin.out,Hbl.out⟩))
  obtain⟨q0,q1,q2,q3,_,_,_,_⟩:=Hbx.out
  simp only [encP,World.setCells,Nat.zero_add,Nat.reduceAdd] at q0 q1 q2 q3
  simp [results,Tryz.results71,go_sem,q0,q1,q2,q3]
 ·have Ha:Hid (setA d l=(zeroT,zaf d l)):=by show _=_;unfold setA;rw [if_pos herr]
  have hne:(zaf d l != 0)=true:=by simpa using herr
  have HL0:=HL
  go_enter Tryz.func71,Tryz.ntmps71
  go_wp2_with fail
  refine (listed_any d l (.slice a l.length c) _ (Lies.keeps hbz _ _ _ HL.out)).mono ?_
  rintro e w1 ⟨rfl,hb⟩
  have hb1:Below w.heap.size w w1:=hbz.trans (hb.mono (by simp))
  have HK1:Hid (Bx w1 w.heap.size zeroT (.slice none 0 0)):=HK.out.keeps hb
  clear hb HK hbz
  obtain⟨y0,y1,y2,y3,z0,z1,z2,z3⟩:=HK1.out
  have Hbx:Hid (Bx (w1.setCells w.heap.size 0 (encP (zeroT,.slice none 0 0))) w.heap.size zeroT (.slice none 0 0)):=HK1.out.put (zeroT,.slice none 0 0)
  have Hbl:Hid (Below w.heap.size w (w1.setCells w.heap.size 0 (encP (zeroT,.slice none 0 0)))):=zap hb1 (Nat.le_refl _) (zeroT,.slice none 0 0)
  go_wp2_with fail
  refine bodyPost_ret (v:=.tuple #[.agg #[.int .i64 0,.int .i64 0,.string ⟨#[]⟩,.slice none 0 0],.int .i64 (zaf d l)]) ?_ rfl (by rw [Ha.out];exact tellsX_zero _ _ _ Hbl.out)
  obtain⟨q0,q1,q2,q3,_,_,_,_⟩:=Hbx.out
  simp only [encP,World.setCells,Nat.zero_add,Nat.reduceAdd] at q0 q1 q2 q3
  simp [results,Tryz.results71,go_sem,q0,q1,q2,q3]
set_option maxRecDepth 100000 in
set_option maxHeartbeats 8000000 in
theorem ritems_16W {w0 w:World} {q:Nat} {l:List PT} {c:Nat} (h:DS w0 q l c) (hw0:Below w0.heap.size w0 w):Calls Tryz.prog 64 #[.pointer (some ⟨c,0,none⟩)] w (ItPostW w0 w.heap.size (l.map (·.1)) w):=by
 obtain⟨i0,hi,hz0,hz1,hz2⟩:=info24
 have Hi:Hid _:=hi;have Hz0:Hid _:=hz0;have Hz1:Hid _:=hz1;have Hz2:Hid _:=hz2
 obtain⟨m,qs,a0,c0,h0',_,h1',rfl,hs0,hd⟩:=h.row
 have h0:=zaa hw0 h0'
 have h1:=zaa hw0 h1'
 have hs:=hs0.keeps hw0
 clear h0' h1'
 have hlen:qs.length≤65536:=by have:=hd.size;rwa [List.length_map] at this
 have HL:Hid (qs.length≤65536):=hlen
 have HS:Hid (SlQ 0 16 w qs (.slice a0 qs.length c0)):=hs
 have HP:Hid (∀(u:Value) (V:World),V.ownsRow w.heap.size 33 4 u qs.length ((qs.map (·.1)).flatMap encP)→Below w.heap.size w V→ItPostW w0 w.heap.size ((qs.map trT).map (·.1)) w (.returned u) V):=fun u V h2 h3=>by
  refine⟨h3,qs.map (·.1),u,rfl,by rw [List.map_map,List.map_map];rfl,?_,fun p hp=>by obtain⟨x,hx,rfl⟩:=List.mem_map.1 hp;exact (hs0.good x hx).1⟩
  refine SlP.of_own (by rw [List.length_map]) h2 (fun p hp=>?_) (by rw [List.length_map];omega)
  obtain⟨x,hx,rfl⟩:=List.mem_map.1 hp
  exact (hs.good x hx).1.keeps h3
 obtain⟨n,hn⟩:∃n,n=qs.length:=⟨_,rfl⟩
 have HN:Hid (n=qs.length):=hn
 rw [←hn] at h1 hlen
 clear hi hz0 hz1 hz2 hs hs0 hd hn h hw0
 generalize ItPostW w0 w.heap.size ((qs.map trT).map (·.1)) w=PO at *
 have h0c:=h0;have h1c:=h1
 have H01:Hid (w.cell? ⟨c,0,none⟩=some (.pointer (some ⟨m,0,none⟩))∧w.cell? ⟨m,1,none⟩=some (.slice a0 n c0)):=⟨h0,h1⟩
 clear h0 h1 h0c h1c
 go_enter Tryz.func64,Tryz.ntmps64
 go_wp2_with fail
 go_loopg [4,3] n (fun z i u wr=>∃j:Nat,i=.int .i64 (j:Int)∧j≤n∧z=n-j∧Hid (wr.ownsRow w.heap.size 33 4 u j (((qs.take j).map (·.1)).flatMap encP))∧Hid (Below w.heap.size w wr))
 case atStart=>exact⟨0,rfl,by omega,by omega,World.ownsRow_nil _ _ _ _,Below.refl _ _⟩
 case round=>
  obtain⟨j,rfl,hj,hk,HOw,HBw⟩:=hrel
  have Hk:Hid _:=hk
  have hbw:=HBw.out
  have h0:=zaa hbw H01.out.1
  have h1:=zaa hbw H01.out.2
  clear hk
  by_cases hlt:j<n
  ·have hlt':j<qs.length:=by have:=HN.out;omega
   obtain⟨b1,o1,c1',hv1,_,hq1,hgq⟩:=HS.out.full (fun e=>by rw [e] at hlt';cases hlt')
   have ha1:a0=some ⟨b1,o1,none⟩:=by injection hv1
   subst ha1
   obtain⟨p0,p1,p2,p3,_,_,_,_⟩:=hq1.at j hlt'
   have hg:=hgq qs[j] (List.getElem_mem hlt')
   have Htk:Hid (((qs.take (j+1)).map (·.1)).flatMap encP=((qs.take j).map (·.1)).flatMap encP++encP qs[j].1):=by
    show _=_
    rw [List.take_succ_eq_append_getElem hlt',List.map_append,List.flatMap_append];simp
   obtain⟨a1,c1,hu1,_⟩:=Lies.slice hg.1.1
   rw [hu1] at p3
   generalize qs[j]=x at *
   obtain⟨⟨t1,u1⟩,y2⟩:=x
   simp only at p0 p1 p2 p3 hu1 Htk
   subst hu1
   have p0:=zaa hbw p0;have p1:=zaa hbw p1;have p2:=zaa hbw p2;have p3:=zaa hbw p3
   have hji:(j:Int)<(n:Nat):=by omega
   have hji0:(0:Int)≤(j:Int):=by omega
   have hws:w.heap.size≤wr.heap.size:=hbw.size
   clear hq1 hgq hg hv1
   go_wp2_with (first
    | (at_builtin;refine wpList_append_own _ rfl _ _ 22 rfl w.heap.size 33 i0 (.agg #[.int .i64 0,.int .i64 0,.string ⟨#[]⟩,.slice none 0 0]) 4 56 Tryz.underlying22 Hi.out Hz0.out Hz1.out Hz2.out rfl (by decide) _ _ _ rfl (HOw.out.alloc _) ⟨wr.heap.size,0,none⟩ 1 1 [.int .i64 t1.kind,.int .i64 t1.num,.string t1.text,.slice a1 t1.items.length c1] rfl rfl (fun q u hq=>by match q,hq with|0,hq=>(simp at hq;subst hq;simp [Addr.add])|1,hq=>(simp at hq;subst hq;simp [Addr.add])|2,hq=>(simp at hq;subst hq;simp [Addr.add])|3,hq=>(simp at hq;subst hq;simp [Addr.add])) (fun u hu=>by simp at hu;rcases hu with rfl|rfl|rfl|rfl <;> rfl) (by unfold maxLen;omega) (by omega) (by simp;omega) ?_;intro v9 w9 hown hgrow _))
   have hb9:Below w.heap.size w w9:=zah (hbw.alloc hws _) (by simp;omega) (HOw.out.alloc _) hgrow
   have HR9:Hid (w9.ownsRow w.heap.size 33 4 v9 (j+1) (((qs.take (j+1)).map (·.1)).flatMap encP)):=by
    rw [Htk.out]
    exact hown
   clear hown hgrow p0 p1 p2 p3 h0 h1
   go_roundg (n-(j+1))
   case measure=>have:=Hk.out;omega
   case rel=>exact⟨j+1,by go_num,by omega,rfl,HR9,hb9⟩
  ·have hjl:j=n:=by omega
   have hji : ¬(j:Int)<(n:Nat):=by omega
   have HE:Hid (PO (.returned u3) wr):=by
    have h9:=HOw.out
    rw [hjl,HN.out,List.take_length] at h9
    exact HP.out _ _ h9 hbw
   clear HOw HP hjl
   go_wp2_with fail
   first|exact HE.out|(go_ret;exact HE.out)
set_option maxRecDepth 100000 in
set_option maxHeartbeats 8000000 in
theorem svalue_16 {w:World} {q:Nat} {l:List PT} {s:Nat} (h:SC w q l s):Calls Tryz.prog 13 #[.pointer (some ⟨s,0,none⟩)] w (Tells 17 (setA 16 (l.map (·.1))) w):=by
 obtain⟨W0,hW0⟩:∃W0,W0=w.alloc (.cells #[.int .i64 0,.int .i64 0,.string ⟨#[]⟩,.slice none 0 0] 33):=⟨_,rfl⟩
 have hbz:Below w.heap.size w W0:=by rw [hW0];exact ((Grew.refl w).alloc _).below
 have hsz:W0.heap.size=w.heap.size+1:=by rw [hW0];simp
 have HK0:Hid (Bx W0 w.heap.size zeroT (.slice none 0 0)):=by rw [hW0];exact zan w zeroT _
 have HI:Hid (Calls Tryz.prog 46 #[.pointer (some ⟨s,0,none⟩)] W0 (ItPost W0.heap.size (l.map (·.1)) W0)):=sitems_16 (h.keeps hbz)
 have HSz:Hid (W0.heap.size=w.heap.size+1):=hsz
 clear h hsz
 generalize l.map (·.1)=ks at *
 go_enter Tryz.func13,Tryz.ntmps13
 go_upto_region 1 with fail
 rw [←hW0]
 clear hW0
 go_wp2_with fail
 refine Calls.mono HI.out ?_
 rintro e w2 ⟨hg2,ps,v,rfl,hm,hS⟩
 have HB:Hid (Calls Tryz.prog 70 #[v] w2 (TellsX (fun b=>b≠w.heap.size) 17 (setA 16 ks) w2)):=by
  have hl:=hS.lies
  rw [hm] at hl
  obtain⟨a9,c9,he,_⟩:=Lies.slice hl
  rw [he] at hl ⊢
  exact vset_tellsX w.heap.size 16 ks a9 c9 w2 (by have:=hg2.size;have:=HSz.out;omega) hl
 have hb2:Below w.heap.size w w2:=hbz.trans (hg2.mono hbz.size)
 have HB2:Hid (Bx w2 w.heap.size zeroT (.slice none 0 0)):=HK0.out.keeps hg2
 obtain⟨av,cv,rfl,_⟩:=hS.slice
 clear hS hm hg2 HI HK0 hbz
 generalize setA 16 ks=A at *
 obtain⟨t,n⟩:=A
 go_wp2_with fail
 refine Calls.mono HB.out ?_
 rintro e w3 ⟨v3,rfl,hL2,hg3⟩
 obtain⟨a2,c2,rfl,_⟩:=LiesX.slice hL2
 have HB3:Hid (Bx w3 w.heap.size zeroT (.slice none 0 0)):=HB2.out.keeps hg3
 have hb3:Below w.heap.size w w3:=hb2.trans (hg3.mono hb2.size)
 obtain⟨y0,y1,y2,y3,z0,z1,z2,z3⟩:=HB3.out
 have Hbx:Hid (Bx (w3.setCells w.heap.size 0 (encP (t,.slice a2 t.items.length c2))) w.heap.size t (.slice a2 t.items.length c2)):=HB3.out.put (t,.slice a2 t.items.length c2)
 have Hbl:Hid (Below w.heap.size w (w3.setCells w.heap.size 0 (encP (t,.slice a2 t.items.length c2)))):=zap hb3 (Nat.le_refl _) (t,.slice a2 t.items.length c2)
 have Hfin:Hid (Lies 17 (w3.setCells w.heap.size 0 (encP (t,.slice a2 t.items.length c2))) t.items (.slice a2 t.items.length c2)):=(LiesX.set (g:=w.heap.size) (fun h=>h rfl) hL2).lies
 clear hL2 hg3 HB2 HB hb2 hb3
 go_wp2_with fail
 refine bodyPost_ret (v:=.tuple #[.agg #[.int .i64 t.kind,.int .i64 t.num,.string t.text,.slice a2 t.items.length c2],.int .i64 n]) ?_ rfl ⟨_,rfl,Hfin.out,Hbl.out⟩
 obtain⟨q0,q1,q2,q3,_,_,_,_⟩:=Hbx.out
 simp only [encP,World.setCells,Nat.zero_add,Nat.reduceAdd] at q0 q1 q2 q3
 simp [results,Tryz.results13,go_sem,q0,q1,q2,q3]
set_option maxRecDepth 100000 in
set_option maxHeartbeats 8000000 in
theorem rvalue_16 {w:World} {q:Nat} {l:List PT} {s:Nat} (h:DS w q l s):Calls Tryz.prog 14 #[.pointer (some ⟨s,0,none⟩)] w (Tells 17 (setA 16 (l.map (·.1))) w):=by
 obtain⟨W0,hW0⟩:∃W0,W0=w.alloc (.cells #[.int .i64 0,.int .i64 0,.string ⟨#[]⟩,.slice none 0 0] 33):=⟨_,rfl⟩
 have hbz:Below w.heap.size w W0:=by rw [hW0];exact ((Grew.refl w).alloc _).below
 have hsz:W0.heap.size=w.heap.size+1:=by rw [hW0];simp
 have HK0:Hid (Bx W0 w.heap.size zeroT (.slice none 0 0)):=by rw [hW0];exact zan w zeroT _
 have HI:Hid (Calls Tryz.prog 64 #[.pointer (some ⟨s,0,none⟩)] W0 (ItPostW w W0.heap.size (l.map (·.1)) W0)):=ritems_16W h hbz
 have HSz:Hid (W0.heap.size=w.heap.size+1):=hsz
 clear h hsz
 generalize l.map (·.1)=ks at *
 go_enter Tryz.func14,Tryz.ntmps14
 go_upto_region 1 with fail
 rw [←hW0]
 clear hW0
 go_wp2_with fail
 refine Calls.mono HI.out ?_
 rintro e w2 ⟨hg2,ps,v,rfl,hm,hS,hso⟩
 have HB:Hid (Calls Tryz.prog 71 #[v] w2 (TellsX (fun b=>b≠w.heap.size) 17 (setA 16 ks) w2)):=by
  rw [←hm]
  exact rset_tellsX w.heap.size 16 ps v w2 (by have:=hg2.size;have:=HSz.out;omega) (hS.mono (Nat.zero_le _)) (fun p hp=>((LiesX.of_lies (hso p hp).1).keeps (hbz.trans (hg2.mono hbz.size))).mono (fun b (h:b<w.heap.size)=>⟨by omega,by have:=hg2.size;have:=HSz.out;omega⟩))
 have hb2:Below w.heap.size w w2:=hbz.trans (hg2.mono hbz.size)
 have HB2:Hid (Bx w2 w.heap.size zeroT (.slice none 0 0)):=HK0.out.keeps hg2
 obtain⟨av,cv,rfl,_⟩:=hS.slice
 clear hS hm hg2 HI HK0 hbz hso
 generalize setA 16 ks=A at *
 obtain⟨t,n⟩:=A
 go_wp2_with fail
 refine Calls.mono HB.out ?_
 rintro e w3 ⟨v3,rfl,hL2,hg3⟩
 obtain⟨a2,c2,rfl,_⟩:=LiesX.slice hL2
 have HB3:Hid (Bx w3 w.heap.size zeroT (.slice none 0 0)):=HB2.out.keeps hg3
 have hb3:Below w.heap.size w w3:=hb2.trans (hg3.mono hb2.size)
 obtain⟨y0,y1,y2,y3,z0,z1,z2,z3⟩:=HB3.out
 have Hbx:Hid (Bx (w3.setCells w.heap.size 0 (encP (t,.slice a2 t.items.length c2))) w.heap.size t (.slice a2 t.items.length c2)):=HB3.out.put (t,.slice a2 t.items.length c2)
 have Hbl:Hid (Below w.heap.size w (w3.setCells w.heap.size 0 (encP (t,.slice a2 t.items.length c2)))):=zap hb3 (Nat.le_refl _) (t,.slice a2 t.items.length c2)
 have Hfin:Hid (Lies 17 (w3.setCells w.heap.size 0 (encP (t,.slice a2 t.items.length c2))) t.items (.slice a2 t.items.length c2)):=(LiesX.set (g:=w.heap.size) (fun h=>h rfl) hL2).lies
 clear hL2 hg3 HB2 HB hb2 hb3
 go_wp2_with fail
 refine bodyPost_ret (v:=.tuple #[.agg #[.int .i64 t.kind,.int .i64 t.num,.string t.text,.slice a2 t.items.length c2],.int .i64 n]) ?_ rfl ⟨_,rfl,Hfin.out,Hbl.out⟩
 obtain⟨q0,q1,q2,q3,_,_,_,_⟩:=Hbx.out
 simp only [encP,World.setCells,Nat.zero_add,Nat.reduceAdd] at q0 q1 q2 q3
 simp [results,Tryz.results14,go_sem,q0,q1,q2,q3]
end Go.Proofs.YtlnecfjnffdciabGreat

namespace Go.Proofs.YtlnecfjnffdciabGreat
open Go.RowKit Go.Shelf
attribute [local go_sem] Oper.semAt_some
theorem eql_nilF16 (f:Fn) (lb:Array Value) (W:World):Sem.run Tryz.prog (binOp BinOp.eql 137 (.func f #[] lb) .nilFunc) W=.ok (.bool false) W:=by
 first|kernel_rfl|rfl
set_option maxRecDepth 100000 in
set_option maxHeartbeats 32000000 in
theorem sgone_16 (l:List VT) (hlen:l.length≤65536) (M:Nat) (hM:1≤M) (hM2:M≤65537) (s b:Nat) (w:World) (hs:w.cell? ⟨s,0,none⟩=some (.pointer (some ⟨b,0,none⟩)))
 (hseq:∀(n Bm:Nat) (W:World),6≤n→Below w.heap.size w W→W.cell? ⟨Bm,0,none⟩=some (.pointer (some ⟨b,0,none⟩))→SeqX Fence.wide n Tryz.prog 218 #[.pointer (some ⟨Bm,0,none⟩)] encCV (KpY 22 w.heap.size) (PreCV l) (fun xs=>xs.map CV.k=l) (fun _=>True) l.length W) :
 Calls Tryz.prog 67 #[.pointer (some ⟨s,0,none⟩),.int .i64 (M:Int)] w (ItPost w.heap.size (l.take M) w):=by
 refine (callsIn_wide (n:=8)).1 ?_
 refine callsIn_of_wp_marks Tryz.func67 rfl trivial ?_ rfl
 simp only [Tryz.ntmps67,List.size_toArray,List.length_cons,List.length_nil,Nat.reduceAdd,Nat.reduceSub,Array.replicate_succ,Array.replicate_zero,List.push_toArray,List.append_toArray,List.nil_append,List.cons_append]
 have hM1 : ¬((M:Nat):Int)<1:=by omega
 have tf:=eql_nilF16
 have HSq:Hid _:=hseq
 have HL:Hid (l.length≤65536):=hlen
 have Hs:Hid (w.cell? ⟨s,0,none⟩=some (.pointer (some ⟨b,0,none⟩))):=hs
 clear hseq hlen
 gi_wp2
 refine⟨trivial,?_⟩
 refine (callsIn_wide.2 (sall_16 s b _ (zaa (((Grew.refl w).alloc _).alloc _).below Hs.out))).mono ?_
 rintro e w1 ⟨rfl,rfl⟩
 simp only [World.size_alloc]
 gi_wp2
 obtain⟨Wi,hWi⟩:∃Wi,Wi=(((w.alloc (.cells #[.int .i64 (M:Int)] 3)).alloc (.cells #[.slice none 0 0] 22)).alloc (.cells #[.pointer (some ⟨b,0,none⟩)] 112)):=⟨_,rfl⟩
 rw [←hWi]
 have hB0:Below w.heap.size w Wi:=by rw [hWi];exact (((Grew.refl w).alloc _).alloc _).alloc _ |>.below
 have hsz:Wi.heap.size=w.heap.size+3:=by rw [hWi];simp
 have cM:Wi.cell? ⟨w.heap.size+1+1,0,none⟩=some (.pointer (some ⟨b,0,none⟩)):=by
  rw [hWi]
  have h9:=(Go.Boxed.new ((w.alloc (.cells #[.int .i64 (M:Int)] 3)).alloc (.cells #[.slice none 0 0] 22)) 112 (.pointer (some ⟨b,0,none⟩))).cell
  simpa only [World.size_alloc] using h9
 have hG0:GvI w (w.heap.size+1) [] Wi:=by
  refine⟨⟨.slice none 0 0,?_,World.ownsRow_nil _ _ _ _,fun x hx=>by cases hx⟩,hB0⟩
  rw [hWi]
  have h9:=(Go.Boxed.new (w.alloc (.cells #[.int .i64 (M:Int)] 3)) 22 (.slice none 0 0)).alloc (.cells #[.pointer (some ⟨b,0,none⟩)] 112)
  simpa only [World.size_alloc] using h9
 have hM0:Go.Boxed Wi w.heap.size 3 (.int .i64 (M:Int)):=by
  rw [hWi]
  exact ((Go.Boxed.new w 3 (.int .i64 (M:Int))).alloc _).alloc _
 have HM:Hid (1≤M∧M≤65537):=⟨hM,hM2⟩
 have HSq2:Hid _:=HSq.out 7 (w.heap.size+1+1) Wi (by omega) hB0 cM
 clear hWi tf hM hM2 hs cM HSq
 refine rangeX (α:=CV) rfl (by omega) (gf:=218) (lb:=#[.pointer (some ⟨w.heap.size+1+1,0,none⟩)]) rfl trivial (enters_of Tryz.func218 (by kernel_rfl) rfl)
  HSq2.out kpY_t (fun W o o' hl ho=>kpY_b (by omega) (by omega) W o o' hl ho) (Below.refl _ _) (fun _=>rfl)
  (fun pre W=>GvI w (w.heap.size+1) pre W∧Go.Boxed W w.heap.size 3 (.int .i64 (M:Int))∧pre.length<M∧pre.map CV.k <+: l) (fun c pre W=>c=.exit 0∧GvI w (w.heap.size+1) pre W∧pre.length=M∧pre.map CV.k <+: l)
  (fun s A V row hs hg hr=>⟨GvI.own w _ _ (by omega) (by omega) s A V row hs.1 hg hr,hs.2.1.kept hg (fun e=>by have:=(hr _ e.symm).1;omega),hs.2.2⟩) (fun c s A V row hs hg hr=>⟨hs.1,GvI.own w _ _ (by omega) (by omega) s A V row hs.2.1 hg hr,hs.2.2⟩) ⟨hG0,hM0,by have:=HM.out.1;simp;omega,by simp⟩
  (GvA (w.heap.size+1) l (fun x Bk=>{ tmps:=#[.pointer (some ⟨s,0,none⟩),.int .i64 (M:Int),undef,.pointer (some ⟨w.heap.size,0,none⟩),.slice none 0 0,.pointer (some ⟨w.heap.size+1,0,none⟩),.func (.func 218) #[] #[.pointer (some ⟨w.heap.size+1+1,0,none⟩)],.pointer (some ⟨Bk,0,none⟩),.pointer (some ⟨s,0,none⟩),.func (.func 218) #[] #[.pointer (some ⟨w.heap.size+1+1,0,none⟩)],.func (.func 218) #[] #[.pointer (some ⟨w.heap.size+1+1,0,none⟩)],.bool false,.bool false,.int .i64 (M:Int),.bool (decide ((M:Int)<1)),.bool (decide ((M:Int)<1)),.func (.func 218) #[] #[.pointer (some ⟨w.heap.size+1+1,0,none⟩)],.agg #[.int .i64 x.k.kind,.int .i64 x.k.num,.string x.k.text,.slice x.a1 x.k.items.length x.c1],undef,undef,undef,undef,undef,undef,undef,undef,undef,undef,undef],defers:=[] })) (fun pre x a'=>GvA.own _ _ _ (by omega) _ _ _ _) ?assign ?body ?done ?stop
 case assign=>
  rintro lp pre x V W K hI hbVW ⟨hN,hpx⟩ hK
  have hba:Below W.heap.size W (W.alloc (.cells #[.int .i64 x.k.kind,.int .i64 x.k.num,.string x.k.text,.slice x.a1 x.k.items.length x.c1] 33)):=((Grew.refl W).alloc _).below
  have hws:w.heap.size≤W.heap.size:=Nat.le_trans hI.1.2.size hbVW.size
  obtain⟨hA,hI3⟩:=GvA.make (l:=l) (f:=(fun x Bk=>{ tmps:=#[.pointer (some ⟨s,0,none⟩),.int .i64 (M:Int),undef,.pointer (some ⟨w.heap.size,0,none⟩),.slice none 0 0,.pointer (some ⟨w.heap.size+1,0,none⟩),.func (.func 218) #[] #[.pointer (some ⟨w.heap.size+1+1,0,none⟩)],.pointer (some ⟨Bk,0,none⟩),.pointer (some ⟨s,0,none⟩),.func (.func 218) #[] #[.pointer (some ⟨w.heap.size+1+1,0,none⟩)],.func (.func 218) #[] #[.pointer (some ⟨w.heap.size+1+1,0,none⟩)],.bool false,.bool false,.int .i64 (M:Int),.bool (decide ((M:Int)<1)),.bool (decide ((M:Int)<1)),.func (.func 218) #[] #[.pointer (some ⟨w.heap.size+1+1,0,none⟩)],.agg #[.int .i64 x.k.kind,.int .i64 x.k.num,.string x.k.text,.slice x.a1 x.k.items.length x.c1],undef,undef,undef,undef,undef,undef,undef,undef,undef,undef,undef],defers:=[] })) hI.1 hbVW hN hpx
  have hm9:=(hbVW.block _ hI.2.1.lt).trans hI.2.1
  have HK:Hid (K _ _):=hK _ _ ((KeepsOthers.alloc W _).from _) ⟨hba.mono hws,KBy.below hba,keepsBelowY hba⟩ ⟨hI3,(show Go.Boxed W w.heap.size 3 (.int .i64 (M:Int)) from hm9).alloc _,hI.2.2⟩ hA
  clear hK hA
  unfold encCV
  gi_wp2
  exact HK.out
 case body=>
  rintro lp pre x a' W hlp ⟨⟨⟨v',bx0,hrow,hl⟩,hB⟩,b1,hlM,hpl⟩ ⟨Bk,v,bk,hBk,bx',hnk,hLk,hpx,rfl⟩ hlt
  have hvv:v'=v:=by
   have h1:W.heap[w.heap.size+1]? = some (.cells #[v] 22 (0,0)):=bx'
   have h2:W.heap[w.heap.size+1]? = some (.cells #[v'] 22 (0,0)):=bx0
   rw [h1] at h2
   injection h2 with h2
   injection h2 with h2
   simpa using h2.symm
  subst hvv
  obtain⟨av,cv,hv⟩:∃a c,v'=.slice a pre.length c:=by
   rcases hrow.2 with ⟨rfl,e⟩|⟨g,cap,_,rfl,_⟩
   ·exact⟨none,0,by rw [e]⟩
   ·exact⟨_,_,rfl⟩
  subst hv
  obtain⟨k,hk⟩:∃k,k=pre.length:=⟨_,rfl⟩
  have hpx2:(pre++[x]).map CV.k <+: l:=by rw [List.map_append];exact hpx
  have hkl:k+1≤l.length:=by have:=hpx2.length_le;rw [List.length_map,List.length_append,←hk] at this;exact this
  have hkq:k≤65537:=by have:=HL.out;omega
  have HStep:Hid (∀(g cap:Nat) (w3:World),w3.ownsRow w.heap.size 33 4 (.slice (some ⟨g,0,none⟩) (k+1) cap) (k+1) (pre.flatMap (fun x=>encP x.p)++[.int .i64 0,.int .i64 0,.string ⟨#[]⟩,.slice none 0 0])→(W.alloc Z4V).drew.grownBy w3 (Value.slice av k cv).ownBlock→((Value.slice av k cv).ownBlock=some g∨g=(W.alloc Z4V).drew.heap.size)→_):=fun g cap w3 h1 h2 h3=>gv_step (B:=w.heap.size+1) (n1:=Wi.heap.size+2) hk (by omega) (by rw [hk];exact⟨bx',hrow,hl⟩) hB (by rw [hk];exact hLk) g cap w3 h1 h2 h3
  rw [←hk] at bx' hrow hnk hlt hlM
  obtain⟨y0,y1,y2,y3⟩:=bk.cells
  have hc:=bx'.cell
  have hBl:=bx'.lt
  have hBkl:=bk.lt
  have c4:=b1.cell
  have HB1:Hid (Go.Boxed W w.heap.size 3 (.int .i64 (M:Int))):=b1
  have hcD:W.drew.cell? ⟨w.heap.size+1,0,none⟩=some (.slice av k cv):=hc
  have d0:W.drew.cell? ⟨Bk,0,none⟩=some (.int .i64 x.k.kind):=y0
  have d1:W.drew.cell? ⟨Bk,1,none⟩=some (.int .i64 x.k.num):=y1
  have d2:W.drew.cell? ⟨Bk,2,none⟩=some (.string x.k.text):=y2
  have d3:W.drew.cell? ⟨Bk,3,none⟩=some (.slice x.a1 x.k.items.length x.c1):=y3
  have hn1 : ¬(Bk=W.heap.size):=by omega
  have hn2 : ¬(w.heap.size+1=W.heap.size):=by omega
  have HRow:Hid ((W.alloc Z4V).drew.ownsRow w.heap.size 33 4 (.slice av k cv) k (pre.flatMap (fun x=>encP x.p))):=(hrow.alloc _).drew
  have Hbs:Hid (w.heap.size≤(W.alloc Z4V).drew.heap.size):=by
   have:=hB.size
   show _≤_
   simp
   omega
  have Hxl:Hid ((pre.flatMap (fun x=>encP x.p)).length=k*4):=hrow.1
  have HP:Hid ((pre++[x]).map CV.k <+: l):=hpx2
  have Hk:Hid (k=pre.length):=hk
  have hmx:Tryz.prog.follows .mixedOrders=true:=by kernel_rfl
  have hkk:((k:Nat):Int)<(k:Nat)+1:=by omega
  clear hrow bx' bx0 bk hB hlp hlt hk hl hLk hnk hpx hpx2 hkl b1 hpl
  by_cases hge:k+1=M
  ·have hgeI:((M:Nat):Int)≤(k:Int)+1:=by omega
   have hgeN:M≤k+1:=by omega
   have Hge:Hid (k+1=M):=hge
   clear hge hlM
   gi_wp2
   refine wpIn_region_any hmx ?_
   change wpAnyIn _ _ _ _ _ _ _ _ _ (World.drew _)
   all_goals (first|refine wpAnyIn_ready (rs:=[0,1,3]) (by decide +kernel) (by simp) (AllReadyIn.cons rfl (fun K hK=>?_) (AllReadyIn.cons rfl (fun K hK=>?_) (AllReadyIn.cons rfl (fun K hK=>?_) AllReadyIn.nil))))
   all_goals (go_simp;refine hK _ _ ?_;clear hK K)
   all_goals (first|refine wpAnyIn_ready (rs:=[1,2,3]) (by decide +kernel) (by simp) (AllReadyIn.cons rfl (fun K hK=>?_) (AllReadyIn.cons rfl (fun K hK=>?_) (AllReadyIn.cons rfl (fun K hK=>?_) AllReadyIn.nil)))|refine wpAnyIn_ready (rs:=[0,3]) (by decide +kernel) (by simp) (AllReadyIn.cons rfl (fun K hK=>?_) (AllReadyIn.cons rfl (fun K hK=>?_) AllReadyIn.nil))|refine wpAnyIn_ready (rs:=[0,1]) (by decide +kernel) (by simp) (AllReadyIn.cons rfl (fun K hK=>?_) (AllReadyIn.cons rfl (fun K hK=>?_) AllReadyIn.nil)))
   all_goals (go_simp;refine hK _ _ ?_;clear hK K)
   all_goals (first|refine wpAnyIn_ready (rs:=[2,3]) (by decide +kernel) (by simp) (AllReadyIn.cons rfl (fun K hK=>?_) (AllReadyIn.cons rfl (fun K hK=>?_) AllReadyIn.nil))|refine wpAnyIn_ready (rs:=[1,3]) (by decide +kernel) (by simp) (AllReadyIn.cons rfl (fun K hK=>?_) (AllReadyIn.cons rfl (fun K hK=>?_) AllReadyIn.nil))|refine wpAnyIn_ready (rs:=[1,2]) (by decide +kernel) (by simp) (AllReadyIn.cons rfl (fun K hK=>?_) (AllReadyIn.cons rfl (fun K hK=>?_) AllReadyIn.nil))|refine wpAnyIn_ready (rs:=[0]) (by decide +kernel) (by simp) (AllReadyIn.cons rfl (fun K hK=>?_) AllReadyIn.nil))
   all_goals (go_simp;refine hK _ _ ?_;clear hK K)
   all_goals (first|refine wpAnyIn_ready (rs:=[3]) (by decide +kernel) (by simp) (AllReadyIn.cons rfl (fun K hK=>?_) AllReadyIn.nil)|refine wpAnyIn_ready (rs:=[2]) (by decide +kernel) (by simp) (AllReadyIn.cons rfl (fun K hK=>?_) AllReadyIn.nil)|refine wpAnyIn_ready (rs:=[1]) (by decide +kernel) (by simp) (AllReadyIn.cons rfl (fun K hK=>?_) AllReadyIn.nil))
   all_goals (go_simp;refine hK _ _ ?_;clear hK K)
   all_goals refine ?restV9
   refine wpAnyIn_ready (rs:=[4]) (by kernel_rfl) (by simp) ?_
   refine AllReadyIn.cons rfl (fun K hK=>?_) ?_
   ·refine appV_step rfl _ _ rfl w.heap.size (.slice av k cv) k (pre.flatMap (fun x=>encP x.p)) rfl HRow.out _ rfl (by simp) (by simp) (by simp) (by simp) hkq Hbs.out ?_
    intro g3 cap3 w3 hown3 hgrow3 hg3 hgl3
    obtain⟨hbx3,hboxes,hgB,hstep⟩:=HStep.out g3 cap3 w3 hown3 hgrow3 hg3
    have hm3:=(hboxes _ _ _ HB1.out).1.cell
    have hgn2 : ¬(w.heap.size=g3):=fun e=>(hboxes _ _ _ HB1.out).2 e.symm
    have hc3:=hbx3.cell
    have hf3:=hbx3.frozen
    have hgB2 : ¬(w.heap.size+1=g3):=fun e=>hgB e.symm
    have q0:=hown3.cellAt (k*4) (by omega)
    have q1:=hown3.cellAt (k*4+1) (by omega)
    have q2:=hown3.cellAt (k*4+2) (by omega)
    have q3:=hown3.cellAt (k*4+3) (by omega)
    rw [List.getElem?_append_right (by rw [Hxl.out];omega),Hxl.out] at q0 q1 q2 q3
    simp only [Nat.sub_self,Nat.add_sub_cancel_left,List.getElem?_cons_zero,List.getElem?_cons_succ] at q0 q1 q2 q3
    have z0:=hown3.frozenAt (k*4)
    have z1:=hown3.frozenAt (k*4+1)
    have z2:=hown3.frozenAt (k*4+2)
    have z3:=hown3.frozenAt (k*4+3)
    have Hst:Hid _:=hstep
    clear hown3 hgrow3 hg3 hstep hboxes
    refine hK _ _ ?_
    clear hK K
    refine wpAnyIn_ready (rs:=[5,7]) (by kernel_rfl) (by simp) ?_
    refine AllReadyIn.cons rfl (fun K hK=>?_) ?_
    ·go_simp
     refine hK _ _ ?_
     clear hK K
     refine wpAnyIn_ready (rs:=[6,7]) (by kernel_rfl) (by simp) ?_
     refine AllReadyIn.cons rfl (fun K hK=>?_) ?_
     ·go_simp
      refine hK _ _ ?_
      clear hK K
      refine wpAnyIn_ready (rs:=[7]) (by kernel_rfl) (by simp) ?_
      refine AllReadyIn.cons rfl (fun K hK=>?_) ?_
      ·go_simp
       refine hK _ _ ?_
       clear hK K
       refine wpAnyIn_done (by kernel_rfl) ?_ _
       gi_wp2
       obtain⟨k1,k2,k3,k4⟩:=Hst.out _ (Or.inl rfl)
       exact⟨k1.from _,k2,rfl,⟨⟨_,k3⟩,k4⟩,by rw [List.length_append,←Hk.out,←Hge.out];rfl,HP.out⟩
      exact AllReadyIn.nil
     refine AllReadyIn.cons rfl (fun K hK=>?_) ?_
     ·go_simp
      refine hK _ _ ?_
      clear hK K
      refine wpAnyIn_ready (rs:=[6]) (by kernel_rfl) (by simp) ?_
      refine AllReadyIn.cons rfl (fun K hK=>?_) ?_
      ·go_simp
       refine hK _ _ ?_
       clear hK K
       refine wpAnyIn_done (by kernel_rfl) ?_ _
       gi_wp2
       obtain⟨k1,k2,k3,k4⟩:=Hst.out _ (Or.inr rfl)
       exact⟨k1.from _,k2,rfl,⟨⟨_,k3⟩,k4⟩,by rw [List.length_append,←Hk.out,←Hge.out];rfl,HP.out⟩
      exact AllReadyIn.nil
     exact AllReadyIn.nil
    refine AllReadyIn.cons rfl (fun K hK=>?_) ?_
    ·go_simp
     refine hK _ _ ?_
     clear hK K
     refine wpAnyIn_ready (rs:=[5]) (by kernel_rfl) (by simp) ?_
     refine AllReadyIn.cons rfl (fun K hK=>?_) ?_
     ·go_simp
      refine hK _ _ ?_
      clear hK K
      refine wpAnyIn_ready (rs:=[6]) (by kernel_rfl) (by simp) ?_
      refine AllReadyIn.cons rfl (fun K hK=>?_) ?_
      ·go_simp
       refine hK _ _ ?_
       clear hK K
       refine wpAnyIn_done (by kernel_rfl) ?_ _
       gi_wp2
       obtain⟨k1,k2,k3,k4⟩:=Hst.out _ (Or.inr rfl)
       exact⟨k1.from _,k2,rfl,⟨⟨_,k3⟩,k4⟩,by rw [List.length_append,←Hk.out,←Hge.out];rfl,HP.out⟩
      exact AllReadyIn.nil
     exact AllReadyIn.nil
    exact AllReadyIn.nil
   exact AllReadyIn.nil
  ·have hgeI : ¬((M:Nat):Int)≤(k:Int)+1:=by omega
   have hgeN : ¬M≤k+1:=by omega
   have HgeN:Hid (¬M≤k+1):=hgeN
   clear hge hlM
   gi_wp2
   refine wpIn_region_any hmx ?_
   change wpAnyIn _ _ _ _ _ _ _ _ _ (World.drew _)
   all_goals (first|refine wpAnyIn_ready (rs:=[0,1,3]) (by decide +kernel) (by simp) (AllReadyIn.cons rfl (fun K hK=>?_) (AllReadyIn.cons rfl (fun K hK=>?_) (AllReadyIn.cons rfl (fun K hK=>?_) AllReadyIn.nil))))
   all_goals (go_simp;refine hK _ _ ?_;clear hK K)
   all_goals (first|refine wpAnyIn_ready (rs:=[1,2,3]) (by decide +kernel) (by simp) (AllReadyIn.cons rfl (fun K hK=>?_) (AllReadyIn.cons rfl (fun K hK=>?_) (AllReadyIn.cons rfl (fun K hK=>?_) AllReadyIn.nil)))|refine wpAnyIn_ready (rs:=[0,3]) (by decide +kernel) (by simp) (AllReadyIn.cons rfl (fun K hK=>?_) (AllReadyIn.cons rfl (fun K hK=>?_) AllReadyIn.nil))|refine wpAnyIn_ready (rs:=[0,1]) (by decide +kernel) (by simp) (AllReadyIn.cons rfl (fun K hK=>?_) (AllReadyIn.cons rfl (fun K hK=>?_) AllReadyIn.nil)))
   all_goals (go_simp;refine hK _ _ ?_;clear hK K)
   all_goals (first|refine wpAnyIn_ready (rs:=[2,3]) (by decide +kernel) (by simp) (AllReadyIn.cons rfl (fun K hK=>?_) (AllReadyIn.cons rfl (fun K hK=>?_) AllReadyIn.nil))|refine wpAnyIn_ready (rs:=[1,3]) (by decide +kernel) (by simp) (AllReadyIn.cons rfl (fun K hK=>?_) (AllReadyIn.cons rfl (fun K hK=>?_) AllReadyIn.nil))|refine wpAnyIn_ready (rs:=[1,2]) (by decide +kernel) (by simp) (AllReadyIn.cons rfl (fun K hK=>?_) (AllReadyIn.cons rfl (fun K hK=>?_) AllReadyIn.nil))|refine wpAnyIn_ready (rs:=[0]) (by decide +kernel) (by simp) (AllReadyIn.cons rfl (fun K hK=>?_) AllReadyIn.nil))
   all_goals (go_simp;refine hK _ _ ?_;clear hK K)
   all_goals (first|refine wpAnyIn_ready (rs:=[3]) (by decide +kernel) (by simp) (AllReadyIn.cons rfl (fun K hK=>?_) AllReadyIn.nil)|refine wpAnyIn_ready (rs:=[2]) (by decide +kernel) (by simp) (AllReadyIn.cons rfl (fun K hK=>?_) AllReadyIn.nil)|refine wpAnyIn_ready (rs:=[1]) (by decide +kernel) (by simp) (AllReadyIn.cons rfl (fun K hK=>?_) AllReadyIn.nil))
   all_goals (go_simp;refine hK _ _ ?_;clear hK K)
   all_goals refine ?restW9
   refine wpAnyIn_ready (rs:=[4]) (by kernel_rfl) (by simp) ?_
   refine AllReadyIn.cons rfl (fun K hK=>?_) ?_
   ·refine appV_step rfl _ _ rfl w.heap.size (.slice av k cv) k (pre.flatMap (fun x=>encP x.p)) rfl HRow.out _ rfl (by simp) (by simp) (by simp) (by simp) hkq Hbs.out ?_
    intro g3 cap3 w3 hown3 hgrow3 hg3 hgl3
    obtain⟨hbx3,hboxes,hgB,hstep⟩:=HStep.out g3 cap3 w3 hown3 hgrow3 hg3
    have hm3:=(hboxes _ _ _ HB1.out).1.cell
    have hgn2 : ¬(w.heap.size=g3):=fun e=>(hboxes _ _ _ HB1.out).2 e.symm
    have hc3:=hbx3.cell
    have hf3:=hbx3.frozen
    have hgB2 : ¬(w.heap.size+1=g3):=fun e=>hgB e.symm
    have q0:=hown3.cellAt (k*4) (by omega)
    have q1:=hown3.cellAt (k*4+1) (by omega)
    have q2:=hown3.cellAt (k*4+2) (by omega)
    have q3:=hown3.cellAt (k*4+3) (by omega)
    rw [List.getElem?_append_right (by rw [Hxl.out];omega),Hxl.out] at q0 q1 q2 q3
    simp only [Nat.sub_self,Nat.add_sub_cancel_left,List.getElem?_cons_zero,List.getElem?_cons_succ] at q0 q1 q2 q3
    have z0:=hown3.frozenAt (k*4)
    have z1:=hown3.frozenAt (k*4+1)
    have z2:=hown3.frozenAt (k*4+2)
    have z3:=hown3.frozenAt (k*4+3)
    have Hst:Hid _:=hstep
    clear hown3 hgrow3 hg3 hstep hboxes
    refine hK _ _ ?_
    clear hK K
    refine wpAnyIn_ready (rs:=[5,7]) (by kernel_rfl) (by simp) ?_
    refine AllReadyIn.cons rfl (fun K hK=>?_) ?_
    ·go_simp
     refine hK _ _ ?_
     clear hK K
     refine wpAnyIn_ready (rs:=[6,7]) (by kernel_rfl) (by simp) ?_
     refine AllReadyIn.cons rfl (fun K hK=>?_) ?_
     ·go_simp
      refine hK _ _ ?_
      clear hK K
      refine wpAnyIn_ready (rs:=[7]) (by kernel_rfl) (by simp) ?_
      refine AllReadyIn.cons rfl (fun K hK=>?_) ?_
      ·go_simp
       refine hK _ _ ?_
       clear hK K
       refine wpAnyIn_done (by kernel_rfl) ?_ _
       gi_wp2
       obtain⟨k1,k2,k3,k4⟩:=Hst.out _ (Or.inl rfl)
       exact⟨k1.from _,k2,⟨⟨_,k3⟩,k4⟩,k2.2.1 _ _ _ (by decide) HB1.out,by rw [List.length_append,←Hk.out];have:=HgeN.out;simp;omega,HP.out⟩
      exact AllReadyIn.nil
     refine AllReadyIn.cons rfl (fun K hK=>?_) ?_
     ·go_simp
      refine hK _ _ ?_
      clear hK K
      refine wpAnyIn_ready (rs:=[6]) (by kernel_rfl) (by simp) ?_
      refine AllReadyIn.cons rfl (fun K hK=>?_) ?_
      ·go_simp
       refine hK _ _ ?_
       clear hK K
       refine wpAnyIn_done (by kernel_rfl) ?_ _
       gi_wp2
       obtain⟨k1,k2,k3,k4⟩:=Hst.out _ (Or.inr rfl)
       exact⟨k1.from _,k2,⟨⟨_,k3⟩,k4⟩,k2.2.1 _ _ _ (by decide) HB1.out,by rw [List.length_append,←Hk.out];have:=HgeN.out;simp;omega,HP.out⟩
      exact AllReadyIn.nil
     exact AllReadyIn.nil
    refine AllReadyIn.cons rfl (fun K hK=>?_) ?_
    ·go_simp
     refine hK _ _ ?_
     clear hK K
     refine wpAnyIn_ready (rs:=[5]) (by kernel_rfl) (by simp) ?_
     refine AllReadyIn.cons rfl (fun K hK=>?_) ?_
     ·go_simp
      refine hK _ _ ?_
      clear hK K
      refine wpAnyIn_ready (rs:=[6]) (by kernel_rfl) (by simp) ?_
      refine AllReadyIn.cons rfl (fun K hK=>?_) ?_
      ·go_simp
       refine hK _ _ ?_
       clear hK K
       refine wpAnyIn_done (by kernel_rfl) ?_ _
       gi_wp2
       obtain⟨k1,k2,k3,k4⟩:=Hst.out _ (Or.inr rfl)
       exact⟨k1.from _,k2,⟨⟨_,k3⟩,k4⟩,k2.2.1 _ _ _ (by decide) HB1.out,by rw [List.length_append,←Hk.out];have:=HgeN.out;simp;omega,HP.out⟩
      exact AllReadyIn.nil
     exact AllReadyIn.nil
    exact AllReadyIn.nil
   exact AllReadyIn.nil
 case done=>
  rintro D pre W hD hxs ⟨⟨⟨v,hR⟩,hB⟩,b1,hlM,hpl⟩ hK
  have htk:pre.map CV.k=l.take M:=by rw [←hxs,List.take_of_length_le (by rw [List.length_map];omega)]
  have hpl2:pre.length≤65536:=by have:=congrArg List.length htk;rw [List.length_map] at this;rw [List.length_take] at this;have:=HL.out;omega
  have hS:SlP w.heap.size 16 W (pre.map CV.p) v:=hR.slp hpl2
  obtain⟨av,cv,rfl,_⟩:=hS.slice
  obtain⟨NL,hNL⟩:∃NL,NL=(pre.map CV.p).length:=⟨_,rfl⟩
  rw [←hNL] at hS hR
  have hc:=hR.1.cell
  have HS:Hid (SlP w.heap.size 16 W (pre.map CV.p) (.slice av NL cv)∧Below w.heap.size w W):=⟨hS,hB⟩
  have HMk:Hid (MarksX w.heap.size W [D]):=MarksX.one (by omega) hK
  have HT:Hid ((pre.map CV.p).map (·.1)=l.take M):=by rw [map_p_k];exact htk
  clear hR hS hB hK hNL htk b1
  gi_wp2
  refine leavesX w.heap.size (fun V=>SlP w.heap.size 16 V (pre.map CV.p) (.slice av NL cv)∧Below w.heap.size w V) (fun V D hD hK hT=>⟨slp_putObj hT.1 hK rfl,hT.2.trans (below_putX hD)⟩) (fun V hT=>⟨.slice av NL cv,by simp [results,Tryz.results67,go_sem],hT.2,_,_,rfl,HT.out,hT.1⟩) [D] _ HMk.out HS.out
 case stop=>
  rintro D c pre W hD _ ⟨rfl,⟨⟨v,hR⟩,hB⟩,hlM,hpl⟩ hK
  have htk:pre.map CV.k=l.take M:=by rw [List.prefix_iff_eq_take.1 hpl,List.length_map,hlM]
  have hpl2:pre.length≤65536:=by have:=congrArg List.length htk;rw [List.length_map] at this;rw [List.length_take] at this;have:=HL.out;omega
  have hS:SlP w.heap.size 16 W (pre.map CV.p) v:=hR.slp hpl2
  obtain⟨av,cv,rfl,_⟩:=hS.slice
  obtain⟨NL,hNL⟩:∃NL,NL=(pre.map CV.p).length:=⟨_,rfl⟩
  rw [←hNL] at hS hR
  have hc:=hR.1.cell
  have HS:Hid (SlP w.heap.size 16 W (pre.map CV.p) (.slice av NL cv)∧Below w.heap.size w W):=⟨hS,hB⟩
  have HMk:Hid (MarksX w.heap.size W [D]):=MarksX.one (by omega) hK
  have HT:Hid ((pre.map CV.p).map (·.1)=l.take M):=by rw [map_p_k];exact htk
  clear hR hS hB hK hNL htk 
  gi_wp2
  refine leavesX w.heap.size (fun V=>SlP w.heap.size 16 V (pre.map CV.p) (.slice av NL cv)∧Below w.heap.size w V) (fun V D hD hK hT=>⟨slp_putObj hT.1 hK rfl,hT.2.trans (below_putX hD)⟩) (fun V hT=>⟨.slice av NL cv,by simp [results,Tryz.results67,go_sem],hT.2,_,_,rfl,HT.out,hT.1⟩) [D] _ HMk.out HS.out
theorem sgoneM_16 {w:World} {q:Nat} {l:List PT} {s:Nat} (h:SC w q l s) (M:Nat) (hM:1≤M) (hM2:M≤65537):Calls Tryz.prog 67 #[.pointer (some ⟨s,0,none⟩),.int .i64 (M:Int)] w (ItPost w.heap.size ((l.map (·.1)).take M) w):=by
 obtain⟨b,hs,hl,hq⟩:=h.seq
 exact sgone_16 (l.map (·.1)) (by rw [List.length_map];exact hl) M hM hM2 s b w hs hq
end Go.Proofs.YtlnecfjnffdciabGreat

namespace Go.Proofs.YtlnecfjnffdciabGreat
open Go.RowKit Go.Shelf
theorem right_nil (d:Nat):zab d nilT=true:=by
 rw [←rightV_any nilT (Dp.of_lies d (default:World) nilT (.slice none 0 0) (zero_lies d _)) (Dp.of_lies 16 (default:World) nilT (.slice none 0 0) (zero_lies 16 _))]
 kernel_rfl
theorem of_good16 {d:Nat} {o:Int} {qs:List PP} {u:Value} {w:World} (hu:SlQ 0 d w qs u) (h:ofErr d o (qs.map trT)=0):∀p∈qs,Good 16 p.1.1∧Good 16 p.2.1:=by
 obtain⟨_,hp⟩:=ofErr_zero h
 obtain⟨_,hr⟩:=pErr_zero hp
 obtain⟨h16,hr16⟩:=slq_canon hu (fun p hpq=>hr (trT p) (List.mem_map_of_mem hpq))
 exact fun p hpq=>⟨⟨(hr16 p hpq).1,Dp.of_lies 16 w p.1.1 p.1.2 (h16.good p hpq).1.1⟩,⟨(hr16 p hpq).2,Dp.of_lies 16 w p.2.1 p.2.2 (h16.good p hpq).2.1⟩⟩
theorem mof_mp16 (d:Nat) (o:Int) (qs:List PP) (u:Value) (w:World) (hu:SlQ 0 d w qs u):Calls Tryz.prog 49 #[.int .i64 o,u] w (MpPost o.toNat (ofK o.toNat qs) (ofErr d o (qs.map trT)) w):=by
 refine (mof_14 d o qs u w hu).mono fun e w' h=>?_
 obtain⟨hb,⟨h0,rfl⟩|⟨h0,t,b,rfl,hm,hi⟩⟩:=h
 ·exact⟨hb,none,rfl,.inl ⟨h0,rfl⟩⟩
 ·rw [h0]
  exact⟨hb,_,rfl,.inr ⟨rfl,t,b,rfl,hm,kydO_eq (fun p hp=>(of_good16 hu h0 p hp).1) _ _ (by omega) (by omega) hm.rises hi⟩⟩
theorem keys_err {d:Nat} {o:Int} {l:List VT} (ho:zau o=0) (hl : ¬65536<l.length):ofErr d o (l.map nilP)=lookE d o l:=by
 have h1 : ¬(o<0∨6≤o):=fun h=>by unfold zau at ho;rw [if_pos h] at ho;cases ho
 unfold ofErr lookE pErr zaf
 rw [if_neg (by omega),if_neg h1,if_neg (by rw [List.length_map];exact hl),if_neg hl]
 have h2:(l.map nilP).all (okP d)=l.all (zab d):=by
  rw [List.all_map]
  congr 1
  funext v
  show (zab d v&&zab d nilT)=zab d v
  rw [right_nil,Bool.and_true]
 rw [h2]
set_option maxRecDepth 100000 in
set_option maxHeartbeats 8000000 in
theorem sof_list16 (d:Nat) (o:Int) (l:List VT) (u:Value) (w:World) (hu:Lies (d+1) w l u):Calls Tryz.prog 9 #[.int .i64 o,u] w (SpPost o.toNat (setL o.toNat l) (lookE d o l) w):=by
 obtain⟨a0,c0,rfl,_⟩:=Lies.slice hu
 have HNw:Hid _:=mnew_14 o w
 by_cases ho:zau o=0
 ·have hoN:(o<0∨6≤o)=False:=by
   refine eq_false fun h=>?_
   unfold zau at ho
   rw [if_pos h] at ho
   cases ho
  rw [ho] at HNw
  by_cases hl:65536<l.length
  ·have hE:lookE d o l=2:=by unfold lookE zaf;rw [if_neg (by rw [hoN];exact id),if_pos hl]
   rw [hE]
   have hli:(65536:Int)<(l.length:Nat):=by omega
   clear hu ho hoN hE hl
   generalize setL o.toNat l=SL at *
   generalize l.length=N at *
   go_enter Tryz.func9,Tryz.ntmps9
   go_wp2_with fail
   refine Calls.mono HNw.out ?_
   rintro e w1 ⟨hb,p,rfl,_⟩
   have HE:Hid (SpPost o.toNat SL 2 w (.returned (.tuple #[.pointer none,.int .i64 2])) w1):=⟨hb,none,rfl,.inl ⟨by decide,rfl⟩⟩
   clear hb HNw
   go_wp2_with fail
   go_ret2
   exact HE.out
  ·obtain⟨ps,hps,hpl,hsp⟩:=SlP.of_lies hu
   have HKy:Hid (∀V,Below w.heap.size w V→Calls Tryz.prog 59 #[.slice a0 l.length c0] V (KyPost ps d V)):=fun V hV=>keyed_16 d ps _ V (hsp.keeps hV) (by omega)
   have hmap:(ps.map keyP).map trT=l.map nilP:=by rw [keyP_map,hps]
   have HOf:Hid (∀V v,SlQ 0 d V (ps.map keyP) v→Calls Tryz.prog 49 #[.int .i64 o,v] V (MpPost o.toNat (setL o.toNat l) (lookE d o l) V)):=fun V v hv=>by
    have h9:=mof_mp16 d o (ps.map keyP) v V hv
    rw [hmap,keys_err ho hl,ofK_is,hmap] at h9
    exact h9
   have HN:Hid (Nils (setL o.toNat l)):=setL_nils _ _
   have hli : ¬(65536:Int)<(l.length:Nat):=by omega
   clear hu ho hoN hl hps hpl hsp hmap
   generalize setL o.toNat l=SL at *
   generalize lookE d o l=E at *
   generalize l.length=N at *
   go_enter Tryz.func9,Tryz.ntmps9
   go_wp2_with fail
   refine Calls.mono HNw.out ?_
   rintro e w1 ⟨hb1,p,rfl,_⟩
   clear HNw
   go_wp2_with fail
   refine Calls.mono (HKy.out _ hb1) ?_
   rintro e w2 ⟨hg2,v2,rfl,hv2⟩
   have hb2:Below w.heap.size w w2:=hb1.trans (hg2.mono hb1.size)
   have HO2:Hid _:=HOf.out w2 v2 hv2
   clear HKy HOf hg2 hv2 hb1
   go_wp2_with fail
   refine Calls.mono HO2.out ?_
   rintro e w3 ⟨hg3,p3,rfl,hp3⟩
   have HM:Hid _:=smade_16 hp3 HN.out
   have hb3:Below w.heap.size w w3:=hb2.trans (hg3.mono hb2.size)
   clear hg3 hp3 HO2 hb2
   go_wp2_with fail
   refine Calls.mono HM.out ?_
   rintro e w4 ⟨hg4,p4,rfl,hp4⟩
   have HE:Hid (SpPost o.toNat SL E w (.returned (.tuple #[.pointer p4,.int .i64 E])) w4):=⟨hb3.trans (hg4.mono hb3.size),p4,rfl,hp4⟩
   clear hg4 hp4 HM hb3
   go_wp2_with fail
   go_ret2
   exact HE.out
 ·have hE:lookE d o l=zau o:=by
   unfold lookE zau
   have h1:o<0∨6≤o:=Classical.byContradiction fun h=>ho (by unfold zau;rw [if_neg h])
   rw [if_pos h1,if_pos h1]
  rw [hE]
  have HZ:Hid (¬zau o=0):=ho
  clear hu hE ho
  generalize setL o.toNat l=SL at *
  generalize zau o=E at *
  generalize l.length=N at *
  go_enter Tryz.func9,Tryz.ntmps9
  go_wp2_with fail
  refine Calls.mono HNw.out ?_
  rintro e w1 ⟨hb,p,rfl,_⟩
  have hz:=HZ.out
  have HE:Hid (SpPost o.toNat SL E w (.returned (.tuple #[.pointer none,.int .i64 E])) w1):=⟨hb,none,rfl,.inl ⟨HZ.out,rfl⟩⟩
  clear hb HNw
  go_wp2_with fail
  go_ret2
  exact HE.out
end Go.Proofs.YtlnecfjnffdciabGreat

namespace Go.Proofs.YtlnecfjnffdciabGreat
open Go.RowKit Go.Shelf
theorem DS.len {w:World} {q:Nat} {l:List PT} {c:Nat} (h:DS w q l c):Calls Tryz.prog 75 #[.pointer (some ⟨c,0,none⟩)] w fun e w'=>e=.returned (.int .i64 (l.length:Nat))∧Below w.heap.size w w':=by
 obtain⟨m,qs,a0,c0,h0,_,h1,rfl,hs,hd⟩:=h.row
 refine (rlen_16 h0 h1).mono ?_
 rintro e w' ⟨rfl,rfl⟩
 exact⟨by rw [List.length_map],Below.refl _ _⟩
end Go.Proofs.YtlnecfjnffdciabGreat

namespace Go.Proofs.YtlnecfjnffdciabGreat
open Go.RowKit Go.Shelf
def keyO (o:Option PT):VT:=match o with|some x=>x.1|none=>zeroT
def errO (o:Option PT) (E:Int):Int:=match o with|some _=>0|none=>E
def MbPost (o:Option PT) (E:Int) (w:World) (e:Ending) (w':World):Prop:=Tells 16 (keyO o,errO o E) w e w'
theorem FiPost.mb {o:Option PT} {E:Int} {w:World} {e:Ending} {w':World} (h:FiPost o E w e w'):MbPost o E w e w':=by
 obtain⟨hb,⟨rfl,rfl⟩|⟨x,a,c,rfl,rfl,hl⟩⟩:=h
 ·exact tells_zero _ _ hb
 ·exact⟨_,rfl,LiesB.lies _ _ _ hl,hb⟩
theorem itemAt_natL (l:List PT) (j:Nat):zam l (j:Int)=l[j]?:=by
 unfold zam
 rw [if_pos (by omega)]
 rfl
theorem itemAt_row {qs:List PP} {j:Nat} (hj:j<qs.length):zam (qs.map trT) (j:Int)=some (trT qs[j]):=by
 rw [itemAt_natL,List.getElem?_map,List.getElem?_eq_getElem hj]
 rfl
theorem itemAt_out {qs:List PP} {i:Int} (hi:i<0∨(qs.length:Int)≤i):zam (qs.map trT) i=none:=by
 unfold zam
 split
 ·rw [List.getElem?_eq_none (by rw [List.length_map];omega)]
 ·rfl
set_option maxRecDepth 100000 in
set_option maxHeartbeats 8000000 in
theorem rfirst_16 {w:World} {q:Nat} {l:List PT} {c:Nat} (h:DS w q l c):Calls Tryz.prog 16 #[.pointer (some ⟨c,0,none⟩)] w (MbPost (zam l 0) 6 w):=by
 obtain⟨m,qs,a0,c0,h0,_,h1,rfl,hs,hd⟩:=h.row
 have HLn:Hid (∀V,Below w.heap.size w V→Calls Tryz.prog 75 #[.pointer (some ⟨c,0,none⟩)] V fun e w'=>e=.returned (.int .i64 (qs.length:Nat))∧Below V.heap.size V w'):=fun V hV=>by
  have h9:=(h.keeps hV).len
  rwa [List.length_map] at h9
 obtain⟨W0,hW0⟩:∃W0,W0=w.alloc (.cells #[.int .i64 0,.int .i64 0,.string ⟨#[]⟩,.slice none 0 0] 33):=⟨_,rfl⟩
 have HW0:Hid (W0=w.alloc (.cells #[.int .i64 0,.int .i64 0,.string ⟨#[]⟩,.slice none 0 0] 33)):=hW0
 have hb0:Below w.heap.size w W0:=by rw [hW0];exact ((Grew.refl w).alloc _).below
 have HK0:Hid (Bx W0 w.heap.size zeroT (.slice none 0 0)):=by rw [hW0];exact zan w zeroT _
 obtain⟨N,hN⟩:∃N,N=qs.length:=⟨_,rfl⟩
 have HN:Hid (N=qs.length):=hN
 have HSz:Hid (N≤65536):=by have:=hd.size;rw [List.length_map] at this;show _≤_;omega
 rw [←hN] at h1 hs HLn
 have HS:Hid (SlQ 0 16 w qs (.slice a0 N c0)):=hs
 clear h hs hd hN hW0
 have hb00:=hb0
 by_cases hz:N=0
 ·have HLc:Hid (Calls Tryz.prog 75 #[.pointer (some ⟨c,0,none⟩)] W0 fun e w'=>e=.returned (.int .i64 0)∧Below W0.heap.size W0 w'):=by
   have h9:=HLn.out W0 hb0
   rw [hz] at h9
   exact h9
  have HZ:Hid (N=0):=hz
  clear hz
  go_enter Tryz.func16,Tryz.ntmps16
  go_upto_region 1 with fail
  rw [←HW0.out]
  clear HW0
  go_wp2_with fail
  refine Calls.mono HLc.out ?_
  rintro e w1 ⟨rfl,hg1⟩
  have hb1:Below w.heap.size w w1:=hb0.trans (hg1.mono hb0.size)
  have HK1:Hid (Bx w1 w.heap.size zeroT (.slice none 0 0)):=HK0.out.keeps hg1
  clear hg1 HLc HK0 hb0 hb00
  obtain⟨y0,y1,y2,y3,z0,z1,z2,z3⟩:=HK1.out
  have Hbx:Hid (Bx (w1.setCells w.heap.size 0 (encP (zeroT,.slice none 0 0))) w.heap.size zeroT (.slice none 0 0)):=HK1.out.put (zeroT,.slice none 0 0)
  have Hbl:Hid (Below w.heap.size w (w1.setCells w.heap.size 0 (encP (zeroT,.slice none 0 0)))):=zap hb1 (Nat.le_refl _) (zeroT,.slice none 0 0)
  have HT:Hid (MbPost (zam (qs.map trT) 0) 6 w (.returned (.tuple #[.agg #[.int .i64 0,.int .i64 0,.string ⟨#[]⟩,.slice none 0 0],.int .i64 6])) (w1.setCells w.heap.size 0 (encP (zeroT,.slice none 0 0)))):=by
   have hO:zam (qs.map trT) 0=none:=itemAt_out (.inr (by have:=HN.out;have:=HZ.out;omega))
   rw [hO]
   exact tells_zero _ _ Hbl.out
  clear HLn HS HN h0 h1 hb1
  go_wp2_with fail
  refine bodyPost_ret (v:=.tuple #[.agg #[.int .i64 0,.int .i64 0,.string ⟨#[]⟩,.slice none 0 0],.int .i64 6]) ?_ rfl HT.out
  obtain⟨q0,q1,q2,q3,_,_,_,_⟩:=Hbx.out
  simp only [encP,World.setCells,Nat.zero_add,Nat.reduceAdd] at q0 q1 q2 q3
  simp [results,Tryz.results16,go_sem,q0,q1,q2,q3]
 ·have hne : ¬((N:Int)=0):=by omega
  have hpos:(0:Int)<(N:Int):=by omega
  have hjq:0<qs.length:=by have:=HN.out;omega
  obtain⟨a1,c1,a2,c2,b,o,rfl,hl1,hl2,p0,p1,p2,p3,_,_,_,_⟩:=row_pair14 HS.out (j:=0) hjq
  obtain⟨x,hx⟩:∃x,x=trT qs[0]:=⟨_,rfl⟩
  rw [←hx] at hl1 p0 p1 p2 p3
  have hOx:zam (qs.map trT) 0=some x:=by rw [hx];exact itemAt_row (j:=0) hjq
  clear hx hl2
  simp only [Nat.zero_mul,Nat.add_zero] at p0 p1 p2 p3
  clear hz
  have HLc:=show Hid _ from HLn.out W0 hb0
  go_enter Tryz.func16,Tryz.ntmps16
  go_upto_region 1 with fail
  rw [←HW0.out]
  clear HW0
  go_wp2_with fail
  refine Calls.mono HLc.out ?_
  rintro e w1 ⟨rfl,hg1⟩
  have hb1:Below w.heap.size w w1:=hb0.trans (hg1.mono hb0.size)
  have HK1:Hid (Bx w1 w.heap.size zeroT (.slice none 0 0)):=HK0.out.keeps hg1
  clear hg1 HLc HK0 hb0 hb00
  obtain⟨y0,y1,y2,y3,z0,z1,z2,z3⟩:=HK1.out
  have p0:=zaa hb1 p0;have p1:=zaa hb1 p1;have p2:=zaa hb1 p2;have p3:=zaa hb1 p3
  have k0:=zaa hb1 h0;have k1:=zaa hb1 h1
  have HL:Hid (Lies 16 w1 x.1.items (.slice a1 x.1.items.length c1)):=Lies.keeps hb1 _ _ _ hl1
  have Hbx:Hid (Bx (w1.setCells w.heap.size 0 (encP (x.1,.slice a1 x.1.items.length c1))) w.heap.size x.1 (.slice a1 x.1.items.length c1)):=HK1.out.put (x.1,.slice a1 x.1.items.length c1)
  have Hbl:Hid (Below w.heap.size w (w1.setCells w.heap.size 0 (encP (x.1,.slice a1 x.1.items.length c1)))):=zap hb1 (Nat.le_refl _) (x.1,.slice a1 x.1.items.length c1)
  have Hfin:Hid (Lies 16 (w1.setCells w.heap.size 0 (encP (x.1,.slice a1 x.1.items.length c1))) x.1.items (.slice a1 x.1.items.length c1)):=by
   have h9:=((LiesX.of_lies hl1).keeps hb1).mono (Y:=fun b=>b≠w.heap.size) (fun b (h:b<w.heap.size)=>by omega)
   exact (LiesX.set (g:=w.heap.size) (fun h=>h rfl) h9).lies
  have HT:Hid (MbPost (zam (qs.map trT) 0) 6 w (.returned (.tuple #[.agg #[.int .i64 x.1.kind,.int .i64 x.1.num,.string x.1.text,.slice a1 x.1.items.length c1],.int .i64 0])) (w1.setCells w.heap.size 0 (encP (x.1,.slice a1 x.1.items.length c1)))):=by
   have hO:zam (qs.map trT) 0=some x:=hOx
   rw [hO]
   exact⟨_,rfl,Hfin.out,Hbl.out⟩
  clear HLn HS HN h0 h1 hb1 hl1 HL hOx
  go_wp2_with fail
  refine bodyPost_ret (v:=.tuple #[.agg #[.int .i64 x.1.kind,.int .i64 x.1.num,.string x.1.text,.slice a1 x.1.items.length c1],.int .i64 0]) ?_ rfl HT.out
  obtain⟨q0,q1,q2,q3,_,_,_,_⟩:=Hbx.out
  simp only [encP,World.setCells,Nat.zero_add,Nat.reduceAdd] at q0 q1 q2 q3
  simp [results,Tryz.results16,go_sem,q0,q1,q2,q3]
set_option maxRecDepth 100000 in
set_option maxHeartbeats 8000000 in
theorem rlast_16 {w:World} {q:Nat} {l:List PT} {c:Nat} (h:DS w q l c):Calls Tryz.prog 18 #[.pointer (some ⟨c,0,none⟩)] w (MbPost (zam l (((l.length:Nat):Int)-1)) 6 w):=by
 obtain⟨m,qs,a0,c0,h0,_,h1,rfl,hs,hd⟩:=h.row
 have HLn:Hid (∀V,Below w.heap.size w V→Calls Tryz.prog 75 #[.pointer (some ⟨c,0,none⟩)] V fun e w'=>e=.returned (.int .i64 (qs.length:Nat))∧Below V.heap.size V w'):=fun V hV=>by
  have h9:=(h.keeps hV).len
  rwa [List.length_map] at h9
 obtain⟨W0,hW0⟩:∃W0,W0=w.alloc (.cells #[.int .i64 0,.int .i64 0,.string ⟨#[]⟩,.slice none 0 0] 33):=⟨_,rfl⟩
 have HW0:Hid (W0=w.alloc (.cells #[.int .i64 0,.int .i64 0,.string ⟨#[]⟩,.slice none 0 0] 33)):=hW0
 have hb0:Below w.heap.size w W0:=by rw [hW0];exact ((Grew.refl w).alloc _).below
 have HK0:Hid (Bx W0 w.heap.size zeroT (.slice none 0 0)):=by rw [hW0];exact zan w zeroT _
 obtain⟨N,hN⟩:∃N,N=qs.length:=⟨_,rfl⟩
 have HN:Hid (N=qs.length):=hN
 have HSz:Hid (N≤65536):=by have:=hd.size;rw [List.length_map] at this;show _≤_;omega
 rw [←hN] at h1 hs HLn
 have HS:Hid (SlQ 0 16 w qs (.slice a0 N c0)):=hs
 clear h hs hd hN hW0
 have hb00:=hb0
 by_cases hz:N=0
 ·have HLc:Hid (Calls Tryz.prog 75 #[.pointer (some ⟨c,0,none⟩)] W0 fun e w'=>e=.returned (.int .i64 0)∧Below W0.heap.size W0 w'):=by
   have h9:=HLn.out W0 hb0
   rw [hz] at h9
   exact h9
  have HZ:Hid (N=0):=hz
  clear hz
  go_enter Tryz.func18,Tryz.ntmps18
  go_upto_region 1 with fail
  rw [←HW0.out]
  clear HW0
  go_wp2_with fail
  refine Calls.mono HLc.out ?_
  rintro e w1 ⟨rfl,hg1⟩
  have hb1:Below w.heap.size w w1:=hb0.trans (hg1.mono hb0.size)
  have HK1:Hid (Bx w1 w.heap.size zeroT (.slice none 0 0)):=HK0.out.keeps hg1
  clear hg1 HLc HK0 hb0 hb00
  obtain⟨y0,y1,y2,y3,z0,z1,z2,z3⟩:=HK1.out
  have Hbx:Hid (Bx (w1.setCells w.heap.size 0 (encP (zeroT,.slice none 0 0))) w.heap.size zeroT (.slice none 0 0)):=HK1.out.put (zeroT,.slice none 0 0)
  have Hbl:Hid (Below w.heap.size w (w1.setCells w.heap.size 0 (encP (zeroT,.slice none 0 0)))):=zap hb1 (Nat.le_refl _) (zeroT,.slice none 0 0)
  have HT:Hid (MbPost (zam (qs.map trT) ((((qs.map trT).length:Nat):Int)-1)) 6 w (.returned (.tuple #[.agg #[.int .i64 0,.int .i64 0,.string ⟨#[]⟩,.slice none 0 0],.int .i64 6])) (w1.setCells w.heap.size 0 (encP (zeroT,.slice none 0 0)))):=by
   have hO:zam (qs.map trT) ((((qs.map trT).length:Nat):Int)-1)=none:=itemAt_out (.inl (by rw [List.length_map];have:=HN.out;have:=HZ.out;omega))
   rw [hO]
   exact tells_zero _ _ Hbl.out
  clear HLn HS HN h0 h1 hb1
  go_wp2_with fail
  refine bodyPost_ret (v:=.tuple #[.agg #[.int .i64 0,.int .i64 0,.string ⟨#[]⟩,.slice none 0 0],.int .i64 6]) ?_ rfl HT.out
  obtain⟨q0,q1,q2,q3,_,_,_,_⟩:=Hbx.out
  simp only [encP,World.setCells,Nat.zero_add,Nat.reduceAdd] at q0 q1 q2 q3
  simp [results,Tryz.results18,go_sem,q0,q1,q2,q3]
 ·have hne : ¬((N:Int)=0):=by omega
  have hpos:(0:Int)<(N:Int):=by omega
  obtain⟨J1,hJ1⟩:∃J1,N=J1+1:=⟨N-1,by omega⟩
  have hjq:J1<qs.length:=by have:=HN.out;omega
  obtain⟨a1,c1,a2,c2,b,o,rfl,hl1,hl2,p0,p1,p2,p3,_,_,_,_⟩:=row_pair14 HS.out (j:=J1) hjq
  obtain⟨x,hx⟩:∃x,x=trT qs[J1]:=⟨_,rfl⟩
  rw [←hx] at hl1 p0 p1 p2 p3
  have hOx:zam (qs.map trT) ((((qs.map trT).length:Nat):Int)-1)=some x:=by rw [hx,show (((qs.map trT).length:Nat):Int)-1=((J1:Nat):Int) by rw [List.length_map];have:=HN.out;omega];exact itemAt_row _
  clear hx hl2
  have hwr:IntKind.i64.wrap ((N:Int)-1)=(J1:Int):=by rw [IntKind.wrap_i64];have:=HSz.out;omega
  have hjN:(J1:Int)<(N:Int):=by omega
  have hj0:(0:Int)≤(J1:Int):=by omega
  clear hz
  have HLc:=show Hid _ from HLn.out W0 hb0
  clear hJ1
  go_enter Tryz.func18,Tryz.ntmps18
  go_upto_region 1 with fail
  rw [←HW0.out]
  clear HW0
  go_wp2_with fail
  refine Calls.mono HLc.out ?_
  rintro e w1 ⟨rfl,hg1⟩
  have hb1:Below w.heap.size w w1:=hb0.trans (hg1.mono hb0.size)
  have HK1:Hid (Bx w1 w.heap.size zeroT (.slice none 0 0)):=HK0.out.keeps hg1
  have n1:=zac h0;have n2:=zac h1;have n3:=zac p0
  simp only at n1 n2 n3
  have HKp:Hid (∀(v0 v1 v2 v3:Value) (V:World),(fun w'=>w'.cell? ⟨c,0,none⟩=some (.pointer (some ⟨m,0,none⟩))∧w'.cell? ⟨m,1,none⟩=some (.slice (some ⟨b,o,none⟩) N c0)∧w'.cell? ⟨b,o+J1*8,none⟩=some (.int .i64 x.1.kind)∧w'.cell? ⟨b,o+J1*8+1,none⟩=some (.int .i64 x.1.num)∧w'.cell? ⟨b,o+J1*8+2,none⟩=some (.string x.1.text)∧w'.cell? ⟨b,o+J1*8+3,none⟩=some (.slice a1 x.1.items.length c1)) V→(fun w'=>w'.cell? ⟨c,0,none⟩=some (.pointer (some ⟨m,0,none⟩))∧w'.cell? ⟨m,1,none⟩=some (.slice (some ⟨b,o,none⟩) N c0)∧w'.cell? ⟨b,o+J1*8,none⟩=some (.int .i64 x.1.kind)∧w'.cell? ⟨b,o+J1*8+1,none⟩=some (.int .i64 x.1.num)∧w'.cell? ⟨b,o+J1*8+2,none⟩=some (.string x.1.text)∧w'.cell? ⟨b,o+J1*8+3,none⟩=some (.slice a1 x.1.items.length c1)) ((((V.setCell ⟨w.heap.size,0,none⟩ v0).setCell ⟨w.heap.size,1,none⟩ v1).setCell ⟨w.heap.size,2,none⟩ v2).setCell ⟨w.heap.size,3,none⟩ v3)):=fun v0 v1 v2 v3 V h=>⟨set4_keep16 (by simp only;omega) h.1,set4_keep16 (by simp only;omega) h.2.1,set4_keep16 (by simp only;omega) h.2.2.1,set4_keep16 (by simp only;omega) h.2.2.2.1,set4_keep16 (by simp only;omega) h.2.2.2.2.1,set4_keep16 (by simp only;omega) h.2.2.2.2.2⟩
  have H01:Hid (w.cell? ⟨c,0,none⟩=some (.pointer (some ⟨m,0,none⟩))∧Lies 16 w x.1.items (.slice a1 x.1.items.length c1)∧zam (qs.map trT) ((((qs.map trT).length:Nat):Int)-1)=some x):=⟨h0,hl1,hOx⟩
  have h0:=zaa hb1 h0;have h1:=zaa hb1 h1;have p0:=zaa hb1 p0;have p1:=zaa hb1 p1;have p2:=zaa hb1 p2;have p3:=zaa hb1 p3
  clear hg1 HLc HK0 hb0 hb00 hl1 hOx HS HN
  go_wp2_with fail
  go_region_held3 (fun w'=>w'.cell? ⟨c,0,none⟩=some (.pointer (some ⟨m,0,none⟩))∧w'.cell? ⟨m,1,none⟩=some (.slice (some ⟨b,o,none⟩) N c0)∧w'.cell? ⟨b,o+J1*8,none⟩=some (.int .i64 x.1.kind)∧w'.cell? ⟨b,o+J1*8+1,none⟩=some (.int .i64 x.1.num)∧w'.cell? ⟨b,o+J1*8+2,none⟩=some (.string x.1.text)∧w'.cell? ⟨b,o+J1*8+3,none⟩=some (.slice a1 x.1.items.length c1)) (first|go_keep|(exact HKp.out _ _ _ _ _ (by assumption)))
   (first|(go_at_call 75;(with_reducible refine Calls.mono (HLn.out _ hb1.drew) ?_);rintro e w2 ⟨rfl,hg2'⟩;have hg2:Below w1.heap.size w1 w2:=(Below.refl _ _).drew.trans hg2';have h0:=zaa hg2 h0;have h1:=zaa hg2 h1;have p0:=zaa hg2 p0;have p1:=zaa hg2 p1;have p2:=zaa hg2 p2;have p3:=zaa hg2 p3;have hb2:Below w.heap.size w w2:=hb1.trans (hg2.mono hb1.size);have HK2:Hid (Bx w2 w.heap.size zeroT (.slice none 0 0)):=HK1.out.keeps hg2;obtain⟨y0,y1,y2,y3,z0,z1,z2,z3⟩:=HK2.out;have Hbx:Hid _:=HK2.out.put (x.1,.slice a1 x.1.items.length c1);have HT:Hid (MbPost (zam (qs.map trT) ((((qs.map trT).length:Nat):Int)-1)) 6 w (.returned (.tuple #[.agg #[.int .i64 x.1.kind,.int .i64 x.1.num,.string x.1.text,.slice a1 x.1.items.length c1],.int .i64 0])) (w2.setCells w.heap.size 0 (encP (x.1,.slice a1 x.1.items.length c1)))):=(by rw [H01.out.2.2];exact⟨_,rfl,(LiesX.set (g:=w.heap.size) (fun h=>h rfl) (((LiesX.of_lies H01.out.2.1).keeps hb2).mono (Y:=fun b=>b≠w.heap.size) (fun b (h:b<w.heap.size)=>by omega))).lies,zap hb2 (Nat.le_refl _) (x.1,.slice a1 x.1.items.length c1)⟩);clear hg2' hg2))
  all_goals (first|go_wp2_with fail|skip)
  all_goals (refine bodyPost_ret (v:=.tuple #[.agg #[.int .i64 x.1.kind,.int .i64 x.1.num,.string x.1.text,.slice a1 x.1.items.length c1],.int .i64 0]) ?_ rfl HT.out;obtain⟨q0,q1,q2,q3,_,_,_,_⟩:=Hbx.out;simp only [encP,World.setCells,Nat.zero_add,Nat.reduceAdd] at q0 q1 q2 q3;simp [results,Tryz.results18,go_sem,q0,q1,q2,q3])
end Go.Proofs.YtlnecfjnffdciabGreat

namespace Go.Proofs.YtlnecfjnffdciabGreat
open Go.RowKit Go.Shelf
set_option maxRecDepth 100000 in
set_option maxHeartbeats 4000000 in
theorem sheightC_16 {w:World} {H b s:Nat} (hb:w.cell? ⟨s,0,none⟩=some (.pointer (some ⟨b,0,none⟩))) (hc:Calls Tryz.prog 120 #[.pointer (some ⟨b,0,none⟩)] w fun e w'=>e=.returned (.int .i64 (H:Nat))∧Below w.heap.size w w'):Calls Tryz.prog 68 #[.pointer (some ⟨s,0,none⟩)] w fun e w'=>e=.returned (.int .i64 (H:Nat))∧Below w.heap.size w w':=by
 have HL:Hid _:=hc
 clear hc
 go_enter Tryz.func68,Tryz.ntmps68
 go_wp2_with fail
 refine (sown_16 _ _).mono ?_
 rintro e w1 ⟨rfl,hw⟩
 obtain rfl:w=w1:=hw.symm
 go_wp2_with fail
 refine Calls.mono HL.out ?_
 rintro e w2 ⟨rfl,hg⟩
 go_wp2_with fail
 go_ret
 exact⟨rfl,hg⟩
theorem sheightF_16 {w:World} {q:Nat} {l:List PT} {s:Nat} (h:SC w q l s):∃H:Nat,(∀j,l.length<2^j→H≤2*j)∧∀V,Below w.heap.size w V→Calls Tryz.prog 68 #[.pointer (some ⟨s,0,none⟩)] V fun e w'=>e=.returned (.int .i64 (H:Nat))∧Below V.heap.size V w':=by
 obtain⟨b,t,hb,hm,hi,_⟩:=h
 exact⟨t.high,fun j hj=>flat_high hm.well hm.black (by rw [RT.size_items,hi];exact hj),fun V hV=>sheightC_16 (zaa hV hb) (mheight_14 (hm.keeps hV))⟩
set_option maxRecDepth 100000 in
set_option maxHeartbeats 16000000 in
theorem same_16 {w:World} {q:Nat} {l:List PT} {s c:Nat} (h:SC w q l s) (hd:DS w q l c):Calls Tryz.prog 12 #[.pointer (some ⟨s,0,none⟩),.pointer (some ⟨c,0,none⟩)] w fun e w'=>e=.returned (.bool true)∧Below w.heap.size w w':=by
 obtain⟨m,qs,a9,c9,k0,k1,_,hqt,_,hdm⟩:=hd.row
 have hz:l.length≤65536:=hdm.size
 obtain⟨N,hN⟩:∃N,N=l.length:=⟨_,rfl⟩
 have HIt:Hid (Calls Tryz.prog 64 #[.pointer (some ⟨c,0,none⟩)] w (ItPost w.heap.size (l.map (·.1)) w)):=ritems_16 hd
 have HO:Hid (∀V,Below w.heap.size w V→Calls Tryz.prog 65 #[.pointer (some ⟨s,0,none⟩)] V fun e w'=>e=.returned (.int .i64 (q:Int))∧w'=V):=fun V hV=>sorder_16 (h.keeps hV)
 have HL:Hid (∀V,Below w.heap.size w V→Calls Tryz.prog 66 #[.pointer (some ⟨s,0,none⟩)] V fun e w'=>e=.returned (.int .i64 (N:Int))∧Below V.heap.size V w'):=fun V hV=>by
  have:=slen_16 (h.keeps hV)
  rwa [←hN] at this
 have HI:Hid (∀V,Below w.heap.size w V→Calls Tryz.prog 46 #[.pointer (some ⟨s,0,none⟩)] V (ItPost V.heap.size (l.map (·.1)) V)):=fun V hV=>sitems_16 (h.keeps hV)
 have HG:Hid (∀V,Below w.heap.size w V→Calls Tryz.prog 67 #[.pointer (some ⟨s,0,none⟩),.int .i64 ((N:Int)+1)] V (ItPost V.heap.size (l.map (·.1)) V)):=fun V hV=>by
  have:=sgoneM_16 (h.keeps hV) (N+1) (by omega) (by omega)
  rw [List.take_of_length_le (by rw [List.length_map];omega)] at this
  rwa [show ((N+1:Nat):Int)=(N:Int)+1 by omega] at this
 obtain⟨H,hH,hHc⟩:=sheightF_16 h
 have HH:Hid (∀V,Below w.heap.size w V→Calls Tryz.prog 68 #[.pointer (some ⟨s,0,none⟩)] V fun e w'=>e=.returned (.int .i64 (H:Nat))∧Below V.heap.size V w'):=hHc
 have HHj:Hid (∀j,N<2^j→H≤2*j):=by rw [hN];exact hH
 have HM:Hid (∀V,Calls Tryz.prog 69 #[.int .i64 (N:Nat)] V (MostPost N V)):=fun V=>most_any N V (by omega)
 have HS:Hid (∀V ps u ps2 u2,ps.map (·.1)=l.map (·.1)→ps2.map (·.1)=l.map (·.1)→SlP 0 16 V ps u→SlP 0 16 V ps2 u2→Calls Tryz.prog 47 #[u,u2] V fun e w'=>e=.returned (.bool true)∧Below V.heap.size V w'):=fun V ps u ps2 u2 h1 h2 h3 h4=>by
  have k3:=h3.lies
  have k4:=h4.lies
  rw [h1] at k3
  rw [h2] at k4
  exact values_same 16 (l.map (·.1)) u u2 V k3 k4 (by rw [List.length_map];exact hz)
 have hwr:IntKind.i64.wrap ((N:Int)+1)=(N:Int)+1:=by rw [IntKind.wrap_i64];omega
 have HN:Hid (N=(l.map (·.1)).length):=by rw [List.length_map];exact hN
 clear h hd hqt hdm hz hN hH hHc
 generalize l.map (·.1)=ks at *
 go_enter Tryz.func12,Tryz.ntmps12
 go_wp2_with fail
 refine Calls.mono HIt.out ?_
 rintro e w1 ⟨hbc,ps0,v0,rfl,hm0,hs0⟩
 have hp0:ps0.length=N:=by have:=congrArg List.length hm0;rw [List.length_map] at this;rw [this,HN.out]
 obtain⟨a0,c0,rfl,_⟩:=hs0.slice
 rw [hp0] at hs0 ⊢
 have HSs:Hid (∀V ps u,Below w1.heap.size w1 V→ps.map (·.1)=ks→SlP 0 16 V ps u→Calls Tryz.prog 47 #[u,.slice a0 N c0] V fun e w'=>e=.returned (.bool true)∧Below V.heap.size V w'):=fun V ps u hV h1 h2=>HS.out V ps u ps0 _ h1 hm0 h2 ((hs0.mono (Nat.zero_le _)).keeps hV)
 have k0:=zaa hbc k0
 have k1:=zaa hbc k1
 have hbx:Below w1.heap.size w1 w1:=Below.refl _ _
 have HB1:Hid (Below w.heap.size w w1):=hbc
 clear hm0 hs0 hp0 HIt HS hbc
 go_wp2_with fail
 go_region_held3 (fun w'=>w'.cell? ⟨c,0,none⟩=some (.pointer (some ⟨m,0,none⟩))∧w'.cell? ⟨m,0,none⟩=some (.int .i64 (q:Int))) (go_keep)
  (first
   | (go_at_call 65;(with_reducible refine Calls.mono (HO.out _ (HB1.out.trans ((hbx.trans ((Below.refl _ _).drew.mono hbx.size)).mono HB1.out.size))) ?_);rintro e w3 ⟨rfl,hw⟩;subst hw)
   | (go_at_call 66;(with_reducible refine Calls.mono (HL.out _ (HB1.out.trans ((hbx.trans ((Below.refl _ _).drew.mono hbx.size)).mono HB1.out.size))) ?_);rintro e w4 ⟨rfl,hg⟩;replace hbx:=hbx.trans ((Below.drew (Below.refl _ _)).trans (hg.mono hbx.size));have k0:=zaa hg k0;have k1:=zaa hg k1;clear hg)
   | (go_at_call 46;(with_reducible refine Calls.mono (HI.out _ (HB1.out.trans (hbx.mono HB1.out.size))) ?_);rintro e w5 ⟨hg,ps5,u5,rfl,hq5,hs5⟩;obtain⟨a5,c5,rfl,_⟩:=hs5.slice;replace hbx:=hbx.trans (hg.mono hbx.size);have HS5:Hid _:=HSs.out _ ps5 _ hbx hq5 (hs5.mono (Nat.zero_le _));clear hs5 hq5;have k0:=zaa hg k0;have k1:=zaa hg k1;clear hg)
   | (go_at_call 47;refine Calls.mono HS7.out ?_;rintro e w8 ⟨rfl,hg⟩;replace hbx:=hbx.trans (hg.mono hbx.size);have k0:=zaa hg k0;have k1:=zaa hg k1;clear hg)
   | (go_at_call 47;refine Calls.mono HS5.out ?_;rintro e w6 ⟨rfl,hg⟩;replace hbx:=hbx.trans (hg.mono hbx.size);have k0:=zaa hg k0;have k1:=zaa hg k1;clear hg)
   | (go_at_call 67;(with_reducible refine Calls.mono (HG.out _ (HB1.out.trans (hbx.mono HB1.out.size))) ?_);rintro e w7 ⟨hg,ps7,u7,rfl,hq7,hs7⟩;obtain⟨a7,c7,rfl,_⟩:=hs7.slice;replace hbx:=hbx.trans (hg.mono hbx.size);have HS7:Hid _:=HSs.out _ ps7 _ hbx hq7 (hs7.mono (Nat.zero_le _));clear hs7 hq7;have k0:=zaa hg k0;have k1:=zaa hg k1;clear hg)
   | (go_at_call 68;(with_reducible refine Calls.mono (HH.out _ (HB1.out.trans (hbx.mono HB1.out.size))) ?_);rintro e w9 ⟨rfl,hg⟩;replace hbx:=hbx.trans (hg.mono hbx.size);have k0:=zaa hg k0;have k1:=zaa hg k1;clear hg)
   | (go_at_call 69;refine Calls.mono (HM.out _) ?_;rintro e wm ⟨⟨j,rfl,_,hj⟩,hw⟩;subst hw;have hle0:(H:Int)≤((2*j:Nat):Int):=(by have:=HHj.out j hj;omega);clear hj;obtain⟨J,hJ⟩:∃J,J=2*j:=⟨_,rfl⟩;rw [←hJ] at hle0 ⊢;clear hJ))
 all_goals (first|(go_ret;exact⟨rfl,HB1.out.trans (hbx.mono HB1.out.size)⟩)|(go_wp2_with fail;go_ret;exact⟨rfl,HB1.out.trans (hbx.mono HB1.out.size)⟩))
end Go.Proofs.YtlnecfjnffdciabGreat

namespace Go.Proofs.YtlnecfjnffdciabGreat
open Go.RowKit Go.Shelf
abbrev nw16 (n:Int):VT:=⟨2,n,⟨#[]⟩,[]⟩
theorem three_16 (x y z:Int) (b cap:Nat) (w:World) (h0:w.cell? ⟨b,0,none⟩=some (.int .i64 x)) (h1:w.cell? ⟨b,1,none⟩=some (.int .i64 y)) (h2:w.cell? ⟨b,2,none⟩=some (.int .i64 z)) :
 Calls Tryz.prog 62 #[.slice (some ⟨b,0,none⟩) 3 cap] w fun e w'=>∃a c,e=.returned (.slice a 3 c)∧Lies 17 w' [nw16 x,nw16 y,nw16 z] (.slice a 3 c)∧Below w.heap.size w w':=by
 refine (ints_any b [x,y,z] cap w (by simp) (fun i hi=>?_)).mono ?_
 ·match i,hi with
  | 0,_=>exact h0
  | 1,_=>exact h1
  | 2,_=>exact h2
 rintro e w' ⟨v,rfl,hown,hb⟩
 have hown2:w'.ownsRow w.heap.size 33 4 v 3 ([(nw16 x,Value.slice none 0 0),(nw16 y,Value.slice none 0 0),(nw16 z,Value.slice none 0 0)].flatMap encP):=hown
 have hl:=own_liesX (X:=fun _=>True) (d:=16) hown2 rfl (fun _ _=>trivial) (fun p hp=>by
  simp only [List.mem_cons,List.not_mem_nil,or_false] at hp
  rcases hp with rfl|rfl|rfl <;> exact⟨⟨none,0,rfl,by simp,fun h=>absurd rfl h⟩,(show (0:Nat)≤9223372036854775807 by decide)⟩) (by simp)
 obtain⟨a,c,rfl,_⟩:=LiesX.slice hl
 exact⟨a,c,rfl,hl.lies,hb⟩
def three16:List PT:=[nilP (nw16 0),nilP (nw16 1),nilP (nw16 (-2))]
theorem three_set:setL (5:Int).toNat [nw16 (-2),nw16 1,nw16 0]=three16:=by kernel_rfl
theorem three_look:lookE 16 5 [nw16 (-2),nw16 1,nw16 0]=0:=by kernel_rfl
theorem three_rank:rankN 16 5 (nw16 (-1)) three16=1:=by kernel_rfl
theorem three_right:errOf (zab 16 (nw16 (-1)))=0:=by kernel_rfl
set_option maxRecDepth 100000 in
set_option maxHeartbeats 8000000 in
theorem speaks16_any (w:World):Calls Tryz.prog 11 #[] w fun e w'=>e=.returned (.bool true)∧Below w.heap.size w w':=by
 have HI:Hid (∀n W,Calls Tryz.prog 63 #[.int .i64 n] W fun e w'=>e=.returned (.agg #[.int .i64 2,.int .i64 n,.string ⟨#[]⟩,.slice none 0 0])∧Below W.heap.size W w'):=fun n W=>Calls.mono (int_any n W) fun _ _ h=>⟨h.1,h.2.below⟩
 obtain⟨W1,hW1⟩:∃W1,W1=w.alloc (.cells #[.int .i64 (-2),.int .i64 1,.int .i64 0] 2):=⟨_,rfl⟩
 have HW1:Hid (W1=w.alloc (.cells #[.int .i64 (-2),.int .i64 1,.int .i64 0] 2)):=hW1
 have HB1:Hid (Below w.heap.size w W1):=by rw [hW1];exact ((Grew.refl w).alloc _).below
 have HC:Hid (Calls Tryz.prog 62 #[.slice (some ⟨w.heap.size,0,none⟩) 3 3] W1 fun e w'=>∃a c,e=.returned (.slice a 3 c)∧Lies 17 w' [nw16 (-2),nw16 1,nw16 0] (.slice a 3 c)∧Below W1.heap.size W1 w'):=three_16 _ _ _ _ _ _ (by rw [hW1];simp) (by rw [hW1];simp) (by rw [hW1];simp)
 clear hW1
 go_enter Tryz.func11,Tryz.ntmps11
 go_wp2_with fail
 rw [←HW1.out]
 clear HW1
 refine Calls.mono HC.out ?_
 rintro e w2 ⟨a2,c2,rfl,hl2,hg2⟩
 have hb2:Below w.heap.size w w2:=HB1.out.trans (hg2.mono HB1.out.size)
 have HOf:Hid (Calls Tryz.prog 9 #[.int .i64 5,.slice a2 3 c2] w2 (SpPost 5 three16 0 w2)):=by
  have h9:=sof_list16 16 5 _ _ w2 hl2
  rw [three_set,three_look] at h9
  exact h9
 clear HC HB1 hl2 hg2
 go_wp2_with fail
 refine Calls.mono HOf.out ?_
 rintro e w3 ⟨hg3,p3,rfl,⟨h0,_⟩|⟨_,s,rfl,hs⟩⟩
 ·exact absurd rfl h0
 have hb3:Below w.heap.size w w3:=hb2.trans (hg3.mono hb2.size)
 have HR:Hid (∀V,Below w3.heap.size w3 V→Calls Tryz.prog 30 #[.pointer (some ⟨s,0,none⟩),.agg #[.int .i64 2,.int .i64 (-1),.string ⟨#[]⟩,.slice none 0 0]] V (RkPost 1 0 V)):=fun V hV=>by
  have h9:=srank_16 (hs.keeps hV) 16 (nw16 (-1)) (.slice none 0 0) (zero_lies 16 V) (show (0:Nat)≤9223372036854775807 by decide)
  rw [three_rank,three_right] at h9
  exact h9
 have HF:Hid (∀V,Below w3.heap.size w3 V→Calls Tryz.prog 15 #[.pointer (some ⟨s,0,none⟩)] V fun e w'=>∃a c,e=.returned (.tuple #[.agg #[.int .i64 2,.int .i64 0,.string ⟨#[]⟩,.slice a 0 c],.int .i64 0])∧Below V.heap.size V w'):=fun V hV=>by
  refine (sfirst_16 (hs.keeps hV)).mono ?_
  rintro e w' ⟨hb,⟨ho,_⟩|⟨x,a,c,ho,rfl,_⟩⟩
  ·exact absurd ho (by unfold zam three16;simp)
  ·have hx:x=nilP (nw16 0):=by unfold zam three16 at ho;simp at ho;exact ho.symm
   subst hx
   exact⟨a,c,rfl,hb⟩
 have HIt:Hid (∀V,Below w3.heap.size w3 V→Calls Tryz.prog 46 #[.pointer (some ⟨s,0,none⟩)] V fun e w'=>∃a c,e=.returned (.slice a 3 c)∧Lies 17 w' [nw16 0,nw16 1,nw16 (-2)] (.slice a 3 c)∧Below V.heap.size V w'):=fun V hV=>by
  refine (sitems_16 (hs.keeps hV)).mono ?_
  rintro e w' ⟨hb,ps,v,rfl,hm,hS⟩
  have hl:=hS.lies
  rw [hm] at hl
  obtain⟨a,c,rfl,_⟩:=hS.slice
  have hp:ps.length=3:=by have:=congrArg List.length hm;rw [List.length_map] at this;rw [this];rfl
  rw [hp] at hl ⊢
  exact⟨a,c,rfl,hl,hb⟩
 clear hs hg3 HOf hb2
 go_wp2_with fail
 refine Calls.mono (HI.out _ _) ?_
 rintro e w4 ⟨rfl,hg4⟩
 have hb4:Below w.heap.size w w4:=hb3.trans (hg4.mono hb3.size)
 go_wp2_with fail
 refine Calls.mono (HR.out _ hg4) ?_
 rintro e w5 ⟨rfl,hg5'⟩
 have hg5:Below w3.heap.size w3 w5:=hg4.trans (hg5'.mono hg4.size)
 have hb5:Below w.heap.size w w5:=hb4.trans (hg5'.mono hb4.size)
 clear hg5' hg4 hb4 HR
 go_wp2_with fail
 refine Calls.mono (HF.out _ hg5) ?_
 rintro e w6 ⟨a6,c6,rfl,hg6'⟩
 have hg6:Below w3.heap.size w3 w6:=hg5.trans (hg6'.mono hg5.size)
 have hb6:Below w.heap.size w w6:=hb5.trans (hg6'.mono hb5.size)
 obtain⟨W7,hW7⟩:∃W7,W7=w6.alloc (.cells #[.int .i64 2,.int .i64 0,.string ⟨#[]⟩,.slice a6 0 c6] 33):=⟨_,rfl⟩
 have HW7:Hid (W7=w6.alloc (.cells #[.int .i64 2,.int .i64 0,.string ⟨#[]⟩,.slice a6 0 c6] 33)):=hW7
 have hal:Below w6.heap.size w6 W7:=by rw [hW7];exact ((Grew.refl w6).alloc _).below
 have k7:W7.cell? ⟨w6.heap.size,1,none⟩=some (.int .i64 0):=by rw [hW7];exact (zan _ (nw16 0) _).c1
 have hg7:Below w3.heap.size w3 W7:=hg6.trans (hal.mono hg6.size)
 have hb7:Below w.heap.size w W7:=hb6.trans (hal.mono hb6.size)
 clear hg6' hg6 hb6 HF hW7 hal hg5 hb5
 go_upto_region 6 with fail
 rw [←HW7.out]
 clear HW7
 go_wp2_with fail
 refine Calls.mono (HIt.out _ hg7) ?_
 rintro e w8 ⟨a8,c8,rfl,hl8,hg8'⟩
 have hb8:Below w.heap.size w w8:=hb7.trans (hg8'.mono hb7.size)
 have HL8:Hid (Lies 17 w8 [nw16 0,nw16 1,nw16 (-2)] (.slice a8 3 c8)):=hl8
 clear hg8' hg7 hb7 HIt hl8 k7
 go_wp2_with fail
 obtain⟨W9,hW9⟩:∃W9,W9=w8.alloc (.cells #[.int .i64 0,.int .i64 1,.int .i64 (-2)] 2):=⟨_,rfl⟩
 have HB9:Hid (Below w8.heap.size w8 W9):=by rw [hW9];exact ((Grew.refl w8).alloc _).below
 have HC9:Hid (Calls Tryz.prog 62 #[.slice (some ⟨w8.heap.size,0,none⟩) 3 3] W9 fun e w'=>∃a c,e=.returned (.slice a 3 c)∧Lies 17 w' [nw16 0,nw16 1,nw16 (-2)] (.slice a 3 c)∧Below W9.heap.size W9 w'):=three_16 _ _ _ _ _ _ (by rw [hW9];simp) (by rw [hW9];simp) (by rw [hW9];simp)
 rw [←hW9]
 clear hW9
 refine Calls.mono HC9.out ?_
 rintro e w10 ⟨a10,c10,rfl,hl10,hg10⟩
 have hg:Below w8.heap.size w8 w10:=HB9.out.trans (hg10.mono HB9.out.size)
 have HV:Hid (Calls Tryz.prog 47 #[.slice a8 3 c8,.slice a10 3 c10] w10 fun e w'=>e=.returned (.bool true)∧Below w10.heap.size w10 w'):=values_same 16 _ _ _ _ (Lies.keeps hg _ _ _ HL8.out) hl10 (by simp)
 have hb10:Below w.heap.size w w10:=hb8.trans (hg.mono hb8.size)
 clear hl10 hg10 hg HC9 HB9 HL8 hb8
 go_wp2_with fail
 refine Calls.mono HV.out ?_
 rintro e w11 ⟨rfl,hg11⟩
 have hb11:Below w.heap.size w w11:=hb10.trans (hg11.mono hb10.size)
 clear HV hg11 hb10
 go_wp2_with fail
 first|(go_ret;exact⟨by simp,hb11⟩)|(go_ret;exact⟨rfl,hb11⟩)
end Go.Proofs.YtlnecfjnffdciabGreat

namespace Go.Proofs.YtlnecfjnffdciabGreat
open Go.RowKit Go.Shelf
theorem val_told16 {d:Nat} (t:VT) (u v:Value) (W:World) (h1:Lies d W t.items u) (h2:Lies d W t.items v):Calls Tryz.prog 19 #[.agg #[.int .i64 t.kind,.int .i64 t.num,.string t.text,u],.agg #[.int .i64 t.kind,.int .i64 t.num,.string t.text,v]] W fun e W'=>e=.returned (.bool true)∧Below W.heap.size W W':=(same_any d t t _ _ W h1 h2).mono fun e W' h=>⟨by rw [h.1,sameV_self],h.2.below⟩
set_option maxRecDepth 100000 in
set_option maxHeartbeats 32000000 in
theorem of16_walk (o:Int) (n:Nat) (l:List VT) (a:Option Addr) (cp:Nat) (w:World) (hl:Lies (n+1) w l (.slice a l.length cp)):Calls Tryz.prog 3 #[.int .i64 o,.slice a l.length cp] w fun e w'=>e=.returned (.bool true)∧Below w.heap.size w w':=by
 have HNm:Hid (Calls Tryz.prog 9 #[.int .i64 o,.slice a l.length cp] w (SpPost o.toNat (setL o.toNat l) (lookE n o l) w)):=sof_list16 n o l _ w hl
 have HNd:Hid (∀V,Below w.heap.size w V→Calls Tryz.prog 10 #[.int .i64 o,.slice a l.length cp] V (DsPost o.toNat (setL o.toNat l) (lookE n o l) V)):=fun V hV=>rof_16 n o l _ V (Lies.keeps hV _ _ _ hl)
 have HSp:Hid (∀V,Calls Tryz.prog 11 #[] V fun e w'=>e=.returned (.bool true)∧Below V.heap.size V w'):=speaks16_any
 obtain⟨E0,hE0⟩:∃E0,E0=lookE n o l:=⟨_,rfl⟩
 obtain⟨L,hL⟩:∃L,L=setL o.toNat l:=⟨_,rfl⟩
 obtain⟨q,hq⟩:∃q,q=o.toNat:=⟨_,rfl⟩
 rw [←hE0,←hL,←hq] at HNm HNd
 clear hl hE0 hL hq
 generalize l.length=N at *
 go_enter Tryz.func3,Tryz.ntmps3
 go_wp2_with fail
 refine Calls.mono HNm.out ?_
 rintro e w1 ⟨hb1,pm,rfl,hpm⟩
 have HNd1:=show Hid _ from HNd.out w1 hb1
 clear HNm HNd
 have Hpm:Hid _:=hpm
 clear hpm
 go_wp2_with fail
 refine Calls.mono HNd1.out ?_
 rintro e w2 ⟨hg2,pd,rfl,hpd⟩
 have hb2:Below w.heap.size w w2:=hb1.trans (hg2.mono hb1.size)
 have HSt:Hid ((E0≠0∧pm=none∧pd=none)∨(E0=0∧∃s c,pm=some ⟨s,0,none⟩∧pd=some ⟨c,0,none⟩∧SC w2 q L s∧DS w2 q L c)):=by
  rcases Hpm.out with ⟨h0,rfl⟩|⟨h0,s,rfl,hm⟩
  ·rcases hpd with ⟨_,rfl⟩|⟨h1,_⟩
   ·exact .inl ⟨h0,rfl,rfl⟩
   ·exact absurd h1 h0
  ·rcases hpd with ⟨h1,_⟩|⟨_,c,rfl,hd⟩
   ·exact absurd h0 h1
   ·exact .inr ⟨h0,s,c,rfl,rfl,hm.keeps hg2,hd⟩
 clear Hpm hpd HNd1 hg2 hb1
 rcases HSt.out with ⟨h0,rfl,rfl⟩|⟨rfl,s,c,rfl,rfl,hm,hd⟩
 ·have HSp2:=show Hid _ from HSp.out w2
  have hne:(E0 != 0)=true:=by simpa using h0
  clear HSt HSp
  go_wp2_with fail
  refine Calls.mono HSp2.out ?_
  rintro e w3 ⟨rfl,hg3⟩
  have hb3:=hb2.trans (hg3.mono hb2.size)
  clear HSp2 hg3
  go_wp2_with fail
  go_ret
  exact⟨rfl,hb3⟩
 ·have HB2:Hid (Below w.heap.size w w2):=hb2
  have HSm:Hid _:=same_16 hm hd
  obtain⟨⟨t1,n1⟩,hA1⟩:∃A:VT×Int,A=setA 16 (L.map (·.1)):=⟨_,rfl⟩
  obtain⟨⟨t2,n2⟩,hA2⟩:∃A:VT×Int,A=(keyO (zam L 0),errO (zam L 0) 6):=⟨_,rfl⟩
  obtain⟨⟨t3,n3⟩,hA3⟩:∃A:VT×Int,A=(keyO (zam L ((L.length:Int)-1)),errO (zam L ((L.length:Int)-1)) 6):=⟨_,rfl⟩
  have HC1:Hid (∀V,Below w2.heap.size w2 V→Calls Tryz.prog 13 #[.pointer (some ⟨s,0,none⟩)] V (Tells 17 (t1,n1) V)):=fun V hV=>by rw [hA1];exact svalue_16 (hm.keeps hV)
  have HC2:Hid (∀V,Below w2.heap.size w2 V→Calls Tryz.prog 14 #[.pointer (some ⟨c,0,none⟩)] V (Tells 17 (t1,n1) V)):=fun V hV=>by rw [hA1];exact rvalue_16 (hd.keeps hV)
  have HC3:Hid (∀V,Below w2.heap.size w2 V→Calls Tryz.prog 15 #[.pointer (some ⟨s,0,none⟩)] V (Tells 16 (t2,n2) V)):=fun V hV=>by rw [hA2];exact (sfirst_16 (hm.keeps hV)).mono fun _ _ h=>h.mb
  have HC4:Hid (∀V,Below w2.heap.size w2 V→Calls Tryz.prog 16 #[.pointer (some ⟨c,0,none⟩)] V (Tells 16 (t2,n2) V)):=fun V hV=>by rw [hA2];exact rfirst_16 (hd.keeps hV)
  have HC5:Hid (∀V,Below w2.heap.size w2 V→Calls Tryz.prog 17 #[.pointer (some ⟨s,0,none⟩)] V (Tells 16 (t3,n3) V)):=fun V hV=>by rw [hA3];exact (slast_16 (hm.keeps hV)).mono fun _ _ h=>h.mb
  have HC6:Hid (∀V,Below w2.heap.size w2 V→Calls Tryz.prog 18 #[.pointer (some ⟨c,0,none⟩)] V (Tells 16 (t3,n3) V)):=fun V hV=>by rw [hA3];exact rlast_16 (hd.keeps hV)
  clear hA1 hA2 hA3
  clear HSt hb2 hm hd
  go_wp2_with fail
  refine Calls.mono HSm.out ?_
  rintro e w3 ⟨rfl,hg3⟩
  have HG0:Hid (Below w2.heap.size w2 w3):=hg3
  clear hg3 HSm
  have HCc:=show Hid _ from HC1.out w3 HG0.out
  go_wp2_with fail
  refine Calls.mono HCc.out ?_
  rintro e v1 ⟨u1,rfl,hL1,hg1⟩
  obtain⟨a1,c1,rfl,_⟩:=Lies.slice hL1
  obtain⟨V1,hV1⟩:∃V,V=v1.alloc (.cells #[.int .i64 t1.kind,.int .i64 t1.num,.string t1.text,.slice a1 t1.items.length c1] 33):=⟨_,rfl⟩
  have HV1:Hid (V1=v1.alloc (.cells #[.int .i64 t1.kind,.int .i64 t1.num,.string t1.text,.slice a1 t1.items.length c1] 33)):=hV1
  have ha1:Below v1.heap.size v1 V1:=by rw [hV1];exact ((Grew.refl _).alloc _).below
  have hq1:Below w3.heap.size w3 V1:=hg1.trans (ha1.mono hg1.size)
  have HG1:Hid (Below w2.heap.size w2 V1):=HG0.out.trans (hq1.mono HG0.out.size)
  have HX1_1:Hid (Bx V1 v1.heap.size t1 (.slice a1 t1.items.length c1)∧Lies 17 V1 t1.items (.slice a1 t1.items.length c1)):=⟨by rw [hV1];exact zan _ t1 _,Lies.keeps ha1 _ _ _ hL1⟩
  clear HCc HC1 hL1 hg1 ha1 hq1 hV1 HG0 
  go_upto_region 10 with fail
  rw [←HV1.out]
  clear HV1
  have HCc:=show Hid _ from HC2.out V1 HG1.out
  go_wp2_with fail
  refine Calls.mono HCc.out ?_
  rintro e v2 ⟨u2,rfl,hL2,hg2⟩
  obtain⟨a2,c2,rfl,_⟩:=Lies.slice hL2
  obtain⟨V2,hV2⟩:∃V,V=v2.alloc (.cells #[.int .i64 t1.kind,.int .i64 t1.num,.string t1.text,.slice a2 t1.items.length c2] 33):=⟨_,rfl⟩
  have HV2:Hid (V2=v2.alloc (.cells #[.int .i64 t1.kind,.int .i64 t1.num,.string t1.text,.slice a2 t1.items.length c2] 33)):=hV2
  have ha2:Below v2.heap.size v2 V2:=by rw [hV2];exact ((Grew.refl _).alloc _).below
  have hq2:Below V1.heap.size V1 V2:=hg2.trans (ha2.mono hg2.size)
  have HG2:Hid (Below w2.heap.size w2 V2):=HG1.out.trans (hq2.mono HG1.out.size)
  have HX1_2:Hid (Bx V2 v1.heap.size t1 (.slice a1 t1.items.length c1)∧Lies 17 V2 t1.items (.slice a1 t1.items.length c1)):=⟨HX1_1.out.1.keeps hq2,Lies.keeps hq2 _ _ _ HX1_1.out.2⟩
  have HX2_2:Hid (Bx V2 v2.heap.size t1 (.slice a2 t1.items.length c2)∧Lies 17 V2 t1.items (.slice a2 t1.items.length c2)):=⟨by rw [hV2];exact zan _ t1 _,Lies.keeps ha2 _ _ _ hL2⟩
  clear HCc HC2 hL2 hg2 ha2 hq2 hV2 HG1 HX1_1
  go_upto_region 11 with fail
  rw [←HV2.out]
  clear HV2
  have HCc:=show Hid _ from HC3.out V2 HG2.out
  go_wp2_with fail
  refine Calls.mono HCc.out ?_
  rintro e v3 ⟨u3,rfl,hL3,hg3⟩
  obtain⟨a3,c3,rfl,_⟩:=Lies.slice hL3
  obtain⟨V3,hV3⟩:∃V,V=v3.alloc (.cells #[.int .i64 t2.kind,.int .i64 t2.num,.string t2.text,.slice a3 t2.items.length c3] 33):=⟨_,rfl⟩
  have HV3:Hid (V3=v3.alloc (.cells #[.int .i64 t2.kind,.int .i64 t2.num,.string t2.text,.slice a3 t2.items.length c3] 33)):=hV3
  have ha3:Below v3.heap.size v3 V3:=by rw [hV3];exact ((Grew.refl _).alloc _).below
  have hq3:Below V2.heap.size V2 V3:=hg3.trans (ha3.mono hg3.size)
  have HG3:Hid (Below w2.heap.size w2 V3):=HG2.out.trans (hq3.mono HG2.out.size)
  have HX1_3:Hid (Bx V3 v1.heap.size t1 (.slice a1 t1.items.length c1)∧Lies 17 V3 t1.items (.slice a1 t1.items.length c1)):=⟨HX1_2.out.1.keeps hq3,Lies.keeps hq3 _ _ _ HX1_2.out.2⟩
  have HX2_3:Hid (Bx V3 v2.heap.size t1 (.slice a2 t1.items.length c2)∧Lies 17 V3 t1.items (.slice a2 t1.items.length c2)):=⟨HX2_2.out.1.keeps hq3,Lies.keeps hq3 _ _ _ HX2_2.out.2⟩
  have HX3_3:Hid (Bx V3 v3.heap.size t2 (.slice a3 t2.items.length c3)∧Lies 16 V3 t2.items (.slice a3 t2.items.length c3)):=⟨by rw [hV3];exact zan _ t2 _,Lies.keeps ha3 _ _ _ hL3⟩
  clear HCc HC3 hL3 hg3 ha3 hq3 hV3 HG2 HX1_2 HX2_2
  go_upto_region 12 with fail
  rw [←HV3.out]
  clear HV3
  have HCc:=show Hid _ from HC4.out V3 HG3.out
  go_wp2_with fail
  refine Calls.mono HCc.out ?_
  rintro e v4 ⟨u4,rfl,hL4,hg4⟩
  obtain⟨a4,c4,rfl,_⟩:=Lies.slice hL4
  obtain⟨V4,hV4⟩:∃V,V=v4.alloc (.cells #[.int .i64 t2.kind,.int .i64 t2.num,.string t2.text,.slice a4 t2.items.length c4] 33):=⟨_,rfl⟩
  have HV4:Hid (V4=v4.alloc (.cells #[.int .i64 t2.kind,.int .i64 t2.num,.string t2.text,.slice a4 t2.items.length c4] 33)):=hV4
  have ha4:Below v4.heap.size v4 V4:=by rw [hV4];exact ((Grew.refl _).alloc _).below
  have hq4:Below V3.heap.size V3 V4:=hg4.trans (ha4.mono hg4.size)
  have HG4:Hid (Below w2.heap.size w2 V4):=HG3.out.trans (hq4.mono HG3.out.size)
  have HX1_4:Hid (Bx V4 v1.heap.size t1 (.slice a1 t1.items.length c1)∧Lies 17 V4 t1.items (.slice a1 t1.items.length c1)):=⟨HX1_3.out.1.keeps hq4,Lies.keeps hq4 _ _ _ HX1_3.out.2⟩
  have HX2_4:Hid (Bx V4 v2.heap.size t1 (.slice a2 t1.items.length c2)∧Lies 17 V4 t1.items (.slice a2 t1.items.length c2)):=⟨HX2_3.out.1.keeps hq4,Lies.keeps hq4 _ _ _ HX2_3.out.2⟩
  have HX3_4:Hid (Bx V4 v3.heap.size t2 (.slice a3 t2.items.length c3)∧Lies 16 V4 t2.items (.slice a3 t2.items.length c3)):=⟨HX3_3.out.1.keeps hq4,Lies.keeps hq4 _ _ _ HX3_3.out.2⟩
  have HX4_4:Hid (Bx V4 v4.heap.size t2 (.slice a4 t2.items.length c4)∧Lies 16 V4 t2.items (.slice a4 t2.items.length c4)):=⟨by rw [hV4];exact zan _ t2 _,Lies.keeps ha4 _ _ _ hL4⟩
  clear HCc HC4 hL4 hg4 ha4 hq4 hV4 HG3 HX1_3 HX2_3 HX3_3
  go_upto_region 13 with fail
  rw [←HV4.out]
  clear HV4
  have HCc:=show Hid _ from HC5.out V4 HG4.out
  go_wp2_with fail
  refine Calls.mono HCc.out ?_
  rintro e v5 ⟨u5,rfl,hL5,hg5⟩
  obtain⟨a5,c5,rfl,_⟩:=Lies.slice hL5
  obtain⟨V5,hV5⟩:∃V,V=v5.alloc (.cells #[.int .i64 t3.kind,.int .i64 t3.num,.string t3.text,.slice a5 t3.items.length c5] 33):=⟨_,rfl⟩
  have HV5:Hid (V5=v5.alloc (.cells #[.int .i64 t3.kind,.int .i64 t3.num,.string t3.text,.slice a5 t3.items.length c5] 33)):=hV5
  have ha5:Below v5.heap.size v5 V5:=by rw [hV5];exact ((Grew.refl _).alloc _).below
  have hq5:Below V4.heap.size V4 V5:=hg5.trans (ha5.mono hg5.size)
  have HG5:Hid (Below w2.heap.size w2 V5):=HG4.out.trans (hq5.mono HG4.out.size)
  have HX1_5:Hid (Bx V5 v1.heap.size t1 (.slice a1 t1.items.length c1)∧Lies 17 V5 t1.items (.slice a1 t1.items.length c1)):=⟨HX1_4.out.1.keeps hq5,Lies.keeps hq5 _ _ _ HX1_4.out.2⟩
  have HX2_5:Hid (Bx V5 v2.heap.size t1 (.slice a2 t1.items.length c2)∧Lies 17 V5 t1.items (.slice a2 t1.items.length c2)):=⟨HX2_4.out.1.keeps hq5,Lies.keeps hq5 _ _ _ HX2_4.out.2⟩
  have HX3_5:Hid (Bx V5 v3.heap.size t2 (.slice a3 t2.items.length c3)∧Lies 16 V5 t2.items (.slice a3 t2.items.length c3)):=⟨HX3_4.out.1.keeps hq5,Lies.keeps hq5 _ _ _ HX3_4.out.2⟩
  have HX4_5:Hid (Bx V5 v4.heap.size t2 (.slice a4 t2.items.length c4)∧Lies 16 V5 t2.items (.slice a4 t2.items.length c4)):=⟨HX4_4.out.1.keeps hq5,Lies.keeps hq5 _ _ _ HX4_4.out.2⟩
  have HX5_5:Hid (Bx V5 v5.heap.size t3 (.slice a5 t3.items.length c5)∧Lies 16 V5 t3.items (.slice a5 t3.items.length c5)):=⟨by rw [hV5];exact zan _ t3 _,Lies.keeps ha5 _ _ _ hL5⟩
  clear HCc HC5 hL5 hg5 ha5 hq5 hV5 HG4 HX1_4 HX2_4 HX3_4 HX4_4
  go_upto_region 14 with fail
  rw [←HV5.out]
  clear HV5
  have HCc:=show Hid _ from HC6.out V5 HG5.out
  go_wp2_with fail
  refine Calls.mono HCc.out ?_
  rintro e v6 ⟨u6,rfl,hL6,hg6⟩
  obtain⟨a6,c6,rfl,_⟩:=Lies.slice hL6
  obtain⟨V6,hV6⟩:∃V,V=v6.alloc (.cells #[.int .i64 t3.kind,.int .i64 t3.num,.string t3.text,.slice a6 t3.items.length c6] 33):=⟨_,rfl⟩
  have HV6:Hid (V6=v6.alloc (.cells #[.int .i64 t3.kind,.int .i64 t3.num,.string t3.text,.slice a6 t3.items.length c6] 33)):=hV6
  have ha6:Below v6.heap.size v6 V6:=by rw [hV6];exact ((Grew.refl _).alloc _).below
  have hq6:Below V5.heap.size V5 V6:=hg6.trans (ha6.mono hg6.size)
  have HG6:Hid (Below w2.heap.size w2 V6):=HG5.out.trans (hq6.mono HG5.out.size)
  have HX1_6:Hid (Bx V6 v1.heap.size t1 (.slice a1 t1.items.length c1)∧Lies 17 V6 t1.items (.slice a1 t1.items.length c1)):=⟨HX1_5.out.1.keeps hq6,Lies.keeps hq6 _ _ _ HX1_5.out.2⟩
  have HX2_6:Hid (Bx V6 v2.heap.size t1 (.slice a2 t1.items.length c2)∧Lies 17 V6 t1.items (.slice a2 t1.items.length c2)):=⟨HX2_5.out.1.keeps hq6,Lies.keeps hq6 _ _ _ HX2_5.out.2⟩
  have HX3_6:Hid (Bx V6 v3.heap.size t2 (.slice a3 t2.items.length c3)∧Lies 16 V6 t2.items (.slice a3 t2.items.length c3)):=⟨HX3_5.out.1.keeps hq6,Lies.keeps hq6 _ _ _ HX3_5.out.2⟩
  have HX4_6:Hid (Bx V6 v4.heap.size t2 (.slice a4 t2.items.length c4)∧Lies 16 V6 t2.items (.slice a4 t2.items.length c4)):=⟨HX4_5.out.1.keeps hq6,Lies.keeps hq6 _ _ _ HX4_5.out.2⟩
  have HX5_6:Hid (Bx V6 v5.heap.size t3 (.slice a5 t3.items.length c5)∧Lies 16 V6 t3.items (.slice a5 t3.items.length c5)):=⟨HX5_5.out.1.keeps hq6,Lies.keeps hq6 _ _ _ HX5_5.out.2⟩
  have HX6_6:Hid (Bx V6 v6.heap.size t3 (.slice a6 t3.items.length c6)∧Lies 16 V6 t3.items (.slice a6 t3.items.length c6)):=⟨by rw [hV6];exact zan _ t3 _,Lies.keeps ha6 _ _ _ hL6⟩
  clear HCc HC6 hL6 hg6 ha6 hq6 hV6 HG5 HX1_5 HX2_5 HX3_5 HX4_5 HX5_5
  go_upto_region 15 with fail
  rw [←HV6.out]
  clear HV6
  obtain⟨p0,p1,p2,p3,_,_,_,_⟩:=HX1_6.out.1
  obtain⟨q0,q1,q2,q3,_,_,_,_⟩:=HX2_6.out.1
  have HVc:Hid _:=val_told16 t1 _ _ V6 HX1_6.out.2 HX2_6.out.2
  go_wp2_with fail
  refine Calls.mono HVc.out ?_
  rintro e x1 ⟨rfl,hg⟩
  have HX3_7:Hid (Bx x1 v3.heap.size t2 (.slice a3 t2.items.length c3)∧Lies 16 x1 t2.items (.slice a3 t2.items.length c3)):=⟨HX3_6.out.1.keeps hg,Lies.keeps hg _ _ _ HX3_6.out.2⟩
  have HX4_7:Hid (Bx x1 v4.heap.size t2 (.slice a4 t2.items.length c4)∧Lies 16 x1 t2.items (.slice a4 t2.items.length c4)):=⟨HX4_6.out.1.keeps hg,Lies.keeps hg _ _ _ HX4_6.out.2⟩
  have HX5_7:Hid (Bx x1 v5.heap.size t3 (.slice a5 t3.items.length c5)∧Lies 16 x1 t3.items (.slice a5 t3.items.length c5)):=⟨HX5_6.out.1.keeps hg,Lies.keeps hg _ _ _ HX5_6.out.2⟩
  have HX6_7:Hid (Bx x1 v6.heap.size t3 (.slice a6 t3.items.length c6)∧Lies 16 x1 t3.items (.slice a6 t3.items.length c6)):=⟨HX6_6.out.1.keeps hg,Lies.keeps hg _ _ _ HX6_6.out.2⟩
  have HG7:Hid (Below w2.heap.size w2 x1):=HG6.out.trans (hg.mono HG6.out.size)
  clear hg HVc p0 p1 p2 p3 q0 q1 q2 q3 HG6 HX1_6 HX2_6 HX3_6 HX4_6 HX5_6 HX6_6
  obtain⟨p0,p1,p2,p3,_,_,_,_⟩:=HX3_7.out.1
  obtain⟨q0,q1,q2,q3,_,_,_,_⟩:=HX4_7.out.1
  have HVc:Hid _:=val_told16 t2 _ _ x1 HX3_7.out.2 HX4_7.out.2
  go_wp2_with fail
  refine Calls.mono HVc.out ?_
  rintro e x2 ⟨rfl,hg⟩
  have HX5_8:Hid (Bx x2 v5.heap.size t3 (.slice a5 t3.items.length c5)∧Lies 16 x2 t3.items (.slice a5 t3.items.length c5)):=⟨HX5_7.out.1.keeps hg,Lies.keeps hg _ _ _ HX5_7.out.2⟩
  have HX6_8:Hid (Bx x2 v6.heap.size t3 (.slice a6 t3.items.length c6)∧Lies 16 x2 t3.items (.slice a6 t3.items.length c6)):=⟨HX6_7.out.1.keeps hg,Lies.keeps hg _ _ _ HX6_7.out.2⟩
  have HG8:Hid (Below w2.heap.size w2 x2):=HG7.out.trans (hg.mono HG7.out.size)
  clear hg HVc p0 p1 p2 p3 q0 q1 q2 q3 HG7 HX3_7 HX4_7 HX5_7 HX6_7
  obtain⟨p0,p1,p2,p3,_,_,_,_⟩:=HX5_8.out.1
  obtain⟨q0,q1,q2,q3,_,_,_,_⟩:=HX6_8.out.1
  have HVc:Hid _:=val_told16 t3 _ _ x2 HX5_8.out.2 HX6_8.out.2
  go_wp2_with fail
  refine Calls.mono HVc.out ?_
  rintro e x3 ⟨rfl,hg⟩
  have HG9:Hid (Below w2.heap.size w2 x3):=HG8.out.trans (hg.mono HG8.out.size)
  clear hg HVc p0 p1 p2 p3 q0 q1 q2 q3 HG8 HX5_8 HX6_8 
  have HSpc:=show Hid _ from HSp.out x3
  go_wp2_with fail
  refine Calls.mono HSpc.out ?_
  rintro e x4 ⟨rfl,hg⟩
  have HZ:Hid (Below w.heap.size w x4):=HB2.out.trans ((HG9.out.trans (hg.mono HG9.out.size)).mono HB2.out.size)
  clear hg HSpc HG9
  go_wp2_with fail
  go_ret
  exact⟨rfl,HZ.out⟩
end Go.Proofs.YtlnecfjnffdciabGreat

