import Derived.Test.YtlnecfjnffdciabGreatSFst16
import Derived.Test.YtlnecfjnffdciabGreatRTurn14
import Derived.Test.YtlnecfjnffdciabGreatRIn
import Derived.Test.YtlnecfjnffdciabGreatRunesP
import Derived.Test.YtlnecfjnffdciabGreatBuildS
import Derived.Test.YtlnecfjnffdciabGreatTold
import Derived.Test.YtlnecfjnffdciabGreatMapM
import Derived.Test.YtlnecfjnffdciabGreatHungN
namespace Go.Proofs.YtlnecfjnffdciabGreat
open Go.RowKit Go.Shelf
def DS (w:World) (q:Nat) (l:List PT) (c:Nat):Prop:=∃m,w.cell? ⟨c,0,none⟩=some (.pointer (some ⟨m,0,none⟩))∧DM w q l m∧Nils l
theorem DS.keeps {w w':World} {q:Nat} {l:List PT} {c:Nat} (h:DS w q l c) (hb:Below w.heap.size w w'):DS w' q l c:=by
 obtain⟨m,h1,h2,h3⟩:=h
 exact⟨m,zaa hb h1,h2.keeps hb,h3⟩
def nilP (v:VT):PT:=(v,nilT)
def setL (q:Nat) (vs:List VT):List PT:=ofL q (vs.map nilP)
theorem setL_nils (q:Nat) (vs:List VT):Nils (setL q vs):=fun x hx=>by
 obtain⟨v,_,rfl⟩:=List.mem_map.1 (kyd_mem _ _ _ _ hx)
 rfl
theorem keyP_map (ps:List (VT×Value)):(ps.map keyP).map trT=(ps.map (·.1)).map nilP:=by rw [List.map_map,List.map_map];rfl
def MkPost (q:Nat) (l:List PT) (w:World) (e:Ending) (w':World):Prop:=Below w.heap.size w w'∧∃c m a9 c9,e=.returned (.pointer (some ⟨c,0,none⟩))∧w'.cell? ⟨c,0,none⟩=some (.pointer (some ⟨m,0,none⟩))∧w'.cell? ⟨m,1,none⟩=some (.slice a9 l.length c9)∧(l.length≤65536→DS w' q l c)
theorem nil_right:zab 16 nilT=true∧Dp 16 nilT:=⟨by kernel_rfl,Dp.of_lies 16 (default:World) nilT (.slice none 0 0) (zbb 16 _)⟩
set_option maxRecDepth 100000 in
set_option maxHeartbeats 8000000 in
theorem rmake_16 (q:Nat) (hq:q<6) (ps:List (VT×Value)) (v:Value) (w:World) (hv:SlP 0 16 w ps v) (hlen:ps.length≤131072) (hg:∀p∈ps,zab 16 p.1=true):Calls Tryz.prog 61 #[.int .i64 (q:Int),v] w (MkPost q (setL q (ps.map (·.1))) w):=by
 obtain⟨i0,hi,hz0,hz1,hz2⟩:=infoQ
 have Hi:Hid _:=hi;have Hz0:Hid _:=hz0;have Hz1:Hid _:=hz1;have Hz2:Hid _:=hz2
 have HS:Hid (SlP 0 16 w ps v):=hv
 have HL:Hid (ps.length≤131072):=hlen
 obtain⟨_,_,hvv,_,_,_,hgs⟩:=hv
 clear hvv
 have hG:∀p∈ps.map keyP,Good 16 p.1.1∧Good 16 p.2.1:=fun p hp=>by
  obtain⟨x,hx,rfl⟩:=List.mem_map.1 hp
  exact⟨⟨hg x hx,Dp.of_lies 16 w x.1 x.2 (hgs x hx).1⟩,nil_right⟩
 have hK:(kyd (cmpO q) ((ps.map keyP).length+1) (ps.map keyP)).map trT=setL q (ps.map (·.1)):=by
  unfold setL
  rw [←keyP_map]
  exact ofK_is q (ps.map keyP)
 have HB:Hid (∀V u,SlQ 0 16 V (ps.map keyP) u→Calls Tryz.prog 118 #[.int .i64 (q:Int),u] V fun e w'=>Below V.heap.size V w'∧∃m a9 c9,e=.returned (.pointer (some ⟨m,0,none⟩))∧w'.cell? ⟨m,1,none⟩=some (.slice a9 (setL q (ps.map (·.1))).length c9)∧((setL q (ps.map (·.1))).length≤65536→DM w' q (setL q (ps.map (·.1))) m)):=fun V u hu=>by
  refine (rbuild_any q hq (ps.map keyP).length (ps.map keyP) u V hu (fun p hp=>(hG p hp).1.1) (by rw [keyP_len];exact hlen) (by omega)).mono fun e w' h=>?_
  have h2:=h
  obtain⟨hb,b,v,rfl,h0,h1,hs⟩:=h
  obtain⟨a9,c9,rfl,_⟩:=hs.slice
  have hl:(kyd (cmpO q) ((ps.map keyP).length+1) (ps.map keyP)).length=(setL q (ps.map (·.1))).length:=by rw [←hK];simp
  rw [hl] at h1
  refine⟨hb,b,a9,c9,rfl,h1,fun hz=>?_⟩
  obtain⟨_,b2,he,hd⟩:=BdP.dm hq (by omega) h2 hG (by rw [hl];exact hz)
  simp only [Ending.returned.injEq,Value.pointer.injEq,Option.some.injEq,Addr.mk.injEq,and_true] at he
  subst he
  rw [hK] at hd
  exact hd
 have HNl:Hid (Nils (setL q (ps.map (·.1)))):=setL_nils q _
 obtain⟨a0,c0,rfl,_⟩:=HS.out.slice
 obtain⟨n,hn⟩:∃n,n=ps.length:=⟨_,rfl⟩
 have HN:Hid (n=ps.length):=hn
 rw [←hn] at hlen ⊢
 clear hi hz0 hz1 hz2 hgs hG hK hg hn hq
 generalize setL q (ps.map (·.1))=SL at *
 go_enter Tryz.func61,Tryz.ntmps61
 go_wp2_with fail
 go_loopg [6,5] n (fun z i u wr=>∃j:Nat,i=.int .i64 (j:Int)∧j≤n∧z=n-j∧Hid (wr.ownsRow w.heap.size 108 8 u j (((ps.take j).map keyP).flatMap encQ))∧Hid (Below w.heap.size w wr))
 case atStart=>exact⟨0,rfl,by omega,by omega,World.ownsRow_nil _ _ _ _,Below.refl _ _⟩
 case round=>
  obtain⟨j,rfl,hj,hk,HOw,HBw⟩:=hrel
  have Hk:Hid _:=hk
  have hbw:=HBw.out
  clear hk
  by_cases hlt:j<n
  ·have hlt':j<ps.length:=by have:=HN.out;omega
   obtain⟨b1,o1,c1',hv1,_,hq1,hgq⟩:=HS.out.some (fun e=>by rw [e] at hlt';cases hlt')
   have ha1:a0=some ⟨b1,o1,none⟩:=by injection hv1
   subst ha1
   obtain⟨p0,p1,p2,p3⟩:=hq1 j hlt'
   have hg:=hgq ps[j] (List.getElem_mem hlt')
   have Htk:Hid (((ps.take (j+1)).map keyP).flatMap encQ=((ps.take j).map keyP).flatMap encQ++encQ (keyP ps[j])):=by
    show _=_
    rw [List.take_succ_eq_append_getElem hlt',List.map_append,List.flatMap_append];simp
   obtain⟨a1,c1,hu1,_⟩:=Lies.slice hg.1
   rw [hu1] at p3
   generalize ps[j]=x at *
   obtain⟨t1,u1⟩:=x
   simp only at p0 p1 p2 p3 hu1
   subst hu1
   have p0:=zaa hbw p0;have p1:=zaa hbw p1;have p2:=zaa hbw p2;have p3:=zaa hbw p3
   have hji:(j:Int)<(n:Nat):=by omega
   have hws:w.heap.size≤wr.heap.size:=hbw.size
   clear hq1 hgq hg hv1
   go_wp2_with (first
    | (at_builtin;refine wpList_append_own _ rfl _ _ 76 rfl w.heap.size 108 i0 (.agg #[.int .i64 0,.int .i64 0,.string ⟨#[]⟩,.slice none 0 0,.int .i64 0,.int .i64 0,.string ⟨#[]⟩,.slice none 0 0]) 8 112 Tryz.underlying76 Hi.out Hz0.out Hz1.out Hz2.out rfl (by decide) _ _ _ rfl (HOw.out.alloc _) ⟨wr.heap.size,0,none⟩ 1 1 [.int .i64 t1.kind,.int .i64 t1.num,.string t1.text,.slice a1 t1.items.length c1,.int .i64 0,.int .i64 0,.string ⟨#[]⟩,.slice none 0 0] rfl rfl (fun q u hq=>by match q,hq with|0,hq=>(simp at hq;subst hq;simp [Addr.add])|1,hq=>(simp at hq;subst hq;simp [Addr.add])|2,hq=>(simp at hq;subst hq;simp [Addr.add])|3,hq=>(simp at hq;subst hq;simp [Addr.add])|4,hq=>(simp at hq;subst hq;simp [Addr.add])|5,hq=>(simp at hq;subst hq;simp [Addr.add])|6,hq=>(simp at hq;subst hq;simp [Addr.add])|7,hq=>(simp at hq;subst hq;simp [Addr.add])) (fun u hu=>by simp at hu;rcases hu with rfl|rfl|rfl|rfl|rfl|rfl|rfl|rfl <;> rfl) (by unfold maxLen;omega) (by omega) (by simp;omega) ?_;intro v9 w9 hown hgrow _))
   have hb9:Below w.heap.size w w9:=zar (hbw.alloc hws _) (by simp;omega) (HOw.out.alloc _) hgrow
   have HR9:Hid (w9.ownsRow w.heap.size 108 8 v9 (j+1) (((ps.take (j+1)).map keyP).flatMap encQ)):=by
    rw [Htk.out]
    exact hown
   clear hown hgrow p0 p1 p2 p3
   go_roundg (n-(j+1))
   case measure=>have:=Hk.out;omega
   case rel=>exact⟨j+1,by go_num,by omega,rfl,HR9,hb9⟩
  ·have hjl:j=n:=by omega
   have hji : ¬(j:Int)<(n:Nat):=by omega
   have HSq:Hid (SlQ 0 16 wr (ps.map keyP) u5):=by
    have h9:=HOw.out
    rw [hjl,HN.out,List.take_length] at h9
    refine (SlQ.of_own (by rw [keyP_len]) h9 (fun p hp=>?_) (by rw [keyP_len];have:=HL.out;omega)).mono (Nat.zero_le _)
    obtain⟨x,hx,rfl⟩:=List.mem_map.1 hp
    obtain⟨_,_,_,_,_,_,hgs⟩:=HS.out
    exact (keyP_good (hgs x hx)).keeps hbw
   have HBd:Hid _:=HB.out wr _ HSq.out
   clear HOw HB HSq hjl
   go_wp2_with fail
   refine Calls.mono HBd.out ?_
   rintro e w2 ⟨hg2,m,a9,c9,rfl,hm1,hmd⟩
   have hb2:Below w.heap.size w w2:=hbw.trans (hg2.mono hbw.size)
   have hal:Below w2.heap.size w2 (w2.alloc (.cells #[.pointer (some ⟨m,0,none⟩)] 101)):=((Grew.refl w2).alloc _).below
   have HE:Hid (MkPost q SL w (.returned (.pointer (some ⟨w2.heap.size,0,none⟩))) (w2.alloc (.cells #[.pointer (some ⟨m,0,none⟩)] 101))):=⟨hb2.trans (hal.mono hb2.size),_,m,a9,c9,rfl,by simp,zaa hal hm1,fun hz=>⟨m,by simp,(hmd hz).keeps hal,HNl.out⟩⟩
   clear hg2 hm1 hmd hb2 hal HBd
   go_wp2_with fail
   first|exact HE.out|(go_ret;exact HE.out)
def DsPost (q:Nat) (l:List PT) (E:Int) (w:World) (e:Ending) (w':World):Prop:=Below w.heap.size w w'∧∃p:Option Addr,e=.returned (.tuple #[.pointer p,.int .i64 E])∧((E≠0∧p=none)∨(E=0∧∃c,p=some ⟨c,0,none⟩∧DS w' q l c))
theorem slp_nil (w:World):SlP 0 16 w [] (.slice none 0 0):=⟨none,0,rfl,by simp,by simp,fun h=>absurd rfl h,fun p hp=>by cases hp⟩
set_option maxRecDepth 100000 in
set_option maxHeartbeats 4000000 in
theorem rnew_16 (o:Int) (w:World):Calls Tryz.prog 21 #[.int .i64 o] w (DsPost o.toNat [] (zam o) w):=by
 by_cases ho:0≤o∧o≤5
 ·have hk:kindO o=true:=by unfold kindO;simpa using ho
  have he:zam o=0:=by unfold zam;rw [if_neg (by omega)]
  rw [he]
  obtain⟨p,rfl⟩:∃p:Nat,o=(p:Int):=⟨o.toNat,by omega⟩
  rw [show ((p:Int)).toNat=p by omega]
  have HM:Hid (Calls Tryz.prog 61 #[.int .i64 (p:Int),.slice none 0 0] w (MkPost p [] w)):=rmake_16 p (by omega) [] _ w (slp_nil w) (by simp) (fun q hq=>by cases hq)
  have HK:Hid (Calls Tryz.prog 77 #[.int .i64 (p:Int)] w fun e w'=>e=.returned (.bool true)∧w'=w):=by rw [←hk];exact rkind6_any _ w
  clear hk he ho
  go_enter Tryz.func21,Tryz.ntmps21
  go_wp2_with (go_at_call 77;refine Calls.mono HK.out ?_;rintro e w1 ⟨rfl,hw⟩;subst w1)
  refine Calls.mono HM.out ?_
  rintro e w2 ⟨hb2,c,m,a9,c9,rfl,_,_,hd⟩
  have HE:Hid (DsPost p [] 0 w (.returned (.tuple #[.pointer (some ⟨c,0,none⟩),.int .i64 0])) w2):=⟨hb2,_,rfl,.inr ⟨rfl,c,rfl,hd (by simp)⟩⟩
  clear hd hb2 HM HK
  go_wp2_with fail
  refine bodyPost_ret (v:=.tuple #[.pointer (some ⟨c,0,none⟩),.int .i64 0]) (by simp [results,Tryz.results21,go_sem]) rfl HE.out
 ·have hk:kindO o=false:=by unfold kindO;simp;omega
  have he:zam o=4:=by unfold zam;rw [if_pos (by omega)]
  have HK:Hid (Calls Tryz.prog 77 #[.int .i64 o] w fun e w'=>e=.returned (.bool false)∧w'=w):=by rw [←hk];exact rkind6_any _ w
  rw [he]
  have HE:Hid (DsPost o.toNat [] 4 w (.returned (.tuple #[.pointer none,.int .i64 4])) w):=⟨Below.refl _ _,none,rfl,.inl ⟨by decide,rfl⟩⟩
  clear ho hk he
  go_enter Tryz.func21,Tryz.ntmps21
  go_wp2_with (go_at_call 77;refine Calls.mono HK.out ?_;rintro e w1 ⟨rfl,hw⟩;subst w1)
  refine bodyPost_ret (v:=.tuple #[.pointer none,.int .i64 4]) (by simp [results,Tryz.results21,go_sem]) rfl HE.out
set_option maxRecDepth 100000 in
set_option maxHeartbeats 4000000 in
theorem rlen_16 {w:World} {c m N:Nat} {a9:Option Addr} {c9:Nat} (h0:w.cell? ⟨c,0,none⟩=some (.pointer (some ⟨m,0,none⟩))) (h1:w.cell? ⟨m,1,none⟩=some (.slice a9 N c9)):Calls Tryz.prog 75 #[.pointer (some ⟨c,0,none⟩)] w fun e w'=>e=.returned (.int .i64 (N:Nat))∧w'=w:=by
 go_enter Tryz.func75,Tryz.ntmps75
 go_wp2_with fail
 go_ret
 exact⟨rfl,rfl⟩
theorem DS.row {w:World} {q:Nat} {l:List PT} {c:Nat} (h:DS w q l c):∃(m:Nat) (qs:List PP) (a9:Option Addr) (c9:Nat),w.cell? ⟨c,0,none⟩=some (.pointer (some ⟨m,0,none⟩))∧w.cell? ⟨m,0,none⟩=some (.int .i64 (q:Int))∧w.cell? ⟨m,1,none⟩=some (.slice a9 qs.length c9)∧qs.map trT=l∧SlQ 0 16 w qs (.slice a9 qs.length c9)∧DM w q l m:=by
 obtain⟨m,h0,hd,hn⟩:=h
 have hd2:=hd
 obtain⟨ho,⟨qs,v,h1,h2,h3⟩,_,_,_,_⟩:=hd2
 obtain⟨a9,c9,rfl,_⟩:=h3.slice
 exact⟨m,qs,a9,c9,h0,ho,h1,h2,h3,hd⟩
def ItPost (base:Nat) (vs:List VT) (w:World) (e:Ending) (w':World):Prop:=Below w.heap.size w w'∧∃ps v,e=.returned v∧ps.map (·.1)=vs∧SlP base 16 w' ps v
set_option maxRecDepth 100000 in
set_option maxHeartbeats 8000000 in
theorem ritems_16 {w:World} {q:Nat} {l:List PT} {c:Nat} (h:DS w q l c):Calls Tryz.prog 64 #[.pointer (some ⟨c,0,none⟩)] w (ItPost w.heap.size (l.map (·.1)) w):=by
 obtain⟨i0,hi,hz0,hz1,hz2⟩:=info24
 have Hi:Hid _:=hi;have Hz0:Hid _:=hz0;have Hz1:Hid _:=hz1;have Hz2:Hid _:=hz2
 obtain⟨m,qs,a0,c0,h0,_,h1,rfl,hs,hd⟩:=h.row
 have hlen:qs.length≤65536:=by have:=hd.size;rwa [List.length_map] at this
 have HL:Hid (qs.length≤65536):=hlen
 have HS:Hid (SlQ 0 16 w qs (.slice a0 qs.length c0)):=hs
 have HP:Hid (∀(u:Value) (V:World),V.ownsRow w.heap.size 33 4 u qs.length ((qs.map (·.1)).flatMap encP)→Below w.heap.size w V→ItPost w.heap.size ((qs.map trT).map (·.1)) w (.returned u) V):=fun u V h2 h3=>by
  refine⟨h3,qs.map (·.1),u,rfl,by rw [List.map_map,List.map_map];rfl,?_⟩
  refine SlP.of_own (by rw [List.length_map]) h2 (fun p hp=>?_) (by rw [List.length_map];omega)
  obtain⟨x,hx,rfl⟩:=List.mem_map.1 hp
  exact (hs.good x hx).1.keeps h3
 obtain⟨n,hn⟩:∃n,n=qs.length:=⟨_,rfl⟩
 have HN:Hid (n=qs.length):=hn
 rw [←hn] at h1 hlen
 clear hi hz0 hz1 hz2 hs hd hn
 generalize ItPost w.heap.size ((qs.map trT).map (·.1)) w=PO at *
 have h0c:=h0;have h1c:=h1
 have H01:Hid (w.cell? ⟨c,0,none⟩=some (.pointer (some ⟨m,0,none⟩))∧w.cell? ⟨m,1,none⟩=some (.slice a0 n c0)):=⟨h0,h1⟩
 clear h0 h1 h0c h1c
 go_enter Tryz.func64,Tryz.ntmps64
 go_wp2_with fail
 go_loopg [4,3] n (fun z i u wr=>∃j:Nat,i=.int .i64 (j:Int)∧j≤n∧z=n-j∧Hid (wr.ownsRow w.heap.size 33 4 u j (((qs.take j).map (·.1)).flatMap encP))∧Hid (Below w.heap.size w wr))
 case atStart=>exact⟨0,rfl,by omega,by omega,World.ownsRow_nil _ _ _ _,Below.refl _ _⟩
 case round=>
  obtain⟨j,rfl,hj,hk,HOw,HBw⟩:=hrel
  have Hk:Hid _:=hk
  have hbw:=HBw.out
  have h0:=zaa hbw H01.out.1
  have h1:=zaa hbw H01.out.2
  clear hk
  by_cases hlt:j<n
  ·have hlt':j<qs.length:=by have:=HN.out;omega
   obtain⟨b1,o1,c1',hv1,_,hq1,hgq⟩:=HS.out.full (fun e=>by rw [e] at hlt';cases hlt')
   have ha1:a0=some ⟨b1,o1,none⟩:=by injection hv1
   subst ha1
   obtain⟨p0,p1,p2,p3,_,_,_,_⟩:=hq1.at j hlt'
   have hg:=hgq qs[j] (List.getElem_mem hlt')
   have Htk:Hid (((qs.take (j+1)).map (·.1)).flatMap encP=((qs.take j).map (·.1)).flatMap encP++encP qs[j].1):=by
    show _=_
    rw [List.take_succ_eq_append_getElem hlt',List.map_append,List.flatMap_append];simp
   obtain⟨a1,c1,hu1,_⟩:=Lies.slice hg.1.1
   rw [hu1] at p3
   generalize qs[j]=x at *
   obtain⟨⟨t1,u1⟩,y2⟩:=x
   simp only at p0 p1 p2 p3 hu1 Htk
   subst hu1
   have p0:=zaa hbw p0;have p1:=zaa hbw p1;have p2:=zaa hbw p2;have p3:=zaa hbw p3
   have hji:(j:Int)<(n:Nat):=by omega
   have hji0:(0:Int)≤(j:Int):=by omega
   have hws:w.heap.size≤wr.heap.size:=hbw.size
   clear hq1 hgq hg hv1
   go_wp2_with (first
    | (at_builtin;refine wpList_append_own _ rfl _ _ 22 rfl w.heap.size 33 i0 (.agg #[.int .i64 0,.int .i64 0,.string ⟨#[]⟩,.slice none 0 0]) 4 56 Tryz.underlying22 Hi.out Hz0.out Hz1.out Hz2.out rfl (by decide) _ _ _ rfl (HOw.out.alloc _) ⟨wr.heap.size,0,none⟩ 1 1 [.int .i64 t1.kind,.int .i64 t1.num,.string t1.text,.slice a1 t1.items.length c1] rfl rfl (fun q u hq=>by match q,hq with|0,hq=>(simp at hq;subst hq;simp [Addr.add])|1,hq=>(simp at hq;subst hq;simp [Addr.add])|2,hq=>(simp at hq;subst hq;simp [Addr.add])|3,hq=>(simp at hq;subst hq;simp [Addr.add])) (fun u hu=>by simp at hu;rcases hu with rfl|rfl|rfl|rfl <;> rfl) (by unfold maxLen;omega) (by omega) (by simp;omega) ?_;intro v9 w9 hown hgrow _))
   have hb9:Below w.heap.size w w9:=zar (hbw.alloc hws _) (by simp;omega) (HOw.out.alloc _) hgrow
   have HR9:Hid (w9.ownsRow w.heap.size 33 4 v9 (j+1) (((qs.take (j+1)).map (·.1)).flatMap encP)):=by
    rw [Htk.out]
    exact hown
   clear hown hgrow p0 p1 p2 p3 h0 h1
   go_roundg (n-(j+1))
   case measure=>have:=Hk.out;omega
   case rel=>exact⟨j+1,by go_num,by omega,rfl,HR9,hb9⟩
  ·have hjl:j=n:=by omega
   have hji : ¬(j:Int)<(n:Nat):=by omega
   have HE:Hid (PO (.returned u3) wr):=by
    have h9:=HOw.out
    rw [hjl,HN.out,List.take_length] at h9
    exact HP.out _ _ h9 hbw
   clear HOw HP hjl
   go_wp2_with fail
   first|exact HE.out|(go_ret;exact HE.out)
end Go.Proofs.YtlnecfjnffdciabGreat

namespace Go.Proofs.YtlnecfjnffdciabGreat
open Go.RowKit Go.Shelf
attribute [local go_sem] Oper.semAt_some
set_option maxRecDepth 100000 in
theorem small_16 (v:Value) (w:World):Calls Tryz.prog 154 #[.agg #[v]] w fun e w'=>e=.returned (.func (.func 218) #[] #[.pointer (some ⟨w.heap.size,0,none⟩)])∧w'=w.alloc (.cells #[v] 112):=by
 go_enter Tryz.func154,Tryz.ntmps154
 go_wp2_with fail
 go_ret
 exact⟨rfl,rfl⟩
set_option maxRecDepth 100000 in
theorem sall_16 (s b:Nat) (w:World) (hs:w.cell? ⟨s,0,none⟩=some (.pointer (some ⟨b,0,none⟩))):Calls Tryz.prog 98 #[.pointer (some ⟨s,0,none⟩)] w fun e w'=>e=.returned (.func (.func 218) #[] #[.pointer (some ⟨w.heap.size,0,none⟩)])∧w'=w.alloc (.cells #[.pointer (some ⟨b,0,none⟩)] 112):=by
 go_enter Tryz.func98,Tryz.ntmps98
 go_wp2_with fail
 refine (sown_16 _ _).mono ?_
 rintro e w1 ⟨rfl,hw⟩
 obtain rfl:w=w1:=hw.symm
 go_wp2_with fail
 refine (small_16 _ _).mono ?_
 rintro e w2 ⟨rfl,hw2⟩
 subst hw2
 go_wp2_with fail
 go_ret
 exact⟨rfl,rfl⟩
set_option maxRecDepth 100000 in
set_option maxHeartbeats 32000000 in
theorem sappend_16 (l:List VT) (hlen:l.length≤65536) (lb:Array Value) (w:World)
 (hseq:∀(n:Nat) (W:World),6≤n→Below w.heap.size w W→SeqX Fence.wide n Tryz.prog 218 lb encCV (KpY 22 w.heap.size) (PreCV l) (fun xs=>xs.map CV.k=l) (fun _=>True) l.length W) :
 Calls Tryz.prog 153 #[.slice none 0 0,.func (.func 218) #[] lb] w (ItPost w.heap.size l w):=by
 refine (callsIn_wide (n:=8)).1 ?_
 refine callsIn_of_wp_marks Tryz.func153 rfl trivial ?_ rfl
 simp only [Tryz.ntmps153,List.size_toArray,List.length_cons,List.length_nil,Nat.reduceAdd,Nat.reduceSub,Array.replicate_succ,Array.replicate_zero,List.push_toArray,List.append_toArray,List.nil_append,List.cons_append]
 have HL:Hid (l.length≤65536):=hlen
 have HSq:Hid _:=hseq
 clear hseq hlen
 gi_wp2
 obtain⟨Wi,hWi⟩:∃Wi,Wi=w.alloc (.cells #[.slice none 0 0] 22):=⟨_,rfl⟩
 rw [←hWi]
 have hB0:Below w.heap.size w Wi:=by rw [hWi];exact ((Grew.refl w).alloc _).below
 have hsz:Wi.heap.size=w.heap.size+1:=by rw [hWi];simp
 have hG0:GvI w w.heap.size [] Wi:=⟨⟨.slice none 0 0,by rw [hWi];exact Go.Boxed.new w 22 _,World.ownsRow_nil _ _ _ _,fun x hx=>by cases hx⟩,hB0⟩
 have HSq2:Hid _:=HSq.out 7 Wi (by omega) hB0
 clear hWi HSq
 refine rangeX (α:=CV) rfl (by omega) (gf:=218) (lb:=lb) rfl trivial (enters_of Tryz.func218 (by kernel_rfl) rfl)
  HSq2.out kpY_t (fun W o o' hl ho=>kpY_b (by omega) (by omega) W o o' hl ho) (Below.refl _ _) (fun _=>rfl)
  (fun pre W=>GvI w w.heap.size pre W∧pre.map CV.k <+: l) (fun _ _ _=>False)
  (fun s A V row hs hg hr=>⟨GvI.own w _ _ (by omega) (by omega) s A V row hs.1 hg hr,hs.2⟩) (fun _ _ _ _ _ hs _ _=>hs) ⟨hG0,by simp⟩
  (GvA (w.heap.size) l (fun x Bk=>{ tmps:=#[.slice none 0 0,.func (.func 218) #[] lb,.pointer (some ⟨w.heap.size,0,none⟩),undef,.slice none 0 0,.pointer (some ⟨Bk,0,none⟩),.func (.func 218) #[] lb,.agg #[.int .i64 x.k.kind,.int .i64 x.k.num,.string x.k.text,.slice x.a1 x.k.items.length x.c1],undef,undef,undef,undef,undef,undef,undef],defers:=[] })) (fun pre x a'=>GvA.own _ _ _ (by omega) _ _ _ _) ?assign ?body ?done ?stop
 case assign=>
  rintro lp pre x V W K hI hbVW ⟨hN,hpx⟩ hK
  have hba:Below W.heap.size W (W.alloc (.cells #[.int .i64 x.k.kind,.int .i64 x.k.num,.string x.k.text,.slice x.a1 x.k.items.length x.c1] 33)):=((Grew.refl W).alloc _).below
  have hws:w.heap.size≤W.heap.size:=Nat.le_trans hI.1.2.size hbVW.size
  obtain⟨hA,hI3⟩:=GvA.make (l:=l) (f:=(fun x Bk=>{ tmps:=#[.slice none 0 0,.func (.func 218) #[] lb,.pointer (some ⟨w.heap.size,0,none⟩),undef,.slice none 0 0,.pointer (some ⟨Bk,0,none⟩),.func (.func 218) #[] lb,.agg #[.int .i64 x.k.kind,.int .i64 x.k.num,.string x.k.text,.slice x.a1 x.k.items.length x.c1],undef,undef,undef,undef,undef,undef,undef],defers:=[] })) hI.1 hbVW hN hpx
  skip
  have HK:Hid (K _ _):=hK _ _ ((KeepsOthers.alloc W _).from _) ⟨hba.mono hws,KBy.below hba,keepsBelowY hba⟩ ⟨hI3,hI.2⟩ hA
  clear hK hA
  unfold encCV
  gi_wp2
  exact HK.out
 case body=>
  rintro lp pre x a' W hlp ⟨⟨⟨v',bx0,hrow,hl⟩,hB⟩,hpl⟩ ⟨Bk,v,bk,hBk,bx',hnk,hLk,hpx,rfl⟩ hlt
  have hvv:v'=v:=by
   have h1:W.heap[w.heap.size]? = some (.cells #[v] 22 (0,0)):=bx'
   have h2:W.heap[w.heap.size]? = some (.cells #[v'] 22 (0,0)):=bx0
   rw [h1] at h2
   injection h2 with h2
   injection h2 with h2
   simpa using h2.symm
  subst hvv
  obtain⟨av,cv,hv⟩:∃a c,v'=.slice a pre.length c:=by
   rcases hrow.2 with ⟨rfl,e⟩|⟨g,cap,_,rfl,_⟩
   ·exact⟨none,0,by rw [e]⟩
   ·exact⟨_,_,rfl⟩
  subst hv
  obtain⟨k,hk⟩:∃k,k=pre.length:=⟨_,rfl⟩
  have hpx2:(pre++[x]).map CV.k <+: l:=by rw [List.map_append];exact hpx
  have hkl:k+1≤l.length:=by have:=hpx2.length_le;rw [List.length_map,List.length_append,←hk] at this;exact this
  have hkq:k≤65537:=by have:=HL.out;omega
  have HStep:Hid (∀(g cap:Nat) (w3:World),w3.ownsRow w.heap.size 33 4 (.slice (some ⟨g,0,none⟩) (k+1) cap) (k+1) (pre.flatMap (fun x=>encP x.p)++[.int .i64 0,.int .i64 0,.string ⟨#[]⟩,.slice none 0 0])→(W.alloc Z4V).drew.grownBy w3 (Value.slice av k cv).ownBlock→((Value.slice av k cv).ownBlock=some g∨g=(W.alloc Z4V).drew.heap.size)→_):=fun g cap w3 h1 h2 h3=>gv_step (B:=w.heap.size) (n1:=Wi.heap.size+2) hk (by omega) (by rw [hk];exact⟨bx',hrow,hl⟩) hB (by rw [hk];exact hLk) g cap w3 h1 h2 h3
  rw [←hk] at bx' hrow hnk hlt
  obtain⟨y0,y1,y2,y3⟩:=bk.cells
  have hc:=bx'.cell
  have hBl:=bx'.lt
  have hBkl:=bk.lt
  skip
  have hcD:W.drew.cell? ⟨w.heap.size,0,none⟩=some (.slice av k cv):=hc
  have d0:W.drew.cell? ⟨Bk,0,none⟩=some (.int .i64 x.k.kind):=y0
  have d1:W.drew.cell? ⟨Bk,1,none⟩=some (.int .i64 x.k.num):=y1
  have d2:W.drew.cell? ⟨Bk,2,none⟩=some (.string x.k.text):=y2
  have d3:W.drew.cell? ⟨Bk,3,none⟩=some (.slice x.a1 x.k.items.length x.c1):=y3
  have hn1 : ¬(Bk=W.heap.size):=by omega
  have hn2 : ¬(w.heap.size=W.heap.size):=by omega
  have HRow:Hid ((W.alloc Z4V).drew.ownsRow w.heap.size 33 4 (.slice av k cv) k (pre.flatMap (fun x=>encP x.p))):=(hrow.alloc _).drew
  have Hbs:Hid (w.heap.size≤(W.alloc Z4V).drew.heap.size):=by
   have:=hB.size
   show _≤_
   simp
   omega
  have Hxl:Hid ((pre.flatMap (fun x=>encP x.p)).length=k*4):=hrow.1
  have HP:Hid ((pre++[x]).map CV.k <+: l):=hpx2
  have Hk:Hid (k=pre.length):=hk
  have hmx:Tryz.prog.follows .mixedOrders=true:=by kernel_rfl
  have hkk:((k:Nat):Int)<(k:Nat)+1:=by omega
  clear hrow bx' bx0 bk hB hlp hlt hk hl hLk hnk hpx hpx2 hkl hpl
  gi_wp2
  refine wpIn_region_any hmx ?_
  change wpAnyIn _ _ _ _ _ _ _ _ _ (World.drew _)
  all_goals (first|refine wpAnyIn_ready (rs:=[0,1,3]) (by decide +kernel) (by simp) (AllReadyIn.cons rfl (fun K hK=>?_) (AllReadyIn.cons rfl (fun K hK=>?_) (AllReadyIn.cons rfl (fun K hK=>?_) AllReadyIn.nil))))
  all_goals (go_simp;refine hK _ _ ?_;clear hK K)
  all_goals (first|refine wpAnyIn_ready (rs:=[1,2,3]) (by decide +kernel) (by simp) (AllReadyIn.cons rfl (fun K hK=>?_) (AllReadyIn.cons rfl (fun K hK=>?_) (AllReadyIn.cons rfl (fun K hK=>?_) AllReadyIn.nil)))|refine wpAnyIn_ready (rs:=[0,3]) (by decide +kernel) (by simp) (AllReadyIn.cons rfl (fun K hK=>?_) (AllReadyIn.cons rfl (fun K hK=>?_) AllReadyIn.nil))|refine wpAnyIn_ready (rs:=[0,1]) (by decide +kernel) (by simp) (AllReadyIn.cons rfl (fun K hK=>?_) (AllReadyIn.cons rfl (fun K hK=>?_) AllReadyIn.nil)))
  all_goals (go_simp;refine hK _ _ ?_;clear hK K)
  all_goals (first|refine wpAnyIn_ready (rs:=[2,3]) (by decide +kernel) (by simp) (AllReadyIn.cons rfl (fun K hK=>?_) (AllReadyIn.cons rfl (fun K hK=>?_) AllReadyIn.nil))|refine wpAnyIn_ready (rs:=[1,3]) (by decide +kernel) (by simp) (AllReadyIn.cons rfl (fun K hK=>?_) (AllReadyIn.cons rfl (fun K hK=>?_) AllReadyIn.nil))|refine wpAnyIn_ready (rs:=[1,2]) (by decide +kernel) (by simp) (AllReadyIn.cons rfl (fun K hK=>?_) (AllReadyIn.cons rfl (fun K hK=>?_) AllReadyIn.nil))|refine wpAnyIn_ready (rs:=[0]) (by decide +kernel) (by simp) (AllReadyIn.cons rfl (fun K hK=>?_) AllReadyIn.nil))
  all_goals (go_simp;refine hK _ _ ?_;clear hK K)
  all_goals (first|refine wpAnyIn_ready (rs:=[3]) (by decide +kernel) (by simp) (AllReadyIn.cons rfl (fun K hK=>?_) AllReadyIn.nil)|refine wpAnyIn_ready (rs:=[2]) (by decide +kernel) (by simp) (AllReadyIn.cons rfl (fun K hK=>?_) AllReadyIn.nil)|refine wpAnyIn_ready (rs:=[1]) (by decide +kernel) (by simp) (AllReadyIn.cons rfl (fun K hK=>?_) AllReadyIn.nil))
  all_goals (go_simp;refine hK _ _ ?_;clear hK K)
  all_goals refine ?restV9
  refine wpAnyIn_ready (rs:=[4]) (by kernel_rfl) (by simp) ?_
  refine AllReadyIn.cons rfl (fun K hK=>?_) ?_
  ·refine appV_step rfl _ _ rfl w.heap.size (.slice av k cv) k (pre.flatMap (fun x=>encP x.p)) rfl HRow.out _ rfl (by simp) (by simp) (by simp) (by simp) hkq Hbs.out ?_
   intro g3 cap3 w3 hown3 hgrow3 hg3 hgl3
   obtain⟨hbx3,hboxes,hgB,hstep⟩:=HStep.out g3 cap3 w3 hown3 hgrow3 hg3
   have hc3:=hbx3.cell
   have hf3:=hbx3.frozen
   have hgB2 : ¬(w.heap.size=g3):=fun e=>hgB e.symm
   have q0:=hown3.cellAt (k*4) (by omega)
   have q1:=hown3.cellAt (k*4+1) (by omega)
   have q2:=hown3.cellAt (k*4+2) (by omega)
   have q3:=hown3.cellAt (k*4+3) (by omega)
   rw [List.getElem?_append_right (by rw [Hxl.out];omega),Hxl.out] at q0 q1 q2 q3
   simp only [Nat.sub_self,Nat.add_sub_cancel_left,List.getElem?_cons_zero,List.getElem?_cons_succ] at q0 q1 q2 q3
   have z0:=hown3.frozenAt (k*4)
   have z1:=hown3.frozenAt (k*4+1)
   have z2:=hown3.frozenAt (k*4+2)
   have z3:=hown3.frozenAt (k*4+3)
   have Hst:Hid _:=hstep
   clear hown3 hgrow3 hg3 hstep hboxes
   refine hK _ _ ?_
   clear hK K
   refine wpAnyIn_ready (rs:=[5,7]) (by kernel_rfl) (by simp) ?_
   refine AllReadyIn.cons rfl (fun K hK=>?_) ?_
   ·go_simp
    refine hK _ _ ?_
    clear hK K
    refine wpAnyIn_ready (rs:=[6,7]) (by kernel_rfl) (by simp) ?_
    refine AllReadyIn.cons rfl (fun K hK=>?_) ?_
    ·go_simp
     refine hK _ _ ?_
     clear hK K
     refine wpAnyIn_ready (rs:=[7]) (by kernel_rfl) (by simp) ?_
     refine AllReadyIn.cons rfl (fun K hK=>?_) ?_
     ·go_simp
      refine hK _ _ ?_
      clear hK K
      refine wpAnyIn_done (by kernel_rfl) ?_ _
      obtain⟨k1,k2,k3,k4⟩:=Hst.out _ (Or.inl rfl)
      exact⟨k1.from _,k2,⟨⟨_,k3⟩,k4⟩,HP.out⟩
     exact AllReadyIn.nil
    refine AllReadyIn.cons rfl (fun K hK=>?_) ?_
    ·go_simp
     refine hK _ _ ?_
     clear hK K
     refine wpAnyIn_ready (rs:=[6]) (by kernel_rfl) (by simp) ?_
     refine AllReadyIn.cons rfl (fun K hK=>?_) ?_
     ·go_simp
      refine hK _ _ ?_
      clear hK K
      refine wpAnyIn_done (by kernel_rfl) ?_ _
      obtain⟨k1,k2,k3,k4⟩:=Hst.out _ (Or.inr rfl)
      exact⟨k1.from _,k2,⟨⟨_,k3⟩,k4⟩,HP.out⟩
     exact AllReadyIn.nil
    exact AllReadyIn.nil
   refine AllReadyIn.cons rfl (fun K hK=>?_) ?_
   ·go_simp
    refine hK _ _ ?_
    clear hK K
    refine wpAnyIn_ready (rs:=[5]) (by kernel_rfl) (by simp) ?_
    refine AllReadyIn.cons rfl (fun K hK=>?_) ?_
    ·go_simp
     refine hK _ _ ?_
     clear hK K
     refine wpAnyIn_ready (rs:=[6]) (by kernel_rfl) (by simp) ?_
     refine AllReadyIn.cons rfl (fun K hK=>?_) ?_
     ·go_simp
      refine hK _ _ ?_
      clear hK K
      refine wpAnyIn_done (by kernel_rfl) ?_ _
      obtain⟨k1,k2,k3,k4⟩:=Hst.out _ (Or.inr rfl)
      exact⟨k1.from _,k2,⟨⟨_,k3⟩,k4⟩,HP.out⟩
     exact AllReadyIn.nil
    exact AllReadyIn.nil
   exact AllReadyIn.nil
  exact AllReadyIn.nil
 case done=>
  rintro D pre W hD hxs ⟨⟨⟨v,hR⟩,hB⟩,hpl⟩ hK
  have htk:pre.map CV.k=l:=hxs
  have hpl2:pre.length≤65536:=by have:=congrArg List.length htk;rw [List.length_map] at this;skip;have:=HL.out;omega
  have hS:SlP w.heap.size 16 W (pre.map CV.p) v:=hR.slp hpl2
  obtain⟨av,cv,rfl,_⟩:=hS.slice
  obtain⟨NL,hNL⟩:∃NL,NL=(pre.map CV.p).length:=⟨_,rfl⟩
  rw [←hNL] at hS hR
  have hc:=hR.1.cell
  have HS:Hid (SlP w.heap.size 16 W (pre.map CV.p) (.slice av NL cv)∧Below w.heap.size w W):=⟨hS,hB⟩
  have HMk:Hid (MarksX w.heap.size W [D]):=MarksX.one (by omega) hK
  have HT:Hid ((pre.map CV.p).map (·.1)=l):=by rw [map_p_k];exact htk
  clear hR hS hB hK hNL htk hxs
  gi_wp2
  refine leavesX w.heap.size (fun V=>SlP w.heap.size 16 V (pre.map CV.p) (.slice av NL cv)∧Below w.heap.size w V) (fun V D hD hK hT=>⟨slp_putObj hT.1 hK rfl,hT.2.trans (below_putX hD)⟩) (fun V hT=>⟨.slice av NL cv,by simp [results,Tryz.results153,go_sem],hT.2,_,_,rfl,HT.out,hT.1⟩) [D] _ HMk.out HS.out
 case stop=>
  rintro D c pre W _ _ h _
  exact h.elim
set_option maxRecDepth 100000 in
theorem scollect_16 (l:List VT) (hlen:l.length≤65536) (lb:Array Value) (w:World)
 (hseq:∀(n:Nat) (W:World),6≤n→Below w.heap.size w W→SeqX Fence.wide n Tryz.prog 218 lb encCV (KpY 22 w.heap.size) (PreCV l) (fun xs=>xs.map CV.k=l) (fun _=>True) l.length W) :
 Calls Tryz.prog 97 #[.func (.func 218) #[] lb] w (ItPost w.heap.size l w):=by
 have HA:Hid _:=sappend_16 l hlen lb w hseq
 clear hseq
 go_enter Tryz.func97,Tryz.ntmps97
 go_wp2_with fail
 refine Calls.mono HA.out ?_
 rintro e w1 ⟨hb,ps,v,rfl,hm,hS⟩
 have HE:Hid (ItPost w.heap.size l w (.returned v) w1):=⟨hb,ps,v,rfl,hm,hS⟩
 obtain⟨av,cv,rfl,_⟩:=hS.slice
 clear hb hm hS HA
 go_wp2_with fail
 go_ret
 exact HE.out
theorem SC.seq {w0:World} {q:Nat} {l:List PT} {s:Nat} (h:SC w0 q l s):∃b,w0.cell? ⟨s,0,none⟩=some (.pointer (some ⟨b,0,none⟩))∧l.length≤65536∧∀(n Bm:Nat) (W:World),6≤n→Below w0.heap.size w0 W→W.cell? ⟨Bm,0,none⟩=some (.pointer (some ⟨b,0,none⟩))→SeqX Fence.wide n Tryz.prog 218 #[.pointer (some ⟨Bm,0,none⟩)] encCV (KpY 22 w0.heap.size) (PreCV (l.map (·.1))) (fun xs=>xs.map CV.k=l.map (·.1)) (fun _=>True) (l.map (·.1)).length W:=by
 obtain⟨b,t,h1,hm,rfl,_⟩:=h
 refine⟨b,h1,?_,fun n Bm W hn hW hc=>?_⟩
 ·have:=hm.size
  rwa [RT.size_items] at this
 ·rw [List.length_map]
  exact sall1_16 hm 22 (by decide) (by decide) n Bm hn W hW hc
set_option maxRecDepth 100000 in
theorem sitems_16 {w:World} {q:Nat} {l:List PT} {s:Nat} (h:SC w q l s):Calls Tryz.prog 46 #[.pointer (some ⟨s,0,none⟩)] w (ItPost w.heap.size (l.map (·.1)) w):=by
 obtain⟨b,hs,hl,hq⟩:=h.seq
 have hb:Below w.heap.size w (w.alloc (.cells #[.pointer (some ⟨b,0,none⟩)] 112)):=((Grew.refl w).alloc _).below
 have hc9:(w.alloc (.cells #[.pointer (some ⟨b,0,none⟩)] 112)).cell? ⟨w.heap.size,0,none⟩=some (.pointer (some ⟨b,0,none⟩)):=(Go.Boxed.new w 112 _).cell
 have HA:Hid (Calls Tryz.prog 97 #[.func (.func 218) #[] #[.pointer (some ⟨w.heap.size,0,none⟩)]] (w.alloc (.cells #[.pointer (some ⟨b,0,none⟩)] 112)) (ItPost w.heap.size (l.map (·.1)) w)):=by
  obtain⟨b2,hs2,_,hq2⟩:=(h.keeps hb).seq
  have e2:b2=b:=by
   have h9:=zaa hb hs
   rw [hs2] at h9
   injection h9 with h9
   injection h9 with h9
   injection h9 with h9
   injection h9
  subst e2
  refine (scollect_16 (l.map (·.1)) (by rw [List.length_map];exact hl) _ _ (fun n W hn hW=>hq2 n _ W hn hW (zaa hW hc9))).mono fun e w' h=>?_
  obtain⟨h1,ps,v,h2,h3,h4⟩:=h
  exact⟨hb.trans (h1.mono hb.size),ps,v,h2,h3,h4.mono hb.size⟩
 clear hq hb hc9 h
 go_enter Tryz.func46,Tryz.ntmps46
 go_wp2_with fail
 refine (sall_16 s b _ hs).mono ?_
 rintro e w1 ⟨rfl,hw1⟩
 subst hw1
 go_wp2_with fail
 refine Calls.mono HA.out ?_
 rintro e w1 ⟨hb,ps,v,rfl,hm,hS⟩
 have HE:Hid (ItPost w.heap.size (l.map (·.1)) w (.returned v) w1):=⟨hb,ps,v,rfl,hm,hS⟩
 obtain⟨av,cv,rfl,_⟩:=hS.slice
 clear hb hm hS HA
 go_wp2_with fail
 go_ret
 exact HE.out
end Go.Proofs.YtlnecfjnffdciabGreat

namespace Go.Proofs.YtlnecfjnffdciabGreat
open Go.RowKit Go.Shelf
attribute [local go_sem] Oper.semAt_some
theorem eql_nilF16 (f:Fn) (lb:Array Value) (W:World):Sem.run Tryz.prog (binOp BinOp.eql 137 (.func f #[] lb) .nilFunc) W=.ok (.bool false) W:=by
 first|kernel_rfl|rfl
set_option maxRecDepth 100000 in
set_option maxHeartbeats 32000000 in
theorem sgone_16 (l:List VT) (hlen:l.length≤65536) (M:Nat) (hM:1≤M) (hM2:M≤65537) (s b:Nat) (w:World) (hs:w.cell? ⟨s,0,none⟩=some (.pointer (some ⟨b,0,none⟩)))
 (hseq:∀(n Bm:Nat) (W:World),6≤n→Below w.heap.size w W→W.cell? ⟨Bm,0,none⟩=some (.pointer (some ⟨b,0,none⟩))→SeqX Fence.wide n Tryz.prog 218 #[.pointer (some ⟨Bm,0,none⟩)] encCV (KpY 22 w.heap.size) (PreCV l) (fun xs=>xs.map CV.k=l) (fun _=>True) l.length W) :
 Calls Tryz.prog 67 #[.pointer (some ⟨s,0,none⟩),.int .i64 (M:Int)] w (ItPost w.heap.size (l.take M) w):=by
 refine (callsIn_wide (n:=8)).1 ?_
 refine callsIn_of_wp_marks Tryz.func67 rfl trivial ?_ rfl
 simp only [Tryz.ntmps67,List.size_toArray,List.length_cons,List.length_nil,Nat.reduceAdd,Nat.reduceSub,Array.replicate_succ,Array.replicate_zero,List.push_toArray,List.append_toArray,List.nil_append,List.cons_append]
 have hM1 : ¬((M:Nat):Int)<1:=by omega
 have tf:=eql_nilF16
 have HSq:Hid _:=hseq
 have HL:Hid (l.length≤65536):=hlen
 have Hs:Hid (w.cell? ⟨s,0,none⟩=some (.pointer (some ⟨b,0,none⟩))):=hs
 clear hseq hlen
 gi_wp2
 refine⟨trivial,?_⟩
 refine (callsIn_wide.2 (sall_16 s b _ (zaa (((Grew.refl w).alloc _).alloc _).below Hs.out))).mono ?_
 rintro e w1 ⟨rfl,rfl⟩
 simp only [World.size_alloc]
 gi_wp2
 obtain⟨Wi,hWi⟩:∃Wi,Wi=(((w.alloc (.cells #[.int .i64 (M:Int)] 3)).alloc (.cells #[.slice none 0 0] 22)).alloc (.cells #[.pointer (some ⟨b,0,none⟩)] 112)):=⟨_,rfl⟩
 rw [←hWi]
 have hB0:Below w.heap.size w Wi:=by rw [hWi];exact (((Grew.refl w).alloc _).alloc _).alloc _ |>.below
 have hsz:Wi.heap.size=w.heap.size+3:=by rw [hWi];simp
 have cM:Wi.cell? ⟨w.heap.size+1+1,0,none⟩=some (.pointer (some ⟨b,0,none⟩)):=by
  rw [hWi]
  have h9:=(Go.Boxed.new ((w.alloc (.cells #[.int .i64 (M:Int)] 3)).alloc (.cells #[.slice none 0 0] 22)) 112 (.pointer (some ⟨b,0,none⟩))).cell
  simpa only [World.size_alloc] using h9
 have hG0:GvI w (w.heap.size+1) [] Wi:=by
  refine⟨⟨.slice none 0 0,?_,World.ownsRow_nil _ _ _ _,fun x hx=>by cases hx⟩,hB0⟩
  rw [hWi]
  have h9:=(Go.Boxed.new (w.alloc (.cells #[.int .i64 (M:Int)] 3)) 22 (.slice none 0 0)).alloc (.cells #[.pointer (some ⟨b,0,none⟩)] 112)
  simpa only [World.size_alloc] using h9
 have hM0:Go.Boxed Wi w.heap.size 3 (.int .i64 (M:Int)):=by
  rw [hWi]
  exact ((Go.Boxed.new w 3 (.int .i64 (M:Int))).alloc _).alloc _
 have HM:Hid (1≤M∧M≤65537):=⟨hM,hM2⟩
 have HSq2:Hid _:=HSq.out 7 (w.heap.size+1+1) Wi (by omega) hB0 cM
 clear hWi tf hM hM2 hs cM HSq
 refine rangeX (α:=CV) rfl (by omega) (gf:=218) (lb:=#[.pointer (some ⟨w.heap.size+1+1,0,none⟩)]) rfl trivial (enters_of Tryz.func218 (by kernel_rfl) rfl)
  HSq2.out kpY_t (fun W o o' hl ho=>kpY_b (by omega) (by omega) W o o' hl ho) (Below.refl _ _) (fun _=>rfl)
  (fun pre W=>GvI w (w.heap.size+1) pre W∧Go.Boxed W w.heap.size 3 (.int .i64 (M:Int))∧pre.length<M∧pre.map CV.k <+: l) (fun c pre W=>c=.exit 0∧GvI w (w.heap.size+1) pre W∧pre.length=M∧pre.map CV.k <+: l)
  (fun s A V row hs hg hr=>⟨GvI.own w _ _ (by omega) (by omega) s A V row hs.1 hg hr,hs.2.1.kept hg (fun e=>by have:=(hr _ e.symm).1;omega),hs.2.2⟩) (fun c s A V row hs hg hr=>⟨hs.1,GvI.own w _ _ (by omega) (by omega) s A V row hs.2.1 hg hr,hs.2.2⟩) ⟨hG0,hM0,by have:=HM.out.1;simp;omega,by simp⟩
  (GvA (w.heap.size+1) l (fun x Bk=>{ tmps:=#[.pointer (some ⟨s,0,none⟩),.int .i64 (M:Int),undef,.pointer (some ⟨w.heap.size,0,none⟩),.slice none 0 0,.pointer (some ⟨w.heap.size+1,0,none⟩),.func (.func 218) #[] #[.pointer (some ⟨w.heap.size+1+1,0,none⟩)],.pointer (some ⟨Bk,0,none⟩),.pointer (some ⟨s,0,none⟩),.func (.func 218) #[] #[.pointer (some ⟨w.heap.size+1+1,0,none⟩)],.func (.func 218) #[] #[.pointer (some ⟨w.heap.size+1+1,0,none⟩)],.bool false,.bool false,.int .i64 (M:Int),.bool (decide ((M:Int)<1)),.bool (decide ((M:Int)<1)),.func (.func 218) #[] #[.pointer (some ⟨w.heap.size+1+1,0,none⟩)],.agg #[.int .i64 x.k.kind,.int .i64 x.k.num,.string x.k.text,.slice x.a1 x.k.items.length x.c1],undef,undef,undef,undef,undef,undef,undef,undef,undef,undef,undef],defers:=[] })) (fun pre x a'=>GvA.own _ _ _ (by omega) _ _ _ _) ?assign ?body ?done ?stop
 case assign=>
  rintro lp pre x V W K hI hbVW ⟨hN,hpx⟩ hK
  have hba:Below W.heap.size W (W.alloc (.cells #[.int .i64 x.k.kind,.int .i64 x.k.num,.string x.k.text,.slice x.a1 x.k.items.length x.c1] 33)):=((Grew.refl W).alloc _).below
  have hws:w.heap.size≤W.heap.size:=Nat.le_trans hI.1.2.size hbVW.size
  obtain⟨hA,hI3⟩:=GvA.make (l:=l) (f:=(fun x Bk=>{ tmps:=#[.pointer (some ⟨s,0,none⟩),.int .i64 (M:Int),undef,.pointer (some ⟨w.heap.size,0,none⟩),.slice none 0 0,.pointer (some ⟨w.heap.size+1,0,none⟩),.func (.func 218) #[] #[.pointer (some ⟨w.heap.size+1+1,0,none⟩)],.pointer (some ⟨Bk,0,none⟩),.pointer (some ⟨s,0,none⟩),.func (.func 218) #[] #[.pointer (some ⟨w.heap.size+1+1,0,none⟩)],.func (.func 218) #[] #[.pointer (some ⟨w.heap.size+1+1,0,none⟩)],.bool false,.bool false,.int .i64 (M:Int),.bool (decide ((M:Int)<1)),.bool (decide ((M:Int)<1)),.func (.func 218) #[] #[.pointer (some ⟨w.heap.size+1+1,0,none⟩)],.agg #[.int .i64 x.k.kind,.int .i64 x.k.num,.string x.k.text,.slice x.a1 x.k.items.length x.c1],undef,undef,undef,undef,undef,undef,undef,undef,undef,undef,undef],defers:=[] })) hI.1 hbVW hN hpx
  have hm9:=(hbVW.block _ hI.2.1.lt).trans hI.2.1
  have HK:Hid (K _ _):=hK _ _ ((KeepsOthers.alloc W _).from _) ⟨hba.mono hws,KBy.below hba,keepsBelowY hba⟩ ⟨hI3,(show Go.Boxed W w.heap.size 3 (.int .i64 (M:Int)) from hm9).alloc _,hI.2.2⟩ hA
  clear hK hA
  unfold encCV
  gi_wp2
  exact HK.out
 case body=>
  rintro lp pre x a' W hlp ⟨⟨⟨v',bx0,hrow,hl⟩,hB⟩,b1,hlM,hpl⟩ ⟨Bk,v,bk,hBk,bx',hnk,hLk,hpx,rfl⟩ hlt
  have hvv:v'=v:=by
   have h1:W.heap[w.heap.size+1]? = some (.cells #[v] 22 (0,0)):=bx'
   have h2:W.heap[w.heap.size+1]? = some (.cells #[v'] 22 (0,0)):=bx0
   rw [h1] at h2
   injection h2 with h2
   injection h2 with h2
   simpa using h2.symm
  subst hvv
  obtain⟨av,cv,hv⟩:∃a c,v'=.slice a pre.length c:=by
   rcases hrow.2 with ⟨rfl,e⟩|⟨g,cap,_,rfl,_⟩
   ·exact⟨none,0,by rw [e]⟩
   ·exact⟨_,_,rfl⟩
  subst hv
  obtain⟨k,hk⟩:∃k,k=pre.length:=⟨_,rfl⟩
  have hpx2:(pre++[x]).map CV.k <+: l:=by rw [List.map_append];exact hpx
  have hkl:k+1≤l.length:=by have:=hpx2.length_le;rw [List.length_map,List.length_append,←hk] at this;exact this
  have hkq:k≤65537:=by have:=HL.out;omega
  have HStep:Hid (∀(g cap:Nat) (w3:World),w3.ownsRow w.heap.size 33 4 (.slice (some ⟨g,0,none⟩) (k+1) cap) (k+1) (pre.flatMap (fun x=>encP x.p)++[.int .i64 0,.int .i64 0,.string ⟨#[]⟩,.slice none 0 0])→(W.alloc Z4V).drew.grownBy w3 (Value.slice av k cv).ownBlock→((Value.slice av k cv).ownBlock=some g∨g=(W.alloc Z4V).drew.heap.size)→_):=fun g cap w3 h1 h2 h3=>gv_step (B:=w.heap.size+1) (n1:=Wi.heap.size+2) hk (by omega) (by rw [hk];exact⟨bx',hrow,hl⟩) hB (by rw [hk];exact hLk) g cap w3 h1 h2 h3
  rw [←hk] at bx' hrow hnk hlt hlM
  obtain⟨y0,y1,y2,y3⟩:=bk.cells
  have hc:=bx'.cell
  have hBl:=bx'.lt
  have hBkl:=bk.lt
  have c4:=b1.cell
  have HB1:Hid (Go.Boxed W w.heap.size 3 (.int .i64 (M:Int))):=b1
  have hcD:W.drew.cell? ⟨w.heap.size+1,0,none⟩=some (.slice av k cv):=hc
  have d0:W.drew.cell? ⟨Bk,0,none⟩=some (.int .i64 x.k.kind):=y0
  have d1:W.drew.cell? ⟨Bk,1,none⟩=some (.int .i64 x.k.num):=y1
  have d2:W.drew.cell? ⟨Bk,2,none⟩=some (.string x.k.text):=y2
  have d3:W.drew.cell? ⟨Bk,3,none⟩=some (.slice x.a1 x.k.items.length x.c1):=y3
  have hn1 : ¬(Bk=W.heap.size):=by omega
  have hn2 : ¬(w.heap.size+1=W.heap.size):=by omega
  have HRow:Hid ((W.alloc Z4V).drew.ownsRow w.heap.size 33 4 (.slice av k cv) k (pre.flatMap (fun x=>encP x.p))):=(hrow.alloc _).drew
  have Hbs:Hid (w.heap.size≤(W.alloc Z4V).drew.heap.size):=by
   have:=hB.size
   show _≤_
   simp
   omega
  have Hxl:Hid ((pre.flatMap (fun x=>encP x.p)).length=k*4):=hrow.1
  have HP:Hid ((pre++[x]).map CV.k <+: l):=hpx2
  have Hk:Hid (k=pre.length):=hk
  have hmx:Tryz.prog.follows .mixedOrders=true:=by kernel_rfl
  have hkk:((k:Nat):Int)<(k:Nat)+1:=by omega
  clear hrow bx' bx0 bk hB hlp hlt hk hl hLk hnk hpx hpx2 hkl b1 hpl
  by_cases hge:k+1=M
  ·have hgeI:((M:Nat):Int)≤(k:Int)+1:=by omega
   have hgeN:M≤k+1:=by omega
   have Hge:Hid (k+1=M):=hge
   clear hge hlM
   gi_wp2
   refine wpIn_region_any hmx ?_
   change wpAnyIn _ _ _ _ _ _ _ _ _ (World.drew _)
   all_goals (first|refine wpAnyIn_ready (rs:=[0,1,3]) (by decide +kernel) (by simp) (AllReadyIn.cons rfl (fun K hK=>?_) (AllReadyIn.cons rfl (fun K hK=>?_) (AllReadyIn.cons rfl (fun K hK=>?_) AllReadyIn.nil))))
   all_goals (go_simp;refine hK _ _ ?_;clear hK K)
   all_goals (first|refine wpAnyIn_ready (rs:=[1,2,3]) (by decide +kernel) (by simp) (AllReadyIn.cons rfl (fun K hK=>?_) (AllReadyIn.cons rfl (fun K hK=>?_) (AllReadyIn.cons rfl (fun K hK=>?_) AllReadyIn.nil)))|refine wpAnyIn_ready (rs:=[0,3]) (by decide +kernel) (by simp) (AllReadyIn.cons rfl (fun K hK=>?_) (AllReadyIn.cons rfl (fun K hK=>?_) AllReadyIn.nil))|refine wpAnyIn_ready (rs:=[0,1]) (by decide +kernel) (by simp) (AllReadyIn.cons rfl (fun K hK=>?_) (AllReadyIn.cons rfl (fun K hK=>?_) AllReadyIn.nil)))
   all_goals (go_simp;refine hK _ _ ?_;clear hK K)
   all_goals (first|refine wpAnyIn_ready (rs:=[2,3]) (by decide +kernel) (by simp) (AllReadyIn.cons rfl (fun K hK=>?_) (AllReadyIn.cons rfl (fun K hK=>?_) AllReadyIn.nil))|refine wpAnyIn_ready (rs:=[1,3]) (by decide +kernel) (by simp) (AllReadyIn.cons rfl (fun K hK=>?_) (AllReadyIn.cons rfl (fun K hK=>?_) AllReadyIn.nil))|refine wpAnyIn_ready (rs:=[1,2]) (by decide +kernel) (by simp) (AllReadyIn.cons rfl (fun K hK=>?_) (AllReadyIn.cons rfl (fun K hK=>?_) AllReadyIn.nil))|refine wpAnyIn_ready (rs:=[0]) (by decide +kernel) (by simp) (AllReadyIn.cons rfl (fun K hK=>?_) AllReadyIn.nil))
   all_goals (go_simp;refine hK _ _ ?_;clear hK K)
   all_goals (first|refine wpAnyIn_ready (rs:=[3]) (by decide +kernel) (by simp) (AllReadyIn.cons rfl (fun K hK=>?_) AllReadyIn.nil)|refine wpAnyIn_ready (rs:=[2]) (by decide +kernel) (by simp) (AllReadyIn.cons rfl (fun K hK=>?_) AllReadyIn.nil)|refine wpAnyIn_ready (rs:=[1]) (by decide +kernel) (by simp) (AllReadyIn.cons rfl (fun K hK=>?_) AllReadyIn.nil))
   all_goals (go_simp;refine hK _ _ ?_;clear hK K)
   all_goals refine ?restV9
   refine wpAnyIn_ready (rs:=[4]) (by kernel_rfl) (by simp) ?_
   refine AllReadyIn.cons rfl (fun K hK=>?_) ?_
   ·refine appV_step rfl _ _ rfl w.heap.size (.slice av k cv) k (pre.flatMap (fun x=>encP x.p)) rfl HRow.out _ rfl (by simp) (by simp) (by simp) (by simp) hkq Hbs.out ?_
    intro g3 cap3 w3 hown3 hgrow3 hg3 hgl3
    obtain⟨hbx3,hboxes,hgB,hstep⟩:=HStep.out g3 cap3 w3 hown3 hgrow3 hg3
    have hm3:=(hboxes _ _ _ HB1.out).1.cell
    have hgn2 : ¬(w.heap.size=g3):=fun e=>(hboxes _ _ _ HB1.out).2 e.symm
    have hc3:=hbx3.cell
    have hf3:=hbx3.frozen
    have hgB2 : ¬(w.heap.size+1=g3):=fun e=>hgB e.symm
    have q0:=hown3.cellAt (k*4) (by omega)
    have q1:=hown3.cellAt (k*4+1) (by omega)
    have q2:=hown3.cellAt (k*4+2) (by omega)
    have q3:=hown3.cellAt (k*4+3) (by omega)
    rw [List.getElem?_append_right (by rw [Hxl.out];omega),Hxl.out] at q0 q1 q2 q3
    simp only [Nat.sub_self,Nat.add_sub_cancel_left,List.getElem?_cons_zero,List.getElem?_cons_succ] at q0 q1 q2 q3
    have z0:=hown3.frozenAt (k*4)
    have z1:=hown3.frozenAt (k*4+1)
    have z2:=hown3.frozenAt (k*4+2)
    have z3:=hown3.frozenAt (k*4+3)
    have Hst:Hid _:=hstep
    clear hown3 hgrow3 hg3 hstep hboxes
    refine hK _ _ ?_
    clear hK K
    refine wpAnyIn_ready (rs:=[5,7]) (by kernel_rfl) (by simp) ?_
    refine AllReadyIn.cons rfl (fun K hK=>?_) ?_
    ·go_simp
     refine hK _ _ ?_
     clear hK K
     refine wpAnyIn_ready (rs:=[6,7]) (by kernel_rfl) (by simp) ?_
     refine AllReadyIn.cons rfl (fun K hK=>?_) ?_
     ·go_simp
      refine hK _ _ ?_
      clear hK K
      refine wpAnyIn_ready (rs:=[7]) (by kernel_rfl) (by simp) ?_
      refine AllReadyIn.cons rfl (fun K hK=>?_) ?_
      ·go_simp
       refine hK _ _ ?_
       clear hK K
       refine wpAnyIn_done (by kernel_rfl) ?_ _
       gi_wp2
       obtain⟨k1,k2,k3,k4⟩:=Hst.out _ (Or.inl rfl)
       exact⟨k1.from _,k2,rfl,⟨⟨_,k3⟩,k4⟩,by rw [List.length_append,←Hk.out,←Hge.out];rfl,HP.out⟩
      exact AllReadyIn.nil
     refine AllReadyIn.cons rfl (fun K hK=>?_) ?_
     ·go_simp
      refine hK _ _ ?_
      clear hK K
      refine wpAnyIn_ready (rs:=[6]) (by kernel_rfl) (by simp) ?_
      refine AllReadyIn.cons rfl (fun K hK=>?_) ?_
      ·go_simp
       refine hK _ _ ?_
       clear hK K
       refine wpAnyIn_done (by kernel_rfl) ?_ _
       gi_wp2
       obtain⟨k1,k2,k3,k4⟩:=Hst.out _ (Or.inr rfl)
       exact⟨k1.from _,k2,rfl,⟨⟨_,k3⟩,k4⟩,by rw [List.length_append,←Hk.out,←Hge.out];rfl,HP.out⟩
      exact AllReadyIn.nil
     exact AllReadyIn.nil
    refine AllReadyIn.cons rfl (fun K hK=>?_) ?_
    ·go_simp
     refine hK _ _ ?_
     clear hK K
     refine wpAnyIn_ready (rs:=[5]) (by kernel_rfl) (by simp) ?_
     refine AllReadyIn.cons rfl (fun K hK=>?_) ?_
     ·go_simp
      refine hK _ _ ?_
      clear hK K
      refine wpAnyIn_ready (rs:=[6]) (by kernel_rfl) (by simp) ?_
      refine AllReadyIn.cons rfl (fun K hK=>?_) ?_
      ·go_simp
       refine hK _ _ ?_
       clear hK K
       refine wpAnyIn_done (by kernel_rfl) ?_ _
       gi_wp2
       obtain⟨k1,k2,k3,k4⟩:=Hst.out _ (Or.inr rfl)
       exact⟨k1.from _,k2,rfl,⟨⟨_,k3⟩,k4⟩,by rw [List.length_append,←Hk.out,←Hge.out];rfl,HP.out⟩
      exact AllReadyIn.nil
     exact AllReadyIn.nil
    exact AllReadyIn.nil
   exact AllReadyIn.nil
  ·have hgeI : ¬((M:Nat):Int)≤(k:Int)+1:=by omega
   have hgeN : ¬M≤k+1:=by omega
   have HgeN:Hid (¬M≤k+1):=hgeN
   clear hge hlM
   gi_wp2
   refine wpIn_region_any hmx ?_
   change wpAnyIn _ _ _ _ _ _ _ _ _ (World.drew _)
   all_goals (first|refine wpAnyIn_ready (rs:=[0,1,3]) (by decide +kernel) (by simp) (AllReadyIn.cons rfl (fun K hK=>?_) (AllReadyIn.cons rfl (fun K hK=>?_) (AllReadyIn.cons rfl (fun K hK=>?_) AllReadyIn.nil))))
   all_goals (go_simp;refine hK _ _ ?_;clear hK K)
   all_goals (first|refine wpAnyIn_ready (rs:=[1,2,3]) (by decide +kernel) (by simp) (AllReadyIn.cons rfl (fun K hK=>?_) (AllReadyIn.cons rfl (fun K hK=>?_) (AllReadyIn.cons rfl (fun K hK=>?_) AllReadyIn.nil)))|refine wpAnyIn_ready (rs:=[0,3]) (by decide +kernel) (by simp) (AllReadyIn.cons rfl (fun K hK=>?_) (AllReadyIn.cons rfl (fun K hK=>?_) AllReadyIn.nil))|refine wpAnyIn_ready (rs:=[0,1]) (by decide +kernel) (by simp) (AllReadyIn.cons rfl (fun K hK=>?_) (AllReadyIn.cons rfl (fun K hK=>?_) AllReadyIn.nil)))
   all_goals (go_simp;refine hK _ _ ?_;clear hK K)
   all_goals (first|refine wpAnyIn_ready (rs:=[2,3]) (by decide +kernel) (by simp) (AllReadyIn.cons rfl (fun K hK=>?_) (AllReadyIn.cons rfl (fun K hK=>?_) AllReadyIn.nil))|refine wpAnyIn_ready (rs:=[1,3]) (by decide +kernel) (by simp) (AllReadyIn.cons rfl (fun K hK=>?_) (AllReadyIn.cons rfl (fun K hK=>?_) AllReadyIn.nil))|refine wpAnyIn_ready (rs:=[1,2]) (by decide +kernel) (by simp) (AllReadyIn.cons rfl (fun K hK=>?_) (AllReadyIn.cons rfl (fun K hK=>?_) AllReadyIn.nil))|refine wpAnyIn_ready (rs:=[0]) (by decide +kernel) (by simp) (AllReadyIn.cons rfl (fun K hK=>?_) AllReadyIn.nil))
   all_goals (go_simp;refine hK _ _ ?_;clear hK K)
   all_goals (first|refine wpAnyIn_ready (rs:=[3]) (by decide +kernel) (by simp) (AllReadyIn.cons rfl (fun K hK=>?_) AllReadyIn.nil)|refine wpAnyIn_ready (rs:=[2]) (by decide +kernel) (by simp) (AllReadyIn.cons rfl (fun K hK=>?_) AllReadyIn.nil)|refine wpAnyIn_ready (rs:=[1]) (by decide +kernel) (by simp) (AllReadyIn.cons rfl (fun K hK=>?_) AllReadyIn.nil))
   all_goals (go_simp;refine hK _ _ ?_;clear hK K)
   all_goals refine ?restW9
   refine wpAnyIn_ready (rs:=[4]) (by kernel_rfl) (by simp) ?_
   refine AllReadyIn.cons rfl (fun K hK=>?_) ?_
   ·refine appV_step rfl _ _ rfl w.heap.size (.slice av k cv) k (pre.flatMap (fun x=>encP x.p)) rfl HRow.out _ rfl (by simp) (by simp) (by simp) (by simp) hkq Hbs.out ?_
    intro g3 cap3 w3 hown3 hgrow3 hg3 hgl3
    obtain⟨hbx3,hboxes,hgB,hstep⟩:=HStep.out g3 cap3 w3 hown3 hgrow3 hg3
    have hm3:=(hboxes _ _ _ HB1.out).1.cell
    have hgn2 : ¬(w.heap.size=g3):=fun e=>(hboxes _ _ _ HB1.out).2 e.symm
    have hc3:=hbx3.cell
    have hf3:=hbx3.frozen
    have hgB2 : ¬(w.heap.size+1=g3):=fun e=>hgB e.symm
    have q0:=hown3.cellAt (k*4) (by omega)
    have q1:=hown3.cellAt (k*4+1) (by omega)
    have q2:=hown3.cellAt (k*4+2) (by omega)
    have q3:=hown3.cellAt (k*4+3) (by omega)
    rw [List.getElem?_append_right (by rw [Hxl.out];omega),Hxl.out] at q0 q1 q2 q3
    simp only [Nat.sub_self,Nat.add_sub_cancel_left,List.getElem?_cons_zero,List.getElem?_cons_succ] at q0 q1 q2 q3
    have z0:=hown3.frozenAt (k*4)
    have z1:=hown3.frozenAt (k*4+1)
    have z2:=hown3.frozenAt (k*4+2)
    have z3:=hown3.frozenAt (k*4+3)
    have Hst:Hid _:=hstep
    clear hown3 hgrow3 hg3 hstep hboxes
    refine hK _ _ ?_
    clear hK K
    refine wpAnyIn_ready (rs:=[5,7]) (by kernel_rfl) (by simp) ?_
    refine AllReadyIn.cons rfl (fun K hK=>?_) ?_
    ·go_simp
     refine hK _ _ ?_
     clear hK K
     refine wpAnyIn_ready (rs:=[6,7]) (by kernel_rfl) (by simp) ?_
     refine AllReadyIn.cons rfl (fun K hK=>?_) ?_
     ·go_simp
      refine hK _ _ ?_
      clear hK K
      refine wpAnyIn_ready (rs:=[7]) (by kernel_rfl) (by simp) ?_
      refine AllReadyIn.cons rfl (fun K hK=>?_) ?_
      ·go_simp
       refine hK _ _ ?_
       clear hK K
       refine wpAnyIn_done (by kernel_rfl) ?_ _
       gi_wp2
       obtain⟨k1,k2,k3,k4⟩:=Hst.out _ (Or.inl rfl)
       exact⟨k1.from _,k2,⟨⟨_,k3⟩,k4⟩,k2.2.1 _ _ _ (by decide) HB1.out,by rw [List.length_append,←Hk.out];have:=HgeN.out;simp;omega,HP.out⟩
      exact AllReadyIn.nil
     refine AllReadyIn.cons rfl (fun K hK=>?_) ?_
     ·go_simp
      refine hK _ _ ?_
      clear hK K
      refine wpAnyIn_ready (rs:=[6]) (by kernel_rfl) (by simp) ?_
      refine AllReadyIn.cons rfl (fun K hK=>?_) ?_
      ·go_simp
       refine hK _ _ ?_
       clear hK K
       refine wpAnyIn_done (by kernel_rfl) ?_ _
       gi_wp2
       obtain⟨k1,k2,k3,k4⟩:=Hst.out _ (Or.inr rfl)
       exact⟨k1.from _,k2,⟨⟨_,k3⟩,k4⟩,k2.2.1 _ _ _ (by decide) HB1.out,by rw [List.length_append,←Hk.out];have:=HgeN.out;simp;omega,HP.out⟩
      exact AllReadyIn.nil
     exact AllReadyIn.nil
    refine AllReadyIn.cons rfl (fun K hK=>?_) ?_
    ·go_simp
     refine hK _ _ ?_
     clear hK K
     refine wpAnyIn_ready (rs:=[5]) (by kernel_rfl) (by simp) ?_
     refine AllReadyIn.cons rfl (fun K hK=>?_) ?_
     ·go_simp
      refine hK _ _ ?_
      clear hK K
      refine wpAnyIn_ready (rs:=[6]) (by kernel_rfl) (by simp) ?_
      refine AllReadyIn.cons rfl (fun K hK=>?_) ?_
      ·go_simp
       refine hK _ _ ?_
       clear hK K
       refine wpAnyIn_done (by kernel_rfl) ?_ _
       gi_wp2
       obtain⟨k1,k2,k3,k4⟩:=Hst.out _ (Or.inr rfl)
       exact⟨k1.from _,k2,⟨⟨_,k3⟩,k4⟩,k2.2.1 _ _ _ (by decide) HB1.out,by rw [List.length_append,←Hk.out];have:=HgeN.out;simp;omega,HP.out⟩
      exact AllReadyIn.nil
     exact AllReadyIn.nil
    exact AllReadyIn.nil
   exact AllReadyIn.nil
 case done=>
  rintro D pre W hD hxs ⟨⟨⟨v,hR⟩,hB⟩,b1,hlM,hpl⟩ hK
  have htk:pre.map CV.k=l.take M:=by rw [←hxs,List.take_of_length_le (by rw [List.length_map];omega)]
  have hpl2:pre.length≤65536:=by have:=congrArg List.length htk;rw [List.length_map] at this;rw [List.length_take] at this;have:=HL.out;omega
  have hS:SlP w.heap.size 16 W (pre.map CV.p) v:=hR.slp hpl2
  obtain⟨av,cv,rfl,_⟩:=hS.slice
  obtain⟨NL,hNL⟩:∃NL,NL=(pre.map CV.p).length:=⟨_,rfl⟩
  rw [←hNL] at hS hR
  have hc:=hR.1.cell
  have HS:Hid (SlP w.heap.size 16 W (pre.map CV.p) (.slice av NL cv)∧Below w.heap.size w W):=⟨hS,hB⟩
  have HMk:Hid (MarksX w.heap.size W [D]):=MarksX.one (by omega) hK
  have HT:Hid ((pre.map CV.p).map (·.1)=l.take M):=by rw [map_p_k];exact htk
  clear hR hS hB hK hNL htk b1
  gi_wp2
  refine leavesX w.heap.size (fun V=>SlP w.heap.size 16 V (pre.map CV.p) (.slice av NL cv)∧Below w.heap.size w V) (fun V D hD hK hT=>⟨slp_putObj hT.1 hK rfl,hT.2.trans (below_putX hD)⟩) (fun V hT=>⟨.slice av NL cv,by simp [results,Tryz.results67,go_sem],hT.2,_,_,rfl,HT.out,hT.1⟩) [D] _ HMk.out HS.out
 case stop=>
  rintro D c pre W hD _ ⟨rfl,⟨⟨v,hR⟩,hB⟩,hlM,hpl⟩ hK
  have htk:pre.map CV.k=l.take M:=by rw [List.prefix_iff_eq_take.1 hpl,List.length_map,hlM]
  have hpl2:pre.length≤65536:=by have:=congrArg List.length htk;rw [List.length_map] at this;rw [List.length_take] at this;have:=HL.out;omega
  have hS:SlP w.heap.size 16 W (pre.map CV.p) v:=hR.slp hpl2
  obtain⟨av,cv,rfl,_⟩:=hS.slice
  obtain⟨NL,hNL⟩:∃NL,NL=(pre.map CV.p).length:=⟨_,rfl⟩
  rw [←hNL] at hS hR
  have hc:=hR.1.cell
  have HS:Hid (SlP w.heap.size 16 W (pre.map CV.p) (.slice av NL cv)∧Below w.heap.size w W):=⟨hS,hB⟩
  have HMk:Hid (MarksX w.heap.size W [D]):=MarksX.one (by omega) hK
  have HT:Hid ((pre.map CV.p).map (·.1)=l.take M):=by rw [map_p_k];exact htk
  clear hR hS hB hK hNL htk 
  gi_wp2
  refine leavesX w.heap.size (fun V=>SlP w.heap.size 16 V (pre.map CV.p) (.slice av NL cv)∧Below w.heap.size w V) (fun V D hD hK hT=>⟨slp_putObj hT.1 hK rfl,hT.2.trans (below_putX hD)⟩) (fun V hT=>⟨.slice av NL cv,by simp [results,Tryz.results67,go_sem],hT.2,_,_,rfl,HT.out,hT.1⟩) [D] _ HMk.out HS.out
theorem sgoneM_16 {w:World} {q:Nat} {l:List PT} {s:Nat} (h:SC w q l s) (M:Nat) (hM:1≤M) (hM2:M≤65537):Calls Tryz.prog 67 #[.pointer (some ⟨s,0,none⟩),.int .i64 (M:Int)] w (ItPost w.heap.size ((l.map (·.1)).take M) w):=by
 obtain⟨b,hs,hl,hq⟩:=h.seq
 exact sgone_16 (l.map (·.1)) (by rw [List.length_map];exact hl) M hM hM2 s b w hs hq
end Go.Proofs.YtlnecfjnffdciabGreat

namespace Go.Proofs.YtlnecfjnffdciabGreat
open Go.RowKit Go.Shelf
theorem right_nil (d:Nat):zab d nilT=true:=by
 rw [←rightV_any nilT (Dp.of_lies d (default:World) nilT (.slice none 0 0) (zbb d _)) (Dp.of_lies 16 (default:World) nilT (.slice none 0 0) (zbb 16 _))]
 kernel_rfl
theorem of_good16 {d:Nat} {o:Int} {qs:List PP} {u:Value} {w:World} (hu:SlQ 0 d w qs u) (h:ofErr d o (qs.map trT)=0):∀p∈qs,Good 16 p.1.1∧Good 16 p.2.1:=by
 obtain⟨_,hp⟩:=ofErr_zero h
 obtain⟨_,hr⟩:=pErr_zero hp
 obtain⟨h16,hr16⟩:=slq_canon hu (fun p hpq=>hr (trT p) (List.mem_map_of_mem hpq))
 exact fun p hpq=>⟨⟨(hr16 p hpq).1,Dp.of_lies 16 w p.1.1 p.1.2 (h16.good p hpq).1.1⟩,⟨(hr16 p hpq).2,Dp.of_lies 16 w p.2.1 p.2.2 (h16.good p hpq).2.1⟩⟩
theorem mof_mp16 (d:Nat) (o:Int) (qs:List PP) (u:Value) (w:World) (hu:SlQ 0 d w qs u):Calls Tryz.prog 49 #[.int .i64 o,u] w (MpPost o.toNat (ofK o.toNat qs) (ofErr d o (qs.map trT)) w):=by
 refine (mof_14 d o qs u w hu).mono fun e w' h=>?_
 obtain⟨hb,⟨h0,rfl⟩|⟨h0,t,b,rfl,hm,hi⟩⟩:=h
 ·exact⟨hb,none,rfl,.inl ⟨h0,rfl⟩⟩
 ·rw [h0]
  exact⟨hb,_,rfl,.inr ⟨rfl,t,b,rfl,hm,kydO_eq (fun p hp=>(of_good16 hu h0 p hp).1) _ _ (by omega) (by omega) hm.rises hi⟩⟩
theorem keys_err {d:Nat} {o:Int} {l:List VT} (ho:zam o=0) (hl : ¬65536<l.length):ofErr d o (l.map nilP)=lookE d o l:=by
 have h1 : ¬(o<0∨6≤o):=fun h=>by unfold zam at ho;rw [if_pos h] at ho;cases ho
 unfold ofErr lookE pErr za2
 rw [if_neg (by omega),if_neg h1,if_neg (by rw [List.length_map];exact hl),if_neg hl]
 have h2:(l.map nilP).all (okP d)=l.all (zab d):=by
  rw [List.all_map]
  congr 1
  funext v
  show (zab d v&&zab d nilT)=zab d v
  rw [right_nil,Bool.and_true]
 rw [h2]
set_option maxRecDepth 100000 in
set_option maxHeartbeats 8000000 in
theorem sof_list16 (d:Nat) (o:Int) (l:List VT) (u:Value) (w:World) (hu:Lies (d+1) w l u):Calls Tryz.prog 9 #[.int .i64 o,u] w (SpPost o.toNat (setL o.toNat l) (lookE d o l) w):=by
 obtain⟨a0,c0,rfl,_⟩:=Lies.slice hu
 have HNw:Hid _:=mnew_14 o w
 by_cases ho:zam o=0
 ·have hoN:(o<0∨6≤o)=False:=by
   refine eq_false fun h=>?_
   unfold zam at ho
   rw [if_pos h] at ho
   cases ho
  rw [ho] at HNw
  by_cases hl:65536<l.length
  ·have hE:lookE d o l=2:=by unfold lookE za2;rw [if_neg (by rw [hoN];exact id),if_pos hl]
   rw [hE]
   have hli:(65536:Int)<(l.length:Nat):=by omega
   clear hu ho hoN hE hl
   generalize setL o.toNat l=SL at *
   generalize l.length=N at *
   go_enter Tryz.func9,Tryz.ntmps9
   go_wp2_with fail
   refine Calls.mono HNw.out ?_
   rintro e w1 ⟨hb,p,rfl,_⟩
   have HE:Hid (SpPost o.toNat SL 2 w (.returned (.tuple #[.pointer none,.int .i64 2])) w1):=⟨hb,none,rfl,.inl ⟨by decide,rfl⟩⟩
   clear hb HNw
   go_wp2_with fail
   go_ret2
   exact HE.out
  ·obtain⟨ps,hps,hpl,hsp⟩:=SlP.of_lies hu
   have HKy:Hid (∀V,Below w.heap.size w V→Calls Tryz.prog 59 #[.slice a0 l.length c0] V (KyPost ps d V)):=fun V hV=>keyed_16 d ps _ V (hsp.keeps hV) (by omega)
   have hmap:(ps.map keyP).map trT=l.map nilP:=by rw [keyP_map,hps]
   have HOf:Hid (∀V v,SlQ 0 d V (ps.map keyP) v→Calls Tryz.prog 49 #[.int .i64 o,v] V (MpPost o.toNat (setL o.toNat l) (lookE d o l) V)):=fun V v hv=>by
    have h9:=mof_mp16 d o (ps.map keyP) v V hv
    rw [hmap,keys_err ho hl,ofK_is,hmap] at h9
    exact h9
   have HN:Hid (Nils (setL o.toNat l)):=setL_nils _ _
   have hli : ¬(65536:Int)<(l.length:Nat):=by omega
   clear hu ho hoN hl hps hpl hsp hmap
   generalize setL o.toNat l=SL at *
   generalize lookE d o l=E at *
   generalize l.length=N at *
   go_enter Tryz.func9,Tryz.ntmps9
   go_wp2_with fail
   refine Calls.mono HNw.out ?_
   rintro e w1 ⟨hb1,p,rfl,_⟩
   clear HNw
   go_wp2_with fail
   refine Calls.mono (HKy.out _ hb1) ?_
   rintro e w2 ⟨hg2,v2,rfl,hv2⟩
   have hb2:Below w.heap.size w w2:=hb1.trans (hg2.mono hb1.size)
   have HO2:Hid _:=HOf.out w2 v2 hv2
   clear HKy HOf hg2 hv2 hb1
   go_wp2_with fail
   refine Calls.mono HO2.out ?_
   rintro e w3 ⟨hg3,p3,rfl,hp3⟩
   have HM:Hid _:=smade_16 hp3 HN.out
   have hb3:Below w.heap.size w w3:=hb2.trans (hg3.mono hb2.size)
   clear hg3 hp3 HO2 hb2
   go_wp2_with fail
   refine Calls.mono HM.out ?_
   rintro e w4 ⟨hg4,p4,rfl,hp4⟩
   have HE:Hid (SpPost o.toNat SL E w (.returned (.tuple #[.pointer p4,.int .i64 E])) w4):=⟨hb3.trans (hg4.mono hb3.size),p4,rfl,hp4⟩
   clear hg4 hp4 HM hb3
   go_wp2_with fail
   go_ret2
   exact HE.out
 ·have hE:lookE d o l=zam o:=by
   unfold lookE zam
   have h1:o<0∨6≤o:=Classical.byContradiction fun h=>ho (by unfold zam;rw [if_neg h])
   rw [if_pos h1,if_pos h1]
  rw [hE]
  have HZ:Hid (¬zam o=0):=ho
  clear hu hE ho
  generalize setL o.toNat l=SL at *
  generalize zam o=E at *
  generalize l.length=N at *
  go_enter Tryz.func9,Tryz.ntmps9
  go_wp2_with fail
  refine Calls.mono HNw.out ?_
  rintro e w1 ⟨hb,p,rfl,_⟩
  have hz:=HZ.out
  have HE:Hid (SpPost o.toNat SL E w (.returned (.tuple #[.pointer none,.int .i64 E])) w1):=⟨hb,none,rfl,.inl ⟨HZ.out,rfl⟩⟩
  clear hb HNw
  go_wp2_with fail
  go_ret2
  exact HE.out
end Go.Proofs.YtlnecfjnffdciabGreat

namespace Go.Proofs.YtlnecfjnffdciabGreat
open Go.RowKit Go.Shelf
def DcPost (q:Nat) (l:List PT) (w:World) (e:Ending) (w':World):Prop:=Below w.heap.size w w'∧∃c,e=.returned (.pointer (some ⟨c,0,none⟩))∧DS w' q l c
theorem dc_new {w V:World} {q:Nat} {l:List PT} {b:Nat} (hb:Below w.heap.size w V) (hd:DM V q l b) (hn:Nils l):DcPost q l w (.returned (.pointer (some ⟨V.heap.size,0,none⟩))) (V.alloc (.cells #[.pointer (some ⟨b,0,none⟩)] 101)):=
 ⟨hb.alloc hb.size _,_,rfl,b,by simp,hd.keeps ((Grew.refl V).alloc _).below,hn⟩
theorem DS.len {w:World} {q:Nat} {l:List PT} {c:Nat} (h:DS w q l c):Calls Tryz.prog 75 #[.pointer (some ⟨c,0,none⟩)] w fun e w'=>e=.returned (.int .i64 (l.length:Nat))∧Below w.heap.size w w':=by
 obtain⟨m,qs,a0,c0,h0,_,h1,rfl,hs,hd⟩:=h.row
 refine (rlen_16 h0 h1).mono ?_
 rintro e w' ⟨rfl,rfl⟩
 exact⟨by rw [List.length_map],Below.refl _ _⟩
set_option maxRecDepth 100000 in
set_option maxHeartbeats 8000000 in
theorem rin_16 {w0 w:World} {q:Nat} {l:List PT} {c:Nat} (h0:DS w0 q l c) (hw0:Below w0.heap.size w0 w) (y:VT) (yu:Value) (hy:Lies 16 w y.items yu) (hyr:zab 16 y=true):Calls Tryz.prog 80 #[.pointer (some ⟨c,0,none⟩),.agg #[.int .i64 y.kind,.int .i64 y.num,.string y.text,yu]] w fun e w'=>e=.returned (.bool (findK q y l).isSome)∧Below w.heap.size w w':=by
 have h:=h0.keeps hw0
 obtain⟨m,hs,hm,hn⟩:=h
 obtain⟨ay,cy,rfl,_⟩:=Lies.slice hy
 have HA:Hid (∀V,Below w.heap.size w V→Calls Tryz.prog 132 #[.pointer (some ⟨m,0,none⟩),.agg #[.int .i64 y.kind,.int .i64 y.num,.string y.text,.slice ay y.items.length cy]] V (HvPost w.heap.size (findK q y l) V)):=fun V hV=>rhave_14 hm hV y _ (Lies.keeps hV _ _ _ hy) hyr
 obtain⟨W0,hW0⟩:∃W0,W0=w.alloc (.cells #[.int .i64 y.kind,.int .i64 y.num,.string y.text,.slice ay y.items.length cy] 33):=⟨_,rfl⟩
 have HW0:Hid (W0=w.alloc (.cells #[.int .i64 y.kind,.int .i64 y.num,.string y.text,.slice ay y.items.length cy] 33)):=hW0
 have hb0:Below w.heap.size w W0:=by rw [hW0];exact ((Grew.refl w).alloc _).below
 have k0:W0.cell? ⟨w.heap.size,0,none⟩=some (.int .i64 y.kind):=by rw [hW0];simp
 have k1:W0.cell? ⟨w.heap.size,1,none⟩=some (.int .i64 y.num):=by rw [hW0];simp
 have k2:W0.cell? ⟨w.heap.size,2,none⟩=some (.string y.text):=by rw [hW0];simp
 have k3:W0.cell? ⟨w.heap.size,3,none⟩=some (.slice ay y.items.length cy):=by rw [hW0];simp
 have hs0:=zaa hb0 hs
 clear hW0 hs hm hn hy h0 hw0
 generalize findK q y l=O at *
 go_enter Tryz.func80,Tryz.ntmps80
 go_upto_region 1 with fail
 rw [←HW0.out]
 clear HW0
 have hbA:Below W0.heap.size W0 (W0.alloc (.cells #[.int .i64 0,.int .i64 0,.string ⟨#[]⟩,.slice none 0 0] 33)):=((Grew.refl W0).alloc _).below
 have HBA:Hid (Below W0.heap.size W0 (W0.alloc (.cells #[.int .i64 0,.int .i64 0,.string ⟨#[]⟩,.slice none 0 0] 33)).drew):=hbA.drew
 have HBd:Hid (Below W0.heap.size W0 W0.drew):=(Below.refl _ _).drew
 have HXA:Hid (Bx (W0.alloc (.cells #[.int .i64 0,.int .i64 0,.string ⟨#[]⟩,.slice none 0 0] 33)).drew W0.heap.size nilT (.slice none 0 0)):=(show Bx (W0.alloc (.cells #[.int .i64 0,.int .i64 0,.string ⟨#[]⟩,.slice none 0 0] 33)) W0.heap.size nilT (.slice none 0 0) from zao W0 nilT (.slice none 0 0)).keeps (Below.refl _ _).drew
 have HB0:Hid (Below w.heap.size w W0):=hb0
 have HKp:Hid (∀(n:Nat) (v0 v1 v2 v3:Value) (V:World),W0.heap.size≤n→(fun w'=>w'.cell? ⟨c,0,none⟩=some (.pointer (some ⟨m,0,none⟩))∧w'.cell? ⟨w.heap.size,0,none⟩=some (.int .i64 y.kind)∧w'.cell? ⟨w.heap.size,1,none⟩=some (.int .i64 y.num)∧w'.cell? ⟨w.heap.size,2,none⟩=some (.string y.text)∧w'.cell? ⟨w.heap.size,3,none⟩=some (.slice ay y.items.length cy)) V→(fun w'=>w'.cell? ⟨c,0,none⟩=some (.pointer (some ⟨m,0,none⟩))∧w'.cell? ⟨w.heap.size,0,none⟩=some (.int .i64 y.kind)∧w'.cell? ⟨w.heap.size,1,none⟩=some (.int .i64 y.num)∧w'.cell? ⟨w.heap.size,2,none⟩=some (.string y.text)∧w'.cell? ⟨w.heap.size,3,none⟩=some (.slice ay y.items.length cy)) ((((V.setCell ⟨n,0,none⟩ v0).setCell ⟨n,1,none⟩ v1).setCell ⟨n,2,none⟩ v2).setCell ⟨n,3,none⟩ v3)):=fun n v0 v1 v2 v3 V hn h=>by
  have l1:=zad hs0
  have l2:=zad k0
  simp only at l1 l2
  exact⟨zav (by simp only;omega) h.1,zav (by simp only;omega) h.2.1,zav (by simp only;omega) h.2.2.1,zav (by simp only;omega) h.2.2.2.1,zav (by simp only;omega) h.2.2.2.2⟩
 have hl0:=zad hs0
 have hl1:=zad k0
 simp only at hl0 hl1
 have n1 : ¬c=W0.heap.size:=by omega
 have n2 : ¬w.heap.size=W0.heap.size:=by omega
 have HGs:Hid (∀(n:Nat) (v0 v1 v2 v3:Value) (V:World),Below w.heap.size w V→w.heap.size≤n→Below w.heap.size w ((((V.setCell ⟨n,0,none⟩ v0).setCell ⟨n,1,none⟩ v1).setCell ⟨n,2,none⟩ v2).setCell ⟨n,3,none⟩ v3)):=fun n v0 v1 v2 v3 V h hn=>(((h.setCell (p:=⟨n,0,none⟩) hn _).setCell (p:=⟨n,1,none⟩) hn _).setCell (p:=⟨n,2,none⟩) hn _).setCell (p:=⟨n,3,none⟩) hn _
 clear hbA hb0
 go_region_held3 (fun w'=>w'.cell? ⟨c,0,none⟩=some (.pointer (some ⟨m,0,none⟩))∧w'.cell? ⟨w.heap.size,0,none⟩=some (.int .i64 y.kind)∧w'.cell? ⟨w.heap.size,1,none⟩=some (.int .i64 y.num)∧w'.cell? ⟨w.heap.size,2,none⟩=some (.string y.text)∧w'.cell? ⟨w.heap.size,3,none⟩=some (.slice ay y.items.length cy)) (first|go_keep|(exact HKp.out _ _ _ _ _ _ (Nat.le_refl _) (by assumption))|(exact HKp.out _ _ _ _ _ _ (by assumption) (by assumption)))
  (first
   | (go_at_call 132;(with_reducible refine Calls.mono (HA.out _ (HB0.out.trans (Below.mono ?_ HB0.out.size))) ?_);(first|exact HBd.out|exact HBA.out);rintro e w2 ⟨hg2',a2,c2,rfl,hl2⟩;have hg2:Below W0.heap.size W0 w2:=(by first|exact HBd.out.trans hg2'|exact HBA.out.trans (hg2'.mono HBA.out.size));have hs0:=zaa hg2 hs0;have k0:=zaa hg2 k0;have k1:=zaa hg2 k1;have k2:=zaa hg2 k2;have k3:=zaa hg2 k3;have hw2s:W0.heap.size≤w2.heap.size:=hg2.size;(first|(have hz:=Bx.keeps HXA.out hg2';obtain⟨z0,z1,z2,z3,y0,y1,y2,y3⟩:=hz)|skip);have HG2:Hid (Below w.heap.size w w2):=HB0.out.trans (hg2.mono HB0.out.size);clear hg2' hl2 hg2))
 all_goals go_wp2_with fail
 all_goals (first|exact⟨rfl,HG2.out⟩|(go_ret;first|exact⟨rfl,HG2.out⟩|(refine⟨rfl,?_⟩;first|exact HGs.out _ _ _ _ _ _ HG2.out (by omega)|exact HGs.out _ _ _ _ _ _ (HG2.out.alloc HG2.out.size _) (by have:=HG2.out.size;omega)|exact HG2.out.alloc HG2.out.size _|exact HG2.out)))
set_option maxRecDepth 100000 in
set_option maxHeartbeats 8000000 in
theorem rwot_16 {w0 w:World} {q:Nat} {l:List PT} {c:Nat} (h0:DS w0 q l c) (hw0:Below w0.heap.size w0 w) (y:VT) (yu:Value) (hy:Lies 16 w y.items yu) (hyr:zab 16 y=true):Calls Tryz.prog 82 #[.pointer (some ⟨c,0,none⟩),.agg #[.int .i64 y.kind,.int .i64 y.num,.string y.text,yu]] w (DcPost q (lessK q y l) w):=by
 have h:=h0.keeps hw0
 obtain⟨m,hs,hm,hn⟩:=h
 obtain⟨ay,cy,rfl,_⟩:=Lies.slice hy
 have HA:Hid (∀V,Below w.heap.size w V→Calls Tryz.prog 136 #[.pointer (some ⟨m,0,none⟩),.agg #[.int .i64 y.kind,.int .i64 y.num,.string y.text,.slice ay y.items.length cy]] V (DmPost q (lessK q y l) V)):=fun V hV=>rwot_14 hm hV y _ (Lies.keeps hV _ _ _ hy) hyr
 have HN:Hid (Nils (lessK q y l)):=nils_less hn
 obtain⟨W0,hW0⟩:∃W0,W0=w.alloc (.cells #[.int .i64 y.kind,.int .i64 y.num,.string y.text,.slice ay y.items.length cy] 33):=⟨_,rfl⟩
 have HW0:Hid (W0=w.alloc (.cells #[.int .i64 y.kind,.int .i64 y.num,.string y.text,.slice ay y.items.length cy] 33)):=hW0
 have hb0:Below w.heap.size w W0:=by rw [hW0];exact ((Grew.refl w).alloc _).below
 have k0:W0.cell? ⟨w.heap.size,0,none⟩=some (.int .i64 y.kind):=by rw [hW0];simp
 have k1:W0.cell? ⟨w.heap.size,1,none⟩=some (.int .i64 y.num):=by rw [hW0];simp
 have k2:W0.cell? ⟨w.heap.size,2,none⟩=some (.string y.text):=by rw [hW0];simp
 have k3:W0.cell? ⟨w.heap.size,3,none⟩=some (.slice ay y.items.length cy):=by rw [hW0];simp
 have hs0:=zaa hb0 hs
 clear hW0 hs hm hn hy h0 hw0
 generalize lessK q y l=L at *
 go_enter Tryz.func82,Tryz.ntmps82
 go_upto_region 1 with fail
 rw [←HW0.out]
 clear HW0
 go_region_held3 (fun w'=>w'.cell? ⟨c,0,none⟩=some (.pointer (some ⟨m,0,none⟩))∧w'.cell? ⟨w.heap.size,0,none⟩=some (.int .i64 y.kind)∧w'.cell? ⟨w.heap.size,1,none⟩=some (.int .i64 y.num)∧w'.cell? ⟨w.heap.size,2,none⟩=some (.string y.text)∧w'.cell? ⟨w.heap.size,3,none⟩=some (.slice ay y.items.length cy)) (go_keep)
  (first
   | (go_at_call 136;(with_reducible refine Calls.mono (HA.out _ hb0.drew) ?_);rintro e w2 ⟨hg2',b2,rfl,hd2⟩;have hg2:Below W0.heap.size W0 w2:=(Below.refl _ _).drew.trans hg2';have hs0:=zaa hg2 hs0;have k0:=zaa hg2 k0;have k1:=zaa hg2 k1;have k2:=zaa hg2 k2;have k3:=zaa hg2 k3;have HE:Hid (DcPost q L w (.returned (.pointer (some ⟨w2.heap.size,0,none⟩))) (w2.alloc (.cells #[.pointer (some ⟨b2,0,none⟩)] 101))):=dc_new (hb0.trans (hg2.mono hb0.size)) hd2 HN.out;clear hg2' hd2))
 all_goals (first|(go_ret;exact HE.out)|(go_wp2_with fail;go_ret;exact HE.out))
set_option maxRecDepth 100000 in
set_option maxHeartbeats 8000000 in
theorem rwith_16 {w0 w:World} {q:Nat} {l:List PT} {c:Nat} (h0:DS w0 q l c) (hw0:Below w0.heap.size w0 w) (y:VT) (yu:Value) (hy:Lies 16 w y.items yu) (hyr:zab 16 y=true) (hyt:y.text.size≤9223372036854775807) (hsz:findK q y l=none→l.length<65536):Calls Tryz.prog 84 #[.pointer (some ⟨c,0,none⟩),.agg #[.int .i64 y.kind,.int .i64 y.num,.string y.text,yu]] w (DcPost q (withK q y nilT l) w):=by
 have h:=h0.keeps hw0
 obtain⟨m,hs,hm,hn⟩:=h
 obtain⟨ay,cy,rfl,_⟩:=Lies.slice hy
 have HA:Hid (∀V,Below w.heap.size w V→Calls Tryz.prog 139 #[.pointer (some ⟨m,0,none⟩),.agg #[.int .i64 y.kind,.int .i64 y.num,.string y.text,.slice ay y.items.length cy],.agg #[.int .i64 0,.int .i64 0,.string ⟨#[]⟩,.slice none 0 0]] V (DmPost q (withK q y nilT l) V)):=fun V hV=>rwith_14 hm hV y nilT _ (.slice none 0 0) (Lies.keeps hV _ _ _ hy) hyr (zbb 16 V) (right_nil 16) hyt (show (0:Nat)≤9223372036854775807 by decide) hsz
 have HN:Hid (Nils (withK q y nilT l)):=nils_with hn
 obtain⟨W0,hW0⟩:∃W0,W0=w.alloc (.cells #[.int .i64 y.kind,.int .i64 y.num,.string y.text,.slice ay y.items.length cy] 33):=⟨_,rfl⟩
 have HW0:Hid (W0=w.alloc (.cells #[.int .i64 y.kind,.int .i64 y.num,.string y.text,.slice ay y.items.length cy] 33)):=hW0
 have hb0:Below w.heap.size w W0:=by rw [hW0];exact ((Grew.refl w).alloc _).below
 have k0:W0.cell? ⟨w.heap.size,0,none⟩=some (.int .i64 y.kind):=by rw [hW0];simp
 have k1:W0.cell? ⟨w.heap.size,1,none⟩=some (.int .i64 y.num):=by rw [hW0];simp
 have k2:W0.cell? ⟨w.heap.size,2,none⟩=some (.string y.text):=by rw [hW0];simp
 have k3:W0.cell? ⟨w.heap.size,3,none⟩=some (.slice ay y.items.length cy):=by rw [hW0];simp
 have hs0:=zaa hb0 hs
 clear hW0 hs hm hn hy h0 hw0
 generalize withK q y nilT l=L at *
 go_enter Tryz.func84,Tryz.ntmps84
 go_upto_region 1 with fail
 rw [←HW0.out]
 clear HW0
 go_region_held3 (fun w'=>w'.cell? ⟨c,0,none⟩=some (.pointer (some ⟨m,0,none⟩))∧w'.cell? ⟨w.heap.size,0,none⟩=some (.int .i64 y.kind)∧w'.cell? ⟨w.heap.size,1,none⟩=some (.int .i64 y.num)∧w'.cell? ⟨w.heap.size,2,none⟩=some (.string y.text)∧w'.cell? ⟨w.heap.size,3,none⟩=some (.slice ay y.items.length cy)) (go_keep)
  (first
   | (go_at_call 139;(with_reducible refine Calls.mono (HA.out _ hb0.drew) ?_);rintro e w2 ⟨hg2',b2,rfl,hd2⟩;have hg2:Below W0.heap.size W0 w2:=(Below.refl _ _).drew.trans hg2';have hs0:=zaa hg2 hs0;have k0:=zaa hg2 k0;have k1:=zaa hg2 k1;have k2:=zaa hg2 k2;have k3:=zaa hg2 k3;have HE:Hid (DcPost q L w (.returned (.pointer (some ⟨w2.heap.size,0,none⟩))) (w2.alloc (.cells #[.pointer (some ⟨b2,0,none⟩)] 101))):=dc_new (hb0.trans (hg2.mono hb0.size)) hd2 HN.out;clear hg2' hd2))
 all_goals (first|(go_ret;exact HE.out)|(go_wp2_with fail;go_ret;exact HE.out))
theorem getO_wrong {d q:Nat} {y:VT} {l:List PT} (h:zab d y=false):getO d q y l=none:=by unfold getO;rw [h];rfl
theorem getO_right {d q:Nat} {y:VT} {l:List PT} (h:zab d y=true):getO d q y l=findK q y l:=by unfold getO;rw [if_pos h]
set_option maxRecDepth 100000 in
set_option maxHeartbeats 8000000 in
theorem rhas_16 {w0 w:World} {q:Nat} {l:List PT} {c:Nat} (h:DS w0 q l c) (hw0:Below w0.heap.size w0 w) (d:Nat) (y:VT) (yu:Value) (hy:Lies d w y.items yu):Calls Tryz.prog 23 #[.pointer (some ⟨c,0,none⟩),.agg #[.int .i64 y.kind,.int .i64 y.num,.string y.text,yu]] w (HasPost (getO d q y l).isSome (errOf (zab d y)) w):=by
 obtain⟨ay,cy,rfl,_⟩:=Lies.slice hy
 obtain⟨W0,hW0⟩:∃W0,W0=w.alloc (.cells #[.int .i64 y.kind,.int .i64 y.num,.string y.text,.slice ay y.items.length cy] 33):=⟨_,rfl⟩
 have hb0:Below w.heap.size w W0:=by rw [hW0];exact ((Grew.refl w).alloc _).below
 have HY0:Hid (Bx W0 w.heap.size y (.slice ay y.items.length cy)):=by rw [hW0];exact zao _ _ _
 have HR:Hid (Calls Tryz.prog 79 #[.agg #[.int .i64 y.kind,.int .i64 y.num,.string y.text,.slice ay y.items.length cy]] W0 fun e w'=>e=.returned (.bool (zab d y))∧Below W0.heap.size W0 w'):=right_any d y _ W0 (Lies.keeps hb0 _ _ _ hy)
 have HW:Hid (zab d y=true→∀V,Below w.heap.size w V→Calls Tryz.prog 80 #[.pointer (some ⟨c,0,none⟩),.agg #[.int .i64 y.kind,.int .i64 y.num,.string y.text,.slice ay y.items.length cy]] V (fun e w'=>e=.returned (.bool (findK q y l).isSome)∧Below V.heap.size V w')):=fun hr V hV=>by
  obtain⟨h1,h2⟩:=canon hy hr
  exact rin_16 h (hw0.trans (hV.mono hw0.size)) y _ (Lies.keeps hV _ _ _ h1) h2
 clear hy h
 cases hr:zab d y with
 | false=>
  have HRr:Hid (zab d y=false):=hr
  rw [hr] at HR
  clear HW hr
  go_enter Tryz.func23,Tryz.ntmps23
  obtain⟨r0,r1,r2,r3,_,_,_,_⟩:=HY0.out
  go_wp2_with fail
  rw [←hW0]
  clear hW0
  go_wp2_with fail
  refine Calls.mono HR.out ?_
  rintro e w1 ⟨rfl,hg1⟩
  have HE:Hid ((HasPost (getO d q y l).isSome (errOf false) w) (.returned (.tuple #[.bool false,.int .i64 3])) w1):=by rw [getO_wrong HRr.out];exact⟨rfl,hb0.trans (hg1.mono hb0.size)⟩
  clear r0 r1 r2 r3 HR HY0 hg1 hb0
  go_wp2_with fail
  refine bodyPost_ret (v:=(.tuple #[.bool false,.int .i64 3])) (by simp [results,Tryz.results23,go_sem]) rfl HE.out
 | true=>
  rw [hr] at HR
  have HWt:Hid (∀V,Below w.heap.size w V→Calls Tryz.prog 80 #[.pointer (some ⟨c,0,none⟩),.agg #[.int .i64 y.kind,.int .i64 y.num,.string y.text,.slice ay y.items.length cy]] V (fun e w'=>e=.returned (.bool (findK q y l).isSome)∧Below V.heap.size V w')):=HW.out hr
  have HRr:Hid (zab d y=true):=hr
  clear HW hr
  go_enter Tryz.func23,Tryz.ntmps23
  obtain⟨r0,r1,r2,r3,_,_,_,_⟩:=HY0.out
  go_wp2_with fail
  rw [←hW0]
  clear hW0
  go_wp2_with fail
  refine Calls.mono HR.out ?_
  rintro e w1 ⟨rfl,hg1⟩
  have hb1:Below w.heap.size w w1:=hb0.trans (hg1.mono hb0.size)
  clear r0 r1 r2 r3
  obtain⟨r0,r1,r2,r3,_,_,_,_⟩:=HY0.out.keeps hg1
  have HWc:=show Hid _ from HWt.out w1 hb1
  clear HR HWt HY0 hg1 hb0
  go_wp2_with fail
  refine Calls.mono HWc.out ?_
  rintro e w2 ⟨rfl,hg2⟩
  have HE:Hid ((HasPost (getO d q y l).isSome (errOf true) w) (.returned (.tuple #[.bool (findK q y l).isSome,.int .i64 0])) w2):=by rw [getO_right HRr.out];exact⟨rfl,hb1.trans (hg2.mono hb1.size)⟩
  generalize (findK q y l).isSome=F at *
  clear r0 r1 r2 r3 HWc hg2 hb1
  go_wp2_with fail
  refine bodyPost_ret (v:=(.tuple #[.bool F,.int .i64 0])) (by simp [results,Tryz.results23,go_sem]) rfl HE.out
set_option maxRecDepth 100000 in
set_option maxHeartbeats 8000000 in
theorem rdisj_16 {w0 w:World} {q:Nat} {l:List PT} {c:Nat} (h:DS w0 q l c) (hw0:Below w0.heap.size w0 w) (d:Nat) (y:VT) (yu:Value) (hy:Lies d w y.items yu):Calls Tryz.prog 25 #[.pointer (some ⟨c,0,none⟩),.agg #[.int .i64 y.kind,.int .i64 y.num,.string y.text,yu]] w (DsPost q (lessK q y l) (errOf (zab d y)) w):=by
 obtain⟨ay,cy,rfl,_⟩:=Lies.slice hy
 obtain⟨W0,hW0⟩:∃W0,W0=w.alloc (.cells #[.int .i64 y.kind,.int .i64 y.num,.string y.text,.slice ay y.items.length cy] 33):=⟨_,rfl⟩
 have hb0:Below w.heap.size w W0:=by rw [hW0];exact ((Grew.refl w).alloc _).below
 have HY0:Hid (Bx W0 w.heap.size y (.slice ay y.items.length cy)):=by rw [hW0];exact zao _ _ _
 have HR:Hid (Calls Tryz.prog 79 #[.agg #[.int .i64 y.kind,.int .i64 y.num,.string y.text,.slice ay y.items.length cy]] W0 fun e w'=>e=.returned (.bool (zab d y))∧Below W0.heap.size W0 w'):=right_any d y _ W0 (Lies.keeps hb0 _ _ _ hy)
 have HW:Hid (zab d y=true→∀V,Below w.heap.size w V→Calls Tryz.prog 82 #[.pointer (some ⟨c,0,none⟩),.agg #[.int .i64 y.kind,.int .i64 y.num,.string y.text,.slice ay y.items.length cy]] V (DcPost q (lessK q y l) V)):=fun hr V hV=>by
  obtain⟨h1,h2⟩:=canon hy hr
  exact rwot_16 h (hw0.trans (hV.mono hw0.size)) y _ (Lies.keeps hV _ _ _ h1) h2
 clear hy h
 cases hr:zab d y with
 | false=>
  have HRr:Hid (zab d y=false):=hr
  rw [hr] at HR
  clear HW hr
  go_enter Tryz.func25,Tryz.ntmps25
  obtain⟨r0,r1,r2,r3,_,_,_,_⟩:=HY0.out
  go_wp2_with fail
  rw [←hW0]
  clear hW0
  go_wp2_with fail
  refine Calls.mono HR.out ?_
  rintro e w1 ⟨rfl,hg1⟩
  have HE:Hid ((DsPost q (lessK q y l) (errOf false) w) (.returned (.tuple #[.pointer none,.int .i64 3])) w1):=⟨hb0.trans (hg1.mono hb0.size),none,rfl,.inl ⟨by decide,rfl⟩⟩
  clear r0 r1 r2 r3 HR HY0 hg1 hb0
  go_wp2_with fail
  refine bodyPost_ret (v:=(.tuple #[.pointer none,.int .i64 3])) (by simp [results,Tryz.results25,go_sem]) rfl HE.out
 | true=>
  rw [hr] at HR
  have HWt:Hid (∀V,Below w.heap.size w V→Calls Tryz.prog 82 #[.pointer (some ⟨c,0,none⟩),.agg #[.int .i64 y.kind,.int .i64 y.num,.string y.text,.slice ay y.items.length cy]] V (DcPost q (lessK q y l) V)):=HW.out hr
  have HRr:Hid (zab d y=true):=hr
  clear HW hr
  go_enter Tryz.func25,Tryz.ntmps25
  obtain⟨r0,r1,r2,r3,_,_,_,_⟩:=HY0.out
  go_wp2_with fail
  rw [←hW0]
  clear hW0
  go_wp2_with fail
  refine Calls.mono HR.out ?_
  rintro e w1 ⟨rfl,hg1⟩
  have hb1:Below w.heap.size w w1:=hb0.trans (hg1.mono hb0.size)
  clear r0 r1 r2 r3
  obtain⟨r0,r1,r2,r3,_,_,_,_⟩:=HY0.out.keeps hg1
  have HWc:=show Hid _ from HWt.out w1 hb1
  clear HR HWt HY0 hg1 hb0
  go_wp2_with fail
  refine Calls.mono HWc.out ?_
  rintro e w2 ⟨hg2,b,rfl,hd⟩
  have HE:Hid ((DsPost q (lessK q y l) (errOf true) w) (.returned (.tuple #[.pointer (some ⟨b,0,none⟩),.int .i64 0])) w2):=⟨hb1.trans (hg2.mono hb1.size),_,rfl,.inr ⟨rfl,b,rfl,hd⟩⟩
  clear hd
  clear r0 r1 r2 r3 HWc hg2 hb1
  go_wp2_with fail
  refine bodyPost_ret (v:=(.tuple #[.pointer (some ⟨b,0,none⟩),.int .i64 0])) (by simp [results,Tryz.results25,go_sem]) rfl HE.out
set_option maxRecDepth 100000 in
set_option maxHeartbeats 16000000 in
theorem rconj_16 {w0 w:World} {q:Nat} {l:List PT} {c:Nat} (h:DS w0 q l c) (hw0:Below w0.heap.size w0 w) (d:Nat) (y:VT) (yu:Value) (hy:Lies d w y.items yu) (hyt:y.text.size≤9223372036854775807):Calls Tryz.prog 27 #[.pointer (some ⟨c,0,none⟩),.agg #[.int .i64 y.kind,.int .i64 y.num,.string y.text,yu]] w (DsPost q (withK q y nilT l) (assocL d q y nilT l) w):=by
 obtain⟨ay,cy,rfl,_⟩:=Lies.slice hy
 obtain⟨W0,hW0⟩:∃W0,W0=w.alloc (.cells #[.int .i64 y.kind,.int .i64 y.num,.string y.text,.slice ay y.items.length cy] 33):=⟨_,rfl⟩
 have hb0:Below w.heap.size w W0:=by rw [hW0];exact ((Grew.refl w).alloc _).below
 have HY0:Hid (Bx W0 w.heap.size y (.slice ay y.items.length cy)):=by rw [hW0];exact zao _ _ _
 have HR:Hid (Calls Tryz.prog 79 #[.agg #[.int .i64 y.kind,.int .i64 y.num,.string y.text,.slice ay y.items.length cy]] W0 fun e w'=>e=.returned (.bool (zab d y))∧Below W0.heap.size W0 w'):=right_any d y _ W0 (Lies.keeps hb0 _ _ _ hy)
 have HIn:Hid (zab d y=true→∀V,Below w.heap.size w V→Calls Tryz.prog 80 #[.pointer (some ⟨c,0,none⟩),.agg #[.int .i64 y.kind,.int .i64 y.num,.string y.text,.slice ay y.items.length cy]] V fun e w'=>e=.returned (.bool (findK q y l).isSome)∧Below V.heap.size V w'):=fun hr V hV=>by
  obtain⟨h1,h2⟩:=canon hy hr
  exact rin_16 h (hw0.trans (hV.mono hw0.size)) y _ (Lies.keeps hV _ _ _ h1) h2
 have HLn:Hid (∀V,Below w.heap.size w V→Calls Tryz.prog 75 #[.pointer (some ⟨c,0,none⟩)] V (fun e w'=>e=.returned (.int .i64 (l.length:Nat))∧Below V.heap.size V w')):=fun V hV=>(h.keeps (hw0.trans (hV.mono hw0.size))).len
 have HWi:Hid (zab d y=true→(findK q y l=none→l.length<65536)→∀V,Below w.heap.size w V→Calls Tryz.prog 84 #[.pointer (some ⟨c,0,none⟩),.agg #[.int .i64 y.kind,.int .i64 y.num,.string y.text,.slice ay y.items.length cy]] V (DcPost q (withK q y nilT l) V)):=fun hr hsz V hV=>by
  obtain⟨h1,h2⟩:=canon hy hr
  exact rwith_16 h (hw0.trans (hV.mono hw0.size)) y _ (Lies.keeps hV _ _ _ h1) h2 hyt hsz
 have HZ:Hid (l.length≤65536):=by obtain⟨_,_,hd,_⟩:=h;exact hd.size
 clear hy h
 cases hr:zab d y with
 | false=>
  have HEE:Hid (assocL d q y nilT l=3):=by show _=_;unfold assocL;rw [if_pos hr]
  rw [hr] at HR
  clear HIn HLn HWi hr
  go_enter Tryz.func27,Tryz.ntmps27
  obtain⟨r0,r1,r2,r3,_,_,_,_⟩:=HY0.out
  go_wp2_with fail
  rw [←hW0]
  clear hW0
  go_wp2_with fail
  refine Calls.mono HR.out ?_
  rintro e w1 ⟨rfl,hg1⟩
  have HE:Hid (DsPost q (withK q y nilT l) (assocL d q y nilT l) w (.returned (.tuple #[.pointer none,.int .i64 3])) w1):=by rw [HEE.out];exact⟨hb0.trans (hg1.mono hb0.size),none,rfl,.inl ⟨by decide,rfl⟩⟩
  clear r0 r1 r2 r3 HR HY0 hg1 hb0
  go_wp2_with fail
  refine bodyPost_ret (v:=.tuple #[.pointer none,.int .i64 3]) (by simp [results,Tryz.results27,go_sem]) rfl HE.out
 | true=>
  have HEE:Hid (assocL d q y nilT l=if findK q y l=none∧l.length=65536 then 2 else 0):=by show _=_;unfold assocL;rw [if_neg (by rw [hr];simp),if_neg (by rw [right_nil];simp)]
  rw [hr] at HR
  have HIn2:Hid _:=HIn.out hr
  have HWi2:Hid _:=HWi.out hr
  clear HIn HWi hr
  obtain⟨F,hF⟩:∃F,F=(findK q y l).isSome:=⟨_,rfl⟩
  have HF:Hid (F=(findK q y l).isSome):=hF
  rw [←hF] at HIn2
  clear hF
  obtain⟨N,hN⟩:∃N,N=l.length:=⟨_,rfl⟩
  have HN:Hid (N=l.length):=hN
  rw [←hN] at HLn
  clear hN
  go_enter Tryz.func27,Tryz.ntmps27
  obtain⟨r0,r1,r2,r3,_,_,_,_⟩:=HY0.out
  go_wp2_with fail
  rw [←hW0]
  clear hW0
  go_wp2_with fail
  refine Calls.mono HR.out ?_
  rintro e w1 ⟨rfl,hg1⟩
  have hb1:Below w.heap.size w w1:=hb0.trans (hg1.mono hb0.size)
  clear r0 r1 r2 r3
  obtain⟨r0,r1,r2,r3,_,_,_,_⟩:=HY0.out.keeps hg1
  have HIc:=show Hid _ from HIn2.out w1 hb1
  have HY1:Hid (Bx w1 w.heap.size y (.slice ay y.items.length cy)):=HY0.out.keeps hg1
  clear HR HIn2 HY0 hg1 hb0
  go_wp2_with fail
  refine Calls.mono HIc.out ?_
  rintro e w2 ⟨rfl,hg2⟩
  have hb2:Below w.heap.size w w2:=hb1.trans (hg2.mono hb1.size)
  clear r0 r1 r2 r3
  obtain⟨r0,r1,r2,r3,_,_,_,_⟩:=HY1.out.keeps hg2
  have HY2:Hid (Bx w2 w.heap.size y (.slice ay y.items.length cy)):=HY1.out.keeps hg2
  clear HIc HY1 hg2 hb1
  cases F with
  | true=>
   have HWc:=show Hid _ from HWi2.out (fun e=>by have:=HF.out;rw [e] at this;cases this) w2 hb2
   clear HWi2 HLn HY2
   go_wp2_with fail
   refine Calls.mono HWc.out ?_
   rintro e w3 ⟨hg3,b,rfl,hd⟩
   have HE:Hid (DsPost q (withK q y nilT l) (assocL d q y nilT l) w (.returned (.tuple #[.pointer (some ⟨b,0,none⟩),.int .i64 0])) w3):=by rw [HEE.out,if_neg (fun e=>by have:=HF.out;rw [e.1] at this;cases this)];exact⟨hb2.trans (hg3.mono hb2.size),_,rfl,.inr ⟨rfl,b,rfl,hd⟩⟩
   clear r0 r1 r2 r3 HWc hg3 hd hb2
   go_wp2_with fail
   refine bodyPost_ret (v:=.tuple #[.pointer (some ⟨b,0,none⟩),.int .i64 0]) (by simp [results,Tryz.results27,go_sem]) rfl HE.out
  | false=>
   have HLc:=show Hid _ from HLn.out w2 hb2
   have HFn:Hid (findK q y l=none):=by show _=_;have:=HF.out;cases hk:findK q y l with|none=>rfl|some x=>(rw [hk] at this;cases this)
   clear HLn
   go_wp2_with fail
   refine Calls.mono HLc.out ?_
   rintro e w3 ⟨rfl,hg3⟩
   have hb3:Below w.heap.size w w3:=hb2.trans (hg3.mono hb2.size)
   clear r0 r1 r2 r3
   obtain⟨r0,r1,r2,r3,_,_,_,_⟩:=HY2.out.keeps hg3
   clear HLc HY2 hg3 hb2
   by_cases hbig:65536≤N
   ·have hbI:(65536:Int)≤(N:Nat):=by omega
    have HE:Hid (DsPost q (withK q y nilT l) (assocL d q y nilT l) w (.returned (.tuple #[.pointer none,.int .i64 2])) w3):=by rw [HEE.out,if_pos ⟨HFn.out,by have:=HZ.out;have:=HN.out;omega⟩];exact⟨hb3,none,rfl,.inl ⟨by decide,rfl⟩⟩
    clear r0 r1 r2 r3 HWi2 hb3
    go_wp2_with fail
    refine bodyPost_ret (v:=.tuple #[.pointer none,.int .i64 2]) (by simp [results,Tryz.results27,go_sem]) rfl HE.out
   ·have hbI : ¬(65536:Int)≤(N:Nat):=by omega
    have HWc:=show Hid _ from HWi2.out (fun _=>by have:=HN.out;omega) w3 hb3
    have HE0:Hid (assocL d q y nilT l=0):=by show _=_;rw [HEE.out,if_neg (fun e=>by have:=HN.out;omega)]
    have hltD:decide ((65536:Int)≤((N:Nat):Int))=false:=decide_eq_false hbI
    clear HWi2 hbig
    go_wp2_with fail
    refine Calls.mono HWc.out ?_
    rintro e w4 ⟨hg4,b,rfl,hd⟩
    have HE:Hid (DsPost q (withK q y nilT l) (assocL d q y nilT l) w (.returned (.tuple #[.pointer (some ⟨b,0,none⟩),.int .i64 0])) w4):=by rw [HE0.out];exact⟨hb3.trans (hg4.mono hb3.size),_,rfl,.inr ⟨rfl,b,rfl,hd⟩⟩
    clear r0 r1 r2 r3 HWc hg4 hd hb3
    go_wp2_with fail
    refine bodyPost_ret (v:=.tuple #[.pointer (some ⟨b,0,none⟩),.int .i64 0]) (by simp [results,Tryz.results27,go_sem]) rfl HE.out
end Go.Proofs.YtlnecfjnffdciabGreat

namespace Go.Proofs.YtlnecfjnffdciabGreat
open Go.RowKit Go.Shelf
set_option maxRecDepth 100000 in
set_option maxHeartbeats 4000000 in
theorem sheightC_16 {w:World} {H b s:Nat} (hb:w.cell? ⟨s,0,none⟩=some (.pointer (some ⟨b,0,none⟩))) (hc:Calls Tryz.prog 120 #[.pointer (some ⟨b,0,none⟩)] w fun e w'=>e=.returned (.int .i64 (H:Nat))∧Below w.heap.size w w'):Calls Tryz.prog 68 #[.pointer (some ⟨s,0,none⟩)] w fun e w'=>e=.returned (.int .i64 (H:Nat))∧Below w.heap.size w w':=by
 have HL:Hid _:=hc
 clear hc
 go_enter Tryz.func68,Tryz.ntmps68
 go_wp2_with fail
 refine (sown_16 _ _).mono ?_
 rintro e w1 ⟨rfl,hw⟩
 obtain rfl:w=w1:=hw.symm
 go_wp2_with fail
 refine Calls.mono HL.out ?_
 rintro e w2 ⟨rfl,hg⟩
 go_wp2_with fail
 go_ret
 exact⟨rfl,hg⟩
theorem sheightF_16 {w:World} {q:Nat} {l:List PT} {s:Nat} (h:SC w q l s):∃H:Nat,(∀j,l.length<2^j→H≤2*j)∧∀V,Below w.heap.size w V→Calls Tryz.prog 68 #[.pointer (some ⟨s,0,none⟩)] V fun e w'=>e=.returned (.int .i64 (H:Nat))∧Below V.heap.size V w':=by
 obtain⟨b,t,hb,hm,hi,_⟩:=h
 exact⟨t.high,fun j hj=>flat_high hm.well hm.black (by rw [RT.size_items,hi];exact hj),fun V hV=>sheightC_16 (zaa hV hb) (mheight_14 (hm.keeps hV))⟩
set_option maxRecDepth 100000 in
set_option maxHeartbeats 16000000 in
theorem same_16 {w:World} {q:Nat} {l:List PT} {s c:Nat} (h:SC w q l s) (hd:DS w q l c):Calls Tryz.prog 12 #[.pointer (some ⟨s,0,none⟩),.pointer (some ⟨c,0,none⟩)] w fun e w'=>e=.returned (.bool true)∧Below w.heap.size w w':=by
 obtain⟨m,qs,a9,c9,k0,k1,_,hqt,_,hdm⟩:=hd.row
 have hz:l.length≤65536:=hdm.size
 obtain⟨N,hN⟩:∃N,N=l.length:=⟨_,rfl⟩
 have HIt:Hid (Calls Tryz.prog 64 #[.pointer (some ⟨c,0,none⟩)] w (ItPost w.heap.size (l.map (·.1)) w)):=ritems_16 hd
 have HO:Hid (∀V,Below w.heap.size w V→Calls Tryz.prog 65 #[.pointer (some ⟨s,0,none⟩)] V fun e w'=>e=.returned (.int .i64 (q:Int))∧w'=V):=fun V hV=>sorder_16 (h.keeps hV)
 have HL:Hid (∀V,Below w.heap.size w V→Calls Tryz.prog 66 #[.pointer (some ⟨s,0,none⟩)] V fun e w'=>e=.returned (.int .i64 (N:Int))∧Below V.heap.size V w'):=fun V hV=>by
  have:=slen_16 (h.keeps hV)
  rwa [←hN] at this
 have HI:Hid (∀V,Below w.heap.size w V→Calls Tryz.prog 46 #[.pointer (some ⟨s,0,none⟩)] V (ItPost V.heap.size (l.map (·.1)) V)):=fun V hV=>sitems_16 (h.keeps hV)
 have HG:Hid (∀V,Below w.heap.size w V→Calls Tryz.prog 67 #[.pointer (some ⟨s,0,none⟩),.int .i64 ((N:Int)+1)] V (ItPost V.heap.size (l.map (·.1)) V)):=fun V hV=>by
  have:=sgoneM_16 (h.keeps hV) (N+1) (by omega) (by omega)
  rw [List.take_of_length_le (by rw [List.length_map];omega)] at this
  rwa [show ((N+1:Nat):Int)=(N:Int)+1 by omega] at this
 obtain⟨H,hH,hHc⟩:=sheightF_16 h
 have HH:Hid (∀V,Below w.heap.size w V→Calls Tryz.prog 68 #[.pointer (some ⟨s,0,none⟩)] V fun e w'=>e=.returned (.int .i64 (H:Nat))∧Below V.heap.size V w'):=hHc
 have HHj:Hid (∀j,N<2^j→H≤2*j):=by rw [hN];exact hH
 have HM:Hid (∀V,Calls Tryz.prog 69 #[.int .i64 (N:Nat)] V (MostPost N V)):=fun V=>most_any N V (by omega)
 have HS:Hid (∀V ps u ps2 u2,ps.map (·.1)=l.map (·.1)→ps2.map (·.1)=l.map (·.1)→SlP 0 16 V ps u→SlP 0 16 V ps2 u2→Calls Tryz.prog 47 #[u,u2] V fun e w'=>e=.returned (.bool true)∧Below V.heap.size V w'):=fun V ps u ps2 u2 h1 h2 h3 h4=>by
  have k3:=h3.lies
  have k4:=h4.lies
  rw [h1] at k3
  rw [h2] at k4
  exact values_same 16 (l.map (·.1)) u u2 V k3 k4 (by rw [List.length_map];exact hz)
 have hwr:IntKind.i64.wrap ((N:Int)+1)=(N:Int)+1:=by rw [IntKind.wrap_i64];omega
 have HN:Hid (N=(l.map (·.1)).length):=by rw [List.length_map];exact hN
 clear h hd hqt hdm hz hN hH hHc
 generalize l.map (·.1)=ks at *
 go_enter Tryz.func12,Tryz.ntmps12
 go_wp2_with fail
 refine Calls.mono HIt.out ?_
 rintro e w1 ⟨hbc,ps0,v0,rfl,hm0,hs0⟩
 have hp0:ps0.length=N:=by have:=congrArg List.length hm0;rw [List.length_map] at this;rw [this,HN.out]
 obtain⟨a0,c0,rfl,_⟩:=hs0.slice
 rw [hp0] at hs0 ⊢
 have HSs:Hid (∀V ps u,Below w1.heap.size w1 V→ps.map (·.1)=ks→SlP 0 16 V ps u→Calls Tryz.prog 47 #[u,.slice a0 N c0] V fun e w'=>e=.returned (.bool true)∧Below V.heap.size V w'):=fun V ps u hV h1 h2=>HS.out V ps u ps0 _ h1 hm0 h2 ((hs0.mono (Nat.zero_le _)).keeps hV)
 have k0:=zaa hbc k0
 have k1:=zaa hbc k1
 have hbx:Below w1.heap.size w1 w1:=Below.refl _ _
 have HB1:Hid (Below w.heap.size w w1):=hbc
 clear hm0 hs0 hp0 HIt HS hbc
 go_wp2_with fail
 go_region_held3 (fun w'=>w'.cell? ⟨c,0,none⟩=some (.pointer (some ⟨m,0,none⟩))∧w'.cell? ⟨m,0,none⟩=some (.int .i64 (q:Int))) (go_keep)
  (first
   | (go_at_call 65;(with_reducible refine Calls.mono (HO.out _ (HB1.out.trans ((hbx.trans ((Below.refl _ _).drew.mono hbx.size)).mono HB1.out.size))) ?_);rintro e w3 ⟨rfl,hw⟩;subst hw)
   | (go_at_call 66;(with_reducible refine Calls.mono (HL.out _ (HB1.out.trans ((hbx.trans ((Below.refl _ _).drew.mono hbx.size)).mono HB1.out.size))) ?_);rintro e w4 ⟨rfl,hg⟩;replace hbx:=hbx.trans ((Below.drew (Below.refl _ _)).trans (hg.mono hbx.size));have k0:=zaa hg k0;have k1:=zaa hg k1;clear hg)
   | (go_at_call 46;(with_reducible refine Calls.mono (HI.out _ (HB1.out.trans (hbx.mono HB1.out.size))) ?_);rintro e w5 ⟨hg,ps5,u5,rfl,hq5,hs5⟩;obtain⟨a5,c5,rfl,_⟩:=hs5.slice;replace hbx:=hbx.trans (hg.mono hbx.size);have HS5:Hid _:=HSs.out _ ps5 _ hbx hq5 (hs5.mono (Nat.zero_le _));clear hs5 hq5;have k0:=zaa hg k0;have k1:=zaa hg k1;clear hg)
   | (go_at_call 47;refine Calls.mono HS7.out ?_;rintro e w8 ⟨rfl,hg⟩;replace hbx:=hbx.trans (hg.mono hbx.size);have k0:=zaa hg k0;have k1:=zaa hg k1;clear hg)
   | (go_at_call 47;refine Calls.mono HS5.out ?_;rintro e w6 ⟨rfl,hg⟩;replace hbx:=hbx.trans (hg.mono hbx.size);have k0:=zaa hg k0;have k1:=zaa hg k1;clear hg)
   | (go_at_call 67;(with_reducible refine Calls.mono (HG.out _ (HB1.out.trans (hbx.mono HB1.out.size))) ?_);rintro e w7 ⟨hg,ps7,u7,rfl,hq7,hs7⟩;obtain⟨a7,c7,rfl,_⟩:=hs7.slice;replace hbx:=hbx.trans (hg.mono hbx.size);have HS7:Hid _:=HSs.out _ ps7 _ hbx hq7 (hs7.mono (Nat.zero_le _));clear hs7 hq7;have k0:=zaa hg k0;have k1:=zaa hg k1;clear hg)
   | (go_at_call 68;(with_reducible refine Calls.mono (HH.out _ (HB1.out.trans (hbx.mono HB1.out.size))) ?_);rintro e w9 ⟨rfl,hg⟩;replace hbx:=hbx.trans (hg.mono hbx.size);have k0:=zaa hg k0;have k1:=zaa hg k1;clear hg)
   | (go_at_call 69;refine Calls.mono (HM.out _) ?_;rintro e wm ⟨⟨j,rfl,_,hj⟩,hw⟩;subst hw;have hle0:(H:Int)≤((2*j:Nat):Int):=(by have:=HHj.out j hj;omega);clear hj;obtain⟨J,hJ⟩:∃J,J=2*j:=⟨_,rfl⟩;rw [←hJ] at hle0 ⊢;clear hJ))
 all_goals (first|(go_ret;exact⟨rfl,HB1.out.trans (hbx.mono HB1.out.size)⟩)|(go_wp2_with fail;go_ret;exact⟨rfl,HB1.out.trans (hbx.mono HB1.out.size)⟩))
end Go.Proofs.YtlnecfjnffdciabGreat

namespace Go.Proofs.YtlnecfjnffdciabGreat
open Go.RowKit Go.Shelf
abbrev nw16 (n:Int):VT:=⟨2,n,⟨#[]⟩,[]⟩
theorem three_16 (x y z:Int) (b cap:Nat) (w:World) (h0:w.cell? ⟨b,0,none⟩=some (.int .i64 x)) (h1:w.cell? ⟨b,1,none⟩=some (.int .i64 y)) (h2:w.cell? ⟨b,2,none⟩=some (.int .i64 z)) :
 Calls Tryz.prog 62 #[.slice (some ⟨b,0,none⟩) 3 cap] w fun e w'=>∃a c,e=.returned (.slice a 3 c)∧Lies 17 w' [nw16 x,nw16 y,nw16 z] (.slice a 3 c)∧Below w.heap.size w w':=by
 refine (ints_any b [x,y,z] cap w (by simp) (fun i hi=>?_)).mono ?_
 ·match i,hi with
  | 0,_=>exact h0
  | 1,_=>exact h1
  | 2,_=>exact h2
 rintro e w' ⟨v,rfl,hown,hb⟩
 have hown2:w'.ownsRow w.heap.size 33 4 v 3 ([(nw16 x,Value.slice none 0 0),(nw16 y,Value.slice none 0 0),(nw16 z,Value.slice none 0 0)].flatMap encP):=hown
 have hl:=own_liesX (X:=fun _=>True) (d:=16) hown2 rfl (fun _ _=>trivial) (fun p hp=>by
  simp only [List.mem_cons,List.not_mem_nil,or_false] at hp
  rcases hp with rfl|rfl|rfl <;> exact⟨⟨none,0,rfl,by simp,fun h=>absurd rfl h⟩,(show (0:Nat)≤9223372036854775807 by decide)⟩) (by simp)
 obtain⟨a,c,rfl,_⟩:=LiesX.slice hl
 exact⟨a,c,rfl,hl.lies,hb⟩
def three16:List PT:=[nilP (nw16 0),nilP (nw16 1),nilP (nw16 (-2))]
theorem three_set:setL (5:Int).toNat [nw16 (-2),nw16 1,nw16 0]=three16:=by kernel_rfl
theorem three_look:lookE 16 5 [nw16 (-2),nw16 1,nw16 0]=0:=by kernel_rfl
theorem three_rank:rankN 16 5 (nw16 (-1)) three16=1:=by kernel_rfl
theorem three_right:errOf (zab 16 (nw16 (-1)))=0:=by kernel_rfl
set_option maxRecDepth 100000 in
set_option maxHeartbeats 8000000 in
theorem speaks16_any (w:World):Calls Tryz.prog 11 #[] w fun e w'=>e=.returned (.bool true)∧Below w.heap.size w w':=by
 have HI:Hid (∀n W,Calls Tryz.prog 63 #[.int .i64 n] W fun e w'=>e=.returned (.agg #[.int .i64 2,.int .i64 n,.string ⟨#[]⟩,.slice none 0 0])∧Below W.heap.size W w'):=fun n W=>Calls.mono (int_any n W) fun _ _ h=>⟨h.1,h.2.below⟩
 obtain⟨W1,hW1⟩:∃W1,W1=w.alloc (.cells #[.int .i64 (-2),.int .i64 1,.int .i64 0] 2):=⟨_,rfl⟩
 have HW1:Hid (W1=w.alloc (.cells #[.int .i64 (-2),.int .i64 1,.int .i64 0] 2)):=hW1
 have HB1:Hid (Below w.heap.size w W1):=by rw [hW1];exact ((Grew.refl w).alloc _).below
 have HC:Hid (Calls Tryz.prog 62 #[.slice (some ⟨w.heap.size,0,none⟩) 3 3] W1 fun e w'=>∃a c,e=.returned (.slice a 3 c)∧Lies 17 w' [nw16 (-2),nw16 1,nw16 0] (.slice a 3 c)∧Below W1.heap.size W1 w'):=three_16 _ _ _ _ _ _ (by rw [hW1];simp) (by rw [hW1];simp) (by rw [hW1];simp)
 clear hW1
 go_enter Tryz.func11,Tryz.ntmps11
 go_wp2_with fail
 rw [←HW1.out]
 clear HW1
 refine Calls.mono HC.out ?_
 rintro e w2 ⟨a2,c2,rfl,hl2,hg2⟩
 have hb2:Below w.heap.size w w2:=HB1.out.trans (hg2.mono HB1.out.size)
 have HOf:Hid (Calls Tryz.prog 9 #[.int .i64 5,.slice a2 3 c2] w2 (SpPost 5 three16 0 w2)):=by
  have h9:=sof_list16 16 5 _ _ w2 hl2
  rw [three_set,three_look] at h9
  exact h9
 clear HC HB1 hl2 hg2
 go_wp2_with fail
 refine Calls.mono HOf.out ?_
 rintro e w3 ⟨hg3,p3,rfl,⟨h0,_⟩|⟨_,s,rfl,hs⟩⟩
 ·exact absurd rfl h0
 have hb3:Below w.heap.size w w3:=hb2.trans (hg3.mono hb2.size)
 have HR:Hid (∀V,Below w3.heap.size w3 V→Calls Tryz.prog 30 #[.pointer (some ⟨s,0,none⟩),.agg #[.int .i64 2,.int .i64 (-1),.string ⟨#[]⟩,.slice none 0 0]] V (RkPost 1 0 V)):=fun V hV=>by
  have h9:=srank_16 (hs.keeps hV) 16 (nw16 (-1)) (.slice none 0 0) (zbb 16 V) (show (0:Nat)≤9223372036854775807 by decide)
  rw [three_rank,three_right] at h9
  exact h9
 have HF:Hid (∀V,Below w3.heap.size w3 V→Calls Tryz.prog 15 #[.pointer (some ⟨s,0,none⟩)] V fun e w'=>∃a c,e=.returned (.tuple #[.agg #[.int .i64 2,.int .i64 0,.string ⟨#[]⟩,.slice a 0 c],.int .i64 0])∧Below V.heap.size V w'):=fun V hV=>by
  refine (sfirst_16 (hs.keeps hV)).mono ?_
  rintro e w' ⟨hb,⟨ho,_⟩|⟨x,a,c,ho,rfl,_⟩⟩
  ·exact absurd ho (by unfold itemAt three16;simp)
  ·have hx:x=nilP (nw16 0):=by unfold itemAt three16 at ho;simp at ho;exact ho.symm
   subst hx
   exact⟨a,c,rfl,hb⟩
 have HIt:Hid (∀V,Below w3.heap.size w3 V→Calls Tryz.prog 46 #[.pointer (some ⟨s,0,none⟩)] V fun e w'=>∃a c,e=.returned (.slice a 3 c)∧Lies 17 w' [nw16 0,nw16 1,nw16 (-2)] (.slice a 3 c)∧Below V.heap.size V w'):=fun V hV=>by
  refine (sitems_16 (hs.keeps hV)).mono ?_
  rintro e w' ⟨hb,ps,v,rfl,hm,hS⟩
  have hl:=hS.lies
  rw [hm] at hl
  obtain⟨a,c,rfl,_⟩:=hS.slice
  have hp:ps.length=3:=by have:=congrArg List.length hm;rw [List.length_map] at this;rw [this];rfl
  rw [hp] at hl ⊢
  exact⟨a,c,rfl,hl,hb⟩
 clear hs hg3 HOf hb2
 go_wp2_with fail
 refine Calls.mono (HI.out _ _) ?_
 rintro e w4 ⟨rfl,hg4⟩
 have hb4:Below w.heap.size w w4:=hb3.trans (hg4.mono hb3.size)
 go_wp2_with fail
 refine Calls.mono (HR.out _ hg4) ?_
 rintro e w5 ⟨rfl,hg5'⟩
 have hg5:Below w3.heap.size w3 w5:=hg4.trans (hg5'.mono hg4.size)
 have hb5:Below w.heap.size w w5:=hb4.trans (hg5'.mono hb4.size)
 clear hg5' hg4 hb4 HR
 go_wp2_with fail
 refine Calls.mono (HF.out _ hg5) ?_
 rintro e w6 ⟨a6,c6,rfl,hg6'⟩
 have hg6:Below w3.heap.size w3 w6:=hg5.trans (hg6'.mono hg5.size)
 have hb6:Below w.heap.size w w6:=hb5.trans (hg6'.mono hb5.size)
 obtain⟨W7,hW7⟩:∃W7,W7=w6.alloc (.cells #[.int .i64 2,.int .i64 0,.string ⟨#[]⟩,.slice a6 0 c6] 33):=⟨_,rfl⟩
 have HW7:Hid (W7=w6.alloc (.cells #[.int .i64 2,.int .i64 0,.string ⟨#[]⟩,.slice a6 0 c6] 33)):=hW7
 have hal:Below w6.heap.size w6 W7:=by rw [hW7];exact ((Grew.refl w6).alloc _).below
 have k7:W7.cell? ⟨w6.heap.size,1,none⟩=some (.int .i64 0):=by rw [hW7];exact (zao _ (nw16 0) _).c1
 have hg7:Below w3.heap.size w3 W7:=hg6.trans (hal.mono hg6.size)
 have hb7:Below w.heap.size w W7:=hb6.trans (hal.mono hb6.size)
 clear hg6' hg6 hb6 HF hW7 hal hg5 hb5
 go_upto_region 6 with fail
 rw [←HW7.out]
 clear HW7
 go_wp2_with fail
 refine Calls.mono (HIt.out _ hg7) ?_
 rintro e w8 ⟨a8,c8,rfl,hl8,hg8'⟩
 have hb8:Below w.heap.size w w8:=hb7.trans (hg8'.mono hb7.size)
 have HL8:Hid (Lies 17 w8 [nw16 0,nw16 1,nw16 (-2)] (.slice a8 3 c8)):=hl8
 clear hg8' hg7 hb7 HIt hl8 k7
 go_wp2_with fail
 obtain⟨W9,hW9⟩:∃W9,W9=w8.alloc (.cells #[.int .i64 0,.int .i64 1,.int .i64 (-2)] 2):=⟨_,rfl⟩
 have HB9:Hid (Below w8.heap.size w8 W9):=by rw [hW9];exact ((Grew.refl w8).alloc _).below
 have HC9:Hid (Calls Tryz.prog 62 #[.slice (some ⟨w8.heap.size,0,none⟩) 3 3] W9 fun e w'=>∃a c,e=.returned (.slice a 3 c)∧Lies 17 w' [nw16 0,nw16 1,nw16 (-2)] (.slice a 3 c)∧Below W9.heap.size W9 w'):=three_16 _ _ _ _ _ _ (by rw [hW9];simp) (by rw [hW9];simp) (by rw [hW9];simp)
 rw [←hW9]
 clear hW9
 refine Calls.mono HC9.out ?_
 rintro e w10 ⟨a10,c10,rfl,hl10,hg10⟩
 have hg:Below w8.heap.size w8 w10:=HB9.out.trans (hg10.mono HB9.out.size)
 have HV:Hid (Calls Tryz.prog 47 #[.slice a8 3 c8,.slice a10 3 c10] w10 fun e w'=>e=.returned (.bool true)∧Below w10.heap.size w10 w'):=values_same 16 _ _ _ _ (Lies.keeps hg _ _ _ HL8.out) hl10 (by simp)
 have hb10:Below w.heap.size w w10:=hb8.trans (hg.mono hb8.size)
 clear hl10 hg10 hg HC9 HB9 HL8 hb8
 go_wp2_with fail
 refine Calls.mono HV.out ?_
 rintro e w11 ⟨rfl,hg11⟩
 have hb11:Below w.heap.size w w11:=hb10.trans (hg11.mono hb10.size)
 clear HV hg11 hb10
 go_wp2_with fail
 first|(go_ret;exact⟨by simp,hb11⟩)|(go_ret;exact⟨rfl,hb11⟩)
end Go.Proofs.YtlnecfjnffdciabGreat

