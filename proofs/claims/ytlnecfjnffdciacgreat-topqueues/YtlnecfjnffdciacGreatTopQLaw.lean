import Derived.Test.YtlnecfjnffdciacGreatSAll16
import Derived.Test.YtlnecfjnffdciacGreatUniP
import Derived.Test.YtlnecfjnffdciacGreatQueuedM
set_option maxRecDepth 100000
set_option maxHeartbeats 32000000
namespace Go.Proofs.YtlnecfjnffdciacGreat
open Go.RowKit Go.Shelf
def nilP (v:VT):PT:=(v,nilT)
def setL (q:Nat) (vs:List VT):List PT:=ofL q (vs.map nilP)
theorem setL_nils (q:Nat) (vs:List VT):Nils (setL q vs):=fun x hx=>by
 obtain⟨v,_,rfl⟩:=List.mem_map.1 (kyd_mem _ _ _ _ hx)
 rfl
theorem setL_len (q:Nat) (vs:List VT):(setL q vs).length≤vs.length:=by
 have h9:=kyd_len (byK q) ((vs.map nilP).length+1) (vs.map nilP)
 rw [List.length_map] at h9
 unfold setL ofL
 rw [List.length_map]
 exact h9
theorem keyP_map (ps:List (VT×Value)):(ps.map keyP).map trT=(ps.map (·.1)).map nilP:=by rw [List.map_map,List.map_map];rfl
theorem lookE_zero {d:Nat} {o:Int} {l:List VT} (h:lookE d o l=0):(0≤o∧o<6)∧l.length≤65536∧∀v∈l,zab d v=true:=by
 unfold lookE at h
 split at h
 ·cases h
 ·rename_i ho
  unfold zae at h
  split at h
  ·cases h
  ·split at h
   ·rename_i h1 h2
    exact⟨by omega,by omega,by simpa [List.all_eq_true] using h2⟩
   ·cases h
def ItPost (base:Nat) (vs:List VT) (w:World) (e:Ending) (w':World):Prop:=Below w.heap.size w w'∧∃ps v,e=.returned v∧ps.map (·.1)=vs∧SlP base 16 w' ps v
def onK (l:List VT):Nat→List VT
 | 0=>[]
 | k+1=>match l[k]? with
  | none=>onK l k
  | some x=>if k≠0∧(∃y,l[k-1]? = some y∧sameV 16 y x=true) then onK l k else onK l k++[x]
theorem onK_first {l:List VT} {x:VT} (hx:l[0]? = some x):onK l 1=[x]:=by
 show (match l[0]? with|none=>onK l 0|some x=>if (0:Nat)≠0∧_ then onK l 0 else onK l 0++[x])=_
 rw [hx]
 show (if (0:Nat)≠0∧_ then onK l 0 else onK l 0++[x])=_
 rw [if_neg (fun h=>h.1 rfl)]
 rfl
theorem onK_step {l:List VT} {j:Nat} {x y:VT} (hx:l[j+1]? = some x) (hy:l[j]? = some y):onK l (j+2)=if sameV 16 y x=true then onK l (j+1) else onK l (j+1)++[x]:=by
 show (match l[j+1]? with|none=>onK l (j+1)|some x=>if (j+1:Nat)≠0∧(∃y,l[j+1-1]? = some y∧sameV 16 y x=true) then onK l (j+1) else onK l (j+1)++[x])=_
 rw [hx]
 show (if (j+1:Nat)≠0∧(∃y,l[j+1-1]? = some y∧sameV 16 y x=true) then onK l (j+1) else onK l (j+1)++[x])=_
 have e:((j+1:Nat)≠0∧(∃y,l[j+1-1]? = some y∧sameV 16 y x=true))↔sameV 16 y x=true:=by
  rw [Nat.add_sub_cancel,hy]
  constructor
  ·rintro ⟨_,z,h1,h2⟩
   injection h1 with h1
   rw [h1];exact h2
  ·intro h
   exact⟨by omega,y,rfl,h⟩
 by_cases h:sameV 16 y x=true
 ·rw [if_pos h,if_pos (e.2 h)]
 ·rw [if_neg h,if_neg (fun h9=>h (e.1 h9))]
theorem onK_inv {q:Nat} {l:List VT} (hu:l.Pairwise fun a b=>ordV q a b≤0) (hg:∀x∈l,Good 16 x):∀k,k≤l.length→(onK l k).Pairwise (fun a b=>ordV q a b<0)∧∀x,x∈onK l k↔x∈l.take k
 | 0,_=>⟨List.Pairwise.nil,fun x=>by simp [onK]⟩
 | 1,hk=>by
  have hx:l[0]? = some l[0]:=List.getElem?_eq_getElem (by omega)
  rw [onK_first hx,List.take_succ_eq_append_getElem (show 0<l.length by omega)]
  exact⟨List.pairwise_singleton _ _,fun x=>by simp⟩
 | j+2,hk=>by
  obtain⟨h1,h2⟩:=onK_inv hu hg (j+1) (by omega)
  have hx:l[j+1]? = some l[j+1]:=List.getElem?_eq_getElem (by omega)
  have hy:l[j]? = some l[j]:=List.getElem?_eq_getElem (by omega)
  have mx:l[j+1]∈l:=List.getElem_mem _
  have my:l[j]∈l:=List.getElem_mem _
  have hyx:ordV q l[j] l[j+1]≤0:=List.pairwise_iff_getElem.1 hu j (j+1) (by omega) (by omega) (by omega)
  have htk:l.take (j+2)=l.take (j+1)++[l[j+1]]:=List.take_succ_eq_append_getElem (show j+1<l.length by omega)
  have hyt:l[j]∈l.take (j+1):=by
   rw [List.take_succ_eq_append_getElem (show j<l.length by omega)]
   exact List.mem_append_right _ (List.mem_singleton.2 rfl)
  rw [onK_step hx hy]
  by_cases hs:sameV 16 l[j] l[j+1]=true
  ·rw [if_pos hs]
   have e:l[j]=l[j+1]:=same_eq 16 _ _ (hg _ my).2 (hg _ mx).2 hs
   refine⟨h1,fun x=>?_⟩
   rw [h2 x,htk,List.mem_append,List.mem_singleton]
   constructor
   ·exact .inl
   ·rintro (h|h)
    ·exact h
    ·rw [h,←e];exact hyt
  ·rw [if_neg hs]
   refine⟨List.pairwise_append.2 ⟨h1,List.pairwise_singleton _ _,fun a ha b hb=>?_⟩,fun x=>?_⟩
   ·obtain rfl:=List.mem_singleton.1 hb
    have hat:=(h2 a).1 ha
    have ma:a∈l:=List.mem_of_mem_take hat
    obtain⟨i,hi,rfl⟩:=List.getElem_of_mem hat
    have hi':i<j+1:=by rw [List.length_take] at hi;omega
    rw [List.getElem_take] at ma ⊢
    have hay:ordV q l[i] l[j]≤0:=by
     by_cases hij:i=j
     ·subst hij;rw [ordV_self];exact Int.le_refl _
     ·exact List.pairwise_iff_getElem.1 hu i j (by omega) (by omega) (by omega)
    have hax:ordV q l[i] l[j+1]≤0:=List.pairwise_iff_getElem.1 hu i (j+1) (by omega) (by omega) (by omega)
    have hyx':ordV q l[j] l[j+1]≠0:=fun h0=>hs (by
     rw [good_eq (hg _ my) (hg _ mx) ((ordV_zero q (hg _ my) (hg _ mx)).1 h0)]
     exact sameV_self 16 _)
    have hlt:ordV q l[j] l[j+1]<0:=by omega
    have t1:=zai q l[i] l[j+1]
    by_cases h0:ordV q l[i] l[j+1]<0
    ·exact h0
    ·exfalso
     have h0':byK q (l[j+1],nilT) (l[i],nilT)≤0:=by show ordV q l[j+1] l[i]≤0;omega
     have h9:byK q (l[j],nilT) (l[i],nilT)<0:=RT.Cmp.trans' (byK_cmp q) (show byK q (l[j],nilT) (l[j+1],nilT)<0 from hlt) h0'
     have t2:=zai q l[i] l[j]
     have h9':ordV q l[j] l[i]<0:=h9
     omega
   ·rw [htk,List.mem_append,List.mem_append,h2 x]
theorem nil_one {q:Nat} {l:List VT} (hg:∀x∈l,Good 16 x) (v:VT):nilP v∈setL q l↔v∈l:=by
 have h3:=byK_3 q
 constructor
 ·intro h
  obtain⟨x,hx,e⟩:=List.mem_map.1 (kyd_mem _ _ _ _ h)
  have:x=v:=congrArg Prod.fst e
  rw [←this];exact hx
 ·intro h
  show nilP v∈kyd (byK q) ((l.map nilP).length+1) (l.map nilP)
  rw [kyd_mem_iff h3 _ _ (by omega)]
  have hall:∀x∈(l.map nilP).filter (sim (ltI (byK q)) (nilP v)),x=nilP v:=fun x hx=>by
   obtain⟨h1,h2⟩:=List.mem_filter.1 hx
   obtain⟨y,hy,rfl⟩:=List.mem_map.1 h1
   rw [sim_zero h3] at h2
   have h0:ordV q v y=0:=of_decide_eq_true h2
   rw [good_eq (hg _ h) (hg _ hy) ((ordV_zero q (hg _ h) (hg _ hy)).1 h0)]
  have hne:(l.map nilP).filter (sim (ltI (byK q)) (nilP v))≠[]:=fun e=>by
   have h9:nilP v∈(l.map nilP).filter (sim (ltI (byK q)) (nilP v)):=List.mem_filter.2 ⟨List.mem_map_of_mem h,sim_self h3.weak _⟩
   rw [e] at h9
   cases h9
  unfold lst
  rw [List.getLast?_eq_some_getLast hne]
  have h9:=hall _ (List.getLast_mem hne)
  rw [h9]
  exact List.mem_singleton.2 rfl
theorem once_set {q:Nat} {l:List VT} (hg:∀x∈l,Good 16 x):onK (srtV q l) (srtV q l).length=(setL q l).map (·.1):=by
 have hgs:∀x∈srtV q l,Good 16 x:=fun x hx=>hg x (srtV_mem hx)
 have hu:(srtV q l).Pairwise fun a b=>ordV q a b≤0:=by
  refine List.Pairwise.imp (fun {a b} h=>?_) (srtV_up q l)
  have h9:ltO q b a=false:=h
  have h8 : ¬ordV q b a<0:=of_decide_eq_false h9
  have:=zai q a b
  omega
 obtain⟨h1,h2⟩:=onK_inv hu hgs (srtV q l).length (Nat.le_refl _)
 have e:(onK (srtV q l) (srtV q l).length).map nilP=setL q l:=by
  refine RT.rises_eq (byK_cmp q) _ _ ?_ (ofL_rises q _) fun y=>?_
  ·exact List.pairwise_map.2 h1
  ·constructor
   ·intro h
    obtain⟨v,hv,rfl⟩:=List.mem_map.1 h
    rw [nil_one hg]
    have h9:=(h2 v).1 hv
    rw [List.take_length] at h9
    exact srtV_mem h9
   ·intro h
    obtain⟨v,hv,rfl⟩:=List.mem_map.1 (kyd_mem _ _ _ _ h)
    refine List.mem_map_of_mem ((h2 v).2 ?_)
    rw [List.take_length]
    exact (srt_perm (ltO q) (l.length+1) l).mem_iff.2 hv
 rw [←e,List.map_map]
 exact (List.map_id _).symm
def onP (ps:List (VT×Value)):Nat→List (VT×Value)
 | 0=>[]
 | k+1=>match ps[k]? with
  | none=>onP ps k
  | some x=>if k≠0∧(∃y,ps[k-1]? = some y∧sameV 16 y.1 x.1=true) then onP ps k else onP ps k++[x]
theorem onP_first {ps:List (VT×Value)} {x:VT×Value} (hx:ps[0]? = some x):onP ps 1=[x]:=by
 show (match ps[0]? with|none=>onP ps 0|some x=>if (0:Nat)≠0∧_ then onP ps 0 else onP ps 0++[x])=_
 rw [hx]
 show (if (0:Nat)≠0∧_ then onP ps 0 else onP ps 0++[x])=_
 rw [if_neg (fun h=>h.1 rfl)]
 rfl
theorem onP_step {ps:List (VT×Value)} {j:Nat} {x y:VT×Value} (hx:ps[j+1]? = some x) (hy:ps[j]? = some y):onP ps (j+2)=if sameV 16 y.1 x.1=true then onP ps (j+1) else onP ps (j+1)++[x]:=by
 show (match ps[j+1]? with|none=>onP ps (j+1)|some x=>if (j+1:Nat)≠0∧(∃y,ps[j+1-1]? = some y∧sameV 16 y.1 x.1=true) then onP ps (j+1) else onP ps (j+1)++[x])=_
 rw [hx]
 show (if (j+1:Nat)≠0∧(∃y,ps[j+1-1]? = some y∧sameV 16 y.1 x.1=true) then onP ps (j+1) else onP ps (j+1)++[x])=_
 have e:((j+1:Nat)≠0∧(∃y,ps[j+1-1]? = some y∧sameV 16 y.1 x.1=true))↔sameV 16 y.1 x.1=true:=by
  rw [Nat.add_sub_cancel,hy]
  constructor
  ·rintro ⟨_,z,h1,h2⟩
   injection h1 with h1
   rw [h1];exact h2
  ·intro h
   exact⟨by omega,y,rfl,h⟩
 by_cases h:sameV 16 y.1 x.1=true
 ·rw [if_pos h,if_pos (e.2 h)]
 ·rw [if_neg h,if_neg (fun h9=>h (e.1 h9))]
theorem onP_map {ps:List (VT×Value)} {l:List VT} (hl:ps.map (·.1)=l):∀k,k≤ps.length→(onP ps k).map (·.1)=onK l k
 | 0,_=>rfl
 | 1,hk=>by
  have hx:ps[0]? = some ps[0]:=List.getElem?_eq_getElem (by omega)
  have hx2:l[0]? = some ps[0].1:=by rw [←hl,List.getElem?_map,hx];rfl
  rw [onP_first hx,onK_first hx2]
  rfl
 | j+2,hk=>by
  have hx:ps[j+1]? = some ps[j+1]:=List.getElem?_eq_getElem (by omega)
  have hy:ps[j]? = some ps[j]:=List.getElem?_eq_getElem (by omega)
  have hx2:l[j+1]? = some ps[j+1].1:=by rw [←hl,List.getElem?_map,hx];rfl
  have hy2:l[j]? = some ps[j].1:=by rw [←hl,List.getElem?_map,hy];rfl
  rw [onP_step hx hy,onK_step hx2 hy2]
  have ih:=onP_map hl (j+1) (by omega)
  by_cases h:sameV 16 ps[j].1 ps[j+1].1=true
  ·rw [if_pos h,if_pos h,ih]
  ·rw [if_neg h,if_neg h,List.map_append,ih]
   rfl
theorem onP_sub (ps:List (VT×Value)):∀k,(onP ps k).length≤k∧∀x∈onP ps k,x∈ps
 | 0=>⟨Nat.le_refl _,fun x hx=>by cases hx⟩
 | k+1=>by
  obtain⟨h1,h2⟩:=onP_sub ps k
  cases hx:ps[k]? with
  | none=>
   have e:onP ps (k+1)=onP ps k:=by
    show (match ps[k]? with|none=>onP ps k|some x=>_)=_
    rw [hx]
   rw [e]
   exact⟨by omega,h2⟩
  | some x=>
   have e:onP ps (k+1)=onP ps k∨onP ps (k+1)=onP ps k++[x]:=by
    have e9:onP ps (k+1)=if k≠0∧(∃y,ps[k-1]? = some y∧sameV 16 y.1 x.1=true) then onP ps k else onP ps k++[x]:=by
     show (match ps[k]? with|none=>onP ps k|some x=>_)=_
     rw [hx]
    by_cases h:k≠0∧(∃y,ps[k-1]? = some y∧sameV 16 y.1 x.1=true)
    ·rw [e9,if_pos h];exact .inl rfl
    ·rw [e9,if_neg h];exact .inr rfl
   rcases e with e|e
   ·rw [e];exact⟨by omega,h2⟩
   ·rw [e]
    refine⟨by rw [List.length_append,List.length_singleton];omega,fun z hz=>?_⟩
    rcases List.mem_append.1 hz with hz|hz
    ·exact h2 z hz
    ·rw [List.mem_singleton.1 hz];exact List.mem_of_getElem? hx
def OnPost (l:List VT) (w:World) (e:Ending) (w':World):Prop:=Below w.heap.size w w'∧∃ps v,e=.returned v∧ps.map (·.1)=l∧SlP 0 16 w' ps v
theorem once_top (l:List VT) (u:Value) (w:World) (hu:Lies 17 w l u) (hl:l.length≤65536):Calls Tryz.prog 21 #[u] w (OnPost (onK l l.length) w):=by
 obtain⟨i0,hi,hz0,hz1,hz2⟩:=info24
 have Hi:Hid _:=hi;have Hz0:Hid _:=hz0;have Hz1:Hid _:=hz1;have Hz2:Hid _:=hz2
 obtain⟨ps,hps,hpl,hs⟩:=SlP.of_lies hu
 obtain⟨a0,c0,rfl,_⟩:=hs.slice
 have HS:Hid (SlP 0 16 w ps (.slice a0 ps.length c0)):=hs
 obtain⟨N,hN⟩:∃N,N=ps.length:=⟨_,rfl⟩
 have HN:Hid (N=ps.length∧N≤65536):=⟨hN,by omega⟩
 have Hend:Hid (∀(v:Value) (V:World),Below w.heap.size w V→V.ownsRow w.heap.size 24 4 v (onP ps N).length ((onP ps N).flatMap encP)→OnPost (onK l l.length) w (.returned v) V):=fun v V hV hv=>by
  refine⟨hV,onP ps N,v,rfl,?_,?_⟩
  ·rw [hN,←hpl];exact onP_map hps _ (Nat.le_refl _)
  ·obtain⟨_,_,_,_,_,_,hgs⟩:=hs
   have hsub:=onP_sub ps N
   exact (SlP.of_own rfl hv (fun p hp=>(hgs p (hsub.2 p hp)).keeps hV) (by have:=HN.out.2;omega)).mono (Nat.zero_le _)
 have HFi:Hid (∀x,ps[0]? = some x→onP ps 1=[x]):=fun x=>onP_first
 have HSt:Hid (∀(k:Nat) (x y:VT×Value),ps[k+1]? = some x→ps[k]? = some y→onP ps (k+2)=if sameV 16 y.1 x.1=true then onP ps (k+1) else onP ps (k+1)++[x]):=fun k x y=>onP_step
 have HLe:Hid (∀k,(onP ps k).length≤k):=fun k=>(onP_sub ps k).1
 have HV1:Hid (∀(x y:VT) V u v,Lies 16 V x.items u→Lies 16 V y.items v→Calls Tryz.prog 13 #[.agg #[.int .i64 x.kind,.int .i64 x.num,.string x.text,u],.agg #[.int .i64 y.kind,.int .i64 y.num,.string y.text,v]] V fun e w'=>e=.returned (.bool (sameV 16 x y))∧Below V.heap.size V w'):=fun x y V u v h1 h2=>(same_any 16 x y u v V h1 h2).mono fun e w' h=>⟨h.1,h.2.below⟩
 rw [←hN]
 clear hi hz0 hz1 hz2 hu hl hps hpl hs hN
 generalize OnPost (onK l l.length) w=PO at *
 go_enter Tryz.func21,Tryz.ntmps21
 go_wp2_with fail
 go_loopg [8,3,4,5] N (fun z9 i u _ _ wr=>∃j:Nat,i=.int .i64 (j:Int)∧j≤N∧z9=N-j∧Hid (wr.ownsRow w.heap.size 24 4 u (onP ps j).length ((onP ps j).flatMap encP))∧Hid (Below w.heap.size w wr))
 case atStart=>exact⟨0,rfl,by omega,by omega,World.ownsRow_nil _ _ _ _,Below.refl _ _⟩
 case round=>
  obtain⟨j,rfl,hj,hk,HOw,HBw⟩:=hrel
  have Hk:Hid _:=hk
  have hbw:=HBw.out
  clear hk
  by_cases hlt:j<N
  ·have hji:(j:Int)<(N:Nat):=by omega
   have hji0:(0:Int)≤(j:Int):=by omega
   have hN6:N≤65536:=HN.out.2
   have hltq:j<ps.length:=by have:=HN.out.1;omega
   have hnn:ps≠[]:=by intro e;rw [e] at hltq;cases hltq
   obtain⟨av,cv,hv1,hcl,_,hrow,hgq⟩:=HS.out
   obtain⟨bb,oo,hav,_,hq1⟩:=hrow hnn
   have ha1:a0=some ⟨bb,oo,none⟩:=by rw [←hav];injection hv1
   subst ha1
   obtain⟨p0,p1,p2,p3⟩:=hq1 j hltq
   have hg:=hgq ps[j] (List.getElem_mem hltq)
   obtain⟨a1,c1,hu1,_⟩:=Lies.slice hg.1
   rw [hu1] at p3
   have HX:Hid (Lies 16 w ps[j].1.items (.slice a1 ps[j].1.items.length c1)):=by rw [←hu1];exact hg.1
   have hxj:ps[j]? = some ps[j]:=List.getElem?_eq_getElem hltq
   obtain⟨fl,hfl⟩:∃fl,fl=(onP ps j).length:=⟨_,rfl⟩
   have hfll:fl≤j:=by rw [hfl];exact HLe.out j
   have Hfl:Hid (fl=(onP ps j).length):=hfl
   rw [←hfl] at HOw
   obtain⟨y1,hy1⟩:∃y1,y1=ps[j]:=⟨_,rfl⟩
   rw [←hy1] at hg p0 p1 p2 p3 hu1 HX hxj
   obtain⟨t1,u1⟩:=y1
   simp only at p0 p1 p2 p3 hu1 HX
   subst hu1
   have HXj:Hid (ps[j]? = some (t1,.slice a1 t1.items.length c1)):=hxj
   have p0:=zaa hbw p0;have p1:=zaa hbw p1;have p2:=zaa hbw p2;have p3:=zaa hbw p3
   obtain⟨WA,hWA⟩:∃WA,WA=wr.alloc (.cells #[.int .i64 t1.kind,.int .i64 t1.num,.string t1.text,.slice a1 t1.items.length c1] 24):=⟨_,rfl⟩
   have HWA:Hid (WA=wr.alloc (.cells #[.int .i64 t1.kind,.int .i64 t1.num,.string t1.text,.slice a1 t1.items.length c1] 24)):=hWA
   have hgA:Below wr.heap.size wr WA:=by rw [hWA];exact ((Grew.refl wr).alloc _).below
   obtain⟨x0,x1,x2,x3,_,_,_,_⟩:Bx WA wr.heap.size t1 (.slice a1 t1.items.length c1):=by rw [hWA];exact bx_alloc _ _ _
   have hbA:Below w.heap.size w WA:=hbw.trans (hgA.mono hbw.size)
   have HOA:Hid (WA.ownsRow w.heap.size 24 4 u3 fl ((onP ps j).flatMap encP)):=zaj HOw.out hgA
   have HbA:Hid (Below w.heap.size w WA):=hbA
   clear hWA hv1 hcl hav hg hxj hfl hy1
   by_cases hj0:j=0
   ·have Htl:Hid ((onP ps (j+1)).length=fl+1):=by
     show _=_
     have h9:=HXj.out
     rw [Hfl.out]
     subst hj0
     rw [HFi.out _ h9]
     rfl
    have Htk:Hid ((onP ps (j+1)).flatMap encP=(onP ps j).flatMap encP++encP (t1,.slice a1 t1.items.length c1)):=by
     show _=_
     have h9:=HXj.out
     subst hj0
     rw [HFi.out _ h9]
     simp [onP]
    have hjz:((j:Int)==0)=true:=by subst hj0;rfl
    clear hrow hgq hq1 hgA hbA HOw HBw Hfl HX HXj hj0
    go_upto_region 5 with fail
    rw [←HWA.out]
    clear HWA p0 p1 p2 p3
    go_quiet (fail)
    generalize hw3:WA.drewN _=w3
    have hbd:Below WA.heap.size WA w3:=by rw [←hw3];exact below_drewN _ _
    have hb3:Below w.heap.size w w3:=HbA.out.trans (hbd.mono HbA.out.size)
    have HO3:Hid (w3.ownsRow w.heap.size 24 4 u3 fl ((onP ps j).flatMap encP)):=zaj HOA.out hbd
    have hs3:w.heap.size≤w3.heap.size:=hb3.size
    have x0:=zaa hbd x0;have x1:=zaa hbd x1;have x2:=zaa hbd x2;have x3:=zaa hbd x3
    clear hw3 hbd HOA hjz
    go_wp2_with (first
     | (at_builtin;refine wpList_append_own _ rfl _ _ 22 rfl w.heap.size 24 i0 (.agg #[.int .i64 0,.int .i64 0,.string ⟨#[]⟩,.slice none 0 0]) 4 56 Tryz.underlying22 Hi.out Hz0.out Hz1.out Hz2.out rfl (by decide) _ _ _ rfl (HO3.out.alloc _) ⟨w3.heap.size,0,none⟩ 1 1 [.int .i64 t1.kind,.int .i64 t1.num,.string t1.text,.slice a1 t1.items.length c1] rfl rfl (fun q u hq=>by match q,hq with|0,hq=>(simp at hq;subst hq;simp [Addr.add])|1,hq=>(simp at hq;subst hq;simp [Addr.add])|2,hq=>(simp at hq;subst hq;simp [Addr.add])|3,hq=>(simp at hq;subst hq;simp [Addr.add])) (fun u hu=>by simp at hu;rcases hu with rfl|rfl|rfl|rfl <;> rfl) (by unfold maxLen;omega) (by omega) (by simp;omega) ?_;intro v9 w9 hown hgrow _))
    have hb9:Below w.heap.size w w9:=zak (hb3.alloc hs3 _) (by simp;omega) (HO3.out.alloc _) hgrow
    have HR9:Hid (w9.ownsRow w.heap.size 24 4 v9 (onP ps (j+1)).length ((onP ps (j+1)).flatMap encP)):=by
     rw [Htl.out,Htk.out]
     exact hown
    clear hown hgrow hb3 HO3
    go_roundg (N-(j+1))
    case measure=>have:=Hk.out;omega
    case rel=>exact⟨j+1,by go_num,by omega,rfl,HR9,hb9⟩
   ·obtain⟨k,hk1⟩:∃k,j=k+1:=⟨j-1,by omega⟩
    have hkq:k<ps.length:=by omega
    obtain⟨q0,q1,q2,q3⟩:=hq1 k hkq
    have hg0:=hgq ps[k] (List.getElem_mem hkq)
    obtain⟨a9,c9,hu9,_⟩:=Lies.slice hg0.1
    rw [hu9] at q3
    have HX0:Hid (Lies 16 w ps[k].1.items (.slice a9 ps[k].1.items.length c9)):=by rw [←hu9];exact hg0.1
    have hxk:ps[k]? = some ps[k]:=List.getElem?_eq_getElem hkq
    obtain⟨y0,hy0⟩:∃y0,y0=ps[k]:=⟨_,rfl⟩
    rw [←hy0] at hg0 q0 q1 q2 q3 hu9 HX0 hxk
    obtain⟨t0,u0⟩:=y0
    simp only at q0 q1 q2 q3 hu9 HX0
    subst hu9
    have HS9:Hid (onP ps (j+1)=if sameV 16 t0 t1=true then onP ps j else onP ps j++[(t1,.slice a1 t1.items.length c1)]):=by
     have h9:=HXj.out
     subst hk1
     exact HSt.out k _ _ h9 hxk
    have hwA:Below w.heap.size w WA:=hbA
    have q0:=zaa hwA q0;have q1:=zaa hwA q1;have q2:=zaa hwA q2;have q3:=zaa hwA q3
    have HVc:Hid (∀V,Below WA.heap.size WA V→Calls Tryz.prog 13 #[.agg #[.int .i64 t0.kind,.int .i64 t0.num,.string t0.text,.slice a9 t0.items.length c9],.agg #[.int .i64 t1.kind,.int .i64 t1.num,.string t1.text,.slice a1 t1.items.length c1]] V fun e w'=>e=.returned (.bool (sameV 16 t0 t1))∧Below V.heap.size V w'):=fun V hV=>HV1.out t0 t1 V _ _ (Lies.keeps (hwA.trans (hV.mono hwA.size)) _ _ _ HX0.out) (Lies.keeps (hwA.trans (hV.mono hwA.size)) _ _ _ HX.out)
    have hwr:IntKind.i64.wrap ((j:Int)-1)=(k:Int):=by rw [IntKind.wrap_i64];omega
    have hjz:((j:Int)==0)=false:=by simpa using hj0
    have hk0:(0:Int)≤(k:Int):=by omega
    have hkN:(k:Int)<(N:Nat):=by omega
    clear hrow hgq hq1 hgA hbA HOw HBw HX HX0 HXj hg0 hxk hy0 hk1 hwA hj0
    go_upto_region 5 with fail
    rw [←HWA.out]
    clear HWA p0 p1 p2 p3
    generalize sameV 16 t0 t1=F at *
    cases F with
    | true=>
     have HE:Hid (WA.ownsRow w.heap.size 24 4 u3 (onP ps (j+1)).length ((onP ps (j+1)).flatMap encP)):=by
      rw [HS9.out,if_pos rfl,←Hfl.out]
      exact HOA.out
     clear HS9 Hfl HOA
     go_region_held3 (fun w'=>w'.cell? ⟨wr.heap.size,0,none⟩=some (.int .i64 t1.kind)∧w'.cell? ⟨wr.heap.size,1,none⟩=some (.int .i64 t1.num)∧w'.cell? ⟨wr.heap.size,2,none⟩=some (.string t1.text)∧w'.cell? ⟨wr.heap.size,3,none⟩=some (.slice a1 t1.items.length c1)∧w'.cell? ⟨bb,oo+k*4,none⟩=some (.int .i64 t0.kind)∧w'.cell? ⟨bb,oo+k*4+1,none⟩=some (.int .i64 t0.num)∧w'.cell? ⟨bb,oo+k*4+2,none⟩=some (.string t0.text)∧w'.cell? ⟨bb,oo+k*4+3,none⟩=some (.slice a9 t0.items.length c9)) (go_keep)
      (first|(go_at_call 13;(with_reducible refine Calls.mono (HVc.out _ (Below.refl _ _).drew) ?_);rintro e w3 ⟨rfl,hg6⟩;have hb6:Below WA.heap.size WA w3:=(Below.refl WA.heap.size WA).drew.trans hg6;have x0:=zaa hb6 x0;have x1:=zaa hb6 x1;have x2:=zaa hb6 x2;have x3:=zaa hb6 x3;have q0:=zaa hb6 q0;have q1:=zaa hb6 q1;have q2:=zaa hb6 q2;have q3:=zaa hb6 q3;clear hg6))
     have hb3:Below w.heap.size w w3:=HbA.out.trans (hb6.mono HbA.out.size)
     have HE3:Hid (w3.ownsRow w.heap.size 24 4 u3 (onP ps (j+1)).length ((onP ps (j+1)).flatMap encP)):=zaj HE.out hb6
     clear hb6 HE x0 x1 x2 x3 q0 q1 q2 q3
     go_wp2_with fail
     go_roundg (N-(j+1))
     case measure=>have:=Hk.out;omega
     case rel=>exact⟨j+1,by go_num,by omega,rfl,HE3.out,hb3⟩
    | false=>
     have Htl:Hid ((onP ps (j+1)).length=fl+1):=by
      show _=_
      rw [HS9.out,if_neg (by decide),List.length_append,←Hfl.out]
      rfl
     have Htk:Hid ((onP ps (j+1)).flatMap encP=(onP ps j).flatMap encP++encP (t1,.slice a1 t1.items.length c1)):=by
      show _=_
      rw [HS9.out,if_neg (by decide),List.flatMap_append]
      simp
     clear HS9 Hfl
     go_region_held3 (fun w'=>w'.cell? ⟨wr.heap.size,0,none⟩=some (.int .i64 t1.kind)∧w'.cell? ⟨wr.heap.size,1,none⟩=some (.int .i64 t1.num)∧w'.cell? ⟨wr.heap.size,2,none⟩=some (.string t1.text)∧w'.cell? ⟨wr.heap.size,3,none⟩=some (.slice a1 t1.items.length c1)∧w'.cell? ⟨bb,oo+k*4,none⟩=some (.int .i64 t0.kind)∧w'.cell? ⟨bb,oo+k*4+1,none⟩=some (.int .i64 t0.num)∧w'.cell? ⟨bb,oo+k*4+2,none⟩=some (.string t0.text)∧w'.cell? ⟨bb,oo+k*4+3,none⟩=some (.slice a9 t0.items.length c9)) (go_keep)
      (first|(go_at_call 13;(with_reducible refine Calls.mono (HVc.out _ (Below.refl _ _).drew) ?_);rintro e w3 ⟨rfl,hg6⟩;have hb6:Below WA.heap.size WA w3:=(Below.refl WA.heap.size WA).drew.trans hg6;have x0:=zaa hb6 x0;have x1:=zaa hb6 x1;have x2:=zaa hb6 x2;have x3:=zaa hb6 x3;have q0:=zaa hb6 q0;have q1:=zaa hb6 q1;have q2:=zaa hb6 q2;have q3:=zaa hb6 q3;clear hg6))
     have hb3:Below w.heap.size w w3:=HbA.out.trans (hb6.mono HbA.out.size)
     have HO3:Hid (w3.ownsRow w.heap.size 24 4 u3 fl ((onP ps j).flatMap encP)):=zaj HOA.out hb6
     have hs3:w.heap.size≤w3.heap.size:=hb3.size
     clear hb6 HOA q0 q1 q2 q3
     go_wp2_with (first
      | (at_builtin;refine wpList_append_own _ rfl _ _ 22 rfl w.heap.size 24 i0 (.agg #[.int .i64 0,.int .i64 0,.string ⟨#[]⟩,.slice none 0 0]) 4 56 Tryz.underlying22 Hi.out Hz0.out Hz1.out Hz2.out rfl (by decide) _ _ _ rfl (HO3.out.alloc _) ⟨w3.heap.size,0,none⟩ 1 1 [.int .i64 t1.kind,.int .i64 t1.num,.string t1.text,.slice a1 t1.items.length c1] rfl rfl (fun q u hq=>by match q,hq with|0,hq=>(simp at hq;subst hq;simp [Addr.add])|1,hq=>(simp at hq;subst hq;simp [Addr.add])|2,hq=>(simp at hq;subst hq;simp [Addr.add])|3,hq=>(simp at hq;subst hq;simp [Addr.add])) (fun u hu=>by simp at hu;rcases hu with rfl|rfl|rfl|rfl <;> rfl) (by unfold maxLen;omega) (by omega) (by simp;omega) ?_;intro v9 w9 hown hgrow _))
     have hb9:Below w.heap.size w w9:=zak (hb3.alloc hs3 _) (by simp;omega) (HO3.out.alloc _) hgrow
     have HR9:Hid (w9.ownsRow w.heap.size 24 4 v9 (onP ps (j+1)).length ((onP ps (j+1)).flatMap encP)):=by
      rw [Htl.out,Htk.out]
      exact hown
     clear hown hgrow hb3 HO3
     go_roundg (N-(j+1))
     case measure=>have:=Hk.out;omega
     case rel=>exact⟨j+1,by go_num,by omega,rfl,HR9,hb9⟩
  ·have hjl:j=N:=by omega
   have hji : ¬(j:Int)<(N:Nat):=by omega
   have HE:Hid (PO (.returned u3) wr):=by
    have h9:=HOw.out
    rw [hjl] at h9
    exact Hend.out _ _ hbw h9
   clear HOw HBw hjl Hend hbw
   go_wp2_with fail
   first|exact HE.out|(go_ret;exact HE.out)
attribute [local go_sem] Oper.semAt_some
theorem small_16 (v:Value) (w:World):Calls Tryz.prog 94 #[.agg #[v]] w fun e w'=>e=.returned (.func (.func 139) #[] #[.pointer (some ⟨w.heap.size,0,none⟩)])∧w'=w.alloc (.cells #[v] 74):=by
 go_enter Tryz.func94,Tryz.ntmps94
 go_wp2_with fail
 go_ret
 exact⟨rfl,rfl⟩
theorem sall_16 (s b:Nat) (w:World) (hs:w.cell? ⟨s,0,none⟩=some (.pointer (some ⟨b,0,none⟩))):Calls Tryz.prog 55 #[.pointer (some ⟨s,0,none⟩)] w fun e w'=>e=.returned (.func (.func 139) #[] #[.pointer (some ⟨w.heap.size,0,none⟩)])∧w'=w.alloc (.cells #[.pointer (some ⟨b,0,none⟩)] 74):=by
 go_enter Tryz.func55,Tryz.ntmps55
 go_wp2_with fail
 refine (sown_16 _ _).mono ?_
 rintro e w1 ⟨rfl,hw⟩
 obtain rfl:w=w1:=hw.symm
 go_wp2_with fail
 refine (small_16 _ _).mono ?_
 rintro e w2 ⟨rfl,hw2⟩
 subst hw2
 go_wp2_with fail
 go_ret
 exact⟨rfl,rfl⟩
theorem sappend_16 (l:List VT) (hlen:l.length≤65536) (lb:Array Value) (w:World)
 (hseq:∀(n:Nat) (W:World),6≤n→Below w.heap.size w W→SeqX Fence.wide n Tryz.prog 139 lb encCV (KpY 22 w.heap.size) (PreCV l) (fun xs=>xs.map CV.k=l) (fun _=>True) l.length W) :
 Calls Tryz.prog 93 #[.slice none 0 0,.func (.func 139) #[] lb] w (ItPost w.heap.size l w):=by
 refine (callsIn_wide (n:=8)).1 ?_
 refine callsIn_of_wp_marks Tryz.func93 rfl trivial ?_ rfl
 simp only [Tryz.ntmps93,List.size_toArray,List.length_cons,List.length_nil,Nat.reduceAdd,Nat.reduceSub,Array.replicate_succ,Array.replicate_zero,List.push_toArray,List.append_toArray,List.nil_append,List.cons_append]
 have HL:Hid (l.length≤65536):=hlen
 have HSq:Hid _:=hseq
 clear hseq hlen
 gi_wp2
 obtain⟨Wi,hWi⟩:∃Wi,Wi=w.alloc (.cells #[.slice none 0 0] 22):=⟨_,rfl⟩
 rw [←hWi]
 have hB0:Below w.heap.size w Wi:=by rw [hWi];exact ((Grew.refl w).alloc _).below
 have hsz:Wi.heap.size=w.heap.size+1:=by rw [hWi];simp
 have hG0:GvI w w.heap.size [] Wi:=⟨⟨.slice none 0 0,by rw [hWi];exact Go.Boxed.new w 22 _,World.ownsRow_nil _ _ _ _,fun x hx=>by cases hx⟩,hB0⟩
 have HSq2:Hid _:=HSq.out 7 Wi (by omega) hB0
 clear hWi HSq
 refine rangeX (α:=CV) rfl (by omega) (gf:=139) (lb:=lb) rfl trivial (enters_of Tryz.func139 (by kernel_rfl) rfl)
  HSq2.out kpY_t (fun W o o' hl ho=>kpY_b (by omega) (by omega) W o o' hl ho) (Below.refl _ _) (fun _=>rfl)
  (fun pre W=>GvI w w.heap.size pre W∧pre.map CV.k <+: l) (fun _ _ _=>False)
  (fun s A V row hs hg hr=>⟨GvI.own w _ _ (by omega) (by omega) s A V row hs.1 hg hr,hs.2⟩) (fun _ _ _ _ _ hs _ _=>hs) ⟨hG0,by simp⟩
  (GvA (w.heap.size) l (fun x Bk=>{ tmps:=#[.slice none 0 0,.func (.func 139) #[] lb,.pointer (some ⟨w.heap.size,0,none⟩),undef,.slice none 0 0,.pointer (some ⟨Bk,0,none⟩),.func (.func 139) #[] lb,.agg #[.int .i64 x.k.kind,.int .i64 x.k.num,.string x.k.text,.slice x.a1 x.k.items.length x.c1],undef,undef,undef,undef,undef,undef,undef],defers:=[] })) (fun pre x a'=>GvA.own _ _ _ (by omega) _ _ _ _) ?assign ?body ?done ?stop
 case assign=>
  rintro lp pre x V W K hI hbVW ⟨hN,hpx⟩ hK
  have hba:Below W.heap.size W (W.alloc (.cells #[.int .i64 x.k.kind,.int .i64 x.k.num,.string x.k.text,.slice x.a1 x.k.items.length x.c1] 24)):=((Grew.refl W).alloc _).below
  have hws:w.heap.size≤W.heap.size:=Nat.le_trans hI.1.2.size hbVW.size
  obtain⟨hA,hI3⟩:=GvA.make (l:=l) (f:=(fun x Bk=>{ tmps:=#[.slice none 0 0,.func (.func 139) #[] lb,.pointer (some ⟨w.heap.size,0,none⟩),undef,.slice none 0 0,.pointer (some ⟨Bk,0,none⟩),.func (.func 139) #[] lb,.agg #[.int .i64 x.k.kind,.int .i64 x.k.num,.string x.k.text,.slice x.a1 x.k.items.length x.c1],undef,undef,undef,undef,undef,undef,undef],defers:=[] })) hI.1 hbVW hN hpx
  skip
  have HK:Hid (K _ _):=hK _ _ ((KeepsOthers.alloc W _).from _) ⟨hba.mono hws,KBy.below hba,keepsBelowY hba⟩ ⟨hI3,hI.2⟩ hA
  clear hK hA
  unfold encCV
  gi_wp2
  exact HK.out
 case body=>
  rintro lp pre x a' W hlp ⟨⟨⟨v',bx0,hrow,hl⟩,hB⟩,hpl⟩ ⟨Bk,v,bk,hBk,bx',hnk,hLk,hpx,rfl⟩ hlt
  have hvv:v'=v:=by
   have h1:W.heap[w.heap.size]? = some (.cells #[v] 22 (0,0)):=bx'
   have h2:W.heap[w.heap.size]? = some (.cells #[v'] 22 (0,0)):=bx0
   rw [h1] at h2
   injection h2 with h2
   injection h2 with h2
   simpa using h2.symm
  subst hvv
  obtain⟨av,cv,hv⟩:∃a c,v'=.slice a pre.length c:=by
   rcases hrow.2 with ⟨rfl,e⟩|⟨g,cap,_,rfl,_⟩
   ·exact⟨none,0,by rw [e]⟩
   ·exact⟨_,_,rfl⟩
  subst hv
  obtain⟨k,hk⟩:∃k,k=pre.length:=⟨_,rfl⟩
  have hpx2:(pre++[x]).map CV.k <+: l:=by rw [List.map_append];exact hpx
  have hkl:k+1≤l.length:=by have:=hpx2.length_le;rw [List.length_map,List.length_append,←hk] at this;exact this
  have hkq:k≤65537:=by have:=HL.out;omega
  have HStep:Hid (∀(g cap:Nat) (w3:World),w3.ownsRow w.heap.size 24 4 (.slice (some ⟨g,0,none⟩) (k+1) cap) (k+1) (pre.flatMap (fun x=>encP x.p)++[.int .i64 0,.int .i64 0,.string ⟨#[]⟩,.slice none 0 0])→(W.alloc Z4V).drew.grownBy w3 (Value.slice av k cv).ownBlock→((Value.slice av k cv).ownBlock=some g∨g=(W.alloc Z4V).drew.heap.size)→_):=fun g cap w3 h1 h2 h3=>gv_step (B:=w.heap.size) (n1:=Wi.heap.size+2) hk (by omega) (by rw [hk];exact⟨bx',hrow,hl⟩) hB (by rw [hk];exact hLk) g cap w3 h1 h2 h3
  rw [←hk] at bx' hrow hnk hlt
  obtain⟨y0,y1,y2,y3⟩:=bk.cells
  have hc:=bx'.cell
  have hBl:=bx'.lt
  have hBkl:=bk.lt
  skip
  have hcD:W.drew.cell? ⟨w.heap.size,0,none⟩=some (.slice av k cv):=hc
  have d0:W.drew.cell? ⟨Bk,0,none⟩=some (.int .i64 x.k.kind):=y0
  have d1:W.drew.cell? ⟨Bk,1,none⟩=some (.int .i64 x.k.num):=y1
  have d2:W.drew.cell? ⟨Bk,2,none⟩=some (.string x.k.text):=y2
  have d3:W.drew.cell? ⟨Bk,3,none⟩=some (.slice x.a1 x.k.items.length x.c1):=y3
  have hn1 : ¬(Bk=W.heap.size):=by omega
  have hn2 : ¬(w.heap.size=W.heap.size):=by omega
  have HRow:Hid ((W.alloc Z4V).drew.ownsRow w.heap.size 24 4 (.slice av k cv) k (pre.flatMap (fun x=>encP x.p))):=(hrow.alloc _).drew
  have Hbs:Hid (w.heap.size≤(W.alloc Z4V).drew.heap.size):=by
   have:=hB.size
   show _≤_
   simp
   omega
  have Hxl:Hid ((pre.flatMap (fun x=>encP x.p)).length=k*4):=hrow.1
  have HP:Hid ((pre++[x]).map CV.k <+: l):=hpx2
  have Hk:Hid (k=pre.length):=hk
  have hmx:Tryz.prog.follows .mixedOrders=true:=by kernel_rfl
  have hkk:((k:Nat):Int)<(k:Nat)+1:=by omega
  clear hrow bx' bx0 bk hB hlp hlt hk hl hLk hnk hpx hpx2 hkl hpl
  gi_wp2
  refine wpIn_region_any hmx ?_
  change wpAnyIn _ _ _ _ _ _ _ _ _ (World.drew _)
  all_goals (first|refine wpAnyIn_ready (rs:=[0,1,3]) (by decide +kernel) (by simp) (AllReadyIn.cons rfl (fun K hK=>?_) (AllReadyIn.cons rfl (fun K hK=>?_) (AllReadyIn.cons rfl (fun K hK=>?_) AllReadyIn.nil))))
  all_goals (go_simp;refine hK _ _ ?_;clear hK K)
  all_goals (first|refine wpAnyIn_ready (rs:=[1,2,3]) (by decide +kernel) (by simp) (AllReadyIn.cons rfl (fun K hK=>?_) (AllReadyIn.cons rfl (fun K hK=>?_) (AllReadyIn.cons rfl (fun K hK=>?_) AllReadyIn.nil)))|refine wpAnyIn_ready (rs:=[0,3]) (by decide +kernel) (by simp) (AllReadyIn.cons rfl (fun K hK=>?_) (AllReadyIn.cons rfl (fun K hK=>?_) AllReadyIn.nil))|refine wpAnyIn_ready (rs:=[0,1]) (by decide +kernel) (by simp) (AllReadyIn.cons rfl (fun K hK=>?_) (AllReadyIn.cons rfl (fun K hK=>?_) AllReadyIn.nil)))
  all_goals (go_simp;refine hK _ _ ?_;clear hK K)
  all_goals (first|refine wpAnyIn_ready (rs:=[2,3]) (by decide +kernel) (by simp) (AllReadyIn.cons rfl (fun K hK=>?_) (AllReadyIn.cons rfl (fun K hK=>?_) AllReadyIn.nil))|refine wpAnyIn_ready (rs:=[1,3]) (by decide +kernel) (by simp) (AllReadyIn.cons rfl (fun K hK=>?_) (AllReadyIn.cons rfl (fun K hK=>?_) AllReadyIn.nil))|refine wpAnyIn_ready (rs:=[1,2]) (by decide +kernel) (by simp) (AllReadyIn.cons rfl (fun K hK=>?_) (AllReadyIn.cons rfl (fun K hK=>?_) AllReadyIn.nil))|refine wpAnyIn_ready (rs:=[0]) (by decide +kernel) (by simp) (AllReadyIn.cons rfl (fun K hK=>?_) AllReadyIn.nil))
  all_goals (go_simp;refine hK _ _ ?_;clear hK K)
  all_goals (first|refine wpAnyIn_ready (rs:=[3]) (by decide +kernel) (by simp) (AllReadyIn.cons rfl (fun K hK=>?_) AllReadyIn.nil)|refine wpAnyIn_ready (rs:=[2]) (by decide +kernel) (by simp) (AllReadyIn.cons rfl (fun K hK=>?_) AllReadyIn.nil)|refine wpAnyIn_ready (rs:=[1]) (by decide +kernel) (by simp) (AllReadyIn.cons rfl (fun K hK=>?_) AllReadyIn.nil))
  all_goals (go_simp;refine hK _ _ ?_;clear hK K)
  all_goals refine ?restV9
  refine wpAnyIn_ready (rs:=[4]) (by kernel_rfl) (by simp) ?_
  refine AllReadyIn.cons rfl (fun K hK=>?_) ?_
  ·refine appV_step rfl _ _ rfl w.heap.size (.slice av k cv) k (pre.flatMap (fun x=>encP x.p)) rfl HRow.out _ rfl (by simp) (by simp) (by simp) (by simp) hkq Hbs.out ?_
   intro g3 cap3 w3 hown3 hgrow3 hg3 hgl3
   obtain⟨hbx3,hboxes,hgB,hstep⟩:=HStep.out g3 cap3 w3 hown3 hgrow3 hg3
   have hc3:=hbx3.cell
   have hf3:=hbx3.frozen
   have hgB2 : ¬(w.heap.size=g3):=fun e=>hgB e.symm
   have q0:=hown3.cellAt (k*4) (by omega)
   have q1:=hown3.cellAt (k*4+1) (by omega)
   have q2:=hown3.cellAt (k*4+2) (by omega)
   have q3:=hown3.cellAt (k*4+3) (by omega)
   rw [List.getElem?_append_right (by rw [Hxl.out];omega),Hxl.out] at q0 q1 q2 q3
   simp only [Nat.sub_self,Nat.add_sub_cancel_left,List.getElem?_cons_zero,List.getElem?_cons_succ] at q0 q1 q2 q3
   have z0:=hown3.frozenAt (k*4)
   have z1:=hown3.frozenAt (k*4+1)
   have z2:=hown3.frozenAt (k*4+2)
   have z3:=hown3.frozenAt (k*4+3)
   have Hst:Hid _:=hstep
   clear hown3 hgrow3 hg3 hstep hboxes
   refine hK _ _ ?_
   clear hK K
   refine wpAnyIn_ready (rs:=[5,7]) (by kernel_rfl) (by simp) ?_
   refine AllReadyIn.cons rfl (fun K hK=>?_) ?_
   ·go_simp
    refine hK _ _ ?_
    clear hK K
    refine wpAnyIn_ready (rs:=[6,7]) (by kernel_rfl) (by simp) ?_
    refine AllReadyIn.cons rfl (fun K hK=>?_) ?_
    ·go_simp
     refine hK _ _ ?_
     clear hK K
     refine wpAnyIn_ready (rs:=[7]) (by kernel_rfl) (by simp) ?_
     refine AllReadyIn.cons rfl (fun K hK=>?_) ?_
     ·go_simp
      refine hK _ _ ?_
      clear hK K
      refine wpAnyIn_done (by kernel_rfl) ?_ _
      obtain⟨k1,k2,k3,k4⟩:=Hst.out _ (Or.inl rfl)
      exact⟨k1.from _,k2,⟨⟨_,k3⟩,k4⟩,HP.out⟩
     exact AllReadyIn.nil
    refine AllReadyIn.cons rfl (fun K hK=>?_) ?_
    ·go_simp
     refine hK _ _ ?_
     clear hK K
     refine wpAnyIn_ready (rs:=[6]) (by kernel_rfl) (by simp) ?_
     refine AllReadyIn.cons rfl (fun K hK=>?_) ?_
     ·go_simp
      refine hK _ _ ?_
      clear hK K
      refine wpAnyIn_done (by kernel_rfl) ?_ _
      obtain⟨k1,k2,k3,k4⟩:=Hst.out _ (Or.inr rfl)
      exact⟨k1.from _,k2,⟨⟨_,k3⟩,k4⟩,HP.out⟩
     exact AllReadyIn.nil
    exact AllReadyIn.nil
   refine AllReadyIn.cons rfl (fun K hK=>?_) ?_
   ·go_simp
    refine hK _ _ ?_
    clear hK K
    refine wpAnyIn_ready (rs:=[5]) (by kernel_rfl) (by simp) ?_
    refine AllReadyIn.cons rfl (fun K hK=>?_) ?_
    ·go_simp
     refine hK _ _ ?_
     clear hK K
     refine wpAnyIn_ready (rs:=[6]) (by kernel_rfl) (by simp) ?_
     refine AllReadyIn.cons rfl (fun K hK=>?_) ?_
     ·go_simp
      refine hK _ _ ?_
      clear hK K
      refine wpAnyIn_done (by kernel_rfl) ?_ _
      obtain⟨k1,k2,k3,k4⟩:=Hst.out _ (Or.inr rfl)
      exact⟨k1.from _,k2,⟨⟨_,k3⟩,k4⟩,HP.out⟩
     exact AllReadyIn.nil
    exact AllReadyIn.nil
   exact AllReadyIn.nil
  exact AllReadyIn.nil
 case done=>
  rintro D pre W hD hxs ⟨⟨⟨v,hR⟩,hB⟩,hpl⟩ hK
  have htk:pre.map CV.k=l:=hxs
  have hpl2:pre.length≤65536:=by have:=congrArg List.length htk;rw [List.length_map] at this;skip;have:=HL.out;omega
  have hS:SlP w.heap.size 16 W (pre.map CV.p) v:=hR.slp hpl2
  obtain⟨av,cv,rfl,_⟩:=hS.slice
  obtain⟨NL,hNL⟩:∃NL,NL=(pre.map CV.p).length:=⟨_,rfl⟩
  rw [←hNL] at hS hR
  have hc:=hR.1.cell
  have HS:Hid (SlP w.heap.size 16 W (pre.map CV.p) (.slice av NL cv)∧Below w.heap.size w W):=⟨hS,hB⟩
  have HMk:Hid (MarksX w.heap.size W [D]):=MarksX.one (by omega) hK
  have HT:Hid ((pre.map CV.p).map (·.1)=l):=by rw [map_p_k];exact htk
  clear hR hS hB hK hNL htk hxs
  gi_wp2
  refine leavesX w.heap.size (fun V=>SlP w.heap.size 16 V (pre.map CV.p) (.slice av NL cv)∧Below w.heap.size w V) (fun V D hD hK hT=>⟨slp_putObj hT.1 hK rfl,hT.2.trans (below_putX hD)⟩) (fun V hT=>⟨.slice av NL cv,by simp [results,Tryz.results93,go_sem],hT.2,_,_,rfl,HT.out,hT.1⟩) [D] _ HMk.out HS.out
 case stop=>
  rintro D c pre W _ _ h _
  exact h.elim
theorem scollect_16 (l:List VT) (hlen:l.length≤65536) (lb:Array Value) (w:World)
 (hseq:∀(n:Nat) (W:World),6≤n→Below w.heap.size w W→SeqX Fence.wide n Tryz.prog 139 lb encCV (KpY 22 w.heap.size) (PreCV l) (fun xs=>xs.map CV.k=l) (fun _=>True) l.length W) :
 Calls Tryz.prog 54 #[.func (.func 139) #[] lb] w (ItPost w.heap.size l w):=by
 have HA:Hid _:=sappend_16 l hlen lb w hseq
 clear hseq
 go_enter Tryz.func54,Tryz.ntmps54
 go_wp2_with fail
 refine Calls.mono HA.out ?_
 rintro e w1 ⟨hb,ps,v,rfl,hm,hS⟩
 have HE:Hid (ItPost w.heap.size l w (.returned v) w1):=⟨hb,ps,v,rfl,hm,hS⟩
 obtain⟨av,cv,rfl,_⟩:=hS.slice
 clear hb hm hS HA
 go_wp2_with fail
 go_ret
 exact HE.out
theorem SC.seq {w0:World} {q:Nat} {l:List PT} {s:Nat} (h:SC w0 q l s):∃b,w0.cell? ⟨s,0,none⟩=some (.pointer (some ⟨b,0,none⟩))∧l.length≤65536∧∀(n Bm:Nat) (W:World),6≤n→Below w0.heap.size w0 W→W.cell? ⟨Bm,0,none⟩=some (.pointer (some ⟨b,0,none⟩))→SeqX Fence.wide n Tryz.prog 139 #[.pointer (some ⟨Bm,0,none⟩)] encCV (KpY 22 w0.heap.size) (PreCV (l.map (·.1))) (fun xs=>xs.map CV.k=l.map (·.1)) (fun _=>True) (l.map (·.1)).length W:=by
 obtain⟨b,t,h1,hm,rfl,_⟩:=h
 refine⟨b,h1,?_,fun n Bm W hn hW hc=>?_⟩
 ·have:=hm.size
  rwa [RT.size_items] at this
 ·rw [List.length_map]
  exact sall1_16 hm 22 (by decide) (by decide) n Bm hn W hW hc
theorem sitems_16 {w:World} {q:Nat} {l:List PT} {s:Nat} (h:SC w q l s):Calls Tryz.prog 20 #[.pointer (some ⟨s,0,none⟩)] w (ItPost w.heap.size (l.map (·.1)) w):=by
 obtain⟨b,hs,hl,hq⟩:=h.seq
 have hb:Below w.heap.size w (w.alloc (.cells #[.pointer (some ⟨b,0,none⟩)] 74)):=((Grew.refl w).alloc _).below
 have hc9:(w.alloc (.cells #[.pointer (some ⟨b,0,none⟩)] 74)).cell? ⟨w.heap.size,0,none⟩=some (.pointer (some ⟨b,0,none⟩)):=(Go.Boxed.new w 74 _).cell
 have HA:Hid (Calls Tryz.prog 54 #[.func (.func 139) #[] #[.pointer (some ⟨w.heap.size,0,none⟩)]] (w.alloc (.cells #[.pointer (some ⟨b,0,none⟩)] 74)) (ItPost w.heap.size (l.map (·.1)) w)):=by
  obtain⟨b2,hs2,_,hq2⟩:=(h.keeps hb).seq
  have e2:b2=b:=by
   have h9:=zaa hb hs
   rw [hs2] at h9
   injection h9 with h9
   injection h9 with h9
   injection h9 with h9
   injection h9
  subst e2
  refine (scollect_16 (l.map (·.1)) (by rw [List.length_map];exact hl) _ _ (fun n W hn hW=>hq2 n _ W hn hW (zaa hW hc9))).mono fun e w' h=>?_
  obtain⟨h1,ps,v,h2,h3,h4⟩:=h
  exact⟨hb.trans (h1.mono hb.size),ps,v,h2,h3,h4.mono hb.size⟩
 clear hq hb hc9 h
 go_enter Tryz.func20,Tryz.ntmps20
 go_wp2_with fail
 refine (sall_16 s b _ hs).mono ?_
 rintro e w1 ⟨rfl,hw1⟩
 subst hw1
 go_wp2_with fail
 refine Calls.mono HA.out ?_
 rintro e w1 ⟨hb,ps,v,rfl,hm,hS⟩
 have HE:Hid (ItPost w.heap.size (l.map (·.1)) w (.returned v) w1):=⟨hb,ps,v,rfl,hm,hS⟩
 obtain⟨av,cv,rfl,_⟩:=hS.slice
 clear hb hm hS HA
 go_wp2_with fail
 go_ret
 exact HE.out
theorem right_nil (d:Nat):zab d nilT=true:=by
 rw [←rightV_any nilT (Dp.of_lies d (default:World) nilT (.slice none 0 0) (zero_lies d _)) (Dp.of_lies 16 (default:World) nilT (.slice none 0 0) (zero_lies 16 _))]
 kernel_rfl
theorem of_good16 {d:Nat} {o:Int} {qs:List PP} {u:Value} {w:World} (hu:SlQ 0 d w qs u) (h:ofErr d o (qs.map trT)=0):∀p∈qs,Good 16 p.1.1∧Good 16 p.2.1:=by
 obtain⟨_,hp⟩:=ofErr_zero h
 obtain⟨_,hr⟩:=pErr_zero hp
 obtain⟨h16,hr16⟩:=slq_canon hu (fun p hpq=>hr (trT p) (List.mem_map_of_mem hpq))
 exact fun p hpq=>⟨⟨(hr16 p hpq).1,Dp.of_lies 16 w p.1.1 p.1.2 (h16.good p hpq).1.1⟩,⟨(hr16 p hpq).2,Dp.of_lies 16 w p.2.1 p.2.2 (h16.good p hpq).2.1⟩⟩
theorem mof_mp16 (d:Nat) (o:Int) (qs:List PP) (u:Value) (w:World) (hu:SlQ 0 d w qs u):Calls Tryz.prog 28 #[.int .i64 o,u] w (MpPost o.toNat (ofK o.toNat qs) (ofErr d o (qs.map trT)) w):=by
 refine (mof_14 d o qs u w hu).mono fun e w' h=>?_
 obtain⟨hb,⟨h0,rfl⟩|⟨h0,t,b,rfl,hm,hi⟩⟩:=h
 ·exact⟨hb,none,rfl,.inl ⟨h0,rfl⟩⟩
 ·rw [h0]
  exact⟨hb,_,rfl,.inr ⟨rfl,t,b,rfl,hm,kydO_eq (fun p hp=>(of_good16 hu h0 p hp).1) _ _ (by omega) (by omega) hm.rises hi⟩⟩
theorem keys_err {d:Nat} {o:Int} {l:List VT} (ho:zan o=0) (hl : ¬65536<l.length):ofErr d o (l.map nilP)=lookE d o l:=by
 have h1 : ¬(o<0∨6≤o):=fun h=>by unfold zan at ho;rw [if_pos h] at ho;cases ho
 unfold ofErr lookE pErr zae
 rw [if_neg (by omega),if_neg h1,if_neg (by rw [List.length_map];exact hl),if_neg hl]
 have h2:(l.map nilP).all (okP d)=l.all (zab d):=by
  rw [List.all_map]
  congr 1
  funext v
  show (zab d v&&zab d nilT)=zab d v
  rw [right_nil,Bool.and_true]
 rw [h2]
theorem sof_list16 (d:Nat) (o:Int) (l:List VT) (u:Value) (w:World) (hu:Lies (d+1) w l u):Calls Tryz.prog 6 #[.int .i64 o,u] w (SpPost o.toNat (setL o.toNat l) (lookE d o l) w):=by
 obtain⟨a0,c0,rfl,_⟩:=Lies.slice hu
 have HNw:Hid _:=mnew_14 o w
 by_cases ho:zan o=0
 ·have hoN:(o<0∨6≤o)=False:=by
   refine eq_false fun h=>?_
   unfold zan at ho
   rw [if_pos h] at ho
   cases ho
  rw [ho] at HNw
  by_cases hl:65536<l.length
  ·have hE:lookE d o l=2:=by unfold lookE zae;rw [if_neg (by rw [hoN];exact id),if_pos hl]
   rw [hE]
   have hli:(65536:Int)<(l.length:Nat):=by omega
   clear hu ho hoN hE hl
   generalize setL o.toNat l=SL at *
   generalize l.length=N at *
   go_enter Tryz.func6,Tryz.ntmps6
   go_wp2_with fail
   refine Calls.mono HNw.out ?_
   rintro e w1 ⟨hb,p,rfl,_⟩
   have HE:Hid (SpPost o.toNat SL 2 w (.returned (.tuple #[.pointer none,.int .i64 2])) w1):=⟨hb,none,rfl,.inl ⟨by decide,rfl⟩⟩
   clear hb HNw
   go_wp2_with fail
   go_ret2
   exact HE.out
  ·obtain⟨ps,hps,hpl,hsp⟩:=SlP.of_lies hu
   have HKy:Hid (∀V,Below w.heap.size w V→Calls Tryz.prog 29 #[.slice a0 l.length c0] V (KyPost ps d V)):=fun V hV=>keyed_16 d ps _ V (hsp.keeps hV) (by omega)
   have hmap:(ps.map keyP).map trT=l.map nilP:=by rw [keyP_map,hps]
   have HOf:Hid (∀V v,SlQ 0 d V (ps.map keyP) v→Calls Tryz.prog 28 #[.int .i64 o,v] V (MpPost o.toNat (setL o.toNat l) (lookE d o l) V)):=fun V v hv=>by
    have h9:=mof_mp16 d o (ps.map keyP) v V hv
    rw [hmap,keys_err ho hl,ofK_is,hmap] at h9
    exact h9
   have HN:Hid (Nils (setL o.toNat l)):=setL_nils _ _
   have hli : ¬(65536:Int)<(l.length:Nat):=by omega
   clear hu ho hoN hl hps hpl hsp hmap
   generalize setL o.toNat l=SL at *
   generalize lookE d o l=E at *
   generalize l.length=N at *
   go_enter Tryz.func6,Tryz.ntmps6
   go_wp2_with fail
   refine Calls.mono HNw.out ?_
   rintro e w1 ⟨hb1,p,rfl,_⟩
   clear HNw
   go_wp2_with fail
   refine Calls.mono (HKy.out _ hb1) ?_
   rintro e w2 ⟨hg2,v2,rfl,hv2⟩
   have hb2:Below w.heap.size w w2:=hb1.trans (hg2.mono hb1.size)
   have HO2:Hid _:=HOf.out w2 v2 hv2
   clear HKy HOf hg2 hv2 hb1
   go_wp2_with fail
   refine Calls.mono HO2.out ?_
   rintro e w3 ⟨hg3,p3,rfl,hp3⟩
   have HM:Hid _:=smade_16 hp3 HN.out
   have hb3:Below w.heap.size w w3:=hb2.trans (hg3.mono hb2.size)
   clear hg3 hp3 HO2 hb2
   go_wp2_with fail
   refine Calls.mono HM.out ?_
   rintro e w4 ⟨hg4,p4,rfl,hp4⟩
   have HE:Hid (SpPost o.toNat SL E w (.returned (.tuple #[.pointer p4,.int .i64 E])) w4):=⟨hb3.trans (hg4.mono hb3.size),p4,rfl,hp4⟩
   clear hg4 hp4 HM hb3
   go_wp2_with fail
   go_ret2
   exact HE.out
 ·have hE:lookE d o l=zan o:=by
   unfold lookE zan
   have h1:o<0∨6≤o:=Classical.byContradiction fun h=>ho (by unfold zan;rw [if_neg h])
   rw [if_pos h1,if_pos h1]
  rw [hE]
  have HZ:Hid (¬zan o=0):=ho
  clear hu hE ho
  generalize setL o.toNat l=SL at *
  generalize zan o=E at *
  generalize l.length=N at *
  go_enter Tryz.func6,Tryz.ntmps6
  go_wp2_with fail
  refine Calls.mono HNw.out ?_
  rintro e w1 ⟨hb,p,rfl,_⟩
  have hz:=HZ.out
  have HE:Hid (SpPost o.toNat SL E w (.returned (.tuple #[.pointer none,.int .i64 E])) w1):=⟨hb,none,rfl,.inl ⟨HZ.out,rfl⟩⟩
  clear hb HNw
  go_wp2_with fail
  go_ret2
  exact HE.out
theorem topq_walk (o:Int) (n:Nat) (l:List VT) (a:Option Addr) (cp:Nat) (w:World) (hl:Lies (n+1) w l (.slice a l.length cp)):Calls Tryz.prog 4 #[.int .i64 o,.slice a l.length cp] w fun e w'=>e=.returned (.bool true)∧Below w.heap.size w w':=by
 have HQu:Hid (∀V,Calls Tryz.prog 17 #[] V fun e w'=>e=.returned (.bool true)∧Below V.heap.size V w'):=queued_any
 have HP:Hid (Calls Tryz.prog 15 #[.int .i64 o,.slice a l.length cp] w (OfPost (fun _=>True) n o l w)):=of_any19 (fun _=>True) n o l _ w hl (fun _ _=>trivial)
 have HS:Hid (∀V,Below w.heap.size w V→Calls Tryz.prog 16 #[.int .i64 o,.slice a l.length cp] V (SortPost n o l V)):=fun V hV=>sort6_any n o l _ V (Lies.keeps hV _ _ _ hl)
 have HT:Hid (∀V,Below w.heap.size w V→Calls Tryz.prog 6 #[.int .i64 o,.slice a l.length cp] V (SpPost o.toNat (setL o.toNat l) (lookE n o l) V)):=fun V hV=>sof_list16 n o l _ V (Lies.keeps hV _ _ _ hl)
 have HG:Hid (lookE n o l=0→l.length≤65536∧∀x∈l,Good 16 x):=fun h0=>by
  obtain⟨_,hlen,hr⟩:=lookE_zero h0
  obtain⟨h1,h2⟩:=canonL19 hl (List.all_eq_true.2 fun x hx=>hr x hx)
  exact⟨hlen,(good19 h1 hlen (fun x hx=>List.all_eq_true.1 h2 x hx)).2⟩
 clear hl
 unfold OfPost at HP
 unfold SortPost at HS
 obtain⟨E,hE⟩:∃E,E=lookE n o l:=⟨_,rfl⟩
 obtain⟨q,hq⟩:∃q,q=o.toNat:=⟨_,rfl⟩
 rw [←hE,←hq] at HP HS HT
 rw [←hE] at HG
 clear hE hq
 obtain⟨M,hM⟩:∃M,M=l.length:=⟨_,rfl⟩
 rw [←hM] at HP HS HT ⊢
 clear hM
 go_enter Tryz.func4,Tryz.ntmps4
 go_wp2_with fail
 refine Calls.mono HP.out ?_
 rintro e w1 ⟨hb1,hp1⟩
 have HSt1:Hid ((E≠0∧e=.returned (.tuple #[.pointer none,.int .i64 E]))∨(E=0∧∃p,e=.returned (.tuple #[.pointer p,.int .i64 0])∧QM (fun _=>True) w1 q l p)):=hp1
 have HS1:=show Hid _ from HS.out w1 hb1
 have HTx:Hid (∀V,Below w1.heap.size w1 V→Calls Tryz.prog 6 #[.int .i64 o,.slice a M cp] V (SpPost q (setL q l) E V)):=fun V hV=>HT.out V (hb1.trans (hV.mono hb1.size))
 clear hp1 HP HS HT
 rcases HSt1.out with ⟨h0,rfl⟩|⟨rfl,p,rfl,hqm⟩
 ·clear HSt1
  go_wp2_with fail
  refine Calls.mono HS1.out ?_
  rintro e w2 (⟨_,rfl,hb⟩|⟨h1,_⟩)
  ·have hb2:Below w.heap.size w w2:=hb1.trans (hb.mono hb1.size)
   have HT2:=show Hid _ from HTx.out w2 hb
   clear HS1 HTx hb hb1
   go_wp2_with fail
   refine Calls.mono HT2.out ?_
   rintro e w3 ⟨hg3,p3,rfl,hp3⟩
   obtain rfl:p3=none:=hp3.elim (fun h=>h.2) (fun h=>absurd h.1 h0)
   have hb3:Below w.heap.size w w3:=hb2.trans (hg3.mono hb2.size)
   have HQ3:=show Hid _ from HQu.out w3
   have hne:(E != 0)=true:=by simpa using h0
   have hnE : ¬E=0:=h0
   clear HT2 hp3 hg3 hb2 HG h0
   go_wp2_with fail
   refine Calls.mono HQ3.out ?_
   rintro e w4 ⟨rfl,hg4⟩
   have hb4:=hb3.trans (hg4.mono hb3.size)
   clear hg4 HQ3
   go_wp2_with fail
   go_ret
   exact⟨rfl,hb4⟩
  ·exact absurd h1 h0
 ·obtain⟨b,rfl,hqc⟩:=hqm
  obtain⟨hlen,hgood⟩:=HG.out rfl
  have HQ1:Hid (QC (fun _=>True) w1 q l b):=hqc
  clear hqc HSt1 HG
  go_wp2_with fail
  refine Calls.mono HS1.out ?_
  rintro e w2 (⟨h1,_⟩|⟨_,v2,rfl,hL2,hb⟩)
  ·exact absurd rfl h1
  have hL2':=LiesB.lies _ _ _ hL2
  obtain⟨a2,c2,rfl,_⟩:=Lies.slice hL2'
  have HL2:Hid (Lies 17 w2 (srtV q l) (.slice a2 (srtV q l).length c2)):=hL2'
  have hb2:Below w.heap.size w w2:=hb1.trans (hb.mono hb1.size)
  have HQ2:Hid (QC (fun _=>True) w2 q l b):=HQ1.out.keeps hb
  have HT2:=show Hid _ from HTx.out w2 hb
  have HOn:Hid (∀V,Below w2.heap.size w2 V→Calls Tryz.prog 21 #[.slice a2 (srtV q l).length c2] V (OnPost ((setL q l).map (·.1)) V)):=fun V hV=>by
   have h9:=once_top (srtV q l) _ V (Lies.keeps hV _ _ _ HL2.out) (by rw [srtV_len];exact hlen)
   rw [once_set hgood] at h9
   exact h9
  have HVa:Hid (∀V u,Below w2.heap.size w2 V→Lies 17 V (srtV q l) u→Calls Tryz.prog 18 #[u,.slice a2 (srtV q l).length c2] V fun e w'=>e=.returned (.bool true)∧Below V.heap.size V w'):=fun V u hV hu=>values_same 16 (srtV q l) _ _ V hu (Lies.keeps hV _ _ _ HL2.out) (by rw [srtV_len];exact hlen)
  have HVb:Hid (∀V ps u ps2 u2,ps.map (·.1)=(setL q l).map (·.1)→ps2.map (·.1)=(setL q l).map (·.1)→SlP 0 16 V ps u→SlP 0 16 V ps2 u2→Calls Tryz.prog 18 #[u,u2] V fun e w'=>e=.returned (.bool true)∧Below V.heap.size V w'):=fun V ps u ps2 u2 h1 h2 h3 h4=>by
   have k3:=h3.lies
   have k4:=h4.lies
   rw [h1] at k3
   rw [h2] at k4
   exact values_same 16 ((setL q l).map (·.1)) u u2 V k3 k4 (by rw [List.length_map];have:=setL_len q l;omega)
  have HSd:Hid (∀V,Below w2.heap.size w2 V→Calls Tryz.prog 19 #[.pointer (some ⟨b,0,none⟩)] V (RowPost (srtV q l) V)):=fun V hV=>sorted_any19 (.inr ⟨b,rfl,HQ2.out.keeps hV⟩)
  clear hL2 hL2' hb hb1 HS1 HTx HQ1 HL2 hgood hlen HQ2
  generalize (srtV q l).length=K at *
  generalize srtV q l=SV at *
  go_wp2_with fail
  refine Calls.mono HT2.out ?_
  rintro e w3 ⟨hg3,p3,rfl,hp3⟩
  obtain⟨s,rfl,hms⟩:∃s,p3=some ⟨s,0,none⟩∧SC w3 q (setL q l) s:=hp3.elim (fun h=>absurd rfl h.1) (fun h=>h.2)
  have HM3:Hid (SC w3 q (setL q l) s):=hms
  have HG3:Hid (Below w2.heap.size w2 w3):=hg3
  have HB2:Hid (Below w.heap.size w w2):=hb2
  have HSc:=show Hid _ from HSd.out w3 hg3
  clear HT2 hp3 hg3 hms hb2 HSd
  go_wp2_with fail
  refine Calls.mono HSc.out ?_
  rintro e w4 ⟨v4,rfl,hL4,hg4⟩
  have hL4':=LiesB.lies _ _ _ hL4
  obtain⟨a4,c4,rfl,_⟩:=Lies.slice hL4'
  have HG4:Hid (Below w2.heap.size w2 w4):=HG3.out.trans (hg4.mono HG3.out.size)
  have HM4:Hid (SC w4 q (setL q l) s):=HM3.out.keeps hg4
  have HVc:=show Hid _ from HVa.out w4 _ HG4.out hL4'
  clear HSc hL4 hL4' hg4 HG3 HM3 HVa
  go_wp2_with fail
  refine Calls.mono HVc.out ?_
  rintro e w5 ⟨rfl,hg5⟩
  have HG5:Hid (Below w2.heap.size w2 w5):=HG4.out.trans (hg5.mono HG4.out.size)
  have HIc:Hid _:=sitems_16 (HM4.out.keeps hg5)
  clear HVc hg5 HG4 HM4
  go_wp2_with fail
  refine Calls.mono HIc.out ?_
  rintro e w6 ⟨hg6,ps6,v6,rfl,hk6,hs6⟩
  obtain⟨a6,c6,rfl,_⟩:=hs6.slice
  have HG6:Hid (Below w2.heap.size w2 w6):=HG5.out.trans (hg6.mono HG5.out.size)
  have HS6:Hid (ps6.map (·.1)=(setL q l).map (·.1)∧SlP 0 16 w6 ps6 (.slice a6 ps6.length c6)):=⟨hk6,hs6.mono (Nat.zero_le _)⟩
  have HOc:=show Hid _ from HOn.out w6 HG6.out
  clear HIc hg6 hk6 hs6 HG5 HOn
  go_wp2_with fail
  refine Calls.mono HOc.out ?_
  rintro e w7 ⟨hg7,ps7,v7,rfl,hk7,hs7⟩
  obtain⟨a7,c7,rfl,_⟩:=hs7.slice
  have HG7:Hid (Below w2.heap.size w2 w7):=HG6.out.trans (hg7.mono HG6.out.size)
  have HVd:=show Hid _ from HVb.out w7 ps6 _ ps7 _ HS6.out.1 hk7 (HS6.out.2.keeps hg7) hs7
  clear HOc hg7 hk7 hs7 HG6 HVb HS6
  go_wp2_with fail
  refine Calls.mono HVd.out ?_
  rintro e w8 ⟨rfl,hg8⟩
  have HG8:Hid (Below w2.heap.size w2 w8):=HG7.out.trans (hg8.mono HG7.out.size)
  have HQ8:=show Hid _ from HQu.out w8
  clear HVd hg8 HG7 HQu
  go_wp2_with fail
  refine Calls.mono HQ8.out ?_
  rintro e w9 ⟨rfl,hg9⟩
  have HF:Hid (Below w.heap.size w w9):=HB2.out.trans ((HG8.out.trans (hg9.mono HG8.out.size)).mono HB2.out.size)
  clear HQ8 hg9
  go_wp2_with fail
  go_ret
  exact⟨rfl,HF.out⟩
end Go.Proofs.YtlnecfjnffdciacGreat
