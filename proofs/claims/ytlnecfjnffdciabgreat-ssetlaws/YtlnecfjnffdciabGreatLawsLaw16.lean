import Derived.Test.YtlnecfjnffdciabGreatSBoth16
import Derived.OneCell
namespace Go.Proofs.YtlnecfjnffdciabGreat
open Go.RowKit Go.Shelf
def Two4 (W:World) (b:Nat) (o p:Int) (u1 u2:Value):Prop:=W.cell? ⟨b,0,none⟩=some (.int .i64 o)∧W.cell? ⟨b,1,none⟩=some (.int .i64 p)∧W.cell? ⟨b,2,none⟩=some u1∧W.cell? ⟨b,3,none⟩=some u2
theorem Two4.keeps {W W':World} {b:Nat} {o p:Int} {u1 u2:Value} (h:Two4 W b o p u1 u2) (hb:Below W.heap.size W W'):Two4 W' b o p u1 u2:=
 ⟨zaa hb h.1,zaa hb h.2.1,zaa hb h.2.2.1,zaa hb h.2.2.2⟩
theorem rank_place {q:Nat} {l:List PT} (h:RT.Rises (byK q) l) {j:Nat} {x:PT} (hx:l[j]? = some x):upS q x.1 l=j:=by
 have hf:=RT.Rises.falls (byK_cmp q) h (x.1,x.1)
 obtain⟨_,h1⟩:=filter_ahead (atK q x.1) false l hf
 obtain⟨hj,ej⟩:=List.getElem?_eq_some_iff.1 hx
 have hn : ¬RT.ahead (atK q x.1) false x=true:=by
  unfold RT.ahead atK
  rw [ordV_self]
  decide
 have e1 : ¬j<upS q x.1 l:=fun h9=>hn ((h1 j x hx).2 h9)
 have e2:upS q x.1 l≤l.length:=upS_le q x.1 l
 by_cases h2:upS q x.1 l<j
 ·have hi:l[upS q x.1 l]? = some l[upS q x.1 l]:=List.getElem?_eq_getElem (by omega)
  have hlt:byK q l[upS q x.1 l] l[j]<0:=List.pairwise_iff_getElem.1 h _ j (by omega) hj h2
  rw [ej] at hlt
  have ha:RT.ahead (atK q x.1) false l[upS q x.1 l]=true:=by
   have ht:=zaz q l[upS q x.1 l].1 x.1
   have hlt':ordV q l[upS q x.1 l].1 x.1<0:=hlt
   unfold RT.ahead atK
   have:0<ordV q x.1 l[upS q x.1 l].1:=by omega
   simp [this]
  exact absurd ((h1 _ _ hi).1 ha) (Nat.lt_irrefl _)
 ·omega
theorem uni_back {q:Nat} {la lb:List PT} (ha:RT.Rises (byK q) la) (hga:∀x∈la,Good 16 x.1):uniL q (lessL q la (lessL q la lb)) (lessL q la lb)=la:=by
 have hr1:RT.Rises (byK q) (lessL q la (lessL q la lb)):=List.Pairwise.filter _ ha
 have hr2:RT.Rises (byK q) (lessL q la lb):=List.Pairwise.filter _ ha
 have a1:(lessL q la (lessL q la lb)).Pairwise (fun a b=>byK q a b≠0):=rises_apartT (q:=q) (fun x hx=>hga x (List.mem_filter.1 hx).1) hr1
 have a2:(lessL q la lb).Pairwise (fun a b=>byK q a b≠0):=rises_apartT (q:=q) (fun x hx=>hga x (List.mem_filter.1 hx).1) hr2
 refine RT.rises_eq (byK_cmp q) _ _ (ofL_rises q _) ha fun y=>?_
 rw [uniL_mem a1 a2]
 constructor
 ·rintro (h|⟨h,_⟩)
  ·exact (List.mem_filter.1 h).1
  ·exact (List.mem_filter.1 h).1
 ·intro hy
  by_cases hl:y∈lessL q la lb
  ·exact .inl hl
  ·have hno:∀x∈lessL q la lb,byK q x y≠0:=fun x hx h0=>by
    have hxa:=(List.mem_filter.1 hx).1
    have e1:x.1=y.1:=good_eq (hga x hxa) (hga y hy) ((ordV_zero q (hga x hxa) (hga y hy)).1 h0)
    apply hl
    refine List.mem_filter.2 ⟨hy,?_⟩
    have hx2:=(List.mem_filter.1 hx).2
    rw [List.all_eq_true] at hx2 ⊢
    intro z hz
    have h8:=hx2 z hz
    have e2:byK q z y=byK q z x:=by show ordV q z.1 y.1=ordV q z.1 x.1;rw [e1]
    rw [e2]
    exact h8
   exact .inr ⟨List.mem_filter.2 ⟨hy,by rw [List.all_eq_true];exact fun x hx=>decide_eq_true (hno x hx)⟩,hno⟩
set_option maxRecDepth 100000 in
set_option maxHeartbeats 32000000 in
theorem laws16_walk (o p:Int) (n:Nat) (l m:List VT) (u1 u2:Value) (w:World) (hl:Lies (n+1) w l u1) (hm:Lies (n+1) w m u2):Calls Tryz.prog 7 #[.agg #[.int .i64 o,.int .i64 p,u1,u2]] w fun e w'=>e=.returned (.bool true)∧Below w.heap.size w w':=by
 have HSp:Hid (∀V,Calls Tryz.prog 11 #[] V fun e w'=>e=.returned (.bool true)∧Below V.heap.size V w'):=speaks16_any
 have HA:Hid (∀V,Below w.heap.size w V→Calls Tryz.prog 9 #[.int .i64 o,u1] V (SpPost o.toNat (setL o.toNat l) (lookE n o l) V)):=fun V hV=>sof_list16 n o l _ V (Lies.keeps hV _ _ _ hl)
 have HB:Hid (∀V,Below w.heap.size w V→Calls Tryz.prog 9 #[.int .i64 p,u2] V (SpPost p.toNat (setL p.toNat m) (lookE n p m) V)):=fun V hV=>sof_list16 n p m _ V (Lies.keeps hV _ _ _ hm)
 obtain⟨a1,c1,rfl,_⟩:=Lies.slice hl
 obtain⟨a2,c2,rfl,_⟩:=Lies.slice hm
 clear hl hm
 generalize setL o.toNat l=la at *
 generalize setL p.toNat m=lb at *
 generalize o.toNat=q at *
 generalize p.toNat=r at *
 generalize lookE n o l=E1 at *
 generalize lookE n p m=E2 at *
 generalize l.length=m1 at *
 generalize m.length=m2 at *
 obtain⟨W0,hW0⟩:∃W0,W0=w.alloc (.cells #[.int .i64 o,.int .i64 p,.slice a1 m1 c1,.slice a2 m2 c2] 66):=⟨_,rfl⟩
 have HW0:Hid (W0=w.alloc (.cells #[.int .i64 o,.int .i64 p,.slice a1 m1 c1,.slice a2 m2 c2] 66)):=hW0
 have hb0:Below w.heap.size w W0:=by rw [hW0];exact ((Grew.refl w).alloc _).below
 have HX0:Hid (Two4 W0 w.heap.size o p (.slice a1 m1 c1) (.slice a2 m2 c2)):=by rw [hW0];exact⟨by simp,by simp,by simp,by simp⟩
 have HC0:=show Hid _ from HA.out W0 hb0
 go_enter Tryz.func7,Tryz.ntmps7
 go_upto_region 1 with fail
 rw [←HW0.out]
 clear hW0 HA HW0
 obtain⟨x0,x1,x2,x3⟩:=HX0.out
 go_wp2_with fail
 refine Calls.mono HC0.out ?_
 rintro e w1 ⟨hg1,p1,rfl,hp1⟩
 have hb1:Below w.heap.size w w1:=hb0.trans (hg1.mono hb0.size)
 have Hp1:Hid ((E1≠0∧p1=none)∨(E1=0∧∃s,p1=some ⟨s,0,none⟩∧SC w1 q la s)):=hp1
 have HX1:Hid (Two4 w1 w.heap.size o p (.slice a1 m1 c1) (.slice a2 m2 c2)):=Two4.keeps HX0.out hg1
 have HC1:=show Hid _ from HB.out w1 hb1
 clear x0 x1 x2 x3 hp1 hg1 hb0 HX0 HC0 HB
 obtain⟨x0,x1,x2,x3⟩:=HX1.out
 go_wp2_with fail
 refine Calls.mono HC1.out ?_
 rintro e w4 ⟨hg2,p2,rfl,hp2⟩
 have HB4:Hid (Below w.heap.size w w4):=hb1.trans (hg2.mono hb1.size)
 have HSt1:Hid ((E1≠0∧p1=none)∨(E1=0∧∃s,p1=some ⟨s,0,none⟩∧SC w4 q la s)):=Hp1.out.imp id fun ⟨h1,s,h2,h3⟩=>⟨h1,s,h2,h3.keeps hg2⟩
 have HSt2:Hid ((E2≠0∧p2=none)∨(E2=0∧∃s,p2=some ⟨s,0,none⟩∧SC w4 r lb s)):=hp2
 have HSp4:=show Hid _ from HSp.out w4
 clear x0 x1 x2 x3 hp2 hg2 hb1 HX1 HC1 Hp1
 rcases HSt1.out with ⟨h0,rfl⟩|⟨rfl,s,rfl,hms⟩
 ·have hne:(E1 != 0)=true:=by simpa using h0
  clear HSt1 HSt2
  go_wp2_with fail
  refine Calls.mono HSp4.out ?_
  rintro e w5 ⟨rfl,hg5⟩
  have HB5:Hid (Below w.heap.size w w5):=HB4.out.trans (hg5.mono HB4.out.size)
  clear hg5
  go_wp2_with fail
  go_ret
  exact⟨rfl,HB5.out⟩
 ·rcases HSt2.out with ⟨h0,rfl⟩|⟨rfl,t,rfl,hmt⟩
  ·have hne:(E2 != 0)=true:=by simpa using h0
   clear HSt1 HSt2 hms
   go_wp2_with fail
   refine Calls.mono HSp4.out ?_
   rintro e w5 ⟨rfl,hg5⟩
   have HB5:Hid (Below w.heap.size w w5):=HB4.out.trans (hg5.mono HB4.out.size)
   clear hg5
   go_wp2_with fail
   go_ret
   exact⟨rfl,HB5.out⟩
  ·have HIt:Hid (∀V,Below w4.heap.size w4 V→Calls Tryz.prog 46 #[.pointer (some ⟨s,0,none⟩)] V (ItPost V.heap.size (la.map (·.1)) V)):=fun V hV=>sitems_16 (hms.keeps hV)
   obtain⟨hra,hga,hsz,hnla⟩:RT.Rises (byK q) la∧(∀x∈la,Good 16 x.1)∧la.length≤65536∧Nils la:=by
    obtain⟨b,t,_,hm,rfl,hn⟩:=hms
    exact⟨hm.rises,fun x hx=>(hm.right x hx).1,by rw [←RT.size_items];exact hm.size,hn⟩
   have HRk:Hid (∀V,Below w4.heap.size w4 V→∀(j:Nat) (x:PT) (yu:Value),la[j]? = some x→Lies 16 V x.1.items yu→x.1.text.size≤9223372036854775807→Calls Tryz.prog 30 #[.pointer (some ⟨s,0,none⟩),.agg #[.int .i64 x.1.kind,.int .i64 x.1.num,.string x.1.text,yu]] V (RkPost j 0 V)):=fun V hV j x yu hx hy ht=>by
    have h9:=srank_16 (hms.keeps hV) 16 x.1 yu hy ht
    have hr:zac 16 x.1=true:=(hga x (List.mem_of_getElem? hx)).1
    have e1:rankN 16 q x.1 la=j:=by unfold rankN;rw [if_pos hr];exact rank_place hra hx
    rw [e1,hr] at h9
    exact h9
   have HAt:Hid (∀V,Below w4.heap.size w4 V→∀(j:Nat) (x:PT),la[j]? = some x→Calls Tryz.prog 28 #[.pointer (some ⟨s,0,none⟩),.int .i64 (j:Int)] V (Tells 16 (x.1,0) V)):=fun V hV j x hx=>by
    have h9:=sat_16 (hms.keeps hV) (j:Int)
    rw [itemAt_natL,hx] at h9
    exact h9
   have HM:Hid (∀V,Below w4.heap.size w4 V→Calls Tryz.prog 40 #[.pointer (some ⟨s,0,none⟩),.pointer (some ⟨t,0,none⟩)] V (SmPost q (lessL q la (lessL q la lb)) V)):=fun V hV=>smeet_16 (hms.keeps hV) (hmt.keeps hV)
   have HL:Hid (∀V,Below w4.heap.size w4 V→Calls Tryz.prog 42 #[.pointer (some ⟨s,0,none⟩),.pointer (some ⟨t,0,none⟩)] V (SmPost q (lessL q la lb) V)):=fun V hV=>sless_16 (hms.keeps hV) (hmt.keeps hV)
   have HU:Hid (∀V a b,SC V q (lessL q la (lessL q la lb)) a→SC V q (lessL q la lb) b→Calls Tryz.prog 38 #[.pointer (some ⟨a,0,none⟩),.pointer (some ⟨b,0,none⟩)] V (SpPost q la 0 V)):=fun V a b h1 h2=>by
    have h9:=suni_16 h1 h2
    rw [uni_back hra hga] at h9
    have e9:uniE la=0:=by unfold uniE;rw [if_neg (by omega)]
    rw [e9] at h9
    exact h9
   have HE:Hid (∀V u,Below w4.heap.size w4 V→SC V q la u→Calls Tryz.prog 44 #[.pointer (some ⟨u,0,none⟩),.pointer (some ⟨s,0,none⟩)] V fun e w'=>e=.returned (.bool true)∧Below V.heap.size V w'):=fun V u hV hu=>sequal_16 hu (hms.keeps hV) true ⟨fun _ _=>Iff.rfl,fun _=>rfl⟩
   have HVs:Hid (∀V ps u ps2 u2,ps.map (·.1)=la.map (·.1)→ps2.map (·.1)=la.map (·.1)→SlP 0 16 V ps u→SlP 0 16 V ps2 u2→Calls Tryz.prog 47 #[u,u2] V fun e w'=>e=.returned (.bool true)∧Below V.heap.size V w'):=fun V ps u ps2 u2 h1 h2 h3 h4=>by
    have k3:=h3.lies
    have k4:=h4.lies
    rw [h1] at k3
    rw [h2] at k4
    exact values_same 16 (la.map (·.1)) u u2 V k3 k4 (by rw [List.length_map];exact hsz)
   have HZ:Hid (la.length≤65536):=hsz
   clear HSt1 HSt2 hms hmt hra hga hsz hnla HSp4
   have HI4:=show Hid _ from HIt.out w4 (Below.refl _ _)
   go_wp2_with fail
   refine Calls.mono HI4.out ?_
   rintro e w5 ⟨hg5,ps,v5,rfl,hk5,hs5⟩
   obtain⟨a0,c0,rfl,_⟩:=hs5.slice
   have HG5:Hid (Below w4.heap.size w4 w5):=hg5
   have HS:Hid (SlP 0 16 w5 ps (.slice a0 ps.length c0)):=hs5.mono (Nat.zero_le _)
   have HKs:Hid (ps.map (·.1)=la.map (·.1)):=hk5
   obtain⟨N,hN⟩:∃N,N=ps.length:=⟨_,rfl⟩
   have HN:Hid (N=ps.length∧N≤65536):=by
    have e9:=congrArg List.length hk5
    rw [List.length_map,List.length_map] at e9
    exact⟨hN,by have:=HZ.out;omega⟩
   rw [←hN]
   clear hk5 hs5 hg5 HI4 hN
   go_wp2_with fail
   go_loopg [48,8,9,10,11,12] N (fun z9 i _ _ _ _ _ wr=>∃j:Nat,i=.int .i64 (j:Int)∧j≤N∧z9=N-j∧Hid (Below w5.heap.size w5 wr))
   case atStart=>exact⟨0,rfl,by omega,by omega,Below.refl _ _⟩
   case round=>
    obtain⟨j,rfl,hj,hk,HBw⟩:=hrel
    have Hk:Hid _:=hk
    clear hk
    by_cases hlt:j<N
    ·have hji:(j:Int)<(N:Nat):=by omega
     have hji0:(0:Int)≤(j:Int):=by omega
     have hN6:N≤65536:=HN.out.2
     have hltq:j<ps.length:=by have:=HN.out.1;omega
     have hnn:ps≠[]:=by intro e;rw [e] at hltq;cases hltq
     obtain⟨av,cv,hv1,hcl,_,hrow,hgq⟩:=HS.out
     obtain⟨bb,oo,hav,_,hq1⟩:=hrow hnn
     have ha1:a0=some ⟨bb,oo,none⟩:=by rw [←hav];injection hv1
     subst ha1
     obtain⟨p0,p1,p2,p3⟩:=hq1 j hltq
     have hg:=hgq ps[j] (List.getElem_mem hltq)
     obtain⟨x,hx,hxt⟩:∃x,la[j]? = some x∧x.1=ps[j].1:=by
      have e9:(la.map (·.1))[j]? = some ps[j].1:=by rw [←HKs.out,List.getElem?_map,List.getElem?_eq_getElem hltq];rfl
      rw [List.getElem?_map] at e9
      cases hc:la[j]? with
      | none=>rw [hc] at e9;cases e9
      | some x=>rw [hc] at e9;exact⟨x,rfl,by injection e9⟩
     obtain⟨a9,c9,hu1,_⟩:=Lies.slice hg.1
     rw [hu1] at p3
     have HX:Hid (Lies 16 w5 ps[j].1.items (.slice a9 ps[j].1.items.length c9)∧ps[j].1.text.size≤9223372036854775807):=⟨by rw [←hu1];exact hg.1,hg.2⟩
     generalize ps[j]=y at *
     obtain⟨t1,u1⟩:=y
     simp only at p0 p1 p2 p3 hu1 HX hxt
     subst hu1
     have hbw:=HBw.out
     have hw4:Below w4.heap.size w4 wr:=HG5.out.trans (hbw.mono HG5.out.size)
     have p0:=zaa hbw p0;have p1:=zaa hbw p1;have p2:=zaa hbw p2;have p3:=zaa hbw p3
     have HRc:Hid (Calls Tryz.prog 30 #[.pointer (some ⟨s,0,none⟩),.agg #[.int .i64 t1.kind,.int .i64 t1.num,.string t1.text,.slice a9 t1.items.length c9]] wr (RkPost j 0 wr)):=by
      have h9:=HRk.out wr hw4 j x (.slice a9 t1.items.length c9) hx (by rw [hxt];exact Lies.keeps hbw _ _ _ HX.out.1) (by rw [hxt];exact HX.out.2)
      rw [hxt] at h9
      exact h9
     have HAc:Hid (∀V,Below wr.heap.size wr V→Calls Tryz.prog 28 #[.pointer (some ⟨s,0,none⟩),.int .i64 (j:Int)] V (Tells 16 (t1,0) V)):=fun V hV=>by
      have h9:=HAt.out V (hw4.trans (hV.mono hw4.size)) j x hx
      rw [hxt] at h9
      exact h9
     have HV1:Hid (∀V u v,Lies 16 V t1.items u→Lies 16 V t1.items v→Calls Tryz.prog 19 #[.agg #[.int .i64 t1.kind,.int .i64 t1.num,.string t1.text,u],.agg #[.int .i64 t1.kind,.int .i64 t1.num,.string t1.text,v]] V fun e w'=>e=.returned (.bool true)∧Below V.heap.size V w'):=fun V u v h1 h2=>val_told16 t1 u v V h1 h2
     have HLr:Hid (Lies 16 wr t1.items (.slice a9 t1.items.length c9)):=Lies.keeps hbw _ _ _ HX.out.1
     clear hq1 hgq hg hv1 hrow hcl hav hx hxt hw4 HX
     go_wp2_with fail
     refine Calls.mono HRc.out ?_
     rintro e v1 ⟨rfl,hg1⟩
     have p0:=zaa hg1 p0;have p1:=zaa hg1 p1;have p2:=zaa hg1 p2;have p3:=zaa hg1 p3
     have hb1:Below w5.heap.size w5 v1:=hbw.trans (hg1.mono hbw.size)
     have HL1:Hid (Lies 16 v1 t1.items (.slice a9 t1.items.length c9)):=Lies.keeps hg1 _ _ _ HLr.out
     have HA1:=show Hid _ from HAc.out v1 hg1
     clear HRc HAc HLr hg1 hbw HBw
     go_wp2_with fail
     refine Calls.mono HA1.out ?_
     rintro e v2 ⟨u2,rfl,hL2,hg2⟩
     obtain⟨ax,cx,rfl,_⟩:=Lies.slice hL2
     obtain⟨V2,hV2⟩:∃V,V=v2.alloc (.cells #[.int .i64 t1.kind,.int .i64 t1.num,.string t1.text,.slice ax t1.items.length cx] 33):=⟨_,rfl⟩
     have HV2:Hid (V2=v2.alloc (.cells #[.int .i64 t1.kind,.int .i64 t1.num,.string t1.text,.slice ax t1.items.length cx] 33)):=hV2
     have ha2:Below v2.heap.size v2 V2:=by rw [hV2];exact ((Grew.refl _).alloc _).below
     obtain⟨y0,y1,y2,y3,_,_,_,_⟩:Bx V2 v2.heap.size t1 (.slice ax t1.items.length cx):=by rw [hV2];exact bx_alloc _ t1 _
     have hq2:Below v1.heap.size v1 V2:=hg2.trans (ha2.mono hg2.size)
     have HB2:Hid (Below w5.heap.size w5 V2):=hb1.trans (hq2.mono hb1.size)
     have HVc:Hid (∀V,Below V2.heap.size V2 V→Calls Tryz.prog 19 #[.agg #[.int .i64 t1.kind,.int .i64 t1.num,.string t1.text,.slice ax t1.items.length cx],.agg #[.int .i64 t1.kind,.int .i64 t1.num,.string t1.text,.slice a9 t1.items.length c9]] V fun e w'=>e=.returned (.bool true)∧Below V.heap.size V w'):=fun V hV=>HV1.out V _ _ (Lies.keeps (ha2.trans (hV.mono ha2.size)) _ _ _ hL2) (Lies.keeps (hq2.trans (hV.mono hq2.size)) _ _ _ HL1.out)
     have p0:=zaa hq2 p0;have p1:=zaa hq2 p1;have p2:=zaa hq2 p2;have p3:=zaa hq2 p3
     clear HA1 hL2 hg2 ha2 hq2 hV2 hb1 HL1 HV1
     go_upto_region 13 with fail
     rw [←HV2.out]
     clear HV2
     have hbx:Below V2.heap.size V2 V2:=Below.refl _ _
     go_region_held3 (fun w'=>w'.cell? ⟨v2.heap.size,0,none⟩=some (.int .i64 t1.kind)∧w'.cell? ⟨v2.heap.size,1,none⟩=some (.int .i64 t1.num)∧w'.cell? ⟨v2.heap.size,2,none⟩=some (.string t1.text)∧w'.cell? ⟨v2.heap.size,3,none⟩=some (.slice ax t1.items.length cx)∧w'.cell? ⟨bb,oo+j*4,none⟩=some (.int .i64 t1.kind)∧w'.cell? ⟨bb,oo+j*4+1,none⟩=some (.int .i64 t1.num)∧w'.cell? ⟨bb,oo+j*4+2,none⟩=some (.string t1.text)∧w'.cell? ⟨bb,oo+j*4+3,none⟩=some (.slice a9 t1.items.length c9)) (go_keep)
      (first|(go_at_call 19;(with_reducible refine Calls.mono (HVc.out _ (Below.refl _ _).drew) ?_);rintro e w6 ⟨rfl,hg6⟩;have hb6:Below V2.heap.size V2 w6:=(Below.refl V2.heap.size V2).drew.trans hg6;have y0:=zaa hb6 y0;have y1:=zaa hb6 y1;have y2:=zaa hb6 y2;have y3:=zaa hb6 y3;have p0:=zaa hb6 p0;have p1:=zaa hb6 p1;have p2:=zaa hb6 p2;have p3:=zaa hb6 p3;clear hg6))
     have hb9:Below w5.heap.size w5 w6:=HB2.out.trans (hb6.mono HB2.out.size)
     clear y0 y1 y2 y3 p0 p1 p2 p3 HVc HB2 hbx
     go_wp2_with fail
     go_roundg (N-(j+1))
     case measure=>have:=Hk.out;omega
     case rel=>exact⟨j+1,by go_num,by omega,rfl,hb9⟩
    ·have hjl:j=N:=by omega
     have hji : ¬(j:Int)<(N:Nat):=by omega
     have HG6:Hid (Below w4.heap.size w4 wr):=HG5.out.trans (HBw.out.mono HG5.out.size)
     have HSr:Hid (SlP 0 16 wr ps (.slice a0 N c0)):=by rw [HN.out.1];exact HS.out.keeps HBw.out
     clear HBw HS HRk HAt hjl
     have HM1:=show Hid _ from HM.out wr HG6.out
     go_wp2_with fail
     refine Calls.mono HM1.out ?_
     rintro e w6 ⟨hg6,s6,rfl,hm6⟩
     have HG7:Hid (Below w4.heap.size w4 w6):=HG6.out.trans (hg6.mono HG6.out.size)
     have HS6:Hid (SlP 0 16 w6 ps (.slice a0 N c0)):=HSr.out.keeps hg6
     have HK6:Hid (SC w6 q (lessL q la (lessL q la lb)) s6):=hm6
     have HL1:=show Hid _ from HL.out w6 HG7.out
     clear HM1 HM HL hm6 hg6 HG6 HSr
     go_wp2_with fail
     refine Calls.mono HL1.out ?_
     rintro e w7 ⟨hg7,s7,rfl,hm7⟩
     have HG8:Hid (Below w4.heap.size w4 w7):=HG7.out.trans (hg7.mono HG7.out.size)
     have HS7:Hid (SlP 0 16 w7 ps (.slice a0 N c0)):=HS6.out.keeps hg7
     have HU1:=show Hid _ from HU.out w7 s6 s7 (HK6.out.keeps hg7) hm7
     clear HL1 HU hm7 hg7 HG7 HS6 HK6
     go_wp2_with fail
     refine Calls.mono HU1.out ?_
     rintro e w8 ⟨hg8,p8,rfl,hp8⟩
     obtain⟨s8,rfl,hm8⟩:∃s,p8=some ⟨s,0,none⟩∧SC w8 q la s:=hp8.elim (fun h=>absurd rfl h.1) (fun h=>h.2)
     have HG9:Hid (Below w4.heap.size w4 w8):=HG8.out.trans (hg8.mono HG8.out.size)
     have HS8:Hid (SlP 0 16 w8 ps (.slice a0 N c0)):=HS7.out.keeps hg8
     have HE1:=show Hid _ from HE.out w8 s8 HG9.out hm8
     clear HU1 HE hp8 hm8 hg8 HG8 HS7
     go_wp2_with fail
     refine Calls.mono HE1.out ?_
     rintro e w9 ⟨rfl,hg9⟩
     have HG10:Hid (Below w4.heap.size w4 w9):=HG9.out.trans (hg9.mono HG9.out.size)
     have HS9:Hid (SlP 0 16 w9 ps (.slice a0 N c0)):=HS8.out.keeps hg9
     have HI9:=show Hid _ from HIt.out w9 HG10.out
     clear HE1 hg9 HG9 HS8 HIt
     go_wp2_with fail
     refine Calls.mono HI9.out ?_
     rintro e w10 ⟨hg10,ps10,v10,rfl,hk10,hs10⟩
     obtain⟨a10,c10,rfl,_⟩:=hs10.slice
     have HG11:Hid (Below w4.heap.size w4 w10):=HG10.out.trans (hg10.mono HG10.out.size)
     have HV10:=show Hid _ from HVs.out w10 ps10 _ ps _ hk10 HKs.out (hs10.mono (Nat.zero_le _)) (HS9.out.keeps hg10)
     clear HI9 hg10 hk10 hs10 HG10 HS9 HVs
     go_wp2_with fail
     refine Calls.mono HV10.out ?_
     rintro e w11 ⟨rfl,hg11⟩
     have HG12:Hid (Below w4.heap.size w4 w11):=HG11.out.trans (hg11.mono HG11.out.size)
     have HSpc:=show Hid _ from HSp.out w11
     clear HV10 hg11 HG11 HSp
     go_wp2_with fail
     refine Calls.mono HSpc.out ?_
     rintro e wz ⟨rfl,hgz⟩
     have HF:Hid (Below w.heap.size w wz):=HB4.out.trans ((HG12.out.trans (hgz.mono HG12.out.size)).mono HB4.out.size)
     clear hgz HSpc
     go_wp2_with fail
     go_ret
     exact⟨rfl,HF.out⟩
end Go.Proofs.YtlnecfjnffdciabGreat
