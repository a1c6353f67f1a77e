import Derived.Test.YtlnecfjnffdciabGreatWithP14
import Derived.Test.YtlnecfjnffdciabGreatMapV
import Derived.Test.YtlnecfjnffdciabGreatPlaceP
import Derived.Test.YtlnecfjnffdciabGreatMapM
import Derived.Test.YtlnecfjnffdciabGreatHungN
import Derived.Test.YtlnecfjnffdciabGreatRunesP
import Derived.Test.YtlnecfjnffdciabGreatRowP
import Derived.Test.YtlnecfjnffdciabGreatMapP
import Derived.Test.YtlnecfjnffdciabGreatEq
import Derived.Test.YtlnecfjnffdciabGreatSameEq
import Derived.Deep.RegionHeld3
import Derived.Test.YtlnecfjnffdciabGreatRIn
namespace Go.Proofs.YtlnecfjnffdciabGreat
open Go.RowKit Go.Shelf
theorem place_of {l:List PP} (hr:RisesK (cmpQ 16) l) {k:VT} (hk:k∈l.map (·.1.1)):∃K,∃h:K<l.length,l[K].1.1=k∧(∀t (h2:t<l.length),t<K→cmpV 16 l[t].1.1 k<0)∧(∀t (h2:t<l.length),K≤t→¬cmpV 16 l[t].1.1 k<0)∧cmpV 16 l[K].1.1 k=0:=by
 obtain⟨p,hp,rfl⟩:=List.mem_map.1 hk
 obtain⟨K,hK,rfl⟩:=List.getElem_of_mem hp
 have hpw:=List.pairwise_iff_getElem.1 hr
 have hs:cmpV 16 l[K].1.1 l[K].1.1=0:=by have:=zaz 16 l[K].1.1 l[K].1.1;omega
 refine⟨K,hK,rfl,fun t h2 hlt=>hpw t K h2 hK hlt,fun t h2 hle=>?_,hs⟩
 by_cases e:t=K
 ·subst e;omega
 ·have h9:cmpV 16 l[K].1.1 l[t].1.1<0:=hpw K t hK h2 (by omega)
  have:=zaz 16 l[K].1.1 l[t].1.1
  omega
def SortedPost (q:Nat) (qs:List PP) (w:World) (e:Ending) (w':World):Prop:=
 ∃v rs,e=.returned v∧SlQ w.heap.size 16 w' rs v∧rs.length≤65536∧(∀p∈rs,p∈qs)∧RT.Rises (byK q) (rs.map trT)∧(∀y,y∈rs.map trT↔y∈(kyd (cmpQ 16) (qs.length+1) qs).map trT)∧Below w.heap.size w w'
theorem sorted_plain (q:Nat) (last ds:List PP) (hr:RisesK (cmpQ 16) last) (hg:∀p∈last,Good 16 p.1.1) (hd:∀p∈ds,p∈last) (hk:ds.map (·.1.1)=srtV q (last.map (·.1.1))):RT.Rises (byK q) (ds.map trT)∧∀y,y∈ds.map trT↔y∈last.map trT:=by
 have hperm:(ds.map (·.1.1)).Perm (last.map (·.1.1)):=by rw [hk];exact srt_perm _ _ _
 have hne:(last.map (·.1.1)).Pairwise (fun a b=>a≠b):=by
  rw [List.pairwise_map]
  refine List.Pairwise.imp (R:=fun (a b:PP)=>cmpV 16 a.1.1 b.1.1<0) (fun {a b} h e=>?_) hr
  rw [e] at h
  have:=zaz 16 b.1.1 b.1.1
  omega
 have hne2:(ds.map (·.1.1)).Nodup:=hperm.symm.nodup hne
 have hup:(ds.map (·.1.1)).Pairwise (fun a b=>ordV q a b≤0):=by
  rw [hk]
  refine List.Pairwise.imp (fun {a b} h=>?_) (srt_up (ltO q) (fun a b h=>?_) (fun a b c h1 h2=>?_) _ _ (by omega))
  ·have h9 : ¬ordV q b a<0:=of_decide_eq_false h
   have:=zap q a b
   omega
  ·have h9:ordV q a b<0:=of_decide_eq_true h
   have:=zap q a b
   exact decide_eq_false (by omega)
  ·have k1 : ¬ordV q b a<0:=of_decide_eq_false h1
   have k2 : ¬ordV q c b<0:=of_decide_eq_false h2
   have t1:=zap q a b
   have t2:=zap q b c
   have t3:=zap q a c
   have:=(ordV_goes q a b c (by omega) (by omega)).1
   exact decide_eq_false (by omega)
 have hdk:∀p∈ds,Good 16 p.1.1:=fun p hp=>hg p (hd p hp)
 refine⟨?_,fun y=>?_⟩
 ·show (ds.map trT).Pairwise _
  rw [List.pairwise_map]
  have h1:=List.pairwise_map.1 hup
  have h2:=List.pairwise_map.1 hne2
  refine (h1.and h2).imp_of_mem fun {a b} ha hb hab=>?_
  have h0:ordV q a.1.1 b.1.1≠0:=fun e=>hab.2 (ordV_eq q (hdk a ha) (hdk b hb) e)
  show ordV q a.1.1 b.1.1<0
  have:=hab.1
  omega
 ·constructor
  ·intro hy
   obtain⟨p,hp,rfl⟩:=List.mem_map.1 hy
   exact List.mem_map.2 ⟨p,hd p hp,rfl⟩
  ·intro hy
   obtain⟨p,hp,rfl⟩:=List.mem_map.1 hy
   have hk2:p.1.1∈ds.map (·.1.1):=hperm.mem_iff.2 (List.mem_map.2 ⟨p,hp,rfl⟩)
   obtain⟨r,hr2,e⟩:=List.mem_map.1 hk2
   have:r=p:=by
    obtain⟨i,hi,rfl⟩:=List.getElem_of_mem (hd r hr2)
    obtain⟨j,hj,rfl⟩:=List.getElem_of_mem hp
    have hpw:=List.pairwise_iff_getElem.1 hr
    rcases Nat.lt_trichotomy i j with hlt|heq|hgt
    ·have h9:cmpV 16 last[i].1.1 last[j].1.1<0:=hpw i j hi hj hlt
     rw [e] at h9
     have:=zaz 16 last[j].1.1 last[j].1.1
     omega
    ·subst heq;rfl
    ·have h9:cmpV 16 last[j].1.1 last[i].1.1<0:=hpw j i hj hi hgt
     rw [e] at h9
     have:=zaz 16 last[j].1.1 last[j].1.1
     omega
   rw [←this]
   exact List.mem_map.2 ⟨r,hr2,rfl⟩
set_option maxRecDepth 100000 in
set_option maxHeartbeats 16000000 in
theorem sorted_14 (q:Nat) (hq:q<6) (qs:List PP) (u:Value) (w:World) (hu:SlQ 0 16 w qs u) (hlen:qs.length≤65536) (hright:∀p∈qs,zab 16 p.1.1=true) :
 Calls Tryz.prog 107 #[.int .i64 (q:Int),u] w (SortedPost q qs w):=by
 obtain⟨i0,hi,hz0,hz1,hz2⟩:=info24
 have Hi:Hid _:=hi;have Hz0:Hid _:=hz0;have Hz1:Hid _:=hz1;have Hz2:Hid _:=hz2
 obtain⟨i1,ii,iz0,iz1,iz2⟩:=infoQ
 have Ii:Hid _:=ii;have Iz0:Hid _:=iz0;have Iz1:Hid _:=iz1;have Iz2:Hid _:=iz2
 clear hi hz0 hz1 hz2 ii iz0 iz1 iz2
 have HL:Hid _:=lastOf_any 170 16 (enters_of Tryz.func170 (by kernel_rfl) rfl) (cmpQ 16) (sorted1_14 16) (cmp3Q 16) qs u w hu hlen
 have HRl:Hid ((kyd (cmpQ 16) (qs.length+1) qs).length≤65536):=by show _≤_;have:=kyd_len (cmpQ 16) (qs.length+1) qs;omega
 have HRr:Hid (RisesK (cmpQ 16) (kyd (cmpQ 16) (qs.length+1) qs)):=(kyd_spec (cmp3Q 16) (qs.length+1) qs (by omega)).1
 have HRm:Hid (∀p∈kyd (cmpQ 16) (qs.length+1) qs,p∈qs):=fun p hp=>kyd_mem (cmpQ 16) _ _ p hp
 have HRg:Hid (∀p∈kyd (cmpQ 16) (qs.length+1) qs,zab 16 p.1.1=true):=fun p hp=>hright p (kyd_mem (cmpQ 16) _ _ p hp)
 obtain⟨a,c,rfl,_⟩:=hu.slice
 have HPost:Hid (∀e w',SortedPost q qs w e w'↔∃v rs,e=.returned v∧SlQ w.heap.size 16 w' rs v∧rs.length≤65536∧(∀p∈rs,p∈qs)∧RT.Rises (byK q) (rs.map trT)∧(∀y,y∈rs.map trT↔y∈(kyd (cmpQ 16) (qs.length+1) qs).map trT)∧Below w.heap.size w w'):=fun _ _=>Iff.rfl
 generalize SortedPost q qs w=PO at *
 clear hu hright
 generalize kyd (cmpQ 16) (qs.length+1) qs=R at *
 generalize qs.length=L0 at *
 go_enter Tryz.func107,Tryz.ntmps107
 go_wp2_with fail
 refine Calls.mono HL.out ?_
 rintro e w1 ⟨v,rfl,hs,hb1⟩
 obtain⟨a1,c1,rfl,hc1⟩:=hs.slice
 have HS:Hid (SlQ w.heap.size 16 w1 R (.slice a1 R.length c1)):=hs
 have hL:=HRl.out
 have HGd:Hid (∀p∈R,GoodQ 16 w1 p):=hs.good
 obtain⟨B,hB⟩:∃B,B=w1.heap.size:=⟨_,rfl⟩
 have HB:Hid (B=w1.heap.size):=hB
 clear hs HL hB
 generalize hLL:R.length=L at *
 have HLL:Hid (R.length=L):=hLL
 clear hLL
 go_wp2_with fail
 go_loopg [18,6] L (fun z vj vo wr=>∃(j:Nat),vj=.int .i64 (j:Int)∧z=L-j∧j≤L∧Hid (wr.ownsRow B 33 4 vo j (((R.take j).map (·.1)).flatMap encP)∧Below B w1 wr))
 case atStart=>exact⟨0,rfl,rfl,Nat.zero_le _,by simp;exact World.ownsRow_nil _ _ _ _,Below.refl _ _⟩
 case round=>
  obtain⟨j,rfl,hk,hjL,HM⟩:=hrel
  have Hk:Hid _:=hk
  clear hk
  have hbw1:Below w1.heap.size w1 wr:=by have:=HM.out.2;rwa [HB.out] at this
  have hwl1:w1.heap.size≤wr.heap.size:=hbw1.size
  have hBs:B=w1.heap.size:=HB.out
  by_cases hjl:j<L
  ·have hji:(j:Int)<(L:Nat):=by omega
   have hjR:j<R.length:=by have:=HLL.out;omega
   obtain⟨b1,o1,c1',hv1,_,hq1,_⟩:=HS.out.full (fun e=>by rw [e] at hjR;cases hjR)
   have ha1:a1=some ⟨b1,o1,none⟩:=by injection hv1
   subst ha1
   obtain⟨x,hxe⟩:∃x,x=R[j]:=⟨_,rfl⟩
   have Gx:GoodQ 16 w1 x:=HGd.out x (by rw [hxe];exact List.getElem_mem hjR)
   have Ex:=hq1.at j hjR
   rw [←hxe] at Ex
   have Htk:Hid (R.take (j+1)=R.take j++[x]):=by show _=_;rw [hxe];exact (List.take_append_getElem hjR).symm
   obtain⟨⟨t1,tv1⟩,⟨t2,tv2⟩⟩:=x
   obtain⟨ta,tc,et1,_⟩:=Lies.slice Gx.1.1
   obtain⟨tb,td,et2,_⟩:=Lies.slice Gx.2.1
   simp only at et1 et2
   subst et1 et2
   obtain⟨p0,p1,p2,p3,p4,p5,p6,p7⟩:=Ex.keeps hbw1
   simp only at p0 p1 p2 p3 p4 p5 p6 p7
   have hgr:b1<wr.heap.size:=zad p0
   obtain⟨WA,hWA⟩:∃WA,WA=wr.alloc (.cells #[.int .i64 t1.kind,.int .i64 t1.num,.string t1.text,.slice ta t1.items.length tc,.int .i64 t2.kind,.int .i64 t2.num,.string t2.text,.slice tb t2.items.length td] 108):=⟨_,rfl⟩
   have Hown:Hid ((wr.alloc (.cells #[.int .i64 t1.kind,.int .i64 t1.num,.string t1.text,.slice ta t1.items.length tc,.int .i64 t2.kind,.int .i64 t2.num,.string t2.text,.slice tb t2.items.length td] 108)).ownsRow B 33 4 u6 j (((R.take j).map (·.1)).flatMap encP)):=HM.out.1.alloc _
   have HbW:Hid (Below B w1 (wr.alloc (.cells #[.int .i64 t1.kind,.int .i64 t1.num,.string t1.text,.slice ta t1.items.length tc,.int .i64 t2.kind,.int .i64 t2.num,.string t2.text,.slice tb t2.items.length td] 108))):=HM.out.2.alloc (by omega) _
   have HN:Hid (∀(v':Value) (W:World),W.ownsRow B 33 4 v' (j+1) (((R.take j).map (·.1)).flatMap encP++encP (t1,.slice ta t1.items.length tc))→Below B w1 W→W.ownsRow B 33 4 v' (j+1) (((R.take (j+1)).map (·.1)).flatMap encP)∧Below B w1 W):=fun v' W k1 k2=>by
    refine⟨?_,k2⟩
    rw [Htk.out,List.map_append,List.flatMap_append]
    simpa using k1
   clear Ex hxe Gx HM hq1 hv1 Htk hjR hWA
   go_wp2_with (first
    | (at_builtin;refine wpList_append_own _ rfl _ _ 22 rfl B 33 i0 (.agg #[.int .i64 0,.int .i64 0,.string ⟨#[]⟩,.slice none 0 0]) 4 56 Tryz.underlying22 Hi.out Hz0.out Hz1.out Hz2.out rfl (by decide) _ _ _ rfl (Hown.out.alloc _) ⟨wr.heap.size+1,0,none⟩ 1 1 [.int .i64 t1.kind,.int .i64 t1.num,.string t1.text,.slice ta t1.items.length tc] rfl rfl (fun q u hq=>by match q,hq with|0,hq=>(simp at hq;subst hq;simp [Addr.add])|1,hq=>(simp at hq;subst hq;simp [Addr.add])|2,hq=>(simp at hq;subst hq;simp [Addr.add])|3,hq=>(simp at hq;subst hq;simp [Addr.add])) (fun u hu=>by simp at hu;rcases hu with rfl|rfl|rfl|rfl <;> rfl) (by unfold maxLen;omega) (by omega) (by simp;omega) ?_;intro v9 w9 hown hgrow _))
   have hb9:Below B w1 w9:=zar (HbW.out.alloc (by simp;omega) _) (by simp;omega) (Hown.out.alloc _) hgrow
   have HR9:Hid _:=HN.out v9 w9 (by simpa [encP] using hown) hb9
   clear hown hgrow p0 p1 p2 p3 p4 p5 p6 p7
   go_roundg (L-(j+1))
   case measure=>have:=Hk.out;omega
   case rel=>exact⟨j+1,by go_num,rfl,by omega,HR9⟩
  ·obtain rfl:j=L:=by omega
   have hji : ¬(j:Int)<(j:Nat):=by omega
   have hbr:Below w.heap.size w wr:=hb1.trans (hbw1.mono hb1.size)
   have h1:=HM.out.1
   rw [List.take_of_length_le (by have:=HLL.out;omega)] at h1
   have hLk:Lies 17 wr ((R.map (·.1)).map (·.1)) u6:=own_lies (d:=16) (by rw [List.length_map,HLL.out]) h1 (fun p hp=>by
    obtain⟨r,hr,rfl⟩:=List.mem_map.1 hp
    exact ((HGd.out r hr).keeps hbw1).1) (by rw [List.length_map];have:=HLL.out;omega)
   have hkl:((R.map (·.1)).map (·.1))=R.map (·.1.1):=by rw [List.map_map];rfl
   rw [hkl] at hLk
   have HSo:Hid _:=sort6_any 16 (q:Int) (R.map (·.1.1)) u6 wr hLk
   have HLk0:Hid (lookE 16 (q:Int) (R.map (·.1.1))=0):=by
    show _=_
    unfold lookE
    rw [if_neg (by omega)]
    unfold za2
    rw [if_neg (by rw [List.length_map];have:=HLL.out;omega),if_pos]
    rw [List.all_eq_true]
    intro k hk
    obtain⟨p,hp,rfl⟩:=List.mem_map.1 hk
    exact HRg.out p hp
   obtain⟨a6,c6,hu6,_⟩:=Lies.slice hLk
   have e6:(R.map (·.1.1)).length=j:=by rw [List.length_map,HLL.out]
   rw [e6] at hu6
   subst hu6
   clear h1 hLk hkl HM e6
   go_wp2_with fail
   refine Calls.mono HSo.out ?_
   rintro e w2 hs2
   rcases hs2 with ⟨hne,_⟩|⟨_,vs,rfl,hvs,hg2⟩
   ·exact absurd HLk0.out hne
   have hb2:Below w.heap.size w w2:=hbr.trans (hg2.mono hbr.size)
   obtain⟨SK,hSK⟩:∃SK,SK=srtV q (R.map (·.1.1)):=⟨_,rfl⟩
   have hvs':Lies 17 w2 SK vs:=by rw [hSK];exact LiesB.lies _ _ _ hvs
   have hSKl:SK.length=j:=by rw [hSK];show (srt _ _ _).length=_;rw [srt_len,List.length_map,HLL.out]
   obtain⟨asl,csl,hvse,_⟩:=Lies.slice hvs'
   rw [hSKl] at hvse
   subst hvse
   have HVS:Hid (Lies 17 w2 SK (.slice asl j csl)):=hvs'
   have HSKl:Hid (SK.length=j):=hSKl
   have HSKe:Hid (SK=srtV q (R.map (·.1.1))):=hSK
   have HSKm:Hid (∀k∈SK,k∈R.map (·.1.1)):=fun k hk=>by rw [hSK] at hk;exact srt_mem _ _ _ k hk
   have HS2:Hid (SlQ 0 16 w2 R (.slice a1 j c1)):=by
    have h9:=(HS.out.keeps (hbw1.trans (hg2.mono hbw1.size))).mono (Nat.zero_le _)
    exact h9
   obtain⟨B2,hB2⟩:∃B2,B2=w2.heap.size:=⟨_,rfl⟩
   have HB2:Hid (B2=w2.heap.size):=hB2
   clear hvs hvs' hSKl hSK hg2 HSo hB2 HS HGd
   go_wp2_with fail
   go_loopg [36,9] j (fun z vj vo wz=>∃(i:Nat) (ds:List PP),vj=.int .i64 (i:Int)∧z=j-i∧i≤j∧Hid (ds.length=i∧ds.map (·.1.1)=SK.take i∧∀p∈ds,p∈R)∧Hid (wz.ownsRow B2 108 8 vo i (ds.flatMap encQ)∧Below B2 w2 wz))
   case atStart=>exact⟨0,[],rfl,rfl,Nat.zero_le _,⟨rfl,rfl,fun p hp=>by cases hp⟩,World.ownsRow_nil _ _ _ _,Below.refl _ _⟩
   case round=>
    obtain⟨i,ds,rfl,hz,hij,Hds,HM2⟩:=hrel
    have Hz:Hid _:=hz
    clear hz
    have hbw2:Below w2.heap.size w2 wr:=by have:=HM2.out.2;rwa [HB2.out] at this
    have hwl2:w2.heap.size≤wr.heap.size:=hbw2.size
    have hBs2:B2=w2.heap.size:=HB2.out
    by_cases hil:i<j
    ·have hii:(i:Int)<(j:Nat):=by omega
     have hiS:i<SK.length:=by have:=HSKl.out;omega
     obtain⟨aS,cS,hvS,_,h1S⟩:=HVS.out
     obtain⟨bk,ok,haS,hcS⟩:=h1S (fun e=>by rw [e] at hiS;cases hiS)
     have haS2:asl=some ⟨bk,ok,none⟩:=by injection hvS with e1 _ _;rw [e1];exact haS
     subst haS2
     obtain⟨uk,r0,r1,r2,r3,hlk,htk⟩:=hcS i hiS
     obtain⟨ks,hks⟩:∃ks,ks=SK[i]:=⟨_,rfl⟩
     rw [←hks] at r0 r1 r2 hlk htk
     have hkm:ks∈R.map (·.1.1):=HSKm.out ks (by rw [hks];exact List.getElem_mem hiS)
     obtain⟨K,hKR,hKe,hKlo,hKhi,hKz⟩:=place_of HRr.out hkm
     have hKj:K<j:=by have:=HLL.out;omega
     have hKi:(K:Int)<(j:Nat):=by omega
     obtain⟨ka,kc,hke,_⟩:=Lies.slice hlk
     subst hke
     have r0:=zaa hbw2 r0;have r1:=zaa hbw2 r1;have r2:=zaa hbw2 r2;have r3:=zaa hbw2 r3
     have hbkl:bk<wr.heap.size:=zad r0
     obtain⟨b1,o1,c1',hv1,_,hq1,hgq⟩:=HS2.out.full (fun e=>by rw [e] at hKR;cases hKR)
     have ha1:a1=some ⟨b1,o1,none⟩:=by injection hv1
     subst ha1
     have HBS:Hid (∀V,Below w2.heap.size w2 V→Calls Tryz.prog 173 #[.slice (some ⟨b1,o1,none⟩) j c1,.agg #[.int .i64 ks.kind,.int .i64 ks.num,.string ks.text,.slice ka ks.items.length kc],.func (.func 171) #[] #[]] V fun e w'=>e=.returned (.tuple #[.int .i64 (K:Int),.bool true])∧Below V.heap.size V w'):=fun V hV=>search_14 16 R _ ks _ V (HS2.out.keeps hV) (Lies.keeps hV _ _ _ hlk) (by have:=HLL.out;omega) K hKR hKlo hKhi hKz
     have Ex:=hq1.at K hKR
     have Gx:=hgq R[K] (List.getElem_mem hKR)
     have Hdn:Hid (∀x,x=R[K]→(ds++[x]).length=i+1∧(ds++[x]).map (·.1.1)=SK.take (i+1)∧∀p∈ds++[x],p∈R):=fun x hx=>by
      refine⟨by simp [Hds.out.1],?_,fun p hp=>?_⟩
      ·rw [List.map_append,Hds.out.2.1,List.take_succ_eq_append_getElem hiS,hx,←hks,←hKe];rfl
      ·rcases List.mem_append.1 hp with hp|hp
       ·exact Hds.out.2.2 p hp
       ·rw [List.mem_singleton.1 hp,hx];exact List.getElem_mem hKR
     obtain⟨x,hxe⟩:∃x,x=R[K]:=⟨_,rfl⟩
     have Hdx:Hid _:=Hdn.out x hxe
     rw [←hxe] at Ex Gx
     obtain⟨⟨t1,tv1⟩,⟨t2,tv2⟩⟩:=x
     obtain⟨ta,tc,et1,_⟩:=Lies.slice Gx.1.1
     obtain⟨tb,td,et2,_⟩:=Lies.slice Gx.2.1
     simp only at et1 et2
     subst et1 et2
     obtain⟨p0,p1,p2,p3,p4,p5,p6,p7⟩:=Ex.keeps hbw2
     simp only at p0 p1 p2 p3 p4 p5 p6 p7
     have hgr:b1<wr.heap.size:=zad p0
     have Hown:Hid (wr.ownsRow B2 108 8 u9 i (ds.flatMap encQ)):=HM2.out.1
     have HBw:Hid (Below B2 w2 wr):=HM2.out.2
     have hbA:∀o,Below wr.heap.size wr (wr.alloc o):=fun o=>((Grew.refl wr).alloc o).below
     have HBA:Hid (∀o,Below wr.heap.size wr (wr.alloc o)):=hbA
     clear hKlo hKhi hKz hlk hcS h1S hvS haS hv1 hq1 hgq Ex Gx hxe Hdn hkm hKe hks HM2 hKR hiS hbA
     go_wp2_with fail
     refine Calls.mono (HBS.out _ (hbw2.trans ((HBA.out _).mono hbw2.size))) ?_
     rintro e w3 ⟨rfl,hg3⟩
     have hg3':Below wr.heap.size wr w3:=(HBA.out _).trans (hg3.mono (HBA.out _).size)
     have Hown3:Hid (w3.ownsRow B2 108 8 u9 i (ds.flatMap encQ)):=Hown.out.kept (row:=none) ⟨hg3'.os,hg3'.tape,hg3'.output,hg3'.size,fun k hk _=>hg3'.block k hk⟩ (by cases u9.ownBlock <;> simp)
     have hB3:Below B2 w2 w3:=HBw.out.trans (hg3'.mono (by omega))
     have p0:=zaa hg3' p0;have p1:=zaa hg3' p1;have p2:=zaa hg3' p2;have p3:=zaa hg3' p3;have p4:=zaa hg3' p4;have p5:=zaa hg3' p5;have p6:=zaa hg3' p6;have p7:=zaa hg3' p7
     have hsz3:B2≤w3.heap.size:=by have:=hg3'.size;omega
     have hgr3:b1<w3.heap.size:=by have:=hg3'.size;omega
     clear hg3 hg3' r0 r1 r2 r3 HBS
     go_wp2_with (first
      | (at_builtin;refine wpList_append_own _ rfl _ _ 76 rfl B2 108 i1 (.agg #[.int .i64 0,.int .i64 0,.string ⟨#[]⟩,.slice none 0 0,.int .i64 0,.int .i64 0,.string ⟨#[]⟩,.slice none 0 0]) 8 112 Tryz.underlying76 Ii.out Iz0.out Iz1.out Iz2.out rfl (by decide) _ _ _ rfl (Hown3.out.alloc _) ⟨w3.heap.size,0,none⟩ 1 1 [.int .i64 t1.kind,.int .i64 t1.num,.string t1.text,.slice ta t1.items.length tc,.int .i64 t2.kind,.int .i64 t2.num,.string t2.text,.slice tb t2.items.length td] rfl rfl (fun q u hq=>by match q,hq with|0,hq=>(simp at hq;subst hq;simp [Addr.add])|1,hq=>(simp at hq;subst hq;simp [Addr.add])|2,hq=>(simp at hq;subst hq;simp [Addr.add])|3,hq=>(simp at hq;subst hq;simp [Addr.add])|4,hq=>(simp at hq;subst hq;simp [Addr.add])|5,hq=>(simp at hq;subst hq;simp [Addr.add])|6,hq=>(simp at hq;subst hq;simp [Addr.add])|7,hq=>(simp at hq;subst hq;simp [Addr.add])) (fun u hu=>by simp at hu;rcases hu with rfl|rfl|rfl|rfl|rfl|rfl|rfl|rfl <;> rfl) (by unfold maxLen;omega) (by omega) (by simp;omega) ?_;intro v9 w9 hown hgrow _))
     have hb9:Below B2 w2 w9:=zar (hB3.alloc hsz3 _) (by simp;omega) (Hown3.out.alloc _) hgrow
     have HR9:Hid (w9.ownsRow B2 108 8 v9 (i+1) ((ds++[(((t1,.slice ta t1.items.length tc),(t2,.slice tb t2.items.length td)):PP)]).flatMap encQ)∧Below B2 w2 w9):=by
      refine⟨?_,hb9⟩
      rw [List.flatMap_append]
      simpa [encQ,encP] using hown
     clear hown hgrow p0 p1 p2 p3 p4 p5 p6 p7
     go_roundg (j-(i+1))
     case measure=>have:=Hz.out;omega
     case rel=>exact⟨i+1,_,by go_num,rfl,by omega,Hdx,HR9⟩
    ·obtain rfl:i=j:=by omega
     have hii : ¬(i:Int)<(i:Nat):=by omega
     have hbz:Below w.heap.size w wr:=hb2.trans (hbw2.mono hb2.size)
     have hdk:ds.map (·.1.1)=srtV q (R.map (·.1.1)):=by
      rw [Hds.out.2.1,List.take_of_length_le (by have:=HSKl.out;omega)];exact HSKe.out
     have hgR:∀p∈R,Good 16 p.1.1:=fun p hp=>⟨HRg.out p hp,Dp.of_lies 16 w2 p.1.1 p.1.2 (HS2.out.good p hp).1.1⟩
     have hpl:=sorted_plain q R ds HRr.out hgR Hds.out.2.2 hdk
     obtain⟨a9,n9,c9,hu9⟩:∃a n c,u9=.slice a n c:=by
      rcases HM2.out.1.2 with ⟨e,_⟩|⟨g,cap,_,e,_⟩ <;> exact⟨_,_,_,e⟩
     have HE:Hid (PO (.returned u9) wr):=by
      refine (HPost.out _ _).2 ⟨u9,ds,rfl,?_,by rw [Hds.out.1];omega,fun p hp=>HRm.out p (Hds.out.2.2 p hp),hpl.1,hpl.2,hbz⟩
      refine (SlQ.of_own (d:=16) Hds.out.1.symm HM2.out.1 (fun p hp=>((HS2.out.good p (Hds.out.2.2 p hp)).keeps hbw2)) (by rw [Hds.out.1];omega)).mono (by have:=hb2.size;omega)
     subst hu9
     clear HM2 hpl hdk hgR
     go_wp2_with fail
     first|(go_ret;exact HE.out)|exact HE.out
end Go.Proofs.YtlnecfjnffdciabGreat

namespace Go.Proofs.YtlnecfjnffdciabGreat
open Go.RowKit Go.Shelf
def zam (o:Int):Int:=if o<0∨6≤o then 4 else 0
theorem zero_right:zab 16 ⟨0,0,⟨#[]⟩,[]⟩=true:=by kernel_rfl
theorem zbb (d:Nat) (w:World):Lies d w [] (.slice none 0 0):=(liesX_nil TT d w none 0).lies
set_option maxRecDepth 100000 in
set_option maxHeartbeats 4000000 in
theorem checkOrder_14 (o:Int) (w:World):Calls Tryz.prog 167 #[.int .i64 o] w fun e w'=>e=.returned (.int .i64 (zam o))∧Below w.heap.size w w':=by
 have h9:=compareO_any 16 o ⟨0,0,⟨#[]⟩,[]⟩ ⟨0,0,⟨#[]⟩,[]⟩ (.slice none 0 0) (.slice none 0 0) w (zbb 16 w) (zbb 16 w) (by decide) (by decide)
 have e9:ordE 16 o ⟨0,0,⟨#[]⟩,[]⟩ ⟨0,0,⟨#[]⟩,[]⟩=zam o:=by
  unfold ordE zam
  split
  ·rfl
  ·rw [if_pos ⟨zero_right,zero_right⟩]
 rw [e9] at h9
 have HC:Hid (Calls Tryz.prog 216 #[.int .i64 o,.agg #[.int .i64 0,.int .i64 0,.string ⟨#[]⟩,.slice none 0 0],.agg #[.int .i64 0,.int .i64 0,.string ⟨#[]⟩,.slice none 0 0]] w fun e w'=>e=.returned (.tuple #[.int .i64 (ordR 16 o ⟨0,0,⟨#[]⟩,[]⟩ ⟨0,0,⟨#[]⟩,[]⟩),.int .i64 (zam o)])∧Below w.heap.size w w'):=h9
 generalize ordR 16 o ⟨0,0,⟨#[]⟩,[]⟩ ⟨0,0,⟨#[]⟩,[]⟩=R at *
 generalize zam o=E at *
 clear h9 e9
 go_enter Tryz.func167,Tryz.ntmps167
 go_wp2_with fail
 refine Calls.mono HC.out ?_
 rintro e w1 ⟨rfl,hb⟩
 go_wp2_with fail
 go_ret
 exact⟨rfl,hb⟩
def ofErr (d:Nat) (o:Int) (l:List PT):Int:=if zam o≠0 then zam o else pErr d l
set_option maxRecDepth 100000 in
set_option maxHeartbeats 4000000 in
theorem check_14 (d:Nat) (o:Int) (qs:List PP) (u:Value) (w:World) (hu:SlQ 0 d w qs u):Calls Tryz.prog 104 #[.int .i64 o,u] w fun e w'=>e=.returned (.int .i64 (ofErr d o (qs.map trT)))∧Below w.heap.size w w':=by
 have HO:Hid _:=checkOrder_14 o w
 have HP:Hid (∀V,Below w.heap.size w V→Calls Tryz.prog 100 #[u,.func (.func 101) #[] #[]] V fun e w'=>e=.returned (.int .i64 (pErr d (qs.map trT)))∧Below V.heap.size V w'):=fun V hV=>checkPairs_any d qs u V (hu.keeps hV)
 have HE:Hid (ofErr d o (qs.map trT)=if zam o≠0 then zam o else pErr d (qs.map trT)):=rfl
 generalize ofErr d o (qs.map trT)=E at *
 generalize pErr d (qs.map trT)=Pe at *
 generalize zam o=Oe at *
 obtain⟨a,c,rfl,_⟩:=hu.slice
 clear hu
 go_enter Tryz.func104,Tryz.ntmps104
 go_wp2_with fail
 refine Calls.mono HO.out ?_
 rintro e w1 ⟨rfl,hb⟩
 by_cases h0:Oe=0
 ·have e0:E=Pe:=by rw [HE.out,if_neg (by simp [h0])]
  subst e0
  subst h0
  clear HE
  go_wp2_with fail
  refine Calls.mono (HP.out _ hb) ?_
  rintro e w2 ⟨rfl,hg⟩
  have hb2:Below w.heap.size w w2:=hb.trans (hg.mono hb.size)
  clear hg
  go_wp2_with fail
  go_ret
  exact⟨rfl,hb2⟩
 ·have e0:E=Oe:=by rw [HE.out,if_pos h0]
  subst e0
  clear HE
  go_wp2_with fail
  go_ret
  exact⟨rfl,hb⟩
end Go.Proofs.YtlnecfjnffdciabGreat

namespace Go.Proofs.YtlnecfjnffdciabGreat
open Go.RowKit Go.Shelf
def OfPost14 (d:Nat) (o:Int) (qs:List PP) (w:World) (e:Ending) (w':World):Prop:=
 Below w.heap.size w w'∧((ofErr d o (qs.map trT)≠0∧e=.returned (.tuple #[.pointer none,.int .i64 (ofErr d o (qs.map trT))]))∨
  (ofErr d o (qs.map trT)=0∧∃t b,e=.returned (.tuple #[.pointer (some ⟨b,0,none⟩),.int .i64 0])∧MC w' o.toNat t b∧∀y,y∈t.items↔y∈(kyd (cmpQ 16) (qs.length+1) qs).map trT))
theorem slq_canon {d:Nat} {w:World} {qs:List PP} {u:Value} (hu:SlQ 0 d w qs u) (h:∀p∈qs,zab d p.1.1=true∧zab d p.2.1=true):SlQ 0 16 w qs u∧∀p∈qs,zab 16 p.1.1=true∧zab 16 p.2.1=true:=by
 obtain⟨a,c,hv,h1,h2,h3,h4⟩:=hu
 refine⟨⟨a,c,hv,h1,h2,h3,fun p hp=>?_⟩,fun p hp=>?_⟩
 ·have g:=h4 p hp
  exact⟨⟨(canon g.1.1 (h p hp).1).1,g.1.2⟩,⟨(canon g.2.1 (h p hp).2).1,g.2.2⟩⟩
 ·have g:=h4 p hp
  exact⟨(canon g.1.1 (h p hp).1).2,(canon g.2.1 (h p hp).2).2⟩
set_option maxRecDepth 100000 in
set_option maxHeartbeats 8000000 in
theorem mof_14 (d:Nat) (o:Int) (qs:List PP) (u:Value) (w:World) (hu:SlQ 0 d w qs u):Calls Tryz.prog 49 #[.int .i64 o,u] w (OfPost14 d o qs w):=by
 have HC:Hid _:=check_14 d o qs u w hu
 have HU:Hid (SlQ 0 d w qs u):=hu
 have HPe:Hid (ofErr d o (qs.map trT)≠0→∀w',Below w.heap.size w w'→OfPost14 d o qs w (.returned (.tuple #[.pointer none,.int .i64 (ofErr d o (qs.map trT))])) w'):=fun h w' hb=>⟨hb,.inl ⟨h,rfl⟩⟩
 have HPk:Hid (ofErr d o (qs.map trT)=0→∀t b w',Below w.heap.size w w'→MC w' o.toNat t b→(∀y,y∈t.items↔y∈(kyd (cmpQ 16) (qs.length+1) qs).map trT)→OfPost14 d o qs w (.returned (.tuple #[.pointer (some ⟨b,0,none⟩),.int .i64 0])) w'):=fun h t b w' hb h1 h2=>⟨hb,.inr ⟨h,t,b,rfl,h1,h2⟩⟩
 have H0:Hid (ofErr d o (qs.map trT)=0→(0≤o∧o<6)∧qs.length≤65536∧∀p∈qs,zab d p.1.1=true∧zab d p.2.1=true):=fun h=>by
  unfold ofErr zam at h
  by_cases ho:o<0∨6≤o
  ·rw [if_pos ho,if_pos (by decide)] at h;cases h
  ·rw [if_neg ho,if_neg (by simp)] at h
   unfold pErr at h
   split at h
   ·cases h
   ·next hl=>
    rw [List.length_map] at hl
    split at h
    ·next ha=>
     refine⟨by omega,by omega,fun p hp=>?_⟩
     have h9:=List.all_eq_true.1 ha (trT p) (List.mem_map.2 ⟨p,hp,rfl⟩)
     simpa [okP,trT,Bool.and_eq_true] using h9
    ·cases h
 obtain⟨a,c,rfl,_⟩:=hu.slice
 generalize OfPost14 d o qs w=PO at *
 generalize ofErr d o (qs.map trT)=E at *
 clear hu
 go_enter Tryz.func49,Tryz.ntmps49
 go_wp2_with fail
 refine Calls.mono HC.out ?_
 rintro e w1 ⟨rfl,hb1⟩
 by_cases hE:E=0
 ·have HPk2:Hid _:=HPk.out hE
  obtain⟨ho,hlen,hr⟩:=H0.out hE
  subst hE
  clear HPk HPe
  obtain⟨q,rfl⟩:∃q:Nat,o=q:=⟨o.toNat,by omega⟩
  obtain⟨hs16,hr16⟩:=slq_canon HU.out hr
  have HS:Hid _:=sorted_14 q (by omega) qs _ w1 (hs16.keeps hb1) hlen (fun p hp=>(hr16 p hp).1)
  have HR:Hid (∀p∈qs,Good 16 p.1.1∧Good 16 p.2.1):=fun p hp=>⟨⟨(hr16 p hp).1,Dp.of_lies 16 w p.1.1 p.1.2 (hs16.good p hp).1.1⟩,⟨(hr16 p hp).2,Dp.of_lies 16 w p.2.1 p.2.2 (hs16.good p hp).2.1⟩⟩
  have hq6:q<6:=by omega
  clear HC H0 HU hr hs16 hr16
  go_wp2_with fail
  refine Calls.mono HS.out ?_
  rintro e w2 ⟨v2,rs,rfl,hs2,hl2,hm2,hri2,hme2,hg2⟩
  have hb2:Below w.heap.size w w2:=hb1.trans (hg2.mono hb1.size)
  obtain⟨a2,c2,rfl,_⟩:=hs2.slice
  have HCs:Hid _:=copies_14 rs _ w2 (hs2.mono (Nat.zero_le _)) hl2 (fun p hp=>⟨(HR.out p (hm2 p hp)).1.1,(HR.out p (hm2 p hp)).2.1⟩)
  have HRi:Hid (RT.Rises (byK q) (rs.map trT)∧(∀y,y∈rs.map trT↔y∈(kyd (cmpQ 16) (qs.length+1) qs).map trT)∧rs.length≤65536∧∀y∈rs.map trT,Good 16 y.1∧Good 16 y.2):=⟨hri2,hme2,hl2,fun y hy=>by
   obtain⟨p,hp,rfl⟩:=List.mem_map.1 hy
   exact HR.out p (hm2 p hp)⟩
  obtain⟨RL,hRL⟩:∃RL,RL=rs.map trT:=⟨_,rfl⟩
  have HRLl:Hid (RL.length=rs.length):=by show _=_;rw [hRL,List.length_map]
  rw [←hRL] at HCs HRi
  clear hs2 hm2 hri2 hme2 hg2 HS HR hRL
  generalize rs.length=n2 at *
  go_wp2_with fail
  refine Calls.mono HCs.out ?_
  rintro e w3 ⟨v3,ps,rfl,hps,hs3,hn3,hg3⟩
  have hb3:Below w.heap.size w w3:=hb2.trans (hg3.mono hb2.size)
  obtain⟨a3,c3,rfl,_⟩:=hs3.slice
  have Hpl:Hid (ps.length=RL.length):=by show _=_;rw [←hps,List.length_map]
  have HG:Hid _:=grown_14 TT 16 ps _ w3 (hs3.mono (Nat.zero_le _)) (fun p hp=>⟨⟨(LiesX.of_b (hn3 p hp).1.1).mono (fun _ _=>trivial),(hn3 p hp).1.2⟩,⟨(LiesX.of_b (hn3 p hp).2.1).mono (fun _ _=>trivial),(hn3 p hp).2.2⟩⟩) (by have:=Hpl.out;have:=HRLl.out;have:=HRi.out.2.2.1;omega)
  have hG2:=HG.out
  rw [hps] at hG2
  have HG:Hid (Calls Tryz.prog 105 #[.slice a3 ps.length c3] w3 (GrownPost TT 16 RL w3)):=hG2
  clear hs3 hn3 hg3 HCs hG2 hps
  generalize ps.length=n3 at *
  go_wp2_with fail
  refine Calls.mono HG.out ?_
  rintro e w4 ⟨hg4,t,p4,rfl,hn4,hi4,hw4,hbl4⟩
  have hb4:Below w.heap.size w w4:=hb3.trans (hg4.mono hb3.size)
  have hbA:Below w4.heap.size w4 (w4.alloc (.cells #[.int .i64 (q:Int),.pointer p4] 165)):=((Grew.refl w4).alloc _).below
  have HE:Hid (PO (.returned (.tuple #[.pointer (some ⟨w4.heap.size,0,none⟩),.int .i64 0])) (w4.alloc (.cells #[.int .i64 (q:Int),.pointer p4] 165))):=by
   refine HPk2.out t w4.heap.size _ (hb4.trans (hbA.mono hb4.size)) ⟨by simp,⟨p4,by simp,hn4.keeps hbA⟩,hw4,hbl4,hq6,?_,?_,?_⟩ ?_
   ·rw [hi4];exact HRi.out.2.2.2
   ·rw [hi4];exact HRi.out.1
   ·rw [RT.size_items,hi4,HRLl.out];exact HRi.out.2.2.1
   ·rw [hi4];exact HRi.out.2.1
  clear hn4 hi4 hw4 hbl4 hg4 HG
  go_wp2_with fail
  first|exact HE.out|(go_ret2;exact HE.out)
 ·have HE:Hid (PO (.returned (.tuple #[.pointer none,.int .i64 E])) w1):=HPe.out hE w1 hb1
  clear HC H0 HPe HPk
  go_wp2_with fail
  first|exact HE.out|(go_ret2;exact HE.out)
end Go.Proofs.YtlnecfjnffdciabGreat

namespace Go.Proofs.YtlnecfjnffdciabGreat
open Go.RowKit Go.Shelf
theorem nil_slq (w:World):SlQ 0 16 w [] (.slice none 0 0):=⟨none,0,rfl,by simp,by simp,(fun h=>absurd rfl h),(fun p hp=>by cases hp)⟩
end Go.Proofs.YtlnecfjnffdciabGreat

namespace Go.Proofs.YtlnecfjnffdciabGreat
open Go.RowKit Go.Shelf
structure DM (w:World) (q:Nat) (l:List PT) (b:Nat):Prop where
 ord:w.cell? ⟨b,0,none⟩=some (.int .i64 (q:Int))
 row:∃qs v,w.cell? ⟨b,1,none⟩=some v∧qs.map trT=l∧SlQ 0 16 w qs v
 q6:q<6
 right:∀x∈l,Good 16 x.1∧Good 16 x.2
 rises:RT.Rises (byK q) l
 size:l.length≤65536
theorem DM.keeps {w w':World} {q:Nat} {l:List PT} {b:Nat} (h:DM w q l b) (hb:Below w.heap.size w w'):DM w' q l b:=by
 obtain⟨qs,v,h1,h2,h3⟩:=h.row
 exact⟨zaa hb h.ord,⟨qs,v,zaa hb h1,h2,h3.keeps hb⟩,h.q6,h.right,h.rises,h.size⟩
end Go.Proofs.YtlnecfjnffdciabGreat

namespace Go.Proofs.YtlnecfjnffdciabGreat
open Go.RowKit Go.Shelf
def FzP (q:Nat) (k:VT) (l:List PT) (r:Nat) (F:Bool):Prop:=(F=true→∃hr:r<l.length,ordV q l[r].1 k=0)∧(F=false→∀hr:r<l.length,ordV q l[r].1 k≠0)
def PlPost (q:Nat) (k:VT) (l:List PT) (w:World) (e:Ending) (w':World):Prop:=Below w.heap.size w w'∧∃(r:Nat) (F:Bool),e=.returned (.tuple #[.int .i64 (r:Int),.bool F])∧PlK q k l r∧FzP q k l r F
set_option maxRecDepth 100000 in
set_option maxHeartbeats 16000000 in
theorem rplc_14 {w:World} {q:Nat} {l:List PT} {c:Nat} (h:DM w q l c) (y:VT) (yu:Value) (hy:Lies 16 w y.items yu) (hyr:zab 16 y=true) :
 Calls Tryz.prog 141 #[.pointer (some ⟨c,0,none⟩),.agg #[.int .i64 y.kind,.int .i64 y.num,.string y.text,yu]] w (PlPost q y l w):=by
 obtain⟨ay,cy,rfl,_⟩:=Lies.slice hy
 obtain⟨qs,v,hrow,hqt,hsl⟩:=h.row
 have hzl:qs.length=l.length:=by rw [←hqt,List.length_map]
 have hel:∀j (hj:j<l.length),l[j].1=(qs[j]'(by omega)).1.1:=fun j hj=>by
  have e:l[j]? = (qs.map trT)[j]?:=by rw [hqt]
  rw [List.getElem?_eq_getElem hj,List.getElem?_map,List.getElem?_eq_getElem (by omega)] at e
  injection e with e
  rw [e];rfl
 have hyg:Good 16 y:=⟨hyr,Dp.of_lies 16 w y _ hy⟩
 have HLl:Hid (qs.length=l.length):=hzl
 have HK:Hid (∀r,r≤qs.length→(∀j (hj:j<qs.length),j<r→ordV q qs[j].1.1 y<0)→(∀j (hj:j<qs.length),r≤j→0≤ordV q qs[j].1.1 y)→PlK q y l r):=fun r h1 h2 h3=>⟨by omega,fun j hj hjr=>by rw [hel j hj];exact h2 j (by omega) hjr,fun j hj hjr=>by rw [hel j hj];have:=h3 j (by omega) hjr;omega⟩
 have HFz:Hid (∀r (hr:r<qs.length) (F:Bool),F=(cmpV 16 qs[r].1.1 y==0)→FzP q y l r F):=fun r hr F hF=>by
  have hrl:r<l.length:=by omega
  have hz:=ordV_zero q (h.right l[r] (List.getElem_mem hrl)).1 hyg
  rw [hel r hrl] at hz
  subst hF
  refine⟨fun e=>⟨hrl,by rw [hel r hrl];exact hz.2 (by simpa using e)⟩,fun e _=>by rw [hel r hrl];exact fun h9=>by have:=hz.1 h9;simp [this] at e⟩
 have HMon:Hid (∀i j (hj:j<qs.length) (hij:i≤j),ordV q qs[j].1.1 y<0→ordV q (qs[i]'(Nat.lt_of_le_of_lt hij hj)).1.1 y<0):=fun i j hj hij h1=>by
  by_cases e:i=j
  ·subst e;exact h1
  ·have h4:=List.pairwise_iff_getElem.1 h.rises i j (by omega) (by omega) (by omega)
   have h5:=(za5 q).trans l[i] l[j] (y,y) (by omega) (by show ordV q l[j].1 y<0;rw [hel j (by omega)];exact h1)
   have h6:ordV q l[i].1 y<0:=h5
   rwa [hel i (by omega)] at h6
 have Ho:Hid (∀(x:VT) (xv tv:Value) (W:World),Lies 16 W x.items xv→Lies 16 W y.items tv→zab 16 x=true→zab 16 y=true→Calls Tryz.prog 91 #[.int .i64 (q:Int),.agg #[.int .i64 x.kind,.int .i64 x.num,.string x.text,xv],.agg #[.int .i64 y.kind,.int .i64 y.num,.string y.text,tv]] W fun e w'=>e=.returned (.int .i64 (ordV q x y))∧Below W.heap.size W w'):=fun x xv tv W k1 k2 k3 k4=>rordV_any q h.q6 x y xv tv W k1 k2 k3 k4
 have Hs:Hid (∀(x:VT) (xv tv:Value) (W:World),Lies 16 W x.items xv→Lies 16 W y.items tv→Calls Tryz.prog 206 #[.agg #[.int .i64 x.kind,.int .i64 x.num,.string x.text,xv],.agg #[.int .i64 y.kind,.int .i64 y.num,.string y.text,tv]] W fun e w'=>e=.returned (.bool (cmpV 16 x y==0))∧Below W.heap.size W w'):=fun x xv tv W k1 k2=>rsame_any x y xv tv W k1 k2
 have HT:Hid (Lies 16 w y.items (.slice ay y.items.length cy)∧zab 16 y=true):=⟨hy,hyr⟩
 have HG:Hid (∀p∈qs,zab 16 p.1.1=true):=fun p hp=>(h.right (trT p) (by rw [←hqt];exact List.mem_map_of_mem hp)).1.1
 have HL:Hid (qs.length≤65536):=by show _≤_;have:=h.size;omega
 obtain⟨a,cp,rfl,hac,_,hr0,hgood⟩:=hsl
 have Hr:Hid (qs≠[]→∃b o,a=some ⟨b,o,none⟩∧0≤b∧QAt w b o qs):=hr0
 have HGd:Hid (∀p∈qs,GoodQ 16 w p):=hgood
 obtain⟨W0,hW0⟩:∃W0,W0=(w.alloc (.cells #[.int .i64 y.kind,.int .i64 y.num,.string y.text,.slice ay y.items.length cy] 33)):=⟨_,rfl⟩
 have hb0:Below w.heap.size w W0:=by rw [hW0];exact ((Grew.refl w).alloc _).below
 have HB0:Hid (Bx W0 w.heap.size y (.slice ay y.items.length cy)):=by rw [hW0];exact zao _ _ _
 obtain⟨N,hN⟩:∃N,N=qs.length:=⟨_,rfl⟩
 have HN:Hid (N=qs.length):=hN
 rw [←hN] at hrow
 have Hc0:Hid (w.cell? ⟨c,0,none⟩=some (.int .i64 (q:Int))):=h.ord
 have Hc1:Hid (w.cell? ⟨c,1,none⟩=some (.slice a N cp)):=hrow
 have Hcp:Hid (N≤cp):=by show _≤_;omega
 have hN5:N≤65536:=by have:=HL.out;omega
 clear hr0 hgood hac hN hrow hqt h hyg hel hzl hy hyr
 generalize ordV q=g at *
 go_enter Tryz.func141,Tryz.ntmps141
 go_wp2_with fail
 rw [←hW0]
 clear hW0
 have c0:=zaa hb0 Hc0.out
 have c1:=zaa hb0 Hc1.out
 go_region
 go_wp2_with fail
 go_loopg [6,7] N (fun z va vb wr=>∃lo hi:Nat,va=.int .i64 (lo:Int)∧vb=.int .i64 (hi:Int)∧z=hi-lo∧lo≤hi∧hi≤N∧Hid (∀j (hj:j<qs.length),j<lo→g qs[j].1.1 y<0)∧Hid (∀j (hj:j<qs.length),hi≤j→0≤g qs[j].1.1 y)∧Hid (Bx wr w.heap.size y (.slice ay y.items.length cy))∧Hid (Below w.heap.size w wr))
 case atStart=>exact⟨0,N,rfl,rfl,by omega,by omega,by omega,fun j hj h=>by omega,fun j hj h=>by have:=HN.out;omega,HB0.out.keeps ((Below.refl _ _).drew),hb0.drew⟩
 case round=>
  obtain⟨lo,hi,rfl,rfl,hz,hlh,hhN,HD,HU,HB,HW⟩:=hrel
  have Hz:Hid _:=hz
  clear hz HB0 hb0 c0 c1
  have hbw:=HW.out
  have c0:=zaa hbw Hc0.out
  have c1:=zaa hbw Hc1.out
  obtain⟨r0,r1,r2,r3,_,_,_,_⟩:=HB.out
  have hwl:=hbw.size
  by_cases hlt:lo<hi
  ·have hki:(lo:Int)<(hi:Nat):=by omega
   obtain⟨m,hm⟩:∃m,m=(lo+hi) / 2:=⟨_,rfl⟩
   have hm1:lo≤m:=by omega
   have hm2:m<hi:=by omega
   have hmN:m<N:=by omega
   have hmc:m<cp:=by have:=Hcp.out;omega
   have hq2:((lo:Int)+(hi:Int)) / 2=((m:Nat):Int):=by omega
   have Hm:Hid (m=(lo+hi) / 2):=hm
   have hltq:m<qs.length:=by have:=HN.out;omega
   obtain⟨b,o,rfl,_,hall⟩:=Hr.out (by intro e;simp [e] at hltq)
   have gp:=HG.out qs[m] (List.getElem_mem hltq)
   have gq:=(HGd.out qs[m] (List.getElem_mem hltq)).1
   have Hyes:Hid (g qs[m].1.1 y<0→∀j (hj:j<qs.length),j<m+1→g qs[j].1.1 y<0):=fun h j hj h2=>HMon.out j m hltq (by omega) h
   have Hno:Hid (0≤g qs[m].1.1 y→∀j (hj:j<qs.length),m≤j→0≤g qs[j].1.1 y):=fun h j hj h2=>by
    have h4:=HMon.out m j hj h2
    omega
   obtain⟨p0,p1,p2,p3,q4,q5,q6,q7⟩:=hall.at m hltq
   clear q4 q5 q6 q7
   obtain⟨ax,cx,hax,_⟩:=Lies.slice gq.1
   rw [hax] at p3
   have HX:Hid (Lies 16 w qs[m].1.1.items (.slice ax qs[m].1.1.items.length cx)∧zab 16 qs[m].1.1=true):=⟨by rw [←hax];exact gq.1,gp⟩
   clear hall gp gq hax hm
   generalize qs[m].1.1=x at *
   have p0:=zaa hbw p0;have p1:=zaa hbw p1;have p2:=zaa hbw p2;have p3:=zaa hbw p3
   clear hltq hlh
   go_wp2_with fail
   go_region_held3 (fun w'=>w'.cell? ⟨c,0,none⟩=some (.int .i64 (q:Int))∧w'.cell? ⟨c,1,none⟩=some (.slice (some ⟨b,o,none⟩) N cp)∧w'.cell? ⟨b,o+m*8,none⟩=some (.int .i64 x.kind)∧w'.cell? ⟨b,o+m*8+1,none⟩=some (.int .i64 x.num)∧w'.cell? ⟨b,o+m*8+2,none⟩=some (.string x.text)∧w'.cell? ⟨b,o+m*8+3,none⟩=some (.slice ax x.items.length cx)∧w'.cell? ⟨w.heap.size,0,none⟩=some (.int .i64 y.kind)∧w'.cell? ⟨w.heap.size,1,none⟩=some (.int .i64 y.num)∧w'.cell? ⟨w.heap.size,2,none⟩=some (.string y.text)∧w'.cell? ⟨w.heap.size,3,none⟩=some (.slice ay y.items.length cy)) (go_keep)
    (first|(go_at_call 91;(with_reducible refine (Ho.out x _ _ _ (Lies.keeps hbw.drew _ _ _ HX.out.1) (Lies.keeps hbw.drew _ _ _ HT.out.1) HX.out.2 HT.out.2).mono ?_);rintro e w1 ⟨rfl,hg1⟩;have hb1':Below wr.heap.size wr w1:=(Below.refl _ _).drew.trans hg1;have hb1:Below w.heap.size w w1:=hbw.trans (hb1'.mono hwl);have HB1:Hid (Bx w1 w.heap.size y (.slice ay y.items.length cy)):=HB.out.keeps hb1';clear hg1;have c0:=zaa hb1' c0;have c1:=zaa hb1' c1;have p0:=zaa hb1' p0;have p1:=zaa hb1' p1;have p2:=zaa hb1' p2;have p3:=zaa hb1' p3;have r0:=zaa hb1' r0;have r1:=zaa hb1' r1;have r2:=zaa hb1' r2;have r3:=zaa hb1' r3))
   clear p0 p1 p2 p3 r0 r1 r2 r3 hb1' HB c0 c1
   by_cases hz:g x y<0
   ·have HD2:Hid _:=Hyes.out hz
    clear Hyes Hno
    generalize g x y=Z at *
    go_wp2_with fail
    go_roundg (hi-(m+1))
    case measure=>have:=Hz.out;omega
    case rel=>exact⟨m+1,hi,by go_num,rfl,rfl,by omega,hhN,HD2,HU,HB1,hb1⟩
   ·have HU2:Hid _:=Hno.out (by omega)
    clear Hyes Hno
    generalize g x y=Z at *
    go_wp2_with fail
    go_roundg (m-lo)
    case measure=>have:=Hz.out;omega
    case rel=>exact⟨lo,m,rfl,rfl,rfl,by omega,by omega,HD,HU2,HB1,hb1⟩
  ·have hki : ¬(lo:Int)<(hi:Nat):=by omega
   obtain rfl:hi=lo:=by omega
   have HP:Hid (PlK q y l hi):=HK.out hi (by have:=HN.out;omega) HD.out HU.out
   clear HD HU HK Hz hlt hlh
   by_cases hlN:hi<N
   ·have hnI:(hi:Int)<(N:Nat):=by omega
    obtain⟨m,rfl⟩:∃m,m=hi:=⟨_,rfl⟩
    have hmc:m<cp:=by have:=Hcp.out;omega
    have hltq:m<qs.length:=by have:=HN.out;omega
    obtain⟨b,o,rfl,_,hall⟩:=Hr.out (by intro e;simp [e] at hltq)
    have gp:=HG.out qs[m] (List.getElem_mem hltq)
    have gq:=(HGd.out qs[m] (List.getElem_mem hltq)).1
    have HF:Hid _:=HFz.out m hltq _ rfl
    obtain⟨F,hF⟩:∃F,F=(cmpV 16 qs[m].1.1 y==0):=⟨_,rfl⟩
    have HFe:Hid (F=(cmpV 16 qs[m].1.1 y==0)):=hF
    rw [←hF] at HF
    obtain⟨p0,p1,p2,p3,q4,q5,q6,q7⟩:=hall.at m hltq
    clear q4 q5 q6 q7 hF
    obtain⟨ax,cx,hax,_⟩:=Lies.slice gq.1
    rw [hax] at p3
    have HX:Hid (Lies 16 w qs[m].1.1.items (.slice ax qs[m].1.1.items.length cx)):=by show Lies _ _ _ _;rw [←hax];exact gq.1
    clear hall gp gq hax
    generalize qs[m].1.1=x at *
    have p0:=zaa hbw p0;have p1:=zaa hbw p1;have p2:=zaa hbw p2;have p3:=zaa hbw p3
    clear hltq
    go_wp2_with fail
    go_region_held3 (fun w'=>w'.cell? ⟨c,0,none⟩=some (.int .i64 (q:Int))∧w'.cell? ⟨c,1,none⟩=some (.slice (some ⟨b,o,none⟩) N cp)∧w'.cell? ⟨b,o+m*8,none⟩=some (.int .i64 x.kind)∧w'.cell? ⟨b,o+m*8+1,none⟩=some (.int .i64 x.num)∧w'.cell? ⟨b,o+m*8+2,none⟩=some (.string x.text)∧w'.cell? ⟨b,o+m*8+3,none⟩=some (.slice ax x.items.length cx)∧w'.cell? ⟨w.heap.size,0,none⟩=some (.int .i64 y.kind)∧w'.cell? ⟨w.heap.size,1,none⟩=some (.int .i64 y.num)∧w'.cell? ⟨w.heap.size,2,none⟩=some (.string y.text)∧w'.cell? ⟨w.heap.size,3,none⟩=some (.slice ay y.items.length cy)) (go_keep)
     (first|(go_at_call 206;(with_reducible refine (Hs.out x _ _ _ (Lies.keeps hbw.drew _ _ _ HX.out) (Lies.keeps hbw.drew _ _ _ HT.out.1)).mono ?_);rintro e w4 ⟨rfl,hg1⟩;have hb4':Below wr.heap.size wr w4:=(Below.refl _ _).drew.trans hg1;have hb4:Below w.heap.size w w4:=hbw.trans (hb4'.mono hwl);clear hg1;have c0:=zaa hb4' c0;have c1:=zaa hb4' c1;have p0:=zaa hb4' p0;have p1:=zaa hb4' p1;have p2:=zaa hb4' p2;have p3:=zaa hb4' p3;have r0:=zaa hb4' r0;have r1:=zaa hb4' r1;have r2:=zaa hb4' r2;have r3:=zaa hb4' r3))
    clear p0 p1 p2 p3 r0 r1 r2 r3 hb4' c0 c1
    rw [←HFe.out]
    go_wp2_with fail
    exact bodyPost_ret (v:=.tuple #[.int .i64 m,.bool F]) (by simp [results,Tryz.results141,go_sem]) rfl ⟨hb4,m,F,rfl,HP.out,HF.out⟩
   ·have hnI : ¬(hi:Int)<(N:Nat):=by omega
    go_wp2_with fail
    go_region
    go_wp2_with fail
    exact bodyPost_ret (v:=.tuple #[.int .i64 hi,.bool false]) (by simp [results,Tryz.results141,go_sem]) rfl ⟨hbw.drew,hi,false,rfl,HP.out,(fun e=>by cases e),fun _ hr=>absurd hr (by have:=HLl.out;have:=HN.out;omega)⟩
end Go.Proofs.YtlnecfjnffdciabGreat

namespace Go.Proofs.YtlnecfjnffdciabGreat
open Go.RowKit Go.Shelf
theorem row_pair14 {w0:World} {qs:List PP} {a:Option Addr} {c N:Nat} (hv:SlQ 0 16 w0 qs (.slice a N c)) {j:Nat} (hj:j<qs.length):∃(a1:Option Addr) (c1:Nat) (a2:Option Addr) (c2 b o:Nat),a=some ⟨b,o,none⟩∧Lies 16 w0 (trT qs[j]).1.items (.slice a1 (trT qs[j]).1.items.length c1)∧Lies 16 w0 (trT qs[j]).2.items (.slice a2 (trT qs[j]).2.items.length c2)∧(w0.cell? ⟨b,o+j*8,none⟩=some (.int .i64 (trT qs[j]).1.kind)∧w0.cell? ⟨b,o+j*8+1,none⟩=some (.int .i64 (trT qs[j]).1.num)∧w0.cell? ⟨b,o+j*8+2,none⟩=some (.string (trT qs[j]).1.text)∧w0.cell? ⟨b,o+j*8+3,none⟩=some (.slice a1 (trT qs[j]).1.items.length c1)∧w0.cell? ⟨b,o+j*8+4,none⟩=some (.int .i64 (trT qs[j]).2.kind)∧w0.cell? ⟨b,o+j*8+5,none⟩=some (.int .i64 (trT qs[j]).2.num)∧w0.cell? ⟨b,o+j*8+6,none⟩=some (.string (trT qs[j]).2.text)∧w0.cell? ⟨b,o+j*8+7,none⟩=some (.slice a2 (trT qs[j]).2.items.length c2)):=by
 obtain⟨a',c',he,_,_,hrow,hgood⟩:=hv
 simp only [Value.slice.injEq] at he
 obtain⟨rfl,_,rfl⟩:=he
 obtain⟨b,o,rfl,_,hall⟩:=hrow (by intro e;simp [e] at hj)
 have hg:=hgood qs[j] (List.getElem_mem hj)
 obtain⟨p0,p1,p2,p3,p4,p5,p6,p7⟩:=hall.at j hj
 obtain⟨a1,c1,e1,_⟩:=Lies.slice hg.1.1
 obtain⟨a2,c2,e2,_⟩:=Lies.slice hg.2.1
 have g1:=hg.1.1
 have g2:=hg.2.1
 rw [e1] at p3 g1
 rw [e2] at p7 g2
 exact⟨a1,c1,a2,c2,b,o,rfl,g1,g2,p0,p1,p2,p3,p4,p5,p6,p7⟩
def valO (o:Option PT):VT:=match o with|some x=>x.2|none=>zeroT
def HvPost (n0:Nat) (o:Option PT) (w:World) (e:Ending) (w':World):Prop:=Below w.heap.size w w'∧∃a c,e=.returned (.tuple #[.agg #[.int .i64 (valO o).kind,.int .i64 (valO o).num,.string (valO o).text,.slice a (valO o).items.length c],.bool o.isSome])∧LiesX (fun b=>b<n0) 16 w' (valO o).items (.slice a (valO o).items.length c)
set_option maxRecDepth 100000 in
set_option maxHeartbeats 16000000 in
theorem rhave_14 {w0 w:World} {q:Nat} {l:List PT} {c:Nat} (h0:DM w0 q l c) (hw0:Below w0.heap.size w0 w) (y:VT) (yu:Value) (hy:Lies 16 w y.items yu) (hyr:zab 16 y=true) :
 Calls Tryz.prog 132 #[.pointer (some ⟨c,0,none⟩),.agg #[.int .i64 y.kind,.int .i64 y.num,.string y.text,yu]] w (HvPost w0.heap.size (findK q y l) w):=by
 have h:=h0.keeps hw0
 obtain⟨ay,cy,rfl,_⟩:=Lies.slice hy
 obtain⟨qs,v,hrow0,hqt,hsl⟩:=h0.row
 have hrow:=zaa hw0 hrow0
 clear hrow0 h0
 obtain⟨W0,hW0⟩:∃W0,W0=((w.alloc (.cells #[.int .i64 y.kind,.int .i64 y.num,.string y.text,.slice ay y.items.length cy] 33)).alloc (.cells #[.int .i64 0,.int .i64 0,.string ⟨#[]⟩,.slice none 0 0] 33)):=⟨_,rfl⟩
 have hb0:Below w.heap.size w W0:=by rw [hW0];exact (((Grew.refl w).alloc _).alloc _).below
 have HY0:Hid (Bx W0 w.heap.size y (.slice ay y.items.length cy)):=by rw [hW0];exact (zao _ _ _).keeps ((Grew.refl _).alloc _).below
 have HZ0:Hid (Bx W0 (w.heap.size+1) zeroT (.slice none 0 0)):=by
  rw [hW0]
  have h9:=zao (w.alloc (.cells #[.int .i64 y.kind,.int .i64 y.num,.string y.text,.slice ay y.items.length cy] 33)) zeroT (.slice none 0 0)
  rwa [World.size_alloc] at h9
 have HPc:Hid (Calls Tryz.prog 141 #[.pointer (some ⟨c,0,none⟩),.agg #[.int .i64 y.kind,.int .i64 y.num,.string y.text,.slice ay y.items.length cy]] W0 (PlPost q y l W0)):=rplc_14 (h.keeps hb0) y _ (Lies.keeps hb0 _ _ _ hy) hyr
 have hsW:W0.heap.size=w.heap.size+1+1:=by rw [hW0];simp
 have HsW:Hid (W0.heap.size=w.heap.size+1+1):=hsW
 have HD:Hid (DM w q l c):=h
 clear hsW h hy hyr
 go_enter Tryz.func132,Tryz.ntmps132
 obtain⟨r0,r1,r2,r3,_,_,_,_⟩:=HY0.out
 go_wp2_with fail
 rw [←hW0]
 clear hW0
 go_wp2_with fail
 refine Calls.mono HPc.out ?_
 rintro e w1 ⟨hg1,r,F,rfl,hpl,hF1,hF2⟩
 have hb1:Below w.heap.size w w1:=hb0.trans (hg1.mono hb0.size)
 have HZ1:Hid (Bx w1 (w.heap.size+1) zeroT (.slice none 0 0)):=HZ0.out.keeps hg1
 have hl1:w.heap.size+1<w1.heap.size:=by have:=hg1.size;have:=HsW.out;omega
 obtain⟨y0,y1,y2,y3,f0,f1,f2,f3⟩:=HZ1.out
 clear r0 r1 r2 r3 HPc HY0 HZ0 hg1 hb0
 cases F with
 | false=>
  have HE:Hid (HvPost w0.heap.size (findK q y l) w (.returned (.tuple #[.agg #[.int .i64 0,.int .i64 0,.string ⟨#[]⟩,.slice none 0 0],.bool false])) (w1.setCells (w.heap.size+1) 0 (encP (zeroT,.slice none 0 0)))):=by
   rw [(hpl.none_at HD.out.rises (hF2 rfl)).2]
   exact⟨below_put hb1 (by omega) _,none,0,rfl,liesX_nil _ _ _ _ _⟩
  have Hbx:Hid _:=HZ1.out.put (zeroT,.slice none 0 0)
  clear hF1 hF2 hpl hrow hsl HD
  go_wp2_with fail
  refine bodyPost_ret (v:=.tuple #[.agg #[.int .i64 0,.int .i64 0,.string ⟨#[]⟩,.slice none 0 0],.bool false]) ?_ rfl HE.out
  obtain⟨q0,q1,q2,q3,_,_,_,_⟩:=Hbx.out
  simp only [encP,World.setCells,Nat.zero_add,Nat.reduceAdd] at q0 q1 q2 q3
  simp [results,Tryz.results132,go_sem,q0,q1,q2,q3]
 | true=>
  obtain⟨hrl,hz⟩:=hF1 rfl
  have hfk:=(hpl.some_at HD.out.rises hrl hz).2.1
  have hrq:r<qs.length:=by rw [←hqt,List.length_map] at hrl;exact hrl
  obtain⟨a,cp,rfl,_⟩:=hsl.slice
  obtain⟨N,hN⟩:∃N,N=qs.length:=⟨_,rfl⟩
  rw [←hN] at hrow hsl
  obtain⟨a1,c1,a2,c2,b,o,rfl,g1,g2,p0,p1,p2,p3,p4,p5,p6,p7⟩:=row_pair14 hsl hrq
  have hrN:r<N:=by omega
  have hN5:N≤65536:=by rw [hN,←List.length_map (f:=trT),hqt];exact HD.out.size
  have hNc:N≤cp:=by have:=hsl;obtain⟨_,_,he,h1,_⟩:=this;simp only [Value.slice.injEq] at he;omega
  have hfk2:findK q y l=some (trT qs[r]):=by
   rw [hfk]
   subst hqt
   rw [List.getElem_map]
  have hGL:Hid (LiesX (fun b=>b<w0.heap.size) 16 w1 (trT qs[r]).2.items (.slice a2 (trT qs[r]).2.items.length c2)):=((LiesX.of_lies g2).keeps hw0).keeps hb1
  have c1':=zaa hb1 hrow
  have hb01:=hw0.trans (hb1.mono hw0.size)
  replace p4:=zaa hb01 p4;replace p5:=zaa hb01 p5;replace p6:=zaa hb01 p6;replace p7:=zaa hb01 p7
  have HFk:Hid (findK q y l=some (trT qs[r])):=hfk2
  clear g1 hfk hfk2 p0 p1 p2 p3 g2 hsl hrow hN hF1 hF2 hpl hz HD
  generalize trT qs[r]=x at *
  clear hrq hrl hqt
  have hw0s:=hw0.size
  have HL2:LiesX (fun b=>b<w0.heap.size) 16 (w1.setCells (w.heap.size+1) 0 (encP (x.2,.slice a2 x.2.items.length c2))) x.2.items (.slice a2 x.2.items.length c2):=hGL.out.set (by omega)
  have HE:Hid (HvPost w0.heap.size (findK q y l) w (.returned (.tuple #[.agg #[.int .i64 x.2.kind,.int .i64 x.2.num,.string x.2.text,.slice a2 x.2.items.length c2],.bool true])) (w1.setCells (w.heap.size+1) 0 (encP (x.2,.slice a2 x.2.items.length c2)))):=by
   rw [HFk.out]
   exact⟨below_put hb1 (by omega) _,a2,c2,rfl,HL2⟩
  have Hbx:Hid _:=HZ1.out.put (x.2,.slice a2 x.2.items.length c2)
  clear hGL HL2
  go_wp2_with fail
  refine bodyPost_ret (v:=.tuple #[.agg #[.int .i64 x.2.kind,.int .i64 x.2.num,.string x.2.text,.slice a2 x.2.items.length c2],.bool true]) ?_ rfl HE.out
  obtain⟨q0,q1,q2,q3,_,_,_,_⟩:=Hbx.out
  simp only [encP,World.setCells,Nat.zero_add,Nat.reduceAdd] at q0 q1 q2 q3
  simp [results,Tryz.results132,go_sem,q0,q1,q2,q3]
end Go.Proofs.YtlnecfjnffdciabGreat

