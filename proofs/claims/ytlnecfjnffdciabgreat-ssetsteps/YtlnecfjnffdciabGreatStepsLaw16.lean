import Derived.Test.YtlnecfjnffdciabGreatSpeaks16
import Derived.Test.YtlnecfjnffdciabGreatReadB19
namespace Go.Proofs.YtlnecfjnffdciabGreat
open Go.RowKit Go.Shelf
def BothS (w:World) (q:Nat) (pm pd:Option Addr):Prop:=∃L s c,pm=some ⟨s,0,none⟩∧pd=some ⟨c,0,none⟩∧SC w q L s∧DS w q L c
theorem BothS.keeps {w w':World} {q:Nat} {pm pd:Option Addr} (h:BothS w q pm pd) (hb:Below w.heap.size w w'):BothS w' q pm pd:=by
 obtain⟨L,s,c,h1,h2,h3,h4⟩:=h
 exact⟨L,s,c,h1,h2,h3.keeps hb,h4.keeps hb⟩
def StS (w:World) (q:Nat) (E:Int) (pm pd:Option Addr):Prop:=(E≠0∧pm=none∧pd=none)∨(E=0∧BothS w q pm pd)
set_option maxRecDepth 100000 in
set_option maxHeartbeats 32000000 in
theorem steps16_walk (o:Int) (n:Nat) (l:List VT) (a:Option Addr) (cp:Nat) (bs:List Bool) (vb:Value) (w:World) (hl:Lies (n+1) w l (.slice a l.length cp)) (hbl:BlAt w bs vb):Calls Tryz.prog 4 #[.int .i64 o,.slice a l.length cp,vb] w fun e w'=>e=.returned (.bool true)∧Below w.heap.size w w':=by
 obtain⟨ps,hps,hpl,hS⟩:=SlP.of_lies hl
 obtain⟨ab,cb,rfl,hbm,hbr⟩:=hbl
 obtain⟨N,hN⟩:∃N,N=l.length:=⟨_,rfl⟩
 obtain⟨M,hM⟩:∃M,M=bs.length:=⟨_,rfl⟩
 rw [←hN]
 rw [←hM]
 have HN:Hid (N=ps.length):=by show _=_;rw [hpl,hN]
 have HM:Hid (M=bs.length):=hM
 rw [hN.symm.trans HN.out] at hS
 have HS:Hid (SlP 0 n w ps (.slice a ps.length cp)):=by
  show _
  rw [show l.length=ps.length from hpl.symm] at *
  exact hS
 have HBs:Hid (bs≠[]→∃b o,ab=some ⟨b,o,none⟩∧∀(i:Nat) (h:i<bs.length),w.cell? ⟨b,o+i,none⟩=some (.bool (bs[i]'h))):=hbr
 have HNm:Hid (Calls Tryz.prog 20 #[.int .i64 o] w (SpPost o.toNat [] (zam o) w)):=snew_16 o w
 have HNd:Hid (∀V,Calls Tryz.prog 21 #[.int .i64 o] V (DsPost o.toNat [] (zam o) V)):=fun V=>rnew_16 o V
 have HSp:Hid (∀V,Calls Tryz.prog 11 #[] V fun e w'=>e=.returned (.bool true)∧Below V.heap.size V w'):=speaks16_any
 obtain⟨E0,hE0⟩:∃E0,E0=zam o:=⟨_,rfl⟩
 obtain⟨q,hq⟩:∃q,q=o.toNat:=⟨_,rfl⟩
 rw [←hE0,←hq] at HNm HNd
 clear hl hps hpl hS hbr hbm hN hM hE0 hq
 go_enter Tryz.func4,Tryz.ntmps4
 go_wp2_with fail
 refine Calls.mono HNm.out ?_
 rintro e w1 ⟨hb1,pm,rfl,hpm⟩
 have HNd1:=show Hid _ from HNd.out w1
 clear HNm HNd
 have Hpm:Hid _:=hpm
 clear hpm
 go_wp2_with fail
 refine Calls.mono HNd1.out ?_
 rintro e w2 ⟨hg2,pd,rfl,hpd⟩
 have hb2:Below w.heap.size w w2:=hb1.trans (hg2.mono hb1.size)
 have HSt:Hid (StS w2 q E0 pm pd):=by
  rcases Hpm.out with ⟨h0,rfl⟩|⟨h0,s,rfl,hm⟩
  ·rcases hpd with ⟨_,rfl⟩|⟨h1,_⟩
   ·exact .inl ⟨h0,rfl,rfl⟩
   ·exact absurd h1 h0
  ·rcases hpd with ⟨h1,_⟩|⟨_,c,rfl,hd⟩
   ·exact absurd h0 h1
   ·exact .inr ⟨h0,_,s,c,rfl,rfl,hm.keeps hg2,hd⟩
 clear Hpm hpd HNd1 hg2 hb1
 rcases HSt.out with ⟨h0,rfl,rfl⟩|⟨rfl,hbm⟩
 ·have HSp2:=show Hid _ from HSp.out w2
  have hne:(E0 != 0)=true:=by simpa using h0
  clear HSt HSp
  go_wp2_with fail
  refine Calls.mono HSp2.out ?_
  rintro e w3 ⟨rfl,hg3⟩
  have hb3:=hb2.trans (hg3.mono hb2.size)
  clear HSp2 hg3
  go_wp2_with fail
  go_ret
  exact⟨rfl,hb3⟩
 ·have HBm:Hid (BothS w2 q pm pd):=hbm
  have HB2:Hid (Below w.heap.size w w2):=hb2
  obtain⟨L0,s0,c0,rfl,rfl,_,_⟩:=hbm
  clear HSt hb2
  go_wp2_with fail
  go_loopg [7,9,11] (N+1) (fun z vm vd vi wr=>∃(k:Nat) (pm pd:Option Addr),vm=.pointer pm∧vd=.pointer pd∧vi=.int .i64 (k:Int)∧k≤N∧z=N+1-k∧Hid (BothS wr q pm pd)∧Hid (Below w.heap.size w wr))
  case atStart=>exact⟨0,_,_,rfl,rfl,rfl,by omega,by omega,HBm,HB2⟩
  case round=>
   obtain⟨k,pm,pd,rfl,rfl,rfl,hkN,hz,HB,HW⟩:=hrel
   clear HBm HB2
   have Hz:Hid _:=hz
   clear hz
   obtain⟨L,s,c,rfl,rfl,hm,hd⟩:=HB.out
   have Hm:Hid (SC wr q L s):=hm
   have Hd:Hid (DS wr q L c):=hd
   clear hm hd
   by_cases hlt:k<N∧k<300
   ·obtain⟨hlN,hl3⟩:=hlt
    have hlNI:(k:Int)<(N:Nat):=by omega
    have hl3I:(k:Int)<300:=by omega
    have hlq:k<ps.length:=by have:=HN.out;omega
    have hlq2:k / 2<ps.length:=by have:=HN.out;omega
    obtain⟨B,O,c9,hv9,_,hrw,hgd⟩:=HS.out.some (fun e=>by rw [e] at hlq;cases hlq)
    have ha9:a=some ⟨B,O,none⟩:=by injection hv9
    subst ha9
    obtain⟨n0,n1,n2,n3⟩:=hrw k hlq
    obtain⟨m0,m1,m2,m3⟩:=hrw (k / 2) hlq2
    have hsx:=hgd ps[k] (List.getElem_mem hlq)
    have hsy:=hgd ps[k / 2] (List.getElem_mem hlq2)
    generalize ps[k]=xp at *
    generalize ps[k / 2]=yp at *
    obtain⟨x,xu⟩:=xp
    obtain⟨y,yu⟩:=yp
    obtain⟨ax,cx,hxu,_⟩:=Lies.slice hsx.1
    obtain⟨ay,cy,hyu,_⟩:=Lies.slice hsy.1
    simp only at hxu hyu n0 n1 n2 n3 m0 m1 m2 m3
    subst hxu hyu
    have hb8:=HW.out
    have n0:=zaa hb8 n0;have n1:=zaa hb8 n1;have n2:=zaa hb8 n2;have n3:=zaa hb8 n3;have m0:=zaa hb8 m0;have m1:=zaa hb8 m1;have m2:=zaa hb8 m2;have m3:=zaa hb8 m3
    have HX:Hid (∀V,Below wr.heap.size wr V→Lies n V x.items (.slice ax x.items.length cx)∧x.text.size≤9223372036854775807):=fun V hV=>⟨Lies.keeps (HW.out.trans (hV.mono HW.out.size)) _ _ _ hsx.1,hsx.2⟩
    have HY:Hid (∀V,Below wr.heap.size wr V→Lies n V y.items (.slice ay y.items.length cy)∧y.text.size≤9223372036854775807):=fun V hV=>⟨Lies.keeps (HW.out.trans (hV.mono HW.out.size)) _ _ _ hsy.1,hsy.2⟩
    have hBl:=zad n0
    simp only at hBl
    clear hrw hgd hsx hsy hv9 hlq hlq2 hb8
    obtain⟨F,hF⟩:∃F,F=(getO n q x L).isSome:=⟨_,rfl⟩
    obtain⟨EG,hEG⟩:∃EG,EG=errOf (zab n x):=⟨_,rfl⟩
    have HGm:Hid (Calls Tryz.prog 22 #[.pointer (some ⟨s,0,none⟩),.agg #[.int .i64 x.kind,.int .i64 x.num,.string x.text,.slice ax x.items.length cx]] wr (HasPost F EG wr)):=by rw [hF,hEG];exact shas_16 Hm.out n x _ (HX.out wr (Below.refl _ _)).1 (HX.out wr (Below.refl _ _)).2
    have HGr:Hid (∀V,Below wr.heap.size wr V→Calls Tryz.prog 23 #[.pointer (some ⟨c,0,none⟩),.agg #[.int .i64 x.kind,.int .i64 x.num,.string x.text,.slice ax x.items.length cx]] V (HasPost F EG V)):=fun V hV=>by rw [hF,hEG];exact rhas_16 Hd.out hV n x _ (HX.out V hV).1
    clear hF hEG
    go_wp2_with fail
    refine Calls.mono HGm.out ?_
    rintro e w3 ⟨rfl,hg3⟩
    have HB3:Hid (Below wr.heap.size wr w3):=hg3
    have HGr3:=show Hid _ from HGr.out w3 hg3
    have n0:=zaa hg3 n0;have n1:=zaa hg3 n1;have n2:=zaa hg3 n2;have n3:=zaa hg3 n3;have m0:=zaa hg3 m0;have m1:=zaa hg3 m1;have m2:=zaa hg3 m2;have m3:=zaa hg3 m3
    clear hg3 HGm HGr
    go_wp2_with fail
    refine Calls.mono HGr3.out ?_
    rintro e w4 ⟨rfl,hg4⟩
    have HB4:Hid (Below wr.heap.size wr w4):=HB3.out.trans (hg4.mono HB3.out.size)
    have n0:=zaa hg4 n0;have n1:=zaa hg4 n1;have n2:=zaa hg4 n2;have n3:=zaa hg4 n3;have m0:=zaa hg4 m0;have m1:=zaa hg4 m1;have m2:=zaa hg4 m2;have m3:=zaa hg4 m3
    clear hg4 HGr3 HB3
    have hq2:Int.tdiv (k:Int) 2=((k / 2:Nat):Int):=by rw [Int.tdiv_eq_ediv_of_nonneg (by omega)];omega
    by_cases hkM:k<M
    ·have hkMI:(k:Int)<(M:Nat):=by omega
     have hkb:k<bs.length:=by have:=HM.out;omega
     obtain⟨B3,O3,rfl,hbc⟩:=HBs.out (fun e=>by rw [e] at hkb;cases hkb)
     have z0:=zaa (HW.out.trans (HB4.out.mono HW.out.size)) (hbc k hkb)
     generalize bs[k]=lb at *
     clear hbc hkb
     cases lb with
     | true=>
      obtain⟨E,hE⟩:∃E,E=errOf (zab n y):=⟨_,rfl⟩
      obtain⟨L2,hL2⟩:∃L2,L2=lessK q y L:=⟨_,rfl⟩
      have HMC:Hid (∀V,Below wr.heap.size wr V→Calls Tryz.prog 24 #[.pointer (some ⟨s,0,none⟩),.agg #[.int .i64 y.kind,.int .i64 y.num,.string y.text,.slice ay y.items.length cy]] V (SpPost q L2 E V)):=fun V hV=>by rw [hE,hL2];exact sdisj_16 (Hm.out.keeps hV) n y _ (HY.out V hV).1 (HY.out V hV).2
      have HDC:Hid (∀V,Below wr.heap.size wr V→Calls Tryz.prog 25 #[.pointer (some ⟨c,0,none⟩),.agg #[.int .i64 y.kind,.int .i64 y.num,.string y.text,.slice ay y.items.length cy]] V (DsPost q L2 E V)):=fun V hV=>by rw [hE,hL2];exact rdisj_16 Hd.out hV n y _ (HY.out V hV).1
      clear hE hL2 HX HY
      have HMC5:=show Hid _ from HMC.out w4 HB4.out
      go_wp2_with fail
      refine Calls.mono HMC5.out ?_
      rintro e w5 ⟨hg5,pm,rfl,hpm⟩
      have HB5:Hid (Below wr.heap.size wr w5):=HB4.out.trans (hg5.mono HB4.out.size)
      have HDC5:=show Hid _ from HDC.out w5 HB5.out
      have Hpm:Hid _:=hpm
      have m0:=zaa hg5 m0;have m1:=zaa hg5 m1;have m2:=zaa hg5 m2;have m3:=zaa hg5 m3
      clear hg5 hpm HMC HMC5 HDC
      go_wp2_with fail
      refine Calls.mono HDC5.out ?_
      rintro e w6 ⟨hg6,pd,rfl,hpd⟩
      have HB6:Hid (Below wr.heap.size wr w6):=HB5.out.trans (hg6.mono HB5.out.size)
      have HSt:Hid (StS w6 q E pm pd):=by
       rcases Hpm.out with ⟨h0,rfl⟩|⟨h0,s1,rfl,hm1⟩
       ·rcases hpd with ⟨_,rfl⟩|⟨h1,_⟩
        ·exact .inl ⟨h0,rfl,rfl⟩
        ·exact absurd h1 h0
       ·rcases hpd with ⟨h1,_⟩|⟨_,c1,rfl,hd1⟩
        ·exact absurd h0 h1
        ·exact .inr ⟨h0,_,s1,c1,rfl,rfl,hm1.keeps hg6,hd1⟩
      have HBo:Hid (BothS w6 q (some ⟨s,0,none⟩) (some ⟨c,0,none⟩)):=HB.out.keeps HB6.out
      have HWz:Hid (Below w.heap.size w w6):=HW.out.trans (HB6.out.mono HW.out.size)
      clear Hpm hpd hg6 HDC5 HB5 HB6 HB4 HB HW n0 n1 n2 n3 m0 m1 m2 m3
      rcases HSt.out with ⟨h0,rfl,rfl⟩|⟨rfl,hbm⟩
      ·have hne:(E != 0)=true:=by simpa using h0
       have hne2:decide (E=0)=false:=decide_eq_false h0
       clear HSt
       go_wp2_with fail
       go_roundg (N+1-(k+1))
       case measure=>have:=Hz.out;omega
       case rel=>exact⟨k+1,_,_,rfl,rfl,by go_num,by omega,rfl,HBo,HWz⟩
      ·have HBn:Hid (BothS w6 q pm pd):=hbm
       obtain⟨L3,s3,c3,rfl,rfl,_,_⟩:=hbm
       clear HSt HBo
       go_wp2_with fail
       go_roundg (N+1-(k+1))
       case measure=>have:=Hz.out;omega
       case rel=>exact⟨k+1,_,_,rfl,rfl,by go_num,by omega,rfl,HBn,HWz⟩
     | false=>
      obtain⟨E,hE⟩:∃E,E=assocL n q x nilT L:=⟨_,rfl⟩
      obtain⟨L2,hL2⟩:∃L2,L2=withK q x nilT L:=⟨_,rfl⟩
      have HMC:Hid (∀V,Below wr.heap.size wr V→Calls Tryz.prog 26 #[.pointer (some ⟨s,0,none⟩),.agg #[.int .i64 x.kind,.int .i64 x.num,.string x.text,.slice ax x.items.length cx]] V (SpPost q L2 E V)):=fun V hV=>by rw [hE,hL2];exact sconj_16 (Hm.out.keeps hV) n x _ (HX.out V hV).1 (HX.out V hV).2
      have HDC:Hid (∀V,Below wr.heap.size wr V→Calls Tryz.prog 27 #[.pointer (some ⟨c,0,none⟩),.agg #[.int .i64 x.kind,.int .i64 x.num,.string x.text,.slice ax x.items.length cx]] V (DsPost q L2 E V)):=fun V hV=>by rw [hE,hL2];exact rconj_16 Hd.out hV n x _ (HX.out V hV).1 (HX.out V hV).2
      clear hE hL2 HX HY
      have HMC5:=show Hid _ from HMC.out w4 HB4.out
      go_wp2_with fail
      refine Calls.mono HMC5.out ?_
      rintro e w5 ⟨hg5,pm,rfl,hpm⟩
      have HB5:Hid (Below wr.heap.size wr w5):=HB4.out.trans (hg5.mono HB4.out.size)
      have HDC5:=show Hid _ from HDC.out w5 HB5.out
      have Hpm:Hid _:=hpm
      have n0:=zaa hg5 n0;have n1:=zaa hg5 n1;have n2:=zaa hg5 n2;have n3:=zaa hg5 n3
      clear hg5 hpm HMC HMC5 HDC
      go_wp2_with fail
      refine Calls.mono HDC5.out ?_
      rintro e w6 ⟨hg6,pd,rfl,hpd⟩
      have HB6:Hid (Below wr.heap.size wr w6):=HB5.out.trans (hg6.mono HB5.out.size)
      have HSt:Hid (StS w6 q E pm pd):=by
       rcases Hpm.out with ⟨h0,rfl⟩|⟨h0,s1,rfl,hm1⟩
       ·rcases hpd with ⟨_,rfl⟩|⟨h1,_⟩
        ·exact .inl ⟨h0,rfl,rfl⟩
        ·exact absurd h1 h0
       ·rcases hpd with ⟨h1,_⟩|⟨_,c1,rfl,hd1⟩
        ·exact absurd h0 h1
        ·exact .inr ⟨h0,_,s1,c1,rfl,rfl,hm1.keeps hg6,hd1⟩
      have HBo:Hid (BothS w6 q (some ⟨s,0,none⟩) (some ⟨c,0,none⟩)):=HB.out.keeps HB6.out
      have HWz:Hid (Below w.heap.size w w6):=HW.out.trans (HB6.out.mono HW.out.size)
      clear Hpm hpd hg6 HDC5 HB5 HB6 HB4 HB HW n0 n1 n2 n3 m0 m1 m2 m3
      rcases HSt.out with ⟨h0,rfl,rfl⟩|⟨rfl,hbm⟩
      ·have hne:(E != 0)=true:=by simpa using h0
       have hne2:decide (E=0)=false:=decide_eq_false h0
       clear HSt
       go_wp2_with fail
       go_roundg (N+1-(k+1))
       case measure=>have:=Hz.out;omega
       case rel=>exact⟨k+1,_,_,rfl,rfl,by go_num,by omega,rfl,HBo,HWz⟩
      ·have HBn:Hid (BothS w6 q pm pd):=hbm
       obtain⟨L3,s3,c3,rfl,rfl,_,_⟩:=hbm
       clear HSt HBo
       go_wp2_with fail
       go_roundg (N+1-(k+1))
       case measure=>have:=Hz.out;omega
       case rel=>exact⟨k+1,_,_,rfl,rfl,by go_num,by omega,rfl,HBn,HWz⟩
    ·have hkMI : ¬(k:Int)<(M:Nat):=by omega
     obtain⟨E,hE⟩:∃E,E=assocL n q x nilT L:=⟨_,rfl⟩
     obtain⟨L2,hL2⟩:∃L2,L2=withK q x nilT L:=⟨_,rfl⟩
     have HMC:Hid (∀V,Below wr.heap.size wr V→Calls Tryz.prog 26 #[.pointer (some ⟨s,0,none⟩),.agg #[.int .i64 x.kind,.int .i64 x.num,.string x.text,.slice ax x.items.length cx]] V (SpPost q L2 E V)):=fun V hV=>by rw [hE,hL2];exact sconj_16 (Hm.out.keeps hV) n x _ (HX.out V hV).1 (HX.out V hV).2
     have HDC:Hid (∀V,Below wr.heap.size wr V→Calls Tryz.prog 27 #[.pointer (some ⟨c,0,none⟩),.agg #[.int .i64 x.kind,.int .i64 x.num,.string x.text,.slice ax x.items.length cx]] V (DsPost q L2 E V)):=fun V hV=>by rw [hE,hL2];exact rconj_16 Hd.out hV n x _ (HX.out V hV).1 (HX.out V hV).2
     clear hE hL2 HX HY
     have HMC5:=show Hid _ from HMC.out w4 HB4.out
     go_wp2_with fail
     refine Calls.mono HMC5.out ?_
     rintro e w5 ⟨hg5,pm,rfl,hpm⟩
     have HB5:Hid (Below wr.heap.size wr w5):=HB4.out.trans (hg5.mono HB4.out.size)
     have HDC5:=show Hid _ from HDC.out w5 HB5.out
     have Hpm:Hid _:=hpm
     have n0:=zaa hg5 n0;have n1:=zaa hg5 n1;have n2:=zaa hg5 n2;have n3:=zaa hg5 n3
     clear hg5 hpm HMC HMC5 HDC
     go_wp2_with fail
     refine Calls.mono HDC5.out ?_
     rintro e w6 ⟨hg6,pd,rfl,hpd⟩
     have HB6:Hid (Below wr.heap.size wr w6):=HB5.out.trans (hg6.mono HB5.out.size)
     have HSt:Hid (StS w6 q E pm pd):=by
      rcases Hpm.out with ⟨h0,rfl⟩|⟨h0,s1,rfl,hm1⟩
      ·rcases hpd with ⟨_,rfl⟩|⟨h1,_⟩
       ·exact .inl ⟨h0,rfl,rfl⟩
       ·exact absurd h1 h0
      ·rcases hpd with ⟨h1,_⟩|⟨_,c1,rfl,hd1⟩
       ·exact absurd h0 h1
       ·exact .inr ⟨h0,_,s1,c1,rfl,rfl,hm1.keeps hg6,hd1⟩
     have HBo:Hid (BothS w6 q (some ⟨s,0,none⟩) (some ⟨c,0,none⟩)):=HB.out.keeps HB6.out
     have HWz:Hid (Below w.heap.size w w6):=HW.out.trans (HB6.out.mono HW.out.size)
     clear Hpm hpd hg6 HDC5 HB5 HB6 HB4 HB HW n0 n1 n2 n3 m0 m1 m2 m3
     rcases HSt.out with ⟨h0,rfl,rfl⟩|⟨rfl,hbm⟩
     ·have hne:(E != 0)=true:=by simpa using h0
      have hne2:decide (E=0)=false:=decide_eq_false h0
      clear HSt
      go_wp2_with fail
      go_roundg (N+1-(k+1))
      case measure=>have:=Hz.out;omega
      case rel=>exact⟨k+1,_,_,rfl,rfl,by go_num,by omega,rfl,HBo,HWz⟩
     ·have HBn:Hid (BothS w6 q pm pd):=hbm
      obtain⟨L3,s3,c3,rfl,rfl,_,_⟩:=hbm
      clear HSt HBo
      go_wp2_with fail
      go_roundg (N+1-(k+1))
      case measure=>have:=Hz.out;omega
      case rel=>exact⟨k+1,_,_,rfl,rfl,by go_num,by omega,rfl,HBn,HWz⟩
   ·have hcond : ¬((k:Int)<(N:Nat))∨¬((k:Int)<300):=by omega
    have HSm:=show Hid _ from same_16 Hm.out Hd.out
    have hfin:∀V,Below wr.heap.size wr V→Below w.heap.size w V:=fun V hV=>HW.out.trans (hV.mono HW.out.size)
    have HFn:Hid _:=hfin
    clear hfin hlt HS HBs
    rcases hcond with hc|hc
    ·go_wp2_with (first|(go_at_call 12;refine Calls.mono HSm.out ?_;rintro e w3 ⟨rfl,hg3⟩;have HSp3:=show Hid _ from HSp.out w3;have HF3:=show Hid _ from HFn.out w3 hg3)|(go_at_call 11;refine Calls.mono HSp3.out ?_;rintro e w4 ⟨rfl,hg4⟩))
     go_ret
     exact⟨rfl,HF3.out.trans (hg4.mono HF3.out.size)⟩
    ·by_cases hc2:(k:Int)<(N:Nat)
     ·go_wp2_with (first|(go_at_call 12;refine Calls.mono HSm.out ?_;rintro e w3 ⟨rfl,hg3⟩;have HSp3:=show Hid _ from HSp.out w3;have HF3:=show Hid _ from HFn.out w3 hg3)|(go_at_call 11;refine Calls.mono HSp3.out ?_;rintro e w4 ⟨rfl,hg4⟩))
      go_ret
      exact⟨rfl,HF3.out.trans (hg4.mono HF3.out.size)⟩
     ·go_wp2_with (first|(go_at_call 12;refine Calls.mono HSm.out ?_;rintro e w3 ⟨rfl,hg3⟩;have HSp3:=show Hid _ from HSp.out w3;have HF3:=show Hid _ from HFn.out w3 hg3)|(go_at_call 11;refine Calls.mono HSp3.out ?_;rintro e w4 ⟨rfl,hg4⟩))
      go_ret
      exact⟨rfl,HF3.out.trans (hg4.mono HF3.out.size)⟩
end Go.Proofs.YtlnecfjnffdciabGreat

