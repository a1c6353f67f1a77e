import Derived.Test.YtcflooaoocngdaaGreatMapP
import Derived.Test.YtcflooaoocngdaaGreatLastOf
set_option maxRecDepth 100000
set_option maxHeartbeats 8000000
namespace Go.Proofs.YtcflooaoocngdaaGreat
open Go.RowKit
theorem checkPair_any (d:Nat) (t1 t2:VT) (ta tb:Option Addr) (tc td bx:Nat) (w:World) (h1:Lies d w t1.items (.slice ta t1.items.length tc)) (h2:Lies d w t2.items (.slice tb t2.items.length td)) (hs1:t1.text.size≤9223372036854775807) (hs2:t2.text.size≤9223372036854775807) (hbx:w.cell? ⟨bx,0,none⟩=some (.func (.func 10) #[] #[])) :
 Calls Tryz.prog 67 #[.agg #[.int .i64 t1.kind,.int .i64 t1.num,.string t1.text,.slice ta t1.items.length tc,.int .i64 t2.kind,.int .i64 t2.num,.string t2.text,.slice tb t2.items.length td],.pointer (some ⟨bx,0,none⟩)] w fun e w'=>e=.returned (.int .i64 (errOf (okP d (t1,t2))))∧Below w.heap.size w w':=by
 have H1:Hid (Lies d w t1.items (.slice ta t1.items.length tc)):=h1
 have H2:Hid (Lies d w t2.items (.slice tb t2.items.length td)):=h2
 have hlb:bx<w.heap.size:=zae hbx
 have hb0:Below w.heap.size w (w.alloc (.cells #[.int .i64 t1.kind,.int .i64 t1.num,.string t1.text,.slice ta t1.items.length tc,.int .i64 t2.kind,.int .i64 t2.num,.string t2.text,.slice tb t2.items.length td] 52)):=((Grew.refl w).alloc _).below
 clear h1 h2
 go_enter Tryz.func67,Tryz.ntmps67
 go_wp2_with fail
 refine (check_any d t1 _ _ (Lies.keeps hb0 _ _ _ H1.out) hs1).mono ?_
 rintro e w1 ⟨rfl,hg⟩
 have hb1:Below w.heap.size w w1:=hb0.trans (hg.mono hb0.size)
 have hbx1:=zaa hb1 hbx
 have c4:=zaa hg (show (w.alloc (.cells #[.int .i64 t1.kind,.int .i64 t1.num,.string t1.text,.slice ta t1.items.length tc,.int .i64 t2.kind,.int .i64 t2.num,.string t2.text,.slice tb t2.items.length td] 52)).cell? ⟨w.heap.size,4,none⟩=some (.int .i64 t2.kind) by simp)
 have c5:=zaa hg (show (w.alloc (.cells #[.int .i64 t1.kind,.int .i64 t1.num,.string t1.text,.slice ta t1.items.length tc,.int .i64 t2.kind,.int .i64 t2.num,.string t2.text,.slice tb t2.items.length td] 52)).cell? ⟨w.heap.size,5,none⟩=some (.int .i64 t2.num) by simp)
 have c6:=zaa hg (show (w.alloc (.cells #[.int .i64 t1.kind,.int .i64 t1.num,.string t1.text,.slice ta t1.items.length tc,.int .i64 t2.kind,.int .i64 t2.num,.string t2.text,.slice tb t2.items.length td] 52)).cell? ⟨w.heap.size,6,none⟩=some (.string t2.text) by simp)
 have c7:=zaa hg (show (w.alloc (.cells #[.int .i64 t1.kind,.int .i64 t1.num,.string t1.text,.slice ta t1.items.length tc,.int .i64 t2.kind,.int .i64 t2.num,.string t2.text,.slice tb t2.items.length td] 52)).cell? ⟨w.heap.size,7,none⟩=some (.slice tb t2.items.length td) by simp)
 clear hg hbx
 cases hx:zab d t1
 ·have he:errOf false=3:=rfl
  have hok:Hid (okP d (t1,t2)=false):=by show _=_;unfold okP;simp only;rw [hx];rfl
  rw [he]
  clear he
  go_wp2_with fail
  go_ret
  exact⟨by rw [hok.out];rfl,hb1⟩
 ·have he:errOf true=0:=rfl
  have hok:Hid (okP d (t1,t2)=zab d t2):=by show _=_;unfold okP;simp only;rw [hx];rfl
  rw [he]
  clear he
  go_wp2_with fail
  refine (check_any d t2 _ _ (Lies.keeps hb1 _ _ _ H2.out) hs2).mono ?_
  rintro e w2 ⟨rfl,hg⟩
  have hb2:Below w.heap.size w w2:=hb1.trans (hg.mono hb1.size)
  clear hg c4 c5 c6 c7 hbx1
  go_wp2_with fail
  go_ret
  exact⟨by rw [hok.out];rfl,hb2⟩
theorem checkAllQ_any (d:Nat) (qs:List PP) (u:Value) (bx:Nat) (w:World) (hu:SlQ 0 d w qs u) (hbx:w.cell? ⟨bx,0,none⟩=some (.func (.func 10) #[] #[])) :
 Calls Tryz.prog 66 #[u,.func (.func 67) #[] #[.pointer (some ⟨bx,0,none⟩)]] w fun e w'=>e=.returned (.int .i64 (pErr d (qs.map trT)))∧Below w.heap.size w w':=by
 obtain⟨a,c,rfl,hc0⟩:=hu.slice
 have HS:Hid (SlQ 0 d w qs (.slice a qs.length c)):=hu
 have hl63:qs.length≤9223372036854775807:=by obtain⟨_,_,_,_,h,_⟩:=hu;exact h
 have Hbx:Hid (w.cell? ⟨bx,0,none⟩=some (.func (.func 10) #[] #[])):=hbx
 clear hu hbx
 obtain⟨ts,hts⟩:∃ts,ts=qs.map trT:=⟨_,rfl⟩
 have Hts:Hid (ts=qs.map trT):=hts
 have Hlen:Hid (ts.length=qs.length):=by show _=_;rw [hts,List.length_map]
 rw [←hts]
 clear hts
 have HLL:Hid (qs.length=qs.length):=rfl
 generalize hL:qs.length=L at *
 have HqL:Hid (qs.length=L):=hL
 clear hL HLL
 by_cases hlong:65536<L
 ·have hlong':(65536:Int)<(L:Int):=by omega
  have Hfin:Hid (pErr d ts=2):=if_pos (by rw [Hlen.out];exact hlong)
  clear hlong
  go_enter Tryz.func66,Tryz.ntmps66
  go_wp2_with fail
  go_ret
  exact⟨zai Hfin.out.symm,Below.refl _ _⟩
 ·have hlong' : ¬(65536:Int)<(L:Int):=by omega
  have Hfin:Hid (pErr d ts=if ts.all (okP d) then 0 else 3):=if_neg (by rw [Hlen.out];exact hlong)
  go_enter Tryz.func66,Tryz.ntmps66
  go_wp2_with fail
  go_loopg [13] L (fun z vi wr=>∃j:Nat,vi=.int .i64 (j:Int)∧j≤L∧z=L-j∧Hid (ts.all (okP d)=(ts.drop j).all (okP d))∧Below w.heap.size w wr)
  case atStart=>exact⟨0,rfl,by omega,by omega,rfl,Below.refl _ _⟩
  case round=>
   obtain⟨j,rfl,hj,hk,Hc,hbw⟩:=hrel
   have Hk:Hid _:=hk
   clear hk
   have hws:w.heap.size≤wr.heap.size:=hbw.size
   by_cases hjl:j<L
   ·have hji:(j:Int)<(L:Nat):=by omega
    have hjR:j<qs.length:=by have:=HqL.out;omega
    have hjT:j<ts.length:=by have:=Hlen.out;omega
    have hg0:=HS.out
    rw [←HqL.out] at hg0
    obtain⟨b1,o1,c1',hv1,_,hq,_⟩:=hg0.full (fun e=>by rw [e] at hjR;cases hjR)
    have ha1:a=some ⟨b1,o1,none⟩:=by injection hv1
    subst ha1
    obtain⟨x,hxe⟩:∃x,x=qs[j]:=⟨_,rfl⟩
    have Gx:GoodQ d w x:=hg0.good x (by rw [hxe];exact List.getElem_mem hjR)
    have Ex:=hq.at j hjR
    rw [←hxe] at Ex
    have hte:ts[j]=trT x:=by rw [hxe];simp [Hts.out]
    obtain⟨⟨t1,tv1⟩,⟨t2,tv2⟩⟩:=x
    obtain⟨ta,tc,et1,_⟩:=Lies.slice Gx.1.1
    obtain⟨tb,td,et2,_⟩:=Lies.slice Gx.2.1
    simp only at et1 et2
    subst et1 et2
    have hte2:ts[j]=(t1,t2):=hte
    have Hd:Hid (ts.drop j=(t1,t2)::ts.drop (j+1)):=by show _=_;rw [List.drop_eq_getElem_cons hjT,hte2]
    obtain⟨p0,p1,p2,p3,p4,p5,p6,p7⟩:=Ex.keeps hbw
    simp only at p0 p1 p2 p3 p4 p5 p6 p7
    have hgr:b1<wr.heap.size:=zae p0
    have hbA:Below w.heap.size w (wr.alloc (.cells #[.int .i64 t1.kind,.int .i64 t1.num,.string t1.text,.slice ta t1.items.length tc,.int .i64 t2.kind,.int .i64 t2.num,.string t2.text,.slice tb t2.items.length td] 52)):=hbw.alloc hws _
    have HCk:Hid _:=checkPair_any d t1 t2 ta tb tc td bx (wr.alloc (.cells #[.int .i64 t1.kind,.int .i64 t1.num,.string t1.text,.slice ta t1.items.length tc,.int .i64 t2.kind,.int .i64 t2.num,.string t2.text,.slice tb t2.items.length td] 52)) (Lies.keeps hbA _ _ _ Gx.1.1) (Lies.keeps hbA _ _ _ Gx.2.1) Gx.1.2 Gx.2.2 (zaa hbA Hbx.out)
    clear hte2
    clear Ex hxe Gx hq hv1 hg0
    clear hte
    clear hjR hjT
    go_wp2_with fail
    refine Calls.mono HCk.out ?_
    rintro e w1 ⟨rfl,hg⟩
    have hb2:Below w.heap.size w w1:=hbA.trans (hg.mono hbA.size)
    clear hg p0 p1 p2 p3 p4 p5 p6 p7 HCk hbA
    cases hx:okP d (t1,t2)
    ·have he:errOf false=3:=rfl
     rw [he]
     clear he
     go_wp2_with fail
     go_ret
     exact⟨zai (by rw [Hfin.out,Hc.out,Hd.out,List.all_cons,hx];rfl),hb2⟩
    ·have he:errOf true=0:=rfl
     rw [he]
     clear he
     go_wp2_with fail
     go_roundg (L-(j+1))
     case measure=>have:=Hk.out;omega
     case rel=>
      refine⟨j+1,by go_num,by omega,rfl,?_,hb2⟩
      show _=_
      rw [Hc.out,Hd.out,List.all_cons,hx];rfl
   ·have hji : ¬(j:Int)<(L:Nat):=by omega
    have Hd:Hid (ts.all (okP d)=true):=by
     show _=_
     rw [Hc.out,List.drop_eq_nil_of_le (by rw [Hlen.out];omega)];rfl
    clear Hc
    go_wp2_with fail
    go_ret
    exact⟨zai (by rw [Hfin.out,Hd.out];rfl),hbw⟩
theorem checkPairs_any (d:Nat) (qs:List PP) (u:Value) (w:World) (hu:SlQ 0 d w qs u) :
 Calls Tryz.prog 41 #[u,.func (.func 10) #[] #[]] w fun e w'=>e=.returned (.int .i64 (pErr d (qs.map trT)))∧Below w.heap.size w w':=by
 have hb0:∀o,Below w.heap.size w (w.alloc o):=fun o=>((Grew.refl w).alloc o).below
 have HC:Hid (∀W,Below w.heap.size w W→W.cell? ⟨w.heap.size,0,none⟩=some (.func (.func 10) #[] #[])→Calls Tryz.prog 66 #[u,.func (.func 67) #[] #[.pointer (some ⟨w.heap.size,0,none⟩)]] W fun e w'=>e=.returned (.int .i64 (pErr d (qs.map trT)))∧Below W.heap.size W w'):=fun W h1 h2=>checkAllQ_any d qs u w.heap.size W (hu.keeps h1) h2
 have Hb:Hid (∀o,Below w.heap.size w (w.alloc o)):=hb0
 obtain⟨a,c,rfl,hc0⟩:=hu.slice
 clear hu hb0
 generalize pErr d (qs.map trT)=E at *
 generalize qs.length=L at *
 go_enter Tryz.func41,Tryz.ntmps41
 go_wp2_with fail
 refine (HC.out _ (Hb.out _) (by simp)).mono ?_
 rintro e w1 ⟨rfl,hg⟩
 have hb1:Below w.heap.size w w1:=(Hb.out _).trans (hg.mono (Hb.out _).size)
 clear hg
 go_wp2_with fail
 go_ret
 exact⟨rfl,hb1⟩
theorem lastOf_none (f:Nat) (a:Option Addr) (c:Nat) (w:World) :
 Calls Tryz.prog 68 #[.slice a 0 c,.func (.func f) #[] #[]] w fun e w'=>e=.returned (.slice none 0 0)∧Below w.heap.size w w':=by
 go_enter Tryz.func68,Tryz.ntmps68
 go_wp2_with fail
 refine (cloneQ_none a c _).mono ?_
 rintro e w1 ⟨a',c',rfl,hb1⟩
 go_wp2_with fail
 refine (sortStable_none f a' c' _).mono ?_
 rintro e w2 ⟨rfl,rfl⟩
 go_wp2_with fail
 go_loopg [16,6] 0 (fun z vj vo wr=>vj=.int .i64 0∧vo=.slice none 0 0∧z=0∧wr=w2)
 case atStart=>exact⟨rfl,rfl,rfl,rfl⟩
 case round=>
  obtain⟨rfl,rfl,rfl,rfl⟩:=hrel
  go_wp2_with fail
  go_ret
  exact⟨rfl,hb1⟩
theorem lastOf_any (f d:Nat) (eg:∀args w,(callFunc f args).run Tryz.prog w=.ok (.enter f args) w) (cf:PP→PP→Int) (hc:CmpQ f (GoodQ d) cf) (h3:Cmp3 cf) (qs:List PP) (u:Value) (w:World) (hu:SlQ 0 d w qs u) (hlen:qs.length≤65536) :
 Calls Tryz.prog 68 #[u,.func (.func f) #[] #[]] w fun e w'=>∃v,e=.returned v∧SlQ w.heap.size d w' (kyd cf (qs.length+1) qs) v∧Below w.heap.size w w':=by
 by_cases hne:qs=[]
 ·subst hne
  obtain⟨a,c,rfl,_⟩:=hu.slice
  refine (lastOf_none f a c w).mono ?_
  rintro e w' ⟨rfl,hb⟩
  exact⟨_,rfl,⟨none,0,rfl,by simp [kyd],by simp [kyd],(fun h=>absurd rfl h),(fun p hp=>by cases hp)⟩,hb⟩
 ·obtain⟨b,o,c,rfl,_,hr,hg⟩:=hu.full hne
  exact lastOf_full f d eg cf hc h3 qs b o c w hr hg hlen hne
def kvQ (qs:List PP):List PR:=qs.flatMap fun p=>[p.1,p.2]
theorem kvQ_flat (qs:List PP):(kvQ qs).flatMap encP=qs.flatMap encQ:=by
 induction qs with
 | nil=>rfl
 | cons p qs ih=>
  show (p.1::p.2::kvQ qs).flatMap encP=_
  rw [List.flatMap_cons,List.flatMap_cons,List.flatMap_cons,ih,←List.append_assoc];rfl
theorem kvQ_len (qs:List PP):(kvQ qs).length=2*qs.length:=by
 induction qs with
 | nil=>rfl
 | cons p qs ih=>show (_::_::kvQ qs).length=_;simp only [List.length_cons,ih];omega
theorem kvQ_map (qs:List PP):(kvQ qs).map (·.1)=kvT (qs.map trT):=by
 induction qs with
 | nil=>rfl
 | cons p qs ih=>show p.1.1::p.2.1::(kvQ qs).map (·.1)=p.1.1::p.2.1::kvT (qs.map trT);rw [ih]
theorem kvQ_mem {qs:List PP} {x:PR} (h:x∈kvQ qs):∃p∈qs,x=p.1∨x=p.2:=by
 obtain⟨p,hp,hx⟩:=List.mem_flatMap.1 h
 refine⟨p,hp,?_⟩
 simpa using hx
theorem lastKey_any (d:Nat) (qs:List PP) (u:Value) (w:World) (hu:SlQ 0 d w qs u) (hlen:qs.length≤65536) :
 Calls Tryz.prog 42 #[u] w fun e w'=>∃v,e=.returned v∧SlP w.heap.size d w' (kvQ (kyd (cmpQ d) (qs.length+1) qs)) v∧Below w.heap.size w w':=by
 obtain⟨i0,hi,hz0,hz1,hz2⟩:=info24
 have Hi:Hid _:=hi;have Hz0:Hid _:=hz0;have Hz1:Hid _:=hz1;have Hz2:Hid _:=hz2
 clear hi hz0 hz1 hz2
 have HL:Hid _:=lastOf_any 69 d eg_keys (cmpQ d) (compareKeys_any d) (cmp3Q d) qs u w hu hlen
 have HRl:Hid ((kyd (cmpQ d) (qs.length+1) qs).length≤65536):=by show _≤_;have:=kyd_len (cmpQ d) (qs.length+1) qs;omega
 obtain⟨a,c,rfl,_⟩:=hu.slice
 clear hu
 generalize kyd (cmpQ d) (qs.length+1) qs=R at *
 generalize qs.length=L0 at *
 go_enter Tryz.func42,Tryz.ntmps42
 go_wp2_with fail
 refine Calls.mono HL.out ?_
 rintro e w1 ⟨v,rfl,hs,hb1⟩
 obtain⟨a1,c1,rfl,hc1⟩:=hs.slice
 have HS:Hid (SlQ w.heap.size d w1 R (.slice a1 R.length c1)):=hs
 have hL:=HRl.out
 have HGd:Hid (∀p∈R,GoodQ d w1 p):=hs.good
 obtain⟨B,hB⟩:∃B,B=w1.heap.size:=⟨_,rfl⟩
 have HB:Hid (B=w1.heap.size):=hB
 clear hs HL hB
 generalize hLL:R.length=L at *
 have HLL:Hid (R.length=L):=hLL
 clear hLL
 go_wp2_with fail
 go_loopg [9,3] L (fun z vj vo wr=>∃(j:Nat),vj=.int .i64 (j:Int)∧z=L-j∧j≤L∧Hid (wr.ownsRow B 27 4 vo (2*j) ((R.take j).flatMap encQ)∧Below B w1 wr))
 case atStart=>exact⟨0,rfl,rfl,Nat.zero_le _,by simp;exact World.ownsRow_nil _ _ _ _,Below.refl _ _⟩
 case round=>
  obtain⟨j,rfl,hk,hjL,HM⟩:=hrel
  have Hk:Hid _:=hk
  clear hk
  have hbw1:Below w1.heap.size w1 wr:=by have:=HM.out.2;rwa [HB.out] at this
  have hwl1:w1.heap.size≤wr.heap.size:=hbw1.size
  have hBs:B=w1.heap.size:=HB.out
  by_cases hjl:j<L
  ·have hji:(j:Int)<(L:Nat):=by omega
   have hjR:j<R.length:=by have:=HLL.out;omega
   obtain⟨b1,o1,c1',hv1,_,hq,_⟩:=HS.out.full (fun e=>by rw [e] at hjR;cases hjR)
   have ha1:a1=some ⟨b1,o1,none⟩:=by injection hv1
   subst ha1
   obtain⟨x,hxe⟩:∃x,x=R[j]:=⟨_,rfl⟩
   have Gx:GoodQ d w1 x:=HGd.out x (by rw [hxe];exact List.getElem_mem hjR)
   have Ex:=hq.at j hjR
   rw [←hxe] at Ex
   have Htk:Hid (R.take (j+1)=R.take j++[x]):=by show _=_;rw [hxe];exact (List.take_append_getElem hjR).symm
   obtain⟨⟨t1,tv1⟩,⟨t2,tv2⟩⟩:=x
   obtain⟨ta,tc,et1,_⟩:=Lies.slice Gx.1.1
   obtain⟨tb,td,et2,_⟩:=Lies.slice Gx.2.1
   simp only at et1 et2
   subst et1 et2
   obtain⟨p0,p1,p2,p3,p4,p5,p6,p7⟩:=Ex.keeps hbw1
   simp only at p0 p1 p2 p3 p4 p5 p6 p7
   have hgr:b1<wr.heap.size:=zae p0
   have Hown:Hid ((wr.alloc (.cells #[.int .i64 t1.kind,.int .i64 t1.num,.string t1.text,.slice ta t1.items.length tc,.int .i64 t2.kind,.int .i64 t2.num,.string t2.text,.slice tb t2.items.length td] 52)).ownsRow B 27 4 u3 (2*j) ((R.take j).flatMap encQ)):=HM.out.1.alloc _
   have HbW:Hid (Below B w1 (wr.alloc (.cells #[.int .i64 t1.kind,.int .i64 t1.num,.string t1.text,.slice ta t1.items.length tc,.int .i64 t2.kind,.int .i64 t2.num,.string t2.text,.slice tb t2.items.length td] 52))):=HM.out.2.alloc (by omega) _
   have HN:Hid (∀(v':Value) (W:World),W.ownsRow B 27 4 v' (2*j+2) ((R.take j).flatMap encQ++encQ (((t1,.slice ta t1.items.length tc),(t2,.slice tb t2.items.length td)):PP))→Below B w1 W→W.ownsRow B 27 4 v' (2*(j+1)) ((R.take (j+1)).flatMap encQ)∧Below B w1 W):=fun v' W k1 k2=>by
    refine⟨?_,k2⟩
    rw [Htk.out,List.flatMap_append,show 2*(j+1)=2*j+2 by omega]
    simpa using k1
   clear Ex hxe Gx HM hq hv1 Htk hjR
   go_wp2_with (first
    | (at_builtin;refine wpList_append_own _ rfl _ _ 22 rfl B 27 i0 (.agg #[.int .i64 0,.int .i64 0,.string ⟨#[]⟩,.slice none 0 0]) 4 56 Tryz.underlying22 Hi.out Hz0.out Hz1.out Hz2.out rfl (by decide) _ _ _ rfl (Hown.out.alloc _) ⟨wr.heap.size+1,0,none⟩ 2 2 [.int .i64 t1.kind,.int .i64 t1.num,.string t1.text,.slice ta t1.items.length tc,.int .i64 t2.kind,.int .i64 t2.num,.string t2.text,.slice tb t2.items.length td] rfl rfl (fun q u hq=>by match q,hq with|0,hq=>(simp at hq;subst hq;simp [Addr.add])|1,hq=>(simp at hq;subst hq;simp [Addr.add])|2,hq=>(simp at hq;subst hq;simp [Addr.add])|3,hq=>(simp at hq;subst hq;simp [Addr.add])|4,hq=>(simp at hq;subst hq;simp [Addr.add])|5,hq=>(simp at hq;subst hq;simp [Addr.add])|6,hq=>(simp at hq;subst hq;simp [Addr.add])|7,hq=>(simp at hq;subst hq;simp [Addr.add])|q+8,hq=>simp at hq) (fun u hu=>by simp at hu;rcases hu with rfl|rfl|rfl|rfl|rfl|rfl|rfl|rfl <;> rfl) (by unfold maxLen;omega) (by omega) (by simp;omega) ?_;intro v' w9 hown' hgrow _))
   have hb9:Below B w1 w9:=own_growM (HbW.out.alloc (by simp;omega) _) (by simp;omega) (Hown.out.alloc _) hgrow
   have HN3:Hid _:=HN.out v' w9 (by simpa [encQ,encP] using hown') hb9
   clear hown' hgrow Hown HN HbW p0 p1 p2 p3 p4 p5 p6 p7
   go_wp2_with fail
   go_roundg (L-(j+1))
   case measure=>have:=Hk.out;omega
   case rel=>exact⟨j+1,by go_num,rfl,by omega,HN3⟩
  ·obtain rfl:j=L:=by omega
   have hji : ¬(j:Int)<(j:Nat):=by omega
   have HE:Hid (SlP w.heap.size d wr (kvQ R) u3∧Below w.heap.size w wr):=by
    have hbr:Below w.heap.size w wr:=hb1.trans (hbw1.mono hb1.size)
    refine⟨?_,hbr⟩
    have hl:=HLL.out
    have h1:=HM.out.1
    rw [List.take_of_length_le (by omega),←kvQ_flat] at h1
    refine (SlP.of_own (d:=d) (by rw [kvQ_len,hl]) h1 (fun p hp=>?_) (by rw [kvQ_len];omega)).mono (by have:=hb1.size;omega)
    obtain⟨q,hq,rfl|rfl⟩:=kvQ_mem hp
    ·exact ((HGd.out q hq).keeps hbw1).1
    ·exact ((HGd.out q hq).keeps hbw1).2
   obtain⟨a6,c6,rfl,_⟩:=SlP.slice HE.out.1
   clear HM
   go_wp2_with fail
   go_ret
   exact⟨_,rfl,HE.out⟩
end Go.Proofs.YtcflooaoocngdaaGreat
