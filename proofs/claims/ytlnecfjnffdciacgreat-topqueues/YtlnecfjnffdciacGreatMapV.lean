import Derived.Test.YtlnecfjnffdciacGreatLastOf
import Derived.Test.YtlnecfjnffdciacGreatMapP
set_option maxRecDepth 100000
set_option maxHeartbeats 4000000
namespace Go.Proofs.YtlnecfjnffdciacGreat
open Go.RowKit
theorem checkPair_any (d:Nat) (t1 t2:VT) (ta tb:Option Addr) (tc td bx:Nat) (w:World) (h1:Lies d w t1.items (.slice ta t1.items.length tc)) (h2:Lies d w t2.items (.slice tb t2.items.length td)) (hs1:t1.text.size≤9223372036854775807) (hs2:t2.text.size≤9223372036854775807) (hbx:w.cell? ⟨bx,0,none⟩=some (.func (.func 41) #[] #[])) :
 Calls Tryz.prog 97 #[.agg #[.int .i64 t1.kind,.int .i64 t1.num,.string t1.text,.slice ta t1.items.length tc,.int .i64 t2.kind,.int .i64 t2.num,.string t2.text,.slice tb t2.items.length td],.pointer (some ⟨bx,0,none⟩)] w fun e w'=>e=.returned (.int .i64 (errOf (okP d (t1,t2))))∧Below w.heap.size w w':=by
 have H1:Hid (Lies d w t1.items (.slice ta t1.items.length tc)):=h1
 have H2:Hid (Lies d w t2.items (.slice tb t2.items.length td)):=h2
 have hlb:bx<w.heap.size:=zad hbx
 have hb0:Below w.heap.size w (w.alloc (.cells #[.int .i64 t1.kind,.int .i64 t1.num,.string t1.text,.slice ta t1.items.length tc,.int .i64 t2.kind,.int .i64 t2.num,.string t2.text,.slice tb t2.items.length td] 124)):=((Grew.refl w).alloc _).below
 clear h1 h2
 go_enter Tryz.func97,Tryz.ntmps97
 go_wp2_with fail
 refine (check_any d t1 _ _ (Lies.keeps hb0 _ _ _ H1.out) hs1).mono ?_
 rintro e w1 ⟨rfl,hg⟩
 have hb1:Below w.heap.size w w1:=hb0.trans (hg.mono hb0.size)
 have hbx1:=zaa hb1 hbx
 have c4:=zaa hg (show (w.alloc (.cells #[.int .i64 t1.kind,.int .i64 t1.num,.string t1.text,.slice ta t1.items.length tc,.int .i64 t2.kind,.int .i64 t2.num,.string t2.text,.slice tb t2.items.length td] 124)).cell? ⟨w.heap.size,4,none⟩=some (.int .i64 t2.kind) by simp)
 have c5:=zaa hg (show (w.alloc (.cells #[.int .i64 t1.kind,.int .i64 t1.num,.string t1.text,.slice ta t1.items.length tc,.int .i64 t2.kind,.int .i64 t2.num,.string t2.text,.slice tb t2.items.length td] 124)).cell? ⟨w.heap.size,5,none⟩=some (.int .i64 t2.num) by simp)
 have c6:=zaa hg (show (w.alloc (.cells #[.int .i64 t1.kind,.int .i64 t1.num,.string t1.text,.slice ta t1.items.length tc,.int .i64 t2.kind,.int .i64 t2.num,.string t2.text,.slice tb t2.items.length td] 124)).cell? ⟨w.heap.size,6,none⟩=some (.string t2.text) by simp)
 have c7:=zaa hg (show (w.alloc (.cells #[.int .i64 t1.kind,.int .i64 t1.num,.string t1.text,.slice ta t1.items.length tc,.int .i64 t2.kind,.int .i64 t2.num,.string t2.text,.slice tb t2.items.length td] 124)).cell? ⟨w.heap.size,7,none⟩=some (.slice tb t2.items.length td) by simp)
 clear hg hbx
 cases hx:zab d t1
 ·have he:errOf false=3:=rfl
  have hok:Hid (okP d (t1,t2)=false):=by show _=_;unfold okP;simp only;rw [hx];rfl
  rw [he]
  clear he
  go_wp2_with fail
  go_ret
  exact⟨by rw [hok.out];rfl,hb1⟩
 ·have he:errOf true=0:=rfl
  have hok:Hid (okP d (t1,t2)=zab d t2):=by show _=_;unfold okP;simp only;rw [hx];rfl
  rw [he]
  clear he
  go_wp2_with fail
  refine (check_any d t2 _ _ (Lies.keeps hb1 _ _ _ H2.out) hs2).mono ?_
  rintro e w2 ⟨rfl,hg⟩
  have hb2:Below w.heap.size w w2:=hb1.trans (hg.mono hb1.size)
  clear hg c4 c5 c6 c7 hbx1
  go_wp2_with fail
  go_ret
  exact⟨by rw [hok.out];rfl,hb2⟩
theorem checkAllQ_any (d:Nat) (qs:List PP) (u:Value) (bx:Nat) (w:World) (hu:SlQ 0 d w qs u) (hbx:w.cell? ⟨bx,0,none⟩=some (.func (.func 41) #[] #[])) :
 Calls Tryz.prog 96 #[u,.func (.func 97) #[] #[.pointer (some ⟨bx,0,none⟩)]] w fun e w'=>e=.returned (.int .i64 (pErr d (qs.map trT)))∧Below w.heap.size w w':=by
 obtain⟨a,c,rfl,hc0⟩:=hu.slice
 have HS:Hid (SlQ 0 d w qs (.slice a qs.length c)):=hu
 have hl63:qs.length≤9223372036854775807:=by obtain⟨_,_,_,_,h,_⟩:=hu;exact h
 have Hbx:Hid (w.cell? ⟨bx,0,none⟩=some (.func (.func 41) #[] #[])):=hbx
 clear hu hbx
 obtain⟨ts,hts⟩:∃ts,ts=qs.map trT:=⟨_,rfl⟩
 have Hts:Hid (ts=qs.map trT):=hts
 have Hlen:Hid (ts.length=qs.length):=by show _=_;rw [hts,List.length_map]
 rw [←hts]
 clear hts
 have HLL:Hid (qs.length=qs.length):=rfl
 generalize hL:qs.length=L at *
 have HqL:Hid (qs.length=L):=hL
 clear hL HLL
 by_cases hlong:65536<L
 ·have hlong':(65536:Int)<(L:Int):=by omega
  have Hfin:Hid (pErr d ts=2):=if_pos (by rw [Hlen.out];exact hlong)
  clear hlong
  go_enter Tryz.func96,Tryz.ntmps96
  go_wp2_with fail
  go_ret
  exact⟨zaf Hfin.out.symm,Below.refl _ _⟩
 ·have hlong' : ¬(65536:Int)<(L:Int):=by omega
  have Hfin:Hid (pErr d ts=if ts.all (okP d) then 0 else 3):=if_neg (by rw [Hlen.out];exact hlong)
  go_enter Tryz.func96,Tryz.ntmps96
  go_wp2_with fail
  go_loopg [13] L (fun z vi wr=>∃j:Nat,vi=.int .i64 (j:Int)∧j≤L∧z=L-j∧Hid (ts.all (okP d)=(ts.drop j).all (okP d))∧Below w.heap.size w wr)
  case atStart=>exact⟨0,rfl,by omega,by omega,rfl,Below.refl _ _⟩
  case round=>
   obtain⟨j,rfl,hj,hk,Hc,hbw⟩:=hrel
   have Hk:Hid _:=hk
   clear hk
   have hws:w.heap.size≤wr.heap.size:=hbw.size
   by_cases hjl:j<L
   ·have hji:(j:Int)<(L:Nat):=by omega
    have hjR:j<qs.length:=by have:=HqL.out;omega
    have hjT:j<ts.length:=by have:=Hlen.out;omega
    have hg0:=HS.out
    rw [←HqL.out] at hg0
    obtain⟨b1,o1,c1',hv1,_,hq,_⟩:=hg0.full (fun e=>by rw [e] at hjR;cases hjR)
    have ha1:a=some ⟨b1,o1,none⟩:=by injection hv1
    subst ha1
    obtain⟨x,hxe⟩:∃x,x=qs[j]:=⟨_,rfl⟩
    have Gx:GoodQ d w x:=hg0.good x (by rw [hxe];exact List.getElem_mem hjR)
    have Ex:=hq.at j hjR
    rw [←hxe] at Ex
    have hte:ts[j]=trT x:=by rw [hxe];simp [Hts.out]
    obtain⟨⟨t1,tv1⟩,⟨t2,tv2⟩⟩:=x
    obtain⟨ta,tc,et1,_⟩:=Lies.slice Gx.1.1
    obtain⟨tb,td,et2,_⟩:=Lies.slice Gx.2.1
    simp only at et1 et2
    subst et1 et2
    have hte2:ts[j]=(t1,t2):=hte
    have Hd:Hid (ts.drop j=(t1,t2)::ts.drop (j+1)):=by show _=_;rw [List.drop_eq_getElem_cons hjT,hte2]
    obtain⟨p0,p1,p2,p3,p4,p5,p6,p7⟩:=Ex.keeps hbw
    simp only at p0 p1 p2 p3 p4 p5 p6 p7
    have hgr:b1<wr.heap.size:=zad p0
    have hbA:Below w.heap.size w (wr.alloc (.cells #[.int .i64 t1.kind,.int .i64 t1.num,.string t1.text,.slice ta t1.items.length tc,.int .i64 t2.kind,.int .i64 t2.num,.string t2.text,.slice tb t2.items.length td] 124)):=hbw.alloc hws _
    have HCk:Hid _:=checkPair_any d t1 t2 ta tb tc td bx (wr.alloc (.cells #[.int .i64 t1.kind,.int .i64 t1.num,.string t1.text,.slice ta t1.items.length tc,.int .i64 t2.kind,.int .i64 t2.num,.string t2.text,.slice tb t2.items.length td] 124)) (Lies.keeps hbA _ _ _ Gx.1.1) (Lies.keeps hbA _ _ _ Gx.2.1) Gx.1.2 Gx.2.2 (zaa hbA Hbx.out)
    clear hte2
    clear Ex hxe Gx hq hv1 hg0
    clear hte
    clear hjR hjT
    go_wp2_with fail
    refine Calls.mono HCk.out ?_
    rintro e w1 ⟨rfl,hg⟩
    have hb2:Below w.heap.size w w1:=hbA.trans (hg.mono hbA.size)
    clear hg p0 p1 p2 p3 p4 p5 p6 p7 HCk hbA
    cases hx:okP d (t1,t2)
    ·have he:errOf false=3:=rfl
     rw [he]
     clear he
     go_wp2_with fail
     go_ret
     exact⟨zaf (by rw [Hfin.out,Hc.out,Hd.out,List.all_cons,hx];rfl),hb2⟩
    ·have he:errOf true=0:=rfl
     rw [he]
     clear he
     go_wp2_with fail
     go_roundg (L-(j+1))
     case measure=>have:=Hk.out;omega
     case rel=>
      refine⟨j+1,by go_num,by omega,rfl,?_,hb2⟩
      show _=_
      rw [Hc.out,Hd.out,List.all_cons,hx];rfl
   ·have hji : ¬(j:Int)<(L:Nat):=by omega
    have Hd:Hid (ts.all (okP d)=true):=by
     show _=_
     rw [Hc.out,List.drop_eq_nil_of_le (by rw [Hlen.out];omega)];rfl
    clear Hc
    go_wp2_with fail
    go_ret
    exact⟨zaf (by rw [Hfin.out,Hd.out];rfl),hbw⟩
theorem checkPairs_any (d:Nat) (qs:List PP) (u:Value) (w:World) (hu:SlQ 0 d w qs u) :
 Calls Tryz.prog 57 #[u,.func (.func 41) #[] #[]] w fun e w'=>e=.returned (.int .i64 (pErr d (qs.map trT)))∧Below w.heap.size w w':=by
 have hb0:∀o,Below w.heap.size w (w.alloc o):=fun o=>((Grew.refl w).alloc o).below
 have HC:Hid (∀W,Below w.heap.size w W→W.cell? ⟨w.heap.size,0,none⟩=some (.func (.func 41) #[] #[])→Calls Tryz.prog 96 #[u,.func (.func 97) #[] #[.pointer (some ⟨w.heap.size,0,none⟩)]] W fun e w'=>e=.returned (.int .i64 (pErr d (qs.map trT)))∧Below W.heap.size W w'):=fun W h1 h2=>checkAllQ_any d qs u w.heap.size W (hu.keeps h1) h2
 have Hb:Hid (∀o,Below w.heap.size w (w.alloc o)):=hb0
 obtain⟨a,c,rfl,hc0⟩:=hu.slice
 clear hu hb0
 generalize pErr d (qs.map trT)=E at *
 generalize qs.length=L at *
 go_enter Tryz.func57,Tryz.ntmps57
 go_wp2_with fail
 refine (HC.out _ (Hb.out _) (by simp)).mono ?_
 rintro e w1 ⟨rfl,hg⟩
 have hb1:Below w.heap.size w w1:=(Hb.out _).trans (hg.mono (Hb.out _).size)
 clear hg
 go_wp2_with fail
 go_ret
 exact⟨rfl,hb1⟩
theorem lastOf_none (f:Nat) (a:Option Addr) (c:Nat) (w:World) :
 Calls Tryz.prog 98 #[.slice a 0 c,.func (.func f) #[] #[]] w fun e w'=>e=.returned (.slice none 0 0)∧Below w.heap.size w w':=by
 go_enter Tryz.func98,Tryz.ntmps98
 go_wp2_with fail
 refine (cloneQ_none a c _).mono ?_
 rintro e w1 ⟨a',c',rfl,hb1⟩
 go_wp2_with fail
 refine (sortStable_none f a' c' _).mono ?_
 rintro e w2 ⟨rfl,rfl⟩
 go_wp2_with fail
 go_loopg [16,6] 0 (fun z vj vo wr=>vj=.int .i64 0∧vo=.slice none 0 0∧z=0∧wr=w2)
 case atStart=>exact⟨rfl,rfl,rfl,rfl⟩
 case round=>
  obtain⟨rfl,rfl,rfl,rfl⟩:=hrel
  go_wp2_with fail
  go_ret
  exact⟨rfl,hb1⟩
theorem lastOf_any (f d:Nat) (eg:∀args w,(callFunc f args).run Tryz.prog w=.ok (.enter f args) w) (cf:PP→PP→Int) (hc:CmpQ f (GoodQ d) cf) (h3:Cmp3 cf) (qs:List PP) (u:Value) (w:World) (hu:SlQ 0 d w qs u) (hlen:qs.length≤65536) :
 Calls Tryz.prog 98 #[u,.func (.func f) #[] #[]] w fun e w'=>∃v,e=.returned v∧SlQ w.heap.size d w' (kyd cf (qs.length+1) qs) v∧Below w.heap.size w w':=by
 by_cases hne:qs=[]
 ·subst hne
  obtain⟨a,c,rfl,_⟩:=hu.slice
  refine (lastOf_none f a c w).mono ?_
  rintro e w' ⟨rfl,hb⟩
  exact⟨_,rfl,⟨none,0,rfl,by simp [kyd],by simp [kyd],(fun h=>absurd rfl h),(fun p hp=>by cases hp)⟩,hb⟩
 ·obtain⟨b,o,c,rfl,_,hr,hg⟩:=hu.full hne
  exact lastOf_full f d eg cf hc h3 qs b o c w hr hg hlen hne
end Go.Proofs.YtlnecfjnffdciacGreat
