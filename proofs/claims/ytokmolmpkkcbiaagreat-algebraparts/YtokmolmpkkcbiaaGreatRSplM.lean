import Derived.Test.YtokmolmpkkcbiaaGreatSplF
import Derived.BigQuiet
set_option maxRecDepth 100000
set_option maxHeartbeats 8000000
namespace Go.Proofs.YtokmolmpkkcbiaaGreat
open Go.RowKit
theorem rasked25_any (d:Nat) (q:Int) (l:List VT) (v:Value) (w:World) (hv:Lies (d+1) w l v) :
 Calls Tryz.prog 19 #[.int .i64 q,v] w fun e w'=>e=.returned (.int .i64 (askE d q l))∧Below w.heap.size w w':=by
 obtain⟨a,c,rfl,_⟩:=Lies.slice hv
 have HC:Hid (Calls Tryz.prog 13 #[.slice a l.length c] w fun e w'=>e=.returned (.int .i64 (zae d l))∧Below w.heap.size w w'):=listed_any d l _ w hv
 have HK:Hid (∀W,Calls Tryz.prog 35 #[.int .i64 q] W fun e w'=>e=.returned (.bool (k5B q))∧w'=W):=fun W=>rkind5_any q W
 generalize hE:askE d q l=E
 have HE:Hid (askE d q l=E):=hE
 clear hE hv
 unfold askE at HE
 generalize l.length=ll at *
 go_enter Tryz.func19,Tryz.ntmps19
 go_wp2_with fail
 refine Calls.mono (HK.out _) ?_
 rintro e w9 ⟨rfl,hw9⟩
 obtain rfl:w=w9:=hw9.symm
 by_cases hq:q<0∨8≤q
 ·rw [k5B_false (by omega)]
  rw [if_pos hq] at HE
  clear hq HK HC
  go_wp2_with fail
  go_ret
  exact⟨by rw [←HE.out];rfl,Below.refl _ _⟩
 ·rw [k5B_true (by omega) (by omega)]
  rw [if_neg hq] at HE
  clear hq HK
  go_wp2_with fail
  refine Calls.mono HC.out ?_
  rintro e w5 ⟨rfl,hb5⟩
  clear HC
  go_wp2_with fail
  go_ret
  exact⟨by rw [←HE.out];rfl,hb5⟩
theorem rsplit_any (d:Nat) (q:Int) (l:List VT) (v:Value) (w:World) (hv:Lies (d+1) w l v) :
 Calls Tryz.prog 7 #[.int .i64 q,v] w (SpPost (spl1 d q l) (spl2 d q l) (askE d q l) w):=by
 obtain⟨a,c,rfl,hcl⟩:=Lies.slice hv
 have HC:Hid (Calls Tryz.prog 19 #[.int .i64 q,.slice a l.length c] w fun e w'=>e=.returned (.int .i64 (askE d q l))∧Below w.heap.size w w'):=rasked25_any d q l _ w hv
 have HV:Hid (Lies (d+1) w l (.slice a l.length c)):=hv
 obtain⟨ll,hll⟩:∃ll,ll=l.length:=⟨_,rfl⟩
 have Hll:Hid (ll=l.length):=hll
 rw [←hll] at HC HV hcl ⊢
 clear hv hll
 generalize hP:SpPost (spl1 d q l) (spl2 d q l) (askE d q l) w=PP
 have HP:Hid (SpPost (spl1 d q l) (spl2 d q l) (askE d q l) w=PP):=hP
 clear hP
 go_enter Tryz.func7,Tryz.ntmps7
 go_wp2_with fail
 refine Calls.mono HC.out ?_
 rintro e w1 ⟨rfl,hw1⟩
 clear HC
 by_cases hE:askE d q l=0
 ·have hq : ¬(q<0∨8≤q):=fun h=>by unfold askE at hE;rw [if_pos h] at hE;omega
  have hle:zae d l=0:=by unfold askE at hE;rwa [if_neg hq] at hE
  have hcan:=canonL25 HV.out hle
  obtain⟨Q,hQ,hQ8⟩:∃Q:Nat,q=Q∧Q<8:=⟨q.toNat,by omega,by omega⟩
  have e3:spl1 d q l=l.take (splN Q l):=by unfold spl1;rw [if_pos hE,hQ];simp
  have e4:spl2 d q l=l.drop (splN Q l):=by unfold spl2;rw [if_pos hE,hQ];simp
  rw [e3,e4,hE] at HP
  rw [hE]
  subst hQ
  have HL:Hid (Lies 17 w l (.slice a ll c)∧l.length≤65536∧∀x∈l,zab 16 x=true):=⟨hcan.1,hcan.2.1,fun x hx=>(hcan.2.2 x hx).1⟩
  have hn6:ll≤65536:=by have:=hcan.2.1;have:=Hll.out;omega
  have hlc:ll≤c:=by
   obtain⟨_,_,hv',hb',_⟩:=hcan.1
   injection hv' with _ _ e9
   have:=Hll.out
   omega
  have HFin:Hid (∀W sN,Below w.heap.size w W→sN=splN Q l→∀a' c',(Lies 17 W (l.drop sN) (.slice a' (ll-sN) c'))→SpPost (l.take (splN Q l)) (l.drop (splN Q l)) 0 w (.returned (.tuple #[.slice a sN sN,.slice a' (ll-sN) c',.int .i64 0])) W):=fun W sN hW hs a' c' hd=>by
   have hsl:sN≤l.length:=by rw [hs];exact splN_le Q l
   have hcut:=lies_cut (D:=16) (by rw [←Hll.out];exact Lies.keeps hW _ _ _ HL.out.1) sN hsl
   refine⟨_,_,rfl,?_,by rw [←hs];exact hd,hW⟩
   rw [←hs]
   obtain⟨a9,c9,hv9,hb9,hr9⟩:=hcut.1
   injection hv9 with e7 e8 e9
   refine⟨a9,sN,by rw [e7,←e8],?_,hr9⟩
   rw [List.length_take,Nat.min_eq_left hsl]
   exact⟨Nat.le_refl _,by omega⟩
  clear e3 e4 hE hcan hle HV hq
  go_wp2_with fail
  go_loopg [8] ll (fun z v8 wr=>∃j:Nat,v8=.int .i64 (j:Int)∧z=ll-j∧j≤ll∧Hid ((∀i (hi:i<l.length),i<j→qB Q l[i]=true)∧Below w.heap.size w wr))
  case atStart=>exact⟨0,rfl,by omega,by omega,fun i hi h=>by omega,hw1⟩
  case round=>
   obtain⟨j,rfl,hgk,hj,HI⟩:=hrel
   have Hgk:Hid (gk=ll-j):=hgk
   clear hgk
   by_cases hlt:j<ll
   ·have hji:(j:Int)<(ll:Int):=by omega
    have hjl:j<l.length:=by have:=Hll.out;omega
    obtain⟨al',cl',he,_,hrow⟩:=HL.out.1
    injection he with e1 e2 e3
    subst e1 e3
    clear e2
    obtain⟨b1,o1,rfl,hall⟩:=hrow (by intro e;rw [e] at hjl;simp at hjl)
    obtain⟨ux,p0,p1,p2,p3,p4,_⟩:=hall j hjl
    clear hall hrow
    obtain⟨ax,cx,rfl,_⟩:=Lies.slice p4
    have hbw:=HI.out.2
    have hk:=right_kinds (HL.out.2.2 _ (List.getElem_mem hjl))
    have HA:Hid (Calls Tryz.prog 20 #[.int .i64 (Q:Int),.agg #[.int .i64 l[j].kind,.int .i64 l[j].num,.string l[j].text,.slice ax l[j].items.length cx]] wr (QPost (qB Q l[j]) wr)):=rasked_any Q hQ8 l[j] ax _ cx wr hk.1 hk.2
    replace p0:=zaa hbw p0;replace p1:=zaa hbw p1;replace p2:=zaa hbw p2;replace p3:=zaa hbw p3
    have HQ:Hid (qB Q l[j]=false→splN Q l=j):=fun h=>splN_yes Q l j hjl HI.out.1 h
    have HQ2:Hid (qB Q l[j]=true→∀i (hi:i<l.length),i<j+1→qB Q l[i]=true):=fun h i hi hij=>by
     by_cases e:i=j
     ·subst e;exact h
     ·exact HI.out.1 i hi (by omega)
    clear p4 HI hk
    generalize l[j]=x at *
    generalize x.items.length=xl at *
    go_wp2_with fail
    refine Calls.mono HA.out ?_
    rintro e w4 ⟨rfl,hb4⟩
    have hb5:Below w.heap.size w w4:=hbw.trans (hb4.mono hbw.size)
    clear hb4 hbw HA p0 p1 p2 p3
    cases hqb:qB Q x
    ·have hs:=HQ.out hqb
     have HD:Hid (∀q9,SpPost (l.take (splN Q l)) (l.drop (splN Q l)) 0 w (.returned (.tuple #[.slice (some ⟨b1,o1,none⟩) j j,.slice (some ⟨b1,o1+j*4,none⟩) (ll-j) (c-j),.int .i64 0])) (w4.drewN q9)):=fun q9=>by
      have hb6:Below w.heap.size w (w4.drewN q9):=⟨hb5.os,hb5.tape,hb5.output,hb5.size,hb5.block⟩
      refine HFin.out (w4.drewN q9) j hb6 hs.symm _ _ ?_
      have hcut:=lies_cut (D:=16) (by rw [←Hll.out];exact Lies.keeps hb6 _ _ _ HL.out.1) j (by omega)
      have h9:=hcut.2.1 b1 o1 rfl (by omega)
      rw [←Hll.out] at h9
      exact h9
     have f1:(j:Int)≤(c:Int):=by omega
     have f2:(j:Int)≤(ll:Int):=by omega
     have f3:j≤c:=by omega
     have f4 : ¬c=j:=by omega
     have f5 : ¬(c:Int)=(j:Int):=by omega
     have f6:(ll:Int)≤(c:Int):=by omega
     clear HQ HQ2 hs HFin HL
     go_wp2_with fail
     go_quiet (fail)
     go_wp2_with fail
     refine bodyPost_ret (v:=.tuple #[.slice (some ⟨b1,o1,none⟩) j j,.slice (some ⟨b1,o1+j*4,none⟩) (ll-j) (c-j),.int .i64 0]) ?_ rfl (by rw [←HP.out];exact HD.out _)
     simp [results,Tryz.results7,go_sem]
    ·have HN2:Hid (∀i (hi:i<l.length),i<j+1→qB Q l[i]=true):=HQ2.out hqb
     clear HQ HQ2
     go_wp2_with fail
     go_roundg (ll-(j+1))
     case measure=>have:=Hgk.out;omega
     case rel=>exact⟨j+1,by go_num,rfl,by omega,HN2.out,hb5⟩
   ·have ej:j=ll:=by omega
    subst ej
    have hs:splN Q l=j:=by rw [Hll.out];exact splN_all Q l (fun i hi=>HI.out.1 i hi (by have:=Hll.out;omega))
    have hb5:=HI.out.2
    have HD:Hid (∀q9 a' c',SpPost (l.take (splN Q l)) (l.drop (splN Q l)) 0 w (.returned (.tuple #[.slice a j j,.slice a' 0 c',.int .i64 0])) (wr.drewN q9)):=fun q9 a' c'=>by
     have hb6:Below w.heap.size w (wr.drewN q9):=⟨hb5.os,hb5.tape,hb5.output,hb5.size,hb5.block⟩
     have hcut:=lies_cut (D:=16) (by rw [←Hll.out];exact Lies.keeps hb6 _ _ _ HL.out.1) j (by have:=Hll.out;omega)
     have h9:=HFin.out (wr.drewN q9) j hb6 hs.symm a' c' (by rw [Nat.sub_self];exact hcut.2.2 Hll.out a' c')
     rw [Nat.sub_self] at h9
     exact h9
    have f6:(j:Int)≤(c:Int):=by omega
    clear HI hs HFin hb5
    have HSome:Hid (0<j→∃b1 o1,a=some ⟨b1,o1,none⟩):=fun h0=>by
     obtain⟨a',c',hv',_,hr'⟩:=HL.out.1
     injection hv' with e9 _ _
     obtain⟨b,o,ha,_⟩:=hr' (fun e=>by have:=Hll.out;rw [e] at this;simp at this;omega)
     exact⟨b,o,by rw [e9,ha]⟩
    have hjj : ¬(j:Int)<(j:Int):=by omega
    by_cases hcs:c=j
    ·subst hcs
     clear HL
     go_wp2_with fail
     go_quiet (fail)
     go_wp2_with fail
     refine bodyPost_ret (v:=.tuple #[.slice a c c,.slice a 0 0,.int .i64 0]) ?_ rfl (by rw [←HP.out];exact HD.out _ _ _)
     simp [results,Tryz.results7,go_sem]
    ·by_cases h0:j=0
     ·subst h0
      have f5 : ¬(c:Int)=0:=by omega
      cases a with
      | none=>
       clear HL
       go_wp2_with fail
       go_quiet (fail)
       go_wp2_with fail
       refine bodyPost_ret (v:=.tuple #[.slice none 0 0,.slice none 0 c,.int .i64 0]) ?_ rfl (by rw [←HP.out];exact HD.out _ _ _)
       simp [results,Tryz.results7,go_sem]
      | some ad=>
       clear HL
       go_wp2_with fail
       go_quiet (fail)
       go_wp2_with fail
       refine bodyPost_ret (v:=.tuple #[.slice (some ad) 0 0,.slice (some ad) 0 c,.int .i64 0]) ?_ rfl (by rw [←HP.out];exact HD.out _ _ _)
       simp [results,Tryz.results7,go_sem]
     ·obtain⟨b1,o1,rfl⟩:=HSome.out (by omega)
      have f3:j≤c:=by omega
      have f5 : ¬(c:Int)=(j:Int):=by omega
      clear HL
      go_wp2_with fail
      go_quiet (fail)
      go_wp2_with fail
      refine bodyPost_ret (v:=.tuple #[.slice (some ⟨b1,o1,none⟩) j j,.slice (some ⟨b1,o1+j*4,none⟩) 0 (c-j),.int .i64 0]) ?_ rfl (by rw [←HP.out];exact HD.out _ _ _)
      simp [results,Tryz.results7,go_sem]
 ·have e3:spl1 d q l=[]:=by unfold spl1;rw [if_neg hE]
  have e4:spl2 d q l=[]:=by unfold spl2;rw [if_neg hE]
  rw [e3,e4] at HP
  clear e3 e4 HV
  generalize askE d q l=E at *
  go_wp2_with fail
  refine bodyPost_ret (v:=.tuple #[.slice none 0 0,.slice none 0 0,.int .i64 E]) ?_ rfl (by rw [←HP.out];exact⟨_,_,rfl,(zag (fun _=>True) 17 _ none 0).lies,(zag (fun _=>True) 17 _ none 0).lies,hw1⟩)
  simp [results,Tryz.results7,go_sem]
end Go.Proofs.YtokmolmpkkcbiaaGreat
