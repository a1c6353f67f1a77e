import Derived.Test.YtcflooaoocngdaaGreatDstM
import Derived.Test.YtcflooaoocngdaaGreatPrtN
namespace Go.Proofs.YtcflooaoocngdaaGreat
open Go.RowKit
structure SrcA (w:World) (aa:Option Addr) (m:Nat) (news:List Value):Prop where
 none:aa=none→m=0
 len:news.length=m*4
 cell:∀ad,aa=some ad→∀j u,news[j]? = some u→w.cell? (ad.add j)=some u
 one:∀u∈news,u.oneCell'=true
theorem SrcA.keeps {w w':World} (hb:Below w.heap.size w w') {aa:Option Addr} {m:Nat} {news:List Value} (h:SrcA w aa m news):SrcA w' aa m news:=
 ⟨h.none,h.len,fun ad e j u hu=>zaa hb (h.cell ad e j u hu),h.one⟩
theorem SlP.srcA {base d:Nat} {w:World} {ps:List (VT×Value)} {a:Option Addr} {n c:Nat} (h:SlP base d w ps (.slice a n c)):SrcA w a n (ps.flatMap encP)∧n=ps.length:=by
 obtain⟨a',c',hv,hc,hl,hrow,hs⟩:=h
 injection hv with h1 h2 h3
 subst h1 h2 h3
 refine⟨⟨fun e=>?_,flat_len ps,fun ad e j u hu=>?_,fun u hu=>?_⟩,rfl⟩
 ·by_cases hne:ps=[]
  ·rw [hne];rfl
  ·obtain⟨b,o,ha,_⟩:=hrow hne
   rw [e] at ha;cases ha
 ·have hne:ps≠[]:=by intro e2;rw [e2] at hu;simp at hu
  obtain⟨b,o,ha,_,hr⟩:=hrow hne
  rw [e] at ha
  injection ha with ha
  subst ha
  rw [add_addr5]
  exact hr.flat j u hu
 ·obtain⟨p,hp,hu⟩:=List.mem_flatMap.1 hu
  exact encP_one (hs p hp) u hu
structure AllI (W1:World) (L:List VT) (v:Value) (wr:World):Prop where
 ex:∃ps:List PR,ps.map (·.1)=L∧wr.ownsRow W1.heap.size 27 4 v L.length (ps.flatMap encP)∧∀p∈ps,Sound 16 W1 p
 below:Below W1.heap.size W1 wr
theorem AllI.start (W1:World):AllI W1 [] (.slice none 0 0) W1:=⟨⟨[],rfl,World.ownsRow_nil _ _ _ _,fun p hp=>by cases hp⟩,Below.refl _ _⟩
theorem AllI.keeps {W1 wr w':World} {L:List VT} {v:Value} (h:AllI W1 L v wr) (hb:Below wr.heap.size wr w'):AllI W1 L v w':=by
 obtain⟨ps,h1,h2,h3⟩:=h.ex
 exact⟨⟨ps,h1,own_keepsG h2 hb,h3⟩,h.below.trans (hb.mono h.below.size)⟩
theorem AllI.lies {W1 wr:World} {L:List VT} {v:Value} (h:AllI W1 L v wr) (hl:L.length≤65536):Lies 17 wr L v:=by
 obtain⟨ps,h1,h2,h3⟩:=h.ex
 have e:L.length=ps.length:=by rw [←h1,List.length_map]
 have h4:=own_lies (d:=16) e h2 (fun p hp=>(h3 p hp).keeps h.below) (by omega)
 rwa [h1] at h4
theorem AllI.append {W1 wr:World} {ops:Array Oper} {rest:List Oper} {o:Oper} {a:Act} {Q:Exit→Act→World→Prop} (hgd:o.guard=none) (s x:Operand)
 (ho:o.op=.call { callee:=.builtin .append,args:=#[s,x],argTypes:=#[22,22] }) {L M:List VT} {v:Value} (h:AllI W1 L v wr) (hs:a.eval s=v) {aa:Option Addr} {c:Nat} {m:Nat} (hx:a.eval x=.slice aa m c) (hm:m=M.length) (hM:Lies 17 W1 M (.slice aa m c)) (hl:L.length+M.length≤65536)
 (hk:∀v' w',AllI W1 (L++M) v' w'→wpList Tryz.prog ops Q rest (a.put o.dst v') w'):wpList Tryz.prog ops Q (o::rest) a wr:=by
 subst hm
 obtain⟨ps,h1,h2,h3⟩:=h.ex
 obtain⟨qs,q1,q2,q3⟩:=SlP.of_lies hM
 have hsrc:=q3.srcA.1.keeps h.below
 obtain⟨i0,hi,hz0,hz1,hz2⟩:=info24
 refine wpList_append_row hgd s x ho W1.heap.size i0 hi hz0 hz1 hz2 v L.length _ hs h2 aa M.length c _ hx hsrc.none hsrc.len hsrc.cell hsrc.one (by unfold maxLen;omega) (by omega) h.below.size (fun v' w' k1 k2=>hk v' w' ⟨⟨ps++qs,by rw [List.map_append,h1,q1],?_,fun p hp=>?_⟩,own_growM h.below h.below.size h2 k2⟩)
 ·rw [List.length_append,List.flatMap_append];exact k1
 ·rcases List.mem_append.1 hp with hp|hp
  ·exact h3 p hp
  ·obtain⟨_,_,_,_,_,_,hq⟩:=q3
   exact hq p hp
theorem prt_flat {S:Nat} (l:List VT) (k:Nat) (hk:k≤nCk S l.length):((prt S l).take k).flatMap (·.items)=l.take (k*S):=by
 induction k with
 | zero=>simp
 | succ k ih=>
  rw [prt_take_succ S l k (by omega),List.flatMap_append,ih (by omega)]
  have:(k+1)*S=k*S+S:=by rw [Nat.add_mul,Nat.one_mul]
  rw [this,List.take_add]
  simp [prtAt,listT]
theorem prt_whole {S:Nat} (hS:1≤S) (l:List VT):(prt S l).flatMap (·.items)=l:=by
 have h:=prt_flat (S:=S) l (nCk S l.length) (Nat.le_refl _)
 rw [prt_all S l _ (Nat.le_refl _)] at h
 rw [h]
 refine List.take_of_length_le ?_
 rcases Nat.lt_or_ge (nCk S l.length*S) l.length with hlt|hge
 ·exact absurd ((nCk_lt hS).2 hlt) (Nat.lt_irrefl _)
 ·exact hge
theorem prt_part {S:Nat} (l:List VT) (k:Nat) (hk:k<(prt S l).length):((prt S l).take k).flatMap (·.items)++(prt S l)[k].items=((prt S l).take (k+1)).flatMap (·.items)∧(((prt S l).take (k+1)).flatMap (·.items)).length≤l.length:=by
 constructor
 ·rw [List.take_succ_eq_append_getElem hk,List.flatMap_append]
  simp
 ·rw [prt_length] at hk
  rw [prt_flat l (k+1) hk,List.length_take]
  omega
open Go.Shelf
theorem prtE_zero {d:Nat} {n:Int} {l:List VT} (h:prtE d n l=0):1≤n.toNat∧zad d l=0∧prtL d n l=prt n.toNat l:=by
 refine⟨?_,?_,by unfold prtL;rw [if_pos h]⟩
 ·unfold prtE at h
  split at h
  ·cases h
  ·omega
 ·unfold prtE at h
  split at h
  ·cases h
  ·split at h
   ·exact h
   ·rename_i h2;exact Decidable.not_not.1 h2
theorem askE_zero {d:Nat} {q:Int} {l:List VT} (h:askE d q l=0):zad d l=0∧spl1 d q l++spl2 d q l=l:=by
 constructor
 ·unfold askE at h
  split at h
  ·cases h
  ·exact h
 ·unfold spl1 spl2
  rw [if_pos h,if_pos h,List.take_append_drop]
structure CtW (l:List VT) (C:VT) (R:Nat) (SM:Nat→Nat):Prop where
 len:C.items.length=2*R
 right:zab 17 C=true
 text:C.text.size≤9223372036854775807
 zero:SM 0=0
 all:SM R=l.length
 up:∀k,k<R→SM k≤SM (k+1)∧SM (k+1)≤65536
 num:∀k (_:k<R) (h:2*k+1<C.items.length),C.items[2*k+1].num=((SM (k+1)-SM k:Nat):Int)
theorem ctW_of {l:List VT} {gs:List (List Nat)} (h:Alk l gs) (hl:l.length≤65536) (he:(mapA 16 (cntTs (zaf l gs))).2=0):CtW l (mapA 16 (cntTs (zaf l gs))).1 gs.length (sumR (zaf l gs)):=by
 obtain⟨h1,h2⟩:=cnt_told h he
 have hR:(zaf l gs).length=gs.length:=by unfold zaf;rw [List.length_map]
 have hT:(cntTs (zaf l gs)).length=gs.length:=by unfold cntTs;rw [List.length_map,hR]
 refine⟨?_,h2,by rw [h1];show (0:Nat)≤_;omega,rfl,by rw [←hR];exact sumR_all h,fun k hk=>?_,fun k hk hlt=>?_⟩
 ·rw [h1]
  show (kvT _).length=_
  rw [kvT_len,hT]
 ·constructor
  ·rw [sumR_succ _ k (by omega)];omega
  ·have:=sumR_le (rs:=zaf l gs) (k+1)
   rw [sumR_all h] at this
   omega
 ·rw [sumR_succ _ k (by omega)]
  have h3:=(kvT_get (cntTs (zaf l gs)) k (by omega)).2
  have h4:(mapA 16 (cntTs (zaf l gs))).1.items[2*k+1]? = some (cntTs (zaf l gs))[k].2:=by rw [h1];exact h3
  rw [List.getElem?_eq_getElem hlt] at h4
  injection h4 with h4
  rw [h4]
  have e:(cntTs (zaf l gs))[k]=((zaf l gs)[k].1,intT ((zaf l gs)[k].2:Int)):=by simp [cntTs]
  rw [e]
  show ((zaf l gs)[k].2:Int)=_
  omega
theorem alk_same {l:List VT} {gs gs':List (List Nat)} (hg:∀x∈l,Good 16 x) (h:Alk l gs) (h':Alk l gs'):gs.length=gs'.length:=by
 have e:=runs_one hg (alk_rl h) (alk_rl h') (alk_perm h hg) (alk_perm h' hg) (alk_up h hg) (alk_up h' hg)
 have e2:=congrArg List.length e
 unfold zaf at e2
 rwa [List.length_map,List.length_map] at e2
set_option maxRecDepth 100000 in
set_option maxHeartbeats 16000000 in
theorem whole_walk (n q:Int) (d:Nat) (l:List VT) (a:Option Addr) (cp:Nat) (w:World) (hl:Lies (d+1) w l (.slice a l.length cp)):Calls Tryz.prog 3 #[.int .i64 n,.int .i64 q,.slice a l.length cp] w fun e w'=>e=.returned (.bool true)∧Below w.heap.size w w':=by
 have HSp:Hid (∀V,Calls Tryz.prog 9 #[] V fun e w'=>e=.returned (.bool true)∧Below V.heap.size V w'):=speaks25_any
 have H1:Hid (Calls Tryz.prog 4 #[.int .i64 n,.slice a l.length cp] w (PtPost (prtL d n l) (prtE d n l) w)):=partsF_any d n l _ w hl
 have H2:Hid (∀V,Below w.heap.size w V→Calls Tryz.prog 6 #[.int .i64 q,.slice a l.length cp] V (SpPost (spl1 d q l) (spl2 d q l) (askE d q l) V)):=fun V hV=>splitF_any d q l _ V (Lies.keeps hV _ _ _ hl)
 have H3:Hid (∀V,Below w.heap.size w V→Calls Tryz.prog 7 #[.slice a l.length cp] V (CntPost d l V)):=fun V hV=>counts_any d l _ V (Lies.keeps hV _ _ _ hl)
 have H4:Hid (∀V,Below w.heap.size w V→Calls Tryz.prog 8 #[.slice a l.length cp] V (DstPost d l V)):=fun V hV=>distinct_any d l _ V (Lies.keeps hV _ _ _ hl)
 have HV:Hid (∀V u,zad d l=0→Below w.heap.size w V→Lies 17 V l u→Calls Tryz.prog 5 #[u,.slice a l.length cp] V fun e w'=>e=.returned (.bool true)∧Below V.heap.size V w'):=fun V u hE hV hu=>values_all 16 l _ _ V hu (Lies.keeps hV _ _ _ (canonL25 hl hE).1)
 have HC:Hid (zad d l=0→l.length≤65536∧∀x∈l,Good 16 x):=fun hE=>(canonL25 hl hE).2
 have HP:Hid (prtE d n l=0→zad d l=0∧(prtL d n l).flatMap (·.items)=l∧∀k (hk:k<(prtL d n l).length),((prtL d n l).take k).flatMap (·.items)++(prtL d n l)[k].items=((prtL d n l).take (k+1)).flatMap (·.items)∧(((prtL d n l).take (k+1)).flatMap (·.items)).length≤65536):=fun hE=>by
  obtain⟨h1,h2,h3⟩:=prtE_zero hE
  rw [h3]
  exact⟨h2,prt_whole h1 l,fun k hk=>⟨(prt_part l k hk).1,Nat.le_trans (prt_part l k hk).2 (canonL25 hl h2).2.1⟩⟩
 have HQ:Hid (askE d q l=0→zad d l=0∧spl1 d q l++spl2 d q l=l):=fun hE=>askE_zero hE
 obtain⟨N,hN⟩:∃N,N=l.length:=⟨_,rfl⟩
 have HN:Hid (N=l.length):=hN
 rw [←hN] at H1 H2 H3 H4 HV ⊢
 clear hl hN
 generalize prtL d n l=PL at *
 generalize prtE d n l=PE at *
 generalize spl1 d q l=S1 at *
 generalize spl2 d q l=S2 at *
 generalize askE d q l=SE at *
 go_enter Tryz.func3,Tryz.ntmps3
 go_wp2_with fail
 refine Calls.mono H1.out ?_
 rintro e w1 ⟨v1,rfl,hL1,hb1⟩
 obtain⟨a1,c1,rfl,_⟩:=Lies.slice hL1
 have HL1:Hid (Lies 18 w1 PL (.slice a1 PL.length c1)):=hL1
 have HB1:Hid (Below w.heap.size w w1):=hb1
 clear hL1 hb1 H1
 obtain⟨R1,hR1⟩:∃R1,R1=PL.length:=⟨_,rfl⟩
 have HR1:Hid (R1=PL.length):=hR1
 rw [←hR1]
 clear hR1
 go_upto_if 29 with fail
 go_cut [] from 9 to 44 (fun wx=>Hid (Below w.heap.size w wx))
 case first=>
  by_cases hE:PE=0
  ·subst hE
   obtain⟨hle,hfl,hk⟩:=HP.out rfl
   have HF:Hid (PL.flatMap (·.items)=l∧l.length≤65536∧zad d l=0):=⟨hfl,(HC.out hle).1,hle⟩
   have HK:Hid (∀k (hk:k<PL.length),(PL.take k).flatMap (·.items)++PL[k].items=(PL.take (k+1)).flatMap (·.items)∧((PL.take (k+1)).flatMap (·.items)).length≤65536):=hk
   clear hle hfl hk
   go_wp2_with fail
   go_loopg [9,32] R1 (fun z v9 v32 wr=>∃(k:Nat) (vo:Value),vo=v9∧v32=.int .i64 (k:Int)∧z=R1-k∧k≤R1∧Hid (AllI w1 ((PL.take k).flatMap (·.items)) vo wr))
   case atStart=>exact⟨0,_,rfl,rfl,by omega,by omega,AllI.start w1⟩
   case round=>
    obtain⟨k,vo,rfl,rfl,hgk,hk,HA⟩:=hrel
    have Hgk:Hid (gk=R1-k):=hgk
    clear hgk
    by_cases hlt:k<R1
    ·have hki:(k:Int)<(R1:Int):=by omega
     have hkg:k<PL.length:=by have:=HR1.out;omega
     obtain⟨al',cl',he,hbd,hrow⟩:=HL1.out
     injection he with e1 e2 e3
     subst e1 e3
     clear e2
     obtain⟨b1,o1,rfl,hall⟩:=hrow (by intro e;rw [e] at hkg;simp at hkg)
     obtain⟨ux,p0,p1,p2,p3,p4,p5⟩:=hall k hkg
     clear hall hrow
     obtain⟨ax,cx,rfl,_⟩:=Lies.slice p4
     obtain⟨hst,hln⟩:=HK.out k hkg
     have HSt:Hid (∀v9 w9,AllI w1 ((PL.take k).flatMap (·.items)++PL[k].items) v9 w9→AllI w1 ((PL.take (k+1)).flatMap (·.items)) v9 w9):=fun v9 w9 h9=>by rwa [hst] at h9
     have HLn:Hid (((PL.take k).flatMap (·.items)).length+PL[k].items.length≤65536):=by rw [←List.length_append,hst];exact hln
     have HX:Hid (Lies 17 w1 PL[k].items (.slice ax PL[k].items.length cx)):=p4
     have hbw:=HA.out.below
     replace p0:=zaa hbw p0;replace p1:=zaa hbw p1;replace p2:=zaa hbw p2;replace p3:=zaa hbw p3
     clear hst hln p4 hbw
     generalize (PL.take k).flatMap (·.items)=LK at *
     generalize hLK:(PL.take (k+1)).flatMap (·.items)=LK1 at *
     have HLK:Hid ((PL.take (k+1)).flatMap (·.items)=LK1):=hLK
     clear hLK
     generalize PL[k]=x at *
     obtain⟨xl,hxl⟩:∃xl,xl=x.items.length:=⟨_,rfl⟩
     have HXl:Hid (xl=x.items.length):=hxl
     rw [←hxl] at p3 HX
     clear hxl
     have HAk:Hid (∀W',Below wr.heap.size wr W'→AllI w1 LK vo W'):=fun W' hb=>HA.out.keeps hb
     clear HA
     go_wp2_with (first|(at_builtin;go_loud (refine AllI.append rfl _ _ rfl (L:=LK) (M:=x.items) (HAk.out _ ((Grew.refl wr).alloc _).below) rfl rfl HXl.out HX.out HLn.out ?_;intro v9 w9 h9;have HZ9:Hid (AllI w1 LK1 v9 w9):=HSt.out _ _ h9;clear h9)))
     go_roundg (R1-(k+1))
     case measure=>have:=Hgk.out;omega
     case rel=>exact⟨k+1,_,rfl,by go_num,rfl,by omega,by rw [HLK.out];exact HZ9⟩
    ·have ek:k=R1:=by omega
     subst ek
     have hnl : ¬(k:Int)<(k:Int):=by omega
     have hb9:=HA.out.below
     have HA2:Hid (AllI w1 l vo wr):=by
      have h:=HA.out
      rw [HR1.out,List.take_length,HF.out.1] at h
      exact h
     have hbz:Below w.heap.size w wr:=HB1.out.trans (hb9.mono HB1.out.size)
     have HVc:Hid (Calls Tryz.prog 5 #[vo,.slice a N cp] wr fun e w'=>e=.returned (.bool true)∧Below wr.heap.size wr w'):=HV.out wr vo HF.out.2.2 hbz (HA2.out.lies HF.out.2.1)
     have HBz:Hid (Below w.heap.size w wr):=hbz
     clear hb9 hbz HA HA2 hlt hk Hgk
     go_wp2_with fail
     refine Calls.mono HVc.out ?_
     rintro e w3 ⟨rfl,hb3⟩
     have HZ:Hid (Below w.heap.size w w3):=HBz.out.trans (hb3.mono HBz.out.size)
     clear hb3
     go_wp2_with fail
     go_meet
     case rel=>exact HZ
  ·go_wp2_with fail
   go_meet
   case rel=>exact HB1
 case rest=>
  have HBc:Hid (Below w.heap.size w wc):=hcut
  clear hcut HB1 HL1 HR1 HP
  go_wp2_with fail
  refine Calls.mono (H2.out _ HBc.out) ?_
  rintro e w4 ⟨v3,v4,rfl,hL3,hL4,hg4⟩
  obtain⟨a3,c3,rfl,_⟩:=Lies.slice hL3
  obtain⟨a4,c4,rfl,_⟩:=Lies.slice hL4
  have HL3:Hid (Lies 17 w4 S1 (.slice a3 S1.length c3)∧Lies 17 w4 S2 (.slice a4 S2.length c4)):=⟨hL3,hL4⟩
  have HB4:Hid (Below w.heap.size w w4):=HBc.out.trans (hg4.mono HBc.out.size)
  clear hL3 hL4 hg4 H2 HBc
  go_upto_if 53 with fail
  go_cut [] from 15 to 63 (fun wx=>Hid (Below w.heap.size w wx))
  case first=>
   by_cases hE:SE=0
   ·subst hE
    obtain⟨hle,hfl⟩:=HQ.out rfl
    have hl6:=(HC.out hle).1
    have HF:Hid (S1++S2=l∧zad d l=0∧l.length≤65536):=⟨hfl,hle,hl6⟩
    have HLn:Hid (([]:List VT).length+S1.length≤65536∧S1.length+S2.length≤65536):=by
     have h:=congrArg List.length hfl
     rw [List.length_append] at h
     exact⟨by simp;omega,by omega⟩
    have HA0:Hid (AllI w4 [] (.slice none 0 0) w4):=AllI.start w4
    clear hle hfl hl6
    go_wp2_with (first
     | (at_builtin;refine AllI.append rfl _ _ rfl (L:=S1) (M:=S2) HA5.out rfl rfl rfl HL3.out.2 HLn.out.2 ?_;intro v6 w6 h6;have HA6:Hid (AllI w4 (S1++S2) v6 w6):=h6;clear h6 HA5)
     | (at_builtin;refine AllI.append rfl _ _ rfl (L:=[]) (M:=S1) HA0.out rfl rfl rfl HL3.out.1 HLn.out.1 ?_;intro v5 w5 h5;have HA5:Hid (AllI w4 S1 v5 w5):=h5;clear h5 HA0))
    have HB6:Hid (Below w.heap.size w w6):=HB4.out.trans (HA6.out.below.mono HB4.out.size)
    have hl6:Lies 17 w6 l v6:=by
     have h:=HA6.out.lies (by rw [HF.out.1];exact HF.out.2.2)
     rwa [HF.out.1] at h
    refine Calls.mono (HV.out w6 v6 HF.out.2.1 HB6.out hl6) ?_
    rintro e w7 ⟨rfl,hb7⟩
    have HZ:Hid (Below w.heap.size w w7):=HB6.out.trans (hb7.mono HB6.out.size)
    clear hb7 hl6
    go_wp2_with fail
    go_meet
    case rel=>exact HZ
   ·go_wp2_with fail
    go_meet
    case rel=>exact HB4
  case rest=>
   have HBd:Hid (Below w.heap.size w wc):=hcut
   clear hcut HB4 HL3 HQ HV
   go_wp2_with fail
   refine Calls.mono (H3.out _ HBd.out) ?_
   rintro e w5 hpost
   by_cases hE:zad d l=0
   ·rcases hpost with ⟨h,_⟩|⟨_,gs,hA,v5,rfl,hl5,hg5⟩
    ·exact absurd hE h
    obtain⟨hl6,hgd⟩:=HC.out hE
    have HW:Hid ((mapA 16 (cntTs (zaf l gs))).2=0→CtW l (mapA 16 (cntTs (zaf l gs))).1 gs.length (sumR (zaf l gs))):=fun h=>ctW_of hA hl6 h
    have HLn6:Hid (l.length≤65536):=hl6
    have HAk:Hid (zad d l=0∧Alk l gs∧∀x∈l,Good 16 x):=⟨hE,hA,hgd⟩
    generalize (mapA 16 (cntTs (zaf l gs))).1=C at *
    generalize (mapA 16 (cntTs (zaf l gs))).2=CE at *
    generalize sumR (zaf l gs)=SM at *
    obtain⟨a5,c5,rfl,_⟩:=Lies.slice hl5
    have HL5:Hid (Lies 17 w5 C.items (.slice a5 C.items.length c5)):=hl5
    have HB5:Hid (Below w.heap.size w w5):=HBd.out.trans (hg5.mono HBd.out.size)
    obtain⟨CL,hCL⟩:∃CL,CL=C.items.length:=⟨_,rfl⟩
    have HCL:Hid (CL=C.items.length):=hCL
    obtain⟨W6,hW6⟩:∃W6,W6=w5.alloc (.cells #[.int .i64 C.kind,.int .i64 C.num,.string C.text,.slice a5 CL c5] 27):=⟨_,rfl⟩
    have HW6:Hid (W6=w5.alloc (.cells #[.int .i64 C.kind,.int .i64 C.num,.string C.text,.slice a5 CL c5] 27)):=hW6
    have hb56:Below w5.heap.size w5 W6:=by rw [hW6];exact ((Grew.refl w5).alloc _).below
    have HBx:Hid (Bx W6 w5.heap.size C (.slice a5 CL c5)):=by rw [hW6];exact zaj w5 C _
    have HB6:Hid (Below w.heap.size w W6):=HB5.out.trans (hb56.mono HB5.out.size)
    have HL6:Hid (Lies 17 W6 C.items (.slice a5 CL c5)):=by rw [hCL];exact Lies.keeps hb56 _ _ _ HL5.out
    rw [←hCL]
    clear hA hgd hl6 hE hl5 hg5 hCL hW6 hb56 HL5 HB5 HC HBd
    go_upto_region 19 with fail
    rw [←HW6.out]
    clear HW6
    go_wp2_with fail
    refine Calls.mono (H4.out _ HB6.out) ?_
    rintro e w7 hpost
    rcases hpost with ⟨h,_⟩|⟨_,gs',u7,hA',rfl,hl7,hg7⟩
    ·exact absurd HAk.out.1 h
    have hgs:=alk_same HAk.out.2.2 HAk.out.2.1 hA'
    obtain⟨a7,c7,rfl,_⟩:=LiesB.slice hl7
    rw [dstL_len,←hgs]
    have HBx7:Hid (Bx w7 w5.heap.size C (.slice a5 CL c5)):=HBx.out.keeps hg7
    have HB7:Hid (Below w.heap.size w w7):=HB6.out.trans (hg7.mono HB6.out.size)
    have HL7:Hid (Lies 17 w7 C.items (.slice a5 CL c5)):=Lies.keeps hg7 _ _ _ HL6.out
    have HSp7:Hid (Calls Tryz.prog 9 #[] w7 fun e w'=>e=.returned (.bool true)∧Below w7.heap.size w7 w'):=HSp.out w7
    have hRn:gs.length≤1000000000000:=by
     have h1:=HAk.out.2.1.perm.length_eq
     have:=groups_le HAk.out.2.1.ne
     rw [List.length_range] at h1
     have:=HLn6.out
     omega
    have HSq:Hid (∀V,Calls Tryz.prog 9 #[] V fun e w'=>e=.returned (.bool true)∧Below V.heap.size V w'):=HSp.out
    clear hl7 hg7 hgs hA' HBx HB6 HL6 H3 H4 HAk
    generalize gs.length=R at *
    by_cases hCE:CE=0
    ·subst hCE
     have hW:=HW.out rfl
     have HWo:Hid (CtW l C R SM):=hW
     have HC2:Hid (CL=2*R):=by rw [HCL.out];exact hW.len
     have HRn:Hid (R≤1000000000000):=hRn
     have HNS:Hid (SM R=N):=by rw [HN.out];exact hW.all
     have hS0:SM 0=0:=hW.zero
     have HCk:Hid (Calls Tryz.prog 10 #[.agg #[.int .i64 C.kind,.int .i64 C.num,.string C.text,.slice a5 CL c5]] w7 fun e w'=>e=.returned (.int .i64 0)∧Below w7.heap.size w7 w'):=by
      have h:=check_any 17 C (.slice a5 CL c5) w7 HL7.out hW.text
      rwa [hW.right] at h
     obtain⟨x0,x1,x2,x3,_,_,_,_⟩:=HBx7.out
     clear hW HW HSp HCL hRn
     go_wp2_with fail
     go_loopg [20,21] R (fun z v20 v21 wr=>∃k I:Nat,v21=.int .i64 (I:Int)∧v20=.int .i64 ((SM k:Nat):Int)∧z=R-k∧k≤R∧wr=w7∧Hid (I=2*k+1))
     case atStart=>exact⟨0,1,rfl,by rw [hS0];rfl,by omega,by omega,rfl,rfl⟩
     case round=>
      obtain⟨k,I,rfl,rfl,hgk,hk,rfl,HI⟩:=hrel
      have Hgk:Hid (gk=R-k):=hgk
      clear hgk hS0
      by_cases hlt:k<R
      ·have hIC:I<CL:=by have:=HC2.out;have:=HI.out;omega
       have hIi:(I:Int)<(CL:Int):=by omega
       have hI6:I≤2000000000000:=by have:=HRn.out;have:=HI.out;omega
       obtain⟨al',cl',he,hbd,hrow⟩:=HL7.out
       injection he with e1 e2 e3
       rw [e2] at hIC
       obtain⟨b1,o1,he1,hall⟩:=hrow (by intro e;rw [e] at hIC;simp at hIC)
       rw [←e1] at he1
       subst he1
       obtain⟨ux,p0,p1,p2,p3,p4,p5⟩:=hall I hIC
       have hnum:=HWo.out.num k hlt (by rw [←HI.out];exact hIC)
       have hup:=HWo.out.up k hlt
       have hnum2:C.items[I].num=((SM (k+1)-SM k:Nat):Int):=by
        rw [←hnum];simp only [HI.out]
       obtain⟨M,hM⟩:∃M:Nat,M=SM (k+1)-SM k:=⟨_,rfl⟩
       rw [hnum2,←hM] at p1
       obtain⟨SK,hSK⟩:∃SK:Nat,SK=SM k:=⟨_,rfl⟩
       have HS1:Hid (SK+M=SM (k+1)∧SM (k+1)≤65536):=⟨by omega,hup.2⟩
       have hw:IntKind.i64.wrap ((SK:Int)+(M:Int))=((SK+M:Nat):Int):=by rw [IntKind.wrap_i64];have:=HS1.out;omega
       have hw2:IntKind.i64.wrap ((I:Int)+2)=((I+2:Nat):Int):=by rw [IntKind.wrap_i64];omega
       have HI2:Hid (I+2=2*(k+1)+1):=by show _=_;have:=HI.out;omega
       have hIp:(0:Int)≤(I:Int):=by omega
       rw [←hSK]
       clear hall hrow hbd e1 e2 e3 hnum hnum2 hup hM hSK p0 p2 p3 p4 p5 hIC
       go_wp2_with fail
       go_roundg (R-(k+1))
       case measure=>have:=Hgk.out;omega
       case rel=>exact⟨k+1,I+2,by first|rfl|(simp [hw2];done)|go_num,by rw [←HS1.out.1];first|rfl|(simp [hw];done)|go_num,rfl,by omega,rfl,HI2⟩
      ·have ek:k=R:=by omega
       subst ek
       have hnI : ¬(I:Int)<(CL:Int):=by have:=HC2.out;have:=HI.out;omega
       rw [HNS.out]
       have hw3:IntKind.i64.wrap (2*(k:Int))=(CL:Int):=by rw [IntKind.wrap_i64];have:=HC2.out;have:=HRn.out;omega
       clear hlt hk Hgk HI HC2 HRn HNS
       go_wp2_with fail
       refine Calls.mono HCk.out ?_
       rintro e w8 ⟨rfl,hg8⟩
       have HB8:Hid (Below w.heap.size w w8):=HB7.out.trans (hg8.mono HB7.out.size)
       have HSp8:Hid (Calls Tryz.prog 9 #[] w8 fun e w'=>e=.returned (.bool true)∧Below w8.heap.size w8 w'):=HSq.out w8
       clear hg8 HCk
       go_wp2_with fail
       refine Calls.mono HSp8.out ?_
       rintro e w9 ⟨rfl,hg9⟩
       have HF:Hid (Below w.heap.size w w9):=HB8.out.trans (hg9.mono HB8.out.size)
       clear hg9
       go_wp2_with fail
       go_ret
       exact⟨rfl,HF.out⟩
    ·go_wp2_with fail
     refine Calls.mono HSp7.out ?_
     rintro e w8 ⟨rfl,hg8⟩
     have HF:Hid (Below w.heap.size w w8):=HB7.out.trans (hg8.mono HB7.out.size)
     clear hg8
     go_wp2_with fail
     go_ret
     exact⟨rfl,HF.out⟩
   ·rcases hpost with ⟨_,v5,rfl,hl5,hg5⟩|⟨h,_⟩
    rotate_left
    ·exact absurd h hE
    obtain⟨a5,c5,rfl,_⟩:=Lies.slice hl5
    have HB5:Hid (Below w.heap.size w w5):=HBd.out.trans (hg5.mono HBd.out.size)
    clear hl5 hg5
    obtain⟨W6,hW6⟩:∃W6,W6=w5.alloc (.cells #[.int .i64 0,.int .i64 0,.string ⟨#[]⟩,.slice a5 0 c5] 27):=⟨_,rfl⟩
    have HW6:Hid (W6=w5.alloc (.cells #[.int .i64 0,.int .i64 0,.string ⟨#[]⟩,.slice a5 0 c5] 27)):=hW6
    have HB6:Hid (Below w.heap.size w W6):=HB5.out.trans ((by rw [hW6];exact ((Grew.refl w5).alloc _).below:Below w5.heap.size w5 W6).mono HB5.out.size)
    clear hW6
    go_upto_region 19 with fail
    rw [←HW6.out]
    clear HW6
    go_wp2_with fail
    refine Calls.mono (H4.out _ HB6.out) ?_
    rintro e w7 hpost
    rcases hpost with ⟨_,rfl,hg7⟩|⟨h,_⟩
    rotate_left
    ·exact absurd h hE
    have HB7:Hid (Below w.heap.size w w7):=HB6.out.trans (hg7.mono HB6.out.size)
    have HSp7:Hid (Calls Tryz.prog 9 #[] w7 fun e w'=>e=.returned (.bool true)∧Below w7.heap.size w7 w'):=HSp.out w7
    clear hg7 H3 H4
    generalize zad d l=LE at *
    go_wp2_with fail
    refine Calls.mono HSp7.out ?_
    rintro e w8 ⟨rfl,hg8⟩
    have HF:Hid (Below w.heap.size w w8):=HB7.out.trans (hg8.mono HB7.out.size)
    clear hg8
    go_wp2_with fail
    go_ret
    exact⟨rfl,HF.out⟩
end Go.Proofs.YtcflooaoocngdaaGreat
