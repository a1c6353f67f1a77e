import Derived.Test.YtcflooaoocngdaaGreatRowP
import Derived.Test.YtcflooaoocngdaaGreatStab
set_option maxRecDepth 100000
set_option maxHeartbeats 16000000
namespace Go.Proofs.YtcflooaoocngdaaGreat
open Go.RowKit
theorem RowQ.qat {w0 w:World} {g:Nat} {ps:List PP} (h:RowQ w0 g ps w):QAt w g 0 ps:=by
 intro j u hj
 have hlt:j<(ps.flatMap encQ).length:=by
  by_cases hl:j<(ps.flatMap encQ).length
  ·exact hl
  ·rw [List.getElem?_eq_none (by omega)] at hj;cases hj
 rw [flat_lenQ] at hlt
 have hjj:j=j / 8*8+j % 8:=by omega
 have e1:j / 8<ps.length:=by omega
 have e2:j % 8<8:=by omega
 have h1:=h.row (j / 8) e1 (j % 8) e2
 rw [hjj,flat_atQ _ _ _ e1 e2,List.getElem?_eq_getElem (by rw [zas];exact e2)] at hj
 rw [Nat.zero_add,hjj,h1]
 exact hj
theorem RowQ.of_own {w w1:World} {g:Nat} {qs:List PP} (h:QAt w1 g 0 qs) (hfz:∀k,w1.frozen? ⟨g,k,none⟩=false) (hlt:g<w1.heap.size) (hb:Below w.heap.size w w1):RowQ w g qs w1:=
 ⟨fun i hi q hq=>by have:=h.nth i hi q hq;rwa [Nat.zero_add] at this,fun k _=>hfz k,hlt,hb⟩
theorem cloneQ_some (b o c:Nat) (qs:List PP) (d:Nat) (w:World) (hrow:QAt w b o qs) (hs:∀p∈qs,GoodQ d w p) (hlen:qs.length≤65536) :
 Calls Tryz.prog 95 #[.slice (some ⟨b,o,none⟩) qs.length c] w fun e w'=>∃v,e=.returned v∧w'.ownsRow w.heap.size 52 8 v qs.length (qs.flatMap encQ)∧Below w.heap.size w w':=by
 obtain⟨i0,hi,hz0,hz1,hz2⟩:=infoQ
 have Hi:Hid _:=hi;have Hz0:Hid _:=hz0;have Hz1:Hid _:=hz1;have Hz2:Hid _:=hz2
 clear hi hz0 hz1 hz2
 have HR:Hid (QAt w b o qs):=hrow
 have HS:Hid _:=hs
 clear hrow hs
 have q22:∀(w:World) (a:Option Addr) (n c n' c':Nat),(binOp .eql 47 (.slice a n c) (.slice none n' c')).run Tryz.prog w=.ok (.bool a.isNone) w:=fun w a n c n' c'=>Lib.run_eql_slice_nil w _ _ a n c n' c' Tryz.underlying47
 go_enter Tryz.func95,Tryz.ntmps95
 go_wp2_with (first
  | (at_builtin;refine wpList_append_own _ rfl _ _ 47 rfl w.heap.size 52 i0 (.agg #[.int .i64 0,.int .i64 0,.string ⟨#[]⟩,.slice none 0 0,.int .i64 0,.int .i64 0,.string ⟨#[]⟩,.slice none 0 0]) 8 112 Tryz.underlying47 Hi.out Hz0.out Hz1.out Hz2.out rfl (by decide) _ 0 [] rfl ?c0 ⟨b,o,none⟩ qs.length c (qs.flatMap encQ) rfl (flat_lenQ qs) ?c1 ?c2 ?c3 ?c4 ?c5 ?_))
 case c0=>exact World.ownsRow_lit w #[] 0 (Nat.le_refl _) (by unfold maxLen;omega) rfl
 case c1=>
  intro j u hj
  rw [add_addr5]
  exact zaa ((Below.refl _ _).alloc (Nat.le_refl _) _) (HR.out j u hj)
 case c2=>
  intro u hu
  obtain⟨p,hp,hup⟩:=List.mem_flatMap.1 hu
  exact encQ_one (HS.out p hp) u hup
 case c3=>unfold maxLen;omega
 case c4=>omega
 case c5=>simp
 intro v' w2 hown' hgrow _
 have hb2:Below w.heap.size w w2:=(((Below.refl _ _).alloc (Nat.le_refl _) _)).grown hgrow (by simp) (by
  intro k hk
  simp [Value.ownBlock] at hk;omega)
 clear hgrow
 have Hown:Hid (w2.ownsRow w.heap.size 52 8 v' qs.length (qs.flatMap encQ)):=by
  show World.ownsRow _ _ _ _ _ _ _
  simpa using hown'
 clear hown'
 go_wp2_with fail
 go_ret
 exact⟨_,rfl,Hown.out,hb2⟩
theorem cloneQ_none (a:Option Addr) (c:Nat) (w:World) :
 Calls Tryz.prog 95 #[.slice a 0 c] w fun e w'=>∃a' c',e=.returned (.slice a' 0 c')∧Below w.heap.size w w':=by
 obtain⟨i0,hi,hz0,hz1,hz2⟩:=infoQ
 have Hi:Hid _:=hi;have Hz0:Hid _:=hz0;have Hz1:Hid _:=hz1;have Hz2:Hid _:=hz2
 clear hi hz0 hz1 hz2
 have q22:∀(w:World) (a:Option Addr) (n c n' c':Nat),(binOp .eql 47 (.slice a n c) (.slice none n' c')).run Tryz.prog w=.ok (.bool a.isNone) w:=fun w a n c n' c'=>Lib.run_eql_slice_nil w _ _ a n c n' c' Tryz.underlying47
 cases a with
 | none=>
  go_enter Tryz.func95,Tryz.ntmps95
  go_wp2_with fail
  go_ret
  exact⟨none,0,rfl,Below.refl _ _⟩
 | some ad=>
  go_enter Tryz.func95,Tryz.ntmps95
  go_wp2_with (first
   | (at_builtin;refine wpList_append_own _ rfl _ _ 47 rfl w.heap.size 52 i0 (.agg #[.int .i64 0,.int .i64 0,.string ⟨#[]⟩,.slice none 0 0,.int .i64 0,.int .i64 0,.string ⟨#[]⟩,.slice none 0 0]) 8 112 Tryz.underlying47 Hi.out Hz0.out Hz1.out Hz2.out rfl (by decide) _ 0 [] rfl ?c0 ad 0 c [] rfl rfl ?c1 ?c2 ?c3 ?c4 ?c5 ?_))
  case c0=>exact World.ownsRow_lit w #[] 0 (Nat.le_refl _) (by unfold maxLen;omega) rfl
  case c1=>intro j u hj;simp at hj
  case c2=>intro u hu;cases hu
  case c3=>unfold maxLen;omega
  case c4=>omega
  case c5=>simp
  intro v' w2 hown' hgrow _
  have hb2:Below w.heap.size w w2:=(((Below.refl _ _).alloc (Nat.le_refl _) _)).grown hgrow (by simp) (by
   intro k hk
   simp [Value.ownBlock] at hk;omega)
  have hex:∃a' c',v'=.slice a' 0 c':=by
   rcases hown'.2 with ⟨hv,_⟩|⟨g,cap,cur,hv,_⟩
   ·exact⟨none,0,hv⟩
   ·exact⟨_,cap,hv⟩
  obtain⟨a',c',rfl⟩:=hex
  clear hgrow hown'
  go_wp2_with fail
  go_ret
  exact⟨a',c',rfl,hb2⟩
theorem insertion_none (f:Nat) (a:Option Addr) (c:Nat) (w:World) :
 Calls Tryz.prog 120 #[.slice a 0 c,.int .i64 0,.int .i64 0,.func (.func f) #[] #[]] w fun e w'=>e=.returned (.tuple #[])∧w'=w:=by
 go_enter Tryz.func120,Tryz.ntmps120
 go_wp2_with fail
 go_loopg [8] 0 (fun z vi wr=>vi=.int .i64 1∧z=0∧wr=w)
 case atStart=>exact⟨rfl,rfl,rfl⟩
 case round=>
  obtain⟨rfl,rfl,rfl⟩:=hrel
  go_wp2_with fail
  exact bodyPost_end (v:=.tuple #[]) (by simp [results,Tryz.results120,go_sem]) rfl ⟨rfl,rfl⟩
theorem stable_none (f:Nat) (a:Option Addr) (c:Nat) (w:World) :
 Calls Tryz.prog 108 #[.slice a 0 c,.int .i64 0,.func (.func f) #[] #[]] w fun e w'=>e=.returned (.tuple #[])∧w'=w:=by
 go_enter Tryz.func108,Tryz.ntmps108
 go_wp2_with fail
 go_loopg [7,8] 0 (fun z va vb wr=>va=.int .i64 0∧vb=.int .i64 20∧z=0∧wr=w)
 case atStart=>exact⟨rfl,rfl,rfl,rfl⟩
 case round=>
  obtain⟨rfl,rfl,rfl,rfl⟩:=hrel
  go_wp2_with fail
  refine (insertion_none f a c _).mono ?_
  rintro e w1 ⟨rfl,rfl⟩
  go_wp2_with fail
  go_loopg [6] 0 (fun z vs wr=>vs=.int .i64 20∧z=0∧wr=w1)
  case atStart=>exact⟨rfl,rfl,rfl⟩
  case round=>
   obtain⟨rfl,rfl,rfl⟩:=hrel
   go_wp2_with fail
   exact bodyPost_end (v:=.tuple #[]) (by simp [results,Tryz.results108,go_sem]) rfl ⟨rfl,rfl⟩
theorem sortStable_none (f:Nat) (a:Option Addr) (c:Nat) (w:World) :
 Calls Tryz.prog 96 #[.slice a 0 c,.func (.func f) #[] #[]] w fun e w'=>e=.returned (.tuple #[])∧w'=w:=by
 go_enter Tryz.func96,Tryz.ntmps96
 go_wp2_with fail
 refine (stable_none f a c _).mono ?_
 rintro e w1 ⟨rfl,rfl⟩
 go_wp2_with fail
 exact bodyPost_end (v:=.tuple #[]) (by simp [results,Tryz.results96,go_sem]) rfl ⟨rfl,rfl⟩
theorem sortStable_any (f d:Nat) (eg:∀args w,(callFunc f args).run Tryz.prog w=.ok (.enter f args) w) (cf:PP→PP→Int) (hc:CmpQ f (GoodQ d) cf) (hwk:Weak (ltC cf)) (w0:World) (g cap:Nat) (hg:w0.heap.size≤g) (M0:List PP) (hlen:M0.length≤65536) (hG:∀p∈M0,GoodQ d w0 p) (w:World) (hR:RowQ w0 g M0 w) :
 Calls Tryz.prog 96 #[.slice (some ⟨g,0,none⟩) M0.length cap,.func (.func f) #[] #[]] w fun e w'=>e=.returned (.tuple #[])∧∃l,StQ (ltC cf) w0 g M0 l w'∧Up (ltC cf) l:=by
 have HS:Hid _:=stable_any f d eg cf hc hwk w0 g cap M0.length hg hlen M0 rfl hG w hR
 clear hc hwk hG hR
 generalize M0.length=L at *
 go_enter Tryz.func96,Tryz.ntmps96
 go_wp2_with fail
 refine Calls.mono HS.out ?_
 rintro e w1 ⟨rfl,hE⟩
 have HE:Hid _:=hE
 clear hE
 go_wp2_with fail
 exact bodyPost_end (v:=.tuple #[]) (by simp [results,Tryz.results96,go_sem]) rfl ⟨rfl,HE.out⟩
structure LsO (cf:PP→PP→Int) (B:Nat) (w2:World) (ls R:List PP) (wr:World) (j:Nat) (vo:Value) (no:Nat) (ds:List PP):Prop where
 eo:no=ds.length
 eq:ds++lastE cf (ls.drop j)=R
 own:wr.ownsRow B 52 8 vo no (ds.flatMap encQ)
 below:Below B w2 wr
theorem LsO.skip {cf:PP→PP→Int} {B:Nat} {w2:World} {ls R:List PP} {wr:World} {j:Nat} {vo:Value} {no:Nat} {ds:List PP} (h:LsO cf B w2 ls R wr j vo no ds) (x y:PP) (hx:ls[j]? = some x) (hy:ls[j+1]? = some y) (hz:cf x y=0) {W:World} (hown:W.ownsRow B 52 8 vo no (ds.flatMap encQ)) (hb:Below B w2 W):LsO cf B w2 ls R W (j+1) vo no ds:=by
 refine⟨h.eo,?_,hown,hb⟩
 rw [←h.eq]
 obtain⟨l1,e1⟩:=List.getElem?_eq_some_iff.1 hx
 obtain⟨l2,e2⟩:=List.getElem?_eq_some_iff.1 hy
 rw [List.drop_eq_getElem_cons l1,List.drop_eq_getElem_cons l2,e1,e2]
 show _=ds++(if cf x y=0 then _ else _)
 rw [if_pos hz]
theorem LsO.put {cf:PP→PP→Int} {B:Nat} {w2:World} {ls R:List PP} {wr:World} {j:Nat} {vo:Value} {no:Nat} {ds:List PP} (h:LsO cf B w2 ls R wr j vo no ds) (x:PP) (hx:ls[j]? = some x) (hz:∀y,ls[j+1]? = some y→¬cf x y=0) {W:World} {v':Value} (hown:W.ownsRow B 52 8 v' (no+1) ((ds++[x]).flatMap encQ)) (hb:Below B w2 W):LsO cf B w2 ls R W (j+1) v' (no+1) (ds++[x]):=by
 refine⟨by simp [h.eo],?_,hown,hb⟩
 rw [←h.eq]
 obtain⟨l1,e1⟩:=List.getElem?_eq_some_iff.1 hx
 rw [List.drop_eq_getElem_cons l1,e1]
 by_cases l2:j+1<ls.length
 ·have:=hz ls[j+1] (List.getElem?_eq_getElem l2)
  rw [List.drop_eq_getElem_cons l2]
  show _=ds++(if cf x _=0 then _ else _)
  rw [if_neg this];simp
 ·rw [List.drop_eq_nil_of_le (by omega)]
  show (ds++[x])++[]=ds++[x]
  simp
theorem lastOf_full (f d:Nat) (eg:∀args w,(callFunc f args).run Tryz.prog w=.ok (.enter f args) w) (cf:PP→PP→Int) (hc:CmpQ f (GoodQ d) cf) (h3:Cmp3 cf) (qs:List PP) (b o c:Nat) (w:World) (hrow:QAt w b o qs) (hG:∀p∈qs,GoodQ d w p) (hlen:qs.length≤65536) (hne:qs≠[]) :
 Calls Tryz.prog 68 #[.slice (some ⟨b,o,none⟩) qs.length c,.func (.func f) #[] #[]] w fun e w'=>∃v,e=.returned v∧SlQ w.heap.size d w' (kyd cf (qs.length+1) qs) v∧Below w.heap.size w w':=by
 obtain⟨i0,hi,hz0,hz1,hz2⟩:=infoQ
 have Hi:Hid _:=hi;have Hz0:Hid _:=hz0;have Hz1:Hid _:=hz1;have Hz2:Hid _:=hz2
 clear hi hz0 hz1 hz2
 have HC:Hid (CmpQ f (GoodQ d) cf):=hc
 have H3:Hid (Cmp3 cf):=h3
 have HG:Hid (∀p∈qs,GoodQ d w p):=hG
 have HCl:Hid _:=cloneQ_some b o c qs d w hrow hG hlen
 have HSt:Hid (∀(g cap:Nat) (W:World),w.heap.size≤g→RowQ w g qs W→Calls Tryz.prog 96 #[.slice (some ⟨g,0,none⟩) qs.length cap,.func (.func f) #[] #[]] W fun e w'=>e=.returned (.tuple #[])∧∃l,StQ (ltC cf) w g qs l w'∧Up (ltC cf) l):=fun g cap W hg hR=>sortStable_any f d eg cf hc h3.weak w g cap hg qs hlen hG W hR
 have HNe:Hid (qs≠[]):=hne
 have HL:Hid (0<qs.length):=List.length_pos_iff.2 hne
 have HE:Hid (∀ls W g,StQ (ltC cf) w g qs ls W→Up (ltC cf) ls→kyd cf (qs.length+1) qs=lastE cf ls):=fun ls W g h1 h2=>kyd_last h3 _ qs ls (by omega) h2 h1.al
 generalize kyd cf (qs.length+1) qs=R at *
 clear hc h3 hrow hG hne
 generalize hL:qs.length=L at *
 go_enter Tryz.func68,Tryz.ntmps68
 go_wp2_with fail
 refine Calls.mono HCl.out ?_
 rintro e w1 ⟨v,rfl,hown,hb1⟩
 subst hL
 obtain⟨g,cap,rfl,hg,hcap,hlt,hq,hfz⟩:=own_rowQ hown HNe.out
 have HR1:Hid (RowQ w g qs w1):=RowQ.of_own hq hfz hlt hb1
 clear hown hq hfz HCl
 generalize hL:qs.length=L at *
 go_wp2_with fail
 refine (HSt.out g cap _ hg HR1.out).mono ?_
 rintro e w2 ⟨rfl,ls,hs,hu⟩
 have hLL:ls.length=L:=by rw [←hL];exact hs.len
 have HLL:Hid (ls.length=L):=hLL
 have HQ:Hid (QAt w2 g 0 ls):=hs.row.qat
 have hb2:Below w.heap.size w w2:=hs.row.below
 have hg2:g<w2.heap.size:=hs.row.lt
 have hR:R=lastE cf ls:=HE.out ls w2 g hs hu
 have HRm:Hid (∀p∈R,GoodQ d w p):=fun p hp=>HG.out p (hs.mem p (lastE_mem cf ls p (by rw [←hR];exact hp)))
 have HRl:Hid (R.length≤65536):=by show _≤_;rw [hR];have:=lastE_len cf ls;omega
 have HGl:Hid (∀p∈ls,GoodQ d w p):=fun p hp=>HG.out p (hs.mem p hp)
 obtain⟨B,hB⟩:∃B,B=w2.heap.size:=⟨_,rfl⟩
 have HM0:Hid (LsO cf B w2 ls R w2 0 (.slice none 0 0) 0 []):=⟨rfl,by rw [hR];rfl,World.ownsRow_nil _ _ _ _,Below.refl _ _⟩
 have HB:Hid (B=w2.heap.size):=hB
 clear hs hu HR1 HSt HE hR HG hL hLL hB HNe
 go_wp2_with fail
 go_loopg [16,6] L (fun z vj vo wr=>∃(j no:Nat) (ds:List PP),vj=.int .i64 (j:Int)∧z=L-j∧j≤L∧no≤j∧Hid (LsO cf B w2 ls R wr j vo no ds))
 case atStart=>exact⟨0,0,[],rfl,rfl,Nat.zero_le _,Nat.le_refl _,HM0⟩
 case round=>
  obtain⟨j,no,ds,rfl,hk,hjL,hnj,HM⟩:=hrel
  have Hk:Hid _:=hk
  clear hk HM0
  have hbw2:Below w2.heap.size w2 wr:=by have:=HM.out.below;rwa [HB.out] at this
  have hwl2:w2.heap.size≤wr.heap.size:=hbw2.size
  have hBs:B=w2.heap.size:=HB.out
  by_cases hjl:j<L
  ·have hji:(j:Int)<(L:Nat):=by omega
   have hjls:j<ls.length:=by have:=HLL.out;omega
   have hxs:ls[j]? = some ls[j]:=List.getElem?_eq_getElem hjls
   obtain⟨x,hxe⟩:∃x,x=ls[j]:=⟨_,rfl⟩
   rw [←hxe] at hxs
   have Gx:GoodQ d w x:=HGl.out x (by rw [hxe];exact List.getElem_mem hjls)
   have Ex:=HQ.out.at j hjls
   rw [←hxe,Nat.zero_add] at Ex
   obtain⟨⟨t1,tv1⟩,⟨t2,tv2⟩⟩:=x
   obtain⟨ta,tc,et1,_⟩:=Lies.slice Gx.1.1
   obtain⟨tb,td,et2,_⟩:=Lies.slice Gx.2.1
   simp only at et1 et2
   subst et1 et2
   obtain⟨p0,p1,p2,p3,p4,p5,p6,p7⟩:=Ex.keeps hbw2
   simp only at p0 p1 p2 p3 p4 p5 p6 p7
   have Hx:Hid (ls[j]? = some (((t1,.slice ta t1.items.length tc),(t2,.slice tb t2.items.length td)):PP)):=hxs
   have Gxh:Hid (GoodQ d w (((t1,.slice ta t1.items.length tc),(t2,.slice tb t2.items.length td)):PP)):=Gx
   have hgr:g<wr.heap.size:=by omega
   clear Ex hxs hxe Gx
   have HWm:Hid (Below B w2 (wr.alloc (.cells #[.int .i64 t1.kind,.int .i64 t1.num,.string t1.text,.slice ta t1.items.length tc,.int .i64 t2.kind,.int .i64 t2.num,.string t2.text,.slice tb t2.items.length td] 52))):=HM.out.below.alloc (by omega) _
   have HWo:Hid ((wr.alloc (.cells #[.int .i64 t1.kind,.int .i64 t1.num,.string t1.text,.slice ta t1.items.length tc,.int .i64 t2.kind,.int .i64 t2.num,.string t2.text,.slice tb t2.items.length td] 52)).ownsRow B 52 8 u6 no (ds.flatMap encQ)):=HM.out.own.alloc _
   have HBl:Hid (B≤(wr.alloc (.cells #[.int .i64 t1.kind,.int .i64 t1.num,.string t1.text,.slice ta t1.items.length tc,.int .i64 t2.kind,.int .i64 t2.num,.string t2.text,.slice tb t2.items.length td] 52)).heap.size):=by show _≤_;rw [World.size_alloc];omega
   have HbA:Hid (Below wr.heap.size wr (wr.alloc (.cells #[.int .i64 t1.kind,.int .i64 t1.num,.string t1.text,.slice ta t1.items.length tc,.int .i64 t2.kind,.int .i64 t2.num,.string t2.text,.slice tb t2.items.length td] 52))):=((Grew.refl wr).alloc _).below
   by_cases hjl2:j+1<L
   ·have hys0:j+1<ls.length:=by have:=HLL.out;omega
    have hys:ls[j+1]? = some ls[j+1]:=List.getElem?_eq_getElem hys0
    obtain⟨y,hye⟩:∃y,y=ls[j+1]:=⟨_,rfl⟩
    rw [←hye] at hys
    have Gy:GoodQ d w y:=HGl.out y (by rw [hye];exact List.getElem_mem hys0)
    have Ey:=HQ.out.at (j+1) hys0
    rw [←hye,Nat.zero_add] at Ey
    obtain⟨⟨s1,sv1⟩,⟨s2,sv2⟩⟩:=y
    obtain⟨sa,sc,es1,_⟩:=Lies.slice Gy.1.1
    obtain⟨sb,sd,es2,_⟩:=Lies.slice Gy.2.1
    simp only at es1 es2
    subst es1 es2
    obtain⟨K,hK⟩:∃K,K=j+1:=⟨_,rfl⟩
    have hwK:IntKind.i64.wrap ((j:Int)+1)=(K:Int):=by rw [IntKind.wrap_i64];omega
    have hKi:(K:Int)<(L:Nat):=by omega
    have hKn:K<L:=by omega
    rw [←hK] at Ey hys
    obtain⟨r0,r1,r2,r3,r4,r5,r6,r7⟩:=(Ey.keeps hbw2)
    simp only at r0 r1 r2 r3 r4 r5 r6 r7
    have Hy:Hid (ls[K]? = some (((s1,.slice sa s1.items.length sc),(s2,.slice sb s2.items.length sd)):PP)):=hys
    have Gyh:Hid (GoodQ d w (((s1,.slice sa s1.items.length sc),(s2,.slice sb s2.items.length sd)):PP)):=Gy
    have HKj:Hid (K=j+1):=hK
    have HCc:Hid (∀W,Below w.heap.size w W→Calls Tryz.prog f #[.agg #[.int .i64 t1.kind,.int .i64 t1.num,.string t1.text,.slice ta t1.items.length tc,.int .i64 t2.kind,.int .i64 t2.num,.string t2.text,.slice tb t2.items.length td],.agg #[.int .i64 s1.kind,.int .i64 s1.num,.string s1.text,.slice sa s1.items.length sc,.int .i64 s2.kind,.int .i64 s2.num,.string s2.text,.slice sb s2.items.length sd]] W fun e W'=>e=.returned (.int .i64 (cf (((t1,.slice ta t1.items.length tc),(t2,.slice tb t2.items.length td)):PP) (((s1,.slice sa s1.items.length sc),(s2,.slice sb s2.items.length sd)):PP)))∧Below W.heap.size W W'):=fun W h=>HC.out _ _ W (Gxh.out.keeps h) (Gyh.out.keeps h)
    have HSk:Hid (cf (((t1,.slice ta t1.items.length tc),(t2,.slice tb t2.items.length td)):PP) (((s1,.slice sa s1.items.length sc),(s2,.slice sb s2.items.length sd)):PP)=0→∀W,Below (wr.alloc (.cells #[.int .i64 t1.kind,.int .i64 t1.num,.string t1.text,.slice ta t1.items.length tc,.int .i64 t2.kind,.int .i64 t2.num,.string t2.text,.slice tb t2.items.length td] 52)).heap.size (wr.alloc (.cells #[.int .i64 t1.kind,.int .i64 t1.num,.string t1.text,.slice ta t1.items.length tc,.int .i64 t2.kind,.int .i64 t2.num,.string t2.text,.slice tb t2.items.length td] 52)) W→LsO cf B w2 ls R W K u6 no ds):=fun hz W hW=>by
     rw [HKj.out]
     exact HM.out.skip _ _ Hx.out (by rw [←HKj.out];exact Hy.out) hz (own_keeps HWo.out hW) (HWm.out.trans (hW.mono HBl.out))
    have HN0:Hid (¬cf (((t1,.slice ta t1.items.length tc),(t2,.slice tb t2.items.length td)):PP) (((s1,.slice sa s1.items.length sc),(s2,.slice sb s2.items.length sd)):PP)=0→∀(v':Value) (W:World),W.ownsRow B 52 8 v' (no+1) ((ds++[(((t1,.slice ta t1.items.length tc),(t2,.slice tb t2.items.length td)):PP)]).flatMap encQ)→Below B w2 W→LsO cf B w2 ls R W K v' (no+1) (ds++[(((t1,.slice ta t1.items.length tc),(t2,.slice tb t2.items.length td)):PP)])):=fun hz v' W k1 k2=>by
     rw [HKj.out]
     exact HM.out.put _ Hx.out (fun y hy=>by rw [←HKj.out,Hy.out] at hy;injection hy with hy;rw [←hy];exact hz) k1 k2
    have hbw:Below w.heap.size w (wr.alloc (.cells #[.int .i64 t1.kind,.int .i64 t1.num,.string t1.text,.slice ta t1.items.length tc,.int .i64 t2.kind,.int .i64 t2.num,.string t2.text,.slice tb t2.items.length td] 52)):=(hb2.trans (hbw2.mono hb2.size)).trans (HbA.out.mono (by have:=hb2.size;omega))
    generalize cf (((t1,.slice ta t1.items.length tc),(t2,.slice tb t2.items.length td)):PP) (((s1,.slice sa s1.items.length sc),(s2,.slice sb s2.items.length sd)):PP)=Z at *
    clear Ey hys hye Gy hK HM hys0 hjls
    go_wp2_with fail
    go_region_held3 (fun w'=>(w'.cell? ⟨wr.heap.size,0,none⟩=some (.int .i64 t1.kind)∧w'.cell? ⟨wr.heap.size,1,none⟩=some (.int .i64 t1.num)∧w'.cell? ⟨wr.heap.size,2,none⟩=some (.string t1.text)∧w'.cell? ⟨wr.heap.size,3,none⟩=some (.slice ta t1.items.length tc)∧w'.cell? ⟨wr.heap.size,4,none⟩=some (.int .i64 t2.kind)∧w'.cell? ⟨wr.heap.size,5,none⟩=some (.int .i64 t2.num)∧w'.cell? ⟨wr.heap.size,6,none⟩=some (.string t2.text)∧w'.cell? ⟨wr.heap.size,7,none⟩=some (.slice tb t2.items.length td))∧(w'.cell? ⟨g,K*8,none⟩=some (.int .i64 s1.kind)∧w'.cell? ⟨g,K*8+1,none⟩=some (.int .i64 s1.num)∧w'.cell? ⟨g,K*8+2,none⟩=some (.string s1.text)∧w'.cell? ⟨g,K*8+3,none⟩=some (.slice sa s1.items.length sc)∧w'.cell? ⟨g,K*8+4,none⟩=some (.int .i64 s2.kind)∧w'.cell? ⟨g,K*8+5,none⟩=some (.int .i64 s2.num)∧w'.cell? ⟨g,K*8+6,none⟩=some (.string s2.text)∧w'.cell? ⟨g,K*8+7,none⟩=some (.slice sb s2.items.length sd))) (go_keep)
     (first|(go_at_fn f;refine (HCc.out _ hbw.drew).mono ?_;rintro e WW ⟨rfl,hg1⟩;have hb1':Below (wr.alloc (.cells #[.int .i64 t1.kind,.int .i64 t1.num,.string t1.text,.slice ta t1.items.length tc,.int .i64 t2.kind,.int .i64 t2.num,.string t2.text,.slice tb t2.items.length td] 52)).heap.size (wr.alloc (.cells #[.int .i64 t1.kind,.int .i64 t1.num,.string t1.text,.slice ta t1.items.length tc,.int .i64 t2.kind,.int .i64 t2.num,.string t2.text,.slice tb t2.items.length td] 52)) WW:=(Below.refl _ _).drew.trans hg1;clear hg1;have c0:=zaa hb1' (show (wr.alloc (.cells #[.int .i64 t1.kind,.int .i64 t1.num,.string t1.text,.slice ta t1.items.length tc,.int .i64 t2.kind,.int .i64 t2.num,.string t2.text,.slice tb t2.items.length td] 52)).cell? ⟨wr.heap.size,0,none⟩=some (.int .i64 t1.kind) by simp);have c1:=zaa hb1' (show (wr.alloc (.cells #[.int .i64 t1.kind,.int .i64 t1.num,.string t1.text,.slice ta t1.items.length tc,.int .i64 t2.kind,.int .i64 t2.num,.string t2.text,.slice tb t2.items.length td] 52)).cell? ⟨wr.heap.size,1,none⟩=some (.int .i64 t1.num) by simp);have c2:=zaa hb1' (show (wr.alloc (.cells #[.int .i64 t1.kind,.int .i64 t1.num,.string t1.text,.slice ta t1.items.length tc,.int .i64 t2.kind,.int .i64 t2.num,.string t2.text,.slice tb t2.items.length td] 52)).cell? ⟨wr.heap.size,2,none⟩=some (.string t1.text) by simp);have c3:=zaa hb1' (show (wr.alloc (.cells #[.int .i64 t1.kind,.int .i64 t1.num,.string t1.text,.slice ta t1.items.length tc,.int .i64 t2.kind,.int .i64 t2.num,.string t2.text,.slice tb t2.items.length td] 52)).cell? ⟨wr.heap.size,3,none⟩=some (.slice ta t1.items.length tc) by simp);have c4:=zaa hb1' (show (wr.alloc (.cells #[.int .i64 t1.kind,.int .i64 t1.num,.string t1.text,.slice ta t1.items.length tc,.int .i64 t2.kind,.int .i64 t2.num,.string t2.text,.slice tb t2.items.length td] 52)).cell? ⟨wr.heap.size,4,none⟩=some (.int .i64 t2.kind) by simp);have c5:=zaa hb1' (show (wr.alloc (.cells #[.int .i64 t1.kind,.int .i64 t1.num,.string t1.text,.slice ta t1.items.length tc,.int .i64 t2.kind,.int .i64 t2.num,.string t2.text,.slice tb t2.items.length td] 52)).cell? ⟨wr.heap.size,5,none⟩=some (.int .i64 t2.num) by simp);have c6:=zaa hb1' (show (wr.alloc (.cells #[.int .i64 t1.kind,.int .i64 t1.num,.string t1.text,.slice ta t1.items.length tc,.int .i64 t2.kind,.int .i64 t2.num,.string t2.text,.slice tb t2.items.length td] 52)).cell? ⟨wr.heap.size,6,none⟩=some (.string t2.text) by simp);have c7:=zaa hb1' (show (wr.alloc (.cells #[.int .i64 t1.kind,.int .i64 t1.num,.string t1.text,.slice ta t1.items.length tc,.int .i64 t2.kind,.int .i64 t2.num,.string t2.text,.slice tb t2.items.length td] 52)).cell? ⟨wr.heap.size,7,none⟩=some (.slice tb t2.items.length td) by simp);have r0:=zaa hb1' (zaa HbA.out r0);have r1:=zaa hb1' (zaa HbA.out r1);have r2:=zaa hb1' (zaa HbA.out r2);have r3:=zaa hb1' (zaa HbA.out r3);have r4:=zaa hb1' (zaa HbA.out r4);have r5:=zaa hb1' (zaa HbA.out r5);have r6:=zaa hb1' (zaa HbA.out r6);have r7:=zaa hb1' (zaa HbA.out r7)))
    by_cases hz:Z=0
    ·have HS1:Hid _:=HSk.out hz WW hb1'
     clear p0 p1 p2 p3 p4 p5 p6 p7 r0 r1 r2 r3 r4 r5 r6 r7 c0 c1 c2 c3 c4 c5 c6 c7 HSk HN0 HCc
     subst hz
     go_wp2_with fail
     go_roundg (L-K)
     case measure=>have:=Hk.out;have:=HKj.out;omega
     case rel=>exact⟨K,no,ds,rfl,rfl,by omega,by have:=HKj.out;omega,HS1⟩
    ·have HN:Hid _:=HN0.out hz
     have hz':(Z==0)=false:=by simpa using hz
     have hbW:Below B w2 WW:=HWm.out.trans (hb1'.mono HBl.out)
     have hwl:B≤WW.heap.size:=by have h1:=hb1'.size;simp at h1;omega
     have Hown:Hid (WW.ownsRow B 52 8 u6 no (ds.flatMap encQ)):=own_keeps HWo.out hb1'
     have hlW:wr.heap.size<WW.heap.size:=zae c0
     clear p0 p1 p2 p3 p4 p5 p6 p7 r0 r1 r2 r3 r4 r5 r6 r7 HSk HN0 HCc HWo HWm
     go_wp2_with (first
      | (at_builtin;refine wpList_append_own _ rfl _ _ 47 rfl B 52 i0 (.agg #[.int .i64 0,.int .i64 0,.string ⟨#[]⟩,.slice none 0 0,.int .i64 0,.int .i64 0,.string ⟨#[]⟩,.slice none 0 0]) 8 112 Tryz.underlying47 Hi.out Hz0.out Hz1.out Hz2.out rfl (by decide) _ _ _ rfl (Hown.out.alloc _) ⟨WW.heap.size,0,none⟩ 1 1 [.int .i64 t1.kind,.int .i64 t1.num,.string t1.text,.slice ta t1.items.length tc,.int .i64 t2.kind,.int .i64 t2.num,.string t2.text,.slice tb t2.items.length td] rfl rfl (fun q u hq=>by match q,hq with|0,hq=>(simp at hq;subst hq;simp [Addr.add])|1,hq=>(simp at hq;subst hq;simp [Addr.add])|2,hq=>(simp at hq;subst hq;simp [Addr.add])|3,hq=>(simp at hq;subst hq;simp [Addr.add])|4,hq=>(simp at hq;subst hq;simp [Addr.add])|5,hq=>(simp at hq;subst hq;simp [Addr.add])|6,hq=>(simp at hq;subst hq;simp [Addr.add])|7,hq=>(simp at hq;subst hq;simp [Addr.add])|q+8,hq=>simp at hq) (fun u hu=>by simp at hu;rcases hu with rfl|rfl|rfl|rfl|rfl|rfl|rfl|rfl <;> rfl) (by unfold maxLen;omega) (by omega) (by simp;omega) ?_;intro v' w9 hown' hgrow _))
     have hb9:Below B w2 w9:=own_growM (hbW.alloc hwl _) (by simp;omega) (Hown.out.alloc _) hgrow
     have HN3:Hid _:=HN.out v' w9 (by simpa [encQ,encP,List.flatMap_append] using hown') hb9
     clear hown' hgrow Hown HN
     go_wp2_with fail
     go_roundg (L-K)
     case measure=>have:=Hk.out;have:=HKj.out;omega
     case rel=>exact⟨K,no+1,_,rfl,rfl,by have:=HKj.out;omega,by have:=HKj.out;omega,HN3⟩
   ·obtain rfl:L=j+1:=by omega
    have hwK:IntKind.i64.wrap ((j:Int)+1)=((j+1:Nat):Int):=by rw [IntKind.wrap_i64];omega
    have HN:Hid (∀(v':Value) (W:World),W.ownsRow B 52 8 v' (no+1) ((ds++[(((t1,.slice ta t1.items.length tc),(t2,.slice tb t2.items.length td)):PP)]).flatMap encQ)→Below B w2 W→LsO cf B w2 ls R W (j+1) v' (no+1) (ds++[(((t1,.slice ta t1.items.length tc),(t2,.slice tb t2.items.length td)):PP)])):=fun v' W k1 k2=>HM.out.put _ Hx.out (fun y hy=>by
     obtain⟨q,_⟩:=List.getElem?_eq_some_iff.1 hy
     have:=HLL.out
     omega) k1 k2
    clear HM
    generalize hL:j+1=L at *
    have HjL:Hid (j+1=L):=hL
    clear hL
    go_wp2_with fail
    go_quiet (fail)
    obtain⟨WW,hWW⟩:∃WW,WW=(wr.alloc (.cells #[.int .i64 t1.kind,.int .i64 t1.num,.string t1.text,.slice ta t1.items.length tc,.int .i64 t2.kind,.int .i64 t2.num,.string t2.text,.slice tb t2.items.length td] 52)).drewN nq:=⟨_,rfl⟩
    have hb1':Below (wr.alloc (.cells #[.int .i64 t1.kind,.int .i64 t1.num,.string t1.text,.slice ta t1.items.length tc,.int .i64 t2.kind,.int .i64 t2.num,.string t2.text,.slice tb t2.items.length td] 52)).heap.size (wr.alloc (.cells #[.int .i64 t1.kind,.int .i64 t1.num,.string t1.text,.slice ta t1.items.length tc,.int .i64 t2.kind,.int .i64 t2.num,.string t2.text,.slice tb t2.items.length td] 52)) WW:=by rw [hWW];exact below_drewN _ _
    rw [←hWW]
    clear hWW
    have c0:=zaa hb1' (show (wr.alloc (.cells #[.int .i64 t1.kind,.int .i64 t1.num,.string t1.text,.slice ta t1.items.length tc,.int .i64 t2.kind,.int .i64 t2.num,.string t2.text,.slice tb t2.items.length td] 52)).cell? ⟨wr.heap.size,0,none⟩=some (.int .i64 t1.kind) by simp)
    have c1:=zaa hb1' (show (wr.alloc (.cells #[.int .i64 t1.kind,.int .i64 t1.num,.string t1.text,.slice ta t1.items.length tc,.int .i64 t2.kind,.int .i64 t2.num,.string t2.text,.slice tb t2.items.length td] 52)).cell? ⟨wr.heap.size,1,none⟩=some (.int .i64 t1.num) by simp)
    have c2:=zaa hb1' (show (wr.alloc (.cells #[.int .i64 t1.kind,.int .i64 t1.num,.string t1.text,.slice ta t1.items.length tc,.int .i64 t2.kind,.int .i64 t2.num,.string t2.text,.slice tb t2.items.length td] 52)).cell? ⟨wr.heap.size,2,none⟩=some (.string t1.text) by simp)
    have c3:=zaa hb1' (show (wr.alloc (.cells #[.int .i64 t1.kind,.int .i64 t1.num,.string t1.text,.slice ta t1.items.length tc,.int .i64 t2.kind,.int .i64 t2.num,.string t2.text,.slice tb t2.items.length td] 52)).cell? ⟨wr.heap.size,3,none⟩=some (.slice ta t1.items.length tc) by simp)
    have c4:=zaa hb1' (show (wr.alloc (.cells #[.int .i64 t1.kind,.int .i64 t1.num,.string t1.text,.slice ta t1.items.length tc,.int .i64 t2.kind,.int .i64 t2.num,.string t2.text,.slice tb t2.items.length td] 52)).cell? ⟨wr.heap.size,4,none⟩=some (.int .i64 t2.kind) by simp)
    have c5:=zaa hb1' (show (wr.alloc (.cells #[.int .i64 t1.kind,.int .i64 t1.num,.string t1.text,.slice ta t1.items.length tc,.int .i64 t2.kind,.int .i64 t2.num,.string t2.text,.slice tb t2.items.length td] 52)).cell? ⟨wr.heap.size,5,none⟩=some (.int .i64 t2.num) by simp)
    have c6:=zaa hb1' (show (wr.alloc (.cells #[.int .i64 t1.kind,.int .i64 t1.num,.string t1.text,.slice ta t1.items.length tc,.int .i64 t2.kind,.int .i64 t2.num,.string t2.text,.slice tb t2.items.length td] 52)).cell? ⟨wr.heap.size,6,none⟩=some (.string t2.text) by simp)
    have c7:=zaa hb1' (show (wr.alloc (.cells #[.int .i64 t1.kind,.int .i64 t1.num,.string t1.text,.slice ta t1.items.length tc,.int .i64 t2.kind,.int .i64 t2.num,.string t2.text,.slice tb t2.items.length td] 52)).cell? ⟨wr.heap.size,7,none⟩=some (.slice tb t2.items.length td) by simp)
    have hbW:Below B w2 WW:=HWm.out.trans (hb1'.mono HBl.out)
    have hwl:B≤WW.heap.size:=by have h1:=hb1'.size;simp at h1;omega
    have Hown:Hid (WW.ownsRow B 52 8 u6 no (ds.flatMap encQ)):=own_keeps HWo.out hb1'
    have hlW:wr.heap.size<WW.heap.size:=zae c0
    clear p0 p1 p2 p3 p4 p5 p6 p7 HWo HWm
    go_wp2_with (first
     | (at_builtin;refine wpList_append_own _ rfl _ _ 47 rfl B 52 i0 (.agg #[.int .i64 0,.int .i64 0,.string ⟨#[]⟩,.slice none 0 0,.int .i64 0,.int .i64 0,.string ⟨#[]⟩,.slice none 0 0]) 8 112 Tryz.underlying47 Hi.out Hz0.out Hz1.out Hz2.out rfl (by decide) _ _ _ rfl (Hown.out.alloc _) ⟨WW.heap.size,0,none⟩ 1 1 [.int .i64 t1.kind,.int .i64 t1.num,.string t1.text,.slice ta t1.items.length tc,.int .i64 t2.kind,.int .i64 t2.num,.string t2.text,.slice tb t2.items.length td] rfl rfl (fun q u hq=>by match q,hq with|0,hq=>(simp at hq;subst hq;simp [Addr.add])|1,hq=>(simp at hq;subst hq;simp [Addr.add])|2,hq=>(simp at hq;subst hq;simp [Addr.add])|3,hq=>(simp at hq;subst hq;simp [Addr.add])|4,hq=>(simp at hq;subst hq;simp [Addr.add])|5,hq=>(simp at hq;subst hq;simp [Addr.add])|6,hq=>(simp at hq;subst hq;simp [Addr.add])|7,hq=>(simp at hq;subst hq;simp [Addr.add])|q+8,hq=>simp at hq) (fun u hu=>by simp at hu;rcases hu with rfl|rfl|rfl|rfl|rfl|rfl|rfl|rfl <;> rfl) (by unfold maxLen;omega) (by omega) (by simp;omega) ?_;intro v' w9 hown' hgrow _))
    have hb9:Below B w2 w9:=own_growM (hbW.alloc hwl _) (by simp;omega) (Hown.out.alloc _) hgrow
    have HN3:Hid _:=HN.out v' w9 (by simpa [encQ,encP,List.flatMap_append] using hown') hb9
    clear hown' hgrow Hown HN
    go_wp2_with fail
    go_roundg (L-L)
    case measure=>have:=Hk.out;have:=HjL.out;omega
    case rel=>exact⟨L,no+1,_,rfl,rfl,by have:=HjL.out;omega,by have:=HjL.out;omega,HN3⟩
  ·obtain rfl:j=L:=by omega
   have hji : ¬(j:Int)<(j:Nat):=by omega
   have HE2:Hid (SlQ w.heap.size d wr R u6∧Below w.heap.size w wr):=by
    have hbr:Below w.heap.size w wr:=hb2.trans (hbw2.mono hb2.size)
    have e0:R=ds:=by
     have:=HM.out.eq
     rw [List.drop_eq_nil_of_le (by have:=HLL.out;omega)] at this
     rw [←this];show ds++[]=ds;simp
    refine⟨?_,hbr⟩
    have:=SlQ.of_own (d:=d) HM.out.eo HM.out.own (fun p hp=>(HRm.out p (by rw [e0];exact hp)).keeps hbr) (by have:=HRl.out;rw [e0] at this;omega)
    rw [e0]
    exact this.mono (by have:=hb2.size;omega)
   obtain⟨a6,c6,rfl,_⟩:=SlQ.slice HE2.out.1
   clear HM
   go_wp2_with fail
   go_ret
   exact⟨_,rfl,HE2.out⟩
end Go.Proofs.YtcflooaoocngdaaGreat
