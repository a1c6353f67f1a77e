import Derived.Test.YtlnecfjnffdciabGreatSetG
import Derived.Test.YtlnecfjnffdciabGreatOnceP
import Derived.Test.YtlnecfjnffdciabGreatSet
import Derived.Test.YtlnecfjnffdciabGreatTold
namespace Go.Proofs.YtlnecfjnffdciabGreat
open Go.RowKit
def SetPostB (d:Nat) (l:List VT) (w:World) (e:Ending) (w':World):Prop:=
 Below w.heap.size w w'∧
 ((zaf d l≠0∧e=.returned (.tuple #[zeroAgg,.int .i64 (zaf d l)]))∨
  (zaf d l=0∧∃m,Members d l m∧
   (((fw (d+1) ⟨5,0,⟨#[]⟩,m⟩ 16 1024).1=false∧e=.returned (.tuple #[zeroAgg,.int .i64 2]))∨
    ((fw (d+1) ⟨5,0,⟨#[]⟩,m⟩ 16 1024).1=true∧∃v,e=.returned (.tuple #[.agg #[.int .i64 5,.int .i64 0,.string ⟨#[]⟩,v],.int .i64 0])∧LiesB w.heap.size (d+1) w' m v))))
theorem uniqFrom_le (g:PR→PR→Bool):∀(ys:List PR) (prev:PR),(zaj g prev ys).length≤ys.length:=by
 intro ys
 induction ys with
 | nil=>intro prev;exact Nat.le_refl _
 | cons y r ih=>
  intro prev
  unfold zaj
  have:=ih y
  split
  ·simp only [List.length_cons];omega
  ·simp only [List.length_cons];omega
theorem uniq_le (g:PR→PR→Bool) (ps:List PR):(uniq g ps).length≤ps.length:=by
 cases ps with
 | nil=>exact Nat.le_refl _
 | cons x xs=>have:=uniqFrom_le g xs x;unfold uniq;simp only [List.length_cons];omega
set_option maxHeartbeats 2000000 in
theorem set_core (d:Nat) (l:List VT) (a:Option Addr) (c:Nat) (w:World) (hu:Lies (d+1) w l (.slice a l.length c)) (herr:zaf d l=0)
 (hmid:Hid (∀W:World,Below w.heap.size w W→w.heap.size<W.heap.size→Blank W w.heap.size→Calls Tryz.prog 123 #[.slice a l.length c] W fun e W1=>∃v1,e=.returned v1∧Below W.heap.size W W1∧Calls Tryz.prog 122 #[v1,.func (.func 124) #[] #[]] W1 fun e2 W2=>∃v2 m,e2=.returned v2∧Members d l m∧Lies (d+1) W2 m v2∧Below w.heap.size w W2∧Blank W2 w.heap.size)) :
 Calls Tryz.prog 70 #[.slice a l.length c] w (SetPostB d l w):=by
 have HL:Hid (Lies (d+1) w l (.slice a l.length c)):=hu
 have Herr:Hid (zaf d l=0):=herr
 have Hgood:Hid (∀x∈l,zab d x=true):=(za8 herr).2
 have HK:Hid (Blank (w.alloc (.cells #[.int .i64 0,.int .i64 0,.string ⟨#[]⟩,.slice none 0 0] 33)) w.heap.size):=blank_alloc w
 have hbz:Below w.heap.size w (w.alloc (.cells #[.int .i64 0,.int .i64 0,.string ⟨#[]⟩,.slice none 0 0] 33)):=((Grew.refl w).alloc _).below
 clear hu herr
 go_enter Tryz.func70,Tryz.ntmps70
 go_wp2_with fail
 refine (checkList_any d l (.slice a l.length c) _ (Lies.keeps hbz _ _ _ HL.out)).mono ?_
 rintro e w1 ⟨rfl,hb⟩
 rw [Herr.out]
 have hb1:Below w.heap.size w w1:=hbz.trans (hb.mono (by simp))
 have HK1:Hid (Blank w1 w.heap.size):=HK.out.keeps hb
 have hsz1:w.heap.size<w1.heap.size:=by have:=hb.size;simp at this;omega
 clear hb HK hbz
 go_wp2_with fail
 refine (hmid.out w1 hb1 hsz1 HK1.out).mono ?_
 rintro e w2 ⟨v1,rfl,hb2,hcall⟩
 have Hcall:Hid _:=hcall
 clear hcall HK1
 go_wp2_with fail
 refine Calls.mono Hcall.out ?_
 rintro e w3 ⟨v2,m,rfl,hmem,hL3,hbw3,hbl3⟩
 have Hmem:Hid (Members d l m):=hmem
 have HL3:Hid (Lies (d+1) w3 m v2):=hL3
 have HK3:Hid (Blank w3 w.heap.size):=hbl3
 have hsz3:w.heap.size<w3.heap.size:=zac hbl3.c0
 clear hmem hL3 hbl3 Hcall hb2
 obtain⟨a2,c2,rfl,_⟩:=Lies.slice HL3.out
 have Htx:Hid (Txt (fun s=>s.size≤281474976710656) (d+1) ⟨5,0,⟨#[]⟩,m⟩):=⟨(by show 0≤281474976710656;omega),fun x hx=>right_txt d x (by
  have:=Hgood.out x ((Hmem.out.mem x).1 hx)
  simp only [zab,Bool.and_eq_true] at this
  exact this.2)⟩
 go_wp2_with fail
 refine (made_any (d+1) 5 m (.slice a2 m.length c2) _ HL3.out Htx.out).mono ?_
 intro e w4 hm
 obtain⟨hb4,hm⟩:=madeLies hm
 have hbw4:Below w.heap.size w w4:=hbw3.trans (hb4.mono hbw3.size)
 have HK4:Hid (Blank w4 w.heap.size):=HK3.out.keeps hb4
 clear HK3 HL3 Htx hb4
 obtain⟨y0,y1,y2,y3,z0,z1,z2,z3⟩:=HK4.out
 rcases hm with ⟨hf,rfl⟩|⟨hf,v,rfl,hLB⟩
 ·have Hf:Hid ((fw (d+1) ⟨5,0,⟨#[]⟩,m⟩ 16 1024).1=false):=hf
  have Hbx:Hid _:=HK4.out.put (⟨0,0,⟨#[]⟩,[]⟩,.slice none 0 0)
  have Hbl:Hid _:=zap hbw4 (Nat.le_refl _) (⟨0,0,⟨#[]⟩,[]⟩,.slice none 0 0)
  clear hf
  unfold zeroAgg
  go_wp2_with fail
  refine bodyPost_ret (v:=.tuple #[.agg #[.int .i64 0,.int .i64 0,.string ⟨#[]⟩,.slice none 0 0],.int .i64 2]) ?_ rfl ⟨Hbl.out,.inr ⟨Herr.out,m,Hmem.out,.inl ⟨Hf.out,rfl⟩⟩⟩
  obtain⟨q0,q1,q2,q3⟩:=Hbx.out
  simp only [encP,World.setCells,Nat.zero_add,Nat.reduceAdd] at q0 q1 q2 q3
  simp [results,Tryz.results70,go_sem,q0,q1,q2,q3]
 ·have Hf:Hid ((fw (d+1) ⟨5,0,⟨#[]⟩,m⟩ 16 1024).1=true):=hf
  have HLB:Hid (LiesB (w.heap.size+1) (d+1) w4 m v):=LiesB.lower (by omega) _ _ _ hLB
  clear hf hLB
  obtain⟨av,cv,rfl,_⟩:=LiesB.slice HLB.out
  have Hbx:Hid _:=HK4.out.put (⟨5,0,⟨#[]⟩,m⟩,.slice av m.length cv)
  have Hbl:Hid _:=zap hbw4 (Nat.le_refl _) (⟨5,0,⟨#[]⟩,m⟩,.slice av m.length cv)
  have Hfin:Hid (LiesB w.heap.size (d+1) (w4.setCells w.heap.size 0 (encP (⟨5,0,⟨#[]⟩,m⟩,.slice av m.length cv))) m (.slice av m.length cv)):=
   LiesB.lower (by omega) _ _ _ (LiesB.stays (base:=w.heap.size+1) (fun x v hx hv=>⟨by rw [World.cell?_setCells_out w.heap.size _ 0 w4 x (fun e _=>by omega)];exact hv,World.frozen?_setCells ..⟩) _ _ _ HLB.out)
  go_wp2_with fail
  refine bodyPost_ret (v:=.tuple #[.agg #[.int .i64 5,.int .i64 0,.string ⟨#[]⟩,.slice av m.length cv],.int .i64 0]) ?_ rfl ⟨Hbl.out,.inr ⟨Herr.out,m,Hmem.out,.inr ⟨Hf.out,_,rfl,Hfin.out⟩⟩⟩
  obtain⟨q0,q1,q2,q3⟩:=Hbx.out
  simp only [encP,World.setCells,Nat.zero_add,Nat.reduceAdd] at q0 q1 q2 q3
  simp [results,Tryz.results70,go_sem,q0,q1,q2,q3]
set_option maxHeartbeats 2000000 in
theorem set_bad (d:Nat) (l:List VT) (a:Option Addr) (c:Nat) (w:World) (hu:Lies (d+1) w l (.slice a l.length c)) (herr:zaf d l≠0):Calls Tryz.prog 70 #[.slice a l.length c] w (SetPostB d l w):=by
 have HL:Hid (Lies (d+1) w l (.slice a l.length c)):=hu
 have Herr:Hid (zaf d l≠0):=herr
 have hne:(zaf d l != 0)=true:=by simpa using herr
 have HK:Hid (Blank (w.alloc (.cells #[.int .i64 0,.int .i64 0,.string ⟨#[]⟩,.slice none 0 0] 33)) w.heap.size):=blank_alloc w
 have hbz:Below w.heap.size w (w.alloc (.cells #[.int .i64 0,.int .i64 0,.string ⟨#[]⟩,.slice none 0 0] 33)):=((Grew.refl w).alloc _).below
 clear hu herr
 go_enter Tryz.func70,Tryz.ntmps70
 go_wp2_with fail
 refine (checkList_any d l (.slice a l.length c) _ (Lies.keeps hbz _ _ _ HL.out)).mono ?_
 rintro e w1 ⟨rfl,hb⟩
 have hb1:Below w.heap.size w w1:=hbz.trans (hb.mono (by simp))
 have HK1:Hid (Blank w1 w.heap.size):=HK.out.keeps hb
 clear hb HK hbz
 obtain⟨y0,y1,y2,y3,z0,z1,z2,z3⟩:=HK1.out
 have Hbx:Hid _:=HK1.out.put (⟨0,0,⟨#[]⟩,[]⟩,.slice none 0 0)
 have Hbl:Hid _:=zap hb1 (Nat.le_refl _) (⟨0,0,⟨#[]⟩,[]⟩,.slice none 0 0)
 go_wp2_with fail
 refine bodyPost_ret (v:=.tuple #[.agg #[.int .i64 0,.int .i64 0,.string ⟨#[]⟩,.slice none 0 0],.int .i64 (zaf d l)]) ?_ rfl ⟨Hbl.out,.inl ⟨Herr.out,rfl⟩⟩
 obtain⟨q0,q1,q2,q3⟩:=Hbx.out
 simp only [encP,World.setCells,Nat.zero_add,Nat.reduceAdd] at q0 q1 q2 q3
 simp [results,Tryz.results70,go_sem,q0,q1,q2,q3]
theorem set_anyB (d:Nat) (l:List VT) (a:Option Addr) (c:Nat) (w:World) (hu:Lies (d+1) w l (.slice a l.length c)):Calls Tryz.prog 70 #[.slice a l.length c] w (SetPostB d l w):=by
 by_cases herr:zaf d l=0
 ·obtain⟨hlen,hright⟩:=za8 herr
  refine set_core d l a c w hu herr (fun W hbW hszW hblW=>?_)
  have hLW:=Lies.keeps hbW _ _ _ hu
  by_cases hne:l=[]
  ·subst hne
   refine (sorted_none a c W).mono fun e W1 hh=>?_
   obtain⟨a',c',he,hb1⟩:=hh
   refine⟨_,he,hb1,(compact_few a' 0 c' W1 (by omega)).mono fun e2 W2 h2=>?_⟩
   obtain⟨he2,hw2⟩:=h2
   subst hw2
   exact⟨_,[],he2,⟨List.Pairwise.nil,fun x=>Iff.rfl⟩,⟨a',c',rfl,by simp,fun h=>absurd rfl h⟩,hbW.trans (hb1.mono hbW.size),hblW.keeps hb1⟩
  ·obtain⟨a0,c0,hv,_,ps,hps,hsd,hrow⟩:=Lies.row hLW
   obtain⟨b,o,ha,hr⟩:=hrow hne
   have e1:ps.length=l.length:=by rw [←hps,List.length_map]
   have hv':(Value.slice a l.length c)=.slice (some ⟨b,o,none⟩) ps.length c:=by
    have:=hv
    simp only [Value.slice.injEq] at this
    rw [this.1,ha,e1]
   rw [hv']
   have hpne:ps≠[]:=fun e=>hne (by rw [←hps,e];rfl)
   refine (sorted_some d b o c ps W hr hsd hpne (by omega)).mono fun e W1 hh=>?_
   obtain⟨g,cap,qs,he,hp,hri,hrow1,hfz,hg,hcap,hlt,hb1⟩:=hh
   have hql:qs.length=ps.length:=hp.length_eq
   refine⟨_,he,hb1,?_⟩
   rw [←hql]
   have hRW:RowW W g qs.length qs W1:=⟨hrow1,(fun k hk=>hfz k (by rw [hql] at hk;exact hk)),hlt,hb1⟩
   refine (compact_any d g cap W W1 qs (fun p hpq=>hsd p (hp.mem_iff.1 hpq)) hg hRW (by omega) (by omega)).mono fun e2 W2 h2=>?_
   obtain⟨k,he2,hk,hRW2⟩:=h2
   have hgood:∀x∈l,Good d x:=fun x hx=>⟨hright x hx,by
    rw [←hps] at hx
    obtain⟨p,hpp,rfl⟩:=List.mem_map.1 hx
    exact lies_dp d W p.1 p.2 (hsd p hpp).1⟩
   obtain⟨hM,hsub⟩:=uniq_members d l ps qs hps hgood hp hri
   have hb2:Below W.heap.size W W2:=hRW2.below
   refine⟨_,_,he2,hM,?_,hbW.trans (hb2.mono hbW.size),hblW.keeps hb2⟩
   have:=lies_of_row (d:=d) (c:=cap) hRW2.row (fun p hpu=>(hsd p (hsub p hpu)).keeps hb2) (by
    have:=hM
    have hle:(uniq (eqB d) qs).length≤qs.length:=by
     have hlen2:=hRW2
     exact uniq_le _ _
    omega) (by have:=uniq_le (eqB d) qs;omega)
   rw [hk]
   exact this
 ·exact set_bad d l a c w hu herr
end Go.Proofs.YtlnecfjnffdciabGreat

