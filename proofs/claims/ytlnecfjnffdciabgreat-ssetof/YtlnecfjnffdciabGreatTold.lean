import Derived.Test.YtlnecfjnffdciabGreatMade
import Derived.Test.YtlnecfjnffdciabGreatEq
import Derived.Test.YtlnecfjnffdciabGreatSameEq
import Derived.Test.YtlnecfjnffdciabGreatListed
import Derived.Test.YtlnecfjnffdciabGreatLiesX
import Derived.Test.YtlnecfjnffdciabGreatRotate
import Derived.Deep.RegionHeld3
namespace Go.Proofs.YtlnecfjnffdciabGreat
open Go.RowKit
def zeroAgg:Value:=.agg #[.int .i64 0,.int .i64 0,.string ⟨#[]⟩,.slice none 0 0]
theorem za8 {d:Nat} {l:List VT} (h:zaf d l=0):l.length≤65536∧∀x∈l,zab d x=true:=by
 unfold zaf at h
 by_cases h1:65536<l.length
 ·rw [if_pos h1] at h;omega
 ·rw [if_neg h1] at h
  cases h2:l.all (zab d)
  ·rw [h2] at h;simp at h
  ·exact⟨by omega,List.all_eq_true.1 h2⟩
theorem right_txt:∀(d:Nat) (t:VT),rpV d t=true→Txt (fun s=>s.size≤281474976710656) d t:=by
 intro d
 induction d with
 | zero=>intro t h;have:=(za0 (d:=0) h).1;exact Nat.le_trans this (by omega)
 | succ d ih=>
  intro t h
  simp only [rpV,Bool.and_eq_true,List.all_eq_true] at h
  exact⟨Nat.le_trans (za0 h.2).1 (by omega),fun x hx=>ih x (h.1 x hx)⟩
theorem madeLies {d:Nat} {t:VT} {w:World} {e:Ending} {w':World} (h:MadePost d t w e w') :
 Below w.heap.size w w'∧(((fw d t 16 1024).1=false∧e=.returned (.tuple #[zeroAgg,.int .i64 2]))∨((fw d t 16 1024).1=true∧∃v,e=.returned (.tuple #[.agg #[.int .i64 t.kind,.int .i64 0,.string ⟨#[]⟩,v],.int .i64 0])∧LiesB w.heap.size d w' t.items v)):=by
 unfold MadePost at h
 by_cases hf:(fw d t 16 1024).1=true
 ·rw [if_pos hf] at h
  obtain⟨v,he,hl,hb⟩:=h
  exact⟨hb,.inr ⟨hf,v,he,hl⟩⟩
 ·rw [if_neg hf] at h
  exact⟨h.2,.inl ⟨by simpa using hf,h.1⟩⟩
end Go.Proofs.YtlnecfjnffdciabGreat

namespace Go.Proofs.YtlnecfjnffdciabGreat
open Go.RowKit
def ToldPost (X:Nat→Prop) (d:Nat) (t:VT) (w:World) (e:Ending) (w':World):Prop:=
 Below w.heap.size w w'∧((zab d t=false∧e=.returned (.tuple #[zeroAgg,.int .i64 2]))∨(zab d t=true∧∃v,e=.returned (.tuple #[.agg #[.int .i64 t.kind,.int .i64 t.num,.string t.text,v],.int .i64 0])∧LiesX X d w' t.items v))
set_option maxHeartbeats 2000000 in
theorem rtold_any (X:Nat→Prop) (d:Nat) (t:VT) (u:Value) (w:World) (hX:∀b,X b→b<w.heap.size) (hu:LiesX X d w t.items u):Calls Tryz.prog 125 #[.agg #[.int .i64 t.kind,.int .i64 t.num,.string t.text,u]] w (ToldPost X d t w):=by
 obtain⟨a,c,rfl,_⟩:=LiesX.slice hu
 have HLX:Hid (LiesX X d w t.items (.slice a t.items.length c)):=hu
 have HL:Hid (Lies d w t.items (.slice a t.items.length c)):=hu.lies
 have HXX:Hid (∀b,X b→b<w.heap.size):=hX
 clear hu hX
 have hb2:Below w.heap.size w ((w.alloc (.cells #[.int .i64 t.kind,.int .i64 t.num,.string t.text,.slice a t.items.length c] 33)).alloc (.cells #[.int .i64 0,.int .i64 0,.string ⟨#[]⟩,.slice none 0 0] 33)):=(Grew.two _ _ _).below
 have HR:Hid (Bx ((w.alloc (.cells #[.int .i64 t.kind,.int .i64 t.num,.string t.text,.slice a t.items.length c] 33)).alloc (.cells #[.int .i64 0,.int .i64 0,.string ⟨#[]⟩,.slice none 0 0] 33)) (w.heap.size+1) zeroT (.slice none 0 0)):=by
  have:=zan (w.alloc (.cells #[.int .i64 t.kind,.int .i64 t.num,.string t.text,.slice a t.items.length c] 33)) zeroT (.slice none 0 0)
  rwa [World.size_alloc] at this
 have HX:Hid (Bx ((w.alloc (.cells #[.int .i64 t.kind,.int .i64 t.num,.string t.text,.slice a t.items.length c] 33)).alloc (.cells #[.int .i64 0,.int .i64 0,.string ⟨#[]⟩,.slice none 0 0] 33)) w.heap.size t (.slice a t.items.length c)):=(zan w t _).keeps ((Grew.refl _).alloc _).below
 go_enter Tryz.func125,Tryz.ntmps125
 go_wp2_with fail
 refine (right_any d t _ _ (Lies.keeps hb2 _ _ _ HL.out)).mono ?_
 rintro e w2 ⟨rfl,hb⟩
 have hb3:Below w.heap.size w w2:=hb2.trans (hb.mono hb2.size)
 have HR2:Hid (Bx w2 (w.heap.size+1) zeroT (.slice none 0 0)):=HR.out.keeps hb
 obtain⟨x0,x1,x2,x3,_,_,_,_⟩:=HX.out.keeps hb
 clear hb hb2 HR HX
 cases hr:zab d t
 ·have Hr:Hid (zab d t=false):=hr
  clear hr
  obtain⟨y0,y1,y2,y3,z0,z1,z2,z3⟩:=HR2.out
  have Hbx:Hid (Bx (w2.setCells (w.heap.size+1) 0 (encP (zeroT,.slice none 0 0))) (w.heap.size+1) (zeroT) (.slice none 0 0)):=HR2.out.put (zeroT,.slice none 0 0)
  have Hbl:Hid (Below w.heap.size w (w2.setCells (w.heap.size+1) 0 (encP (zeroT,.slice none 0 0)))):=zap hb3 (by omega) (zeroT,.slice none 0 0)
  go_wp2_with fail
  refine bodyPost_ret (v:=.tuple #[.agg #[.int .i64 0,.int .i64 0,.string ⟨#[]⟩,.slice none 0 0],.int .i64 2]) ?_ rfl ⟨Hbl.out,.inl ⟨Hr.out,rfl⟩⟩
  obtain⟨q0,q1,q2,q3,_,_,_,_⟩:=Hbx.out
  simp only [encP,World.setCells,Nat.zero_add,Nat.reduceAdd] at q0 q1 q2 q3
  simp [results,Tryz.results125,go_sem,q0,q1,q2,q3]
 ·have Hr:Hid (zab d t=true):=hr
  clear hr
  obtain⟨y0,y1,y2,y3,z0,z1,z2,z3⟩:=HR2.out
  have Hbx:Hid (Bx (w2.setCells (w.heap.size+1) 0 (encP (t,.slice a t.items.length c))) (w.heap.size+1) (t) (.slice a t.items.length c)):=HR2.out.put (t,.slice a t.items.length c)
  have Hbl:Hid (Below w.heap.size w (w2.setCells (w.heap.size+1) 0 (encP (t,.slice a t.items.length c)))):=zap hb3 (by omega) (t,.slice a t.items.length c)
  have Hfin:Hid (LiesX X d (w2.setCells (w.heap.size+1) 0 (encP (t,.slice a t.items.length c))) t.items (.slice a t.items.length c)):=(HLX.out.keeps hb3).set (g:=w.heap.size+1) (fun h=>by have:=HXX.out _ h;omega)
  go_wp2_with fail
  refine bodyPost_ret (v:=.tuple #[.agg #[.int .i64 t.kind,.int .i64 t.num,.string t.text,.slice a t.items.length c],.int .i64 0]) ?_ rfl ⟨Hbl.out,.inr ⟨Hr.out,_,rfl,Hfin.out⟩⟩
  obtain⟨q0,q1,q2,q3,_,_,_,_⟩:=Hbx.out
  simp only [encP,World.setCells,Nat.zero_add,Nat.reduceAdd] at q0 q1 q2 q3
  simp [results,Tryz.results125,go_sem,q0,q1,q2,q3]
set_option maxHeartbeats 2000000 in
theorem values_all (d:Nat) (l:List VT) (u v:Value) (w:World) (hu:Lies (d+1) w l u) (hv:Lies (d+1) w l v) :
 Calls Tryz.prog 47 #[u,v] w fun e w'=>e=.returned (.bool true)∧Below w.heap.size w w':=by
 obtain⟨a1,c1,rfl,⟨_,hlen⟩,hr1⟩:=hu
 obtain⟨a2,c2,rfl,_,hr2⟩:=hv
 have Hr1:Hid _:=hr1;have Hr2:Hid _:=hr2
 clear hr1 hr2
 have hne:((l.length:Int) != (l.length:Int))=false:=by simp
 go_enter Tryz.func47,Tryz.ntmps47
 go_wp2_with fail
 go_loopg [13] l.length (fun g i wr=>∃j:Nat,i=.int .i64 (j:Int)∧j≤l.length∧g=l.length-j∧Below w.heap.size w wr)
 case atStart=>exact⟨0,rfl,by omega,by omega,Below.refl _ _⟩
 case round=>
  obtain⟨j,rfl,hj,hk,hbw⟩:=hrel
  have Hk:Hid _:=hk
  clear hk hne
  by_cases hlt:j<l.length
  ·obtain⟨b1,o1,rfl,hall1⟩:=Hr1.out (by intro e;simp [e] at hlt)
   obtain⟨b2,o2,rfl,hall2⟩:=Hr2.out (by intro e;simp [e] at hlt)
   obtain⟨x,p0,p1,p2,p3,p4,_⟩:=hall1 j hlt
   obtain⟨y,q0,q1,q2,q3,q4,_⟩:=hall2 j hlt
   clear hall1 hall2
   obtain⟨ax,cx,rfl,_⟩:=Lies.slice p4
   obtain⟨ay,cy,rfl,_⟩:=Lies.slice q4
   have p0:=zaa hbw p0;have p1:=zaa hbw p1;have p2:=zaa hbw p2;have p3:=zaa hbw p3
   have q0:=zaa hbw q0;have q1:=zaa hbw q1;have q2:=zaa hbw q2;have q3:=zaa hbw q3
   have p4:Hid (Lies d w l[j].items (.slice ax l[j].items.length cx)):=p4
   have q4:Hid (Lies d w l[j].items (.slice ay l[j].items.length cy)):=q4
   have hl1:b1<wr.heap.size:=zac p0
   have hl2:b2<wr.heap.size:=zac q0
   have HSm:Hid (∀W,Lies d W l[j].items (.slice ax l[j].items.length cx)→Lies d W l[j].items (.slice ay l[j].items.length cy)→Calls Tryz.prog 19 #[.agg #[.int .i64 l[j].kind,.int .i64 l[j].num,.string l[j].text,.slice ax l[j].items.length cx],.agg #[.int .i64 l[j].kind,.int .i64 l[j].num,.string l[j].text,.slice ay l[j].items.length cy]] W fun e W'=>e=.returned (.bool true)∧Below W.heap.size W W'):=fun W h1 h2=>(same_any d l[j] l[j] _ _ W h1 h2).mono fun e W' h=>⟨by rw [h.1,sameV_self],h.2.below⟩
   go_wp2_with fail
   go_region_held3 (fun w'=>w'.cell? ⟨b1,o1+j*4,none⟩=some (.int .i64 l[j].kind)∧w'.cell? ⟨b1,o1+j*4+1,none⟩=some (.int .i64 l[j].num)∧w'.cell? ⟨b1,o1+j*4+2,none⟩=some (.string l[j].text)∧w'.cell? ⟨b1,o1+j*4+3,none⟩=some (.slice ax l[j].items.length cx)
    ∧w'.cell? ⟨b2,o2+j*4,none⟩=some (.int .i64 l[j].kind)∧w'.cell? ⟨b2,o2+j*4+1,none⟩=some (.int .i64 l[j].num)∧w'.cell? ⟨b2,o2+j*4+2,none⟩=some (.string l[j].text)∧w'.cell? ⟨b2,o2+j*4+3,none⟩=some (.slice ay l[j].items.length cy)) (go_keep)
    (first|(go_at_call 19;refine Calls.mono (HSm.out _ (Lies.keeps hbw.drew _ _ _ p4.out) (Lies.keeps hbw.drew _ _ _ q4.out)) ?_;rintro e w1 ⟨rfl,hb1⟩;have hb2:Below wr.heap.size wr w1:=(Below.refl _ _).drew.trans hb1;clear hb1;have r0:=zaa hb2 p0;have r1:=zaa hb2 p1;have r2:=zaa hb2 p2;have r3:=zaa hb2 p3;have t0:=zaa hb2 q0;have t1:=zaa hb2 q1;have t2:=zaa hb2 q2;have t3:=zaa hb2 q3))
   have hb3:Below w.heap.size w w1:=hbw.trans (hb2.mono hbw.size)
   clear p4 q4 p0 p1 p2 p3 q0 q1 q2 q3 r0 r1 r2 r3 t0 t1 t2 t3 HSm
   go_wp2_with fail
   go_roundg (l.length-(j+1))
   case measure=>have:=Hk.out;omega
   case rel=>exact⟨j+1,by go_num,by omega,rfl,hb3⟩
  ·go_wp2_with fail
   go_ret
   exact⟨rfl,hbw⟩
theorem values_same (d:Nat) (l:List VT) (u v:Value) (w:World) (hu:Lies (d+1) w l u) (hv:Lies (d+1) w l v) (_:l.length≤65536) :
 Calls Tryz.prog 47 #[u,v] w fun e w'=>e=.returned (.bool true)∧Below w.heap.size w w':=values_all d l u v w hu hv
end Go.Proofs.YtlnecfjnffdciabGreat

