import Derived.Test.YtcflooaoocngdaaGreatMade
import Derived.Test.YtcflooaoocngdaaGreatSameEq
import Derived.Test.YtcflooaoocngdaaGreatRowX
set_option maxHeartbeats 2000000
namespace Go.Proofs.YtcflooaoocngdaaGreat
open Go.RowKit
def zeroAgg:Value:=.agg #[.int .i64 0,.int .i64 0,.string ⟨#[]⟩,.slice none 0 0]
theorem listErr_zero {d:Nat} {l:List VT} (h:zad d l=0):l.length≤65536∧∀x∈l,zab d x=true:=by
 unfold zad at h
 by_cases h1:65536<l.length
 ·rw [if_pos h1] at h;omega
 ·rw [if_neg h1] at h
  cases h2:l.all (zab d)
  ·rw [h2] at h;simp at h
  ·exact⟨by omega,List.all_eq_true.1 h2⟩
theorem right_txt:∀(d:Nat) (t:VT),rpV d t=true→Txt (fun s=>s.size≤281474976710656) d t:=by
 intro d
 induction d with
 | zero=>intro t h;have:=(right_text (d:=0) h).1;exact Nat.le_trans this (by omega)
 | succ d ih=>
  intro t h
  simp only [rpV,Bool.and_eq_true,List.all_eq_true] at h
  exact⟨Nat.le_trans (right_text h.2).1 (by omega),fun x hx=>ih x (h.1 x hx)⟩
theorem right_rp {d:Nat} {t:VT} (h:zab d t=true):rpV d t=true:=by
 simp only [zab,Bool.and_eq_true] at h
 exact h.2
theorem madeLies {d:Nat} {t:VT} {w:World} {e:Ending} {w':World} (h:MadePost d t w e w') :
 Below w.heap.size w w'∧(((fw d t 16 1024).1=false∧e=.returned (.tuple #[zeroAgg,.int .i64 2]))∨((fw d t 16 1024).1=true∧∃v,e=.returned (.tuple #[.agg #[.int .i64 t.kind,.int .i64 0,.string ⟨#[]⟩,v],.int .i64 0])∧LiesB w.heap.size d w' t.items v)):=by
 unfold MadePost at h
 by_cases hf:(fw d t 16 1024).1=true
 ·rw [if_pos hf] at h
  obtain⟨v,he,hl,hb⟩:=h
  exact⟨hb,.inr ⟨hf,v,he,hl⟩⟩
 ·rw [if_neg hf] at h
  exact⟨h.2,.inl ⟨by simpa using hf,h.1⟩⟩
def listT (l:List VT):VT:=⟨4,0,⟨#[]⟩,l⟩
def ListPost (d:Nat) (l:List VT) (w:World) (e:Ending) (w':World):Prop:=
 Below w.heap.size w w'∧
 ((zad d l≠0∧e=.returned (.tuple #[zeroAgg,.int .i64 (zad d l)]))∨
  (zad d l=0∧
   (((fw (d+1) (listT l) 16 1024).1=false∧e=.returned (.tuple #[zeroAgg,.int .i64 2]))∨
    ((fw (d+1) (listT l) 16 1024).1=true∧∃v,e=.returned (.tuple #[.agg #[.int .i64 4,.int .i64 0,.string ⟨#[]⟩,v],.int .i64 0])∧LiesB w.heap.size (d+1) w' l v))))
theorem vlist_any (d:Nat) (l:List VT) (u:Value) (w:World) (hu:Lies (d+1) w l u):Calls Tryz.prog 13 #[u] w (ListPost d l w):=by
 obtain⟨a,c,rfl,_⟩:=Lies.slice hu
 have HL:Hid (Lies (d+1) w l (.slice a l.length c)):=hu
 have HK:Hid (Blank (w.alloc (.cells #[.int .i64 0,.int .i64 0,.string ⟨#[]⟩,.slice none 0 0] 27)) w.heap.size):=blank_alloc w
 have hbz:Below w.heap.size w (w.alloc (.cells #[.int .i64 0,.int .i64 0,.string ⟨#[]⟩,.slice none 0 0] 27)):=((Grew.refl w).alloc _).below
 clear hu
 go_enter Tryz.func13,Tryz.ntmps13
 go_wp2_with fail
 refine (checkList_any d l (.slice a l.length c) _ (Lies.keeps hbz _ _ _ HL.out)).mono ?_
 rintro e w1 ⟨rfl,hb⟩
 have hb1:Below w.heap.size w w1:=hbz.trans (hb.mono (by simp))
 have HK1:Hid (Blank w1 w.heap.size):=HK.out.keeps hb
 have hsz1:w.heap.size<w1.heap.size:=by have:=hb.size;simp at this;omega
 clear hb HK hbz
 by_cases herr:zad d l=0
 ·have Herr:Hid (zad d l=0):=herr
  have Hgood:Hid (∀x∈l,zab d x=true):=(listErr_zero herr).2
  rw [herr]
  clear herr
  have Htx:Hid (Txt (fun s=>s.size≤281474976710656) (d+1) ⟨4,0,⟨#[]⟩,l⟩):=⟨(by show 0≤281474976710656;omega),fun x hx=>right_txt d x (right_rp (Hgood.out x hx))⟩
  go_wp2_with fail
  refine (made_any (d+1) 4 l (.slice a l.length c) _ (Lies.keeps hb1 _ _ _ HL.out) Htx.out).mono ?_
  intro e w4 hm
  obtain⟨hb4,hm⟩:=madeLies hm
  have hbw4:Below w.heap.size w w4:=hb1.trans (hb4.mono hb1.size)
  have HK4:Hid (Blank w4 w.heap.size):=HK1.out.keeps hb4
  clear HK1 Htx hb4
  obtain⟨y0,y1,y2,y3,z0,z1,z2,z3⟩:=HK4.out
  rcases hm with ⟨hf,rfl⟩|⟨hf,v,rfl,hLB⟩
  ·have Hf:Hid ((fw (d+1) (listT l) 16 1024).1=false):=hf
   have Hbx:Hid _:=HK4.out.put (⟨0,0,⟨#[]⟩,[]⟩,.slice none 0 0)
   have Hbl:Hid _:=zag hbw4 (Nat.le_refl _) (⟨0,0,⟨#[]⟩,[]⟩,.slice none 0 0)
   clear hf
   unfold zeroAgg
   go_wp2_with fail
   refine bodyPost_ret (v:=.tuple #[.agg #[.int .i64 0,.int .i64 0,.string ⟨#[]⟩,.slice none 0 0],.int .i64 2]) ?_ rfl ⟨Hbl.out,.inr ⟨Herr.out,.inl ⟨Hf.out,rfl⟩⟩⟩
   obtain⟨q0,q1,q2,q3⟩:=Hbx.out
   simp only [encP,World.setCells,Nat.zero_add,Nat.reduceAdd] at q0 q1 q2 q3
   simp [results,Tryz.results13,go_sem,q0,q1,q2,q3]
  ·have Hf:Hid ((fw (d+1) (listT l) 16 1024).1=true):=hf
   have HLB:Hid (LiesB (w.heap.size+1) (d+1) w4 l v):=LiesB.lower (by omega) _ _ _ hLB
   clear hf hLB
   obtain⟨av,cv,rfl,_⟩:=LiesB.slice HLB.out
   have Hbx:Hid _:=HK4.out.put (⟨4,0,⟨#[]⟩,l⟩,.slice av l.length cv)
   have Hbl:Hid _:=zag hbw4 (Nat.le_refl _) (⟨4,0,⟨#[]⟩,l⟩,.slice av l.length cv)
   have Hfin:Hid (LiesB w.heap.size (d+1) (w4.setCells w.heap.size 0 (encP (⟨4,0,⟨#[]⟩,l⟩,.slice av l.length cv))) l (.slice av l.length cv)):=
    LiesB.lower (by omega) _ _ _ (LiesB.stays (base:=w.heap.size+1) (fun x v hx hv=>⟨by rw [World.cell?_setCells_out w.heap.size _ 0 w4 x (fun e _=>by omega)];exact hv,World.frozen?_setCells ..⟩) _ _ _ HLB.out)
   go_wp2_with fail
   refine bodyPost_ret (v:=.tuple #[.agg #[.int .i64 4,.int .i64 0,.string ⟨#[]⟩,.slice av l.length cv],.int .i64 0]) ?_ rfl ⟨Hbl.out,.inr ⟨Herr.out,.inr ⟨Hf.out,_,rfl,Hfin.out⟩⟩⟩
   obtain⟨q0,q1,q2,q3⟩:=Hbx.out
   simp only [encP,World.setCells,Nat.zero_add,Nat.reduceAdd] at q0 q1 q2 q3
   simp [results,Tryz.results13,go_sem,q0,q1,q2,q3]
 ·have Herr:Hid (zad d l≠0):=herr
  have hne:(zad d l != 0)=true:=by simpa using herr
  clear herr
  obtain⟨y0,y1,y2,y3,z0,z1,z2,z3⟩:=HK1.out
  have Hbx:Hid _:=HK1.out.put (⟨0,0,⟨#[]⟩,[]⟩,.slice none 0 0)
  have Hbl:Hid _:=zag hb1 (Nat.le_refl _) (⟨0,0,⟨#[]⟩,[]⟩,.slice none 0 0)
  go_wp2_with fail
  refine bodyPost_ret (v:=.tuple #[.agg #[.int .i64 0,.int .i64 0,.string ⟨#[]⟩,.slice none 0 0],.int .i64 (zad d l)]) ?_ rfl ⟨Hbl.out,.inl ⟨Herr.out,rfl⟩⟩
  obtain⟨q0,q1,q2,q3⟩:=Hbx.out
  simp only [encP,World.setCells,Nat.zero_add,Nat.reduceAdd] at q0 q1 q2 q3
  simp [results,Tryz.results13,go_sem,q0,q1,q2,q3]
theorem values_all (d:Nat) (l:List VT) (u v:Value) (w:World) (hu:Lies (d+1) w l u) (hv:Lies (d+1) w l v) :
 Calls Tryz.prog 5 #[u,v] w fun e w'=>e=.returned (.bool true)∧Below w.heap.size w w':=by
 obtain⟨a1,c1,rfl,⟨_,hlen⟩,hr1⟩:=hu
 obtain⟨a2,c2,rfl,_,hr2⟩:=hv
 have Hr1:Hid _:=hr1;have Hr2:Hid _:=hr2
 clear hr1 hr2
 have hne:((l.length:Int) != (l.length:Int))=false:=by simp
 go_enter Tryz.func5,Tryz.ntmps5
 go_wp2_with fail
 go_loopg [13] l.length (fun g i wr=>∃j:Nat,i=.int .i64 (j:Int)∧j≤l.length∧g=l.length-j∧Below w.heap.size w wr)
 case atStart=>exact⟨0,rfl,by omega,by omega,Below.refl _ _⟩
 case round=>
  obtain⟨j,rfl,hj,hk,hbw⟩:=hrel
  have Hk:Hid _:=hk
  clear hk hne
  by_cases hlt:j<l.length
  ·obtain⟨b1,o1,rfl,hall1⟩:=Hr1.out (by intro e;simp [e] at hlt)
   obtain⟨b2,o2,rfl,hall2⟩:=Hr2.out (by intro e;simp [e] at hlt)
   obtain⟨x,p0,p1,p2,p3,p4,_⟩:=hall1 j hlt
   obtain⟨y,q0,q1,q2,q3,q4,_⟩:=hall2 j hlt
   clear hall1 hall2
   obtain⟨ax,cx,rfl,_⟩:=Lies.slice p4
   obtain⟨ay,cy,rfl,_⟩:=Lies.slice q4
   have p0:=zaa hbw p0;have p1:=zaa hbw p1;have p2:=zaa hbw p2;have p3:=zaa hbw p3
   have q0:=zaa hbw q0;have q1:=zaa hbw q1;have q2:=zaa hbw q2;have q3:=zaa hbw q3
   have p4:Hid (Lies d w l[j].items (.slice ax l[j].items.length cx)):=p4
   have q4:Hid (Lies d w l[j].items (.slice ay l[j].items.length cy)):=q4
   have hl1:b1<wr.heap.size:=zae p0
   have hl2:b2<wr.heap.size:=zae q0
   have HSm:Hid (∀W,Lies d W l[j].items (.slice ax l[j].items.length cx)→Lies d W l[j].items (.slice ay l[j].items.length cy)→Calls Tryz.prog 14 #[.agg #[.int .i64 l[j].kind,.int .i64 l[j].num,.string l[j].text,.slice ax l[j].items.length cx],.agg #[.int .i64 l[j].kind,.int .i64 l[j].num,.string l[j].text,.slice ay l[j].items.length cy]] W fun e W'=>e=.returned (.bool true)∧Below W.heap.size W W'):=fun W h1 h2=>(same_any d l[j] l[j] _ _ W h1 h2).mono fun e W' h=>⟨by rw [h.1,sameV_self],h.2.below⟩
   go_wp2_with fail
   go_region_held3 (fun w'=>w'.cell? ⟨b1,o1+j*4,none⟩=some (.int .i64 l[j].kind)∧w'.cell? ⟨b1,o1+j*4+1,none⟩=some (.int .i64 l[j].num)∧w'.cell? ⟨b1,o1+j*4+2,none⟩=some (.string l[j].text)∧w'.cell? ⟨b1,o1+j*4+3,none⟩=some (.slice ax l[j].items.length cx)
    ∧w'.cell? ⟨b2,o2+j*4,none⟩=some (.int .i64 l[j].kind)∧w'.cell? ⟨b2,o2+j*4+1,none⟩=some (.int .i64 l[j].num)∧w'.cell? ⟨b2,o2+j*4+2,none⟩=some (.string l[j].text)∧w'.cell? ⟨b2,o2+j*4+3,none⟩=some (.slice ay l[j].items.length cy)) (go_keep)
    (first|(go_at_call 14;refine Calls.mono (HSm.out _ (Lies.keeps hbw.drew _ _ _ p4.out) (Lies.keeps hbw.drew _ _ _ q4.out)) ?_;rintro e w1 ⟨rfl,hb1⟩;have hb2:Below wr.heap.size wr w1:=(Below.refl _ _).drew.trans hb1;clear hb1;have r0:=zaa hb2 p0;have r1:=zaa hb2 p1;have r2:=zaa hb2 p2;have r3:=zaa hb2 p3;have t0:=zaa hb2 q0;have t1:=zaa hb2 q1;have t2:=zaa hb2 q2;have t3:=zaa hb2 q3))
   have hb3:Below w.heap.size w w1:=hbw.trans (hb2.mono hbw.size)
   clear p4 q4 p0 p1 p2 p3 q0 q1 q2 q3 r0 r1 r2 r3 t0 t1 t2 t3 HSm
   go_wp2_with fail
   go_roundg (l.length-(j+1))
   case measure=>have:=Hk.out;omega
   case rel=>exact⟨j+1,by go_num,by omega,rfl,hb3⟩
  ·go_wp2_with fail
   go_ret
   exact⟨rfl,hbw⟩
end Go.Proofs.YtcflooaoocngdaaGreat
