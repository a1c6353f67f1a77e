import Derived.Test.YtlnecfjnffdciacGreatClo
import Derived.Test.YtlnecfjnffdciacGreatSameEq
import Derived.Test.YtlnecfjnffdciacGreatLiesX
namespace Go.Proofs.YtlnecfjnffdciacGreat
open Go.RowKit
set_option maxHeartbeats 2000000 in
theorem values_all (d:Nat) (l:List VT) (u v:Value) (w:World) (hu:Lies (d+1) w l u) (hv:Lies (d+1) w l v) :
 Calls Tryz.prog 18 #[u,v] w fun e w'=>e=.returned (.bool true)∧Below w.heap.size w w':=by
 obtain⟨a1,c1,rfl,⟨_,hlen⟩,hr1⟩:=hu
 obtain⟨a2,c2,rfl,_,hr2⟩:=hv
 have Hr1:Hid _:=hr1;have Hr2:Hid _:=hr2
 clear hr1 hr2
 have hne:((l.length:Int) != (l.length:Int))=false:=by simp
 go_enter Tryz.func18,Tryz.ntmps18
 go_wp2_with fail
 go_loopg [13] l.length (fun g i wr=>∃j:Nat,i=.int .i64 (j:Int)∧j≤l.length∧g=l.length-j∧Below w.heap.size w wr)
 case atStart=>exact⟨0,rfl,by omega,by omega,Below.refl _ _⟩
 case round=>
  obtain⟨j,rfl,hj,hk,hbw⟩:=hrel
  have Hk:Hid _:=hk
  clear hk hne
  by_cases hlt:j<l.length
  ·obtain⟨b1,o1,rfl,hall1⟩:=Hr1.out (by intro e;simp [e] at hlt)
   obtain⟨b2,o2,rfl,hall2⟩:=Hr2.out (by intro e;simp [e] at hlt)
   obtain⟨x,p0,p1,p2,p3,p4,_⟩:=hall1 j hlt
   obtain⟨y,q0,q1,q2,q3,q4,_⟩:=hall2 j hlt
   clear hall1 hall2
   obtain⟨ax,cx,rfl,_⟩:=Lies.slice p4
   obtain⟨ay,cy,rfl,_⟩:=Lies.slice q4
   have p0:=zaa hbw p0;have p1:=zaa hbw p1;have p2:=zaa hbw p2;have p3:=zaa hbw p3
   have q0:=zaa hbw q0;have q1:=zaa hbw q1;have q2:=zaa hbw q2;have q3:=zaa hbw q3
   have p4:Hid (Lies d w l[j].items (.slice ax l[j].items.length cx)):=p4
   have q4:Hid (Lies d w l[j].items (.slice ay l[j].items.length cy)):=q4
   have hl1:b1<wr.heap.size:=zad p0
   have hl2:b2<wr.heap.size:=zad q0
   have HSm:Hid (∀W,Lies d W l[j].items (.slice ax l[j].items.length cx)→Lies d W l[j].items (.slice ay l[j].items.length cy)→Calls Tryz.prog 13 #[.agg #[.int .i64 l[j].kind,.int .i64 l[j].num,.string l[j].text,.slice ax l[j].items.length cx],.agg #[.int .i64 l[j].kind,.int .i64 l[j].num,.string l[j].text,.slice ay l[j].items.length cy]] W fun e W'=>e=.returned (.bool true)∧Below W.heap.size W W'):=fun W h1 h2=>(same_any d l[j] l[j] _ _ W h1 h2).mono fun e W' h=>⟨by rw [h.1,sameV_self],h.2.below⟩
   go_wp2_with fail
   go_region_held3 (fun w'=>w'.cell? ⟨b1,o1+j*4,none⟩=some (.int .i64 l[j].kind)∧w'.cell? ⟨b1,o1+j*4+1,none⟩=some (.int .i64 l[j].num)∧w'.cell? ⟨b1,o1+j*4+2,none⟩=some (.string l[j].text)∧w'.cell? ⟨b1,o1+j*4+3,none⟩=some (.slice ax l[j].items.length cx)
    ∧w'.cell? ⟨b2,o2+j*4,none⟩=some (.int .i64 l[j].kind)∧w'.cell? ⟨b2,o2+j*4+1,none⟩=some (.int .i64 l[j].num)∧w'.cell? ⟨b2,o2+j*4+2,none⟩=some (.string l[j].text)∧w'.cell? ⟨b2,o2+j*4+3,none⟩=some (.slice ay l[j].items.length cy)) (go_keep)
    (first|(go_at_call 13;refine Calls.mono (HSm.out _ (Lies.keeps hbw.drew _ _ _ p4.out) (Lies.keeps hbw.drew _ _ _ q4.out)) ?_;rintro e w1 ⟨rfl,hb1⟩;have hb2:Below wr.heap.size wr w1:=(Below.refl _ _).drew.trans hb1;clear hb1;have r0:=zaa hb2 p0;have r1:=zaa hb2 p1;have r2:=zaa hb2 p2;have r3:=zaa hb2 p3;have t0:=zaa hb2 q0;have t1:=zaa hb2 q1;have t2:=zaa hb2 q2;have t3:=zaa hb2 q3))
   have hb3:Below w.heap.size w w1:=hbw.trans (hb2.mono hbw.size)
   clear p4 q4 p0 p1 p2 p3 q0 q1 q2 q3 r0 r1 r2 r3 t0 t1 t2 t3 HSm
   go_wp2_with fail
   go_roundg (l.length-(j+1))
   case measure=>have:=Hk.out;omega
   case rel=>exact⟨j+1,by go_num,by omega,rfl,hb3⟩
  ·go_wp2_with fail
   go_ret
   exact⟨rfl,hbw⟩
theorem values_same (d:Nat) (l:List VT) (u v:Value) (w:World) (hu:Lies (d+1) w l u) (hv:Lies (d+1) w l v) (_:l.length≤65536) :
 Calls Tryz.prog 18 #[u,v] w fun e w'=>e=.returned (.bool true)∧Below w.heap.size w w':=values_all d l u v w hu hv
end Go.Proofs.YtlnecfjnffdciacGreat
