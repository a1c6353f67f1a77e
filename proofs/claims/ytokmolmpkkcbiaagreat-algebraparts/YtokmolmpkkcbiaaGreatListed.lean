import Derived.Test.YtokmolmpkkcbiaaGreatLetters
import Derived.Test.YtokmolmpkkcbiaaGreatEq
set_option maxHeartbeats 2000000
namespace Go.Proofs.YtokmolmpkkcbiaaGreat
open Go.RowKit
theorem zal (k:Int) (w:World):Calls Tryz.prog 83 #[.int .i64 k] w fun e w'=>e=.returned (.bool (k==4 || (k==5 || k==6)))∧w'=w:=by
 cases h4:(k==4)
 ·cases h5:(k==5)
  ·cases h6:(k==6)
   ·go_enter Tryz.func83,Tryz.ntmps83
    go_wp2_with fail
    go_ret
    exact⟨rfl,rfl⟩
   ·go_enter Tryz.func83,Tryz.ntmps83
    go_wp2_with fail
    go_ret
    exact⟨rfl,rfl⟩
  ·go_enter Tryz.func83,Tryz.ntmps83
   go_wp2_with fail
   go_ret
   exact⟨rfl,rfl⟩
 ·go_enter Tryz.func83,Tryz.ntmps83
  go_wp2_with fail
  go_ret
  exact⟨rfl,rfl⟩
theorem own_out (t:VT) (a:Option Addr) (l c:Nat) (w:World) (h:t.kind<0∨6<t.kind) :
 Calls Tryz.prog 66 #[.agg #[.int .i64 t.kind,.int .i64 t.num,.string t.text,.slice a l c]] w fun e w'=>e=.returned (.bool false)∧Below w.heap.size w w':=by
 by_cases h0:t.kind<0
 ·clear h
  go_enter Tryz.func66,Tryz.ntmps66
  go_wp2_with fail
  go_ret
  exact⟨rfl,((Grew.refl _).alloc _).below⟩
 ·have h1:6<t.kind:=by omega
  clear h
  go_enter Tryz.func66,Tryz.ntmps66
  go_wp2_with fail
  go_ret
  exact⟨rfl,((Grew.refl _).alloc _).below⟩
theorem own_num (t:VT) (a:Option Addr) (l c:Nat) (w:World) (h0:0≤t.kind) (h6:t.kind≤6) (hn:okNum t=false) :
 Calls Tryz.prog 66 #[.agg #[.int .i64 t.kind,.int .i64 t.num,.string t.text,.slice a l c]] w fun e w'=>e=.returned (.bool false)∧Below w.heap.size w w':=by
 have h2:(t.kind==2)=false:=by
  cases e:(t.kind==2)
  ·rfl
  ·simp [okNum,e] at hn
 have h2':(t.kind != 2)=true:=by simp [bne,h2]
 have hz:(t.num==0)=false:=by
  cases e:(t.num==0)
  ·rfl
  ·exfalso;simp only [okNum,h2,e] at hn;revert hn;cases (t.kind==1) <;> simp
 have hz':(t.num != 0)=true:=by simp [bne,hz]
 cases h1:(t.kind==1)
 ·clear hn
  go_enter Tryz.func66,Tryz.ntmps66
  go_wp2_with fail
  go_ret
  exact⟨rfl,((Grew.refl _).alloc _).below⟩
 ·have hz1:(t.num==1)=false:=by
   cases e:(t.num==1)
   ·rfl
   ·simp [okNum,h2,h1,e] at hn
  clear hn
  go_enter Tryz.func66,Tryz.ntmps66
  go_wp2_with fail
  go_ret
  exact⟨rfl,((Grew.refl _).alloc _).below⟩
theorem num_tests {t:VT} (hn:okNum t=true):(t.kind != 2)=false∨((t.kind != 2)=true∧(t.num != 0)=false)∨((t.kind != 2)=true∧(t.num != 0)=true∧(t.kind==1)=true∧(t.num==1)=true):=by
 cases h2:(t.kind==2)
 ·cases hz:(t.num==0)
  ·cases h1:(t.kind==1)
   ·simp [okNum,h2,h1,hz] at hn
   ·have:(t.num==1)=true:=by simpa [okNum,h2,h1,hz] using hn
    exact .inr (.inr ⟨by simp [bne,h2],by simp [bne,hz],rfl,this⟩)
  ·exact .inr (.inl ⟨by simp [bne,h2],by simp [bne,hz]⟩)
 ·exact .inl (by simp [bne,h2])
theorem own_text3 (t:VT) (a:Option Addr) (c:Nat) (w:World) (hk:t.kind=3) (hz:t.num=0) :
 Calls Tryz.prog 66 #[.agg #[.int .i64 t.kind,.int .i64 t.num,.string t.text,.slice a t.items.length c]] w fun e w'=>e=.returned (.bool (decide (t.text.size≤256)&&(utfB t.text&&decide (t.items.length=0))))∧Below w.heap.size w w':=by
 have hal:=((Grew.refl w).alloc (.cells #[.int .i64 3,.int .i64 0,.string t.text,.slice a t.items.length c] 40)).below
 have HR:Hid (decide (0≤lettersZ t.text)=utfB t.text):=letters_right t.text
 rw [hk,hz]
 clear hk hz
 by_cases hs:t.text.size≤256
 ·have hs':(t.text.size:Int)≤256:=by omega
  have hbx:=zar w 3 0 t.text (.slice a t.items.length c) 40
  obtain⟨x0,x1,x2,x3⟩:=hbx
  by_cases hl:0≤lettersZ t.text
  ·have hu:Hid (utfB t.text=true):=by show _=_;rw [←HR.out];simpa using hl
   go_enter Tryz.func66,Tryz.ntmps66
   go_wp2_with fail
   refine (letters_any t.text _ (by omega)).mono ?_
   rintro e w1 ⟨rfl,rfl⟩
   go_wp2_with fail
   go_ret
   refine⟨?_,hal⟩
   rw [hu.out]
   by_cases h0:t.items.length=0
   ·simp [hs,h0]
   ·simp [hs,h0]
  ·have hl2:lettersZ t.text<0:=by omega
   have hu:Hid (utfB t.text=false):=by show _=_;rw [←HR.out];simpa using hl2
   clear hl
   go_enter Tryz.func66,Tryz.ntmps66
   go_wp2_with fail
   refine (letters_any t.text _ (by omega)).mono ?_
   rintro e w1 ⟨rfl,rfl⟩
   go_wp2_with fail
   go_ret
   refine⟨?_,hal⟩
   rw [hu.out]
   simp
 ·have hs' : ¬(t.text.size:Int)≤256:=by omega
  go_enter Tryz.func66,Tryz.ntmps66
  go_wp2_with fail
  go_ret
  refine⟨?_,hal⟩
  simp
theorem own_txt (t:VT) (a:Option Addr) (l c:Nat) (w:World) (h0:0≤t.kind) (h6:t.kind≤6) (hn:okNum t=true) (h3:(t.kind==3)=false) (ht:t.text.toList.isEmpty=false) :
 Calls Tryz.prog 66 #[.agg #[.int .i64 t.kind,.int .i64 t.num,.string t.text,.slice a l c]] w fun e w'=>e=.returned (.bool false)∧Below w.heap.size w w':=by
 rcases num_tests hn with e|⟨e1,e2⟩|⟨e1,e2,e3,e4⟩
 ·clear hn
  go_enter Tryz.func66,Tryz.ntmps66
  go_wp2_with fail
  go_ret
  exact⟨rfl,((Grew.refl _).alloc _).below⟩
 ·clear hn
  go_enter Tryz.func66,Tryz.ntmps66
  go_wp2_with fail
  go_ret
  exact⟨rfl,((Grew.refl _).alloc _).below⟩
 ·clear hn
  go_enter Tryz.func66,Tryz.ntmps66
  go_wp2_with fail
  go_ret
  exact⟨rfl,((Grew.refl _).alloc _).below⟩
theorem own_k0_0 (tx:ByteArray) (a:Option Addr) (l c:Nat) (w:World) (ht:tx.toList.isEmpty=true) :
 Calls Tryz.prog 66 #[.agg #[.int .i64 0,.int .i64 0,.string tx,.slice a l c]] w fun e w'=>e=.returned (.bool (decide (l=0)))∧Below w.heap.size w w':=by
 have hal:=((Grew.refl w).alloc (.cells #[.int .i64 0,.int .i64 0,.string tx,.slice a l c] 40)).below
 by_cases h0:l=0
 ·subst h0
  go_enter Tryz.func66,Tryz.ntmps66
  go_wp2_with fail
  refine (zal _ _).mono ?_
  rintro e w1 ⟨rfl,rfl⟩
  go_wp2_with fail
  go_loopg [4] 0 (fun k i wr=>i=.int .i64 1∧k=0∧wr=w.alloc (.cells #[.int .i64 0,.int .i64 0,.string tx,.slice a 0 c] 40))
  case atStart=>exact⟨rfl,rfl,rfl⟩
  case round=>
   obtain⟨rfl,hk,rfl⟩:=hrel
   go_wp2_with fail
   go_ret
   exact⟨rfl,hal⟩
 ·have hpos:0<l:=by omega
  have h0i:(0:Int)<(l:Nat):=by omega
  go_enter Tryz.func66,Tryz.ntmps66
  go_wp2_with fail
  refine (zal _ _).mono ?_
  rintro e w1 ⟨rfl,rfl⟩
  go_wp2_with fail
  go_ret
  exact⟨by simp [h0],hal⟩
theorem own_k1_0 (tx:ByteArray) (a:Option Addr) (l c:Nat) (w:World) (ht:tx.toList.isEmpty=true) :
 Calls Tryz.prog 66 #[.agg #[.int .i64 1,.int .i64 0,.string tx,.slice a l c]] w fun e w'=>e=.returned (.bool (decide (l=0)))∧Below w.heap.size w w':=by
 have hal:=((Grew.refl w).alloc (.cells #[.int .i64 1,.int .i64 0,.string tx,.slice a l c] 40)).below
 by_cases h0:l=0
 ·subst h0
  go_enter Tryz.func66,Tryz.ntmps66
  go_wp2_with fail
  refine (zal _ _).mono ?_
  rintro e w1 ⟨rfl,rfl⟩
  go_wp2_with fail
  go_loopg [4] 0 (fun k i wr=>i=.int .i64 1∧k=0∧wr=w.alloc (.cells #[.int .i64 1,.int .i64 0,.string tx,.slice a 0 c] 40))
  case atStart=>exact⟨rfl,rfl,rfl⟩
  case round=>
   obtain⟨rfl,hk,rfl⟩:=hrel
   go_wp2_with fail
   go_ret
   exact⟨rfl,hal⟩
 ·have hpos:0<l:=by omega
  have h0i:(0:Int)<(l:Nat):=by omega
  go_enter Tryz.func66,Tryz.ntmps66
  go_wp2_with fail
  refine (zal _ _).mono ?_
  rintro e w1 ⟨rfl,rfl⟩
  go_wp2_with fail
  go_ret
  exact⟨by simp [h0],hal⟩
theorem own_k1_1 (tx:ByteArray) (a:Option Addr) (l c:Nat) (w:World) (ht:tx.toList.isEmpty=true) :
 Calls Tryz.prog 66 #[.agg #[.int .i64 1,.int .i64 1,.string tx,.slice a l c]] w fun e w'=>e=.returned (.bool (decide (l=0)))∧Below w.heap.size w w':=by
 have hal:=((Grew.refl w).alloc (.cells #[.int .i64 1,.int .i64 1,.string tx,.slice a l c] 40)).below
 by_cases h0:l=0
 ·subst h0
  go_enter Tryz.func66,Tryz.ntmps66
  go_wp2_with fail
  refine (zal _ _).mono ?_
  rintro e w1 ⟨rfl,rfl⟩
  go_wp2_with fail
  go_loopg [4] 0 (fun k i wr=>i=.int .i64 1∧k=0∧wr=w.alloc (.cells #[.int .i64 1,.int .i64 1,.string tx,.slice a 0 c] 40))
  case atStart=>exact⟨rfl,rfl,rfl⟩
  case round=>
   obtain⟨rfl,hk,rfl⟩:=hrel
   go_wp2_with fail
   go_ret
   exact⟨rfl,hal⟩
 ·have hpos:0<l:=by omega
  have h0i:(0:Int)<(l:Nat):=by omega
  go_enter Tryz.func66,Tryz.ntmps66
  go_wp2_with fail
  refine (zal _ _).mono ?_
  rintro e w1 ⟨rfl,rfl⟩
  go_wp2_with fail
  go_ret
  exact⟨by simp [h0],hal⟩
theorem own_k2_n (n:Int) (tx:ByteArray) (a:Option Addr) (l c:Nat) (w:World) (ht:tx.toList.isEmpty=true) :
 Calls Tryz.prog 66 #[.agg #[.int .i64 2,.int .i64 n,.string tx,.slice a l c]] w fun e w'=>e=.returned (.bool (decide (l=0)))∧Below w.heap.size w w':=by
 have hal:=((Grew.refl w).alloc (.cells #[.int .i64 2,.int .i64 n,.string tx,.slice a l c] 40)).below
 by_cases h0:l=0
 ·subst h0
  go_enter Tryz.func66,Tryz.ntmps66
  go_wp2_with fail
  refine (zal _ _).mono ?_
  rintro e w1 ⟨rfl,rfl⟩
  go_wp2_with fail
  go_loopg [4] 0 (fun k i wr=>i=.int .i64 1∧k=0∧wr=w.alloc (.cells #[.int .i64 2,.int .i64 n,.string tx,.slice a 0 c] 40))
  case atStart=>exact⟨rfl,rfl,rfl⟩
  case round=>
   obtain⟨rfl,hk,rfl⟩:=hrel
   go_wp2_with fail
   go_ret
   exact⟨rfl,hal⟩
 ·have hpos:0<l:=by omega
  have h0i:(0:Int)<(l:Nat):=by omega
  go_enter Tryz.func66,Tryz.ntmps66
  go_wp2_with fail
  refine (zal _ _).mono ?_
  rintro e w1 ⟨rfl,rfl⟩
  go_wp2_with fail
  go_ret
  exact⟨by simp [h0],hal⟩
theorem own_k4_0 (tx:ByteArray) (a:Option Addr) (l c:Nat) (w:World) (ht:tx.toList.isEmpty=true) :
 Calls Tryz.prog 66 #[.agg #[.int .i64 4,.int .i64 0,.string tx,.slice a l c]] w fun e w'=>e=.returned (.bool true)∧Below w.heap.size w w':=by
 have hal:=((Grew.refl w).alloc (.cells #[.int .i64 4,.int .i64 0,.string tx,.slice a l c] 40)).below
 go_enter Tryz.func66,Tryz.ntmps66
 go_wp2_with fail
 refine (zal _ _).mono ?_
 rintro e w1 ⟨rfl,rfl⟩
 go_wp2_with fail
 go_ret
 exact⟨rfl,hal⟩
theorem own_k5 (d:Nat) (l:List VT) (tx:ByteArray) (u:Value) (w:World) (hu:Lies (d+1) w l u) (hlen:l.length≤1024) (ht:tx.toList.isEmpty=true) :
 Calls Tryz.prog 66 #[.agg #[.int .i64 5,.int .i64 0,.string tx,u]] w fun e w'=>e=.returned (.bool (risF (cmpV d) 1 l l.length 0))∧Below w.heap.size w w':=by
 obtain⟨a1,c1,rfl,hb1,hr1⟩:=hu
 have Hr1:Hid _:=hr1
 clear hr1 hb1
 have hal:=((Grew.refl w).alloc (.cells #[.int .i64 5,.int .i64 0,.string tx,.slice a1 l.length c1] 40)).below
 have HX:Hid (Boxed (w.alloc (.cells #[.int .i64 5,.int .i64 0,.string tx,.slice a1 l.length c1] 40)) w.heap.size 5 0 tx (.slice a1 l.length c1)):=zar w 5 0 tx _ 40
 go_enter Tryz.func66,Tryz.ntmps66
 go_wp2_with fail
 refine (zal _ _).mono ?_
 rintro e w0 ⟨rfl,rfl⟩
 go_wp2_with fail
 go_loopg [4] (l.length+1) (fun g i wr=>∃j k b:Nat,i=.int .i64 (k:Int)∧Hid (k=j+1)∧j≤l.length+1∧l.length≤j+b∧g=l.length+1-j∧Hid (risF (cmpV d) 1 l l.length 0=risF (cmpV d) 1 l b j)∧Below w.heap.size w wr∧Boxed wr w.heap.size 5 0 tx (.slice a1 l.length c1))
 case atStart=>exact⟨0,1,l.length,rfl,rfl,by omega,by omega,by omega,rfl,hal,HX.out⟩
 case round=>
  obtain⟨j,k,b,rfl,Hkj,hj,hjb,hk,Hc,hbw,hbx⟩:=hrel
  have Hk:Hid _:=hk
  have HB:Hid (Boxed wr w.heap.size 5 0 tx (.slice a1 l.length c1)):=hbx
  obtain⟨_,_,_,x3⟩:=hbx
  clear hk HX hal
  have hkj:=Hkj.out
  by_cases hlt:k<l.length
  ·obtain⟨b1,o1,rfl,hall1⟩:=Hr1.out (by intro e;simp [e] at hlt)
   have hlj:j<l.length:=by omega
   have hljs:j+1<l.length:=by omega
   obtain⟨x,p0,p1,p2,p3,p4,_⟩:=hall1 j hlj
   obtain⟨y,q0,q1,q2,q3,q4,_⟩:=hall1 k hlt
   clear hall1
   have hwr:IntKind.i64.wrap ((k:Int)-1)=(j:Int):=by rw [IntKind.wrap_i64];omega
   have Hst:Hid _:=risF_step (cmpV d) 1 l (b-1) j hlj hljs
   have hbb:b-1+1=b:=by omega
   rw [hbb] at Hst
   have hlk:l[j+1]'hljs=l[k]:=by congr 1;exact hkj.symm
   rw [hlk] at Hst
   clear hbb hlk
   obtain⟨ax,cx,rfl,_⟩:=Lies.slice p4
   obtain⟨ay,cy,rfl,_⟩:=Lies.slice q4
   have p0:=zaa hbw p0;have p1:=zaa hbw p1;have p2:=zaa hbw p2;have p3:=zaa hbw p3
   have q0:=zaa hbw q0;have q1:=zaa hbw q1;have q2:=zaa hbw q2;have q3:=zaa hbw q3
   have p4:=Lies.keeps hbw.drew _ _ _ p4
   have q4:=Lies.keeps hbw.drew _ _ _ q4
   have hcm:Hid _:=ref_any d l[j] l[k] _ _ wr.drew p4 q4
   clear p4 q4
   have hjk:j<k:=by omega
   clear hkj
   have hcr:=cmpV_range d l[j] l[k]
   have Hcr:Hid _:=hcr
   clear hcr
   go_wp2_with fail
   go_region_held3 (fun w'=>w'.cell? ⟨w.heap.size,3,none⟩=some (.slice (some ⟨b1,o1,none⟩) l.length c1)
    ∧w'.cell? ⟨b1,o1+j*4,none⟩=some (.int .i64 l[j].kind)∧w'.cell? ⟨b1,o1+j*4+1,none⟩=some (.int .i64 l[j].num)∧w'.cell? ⟨b1,o1+j*4+2,none⟩=some (.string l[j].text)∧w'.cell? ⟨b1,o1+j*4+3,none⟩=some (.slice ax l[j].items.length cx)
    ∧w'.cell? ⟨b1,o1+k*4,none⟩=some (.int .i64 l[k].kind)∧w'.cell? ⟨b1,o1+k*4+1,none⟩=some (.int .i64 l[k].num)∧w'.cell? ⟨b1,o1+k*4+2,none⟩=some (.string l[k].text)∧w'.cell? ⟨b1,o1+k*4+3,none⟩=some (.slice ay l[k].items.length cy)) (go_keep)
    (first|(go_at_call 84;refine Calls.mono hcm.out ?_;rintro e w1 ⟨rfl,hb1⟩;have hb2:Below wr.heap.size wr w1:=((Below.refl wr.heap.size wr).drew).trans hb1;clear hb1;have r0:=zaa hb2 p0;have r1:=zaa hb2 p1;have r2:=zaa hb2 p2;have r3:=zaa hb2 p3;have t0:=zaa hb2 q0;have t1:=zaa hb2 q1;have t2:=zaa hb2 q2;have t3:=zaa hb2 q3;have y3:=zaa hb2 x3))
   clear hcm p0 p1 p2 p3 q0 q1 q2 q3 r0 r1 r2 r3 t0 t1 t2 t3 hwr x3 y3
   have hb3:Below w.heap.size w w1:=hbw.trans (hb2.mono hbw.size)
   have HB1:Hid (Boxed w1 w.heap.size 5 0 tx (.slice (some ⟨b1,o1,none⟩) l.length c1)):=HB.out.keeps hb2
   clear HB hb2
   by_cases hz:0≤cmpV d l[j] l[k]
   ·have hfin:Hid (risF (cmpV d) 1 l l.length 0=false):=by
     show _=_
     rw [Hc.out,Hst.out,if_pos hz]
    clear Hst Hc
    go_wp2_with fail
    go_ret
    exact⟨by rw [hfin.out];rfl,hb3⟩
   ·have hfin:Hid (risF (cmpV d) 1 l l.length 0=risF (cmpV d) 1 l (b-1) (j+1)):=by
     show _=_
     rw [Hc.out,Hst.out,if_neg hz]
    clear Hst Hc
    go_wp2_with fail
    go_roundg (l.length+1-(j+1))
    case measure=>have:=Hk.out;have:=Hkj.out;omega
    case rel=>
     have e1:=Hkj.out
     exact⟨j+1,k+1,b-1,by go_num,by show _=_;omega,by omega,by omega,rfl,hfin,hb3,HB1.out⟩
  ·have Hs:Hid _:=risF_end (cmpV d) 1 l b j (by omega)
   clear hkj
   go_wp2_with fail
   go_ret
   exact⟨by rw [Hc.out,Hs.out];rfl,hbw⟩
theorem own_k6 (d:Nat) (l:List VT) (tx:ByteArray) (u:Value) (w:World) (hu:Lies (d+1) w l u) (hlen:l.length≤1024) (ht:tx.toList.isEmpty=true) (hev:l.length % 2=0) :
 Calls Tryz.prog 66 #[.agg #[.int .i64 6,.int .i64 0,.string tx,u]] w fun e w'=>e=.returned (.bool (risF (cmpV d) 2 l l.length 0))∧Below w.heap.size w w':=by
 obtain⟨a1,c1,rfl,hb1,hr1⟩:=hu
 have Hr1:Hid _:=hr1
 clear hr1 hb1
 have hev':((l.length:Int).tmod 2 != 0)=false:=by
  have:(l.length:Int).tmod 2=0:=by rw [Int.tmod_eq_emod_of_nonneg (by omega)];omega
  simp [this]
 have hev2:(l.length:Int).tmod 2=0:=by rw [Int.tmod_eq_emod_of_nonneg (by omega)];omega
 have hal:=((Grew.refl w).alloc (.cells #[.int .i64 6,.int .i64 0,.string tx,.slice a1 l.length c1] 40)).below
 have HX:Hid (Boxed (w.alloc (.cells #[.int .i64 6,.int .i64 0,.string tx,.slice a1 l.length c1] 40)) w.heap.size 6 0 tx (.slice a1 l.length c1)):=zar w 6 0 tx _ 40
 go_enter Tryz.func66,Tryz.ntmps66
 go_wp2_with fail
 refine (zal _ _).mono ?_
 rintro e w0 ⟨rfl,rfl⟩
 go_wp2_with fail
 go_loopg [4] (l.length+2) (fun g i wr=>∃j k b:Nat,i=.int .i64 (k:Int)∧Hid (k=j+2)∧j≤l.length+2∧l.length≤j+b∧g=l.length+2-j∧Hid (risF (cmpV d) 2 l l.length 0=risF (cmpV d) 2 l b j)∧Below w.heap.size w wr∧Boxed wr w.heap.size 6 0 tx (.slice a1 l.length c1))
 case atStart=>exact⟨0,2,l.length,rfl,rfl,by omega,by omega,by omega,rfl,hal,HX.out⟩
 case round=>
  obtain⟨j,k,b,rfl,Hkj,hj,hjb,hk,Hc,hbw,hbx⟩:=hrel
  have Hk:Hid _:=hk
  have HB:Hid (Boxed wr w.heap.size 6 0 tx (.slice a1 l.length c1)):=hbx
  obtain⟨_,_,_,x3⟩:=hbx
  clear hk HX hal
  have hkj:=Hkj.out
  by_cases hlt:k<l.length
  ·obtain⟨b1,o1,rfl,hall1⟩:=Hr1.out (by intro e;simp [e] at hlt)
   have hlj:j<l.length:=by omega
   have hljs:j+2<l.length:=by omega
   obtain⟨x,p0,p1,p2,p3,p4,_⟩:=hall1 j hlj
   obtain⟨y,q0,q1,q2,q3,q4,_⟩:=hall1 k hlt
   clear hall1
   have hwr:IntKind.i64.wrap ((k:Int)-2)=(j:Int):=by rw [IntKind.wrap_i64];omega
   have Hst:Hid _:=risF_step (cmpV d) 2 l (b-1) j hlj hljs
   have hbb:b-1+1=b:=by omega
   rw [hbb] at Hst
   have hlk:l[j+2]'hljs=l[k]:=by congr 1;exact hkj.symm
   rw [hlk] at Hst
   clear hbb hlk
   obtain⟨ax,cx,rfl,_⟩:=Lies.slice p4
   obtain⟨ay,cy,rfl,_⟩:=Lies.slice q4
   have p0:=zaa hbw p0;have p1:=zaa hbw p1;have p2:=zaa hbw p2;have p3:=zaa hbw p3
   have q0:=zaa hbw q0;have q1:=zaa hbw q1;have q2:=zaa hbw q2;have q3:=zaa hbw q3
   have p4:=Lies.keeps hbw.drew _ _ _ p4
   have q4:=Lies.keeps hbw.drew _ _ _ q4
   have hcm:Hid _:=ref_any d l[j] l[k] _ _ wr.drew p4 q4
   clear p4 q4
   have hjk:j<k:=by omega
   clear hkj
   have hcr:=cmpV_range d l[j] l[k]
   have Hcr:Hid _:=hcr
   clear hcr
   go_wp2_with fail
   go_region_held3 (fun w'=>w'.cell? ⟨w.heap.size,3,none⟩=some (.slice (some ⟨b1,o1,none⟩) l.length c1)
    ∧w'.cell? ⟨b1,o1+j*4,none⟩=some (.int .i64 l[j].kind)∧w'.cell? ⟨b1,o1+j*4+1,none⟩=some (.int .i64 l[j].num)∧w'.cell? ⟨b1,o1+j*4+2,none⟩=some (.string l[j].text)∧w'.cell? ⟨b1,o1+j*4+3,none⟩=some (.slice ax l[j].items.length cx)
    ∧w'.cell? ⟨b1,o1+k*4,none⟩=some (.int .i64 l[k].kind)∧w'.cell? ⟨b1,o1+k*4+1,none⟩=some (.int .i64 l[k].num)∧w'.cell? ⟨b1,o1+k*4+2,none⟩=some (.string l[k].text)∧w'.cell? ⟨b1,o1+k*4+3,none⟩=some (.slice ay l[k].items.length cy)) (go_keep)
    (first|(go_at_call 84;refine Calls.mono hcm.out ?_;rintro e w1 ⟨rfl,hb1⟩;have hb2:Below wr.heap.size wr w1:=((Below.refl wr.heap.size wr).drew).trans hb1;clear hb1;have r0:=zaa hb2 p0;have r1:=zaa hb2 p1;have r2:=zaa hb2 p2;have r3:=zaa hb2 p3;have t0:=zaa hb2 q0;have t1:=zaa hb2 q1;have t2:=zaa hb2 q2;have t3:=zaa hb2 q3;have y3:=zaa hb2 x3))
   clear hcm p0 p1 p2 p3 q0 q1 q2 q3 r0 r1 r2 r3 t0 t1 t2 t3 hwr x3 y3
   have hb3:Below w.heap.size w w1:=hbw.trans (hb2.mono hbw.size)
   have HB1:Hid (Boxed w1 w.heap.size 6 0 tx (.slice (some ⟨b1,o1,none⟩) l.length c1)):=HB.out.keeps hb2
   clear HB hb2
   by_cases hz:0≤cmpV d l[j] l[k]
   ·have hfin:Hid (risF (cmpV d) 2 l l.length 0=false):=by
     show _=_
     rw [Hc.out,Hst.out,if_pos hz]
    clear Hst Hc
    go_wp2_with fail
    go_ret
    exact⟨by rw [hfin.out];rfl,hb3⟩
   ·have hfin:Hid (risF (cmpV d) 2 l l.length 0=risF (cmpV d) 2 l (b-1) (j+2)):=by
     show _=_
     rw [Hc.out,Hst.out,if_neg hz]
    clear Hst Hc
    go_wp2_with fail
    go_roundg (l.length+2-(j+2))
    case measure=>have:=Hk.out;have:=Hkj.out;omega
    case rel=>
     have e1:=Hkj.out
     exact⟨j+2,k+2,b-1,by go_num,by show _=_;omega,by omega,by omega,rfl,hfin,hb3,HB1.out⟩
  ·have Hs:Hid _:=risF_end (cmpV d) 2 l b j (by omega)
   clear hkj
   go_wp2_with fail
   go_ret
   exact⟨by rw [Hc.out,Hs.out];rfl,hbw⟩
theorem own_odd (l:Nat) (tx:ByteArray) (a:Option Addr) (c:Nat) (w:World) (ht:tx.toList.isEmpty=true) (hev:l % 2=1) :
 Calls Tryz.prog 66 #[.agg #[.int .i64 6,.int .i64 0,.string tx,.slice a l c]] w fun e w'=>e=.returned (.bool false)∧Below w.heap.size w w':=by
 have hev2:(l:Int).tmod 2=1:=by rw [Int.tmod_eq_emod_of_nonneg (by omega)];omega
 have hal:=((Grew.refl w).alloc (.cells #[.int .i64 6,.int .i64 0,.string tx,.slice a l c] 40)).below
 go_enter Tryz.func66,Tryz.ntmps66
 go_wp2_with fail
 refine (zal _ _).mono ?_
 rintro e w0 ⟨rfl,rfl⟩
 go_wp2_with fail
 go_ret
 exact⟨rfl,hal⟩
theorem ret_b {a b:Bool} (h:a=b):Ending.returned (.bool a)=.returned (.bool b):=by rw [h]
theorem len_beq (n:Nat):((n:Int)==0)=decide (n=0):=by
 by_cases h:n=0
 ·subst h;rfl
 ·rw [decide_eq_false h,beq_eq_false_iff_ne];omega
theorem items_none {d:Nat} {t:VT} (h4:t.kind≠4) (h5:t.kind≠5) (h6:t.kind≠6):zam d t=decide (t.items.length=0):=by
 unfold zam
 rw [if_neg (by simpa using h4),if_neg (by simpa using h5),if_neg (by simpa using h6),len_beq]
theorem own_any (d:Nat) (t:VT) (u:Value) (w:World) (hu:Lies (d+1) w t.items u) (hlen:t.items.length≤1024) :
 Calls Tryz.prog 66 #[.agg #[.int .i64 t.kind,.int .i64 t.num,.string t.text,u]] w fun e w'=>e=.returned (.bool (ownV d t))∧Below w.heap.size w w':=by
 have hu0:=hu
 obtain⟨a,c,rfl,_⟩:=Lies.slice hu
 by_cases hr:t.kind<0∨6<t.kind
 ·refine (own_out t a t.items.length c w hr).mono fun e w' ⟨he,hb⟩=>⟨he.trans (ret_b ?_),hb⟩
  unfold ownV
  by_cases h0:0≤t.kind
  ·simp [show ¬t.kind≤6 by omega]
  ·simp [h0]
 ·have h0:0≤t.kind:=by omega
  have h6:t.kind≤6:=by omega
  have hov:ownV d t=(okNum t&&(okText t&&zam d t)):=by unfold ownV;simp [h0,h6]
  rw [hov]
  cases hn:okNum t
  ·exact own_num t a t.items.length c w h0 h6 hn
  ·rw [Bool.true_and]
   cases h3:(t.kind==3)
   ·have hot:okText t=t.text.toList.isEmpty:=by unfold okText;rw [h3];rfl
    rw [hot]
    cases ht:t.text.toList.isEmpty
    ·exact own_txt t a t.items.length c w h0 h6 hn h3 ht
    ·rw [Bool.true_and]
     have k3:t.kind≠3:=by simpa using h3
     have hk:t.kind=0∨t.kind=1∨t.kind=2∨t.kind=4∨t.kind=5∨t.kind=6:=by omega
     rcases hk with hk|hk|hk|hk|hk|hk
     ·have hz:t.num=0:=by simpa [okNum,hk] using hn
      rw [hk,hz]
      exact (own_k0_0 t.text a t.items.length c w ht).mono fun e w' ⟨he,hb⟩=>⟨he.trans (ret_b (items_none (by omega) (by omega) (by omega)).symm),hb⟩
     ·have hz:t.num=0∨t.num=1:=by simpa [okNum,hk] using hn
      rcases hz with hz|hz
      ·rw [hk,hz]
       exact (own_k1_0 t.text a t.items.length c w ht).mono fun e w' ⟨he,hb⟩=>⟨he.trans (ret_b (items_none (by omega) (by omega) (by omega)).symm),hb⟩
      ·rw [hk,hz]
       exact (own_k1_1 t.text a t.items.length c w ht).mono fun e w' ⟨he,hb⟩=>⟨he.trans (ret_b (items_none (by omega) (by omega) (by omega)).symm),hb⟩
     ·rw [hk]
      exact (own_k2_n t.num t.text a t.items.length c w ht).mono fun e w' ⟨he,hb⟩=>⟨he.trans (ret_b (items_none (by omega) (by omega) (by omega)).symm),hb⟩
     ·have hz:t.num=0:=by simpa [okNum,hk] using hn
      rw [hk,hz]
      refine (own_k4_0 t.text a t.items.length c w ht).mono fun e w' ⟨he,hb⟩=>⟨he.trans (ret_b ?_),hb⟩
      simp [zam,hk]
     ·have hz:t.num=0:=by simpa [okNum,hk] using hn
      rw [hk,hz]
      refine (own_k5 d t.items t.text _ w hu0 hlen ht).mono fun e w' ⟨he,hb⟩=>⟨he.trans (ret_b ?_),hb⟩
      simp [zam,hk]
     ·have hz:t.num=0:=by simpa [okNum,hk] using hn
      rw [hk,hz]
      by_cases hev:t.items.length % 2=0
      ·refine (own_k6 d t.items t.text _ w hu0 hlen ht hev).mono fun e w' ⟨he,hb⟩=>⟨he.trans (ret_b ?_),hb⟩
       have:((t.items.length:Int) % 2==0)=true:=by rw [beq_iff_eq];omega
       simp [zam,hk,this]
      ·refine (own_odd t.items.length t.text a c w ht (by omega)).mono fun e w' ⟨he,hb⟩=>⟨he.trans (ret_b ?_),hb⟩
       have:((t.items.length:Int) % 2==0)=false:=by rw [beq_eq_false_iff_ne];omega
       simp [zam,hk,this]
   ·have k3:t.kind=3:=by simpa using h3
    have hz:t.num=0:=by simpa [okNum,k3] using hn
    refine (own_text3 t a c w k3 hz).mono fun e w' ⟨he,hb⟩=>⟨he.trans (ret_b ?_),hb⟩
    rw [items_none (by omega) (by omega) (by omega)]
    simp [okText,k3,Bool.and_assoc]
def rfL (f:VT→Int→Int) (most:Int):List VT→Int→Int
 | [],n=>n
 | x::xs,n=>if f x (most-n)<0 then -1 else rfL f most xs (n+f x (most-n))
def rfN (own:Bool) (f:VT→Int→Int) (t:VT) (deep most:Int):Int:=
 if most<1∨(0<t.items.length∧deep=0)∨most<t.items.length then -1
 else if rfL f most t.items 1<0 then -1 else if own then rfL f most t.items 1 else -1
def rf:Nat→VT→Int→Int→Int
 | 0,t,deep,most=>rfN (ownV 0 t) (fun _ _=> -1) t deep most
 | d+1,t,deep,most=>rfN (ownV d t) (fun x m=>rf d x (deep-1) m) t deep most
theorem rfL_step (f:VT→Int→Int) (most:Int) (l:List VT) (j:Nat) (n:Int) (h:j<l.length):rfL f most (l.drop j) n=if f l[j] (most-n)<0 then -1 else rfL f most (l.drop (j+1)) (n+f l[j] (most-n)):=by
 rw [List.drop_eq_getElem_cons h]
 rfl
theorem rfits_core (d:Nat) (f:VT→Int→Int) (t:VT) (u:Value) (w:World) (deep most:Int) (hu:Lies (d+1) w t.items u) (hd1:0≤deep) (hd2:deep≤16) (hm1:0≤most) (hm2:most≤1024)
 (hfr:Hid (∀x m,0≤m→f x m≤m))
 (hf:Hid (∀(x:VT) (v:Value) (m:Int) (W:World),x∈t.items→1≤deep→Lies d W x.items v→0≤m→m≤1024→
  Calls Tryz.prog 43 #[.agg #[.int .i64 x.kind,.int .i64 x.num,.string x.text,v],.int .i64 (deep-1),.int .i64 m] W fun e W'=>e=.returned (.int .i64 (f x m))∧Below W.heap.size W W')) :
 Calls Tryz.prog 43 #[.agg #[.int .i64 t.kind,.int .i64 t.num,.string t.text,u],.int .i64 deep,.int .i64 most] w fun e w'=>e=.returned (.int .i64 (rfN (ownV d t) f t deep most))∧Below w.heap.size w w':=by
 have HL:Hid (Lies (d+1) w t.items u):=hu
 obtain⟨a,c,rfl,hb1,hr1⟩:=hu
 have Hr:Hid _:=hr1
 clear hr1
 have hal:=((Grew.refl w).alloc (.cells #[.int .i64 t.kind,.int .i64 t.num,.string t.text,.slice a t.items.length c] 40)).below
 have HX:Hid (Boxed (w.alloc (.cells #[.int .i64 t.kind,.int .i64 t.num,.string t.text,.slice a t.items.length c] 40)) w.heap.size t.kind t.num t.text (.slice a t.items.length c)):=zar w _ _ _ _ 40
 by_cases h1:most<1
 ·have hz:Hid (rfN (ownV d t) f t deep most = -1):=by show _=_;unfold rfN;rw [if_pos (Or.inl h1)]
  clear hf Hr HX
  go_enter Tryz.func43,Tryz.ntmps43
  go_wp2_with fail
  go_ret
  rw [hz.out]
  exact⟨rfl,hal⟩
 ·by_cases h2:0<t.items.length∧deep=0
  ·have hz:Hid (rfN (ownV d t) f t deep most = -1):=by show _=_;unfold rfN;rw [if_pos (Or.inr (Or.inl h2))]
   obtain⟨h2a,h2b⟩:=h2
   subst h2b
   have h2i:(0:Int)<(t.items.length:Nat):=by omega
   clear hf Hr HX
   go_enter Tryz.func43,Tryz.ntmps43
   go_wp2_with fail
   go_ret
   rw [hz.out]
   exact⟨rfl,hal⟩
  ·by_cases h3:most<t.items.length
   ·have hz:Hid (rfN (ownV d t) f t deep most = -1):=by show _=_;unfold rfN;rw [if_pos (Or.inr (Or.inr h3))]
    have h2i:(0:Int)<(t.items.length:Nat):=by omega
    have h2n:0<t.items.length:=by omega
    have hdz:(deep==0)=false:=by rw [beq_eq_false_iff_ne];intro e;exact h2 ⟨h2n,e⟩
    clear hf Hr HX h2
    go_enter Tryz.func43,Tryz.ntmps43
    go_wp2_with fail
    go_ret
    rw [hz.out]
    exact⟨rfl,hal⟩
   ·have hz:Hid (rfN (ownV d t) f t deep most=if rfL f most t.items 1<0 then -1 else if ownV d t then rfL f most t.items 1 else -1):=by
     show _=_;unfold rfN;rw [if_neg (by rintro (h|h|h);exact h1 h;exact h2 h;exact h3 h)]
    have hlen:t.items.length≤1024:=by omega
    have hdp:0<t.items.length→1≤deep:=fun h=>by
     by_cases e:deep=0
     ·exact absurd ⟨h,e⟩ h2
     ·omega
    have hdec:(0<t.items.length∧(deep==0)=false)∨t.items.length=0:=by
     by_cases e:t.items.length=0
     ·exact .inr e
     ·exact .inl ⟨by omega,by rw [beq_eq_false_iff_ne];have:=hdp (by omega);omega⟩
    have Hdp:Hid (0<t.items.length→1≤deep):=hdp
    clear h2 hdp
    rcases hdec with ⟨hp,hdz⟩|hze
    ·have h2i:(0:Int)<(t.items.length:Nat):=by omega
     go_enter Tryz.func43,Tryz.ntmps43
     go_wp2_with fail
     go_loopg [7,33] t.items.length (fun g n i wr=>∃(j:Nat) (m:Int),i=.int .i64 (j:Int)∧n=.int .i64 m∧j≤t.items.length∧g=t.items.length-j∧1≤m∧m≤most∧Hid (rfL f most t.items 1=rfL f most (t.items.drop j) m)∧Below w.heap.size w wr∧Boxed wr w.heap.size t.kind t.num t.text (.slice a t.items.length c))
     case atStart=>exact⟨0,1,rfl,rfl,by omega,by omega,by omega,by omega,rfl,hal,HX.out⟩
     case round=>
      obtain⟨j,m,rfl,rfl,hj,hk,hn1,hn2,Hc,hbw,hbx⟩:=hrel
      have Hk:Hid _:=hk
      have HB:Hid (Boxed wr w.heap.size t.kind t.num t.text (.slice a t.items.length c)):=hbx
      clear hk hbx HX
      by_cases hlt:j<t.items.length
      ·obtain⟨b1,o1,rfl,hall1⟩:=Hr.out (by intro e;simp [e] at hlt)
       obtain⟨x,p0,p1,p2,p3,p4,_⟩:=hall1 j hlt
       clear hall1
       obtain⟨ax,cx,rfl,_⟩:=Lies.slice p4
       have p0:=zaa hbw p0;have p1:=zaa hbw p1;have p2:=zaa hbw p2;have p3:=zaa hbw p3
       have p4:Hid (Lies d w t.items[j].items (.slice ax t.items[j].items.length cx)):=p4
       have hl1:b1<wr.heap.size:=zad p0
       have hws:w.heap.size≤wr.heap.size:=hbw.size
       have hdd:=Hdp.out (by omega)
       have Hst:Hid _:=rfL_step f most t.items j m hlt
       have hfb:=hfr.out t.items[j] (most-m) (by omega)
       go_wp2_with fail
       have hfc:=hf.out t.items[j] (.slice ax t.items[j].items.length cx) (most-m)
       refine (hfc _ (List.getElem_mem hlt) hdd (Lies.keeps (hbw.alloc hws _) _ _ _ p4.out) (by omega) (by omega)).mono ?_
       rintro e w1 ⟨rfl,hg⟩
       have hb2:Below w.heap.size w w1:=(hbw.alloc hws _).trans (hg.mono (by simp;omega))
       have HB1:Hid (Boxed w1 w.heap.size t.kind t.num t.text (.slice (some ⟨b1,o1,none⟩) t.items.length c)):=(HB.out.keeps ((Grew.refl _).alloc _).below).keeps hg
       clear hg hfc p0 p1 p2 p3 p4 HB hf
       generalize hK:f t.items[j] (most-m)=K at *
       have HK:Hid _:=hK
       clear hK
       by_cases hneg:K<0
       ·have hfin:Hid (rfL f most t.items 1 = -1):=by
         show _=_
         rw [Hc.out,Hst.out,if_pos hneg]
        clear Hst Hc
        go_wp2_with fail
        go_ret
        rw [hz.out,hfin.out]
        exact⟨rfl,hb2⟩
       ·have hfin:Hid (rfL f most t.items 1=rfL f most (t.items.drop (j+1)) (m+K)):=by
         show _=_
         rw [Hc.out,Hst.out,if_neg hneg]
        clear Hst Hc
        go_wp2_with fail
        go_roundg (t.items.length-(j+1))
        case measure=>have:=Hk.out;omega
        case rel=>exact⟨j+1,m+K,by go_num,by go_num,by omega,rfl,by omega,by omega,hfin,hb2,HB1.out⟩
      ·have hfin:Hid (rfL f most t.items 1=m):=by
        show _=_
        rw [Hc.out,List.drop_eq_nil_of_le (by omega)]
        rfl
       obtain⟨x0,x1,x2,x3⟩:=HB.out
       clear Hc hf Hr
       go_wp2_with fail
       refine (own_any d t _ _ (Lies.keeps hbw _ _ _ HL.out) hlen).mono ?_
       rintro e w2 ⟨rfl,hg⟩
       have hb2:Below w.heap.size w w2:=hbw.trans (hg.mono hbw.size)
       clear hg x0 x1 x2 x3 HB
       have hz2:=hz.out
       rw [hfin.out,if_neg (by omega)] at hz2
       have Hz2:Hid (rfN (ownV d t) f t deep most=if ownV d t then m else -1):=hz2
       clear hz2 hz
       cases ho:ownV d t
       ·have h1:=Hz2.out
        rw [ho] at h1
        have H1:Hid (rfN (ownV d t) f t deep most = -1):=by show _=_;rw [ho];exact h1
        clear h1 Hz2
        go_wp2_with fail
        go_ret
        have:=H1.out
        rw [ho] at this
        first|(rw [this];exact⟨rfl,hb2⟩)|(rw [H1.out];exact⟨rfl,hb2⟩)
       ·have h1:=Hz2.out
        rw [ho] at h1
        have H1:Hid (rfN (ownV d t) f t deep most=m):=by show _=_;rw [ho];exact h1
        clear h1 Hz2
        go_wp2_with fail
        go_ret
        have:=H1.out
        rw [ho] at this
        first|(rw [this];exact⟨rfl,hb2⟩)|(rw [H1.out];exact⟨rfl,hb2⟩)
    ·have hz0 : ¬((0:Int)<(t.items.length:Nat)):=by omega
     have hz1 : ¬(0<t.items.length):=by omega
     clear hze
     go_enter Tryz.func43,Tryz.ntmps43
     go_wp2_with fail
     go_loopg [7,33] t.items.length (fun g n i wr=>∃(j:Nat) (m:Int),i=.int .i64 (j:Int)∧n=.int .i64 m∧j≤t.items.length∧g=t.items.length-j∧1≤m∧m≤most∧Hid (rfL f most t.items 1=rfL f most (t.items.drop j) m)∧Below w.heap.size w wr∧Boxed wr w.heap.size t.kind t.num t.text (.slice a t.items.length c))
     case atStart=>exact⟨0,1,rfl,rfl,by omega,by omega,by omega,by omega,rfl,hal,HX.out⟩
     case round=>
      obtain⟨j,m,rfl,rfl,hj,hk,hn1,hn2,Hc,hbw,hbx⟩:=hrel
      have Hk:Hid _:=hk
      have HB:Hid (Boxed wr w.heap.size t.kind t.num t.text (.slice a t.items.length c)):=hbx
      clear hk hbx HX
      by_cases hlt:j<t.items.length
      ·exact absurd (Nat.lt_of_le_of_lt (Nat.zero_le _) hlt) hz1
      ·have hfin:Hid (rfL f most t.items 1=m):=by
        show _=_
        rw [Hc.out,List.drop_eq_nil_of_le (by omega)]
        rfl
       obtain⟨x0,x1,x2,x3⟩:=HB.out
       clear Hc hf Hr
       go_wp2_with fail
       refine (own_any d t _ _ (Lies.keeps hbw _ _ _ HL.out) hlen).mono ?_
       rintro e w2 ⟨rfl,hg⟩
       have hb2:Below w.heap.size w w2:=hbw.trans (hg.mono hbw.size)
       clear hg x0 x1 x2 x3 HB
       have hz2:=hz.out
       rw [hfin.out,if_neg (by omega)] at hz2
       have Hz2:Hid (rfN (ownV d t) f t deep most=if ownV d t then m else -1):=hz2
       clear hz2 hz
       cases ho:ownV d t
       ·have h1:=Hz2.out
        rw [ho] at h1
        have H1:Hid (rfN (ownV d t) f t deep most = -1):=by show _=_;rw [ho];exact h1
        clear h1 Hz2
        go_wp2_with fail
        go_ret
        have:=H1.out
        rw [ho] at this
        first|(rw [this];exact⟨rfl,hb2⟩)|(rw [H1.out];exact⟨rfl,hb2⟩)
       ·have h1:=Hz2.out
        rw [ho] at h1
        have H1:Hid (rfN (ownV d t) f t deep most=m):=by show _=_;rw [ho];exact h1
        clear h1 Hz2
        go_wp2_with fail
        go_ret
        have:=H1.out
        rw [ho] at this
        first|(rw [this];exact⟨rfl,hb2⟩)|(rw [H1.out];exact⟨rfl,hb2⟩)
theorem rfL_bound {f:VT→Int→Int} (hf:∀x m,0≤m→f x m≤m) (most:Int):∀(l:List VT) (n:Int),0≤n→n≤most→rfL f most l n≤most:=by
 intro l
 induction l with
 | nil=>intro n _ h;exact h
 | cons x l ih=>
  intro n h0 h
  unfold rfL
  split
  ·omega
  ·have:=hf x (most-n) (by omega)
   exact ih _ (by omega) (by omega)
theorem rfN_bound {o:Bool} {f:VT→Int→Int} (hf:∀x m,0≤m→f x m≤m) (t:VT) (deep most:Int) (hm:0≤most):rfN o f t deep most≤most:=by
 unfold rfN
 split
 ·omega
 ·split
  ·omega
  ·split
   ·exact rfL_bound hf most _ 1 (by omega) (by omega)
   ·omega
theorem rf_bound:∀(d:Nat) (t:VT) (deep most:Int),0≤most→rf d t deep most≤most:=by
 intro d
 induction d with
 | zero=>intro t deep most hm;exact rfN_bound (fun x m h=>by omega) t deep most hm
 | succ d ih=>intro t deep most hm;exact rfN_bound (fun x m h=>ih x (deep-1) m h) t deep most hm
theorem rfits_any:∀(d:Nat) (t:VT) (u:Value) (w:World) (deep most:Int),Lies d w t.items u→0≤deep→deep≤16→0≤most→most≤1024→
 Calls Tryz.prog 43 #[.agg #[.int .i64 t.kind,.int .i64 t.num,.string t.text,u],.int .i64 deep,.int .i64 most] w fun e w'=>e=.returned (.int .i64 (rf d t deep most))∧Below w.heap.size w w':=by
 intro d
 induction d with
 | zero=>
  intro t u w deep most hu h1 h2 h3 h4
  have e1:t.items=[]:=hu.1
  exact rfits_core 0 (fun _ _=> -1) t u w deep most (Lies.deeper _ _ _ hu) h1 h2 h3 h4 (fun _ m h=>by show -1≤m;omega) (fun x _ _ _ hx=>by rw [e1] at hx;cases hx)
 | succ d ih=>
  intro t u w deep most hu h1 h2 h3 h4
  exact rfits_core d (fun x m=>rf d x (deep-1) m) t u w deep most hu h1 h2 h3 h4 (fun x m h=>rf_bound d x _ m h) (fun x v m W _ hd hl hm1 hm2=>ih x v W (deep-1) m hl (by omega) (by omega) hm1 hm2)
theorem rfL_fw {f:VT→Int→Int} {g:VT→Int→Bool×Int} {r:VT→Bool} (hg:∀x m,0≤m→0≤(g x m).2∧(g x m).2≤m) (most:Int) :
 ∀(l:List VT),(∀x∈l,∀m,0≤m→f x m=if (g x m).1&&r x then m-(g x m).2 else -1)→∀(n:Int),n≤most→rfL f most l n=if (fwL g l (most-n)).1&&l.all r then most-(fwL g l (most-n)).2 else -1:=by
 intro l
 induction l with
 | nil=>intro _ n h;simp [rfL,fwL];omega
 | cons x l ih=>
  intro hf n h
  have h0:=hf x List.mem_cons_self (most-n) (by omega)
  have hr:=hg x (most-n) (by omega)
  unfold rfL fwL
  rw [List.all_cons]
  cases e1:(g x (most-n)).1
  ·rw [e1] at h0
   rw [h0]
   simp
  ·rw [if_pos rfl]
   cases e2:r x
   ·rw [e1,e2] at h0
    rw [h0]
    simp
   ·rw [e1,e2] at h0
    simp only [Bool.and_self,if_true] at h0
    rw [h0,if_neg (by omega),ih (fun y hy=>hf y (List.mem_cons_of_mem _ hy)) _ (by omega),show most-(n+(most-n-(g x (most-n)).2))=(g x (most-n)).2 by omega,Bool.true_and]
def Dp:Nat→VT→Prop
 | 0,t=>t.items=[]
 | d+1,t=>∀x∈t.items,Dp d x
theorem Dp.of_lies:∀(d:Nat) (w:World) (t:VT) (u:Value),Lies d w t.items u→Dp d t:=by
 intro d
 induction d with
 | zero=>intro w t u h;exact h.1
 | succ d ih=>
  intro w t u h x hx
  obtain⟨a,c,_,_,hr⟩:=h
  obtain⟨b,o,_,hall⟩:=hr (fun e=>by rw [e] at hx;cases hx)
  obtain⟨i,hi,rfl⟩:=List.getElem_of_mem hx
  obtain⟨v,_,_,_,_,hl,_⟩:=hall i hi
  exact ih w _ v hl
theorem fw_neg (d:Nat) (t:VT) (lv n:Int) (h:lv<0):fw d t lv n=(false,n):=by
 cases d with
 | zero=>unfold fw;rw [if_pos (Or.inl h)]
 | succ d=>unfold fw;rw [if_pos (Or.inl h)]
theorem rf_fw:∀(d:Nat) (t:VT) (deep most:Int),Dp d t→0≤deep→0≤most→rf d t deep most=if (fw d t deep most).1&&rpV d t then most-(fw d t deep most).2 else -1:=by
 intro d
 induction d with
 | zero=>
  intro t deep most ht h1 h2
  have e1:t.items=[]:=ht
  have hl:(t.items.length:Int)=0:=by rw [e1];rfl
  have hl2:t.items.length=0:=by rw [e1];rfl
  have hrl:∀f,rfL f most t.items 1=1:=fun f=>by rw [e1];rfl
  unfold rf rfN fw
  by_cases hm:most<1
  ·rw [if_pos (Or.inl hm),if_pos (Or.inr (by omega))]
   rfl
  ·rw [if_neg (by omega),if_neg (by omega : ¬(deep<0∨most=0)),hrl,if_neg (by omega)]
   show (if ownV 0 t=true then (1:Int) else -1)=if (true&&ownV 0 t)=true then most-(most-1) else -1
   rw [Bool.true_and]
   cases ownV 0 t
   ·rfl
   ·rw [if_pos rfl,if_pos rfl];omega
 | succ d ih=>
  intro t deep most ht h1 h2
  have hgr:∀x m,0≤m→0≤(fw d x (deep-1) m).2∧(fw d x (deep-1) m).2≤m:=fun x m hm=>fw_range d x (deep-1) m hm
  unfold rf rfN fw
  by_cases hm:most<1
  ·rw [if_pos (Or.inl hm),if_pos (Or.inr (by omega))]
   rfl
  ·rw [if_neg (by omega : ¬(deep<0∨most=0))]
   by_cases hd:0<t.items.length∧deep=0
   ·rw [if_pos (Or.inr (Or.inl hd))]
    have hff:(fwL (fun x m=>fw d x (deep-1) m) t.items (most-1)).1=false:=by
     cases hit:t.items with
     | nil=>rw [hit] at hd;simp at hd
     | cons x xs=>
      unfold fwL
      rw [fw_neg d x (deep-1) _ (by omega)]
      rfl
    rw [hff]
    rfl
   ·by_cases hl:most<t.items.length
    ·rw [if_pos (Or.inr (Or.inr hl))]
     have hff:(fwL (fun x m=>fw d x (deep-1) m) t.items (most-1)).1=false:=by
      cases e:(fwL (fun x m=>fw d x (deep-1) m) t.items (most-1)).1
      ·rfl
      ·have:=(fwL_len (f:=fun x m=>fw d x (deep-1) m) (fun x m hm=>(hgr x m hm).1) (fun x m hm hb=>fw_less d x (deep-1) m hm hb) t.items (most-1) (by omega) e).1
       omega
     rw [hff]
     rfl
    ·rw [if_neg (by rintro (h|h|h);exact hm h;exact hd h;exact hl h)]
     have hx:=rfL_fw (f:=fun x m=>rf d x (deep-1) m) (g:=fun x m=>fw d x (deep-1) m) (r:=rpV d) hgr most t.items (fun x hx m hm'=>ih x (deep-1) m (ht x hx) (by
      have:0<t.items.length:=List.length_pos_of_mem hx
      by_cases e:deep=0
      ·exact absurd ⟨this,e⟩ hd
      ·omega) hm') 1 (by omega)
     have hrg:=(fwL_range (f:=fun x m=>fw d x (deep-1) m) hgr t.items (most-1) (by omega))
     rw [hx]
     show _=if ((fwL (fun x m=>fw d x (deep-1) m) t.items (most-1)).1&&(t.items.all (rpV d)&&ownV d t))=true then _ else _
     cases (fwL (fun x m=>fw d x (deep-1) m) t.items (most-1)).1
     ·simp
     ·cases t.items.all (rpV d)
      ·simp
      ·rw [Bool.true_and,if_pos rfl,if_neg (by omega),Bool.true_and,Bool.true_and]
theorem rf_right (d:Nat) (t:VT) (h:Dp d t):decide (0≤rf d t 16 1024)=zab d t:=by
 rw [rf_fw d t 16 1024 h (by omega) (by omega)]
 have hr:=fw_range d t 16 1024 (by omega)
 show _=((fw d t 16 1024).1&&rpV d t)
 cases ((fw d t 16 1024).1&&rpV d t)
 ·rfl
 ·rw [if_pos rfl,decide_eq_true (by omega)]
theorem right_any (d:Nat) (t:VT) (u:Value) (w:World) (hu:Lies d w t.items u) :
 Calls Tryz.prog 31 #[.agg #[.int .i64 t.kind,.int .i64 t.num,.string t.text,u]] w fun e w'=>e=.returned (.bool (zab d t))∧Below w.heap.size w w':=by
 have HR:Hid (decide (0≤rf d t 16 1024)=zab d t):=rf_right d t (Dp.of_lies d w t u hu)
 obtain⟨a,c,rfl,_⟩:=Lies.slice hu
 have HL:Hid (Lies d w t.items (.slice a t.items.length c)):=hu
 clear hu
 have hal:=((Grew.refl w).alloc (.cells #[.int .i64 t.kind,.int .i64 t.num,.string t.text,.slice a t.items.length c] 40)).below
 go_enter Tryz.func31,Tryz.ntmps31
 go_wp2_with fail
 refine (rfits_any d t _ _ 16 1024 (Lies.keeps hal _ _ _ HL.out) (by omega) (by omega) (by omega) (by omega)).mono ?_
 rintro e w1 ⟨rfl,hg⟩
 go_wp2_with fail
 go_ret
 exact⟨ret_b HR.out,hal.trans (hg.mono hal.size)⟩
theorem Dp.up:∀(d:Nat) (t:VT),Dp d t→Dp (d+1) t:=by
 intro d
 induction d with
 | zero=>intro t h x hx;rw [show t.items=[] from h] at hx;cases hx
 | succ d ih=>intro t h x hx;exact ih x (h x hx)
theorem Dp.mono {d e:Nat} {t:VT} (h:Dp d t) (hde:d≤e):Dp e t:=by
 induction e with
 | zero=>have:d=0:=by omega
         subst this;exact h
 | succ e ih=>
  by_cases hd:d=e+1
  ·subst hd;exact h
  ·exact Dp.up _ _ (ih (by omega))
theorem cmpL_congr {f g:VT→VT→Int}:∀(l m:List VT),(∀x∈l,∀y∈m,f x y=g x y)→cmpL f l m=cmpL g l m:=by
 intro l
 induction l with
 | nil=>intro m _;cases m <;> rfl
 | cons x l ih=>
  intro m h
  cases m with
  | nil=>rfl
  | cons y m=>
   have h0:=h x List.mem_cons_self y List.mem_cons_self
   have h1:=ih m (fun a ha b hb=>h a (List.mem_cons_of_mem _ ha) b (List.mem_cons_of_mem _ hb))
   unfold cmpL
   rw [h0,h1]
theorem cmpN_congr {f g:VT→VT→Int} (a b:VT) (h:∀x∈a.items,∀y∈b.items,f x y=g x y):cmpN f a b=cmpN g a b:=by
 unfold cmpN
 rw [cmpL_congr a.items b.items h]
theorem cmpV_up:∀(d:Nat) (a b:VT),Dp d a→Dp d b→cmpV (d+1) a b=cmpV d a b:=by
 intro d
 induction d with
 | zero=>
  intro a b ha _
  exact cmpN_congr a b (fun x hx=>by rw [show a.items=[] from ha] at hx;cases hx)
 | succ d ih=>intro a b ha hb;exact cmpN_congr a b (fun x hx y hy=>ih x y (ha x hx) (hb y hy))
theorem risF_congr {f g:VT→VT→Int} {s:Nat} {l:List VT} (h:∀x∈l,∀y∈l,f x y=g x y):∀b j,risF f s l b j=risF g s l b j:=by
 intro b
 induction b with
 | zero=>intro j;rfl
 | succ b ih=>
  intro j
  unfold risF
  cases hx:l[j]? with
  | none=>rfl
  | some x=>
   cases hy:l[j+s]? with
   | none=>rfl
   | some y=>
    simp only
    rw [h x (List.mem_of_getElem? hx) y (List.mem_of_getElem? hy),ih]
theorem okItems_congr {d e:Nat} {t:VT} (h:∀x∈t.items,∀y∈t.items,cmpV d x y=cmpV e x y):zam d t=zam e t:=by
 unfold zam
 rw [risF_congr h,risF_congr h]
theorem ownV_up (d:Nat) (t:VT) (h:Dp (d+1) t):ownV (d+1) t=ownV d t:=by
 unfold ownV
 rw [okItems_congr (d:=d+1) (e:=d) (fun x hx y hy=>cmpV_up d x y (h x hx) (h y hy))]
theorem all_congr {f g:VT→Bool}:∀(l:List VT),(∀x∈l,f x=g x)→l.all f=l.all g:=by
 intro l
 induction l with
 | nil=>intro _;rfl
 | cons x l ih=>intro h;rw [List.all_cons,List.all_cons,h x List.mem_cons_self,ih (fun y hy=>h y (List.mem_cons_of_mem _ hy))]
theorem rpV_up:∀(d:Nat) (t:VT),Dp d t→rpV (d+1) t=rpV d t:=by
 intro d
 induction d with
 | zero=>
  intro t h
  unfold rpV
  rw [show t.items=[] from h];rfl
 | succ d ih=>
  intro t h
  have e1:rpV (d+1+1) t=(t.items.all (rpV (d+1))&&ownV (d+1) t):=rfl
  have e2:rpV (d+1) t=(t.items.all (rpV d)&&ownV d t):=rfl
  rw [e1,e2,all_congr t.items (fun x hx=>ih x (h x hx)),ownV_up d t h]
theorem fwL_congr {f g:VT→Int→Bool×Int}:∀(l:List VT) (n:Int),(∀x∈l,∀m,f x m=g x m)→fwL f l n=fwL g l n:=by
 intro l
 induction l with
 | nil=>intro n _;rfl
 | cons x l ih=>
  intro n h
  unfold fwL
  rw [h x List.mem_cons_self,ih _ (fun y hy=>h y (List.mem_cons_of_mem _ hy))]
theorem fw_up:∀(d:Nat) (t:VT) (lv n:Int),Dp d t→fw (d+1) t lv n=fw d t lv n:=by
 intro d
 induction d with
 | zero=>
  intro t lv n h
  unfold fw
  rw [show t.items=[] from h];rfl
 | succ d ih=>
  intro t lv n h
  have e1:fw (d+1+1) t lv n=if lv<0∨n=0 then (false,n) else fwL (fun x m=>fw (d+1) x (lv-1) m) t.items (n-1):=rfl
  have e2:fw (d+1) t lv n=if lv<0∨n=0 then (false,n) else fwL (fun x m=>fw d x (lv-1) m) t.items (n-1):=rfl
  rw [e1,e2,fwL_congr (f:=fun x m=>fw (d+1) x (lv-1) m) (g:=fun x m=>fw d x (lv-1) m) t.items _ (fun x hx m=>ih x _ _ (h x hx))]
theorem rightV_up (d:Nat) (t:VT) (h:Dp d t):zab (d+1) t=zab d t:=by
 unfold zab
 rw [fw_up d t _ _ h,rpV_up d t h]
theorem rightV_eq {d e:Nat} (t:VT) (ht:Dp d t) (h:d≤e):zab e t=zab d t:=by
 induction e with
 | zero=>have:d=0:=by omega
         subst this;rfl
 | succ e ih=>
  by_cases hd:d=e+1
  ·subst hd;rfl
  ·rw [rightV_up e t (ht.mono (by omega)),ih (by omega)]
theorem rightV_any {d e:Nat} (t:VT) (h1:Dp d t) (h2:Dp e t):zab e t=zab d t:=by
 by_cases h:d≤e
 ·exact rightV_eq t h1 h
 ·exact (rightV_eq t h2 (by omega)).symm
theorem all2_self {f:VT→VT→Bool}:∀(l:List VT),(∀x∈l,f x x=true)→all2 f l l=true:=by
 intro l
 induction l with
 | nil=>intro _;rfl
 | cons x l ih=>intro h;unfold all2;rw [h x List.mem_cons_self,ih (fun y hy=>h y (List.mem_cons_of_mem _ hy))];rfl
theorem headS_self (a:VT):headS a a=true:=by simp [headS]
theorem sameV_self:∀(d:Nat) (a:VT),sameV d a a=true:=by
 intro d
 induction d with
 | zero=>intro a;exact headS_self a
 | succ d ih=>intro a;unfold sameV;rw [headS_self,all2_self a.items (fun x _=>ih x)];rfl
theorem fw_deep:∀(d:Nat) (t:VT) (lv:Nat) (n:Int),0≤n→(fw d t lv n).1=true→Dp d t→Dp lv t:=by
 intro d
 induction d with
 | zero=>intro t lv n _ _ h;exact Dp.mono (d:=0) h (Nat.zero_le _)
 | succ d ih=>
  intro t lv n hn hf h
  unfold fw at hf
  by_cases hx:(lv:Int)<0∨n=0
  ·rw [if_pos hx] at hf;cases hf
  ·rw [if_neg hx] at hf
   obtain⟨_,_,i3⟩:=fwL_len (f:=fun x m=>fw d x ((lv:Int)-1) m) (fun x m hm=>(fw_range d x _ m hm).1) (fun x m hm hb=>fw_less d x _ m hm hb) t.items (n-1) (by omega) hf
   cases lv with
   | zero=>
    show t.items=[]
    cases hi:t.items with
    | nil=>rfl
    | cons x l=>
     exfalso
     obtain⟨m,m1,_,m3⟩:=i3 x (by rw [hi];exact List.mem_cons_self)
     rw [fw_neg d x _ m (by simp)] at m3
     cases m3
   | succ lv=>
    intro x hx
    obtain⟨m,m1,_,m3⟩:=i3 x hx
    have e:((lv+1:Nat):Int)-1=(lv:Int):=by omega
    rw [e] at m3
    exact ih x lv m m1 m3 (h x hx)
theorem right_deep {d:Nat} {t:VT} (hr:zab d t=true) (h:Dp d t):Dp 16 t:=by
 unfold zab at hr
 rw [Bool.and_eq_true] at hr
 exact fw_deep d t 16 1024 (by omega) hr.1 h
theorem Lies.lower {w:World}:∀(e d:Nat) (l:List VT) (v:Value),Lies d w l v→(e=0→l=[])→(∀x∈l,Dp (e-1) x)→Lies e w l v:=by
 intro e
 induction e with
 | zero=>
  intro d l v h h0 _
  have hl:=h0 rfl
  subst hl
  obtain⟨a,c,hv,_⟩:=Lies.slice h
  exact⟨rfl,a,c,hv⟩
 | succ e ih=>
  intro d l v h _ hx
  cases d with
  | zero=>
   obtain⟨rfl,a,c,rfl⟩:=h
   exact⟨a,c,rfl,by simp,fun h=>absurd rfl h⟩
  | succ d=>
   obtain⟨a,c,hv,hb,hr⟩:=h
   refine⟨a,c,hv,hb,fun hne=>?_⟩
   obtain⟨b,o,ha,hall⟩:=hr hne
   refine⟨b,o,ha,fun i hi=>?_⟩
   obtain⟨u,h0,h1,h2,h3,h4,h5⟩:=hall i hi
   have hd:Dp e l[i]:=hx l[i] (List.getElem_mem hi)
   refine⟨u,h0,h1,h2,h3,ih d _ _ h4 (fun e0=>?_) (fun y hy=>?_),h5⟩
   ·subst e0;exact hd
   ·cases e with
    | zero=>rw [show l[i].items=[] from hd] at hy;cases hy
    | succ e=>exact hd y hy
theorem Lies.to {w:World} {e d:Nat} {t:VT} {v:Value} (h:Lies d w t.items v) (hd:Dp e t):Lies e w t.items v:=by
 refine Lies.lower e d t.items v h (fun e0=>?_) (fun x hx=>?_)
 ·subst e0;exact hd
 ·cases e with
  | zero=>rw [show t.items=[] from hd] at hx;cases hx
  | succ e=>exact hd x hx
theorem canon {w:World} {d:Nat} {t:VT} {v:Value} (h:Lies d w t.items v) (hr:zab d t=true):Lies 16 w t.items v∧zab 16 t=true:=by
 have hd:=Dp.of_lies d w t v h
 have h16:=right_deep hr hd
 exact⟨h.to h16,by rw [rightV_any t hd h16];exact hr⟩
theorem listed_any (d:Nat) (l:List VT) (u:Value) (w:World) (hu:Lies (d+1) w l u) :
 Calls Tryz.prog 13 #[u] w fun e w'=>e=.returned (.int .i64 (zae d l))∧Below w.heap.size w w':=by
 obtain⟨a,c,rfl,hb1,hr1⟩:=hu
 have Hr:Hid _:=hr1
 clear hr1
 by_cases hl:65536<l.length
 ·have hl':(65536:Int)<(l.length:Nat):=by omega
  have hz:Hid (zae d l=2):=by show _=_;unfold zae;rw [if_pos hl]
  clear Hr
  go_enter Tryz.func13,Tryz.ntmps13
  go_wp2_with fail
  go_ret
  rw [hz.out]
  exact⟨rfl,Below.refl _ _⟩
 ·have hl' : ¬((65536:Int)<(l.length:Nat)):=by omega
  have hz:Hid (zae d l=if l.all (zab d) then 0 else 3):=by show _=_;unfold zae;rw [if_neg hl]
  go_enter Tryz.func13,Tryz.ntmps13
  go_wp2_with fail
  go_loopg [10] l.length (fun g i wr=>∃j:Nat,i=.int .i64 (j:Int)∧j≤l.length∧g=l.length-j∧Hid (l.all (zab d)=(l.drop j).all (zab d))∧Below w.heap.size w wr)
  case atStart=>exact⟨0,rfl,by omega,by omega,rfl,Below.refl _ _⟩
  case round=>
   obtain⟨j,rfl,hj,hk,Hc,hbw⟩:=hrel
   have Hk:Hid _:=hk
   clear hk
   by_cases hlt:j<l.length
   ·obtain⟨b1,o1,rfl,hall1⟩:=Hr.out (by intro e;simp [e] at hlt)
    obtain⟨x,p0,p1,p2,p3,p4,_⟩:=hall1 j hlt
    clear hall1
    obtain⟨ax,cx,rfl,_⟩:=Lies.slice p4
    have p0:=zaa hbw p0;have p1:=zaa hbw p1;have p2:=zaa hbw p2;have p3:=zaa hbw p3
    have p4:Hid (Lies d w l[j].items (.slice ax l[j].items.length cx)):=p4
    have hws:w.heap.size≤wr.heap.size:=hbw.size
    have Hd:Hid (l.drop j=l[j]::l.drop (j+1)):=List.drop_eq_getElem_cons hlt
    go_wp2_with fail
    refine (right_any d l[j] _ _ (Lies.keeps (hbw.alloc hws _) _ _ _ p4.out)).mono ?_
    rintro e w1 ⟨rfl,hg⟩
    have hb2:Below w.heap.size w w1:=(hbw.alloc hws _).trans (hg.mono (by simp;omega))
    clear hg p0 p1 p2 p3 p4
    cases hr:zab d l[j]
    ·have hfin:Hid (zae d l=3):=by
      show _=_
      rw [hz.out,Hc.out,Hd.out,List.all_cons,hr]
      rfl
     clear hr Hc Hd hz
     go_wp2_with fail
     go_ret
     rw [hfin.out]
     exact⟨rfl,hb2⟩
    ·have hfin:Hid (l.all (zab d)=(l.drop (j+1)).all (zab d)):=by
      show _=_
      rw [Hc.out,Hd.out,List.all_cons,hr]
      rfl
     clear hr Hc Hd
     go_wp2_with fail
     go_roundg (l.length-(j+1))
     case measure=>have:=Hk.out;omega
     case rel=>exact⟨j+1,by go_num,by omega,rfl,hfin,hb2⟩
   ·have hfin:Hid (zae d l=0):=by
     show _=_
     rw [hz.out,Hc.out,List.drop_eq_nil_of_le (by omega)]
     rfl
    clear Hc hz
    go_wp2_with fail
    go_ret
    rw [hfin.out]
    exact⟨rfl,hbw⟩
end Go.Proofs.YtokmolmpkkcbiaaGreat
