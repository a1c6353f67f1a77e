import Derived.Test.YtcflooaoocngdaaGreatStabP
namespace Go.Proofs.YtcflooaoocngdaaGreat
open Go.RowKit
set_option maxRecDepth 100000 in
set_option maxHeartbeats 16000000 in
theorem stable_any (f d:Nat) (eg:∀args w,(callFunc f args).run Tryz.prog w=.ok (.enter f args) w) (cf:PP→PP→Int) (hc:CmpQ f (GoodQ d) cf) (hwk:Weak (ltC cf)) (w0:World) (g cap L:Nat) (hg:w0.heap.size≤g) (hlen:L≤65536) (M0:List PP) (hL:L=M0.length) (hG:∀p∈M0,GoodQ d w0 p) (w:World) (hR:RowQ w0 g M0 w) :
 Calls Tryz.prog 108 #[.slice (some ⟨g,0,none⟩) L cap,.int .i64 L,.func (.func f) #[] #[]] w fun e w'=>e=.returned (.tuple #[])∧∃l,StQ (ltC cf) w0 g M0 l w'∧Up (ltC cf) l:=by
 have H1:Hid (∀(l:List PP) (i a b:Nat) (W:World),StQ (ltC cf) w0 g M0 l W→Fst (ltC cf) 20 i l→a=i*20→b=a+20→b≤L→Calls Tryz.prog 120 #[.slice (some ⟨g,0,none⟩) L cap,.int .i64 a,.int .i64 b,.func (.func f) #[] #[]] W fun e w'=>e=.returned (.tuple #[])∧∃l',StQ (ltC cf) w0 g M0 l' w'∧Fst (ltC cf) 20 (i+1) l'):=
  fun l i a b W h1 h2 h3 h4 h5=>ins_step f d eg cf hc hwk w0 g cap L hg hlen M0 hL hG l i a b W h1 h2 h3 h4 h5
 have H2:Hid (∀(l:List PP) (i a:Nat) (W:World),StQ (ltC cf) w0 g M0 l W→Fst (ltC cf) 20 i l→a=i*20→a≤L→L<a+20→Calls Tryz.prog 120 #[.slice (some ⟨g,0,none⟩) L cap,.int .i64 a,.int .i64 L,.func (.func f) #[] #[]] W fun e w'=>e=.returned (.tuple #[])∧∃l',StQ (ltC cf) w0 g M0 l' w'∧AllB (ltC cf) 20 l'):=
  fun l i a W h1 h2 h3 h4 h5=>ins_last f d eg cf hc hwk w0 g cap L hg hlen M0 hL hG l i a W h1 h2 h3 h4 h5
 have H3:Hid (∀(l:List PP) (s i a m b:Nat) (W:World),StQ (ltC cf) w0 g M0 l W→Mid (ltC cf) s i l→0<s→a=i*(2*s)→m=a+s→b=a+2*s→b≤L→Calls Tryz.prog 121 #[.slice (some ⟨g,0,none⟩) L cap,.int .i64 a,.int .i64 m,.int .i64 b,.func (.func f) #[] #[]] W fun e w'=>e=.returned (.tuple #[])∧∃l',StQ (ltC cf) w0 g M0 l' w'∧Mid (ltC cf) s (i+1) l'):=
  fun l s i a m b W h1 h2 h3 h4 h5 h6 h7=>sym_step f d eg cf hc hwk w0 g cap L hg hlen M0 hL hG l s i a m b W h1 h2 h3 h4 h5 h6 h7
 have H4:Hid (∀(l:List PP) (s i a m:Nat) (W:World),StQ (ltC cf) w0 g M0 l W→Mid (ltC cf) s i l→0<s→a=i*(2*s)→m=a+s→m<L→L<a+2*s→Calls Tryz.prog 121 #[.slice (some ⟨g,0,none⟩) L cap,.int .i64 a,.int .i64 m,.int .i64 L,.func (.func f) #[] #[]] W fun e w'=>e=.returned (.tuple #[])∧∃l',StQ (ltC cf) w0 g M0 l' w'∧AllB (ltC cf) (2*s) l'):=
  fun l s i a m W h1 h2 h3 h4 h5 h6 h7=>sym_last f d eg cf hc hwk w0 g cap L hg hlen M0 hL hG l s i a m W h1 h2 h3 h4 h5 h6 h7
 have HS0:Hid (StQ (ltC cf) w0 g M0 M0 w):=⟨rfl,Alike.refl _ _,(fun _ h=>h),hR⟩
 have HF0:Hid (Fst (ltC cf) 20 0 M0):=fun k hk=>absurd hk (by omega)
 have HL:Hid (L=M0.length):=hL
 generalize ltC cf=lt at *
 clear hc hwk hG hR hL hg
 go_enter Tryz.func108,Tryz.ntmps108
 go_wp2_with fail
 go_loopg [7,8] L (fun z va vb wr=>∃(i a b:Nat) (l:List PP),va=.int .i64 (a:Int)∧vb=.int .i64 (b:Int)∧z=L-a∧Hid (a=i*20)∧Hid (b=a+20)∧a≤L∧Hid (StQ lt w0 g M0 l wr)∧Hid (Fst lt 20 i l))
 case atStart=>exact⟨0,0,20,M0,rfl,rfl,rfl,Nat.zero_mul 20 |>.symm,rfl,Nat.zero_le _,HS0,HF0⟩
 case round=>
  obtain⟨i,a,b,l,rfl,rfl,hk,Ha,Hb,hal,HS,HF⟩:=hrel
  have Hk:Hid _:=hk
  clear hk HS0 HF0
  by_cases hbl:b≤L
  ·have hbi:(b:Int)≤(L:Nat):=by omega
   go_wp2_with fail
   refine (H1.out l i a b _ HS.out HF.out Ha.out Hb.out hbl).mono ?_
   rintro e w1 ⟨rfl,l',hs',hf'⟩
   have HS1:Hid _:=hs'
   have HF1:Hid _:=hf'
   clear hs' hf' HS HF
   go_wp2_with fail
   go_roundg (L-b)
   case measure=>have:=Hk.out;have:=Hb.out;omega
   case rel=>exact⟨i+1,b,b+20,l',rfl,by go_num,rfl,(by show _=_;have:=Ha.out;have:=Hb.out;omega),rfl,hbl,HS1,HF1⟩
  ·have hbi : ¬(b:Int)≤(L:Nat):=by omega
   go_wp2_with fail
   refine (H2.out l i a _ HS.out HF.out Ha.out hal (by have:=Hb.out;omega)).mono ?_
   rintro e w1 ⟨rfl,l1,hs1,hb1⟩
   have HS1:Hid (StQ lt w0 g M0 l1 w1):=hs1
   have HB1:Hid (AllB lt 20 l1):=hb1
   clear hs1 hb1 HS HF Hk Ha Hb hbi hbl hal H1 H2
   go_wp2_with fail
   go_loopg [6] (L-20) (fun z vs wr=>∃(s:Nat) (l:List PP),vs=.int .i64 (s:Int)∧z=L-s∧0<s∧Hid (StQ lt w0 g M0 l wr)∧Hid (AllB lt s l))
   case atStart=>exact⟨20,l1,rfl,rfl,by omega,HS1,HB1⟩
   case round=>
    obtain⟨s,l,rfl,hk,hs0,HS,HB⟩:=hrel
    have Hk:Hid _:=hk
    clear hk HS1 HB1
    by_cases hsl:s<L
    ·have hsi:(s:Int)<(L:Nat):=by omega
     have HM0:Hid (Mid lt s 0 l):=HB.out.mid
     obtain⟨t,ht⟩:∃t,t=2*s:=⟨_,rfl⟩
     have Ht:Hid (t=2*s):=ht
     have hw2:IntKind.i64.wrap (2*(s:Int))=(t:Int):=by rw [IntKind.wrap_i64];omega
     have hw3:IntKind.i64.wrap ((s:Int)*2)=(t:Int):=by rw [IntKind.wrap_i64];omega
     have htl:t<2*L:=by omega
     clear ht HB
     go_wp2_with fail
     go_loopg [7,8] L (fun z va vb wr=>∃(i a b:Nat) (l:List PP),va=.int .i64 (a:Int)∧vb=.int .i64 (b:Int)∧z=L-a∧Hid (a=i*(2*s))∧Hid (b=a+t)∧a≤L∧b<4*L∧Hid (StQ lt w0 g M0 l wr)∧Hid (Mid lt s i l))
     case atStart=>exact⟨0,0,t,l,rfl,rfl,rfl,(by show _=_;rw [Nat.zero_mul]),(by show _=_;omega),Nat.zero_le _,by omega,HS,HM0⟩
     case round=>
      obtain⟨i,a,b,l2,rfl,rfl,hk,Ha,Hb,hal,hb4,HS2,HM2⟩:=hrel
      have Hk2:Hid _:=hk
      clear hk HS HM0
      obtain⟨m,hm⟩:∃m,m=a+s:=⟨_,rfl⟩
      have hwm:IntKind.i64.wrap ((a:Int)+(s:Int))=(m:Int):=by rw [IntKind.wrap_i64];omega
      have Hm:Hid (m=a+s):=hm
      clear hm
      by_cases hbl:b≤L
      ·have hbi:(b:Int)≤(L:Nat):=by omega
       obtain⟨b2,hb2⟩:∃b2,b2=b+t:=⟨_,rfl⟩
       have hwb:IntKind.i64.wrap ((b:Int)+(t:Int))=(b2:Int):=by rw [IntKind.wrap_i64];omega
       have Hb2:Hid (b2=b+t):=hb2
       have hb24:b2<4*L:=by omega
       clear hb2
       go_wp2_with fail
       refine (H3.out l2 s i a m b _ HS2.out HM2.out hs0 Ha.out Hm.out (by have:=Hb.out;have:=Ht.out;omega) hbl).mono ?_
       rintro e w2 ⟨rfl,l',hs',hf'⟩
       have HS3:Hid _:=hs'
       have HM3:Hid _:=hf'
       clear hs' hf' HS2 HM2
       go_wp2_with fail
       go_roundg (L-b)
       case measure=>have:=Hk2.out;have:=Hb.out;have:=Ht.out;omega
       case rel=>exact⟨i+1,b,b2,l',rfl,rfl,rfl,(by show _=_;have:=Ha.out;have:=Hb.out;have:=Ht.out;rw [Nat.succ_mul];omega),Hb2,hbl,hb24,HS3,HM3⟩
      ·have hbi : ¬(b:Int)≤(L:Nat):=by omega
       by_cases hml:m<L
       ·have hmi:(m:Int)<(L:Nat):=by omega
        go_wp2_with fail
        refine (H4.out l2 s i a m _ HS2.out HM2.out hs0 Ha.out Hm.out hml (by have:=Hb.out;have:=Ht.out;omega)).mono ?_
        rintro e w2 ⟨rfl,l',hs',hf'⟩
        have HS3:Hid _:=hs'
        have HM3:Hid (AllB lt t l'):=by rw [Ht.out];exact hf'
        clear hs' hf' HS2 HM2
        go_wp2_with fail
        go_roundg (L-t)
        case measure=>have:=Hk.out;have:=Ht.out;omega
        case rel=>exact⟨t,l',rfl,rfl,by have:=Ht.out;omega,HS3,HM3⟩
       ·have hmi : ¬(m:Int)<(L:Nat):=by omega
        have HM3:Hid (AllB lt t l2):=by rw [Ht.out];exact HM2.out.all (by have:=HS2.out.len;have:=HL.out;have:=Ha.out;have:=Hm.out;omega)
        go_wp2_with fail
        go_roundg (L-t)
        case measure=>have:=Hk.out;have:=Ht.out;omega
        case rel=>exact⟨t,l2,rfl,rfl,by have:=Ht.out;omega,HS2,HM3⟩
    ·have hsi : ¬(s:Int)<(L:Nat):=by omega
     have HE:Hid (∃l,StQ lt w0 g M0 l wr∧Up lt l):=⟨l,HS.out,HB.out.whole (by have:=HS.out.len;have:=HL.out;omega)⟩
     clear HS HB
     go_wp2_with fail
     exact bodyPost_end (v:=.tuple #[]) (by simp [results,Tryz.results108,go_sem]) rfl ⟨rfl,HE.out⟩
end Go.Proofs.YtcflooaoocngdaaGreat
