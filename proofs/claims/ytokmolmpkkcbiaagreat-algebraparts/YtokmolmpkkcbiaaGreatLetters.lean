import Derived.Test.YtokmolmpkkcbiaaGreatUtf
import Derived.PlainAid
set_option maxHeartbeats 2000000
namespace Go.Proofs.YtokmolmpkkcbiaaGreat
open Go.RowKit Go.PlainAid
def genV (s:ByteArray) (pos n:Nat) (lo hi:Int):Int:=
 if pos+n≤s.size∧lo≤bt s (pos+1)∧bt s (pos+1)≤hi∧(∀m,m<n→2≤m→128≤bt s (pos+m)∧bt s (pos+m)≤191) then n else 0
def utfW (s:ByteArray) (pos:Nat):Int:=
 if bt s pos<128 then 1 else if 194≤bt s pos∧bt s pos≤223 then genV s pos 2 128 191
 else if bt s pos=224 then genV s pos 3 160 191 else if bt s pos=237 then genV s pos 3 128 159
 else if 225≤bt s pos∧bt s pos≤239 then genV s pos 3 128 191
 else if bt s pos=240 then genV s pos 4 144 191 else if bt s pos=244 then genV s pos 4 128 143
 else if 241≤bt s pos∧bt s pos≤243 then genV s pos 4 128 191 else 0
theorem ret_i {a b:Int} (h:a=b):Ending.returned (.int .i64 a)=.returned (.int .i64 b):=by rw [h]
theorem utf_two (s:ByteArray) (pos:Nat) (w:World) (hs:s.size≤4294967296) (hp:pos<s.size) (hc1:194≤bt s pos) (hc2:bt s pos≤223) :
 Calls Tryz.prog 108 #[.string s,.int .i64 pos] w fun e w'=>e=.returned (.int .i64 (genV s pos 2 128 191))∧w'=w:=by
 have hb:=get_bt s
 have n224:(bt s pos==224)=false:=by rw [beq_eq_false_iff_ne];omega
 have n237:(bt s pos==237)=false:=by rw [beq_eq_false_iff_ne];omega
 have n240:(bt s pos==240)=false:=by rw [beq_eq_false_iff_ne];omega
 have n244:(bt s pos==244)=false:=by rw [beq_eq_false_iff_ne];omega
 by_cases h3:pos+2≤s.size
 ·have h3' : ¬((s.size:Int)<(pos:Int)+2):=by omega
  have h3i:(pos:Int)+1<(s.size:Nat):=by omega
  by_cases hlo:128≤bt s (pos+1)
  ·have hlo' : ¬(bt s (pos+1)<128):=by omega
   by_cases hhi:bt s (pos+1)≤191
   ·have hhi' : ¬(191<bt s (pos+1)):=by omega
    go_enter Tryz.func108,Tryz.ntmps108
    go_wp2_with fail
    go_loopg [9] 0 (fun k i wr=>∃j:Nat,i=.int .i64 j∧2≤j∧j≤2∧k=2-j∧Hid (∀m,m<j→2≤m→128≤bt s (pos+m)∧bt s (pos+m)≤191)∧wr=w)
    case atStart=>exact⟨2,rfl,by omega,by omega,by omega,fun m h1 h2=>by omega,rfl⟩
    case round=>
     obtain⟨j,rfl,hj2,hj,hk,HC,rfl⟩:=hrel
     have Hk:Hid _:=hk
     clear hk
     by_cases hlt:j<2
     ·exfalso;omega
     ·have hjn:j=2:=by omega
      subst hjn
      go_wp2_with fail
      go_ret
      refine⟨ret_i ?_,rfl⟩
      unfold genV
      rw [if_pos ⟨h3,hlo,hhi,HC.out⟩]
      rfl
   ·have hhi':191<bt s (pos+1):=by omega
    go_enter Tryz.func108,Tryz.ntmps108
    go_wp2_with fail
    go_ret
    refine⟨ret_i ?_,rfl⟩
    unfold genV
    rw [if_neg (fun h=>by omega)]
  ·have hlo':bt s (pos+1)<128:=by omega
   go_enter Tryz.func108,Tryz.ntmps108
   go_wp2_with fail
   go_ret
   refine⟨ret_i ?_,rfl⟩
   unfold genV
   rw [if_neg (fun h=>by omega)]
 ·have h3':(s.size:Int)<(pos:Int)+2:=by omega
  go_enter Tryz.func108,Tryz.ntmps108
  go_wp2_with fail
  go_ret
  refine⟨ret_i ?_,rfl⟩
  unfold genV
  rw [if_neg (fun h=>by omega)]
theorem utf_e0 (s:ByteArray) (pos:Nat) (w:World) (hs:s.size≤4294967296) (hp:pos<s.size) (hc:bt s pos=224) :
 Calls Tryz.prog 108 #[.string s,.int .i64 pos] w fun e w'=>e=.returned (.int .i64 (genV s pos 3 160 191))∧w'=w:=by
 have hb:=get_bt s
 by_cases h3:pos+3≤s.size
 ·have h3' : ¬((s.size:Int)<(pos:Int)+3):=by omega
  have h3i:(pos:Int)+1<(s.size:Nat):=by omega
  by_cases hlo:160≤bt s (pos+1)
  ·have hlo' : ¬(bt s (pos+1)<160):=by omega
   by_cases hhi:bt s (pos+1)≤191
   ·have hhi' : ¬(191<bt s (pos+1)):=by omega
    go_enter Tryz.func108,Tryz.ntmps108
    go_wp2_with fail
    go_loopg [9] 1 (fun k i wr=>∃j:Nat,i=.int .i64 j∧2≤j∧j≤3∧k=3-j∧Hid (∀m,m<j→2≤m→128≤bt s (pos+m)∧bt s (pos+m)≤191)∧wr=w)
    case atStart=>exact⟨2,rfl,by omega,by omega,by omega,fun m h1 h2=>by omega,rfl⟩
    case round=>
     obtain⟨j,rfl,hj2,hj,hk,HC,rfl⟩:=hrel
     have Hk:Hid _:=hk
     clear hk
     by_cases hlt:j<3
     ·have hji:(pos:Int)+(j:Int)<(s.size:Nat):=by omega
      have hjn:pos+j<s.size:=by omega
      by_cases ha:128≤bt s (pos+j)
      ·by_cases hz:bt s (pos+j)≤191
       ·have HC2:Hid (∀m,m<j+1→2≤m→128≤bt s (pos+m)∧bt s (pos+m)≤191):=fun m h1 h2=>by
         by_cases e:m=j
         ·subst e;exact⟨ha,hz⟩
         ·exact HC.out m (by omega) h2
        clear HC
        go_wp2_with fail
        go_roundg (3-(j+1))
        case measure=>have:=Hk.out;omega
        case rel=>exact⟨j+1,by go_num,by omega,by omega,rfl,HC2,rfl⟩
       ·have hz':191<bt s (pos+j):=by omega
        clear HC
        go_wp2_with fail
        go_ret
        refine⟨ret_i ?_,rfl⟩
        unfold genV
        rw [if_neg (fun h=>by have:=h.2.2.2 j hlt hj2;omega)]
      ·have ha':bt s (pos+j)<128:=by omega
       clear HC
       go_wp2_with fail
       go_ret
       refine⟨ret_i ?_,rfl⟩
       unfold genV
       rw [if_neg (fun h=>by have:=h.2.2.2 j hlt hj2;omega)]
     ·have hjn:j=3:=by omega
      subst hjn
      go_wp2_with fail
      go_ret
      refine⟨ret_i ?_,rfl⟩
      unfold genV
      rw [if_pos ⟨h3,hlo,hhi,HC.out⟩]
      rfl
   ·have hhi':191<bt s (pos+1):=by omega
    go_enter Tryz.func108,Tryz.ntmps108
    go_wp2_with fail
    go_ret
    refine⟨ret_i ?_,rfl⟩
    unfold genV
    rw [if_neg (fun h=>by omega)]
  ·have hlo':bt s (pos+1)<160:=by omega
   go_enter Tryz.func108,Tryz.ntmps108
   go_wp2_with fail
   go_ret
   refine⟨ret_i ?_,rfl⟩
   unfold genV
   rw [if_neg (fun h=>by omega)]
 ·have h3':(s.size:Int)<(pos:Int)+3:=by omega
  go_enter Tryz.func108,Tryz.ntmps108
  go_wp2_with fail
  go_ret
  refine⟨ret_i ?_,rfl⟩
  unfold genV
  rw [if_neg (fun h=>by omega)]
theorem utf_ed (s:ByteArray) (pos:Nat) (w:World) (hs:s.size≤4294967296) (hp:pos<s.size) (hc:bt s pos=237) :
 Calls Tryz.prog 108 #[.string s,.int .i64 pos] w fun e w'=>e=.returned (.int .i64 (genV s pos 3 128 159))∧w'=w:=by
 have hb:=get_bt s
 by_cases h3:pos+3≤s.size
 ·have h3' : ¬((s.size:Int)<(pos:Int)+3):=by omega
  have h3i:(pos:Int)+1<(s.size:Nat):=by omega
  by_cases hlo:128≤bt s (pos+1)
  ·have hlo' : ¬(bt s (pos+1)<128):=by omega
   by_cases hhi:bt s (pos+1)≤159
   ·have hhi' : ¬(159<bt s (pos+1)):=by omega
    go_enter Tryz.func108,Tryz.ntmps108
    go_wp2_with fail
    go_loopg [9] 1 (fun k i wr=>∃j:Nat,i=.int .i64 j∧2≤j∧j≤3∧k=3-j∧Hid (∀m,m<j→2≤m→128≤bt s (pos+m)∧bt s (pos+m)≤191)∧wr=w)
    case atStart=>exact⟨2,rfl,by omega,by omega,by omega,fun m h1 h2=>by omega,rfl⟩
    case round=>
     obtain⟨j,rfl,hj2,hj,hk,HC,rfl⟩:=hrel
     have Hk:Hid _:=hk
     clear hk
     by_cases hlt:j<3
     ·have hji:(pos:Int)+(j:Int)<(s.size:Nat):=by omega
      have hjn:pos+j<s.size:=by omega
      by_cases ha:128≤bt s (pos+j)
      ·by_cases hz:bt s (pos+j)≤191
       ·have HC2:Hid (∀m,m<j+1→2≤m→128≤bt s (pos+m)∧bt s (pos+m)≤191):=fun m h1 h2=>by
         by_cases e:m=j
         ·subst e;exact⟨ha,hz⟩
         ·exact HC.out m (by omega) h2
        clear HC
        go_wp2_with fail
        go_roundg (3-(j+1))
        case measure=>have:=Hk.out;omega
        case rel=>exact⟨j+1,by go_num,by omega,by omega,rfl,HC2,rfl⟩
       ·have hz':191<bt s (pos+j):=by omega
        clear HC
        go_wp2_with fail
        go_ret
        refine⟨ret_i ?_,rfl⟩
        unfold genV
        rw [if_neg (fun h=>by have:=h.2.2.2 j hlt hj2;omega)]
      ·have ha':bt s (pos+j)<128:=by omega
       clear HC
       go_wp2_with fail
       go_ret
       refine⟨ret_i ?_,rfl⟩
       unfold genV
       rw [if_neg (fun h=>by have:=h.2.2.2 j hlt hj2;omega)]
     ·have hjn:j=3:=by omega
      subst hjn
      go_wp2_with fail
      go_ret
      refine⟨ret_i ?_,rfl⟩
      unfold genV
      rw [if_pos ⟨h3,hlo,hhi,HC.out⟩]
      rfl
   ·have hhi':159<bt s (pos+1):=by omega
    go_enter Tryz.func108,Tryz.ntmps108
    go_wp2_with fail
    go_ret
    refine⟨ret_i ?_,rfl⟩
    unfold genV
    rw [if_neg (fun h=>by omega)]
  ·have hlo':bt s (pos+1)<128:=by omega
   go_enter Tryz.func108,Tryz.ntmps108
   go_wp2_with fail
   go_ret
   refine⟨ret_i ?_,rfl⟩
   unfold genV
   rw [if_neg (fun h=>by omega)]
 ·have h3':(s.size:Int)<(pos:Int)+3:=by omega
  go_enter Tryz.func108,Tryz.ntmps108
  go_wp2_with fail
  go_ret
  refine⟨ret_i ?_,rfl⟩
  unfold genV
  rw [if_neg (fun h=>by omega)]
theorem utf_three1 (s:ByteArray) (pos:Nat) (w:World) (hs:s.size≤4294967296) (hp:pos<s.size) (hc1:225≤bt s pos) (hc2:bt s pos≤236) :
 Calls Tryz.prog 108 #[.string s,.int .i64 pos] w fun e w'=>e=.returned (.int .i64 (genV s pos 3 128 191))∧w'=w:=by
 have hb:=get_bt s
 have n224:(bt s pos==224)=false:=by rw [beq_eq_false_iff_ne];omega
 have n237:(bt s pos==237)=false:=by rw [beq_eq_false_iff_ne];omega
 have n240:(bt s pos==240)=false:=by rw [beq_eq_false_iff_ne];omega
 have n244:(bt s pos==244)=false:=by rw [beq_eq_false_iff_ne];omega
 by_cases h3:pos+3≤s.size
 ·have h3' : ¬((s.size:Int)<(pos:Int)+3):=by omega
  have h3i:(pos:Int)+1<(s.size:Nat):=by omega
  by_cases hlo:128≤bt s (pos+1)
  ·have hlo' : ¬(bt s (pos+1)<128):=by omega
   by_cases hhi:bt s (pos+1)≤191
   ·have hhi' : ¬(191<bt s (pos+1)):=by omega
    go_enter Tryz.func108,Tryz.ntmps108
    go_wp2_with fail
    go_loopg [9] 1 (fun k i wr=>∃j:Nat,i=.int .i64 j∧2≤j∧j≤3∧k=3-j∧Hid (∀m,m<j→2≤m→128≤bt s (pos+m)∧bt s (pos+m)≤191)∧wr=w)
    case atStart=>exact⟨2,rfl,by omega,by omega,by omega,fun m h1 h2=>by omega,rfl⟩
    case round=>
     obtain⟨j,rfl,hj2,hj,hk,HC,rfl⟩:=hrel
     have Hk:Hid _:=hk
     clear hk
     by_cases hlt:j<3
     ·have hji:(pos:Int)+(j:Int)<(s.size:Nat):=by omega
      have hjn:pos+j<s.size:=by omega
      by_cases ha:128≤bt s (pos+j)
      ·by_cases hz:bt s (pos+j)≤191
       ·have HC2:Hid (∀m,m<j+1→2≤m→128≤bt s (pos+m)∧bt s (pos+m)≤191):=fun m h1 h2=>by
         by_cases e:m=j
         ·subst e;exact⟨ha,hz⟩
         ·exact HC.out m (by omega) h2
        clear HC
        go_wp2_with fail
        go_roundg (3-(j+1))
        case measure=>have:=Hk.out;omega
        case rel=>exact⟨j+1,by go_num,by omega,by omega,rfl,HC2,rfl⟩
       ·have hz':191<bt s (pos+j):=by omega
        clear HC
        go_wp2_with fail
        go_ret
        refine⟨ret_i ?_,rfl⟩
        unfold genV
        rw [if_neg (fun h=>by have:=h.2.2.2 j hlt hj2;omega)]
      ·have ha':bt s (pos+j)<128:=by omega
       clear HC
       go_wp2_with fail
       go_ret
       refine⟨ret_i ?_,rfl⟩
       unfold genV
       rw [if_neg (fun h=>by have:=h.2.2.2 j hlt hj2;omega)]
     ·have hjn:j=3:=by omega
      subst hjn
      go_wp2_with fail
      go_ret
      refine⟨ret_i ?_,rfl⟩
      unfold genV
      rw [if_pos ⟨h3,hlo,hhi,HC.out⟩]
      rfl
   ·have hhi':191<bt s (pos+1):=by omega
    go_enter Tryz.func108,Tryz.ntmps108
    go_wp2_with fail
    go_ret
    refine⟨ret_i ?_,rfl⟩
    unfold genV
    rw [if_neg (fun h=>by omega)]
  ·have hlo':bt s (pos+1)<128:=by omega
   go_enter Tryz.func108,Tryz.ntmps108
   go_wp2_with fail
   go_ret
   refine⟨ret_i ?_,rfl⟩
   unfold genV
   rw [if_neg (fun h=>by omega)]
 ·have h3':(s.size:Int)<(pos:Int)+3:=by omega
  go_enter Tryz.func108,Tryz.ntmps108
  go_wp2_with fail
  go_ret
  refine⟨ret_i ?_,rfl⟩
  unfold genV
  rw [if_neg (fun h=>by omega)]
theorem utf_three2 (s:ByteArray) (pos:Nat) (w:World) (hs:s.size≤4294967296) (hp:pos<s.size) (hc1:238≤bt s pos) (hc2:bt s pos≤239) :
 Calls Tryz.prog 108 #[.string s,.int .i64 pos] w fun e w'=>e=.returned (.int .i64 (genV s pos 3 128 191))∧w'=w:=by
 have hb:=get_bt s
 have n224:(bt s pos==224)=false:=by rw [beq_eq_false_iff_ne];omega
 have n237:(bt s pos==237)=false:=by rw [beq_eq_false_iff_ne];omega
 have n240:(bt s pos==240)=false:=by rw [beq_eq_false_iff_ne];omega
 have n244:(bt s pos==244)=false:=by rw [beq_eq_false_iff_ne];omega
 by_cases h3:pos+3≤s.size
 ·have h3' : ¬((s.size:Int)<(pos:Int)+3):=by omega
  have h3i:(pos:Int)+1<(s.size:Nat):=by omega
  by_cases hlo:128≤bt s (pos+1)
  ·have hlo' : ¬(bt s (pos+1)<128):=by omega
   by_cases hhi:bt s (pos+1)≤191
   ·have hhi' : ¬(191<bt s (pos+1)):=by omega
    go_enter Tryz.func108,Tryz.ntmps108
    go_wp2_with fail
    go_loopg [9] 1 (fun k i wr=>∃j:Nat,i=.int .i64 j∧2≤j∧j≤3∧k=3-j∧Hid (∀m,m<j→2≤m→128≤bt s (pos+m)∧bt s (pos+m)≤191)∧wr=w)
    case atStart=>exact⟨2,rfl,by omega,by omega,by omega,fun m h1 h2=>by omega,rfl⟩
    case round=>
     obtain⟨j,rfl,hj2,hj,hk,HC,rfl⟩:=hrel
     have Hk:Hid _:=hk
     clear hk
     by_cases hlt:j<3
     ·have hji:(pos:Int)+(j:Int)<(s.size:Nat):=by omega
      have hjn:pos+j<s.size:=by omega
      by_cases ha:128≤bt s (pos+j)
      ·by_cases hz:bt s (pos+j)≤191
       ·have HC2:Hid (∀m,m<j+1→2≤m→128≤bt s (pos+m)∧bt s (pos+m)≤191):=fun m h1 h2=>by
         by_cases e:m=j
         ·subst e;exact⟨ha,hz⟩
         ·exact HC.out m (by omega) h2
        clear HC
        go_wp2_with fail
        go_roundg (3-(j+1))
        case measure=>have:=Hk.out;omega
        case rel=>exact⟨j+1,by go_num,by omega,by omega,rfl,HC2,rfl⟩
       ·have hz':191<bt s (pos+j):=by omega
        clear HC
        go_wp2_with fail
        go_ret
        refine⟨ret_i ?_,rfl⟩
        unfold genV
        rw [if_neg (fun h=>by have:=h.2.2.2 j hlt hj2;omega)]
      ·have ha':bt s (pos+j)<128:=by omega
       clear HC
       go_wp2_with fail
       go_ret
       refine⟨ret_i ?_,rfl⟩
       unfold genV
       rw [if_neg (fun h=>by have:=h.2.2.2 j hlt hj2;omega)]
     ·have hjn:j=3:=by omega
      subst hjn
      go_wp2_with fail
      go_ret
      refine⟨ret_i ?_,rfl⟩
      unfold genV
      rw [if_pos ⟨h3,hlo,hhi,HC.out⟩]
      rfl
   ·have hhi':191<bt s (pos+1):=by omega
    go_enter Tryz.func108,Tryz.ntmps108
    go_wp2_with fail
    go_ret
    refine⟨ret_i ?_,rfl⟩
    unfold genV
    rw [if_neg (fun h=>by omega)]
  ·have hlo':bt s (pos+1)<128:=by omega
   go_enter Tryz.func108,Tryz.ntmps108
   go_wp2_with fail
   go_ret
   refine⟨ret_i ?_,rfl⟩
   unfold genV
   rw [if_neg (fun h=>by omega)]
 ·have h3':(s.size:Int)<(pos:Int)+3:=by omega
  go_enter Tryz.func108,Tryz.ntmps108
  go_wp2_with fail
  go_ret
  refine⟨ret_i ?_,rfl⟩
  unfold genV
  rw [if_neg (fun h=>by omega)]
theorem utf_f0 (s:ByteArray) (pos:Nat) (w:World) (hs:s.size≤4294967296) (hp:pos<s.size) (hc:bt s pos=240) :
 Calls Tryz.prog 108 #[.string s,.int .i64 pos] w fun e w'=>e=.returned (.int .i64 (genV s pos 4 144 191))∧w'=w:=by
 have hb:=get_bt s
 by_cases h3:pos+4≤s.size
 ·have h3' : ¬((s.size:Int)<(pos:Int)+4):=by omega
  have h3i:(pos:Int)+1<(s.size:Nat):=by omega
  by_cases hlo:144≤bt s (pos+1)
  ·have hlo' : ¬(bt s (pos+1)<144):=by omega
   by_cases hhi:bt s (pos+1)≤191
   ·have hhi' : ¬(191<bt s (pos+1)):=by omega
    go_enter Tryz.func108,Tryz.ntmps108
    go_wp2_with fail
    go_loopg [9] 2 (fun k i wr=>∃j:Nat,i=.int .i64 j∧2≤j∧j≤4∧k=4-j∧Hid (∀m,m<j→2≤m→128≤bt s (pos+m)∧bt s (pos+m)≤191)∧wr=w)
    case atStart=>exact⟨2,rfl,by omega,by omega,by omega,fun m h1 h2=>by omega,rfl⟩
    case round=>
     obtain⟨j,rfl,hj2,hj,hk,HC,rfl⟩:=hrel
     have Hk:Hid _:=hk
     clear hk
     by_cases hlt:j<4
     ·have hji:(pos:Int)+(j:Int)<(s.size:Nat):=by omega
      have hjn:pos+j<s.size:=by omega
      by_cases ha:128≤bt s (pos+j)
      ·by_cases hz:bt s (pos+j)≤191
       ·have HC2:Hid (∀m,m<j+1→2≤m→128≤bt s (pos+m)∧bt s (pos+m)≤191):=fun m h1 h2=>by
         by_cases e:m=j
         ·subst e;exact⟨ha,hz⟩
         ·exact HC.out m (by omega) h2
        clear HC
        go_wp2_with fail
        go_roundg (4-(j+1))
        case measure=>have:=Hk.out;omega
        case rel=>exact⟨j+1,by go_num,by omega,by omega,rfl,HC2,rfl⟩
       ·have hz':191<bt s (pos+j):=by omega
        clear HC
        go_wp2_with fail
        go_ret
        refine⟨ret_i ?_,rfl⟩
        unfold genV
        rw [if_neg (fun h=>by have:=h.2.2.2 j hlt hj2;omega)]
      ·have ha':bt s (pos+j)<128:=by omega
       clear HC
       go_wp2_with fail
       go_ret
       refine⟨ret_i ?_,rfl⟩
       unfold genV
       rw [if_neg (fun h=>by have:=h.2.2.2 j hlt hj2;omega)]
     ·have hjn:j=4:=by omega
      subst hjn
      go_wp2_with fail
      go_ret
      refine⟨ret_i ?_,rfl⟩
      unfold genV
      rw [if_pos ⟨h3,hlo,hhi,HC.out⟩]
      rfl
   ·have hhi':191<bt s (pos+1):=by omega
    go_enter Tryz.func108,Tryz.ntmps108
    go_wp2_with fail
    go_ret
    refine⟨ret_i ?_,rfl⟩
    unfold genV
    rw [if_neg (fun h=>by omega)]
  ·have hlo':bt s (pos+1)<144:=by omega
   go_enter Tryz.func108,Tryz.ntmps108
   go_wp2_with fail
   go_ret
   refine⟨ret_i ?_,rfl⟩
   unfold genV
   rw [if_neg (fun h=>by omega)]
 ·have h3':(s.size:Int)<(pos:Int)+4:=by omega
  go_enter Tryz.func108,Tryz.ntmps108
  go_wp2_with fail
  go_ret
  refine⟨ret_i ?_,rfl⟩
  unfold genV
  rw [if_neg (fun h=>by omega)]
theorem utf_f4 (s:ByteArray) (pos:Nat) (w:World) (hs:s.size≤4294967296) (hp:pos<s.size) (hc:bt s pos=244) :
 Calls Tryz.prog 108 #[.string s,.int .i64 pos] w fun e w'=>e=.returned (.int .i64 (genV s pos 4 128 143))∧w'=w:=by
 have hb:=get_bt s
 by_cases h3:pos+4≤s.size
 ·have h3' : ¬((s.size:Int)<(pos:Int)+4):=by omega
  have h3i:(pos:Int)+1<(s.size:Nat):=by omega
  by_cases hlo:128≤bt s (pos+1)
  ·have hlo' : ¬(bt s (pos+1)<128):=by omega
   by_cases hhi:bt s (pos+1)≤143
   ·have hhi' : ¬(143<bt s (pos+1)):=by omega
    go_enter Tryz.func108,Tryz.ntmps108
    go_wp2_with fail
    go_loopg [9] 2 (fun k i wr=>∃j:Nat,i=.int .i64 j∧2≤j∧j≤4∧k=4-j∧Hid (∀m,m<j→2≤m→128≤bt s (pos+m)∧bt s (pos+m)≤191)∧wr=w)
    case atStart=>exact⟨2,rfl,by omega,by omega,by omega,fun m h1 h2=>by omega,rfl⟩
    case round=>
     obtain⟨j,rfl,hj2,hj,hk,HC,rfl⟩:=hrel
     have Hk:Hid _:=hk
     clear hk
     by_cases hlt:j<4
     ·have hji:(pos:Int)+(j:Int)<(s.size:Nat):=by omega
      have hjn:pos+j<s.size:=by omega
      by_cases ha:128≤bt s (pos+j)
      ·by_cases hz:bt s (pos+j)≤191
       ·have HC2:Hid (∀m,m<j+1→2≤m→128≤bt s (pos+m)∧bt s (pos+m)≤191):=fun m h1 h2=>by
         by_cases e:m=j
         ·subst e;exact⟨ha,hz⟩
         ·exact HC.out m (by omega) h2
        clear HC
        go_wp2_with fail
        go_roundg (4-(j+1))
        case measure=>have:=Hk.out;omega
        case rel=>exact⟨j+1,by go_num,by omega,by omega,rfl,HC2,rfl⟩
       ·have hz':191<bt s (pos+j):=by omega
        clear HC
        go_wp2_with fail
        go_ret
        refine⟨ret_i ?_,rfl⟩
        unfold genV
        rw [if_neg (fun h=>by have:=h.2.2.2 j hlt hj2;omega)]
      ·have ha':bt s (pos+j)<128:=by omega
       clear HC
       go_wp2_with fail
       go_ret
       refine⟨ret_i ?_,rfl⟩
       unfold genV
       rw [if_neg (fun h=>by have:=h.2.2.2 j hlt hj2;omega)]
     ·have hjn:j=4:=by omega
      subst hjn
      go_wp2_with fail
      go_ret
      refine⟨ret_i ?_,rfl⟩
      unfold genV
      rw [if_pos ⟨h3,hlo,hhi,HC.out⟩]
      rfl
   ·have hhi':143<bt s (pos+1):=by omega
    go_enter Tryz.func108,Tryz.ntmps108
    go_wp2_with fail
    go_ret
    refine⟨ret_i ?_,rfl⟩
    unfold genV
    rw [if_neg (fun h=>by omega)]
  ·have hlo':bt s (pos+1)<128:=by omega
   go_enter Tryz.func108,Tryz.ntmps108
   go_wp2_with fail
   go_ret
   refine⟨ret_i ?_,rfl⟩
   unfold genV
   rw [if_neg (fun h=>by omega)]
 ·have h3':(s.size:Int)<(pos:Int)+4:=by omega
  go_enter Tryz.func108,Tryz.ntmps108
  go_wp2_with fail
  go_ret
  refine⟨ret_i ?_,rfl⟩
  unfold genV
  rw [if_neg (fun h=>by omega)]
theorem utf_four (s:ByteArray) (pos:Nat) (w:World) (hs:s.size≤4294967296) (hp:pos<s.size) (hc1:241≤bt s pos) (hc2:bt s pos≤243) :
 Calls Tryz.prog 108 #[.string s,.int .i64 pos] w fun e w'=>e=.returned (.int .i64 (genV s pos 4 128 191))∧w'=w:=by
 have hb:=get_bt s
 have n224:(bt s pos==224)=false:=by rw [beq_eq_false_iff_ne];omega
 have n237:(bt s pos==237)=false:=by rw [beq_eq_false_iff_ne];omega
 have n240:(bt s pos==240)=false:=by rw [beq_eq_false_iff_ne];omega
 have n244:(bt s pos==244)=false:=by rw [beq_eq_false_iff_ne];omega
 by_cases h3:pos+4≤s.size
 ·have h3' : ¬((s.size:Int)<(pos:Int)+4):=by omega
  have h3i:(pos:Int)+1<(s.size:Nat):=by omega
  by_cases hlo:128≤bt s (pos+1)
  ·have hlo' : ¬(bt s (pos+1)<128):=by omega
   by_cases hhi:bt s (pos+1)≤191
   ·have hhi' : ¬(191<bt s (pos+1)):=by omega
    go_enter Tryz.func108,Tryz.ntmps108
    go_wp2_with fail
    go_loopg [9] 2 (fun k i wr=>∃j:Nat,i=.int .i64 j∧2≤j∧j≤4∧k=4-j∧Hid (∀m,m<j→2≤m→128≤bt s (pos+m)∧bt s (pos+m)≤191)∧wr=w)
    case atStart=>exact⟨2,rfl,by omega,by omega,by omega,fun m h1 h2=>by omega,rfl⟩
    case round=>
     obtain⟨j,rfl,hj2,hj,hk,HC,rfl⟩:=hrel
     have Hk:Hid _:=hk
     clear hk
     by_cases hlt:j<4
     ·have hji:(pos:Int)+(j:Int)<(s.size:Nat):=by omega
      have hjn:pos+j<s.size:=by omega
      by_cases ha:128≤bt s (pos+j)
      ·by_cases hz:bt s (pos+j)≤191
       ·have HC2:Hid (∀m,m<j+1→2≤m→128≤bt s (pos+m)∧bt s (pos+m)≤191):=fun m h1 h2=>by
         by_cases e:m=j
         ·subst e;exact⟨ha,hz⟩
         ·exact HC.out m (by omega) h2
        clear HC
        go_wp2_with fail
        go_roundg (4-(j+1))
        case measure=>have:=Hk.out;omega
        case rel=>exact⟨j+1,by go_num,by omega,by omega,rfl,HC2,rfl⟩
       ·have hz':191<bt s (pos+j):=by omega
        clear HC
        go_wp2_with fail
        go_ret
        refine⟨ret_i ?_,rfl⟩
        unfold genV
        rw [if_neg (fun h=>by have:=h.2.2.2 j hlt hj2;omega)]
      ·have ha':bt s (pos+j)<128:=by omega
       clear HC
       go_wp2_with fail
       go_ret
       refine⟨ret_i ?_,rfl⟩
       unfold genV
       rw [if_neg (fun h=>by have:=h.2.2.2 j hlt hj2;omega)]
     ·have hjn:j=4:=by omega
      subst hjn
      go_wp2_with fail
      go_ret
      refine⟨ret_i ?_,rfl⟩
      unfold genV
      rw [if_pos ⟨h3,hlo,hhi,HC.out⟩]
      rfl
   ·have hhi':191<bt s (pos+1):=by omega
    go_enter Tryz.func108,Tryz.ntmps108
    go_wp2_with fail
    go_ret
    refine⟨ret_i ?_,rfl⟩
    unfold genV
    rw [if_neg (fun h=>by omega)]
  ·have hlo':bt s (pos+1)<128:=by omega
   go_enter Tryz.func108,Tryz.ntmps108
   go_wp2_with fail
   go_ret
   refine⟨ret_i ?_,rfl⟩
   unfold genV
   rw [if_neg (fun h=>by omega)]
 ·have h3':(s.size:Int)<(pos:Int)+4:=by omega
  go_enter Tryz.func108,Tryz.ntmps108
  go_wp2_with fail
  go_ret
  refine⟨ret_i ?_,rfl⟩
  unfold genV
  rw [if_neg (fun h=>by omega)]
theorem utf_one (s:ByteArray) (pos:Nat) (w:World) (hp:pos<s.size) (hc:bt s pos<128) :
 Calls Tryz.prog 108 #[.string s,.int .i64 pos] w fun e w'=>e=.returned (.int .i64 1)∧w'=w:=by
 have hb:=get_bt s
 go_enter Tryz.func108,Tryz.ntmps108
 go_wp2_with fail
 go_ret
 exact⟨rfl,rfl⟩
theorem utf_low (s:ByteArray) (pos:Nat) (w:World) (hp:pos<s.size) (hc1:128≤bt s pos) (hc2:bt s pos<194) :
 Calls Tryz.prog 108 #[.string s,.int .i64 pos] w fun e w'=>e=.returned (.int .i64 0)∧w'=w:=by
 have hb:=get_bt s
 have a1 : ¬(194≤bt s pos):=by omega
 have a2 : ¬(224≤bt s pos):=by omega
 have a3 : ¬(240≤bt s pos):=by omega
 go_enter Tryz.func108,Tryz.ntmps108
 go_wp2_with fail
 go_ret
 exact⟨rfl,rfl⟩
theorem utf_high (s:ByteArray) (pos:Nat) (w:World) (hp:pos<s.size) (hc1:244<bt s pos) :
 Calls Tryz.prog 108 #[.string s,.int .i64 pos] w fun e w'=>e=.returned (.int .i64 0)∧w'=w:=by
 have hb:=get_bt s
 have a0 : ¬(bt s pos<128):=by omega
 have a1 : ¬(bt s pos≤223):=by omega
 have a2 : ¬(bt s pos≤239):=by omega
 have a3 : ¬(bt s pos≤244):=by omega
 go_enter Tryz.func108,Tryz.ntmps108
 go_wp2_with fail
 go_ret
 exact⟨rfl,rfl⟩
theorem utf_any (s:ByteArray) (pos:Nat) (w:World) (hs:s.size≤4294967296) (hp:pos<s.size) :
 Calls Tryz.prog 108 #[.string s,.int .i64 pos] w fun e w'=>e=.returned (.int .i64 (utfW s pos))∧w'=w:=by
 unfold utfW
 by_cases h0:bt s pos<128
 ·rw [if_pos h0];exact utf_one s pos w hp h0
 ·rw [if_neg h0]
  by_cases h1:194≤bt s pos∧bt s pos≤223
  ·rw [if_pos h1];exact utf_two s pos w hs hp h1.1 h1.2
  ·rw [if_neg h1]
   by_cases h2:bt s pos=224
   ·rw [if_pos h2];exact utf_e0 s pos w hs hp h2
   ·rw [if_neg h2]
    by_cases h3:bt s pos=237
    ·rw [if_pos h3];exact utf_ed s pos w hs hp h3
    ·rw [if_neg h3]
     by_cases h4:225≤bt s pos∧bt s pos≤239
     ·rw [if_pos h4]
      by_cases h5:bt s pos≤236
      ·exact utf_three1 s pos w hs hp h4.1 h5
      ·exact utf_three2 s pos w hs hp (by omega) h4.2
     ·rw [if_neg h4]
      by_cases h6:bt s pos=240
      ·rw [if_pos h6];exact utf_f0 s pos w hs hp h6
      ·rw [if_neg h6]
       by_cases h7:bt s pos=244
       ·rw [if_pos h7];exact utf_f4 s pos w hs hp h7
       ·rw [if_neg h7]
        by_cases h8:241≤bt s pos∧bt s pos≤243
        ·rw [if_pos h8];exact utf_four s pos w hs hp h8.1 h8.2
        ·rw [if_neg h8]
         by_cases h9:bt s pos<194
         ·exact utf_low s pos w hp (by omega) h9
         ·exact utf_high s pos w hp (by omega)
def c2Z (b0 b1:Nat):Nat:=(b0 % 32)*64+b1 % 64
def c3Z (b0 b1 b2:Nat):Nat:=(b0 % 16)*4096+(b1 % 64)*64+b2 % 64
def c4Z (b0 b1 b2 b3:Nat):Nat:=(b0 % 8)*262144+(b1 % 64)*4096+(b2 % 64)*64+b3 % 64
def decQ (b0 b1 b2 b3:Nat) (k1 k2 k3:Bool):Nat×Nat:=
 if b0<0x80 then (b0,1)
 else if b0 / 32==6&&k1 then (if c2Z b0 b1 ≥ 0x80 then (c2Z b0 b1,2) else (Utf8.runeError,1))
 else if b0 / 16==14&&k1&&k2 then (if c3Z b0 b1 b2 ≥ 0x800&&Utf8.valid (c3Z b0 b1 b2:Nat) then (c3Z b0 b1 b2,3) else (Utf8.runeError,1))
 else if b0 / 8==30&&k1&&k2&&k3 then (if c4Z b0 b1 b2 b3 ≥ 0x10000&&Utf8.valid (c4Z b0 b1 b2 b3:Nat) then (c4Z b0 b1 b2 b3,4) else (Utf8.runeError,1))
 else (Utf8.runeError,1)
theorem dec_q (s:ByteArray) (pos:Nat):Utf8.decode s pos=decQ (s.get! (pos+0)).toNat (s.get! (pos+1)).toNat (s.get! (pos+2)).toNat (s.get! (pos+3)).toNat
 (decide (pos+1<s.size)&&(s.get! (pos+1)).toNat / 64==2) (decide (pos+2<s.size)&&(s.get! (pos+2)).toNat / 64==2) (decide (pos+3<s.size)&&(s.get! (pos+3)).toNat / 64==2):=by
 unfold decQ c2Z c3Z c4Z
 exact Utf8.decode.eq_1 s pos
theorem valid_iff (c:Nat):Utf8.valid (c:Int)=true↔(c<55296∨(57344≤c∧c≤1114111)):=by
 simp only [Utf8.valid,Bool.and_eq_true,Bool.or_eq_true,decide_eq_true_eq]
 omega
theorem decQ_one (b0 b1 b2 b3:Nat) (k1 k2 k3:Bool) (h:b0<128):decQ b0 b1 b2 b3 k1 k2 k3=(b0,1):=by
 unfold decQ
 rw [if_pos h]
theorem decQ_two (b0 b1 b2 b3:Nat) (k2 k3:Bool) (h1:194≤b0) (h2:b0≤223):decQ b0 b1 b2 b3 true k2 k3=(c2Z b0 b1,2):=by
 unfold decQ
 rw [if_neg (by omega),if_pos (by rw [Bool.and_true,beq_iff_eq];omega),if_pos (by unfold c2Z;omega)]
theorem decQ_three (b0 b1 b2 b3:Nat) (k3:Bool) (h1:224≤b0) (h2:b0≤239) (h3:2048≤c3Z b0 b1 b2) (h4:c3Z b0 b1 b2<55296∨57344≤c3Z b0 b1 b2):decQ b0 b1 b2 b3 true true k3=(c3Z b0 b1 b2,3):=by
 have hc:c3Z b0 b1 b2≤65535:=by unfold c3Z;omega
 unfold decQ
 rw [if_neg (by omega),if_neg (by rw [Bool.and_true,beq_iff_eq];omega),if_pos (by rw [Bool.and_true,Bool.and_true,beq_iff_eq];omega),if_pos (by rw [Bool.and_eq_true,decide_eq_true_eq,valid_iff];omega)]
theorem decQ_four (b0 b1 b2 b3:Nat) (h1:240≤b0) (h2:b0≤244) (h3:65536≤c4Z b0 b1 b2 b3) (h4:c4Z b0 b1 b2 b3≤1114111):decQ b0 b1 b2 b3 true true true=(c4Z b0 b1 b2 b3,4):=by
 unfold decQ
 rw [if_neg (by omega),if_neg (by rw [Bool.and_true,beq_iff_eq];omega),if_neg (by rw [Bool.and_true,Bool.and_true,beq_iff_eq];omega),if_pos (by rw [Bool.and_true,Bool.and_true,Bool.and_true,beq_iff_eq];omega),if_pos (by rw [Bool.and_eq_true,decide_eq_true_eq,valid_iff];omega)]
theorem decQ_bad (b0 b1 b2 b3:Nat) (k1 k2 k3:Bool) (h1:128≤b0) (h2 : ¬(194≤b0∧b0≤223∧k1=true)) (h3 : ¬(224≤b0∧b0≤239∧k1=true∧k2=true∧2048≤c3Z b0 b1 b2∧(c3Z b0 b1 b2<55296∨57344≤c3Z b0 b1 b2)))
 (h4 : ¬(240≤b0∧b0≤247∧k1=true∧k2=true∧k3=true∧65536≤c4Z b0 b1 b2 b3∧c4Z b0 b1 b2 b3≤1114111)):decQ b0 b1 b2 b3 k1 k2 k3=(65533,1):=by
 unfold decQ
 rw [if_neg (by omega)]
 by_cases e1:(b0 / 32==6&&k1)=true
 ·rw [if_pos e1]
  rw [Bool.and_eq_true,beq_iff_eq] at e1
  rw [if_neg (by intro h;apply h2;unfold c2Z at h;exact⟨by omega,by omega,e1.2⟩)]
  rfl
 ·rw [if_neg e1]
  by_cases e2:(b0 / 16==14&&k1&&k2)=true
  ·rw [if_pos e2]
   rw [Bool.and_eq_true,Bool.and_eq_true,beq_iff_eq] at e2
   rw [if_neg (by
    intro h
    rw [Bool.and_eq_true,decide_eq_true_eq,valid_iff] at h
    exact h3 ⟨by omega,by omega,e2.1.2,e2.2,h.1,by omega⟩)]
   rfl
  ·rw [if_neg e2]
   by_cases e3:(b0 / 8==30&&k1&&k2&&k3)=true
   ·rw [if_pos e3]
    rw [Bool.and_eq_true,Bool.and_eq_true,Bool.and_eq_true,beq_iff_eq] at e3
    rw [if_neg (by
     intro h
     rw [Bool.and_eq_true,decide_eq_true_eq,valid_iff] at h
     exact h4 ⟨by omega,by omega,e3.1.1.2,e3.1.2,e3.2,h.1,by omega⟩)]
    rfl
   ·rw [if_neg e3]
    rfl
theorem drop3 {α:Type} (L:List α) (p n:Nat) (h:p+3≤L.length) (hn:3≤n):((L.drop p).take n).take 3=[L[p]'(by omega),L[p+1]'(by omega),L[p+2]'(by omega)]:=by
 rw [List.take_take,Nat.min_eq_left hn,List.drop_eq_getElem_cons (by omega:p<L.length),List.drop_eq_getElem_cons (by omega:p+1<L.length),List.drop_eq_getElem_cons (by omega:p+1+1<L.length)]
 rfl
theorem take3 (s:ByteArray) (pos:Nat) (h:pos+3≤s.size):((s.extract pos s.size).extract 0 3).toList=[s[pos]'(by omega),s[pos+1]'(by omega),s[pos+2]'(by omega)]:=by
 rw [ByteArray.toList_eq,ByteArray.data_extract,ByteArray.data_extract,Array.toList_extract,Array.toList_extract]
 unfold List.extract
 rw [List.drop_zero,Nat.sub_zero]
 exact drop3 s.data.toList pos (s.size-pos) h (by omega)
theorem get_is (s:ByteArray) (k:Nat) (h:k<s.size):s.get! k=s[k]'h:=by
 simp [ByteArray.get!,getElem!_pos,h]
 rfl
theorem bt_get (s:ByteArray) (k:Nat) (h:k<s.size):bt s k=((s.get! k).toNat:Int):=by
 unfold bt
 rw [dif_pos h,get_is s k h]
theorem pre_iff (s:ByteArray) (pos:Nat):preB (s.extract pos s.size)=true↔(pos+3≤s.size∧(s.get! (pos+0)).toNat=239∧(s.get! (pos+1)).toNat=191∧(s.get! (pos+2)).toNat=189):=by
 have hz:(s.extract pos s.size).size=s.size-pos:=by simp
 unfold preB
 rw [Bool.and_eq_true,decide_eq_true_eq,hz]
 constructor
 ·rintro ⟨h1,h2⟩
  have h3:pos+3≤s.size:=by omega
  rw [take3 s pos h3,beq_iff_eq] at h2
  simp only [List.cons.injEq,and_true] at h2
  rw [get_is s (pos+0) (by omega),get_is s (pos+1) (by omega),get_is s (pos+2) (by omega)]
  exact⟨h3,by simp [h2.1],by simp [h2.2.1],by simp [h2.2.2]⟩
 ·rintro ⟨h3,a,b,c⟩
  rw [get_is s (pos+0) (by omega)] at a
  rw [get_is s (pos+1) (by omega)] at b
  rw [get_is s (pos+2) (by omega)] at c
  refine⟨by omega,?_⟩
  rw [take3 s pos h3,beq_iff_eq]
  have a':s[pos]'(by omega)=(239:UInt8):=UInt8.toNat_inj.1 (by simpa using a)
  have b':s[pos+1]'(by omega)=(191:UInt8):=UInt8.toNat_inj.1 (by simpa using b)
  have c':s[pos+2]'(by omega)=(189:UInt8):=UInt8.toNat_inj.1 (by simpa using c)
  rw [a',b',c']
def codeP (s:ByteArray) (pos:Nat):Nat×Nat:=
 if (s.get! (pos+0)).toNat<128 then ((s.get! (pos+0)).toNat,1)
 else if (s.get! (pos+0)).toNat<224 then (c2Z (s.get! (pos+0)).toNat (s.get! (pos+1)).toNat,2)
 else if (s.get! (pos+0)).toNat<240 then (c3Z (s.get! (pos+0)).toNat (s.get! (pos+1)).toNat (s.get! (pos+2)).toNat,3)
 else (c4Z (s.get! (pos+0)).toNat (s.get! (pos+1)).toNat (s.get! (pos+2)).toNat (s.get! (pos+3)).toNat,4)
theorem gen_two (s:ByteArray) (pos:Nat) (lo hi:Int):genV s pos 2 lo hi=if pos+2≤s.size∧lo≤bt s (pos+1)∧bt s (pos+1)≤hi then 2 else 0:=by
 unfold genV
 by_cases h:pos+2≤s.size∧lo≤bt s (pos+1)∧bt s (pos+1)≤hi
 ·rw [if_pos h,if_pos ⟨h.1,h.2.1,h.2.2,fun m h1 h2=>by omega⟩];rfl
 ·rw [if_neg h,if_neg (fun k=>h ⟨k.1,k.2.1,k.2.2.1⟩)]
theorem gen_three (s:ByteArray) (pos:Nat) (lo hi:Int):genV s pos 3 lo hi=if pos+3≤s.size∧lo≤bt s (pos+1)∧bt s (pos+1)≤hi∧128≤bt s (pos+2)∧bt s (pos+2)≤191 then 3 else 0:=by
 unfold genV
 by_cases h:pos+3≤s.size∧lo≤bt s (pos+1)∧bt s (pos+1)≤hi∧128≤bt s (pos+2)∧bt s (pos+2)≤191
 ·rw [if_pos h,if_pos ⟨h.1,h.2.1,h.2.2.1,fun m h1 h2=>by obtain rfl:m=2:=by omega
                                                         exact h.2.2.2⟩];rfl
 ·rw [if_neg h,if_neg (fun k=>h ⟨k.1,k.2.1,k.2.2.1,k.2.2.2 2 (by omega) (by omega)⟩)]
theorem gen_four (s:ByteArray) (pos:Nat) (lo hi:Int):genV s pos 4 lo hi=if pos+4≤s.size∧lo≤bt s (pos+1)∧bt s (pos+1)≤hi∧(128≤bt s (pos+2)∧bt s (pos+2)≤191)∧(128≤bt s (pos+3)∧bt s (pos+3)≤191) then 4 else 0:=by
 unfold genV
 by_cases h:pos+4≤s.size∧lo≤bt s (pos+1)∧bt s (pos+1)≤hi∧(128≤bt s (pos+2)∧bt s (pos+2)≤191)∧(128≤bt s (pos+3)∧bt s (pos+3)≤191)
 ·rw [if_pos h,if_pos ⟨h.1,h.2.1,h.2.2.1,fun m h1 h2=>by
   by_cases e:m=2
   ·subst e;exact h.2.2.2.1
   ·obtain rfl:m=3:=by omega
    exact h.2.2.2.2⟩];rfl
 ·rw [if_neg h,if_neg (fun k=>h ⟨k.1,k.2.1,k.2.2.1,k.2.2.2 2 (by omega) (by omega),k.2.2.2 3 (by omega) (by omega)⟩)]
def Agree (s:ByteArray) (pos:Nat) (W:Int):Prop:=
 (W=0→(Utf8.decode s pos).1=65533∧preB (s.extract pos s.size)=false)∧
 (W≠0→((Utf8.decode s pos).2:Int)=W∧((Utf8.decode s pos).1=65533→preB (s.extract pos s.size)=true)∧Utf8.decode s pos=codeP s pos)
theorem pre_false {s:ByteArray} {pos:Nat} (h : ¬(pos+3≤s.size∧(s.get! (pos+0)).toNat=239∧(s.get! (pos+1)).toNat=191∧(s.get! (pos+2)).toNat=189)):preB (s.extract pos s.size)=false:=by
 cases e:preB (s.extract pos s.size)
 ·rfl
 ·exact absurd ((pre_iff s pos).1 e) h
theorem dec_utf (s:ByteArray) (pos:Nat) (hp:pos<s.size):Agree s pos (utfW s pos):=by
 have e0:bt s pos=((s.get! (pos+0)).toNat:Int):=bt_get s pos hp
 have e1:pos+1<s.size→bt s (pos+1)=((s.get! (pos+1)).toNat:Int):=fun h=>bt_get s _ h
 have e2:pos+2<s.size→bt s (pos+2)=((s.get! (pos+2)).toNat:Int):=fun h=>bt_get s _ h
 have e3:pos+3<s.size→bt s (pos+3)=((s.get! (pos+3)).toNat:Int):=fun h=>bt_get s _ h
 have l0:(s.get! (pos+0)).toNat<256:=(s.get! (pos+0)).toNat_lt
 have l1:(s.get! (pos+1)).toNat<256:=(s.get! (pos+1)).toNat_lt
 have l2:(s.get! (pos+2)).toNat<256:=(s.get! (pos+2)).toNat_lt
 have l3:(s.get! (pos+3)).toNat<256:=(s.get! (pos+3)).toNat_lt
 have hpre:=pre_iff s pos
 have hpf:=pre_false (s:=s) (pos:=pos)
 have hd:=dec_q s pos
 unfold Agree codeP
 rw [hd]
 unfold utfW
 rw [gen_two,gen_three,gen_three,gen_three,gen_four,gen_four,gen_four]
 generalize (s.get! (pos+0)).toNat=b0 at *
 generalize (s.get! (pos+1)).toNat=b1 at *
 generalize (s.get! (pos+2)).toNat=b2 at *
 generalize (s.get! (pos+3)).toNat=b3 at *
 generalize preB (s.extract pos s.size)=pb at *
 generalize bt s (pos+1)=t1 at *
 generalize bt s (pos+2)=t2 at *
 generalize bt s (pos+3)=t3 at *
 rw [e0]
 clear hd e0
 have hk1:((decide (pos+1<s.size)&&b1 / 64==2)=true)↔(pos+1<s.size∧128≤b1∧b1≤191):=by
  simp only [Bool.and_eq_true,beq_iff_eq,decide_eq_true_eq];omega
 have hk2:((decide (pos+2<s.size)&&b2 / 64==2)=true)↔(pos+2<s.size∧128≤b2∧b2≤191):=by
  simp only [Bool.and_eq_true,beq_iff_eq,decide_eq_true_eq];omega
 have hk3:((decide (pos+3<s.size)&&b3 / 64==2)=true)↔(pos+3<s.size∧128≤b3∧b3≤191):=by
  simp only [Bool.and_eq_true,beq_iff_eq,decide_eq_true_eq];omega
 generalize (decide (pos+1<s.size)&&b1 / 64==2)=k1 at *
 generalize (decide (pos+2<s.size)&&b2 / 64==2)=k2 at *
 generalize (decide (pos+3<s.size)&&b3 / 64==2)=k3 at *
 have bad:∀(W:Int),W=0→128≤b0→¬(194≤b0∧b0≤223∧k1=true)→¬(224≤b0∧b0≤239∧k1=true∧k2=true∧2048≤c3Z b0 b1 b2∧(c3Z b0 b1 b2<55296∨57344≤c3Z b0 b1 b2))→
  ¬(240≤b0∧b0≤247∧k1=true∧k2=true∧k3=true∧65536≤c4Z b0 b1 b2 b3∧c4Z b0 b1 b2 b3≤1114111)→¬(pos+3≤s.size∧b0=239∧b1=191∧b2=189)→
  (W=0→(decQ b0 b1 b2 b3 k1 k2 k3).1=65533∧pb=false)∧(W≠0→((decQ b0 b1 b2 b3 k1 k2 k3).2:Int)=W∧((decQ b0 b1 b2 b3 k1 k2 k3).1=65533→pb=true)∧
   decQ b0 b1 b2 b3 k1 k2 k3=if b0<128 then (b0,1) else if b0<224 then (c2Z b0 b1,2) else if b0<240 then (c3Z b0 b1 b2,3) else (c4Z b0 b1 b2 b3,4)):=by
  intro W hW g1 g2 g3 g4 g5
  refine⟨fun _=>?_,fun h=>absurd hW h⟩
  rw [decQ_bad b0 b1 b2 b3 k1 k2 k3 g1 g2 g3 g4]
  exact⟨rfl,hpf g5⟩
 by_cases a0:b0<128
 ·rw [if_pos (by omega:(b0:Int)<128),if_pos a0,decQ_one _ _ _ _ _ _ _ a0]
  exact⟨fun h=>absurd h (by decide),fun _=>⟨rfl,fun h=>absurd h (by show ¬b0=65533;omega),rfl⟩⟩
 ·rw [if_neg (by omega : ¬(b0:Int)<128)]
  by_cases a1:194≤b0∧b0≤223
  ·rw [if_pos (by omega:(194:Int)≤b0∧(b0:Int)≤223)]
   by_cases g:pos+2≤s.size∧(128:Int)≤t1∧t1≤191
   ·have:=e1 (by omega)
    obtain rfl:k1=true:=hk1.2 ⟨by omega,by omega,by omega⟩
    rw [if_pos g,if_neg a0,if_pos (by omega),decQ_two _ _ _ _ _ _ a1.1 a1.2]
    exact⟨fun h=>absurd h (by decide),fun _=>⟨rfl,fun h=>absurd h (by show ¬c2Z b0 b1=65533;unfold c2Z;omega),rfl⟩⟩
   ·rw [if_neg g]
    refine bad 0 rfl (by omega) (fun h=>g ?_) (by omega) (by omega) (by omega)
    have hk:=hk1.1 h.2.2
    have:=e1 hk.1
    omega
  ·rw [if_neg (by omega : ¬((194:Int)≤b0∧(b0:Int)≤223))]
   by_cases a2:b0=224
   ·rw [if_pos (by omega:(b0:Int)=224)]
    by_cases g:pos+3≤s.size∧(160:Int)≤t1∧t1≤191∧128≤t2∧t2≤191
    ·have:=e1 (by omega);have:=e2 (by omega)
     obtain rfl:k1=true:=hk1.2 ⟨by omega,by omega,by omega⟩
     obtain rfl:k2=true:=hk2.2 ⟨by omega,by omega,by omega⟩
     rw [if_pos g,if_neg a0,if_neg (by omega),if_pos (by omega),decQ_three _ _ _ _ _ (by omega) (by omega) (by unfold c3Z;omega) (by unfold c3Z;omega)]
     exact⟨fun h=>absurd h (by decide),fun _=>⟨rfl,fun h=>absurd h (by show ¬c3Z b0 b1 b2=65533;unfold c3Z;omega),rfl⟩⟩
    ·rw [if_neg g]
     refine bad 0 rfl (by omega) (by omega) (fun h=>g ?_) (by omega) (by omega)
     have hk:=hk1.1 h.2.2.1;have hkk:=hk2.1 h.2.2.2.1
     have:=e1 hk.1;have:=e2 hkk.1
     have hc:=h.2.2.2.2.1
     unfold c3Z at hc
     omega
   ·rw [if_neg (by omega : ¬(b0:Int)=224)]
    by_cases a3:b0=237
    ·rw [if_pos (by omega:(b0:Int)=237)]
     by_cases g:pos+3≤s.size∧(128:Int)≤t1∧t1≤159∧128≤t2∧t2≤191
     ·have:=e1 (by omega);have:=e2 (by omega)
      obtain rfl:k1=true:=hk1.2 ⟨by omega,by omega,by omega⟩
      obtain rfl:k2=true:=hk2.2 ⟨by omega,by omega,by omega⟩
      rw [if_pos g,if_neg a0,if_neg (by omega),if_pos (by omega),decQ_three _ _ _ _ _ (by omega) (by omega) (by unfold c3Z;omega) (by unfold c3Z;omega)]
      exact⟨fun h=>absurd h (by decide),fun _=>⟨rfl,fun h=>absurd h (by show ¬c3Z b0 b1 b2=65533;unfold c3Z;omega),rfl⟩⟩
     ·rw [if_neg g]
      refine bad 0 rfl (by omega) (by omega) (fun h=>g ?_) (by omega) (by omega)
      have hk:=hk1.1 h.2.2.1;have hkk:=hk2.1 h.2.2.2.1
      have:=e1 hk.1;have:=e2 hkk.1
      have hc:=h.2.2.2.2.2
      unfold c3Z at hc
      omega
    ·rw [if_neg (by omega : ¬(b0:Int)=237)]
     by_cases a4:225≤b0∧b0≤239
     ·rw [if_pos (by omega:(225:Int)≤b0∧(b0:Int)≤239)]
      by_cases g:pos+3≤s.size∧(128:Int)≤t1∧t1≤191∧128≤t2∧t2≤191
      ·have:=e1 (by omega);have:=e2 (by omega)
       obtain rfl:k1=true:=hk1.2 ⟨by omega,by omega,by omega⟩
       obtain rfl:k2=true:=hk2.2 ⟨by omega,by omega,by omega⟩
       rw [if_pos g,if_neg a0,if_neg (by omega),if_pos (by omega),decQ_three _ _ _ _ _ (by omega) (by omega) (by unfold c3Z;omega) (by unfold c3Z;omega)]
       refine⟨fun h=>absurd h (by decide),fun _=>⟨rfl,fun h=>hpre.2 ?_,rfl⟩⟩
       have h':c3Z b0 b1 b2=65533:=h
       unfold c3Z at h'
       omega
      ·rw [if_neg g]
       refine bad 0 rfl (by omega) (by omega) (fun h=>g ?_) (by omega) (fun h=>g ?_)
       ·have hk:=hk1.1 h.2.2.1;have hkk:=hk2.1 h.2.2.2.1
        have:=e1 hk.1;have:=e2 hkk.1
        omega
       ·have:=e1 (by omega);have:=e2 (by omega)
        omega
     ·rw [if_neg (by omega : ¬((225:Int)≤b0∧(b0:Int)≤239))]
      by_cases a5:b0=240
      ·rw [if_pos (by omega:(b0:Int)=240)]
       by_cases g:pos+4≤s.size∧(144:Int)≤t1∧t1≤191∧(128≤t2∧t2≤191)∧(128≤t3∧t3≤191)
       ·have:=e1 (by omega);have:=e2 (by omega);have:=e3 (by omega)
        obtain rfl:k1=true:=hk1.2 ⟨by omega,by omega,by omega⟩
        obtain rfl:k2=true:=hk2.2 ⟨by omega,by omega,by omega⟩
        obtain rfl:k3=true:=hk3.2 ⟨by omega,by omega,by omega⟩
        rw [if_pos g,if_neg a0,if_neg (by omega),if_neg (by omega),decQ_four _ _ _ _ (by omega) (by omega) (by unfold c4Z;omega) (by unfold c4Z;omega)]
        exact⟨fun h=>absurd h (by decide),fun _=>⟨rfl,fun h=>absurd h (by show ¬c4Z b0 b1 b2 b3=65533;unfold c4Z;omega),rfl⟩⟩
       ·rw [if_neg g]
        refine bad 0 rfl (by omega) (by omega) (by omega) (fun h=>g ?_) (by omega)
        have hk:=hk1.1 h.2.2.1;have hkk:=hk2.1 h.2.2.2.1;have hkkk:=hk3.1 h.2.2.2.2.1
        have:=e1 hk.1;have:=e2 hkk.1;have:=e3 hkkk.1
        have hc:=h.2.2.2.2.2.1
        unfold c4Z at hc
        omega
      ·rw [if_neg (by omega : ¬(b0:Int)=240)]
       by_cases a6:b0=244
       ·rw [if_pos (by omega:(b0:Int)=244)]
        by_cases g:pos+4≤s.size∧(128:Int)≤t1∧t1≤143∧(128≤t2∧t2≤191)∧(128≤t3∧t3≤191)
        ·have:=e1 (by omega);have:=e2 (by omega);have:=e3 (by omega)
         obtain rfl:k1=true:=hk1.2 ⟨by omega,by omega,by omega⟩
         obtain rfl:k2=true:=hk2.2 ⟨by omega,by omega,by omega⟩
         obtain rfl:k3=true:=hk3.2 ⟨by omega,by omega,by omega⟩
         rw [if_pos g,if_neg a0,if_neg (by omega),if_neg (by omega),decQ_four _ _ _ _ (by omega) (by omega) (by unfold c4Z;omega) (by unfold c4Z;omega)]
         exact⟨fun h=>absurd h (by decide),fun _=>⟨rfl,fun h=>absurd h (by show ¬c4Z b0 b1 b2 b3=65533;unfold c4Z;omega),rfl⟩⟩
        ·rw [if_neg g]
         refine bad 0 rfl (by omega) (by omega) (by omega) (fun h=>g ?_) (by omega)
         have hk:=hk1.1 h.2.2.1;have hkk:=hk2.1 h.2.2.2.1;have hkkk:=hk3.1 h.2.2.2.2.1
         have:=e1 hk.1;have:=e2 hkk.1;have:=e3 hkkk.1
         have hc:=h.2.2.2.2.2.2
         unfold c4Z at hc
         omega
       ·rw [if_neg (by omega : ¬(b0:Int)=244)]
        by_cases a7:241≤b0∧b0≤243
        ·rw [if_pos (by omega:(241:Int)≤b0∧(b0:Int)≤243)]
         by_cases g:pos+4≤s.size∧(128:Int)≤t1∧t1≤191∧(128≤t2∧t2≤191)∧(128≤t3∧t3≤191)
         ·have:=e1 (by omega);have:=e2 (by omega);have:=e3 (by omega)
          obtain rfl:k1=true:=hk1.2 ⟨by omega,by omega,by omega⟩
          obtain rfl:k2=true:=hk2.2 ⟨by omega,by omega,by omega⟩
          obtain rfl:k3=true:=hk3.2 ⟨by omega,by omega,by omega⟩
          rw [if_pos g,if_neg a0,if_neg (by omega),if_neg (by omega),decQ_four _ _ _ _ (by omega) (by omega) (by unfold c4Z;omega) (by unfold c4Z;omega)]
          exact⟨fun h=>absurd h (by decide),fun _=>⟨rfl,fun h=>absurd h (by show ¬c4Z b0 b1 b2 b3=65533;unfold c4Z;omega),rfl⟩⟩
         ·rw [if_neg g]
          refine bad 0 rfl (by omega) (by omega) (by omega) (fun h=>g ?_) (by omega)
          have hk:=hk1.1 h.2.2.1;have hkk:=hk2.1 h.2.2.2.1;have hkkk:=hk3.1 h.2.2.2.2.1
          have:=e1 hk.1;have:=e2 hkk.1;have:=e3 hkkk.1
          omega
        ·rw [if_neg (by omega : ¬((241:Int)≤b0∧(b0:Int)≤243))]
         refine bad 0 rfl (by omega) (by omega) (by omega) (fun h=>?_) (by omega)
         have hc:=h.2.2.2.2.2.2
         unfold c4Z at hc
         omega
def ltF (s:ByteArray):Nat→Nat→Int→Int
 | 0,_,n=>n
 | b+1,pos,n=>if pos<s.size then (if utfW s pos=0 then -1 else ltF s b (pos+(utfW s pos).toNat) (n+1)) else n
def lettersZ (s:ByteArray):Int:=ltF s s.size 0 0
theorem ltF_end (s:ByteArray) (b pos:Nat) (n:Int) (h : ¬pos<s.size):ltF s b pos n=n:=by
 cases b with
 | zero=>rfl
 | succ b=>simp [ltF,h]
theorem genV_range (s:ByteArray) (pos n:Nat) (lo hi:Int):genV s pos n lo hi=0∨(genV s pos n lo hi=n∧pos+n≤s.size):=by
 unfold genV
 split
 ·rename_i h;exact .inr ⟨rfl,h.1⟩
 ·exact .inl rfl
theorem utfW_range (s:ByteArray) (pos:Nat) (hp:pos<s.size):utfW s pos=0∨(1≤utfW s pos∧utfW s pos≤4∧pos+utfW s pos≤s.size):=by
 have g2:=genV_range s pos 2;have g3:=genV_range s pos 3;have g4:=genV_range s pos 4
 unfold utfW
 split
 ·exact .inr ⟨by omega,by omega,by omega⟩
 ·split
  ·rcases g2 128 191 with h|h
   ·exact .inl h
   ·exact .inr ⟨by omega,by omega,by omega⟩
  ·split
   ·rcases g3 160 191 with h|h
    ·exact .inl h
    ·exact .inr ⟨by omega,by omega,by omega⟩
   ·split
    ·rcases g3 128 159 with h|h
     ·exact .inl h
     ·exact .inr ⟨by omega,by omega,by omega⟩
    ·split
     ·rcases g3 128 191 with h|h
      ·exact .inl h
      ·exact .inr ⟨by omega,by omega,by omega⟩
     ·split
      ·rcases g4 144 191 with h|h
       ·exact .inl h
       ·exact .inr ⟨by omega,by omega,by omega⟩
      ·split
       ·rcases g4 128 143 with h|h
        ·exact .inl h
        ·exact .inr ⟨by omega,by omega,by omega⟩
       ·split
        ·rcases g4 128 191 with h|h
         ·exact .inl h
         ·exact .inr ⟨by omega,by omega,by omega⟩
        ·exact .inl rfl
theorem lt_utf (s:ByteArray):∀(b pos:Nat) (n:Int),0≤n→(0≤ltF s b pos n↔utfF s b pos=true):=by
 intro b
 induction b with
 | zero=>intro pos n hn;simp [ltF,utfF,hn]
 | succ b ih=>
  intro pos n hn
  by_cases hp:pos<s.size
  ·obtain⟨a1,a2⟩:=dec_utf s pos hp
   unfold ltF utfF
   rw [if_pos hp,if_pos hp]
   by_cases hz:utfW s pos=0
   ·obtain⟨c1,c2⟩:=a1 hz
    rw [if_pos hz,if_pos ⟨by rw [c1];rfl,c2⟩]
    simp
   ·obtain⟨c1,c2,_⟩:=a2 hz
    rw [if_neg hz,if_neg (by
     rintro ⟨h1,h2⟩
     have h3:(Utf8.decode s pos).1=65533:=by
      have:((Utf8.decode s pos).1:Int)=65533:=by simpa using h1
      omega
     rw [c2 h3] at h2;cases h2)]
    rw [show (utfW s pos).toNat=(Utf8.decode s pos).2 by omega]
    exact ih _ _ (by omega)
  ·rw [ltF_end s _ pos n hp,utfF_end s _ pos hp]
   simp [hn]
theorem letters_right (s:ByteArray):decide (0≤lettersZ s)=utfB s:=by
 have h:=lt_utf s s.size 0 0 (by omega)
 unfold lettersZ utfB
 cases e:utfF s s.size 0
 ·rw [e] at h;simp at h ⊢;omega
 ·rw [e] at h;simp at h ⊢;omega
theorem letters_any (s:ByteArray) (w:World) (hs:s.size≤4294967296):Calls Tryz.prog 82 #[.string s] w fun e w'=>e=.returned (.int .i64 (lettersZ s))∧w'=w:=by
 go_enter Tryz.func82,Tryz.ntmps82
 go_wp2_with fail
 go_loopg [3,4] s.size (fun k n i wr=>∃(pos b c:Nat),i=.int .i64 pos∧n=.int .i64 c∧c≤pos∧pos≤s.size∧k=s.size-pos∧Hid (ltF s b pos c=lettersZ s)∧s.size≤pos+b∧wr=w)
 case atStart=>exact⟨0,s.size,0,rfl,rfl,by omega,by omega,by omega,rfl,by omega,rfl⟩
 case round=>
  obtain⟨pos,b,c,rfl,rfl,hcp,hps,hk,HC,hb,rfl⟩:=hrel
  have Hk:Hid _:=hk
  clear hk
  by_cases hp:pos<s.size
  ·obtain⟨b,rfl⟩:∃c,b=c+1:=⟨b-1,by omega⟩
   have He:Hid (ltF s (b+1) pos c=if utfW s pos=0 then -1 else ltF s b (pos+(utfW s pos).toNat) (c+1)):=by
    show _=_
    conv=>lhs;unfold ltF
    rw [if_pos hp]
   have hrg:=utfW_range s pos hp
   go_wp2_with fail
   refine (utf_any s pos _ hs hp).mono ?_
   rintro e w1 ⟨rfl,rfl⟩
   by_cases hz:utfW s pos=0
   ·have h1:=He.out
    rw [if_pos hz] at h1
    have H1:Hid (-1=lettersZ s):=h1.symm.trans HC.out
    rw [hz]
    clear h1 hz hrg He HC
    go_wp2_with fail
    go_ret
    rw [←H1.out]
    exact⟨rfl,rfl⟩
   ·have h1:=He.out
    rw [if_neg hz] at h1
    obtain⟨U,hU⟩:∃U:Nat,utfW s pos=U:=⟨(utfW s pos).toNat,by omega⟩
    rw [hU] at h1 hrg hz ⊢
    have H1:Hid (ltF s b (pos+U) (c+1)=lettersZ s):=h1.symm.trans HC.out
    have hz2:((U:Int)==0)=false:=by simpa using hz
    have hU1:1≤U:=by omega
    have hU2:pos+U≤s.size:=by omega
    clear h1 hz hrg He HC hU
    go_wp2_with fail
    go_roundg (s.size-(pos+U))
    case measure=>have:=Hk.out;omega
    case rel=>exact⟨pos+U,b,c+1,by go_num,by go_num,by omega,by omega,rfl,by show _=_;have:=H1.out;simpa using this,by omega,rfl⟩
  ·have H1:Hid ((c:Int)=lettersZ s):=by
    have:=HC.out
    rw [ltF_end s b pos c hp] at this
    exact this
   clear HC
   go_wp2_with fail
   go_ret
   rw [←H1.out]
   exact⟨rfl,rfl⟩
end Go.Proofs.YtokmolmpkkcbiaaGreat
