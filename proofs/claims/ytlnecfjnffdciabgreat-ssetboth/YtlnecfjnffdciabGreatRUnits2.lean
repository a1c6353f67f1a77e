import Derived.Test.YtlnecfjnffdciabGreatUnits2
import Derived.Test.YtlnecfjnffdciabGreatRunesL
namespace Go.Proofs.YtlnecfjnffdciabGreat
open Go.RowKit Go.PlainAid
def cdC (x:ByteArray):Int:=
 if bt x 0<128 then bt x 0 else if bt x 0<224 then bt x 0 % 32*64+bt x 1 % 64
 else if bt x 0<240 then bt x 0 % 16*4096+bt x 1 % 64*64+bt x 2 % 64 else bt x 0 % 8*262144+bt x 1 % 64*4096+bt x 2 % 64*64+bt x 3 % 64
def cdN (x:ByteArray):Nat:=if bt x 0<128 then 1 else if bt x 0<224 then 2 else if bt x 0<240 then 3 else 4
theorem code_one (x:ByteArray) (w:World) (h1:1≤x.size) (h:bt x 0<128):Calls Tryz.prog 296 #[.string x] w fun e w'=>e=.returned (.tuple #[.int .i64 (bt x 0),.int .i64 1])∧Drawn w w':=by
 have hb:=get_bt x
 have n0:=bt_nonneg x 0;have m0:=bt_le x 0
 have i0:0<x.size:=by omega
 go_enter Tryz.func296,Tryz.ntmps296
 go_wp2_with fail
 go_ret2
 exact⟨rfl,Drawn.refl _⟩
theorem code_two (x:ByteArray) (w:World) (h1:2≤x.size) (h : ¬bt x 0<128) (h2:bt x 0<224):Calls Tryz.prog 296 #[.string x] w fun e w'=>e=.returned (.tuple #[.int .i64 (bt x 0 % 32*64+bt x 1 % 64),.int .i64 2])∧Drawn w w':=by
 have hb:=get_bt x
 have n0:=bt_nonneg x 0;have m0:=bt_le x 0
 have n1:=bt_nonneg x 1;have m1:=bt_le x 1
 have i0:0<x.size:=by omega
 have i1:1<x.size:=by omega
 go_enter Tryz.func296,Tryz.ntmps296
 go_wp2_with fail
 go_ret2
 exact⟨rfl,Drawn.refl _⟩
theorem code_three (x:ByteArray) (w:World) (h1:3≤x.size) (h : ¬bt x 0<128) (h2 : ¬bt x 0<224) (h3:bt x 0<240):Calls Tryz.prog 296 #[.string x] w fun e w'=>e=.returned (.tuple #[.int .i64 (bt x 0 % 16*4096+bt x 1 % 64*64+bt x 2 % 64),.int .i64 3])∧Drawn w w':=by
 have hb:=get_bt x
 have n0:=bt_nonneg x 0;have m0:=bt_le x 0
 have n1:=bt_nonneg x 1;have m1:=bt_le x 1
 have n2:=bt_nonneg x 2;have m2:=bt_le x 2
 have i0:0<x.size:=by omega
 have i1:1<x.size:=by omega
 have i2:2<x.size:=by omega
 have j1:(1:Int)<(x.size:Nat):=by omega
 have j2:(2:Int)<(x.size:Nat):=by omega
 go_enter Tryz.func296,Tryz.ntmps296
 go_wp2_with fail
 go_quiet (fail)
 go_wp2_with fail
 go_ret2
 exact⟨rfl,Drawn.n _ _⟩
theorem code_four (x:ByteArray) (w:World) (h1:4≤x.size) (h3 : ¬bt x 0<240):Calls Tryz.prog 296 #[.string x] w fun e w'=>e=.returned (.tuple #[.int .i64 (bt x 0 % 8*262144+bt x 1 % 64*4096+bt x 2 % 64*64+bt x 3 % 64),.int .i64 4])∧Drawn w w':=by
 have hb:=get_bt x
 have n0:=bt_nonneg x 0;have m0:=bt_le x 0
 have n1:=bt_nonneg x 1;have m1:=bt_le x 1
 have n2:=bt_nonneg x 2;have m2:=bt_le x 2
 have n3:=bt_nonneg x 3;have m3:=bt_le x 3
 have h : ¬bt x 0<128:=by omega
 have h2 : ¬bt x 0<224:=by omega
 have i0:0<x.size:=by omega
 have i1:1<x.size:=by omega
 have i2:2<x.size:=by omega
 have i3:3<x.size:=by omega
 have j1:(1:Int)<(x.size:Nat):=by omega
 have j2:(2:Int)<(x.size:Nat):=by omega
 have j3:(3:Int)<(x.size:Nat):=by omega
 go_enter Tryz.func296,Tryz.ntmps296
 go_wp2_with fail
 go_quiet (fail)
 go_wp2_with fail
 go_ret2
 exact⟨rfl,Drawn.n _ _⟩
def Enough (x:ByteArray):Prop:=cdN x≤x.size
theorem code_any (x:ByteArray) (w:World) (h:Enough x):Calls Tryz.prog 296 #[.string x] w fun e w'=>e=.returned (.tuple #[.int .i64 (cdC x),.int .i64 (cdN x:Nat)])∧Drawn w w':=by
 unfold Enough cdN at h
 unfold cdC cdN
 by_cases h0:bt x 0<128
 ·rw [if_pos h0] at h
  rw [if_pos h0,if_pos h0]
  exact code_one x w h h0
 ·rw [if_neg h0] at h
  rw [if_neg h0,if_neg h0]
  by_cases h1:bt x 0<224
  ·rw [if_pos h1] at h
   rw [if_pos h1,if_pos h1]
   exact code_two x w h h0 h1
  ·rw [if_neg h1] at h
   rw [if_neg h1,if_neg h1]
   by_cases h2:bt x 0<240
   ·rw [if_pos h2] at h
    rw [if_pos h2,if_pos h2]
    exact code_three x w h h0 h1 h2
   ·rw [if_neg h2] at h
    rw [if_neg h2,if_neg h2]
    exact code_four x w h h2
theorem ext_size (s:ByteArray) (pos:Nat):(s.extract pos s.size).size=s.size-pos:=by simp
theorem bt_ext (s:ByteArray) (pos k:Nat):bt (s.extract pos s.size) k=bt s (pos+k):=by
 unfold bt
 by_cases h:pos+k<s.size
 ·have h1:k<(s.extract pos s.size).size:=by rw [ext_size];omega
  rw [dif_pos h1,dif_pos h,ByteArray.getElem_extract]
 ·rw [dif_neg (by rw [ext_size];omega),dif_neg h]
theorem ext_ext (s:ByteArray) (p n:Nat):(s.extract p s.size).extract n (s.extract p s.size).size=s.extract (p+n) s.size:=by
 rw [ext_size]
 apply ByteArray.ext
 rw [ByteArray.data_extract,ByteArray.data_extract,ByteArray.data_extract,Array.extract_extract]
 congr 1
 have:s.size=s.data.size:=rfl
 omega
theorem cd_eq (s:ByteArray) (pos:Nat) (hp:pos<s.size) (hu:utfW s pos≠0):cdC (s.extract pos s.size)=((Utf8.decode s pos).1:Int)∧cdN (s.extract pos s.size)=(Utf8.decode s pos).2∧pos+cdN (s.extract pos s.size)≤s.size:=by
 obtain⟨_,a2⟩:=dec_utf s pos hp
 obtain⟨c1,_,c3⟩:=a2 hu
 have hr:=utfW_range s pos hp
 have hw:pos+(Utf8.decode s pos).2≤s.size:=by omega
 have e0:bt s (pos+0)=((s.get! (pos+0)).toNat:Int):=bt_get s _ (by omega)
 have e1:pos+1<s.size→bt s (pos+1)=((s.get! (pos+1)).toNat:Int):=fun h=>bt_get s _ h
 have e2:pos+2<s.size→bt s (pos+2)=((s.get! (pos+2)).toNat:Int):=fun h=>bt_get s _ h
 have e3:pos+3<s.size→bt s (pos+3)=((s.get! (pos+3)).toNat:Int):=fun h=>bt_get s _ h
 rw [c3] at hw ⊢
 unfold codeP at hw ⊢
 unfold cdC cdN
 rw [bt_ext,bt_ext,bt_ext,bt_ext,e0]
 generalize (s.get! (pos+0)).toNat=b0 at *
 generalize (s.get! (pos+1)).toNat=b1 at *
 generalize (s.get! (pos+2)).toNat=b2 at *
 generalize (s.get! (pos+3)).toNat=b3 at *
 by_cases h0:b0<128
 ·have k0:(b0:Int)<128:=by omega
  rw [if_pos h0] at hw ⊢
  rw [if_pos k0,if_pos k0]
  exact⟨rfl,rfl,hw⟩
 ·have k0 : ¬(b0:Int)<128:=by omega
  rw [if_neg h0] at hw ⊢
  rw [if_neg k0,if_neg k0]
  by_cases h1:b0<224
  ·have k1:(b0:Int)<224:=by omega
   rw [if_pos h1] at hw ⊢
   have hw2:pos+2≤s.size:=hw
   have:=e1 (by omega)
   rw [if_pos k1,if_pos k1]
   refine⟨?_,rfl,hw⟩
   show _=((c2Z b0 b1:Nat):Int)
   unfold c2Z;omega
  ·have k1 : ¬(b0:Int)<224:=by omega
   rw [if_neg h1] at hw ⊢
   rw [if_neg k1,if_neg k1]
   by_cases h2:b0<240
   ·have k2:(b0:Int)<240:=by omega
    rw [if_pos h2] at hw ⊢
    have hw2:pos+3≤s.size:=hw
    have:=e1 (by omega);have:=e2 (by omega)
    rw [if_pos k2,if_pos k2]
    refine⟨?_,rfl,hw⟩
    show _=((c3Z b0 b1 b2:Nat):Int)
    unfold c3Z;omega
   ·have k2 : ¬(b0:Int)<240:=by omega
    rw [if_neg h2] at hw ⊢
    have hw2:pos+4≤s.size:=hw
    have:=e1 (by omega);have:=e2 (by omega);have:=e3 (by omega)
    rw [if_neg k2,if_neg k2]
    refine⟨?_,rfl,hw⟩
    show _=((c4Z b0 b1 b2 b3:Nat):Int)
    unfold c4Z;omega
theorem i32_nat (a:Nat) (ha:a<2147483648):(BitVec.ofInt 32 (a:Int)).toNat=a:=by
 rw [BitVec.ofInt_natCast,BitVec.toNat_ofNat];exact Nat.mod_eq_of_lt (by omega)
theorem i32_or (a b:Nat) (ha:a<2147483648) (hb:b<2147483648):bits .or .i32 (a:Int) (b:Int)=((a ||| b:Nat):Int):=by
 have hx:a ||| b<2^31:=Nat.or_lt_two_pow (by omega) (by omega)
 show IntKind.i32.wrap ((BitVec.ofInt 32 (a:Int) ||| BitVec.ofInt 32 (b:Int)).toNat:Int)=_
 rw [BitVec.toNat_or,i32_nat a ha,i32_nat b hb,i32_is]
 unfold wrap32
 omega
theorem i32_and (a b:Nat) (ha:a<2147483648) (hb:b<2147483648):bits .and .i32 (a:Int) (b:Int)=((a &&& b:Nat):Int):=by
 have hx:a &&& b<2^31:=Nat.and_lt_two_pow _ (by omega)
 show IntKind.i32.wrap ((BitVec.ofInt 32 (a:Int) &&& BitVec.ofInt 32 (b:Int)).toNat:Int)=_
 rw [BitVec.toNat_and,i32_nat a ha,i32_nat b hb,i32_is]
 unfold wrap32
 omega
theorem hi_eq (r:Nat) (h1:65536≤r) (h2:r≤1114111):uHi (r:Int)=55296+((r:Int)-65536) / 1024:=by
 unfold uHi
 obtain⟨q,hq⟩:∃q,q=(r-65536) / 1024:=⟨_,rfl⟩
 have e:((r:Int)-65536) / 1024=(q:Int):=by omega
 have e2:(55296:Int)=((55296:Nat):Int):=rfl
 rw [e,e2,i32_or _ _ (by omega) (by omega)]
 have e3:(55296:Nat) ||| q=55296+q:=by
  have:=Nat.two_pow_add_eq_or_of_lt (b:=q) (i:=10) (by omega) 54
  exact this.symm
 rw [e3,IntKind.wrap_u16]
 omega
theorem lo_eq (r:Nat) (h1:65536≤r) (h2:r≤1114111):uLo (r:Int)=56320+((r:Int)-65536) % 1024:=by
 unfold uLo
 have e:((r:Int)-65536)=((r-65536:Nat):Int):=by omega
 have e4:(1023:Int)=((1023:Nat):Int):=rfl
 rw [e,e4,i32_and _ _ (by omega) (by omega)]
 have e5:(r-65536) &&& 1023=(r-65536) % 1024:=Nat.and_two_pow_sub_one_eq_mod _ 10
 have e2:(56320:Int)=((56320:Nat):Int):=rfl
 rw [e5,e2,i32_or _ _ (by omega) (by omega)]
 have e3:(56320:Nat) ||| (r-65536) % 1024=56320+(r-65536) % 1024:=by
  have:=Nat.two_pow_add_eq_or_of_lt (b:=(r-65536) % 1024) (i:=10) (by omega) 55
  exact this.symm
 rw [e3,IntKind.wrap_u16]
 omega
theorem dec_max (s:ByteArray) (pos:Nat) (hp:pos<s.size) (hu:utfW s pos≠0):(Utf8.decode s pos).1≤1114111:=by
 obtain⟨_,a2⟩:=dec_utf s pos hp
 have l0:(s.get! (pos+0)).toNat<256:=(s.get! (pos+0)).toNat_lt
 have e0:bt s pos=((s.get! (pos+0)).toNat:Int):=bt_get s pos hp
 rw [(a2 hu).2.2]
 unfold codeP
 split
 ·show _≤_;omega
 ·split
  ·show c2Z _ _≤_;unfold c2Z;omega
  ·split
   ·show c3Z _ _ _≤_;unfold c3Z;omega
   ·show c4Z _ _ _ _≤_
    have h:utfW s pos≠0:=hu
    unfold utfW at h
    rw [if_neg (by omega),if_neg (by omega),if_neg (by omega),if_neg (by omega),if_neg (by omega)] at h
    by_cases h40:bt s pos=240
    ·unfold c4Z;omega
    ·rw [if_neg h40] at h
     by_cases h44:bt s pos=244
     ·rw [if_pos h44,gen_four] at h
      have hg:pos+4≤s.size∧(128:Int)≤bt s (pos+1)∧bt s (pos+1)≤143:=by
       by_cases k:pos+4≤s.size∧(128:Int)≤bt s (pos+1)∧bt s (pos+1)≤143∧(128≤bt s (pos+2)∧bt s (pos+2)≤191)∧(128≤bt s (pos+3)∧bt s (pos+3)≤191)
       ·exact⟨k.1,k.2.1,k.2.2.1⟩
       ·rw [if_neg k] at h;exact absurd rfl h
      have e1:bt s (pos+1)=((s.get! (pos+1)).toNat:Int):=bt_get s _ (by omega)
      unfold c4Z;omega
     ·rw [if_neg h44] at h
      by_cases h41:241≤bt s pos∧bt s pos≤243
      ·unfold c4Z;omega
      ·rw [if_neg h41] at h;exact absurd rfl h
def rHi (r:Int):Int:=55296+(r-65536) / 1024
def rLo (r:Int):Int:=56320+(r-65536) % 1024
theorem unR_hi (r:Nat) (h1:65535<r) (h2:r≤1114111):unR (r:Int)=[rHi r,rLo r]:=by
 unfold unR
 rw [if_pos (by omega),hi_eq r (by omega) h2,lo_eq r (by omega) h2]
 rfl
theorem unR_lo (r:Nat) (h1 : ¬65535<r):unR (r:Int)=[uOne r]:=by
 unfold unR
 rw [if_neg (by omega)]
theorem utf_step {s:ByteArray} {b pos:Nat} (hp:pos<s.size) (h:utfF s (b+1) pos=true):utfW s pos≠0∧utfF s b (pos+(Utf8.decode s pos).2)=true:=by
 unfold utfF at h
 rw [if_pos hp] at h
 by_cases hb:(((Utf8.decode s pos).1:Int)==65533)=true∧preB (s.extract pos s.size)=false
 ·rw [if_pos hb] at h;cases h
 ·rw [if_neg hb] at h
  refine⟨fun e=>hb ?_,h⟩
  obtain⟨a1,_⟩:=dec_utf s pos hp
  obtain⟨c1,c2⟩:=a1 e
  exact⟨by rw [c1];rfl,c2⟩
set_option maxHeartbeats 2000000 in
set_option maxRecDepth 100000 in
theorem runits_any (s:ByteArray) (w:World) (hs:s.size≤256) (hu:utfB s=true):Calls Tryz.prog 261 #[.string s] w fun e w'=>∃v,e=.returned v∧IntsAt .u16 w' (unL s) v∧Below w.heap.size w w':=by
 obtain⟨i0,hi0,hz0,hz1,hz2⟩:=infoH
 have Hi:Hid _:=hi0;have Hz0:Hid _:=hz0;have Hz1:Hid _:=hz1;have Hz2:Hid _:=hz2
 have Hu:Hid (utfB s=true):=hu
 clear hi0 hz0 hz1 hz2 hu
 have hse:s=s.extract 0 s.size:=by
  apply ByteArray.ext
  rw [ByteArray.data_extract]
  exact (Array.extract_size (xs:=s.data)).symm
 go_enter Tryz.func261,Tryz.ntmps261
 go_wp2_with fail
 go_loopg [0,3] s.size (fun k x v wr=>∃(pos b:Nat) (xs:List Int),x=.string (s.extract pos s.size)∧Hid (wr.ownsRow w.heap.size 296 1 v xs.length (xs.map (Value.int .u16)))∧pos≤s.size∧k=s.size-pos∧Hid (xs++unS s b pos=unL s)∧Hid (utfF s b pos=true)∧s.size≤pos+b∧xs.length≤2*pos∧Below w.heap.size w wr)
 case atStart=>exact⟨0,s.size,[],by rw [←hse],World.ownsRow_nil _ _ _ _,by omega,by omega,rfl,Hu.out,by omega,by simp,Below.refl _ _⟩
 case round=>
  obtain⟨pos,b,xs,rfl,Hown,hps,hk,Hc,HU,hb,hx,hbw⟩:=hrel
  have Hk:Hid _:=hk
  clear hk hse
  have hsz:(s.extract pos s.size).size=s.size-pos:=ext_size s pos
  by_cases hp:pos<s.size
  ·obtain⟨b,rfl⟩:∃c,b=c+1:=⟨b-1,by omega⟩
   obtain⟨hne,hun⟩:=utf_step hp HU.out
   obtain⟨d1,d2,d3⟩:=cd_eq s pos hp hne
   have hmx:=dec_max s pos hp hne
   have hwd:=width_pos s pos hp
   have He:Hid (unS s (b+1) pos=unR (Utf8.decode s pos).1++unS s b (pos+(Utf8.decode s pos).2)):=by
    show _=_
    simp only [unS,hp,if_true]
   have HUN:Hid (utfF s b (pos+(Utf8.decode s pos).2)=true):=hun
   have hen:Hid (Enough (s.extract pos s.size)):=by show cdN _≤_;rw [hsz];omega
   have hcode:=code_any (s.extract pos s.size)
   rw [d1,d2] at hcode
   have HCD:Hid (∀w,Enough (s.extract pos s.size)→Calls Tryz.prog 296 #[.string (s.extract pos s.size)] w fun e w'=>e=.returned (.tuple #[.int .i64 ((Utf8.decode s pos).1:Nat),.int .i64 ((Utf8.decode s pos).2:Nat)])∧Drawn w w'):=hcode
   have hee:=ext_ext s pos (Utf8.decode s pos).2
   rw [hsz] at hee
   have hd3:pos+(Utf8.decode s pos).2≤s.size:=by omega
   clear hcode hun hne d1 d2 d3 HU
   generalize (Utf8.decode s pos).1=r at *
   generalize (Utf8.decode s pos).2=wd at *
   generalize hxx:s.extract pos s.size=X at *
   have Hee:Hid (X.extract wd (s.size-pos)=s.extract (pos+wd) s.size):=hee
   clear hee hxx
   have hX0:(0:Int)<(X.size:Nat):=by omega
   have hwX:(wd:Int)≤(X.size:Nat):=by omega
   have hwXn:wd≤X.size:=by omega
   go_wp2_with fail
   refine Calls.mono (HCD.out _ hen.out) ?_
   rintro e w1 ⟨rfl,hdr⟩
   have hg:=hdr.grew
   have Hown1:Hid (w1.ownsRow w.heap.size 296 1 u3 xs.length (xs.map (Value.int .u16))):=by
    obtain⟨n,rfl⟩:=hdr
    exact Hown.out
   have hb1:Below w.heap.size w w1:=hbw.trans (hg.below.mono hbw.size)
   clear hdr hg Hown hbw hen HCD
   by_cases hr:65535<r
   ·have hr':(65535:Int)<(r:Int):=by omega
    have Hu2:Hid (unR (r:Int)=[rHi r,rLo r]):=unR_hi r hr hmx
    go_wp2_with (first
     | (at_builtin;refine wpList_append_own _ rfl _ _ 239 rfl w.heap.size 296 i0 (.int .u16 0) 1 2 Tryz.underlying239 Hi.out Hz0.out Hz1.out Hz2.out rfl (by decide) _ _ _ rfl (Hown1.out.alloc _) ⟨w1.heap.size,0,none⟩ 2 2 [.int .u16 (rHi r),.int .u16 (rLo r)] rfl rfl ?c1 ?c2 ?c3 ?c4 ?c5 ?_))
    case c1=>
     intro q u hq
     match q,hq with
     | 0,hq=>simp at hq;subst hq;simp [Addr.add,rHi]
     | 1,hq=>simp at hq;subst hq;simp [Addr.add,rLo]
     | q+2,hq=>simp at hq
    case c2=>first|(intro u hu;simp at hu;rcases hu with rfl|rfl <;> rfl)|rfl
    case c3=>unfold maxLen;omega
    case c4=>omega
    case c5=>have:=hb1.size;simp;omega
    intro v2 w2 hown hgrow _
    have hown2:w2.ownsRow w.heap.size 296 1 v2 (xs++[rHi r,rLo r]).length ((xs++[rHi r,rLo r]).map (Value.int .u16)):=by simpa using hown
    have hob:∀k,(u3).ownBlock=some k→w.heap.size≤k:=fun k hk=>(Hown1.out.lt k hk).1
    have hb2:Below w.heap.size w w2:=(hb1.alloc hb1.size _).grown hgrow (by have:=hb1.size;simp;omega) hob
    have Hown2:Hid (w2.ownsRow w.heap.size 296 1 v2 (xs++[rHi r,rLo r]).length ((xs++[rHi r,rLo r]).map (Value.int .u16))):=hown2
    clear hown hown2 hgrow Hown1 hob hb1
    go_wp2_with fail
    go_roundg (s.size-(pos+wd))
    case measure=>have:=Hk.out;omega
    case rel=>
     refine⟨pos+wd,b,xs++[rHi r,rLo r],by rw [Hee.out],Hown2,by omega,rfl,?_,HUN,by omega,by simp;omega,hb2⟩
     show _=_
     rw [←Hc.out,He.out,Hu2.out,List.append_assoc]
   ·have hr' : ¬((65535:Int)<(r:Int)):=by omega
    have Hu2:Hid (unR (r:Int)=[uOne r]):=unR_lo r hr
    go_wp2_with (first
     | (at_builtin;refine wpList_append_own _ rfl _ _ 239 rfl w.heap.size 296 i0 (.int .u16 0) 1 2 Tryz.underlying239 Hi.out Hz0.out Hz1.out Hz2.out rfl (by decide) _ _ _ rfl (Hown1.out.alloc _) ⟨w1.heap.size,0,none⟩ 1 1 [.int .u16 (uOne r)] rfl rfl ?c1 ?c2 ?c3 ?c4 ?c5 ?_))
    case c1=>
     intro q u hq
     match q,hq with
     | 0,hq=>simp at hq;subst hq;simp [Addr.add,uOne]
     | q+1,hq=>simp at hq
    case c2=>first|(intro u hu;simp at hu;subst hu;rfl)|rfl
    case c3=>unfold maxLen;omega
    case c4=>omega
    case c5=>have:=hb1.size;simp;omega
    intro v2 w2 hown hgrow _
    have hown2:w2.ownsRow w.heap.size 296 1 v2 (xs++[uOne r]).length ((xs++[uOne r]).map (Value.int .u16)):=by simpa using hown
    have hob:∀k,(u3).ownBlock=some k→w.heap.size≤k:=fun k hk=>(Hown1.out.lt k hk).1
    have hb2:Below w.heap.size w w2:=(hb1.alloc hb1.size _).grown hgrow (by have:=hb1.size;simp;omega) hob
    have Hown2:Hid (w2.ownsRow w.heap.size 296 1 v2 (xs++[uOne r]).length ((xs++[uOne r]).map (Value.int .u16))):=hown2
    clear hown hown2 hgrow Hown1 hob hb1
    go_wp2_with fail
    go_roundg (s.size-(pos+wd))
    case measure=>have:=Hk.out;omega
    case rel=>
     refine⟨pos+wd,b,xs++[uOne r],by rw [Hee.out],Hown2,by omega,rfl,?_,HUN,by omega,by simp;omega,hb2⟩
     show _=_
     rw [←Hc.out,He.out,Hu2.out,List.append_assoc]
  ·have hze:(s.extract pos s.size).size=0:=by omega
   have h0 : ¬((0:Int)<((s.extract pos s.size).size:Nat)):=by omega
   have hfin:Hid (xs=unL s):=by
    have:=Hc.out
    rw [unS_end s b pos hp,List.append_nil] at this
    exact this
   generalize s.extract pos s.size=X at *
   clear hsz hze
   go_wp2_with fail
   go_ret
   refine⟨_,rfl,?_,hbw⟩
   rw [←hfin.out]
   exact own_ints Hown.out
end Go.Proofs.YtlnecfjnffdciabGreat
