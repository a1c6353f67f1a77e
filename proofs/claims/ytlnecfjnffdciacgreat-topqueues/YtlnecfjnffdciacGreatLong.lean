import Derived.Test.YtlnecfjnffdciacGreatProg
import Derived.Test.YtlnecfjnffdciacGreatTreeS
import Derived.BigQuiet
namespace Go.Proofs.YtlnecfjnffdciacGreat
open Go.RowKit
def t15 (x:Int):Int:=bits .or .u32 (x*32768 % 4294967296) (x / 131072)
def t13 (x:Int):Int:=bits .or .u32 (x*8192 % 4294967296) (x / 524288)
def xs16 (x:Int):Int:=bits .xor .u32 x (x / 65536)
def xs13 (x:Int):Int:=bits .xor .u32 x (x / 8192)
def mixK (k:Int):Int:=t15 (k*3432918353 % 4294967296)*461845907 % 4294967296
def mixH (h k:Int):Int:=(t13 (bits .xor .u32 h k)*5 % 4294967296+3864292196) % 4294967296
def finZ (h n:Int):Int:=xs16 (xs13 (xs16 (bits .xor .u32 h n)*2246822507 % 4294967296)*3266489909 % 4294967296)
def intZ (x:Int):Int:=if x=0 then 0 else finZ (mixH 0 (mixK (IntKind.u32.wrap x))) 4
def longZ (x:Int):Int:=if x=0 then 0 else finZ (mixH (mixH 0 (mixK (IntKind.u32.wrap x))) (mixK (IntKind.u32.wrap (x / 4294967296)))) 8
def collZ (h n:Int):Int:=finZ (mixH 0 (mixK h)) (IntKind.u32.wrap n)
theorem turn15 (x:Int) (w:World):Calls Tryz.prog 168 #[.int .u32 x,.int .i64 15] w fun e w'=>e=.returned (.int .u32 (t15 x))∧Drawn w w':=by
 go_enter Tryz.func168,Tryz.ntmps168
 go_wp2_with fail
 go_quiet (fail)
 go_wp2_with fail
 go_ret
 exact⟨rfl,Drawn.n _ _⟩
theorem turn13 (x:Int) (w:World):Calls Tryz.prog 168 #[.int .u32 x,.int .i64 13] w fun e w'=>e=.returned (.int .u32 (t13 x))∧Drawn w w':=by
 go_enter Tryz.func168,Tryz.ntmps168
 go_wp2_with fail
 go_quiet (fail)
 go_wp2_with fail
 go_ret
 exact⟨rfl,Drawn.n _ _⟩
theorem fin_any (h n:Int) (w:World):Calls Tryz.prog 123 #[.int .u32 h,.int .u32 n] w fun e w'=>e=.returned (.int .u32 (finZ h n))∧Drawn w w':=by
 go_enter Tryz.func123,Tryz.ntmps123
 go_wp2_with fail
 go_ret
 exact⟨rfl,Drawn.refl _⟩
theorem mixK_any (k:Int) (w:World):Calls Tryz.prog 125 #[.int .u32 k] w fun e w'=>e=.returned (.int .u32 (mixK k))∧Drawn w w':=by
 go_enter Tryz.func125,Tryz.ntmps125
 go_wp2_with fail
 refine (turn15 _ _).mono ?_
 rintro e w1 ⟨rfl,h1⟩
 go_wp2_with fail
 go_ret
 exact⟨rfl,h1⟩
theorem mixH_any (h k:Int) (w:World):Calls Tryz.prog 124 #[.int .u32 h,.int .u32 k] w fun e w'=>e=.returned (.int .u32 (mixH h k))∧Drawn w w':=by
 go_enter Tryz.func124,Tryz.ntmps124
 go_wp2_with fail
 refine (turn13 _ _).mono ?_
 rintro e w1 ⟨rfl,h1⟩
 go_wp2_with fail
 go_ret
 exact⟨rfl,h1⟩
theorem coll_any (h n:Int) (w:World):Calls Tryz.prog 126 #[.int .u32 h,.int .i64 n] w fun e w'=>e=.returned (.int .u32 (collZ h n))∧Drawn w w':=by
 go_enter Tryz.func126,Tryz.ntmps126
 go_wp2_with fail
 refine (mixK_any _ _).mono ?_
 rintro e w1 ⟨rfl,h1⟩
 go_wp2_with fail
 refine (mixH_any _ _ _).mono ?_
 rintro e w2 ⟨rfl,h2⟩
 go_wp2_with fail
 refine (fin_any _ _ _).mono ?_
 rintro e w3 ⟨rfl,h3⟩
 go_wp2_with fail
 go_ret
 exact⟨rfl,((h1.trans h2).trans h3)⟩
theorem mint_any (x:Int) (w:World):Calls Tryz.prog 78 #[.int .i32 x] w fun e w'=>e=.returned (.int .u32 (intZ x))∧Drawn w w':=by
 go_enter Tryz.func78,Tryz.ntmps78
 by_cases hx:x=0
 ·subst hx
  go_wp2_with fail
  go_ret
  exact⟨rfl,Drawn.refl _⟩
 ·have hi:intZ x=finZ (mixH 0 (mixK (IntKind.u32.wrap x))) 4:=if_neg hx
  have Hi:Hid (intZ x=finZ (mixH 0 (mixK (IntKind.u32.wrap x))) 4):=hi
  clear hi
  go_wp2_with fail
  refine (mixK_any _ _).mono ?_
  rintro e w1 ⟨rfl,h1⟩
  go_wp2_with fail
  refine (mixH_any _ _ _).mono ?_
  rintro e w2 ⟨rfl,h2⟩
  go_wp2_with fail
  refine (fin_any _ _ _).mono ?_
  rintro e w3 ⟨rfl,h3⟩
  go_wp2_with fail
  go_ret
  rw [Hi.out]
  exact⟨rfl,(h1.trans h2).trans h3⟩
theorem upper_eq (x:Int):(IntKind.u64.wrap x / 4294967296) % 4294967296=x / 4294967296 % 4294967296:=by
 have h:IntKind.u64.wrap x=x % 18446744073709551616:=by simp [IntKind.wrap,IntKind.bits,IntKind.signed]
 rw [h];omega
set_option maxHeartbeats 400000 in
theorem long_any (x:Int) (w:World):Calls Tryz.prog 77 #[.int .i64 x] w fun e w'=>e=.returned (.int .u32 (longZ x))∧Drawn w w':=by
 go_enter Tryz.func77,Tryz.ntmps77
 by_cases hx:x=0
 ·subst hx
  go_wp2_with fail
  go_ret
  exact⟨rfl,Drawn.refl _⟩
 ·have hi:longZ x=finZ (mixH (mixH 0 (mixK (x % 4294967296))) (mixK (x / 4294967296 % 4294967296))) 8:=by
   unfold longZ
   rw [if_neg hx,IntKind.wrap_u32',IntKind.wrap_u32']
  have Hi:Hid (longZ x=finZ (mixH (mixH 0 (mixK (x % 4294967296))) (mixK (x / 4294967296 % 4294967296))) 8):=hi
  clear hi
  go_wp2_with fail
  refine (mixK_any _ _).mono ?_
  rintro e w1 ⟨rfl,h1⟩
  go_wp2_with fail
  refine (mixH_any _ _ _).mono ?_
  rintro e w2 ⟨rfl,h2⟩
  go_wp2_with fail
  refine (mixK_any _ _).mono ?_
  rintro e w3 ⟨rfl,h3⟩
  go_wp2_with fail
  refine (mixH_any _ _ _).mono ?_
  rintro e w4 ⟨rfl,h4⟩
  go_wp2_with fail
  refine (fin_any _ _ _).mono ?_
  rintro e w5 ⟨rfl,h5⟩
  go_wp2_with fail
  go_ret
  refine⟨?_,((((h1.trans h2).trans h3).trans h4).trans h5)⟩
  rw [Hi.out]
  rw [show x / 4294967296 % 4294967296=IntKind.u64.wrap x / 4294967296 % 4294967296 from (upper_eq x).symm]
  rfl
end Go.Proofs.YtlnecfjnffdciacGreat
