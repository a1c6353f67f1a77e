import Derived.Test.YtlnecfjnffdciabGreatLessM
import Derived.Test.YtlnecfjnffdciabGreatLook
set_option maxRecDepth 100000
set_option maxHeartbeats 8000000
namespace Go.Proofs.YtlnecfjnffdciabGreat
open Go.RowKit
def byK (q:Nat) (a b:PT):Int:=ordV q a.1 b.1
theorem ordR_right (q:Nat) (hq:q<6) (a b:VT) (ha:zac 16 a=true) (hb:zac 16 b=true):ordR 16 q a b=ordV q a b∧ordE 16 q a b=0:=by
 have e:ordE 16 q a b=0:=by
  unfold ordE
  rw [if_neg (by omega),if_pos ⟨ha,hb⟩]
 refine⟨?_,e⟩
 unfold ordR
 rw [if_pos e]
 rfl
theorem byKeys1_14 (q bx:Nat) (x y:PT) (ku vu ky vy:Value) (w:World) (hbx:w.cell? ⟨bx,0,none⟩=some (.int .i64 (q:Int))) (R:Int)
 (hc:∀V,Below w.heap.size w V→Calls Tryz.prog 216 #[.int .i64 (q:Int),.agg #[.int .i64 x.1.kind,.int .i64 x.1.num,.string x.1.text,ku],.agg #[.int .i64 y.1.kind,.int .i64 y.1.num,.string y.1.text,ky]] V fun e w'=>e=.returned (.tuple #[.int .i64 R,.int .i64 0])∧Below V.heap.size V w') :
 Calls Tryz.prog 215 #[.agg #[.int .i64 x.1.kind,.int .i64 x.1.num,.string x.1.text,ku,.int .i64 x.2.kind,.int .i64 x.2.num,.string x.2.text,vu],.agg #[.int .i64 y.1.kind,.int .i64 y.1.num,.string y.1.text,ky,.int .i64 y.2.kind,.int .i64 y.2.num,.string y.2.text,vy],.pointer (some ⟨bx,0,none⟩)] w fun e w'=>e=.returned (.int .i64 R)∧Below w.heap.size w w':=by
 have HC:Hid _:=hc
 have hbl:=zad hbx
 simp only at hbl
 have hbn : ¬bx=w.heap.size:=by omega
 have hbn2 : ¬bx=w.heap.size+1:=by omega
 have hb2:∀A B,Below w.heap.size w ((w.alloc A).alloc B):=fun A B=>(((Grew.refl w).alloc A).alloc B).below
 have z0:∀A B,((w.alloc A).alloc B).cell? ⟨bx,0,none⟩=some (.int .i64 (q:Int)):=fun A B=>zaa (hb2 A B) hbx
 have HB:Hid _:=hb2
 clear hc hb2
 go_enter Tryz.func215,Tryz.ntmps215
 go_wp2_with fail
 refine (HC.out _ (HB.out _ _)).mono ?_
 rintro e w1 ⟨rfl,hg⟩
 have hb1:Below w.heap.size w w1:=(HB.out _ _).trans (hg.mono (HB.out _ _).size)
 clear hg HC HB
 go_wp2_with fail
 go_ret
 exact⟨rfl,hb1⟩
theorem byKeys_14 (q:Int) (w:World):Calls Tryz.prog 149 #[.int .i64 q] w fun e w'=>e=.returned (.func (.func 215) #[] #[.pointer (some ⟨w.heap.size,0,none⟩)])∧w'=w.alloc (.cells #[.int .i64 q] 3):=by
 go_enter Tryz.func149,Tryz.ntmps149
 go_wp2_with fail
 go_ret
 exact⟨rfl,rfl⟩
end Go.Proofs.YtlnecfjnffdciabGreat
