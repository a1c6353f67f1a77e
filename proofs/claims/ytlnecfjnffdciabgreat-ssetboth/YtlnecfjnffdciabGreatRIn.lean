import Derived.Test.YtlnecfjnffdciabGreatROrd
import Derived.Test.YtlnecfjnffdciabGreatCopies
namespace Go.Proofs.YtlnecfjnffdciabGreat
open Go.RowKit
def kindO (o:Int):Bool:=decide (0≤o∧o≤5)
theorem rkind6_any (o:Int) (w:World):Calls Tryz.prog 77 #[.int .i64 o] w fun e w'=>e=.returned (.bool (kindO o))∧w'=w:=by
 unfold kindO
 by_cases h1:0≤o
 ·by_cases h2:o≤5
  ·rw [decide_eq_true (show 0≤o∧o≤5 from ⟨h1,h2⟩)]
   go_enter Tryz.func77,Tryz.ntmps77
   go_wp2
   go_ret
   exact⟨rfl,rfl⟩
  ·rw [decide_eq_false (show ¬(0≤o∧o≤5) from fun h=>h2 h.2)]
   go_enter Tryz.func77,Tryz.ntmps77
   go_wp2
   go_ret
   exact⟨rfl,rfl⟩
 ·rw [decide_eq_false (show ¬(0≤o∧o≤5) from fun h=>h1 h.1)]
  go_enter Tryz.func77,Tryz.ntmps77
  go_wp2
  go_ret
  exact⟨rfl,rfl⟩
open Go.Shelf
theorem rfit_any (d:Nat) (o:Int) (l:List VT) (u:Value) (w:World) (hu:Lies (d+1) w l u):Calls Tryz.prog 60 #[.int .i64 o,u] w fun e w'=>e=.returned (.int .i64 (lookE d o l))∧Below w.heap.size w w':=by
 obtain⟨a,c,rfl,_⟩:=Lies.slice hu
 have HU:Hid (Lies (d+1) w l (.slice a l.length c)):=hu
 clear hu
 by_cases ho:o<0∨6≤o
 ·have hE:lookE d o l=4:=by unfold lookE;rw [if_pos ho]
  rw [hE]
  have hk:kindO o=false:=decide_eq_false (by omega)
  clear hE ho
  go_enter Tryz.func60,Tryz.ntmps60
  go_wp2_with fail
  refine (rkind6_any o _).mono ?_
  rintro e w' ⟨rfl,rfl⟩
  rw [hk]
  go_wp2_with fail
  go_ret
  exact⟨rfl,Below.refl _ _⟩
 ·have hE:lookE d o l=zan d l:=by unfold lookE;rw [if_neg ho]
  rw [hE]
  have hk:kindO o=true:=decide_eq_true (by omega)
  clear hE ho
  go_enter Tryz.func60,Tryz.ntmps60
  go_wp2_with fail
  refine (rkind6_any o _).mono ?_
  rintro e w' ⟨rfl,rfl⟩
  rw [hk]
  go_wp2_with fail
  refine (listed_any d l _ _ HU.out).mono ?_
  rintro e w1 ⟨rfl,hb⟩
  go_wp2_with fail
  go_ret
  exact⟨rfl,hb⟩
theorem rsame_any (t s:VT) (x y:Value) (w:World) (hx:Lies 16 w t.items x) (hy:Lies 16 w s.items y):Calls Tryz.prog 206 #[.agg #[.int .i64 t.kind,.int .i64 t.num,.string t.text,x],.agg #[.int .i64 s.kind,.int .i64 s.num,.string s.text,y]] w fun e w'=>e=.returned (.bool (cmpV 16 t s==0))∧Below w.heap.size w w':=by
 obtain⟨ax,cx,rfl,_⟩:=Lies.slice hx
 obtain⟨ay,cy,rfl,_⟩:=Lies.slice hy
 have HX:Hid (Lies 16 w t.items (.slice ax t.items.length cx)):=hx
 have HY:Hid (Lies 16 w s.items (.slice ay s.items.length cy)):=hy
 clear hx hy
 go_enter Tryz.func206,Tryz.ntmps206
 go_wp2_with fail
 refine (ref_any 16 t s _ _ _ (Lies.keeps (Grew.two _ _ _).below _ _ _ HX.out) (Lies.keeps (Grew.two _ _ _).below _ _ _ HY.out)).mono ?_
 rintro e w1 ⟨rfl,hb⟩
 have hb1:Below w.heap.size w w1:=(Grew.two w _ _).below.trans (hb.mono (by simp;omega))
 clear hb
 go_wp2_with fail
 go_ret
 exact⟨rfl,hb1⟩
end Go.Proofs.YtlnecfjnffdciabGreat
