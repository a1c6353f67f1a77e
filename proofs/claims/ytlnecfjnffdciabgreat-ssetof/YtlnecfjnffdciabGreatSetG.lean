import Derived.Test.YtlnecfjnffdciabGreatRotate
import Derived.Test.YtlnecfjnffdciabGreatMade
import Derived.Test.YtlnecfjnffdciabGreatSet
import Derived.Shelf.SlSortCmp.NoneTotal
namespace Go.Proofs.YtlnecfjnffdciabGreat
open Go.RowKit
theorem sort_none (p:Option Addr) (cap:Nat) (fv:Value) (w:World):Calls Tryz.prog 189 #[.slice p 0 cap,fv] w fun e w'=>e=.returned (.tuple #[])∧w'=w:=by
 have h:=AnyF.slices_SortFunc_none Tryz.sortV p cap fv w
 exact h
set_option maxHeartbeats 1000000 in
theorem clone_none (a:Option Addr) (c:Nat) (w:World) :
 Calls Tryz.prog 188 #[.slice a 0 c] w fun e w'=>∃a' c',e=.returned (.slice a' 0 c')∧Below w.heap.size w w':=by
 obtain⟨i0,hi,hz0,hz1,hz2⟩:=info24
 have Hi:Hid _:=hi;have Hz0:Hid _:=hz0;have Hz1:Hid _:=hz1;have Hz2:Hid _:=hz2
 clear hi hz0 hz1 hz2
 have q22:∀(w:World) (a:Option Addr) (n c n' c':Nat),(binOp .eql 22 (.slice a n c) (.slice none n' c')).run Tryz.prog w=.ok (.bool a.isNone) w:=fun w a n c n' c'=>Lib.run_eql_slice_nil w _ _ a n c n' c' Tryz.underlying22
 cases a with
 | none=>
  go_enter Tryz.func188,Tryz.ntmps188
  go_wp2_with fail
  go_ret
  exact⟨none,0,rfl,Below.refl _ _⟩
 | some ad=>
  go_enter Tryz.func188,Tryz.ntmps188
  go_wp2_with (first
   | (at_builtin;refine wpList_append_own _ rfl _ _ 22 rfl w.heap.size 33 i0 (.agg #[.int .i64 0,.int .i64 0,.string ⟨#[]⟩,.slice none 0 0]) 4 56 Tryz.underlying22 Hi.out Hz0.out Hz1.out Hz2.out rfl (by decide) _ 0 [] rfl ?c0 ad 0 c [] rfl rfl ?c1 ?c2 ?c3 ?c4 ?c5 ?_))
  case c0=>exact World.ownsRow_lit w #[] 0 (Nat.le_refl _) (by unfold maxLen;omega) rfl
  case c1=>intro j u hj;simp at hj
  case c2=>intro u hu;cases hu
  case c3=>unfold maxLen;omega
  case c4=>omega
  case c5=>simp
  intro v' w2 hown' hgrow _
  have hb2:Below w.heap.size w w2:=(((Below.refl _ _).alloc (Nat.le_refl _) _)).grown hgrow (by simp) (by
   intro k hk
   simp [Value.ownBlock] at hk;omega)
  have hex:∃a' c',v'=.slice a' 0 c':=by
   rcases hown'.2 with ⟨hv,_⟩|⟨g,cap,cur,hv,_⟩
   ·exact⟨none,0,hv⟩
   ·exact⟨_,cap,hv⟩
  obtain⟨a',c',rfl⟩:=hex
  clear hgrow hown'
  go_wp2_with fail
  go_ret
  exact⟨a',c',rfl,hb2⟩
set_option maxHeartbeats 1000000 in
theorem sorted_none (a:Option Addr) (c:Nat) (w:World) :
 Calls Tryz.prog 123 #[.slice a 0 c] w fun e w'=>∃a' c',e=.returned (.slice a' 0 c')∧Below w.heap.size w w':=by
 go_enter Tryz.func123,Tryz.ntmps123
 go_wp2_with fail
 refine (clone_none a c _).mono ?_
 rintro e w1 ⟨a',c',rfl,hb1⟩
 go_wp2_with fail
 refine (sort_none a' c' _ _).mono ?_
 rintro e w2 ⟨rfl,rfl⟩
 go_wp2_with fail
 go_ret
 exact⟨a',c',rfl,hb1⟩
set_option maxHeartbeats 1000000 in
theorem compact_few (a:Option Addr) (n c:Nat) (w:World) (h:n<2) :
 Calls Tryz.prog 122 #[.slice a n c,.func (.func 124) #[] #[]] w fun e w'=>e=.returned (.slice a n c)∧w'=w:=by
 have h':(n:Int)<2:=by omega
 clear h
 go_enter Tryz.func122,Tryz.ntmps122
 go_wp2_with fail
 go_ret
 exact⟨rfl,rfl⟩
theorem uniq_one (g:PR→PR→Bool) (ps:List PR) (h:ps.length<2):uniq g ps=ps:=by
 match ps,h with
 | [],_=>rfl
 | [x],_=>rfl
theorem compact_any (d g cap:Nat) (w0 w:World) (ps:List PR) (hs:∀p∈ps,Sound d w0 p) (hg:w0.heap.size≤g) (hW:RowW w0 g ps.length ps w) (hlen:ps.length≤65536) (hcap:ps.length≤cap) :
 Calls Tryz.prog 122 #[.slice (some ⟨g,0,none⟩) ps.length cap,.func (.func 124) #[] #[]] w fun e w'=>∃k,e=.returned (.slice (some ⟨g,0,none⟩) k cap)∧k=(uniq (eqB d) ps).length∧RowW w0 g k (uniq (eqB d) ps) w':=by
 by_cases h:ps.length<2
 ·refine (compact_few _ _ _ w h).mono fun e w' hh=>?_
  obtain⟨he,hw⟩:=hh
  subst hw
  rw [uniq_one _ _ h]
  exact⟨ps.length,he,rfl,hW⟩
 ·exact compact_outer d g cap w0 w ps hs hg hW hlen hcap (by omega)
end Go.Proofs.YtlnecfjnffdciabGreat

