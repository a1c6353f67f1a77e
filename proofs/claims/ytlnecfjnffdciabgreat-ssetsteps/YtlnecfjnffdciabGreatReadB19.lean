import Derived.Test.YtlnecfjnffdciabGreatRows
import Derived.Test.YtlnecfjnffdciabGreatRead
import Derived.OpenShut
import Derived.ShutString
import Derived.ChangeOld
import Derived.Below
namespace Go.Proofs.YtlnecfjnffdciabGreat
open Go.ChangeShapes Go.WideShapes Go.ChangeAt Go.RowKit
theorem own:ownKnob Tryz.prog.godebug=none:=by kernel_rfl
theorem laidOut:laidOutB Tryz.prog=true:=by kernel_rfl
end Go.Proofs.YtlnecfjnffdciabGreat

namespace Go.Proofs.YtlnecfjnffdciabGreat
open Go.ChangeShapes Go.WideShapes Go.ChangeAt Go.RowKit Go.Deep Go.Joins
set_option maxRecDepth 100000 in
theorem read_list {H:Type} {enc:TypeId×Value→H} {w:World} {spare:Nat→Bool} {held:Bool} {r:Reach} {b0:Nat} {v:Value} {d:DataW H} {p:List MemPlace}
 (hv:Value.okWide Tryz.prog w r b0 22 v) (h:DataW.Trod enc Tryz.prog w 0 spare held 22 v d p):∃(n:Nat) (l:List VT) (a:Option Addr) (c:Nat),v=.slice a l.length c∧Lies (n+1) w l v∧l.length≤9223372036854775807:=by
 obtain⟨a0,len,cap,rfl⟩:=okWide_slice Tryz.underlying22 hv
 obtain⟨fuel,hf⟩:=h
 obtain⟨l,u,e,hL⟩:=read_items fuel fuel (Nat.le_refl _) _ _ hf
 have e':(Value.slice a0 len cap)=u:=by simpa [Value.cells] using e
 subst e'
 obtain⟨a,c,hs,hb⟩:=Lies.slice hL
 exact⟨fuel,l,a,c,hs,Lies.deeper _ _ _ hL,hb⟩
end Go.Proofs.YtlnecfjnffdciabGreat

namespace Go.Proofs.YtlnecfjnffdciabGreat
open Go.ChangeShapes Go.WideShapes Go.ChangeAt Go.RowKit Go.Deep Go.Joins
def BlAt (w:World) (bs:List Bool) (v:Value):Prop:=
 ∃a c,v=.slice a bs.length c∧bs.length≤9223372036854775807∧(bs≠[]→∃b o,a=some ⟨b,o,none⟩∧∀(i:Nat) (h:i<bs.length),w.cell? ⟨b,o+i,none⟩=some (.bool (bs[i]'h)))
theorem cells_one19 {w:World} {a:Addr} {cs:List Value} (h:w.cells? 0 a 1=some cs):∃c0,cs=[c0]∧w.cell? (a.add 0)=some c0:=by
 unfold World.cells? at h
 rw [if_pos (Nat.zero_le _)] at h
 simp only [List.range,List.range.loop,List.mapM_cons,List.mapM_nil] at h
 simp only [Option.bind_eq_bind,Option.bind_eq_some_iff,Option.pure_def,Option.some.injEq] at h
 obtain⟨c0,h0,_,rfl,rfl⟩:=h
 exact⟨c0,rfl,h0⟩
theorem cellsBool19:Tryz.prog.cellsOf 4=1:=by kernel_rfl
set_option maxRecDepth 100000 in
theorem read_bools {H:Type} {enc:TypeId×Value→H} {w:World} {spare:Nat→Bool} {held:Bool} {r:Reach} {b0:Nat} {v:Value} {d:DataW H} {p:List MemPlace}
 (hv:Value.okWide Tryz.prog w r b0 40 v) (h:DataW.Trod enc Tryz.prog w 0 spare held 40 v d p):∃bs:List Bool,BlAt w bs v:=by
 obtain⟨a0,len0,cap0,rfl⟩:=okWide_slice Tryz.underlying40 hv
 obtain⟨fuel,hf⟩:=h
 rcases DataW.trod_slice Tryz.underlying40 hf with ⟨h0,_⟩|⟨a,len,cap,elems,rest,n,_,h0,_,_,hlc,hcm,hel,hall,_,_⟩
 ·have e':(Value.slice a0 len0 cap0)=.slice none 0 0:=by simpa [Value.cells] using h0
  rw [e']
  exact⟨[],none,0,rfl,by simp,fun h=>absurd rfl h⟩
 ·have e':(Value.slice a0 len0 cap0)=.slice (some a) len cap:=by simpa [Value.cells] using h0
  rw [e']
  have hone:∀i,i<len→∃t:Bool,w.cell? (a.add i)=some (.bool t):=by
   intro i hi
   have h1:=hall i hi
   rw [cellsBool19] at h1
   have hlt:i<elems.length:=by omega
   rw [List.getElem?_eq_getElem hlt,Option.bind_eq_some_iff] at h1
   obtain⟨cs,hcs,htr⟩:=h1
   obtain⟨c0,rfl,k0⟩:=cells_one19 hcs
   obtain⟨t,e0,_⟩:=DataW.trod_bool Tryz.underlying4 htr
   simp only [List.cons.injEq,and_true] at e0
   subst e0
   simp only [add_add,Nat.add_zero,Nat.mul_one] at k0
   exact⟨t,k0⟩
  have hinh:Inhabited Bool:=⟨false⟩
  obtain⟨f,hf⟩:=choose_lt hone
  refine⟨(List.range len).map f,some a,cap,by simp,by unfold maxLen at hcm;simp;omega,fun hne=>?_⟩
  obtain⟨b,o,sp⟩:=a
  have hl0:0<len:=by
   rcases Nat.eq_zero_or_pos len with h0|h0
   ·subst h0;simp at hne
   ·exact h0
  have z0:=hf 0 hl0
  have hspot:sp=none:=by simpa [Addr.add] using World.cell?_spot z0
  subst hspot
  refine⟨b,o,rfl,fun i hi=>?_⟩
  have hi':i<len:=by simpa using hi
  have q0:=hf i hi'
  have hadd:(⟨b,o,none⟩:Addr).add i=⟨b,o+i,none⟩:=by
   unfold Addr.add
   by_cases hk:i=0
   ·subst hk;rfl
   ·rw [if_neg hk]
  rw [hadd] at q0
  simp only [List.getElem_map,List.getElem_range]
  exact q0
end Go.Proofs.YtlnecfjnffdciabGreat

