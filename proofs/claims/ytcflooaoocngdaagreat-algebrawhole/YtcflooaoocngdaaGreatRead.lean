import Derived.Test.YtcflooaoocngdaaGreatProg
import Derived.Test.YtcflooaoocngdaaGreatSymC
import Derived.Lib.SmallJoins
namespace Go.Proofs.YtcflooaoocngdaaGreat
open Go.ChangeShapes Go.WideShapes Go.ChangeAt Go.RowKit Go.Deep Go.Joins
theorem Tryz.cells24:Tryz.prog.cellsOf 27=4:=by kernel_rfl
theorem Tryz.cells22:Tryz.prog.cellsOf 22=1:=by kernel_rfl
theorem Tryz.cells3:Tryz.prog.cellsOf 3=1:=by kernel_rfl
theorem Tryz.cells2:Tryz.prog.cellsOf 2=1:=by kernel_rfl
theorem Tryz.cells9:Tryz.prog.cellsOf 9=1:=by kernel_rfl
theorem cells_four {w:World} {a:Addr} {cs:List Value} (h:w.cells? 0 a 4=some cs) :
 ∃c0 c1 c2 c3,cs=[c0,c1,c2,c3]∧w.cell? (a.add 0)=some c0∧w.cell? (a.add 1)=some c1∧w.cell? (a.add 2)=some c2∧w.cell? (a.add 3)=some c3:=by
 unfold World.cells? at h
 rw [if_pos (Nat.zero_le _)] at h
 simp only [List.range,List.range.loop,List.mapM_cons,List.mapM_nil] at h
 simp only [Option.bind_eq_bind,Option.bind_eq_some_iff,Option.pure_def,Option.some.injEq] at h
 obtain⟨c0,h0,_,⟨c1,h1,_,⟨c2,h2,_,⟨c3,h3,_,rfl,rfl⟩,rfl⟩,rfl⟩,rfl⟩:=h
 exact⟨c0,c1,c2,c3,rfl,h0,h1,h2,h3⟩
theorem list_four {α:Type} {l:List α} (h:l.length=4):∃a b c d,l=[a,b,c,d]:=by
 match l,h with
 | [a,b,c,d],_=>exact⟨a,b,c,d,rfl⟩
theorem read_items {H:Type} {enc:TypeId×Value→H} {w:World} {spare:Nat→Bool} {held:Bool}:∀(F m:Nat),m≤F→∀(cs:List Value) (x:DataW H×List MemPlace),
 DataW.trod enc Tryz.prog w 0 spare held m 22 cs=some x→∃l u,cs=[u]∧Lies m w l u:=by
 intro F
 induction F with
 | zero=>intro m hm cs x h;have:m=0:=by omega
         subst this;simp [DataW.trod] at h
 | succ F ih=>
  intro m hm cs x h
  rcases DataW.trod_slice Tryz.underlying22 h with ⟨rfl,_⟩|⟨a,len,cap,elems,rest,n,rfl,rfl,_,_,hlc,hcm,hel,hall,_,_⟩
  ·exact⟨[],_,rfl,Lies.atLeast (d:=0) ⟨rfl,none,0,rfl⟩ m (Nat.zero_le _)⟩
  ·have hone:∀i,i<len→∃t:VT,∃u,w.cell? (a.add (i*4))=some (.int .i64 t.kind)∧w.cell? (a.add (i*4+1))=some (.int .i64 t.num)∧w.cell? (a.add (i*4+2))=some (.string t.text)∧w.cell? (a.add (i*4+3))=some u∧Lies n w t.items u∧t.text.size≤9223372036854775807:=by
    intro i hi
    have h1:=hall i hi
    rw [Tryz.cells24] at h1
    have hlt:i<elems.length:=by omega
    rw [List.getElem?_eq_getElem hlt,Option.bind_eq_some_iff] at h1
    obtain⟨cs,hcs,htr⟩:=h1
    obtain⟨c0,c1,c2,c3,rfl,k0,k1,k2,k3⟩:=cells_four hcs
    obtain⟨xs,n',rfl,_,_,_,hf⟩:=DataW.trod_struct Tryz.underlying27 htr
    obtain⟨y0,y1,y2,y3,rfl⟩:=list_four (show xs.length=4 by simpa using ‹xs.length=_›)
    have f0:DataW.trod enc Tryz.prog w 0 spare held n' 3 [c0]=some y0:=by simpa [Tryz.cells3] using hf 0 _ rfl
    have f1:DataW.trod enc Tryz.prog w 0 spare held n' 2 [c1]=some y1:=by simpa [Tryz.cells2] using hf 1 _ rfl
    have f2:DataW.trod enc Tryz.prog w 0 spare held n' 9 [c2]=some y2:=by simpa [Tryz.cells9] using hf 2 _ rfl
    have f3:DataW.trod enc Tryz.prog w 0 spare held n' 22 [c3]=some y3:=by simpa [Tryz.cells22] using hf 3 _ rfl
    obtain⟨kd,e0,_,_⟩:=DataW.trod_int Tryz.underlying3 f0
    obtain⟨nm,e1,_,_⟩:=DataW.trod_int Tryz.underlying2 f1
    obtain⟨tx,e2,_,hs⟩:=DataW.trod_string Tryz.underlying9 f2
    obtain⟨l,u,e3,hL⟩:=ih n' (by omega) _ _ f3
    simp only [List.cons.injEq,and_true] at e0 e1 e2 e3
    subst e0 e1 e2 e3
    simp only [add_add,Nat.add_zero] at k0 k1 k2 k3
    exact⟨⟨kd,nm,tx,l⟩,c3,k0,k1,k2,k3,hL.atLeast _ (by omega),by unfold maxLen at hs;omega⟩
   have hinh:Inhabited VT:=⟨⟨0,0,ByteArray.empty,[]⟩⟩
   obtain⟨f,hf⟩:=choose_lt hone
   refine⟨(List.range len).map f,_,rfl,⟨some a,cap,by simp,by unfold maxLen at hcm;simp;omega,fun hne=>?_⟩⟩
   obtain⟨b,o,sp⟩:=a
   have hl0:0<len:=by
    rcases Nat.eq_zero_or_pos len with h0|h0
    ·subst h0;simp at hne
    ·exact h0
   obtain⟨_,z0,_⟩:=hf 0 hl0
   have hspot:sp=none:=by simpa [Addr.add] using World.cell?_spot z0
   subst hspot
   refine⟨b,o,rfl,fun i hi=>?_⟩
   have hi':i<len:=by simpa using hi
   obtain⟨u,q0,q1,q2,q3,q4,q5⟩:=hf i hi'
   have hadd:∀k,(⟨b,o,none⟩:Addr).add k=⟨b,o+k,none⟩:=by
    intro k
    unfold Addr.add
    by_cases hk:k=0
    ·subst hk;rfl
    ·rw [if_neg hk]
   rw [hadd] at q0 q1 q2 q3
   simp only [List.getElem_map,List.getElem_range]
   exact⟨u,q0,by rw [Nat.add_assoc];exact q1,by rw [Nat.add_assoc];exact q2,by rw [Nat.add_assoc];exact q3,q4,q5⟩
end Go.Proofs.YtcflooaoocngdaaGreat
