import Derived.Test.YtcflooaoocngdaaGreatAlkS
import Derived.Test.YtcflooaoocngdaaGreatAppB
namespace Go.Proofs.YtcflooaoocngdaaGreat
open Go.RowKit
structure FillI (g n j:Nat) (W:World):Prop where
 done:∀k,k<j→W.cell? ⟨g,k,none⟩=some (.int .i64 (k:Int))
 room:∀k,k<n→∃v,W.cell? ⟨g,k,none⟩=some v
 soft:∀k,k<n→W.frozen? ⟨g,k,none⟩=false
 lt:g<W.heap.size
theorem FillI.put {g n j:Nat} {W:World} (h:FillI g n j W) (hj:j<n):FillI g n (j+1) (W.setCell ⟨g,j,none⟩ (.int .i64 (j:Int))):=by
 refine⟨fun k hk=>?_,fun k hk=>?_,fun k hk=>?_,by simpa [World.setCell] using h.lt⟩
 ·by_cases e:k=j
  ·subst e
   obtain⟨v,hv⟩:=h.room k hj
   exact World.cell?_setCell_same _ _ _ hv
  ·rw [World.cell?_setCell_other _ _ _ _ (fun e2=>e (by injection e2 with _ e3 _;exact e3.symm))]
   exact h.done k (by omega)
 ·by_cases e:k=j
  ·subst e
   obtain⟨v,hv⟩:=h.room k hj
   exact⟨_,World.cell?_setCell_same _ _ _ hv⟩
  ·rw [World.cell?_setCell_other _ _ _ _ (fun e2=>e (by injection e2 with _ e3 _;exact e3.symm))]
   exact h.room k hk
 ·rw [World.frozen?_setCell];exact h.soft k hk
def encG (g:Nat):Nat→List (List Nat)→List Value
 | _,[]=>[]
 | o,x::xs=>.slice (some ⟨g,o,none⟩) x.length x.length::encG g (o+x.length) xs
theorem encG_snoc (g:Nat) (x:List Nat):∀(gs:List (List Nat)) (o:Nat),encG g o (gs++[x])=encG g o gs++[.slice (some ⟨g,o+gs.flatten.length,none⟩) x.length x.length]:=by
 intro gs
 induction gs with
 | nil=>intro o;simp [encG]
 | cons y ys ih=>intro o;simp only [List.cons_append,encG,ih,List.flatten_cons,List.length_append];rw [Nat.add_assoc]
theorem encG_get (g:Nat):∀(gs:List (List Nat)) (o k:Nat) (hk:k<gs.length),(encG g o gs)[k]? = some (.slice (some ⟨g,o+(gs.take k).flatten.length,none⟩) gs[k].length gs[k].length):=by
 intro gs
 induction gs with
 | nil=>intro o k hk;simp at hk
 | cons x xs ih=>
  intro o k hk
  cases k with
  | zero=>simp [encG]
  | succ k=>
   simp only [encG,List.getElem?_cons_succ,List.take_succ_cons,List.flatten_cons,List.length_append,List.getElem_cons_succ]
   rw [ih _ k (by simpa using hk),Nat.add_assoc]
def SlG (w:World) (gs:List (List Nat)) (v:Value):Prop:=
 ∃a c,v=.slice a gs.length c∧gs.length≤9223372036854775807∧∀(k:Nat) (hk:k<gs.length),∃b o g' o' c',a=some ⟨b,o,none⟩∧w.cell? ⟨b,o+k,none⟩=some (.slice (some ⟨g',o',none⟩) gs[k].length c')∧∀(m:Nat) (hm:m<gs[k].length),w.cell? ⟨g',o'+m,none⟩=some (.int .i64 ((gs[k][m]:Nat):Int))
def AlkPost (l:List VT) (w:World) (e:Ending) (w':World):Prop:=
 ∃(gs:List (List Nat)) (v:Value),e=.returned v∧Alk l gs∧SlG w' gs v∧Below w.heap.size w w'
structure AlkQ (l:List VT) (pl:List Nat) (o:Nat) (gs:List (List Nat)):Prop where
 flat:gs.flatten=pl.take o
 ne:∀g∈gs,g≠[]
 same:∀g∈gs,∀i∈g,∀j∈g,cmpV 16 (l.getD i nilT) (l.getD j nilT)=0
 rise:(gs++[pl.drop o]).Pairwise fun g h=>∀i∈g,∀j∈h,cmpV 16 (l.getD i nilT) (l.getD j nilT)<0
theorem cfI_neg {l:List VT} {i j:Nat} (h:cfI l i j<0):cmpV 16 (l.getD i nilT) (l.getD j nilT)≤0∧(cmpV 16 (l.getD i nilT) (l.getD j nilT)=0→i<j):=by
 unfold cfI at h
 split at h
 ·rename_i e
  refine⟨by omega,fun _=>?_⟩
  unfold cmpI at h
  split at h
  ·omega
  ·split at h <;> omega
 ·exact⟨by omega,fun e=>absurd e ‹_›⟩
theorem cmpV_mix {a b c:VT} (h1:cmpV 16 a b=0) (h2:cmpV 16 b c<0):cmpV 16 a c<0:=by
 have h:=goes_V 16 a b c (by omega) (by omega)
 have:cmpV 16 a c≠0:=fun e=>by have:=h.2 e;omega
 have:=h.1
 omega
theorem cmpV_mix2 {a b c:VT} (h1:cmpV 16 a b<0) (h2:cmpV 16 b c≤0):cmpV 16 a c<0:=by
 have h:=goes_V 16 a b c (by omega) h2
 have:cmpV 16 a c≠0:=fun e=>by have:=h.2 e;omega
 have:=h.1
 omega
theorem cmpV_eq0 {a b c:VT} (h1:cmpV 16 a b=0) (h2:cmpV 16 a c=0):cmpV 16 b c=0:=by
 have t1:=zat 16 a b
 have t2:=zat 16 a c
 have h:=goes_V 16 b a c (by omega) (by omega)
 have h':=goes_V 16 c a b (by omega) (by omega)
 have t3:=zat 16 b c
 have:=h.1
 have:=h'.1
 omega
theorem AlkQ.step {l:List VT} {pl:List Nat} {o k:Nat} {gs:List (List Nat)} (h:AlkQ l pl o gs) (hs:pl.Pairwise (fun i j=>cfI l i j<0)) (hk:0<k) (hok:o+k≤pl.length) (heq:∀i,i<k→∀(h1:o+i<pl.length) (h0:o<pl.length),cmpV 16 (l.getD pl[o] nilT) (l.getD pl[o+i] nilT)=0) (hend:∀(h1:o+k<pl.length) (h0:o<pl.length),cmpV 16 (l.getD pl[o] nilT) (l.getD pl[o+k] nilT)≠0) :
 AlkQ l pl (o+k) (gs++[(pl.drop o).take k]):=by
 have h0:o<pl.length:=by omega
 have hmem:∀x∈(pl.drop o).take k,cmpV 16 (l.getD pl[o] nilT) (l.getD x nilT)=0:=by
  intro x hx
  obtain⟨i,hi,rfl⟩:=List.getElem_of_mem hx
  have hi2:i<k:=by simp at hi;omega
  rw [List.getElem_take,List.getElem_drop]
  exact heq i hi2 (by omega) h0
 have hlater:∀y∈pl.drop (o+k),cmpV 16 (l.getD pl[o] nilT) (l.getD y nilT)<0:=by
  intro y hy
  obtain⟨i,hi,rfl⟩:=List.getElem_of_mem hy
  have hi2:o+k+i<pl.length:=by simp at hi;omega
  rw [List.getElem_drop]
  have hp:=List.pairwise_iff_getElem.1 hs
  have hok2:o+k<pl.length:=by omega
  have a1:=cfI_neg (hp o (o+k) h0 hok2 (by omega))
  have a2:=hend hok2 h0
  have a3:cmpV 16 (l.getD pl[o] nilT) (l.getD pl[o+k] nilT)<0:=by omega
  by_cases e:i=0
  ·subst e;exact a3
  ·exact cmpV_mix2 a3 (cfI_neg (hp (o+k) (o+k+i) hok2 hi2 (by omega))).1
 have hsplit:pl.drop o=(pl.drop o).take k++pl.drop (o+k):=by
  rw [←List.drop_drop]
  exact (List.take_append_drop k (pl.drop o)).symm
 refine⟨?_,?_,?_,?_⟩
 ·rw [List.flatten_append,h.flat]
  simp only [List.flatten_cons,List.flatten_nil,List.append_nil]
  rw [List.take_add]
 ·intro g hg
  rcases List.mem_append.1 hg with hg|hg
  ·exact h.ne g hg
  ·have:g=(pl.drop o).take k:=by simpa using hg
   subst this
   intro e
   have:=congrArg List.length e
   simp at this
   omega
 ·intro g hg i hi j hj
  rcases List.mem_append.1 hg with hg|hg
  ·exact h.same g hg i hi j hj
  ·have:g=(pl.drop o).take k:=by simpa using hg
   subst this
   exact cmpV_eq0 (hmem i hi) (hmem j hj)
 ·have hr:=List.pairwise_append.1 h.rise
  refine List.pairwise_append.2 ⟨List.pairwise_append.2 ⟨hr.1,List.pairwise_singleton _ _,fun a ha b hb i hi j hj=>?_⟩,List.pairwise_singleton _ _,fun a ha b hb i hi j hj=>?_⟩
  ·have:b=(pl.drop o).take k:=by simpa using hb
   subst this
   exact hr.2.2 a ha (pl.drop o) (by simp) i hi j (List.mem_of_mem_take hj)
  ·have:b=pl.drop (o+k):=by simpa using hb
   subst this
   rcases List.mem_append.1 ha with ha|ha
   ·exact hr.2.2 a ha (pl.drop o) (by simp) i hi j (by rw [hsplit];exact List.mem_append_right _ hj)
   ·have:a=(pl.drop o).take k:=by simpa using ha
    subst this
    exact cmpV_mix (by have:=hmem i hi;have t:=zat 16 (l.getD pl[o] nilT) (l.getD i nilT);omega) (hlater j hj)
theorem AlkQ.start (l:List VT) (pl:List Nat):AlkQ l pl 0 []:=⟨by simp,(fun g hg=>by cases hg),(fun g hg=>by cases hg),List.pairwise_singleton _ _⟩
theorem AlkQ.done {l:List VT} {pl:List Nat} {gs:List (List Nat)} (h:AlkQ l pl pl.length gs) (hp:pl.Perm (List.range l.length)) (hs:pl.Pairwise (fun i j=>cfI l i j<0)):Alk l gs:=by
 have hf:gs.flatten=pl:=by rw [h.flat];simp
 refine⟨h.ne,by rw [hf];exact hp,h.same,(List.pairwise_append.1 h.rise).1,fun g hg=>?_⟩
 have h1:g.Pairwise (fun i j=>cfI l i j<0):=by
  rw [←hf] at hs
  exact (List.pairwise_flatten.1 hs).1 g hg
 exact h1.imp_of_mem (fun {i j} hi hj hij=>(cfI_neg hij).2 (h.same g hg i hi j hj))
end Go.Proofs.YtcflooaoocngdaaGreat
