import Derived.Test.YtcflooaoocngdaaGreatEq
import Derived.Deep.Slices
set_option maxRecDepth 100000
set_option maxHeartbeats 16000000
namespace Go.Proofs.YtcflooaoocngdaaGreat
open Go.RowKit
def encP (p:VT×Value):List Value:=[.int .i64 p.1.kind,.int .i64 p.1.num,.string p.1.text,p.2]
def Sound (d:Nat) (w:World) (p:VT×Value):Prop:=Lies d w p.1.items p.2∧p.1.text.size≤9223372036854775807
theorem Sound.keeps {d:Nat} {w w':World} {p:VT×Value} (h:Sound d w p) (hb:Below w.heap.size w w'):Sound d w' p:=⟨Lies.keeps hb _ _ _ h.1,h.2⟩
theorem encP_one {d:Nat} {w:World} {p:VT×Value} (h:Sound d w p):∀v∈encP p,v.oneCell'=true:=by
 obtain⟨a,c,e,_⟩:=Lies.slice h.1
 intro v hv
 simp [encP] at hv
 rcases hv with rfl|rfl|rfl|rfl
 ·rfl
 ·rfl
 ·rfl
 ·rw [e];rfl
theorem flat_len (ps:List (VT×Value)):(ps.flatMap encP).length=ps.length*4:=by
 induction ps with
 | nil=>rfl
 | cons p ps ih=>rw [List.flatMap_cons,List.length_append,ih,List.length_cons];simp [encP];omega
theorem flat_at:∀(ps:List (VT×Value)) (i r:Nat) (h:i<ps.length),r<4→(ps.flatMap encP)[i*4+r]? = (encP ps[i])[r]?:=by
 intro ps
 induction ps with
 | nil=>intro i r h;cases h
 | cons p ps ih=>
  intro i r h hr
  rw [List.flatMap_cons]
  cases i with
  | zero=>
   rw [List.getElem?_append_left (by simp [encP];omega)];simp
  | succ i=>
   rw [List.getElem?_append_right (by simp [encP];omega)]
   have e:(i+1)*4+r-(encP p).length=i*4+r:=by simp [encP];omega
   rw [e,ih i r (by simpa using h) hr];rfl
def RowAt (w:World) (b o:Nat) (ps:List (VT×Value)):Prop:=∀(i:Nat) (h:i<ps.length),
 w.cell? ⟨b,o+i*4,none⟩=some (.int .i64 (ps[i]'h).1.kind)∧w.cell? ⟨b,o+i*4+1,none⟩=some (.int .i64 (ps[i]'h).1.num)∧
 w.cell? ⟨b,o+i*4+2,none⟩=some (.string (ps[i]'h).1.text)∧w.cell? ⟨b,o+i*4+3,none⟩=some (ps[i]'h).2
theorem RowAt.keeps {w w':World} {b o:Nat} {ps:List (VT×Value)} (h:RowAt w b o ps) (hb:Below w.heap.size w w'):RowAt w' b o ps:=fun i hi=>
 ⟨zaa hb (h i hi).1,zaa hb (h i hi).2.1,zaa hb (h i hi).2.2.1,zaa hb (h i hi).2.2.2⟩
theorem RowAt.flat {w:World} {b o:Nat} {ps:List (VT×Value)} (h:RowAt w b o ps):∀j u,(ps.flatMap encP)[j]? = some u→w.cell? ⟨b,o+j,none⟩=some u:=by
 intro j u hj
 have hlt:j<(ps.flatMap encP).length:=by
  by_cases hl:j<(ps.flatMap encP).length
  ·exact hl
  ·rw [List.getElem?_eq_none (by omega)] at hj;cases hj
 rw [flat_len] at hlt
 have hi:j / 4<ps.length:=by omega
 have hr:j % 4<4:=by omega
 have hjj:j=j / 4*4+j % 4:=by omega
 rw [hjj,flat_at ps (j / 4) (j % 4) hi hr] at hj
 obtain⟨k0,k1,k2,k3⟩:=h (j / 4) hi
 generalize hq:j / 4=q at *
 generalize hm:j % 4=m at *
 rw [hjj]
 clear hjj hlt
 match m,hr with
 | 0,_=>simp [encP] at hj;subst hj;rw [Nat.add_zero];exact k0
 | 1,_=>simp [encP] at hj;subst hj;rw [←Nat.add_assoc];exact k1
 | 2,_=>simp [encP] at hj;subst hj;rw [←Nat.add_assoc];exact k2
 | 3,_=>simp [encP] at hj;subst hj;rw [←Nat.add_assoc];exact k3
theorem RowAt.of_flat {w:World} {b o:Nat} {ps:List (VT×Value)} (h:∀j u,(ps.flatMap encP)[j]? = some u→w.cell? ⟨b,o+j,none⟩=some u):RowAt w b o ps:=by
 intro i hi
 refine⟨h (i*4+0) _ ?_,h (i*4+1) _ ?_,h (i*4+2) _ ?_,h (i*4+3) _ ?_⟩
 all_goals (rw [flat_at ps i _ hi (by omega)];rfl)
theorem Lies.row {d:Nat} {w:World} {l:List VT} {v:Value} (h:Lies (d+1) w l v) :
 ∃a c,v=.slice a l.length c∧l.length≤9223372036854775807∧∃ps:List (VT×Value),ps.map (·.1)=l∧(∀p∈ps,Sound d w p)∧(l≠[]→∃b o,a=some ⟨b,o,none⟩∧RowAt w b o ps):=by
 obtain⟨a,c,hv,hb,hr⟩:=h
 refine⟨a,c,hv,hb.2,?_⟩
 by_cases hne:l=[]
 ·subst hne;exact⟨[],rfl,(fun p hp=>by cases hp),fun h=>absurd rfl h⟩
 ·obtain⟨b,o,ha,hall⟩:=hr hne
  have hinh:Inhabited Value:=⟨.bool false⟩
  have hh:∀i,i<l.length→∃u:Value,∀h:i<l.length,w.cell? ⟨b,o+i*4,none⟩=some (.int .i64 (l[i]'h).kind)∧w.cell? ⟨b,o+i*4+1,none⟩=some (.int .i64 (l[i]'h).num)∧
   w.cell? ⟨b,o+i*4+2,none⟩=some (.string (l[i]'h).text)∧w.cell? ⟨b,o+i*4+3,none⟩=some u∧Lies d w (l[i]'h).items u∧(l[i]'h).text.size≤9223372036854775807:=fun i hi=>by
   obtain⟨u,hu⟩:=hall i hi
   exact⟨u,fun _=>hu⟩
  obtain⟨f,hf⟩:=Go.Deep.choose_lt hh
  refine⟨l.zipIdx.map (fun q=>(q.1,f q.2)),?_,?_,fun _=>⟨b,o,ha,?_⟩⟩
  ·rw [List.map_map]
   show l.zipIdx.map (fun q=>q.1)=l
   rw [List.zipIdx_map_fst]
  ·intro p hp
   obtain⟨q,hq,rfl⟩:=List.mem_map.1 hp
   obtain⟨i,hi,hqe⟩:=List.getElem_of_mem hq
   rw [List.getElem_zipIdx] at hqe
   have hi':i<l.length:=by simpa using hi
   subst hqe
   have:=hf i hi' hi'
   simp only [Nat.zero_add]
   exact⟨this.2.2.2.2.1,this.2.2.2.2.2⟩
  ·intro i hi
   have hi':i<l.length:=by simpa using hi
   have:=hf i hi' hi'
   simp only [List.getElem_map,List.getElem_zipIdx,Nat.zero_add]
   exact⟨this.1,this.2.1,this.2.2.1,this.2.2.2.1⟩
theorem lies_of_row {d:Nat} {w:World} {b o c:Nat} {ps:List (VT×Value)} (h:RowAt w b o ps) (hs:∀p∈ps,Sound d w p) (hl:ps.length≤9223372036854775807) (hc:ps.length≤c) :
 Lies (d+1) w (ps.map (·.1)) (.slice (some ⟨b,o,none⟩) ps.length c):=by
 refine⟨some ⟨b,o,none⟩,c,by simp,by simp;omega,fun _=>⟨b,o,rfl,fun i hi=>?_⟩⟩
 have hi':i<ps.length:=by simpa using hi
 obtain⟨k0,k1,k2,k3⟩:=h i hi'
 have hsd:=hs ps[i] (List.getElem_mem hi')
 simp only [List.getElem_map]
 exact⟨_,k0,k1,k2,k3,hsd.1,hsd.2⟩
structure Blank (W:World) (n:Nat):Prop where
 c0:W.cell? ⟨n,0,none⟩=some (.int .i64 0)
 c1:W.cell? ⟨n,1,none⟩=some (.int .i64 0)
 c2:W.cell? ⟨n,2,none⟩=some (.string ⟨#[]⟩)
 c3:W.cell? ⟨n,3,none⟩=some (.slice none 0 0)
 f0:W.frozen? ⟨n,0,none⟩=false
 f1:W.frozen? ⟨n,1,none⟩=false
 f2:W.frozen? ⟨n,2,none⟩=false
 f3:W.frozen? ⟨n,3,none⟩=false
theorem Blank.keeps {W W':World} {n:Nat} (h:Blank W n) (hb:Below W.heap.size W W'):Blank W' n:=by
 have hl:n<W.heap.size:=zae h.c0
 exact⟨zaa hb h.c0,zaa hb h.c1,zaa hb h.c2,zaa hb h.c3,(hb.frozen (p:=⟨n,0,none⟩) hl).trans h.f0,(hb.frozen (p:=⟨n,1,none⟩) hl).trans h.f1,(hb.frozen (p:=⟨n,2,none⟩) hl).trans h.f2,(hb.frozen (p:=⟨n,3,none⟩) hl).trans h.f3⟩
theorem blank_alloc (w:World):Blank (w.alloc (.cells #[.int .i64 0,.int .i64 0,.string ⟨#[]⟩,.slice none 0 0] 27)) w.heap.size:=by
 refine⟨?_,?_,?_,?_,?_,?_,?_,?_⟩ <;> simp
theorem Blank.put {W:World} {n:Nat} (h:Blank W n) (p:VT×Value):Boxed (W.setCells n 0 (encP p)) n p.1.kind p.1.num p.1.text p.2:=by
 have hin:∀j (hj:j<(encP p).length),(W.setCells n 0 (encP p)).cell? ⟨n,0+j,none⟩=some ((encP p)[j]):=
  World.cell?_setCells_in n _ 0 W (fun j hj=>by
   match j,hj with
   | 0,_=>rw [h.c0];rfl
   | 1,_=>rw [h.c1];rfl
   | 2,_=>rw [h.c2];rfl
   | 3,_=>rw [h.c3];rfl)
 have q0:=hin 0 (by simp [encP]);have q1:=hin 1 (by simp [encP]);have q2:=hin 2 (by simp [encP]);have q3:=hin 3 (by simp [encP])
 simp only [Nat.zero_add] at q0 q1 q2 q3
 exact⟨q0,q1,q2,q3⟩
theorem zag {w W:World} {n:Nat} (h:Below w.heap.size w W) (hn:w.heap.size≤n) (p:VT×Value):Below w.heap.size w (W.setCells n 0 (encP p)):=
 (((h.setCell (p:=⟨n,0,none⟩) hn _).setCell (p:=⟨n,0+1,none⟩) hn _).setCell (p:=⟨n,0+1+1,none⟩) hn _).setCell (p:=⟨n,0+1+1+1,none⟩) hn _
structure Bx (W:World) (n:Nat) (t:VT) (u:Value):Prop where
 c0:W.cell? ⟨n,0,none⟩=some (.int .i64 t.kind)
 c1:W.cell? ⟨n,1,none⟩=some (.int .i64 t.num)
 c2:W.cell? ⟨n,2,none⟩=some (.string t.text)
 c3:W.cell? ⟨n,3,none⟩=some u
 f0:W.frozen? ⟨n,0,none⟩=false
 f1:W.frozen? ⟨n,1,none⟩=false
 f2:W.frozen? ⟨n,2,none⟩=false
 f3:W.frozen? ⟨n,3,none⟩=false
theorem Bx.keeps {W W':World} {n:Nat} {t:VT} {u:Value} (h:Bx W n t u) (hb:Below W.heap.size W W'):Bx W' n t u:=by
 have hl:n<W.heap.size:=zae h.c0
 exact⟨zaa hb h.c0,zaa hb h.c1,zaa hb h.c2,zaa hb h.c3,(hb.frozen (p:=⟨n,0,none⟩) hl).trans h.f0,(hb.frozen (p:=⟨n,1,none⟩) hl).trans h.f1,(hb.frozen (p:=⟨n,2,none⟩) hl).trans h.f2,(hb.frozen (p:=⟨n,3,none⟩) hl).trans h.f3⟩
theorem zaj (w:World) (t:VT) (u:Value):Bx (w.alloc (.cells #[.int .i64 t.kind,.int .i64 t.num,.string t.text,u] 27)) w.heap.size t u:=by
 refine⟨?_,?_,?_,?_,?_,?_,?_,?_⟩ <;> simp
theorem Bx.put {W:World} {n:Nat} {t:VT} {u:Value} (h:Bx W n t u) (p:VT×Value):Bx (W.setCells n 0 (encP p)) n p.1 p.2:=by
 have hin:∀j (hj:j<(encP p).length),(W.setCells n 0 (encP p)).cell? ⟨n,0+j,none⟩=some ((encP p)[j]):=
  World.cell?_setCells_in n _ 0 W (fun j hj=>by
   match j,hj with
   | 0,_=>rw [h.c0];rfl
   | 1,_=>rw [h.c1];rfl
   | 2,_=>rw [h.c2];rfl
   | 3,_=>rw [h.c3];rfl)
 have q0:=hin 0 (by simp [encP]);have q1:=hin 1 (by simp [encP]);have q2:=hin 2 (by simp [encP]);have q3:=hin 3 (by simp [encP])
 simp only [Nat.zero_add] at q0 q1 q2 q3
 exact⟨q0,q1,q2,q3,by rw [World.frozen?_setCells];exact h.f0,by rw [World.frozen?_setCells];exact h.f1,by rw [World.frozen?_setCells];exact h.f2,by rw [World.frozen?_setCells];exact h.f3⟩
theorem cell_other {W:World} {g o:Nat} {vs:List Value} {a:Addr} {v:Value} (hg:a.block≠g) (h:W.cell? a=some v):(W.setCells g o vs).cell? a=some v:=by
 rw [World.cell?_setCells_out g vs o W a (fun e _=>absurd e hg)];exact h
abbrev zeroT:VT:=⟨0,0,⟨#[]⟩,[]⟩
theorem lies_nil (d:Nat) (w:World):Lies d w [] (.slice none 0 0):=Lies.atLeast (d:=0) ⟨rfl,none,0,rfl⟩ d (Nat.zero_le _)
def LiesB (base:Nat):Nat→World→List VT→Value→Prop
 | 0,_,l,v=>l=[]∧∃a c,v=.slice a 0 c
 | d+1,w,l,v=>∃a c,v=.slice a l.length c∧(l.length≤c∧l.length≤9223372036854775807)∧
  (l≠[]→∃b o,a=some ⟨b,o,none⟩∧base≤b∧(o=0∧∀k,k<l.length*4→w.frozen? ⟨b,k,none⟩=false)∧∀(i:Nat) (h:i<l.length),∃u,
   w.cell? ⟨b,o+i*4,none⟩=some (.int .i64 (l[i]'h).kind)∧w.cell? ⟨b,o+i*4+1,none⟩=some (.int .i64 (l[i]'h).num)∧
   w.cell? ⟨b,o+i*4+2,none⟩=some (.string (l[i]'h).text)∧w.cell? ⟨b,o+i*4+3,none⟩=some u∧LiesB base d w (l[i]'h).items u∧(l[i]'h).text.size≤9223372036854775807)
theorem LiesB.lies {base:Nat} {w:World}:∀(d:Nat) (l:List VT) (v:Value),LiesB base d w l v→Lies d w l v:=by
 intro d
 induction d with
 | zero=>intro l v h;exact h
 | succ d ih=>
  intro l v hl
  obtain⟨a,c,hv,hb,hr⟩:=hl
  refine⟨a,c,hv,hb,fun hne=>?_⟩
  obtain⟨b,o,ha,_,_,hall⟩:=hr hne
  refine⟨b,o,ha,fun i hi=>?_⟩
  obtain⟨u,h0,h1,h2,h3,h4,h5⟩:=hall i hi
  exact⟨u,h0,h1,h2,h3,ih _ _ h4,h5⟩
theorem LiesB.stays {base:Nat} {w w':World} (h:∀a v,base≤a.block→w.cell? a=some v→w'.cell? a=some v∧w'.frozen? a=w.frozen? a):∀(d:Nat) (l:List VT) (v:Value),LiesB base d w l v→LiesB base d w' l v:=by
 intro d
 induction d with
 | zero=>intro l v hl;exact hl
 | succ d ih=>
  intro l v hl
  obtain⟨a,c,hv,hb,hr⟩:=hl
  refine⟨a,c,hv,hb,fun hne=>?_⟩
  obtain⟨b,o,ha,hbb,⟨ho,hfz⟩,hall⟩:=hr hne
  refine⟨b,o,ha,hbb,⟨ho,fun k hk=>?_⟩,fun i hi=>?_⟩
  ·obtain⟨u,h0,h1,h2,h3,_,_⟩:=hall (k / 4) (by omega)
   have key:∃v,w.cell? ⟨b,k,none⟩=some v:=by
    subst ho
    rcases (by omega:k=k / 4*4∨k=k / 4*4+1∨k=k / 4*4+2∨k=k / 4*4+3) with e|e|e|e
    ·exact⟨_,by rw [e];simpa using h0⟩
    ·exact⟨_,by rw [e];simpa using h1⟩
    ·exact⟨_,by rw [e];simpa using h2⟩
    ·exact⟨_,by rw [e];simpa using h3⟩
   obtain⟨v,hv⟩:=key
   exact (h _ _ hbb hv).2.trans (hfz k hk)
  ·obtain⟨u,h0,h1,h2,h3,h4,h5⟩:=hall i hi
   exact⟨u,(h _ _ hbb h0).1,(h _ _ hbb h1).1,(h _ _ hbb h2).1,(h _ _ hbb h3).1,ih _ _ h4,h5⟩
theorem LiesB.lower {base base':Nat} (hb':base'≤base) {w:World}:∀(d:Nat) (l:List VT) (v:Value),LiesB base d w l v→LiesB base' d w l v:=by
 intro d
 induction d with
 | zero=>intro l v hl;exact hl
 | succ d ih=>
  intro l v hl
  obtain⟨a,c,hv,hb,hr⟩:=hl
  refine⟨a,c,hv,hb,fun hne=>?_⟩
  obtain⟨b,o,ha,hbb,hz,hall⟩:=hr hne
  refine⟨b,o,ha,by omega,hz,fun i hi=>?_⟩
  obtain⟨u,h0,h1,h2,h3,h4,h5⟩:=hall i hi
  exact⟨u,h0,h1,h2,h3,ih _ _ h4,h5⟩
theorem LiesB.slice {base d:Nat} {w:World} {l:List VT} {v:Value} (h:LiesB base d w l v):∃a c,v=.slice a l.length c∧l.length≤9223372036854775807:=Lies.slice (LiesB.lies _ _ _ h)
structure Copied (G n d:Nat) (wr:World) (ps:List (VT×Value)):Prop where
 row:RowAt wr G 0 ps
 deep:∀p∈ps,LiesB (G+1) d wr p.1.items p.2∧p.1.text.size≤9223372036854775807
 there:∀k,k<n*4→(wr.cell? ⟨G,k,none⟩).isSome=true∧wr.frozen? ⟨G,k,none⟩=false
 lt:G<wr.heap.size
theorem Copied.keeps {G n d:Nat} {w w':World} {ps:List (VT×Value)} (h:Copied G n d w ps) (hb:Below w.heap.size w w'):Copied G n d w' ps:=by
 refine⟨h.row.keeps hb,fun p hp=>⟨LiesB.stays (fun a v _ hv=>⟨zaa hb hv,hb.frozen (zae hv)⟩) _ _ _ (h.deep p hp).1,(h.deep p hp).2⟩,fun k hk=>?_,Nat.lt_of_lt_of_le h.lt hb.size⟩
 obtain⟨h1,h2⟩:=h.there k hk
 rw [hb.cell (p:=⟨G,k,none⟩) h.lt,hb.frozen (p:=⟨G,k,none⟩) h.lt]
 exact⟨h1,h2⟩
theorem size_setCells (b:Nat):∀(vs:List Value) (o:Nat) (w:World),(w.setCells b o vs).heap.size=w.heap.size:=by
 intro vs
 induction vs with
 | nil=>intro o w;rfl
 | cons v vs ih=>intro o w;rw [World.setCells,ih];simp [World.setCell]
theorem Copied.put {G n d:Nat} {w:World} {ps:List (VT×Value)} (h:Copied G n d w ps) (p:VT×Value) (hp:LiesB (G+1) d w p.1.items p.2∧p.1.text.size≤9223372036854775807) (hn:ps.length<n) :
 Copied G n d (w.setCells G (ps.length*4) (encP p)) (ps++[p]):=by
 have hother:∀a v,a.block≠G→w.cell? a=some v→(w.setCells G (ps.length*4) (encP p)).cell? a=some v:=fun a v ha hv=>by
  rw [World.cell?_setCells_out G (encP p) _ w a (fun e _=>absurd e ha)];exact hv
 have hin:∀j (hj:j<(encP p).length),(w.setCells G (ps.length*4) (encP p)).cell? ⟨G,ps.length*4+j,none⟩=some ((encP p)[j]):=World.cell?_setCells_in G (encP p) (ps.length*4) w (fun j hj=>(h.there _ (by simp [encP] at hj;omega)).1)
 have hout:∀k,k<ps.length*4→(w.setCells G (ps.length*4) (encP p)).cell? ⟨G,k,none⟩=w.cell? ⟨G,k,none⟩:=fun k hk=>World.cell?_setCells_out G (encP p) _ w ⟨G,k,none⟩ (fun _ _=>.inl hk)
 refine⟨?_,?_,?_,by rw [size_setCells];exact h.lt⟩
 ·intro i hi
  by_cases hl:i<ps.length
  ·obtain⟨k0,k1,k2,k3⟩:=h.row i hl
   rw [List.getElem_append_left hl]
   simp only [Nat.zero_add] at k0 k1 k2 k3 ⊢
   exact⟨(hout _ (by omega)).trans k0,(hout _ (by omega)).trans k1,(hout _ (by omega)).trans k2,(hout _ (by omega)).trans k3⟩
  ·have hie:i=ps.length:=by simp at hi;omega
   subst hie
   rw [List.getElem_append_right (Nat.le_refl _)]
   simp only [Nat.zero_add,Nat.sub_self,List.getElem_cons_zero]
   exact⟨hin 0 (by simp [encP]),hin 1 (by simp [encP]),hin 2 (by simp [encP]),hin 3 (by simp [encP])⟩
 ·intro q hq
  rcases List.mem_append.1 hq with hq|hq
  ·exact⟨LiesB.stays (fun a v ha hv=>⟨hother a v (by omega) hv,World.frozen?_setCells ..⟩) _ _ _ (h.deep q hq).1,(h.deep q hq).2⟩
  ·rw [List.mem_singleton] at hq
   subst hq
   exact⟨LiesB.stays (fun a v ha hv=>⟨hother a v (by omega) hv,World.frozen?_setCells ..⟩) _ _ _ hp.1,hp.2⟩
 ·intro k hk
  obtain⟨h1,h2⟩:=h.there k hk
  refine⟨?_,by rw [World.frozen?_setCells];exact h2⟩
  by_cases hl:ps.length*4≤k∧k<ps.length*4+4
  ·have:=hin (k-ps.length*4) (by simp [encP];omega)
   rw [show ps.length*4+(k-ps.length*4)=k by omega] at this
   rw [this];rfl
  ·rw [World.cell?_setCells_out G (encP p) _ w ⟨G,k,none⟩ (fun _ _=>by simp [encP];omega)]
   exact h1
theorem Copied.done {G n d:Nat} {w:World} {ps:List (VT×Value)} (h:Copied G n d w ps) (hn:ps.length≤9223372036854775807) (c:Nat) (hc:ps.length≤c) (hnn:ps.length≤n):LiesB G (d+1) w (ps.map (·.1)) (.slice (some ⟨G,0,none⟩) ps.length c):=by
 refine⟨some ⟨G,0,none⟩,c,by simp,by simp;omega,fun _=>⟨G,0,rfl,Nat.le_refl _,⟨rfl,fun k hk=>(h.there k (by simp at hk;omega)).2⟩,fun i hi=>?_⟩⟩
 have hi':i<ps.length:=by simpa using hi
 obtain⟨k0,k1,k2,k3⟩:=h.row i hi'
 have hsd:=h.deep ps[i] (List.getElem_mem hi')
 simp only [List.getElem_map]
 exact⟨_,k0,k1,k2,k3,LiesB.lower (by omega) _ _ _ hsd.1,hsd.2⟩
def CopyPost (d:Nat) (t:VT) (W:World) (e:Ending) (W':World):Prop:=
 ∃v,e=.returned (.agg #[.int .i64 t.kind,.int .i64 t.num,.string t.text,v])∧LiesB W.heap.size d W' t.items v∧Below W.heap.size W W'
theorem copyAll_core (d:Nat) (l:List VT) (u:Value) (w:World) (hu:Lies (d+1) w l u) (hlen:l.length≤65536)
 (hf:Hid (∀(x:VT) (v:Value) (W:World),x∈l→Lies d W x.items v→x.text.size≤9223372036854775807→
  Calls Tryz.prog 34 #[.agg #[.int .i64 x.kind,.int .i64 x.num,.string x.text,v]] W (CopyPost d x W))) :
 Calls Tryz.prog 18 #[u] w fun e w'=>∃v,e=.returned v∧LiesB w.heap.size (d+1) w' l v∧Below w.heap.size w w':=by
 obtain⟨a,c,rfl,hb1,hr1⟩:=hu
 have Hr:Hid _:=hr1
 clear hr1
 by_cases h0:l.length=0
 ·have hl:l=[]:=List.eq_nil_of_length_eq_zero h0
  subst hl
  go_enter Tryz.func18,Tryz.ntmps18
  go_wp2_with fail
  go_ret
  exact⟨_,rfl,⟨none,0,rfl,by simp,fun h=>absurd rfl h⟩,Below.refl _ _⟩
 ·obtain⟨b1,o1,rfl,hall⟩:=Hr.out (by intro e;simp [e] at h0)
  have Hall:Hid _:=hall
  clear hall Hr
  have hne:((l.length:Int)==0)=false:=by rw [beq_eq_false_iff_ne];omega
  have hln:0<l.length:=by omega
  clear h0
  obtain⟨i0,hi,hz0,hz1,hz2⟩:=info24
  obtain⟨M,hM⟩:∃M,M=madeCells (Value.agg #[.int .i64 0,.int .i64 0,.string ⟨#[]⟩,.slice none 0 0]).cells (((l.length:Nat):Int).toNat*i0.size):=⟨_,rfl⟩
  have hMs:M.size=l.length*4:=by rw [hM,size_madeCells,hz1];simp
  have hmk:∀W:World,(Instr.makeSlice 22 (.int .i64 (l.length:Int)) (.int .i64 (l.length:Int))).run Tryz.prog W=.ok (.slice (some ⟨W.heap.size,0,none⟩) l.length l.length) (W.alloc (.cells M 27)):=fun W=>by
   have h:=run_make (P:=Tryz.prog) W 22 27 i0 _ Tryz.underlying22 hi hz0 .i64 .i64 (l.length:Int) (l.length:Int) (by omega) (by omega) (by rw [hz2];omega) (by omega)
   rw [←hM] at h
   simpa using h
  have HMs:Hid (M.size=l.length*4):=hMs
  clear hM hi hz0 hz1 hz2 hMs
  go_enter Tryz.func18,Tryz.ntmps18
  go_wp2_with fail
  go_loopg [14] l.length (fun q i wr=>∃(j:Nat) (ps:List (VT×Value)),i=.int .i64 (j:Int)∧j≤l.length∧q=l.length-j∧Hid (ps.length=j∧ps.map (·.1)=l.take j)∧Copied w.heap.size l.length d wr ps∧Below w.heap.size w wr)
  case atStart=>
   refine⟨0,[],rfl,by omega,by omega,⟨rfl,rfl⟩,⟨(fun i hi=>by cases hi),(fun p hp=>by cases hp),(fun k hk=>?_),(by simp)⟩,(Below.refl _ _).alloc (Nat.le_refl _) _⟩
   have hk':k<M.size:=by rw [HMs.out];exact hk
   simp [hk']
  case round=>
   obtain⟨j,ps,rfl,hj,hk,Hps,hcp,hbw⟩:=hrel
   have Hk:Hid _:=hk
   have HC:Hid (Copied w.heap.size l.length d wr ps):=hcp
   clear hk hcp hmk
   by_cases hlt:j<l.length
   ·obtain⟨x,p0,p1,p2,p3,p4,p5⟩:=Hall.out j hlt
    obtain⟨ax,cx,rfl,_⟩:=Lies.slice p4
    have p0:=zaa hbw p0;have p1:=zaa hbw p1;have p2:=zaa hbw p2;have p3:=zaa hbw p3
    have p4:Hid (Lies d w l[j].items (.slice ax l[j].items.length cx)):=p4
    have hl1:b1<wr.heap.size:=zae p0
    have hws2:w.heap.size≤wr.heap.size:=hbw.size
    have hG:=HC.out.lt
    go_wp2_with fail
    have hfc:=hf.out l[j] (.slice ax l[j].items.length cx)
    refine (hfc _ (List.getElem_mem hlt) (Lies.keeps (hbw.alloc hws2 _) _ _ _ p4.out) p5).mono ?_
    rintro e w1 ⟨v,rfl,hLB,hg⟩
    have hb2:Below w.heap.size w w1:=(hbw.alloc hws2 _).trans (hg.mono (by simp;omega))
    have HC1:Hid (Copied w.heap.size l.length d w1 ps):=(HC.out.keeps ((Below.refl _ _).alloc (Nat.le_refl _) _)).keeps hg
    obtain⟨av,cv,rfl,_⟩:=LiesB.slice hLB
    have HLB:Hid (LiesB (w.heap.size+1) d w1 l[j].items (.slice av l[j].items.length cv)):=LiesB.lower (by simp;omega) _ _ _ hLB
    clear hg hfc p0 p1 p2 p3 p4 hf hLB HC
    have hpl:=Hps.out.1
    obtain⟨v0,s0⟩:=Option.isSome_iff_exists.1 (HC1.out.there (j*4) (by omega)).1
    obtain⟨v1,s1⟩:=Option.isSome_iff_exists.1 (HC1.out.there (j*4+1) (by omega)).1
    obtain⟨v2,s2⟩:=Option.isSome_iff_exists.1 (HC1.out.there (j*4+2) (by omega)).1
    obtain⟨v3,s3⟩:=Option.isSome_iff_exists.1 (HC1.out.there (j*4+3) (by omega)).1
    have z0:=(HC1.out.there (j*4) (by omega)).2
    have z1:=(HC1.out.there (j*4+1) (by omega)).2
    have z2:=(HC1.out.there (j*4+2) (by omega)).2
    have z3:=(HC1.out.there (j*4+3) (by omega)).2
    have hput:=HC1.out.put (l[j],.slice av l[j].items.length cv) ⟨HLB.out,p5⟩ (by omega)
    rw [hpl] at hput
    have Hput:Hid _:=hput
    clear hput hpl
    go_wp2_with fail
    go_roundg (l.length-(j+1))
    case measure=>have:=Hk.out;omega
    case rel=>
     refine⟨j+1,ps++[(l[j],Value.slice av l[j].items.length cv)],by go_num,by omega,rfl,?_,Hput.out,?_⟩
     ·refine⟨by simp [Hps.out.1],?_⟩
      rw [List.map_append,Hps.out.2,List.take_succ_eq_append_getElem hlt];rfl
     ·exact (((hb2.setCell (p:=⟨w.heap.size,j*4,none⟩) (Nat.le_refl _) _).setCell (p:=⟨w.heap.size,j*4+1,none⟩) (Nat.le_refl _) _).setCell (p:=⟨w.heap.size,j*4+2,none⟩) (Nat.le_refl _) _).setCell (p:=⟨w.heap.size,j*4+3,none⟩) (Nat.le_refl _) _
   ·have hjl:j=l.length:=by omega
    have hd:=HC.out.done (by have:=Hps.out.1;omega) l.length (by have:=Hps.out.1;omega) (by have:=Hps.out.1;omega)
    rw [Hps.out.2,Hps.out.1,hjl,List.take_length] at hd
    have Hd:Hid (LiesB w.heap.size (d+1) wr l (.slice (some ⟨w.heap.size,0,none⟩) l.length l.length)):=hd
    clear hd hjl HC hf Hall
    go_wp2_with fail
    go_ret
    exact⟨_,rfl,Hd.out,hbw⟩
structure Desk (W:World) (n:Nat) (t:VT) (u:Value):Prop where
 box:Boxed W n t.kind t.num t.text u
 c0:W.cell? ⟨n+1,0,none⟩=some (.int .i64 0)
 c1:W.cell? ⟨n+1,1,none⟩=some (.int .i64 0)
 c2:W.cell? ⟨n+1,2,none⟩=some (.string ⟨#[]⟩)
 c3:W.cell? ⟨n+1,3,none⟩=some (.slice none 0 0)
 f0:W.frozen? ⟨n+1,0,none⟩=false
 f1:W.frozen? ⟨n+1,1,none⟩=false
 f2:W.frozen? ⟨n+1,2,none⟩=false
 f3:W.frozen? ⟨n+1,3,none⟩=false
theorem Desk.keeps {W W':World} {n:Nat} {t:VT} {u:Value} (h:Desk W n t u) (hb:Below W.heap.size W W'):Desk W' n t u:=by
 have hl:n+1<W.heap.size:=zae h.c0
 exact⟨h.box.keeps hb,zaa hb h.c0,zaa hb h.c1,zaa hb h.c2,zaa hb h.c3,(hb.frozen (p:=⟨n+1,0,none⟩) hl).trans h.f0,(hb.frozen (p:=⟨n+1,1,none⟩) hl).trans h.f1,(hb.frozen (p:=⟨n+1,2,none⟩) hl).trans h.f2,(hb.frozen (p:=⟨n+1,3,none⟩) hl).trans h.f3⟩
theorem desk_start (w:World) (t:VT) (u:Value):Desk (((w.alloc (.cells #[.int .i64 t.kind,.int .i64 t.num,.string t.text,u] 27)).alloc (.cells #[.int .i64 0,.int .i64 0,.string ⟨#[]⟩,.slice none 0 0] 27)).drew) w.heap.size t u:=by
 refine⟨⟨?_,?_,?_,?_⟩,?_,?_,?_,?_,?_,?_,?_,?_⟩ <;> simp
theorem copyOf_core (d:Nat) (t:VT) (a:Option Addr) (l c:Nat) (w:World) (hu:Lies d w t.items (.slice a l c))
 (hcl:Hid (∀W:World,Calls Tryz.prog 60 #[.string t.text] W fun e W'=>e=.returned (.string t.text)∧Below W.heap.size W W'))
 (hal:Hid (∀W:World,Lies d W t.items (.slice a l c)→Calls Tryz.prog 18 #[.slice a l c] W fun e W'=>∃v,e=.returned v∧LiesB W.heap.size d W' t.items v∧Below W.heap.size W W')) :
 Calls Tryz.prog 34 #[.agg #[.int .i64 t.kind,.int .i64 t.num,.string t.text,.slice a l c]] w (CopyPost d t w):=by
 have HL:Hid (Lies d w t.items (.slice a l c)):=hu
 clear hu
 have HD:=desk_start w t (.slice a l c)
 have HD0:Hid (Desk _ _ _ _):=HD
 have HB:Hid (Below w.heap.size w (((w.alloc (.cells #[.int .i64 t.kind,.int .i64 t.num,.string t.text,.slice a l c] 27)).alloc (.cells #[.int .i64 0,.int .i64 0,.string ⟨#[]⟩,.slice none 0 0] 27)).drew)):=(Grew.two w _ _).drew.below
 clear HD
 go_enter Tryz.func34,Tryz.ntmps34
 go_wp2_with fail
 go_region_held3 (fun w'=>w'.cell? ⟨w.heap.size,0,none⟩=some (.int .i64 t.kind)∧w'.cell? ⟨w.heap.size,1,none⟩=some (.int .i64 t.num)∧w'.cell? ⟨w.heap.size,2,none⟩=some (.string t.text)∧w'.cell? ⟨w.heap.size,3,none⟩=some (.slice a l c)) (go_keep)
  (first|(go_at_call 60;refine (hcl.out _).mono ?_;rintro e w1 ⟨rfl,hb1⟩;have HD1:Hid (Desk w1 w.heap.size t (.slice a l c)):=HD0.out.keeps hb1;have hbw1:Below w.heap.size w w1:=HB.out.trans (hb1.mono (by simp;omega));clear hb1 HD0 HB;obtain⟨⟨x0,x1,x2,x3⟩,y0,y1,y2,y3,z0,z1,z2,z3⟩:=HD1.out)|(go_at_call 18;refine (hal.out _ (Lies.keeps hbw1 _ _ _ HL.out)).mono ?_;rintro e w2 ⟨v,rfl,hLB,hb2⟩;have HD2:Hid (Desk w2 w.heap.size t (.slice a l c)):=HD1.out.keeps hb2;have hbw2:Below w.heap.size w w2:=hbw1.trans (hb2.mono hbw1.size);have hsz1:w.heap.size+1<w1.heap.size:=zae y0;clear hb2 HD1 x0 x1 x2 x3 y0 y1 y2 y3 z0 z1 z2 z3;obtain⟨⟨x0,x1,x2,x3⟩,y0,y1,y2,y3,z0,z1,z2,z3⟩:=HD2.out;have HLB:Hid (LiesB (w.heap.size+2) d w2 t.items v):=LiesB.lower (by omega) _ _ _ hLB;clear hLB HD2;obtain⟨av,cv,rfl,_⟩:=LiesB.slice HLB.out))
 have hin:∀j (hj:j<(encP (t,.slice av t.items.length cv)).length),(w2.setCells (w.heap.size+1) 0 (encP (t,.slice av t.items.length cv))).cell? ⟨w.heap.size+1,0+j,none⟩=some ((encP (t,.slice av t.items.length cv))[j]):=
  World.cell?_setCells_in (w.heap.size+1) _ 0 w2 (fun j hj=>by
   match j,hj with
   | 0,_=>rw [y0];rfl
   | 1,_=>rw [y1];rfl
   | 2,_=>rw [y2];rfl
   | 3,_=>rw [y3];rfl)
 have hfin:LiesB w.heap.size d (w2.setCells (w.heap.size+1) 0 (encP (t,.slice av t.items.length cv))) t.items (.slice av t.items.length cv):=
  LiesB.lower (by omega) _ _ _ (LiesB.stays (fun x v hx hv=>⟨by rw [World.cell?_setCells_out (w.heap.size+1) _ 0 w2 x (fun e _=>by omega)];exact hv,World.frozen?_setCells ..⟩) _ _ _ HLB.out)
 have hbf:Below w.heap.size w (w2.setCells (w.heap.size+1) 0 (encP (t,.slice av t.items.length cv))):=
  (((hbw2.setCell (p:=⟨w.heap.size+1,0,none⟩) (by simp) _).setCell (p:=⟨w.heap.size+1,0+1,none⟩) (by simp) _).setCell (p:=⟨w.heap.size+1,0+1+1,none⟩) (by simp) _).setCell (p:=⟨w.heap.size+1,0+1+1+1,none⟩) (by simp) _
 have Hin:Hid _:=hin
 have Hfin:Hid (LiesB w.heap.size d (w2.setCells (w.heap.size+1) 0 (encP (t,.slice av t.items.length cv))) t.items (.slice av t.items.length cv)):=hfin
 have Hbf:Hid (Below w.heap.size w (w2.setCells (w.heap.size+1) 0 (encP (t,.slice av t.items.length cv)))):=hbf
 clear hin hfin hbf
 go_wp2_with fail
 refine bodyPost_ret (v:=.agg #[.int .i64 t.kind,.int .i64 t.num,.string t.text,.slice av t.items.length cv]) ?_ rfl ⟨_,rfl,Hfin.out,Hbf.out⟩
 have q0:=Hin.out 0 (by simp [encP])
 have q1:=Hin.out 1 (by simp [encP])
 have q2:=Hin.out 2 (by simp [encP])
 have q3:=Hin.out 3 (by simp [encP])
 simp only [encP,World.setCells,Nat.zero_add,Nat.reduceAdd,List.getElem_cons_zero,List.getElem_cons_succ] at q0 q1 q2 q3
 simp [results,Tryz.results34,go_sem,q0,q1,q2,q3]
def Txt (T:ByteArray→Prop):Nat→VT→Prop
 | 0,t=>T t.text
 | d+1,t=>T t.text∧∀x∈t.items,Txt T d x
def Len:Nat→VT→Prop
 | 0,_=>True
 | d+1,t=>t.items.length≤65536∧∀x∈t.items,Len d x
theorem copyOf_any (T:ByteArray→Prop) (hT:∀(s:ByteArray) (W:World),T s→Calls Tryz.prog 60 #[.string s] W fun e W'=>e=.returned (.string s)∧Below W.heap.size W W') :
 ∀(d:Nat) (t:VT) (u:Value) (w:World),Lies d w t.items u→Txt T d t→Len d t→Calls Tryz.prog 34 #[.agg #[.int .i64 t.kind,.int .i64 t.num,.string t.text,u]] w (CopyPost d t w):=by
 intro d
 induction d with
 | zero=>
  intro t u w hu ht _
  have e1:t.items=[]:=hu.1
  obtain⟨a,c,rfl,_⟩:=Lies.slice hu
  refine copyOf_core 0 t _ _ _ w hu (fun W=>hT t.text W ht) (fun W hW=>?_)
  have h:=copyAll_core 0 t.items _ W (Lies.deeper _ _ _ hW) (by rw [e1];simp) (fun x _ _ hx=>by rw [e1] at hx;cases hx)
  refine h.mono fun e W' hh=>?_
  obtain⟨v,he,hL,hb⟩:=hh
  obtain⟨a',c',hv,_⟩:=LiesB.slice hL
  exact⟨v,he,⟨e1,a',c',by rw [hv,e1];rfl⟩,hb⟩
 | succ d ih=>
  intro t u w hu ht hl
  obtain⟨a,c,rfl,_⟩:=Lies.slice hu
  refine copyOf_core (d+1) t _ _ _ w hu (fun W=>hT t.text W ht.1) (fun W hW=>?_)
  exact copyAll_core d t.items _ W hW hl.1 (fun x v W' hx hLx _=>ih x v W' hLx (ht.2 x hx) (hl.2 x hx))
theorem own_row {w:World} {base:Nat} {v:Value} {ps:List (VT×Value)} (h:w.ownsRow base 27 4 v ps.length (ps.flatMap encP)) (hne:ps≠[]) :
 ∃g cap,v=.slice (some ⟨g,0,none⟩) ps.length cap∧base≤g∧ps.length≤cap∧g<w.heap.size∧RowAt w g 0 ps∧∀k,w.frozen? ⟨g,k,none⟩=false:=by
 rcases h.2 with ⟨_,h0⟩|⟨g,cap,cur,hv,hbs,hg,hcap,_,hsz,htk⟩
 ·exact absurd (List.eq_nil_of_length_eq_zero h0) hne
 ·have hlt:g<w.heap.size:=by
   by_cases hl:g<w.heap.size
   ·exact hl
   ·rw [Array.getElem?_eq_none (by omega)] at hg;cases hg
  refine⟨g,cap,hv,hbs,hcap,hlt,RowAt.of_flat fun j u hj=>?_,fun k=>?_⟩
  ·rw [←htk] at hj
   unfold World.cell?
   rw [hg]
   simp only [Nat.zero_add]
   rw [List.getElem?_take] at hj
   split at hj
   ·simpa using hj
   ·cases hj
  ·unfold World.frozen?
   rw [hg]
   simp
abbrev PR:Type:=VT×Value
theorem below_setCellsB (b B:Nat) (hB:B≤b):∀(vs:List Value) (o:Nat) (w0 w:World),Below B w0 w→Below B w0 (w.setCells b o vs):=by
 intro vs
 induction vs with
 | nil=>intro o w0 w h;exact h
 | cons v vs ih=>intro o w0 w h;exact ih (o+1) w0 _ (h.setCell (p:=⟨b,o,none⟩) hB v)
abbrev PP:=PR×PR
def encQ (p:PP):List Value:=encP p.1++encP p.2
theorem zas (p:PP):(encQ p).length=8:=rfl
structure RowQ (w0:World) (g:Nat) (ps:List PP) (w:World):Prop where
 row:∀(i:Nat) (h:i<ps.length) (q:Nat) (hq:q<8),w.cell? ⟨g,i*8+q,none⟩=some ((encQ (ps[i]'h))[q]'(by rw [zas];exact hq))
 fz:∀k,k<ps.length*8→w.frozen? ⟨g,k,none⟩=false
 lt:g<w.heap.size
 below:Below w0.heap.size w0 w
theorem RowQ.keeps {w0 w w':World} {g:Nat} {ps:List PP} (h:RowQ w0 g ps w) (hb:Below w.heap.size w w'):RowQ w0 g ps w':=
 ⟨fun i hi q hq=>zaa hb (h.row i hi q hq),fun k hk=>(hb.frozen (p:=⟨g,k,none⟩) h.lt).trans (h.fz k hk),Nat.lt_of_lt_of_le h.lt hb.size,h.below.trans (hb.mono h.below.size)⟩
theorem RowQ.at {w0 w:World} {g:Nat} {ps:List PP} (h:RowQ w0 g ps w) (i:Nat) (hi:i<ps.length) :
 w.cell? ⟨g,i*8,none⟩=some (.int .i64 ps[i].1.1.kind)∧w.cell? ⟨g,i*8+1,none⟩=some (.int .i64 ps[i].1.1.num)∧w.cell? ⟨g,i*8+2,none⟩=some (.string ps[i].1.1.text)∧w.cell? ⟨g,i*8+3,none⟩=some ps[i].1.2∧
 w.cell? ⟨g,i*8+4,none⟩=some (.int .i64 ps[i].2.1.kind)∧w.cell? ⟨g,i*8+5,none⟩=some (.int .i64 ps[i].2.1.num)∧w.cell? ⟨g,i*8+6,none⟩=some (.string ps[i].2.1.text)∧w.cell? ⟨g,i*8+7,none⟩=some ps[i].2.2:=
 ⟨h.row i hi 0 (by omega),h.row i hi 1 (by omega),h.row i hi 2 (by omega),h.row i hi 3 (by omega),h.row i hi 4 (by omega),h.row i hi 5 (by omega),h.row i hi 6 (by omega),h.row i hi 7 (by omega)⟩
theorem RowQ.fzs {w0 w:World} {g:Nat} {ps:List PP} (h:RowQ w0 g ps w) (i:Nat) (hi:i<ps.length) :
 w.frozen? ⟨g,i*8,none⟩=false∧w.frozen? ⟨g,i*8+1,none⟩=false∧w.frozen? ⟨g,i*8+2,none⟩=false∧w.frozen? ⟨g,i*8+3,none⟩=false∧
 w.frozen? ⟨g,i*8+4,none⟩=false∧w.frozen? ⟨g,i*8+5,none⟩=false∧w.frozen? ⟨g,i*8+6,none⟩=false∧w.frozen? ⟨g,i*8+7,none⟩=false:=
 ⟨h.fz _ (by omega),h.fz _ (by omega),h.fz _ (by omega),h.fz _ (by omega),h.fz _ (by omega),h.fz _ (by omega),h.fz _ (by omega),h.fz _ (by omega)⟩
theorem RowQ.put {w0 w:World} {g:Nat} {ps:List PP} (h:RowQ w0 g ps w) (hg:w0.heap.size≤g) (k:Nat) (hk:k<ps.length) (p:PP):RowQ w0 g (ps.set k p) (w.setCells g (k*8) (encQ p)):=by
 have hin:=World.cell?_setCells_in g (encQ p) (k*8) w (fun q hq=>by rw [h.row k hk q (by rw [zas] at hq;exact hq)];rfl)
 refine⟨fun i hi q hq=>?_,fun j hj=>?_,?_,below_setCellsB g w0.heap.size hg _ _ _ _ h.below⟩
 ·rw [List.length_set] at hi
  by_cases e:i=k
  ·subst e
   rw [hin q (by rw [zas];exact hq)]
   simp
  ·rw [World.cell?_setCells_out g (encQ p) (k*8) w ⟨g,i*8+q,none⟩ (fun _ _=>by rw [zas];show i*8+q<k*8∨k*8+8≤i*8+q;omega),h.row i hi q hq]
   simp [Ne.symm e]
 ·rw [World.frozen?_setCells]
  rw [List.length_set] at hj
  exact h.fz j hj
 ·have:∀(vs:List Value) (o:Nat) (W:World),(W.setCells g o vs).heap.size=W.heap.size:=by
   intro vs
   induction vs with
   | nil=>intro o W;rfl
   | cons v vs ih=>intro o W;rw [World.setCells,ih];simp [World.setCell]
  rw [this];exact h.lt
def swapL (ps:List PP) (i j:Nat) (hi:i<ps.length) (hj:j<ps.length):List PP:=(ps.set i ps[j]).set j ps[i]
theorem RowQ.swap {w0 w:World} {g:Nat} {ps:List PP} (h:RowQ w0 g ps w) (hg:w0.heap.size≤g) (i j:Nat) (hi:i<ps.length) (hj:j<ps.length) :
 RowQ w0 g (swapL ps i j hi hj) ((w.setCells g (i*8) (encQ ps[j])).setCells g (j*8) (encQ ps[i])):=
 (h.put hg i hi ps[j]).put hg j (by rw [List.length_set];exact hj) ps[i]
def swp2 (ps:List PP) (i j:Nat):List PP:=if h:i<ps.length∧j<ps.length then swapL ps i j h.1 h.2 else ps
def swpN (ps:List PP) (a b:Nat):Nat→List PP
 | 0=>ps
 | i+1=>swp2 (swpN ps a b i) (a+i) (b+i)
theorem swp2_len (ps:List PP) (i j:Nat):(swp2 ps i j).length=ps.length:=by
 unfold swp2 swapL
 split
 ·simp
 ·rfl
theorem swpN_len (ps:List PP) (a b:Nat):∀n,(swpN ps a b n).length=ps.length:=by
 intro n
 induction n with
 | zero=>rfl
 | succ n ih=>show (swp2 _ _ _).length=_;rw [swp2_len,ih]
def Slq (ps:List PP):Prop:=∀p∈ps,(∃a n c,p.1.2=.slice a n c)∧∃a n c,p.2.2=.slice a n c
theorem swapRange_any (w0:World) (g cap a b n:Nat) (fv:Value) (ps:List PP) (w:World) (hg:w0.heap.size≤g) (hR:RowQ w0 g ps w) (hS:∀i,Slq (swpN ps a b i)) (hab:a+n≤b) (hb:b+n≤ps.length) (hlen:ps.length≤65536) :
 Calls Tryz.prog 127 #[.slice (some ⟨g,0,none⟩) ps.length cap,.int .i64 a,.int .i64 b,.int .i64 n,fv] w fun e w'=>e=.returned (.tuple #[])∧RowQ w0 g (swpN ps a b n) w':=by
 have HR0:Hid (RowQ w0 g (swpN ps a b 0) w):=hR
 have HS:Hid (∀i,Slq (swpN ps a b i)):=hS
 have HLn:Hid (∀i,(swpN ps a b i).length=ps.length):=swpN_len ps a b
 have HSt:Hid (∀i,swpN ps a b (i+1)=swp2 (swpN ps a b i) (a+i) (b+i)):=fun _=>rfl
 clear hR hS
 generalize swpN ps a b=Q at *
 generalize ps.length=L at *
 go_enter Tryz.func127,Tryz.ntmps127
 go_wp2_with fail
 go_loopg [10] n (fun z i wr=>∃(j:Nat),i=.int .i64 (j:Int)∧j≤n∧z=n-j∧Hid (RowQ w0 g (Q j) wr))
 case atStart=>exact⟨0,rfl,by omega,by omega,HR0⟩
 case round=>
  obtain⟨j,rfl,hj,hk,HM⟩:=hrel
  have Hk:Hid _:=hk
  clear hk HR0
  by_cases hlt:j<n
  ·obtain⟨x,hx⟩:∃x,x=a+j:=⟨_,rfl⟩
   obtain⟨y,hy⟩:∃y,y=b+j:=⟨_,rfl⟩
   have hxl:x<(Q j).length:=by rw [HLn.out];omega
   have hyl:y<(Q j).length:=by rw [HLn.out];omega
   have hne : ¬x=y:=by omega
   have HN:Hid (RowQ w0 g (Q (j+1)) ((wr.setCells g (x*8) (encQ (Q j)[y])).setCells g (y*8) (encQ (Q j)[x])).drew):=by
    have:=(HM.out.swap hg x y hxl hyl).keeps (Grew.refl _).drew.below
    rw [HSt.out,←hx,←hy]
    unfold swp2
    rw [dif_pos ⟨hxl,hyl⟩]
    exact this
   obtain⟨p0,p1,p2,p3,p4,p5,p6,p7⟩:=HM.out.at x hxl
   obtain⟨r0,r1,r2,r3,r4,r5,r6,r7⟩:=HM.out.at y hyl
   obtain⟨f0,f1,f2,f3,f4,f5,f6,f7⟩:=HM.out.fzs x hxl
   obtain⟨z0,z1,z2,z3,z4,z5,z6,z7⟩:=HM.out.fzs y hyl
   obtain⟨⟨pa,pn,pc,e1⟩,⟨pb,pm,pd,e2⟩⟩:=HS.out j _ (List.getElem_mem hxl)
   obtain⟨⟨ra,rn,rc,e3⟩,⟨rb,rm,rd,e4⟩⟩:=HS.out j _ (List.getElem_mem hyl)
   rw [e1] at p3;rw [e2] at p7;rw [e3] at r3;rw [e4] at r7
   simp only [encQ,encP,e1,e2,e3,e4] at HN
   generalize (Q j)[x]=p at *
   generalize (Q j)[y]=r at *
   clear e1 e2 e3 e4
   have hwx:IntKind.i64.wrap ((a:Int)+(j:Int))=(x:Int):=by rw [IntKind.wrap_i64];omega
   have hwy:IntKind.i64.wrap ((b:Int)+(j:Int))=(y:Int):=by rw [IntKind.wrap_i64];omega
   have hxi:(x:Int)<(L:Nat):=by rw [HLn.out] at hxl;omega
   have hyi:(y:Int)<(L:Nat):=by rw [HLn.out] at hyl;omega
   have hji:(j:Int)<(n:Nat):=by omega
   clear hx hy hxl hyl
   have n00 : ¬(y*8=x*8):=by omega
   have n01 : ¬(y*8=x*8+1):=by omega
   have n02 : ¬(y*8=x*8+2):=by omega
   have n03 : ¬(y*8=x*8+3):=by omega
   have n04 : ¬(y*8=x*8+4):=by omega
   have n05 : ¬(y*8=x*8+5):=by omega
   have n06 : ¬(y*8=x*8+6):=by omega
   have n07 : ¬(y*8=x*8+7):=by omega
   have n10 : ¬(y*8+1=x*8):=by omega
   have n11 : ¬(y*8+1=x*8+1):=by omega
   have n12 : ¬(y*8+1=x*8+2):=by omega
   have n13 : ¬(y*8+1=x*8+3):=by omega
   have n14 : ¬(y*8+1=x*8+4):=by omega
   have n15 : ¬(y*8+1=x*8+5):=by omega
   have n16 : ¬(y*8+1=x*8+6):=by omega
   have n17 : ¬(y*8+1=x*8+7):=by omega
   have n20 : ¬(y*8+2=x*8):=by omega
   have n21 : ¬(y*8+2=x*8+1):=by omega
   have n22 : ¬(y*8+2=x*8+2):=by omega
   have n23 : ¬(y*8+2=x*8+3):=by omega
   have n24 : ¬(y*8+2=x*8+4):=by omega
   have n25 : ¬(y*8+2=x*8+5):=by omega
   have n26 : ¬(y*8+2=x*8+6):=by omega
   have n27 : ¬(y*8+2=x*8+7):=by omega
   have n30 : ¬(y*8+3=x*8):=by omega
   have n31 : ¬(y*8+3=x*8+1):=by omega
   have n32 : ¬(y*8+3=x*8+2):=by omega
   have n33 : ¬(y*8+3=x*8+3):=by omega
   have n34 : ¬(y*8+3=x*8+4):=by omega
   have n35 : ¬(y*8+3=x*8+5):=by omega
   have n36 : ¬(y*8+3=x*8+6):=by omega
   have n37 : ¬(y*8+3=x*8+7):=by omega
   have n40 : ¬(y*8+4=x*8):=by omega
   have n41 : ¬(y*8+4=x*8+1):=by omega
   have n42 : ¬(y*8+4=x*8+2):=by omega
   have n43 : ¬(y*8+4=x*8+3):=by omega
   have n44 : ¬(y*8+4=x*8+4):=by omega
   have n45 : ¬(y*8+4=x*8+5):=by omega
   have n46 : ¬(y*8+4=x*8+6):=by omega
   have n47 : ¬(y*8+4=x*8+7):=by omega
   have n50 : ¬(y*8+5=x*8):=by omega
   have n51 : ¬(y*8+5=x*8+1):=by omega
   have n52 : ¬(y*8+5=x*8+2):=by omega
   have n53 : ¬(y*8+5=x*8+3):=by omega
   have n54 : ¬(y*8+5=x*8+4):=by omega
   have n55 : ¬(y*8+5=x*8+5):=by omega
   have n56 : ¬(y*8+5=x*8+6):=by omega
   have n57 : ¬(y*8+5=x*8+7):=by omega
   have n60 : ¬(y*8+6=x*8):=by omega
   have n61 : ¬(y*8+6=x*8+1):=by omega
   have n62 : ¬(y*8+6=x*8+2):=by omega
   have n63 : ¬(y*8+6=x*8+3):=by omega
   have n64 : ¬(y*8+6=x*8+4):=by omega
   have n65 : ¬(y*8+6=x*8+5):=by omega
   have n66 : ¬(y*8+6=x*8+6):=by omega
   have n67 : ¬(y*8+6=x*8+7):=by omega
   have n70 : ¬(y*8+7=x*8):=by omega
   have n71 : ¬(y*8+7=x*8+1):=by omega
   have n72 : ¬(y*8+7=x*8+2):=by omega
   have n73 : ¬(y*8+7=x*8+3):=by omega
   have n74 : ¬(y*8+7=x*8+4):=by omega
   have n75 : ¬(y*8+7=x*8+5):=by omega
   have n76 : ¬(y*8+7=x*8+6):=by omega
   have n77 : ¬(y*8+7=x*8+7):=by omega
   go_wp2_with fail
   go_region
   clear p0 p1 p2 p3 p4 p5 p6 p7 r0 r1 r2 r3 r4 r5 r6 r7 f0 f1 f2 f3 f4 f5 f6 f7 z0 z1 z2 z3 z4 z5 z6 z7 n00 n01 n02 n03 n04 n05 n06 n07 n10 n11 n12 n13 n14 n15 n16 n17 n20 n21 n22 n23 n24 n25 n26 n27 n30 n31 n32 n33 n34 n35 n36 n37 n40 n41 n42 n43 n44 n45 n46 n47 n50 n51 n52 n53 n54 n55 n56 n57 n60 n61 n62 n63 n64 n65 n66 n67 n70 n71 n72 n73 n74 n75 n76 n77
   simp only [World.setCells,List.cons_append,List.nil_append] at HN
   go_wp2_with fail
   go_roundg (n-(j+1))
   case measure=>have:=Hk.out;omega
   case rel=>exact⟨j+1,by go_num,by omega,rfl,HN⟩
  ·have hjn:j=n:=by omega
   subst hjn
   go_wp2_with fail
   exact bodyPost_end (v:=.tuple #[]) (by simp [results,Tryz.results127,go_sem]) rfl ⟨rfl,HM.out⟩
theorem swp2_app (A B C:List PP) (x y:PP):swp2 (A++(x::(B++(y::C)))) A.length (A.length+1+B.length)=A++(y::(B++(x::C))):=by
 unfold swp2
 have h1:A.length<(A++(x::(B++(y::C)))).length:=by simp
 have h2:A.length+1+B.length<(A++(x::(B++(y::C)))).length:=by simp;omega
 rw [dif_pos ⟨h1,h2⟩]
 unfold swapL
 have e1:(A++(x::(B++(y::C))))[A.length]=x:=by simp
 have e2:(A++(x::(B++(y::C))))[A.length+1+B.length]=y:=by
  rw [List.getElem_append_right (by omega)]
  have:A.length+1+B.length-A.length=B.length+1:=by omega
  simp only [this,List.getElem_cons_succ]
  simp
 rw [e1,e2]
 have s1:(A++(x::(B++(y::C)))).set A.length y=A++(y::(B++(y::C))):=by
  rw [List.set_append_right _ _ (by omega)]
  simp
 rw [s1,List.set_append_right _ _ (by omega)]
 have:A.length+1+B.length-A.length=B.length+1:=by omega
 rw [this,List.set_cons_succ,List.set_append_right _ _ (by omega)]
 simp
theorem swpN_app:∀(n:Nat) (A U B V C:List PP),U.length=n→V.length=n→swpN (A++(U++(B++(V++C)))) A.length (A.length+n+B.length) n=A++(V++(B++(U++C))):=by
 intro n
 induction n with
 | zero=>
  intro A U B V C hu hv
  have e1:U=[]:=List.eq_nil_of_length_eq_zero hu
  have e2:V=[]:=List.eq_nil_of_length_eq_zero hv
  subst e1 e2
  rfl
 | succ n ih=>
  intro A U B V C hu hv
  obtain⟨U',u,rfl⟩:∃U' u,U=U'++[u]:=by
   rcases List.eq_nil_or_concat U with h|⟨l,b,h⟩
   ·subst h;simp at hu
   ·exact⟨l,b,by rw [h,List.concat_eq_append]⟩
  obtain⟨V',v,rfl⟩:∃V' v,V=V'++[v]:=by
   rcases List.eq_nil_or_concat V with h|⟨l,b,h⟩
   ·subst h;simp at hv
   ·exact⟨l,b,by rw [h,List.concat_eq_append]⟩
  have hu':U'.length=n:=by simp at hu;omega
  have hv':V'.length=n:=by simp at hv;omega
  have hin:A++((U'++[u])++(B++((V'++[v])++C)))=A++(U'++((u::B)++(V'++(v::C)))):=by simp
  show swp2 (swpN _ _ _ n) (A.length+n) (A.length+(n+1)+B.length+n)=_
  have hb:A.length+(n+1)+B.length=A.length+n+(u::B).length:=by simp;omega
  rw [hin,hb,ih A U' (u::B) V' (v::C) hu' hv']
  have e3:A++(V'++((u::B)++(U'++(v::C))))=(A++V')++(u::((B++U')++(v::C))):=by simp
  have e4:A.length+n=(A++V').length:=by simp [hv']
  have e5:A.length+n+(u::B).length+n=(A++V').length+1+(B++U').length:=by simp [hv',hu'];omega
  rw [e3,e5,e4,swp2_app]
  simp
theorem swp2_mem {ps:List PP} {i j:Nat} {x:PP} (h:x∈swp2 ps i j):x∈ps:=by
 unfold swp2 at h
 split at h
 ·unfold swapL at h
  rcases List.mem_or_eq_of_mem_set h with h|h
  ·rcases List.mem_or_eq_of_mem_set h with h|h
   ·exact h
   ·rw [h];exact List.getElem_mem _
  ·rw [h];exact List.getElem_mem _
 ·exact h
theorem swpN_mem {ps:List PP} {a b:Nat} {x:PP}:∀n,x∈swpN ps a b n→x∈ps:=by
 intro n
 induction n with
 | zero=>intro h;exact h
 | succ n ih=>intro h;exact ih (swp2_mem h)
theorem swapRange_parts (w0:World) (g cap:Nat) (fv:Value) (A U B V C:List PP) (n a b L:Nat) (w:World) (hg:w0.heap.size≤g) (hU:U.length=n) (hV:V.length=n) (ha:a=A.length) (hb:b=A.length+n+B.length) (hL:L=(A++(U++(B++(V++C)))).length) (hR:RowQ w0 g (A++(U++(B++(V++C)))) w) (hS:Slq (A++(U++(B++(V++C))))) (hlen:L≤65536) :
 Calls Tryz.prog 127 #[.slice (some ⟨g,0,none⟩) L cap,.int .i64 a,.int .i64 b,.int .i64 n,fv] w fun e w'=>e=.returned (.tuple #[])∧RowQ w0 g (A++(V++(B++(U++C)))) w':=by
 subst ha hb hL
 have h:=swapRange_any w0 g cap A.length (A.length+n+B.length) n fv (A++(U++(B++(V++C)))) w hg hR (fun i p hp=>hS p (swpN_mem i hp)) (by omega) (by simp;omega) hlen
 rw [swpN_app n A U B V C hU hV] at h
 exact h
structure Rot (w0:World) (g L m:Nat) (T:List PP) (wr:World) (i j:Nat) (A X Y C:List PP):Prop where
 ei:X.length=i
 ej:Y.length=j
 pi:0<i
 pj:0<j
 em:A.length+i=m
 el:(A++(X++(Y++C))).length=L
 row:RowQ w0 g (A++(X++(Y++C))) wr
 tgt:A++(Y++(X++C))=T
 sl:Slq (A++(X++(Y++C)))
theorem Slq.perm {l m:List PP} (h:Slq l) (hm:∀x∈m,x∈l):Slq m:=fun p hp=>h p (hm p hp)
theorem Rot.more {w0:World} {g L m:Nat} {T:List PP} {wr:World} {i j:Nat} {A X1 X2 Y C:List PP} (h:Rot w0 g L m T wr i j A (X1++X2) Y C) (hj:j<i) (h1:X1.length=j) {W:World} (hR:RowQ w0 g (A++(Y++(X2++(X1++C)))) W):Rot w0 g L m T W (i-j) j (A++Y) X2 X1 C:=by
 have hei:=h.ei
 have hej:=h.ej
 have hem:=h.em
 have hel:=h.el
 simp at hei hel
 refine⟨by omega,h1,by omega,h.pj,by simp;omega,by simp;omega,by simpa using hR,by rw [←h.tgt];simp,h.sl.perm (fun x hx=>?_)⟩
 simp at hx ⊢
 rcases hx with hx|hx|hx|hx|hx <;> simp [hx]
theorem Rot.less {w0:World} {g L m:Nat} {T:List PP} {wr:World} {i j:Nat} {A X Y1 Y2 C:List PP} (h:Rot w0 g L m T wr i j A X (Y1++Y2) C) (hj:i<j) (h2:Y2.length=i) {W:World} (hR:RowQ w0 g (A++(Y2++(Y1++(X++C)))) W):Rot w0 g L m T W i (j-i) A Y2 Y1 (X++C):=by
 have hei:=h.ei
 have hej:=h.ej
 have hem:=h.em
 have hel:=h.el
 simp at hej hel
 refine⟨h2,by omega,h.pi,by omega,hem,by simp;omega,by simpa using hR,by rw [←h.tgt];simp,h.sl.perm (fun x hx=>?_)⟩
 simp at hx ⊢
 rcases hx with hx|hx|hx|hx|hx <;> simp [hx]
theorem rotate_any (w0:World) (g cap a m b L:Nat) (fv:Value) (A X Y C:List PP) (w:World) (hg:w0.heap.size≤g) (ha:a=A.length) (hm:m=A.length+X.length) (hb:b=A.length+X.length+Y.length) (hX:0<X.length) (hY:0<Y.length) (hL:L=(A++(X++(Y++C))).length) (hR:RowQ w0 g (A++(X++(Y++C))) w) (hS:Slq (A++(X++(Y++C)))) (hlen:L≤65536) :
 Calls Tryz.prog 125 #[.slice (some ⟨g,0,none⟩) L cap,.int .i64 a,.int .i64 m,.int .i64 b,fv] w fun e w'=>e=.returned (.tuple #[])∧RowQ w0 g (A++(Y++(X++C))) w':=by
 have HR0:Hid (Rot w0 g L m (A++(Y++(X++C))) w X.length Y.length A X Y C):=⟨rfl,rfl,hX,hY,hm.symm,hL.symm,hR,rfl,hS⟩
 have hml:b≤L:=by rw [hb,hL];simp;omega
 have hw1:IntKind.i64.wrap ((m:Int)-(a:Int))=(X.length:Int):=by rw [IntKind.wrap_i64];omega
 have hw2:IntKind.i64.wrap ((b:Int)-(m:Int))=(Y.length:Int):=by rw [IntKind.wrap_i64];omega
 have hmL:m≤65536:=by omega
 generalize X.length=i0 at *
 generalize Y.length=j0 at *
 generalize A++(Y++(X++C))=T at *
 clear hR hS hL ha hm hb hml
 go_enter Tryz.func125,Tryz.ntmps125
 go_wp2_with fail
 go_loopg [10,11] (i0+j0) (fun z vi vj wr=>∃(i j:Nat) (A X Y C:List PP),vi=.int .i64 (i:Int)∧vj=.int .i64 (j:Int)∧z=i+j∧Hid (Rot w0 g L m T wr i j A X Y C))
 case atStart=>exact⟨i0,j0,A,X,Y,C,rfl,rfl,rfl,HR0⟩
 case round=>
  obtain⟨i,j,A,X,Y,C,rfl,rfl,hk,HM⟩:=hrel
  have Hk:Hid _:=hk
  clear hk HR0 hw1 hw2
  have pi:=HM.out.pi
  have pj:=HM.out.pj
  have em:=HM.out.em
  have ei:=HM.out.ei
  have ej:=HM.out.ej
  have hLj:A.length+i+j≤L:=by have:=HM.out.el;simp at this;omega
  by_cases hij:i=j
  ·subst hij
   have hwa:IntKind.i64.wrap ((m:Int)-(i:Int))=(A.length:Int):=by rw [IntKind.wrap_i64];omega
   have Hc:Hid _:=fun W (h:RowQ w0 g (A++(X++([]++(Y++C)))) W)=>swapRange_parts w0 g cap fv A X [] Y C i A.length m L W hg ei ej rfl (by simp;omega) (by have:=HM.out.el;simp at this ⊢;omega) h (by simpa using HM.out.sl) hlen
   have HT:Hid (A++(Y++([]++(X++C)))=T):=by show _=_;rw [←HM.out.tgt];simp
   have Hrow:Hid (RowQ w0 g (A++(X++([]++(Y++C)))) wr):=by show RowQ _ _ _ _;simpa using HM.out.row
   clear HM ei ej em
   go_wp2_with fail
   refine (Hc.out _ Hrow.out).mono ?_
   rintro e w1 ⟨rfl,hr1⟩
   go_wp2_with fail
   exact bodyPost_end (v:=.tuple #[]) (by simp [results,Tryz.results125,go_sem]) rfl ⟨rfl,by rw [←HT.out];exact hr1⟩
  ·have hij' : ¬(i:Int)=(j:Int):=by omega
   by_cases hlt:j<i
   ·have hlti:(j:Int)<(i:Int):=by omega
    obtain⟨X1,X2,rfl,h1⟩:∃X1 X2,X=X1++X2∧X1.length=j:=⟨X.take j,X.drop j,(List.take_append_drop j X).symm,by rw [List.length_take];omega⟩
    have hwa:IntKind.i64.wrap ((m:Int)-(i:Int))=(A.length:Int):=by rw [IntKind.wrap_i64];omega
    have hwi:IntKind.i64.wrap ((i:Int)-(j:Int))=((i-j:Nat):Int):=by rw [IntKind.wrap_i64];omega
    have Hc:Hid _:=fun W (h:RowQ w0 g (A++(X1++(X2++(Y++C)))) W)=>swapRange_parts w0 g cap fv A X1 X2 Y C j A.length m L W hg h1 ej rfl (by simp at ei;omega) (by have:=HM.out.el;simp at this ⊢;omega) h (by simpa using HM.out.sl) hlen
    have HN:Hid (∀W,RowQ w0 g (A++(Y++(X2++(X1++C)))) W→Rot w0 g L m T W (i-j) j (A++Y) X2 X1 C):=fun W h=>HM.out.more hlt h1 h
    have Hrow:Hid (RowQ w0 g (A++(X1++(X2++(Y++C)))) wr):=by show RowQ _ _ _ _;simpa using HM.out.row
    clear HM ei ej em h1
    go_wp2_with fail
    refine (Hc.out _ Hrow.out).mono ?_
    rintro e w1 ⟨rfl,hr1⟩
    have HN1:Hid _:=HN.out _ hr1
    clear hr1 HN Hc Hrow
    go_wp2_with fail
    go_roundg (i-j+j)
    case measure=>have:=Hk.out;omega
    case rel=>exact⟨i-j,j,_,_,_,_,rfl,rfl,rfl,HN1⟩
   ·have hlti : ¬(j:Int)<(i:Int):=by omega
    have hji:i<j:=by omega
    obtain⟨Y1,Y2,rfl,h2⟩:∃Y1 Y2,Y=Y1++Y2∧Y2.length=i:=⟨Y.take (j-i),Y.drop (j-i),(List.take_append_drop _ Y).symm,by rw [List.length_drop];omega⟩
    have hwa:IntKind.i64.wrap ((m:Int)-(i:Int))=(A.length:Int):=by rw [IntKind.wrap_i64];omega
    have hws:IntKind.i64.wrap ((m:Int)+(j:Int))=((m+j:Nat):Int):=by rw [IntKind.wrap_i64];omega
    have hwt:IntKind.i64.wrap (((m+j:Nat):Int)-(i:Int))=((m+j-i:Nat):Int):=by rw [IntKind.wrap_i64];omega
    have hwi:IntKind.i64.wrap ((j:Int)-(i:Int))=((j-i:Nat):Int):=by rw [IntKind.wrap_i64];omega
    have Hc:Hid _:=fun W (h:RowQ w0 g (A++(X++(Y1++(Y2++C)))) W)=>swapRange_parts w0 g cap fv A X Y1 Y2 C i A.length (m+j-i) L W hg ei h2 rfl (by simp at ej;omega) (by have:=HM.out.el;simp at this ⊢;omega) h (by simpa using HM.out.sl) hlen
    have HN:Hid (∀W,RowQ w0 g (A++(Y2++(Y1++(X++C)))) W→Rot w0 g L m T W i (j-i) A Y2 Y1 (X++C)):=fun W h=>HM.out.less hji h2 h
    have Hrow:Hid (RowQ w0 g (A++(X++(Y1++(Y2++C)))) wr):=by show RowQ _ _ _ _;simpa using HM.out.row
    clear HM ei ej em h2
    generalize m+j=s at *
    go_wp2_with fail
    refine (Hc.out _ Hrow.out).mono ?_
    rintro e w1 ⟨rfl,hr1⟩
    have HN1:Hid _:=HN.out _ hr1
    clear hr1 HN Hc Hrow
    go_wp2_with fail
    go_roundg (i+(j-i))
    case measure=>have:=Hk.out;omega
    case rel=>exact⟨i,j-i,_,_,_,_,rfl,rfl,rfl,HN1⟩
end Go.Proofs.YtcflooaoocngdaaGreat
