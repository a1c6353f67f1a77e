import Derived.Test.YtcflooaoocngdaaGreatLevel
import Derived.Test.YtcflooaoocngdaaGreatRotate
namespace Go.Proofs.YtcflooaoocngdaaGreat
open Go.RowKit
def LiesX (X:Nat→Prop):Nat→World→List VT→Value→Prop
 | 0,_,l,v=>l=[]∧∃a c,v=.slice a 0 c
 | d+1,w,l,v=>∃a c,v=.slice a l.length c∧(l.length≤c∧l.length≤9223372036854775807)∧
  (l≠[]→∃b o,a=some ⟨b,o,none⟩∧X b∧∀(i:Nat) (h:i<l.length),∃u,
   w.cell? ⟨b,o+i*4,none⟩=some (.int .i64 (l[i]'h).kind)∧w.cell? ⟨b,o+i*4+1,none⟩=some (.int .i64 (l[i]'h).num)∧
   w.cell? ⟨b,o+i*4+2,none⟩=some (.string (l[i]'h).text)∧w.cell? ⟨b,o+i*4+3,none⟩=some u∧LiesX X d w (l[i]'h).items u∧(l[i]'h).text.size≤9223372036854775807)
theorem LiesX.lies {X:Nat→Prop} {w:World}:∀{d:Nat} {l:List VT} {v:Value},LiesX X d w l v→Lies d w l v:=by
 intro d
 induction d with
 | zero=>intro l v h;exact h
 | succ d ih=>
  intro l v hl
  obtain⟨a,c,hv,hb,hr⟩:=hl
  refine⟨a,c,hv,hb,fun hne=>?_⟩
  obtain⟨b,o,ha,_,hall⟩:=hr hne
  refine⟨b,o,ha,fun i hi=>?_⟩
  obtain⟨u,h0,h1,h2,h3,h4,h5⟩:=hall i hi
  exact⟨u,h0,h1,h2,h3,ih h4,h5⟩
theorem LiesX.stays {X Y:Nat→Prop} {w w':World} (hY:∀b,X b→Y b) (h:∀a v,X a.block→w.cell? a=some v→w'.cell? a=some v):∀{d:Nat} {l:List VT} {v:Value},LiesX X d w l v→LiesX Y d w' l v:=by
 intro d
 induction d with
 | zero=>intro l v hl;exact hl
 | succ d ih=>
  intro l v hl
  obtain⟨a,c,hv,hb,hr⟩:=hl
  refine⟨a,c,hv,hb,fun hne=>?_⟩
  obtain⟨b,o,ha,hbb,hall⟩:=hr hne
  refine⟨b,o,ha,hY b hbb,fun i hi=>?_⟩
  obtain⟨u,h0,h1,h2,h3,h4,h5⟩:=hall i hi
  exact⟨u,h _ _ hbb h0,h _ _ hbb h1,h _ _ hbb h2,h _ _ hbb h3,ih h4,h5⟩
theorem LiesX.keeps {X:Nat→Prop} {w w':World} (hb:Below w.heap.size w w') {d:Nat} {l:List VT} {v:Value} (h:LiesX X d w l v):LiesX X d w' l v:=
 LiesX.stays (fun _ h=>h) (fun _ _ _ hv=>zaa hb hv) h
theorem LiesX.mono {X Y:Nat→Prop} (hY:∀b,X b→Y b) {w:World} {d:Nat} {l:List VT} {v:Value} (h:LiesX X d w l v):LiesX Y d w l v:=
 LiesX.stays hY (fun _ _ _ hv=>hv) h
theorem LiesX.set {X:Nat→Prop} {w:World} {g o:Nat} {vs:List Value} (hX : ¬X g) {d:Nat} {l:List VT} {v:Value} (h:LiesX X d w l v):LiesX X d (w.setCells g o vs) l v:=
 LiesX.stays (fun _ h=>h) (fun x _ hx hv=>by rw [World.cell?_setCells_out g vs o w x (fun e _=>absurd hx (by rw [e];exact hX))];exact hv) h
theorem LiesX.slice {X:Nat→Prop} {d:Nat} {w:World} {l:List VT} {v:Value} (h:LiesX X d w l v):∃a c,v=.slice a l.length c∧l.length≤9223372036854775807:=Lies.slice h.lies
theorem LiesX.of_lies {w:World}:∀{d:Nat} {l:List VT} {v:Value},Lies d w l v→LiesX (fun b=>b<w.heap.size) d w l v:=by
 intro d
 induction d with
 | zero=>intro l v h;exact h
 | succ d ih=>
  intro l v hl
  obtain⟨a,c,hv,hb,hr⟩:=hl
  refine⟨a,c,hv,hb,fun hne=>?_⟩
  obtain⟨b,o,ha,hall⟩:=hr hne
  have h0:0<l.length:=List.length_pos_iff.2 hne
  obtain⟨_,k0,_⟩:=hall 0 h0
  refine⟨b,o,ha,zae k0,fun i hi=>?_⟩
  obtain⟨u,h0,h1,h2,h3,h4,h5⟩:=hall i hi
  exact⟨u,h0,h1,h2,h3,ih h4,h5⟩
theorem LiesX.both {X:Nat→Prop} {w:World}:∀{d:Nat} {l:List VT} {v:Value},LiesX X d w l v→LiesX (fun b=>X b∧b<w.heap.size) d w l v:=by
 intro d
 induction d with
 | zero=>intro l v h;exact h
 | succ d ih=>
  intro l v hl
  obtain⟨a,c,hv,hb,hr⟩:=hl
  refine⟨a,c,hv,hb,fun hne=>?_⟩
  obtain⟨b,o,ha,hbb,hall⟩:=hr hne
  have h0:0<l.length:=List.length_pos_iff.2 hne
  obtain⟨_,k0,_⟩:=hall 0 h0
  refine⟨b,o,ha,⟨hbb,zae k0⟩,fun i hi=>?_⟩
  obtain⟨u,h0,h1,h2,h3,h4,h5⟩:=hall i hi
  exact⟨u,h0,h1,h2,h3,ih h4,h5⟩
theorem LiesX.of_b {base:Nat} {w:World}:∀{d:Nat} {l:List VT} {v:Value},LiesB base d w l v→LiesX (fun b=>base≤b) d w l v:=by
 intro d
 induction d with
 | zero=>intro l v h;exact h
 | succ d ih=>
  intro l v hl
  obtain⟨a,c,hv,hb,hr⟩:=hl
  refine⟨a,c,hv,hb,fun hne=>?_⟩
  obtain⟨b,o,ha,hbb,_,hall⟩:=hr hne
  refine⟨b,o,ha,hbb,fun i hi=>?_⟩
  obtain⟨u,h0,h1,h2,h3,h4,h5⟩:=hall i hi
  exact⟨u,h0,h1,h2,h3,ih h4,h5⟩
theorem LiesX.deeper {X:Nat→Prop} {w:World}:∀{d:Nat} {l:List VT} {v:Value},LiesX X d w l v→LiesX X (d+1) w l v:=by
 intro d
 induction d with
 | zero=>intro l v h;obtain⟨rfl,a,c,rfl⟩:=h;exact⟨a,c,rfl,by simp,fun h=>absurd rfl h⟩
 | succ d ih=>
  intro l v hl
  obtain⟨a,c,hv,hb,hr⟩:=hl
  refine⟨a,c,hv,hb,fun hne=>?_⟩
  obtain⟨b,o,ha,hbb,hall⟩:=hr hne
  refine⟨b,o,ha,hbb,fun i hi=>?_⟩
  obtain⟨u,h0,h1,h2,h3,h4,h5⟩:=hall i hi
  exact⟨u,h0,h1,h2,h3,ih h4,h5⟩
theorem LiesX.atLeast {X:Nat→Prop} {w:World} {d:Nat} {l:List VT} {v:Value} (h:LiesX X d w l v):∀e,d≤e→LiesX X e w l v:=by
 intro e he
 induction e with
 | zero=>have:d=0:=by omega
         subst this;exact h
 | succ e ih=>
  by_cases hd:d=e+1
  ·subst hd;exact h
  ·exact LiesX.deeper (ih (by omega))
theorem LiesX.lower {X:Nat→Prop} {w:World}:∀(e d:Nat) (l:List VT) (v:Value),LiesX X d w l v→(e=0→l=[])→(∀x∈l,Dp (e-1) x)→LiesX X e w l v:=by
 intro e
 induction e with
 | zero=>
  intro d l v h h0 _
  have hl:=h0 rfl
  subst hl
  obtain⟨a,c,hv,_⟩:=LiesX.slice h
  exact⟨rfl,a,c,hv⟩
 | succ e ih=>
  intro d l v h _ hx
  cases d with
  | zero=>
   obtain⟨rfl,a,c,rfl⟩:=h
   exact⟨a,c,rfl,by simp,fun h=>absurd rfl h⟩
  | succ d=>
   obtain⟨a,c,hv,hb,hr⟩:=h
   refine⟨a,c,hv,hb,fun hne=>?_⟩
   obtain⟨b,o,ha,hbb,hall⟩:=hr hne
   refine⟨b,o,ha,hbb,fun i hi=>?_⟩
   obtain⟨u,h0,h1,h2,h3,h4,h5⟩:=hall i hi
   have hd:Dp e l[i]:=hx l[i] (List.getElem_mem hi)
   refine⟨u,h0,h1,h2,h3,ih d _ _ h4 (fun e0=>?_) (fun y hy=>?_),h5⟩
   ·subst e0;exact hd
   ·cases e with
    | zero=>rw [show l[i].items=[] from hd] at hy;cases hy
    | succ e=>exact hd y hy
theorem LiesX.to {X:Nat→Prop} {w:World} {e d:Nat} {t:VT} {v:Value} (h:LiesX X d w t.items v) (hd:Dp e t):LiesX X e w t.items v:=by
 refine LiesX.lower e d t.items v h (fun e0=>?_) (fun x hx=>?_)
 ·subst e0;exact hd
 ·cases e with
  | zero=>rw [show t.items=[] from hd] at hx;cases hx
  | succ e=>exact hd x hx
theorem zah (X:Nat→Prop) (d:Nat) (w:World) (a:Option Addr) (c:Nat):LiesX X d w [] (.slice a 0 c):=LiesX.atLeast (d:=0) ⟨rfl,a,c,rfl⟩ d (Nat.zero_le _)
structure KC (B:Nat→Prop) (w w':World):Prop where
 os:w'.os=w.os
 tape:w'.tape=w.tape
 output:w'.output=w.output
 size:w.heap.size≤w'.heap.size
 block:∀j,j<w.heap.size→¬B j→w'.heap[j]? = w.heap[j]?
theorem KC.of_below {B:Nat→Prop} {w w':World} (hb:Below w.heap.size w w'):KC B w w':=⟨hb.os,hb.tape,hb.output,hb.size,fun j hj _=>hb.block j hj⟩
theorem KC.refl (B:Nat→Prop) (w:World):KC B w w:=KC.of_below (Below.refl _ _)
theorem KC.trans {B:Nat→Prop} {a b c:World} (k1:KC B a b) (k2:KC B b c):KC B a c:=
 ⟨k2.os.trans k1.os,k2.tape.trans k1.tape,k2.output.trans k1.output,Nat.le_trans k1.size k2.size,fun j hj hn=>(k2.block j (Nat.lt_of_lt_of_le hj k1.size) hn).trans (k1.block j hj hn)⟩
theorem KC.mono {B C:Nat→Prop} {w w':World} (h:∀j,j<w.heap.size→B j→C j) (k:KC B w w'):KC C w w':=⟨k.os,k.tape,k.output,k.size,fun j hj hn=>k.block j hj (fun hB=>hn (h j hj hB))⟩
theorem KC.set {B:Nat→Prop} {w w1:World} (k:KC B w w1) {g o:Nat} (hg:B g∨w.heap.size≤g) (v:Value):KC B w (w1.setCell ⟨g,o,none⟩ v):=by
 refine⟨k.os,k.tape,k.output,?_,fun j hj hn=>?_⟩
 ·have h9:(w1.setCell ⟨g,o,none⟩ v).heap.size=w1.heap.size:=by simp [World.setCell]
  rw [h9];exact k.size
 ·have h9:(w1.setCell ⟨g,o,none⟩ v).heap[j]? = w1.heap[j]?:=by
   simp only [World.setCell,Array.getElem?_modify]
   rw [if_neg]
   rintro rfl
   rcases hg with h|h
   ·exact hn h
   ·omega
  rw [h9]
  exact k.block j hj hn
theorem KC.below {B:Nat→Prop} {N0:Nat} {w w':World} (k:KC B w w') (h1:∀j,j<N0→¬B j) (h2:N0≤w.heap.size):Below N0 w w':=⟨k.os,k.tape,k.output,k.size,fun j hj=>k.block j (by omega) (h1 j hj)⟩
theorem KC.cell {B:Nat→Prop} {w w':World} (k:KC B w w') {a:Addr} {u:Value} (hn : ¬B a.block) (hu:w.cell? a=some u):w'.cell? a=some u:=by
 have e:=k.block a.block (zae hu) hn
 unfold World.cell? at hu ⊢
 rw [e]
 exact hu
theorem KC.frozen {B:Nat→Prop} {w w':World} (k:KC B w w') {a:Addr} {u:Value} (hn : ¬B a.block) (hu:w.cell? a=some u) (hf:w.frozen? a=false):w'.frozen? a=false:=by
 have e:=k.block a.block (zae hu) hn
 unfold World.frozen? at hf ⊢
 rw [e]
 exact hf
theorem KC.liesX {B X:Nat→Prop} {w w':World} (k:KC B w w') (hX:∀n,X n→¬B n) {d:Nat} {l:List VT} {v:Value} (h:LiesX X d w l v):LiesX X d w' l v:=
 LiesX.stays (fun _ h=>h) (fun _ _ ha hv=>k.cell (hX _ ha) hv) h
theorem KC.bx {B:Nat→Prop} {w w':World} (k:KC B w w') {n:Nat} {t:VT} {u:Value} (hn : ¬B n) (h:Bx w n t u):Bx w' n t u:=
 ⟨k.cell hn h.c0,k.cell hn h.c1,k.cell hn h.c2,k.cell hn h.c3,k.frozen hn h.c0 h.f0,k.frozen hn h.c1 h.f1,k.frozen hn h.c2 h.f2,k.frozen hn h.c3 h.f3⟩
theorem KC.trans2 {B C:Nat→Prop} {a b c:World} (k1:KC B a b) (k2:KC C b c) (h:∀j,j<a.heap.size→C j→B j):KC B a c:=
 ⟨k2.os.trans k1.os,k2.tape.trans k1.tape,k2.output.trans k1.output,Nat.le_trans k1.size k2.size,fun j hj hn=>(k2.block j (Nat.lt_of_lt_of_le hj k1.size) (fun hC=>hn (h j hj hC))).trans (k1.block j hj hn)⟩
theorem LiesX.row {X:Nat→Prop} {d:Nat} {w:World} {l:List VT} {v:Value} (h:LiesX X (d+1) w l v) :
 ∃a c,v=.slice a l.length c∧∃ps:List (VT×Value),ps.map (·.1)=l∧(∀p∈ps,LiesX X d w p.1.items p.2∧p.1.text.size≤9223372036854775807)∧(l≠[]→∃b o,a=some ⟨b,o,none⟩∧X b∧RowAt w b o ps):=by
 obtain⟨a,c,hv,hb,hr⟩:=h
 refine⟨a,c,hv,?_⟩
 by_cases hne:l=[]
 ·subst hne;exact⟨[],rfl,(fun p hp=>by cases hp),fun h=>absurd rfl h⟩
 ·obtain⟨b,o,ha,hX,hall⟩:=hr hne
  have hinh:Inhabited Value:=⟨.bool false⟩
  have hh:∀i,i<l.length→∃u:Value,∀h:i<l.length,w.cell? ⟨b,o+i*4,none⟩=some (.int .i64 (l[i]'h).kind)∧w.cell? ⟨b,o+i*4+1,none⟩=some (.int .i64 (l[i]'h).num)∧
   w.cell? ⟨b,o+i*4+2,none⟩=some (.string (l[i]'h).text)∧w.cell? ⟨b,o+i*4+3,none⟩=some u∧LiesX X d w (l[i]'h).items u∧(l[i]'h).text.size≤9223372036854775807:=fun i hi=>by
   obtain⟨u,hu⟩:=hall i hi
   exact⟨u,fun _=>hu⟩
  obtain⟨f,hf⟩:=Go.Deep.choose_lt hh
  refine⟨l.zipIdx.map (fun q=>(q.1,f q.2)),?_,?_,fun _=>⟨b,o,ha,hX,?_⟩⟩
  ·rw [List.map_map]
   show l.zipIdx.map (fun q=>q.1)=l
   rw [List.zipIdx_map_fst]
  ·intro p hp
   obtain⟨q,hq,rfl⟩:=List.mem_map.1 hp
   obtain⟨i,hi,hqe⟩:=List.getElem_of_mem hq
   rw [List.getElem_zipIdx] at hqe
   have hi':i<l.length:=by simpa using hi
   subst hqe
   have:=hf i hi' hi'
   simp only [Nat.zero_add]
   exact⟨this.2.2.2.2.1,this.2.2.2.2.2⟩
  ·intro i hi
   have hi':i<l.length:=by simpa using hi
   have:=hf i hi' hi'
   simp only [List.getElem_map,List.getElem_zipIdx,Nat.zero_add]
   exact⟨this.1,this.2.1,this.2.2.1,this.2.2.2.1⟩
theorem liesX_row {X:Nat→Prop} {d:Nat} {w:World} {b o c:Nat} {ps:List (VT×Value)} (h:RowAt w b o ps) (hX:X b) (hs:∀p∈ps,LiesX X d w p.1.items p.2∧p.1.text.size≤9223372036854775807) (hl:ps.length≤9223372036854775807) (hc:ps.length≤c) :
 LiesX X (d+1) w (ps.map (·.1)) (.slice (some ⟨b,o,none⟩) ps.length c):=by
 refine⟨some ⟨b,o,none⟩,c,by simp,by simp;omega,fun _=>⟨b,o,rfl,hX,fun i hi=>?_⟩⟩
 have hi':i<ps.length:=by simpa using hi
 obtain⟨k0,k1,k2,k3⟩:=h i hi'
 have hsd:=hs ps[i] (List.getElem_mem hi')
 simp only [List.getElem_map]
 exact⟨_,k0,k1,k2,k3,hsd.1,hsd.2⟩
end Go.Proofs.YtcflooaoocngdaaGreat
