import Derived.Test.YtlnecfjnffdciacGreatLevel
import Derived.Test.YtlnecfjnffdciacGreatRotate
namespace Go.Proofs.YtlnecfjnffdciacGreat
open Go.RowKit
def LiesX (X:Nat→Prop):Nat→World→List VT→Value→Prop
 | 0,_,l,v=>l=[]∧∃a c,v=.slice a 0 c
 | d+1,w,l,v=>∃a c,v=.slice a l.length c∧(l.length≤c∧l.length≤9223372036854775807)∧
  (l≠[]→∃b o,a=some ⟨b,o,none⟩∧X b∧∀(i:Nat) (h:i<l.length),∃u,
   w.cell? ⟨b,o+i*4,none⟩=some (.int .i64 (l[i]'h).kind)∧w.cell? ⟨b,o+i*4+1,none⟩=some (.int .i64 (l[i]'h).num)∧
   w.cell? ⟨b,o+i*4+2,none⟩=some (.string (l[i]'h).text)∧w.cell? ⟨b,o+i*4+3,none⟩=some u∧LiesX X d w (l[i]'h).items u∧(l[i]'h).text.size≤9223372036854775807)
theorem LiesX.lies {X:Nat→Prop} {w:World}:∀{d:Nat} {l:List VT} {v:Value},LiesX X d w l v→Lies d w l v:=by
 intro d
 induction d with
 | zero=>intro l v h;exact h
 | succ d ih=>
  intro l v hl
  obtain⟨a,c,hv,hb,hr⟩:=hl
  refine⟨a,c,hv,hb,fun hne=>?_⟩
  obtain⟨b,o,ha,_,hall⟩:=hr hne
  refine⟨b,o,ha,fun i hi=>?_⟩
  obtain⟨u,h0,h1,h2,h3,h4,h5⟩:=hall i hi
  exact⟨u,h0,h1,h2,h3,ih h4,h5⟩
theorem LiesX.stays {X Y:Nat→Prop} {w w':World} (hY:∀b,X b→Y b) (h:∀a v,X a.block→w.cell? a=some v→w'.cell? a=some v):∀{d:Nat} {l:List VT} {v:Value},LiesX X d w l v→LiesX Y d w' l v:=by
 intro d
 induction d with
 | zero=>intro l v hl;exact hl
 | succ d ih=>
  intro l v hl
  obtain⟨a,c,hv,hb,hr⟩:=hl
  refine⟨a,c,hv,hb,fun hne=>?_⟩
  obtain⟨b,o,ha,hbb,hall⟩:=hr hne
  refine⟨b,o,ha,hY b hbb,fun i hi=>?_⟩
  obtain⟨u,h0,h1,h2,h3,h4,h5⟩:=hall i hi
  exact⟨u,h _ _ hbb h0,h _ _ hbb h1,h _ _ hbb h2,h _ _ hbb h3,ih h4,h5⟩
theorem LiesX.keeps {X:Nat→Prop} {w w':World} (hb:Below w.heap.size w w') {d:Nat} {l:List VT} {v:Value} (h:LiesX X d w l v):LiesX X d w' l v:=
 LiesX.stays (fun _ h=>h) (fun _ _ _ hv=>zaa hb hv) h
theorem LiesX.mono {X Y:Nat→Prop} (hY:∀b,X b→Y b) {w:World} {d:Nat} {l:List VT} {v:Value} (h:LiesX X d w l v):LiesX Y d w l v:=
 LiesX.stays hY (fun _ _ _ hv=>hv) h
theorem LiesX.slice {X:Nat→Prop} {d:Nat} {w:World} {l:List VT} {v:Value} (h:LiesX X d w l v):∃a c,v=.slice a l.length c∧l.length≤9223372036854775807:=Lies.slice h.lies
theorem LiesX.of_lies {w:World}:∀{d:Nat} {l:List VT} {v:Value},Lies d w l v→LiesX (fun b=>b<w.heap.size) d w l v:=by
 intro d
 induction d with
 | zero=>intro l v h;exact h
 | succ d ih=>
  intro l v hl
  obtain⟨a,c,hv,hb,hr⟩:=hl
  refine⟨a,c,hv,hb,fun hne=>?_⟩
  obtain⟨b,o,ha,hall⟩:=hr hne
  have h0:0<l.length:=List.length_pos_iff.2 hne
  obtain⟨_,k0,_⟩:=hall 0 h0
  refine⟨b,o,ha,zad k0,fun i hi=>?_⟩
  obtain⟨u,h0,h1,h2,h3,h4,h5⟩:=hall i hi
  exact⟨u,h0,h1,h2,h3,ih h4,h5⟩
theorem LiesX.both {X:Nat→Prop} {w:World}:∀{d:Nat} {l:List VT} {v:Value},LiesX X d w l v→LiesX (fun b=>X b∧b<w.heap.size) d w l v:=by
 intro d
 induction d with
 | zero=>intro l v h;exact h
 | succ d ih=>
  intro l v hl
  obtain⟨a,c,hv,hb,hr⟩:=hl
  refine⟨a,c,hv,hb,fun hne=>?_⟩
  obtain⟨b,o,ha,hbb,hall⟩:=hr hne
  have h0:0<l.length:=List.length_pos_iff.2 hne
  obtain⟨_,k0,_⟩:=hall 0 h0
  refine⟨b,o,ha,⟨hbb,zad k0⟩,fun i hi=>?_⟩
  obtain⟨u,h0,h1,h2,h3,h4,h5⟩:=hall i hi
  exact⟨u,h0,h1,h2,h3,ih h4,h5⟩
theorem LiesX.of_b {base:Nat} {w:World}:∀{d:Nat} {l:List VT} {v:Value},LiesB base d w l v→LiesX (fun b=>base≤b) d w l v:=by
 intro d
 induction d with
 | zero=>intro l v h;exact h
 | succ d ih=>
  intro l v hl
  obtain⟨a,c,hv,hb,hr⟩:=hl
  refine⟨a,c,hv,hb,fun hne=>?_⟩
  obtain⟨b,o,ha,hbb,_,hall⟩:=hr hne
  refine⟨b,o,ha,hbb,fun i hi=>?_⟩
  obtain⟨u,h0,h1,h2,h3,h4,h5⟩:=hall i hi
  exact⟨u,h0,h1,h2,h3,ih h4,h5⟩
theorem LiesX.deeper {X:Nat→Prop} {w:World}:∀{d:Nat} {l:List VT} {v:Value},LiesX X d w l v→LiesX X (d+1) w l v:=by
 intro d
 induction d with
 | zero=>intro l v h;obtain⟨rfl,a,c,rfl⟩:=h;exact⟨a,c,rfl,by simp,fun h=>absurd rfl h⟩
 | succ d ih=>
  intro l v hl
  obtain⟨a,c,hv,hb,hr⟩:=hl
  refine⟨a,c,hv,hb,fun hne=>?_⟩
  obtain⟨b,o,ha,hbb,hall⟩:=hr hne
  refine⟨b,o,ha,hbb,fun i hi=>?_⟩
  obtain⟨u,h0,h1,h2,h3,h4,h5⟩:=hall i hi
  exact⟨u,h0,h1,h2,h3,ih h4,h5⟩
theorem LiesX.atLeast {X:Nat→Prop} {w:World} {d:Nat} {l:List VT} {v:Value} (h:LiesX X d w l v):∀e,d≤e→LiesX X e w l v:=by
 intro e he
 induction e with
 | zero=>have:d=0:=by omega
         subst this;exact h
 | succ e ih=>
  by_cases hd:d=e+1
  ·subst hd;exact h
  ·exact LiesX.deeper (ih (by omega))
theorem liesX_nil (X:Nat→Prop) (d:Nat) (w:World) (a:Option Addr) (c:Nat):LiesX X d w [] (.slice a 0 c):=LiesX.atLeast (d:=0) ⟨rfl,a,c,rfl⟩ d (Nat.zero_le _)
end Go.Proofs.YtlnecfjnffdciacGreat
