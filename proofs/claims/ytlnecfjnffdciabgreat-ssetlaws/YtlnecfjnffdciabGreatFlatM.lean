import Derived.Test.YtlnecfjnffdciabGreatAppRow
import Derived.Test.YtlnecfjnffdciabGreatLook
namespace Go.Proofs.YtlnecfjnffdciabGreat
open Go.RowKit Go.Shelf
theorem GoodM.slice {w:World} {p:MB} (h:GoodM w p):∃a l c,p.u=.slice a l c:=by
 obtain⟨a,c,e,_⟩:=Lies.slice h.lies
 exact⟨a,_,c,e⟩
theorem encM_one {p:MB} (h:∃a l c,p.u=.slice a l c):∀v∈encM p,v.oneCell'=true:=by
 obtain⟨a,l,c,e⟩:=h
 intro v hv
 simp [encM] at hv
 rcases hv with rfl|rfl|rfl|rfl|rfl
 ·rfl
 ·rfl
 ·rfl
 ·rw [e];rfl
 ·rfl
theorem flatM_len (ps:List MB):(ps.flatMap encM).length=ps.length*5:=by
 induction ps with
 | nil=>rfl
 | cons p ps ih=>rw [List.flatMap_cons,List.length_append,ih,List.length_cons];simp [encM];omega
theorem flatM_at:∀(ps:List MB) (i r:Nat) (h:i<ps.length),r<5→(ps.flatMap encM)[i*5+r]? = (encM ps[i])[r]?:=by
 intro ps
 induction ps with
 | nil=>intro i r h;cases h
 | cons p ps ih=>
  intro i r h hr
  rw [List.flatMap_cons]
  cases i with
  | zero=>
   rw [List.getElem?_append_left (by simp [encM];omega)];simp
  | succ i=>
   rw [List.getElem?_append_right (by simp [encM];omega)]
   have e:(i+1)*5+r-(encM p).length=i*5+r:=by simp [encM];omega
   rw [e,ih i r (by simpa using h) hr];rfl
theorem RowM.flat {w:World} {b o:Nat} {ps:List MB} (h:RowM w b o ps):∀j u,(ps.flatMap encM)[j]? = some u→w.cell? ⟨b,o+j,none⟩=some u:=by
 intro j u hj
 have hlt:j<(ps.flatMap encM).length:=by
  by_cases hl:j<(ps.flatMap encM).length
  ·exact hl
  ·rw [List.getElem?_eq_none (by omega)] at hj;cases hj
 rw [flatM_len] at hlt
 have hi:j / 5<ps.length:=by omega
 have hr:j % 5<5:=by omega
 have hjj:j=j / 5*5+j % 5:=by omega
 rw [hjj,flatM_at ps (j / 5) (j % 5) hi hr] at hj
 obtain⟨k0,k1,k2,k3,k4⟩:=h (j / 5) hi
 generalize hq:j / 5=q at *
 generalize hm:j % 5=m at *
 rw [hjj]
 clear hjj hlt
 match m,hr with
 | 0,_=>simp [encM] at hj;subst hj;rw [Nat.add_zero];exact k0
 | 1,_=>simp [encM] at hj;subst hj;rw [←Nat.add_assoc];exact k1
 | 2,_=>simp [encM] at hj;subst hj;rw [←Nat.add_assoc];exact k2
 | 3,_=>simp [encM] at hj;subst hj;rw [←Nat.add_assoc];exact k3
 | 4,_=>simp [encM] at hj;subst hj;rw [←Nat.add_assoc];exact k4
theorem RowM.of_flat {w:World} {b o:Nat} {ps:List MB} (h:∀j u,(ps.flatMap encM)[j]? = some u→w.cell? ⟨b,o+j,none⟩=some u):RowM w b o ps:=by
 intro i hi
 refine⟨h (i*5+0) _ ?_,h (i*5+1) _ ?_,h (i*5+2) _ ?_,h (i*5+3) _ ?_,h (i*5+4) _ ?_⟩
 all_goals (rw [flatM_at ps i _ hi (by omega)];rfl)
theorem RowM.drop {w:World} {b o:Nat} {ps:List MB} (h:RowM w b o ps) (m:Nat):RowM w b (o+m*5) (ps.drop m):=by
 intro i hi
 have h1:m+i<ps.length:=by simp at hi;omega
 have:=h (m+i) h1
 simp only [List.getElem_drop]
 rw [show o+m*5+i*5=o+(m+i)*5 by omega]
 exact this
theorem RowM.take {w:World} {b o:Nat} {ps:List MB} (h:RowM w b o ps) (m:Nat):RowM w b o (ps.take m):=by
 intro i hi
 have h1:i<ps.length:=by simp at hi;omega
 have:=h i h1
 simp only [List.getElem_take]
 exact this
theorem own_rowM {w:World} {base ty:Nat} {g n cap:Nat} {ps:List MB} (h:w.ownsRow base ty 5 (.slice (some ⟨g,0,none⟩) n cap) n (ps.flatMap encM)):RowM w g 0 ps∧n≤cap:=by
 rcases h.2 with ⟨hv,_⟩|⟨g',cap',cur,hv,_,_,hcap,_⟩
 ·cases hv
 ·injection hv with h1 h2 h3
  subst h3
  refine⟨RowM.of_flat fun j u hj=>?_,hcap⟩
  have:=h.cells (g:=g) rfl j u hj
  rwa [add_addr5] at this
end Go.Proofs.YtlnecfjnffdciabGreat
