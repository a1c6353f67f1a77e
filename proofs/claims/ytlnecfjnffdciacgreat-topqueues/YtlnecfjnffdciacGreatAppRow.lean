import Derived.Test.YtlnecfjnffdciacGreatRotate
import Derived.Lib.AppendZeros
namespace Go.Proofs.YtlnecfjnffdciacGreat
open Go.RowKit
theorem add_addr5 (b o j:Nat):(⟨b,o,none⟩:Addr).add j=⟨b,o+j,none⟩:=by
 unfold Addr.add
 by_cases hk:j=0
 ·subst hk;rfl
 ·rw [if_neg hk]
theorem zak {w wr w2:World} {M:Nat} {ty sz:Nat} {v:Value} {n:Nat} {xs:List Value} (hb:Below M w wr) (hM:M≤wr.heap.size) (hown:wr.ownsRow M ty sz v n xs) (hgrow:wr.grownBy w2 v.ownBlock):Below M w w2:=
 hb.grown hgrow hM (by
  intro k hk
  rcases hown.2 with ⟨hv,_⟩|⟨g,cap',cur,hv,hbs,_⟩
  ·rw [hv] at hk;cases hk
  ·rw [hv] at hk
   simp only [Value.ownBlock,Option.some.injEq] at hk
   omega)
theorem own_lies {w:World} {base d:Nat} {v:Value} {n:Nat} {ps:List (VT×Value)} (hn:n=ps.length) (h:w.ownsRow base 24 4 v n (ps.flatMap encP)) (hs:∀p∈ps,Sound d w p) (hl:ps.length≤9223372036854775807):Lies (d+1) w (ps.map (·.1)) v:=by
 subst hn
 by_cases hne:ps=[]
 ·subst hne
  rcases h.2 with ⟨rfl,_⟩|⟨g,cap,cur,rfl,_⟩
  ·exact⟨none,0,rfl,by simp,fun h=>absurd rfl h⟩
  ·exact⟨_,cap,rfl,by simp,fun h=>absurd rfl h⟩
 ·obtain⟨g,cap,rfl,_,hcap,_,hrow,_⟩:=own_row h hne
  exact lies_of_row hrow hs hl hcap
def SlP (base d:Nat) (w:World) (ps:List (VT×Value)) (v:Value):Prop:=
 ∃a c,v=.slice a ps.length c∧ps.length≤c∧ps.length≤9223372036854775807∧(ps≠[]→∃b o,a=some ⟨b,o,none⟩∧base≤b∧RowAt w b o ps)∧∀p∈ps,Sound d w p
theorem SlP.keeps {base d:Nat} {w w':World} {ps:List (VT×Value)} {v:Value} (h:SlP base d w ps v) (hb:Below w.heap.size w w'):SlP base d w' ps v:=by
 obtain⟨a,c,hv,h1,h2,h3,h4⟩:=h
 refine⟨a,c,hv,h1,h2,fun hne=>?_,fun p hp=>(h4 p hp).keeps hb⟩
 obtain⟨b,o,ha,hbb,hr⟩:=h3 hne
 exact⟨b,o,ha,hbb,hr.keeps hb⟩
theorem SlP.mono {base base' d:Nat} {w:World} {ps:List (VT×Value)} {v:Value} (h:SlP base d w ps v) (hb:base'≤base):SlP base' d w ps v:=by
 obtain⟨a,c,hv,h1,h2,h3,h4⟩:=h
 refine⟨a,c,hv,h1,h2,fun hne=>?_,h4⟩
 obtain⟨b,o,ha,hbb,hr⟩:=h3 hne
 exact⟨b,o,ha,by omega,hr⟩
theorem SlP.of_lies {d:Nat} {w:World} {l:List VT} {v:Value} (h:Lies (d+1) w l v):∃ps,ps.map (·.1)=l∧ps.length=l.length∧SlP 0 d w ps v:=by
 obtain⟨a0,c0,e0,hc0,_⟩:=id h
 obtain⟨a,c,e,_,ps,hps,hsd,hrow⟩:=Lies.row h
 have hlen:ps.length=l.length:=by rw [←hps];simp
 have hcc:c0=c:=by rw [e] at e0;injection e0 with _ _ e3;exact e3.symm
 refine⟨ps,hps,hlen,a,c,by rw [e,hlen],by rw [hlen,←hcc];exact hc0.1,by rw [hlen];exact hc0.2,fun hne=>?_,hsd⟩
 obtain⟨b,o,ha,hr⟩:=hrow (fun e=>hne (List.eq_nil_of_length_eq_zero (by rw [hlen,e];rfl)))
 exact⟨b,o,ha,Nat.zero_le _,hr⟩
theorem SlP.lies {base d:Nat} {w:World} {ps:List (VT×Value)} {v:Value} (h:SlP base d w ps v):Lies (d+1) w (ps.map (·.1)) v:=by
 obtain⟨a,c,rfl,h1,h2,h3,h4⟩:=h
 by_cases hne:ps=[]
 ·subst hne
  exact⟨a,c,rfl,by simp,fun h=>absurd rfl h⟩
 ·obtain⟨b,o,rfl,_,hr⟩:=h3 hne
  exact lies_of_row hr h4 h2 h1
theorem SlP.of_own {w:World} {base d:Nat} {v:Value} {n:Nat} {ps:List (VT×Value)} (hn:n=ps.length) (h:w.ownsRow base 24 4 v n (ps.flatMap encP)) (hs:∀p∈ps,Sound d w p) (hl:ps.length≤9223372036854775807):SlP base d w ps v:=by
 subst hn
 by_cases hne:ps=[]
 ·subst hne
  rcases h.2 with ⟨rfl,_⟩|⟨g,cap,cur,rfl,_⟩
  ·exact⟨none,0,rfl,by simp,by simp,(fun h=>absurd rfl h),hs⟩
  ·exact⟨_,cap,rfl,by simp,by simp,(fun h=>absurd rfl h),hs⟩
 ·obtain⟨g,cap,rfl,hb,hcap,_,hrow,_⟩:=own_row h hne
  exact⟨_,cap,rfl,hcap,hl,(fun _=>⟨g,0,rfl,hb,hrow⟩),hs⟩
theorem SlP.slice {base d:Nat} {w:World} {ps:List (VT×Value)} {v:Value} (h:SlP base d w ps v):∃a c,v=.slice a ps.length c∧ps.length≤c:=by
 obtain⟨a,c,hv,h1,_⟩:=h
 exact⟨a,c,hv,h1⟩
theorem SlP.some {base d:Nat} {w:World} {ps:List (VT×Value)} {v:Value} (h:SlP base d w ps v) (hne:ps≠[]):∃b o c,v=.slice (some ⟨b,o,none⟩) ps.length c∧ps.length≤c∧RowAt w b o ps∧∀p∈ps,Sound d w p:=by
 obtain⟨a,c,hv,h1,_,h3,h4⟩:=h
 obtain⟨b,o,ha,_,hr⟩:=h3 hne
 exact⟨b,o,c,by rw [hv,ha],h1,hr,h4⟩
end Go.Proofs.YtlnecfjnffdciacGreat
