import Derived.Test.YtlnecfjnffdciabGreatLiesX
import Derived.Deep.AppendLies
import Derived.Deep.RegionLaw
namespace Go.Proofs.YtlnecfjnffdciabGreat
open Go.RowKit
theorem own_put23 {w:World} {base g cap k:Nat} {xs:List Value} {t:VT} {u:Value} (h:w.ownsRow base 33 4 (.slice (some ⟨g,0,none⟩) (k+1) cap) (k+1) (xs++[.int .i64 0,.int .i64 0,.string ⟨#[]⟩,.slice none 0 0])) (hx:xs.length=k*4) :
 (w.setCells g (k*4) (encP (t,u))).ownsRow base 33 4 (.slice (some ⟨g,0,none⟩) (k+1) cap) (k+1) (xs++encP (t,u)):=by
 have h1:=((((h.stored (k*4) (.int .i64 t.kind)).1.stored (k*4+1) (.int .i64 t.num)).1.stored (k*4+1+1) (.string t.text)).1.stored (k*4+1+1+1) u).1
 have e:((((xs++[Value.int .i64 0,Value.int .i64 0,Value.string ⟨#[]⟩,Value.slice none 0 0]).set (k*4) (.int .i64 t.kind)).set (k*4+1) (.int .i64 t.num)).set (k*4+1+1) (.string t.text)).set (k*4+1+1+1) u=xs++encP (t,u):=by
  rw [←hx,List.set_append_right _ _ (by omega),List.set_append_right _ _ (by omega),List.set_append_right _ _ (by omega),List.set_append_right _ _ (by omega)]
  simp only [Nat.sub_self,show xs.length+1-xs.length=1 by omega,show xs.length+1+1-xs.length=2 by omega,show xs.length+1+1+1-xs.length=3 by omega]
  rfl
 rw [e] at h1
 exact h1
theorem set4_cell {w:World} {g o:Nat} {x:VT} {u:Value} {a:Addr} {v:Value} (hne:a.block≠g) (h:w.cell? a=some v):(w.setCells g o (encP (x,u))).cell? a=some v:=by
 have hs:∀(w:World) (j:Nat) (u:Value),w.cell? a=some v→(w.setCell ⟨g,j,none⟩ u).cell? a=some v:=fun w j u h=>by
  rw [World.cell?_setCell_other _ _ _ _ (fun e=>hne (by rw [←e]))];exact h
 exact hs _ _ _ (hs _ _ _ (hs _ _ _ (hs _ _ _ h)))
theorem own_liesX {X:Nat→Prop} {w:World} {base d n:Nat} {v:Value} {ps:List (VT×Value)} (h:w.ownsRow base 33 4 v n (ps.flatMap encP)) (hn:n=ps.length) (hX:∀g,v.ownBlock=some g→X g) (hp:∀p∈ps,LiesX X d w p.1.items p.2∧p.1.text.size≤9223372036854775807) (hl:ps.length≤9223372036854775807):LiesX X (d+1) w (ps.map (·.1)) v:=by
 subst hn
 by_cases hne:ps=[]
 ·subst hne
  rcases h.2 with ⟨rfl,_⟩|⟨g,cap,cur,rfl,_⟩
  ·exact⟨none,0,rfl,by simp,fun h=>absurd rfl h⟩
  ·exact⟨_,cap,rfl,by simp,fun h=>absurd rfl h⟩
 ·obtain⟨g,cap,rfl,_,hcap,_,hrow,_⟩:=own_row h hne
  refine⟨_,cap,by rw [List.length_map],by rw [List.length_map];exact⟨hcap,hl⟩,fun _=>⟨g,0,rfl,hX g rfl,fun i hi=>?_⟩⟩
  rw [List.length_map] at hi
  obtain⟨p0,p1,p2,p3⟩:=hrow i hi
  refine⟨ps[i].2,?_⟩
  rw [List.getElem_map]
  exact⟨p0,p1,p2,p3,(hp _ (List.getElem_mem hi)).1,(hp _ (List.getElem_mem hi)).2⟩
end Go.Proofs.YtlnecfjnffdciabGreat
