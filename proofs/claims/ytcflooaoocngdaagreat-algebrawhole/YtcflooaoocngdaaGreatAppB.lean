import Derived.Test.YtcflooaoocngdaaGreatRowX
import Derived.Deep.AppendLies
import Derived.Deep.RegionLaw
namespace Go.Proofs.YtcflooaoocngdaaGreat
open Go.RowKit
theorem own_put23 {w:World} {base g cap k:Nat} {xs:List Value} {t:VT} {u:Value} (h:w.ownsRow base 27 4 (.slice (some ⟨g,0,none⟩) (k+1) cap) (k+1) (xs++[.int .i64 0,.int .i64 0,.string ⟨#[]⟩,.slice none 0 0])) (hx:xs.length=k*4) :
 (w.setCells g (k*4) (encP (t,u))).ownsRow base 27 4 (.slice (some ⟨g,0,none⟩) (k+1) cap) (k+1) (xs++encP (t,u)):=by
 have h1:=((((h.stored (k*4) (.int .i64 t.kind)).1.stored (k*4+1) (.int .i64 t.num)).1.stored (k*4+1+1) (.string t.text)).1.stored (k*4+1+1+1) u).1
 have e:((((xs++[Value.int .i64 0,Value.int .i64 0,Value.string ⟨#[]⟩,Value.slice none 0 0]).set (k*4) (.int .i64 t.kind)).set (k*4+1) (.int .i64 t.num)).set (k*4+1+1) (.string t.text)).set (k*4+1+1+1) u=xs++encP (t,u):=by
  rw [←hx,List.set_append_right _ _ (by omega),List.set_append_right _ _ (by omega),List.set_append_right _ _ (by omega),List.set_append_right _ _ (by omega)]
  simp only [Nat.sub_self,show xs.length+1-xs.length=1 by omega,show xs.length+1+1-xs.length=2 by omega,show xs.length+1+1+1-xs.length=3 by omega]
  rfl
 rw [e] at h1
 exact h1
theorem KC.put4 {B:Nat→Prop} {w w1:World} (k:KC B w w1) {g o:Nat} (hg:B g∨w.heap.size≤g) (x:VT) (u:Value):KC B w (w1.setCells g o (encP (x,u))):=
 (((k.set hg _).set hg _).set hg _).set hg _
theorem set4_cell {w:World} {g o:Nat} {x:VT} {u:Value} {a:Addr} {v:Value} (hne:a.block≠g) (h:w.cell? a=some v):(w.setCells g o (encP (x,u))).cell? a=some v:=by
 have hs:∀(w:World) (j:Nat) (u:Value),w.cell? a=some v→(w.setCell ⟨g,j,none⟩ u).cell? a=some v:=fun w j u h=>by
  rw [World.cell?_setCell_other _ _ _ _ (fun e=>hne (by rw [←e]))];exact h
 exact hs _ _ _ (hs _ _ _ (hs _ _ _ (hs _ _ _ h)))
theorem set4_frozen {w:World} {g o:Nat} {x:VT} {u:Value} {a:Addr}:(w.setCells g o (encP (x,u))).frozen? a=w.frozen? a:=by
 simp [World.setCells,encP]
def T1Post (base b0 k:Nat) (x:VT) (u v:Value) (xs:List Value) (w:World) (e:Ending) (w':World):Prop:=
 e=.returned (.tuple #[])∧∃g cap,w'.cell? ⟨b0,0,none⟩=some (.slice (some ⟨g,0,none⟩) (k+1) cap)∧w'.frozen? ⟨b0,0,none⟩=false∧w'.ownsRow base 27 4 (.slice (some ⟨g,0,none⟩) (k+1) cap) (k+1) (xs++encP (x,u))∧KC (fun n=>n=b0∨v.ownBlock=some n) w w'∧(v.ownBlock=some g∨w.heap.size≤g)∧g≠b0
theorem t1_end {base b0 k g cap:Nat} {x:VT} {u v:Value} {xs:List Value} {w w3 Z:World} (hne:g≠b0) (hc:w3.cell? ⟨b0,0,none⟩=some v) (hf:w3.frozen? ⟨b0,0,none⟩=false) (hown:w3.ownsRow base 27 4 (.slice (some ⟨g,0,none⟩) (k+1) cap) (k+1) (xs++[.int .i64 0,.int .i64 0,.string ⟨#[]⟩,.slice none 0 0])) (hx:xs.length=k*4) (hk:KC (fun n=>n=b0∨v.ownBlock=some n) w w3) (hat:v.ownBlock=some g∨w.heap.size≤g)
 (hZ:Z=(w3.setCells g (k*4) (encP (x,u))).setCell ⟨b0,0,none⟩ (.slice (some ⟨g,0,none⟩) (k+1) cap)∨Z=(w3.setCell ⟨b0,0,none⟩ (.slice (some ⟨g,0,none⟩) (k+1) cap)).setCells g (k*4) (encP (x,u))) :
 T1Post base b0 k x u v xs w (.returned (.tuple #[])) Z:=by
 have hg:(g=b0∨v.ownBlock=some g)∨w.heap.size≤g:=by
  rcases hat with h|h
  ·exact .inl (.inr h)
  ·exact .inr h
 refine⟨rfl,g,cap,?_⟩
 rcases hZ with rfl|rfl
 ·refine⟨World.cell?_setCell_same _ _ _ (set4_cell (fun e=>hne e.symm) hc),?_,ownsRow_setCell_other (own_put23 hown hx) (by simp [Value.ownBlock];exact hne) _,(hk.put4 hg x u).set (.inl (.inl rfl)) _,hat,hne⟩
  rw [World.frozen?_setCell,set4_frozen];exact hf
 ·refine⟨set4_cell (fun e=>hne e.symm) (World.cell?_setCell_same _ _ _ hc),?_,own_put23 (ownsRow_setCell_other hown (by simp [Value.ownBlock];exact hne) _) hx,(hk.set (.inl (.inl rfl)) _).put4 hg x u,hat,hne⟩
  rw [set4_frozen,World.frozen?_setCell];exact hf
theorem far23 {W W' w7:World} {v:Value} (hb:Below W.heap.size W W') (hg:W'.grownBy w7 v.ownBlock):KC (fun n=>v.ownBlock=some n) W w7:=
 ⟨hg.os.trans hb.os,hg.tape.trans hb.tape,hg.output.trans hb.output,Nat.le_trans hb.size hg.size,fun j hj hn=>(hg.block j (Nat.lt_of_lt_of_le hj hb.size) (fun e=>hn e.symm)).trans (hb.block j hj)⟩
theorem place23 {w W W':World} {v:Value} {g b0:Nat} (hws:W.heap.size=w.heap.size+1) (hs:W.heap.size≤W'.heap.size) (hb:b0<w.heap.size) (hr:∀g,v.ownBlock=some g→g<w.heap.size∧g≠b0) (hat:v.ownBlock=some g∨g=W'.heap.size):(v.ownBlock=some g∨w.heap.size<g)∧g≠b0∧g≠w.heap.size:=by
 rcases hat with h|h
 ·exact⟨.inl h,(hr g h).2,by have:=(hr g h).1;omega⟩
 ·exact⟨.inr (by omega),by omega,by omega⟩
theorem own_kc {B:Nat→Prop} {w w':World} {base:Nat} {v:Value} {n:Nat} {xs:List Value} (h:w.ownsRow base 27 4 v n xs) (k:KC B w w') (hB:∀g,v.ownBlock=some g→¬B g):w'.ownsRow base 27 4 v n xs:=by
 refine⟨h.1,?_⟩
 rcases h.2 with h2|⟨g,cap,cur,rfl,h3,h4,h5⟩
 ·exact .inl h2
 ·have hlt:g<w.heap.size:=by
   rcases Nat.lt_or_ge g w.heap.size with h|h
   ·exact h
   ·rw [Array.getElem?_eq_none h] at h4;cases h4
  exact .inr ⟨g,cap,cur,rfl,h3,(k.block g hlt (hB g rfl)).trans h4,h5⟩
theorem own_liesX {X:Nat→Prop} {w:World} {base d n:Nat} {v:Value} {ps:List (VT×Value)} (h:w.ownsRow base 27 4 v n (ps.flatMap encP)) (hn:n=ps.length) (hX:∀g,v.ownBlock=some g→X g) (hp:∀p∈ps,LiesX X d w p.1.items p.2∧p.1.text.size≤9223372036854775807) (hl:ps.length≤9223372036854775807):LiesX X (d+1) w (ps.map (·.1)) v:=by
 subst hn
 by_cases hne:ps=[]
 ·subst hne
  rcases h.2 with ⟨rfl,_⟩|⟨g,cap,cur,rfl,_⟩
  ·exact⟨none,0,rfl,by simp,fun h=>absurd rfl h⟩
  ·exact⟨_,cap,rfl,by simp,fun h=>absurd rfl h⟩
 ·obtain⟨g,cap,rfl,_,hcap,_,hrow,_⟩:=own_row h hne
  refine⟨_,cap,by rw [List.length_map],by rw [List.length_map];exact⟨hcap,hl⟩,fun _=>⟨g,0,rfl,hX g rfl,fun i hi=>?_⟩⟩
  rw [List.length_map] at hi
  obtain⟨p0,p1,p2,p3⟩:=hrow i hi
  refine⟨ps[i].2,?_⟩
  rw [List.getElem_map]
  exact⟨p0,p1,p2,p3,(hp _ (List.getElem_mem hi)).1,(hp _ (List.getElem_mem hi)).2⟩
end Go.Proofs.YtcflooaoocngdaaGreat
