import Derived.Test.YtlnecfjnffdciacGreatManyLaw
import Derived.Deep.CutBlock
namespace Go.Proofs.YtlnecfjnffdciacGreat
open Go.RowKit Go.Shelf
def cmpO (q:Nat) (a b:PP):Int:=ordV q a.1.1 b.1.1
theorem cmpO_3 (q:Nat):Cmp3 (cmpO q):=by
 have h:=byK_cmp q
 refine⟨fun x y=>zai q x.1.1 y.1.1,fun a b c h1 h2=>?_,fun a b c h1 h2=>?_,fun a b c h1 h2=>?_⟩
 ·exact RT.Cmp.trans' h (a:=trT a) (b:=trT b) (c:=trT c) h1 h2
 ·exact h.trans (trT a) (trT b) (trT c) h1 h2
 ·by_cases hn:cmpO q a c≤0
  ·exact hn
  ·exfalso
   have e1:byK q (trT c) (trT a)<0:=(h.flip _ _).2 (by show 0<cmpO q a c;omega)
   have e2:byK q (trT c) (trT b)<0:=RT.Cmp.trans' h e1 h1
   have e3:0<byK q (trT b) (trT c):=(h.flip _ _).1 e2
   have e4:byK q (trT b) (trT c)≤0:=h2
   omega
theorem lst_mem {α:Type} {l:List α} {z:α} (h:z∈lst l):z∈l:=by
 unfold lst at h
 cases hl:l.getLast? with
 | none=>rw [hl] at h;cases h
 | some x=>
  rw [hl] at h
  obtain rfl:z=x:=List.mem_singleton.1 h
  exact List.mem_of_getLast? hl
theorem kyd_mem_iff {α:Type} {cf:α→α→Int} (h:Cmp3 cf) (n:Nat) (l:List α) (hn:l.length≤n) (z:α):z∈kyd cf n l↔z∈lst (l.filter (sim (ltI cf) z)):=by
 have h1:=(kyd_spec h n l hn).2 z
 constructor
 ·intro hz
  rw [←h1]
  exact List.mem_filter.2 ⟨hz,sim_self h.weak z⟩
 ·intro hz
  rw [←h1] at hz
  exact (List.mem_filter.1 hz).1
theorem sim_zero {α:Type} {cf:α→α→Int} (h:Cmp3 cf) (a b:α):sim (ltI cf) a b=decide (cf a b=0):=by
 have ht:=h.turn a b
 rw [Bool.eq_iff_iff,sim_iff,decide_eq_true_eq]
 constructor
 ·rintro ⟨h1,h2⟩
  have a1 : ¬cf a b<0:=of_decide_eq_false h1
  have a2 : ¬cf b a<0:=of_decide_eq_false h2
  omega
 ·intro h0
  exact⟨decide_eq_false (by omega),decide_eq_false (by omega)⟩
theorem kyd_same {α:Type} {cf cg:α→α→Int} (h:Cmp3 cf) (g:Cmp3 cg) (n m:Nat) (l:List α) (hn:l.length≤n) (hm:l.length≤m) (he:∀a∈l,∀b∈l,cf a b=0↔cg a b=0) (z:α):z∈kyd cf n l↔z∈kyd cg m l:=by
 rw [kyd_mem_iff h n l hn,kyd_mem_iff g m l hm]
 by_cases hz:z∈l
 ·have e:l.filter (sim (ltI cf) z)=l.filter (sim (ltI cg) z):=by
   apply List.filter_congr
   intro x hx
   rw [sim_zero h,sim_zero g]
   exact decide_eq_decide.2 (he z hz x hx)
  rw [e]
 ·exact⟨fun k=>absurd (List.mem_filter.1 (lst_mem k)).1 hz,fun k=>absurd (List.mem_filter.1 (lst_mem k)).1 hz⟩
theorem kydO_mem {q:Nat} {qs:List PP} (hg:∀p∈qs,Good 16 p.1.1) (n m:Nat) (hn:qs.length≤n) (hm:qs.length≤m) (z:PP):z∈kyd (cmpO q) n qs↔z∈kyd (cmpQ 16) m qs:=
 kyd_same (cmpO_3 q) (cmp3Q 16) n m qs hn hm (fun a ha b hb=>ordV_zero q (hg a ha) (hg b hb)) z
theorem kydO_rises {q:Nat} {qs:List PP} (n:Nat) (hn:qs.length≤n):RT.Rises (byK q) ((kyd (cmpO q) n qs).map trT):=by
 have h:(kyd (cmpO q) n qs).Pairwise (fun a b=>cmpO q a b<0):=(kyd_spec (cmpO_3 q) n qs hn).1
 show ((kyd (cmpO q) n qs).map trT).Pairwise (fun a b=>byK q a b<0)
 rw [List.pairwise_map]
 exact h
theorem kydO_eq {q:Nat} {qs:List PP} (hg:∀p∈qs,Good 16 p.1.1) (n m:Nat) (hn:qs.length≤n) (hm:qs.length≤m) {l:List PT} (hl:RT.Rises (byK q) l) (h:∀y,y∈l↔y∈(kyd (cmpQ 16) m qs).map trT):l=(kyd (cmpO q) n qs).map trT:=by
 refine RT.rises_eq (byK_cmp q) _ _ hl (kydO_rises n hn) fun y=>?_
 rw [h y,List.mem_map,List.mem_map]
 constructor
 ·rintro ⟨p,hp,rfl⟩
  exact⟨p,(kydO_mem hg n m hn hm p).2 hp,rfl⟩
 ·rintro ⟨p,hp,rfl⟩
  exact⟨p,(kydO_mem hg n m hn hm p).1 hp,rfl⟩
end Go.Proofs.YtlnecfjnffdciacGreat
