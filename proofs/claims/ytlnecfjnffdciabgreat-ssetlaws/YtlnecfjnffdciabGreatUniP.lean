import Derived.Test.YtlnecfjnffdciabGreatToldM
import Derived.Test.YtlnecfjnffdciabGreatVSort
namespace Go.Proofs.YtlnecfjnffdciabGreat
open Go.RowKit Go.Shelf
def ofK (q:Nat) (qs:List PP):List PT:=(kyd (cmpO q) (qs.length+1) qs).map trT
theorem ofErr_zero {d:Nat} {o:Int} {l:List PT} (h:ofErr d o l=0):(0≤o∧o<6)∧pErr d l=0:=by
 unfold ofErr zak at h
 by_cases ho:o<0∨6≤o
 ·rw [if_pos ho,if_pos (by decide)] at h;cases h
 ·rw [if_neg ho,if_neg (by decide)] at h;exact⟨by omega,h⟩
def ofL (q:Nat) (l:List PT):List PT:=kyd (byK q) (l.length+1) l
theorem ofK_is (q:Nat) (qs:List PP):ofK q qs=ofL q (qs.map trT):=by
 unfold ofK ofL
 rw [List.length_map,kyd_map trT (cmpO q) (byK q) (fun _ _=>rfl)]
theorem byK_3 (q:Nat):Cmp3 (byK q):=by
 have h:=byK_cmp q
 refine⟨fun x y=>zaz q x.1 y.1,fun a b c h1 h2=>?_,fun a b c h1 h2=>?_,fun a b c h1 h2=>?_⟩
 ·exact RT.Cmp.trans' h h1 h2
 ·exact h.trans a b c h1 h2
 ·by_cases hn:byK q a c≤0
  ·exact hn
  ·exfalso
   have e1:byK q c a<0:=(h.flip _ _).2 (by omega)
   have e2:byK q c b<0:=RT.Cmp.trans' h e1 h1
   have e3:0<byK q b c:=(h.flip _ _).1 e2
   omega
theorem ofL_rises (q:Nat) (l:List PT):RT.Rises (byK q) (ofL q l):=(kyd_spec (byK_3 q) (l.length+1) l (by omega)).1
def uniL (q:Nat) (la lb:List PT):List PT:=ofL q (la++lb)
def uniE (l:List PT):Int:=if 65536<l.length then 2 else 0
theorem lst_append {α:Type} (a b:List α):lst (a++b)=if b=[] then lst a else lst b:=by
 by_cases hb:b=[]
 ·rw [if_pos hb,hb,List.append_nil]
 ·rw [if_neg hb]
  unfold lst
  rw [List.getLast?_append]
  cases h:b.getLast? with
  | none=>exact absurd (List.getLast?_eq_none_iff.1 h) hb
  | some x=>rfl
theorem apart_sim {q:Nat} {l:List PT} (h:l.Pairwise (fun a b=>byK q a b≠0)):l.Pairwise (fun a b=>sim (ltI (byK q)) a b=false):=
 h.imp fun {a b} h9=>by rw [sim_zero (byK_3 q)];exact decide_eq_false h9
theorem uniL_mem {q:Nat} {la lb:List PT} (ha:la.Pairwise (fun a b=>byK q a b≠0)) (hb:lb.Pairwise (fun a b=>byK q a b≠0)) (y:PT):y∈uniL q la lb↔y∈lb∨(y∈la∧∀x∈lb,byK q x y≠0):=by
 have hw:=(byK_3 q).weak
 have hsym:∀a b,sim (ltI (byK q)) a b=sim (ltI (byK q)) b a:=fun a b=>by unfold sim;rw [Bool.and_comm]
 have hz:=sim_zero (byK_3 q)
 have ht:=(byK_3 q).turn
 show y∈kyd (byK q) ((la++lb).length+1) (la++lb)↔_
 rw [kyd_mem_iff (byK_3 q) _ _ (by omega),List.filter_append,lst_append]
 by_cases hlb:lb.filter (sim (ltI (byK q)) y)=[]
 ·rw [if_pos hlb]
  have hno:∀x∈lb,byK q x y≠0:=fun x hx h0=>by
   have h9:=List.filter_eq_nil_iff.1 hlb x hx
   rw [hz] at h9
   exact h9 (decide_eq_true (by have:=ht x y;omega))
  have hyb:y ∉ lb:=fun hy=>hno y hy (by have:=ht y y;omega)
  constructor
  ·intro h
   exact .inr ⟨(List.mem_filter.1 (lst_mem h)).1,hno⟩
  ·rintro (h|⟨h,_⟩)
   ·exact absurd h hyb
   ·rw [filter_one (f:=sim (ltI (byK q))) (fun a=>sim_self hw a) hsym la (apart_sim ha) y h]
    exact List.mem_singleton.2 rfl
 ·rw [if_neg hlb]
  constructor
  ·intro h
   exact .inl (List.mem_filter.1 (lst_mem h)).1
  ·rintro (h|⟨_,h⟩)
   ·rw [filter_one (f:=sim (ltI (byK q))) (fun a=>sim_self hw a) hsym lb (apart_sim hb) y h]
    exact List.mem_singleton.2 rfl
   ·exfalso
    apply hlb
    rw [List.filter_eq_nil_iff]
    intro x hx h9
    rw [hz] at h9
    have:=of_decide_eq_true h9
    exact h x hx (by have:=ht x y;omega)
theorem rises_apartT {q r:Nat} {l:List PT} (hg:∀x∈l,Good 16 x.1) (h:RT.Rises (byK r) l):l.Pairwise (fun a b=>byK q a b≠0):=by
 have h1:l.Pairwise (fun a b=>byK r a b<0):=h
 refine h1.imp_of_mem fun {a b} ha hb hab h9=>?_
 have h8:ordV r a.1 b.1=0:=(ordV_zero r (hg a ha) (hg b hb)).2 ((ordV_zero q (hg a ha) (hg b hb)).1 h9)
 have h7:ordV r a.1 b.1<0:=hab
 omega
theorem union_uniL {q r:Nat} {s ta:RT PT} {lb:List PT} (hs:RT.Rises (byK q) s.items) (ha:RT.Rises (byK q) ta.items) (hm:∀y,y∈s.items↔y∈lb) (hb:RT.Rises (byK r) lb) (hga:∀x∈ta.items,Good 16 x.1) (hgb:∀x∈lb,Good 16 x.1):(RT.union (byK q) s ta).items=uniL q ta.items lb:=by
 refine RT.rises_eq (byK_cmp q) _ _ (RT.union_rises (byK_cmp q) s ta hs ha) (ofL_rises q _) fun y=>?_
 rw [RT.mem_union (byK_cmp q) s ta hs ha,uniL_mem (rises_apartT hga ha) (rises_apartT hgb hb),hm y]
 simp only [hm]
end Go.Proofs.YtlnecfjnffdciabGreat
