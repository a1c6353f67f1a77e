import Derived.Test.YtlnecfjnffdciabGreatBuildS
import Derived.Shelf.SlSortCmp.NoneTotal
import Derived.Test.YtlnecfjnffdciabGreatTold
namespace Go.Proofs.YtlnecfjnffdciabGreat
open Go.RowKit Go.Shelf
def ofK (q:Nat) (qs:List PP):List PT:=(kyd (cmpO q) (qs.length+1) qs).map trT
theorem ofErr_zero {d:Nat} {o:Int} {l:List PT} (h:ofErr d o l=0):(0≤o∧o<6)∧pErr d l=0:=by
 unfold ofErr zal at h
 by_cases ho:o<0∨6≤o
 ·rw [if_pos ho,if_pos (by decide)] at h;cases h
 ·rw [if_neg ho,if_neg (by decide)] at h;exact⟨by omega,h⟩
def ofL (q:Nat) (l:List PT):List PT:=kyd (byK q) (l.length+1) l
theorem ofK_is (q:Nat) (qs:List PP):ofK q qs=ofL q (qs.map trT):=by
 unfold ofK ofL
 rw [List.length_map,kyd_map trT (cmpO q) (byK q) (fun _ _=>rfl)]
theorem byK_3 (q:Nat):Cmp3 (byK q):=by
 have h:=zbd q
 refine⟨fun x y=>zas q x.1 y.1,fun a b c h1 h2=>?_,fun a b c h1 h2=>?_,fun a b c h1 h2=>?_⟩
 ·exact RT.Cmp.trans' h h1 h2
 ·exact h.trans a b c h1 h2
 ·by_cases hn:byK q a c≤0
  ·exact hn
  ·exfalso
   have e1:byK q c a<0:=(h.flip _ _).2 (by omega)
   have e2:byK q c b<0:=RT.Cmp.trans' h e1 h1
   have e3:0<byK q b c:=(h.flip _ _).1 e2
   omega
theorem ofL_rises (q:Nat) (l:List PT):RT.Rises (byK q) (ofL q l):=(kyd_spec (byK_3 q) (l.length+1) l (by omega)).1
def uniL (q:Nat) (la lb:List PT):List PT:=ofL q (la++lb)
def uniE (l:List PT):Int:=if 65536<l.length then 2 else 0
theorem lst_append {α:Type} (a b:List α):lst (a++b)=if b=[] then lst a else lst b:=by
 by_cases hb:b=[]
 ·rw [if_pos hb,hb,List.append_nil]
 ·rw [if_neg hb]
  unfold lst
  rw [List.getLast?_append]
  cases h:b.getLast? with
  | none=>exact absurd (List.getLast?_eq_none_iff.1 h) hb
  | some x=>rfl
theorem apart_sim {q:Nat} {l:List PT} (h:l.Pairwise (fun a b=>byK q a b≠0)):l.Pairwise (fun a b=>sim (ltI (byK q)) a b=false):=
 h.imp fun {a b} h9=>by rw [sim_zero (byK_3 q)];exact decide_eq_false h9
theorem uniL_mem {q:Nat} {la lb:List PT} (ha:la.Pairwise (fun a b=>byK q a b≠0)) (hb:lb.Pairwise (fun a b=>byK q a b≠0)) (y:PT):y∈uniL q la lb↔y∈lb∨(y∈la∧∀x∈lb,byK q x y≠0):=by
 have hw:=(byK_3 q).weak
 have hsym:∀a b,sim (ltI (byK q)) a b=sim (ltI (byK q)) b a:=fun a b=>by unfold sim;rw [Bool.and_comm]
 have hz:=sim_zero (byK_3 q)
 have ht:=(byK_3 q).turn
 show y∈kyd (byK q) ((la++lb).length+1) (la++lb)↔_
 rw [kyd_mem_iff (byK_3 q) _ _ (by omega),List.filter_append,lst_append]
 by_cases hlb:lb.filter (sim (ltI (byK q)) y)=[]
 ·rw [if_pos hlb]
  have hno:∀x∈lb,byK q x y≠0:=fun x hx h0=>by
   have h9:=List.filter_eq_nil_iff.1 hlb x hx
   rw [hz] at h9
   exact h9 (decide_eq_true (by have:=ht x y;omega))
  have hyb:y ∉ lb:=fun hy=>hno y hy (by have:=ht y y;omega)
  constructor
  ·intro h
   exact .inr ⟨(List.mem_filter.1 (lst_mem h)).1,hno⟩
  ·rintro (h|⟨h,_⟩)
   ·exact absurd h hyb
   ·rw [filter_one (f:=sim (ltI (byK q))) (fun a=>zbb hw a) hsym la (apart_sim ha) y h]
    exact List.mem_singleton.2 rfl
 ·rw [if_neg hlb]
  constructor
  ·intro h
   exact .inl (List.mem_filter.1 (lst_mem h)).1
  ·rintro (h|⟨_,h⟩)
   ·rw [filter_one (f:=sim (ltI (byK q))) (fun a=>zbb hw a) hsym lb (apart_sim hb) y h]
    exact List.mem_singleton.2 rfl
   ·exfalso
    apply hlb
    rw [List.filter_eq_nil_iff]
    intro x hx h9
    rw [hz] at h9
    have:=of_decide_eq_true h9
    exact h x hx (by have:=ht x y;omega)
theorem rises_apartT {q r:Nat} {l:List PT} (hg:∀x∈l,Good 16 x.1) (h:RT.Rises (byK r) l):l.Pairwise (fun a b=>byK q a b≠0):=by
 have h1:l.Pairwise (fun a b=>byK r a b<0):=h
 refine h1.imp_of_mem fun {a b} ha hb hab h9=>?_
 have h8:ordV r a.1 b.1=0:=(zax r (hg a ha) (hg b hb)).2 ((zax q (hg a ha) (hg b hb)).1 h9)
 have h7:ordV r a.1 b.1<0:=hab
 omega
theorem union_uniL {q r:Nat} {s ta:RT PT} {lb:List PT} (hs:RT.Rises (byK q) s.items) (ha:RT.Rises (byK q) ta.items) (hm:∀y,y∈s.items↔y∈lb) (hb:RT.Rises (byK r) lb) (hga:∀x∈ta.items,Good 16 x.1) (hgb:∀x∈lb,Good 16 x.1):(RT.union (byK q) s ta).items=uniL q ta.items lb:=by
 refine RT.rises_eq (zbd q) _ _ (RT.union_rises (zbd q) s ta hs ha) (ofL_rises q _) fun y=>?_
 rw [RT.mem_union (zbd q) s ta hs ha,uniL_mem (rises_apartT hga ha) (rises_apartT hgb hb),hm y]
 simp only [hm]
theorem sub_len {α:Type}:∀(l m:List α),l.Nodup→(∀x∈l,x∈m)→l.length≤m.length∧(m.length≤l.length→∀x∈m,x∈l)
 | [],m,_,_=>⟨Nat.zero_le _,fun h x hx=>by rw [List.eq_nil_of_length_eq_zero (Nat.le_zero.1 h)] at hx;cases hx⟩
 | a::l,m,hd,hs=>by
  classical
  have hd':=List.nodup_cons.1 hd
  have ha:a∈m:=hs a List.mem_cons_self
  have hlen:=List.length_erase_of_mem ha
  have hpos:0<m.length:=List.length_pos_of_mem ha
  obtain⟨h1,h2⟩:=sub_len l (m.erase a) hd'.2 (fun x hx=>by
   have hne:x≠a:=fun e=>hd'.1 (e ▸ hx)
   exact (List.mem_erase_of_ne hne).2 (hs x (List.mem_cons_of_mem _ hx)))
  refine⟨by rw [List.length_cons];omega,fun hle x hx=>?_⟩
  by_cases hxa:x=a
  ·rw [hxa];exact List.mem_cons_self
  ·exact List.mem_cons_of_mem _ (h2 (by rw [List.length_cons] at hle;omega) x ((List.mem_erase_of_ne hxa).2 hx))
def hasP (r:Nat) (lb:List PT) (x:PT):Bool:=match findK r x.1 lb with|some z=>cmpV 16 z.2 x.2==0|none=>false
def eqS (r:Nat) (la lb:List PT):Bool:=decide (la.length=lb.length)&&la.all (hasP r lb)
theorem hasP_iff {r:Nat} {lb:List PT} (hr:RT.Rises (byK r) lb) (hg:∀x∈lb,Good 16 x.1∧Good 16 x.2) (x:PT) (hx:Good 16 x.1∧Good 16 x.2):hasP r lb x=true↔x∈lb:=by
 have hw:=(byK_3 r).weak
 have hsym:∀a b,sim (ltI (byK r)) a b=sim (ltI (byK r)) b a:=fun a b=>by unfold sim;rw [Bool.and_comm]
 unfold hasP
 constructor
 ·intro h
  cases hf:findK r x.1 lb with
  | none=>rw [hf] at h;cases h
  | some z=>
   rw [hf] at h
   have hz:z∈lb:=List.mem_of_find?_eq_some hf
   have h9:=List.find?_some (p:=fun a=>decide (atK r x.1 a=0)) hf
   have h0:ordV r x.1 z.1=0:=of_decide_eq_true h9
   have e1:x.1=z.1:=good_eq hx.1 (hg z hz).1 ((zax r hx.1 (hg z hz).1).1 h0)
   have e2:z.2=x.2:=good_eq (hg z hz).2 hx.2 (by simpa using h)
   have:x=z:=Prod.ext e1 e2.symm
   rw [this];exact hz
 ·intro h
  cases hf:findK r x.1 lb with
  | none=>
   have h9:=List.find?_eq_none.1 hf x h
   exact absurd (decide_eq_true (show atK r x.1 x=0 from (byK_3 r).self x)) h9
  | some z=>
   have hz:z∈lb:=List.mem_of_find?_eq_some hf
   have h9:=List.find?_some (p:=fun a=>decide (atK r x.1 a=0)) hf
   have h0:byK r x z=0:=of_decide_eq_true h9
   have h1:=filter_one (f:=sim (ltI (byK r))) (fun a=>zbb hw a) hsym lb (apart_sim (rises_apartT (fun y hy=>(hg y hy).1) hr)) x h
   have h2:z∈lb.filter (sim (ltI (byK r)) x):=List.mem_filter.2 ⟨hz,by rw [sim_zero (byK_3 r)];exact decide_eq_true h0⟩
   rw [h1] at h2
   obtain rfl:=List.mem_singleton.1 h2
   show (cmpV 16 z.2 z.2==0)=true
   rw [cmpV_self];rfl
theorem nodup_apart {q:Nat} {l:List PT} (h:l.Pairwise (fun a b=>byK q a b≠0)):l.Nodup:=
 h.imp fun {a b} h9 e=>h9 (by rw [e];exact (byK_3 q).self b)
theorem eqS_iff {q r:Nat} {la lb:List PT} (ha:RT.Rises (byK q) la) (hb:RT.Rises (byK r) lb) (hga:∀x∈la,Good 16 x.1∧Good 16 x.2) (hgb:∀x∈lb,Good 16 x.1∧Good 16 x.2):eqS r la lb=true↔∀y,y∈la↔y∈lb:=by
 have na:=nodup_apart (rises_apartT (q:=q) (fun y hy=>(hga y hy).1) ha)
 have nb:=nodup_apart (rises_apartT (q:=q) (fun y hy=>(hgb y hy).1) hb)
 unfold eqS
 rw [Bool.and_eq_true,decide_eq_true_eq,List.all_eq_true]
 constructor
 ·rintro ⟨hl,h⟩ y
  have hs:∀x∈la,x∈lb:=fun x hx=>(hasP_iff hb hgb x (hga x hx)).1 (h x hx)
  exact⟨hs y,(sub_len la lb na hs).2 (by omega) y⟩
 ·intro h
  have h1:=(sub_len la lb na (fun x hx=>(h x).1 hx)).1
  have h2:=(sub_len lb la nb (fun x hx=>(h x).2 hx)).1
  exact⟨by omega,fun x hx=>(hasP_iff hb hgb x (hga x hx)).2 ((h x).1 hx)⟩
end Go.Proofs.YtlnecfjnffdciabGreat
