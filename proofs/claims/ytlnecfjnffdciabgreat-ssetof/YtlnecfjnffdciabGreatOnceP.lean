import Derived.Test.YtlnecfjnffdciabGreatRotate
import Derived.Test.YtlnecfjnffdciabGreatSameEq
import Derived.Test.YtlnecfjnffdciabGreatPlaceP
namespace Go.Proofs.YtlnecfjnffdciabGreat
open Go.RowKit
theorem lies_dp (d:Nat) (w:World) (t:VT) (u:Value) (h:Lies d w t.items u):Dp d t:=Dp.of_lies d w t u h
def StrictV (d:Nat) (l:List VT):Prop:=l.Pairwise fun x y=>cmpV d x y<0
theorem lt_le {d:Nat} {a b c:VT} (h1:cmpV d a b<0) (h2:cmpV d b c≤0):cmpV d a c<0:=by
 have h:=goes_V d a b c (by omega) h2
 have:cmpV d a c≠0:=fun e=>by have:=(h.2 e).1;omega
 omega
theorem le_lt {d:Nat} {a b c:VT} (h1:cmpV d a b≤0) (h2:cmpV d b c<0):cmpV d a c<0:=by
 have h:=goes_V d a b c h1 (by omega)
 have:cmpV d a c≠0:=fun e=>by have:=(h.2 e).2;omega
 omega
theorem eq_eq {d:Nat} {a b c:VT} (h1:cmpV d a b=0) (h2:cmpV d b c=0):cmpV d a c=0:=by
 have h:=goes_V d a b c (by omega) (by omega)
 have t1:=zag d a b
 have t2:=zag d b c
 have t3:=zag d a c
 have h':=goes_V d c b a (by omega) (by omega)
 omega
theorem uniqFrom_spec (d:Nat):∀(ys:List PR) (prev:PR),((prev::ys).Pairwise fun p q=>cmpV d p.1 q.1≤0)→
 (∀x∈zaj (fun x y=>cmpV d x.1 y.1==0) prev ys,x∈ys)∧(prev::zaj (fun x y=>cmpV d x.1 y.1==0) prev ys).Pairwise (fun p q=>cmpV d p.1 q.1<0)∧
 (∀y∈ys,cmpV d y.1 prev.1=0∨∃x∈zaj (fun x y=>cmpV d x.1 y.1==0) prev ys,cmpV d y.1 x.1=0):=by
 intro ys
 induction ys with
 | nil=>intro prev _;exact⟨(fun x hx=>by cases hx),by simp [zaj],(fun y hy=>by cases hy)⟩
 | cons y r ih=>
  intro prev hp
  have hpy:cmpV d prev.1 y.1≤0:=(List.pairwise_cons.1 hp).1 y List.mem_cons_self
  obtain⟨i1,i2,i3⟩:=ih y (List.pairwise_cons.1 hp).2
  have t1:=zag d prev.1 y.1
  have i2':=List.pairwise_cons.1 i2
  unfold zaj
  by_cases e:cmpV d y.1 prev.1=0
  ·rw [if_pos (by simpa using e)]
   refine⟨fun x hx=>List.mem_cons_of_mem _ (i1 x hx),List.pairwise_cons.2 ⟨fun x hx=>le_lt hpy (i2'.1 x hx),i2'.2⟩,fun z hz=>?_⟩
   rcases List.mem_cons.1 hz with rfl|hz
   ·exact .inl e
   ·rcases i3 z hz with h|h
    ·exact .inl (eq_eq h e)
    ·exact .inr h
  ·rw [if_neg (by simpa using e)]
   refine⟨fun x hx=>?_,List.pairwise_cons.2 ⟨fun x hx=>?_,i2⟩,fun z hz=>?_⟩
   ·rcases List.mem_cons.1 hx with rfl|hx
    ·exact List.mem_cons_self
    ·exact List.mem_cons_of_mem _ (i1 x hx)
   ·have hlt:cmpV d prev.1 y.1<0:=by omega
    rcases List.mem_cons.1 hx with rfl|hx
    ·exact hlt
    ·have:=i2'.1 x hx
     exact lt_le hlt (by omega)
   ·rcases List.mem_cons.1 hz with rfl|hz
    ·exact .inr ⟨_,List.mem_cons_self,cmpV_self d _⟩
    ·rcases i3 z hz with h|⟨x,hx,h⟩
     ·exact .inr ⟨y,List.mem_cons_self,h⟩
     ·exact .inr ⟨x,List.mem_cons_of_mem _ hx,h⟩
structure Members (d:Nat) (l m:List VT):Prop where
 strict:StrictV d m
 mem:∀x,x∈m↔x∈l
theorem uniq_members (d:Nat) (l:List VT) (ps qs:List PR) (hl:ps.map (·.1)=l) (hgood:∀x∈l,Good d x) (hp:qs.Perm ps) (hr:qs.Pairwise fun p q=>cmpV d p.1 q.1≤0) :
 Members d l ((uniq (fun x y=>cmpV d x.1 y.1==0) qs).map (·.1))∧∀p∈uniq (fun x y=>cmpV d x.1 y.1==0) qs,p∈ps:=by
 have hmem:∀p,p∈qs→p.1∈l:=fun p hpq=>by rw [←hl];exact List.mem_map.2 ⟨p,hp.mem_iff.1 hpq,rfl⟩
 have hback:∀x,x∈l→∃p∈qs,p.1=x:=fun x hx=>by
  rw [←hl] at hx
  obtain⟨p,h1,h2⟩:=List.mem_map.1 hx
  exact⟨p,hp.mem_iff.2 h1,h2⟩
 cases qs with
 | nil=>
  refine⟨⟨List.Pairwise.nil,fun x=>⟨(fun h=>by cases h),(fun h=>?_)⟩⟩,(fun p h=>by cases h)⟩
  obtain⟨p,h1,_⟩:=hback x h
  cases h1
 | cons q r=>
  obtain⟨i1,i2,i3⟩:=uniqFrom_spec d r q hr
  have hsub:∀p∈uniq (fun x y=>cmpV d x.1 y.1==0) (q::r),p∈q::r:=fun p h=>by
   rcases List.mem_cons.1 h with rfl|h
   ·exact List.mem_cons_self
   ·exact List.mem_cons_of_mem _ (i1 p h)
  refine⟨⟨?_,fun x=>⟨fun h=>?_,fun h=>?_⟩⟩,fun p h=>hp.mem_iff.1 (hsub p h)⟩
  ·unfold StrictV
   rw [List.pairwise_map]
   exact i2
  ·obtain⟨p,h1,h2⟩:=List.mem_map.1 h
   rw [←h2];exact hmem p (hsub p h1)
  ·obtain⟨p,h1,h2⟩:=hback x h
   rw [←h2]
   rcases List.mem_cons.1 h1 with rfl|h1
   ·exact List.mem_map.2 ⟨_,List.mem_cons_self,rfl⟩
   ·rcases i3 p h1 with e|⟨z,hz,e⟩
    ·have:=good_eq (hgood _ (hmem p (List.mem_cons_of_mem _ h1))) (hgood _ (hmem q List.mem_cons_self)) e
     rw [this];exact List.mem_map.2 ⟨_,List.mem_cons_self,rfl⟩
    ·have:=good_eq (hgood _ (hmem p (List.mem_cons_of_mem _ h1))) (hgood _ (hmem z (List.mem_cons_of_mem _ (i1 z hz)))) e
     rw [this];exact List.mem_map.2 ⟨_,List.mem_cons_of_mem _ hz,rfl⟩
theorem members_one {d:Nat} {l l' m m':List VT} (h:Members d l m) (h':Members d l' m') (hl:∀x,x∈l↔x∈l'):m=m':=by
 have nd:∀{k:List VT},StrictV d k→k.Nodup:=fun {k} hk=>by
  unfold StrictV at hk
  exact hk.imp (fun {a b} hab e=>by rw [e,cmpV_self] at hab;omega)
 have hperm:m.Perm m':=(List.perm_ext_iff_of_nodup (nd h.strict) (nd h'.strict)).2 (fun x=>by rw [h.mem,h'.mem,hl])
 refine List.Perm.eq_of_pairwise (le:=fun x y=>cmpV d x y<0) ?_ h.strict h'.strict hperm
 intro a b _ _ h1 h2
 have:=zag d a b
 omega
theorem risF_strict (d:Nat) (l:List VT) (h:StrictV d l):∀b j,risF (cmpV d) 1 l b j=true:=by
 intro b
 induction b with
 | zero=>intro j;rfl
 | succ b ih=>
  intro j
  by_cases hj:j+1<l.length
  ·rw [risF_step (cmpV d) 1 l b j (by omega) hj]
   have:=(List.pairwise_iff_getElem.1 h) j (j+1) (by omega) hj (by omega)
   rw [if_neg (by omega)]
   exact ih _
  ·exact risF_end _ _ _ _ _ hj
theorem set_right (d:Nat) (m:List VT) (hs:StrictV d m) (hg:∀x∈m,zab d x=true) (hf:(fw (d+1) ⟨5,0,⟨#[]⟩,m⟩ 16 1024).1=true):zab (d+1) ⟨5,0,⟨#[]⟩,m⟩=true:=by
 unfold zab
 rw [hf,Bool.true_and]
 show (m.all (rpV d)&&ownV d ⟨5,0,⟨#[]⟩,m⟩)=true
 have h1:m.all (rpV d)=true:=by
  rw [List.all_eq_true]
  intro x hx
  have:=hg x hx
  simp only [zab,Bool.and_eq_true] at this
  exact this.2
 have h2:ownV d ⟨5,0,⟨#[]⟩,m⟩=true:=by
  simp [ownV,okNum,okText,zax,risF_strict d m hs]
 rw [h1,h2];rfl
end Go.Proofs.YtlnecfjnffdciabGreat

namespace Go.Proofs.YtlnecfjnffdciabGreat
open Go.RowKit
def zar (g:PR→PR→Bool):PR→List PR→List PR
 | _,[]=>[]
 | p,y::ys=>if g p y then zar g p ys else y::zar g y ys
def once (g:PR→PR→Bool):List PR→List PR
 | []=>[]
 | x::xs=>x::zar g x xs
theorem onceFrom_spec (d:Nat):∀(ys:List PR) (prev:PR),((prev::ys).Pairwise fun p q=>cmpV d p.1 q.1≤0)→
 (∀x∈zar (fun x y=>cmpV d x.1 y.1==0) prev ys,x∈ys)∧(prev::zar (fun x y=>cmpV d x.1 y.1==0) prev ys).Pairwise (fun p q=>cmpV d p.1 q.1<0)∧
 (∀y∈ys,cmpV d y.1 prev.1=0∨∃x∈zar (fun x y=>cmpV d x.1 y.1==0) prev ys,cmpV d y.1 x.1=0):=by
 intro ys
 induction ys with
 | nil=>intro prev _;exact⟨(fun x hx=>by cases hx),by simp [zar],(fun y hy=>by cases hy)⟩
 | cons y r ih=>
  intro prev hp
  have hpy:cmpV d prev.1 y.1≤0:=(List.pairwise_cons.1 hp).1 y List.mem_cons_self
  have t1:=zag d prev.1 y.1
  unfold zar
  by_cases e:cmpV d prev.1 y.1=0
  ·rw [if_pos (by simpa using e)]
   have hp':(prev::r).Pairwise fun p q=>cmpV d p.1 q.1≤0:=List.pairwise_cons.2 ⟨fun z hz=>(List.pairwise_cons.1 hp).1 z (List.mem_cons_of_mem _ hz),(List.pairwise_cons.1 (List.pairwise_cons.1 hp).2).2⟩
   obtain⟨i1,i2,i3⟩:=ih prev hp'
   refine⟨fun x hx=>List.mem_cons_of_mem _ (i1 x hx),i2,fun z hz=>?_⟩
   rcases List.mem_cons.1 hz with rfl|hz
   ·exact .inl (by omega)
   ·exact i3 z hz
  ·rw [if_neg (by simpa using e)]
   obtain⟨i1,i2,i3⟩:=ih y (List.pairwise_cons.1 hp).2
   have i2':=List.pairwise_cons.1 i2
   refine⟨fun x hx=>?_,List.pairwise_cons.2 ⟨fun x hx=>?_,i2⟩,fun z hz=>?_⟩
   ·rcases List.mem_cons.1 hx with rfl|hx
    ·exact List.mem_cons_self
    ·exact List.mem_cons_of_mem _ (i1 x hx)
   ·have hlt:cmpV d prev.1 y.1<0:=by omega
    rcases List.mem_cons.1 hx with rfl|hx
    ·exact hlt
    ·have:=i2'.1 x hx
     exact lt_le hlt (by omega)
   ·rcases List.mem_cons.1 hz with rfl|hz
    ·exact .inr ⟨_,List.mem_cons_self,cmpV_self d _⟩
    ·rcases i3 z hz with h|⟨x,hx,h⟩
     ·exact .inr ⟨y,List.mem_cons_self,h⟩
     ·exact .inr ⟨x,List.mem_cons_of_mem _ hx,h⟩
theorem once_members (d:Nat) (l:List VT) (ps qs:List PR) (hl:ps.map (·.1)=l) (hgood:∀x∈l,Good d x) (hp:qs.Perm ps) (hr:qs.Pairwise fun p q=>cmpV d p.1 q.1≤0) :
 Members d l ((once (fun x y=>cmpV d x.1 y.1==0) qs).map (·.1))∧∀p∈once (fun x y=>cmpV d x.1 y.1==0) qs,p∈ps:=by
 have hmem:∀p,p∈qs→p.1∈l:=fun p hpq=>by rw [←hl];exact List.mem_map.2 ⟨p,hp.mem_iff.1 hpq,rfl⟩
 have hback:∀x,x∈l→∃p∈qs,p.1=x:=fun x hx=>by
  rw [←hl] at hx
  obtain⟨p,h1,h2⟩:=List.mem_map.1 hx
  exact⟨p,hp.mem_iff.2 h1,h2⟩
 cases qs with
 | nil=>
  refine⟨⟨List.Pairwise.nil,fun x=>⟨(fun h=>by cases h),(fun h=>?_)⟩⟩,(fun p h=>by cases h)⟩
  obtain⟨p,h1,_⟩:=hback x h
  cases h1
 | cons q r=>
  obtain⟨i1,i2,i3⟩:=onceFrom_spec d r q hr
  have hsub:∀p∈once (fun x y=>cmpV d x.1 y.1==0) (q::r),p∈q::r:=fun p h=>by
   rcases List.mem_cons.1 h with rfl|h
   ·exact List.mem_cons_self
   ·exact List.mem_cons_of_mem _ (i1 p h)
  refine⟨⟨?_,fun x=>⟨fun h=>?_,fun h=>?_⟩⟩,fun p h=>hp.mem_iff.1 (hsub p h)⟩
  ·unfold StrictV
   rw [List.pairwise_map]
   exact i2
  ·obtain⟨p,h1,h2⟩:=List.mem_map.1 h
   rw [←h2];exact hmem p (hsub p h1)
  ·obtain⟨p,h1,h2⟩:=hback x h
   rw [←h2]
   rcases List.mem_cons.1 h1 with rfl|h1
   ·exact List.mem_map.2 ⟨_,List.mem_cons_self,rfl⟩
   ·rcases i3 p h1 with e|⟨z,hz,e⟩
    ·have:=good_eq (hgood _ (hmem p (List.mem_cons_of_mem _ h1))) (hgood _ (hmem q List.mem_cons_self)) e
     rw [this];exact List.mem_map.2 ⟨_,List.mem_cons_self,rfl⟩
    ·have:=good_eq (hgood _ (hmem p (List.mem_cons_of_mem _ h1))) (hgood _ (hmem z (List.mem_cons_of_mem _ (i1 z hz)))) e
     rw [this];exact List.mem_map.2 ⟨_,List.mem_cons_of_mem _ hz,rfl⟩
end Go.Proofs.YtlnecfjnffdciabGreat

