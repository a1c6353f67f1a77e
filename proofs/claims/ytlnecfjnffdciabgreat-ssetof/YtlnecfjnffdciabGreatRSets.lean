import Derived.Test.YtlnecfjnffdciabGreatSetH
import Derived.Test.YtlnecfjnffdciabGreatROnce
import Derived.Test.YtlnecfjnffdciabGreatMade
import Derived.Test.YtlnecfjnffdciabGreatLiesX
import Derived.Test.YtlnecfjnffdciabGreatTold
namespace Go.Proofs.YtlnecfjnffdciabGreat
open Go.RowKit
def sortT (d:Nat) (l:List VT):List VT:=srt (ltV d) (l.length+1) l
theorem ltV_as (d:Nat) (a b:VT) (h:ltV d a b=true):ltV d b a=false:=by
 have h1:cmpV d a b<0:=of_decide_eq_true h
 have:=zag d a b
 exact decide_eq_false (by omega)
theorem ltV_tr (d:Nat) (a b c:VT) (h1:ltV d b a=false) (h2:ltV d c b=false):ltV d c a=false:=by
 have k1 : ¬cmpV d b a<0:=of_decide_eq_false h1
 have k2 : ¬cmpV d c b<0:=of_decide_eq_false h2
 have t1:=zag d a b
 have t2:=zag d b c
 have t3:=zag d a c
 have:=(goes_V d a b c (by omega) (by omega)).1
 exact decide_eq_false (by omega)
theorem sortT_up (d:Nat) (l:List VT):Up (ltV d) (sortT d l):=srt_up (ltV d) (ltV_as d) (ltV_tr d) _ l (by omega)
theorem rises_up {d:Nat} {l:List VT} (h:Up (ltV d) l):l.Pairwise fun x y=>cmpV d x y≤0:=
 List.Pairwise.imp (fun {a b} hab=>by
  have k : ¬cmpV d b a<0:=of_decide_eq_false hab
  have:=zag d a b
  omega) h
theorem good_list {d:Nat} {w:World} {l:List VT} {u:Value} (hu:Lies (d+1) w l u) (h:∀x∈l,zab d x=true):∀x∈l,Good d x:=by
 intro x hx
 obtain⟨a,c,rfl,_,ps,hps,hsd,_⟩:=Lies.row hu
 have hr:=h x hx
 rw [←hps] at hx
 obtain⟨p,hp,rfl⟩:=List.mem_map.1 hx
 exact⟨hr,lies_dp d w p.1 p.2 (hsd p hp).1⟩
def bare (t:VT):PR:=(t,.slice none 0 0)
def setM (d:Nat) (l:List VT):List VT:=(once (eqQ d) ((sortT d l).map bare)).map (·.1)
theorem setM_members (d:Nat) (l:List VT) (hg:∀x∈l,Good d x):Members d l (setM d l):=by
 have hp:((sortT d l).map bare).Perm (l.map bare):=(srt_perm _ _ _).map bare
 have hm:(l.map bare).map (·.1)=l:=by rw [List.map_map];exact List.map_id l
 refine (once_members d l (l.map bare) ((sortT d l).map bare) hm hg hp ?_).1
 rw [List.pairwise_map]
 exact rises_up (sortT_up d l)
theorem onceFrom_fst (d:Nat):∀(l m:List PR) (p q:PR),p.1=q.1→l.map (·.1)=m.map (·.1)→(zar (eqQ d) p l).map (·.1)=(zar (eqQ d) q m).map (·.1):=by
 intro l
 induction l with
 | nil=>
  intro m p q _ h
  have:m=[]:=by cases m with
   | nil=>rfl
   | cons _ _=>simp at h
  subst this
  rfl
 | cons x l ih=>
  intro m p q hpq h
  cases m with
  | nil=>simp at h
  | cons y m=>
   simp only [List.map_cons,List.cons.injEq] at h
   unfold zar
   have e:eqQ d p x=eqQ d q y:=by unfold eqQ;rw [hpq,h.1]
   rw [e]
   split
   ·exact ih m p q hpq h.2
   ·simp only [List.map_cons,List.cons.injEq]
    exact⟨h.1,ih m x y h.1 h.2⟩
theorem once_fst (d:Nat) (l m:List PR) (h:l.map (·.1)=m.map (·.1)):(once (eqQ d) l).map (·.1)=(once (eqQ d) m).map (·.1):=by
 cases l with
 | nil=>
  cases m with
  | nil=>rfl
  | cons _ _=>simp at h
 | cons x l=>
  cases m with
  | nil=>simp at h
  | cons y m=>
   simp only [List.map_cons,List.cons.injEq] at h
   show x.1::_=y.1::_
   rw [h.1,onceFrom_fst d l m x y h.1 h.2]
theorem sort_fst (d:Nat) (ps:List PR) (l:List VT) (n:Nat) (h:ps.map (·.1)=l) (hn:n=l.length+1):(srt (ltQ d) n ps).map (·.1)=sortT d l:=by
 rw [srt_map (·.1) (ltQ d) (ltV d) (fun _=>True) (fun _ _ _ _=>rfl) n ps (fun _ _=>trivial),h,hn]
 rfl
theorem setM_of (d:Nat) (ps:List PR) (l:List VT) (n:Nat) (h:ps.map (·.1)=l) (hn:n=l.length+1):(once (eqQ d) (srt (ltQ d) n ps)).map (·.1)=setM d l:=by
 refine once_fst d _ _ ?_
 rw [sort_fst d ps l n h hn,List.map_map]
 exact (List.map_id _).symm
theorem SlP.liesX {X:Nat→Prop} {base d:Nat} {w:World} {ps:List PR} {v:Value} (h:SlP base d w ps v) (hb:∀b,base≤b→b<w.heap.size→X b) (hp:∀p∈ps,LiesX X d w p.1.items p.2):LiesX X (d+1) w (ps.map (·.1)) v:=by
 obtain⟨a,c,rfl,h1,h2,h3,h4⟩:=h
 refine⟨a,c,by rw [List.length_map],by rw [List.length_map];exact⟨h1,h2⟩,fun hne=>?_⟩
 obtain⟨b,o,ha,hbb,hr⟩:=h3 (fun e=>hne (by rw [e];rfl))
 have hlen:0<ps.length:=by
  cases ps with
  | nil=>exact absurd rfl hne
  | cons _ _=>simp
 have hblt:b<w.heap.size:=zac (hr 0 hlen).1
 refine⟨b,o,ha,hb b hbb hblt,fun i hi=>?_⟩
 rw [List.length_map] at hi
 obtain⟨p0,p1,p2,p3⟩:=hr i hi
 refine⟨ps[i].2,?_⟩
 rw [List.getElem_map]
 exact⟨p0,p1,p2,p3,hp _ (List.getElem_mem hi),(h4 _ (List.getElem_mem hi)).2⟩
def setA (d:Nat) (l:List VT):VT×Int:=
 if zaf d l≠0 then (zeroT,zaf d l) else if (fw (d+1) ⟨5,0,⟨#[]⟩,setM d l⟩ 16 1024).1=true then (⟨5,0,⟨#[]⟩,setM d l⟩,0) else (zeroT,2)
def Tells (d:Nat) (a:VT×Int) (w:World) (e:Ending) (w':World):Prop:=
 ∃v,e=.returned (.tuple #[.agg #[.int .i64 a.1.kind,.int .i64 a.1.num,.string a.1.text,v],.int .i64 a.2])∧Lies d w' a.1.items v∧Below w.heap.size w w'
theorem tells_zero (d:Nat) (n:Int) {w w':World} (h:Below w.heap.size w w'):Tells d (zeroT,n) w (.returned (.tuple #[zeroAgg,.int .i64 n])) w':=
 ⟨.slice none 0 0,rfl,lies_nil d w',h⟩
end Go.Proofs.YtlnecfjnffdciabGreat

namespace Go.Proofs.YtlnecfjnffdciabGreat
open Go.RowKit
theorem set_right' (d:Nat) (l:List VT) (hg:∀x∈l,Good d x):zab (d+1) ⟨5,0,⟨#[]⟩,setM d l⟩=(fw (d+1) ⟨5,0,⟨#[]⟩,setM d l⟩ 16 1024).1:=by
 have hm:=setM_members d l hg
 cases hf:(fw (d+1) ⟨5,0,⟨#[]⟩,setM d l⟩ 16 1024).1
 ·unfold zab;rw [hf];rfl
 ·exact set_right d (setM d l) hm.strict (fun x hx=>(hg x ((hm.mem x).1 hx)).1) hf
def TellsX (X:Nat→Prop) (d:Nat) (a:VT×Int) (w:World) (e:Ending) (w':World):Prop:=
 ∃v,e=.returned (.tuple #[.agg #[.int .i64 a.1.kind,.int .i64 a.1.num,.string a.1.text,v],.int .i64 a.2])∧LiesX X d w' a.1.items v∧Below w.heap.size w w'
theorem told_tells {X:Nat→Prop} {d:Nat} {t:VT} {w:World} {e:Ending} {w':World} (h:ToldPost X d t w e w'):TellsX X d (if zab d t=true then (t,0) else (zeroT,2)) w e w':=by
 obtain⟨hb,⟨hr,rfl⟩|⟨hr,v,rfl,hL⟩⟩:=h
 ·rw [if_neg (by rw [hr];simp)]
  exact⟨.slice none 0 0,rfl,liesX_nil _ _ _ _ _,hb⟩
 ·rw [if_pos hr]
  exact⟨v,rfl,hL,hb⟩
end Go.Proofs.YtlnecfjnffdciabGreat

