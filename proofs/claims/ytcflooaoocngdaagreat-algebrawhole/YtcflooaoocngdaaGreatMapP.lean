import Derived.Test.YtcflooaoocngdaaGreatStabP
import Derived.Test.YtcflooaoocngdaaGreatSetM
import Derived.Test.YtcflooaoocngdaaGreatTold
namespace Go.Proofs.YtcflooaoocngdaaGreat
open Go.RowKit
abbrev TP:Type:=VT×VT
def cmpTP (d:Nat) (p q:TP):Int:=cmpV d p.1 q.1
theorem cmp3_of {α:Type} (d:Nat) (f:α→VT):Cmp3 (fun a b:α=>cmpV d (f a) (f b)):=
 ⟨fun x y=>zat d (f x) (f y),fun _ _ _ h1 h2=>lt_le h1 h2,fun _ _ _ h1 h2=>le_lt h1 h2,fun a b c h1 h2=>(goes_V d (f a) (f b) (f c) h1 h2).1⟩
theorem cmp3K (d:Nat):Cmp3 (cmpTP d):=cmp3_of d (fun p:TP=>p.1)
theorem cmp3Q (d:Nat):Cmp3 (cmpQ d):=cmp3_of d (fun p:PP=>p.1.1)
def trT (q:PP):TP:=(q.1.1,q.2.1)
theorem mrgK_map {α β:Type} (f:α→β) (cf:α→α→Int) (cg:β→β→Int) (h:∀a b,cg (f a) (f b)=cf a b):∀(n:Nat) (xs ys:List α),xs.length+ys.length≤n→mrgK cg (xs.map f) (ys.map f)=(mrgK cf xs ys).map f:=by
 intro n
 induction n with
 | zero=>
  intro xs ys hn
  have:xs=[]:=List.eq_nil_of_length_eq_zero (by omega)
  subst this
  rw [List.map_nil,zam,zam]
 | succ n ih=>
  intro xs ys hn
  cases xs with
  | nil=>rw [List.map_nil,zam,zam]
  | cons x xs=>
   cases ys with
   | nil=>rw [List.map_nil,mrgK_right,mrgK_right]
   | cons y ys=>
    simp only [List.length_cons] at hn
    have h1:=ih xs (y::ys) (by simp;omega)
    have h2:=ih xs ys (by omega)
    have h3:=ih (x::xs) ys (by simp;omega)
    simp only [List.map_cons] at h1 h3 ⊢
    rw [mrgK_step,mrgK_step,h,h1,h2,h3]
    split
    ·rfl
    ·split <;> rfl
theorem kyd_map {α β:Type} (f:α→β) (cf:α→α→Int) (cg:β→β→Int) (h:∀a b,cg (f a) (f b)=cf a b):∀(n:Nat) (l:List α),kyd cg n (l.map f)=(kyd cf n l).map f:=by
 intro n
 induction n with
 | zero=>intro l;rfl
 | succ n ih=>
  intro l
  by_cases h2:l.length<2
  ·show (if _ then _ else _)=List.map f (if _ then _ else _)
   rw [if_pos (by rw [List.length_map];exact h2),if_pos h2]
  ·rw [kyd_step cf n l h2,kyd_step cg n _ (by rw [List.length_map];exact h2),List.length_map,←List.map_take,←List.map_drop,ih,ih,mrgK_map f cf cg h _ _ _ (Nat.le_refl _)]
def kvT (ts:List TP):List VT:=ts.flatMap fun p=>[p.1,p.2]
theorem kvT_len (ts:List TP):(kvT ts).length=2*ts.length:=by
 induction ts with
 | nil=>rfl
 | cons p ts ih=>show (_::_::kvT ts).length=_;simp only [List.length_cons,ih];omega
theorem kvT_get (ts:List TP):∀(k:Nat) (h:k<ts.length),(kvT ts)[2*k]? = some ts[k].1∧(kvT ts)[2*k+1]? = some ts[k].2:=by
 induction ts with
 | nil=>intro k h;cases h
 | cons p ts ih=>
  intro k h
  show (p.1::p.2::kvT ts)[2*k]? = _∧(p.1::p.2::kvT ts)[2*k+1]? = _
  cases k with
  | zero=>exact⟨rfl,rfl⟩
  | succ k=>
   have:=ih k (by simpa using h)
   rw [show 2*(k+1)=2*k+1+1 by omega]
   simpa using this
theorem kvT_mem {ts:List TP} {x:VT} (h:x∈kvT ts):∃p∈ts,x=p.1∨x=p.2:=by
 obtain⟨p,hp,hx⟩:=List.mem_flatMap.1 h
 refine⟨p,hp,?_⟩
 simpa using hx
def okP (d:Nat) (p:TP):Bool:=zab d p.1&&zab d p.2
def pErr (d:Nat) (ts:List TP):Int:=if 65536<ts.length then 2 else if ts.all (okP d) then 0 else 3
theorem pErr_zero {d:Nat} {ts:List TP} (h:pErr d ts=0):ts.length≤65536∧∀p∈ts,zab d p.1=true∧zab d p.2=true:=by
 unfold pErr at h
 split at h
 ·cases h
 ·rename_i h1
  split at h
  ·rename_i h2
   refine⟨by omega,fun p hp=>?_⟩
   have:=List.all_eq_true.1 h2 p hp
   unfold okP at this
   simpa using this
  ·cases h
def mapI (d:Nat) (ts:List TP):List VT:=kvT (kyd (cmpTP d) (ts.length+1) ts)
def mapA (d:Nat) (ts:List TP):VT×Int:=
 if pErr d ts≠0 then (zeroT,pErr d ts) else if (fw (d+1) ⟨6,0,⟨#[]⟩,mapI d ts⟩ 16 1024).1=true then (⟨6,0,⟨#[]⟩,mapI d ts⟩,0) else (zeroT,2)
theorem risF_two (d:Nat) (ts:List TP) (h:RisesK (cmpTP d) ts):∀b k,risF (cmpV d) 2 (kvT ts) b (2*k)=true:=by
 intro b
 induction b with
 | zero=>intro k;rfl
 | succ b ih=>
  intro k
  have hl:=kvT_len ts
  by_cases hj:2*k+2<(kvT ts).length
  ·rw [risF_step (cmpV d) 2 (kvT ts) b (2*k) (by omega) hj]
   have e1:(kvT ts)[2*k]'(by omega)=(ts[k]'(by omega)).1:=by
    have:=(kvT_get ts k (by omega)).1
    rw [List.getElem?_eq_getElem (by omega)] at this
    exact Option.some.inj this
   have e2:(kvT ts)[2*k+2]'hj=(ts[k+1]'(by omega)).1:=by
    have:=(kvT_get ts (k+1) (by omega)).1
    rw [List.getElem?_eq_getElem (by omega)] at this
    exact Option.some.inj this
   rw [e1,e2]
   have:cmpV d (ts[k]'(by omega)).1 (ts[k+1]'(by omega)).1<0:=(List.pairwise_iff_getElem.1 h) k (k+1) (by omega) (by omega) (by omega)
   rw [if_neg (by omega)]
   exact ih (k+1)
  ·exact risF_end _ _ _ _ _ hj
theorem map_right' (d:Nat) (ks:List TP) (hr:RisesK (cmpTP d) ks) (hg:∀p∈ks,zab d p.1=true∧zab d p.2=true):zab (d+1) ⟨6,0,⟨#[]⟩,kvT ks⟩=(fw (d+1) ⟨6,0,⟨#[]⟩,kvT ks⟩ 16 1024).1:=by
 have h1:(kvT ks).all (rpV d)=true:=by
  rw [List.all_eq_true]
  intro x hx
  obtain⟨p,hp,rfl|rfl⟩:=kvT_mem hx
  ·exact right_rp (hg p hp).1
  ·exact right_rp (hg p hp).2
 have h0:risF (cmpV d) 2 (kvT ks) (kvT ks).length 0=true:=risF_two d ks hr _ 0
 have h2:ownV d ⟨6,0,⟨#[]⟩,kvT ks⟩=true:=by
  have hl:=kvT_len ks
  have hm:((kvT ks).length:Int) % 2=0:=by omega
  simp [ownV,okNum,okText,zan,h0,hm]
 have h3:rpV (d+1) ⟨6,0,⟨#[]⟩,kvT ks⟩=true:=by
  show ((kvT ks).all (rpV d)&&ownV d ⟨6,0,⟨#[]⟩,kvT ks⟩)=true
  rw [h1,h2];rfl
 unfold zab
 rw [h3,Bool.and_true]
theorem mapI_right (d:Nat) (ts:List TP) (h:pErr d ts=0):zab (d+1) ⟨6,0,⟨#[]⟩,mapI d ts⟩=(fw (d+1) ⟨6,0,⟨#[]⟩,mapI d ts⟩ 16 1024).1:=
 map_right' d _ (kyd_spec (cmp3K d) _ ts (by omega)).1 (fun p hp=>(pErr_zero h).2 p (kyd_mem _ _ _ p hp))
end Go.Proofs.YtcflooaoocngdaaGreat
