import Derived.Test.YtokmolmpkkcbiaaGreatStabP
import Derived.Test.YtokmolmpkkcbiaaGreatSetM
import Derived.Test.YtokmolmpkkcbiaaGreatTold
namespace Go.Proofs.YtokmolmpkkcbiaaGreat
open Go.RowKit
abbrev TP:Type:=VT×VT
def cmpTP (d:Nat) (p q:TP):Int:=cmpV d p.1 q.1
theorem cmp3_of {α:Type} (d:Nat) (f:α→VT):Cmp3 (fun a b:α=>cmpV d (f a) (f b)):=
 ⟨fun x y=>zav d (f x) (f y),fun _ _ _ h1 h2=>lt_le h1 h2,fun _ _ _ h1 h2=>le_lt h1 h2,fun a b c h1 h2=>(goes_V d (f a) (f b) (f c) h1 h2).1⟩
theorem cmp3Q (d:Nat):Cmp3 (cmpQ d):=cmp3_of d (fun p:PP=>p.1.1)
def trT (q:PP):TP:=(q.1.1,q.2.1)
theorem mrgK_map {α β:Type} (f:α→β) (cf:α→α→Int) (cg:β→β→Int) (h:∀a b,cg (f a) (f b)=cf a b):∀(n:Nat) (xs ys:List α),xs.length+ys.length≤n→mrgK cg (xs.map f) (ys.map f)=(mrgK cf xs ys).map f:=by
 intro n
 induction n with
 | zero=>
  intro xs ys hn
  have:xs=[]:=List.eq_nil_of_length_eq_zero (by omega)
  subst this
  rw [List.map_nil,zap,zap]
 | succ n ih=>
  intro xs ys hn
  cases xs with
  | nil=>rw [List.map_nil,zap,zap]
  | cons x xs=>
   cases ys with
   | nil=>rw [List.map_nil,mrgK_right,mrgK_right]
   | cons y ys=>
    simp only [List.length_cons] at hn
    have h1:=ih xs (y::ys) (by simp;omega)
    have h2:=ih xs ys (by omega)
    have h3:=ih (x::xs) ys (by simp;omega)
    simp only [List.map_cons] at h1 h3 ⊢
    rw [mrgK_step,mrgK_step,h,h1,h2,h3]
    split
    ·rfl
    ·split <;> rfl
theorem kyd_map {α β:Type} (f:α→β) (cf:α→α→Int) (cg:β→β→Int) (h:∀a b,cg (f a) (f b)=cf a b):∀(n:Nat) (l:List α),kyd cg n (l.map f)=(kyd cf n l).map f:=by
 intro n
 induction n with
 | zero=>intro l;rfl
 | succ n ih=>
  intro l
  by_cases h2:l.length<2
  ·show (if _ then _ else _)=List.map f (if _ then _ else _)
   rw [if_pos (by rw [List.length_map];exact h2),if_pos h2]
  ·rw [kyd_step cf n l h2,kyd_step cg n _ (by rw [List.length_map];exact h2),List.length_map,←List.map_take,←List.map_drop,ih,ih,mrgK_map f cf cg h _ _ _ (Nat.le_refl _)]
def kvT (ts:List TP):List VT:=ts.flatMap fun p=>[p.1,p.2]
theorem kvT_mem {ts:List TP} {x:VT} (h:x∈kvT ts):∃p∈ts,x=p.1∨x=p.2:=by
 obtain⟨p,hp,hx⟩:=List.mem_flatMap.1 h
 refine⟨p,hp,?_⟩
 simpa using hx
def okP (d:Nat) (p:TP):Bool:=zab d p.1&&zab d p.2
def pErr (d:Nat) (ts:List TP):Int:=if 65536<ts.length then 2 else if ts.all (okP d) then 0 else 3
theorem pErr_zero {d:Nat} {ts:List TP} (h:pErr d ts=0):ts.length≤65536∧∀p∈ts,zab d p.1=true∧zab d p.2=true:=by
 unfold pErr at h
 split at h
 ·cases h
 ·rename_i h1
  split at h
  ·rename_i h2
   refine⟨by omega,fun p hp=>?_⟩
   have:=List.all_eq_true.1 h2 p hp
   unfold okP at this
   simpa using this
  ·cases h
def mapI (d:Nat) (ts:List TP):List VT:=kvT (kyd (cmpTP d) (ts.length+1) ts)
def mapA (d:Nat) (ts:List TP):VT×Int:=
 if pErr d ts≠0 then (zeroT,pErr d ts) else if (fw (d+1) ⟨6,0,⟨#[]⟩,mapI d ts⟩ 16 1024).1=true then (⟨6,0,⟨#[]⟩,mapI d ts⟩,0) else (zeroT,2)
end Go.Proofs.YtokmolmpkkcbiaaGreat
