import Derived.WalkSpells
import Derived.WalkLawsBesides
namespace Go.Proofs.YtcflooaoocngdaaGreat
open Go.RowKit
structure VT where
 kind:Int
 num:Int
 text:ByteArray
 items:List VT
def cmpI (a b:Int):Int:=if a<b then -1 else if b<a then 1 else 0
def cmpS (a b:ByteArray):Int:=
 if Op.bytesLess a.toList b.toList then -1 else if (!Op.bytesLess a.toList b.toList && !(a.toList==b.toList)) then 1 else 0
def cmpL (f:VT→VT→Int):List VT→List VT→Int
 | [],[]=>0
 | [],_::_=> -1
 | _::_,[]=>1
 | x::xs,y::ys=>if f x y=0 then cmpL f xs ys else f x y
def cmpN (c:VT→VT→Int) (a b:VT):Int:=
 if a.kind≠b.kind then cmpI a.kind b.kind
 else if a.kind=1∨a.kind=2 then cmpI a.num b.num
 else if a.kind=3 then cmpS a.text b.text
 else if a.kind=4∨a.kind=5∨a.kind=6 then cmpL c a.items b.items
 else 0
def cmpV:Nat→VT→VT→Int
 | 0=>cmpN fun _ _=>0
 | d+1=>cmpN (cmpV d)
def Lies:Nat→World→List VT→Value→Prop
 | 0,_,l,v=>l=[]∧∃a c,v=.slice a 0 c
 | d+1,w,l,v=>∃a c,v=.slice a l.length c∧(l.length≤c∧l.length≤9223372036854775807)∧
  (l≠[]→∃b o,a=some ⟨b,o,none⟩∧∀(i:Nat) (h:i<l.length),∃u,
   w.cell? ⟨b,o+i*4,none⟩=some (.int .i64 (l[i]'h).kind)∧w.cell? ⟨b,o+i*4+1,none⟩=some (.int .i64 (l[i]'h).num)∧
   w.cell? ⟨b,o+i*4+2,none⟩=some (.string (l[i]'h).text)∧w.cell? ⟨b,o+i*4+3,none⟩=some u∧Lies d w (l[i]'h).items u∧(l[i]'h).text.size≤9223372036854775807)
structure Grew (w w':World):Prop where
 below:Below w.heap.size w w'
 drawn:w.drawn≤w'.drawn
theorem Grew.refl (w:World):Grew w w:=⟨Below.refl _ _,Nat.le_refl _⟩
theorem Grew.trans {a b c:World} (h:Grew a b) (k:Grew b c):Grew a c:=⟨h.below.trans (k.below.mono h.below.size),Nat.le_trans h.drawn k.drawn⟩
theorem Grew.alloc {a w:World} (h:Grew a w) (o:Obj):Grew a (w.alloc o):=⟨h.below.alloc h.below.size o,h.drawn⟩
theorem Grew.drew {a w:World} (h:Grew a w):Grew a w.drew:=⟨h.below.drew,Nat.le_trans h.drawn (Nat.le_succ _)⟩
theorem Grew.two (w:World) (o1 o2:Obj):Grew w ((w.alloc o1).alloc o2):=((Grew.refl w).alloc o1).alloc o2
theorem zae {w:World} {a:Addr} {v:Value} (hc:w.cell? a=some v):a.block<w.heap.size:=by
 by_cases hb:a.block<w.heap.size
 ·exact hb
 ·exfalso;unfold World.cell? at hc;rw [Array.getElem?_eq_none (by omega)] at hc;simp at hc
theorem zaa {w w':World} (h:Below w.heap.size w w') {a:Addr} {v:Value} (hc:w.cell? a=some v):w'.cell? a=some v:=by
 have hlt:a.block<w.heap.size:=by
  by_cases hb:a.block<w.heap.size
  ·exact hb
  ·exfalso;unfold World.cell? at hc;rw [Array.getElem?_eq_none (by omega)] at hc;simp at hc
 rw [h.cell hlt];exact hc
structure Boxed (w:World) (b:Nat) (k n:Int) (s:ByteArray) (u:Value):Prop where
 c0:w.cell? ⟨b,0,none⟩=some (.int .i64 k)
 c1:w.cell? ⟨b,1,none⟩=some (.int .i64 n)
 c2:w.cell? ⟨b,2,none⟩=some (.string s)
 c3:w.cell? ⟨b,3,none⟩=some u
theorem Boxed.keeps {w w':World} {b:Nat} {k n:Int} {s:ByteArray} {u:Value} (h:Boxed w b k n s u) (hb:Below w.heap.size w w'):Boxed w' b k n s u:=
 ⟨zaa hb h.c0,zaa hb h.c1,zaa hb h.c2,zaa hb h.c3⟩
theorem boxed_alloc (w:World) (k n:Int) (s:ByteArray) (u:Value) (ty:Nat):Boxed (w.alloc (.cells #[.int .i64 k,.int .i64 n,.string s,u] ty)) w.heap.size k n s u:=
 ⟨by simp,by simp,by simp,by simp⟩
theorem Lies.keeps {w w':World} (h:Below w.heap.size w w'):∀(d:Nat) (l:List VT) (v:Value),Lies d w l v→Lies d w' l v:=by
 intro d
 induction d with
 | zero=>intro l v hl;exact hl
 | succ d ih=>
  intro l v hl
  obtain⟨a,c,hv,hb,hr⟩:=hl
  refine⟨a,c,hv,hb,fun hne=>?_⟩
  obtain⟨b,o,ha,hall⟩:=hr hne
  refine⟨b,o,ha,fun i hi=>?_⟩
  obtain⟨u,h0,h1,h2,h3,h4,h5⟩:=hall i hi
  exact⟨u,zaa h h0,zaa h h1,zaa h h2,zaa h h3,ih _ _ h4,h5⟩
theorem Lies.slice {d:Nat} {w:World} {l:List VT} {v:Value} (h:Lies d w l v):∃a c,v=.slice a l.length c∧l.length≤9223372036854775807:=by
 cases d with
 | zero=>obtain⟨rfl,a,c,rfl⟩:=h;exact⟨a,c,rfl,by simp⟩
 | succ d=>obtain⟨a,c,hv,hb,_⟩:=h;exact⟨a,c,hv,hb.2⟩
theorem Lies.deeper {w:World}:∀(d:Nat) (l:List VT) (v:Value),Lies d w l v→Lies (d+1) w l v:=by
 intro d
 induction d with
 | zero=>intro l v h;obtain⟨rfl,a,c,rfl⟩:=h;exact⟨a,c,rfl,by simp,fun h=>absurd rfl h⟩
 | succ d ih=>
  intro l v hl
  obtain⟨a,c,hv,hb,hr⟩:=hl
  refine⟨a,c,hv,hb,fun hne=>?_⟩
  obtain⟨b,o,ha,hall⟩:=hr hne
  refine⟨b,o,ha,fun i hi=>?_⟩
  obtain⟨u,h0,h1,h2,h3,h4,h5⟩:=hall i hi
  exact⟨u,h0,h1,h2,h3,ih _ _ h4,h5⟩
theorem Lies.atLeast {w:World} {d:Nat} {l:List VT} {v:Value} (h:Lies d w l v):∀e,d≤e→Lies e w l v:=by
 intro e he
 induction e with
 | zero=>have:d=0:=by omega
         subst this;exact h
 | succ e ih=>
  by_cases hd:d=e+1
  ·subst hd;exact h
  ·exact Lies.deeper _ _ _ (ih (by omega))
theorem cmpL_step (f:VT→VT→Int) (l m:List VT) (j:Nat) (h1:j<l.length) (h2:j<m.length) :
 cmpL f (l.drop j) (m.drop j)=if f l[j] m[j]=0 then cmpL f (l.drop (j+1)) (m.drop (j+1)) else f l[j] m[j]:=by
 rw [List.drop_eq_getElem_cons h1,List.drop_eq_getElem_cons h2];rfl
theorem cmpL_end (f:VT→VT→Int) (l m:List VT) (j:Nat) (h:l.length≤j∨m.length≤j) :
 cmpL f (l.drop j) (m.drop j)=if j<l.length then 1 else if j<m.length then -1 else 0:=by
 by_cases h1:j<l.length
 ·rw [List.drop_eq_getElem_cons h1,List.drop_eq_nil_of_le (as:=m) (by omega)];simp [cmpL,h1]
 ·rw [List.drop_eq_nil_of_le (as:=l) (by omega)]
  by_cases h2:j<m.length
  ·rw [List.drop_eq_getElem_cons h2];simp [cmpL,h1,h2]
  ·rw [List.drop_eq_nil_of_le (as:=m) (by omega)];simp [cmpL,h1,h2]
theorem cmpI_turn (a b:Int):cmpI b a = - cmpI a b:=by unfold cmpI;split <;> split <;> (try split) <;> omega
theorem cmpI_three (a b:Int):cmpI a b = -1∨cmpI a b=0∨cmpI a b=1:=by unfold cmpI;split <;> (try split) <;> simp
theorem bl_irrefl:∀x:List UInt8,Op.bytesLess x x=false:=by
 intro x
 induction x with
 | nil=>rfl
 | cons a x ih=>simp [Op.bytesLess,ih]
theorem bl_asym:∀x y:List UInt8,Op.bytesLess x y=true→Op.bytesLess y x=false:=by
 intro x
 induction x with
 | nil=>intro y h;cases y <;> simp [Op.bytesLess] at *
 | cons a x ih=>
  intro y h
  cases y with
  | nil=>simp [Op.bytesLess] at h
  | cons b y=>
   simp [Op.bytesLess] at *
   rcases h with h|⟨rfl,h⟩
   ·exact⟨UInt8.le_of_lt h,fun e=>absurd h (by subst e;exact UInt8.lt_irrefl _)⟩
   ·exact⟨UInt8.le_refl _,fun _=>ih _ h⟩
theorem bl_total:∀x y:List UInt8,Op.bytesLess x y=false→x≠y→Op.bytesLess y x=true:=by
 intro x
 induction x with
 | nil=>intro y h hn;cases y with
  | nil=>exact absurd rfl hn
  | cons b y=>simp [Op.bytesLess] at h
 | cons a x ih=>
  intro y h hn
  cases y with
  | nil=>rfl
  | cons b y=>
   simp [Op.bytesLess] at *
   obtain⟨h1,h2⟩:=h
   by_cases e:a=b
   ·subst e;right;exact⟨rfl,ih _ (h2 rfl) (hn rfl)⟩
   ·left;exact UInt8.lt_of_le_of_ne h1 (fun h=>e h.symm)
theorem bl_trans:∀x y z:List UInt8,Op.bytesLess x y=true→Op.bytesLess y z=true→Op.bytesLess x z=true:=by
 intro x
 induction x with
 | nil=>intro y z h1 h2;cases z with
  | nil=>cases y <;> simp [Op.bytesLess] at h2
  | cons c z=>rfl
 | cons a x ih=>
  intro y z h1 h2
  cases y with
  | nil=>simp [Op.bytesLess] at h1
  | cons b y=>
   cases z with
   | nil=>simp [Op.bytesLess] at h2
   | cons c z=>
    simp [Op.bytesLess] at *
    rcases h1 with h1|⟨rfl,h1⟩
    ·rcases h2 with h2|⟨rfl,h2⟩
     ·left;exact UInt8.lt_trans h1 h2
     ·left;exact h1
    ·rcases h2 with h2|⟨rfl,h2⟩
     ·left;exact h2
     ·right;exact⟨rfl,ih _ _ h1 h2⟩
theorem cmpS_turn (a b:ByteArray):cmpS b a = - cmpS a b:=by
 unfold cmpS
 cases h1:Op.bytesLess a.toList b.toList <;> cases h2:Op.bytesLess b.toList a.toList
 ·by_cases e:a.toList=b.toList
  ·simp [e]
  ·exact absurd (bl_total _ _ h1 e) (by simp [h2])
 ·have e:a.toList≠b.toList:=fun e=>by rw [e,bl_irrefl] at h2;cases h2
  simp [e]
 ·have e:b.toList≠a.toList:=fun e=>by rw [e,bl_irrefl] at h1;cases h1
  simp [e]
 ·exact absurd (bl_asym _ _ h1) (by simp [h2])
theorem cmpL_turn {f:VT→VT→Int} (hf:∀a b,f b a = - f a b):∀l m,cmpL f m l = - cmpL f l m:=by
 intro l
 induction l with
 | nil=>intro m;cases m <;> simp [cmpL]
 | cons x l ih=>
  intro m
  cases m with
  | nil=>simp [cmpL]
  | cons y m=>
   simp only [cmpL,hf x y,ih]
   by_cases e:f x y=0 <;> simp [e]
theorem cmpN_turn {f:VT→VT→Int} (hf:∀a b,f b a = - f a b) (a b:VT):cmpN f b a = - cmpN f a b:=by
 unfold cmpN
 by_cases e:a.kind=b.kind
 ·simp only [ne_eq,e,not_true_eq_false,if_false]
  by_cases h1:b.kind=1∨b.kind=2
  ·simp only [h1,if_true];exact cmpI_turn _ _
  ·simp only [h1,if_false]
   by_cases h2:b.kind=3
   ·simp only [h2,if_true];exact cmpS_turn _ _
   ·simp only [h2,if_false]
    by_cases h3:b.kind=4∨b.kind=5∨b.kind=6
    ·simp only [h3,if_true];exact cmpL_turn hf _ _
    ·simp only [h3,if_false];rfl
 ·have e' : ¬b.kind=a.kind:=fun h=>e h.symm
  simp only [ne_eq,e,e',not_false_eq_true,if_true];exact cmpI_turn _ _
theorem zat:∀(d:Nat) (a b:VT),cmpV d b a = - cmpV d a b:=by
 intro d
 induction d with
 | zero=>exact cmpN_turn fun _ _=>rfl
 | succ d ih=>exact cmpN_turn ih
theorem cmpS_three (a b:ByteArray):cmpS a b = -1∨cmpS a b=0∨cmpS a b=1:=by unfold cmpS;split <;> (try split) <;> simp
theorem cmpL_three {f:VT→VT→Int} (hf:∀a b,f a b = -1∨f a b=0∨f a b=1):∀l m,cmpL f l m = -1∨cmpL f l m=0∨cmpL f l m=1:=by
 intro l
 induction l with
 | nil=>intro m;cases m <;> simp [cmpL]
 | cons x l ih=>
  intro m
  cases m with
  | nil=>simp [cmpL]
  | cons y m=>simp only [cmpL];split;exact ih m;exact hf x y
theorem cmpN_three {f:VT→VT→Int} (hf:∀a b,f a b = -1∨f a b=0∨f a b=1) (a b:VT):cmpN f a b = -1∨cmpN f a b=0∨cmpN f a b=1:=by
 unfold cmpN
 split;exact cmpI_three _ _
 split;exact cmpI_three _ _
 split;exact cmpS_three _ _
 split;exact cmpL_three hf _ _
 simp
theorem cmpV_three:∀(d:Nat) (a b:VT),cmpV d a b = -1∨cmpV d a b=0∨cmpV d a b=1:=by
 intro d
 induction d with
 | zero=>exact cmpN_three fun _ _=>by simp
 | succ d ih=>exact cmpN_three ih
theorem cmpV_range (d:Nat) (a b:VT) : -1≤cmpV d a b∧cmpV d a b≤1:=by rcases cmpV_three d a b with h|h|h <;> omega
end Go.Proofs.YtcflooaoocngdaaGreat
namespace Go.Proofs.YtcflooaoocngdaaGreat
def intT (n:Int):VT:=⟨2,n,⟨#[]⟩,[]⟩
open Go.RowKit
def Goes {α:Type} (f:α→α→Int):Prop:=∀a b c,f a b≤0→f b c≤0→f a c≤0∧(f a c=0→f a b=0∧f b c=0)
theorem goes_I:Goes cmpI:=by
 intro a b c h1 h2
 unfold cmpI at *
 repeat' split at h1
 all_goals repeat' split at h2
 all_goals first|omega|(repeat' split) <;> omega
theorem goes_S:Goes cmpS:=by
 intro a b c h1 h2
 unfold cmpS at *
 cases ab:Op.bytesLess a.toList b.toList
 ·by_cases e1:a.toList=b.toList
  ·rw [e1] at *
   cases bc:Op.bytesLess b.toList c.toList
   ·by_cases e2:b.toList=c.toList
    ·simp [e2]
    ·simp [bc,e2] at h2
   ·simp
  ·simp [ab,e1] at h1
 ·cases bc:Op.bytesLess b.toList c.toList
  ·by_cases e2:b.toList=c.toList
   ·rw [←e2];simp [ab]
   ·simp [bc,e2] at h2
  ·simp [bl_trans _ _ _ ab bc]
theorem goes_L {f:VT→VT→Int} (ht:∀a b,f b a = - f a b) (hf:Goes f):∀l m n,cmpL f l m≤0→cmpL f m n≤0→cmpL f l n≤0∧(cmpL f l n=0→cmpL f l m=0∧cmpL f m n=0):=by
 intro l
 induction l with
 | nil=>
  intro m n h1 h2
  cases m with
  | nil=>cases n <;> simp [cmpL] at *
  | cons y m=>cases n with
   | nil=>simp [cmpL] at h2
   | cons z n=>simp [cmpL]
 | cons x l ih=>
  intro m n h1 h2
  cases m with
  | nil=>simp [cmpL] at h1
  | cons y m=>
   cases n with
   | nil=>simp [cmpL] at h2
   | cons z n=>
    simp only [cmpL] at *
    by_cases e1:f x y=0
    ·rw [if_pos e1] at h1
     by_cases e2:f y z=0
     ·rw [if_pos e2] at h2
      have e3:f x z=0:=by
       have a1:=hf x y z (by omega) (by omega)
       have a2:=hf z y x (by have:=ht y z;omega) (by have:=ht x y;omega)
       have:=ht x z
       omega
      rw [if_pos e3,if_pos e1,if_pos e2]
      exact ih m n h1 h2
     ·rw [if_neg e2] at h2
      have a1:=hf x y z (by omega) h2
      have e3:f x z≠0:=fun e=>e2 (a1.2 e).2
      rw [if_neg e3]
      exact⟨a1.1,fun e=>absurd e e3⟩
    ·rw [if_neg e1] at h1
     have h2':f y z≤0:=by
      by_cases e2:f y z=0
      ·omega
      ·rw [if_neg e2] at h2;exact h2
     have a1:=hf x y z h1 h2'
     have e3:f x z≠0:=fun e=>e1 (a1.2 e).1
     rw [if_neg e3]
     exact⟨a1.1,fun e=>absurd e e3⟩
theorem cmpI_zero (a b:Int) (h:cmpI a b=0):a=b:=by
 unfold cmpI at h
 by_cases h1:a<b
 ·rw [if_pos h1] at h;omega
 ·rw [if_neg h1] at h
  by_cases h2:b<a
  ·rw [if_pos h2] at h;omega
  ·omega
theorem cmpI_ne (a b:Int) (h:a≠b) (h1:cmpI a b≤0):a<b:=by
 unfold cmpI at h1
 by_cases hl:a<b
 ·exact hl
 ·rw [if_neg hl,if_pos (by omega)] at h1;omega
def sameK (f:VT→VT→Int) (k:Int) (a b:VT):Int:=
 if k=1∨k=2 then cmpI a.num b.num else if k=3 then cmpS a.text b.text else if k=4∨k=5∨k=6 then cmpL f a.items b.items else 0
theorem cmpN_same (f:VT→VT→Int) (a b:VT) (h:a.kind=b.kind):cmpN f a b=sameK f a.kind a b:=by
 unfold cmpN sameK
 rw [if_neg (by simpa using h)]
theorem goes_N {f:VT→VT→Int} (ht:∀a b,f b a = - f a b) (hf:Goes f):Goes (cmpN f):=by
 intro a b c h1 h2
 by_cases ab:a.kind=b.kind
 ·by_cases bc:b.kind=c.kind
  ·have ac:a.kind=c.kind:=ab.trans bc
   rw [cmpN_same f a b ab] at h1 ⊢
   rw [cmpN_same f b c bc] at h2 ⊢
   rw [cmpN_same f a c ac]
   rw [ab] at h1 ⊢
   unfold sameK at *
   by_cases k1:b.kind=1∨b.kind=2
   ·simp only [k1,if_true] at *;exact goes_I _ _ _ h1 h2
   ·simp only [k1,if_false] at *
    by_cases k2:b.kind=3
    ·simp only [k2,if_true] at *;exact goes_S _ _ _ h1 h2
    ·simp only [k2,if_false] at *
     by_cases k3:b.kind=4∨b.kind=5∨b.kind=6
     ·simp only [k3,if_true] at *;exact goes_L ht hf _ _ _ h1 h2
     ·simp [k3]
  ·have ac:a.kind≠c.kind:=fun e=>bc (ab.symm.trans e)
   unfold cmpN at h2 ⊢
   rw [if_pos bc] at h2
   rw [if_pos ac]
   have hlt:=cmpI_ne _ _ bc h2
   have e1:cmpI a.kind c.kind = -1:=if_pos (by omega)
   rw [e1];exact⟨by omega,fun e=>by omega⟩
 ·unfold cmpN at h1
  rw [if_pos ab] at h1
  have hlt:=cmpI_ne _ _ ab h1
  have hbc:b.kind≤c.kind:=by
   by_cases bc:b.kind=c.kind
   ·omega
   ·unfold cmpN at h2
    rw [if_pos bc] at h2
    have:=cmpI_ne _ _ bc h2
    omega
  have ac:a.kind≠c.kind:=by omega
  have e1:cmpN f a c = -1:=by
   unfold cmpN
   rw [if_pos ac]
   exact if_pos (by omega)
  rw [e1];exact⟨by omega,fun e=>by omega⟩
theorem goes_V:∀d,Goes (cmpV d):=by
 intro d
 induction d with
 | zero=>exact goes_N (fun _ _=>rfl) (fun _ _ _ _ _=>⟨Int.le_refl _,fun _=>⟨rfl,rfl⟩⟩)
 | succ d ih=>exact goes_N (zat d) ih
theorem cmpV_self (d:Nat) (a:VT):cmpV d a a=0:=by have:=zat d a a;omega
end Go.Proofs.YtcflooaoocngdaaGreat
namespace Go.Proofs.YtcflooaoocngdaaGreat
variable {α:Type}
def Up (lt:α→α→Bool) (l:List α):Prop:=l.Pairwise fun a b=>lt b a=false
end Go.Proofs.YtcflooaoocngdaaGreat
namespace Go.Proofs.YtcflooaoocngdaaGreat
variable {α:Type}
structure Weak (lt:α→α→Bool):Prop where
 as:∀a b,lt a b=true→lt b a=false
 tr:∀a b c,lt b a=false→lt c b=false→lt c a=false
theorem Weak.self {lt:α→α→Bool} (h:Weak lt) (a:α):lt a a=false:=by
 cases e:lt a a
 ·rfl
 ·have:=h.as a a e
  rw [e] at this
  exact this
theorem Weak.lt_tr {lt:α→α→Bool} (h:Weak lt) {a b c:α} (h1:lt a b=true) (h2:lt c b=false):lt a c=true:=by
 cases e:lt a c
 ·have:=h.tr b c a h2 e
  rw [this] at h1;cases h1
 ·rfl
theorem Weak.tr_lt {lt:α→α→Bool} (h:Weak lt) {a b c:α} (h1:lt b a=false) (h2:lt b c=true):lt a c=true:=by
 cases e:lt a c
 ·have:=h.tr c a b e h1
  rw [this] at h2;cases h2
 ·rfl
def sim (lt:α→α→Bool) (x y:α):Bool:= !lt x y && !lt y x
theorem sim_iff {lt:α→α→Bool} {x y:α}:sim lt x y=true↔lt x y=false∧lt y x=false:=by
 unfold sim;simp
theorem sim_self {lt:α→α→Bool} (h:Weak lt) (x:α):sim lt x x=true:=sim_iff.2 ⟨h.self x,h.self x⟩
def Alike (lt:α→α→Bool) (l m:List α):Prop:=∀x,l.filter (sim lt x)=m.filter (sim lt x)
theorem Alike.refl (lt:α→α→Bool) (l:List α):Alike lt l l:=fun _=>rfl
theorem Alike.symm {lt:α→α→Bool} {l m:List α} (h:Alike lt l m):Alike lt m l:=fun x=>(h x).symm
theorem Alike.trans {lt:α→α→Bool} {l m n:List α} (h:Alike lt l m) (k:Alike lt m n):Alike lt l n:=fun x=>(h x).trans (k x)
theorem Alike.app {lt:α→α→Bool} {l l' m m':List α} (h:Alike lt l l') (k:Alike lt m m'):Alike lt (l++m) (l'++m'):=fun x=>by
 rw [List.filter_append,List.filter_append,h x,k x]
theorem alike_swap {lt:α→α→Bool} (h:Weak lt) (u v:List α) (huv:∀a∈u,∀b∈v,lt b a=true):Alike lt (u++v) (v++u):=by
 intro x
 rw [List.filter_append,List.filter_append]
 by_cases hu:u.filter (sim lt x)=[]
 ·rw [hu];simp
 ·have hv:v.filter (sim lt x)=[]:=by
   rw [List.filter_eq_nil_iff]
   intro b hb hs
   obtain⟨a,ha⟩:=List.exists_mem_of_ne_nil _ hu
   obtain⟨ha1,ha2⟩:=List.mem_filter.1 ha
   have h1:=huv a ha1 b hb
   have k1:=sim_iff.1 ha2
   have k2:=sim_iff.1 hs
   have:=h.tr a x b k1.1 k2.2
   rw [this] at h1;cases h1
  rw [hv];simp
theorem alike_one {lt:α→α→Bool} (h:Weak lt):∀(l m:List α),Up lt l→Up lt m→Alike lt l m→l=m:=by
 intro l
 induction l with
 | nil=>
  intro m _ _ hal
  cases m with
  | nil=>rfl
  | cons y m=>
   have:=hal y
   rw [List.filter_nil,List.filter_cons_of_pos (sim_self h y)] at this
   cases this
 | cons x l ih=>
  intro m hl hm hal
  cases m with
  | nil=>
   have:=hal x
   rw [List.filter_nil,List.filter_cons_of_pos (sim_self h x)] at this
   cases this
  | cons y m=>
   obtain⟨hl1,hl2⟩:=List.pairwise_cons.1 hl
   obtain⟨hm1,hm2⟩:=List.pairwise_cons.1 hm
   have hmem:∀z,z∈x::l↔z∈y::m:=fun z=>by
    have:=hal z
    constructor
    ·intro hz
     have:z∈(x::l).filter (sim lt z):=List.mem_filter.2 ⟨hz,sim_self h z⟩
     rw [hal z] at this
     exact (List.mem_filter.1 this).1
    ·intro hz
     have:z∈(y::m).filter (sim lt z):=List.mem_filter.2 ⟨hz,sim_self h z⟩
     rw [←hal z] at this
     exact (List.mem_filter.1 this).1
   have h1:lt y x=false:=by
    rcases List.mem_cons.1 ((hmem y).2 List.mem_cons_self) with rfl|h'
    ·exact h.self _
    ·exact hl1 y h'
   have h2:lt x y=false:=by
    rcases List.mem_cons.1 ((hmem x).1 List.mem_cons_self) with rfl|h'
    ·exact h.self _
    ·exact hm1 x h'
   have hx:=hal x
   rw [List.filter_cons_of_pos (sim_self h x),List.filter_cons_of_pos (sim_iff.2 ⟨h2,h1⟩)] at hx
   injection hx with e _
   subst e
   congr 1
   refine ih m hl2 hm2 (fun z=>?_)
   have hz:=hal z
   by_cases hs:sim lt z x=true
   ·rw [List.filter_cons_of_pos hs,List.filter_cons_of_pos hs] at hz
    injection hz
   ·rw [List.filter_cons_of_neg hs,List.filter_cons_of_neg hs] at hz
    exact hz
end Go.Proofs.YtcflooaoocngdaaGreat
namespace Go.Proofs.YtcflooaoocngdaaGreat
variable {α:Type}
def blk (s k:Nat) (l:List α):List α:=(l.drop (k*s)).take s
theorem blk_left (s k i:Nat) (A R:List α) (hA:A.length=i*s) (hk:k<i):blk s k (A++R)=blk s k A:=by
 unfold blk
 have h1:(k+1)*s≤i*s:=Nat.mul_le_mul_right _ hk
 have h2:(k+1)*s=k*s+s:=Nat.succ_mul ..
 rw [List.drop_append_of_le_length (by omega),List.take_append_of_le_length (by rw [List.length_drop];omega)]
theorem blk_mid (s i:Nat) (A M C:List α) (hA:A.length=i*s) (hM:M.length=s∨(C=[]∧M.length≤s)):blk s i (A++(M++C))=M:=by
 unfold blk
 rw [←hA,List.drop_left]
 rcases hM with h|⟨h,h2⟩
 ·rw [←h,List.take_left]
 ·subst h;rw [List.append_nil,List.take_of_length_le h2]
theorem drop_far (n:Nat) (A M C:List α) (h:A.length+M.length≤n):(A++(M++C)).drop n=C.drop (n-(A.length+M.length)):=by
 rw [←List.append_assoc,List.drop_append,List.drop_eq_nil_of_le (by rw [List.length_append];exact h),List.nil_append,List.length_append]
theorem blk_right (s k:Nat) (A M M' C:List α) (hM:M'.length=M.length) (hk:A.length+M.length≤k*s):blk s k (A++(M'++C))=blk s k (A++(M++C)):=by
 unfold blk
 rw [drop_far _ A M' C (by omega),drop_far _ A M C hk,hM]
theorem blk_far (s k:Nat) (l:List α) (h:l.length≤k*s):blk s k l=[]:=by
 unfold blk
 rw [List.drop_eq_nil_of_le h,List.take_nil]
def Fst (lt:α→α→Bool) (s i:Nat) (l:List α):Prop:=∀k,k<i→Up lt (blk s k l)
theorem Fst.step {lt:α→α→Bool} {s i:Nat} {A M M' C:List α} (h:Fst lt s i (A++(M++C))) (hA:A.length=i*s) (hM:M'.length=s∨(C=[]∧M'.length≤s)) (hu:Up lt M'):Fst lt s (i+1) (A++(M'++C)):=by
 intro k hk
 by_cases e:k=i
 ·subst e;rw [blk_mid s k A M' C hA hM];exact hu
 ·have:=h k (by omega)
  rw [blk_left s k i A _ hA (by omega)] at this ⊢
  exact this
def AllB (lt:α→α→Bool) (s:Nat) (l:List α):Prop:=∀k,Up lt (blk s k l)
theorem Fst.all {lt:α→α→Bool} {s i:Nat} {l:List α} (h:Fst lt s i l) (hl:l.length≤i*s):AllB lt s l:=by
 intro k
 by_cases e:k<i
 ·exact h k e
 ·rw [blk_far s k l (Nat.le_trans hl (Nat.mul_le_mul_right _ (by omega)))];exact List.Pairwise.nil
theorem AllB.whole {lt:α→α→Bool} {s:Nat} {l:List α} (h:AllB lt s l) (hl:l.length≤s):Up lt l:=by
 have:=h 0
 unfold blk at this
 rw [Nat.zero_mul,List.drop_zero,List.take_of_length_le hl] at this
 exact this
structure Mid (lt:α→α→Bool) (s i:Nat) (l:List α):Prop where
 done:Fst lt (2*s) i l
 rest:∀k,2*i≤k→Up lt (blk s k l)
theorem AllB.mid {lt:α→α→Bool} {s:Nat} {l:List α} (h:AllB lt s l):Mid lt s 0 l:=⟨fun k hk=>absurd hk (by omega),fun k _=>h k⟩
theorem Mid.step {lt:α→α→Bool} {s i:Nat} {A M M' C:List α} (h:Mid lt s i (A++(M++C))) (hA:A.length=i*(2*s)) (hl:M'.length=M.length) (hM:M'.length=2*s∨(C=[]∧M'.length≤2*s)) (hu:Up lt M'):Mid lt s (i+1) (A++(M'++C)):=by
 refine⟨h.done.step hA hM hu,fun k hk=>?_⟩
 have e:(2*i+2)*s≤k*s:=Nat.mul_le_mul_right _ (by omega)
 have e2:(2*i+2)*s=i*(2*s)+2*s:=by rw [Nat.add_mul,Nat.mul_assoc 2 i s,Nat.mul_left_comm]
 rcases hM with hM|⟨hC,hM⟩
 ·rw [blk_right s k A M M' C hl (by omega)]
  exact h.rest k (by omega)
 ·subst hC
  rw [blk_far s k _ (by simp;omega)]
  exact List.Pairwise.nil
theorem Mid.next {lt:α→α→Bool} {s i a:Nat} {l:List α} (h:Mid lt s i l) (ha:a=i*(2*s)):Up lt ((l.drop a).take s)∧Up lt ((l.drop (a+s)).take s):=by
 have h1:=h.rest (2*i) (Nat.le_refl _)
 have h2:=h.rest (2*i+1) (by omega)
 unfold blk at h1 h2
 have e1:2*i*s=a:=by rw [ha,Nat.mul_assoc,Nat.mul_left_comm]
 have e2:(2*i+1)*s=a+s:=by rw [Nat.succ_mul,e1]
 rw [e1] at h1;rw [e2] at h2
 exact⟨h1,h2⟩
theorem Mid.all {lt:α→α→Bool} {s i:Nat} {l:List α} (h:Mid lt s i l) (hl:l.length≤i*(2*s)+s):AllB lt (2*s) l:=by
 have hn:=h.next rfl
 have:Fst lt (2*s) (i+1) l:=fun k hk=>by
  by_cases e:k=i
  ·subst e
   unfold blk
   have hd:(l.drop (k*(2*s))).length≤s:=by rw [List.length_drop];omega
   rw [List.take_of_length_le (by omega)]
   have:=hn.1
   rwa [List.take_of_length_le hd] at this
  ·exact h.done k (by omega)
 exact this.all (by rw [Nat.succ_mul];omega)
theorem three (l:List α) (a m:Nat):l=l.take a++((l.drop a).take m++l.drop (a+m)):=by
 rw [←List.drop_drop,List.take_append_drop,List.take_append_drop]
theorem four (l:List α) (a m n:Nat):l=l.take a++(((l.drop a).take m++(l.drop (a+m)).take n)++l.drop (a+m+n)):=by
 rw [List.append_assoc,←List.drop_drop (i:=n),List.take_append_drop,←List.drop_drop (i:=m),List.take_append_drop,List.take_append_drop]
end Go.Proofs.YtcflooaoocngdaaGreat
namespace Go.Proofs.YtcflooaoocngdaaGreat
variable {α:Type}
structure Cmp3 (cf:α→α→Int):Prop where
 turn:∀x y,cf y x = - cf x y
 lt_le:∀a b c,cf a b<0→cf b c≤0→cf a c<0
 le_lt:∀a b c,cf a b≤0→cf b c<0→cf a c<0
 le_le:∀a b c,cf a b≤0→cf b c≤0→cf a c≤0
def ltI (cf:α→α→Int) (x y:α):Bool:=decide (cf x y<0)
theorem Cmp3.self {cf:α→α→Int} (h:Cmp3 cf) (x:α):cf x x=0:=by have:=h.turn x x;omega
theorem Cmp3.weak {cf:α→α→Int} (h:Cmp3 cf):Weak (ltI cf):=by
 refine⟨fun a b h1=>?_,fun a b c h1 h2=>?_⟩
 ·have h1:cf a b<0:=of_decide_eq_true h1
  have:=h.turn a b
  exact decide_eq_false (by omega)
 ·have h1 : ¬cf b a<0:=of_decide_eq_false h1
  have h2 : ¬cf c b<0:=of_decide_eq_false h2
  have t1:=h.turn a b
  have t2:=h.turn b c
  have t3:=h.turn a c
  have:=h.le_le a b c (by omega) (by omega)
  exact decide_eq_false (by omega)
theorem Cmp3.sim {cf:α→α→Int} (h:Cmp3 cf) (x y:α):sim (ltI cf) x y=true↔cf x y=0:=by
 have t:=h.turn x y
 rw [sim_iff]
 unfold ltI
 rw [decide_eq_false_iff_not,decide_eq_false_iff_not]
 omega
def RisesK (cf:α→α→Int) (l:List α):Prop:=l.Pairwise fun a b=>cf a b<0
theorem RisesK.up {cf:α→α→Int} (h:Cmp3 cf) {l:List α} (hl:RisesK cf l):Up (ltI cf) l:=
 List.Pairwise.imp (fun {a b} (k:cf a b<0)=>by have:=h.turn a b;exact decide_eq_false (by omega)) hl
def lst (l:List α):List α:=l.getLast?.toList
theorem lst_app (a b:List α):lst (a++b)=if b=[] then lst a else lst b:=by
 unfold lst
 by_cases hb:b=[]
 ·rw [if_pos hb,hb,List.append_nil]
 ·rw [if_neg hb,List.getLast?_append]
  cases h:b.getLast? with
  | none=>rw [List.getLast?_eq_none_iff] at h;exact absurd h hb
  | some x=>rfl
theorem lst_eq_nil (a:List α):lst a=[]↔a=[]:=by
 unfold lst
 cases h:a.getLast? with
 | none=>rw [List.getLast?_eq_none_iff] at h;simp [h]
 | some x=>
  have:a≠[]:=fun e=>by rw [e] at h;cases h
  simp [this]
theorem fil_nil {cf:α→α→Int} (h:Cmp3 cf) (v x:α) (l:List α) (hv:sim (ltI cf) v x=true) (hl:∀y∈l,cf x y<0):l.filter (sim (ltI cf) v)=[]:=by
 rw [List.filter_eq_nil_iff]
 intro y hy hs
 have h1:=(h.sim v x).1 hv
 have h2:=(h.sim v y).1 hs
 have h3:=hl y hy
 have:=h.le_lt v x y (by omega) h3
 omega
theorem RisesK.one {cf:α→α→Int} (h:Cmp3 cf):∀{l:List α},RisesK cf l→∀v,lst (l.filter (sim (ltI cf) v))=l.filter (sim (ltI cf) v):=by
 intro l
 induction l with
 | nil=>intro _ v;rfl
 | cons x l ih=>
  intro hl v
  obtain⟨h1,h2⟩:=List.pairwise_cons.1 hl
  by_cases hs:sim (ltI cf) v x=true
  ·rw [List.filter_cons_of_pos hs,fil_nil h v x l hs h1];rfl
  ·rw [List.filter_cons_of_neg hs];exact ih h2 v
def lastE (cf:α→α→Int):List α→List α
 | []=>[]
 | [x]=>[x]
 | x::y::l=>if cf x y=0 then lastE cf (y::l) else x::lastE cf (y::l)
theorem lastE_mem (cf:α→α→Int):∀(l:List α) (z:α),z∈lastE cf l→z∈l:=by
 intro l
 induction l with
 | nil=>intro z hz;exact hz
 | cons x l ih=>
  intro z hz
  cases l with
  | nil=>exact hz
  | cons y l=>
   unfold lastE at hz
   split at hz
   ·exact List.mem_cons_of_mem _ (ih z hz)
   ·rcases List.mem_cons.1 hz with rfl|hz
    ·exact List.mem_cons_self
    ·exact List.mem_cons_of_mem _ (ih z hz)
theorem lastE_len (cf:α→α→Int):∀(l:List α),(lastE cf l).length≤l.length:=by
 intro l
 induction l with
 | nil=>exact Nat.le_refl _
 | cons x l ih=>
  cases l with
  | nil=>exact Nat.le_refl _
  | cons y l=>
   unfold lastE
   split
   ·simp at ih ⊢;omega
   ·simp at ih ⊢;omega
theorem lastE_spec {cf:α→α→Int} (h:Cmp3 cf):∀(l:List α),Up (ltI cf) l→RisesK cf (lastE cf l)∧∀v,(lastE cf l).filter (sim (ltI cf) v)=lst (l.filter (sim (ltI cf) v)):=by
 intro l
 induction l with
 | nil=>intro _;exact⟨List.Pairwise.nil,fun v=>rfl⟩
 | cons x l ih=>
  intro hl
  cases l with
  | nil=>
   refine⟨List.pairwise_singleton _ _,fun v=>?_⟩
   show [x].filter _=lst ([x].filter _)
   by_cases hs:sim (ltI cf) v x=true
   ·rw [List.filter_cons_of_pos hs];rfl
   ·rw [List.filter_cons_of_neg hs];rfl
  | cons y l=>
   obtain⟨h1,h2⟩:=List.pairwise_cons.1 hl
   obtain⟨i1,i2⟩:=ih h2
   obtain⟨h3,_⟩:=List.pairwise_cons.1 h2
   have hxy:∀z∈y::l,cf x z≤0:=fun z hz=>by
    have k:=of_decide_eq_false (h1 z hz)
    have:=h.turn x z
    omega
   have hyz:∀z∈y::l,cf y z≤0:=fun z hz=>by
    rcases List.mem_cons.1 hz with rfl|hz
    ·rw [h.self];exact Int.le_refl _
    ·have k:=of_decide_eq_false (h3 z hz)
     have:=h.turn y z
     omega
   by_cases e:cf x y=0
   ·have e1:lastE cf (x::y::l)=lastE cf (y::l):=by show (if cf x y=0 then _ else _)=_;rw [if_pos e]
    rw [e1]
    refine⟨i1,fun v=>?_⟩
    rw [i2 v]
    by_cases hs:sim (ltI cf) v x=true
    ·have k1:=(h.sim v x).1 hs
     have hy:sim (ltI cf) v y=true:=(h.sim v y).2 (by
      have a1:=h.le_le v x y (by omega) (by omega)
      have t1:=h.turn x y
      have t2:=h.turn v x
      have t3:=h.turn v y
      have a2:=h.le_le y x v (by omega) (by omega)
      omega)
     rw [List.filter_cons_of_pos hs,show x::List.filter (sim (ltI cf) v) (y::l)=[x]++List.filter (sim (ltI cf) v) (y::l) from rfl,lst_app,if_neg (by rw [List.filter_cons_of_pos hy];exact fun q=>by cases q)]
    ·rw [List.filter_cons_of_neg hs]
   ·have hlt:cf x y<0:=by have:=hxy y List.mem_cons_self;omega
    have e1:lastE cf (x::y::l)=x::lastE cf (y::l):=by show (if cf x y=0 then _ else _)=_;rw [if_neg e]
    have hall:∀z∈y::l,cf x z<0:=fun z hz=>h.lt_le x y z hlt (hyz z hz)
    rw [e1]
    refine⟨List.pairwise_cons.2 ⟨fun z hz=>hall z (lastE_mem cf _ z hz),i1⟩,fun v=>?_⟩
    by_cases hs:sim (ltI cf) v x=true
    ·have k:=fil_nil h v x _ hs hall
     have k2:=i2 v
     rw [k] at k2
     rw [List.filter_cons_of_pos hs,List.filter_cons_of_pos hs,k,k2];rfl
    ·rw [List.filter_cons_of_neg hs,List.filter_cons_of_neg hs,i2 v]
def mrgKF (cf:α→α→Int):Nat→List α→List α→List α
 | n+1,x::xs,y::ys=>if cf x y<0 then x::mrgKF cf n xs (y::ys) else if cf x y=0 then y::mrgKF cf n xs ys else y::mrgKF cf n (x::xs) ys
 | _,xs,ys=>xs++ys
def mrgK (cf:α→α→Int) (xs ys:List α):List α:=mrgKF cf (xs.length+ys.length) xs ys
theorem mrgKF_more (cf:α→α→Int):∀(n m:Nat) (xs ys:List α),xs.length+ys.length≤n→xs.length+ys.length≤m→mrgKF cf n xs ys=mrgKF cf m xs ys:=by
 intro n
 induction n with
 | zero=>
  intro m xs ys h1 _
  have e1:xs=[]:=List.eq_nil_of_length_eq_zero (by omega)
  have e2:ys=[]:=List.eq_nil_of_length_eq_zero (by omega)
  subst e1 e2
  cases m <;> rfl
 | succ n ih=>
  intro m xs ys h1 h2
  cases xs with
  | nil=>cases m <;> rfl
  | cons x xs=>
   cases ys with
   | nil=>cases m <;> rfl
   | cons y ys=>
    simp only [List.length_cons] at h1 h2
    cases m with
    | zero=>omega
    | succ m=>
     show (if _ then _ else _)=(if _ then _ else _)
     rw [ih m xs (y::ys) (by simp;omega) (by simp;omega),ih m xs ys (by omega) (by omega),ih m (x::xs) ys (by simp;omega) (by simp;omega)]
theorem zam (cf:α→α→Int) (ys:List α):mrgK cf [] ys=ys:=by
 unfold mrgK
 cases h:([]:List α).length+ys.length <;> rfl
theorem mrgK_right (cf:α→α→Int) (xs:List α):mrgK cf xs []=xs:=by
 unfold mrgK
 cases xs with
 | nil=>cases h:([]:List α).length+([]:List α).length <;> rfl
 | cons x xs=>
  cases h:(x::xs).length+([]:List α).length with
  | zero=>show (x::xs)++[]=_;simp
  | succ n=>show (x::xs)++[]=_;simp
theorem mrgK_step (cf:α→α→Int) (x y:α) (xs ys:List α):mrgK cf (x::xs) (y::ys)=if cf x y<0 then x::mrgK cf xs (y::ys) else if cf x y=0 then y::mrgK cf xs ys else y::mrgK cf (x::xs) ys:=by
 unfold mrgK
 have e:(x::xs).length+(y::ys).length=(xs.length+1+ys.length)+1:=by simp;omega
 rw [e]
 show (if _ then _ else _)=_
 rw [mrgKF_more cf (xs.length+1+ys.length) (xs.length+(y::ys).length) xs (y::ys) (by simp;omega) (Nat.le_refl _),
  mrgKF_more cf (xs.length+1+ys.length) (xs.length+ys.length) xs ys (by omega) (Nat.le_refl _),
  mrgKF_more cf (xs.length+1+ys.length) ((x::xs).length+ys.length) (x::xs) ys (by simp) (Nat.le_refl _)]
theorem mrgK_len (cf:α→α→Int):∀(n:Nat) (xs ys:List α),xs.length+ys.length≤n→(mrgK cf xs ys).length≤xs.length+ys.length:=by
 intro n
 induction n with
 | zero=>
  intro xs ys h
  have:xs=[]:=List.eq_nil_of_length_eq_zero (by omega)
  subst this
  rw [zam];simp
 | succ n ih=>
  intro xs ys h
  cases xs with
  | nil=>rw [zam];simp
  | cons x xs=>
   cases ys with
   | nil=>rw [mrgK_right];simp
   | cons y ys=>
    simp only [List.length_cons] at h
    rw [mrgK_step]
    split
    ·have:=ih xs (y::ys) (by simp;omega);simp at this ⊢;omega
    ·split
     ·have:=ih xs ys (by omega);simp at this ⊢;omega
     ·have:=ih (x::xs) ys (by simp;omega);simp at this ⊢;omega
theorem mrgK_mem (cf:α→α→Int):∀(n:Nat) (xs ys:List α),xs.length+ys.length≤n→∀z,z∈mrgK cf xs ys→z∈xs∨z∈ys:=by
 intro n
 induction n with
 | zero=>
  intro xs ys h z hz
  have:xs=[]:=List.eq_nil_of_length_eq_zero (by omega)
  subst this
  rw [zam] at hz;exact .inr hz
 | succ n ih=>
  intro xs ys h z hz
  cases xs with
  | nil=>rw [zam] at hz;exact .inr hz
  | cons x xs=>
   cases ys with
   | nil=>rw [mrgK_right] at hz;exact .inl hz
   | cons y ys=>
    simp only [List.length_cons] at h
    rw [mrgK_step] at hz
    split at hz
    ·rcases List.mem_cons.1 hz with rfl|hz
     ·exact .inl List.mem_cons_self
     ·exact (ih xs (y::ys) (by simp;omega) z hz).imp (List.mem_cons_of_mem _) id
    ·split at hz
     ·rcases List.mem_cons.1 hz with rfl|hz
      ·exact .inr List.mem_cons_self
      ·exact (ih xs ys (by omega) z hz).imp (List.mem_cons_of_mem _) (List.mem_cons_of_mem _)
     ·rcases List.mem_cons.1 hz with rfl|hz
      ·exact .inr List.mem_cons_self
      ·exact (ih (x::xs) ys (by simp;omega) z hz).imp id (List.mem_cons_of_mem _)
theorem mrgK_spec {cf:α→α→Int} (h:Cmp3 cf):∀(n:Nat) (xs ys:List α),xs.length+ys.length≤n→RisesK cf xs→RisesK cf ys→
 RisesK cf (mrgK cf xs ys)∧∀v,(mrgK cf xs ys).filter (sim (ltI cf) v)=if ys.filter (sim (ltI cf) v)=[] then xs.filter (sim (ltI cf) v) else ys.filter (sim (ltI cf) v):=by
 intro n
 induction n with
 | zero=>
  intro xs ys hn hx hy
  have e1:xs=[]:=List.eq_nil_of_length_eq_zero (by omega)
  subst e1
  rw [zam]
  refine⟨hy,fun v=>?_⟩
  split
  ·assumption
  ·rfl
 | succ n ih=>
  intro xs ys hn hx hy
  cases xs with
  | nil=>
   rw [zam]
   refine⟨hy,fun v=>?_⟩
   split
   ·assumption
   ·rfl
  | cons x xs=>
   cases ys with
   | nil=>rw [mrgK_right];exact⟨hx,fun v=>by rw [List.filter_nil,if_pos rfl]⟩
   | cons y ys=>
    simp only [List.length_cons] at hn
    obtain⟨hx1,hx2⟩:=List.pairwise_cons.1 hx
    obtain⟨hy1,hy2⟩:=List.pairwise_cons.1 hy
    have tt:=h.turn x y
    rw [mrgK_step]
    by_cases c1:cf x y<0
    ·rw [if_pos c1]
     obtain⟨i1,i2⟩:=ih xs (y::ys) (by simp;omega) hx2 hy
     have hall:∀z∈y::ys,cf x z<0:=fun z hz=>by
      rcases List.mem_cons.1 hz with rfl|hz
      ·exact c1
      ·exact h.lt_le x y z c1 (by have:=hy1 z hz;omega)
     refine⟨List.pairwise_cons.2 ⟨fun z hz=>?_,i1⟩,fun v=>?_⟩
     ·rcases mrgK_mem cf _ _ _ (Nat.le_refl _) z hz with hz|hz
      ·exact hx1 z hz
      ·exact hall z hz
     ·by_cases hs:sim (ltI cf) v x=true
      ·have k:=fil_nil h v x _ hs hall
       rw [List.filter_cons_of_pos hs,i2 v,k,if_pos rfl,if_pos rfl,List.filter_cons_of_pos hs]
      ·rw [List.filter_cons_of_neg hs,i2 v,List.filter_cons_of_neg hs]
    ·rw [if_neg c1]
     by_cases c2:cf x y=0
     ·rw [if_pos c2]
      obtain⟨i1,i2⟩:=ih xs ys (by omega) hx2 hy2
      have hall:∀z∈xs,cf y z<0:=fun z hz=>h.le_lt y x z (by omega) (hx1 z hz)
      refine⟨List.pairwise_cons.2 ⟨fun z hz=>?_,i1⟩,fun v=>?_⟩
      ·rcases mrgK_mem cf _ _ _ (Nat.le_refl _) z hz with hz|hz
       ·exact hall z hz
       ·exact hy1 z hz
      ·by_cases hs:sim (ltI cf) v y=true
       ·have k1:=fil_nil h v y _ hs hall
        have k2:=fil_nil h v y _ hs hy1
        rw [List.filter_cons_of_pos hs,i2 v,k2,if_pos rfl,k1,List.filter_cons_of_pos hs,k2,if_neg (fun q=>by cases q)]
       ·have hs' : ¬sim (ltI cf) v x=true:=fun q=>hs ((h.sim v y).2 (by
         have k1:=(h.sim v x).1 q
         have a1:=h.le_le v x y (by omega) (by omega)
         have t2:=h.turn v x
         have t3:=h.turn v y
         have a2:=h.le_le y x v (by omega) (by omega)
         omega))
        rw [List.filter_cons_of_neg hs,i2 v,List.filter_cons_of_neg hs,List.filter_cons_of_neg hs']
     ·rw [if_neg c2]
      obtain⟨i1,i2⟩:=ih (x::xs) ys (by simp;omega) hx hy2
      have hall:∀z∈x::xs,cf y z<0:=fun z hz=>by
       rcases List.mem_cons.1 hz with rfl|hz
       ·omega
       ·exact h.lt_le y x z (by omega) (by have:=hx1 z hz;omega)
      refine⟨List.pairwise_cons.2 ⟨fun z hz=>?_,i1⟩,fun v=>?_⟩
      ·rcases mrgK_mem cf _ _ _ (Nat.le_refl _) z hz with hz|hz
       ·exact hall z hz
       ·exact hy1 z hz
      ·by_cases hs:sim (ltI cf) v y=true
       ·have k1:=fil_nil h v y _ hs hall
        have k2:=fil_nil h v y _ hs hy1
        rw [List.filter_cons_of_pos hs,i2 v,k2,if_pos rfl,k1,List.filter_cons_of_pos hs,k2,if_neg (fun q=>by cases q)]
       ·rw [List.filter_cons_of_neg hs,i2 v,List.filter_cons_of_neg hs]
def kyd (cf:α→α→Int):Nat→List α→List α
 | 0,l=>l
 | n+1,l=>if l.length<2 then l else mrgK cf (kyd cf n (l.take (l.length / 2))) (kyd cf n (l.drop (l.length / 2)))
theorem kyd_step (cf:α→α→Int) (n:Nat) (l:List α) (h : ¬l.length<2):kyd cf (n+1) l=mrgK cf (kyd cf n (l.take (l.length / 2))) (kyd cf n (l.drop (l.length / 2))):=by
 show (if _ then _ else _)=_
 rw [if_neg h]
theorem kyd_len (cf:α→α→Int):∀(n:Nat) (l:List α),(kyd cf n l).length≤l.length:=by
 intro n
 induction n with
 | zero=>intro l;exact Nat.le_refl _
 | succ n ih=>
  intro l
  by_cases h2:l.length<2
  ·show (if _ then _ else _:List α).length≤_
   rw [if_pos h2];exact Nat.le_refl _
  ·rw [kyd_step cf n l h2]
   have h1:=mrgK_len cf _ (kyd cf n (l.take (l.length / 2))) (kyd cf n (l.drop (l.length / 2))) (Nat.le_refl _)
   have h3:=ih (l.take (l.length / 2))
   have h4:=ih (l.drop (l.length / 2))
   rw [List.length_take] at h3
   rw [List.length_drop] at h4
   omega
theorem kyd_mem (cf:α→α→Int):∀(n:Nat) (l:List α) (z:α),z∈kyd cf n l→z∈l:=by
 intro n
 induction n with
 | zero=>intro l z hz;exact hz
 | succ n ih=>
  intro l z hz
  by_cases h2:l.length<2
  ·have e:kyd cf (n+1) l=l:=by show (if _ then _ else _)=_;rw [if_pos h2]
   rw [e] at hz;exact hz
  ·rw [kyd_step cf n l h2] at hz
   rcases mrgK_mem cf _ _ _ (Nat.le_refl _) z hz with hz|hz
   ·exact List.mem_of_mem_take (ih _ z hz)
   ·exact List.mem_of_mem_drop (ih _ z hz)
theorem short_rises (cf:α→α→Int) (l:List α) (h:l.length<2):RisesK cf l:=by
 match l,h with
 | [],_=>exact List.Pairwise.nil
 | [x],_=>exact List.pairwise_singleton _ _
 | _::_::_,h=>simp at h;omega
theorem kyd_spec {cf:α→α→Int} (h:Cmp3 cf):∀(n:Nat) (l:List α),l.length≤n→RisesK cf (kyd cf n l)∧∀v,(kyd cf n l).filter (sim (ltI cf) v)=lst (l.filter (sim (ltI cf) v)):=by
 intro n
 induction n with
 | zero=>
  intro l hl
  have:l=[]:=List.eq_nil_of_length_eq_zero (by omega)
  subst this
  exact⟨List.Pairwise.nil,fun v=>rfl⟩
 | succ n ih=>
  intro l hl
  by_cases h2:l.length<2
  ·have e:kyd cf (n+1) l=l:=by show (if _ then _ else _)=_;rw [if_pos h2]
   have hr:=short_rises cf l h2
   rw [e]
   exact⟨hr,fun v=>(hr.one h v).symm⟩
  ·rw [kyd_step cf n l h2]
   have e1:(l.take (l.length / 2)).length≤n:=by rw [List.length_take];omega
   have e2:(l.drop (l.length / 2)).length≤n:=by rw [List.length_drop];omega
   obtain⟨a1,a2⟩:=ih _ e1
   obtain⟨b1,b2⟩:=ih _ e2
   obtain⟨c1,c2⟩:=mrgK_spec h _ _ _ (Nat.le_refl _) a1 b1
   refine⟨c1,fun v=>?_⟩
   have e3:l.filter (sim (ltI cf) v)=(l.take (l.length / 2)).filter (sim (ltI cf) v)++(l.drop (l.length / 2)).filter (sim (ltI cf) v):=by
    rw [←List.filter_append,List.take_append_drop]
   rw [c2 v,a2 v,b2 v,e3,lst_app]
   by_cases hb:(l.drop (l.length / 2)).filter (sim (ltI cf) v)=[]
   ·rw [if_pos hb,if_pos ((lst_eq_nil _).2 hb)]
   ·rw [if_neg hb,if_neg (fun q=>hb ((lst_eq_nil _).1 q))]
theorem kyd_last {cf:α→α→Int} (h:Cmp3 cf) (n:Nat) (l m:List α) (hn:l.length≤n) (hu:Up (ltI cf) m) (hal:Alike (ltI cf) m l):kyd cf n l=lastE cf m:=by
 obtain⟨a1,a2⟩:=kyd_spec h n l hn
 obtain⟨b1,b2⟩:=lastE_spec h m hu
 refine alike_one h.weak _ _ (a1.up h) (b1.up h) (fun v=>?_)
 rw [a2 v,b2 v,hal v]
theorem kyd_rises {cf:α→α→Int} (h:Cmp3 cf) (n:Nat) (l:List α) (hn:l.length≤n) (hl:RisesK cf l):kyd cf n l=l:=by
 obtain⟨a1,a2⟩:=kyd_spec h n l hn
 exact alike_one h.weak _ _ (a1.up h) (hl.up h) (fun v=>by rw [a2 v,hl.one h v])
end Go.Proofs.YtcflooaoocngdaaGreat
namespace Go.Proofs.YtcflooaoocngdaaGreat
variable {α:Type}
theorem one_left {lt:α→α→Bool} (h:Weak lt) (x:α) (Y1 Y2:List α) (hY:Up lt (Y1++Y2)) (h1:∀y∈Y1,lt y x=true) (h2:∀y∈Y2,lt y x=false) :
 Up lt (Y1++(x::Y2))∧Alike lt (Y1++(x::Y2)) ([x]++(Y1++Y2)):=by
 obtain⟨u1,u2,u3⟩:=List.pairwise_append.1 hY
 refine⟨List.pairwise_append.2 ⟨u1,List.pairwise_cons.2 ⟨h2,u2⟩,fun y hy z hz=>?_⟩,?_⟩
 ·rcases List.mem_cons.1 hz with rfl|hz
  ·exact h.as y z (h1 y hy)
  ·exact u3 y hy z hz
 ·have k:Alike lt ([x]++Y1) (Y1++[x]):=alike_swap h [x] Y1 (fun a ha b hb=>by rw [List.mem_singleton.1 ha];exact h1 b hb)
  have k2:=(k.app (Alike.refl lt Y2)).symm
  have e:(Y1++[x])++Y2=Y1++(x::Y2):=by simp
  rw [e,List.append_assoc] at k2
  exact k2
theorem one_right {lt:α→α→Bool} (h:Weak lt) (y:α) (X1 X2:List α) (hX:Up lt (X1++X2)) (h1:∀x∈X1,lt y x=false) (h2:∀x∈X2,lt y x=true) :
 Up lt (X1++(y::X2))∧Alike lt (X1++(y::X2)) ((X1++X2)++[y]):=by
 obtain⟨u1,u2,u3⟩:=List.pairwise_append.1 hX
 refine⟨List.pairwise_append.2 ⟨u1,List.pairwise_cons.2 ⟨fun x hx=>h.as y x (h2 x hx),u2⟩,fun x hx z hz=>?_⟩,?_⟩
 ·rcases List.mem_cons.1 hz with rfl|hz
  ·exact h1 x hx
  ·exact u3 x hx z hz
 ·rw [List.append_assoc]
  refine (Alike.refl lt X1).app ?_
  exact (alike_swap h X2 [y] (fun a ha b hb=>by rw [List.mem_singleton.1 hb];exact h2 a ha)).symm
theorem cut_sorts {lt:α→α→Bool} (h:Weak lt) (X1 X2 Y1 Y2 M1 M2:List α) (hX:Up lt (X1++X2)) (hY:Up lt (Y1++Y2)) (h1:∀x∈X2,∀y∈Y1,lt y x=true) (h2:∀x∈X1,∀y∈Y2,lt y x=false)
 (u1:Up lt M1) (a1:Alike lt M1 (X1++Y1)) (m1:∀z∈M1,z∈X1++Y1) (u2:Up lt M2) (a2:Alike lt M2 (X2++Y2)) (m2:∀z∈M2,z∈X2++Y2) :
 Up lt (M1++M2)∧Alike lt (M1++M2) ((X1++X2)++(Y1++Y2)):=by
 obtain⟨_,_,x3⟩:=List.pairwise_append.1 hX
 obtain⟨_,_,y3⟩:=List.pairwise_append.1 hY
 refine⟨List.pairwise_append.2 ⟨u1,u2,fun u hu v hv=>?_⟩,?_⟩
 ·rcases List.mem_append.1 (m1 u hu) with hu|hu <;> rcases List.mem_append.1 (m2 v hv) with hv|hv
  ·exact x3 u hu v hv
  ·exact h2 u hu v hv
  ·exact h.as _ _ (h1 v hv u hu)
  ·exact y3 u hu v hv
 ·refine (a1.app a2).trans ?_
  have k:Alike lt (X2++Y1) (Y1++X2):=alike_swap h X2 Y1 h1
  have k2:Alike lt (X1++((Y1++X2)++Y2)) (X1++((X2++Y1)++Y2)):=(Alike.refl lt X1).app (k.symm.app (Alike.refl lt Y2))
  have e1:X1++Y1++(X2++Y2)=X1++((Y1++X2)++Y2):=by simp
  have e2:X1++X2++(Y1++Y2)=X1++((X2++Y1)++Y2):=by simp
  rw [e1,e2]
  exact k2
theorem Alike.mem {lt:α→α→Bool} (h:Weak lt) {l m:List α} (hal:Alike lt l m) {x:α} (hx:x∈l):x∈m:=by
 have:x∈l.filter (sim lt x):=List.mem_filter.2 ⟨hx,sim_self h x⟩
 rw [hal x] at this
 exact (List.mem_filter.1 this).1
theorem up_get {lt:α→α→Bool} (h:Weak lt) {l:List α} (hu:Up lt l) (i j:Nat) (hi:i≤j) (hj:j<l.length):lt l[j] (l[i]'(by omega))=false:=by
 rcases Nat.lt_or_eq_of_le hi with hlt|heq
 ·exact List.pairwise_iff_getElem.1 hu i j (by omega) hj hlt
 ·subst heq;exact h.self _
theorem cut_of {lt:α→α→Bool} (h:Weak lt) (X Y:List α) (hX:Up lt X) (hY:Up lt Y) (c e:Nat) (hc:c≤X.length) (he:e≤Y.length)
 (hin:c<X.length→∀k,k+1=e→∃(h1:c<X.length) (h2:k<Y.length),lt Y[k] X[c]=true) (hout:∀k,k+1=c→e<Y.length→∃(h1:k<X.length) (h2:e<Y.length),lt Y[e] X[k]=false) :
 (∀x∈X.drop c,∀y∈Y.take e,lt y x=true)∧(∀x∈X.take c,∀y∈Y.drop e,lt y x=false):=by
 constructor
 ·intro x hx y hy
  obtain⟨i,hi,rfl⟩:=List.mem_iff_getElem.1 hx
  obtain⟨k,hk,rfl⟩:=List.mem_iff_getElem.1 hy
  rw [List.length_drop] at hi
  rw [List.length_take] at hk
  rw [List.getElem_drop,List.getElem_take]
  obtain⟨h1,h2,hl⟩:=hin (by omega) (e-1) (by omega)
  have k1:lt X[c+i] X[c]=false:=up_get h hX c (c+i) (by omega) (by omega)
  have k2:lt Y[e-1] Y[k]=false:=up_get h hY k (e-1) (by omega) h2
  have k3:lt Y[k] X[c]=true:=h.tr_lt k2 hl
  exact h.lt_tr k3 k1
 ·intro x hx y hy
  obtain⟨i,hi,rfl⟩:=List.mem_iff_getElem.1 hx
  obtain⟨k,hk,rfl⟩:=List.mem_iff_getElem.1 hy
  rw [List.length_take] at hi
  rw [List.length_drop] at hk
  rw [List.getElem_take,List.getElem_drop]
  obtain⟨h1,h2,hl⟩:=hout (c-1) (by omega) (by omega)
  have k1:lt X[c-1] X[i]=false:=up_get h hX i (c-1) (by omega) h1
  have k2:lt Y[e+k] Y[e]=false:=up_get h hY e (e+k) (by omega) (by omega)
  have k3:lt Y[e] X[i]=false:=h.tr _ _ _ k1 hl
  exact h.tr _ _ _ k3 k2
end Go.Proofs.YtcflooaoocngdaaGreat
namespace Go.Proofs.YtcflooaoocngdaaGreat
variable {α:Type}
structure Sec (lt:α→α→Bool) (X Y:List α) (a m n s0 r0 s r:Nat):Prop where
 s1:s0≤s
 s2:s≤r
 s3:r≤r0
 lo:∀c,s0≤c→c<s→∃(h1:c-a<X.length) (h2:n-1-c-m<Y.length),lt Y[n-1-c-m] X[c-a]=false
 hi:∀c,r≤c→c<r0→∃(h1:c-a<X.length) (h2:n-1-c-m<Y.length),lt Y[n-1-c-m] X[c-a]=true
structure Bds (lX lY a m b n mid s0 r0:Nat):Prop where
 em:m=a+lX
 eb:b=m+lY
 en:n=mid+m
 mi:mid=(a+b) / 2
 x2:2≤lX
 y2:2≤lY
 ends:(mid<m∧s0=n-b∧r0=mid)∨(m≤mid∧s0=a∧r0=m)
theorem Bds.ok {lX lY a m b n mid s0 r0:Nat} (h:Bds lX lY a m b n mid s0 r0) (c:Nat) (h1:s0≤c) (h2:c<r0):(a≤c∧c-a<lX)∧(m≤n-1-c∧n-1-c-m<lY)∧c<n:=by
 obtain⟨em,eb,en,mi,x2,y2,hh⟩:=h
 rcases hh with ⟨k1,k2,k3⟩|⟨k1,k2,k3⟩ <;> omega
theorem Bds.start {lX lY a m b n mid s0 r0:Nat} (h:Bds lX lY a m b n mid s0 r0):s0≤r0∧a≤s0∧r0≤m∧r0≤mid+0+(m-r0)∧n≤b+s0∧r0+m≤n:=by
 obtain⟨em,eb,en,mi,x2,y2,hh⟩:=h
 rcases hh with ⟨k1,k2,k3⟩|⟨k1,k2,k3⟩ <;> omega
theorem Sec.begin (lt:α→α→Bool) (X Y:List α) (a m n s0 r0:Nat) (h:s0≤r0):Sec lt X Y a m n s0 r0 s0 r0:=
 ⟨Nat.le_refl _,h,Nat.le_refl _,(fun c h1 h2=>by omega),(fun c h1 h2=>by omega)⟩
theorem Sec.less {lt:α→α→Bool} (hw:Weak lt) {X Y:List α} (hX:Up lt X) (hY:Up lt Y) {a m b n mid s0 r0 s r:Nat} (hb:Bds X.length Y.length a m b n mid s0 r0) (h:Sec lt X Y a m n s0 r0 s r) (c:Nat) (h1:s≤c) (h2:c<r)
 (k1:c-a<X.length) (k2:n-1-c-m<Y.length) (hl:lt Y[n-1-c-m] X[c-a]=false):Sec lt X Y a m n s0 r0 (c+1) r:=by
 have q1:=h.s1
 have q3:=h.s3
 refine⟨by omega,by omega,h.s3,fun e e1 e2=>?_,h.hi⟩
 have o1:=hb.ok e e1 (by omega)
 have o2:=hb.ok c (by omega) (by omega)
 refine⟨o1.1.2,o1.2.1.2,?_⟩
 have u1:lt X[c-a] (X[e-a]'(o1.1.2))=false:=up_get hw hX (e-a) (c-a) (by omega) k1
 have u2:lt (Y[n-1-e-m]'(o1.2.1.2)) Y[n-1-c-m]=false:=up_get hw hY (n-1-c-m) (n-1-e-m) (by omega) o1.2.1.2
 exact hw.tr _ _ _ (hw.tr _ _ _ u1 hl) u2
theorem Sec.more {lt:α→α→Bool} (hw:Weak lt) {X Y:List α} (hX:Up lt X) (hY:Up lt Y) {a m b n mid s0 r0 s r:Nat} (hb:Bds X.length Y.length a m b n mid s0 r0) (h:Sec lt X Y a m n s0 r0 s r) (c:Nat) (h1:s≤c) (h2:c<r)
 (k1:c-a<X.length) (k2:n-1-c-m<Y.length) (hl:lt Y[n-1-c-m] X[c-a]=true):Sec lt X Y a m n s0 r0 s c:=by
 have q1:=h.s1
 have q3:=h.s3
 refine⟨h.s1,h1,by omega,h.lo,fun e e1 e2=>?_⟩
 have o1:=hb.ok e (by omega) e2
 have o2:=hb.ok c (by omega) (by omega)
 refine⟨o1.1.2,o1.2.1.2,?_⟩
 have u1:lt (X[e-a]'(o1.1.2)) X[c-a]=false:=up_get hw hX (c-a) (e-a) (by omega) o1.1.2
 have u2:lt Y[n-1-c-m] (Y[n-1-e-m]'(o1.2.1.2))=false:=up_get hw hY (n-1-e-m) (n-1-c-m) (by omega) k2
 exact hw.lt_tr (hw.tr_lt u2 hl) u1
theorem Sec.cut {lt:α→α→Bool} (hw:Weak lt) {X Y:List α} (hX:Up lt X) (hY:Up lt Y) {a m b n mid s0 r0 s:Nat} (hb:Bds X.length Y.length a m b n mid s0 r0) (h:Sec lt X Y a m n s0 r0 s s) :
 (s-a≤X.length∧n-s-m≤Y.length)∧(∀x∈X.drop (s-a),∀y∈Y.take (n-s-m),lt y x=true)∧(∀x∈X.take (s-a),∀y∈Y.drop (n-s-m),lt y x=false):=by
 have q1:=h.s1
 have q3:=h.s3
 have b1:=hb.start
 have hh:=hb.ends
 have em:=hb.em
 have eb:=hb.eb
 have en:=hb.en
 have mi:=hb.mi
 have c1:s-a≤X.length:=by omega
 have c2:n-s-m≤Y.length:=by omega
 refine⟨⟨c1,c2⟩,cut_of hw X Y hX hY (s-a) (n-s-m) c1 c2 (fun hc k hk=>?_) (fun k hk he=>?_)⟩
 ·have hs:s<r0:=by rcases hh with ⟨p1,p2,p3⟩|⟨p1,p2,p3⟩ <;> omega
  obtain⟨h1,h2,hl⟩:=h.hi s (Nat.le_refl _) hs
  have e:n-1-s-m=k:=by omega
  refine⟨h1,by omega,?_⟩
  simp only [e] at hl
  exact hl
 ·have hs:s0≤s-1∧s-1<s:=by rcases hh with ⟨p1,p2,p3⟩|⟨p1,p2,p3⟩ <;> omega
  obtain⟨h1,h2,hl⟩:=h.lo (s-1) hs.1 hs.2
  have e:n-1-(s-1)-m=n-s-m:=by omega
  have e':s-1-a=k:=by omega
  refine⟨by omega,he,?_⟩
  simp only [e,e'] at hl
  exact hl
end Go.Proofs.YtcflooaoocngdaaGreat
