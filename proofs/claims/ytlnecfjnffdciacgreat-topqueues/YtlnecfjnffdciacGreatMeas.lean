import Derived.Test.YtlnecfjnffdciacGreatGroup
import Derived.Test.YtlnecfjnffdciacGreatSameEq
set_option maxHeartbeats 1000000
namespace Go.Proofs.YtlnecfjnffdciacGreat
open Go.RowKit
def farZ (n:Int):Int:=if n<0 then IntKind.u64.wrap (-(IntKind.u64.wrap n)) else IntKind.u64.wrap n
def msr (q:Nat) (t:VT):Int:=
 if q=2 then IntKind.u64.wrap (fullZ 16 t) else if q=3 then IntKind.u64.wrap (cpV 16 t) else if q=4 then runesZ t.text
 else if q=5 then (if t.kind=2 then farZ t.num else 0) else 0
def lexI {α:Type} (f g:α→α→Int) (a b:α):Int:=if f a b≠0 then f a b else g a b
def ordM (q:Nat) (a b:VT) (m n:Int):Int:=
 if q=0 then cmpV 16 a b else if q=1 then cmpV 16 b a
 else if 4≤q∧a.kind≠b.kind then cmpV 16 a b
 else if cmpI m n≠0 then cmpI m n else cmpV 16 a b
def ordV (q:Nat) (a b:VT):Int:=ordM q a b (msr q a) (msr q b)
theorem ordM_turn (q:Nat) (a b:VT) (m n:Int):ordM q b a n m = - ordM q a b m n:=by
 unfold ordM
 by_cases h0:q=0
 ·rw [if_pos h0,if_pos h0];exact zao _ _ _
 ·rw [if_neg h0,if_neg h0]
  by_cases h1:q=1
  ·rw [if_pos h1,if_pos h1];exact zao _ _ _
  ·rw [if_neg h1,if_neg h1]
   by_cases h4:4≤q∧a.kind≠b.kind
   ·rw [if_pos h4,if_pos ⟨h4.1,fun h=>h4.2 h.symm⟩];exact zao _ _ _
   ·rw [if_neg h4,if_neg (fun h=>h4 ⟨h.1,fun e=>h.2 e.symm⟩)]
    have ht:=cmpI_turn m n
    by_cases hz:cmpI m n≠0
    ·rw [if_pos hz,if_pos (by omega)];exact ht
    ·rw [if_neg hz,if_neg (by omega)];exact zao _ _ _
theorem goes_lex {α:Type} {f g:α→α→Int} (hf:Goes f) (hg:Goes g):Goes (lexI f g):=by
 intro a b c h1 h2
 unfold lexI at h1 h2 ⊢
 have k1:f a b≤0:=by
  by_cases h:f a b≠0
  ·rw [if_pos h] at h1;exact h1
  ·omega
 have k2:f b c≤0:=by
  by_cases h:f b c≠0
  ·rw [if_pos h] at h2;exact h2
  ·omega
 obtain⟨k3,k4⟩:=hf a b c k1 k2
 by_cases h:f a c≠0
 ·rw [if_pos h];exact⟨k3,fun e=>absurd e h⟩
 ·rw [if_neg h]
  obtain⟨e1,e2⟩:=k4 (by omega)
  rw [if_neg (by omega)] at h1 h2
  rw [if_neg (by omega),if_neg (by omega)]
  exact hg a b c h1 h2
theorem goes_by {α:Type} (m:α→Int):Goes fun a b=>cmpI (m a) (m b):=fun _ _ _ h1 h2=>goes_I _ _ _ h1 h2
theorem cmpV_kind (a b:VT) (h:a.kind≠b.kind):cmpV 16 a b=cmpI a.kind b.kind:=by
 show cmpN (cmpV 15) a b=_
 unfold cmpN
 rw [if_pos h]
theorem cmpI_same (a:Int):cmpI a a=0:=by unfold cmpI;rw [if_neg (by omega),if_neg (by omega)]
theorem cmpI_apart {a b:Int} (h:a≠b):cmpI a b≠0:=fun e=>h (cmpI_zero a b e)
theorem ordV_goes (q:Nat):Goes (ordV q):=by
 by_cases h0:q=0
 ·have e:ordV q=cmpV 16:=by funext a b;unfold ordV ordM;rw [if_pos h0]
  rw [e];exact goes_V 16
 ·by_cases h1:q=1
  ·have e:ordV q=fun a b=>cmpV 16 b a:=by funext a b;unfold ordV ordM;rw [if_neg h0,if_pos h1]
   rw [e]
   intro a b c k1 k2
   obtain⟨k3,k4⟩:=goes_V 16 c b a k2 k1
   exact⟨k3,fun e=>⟨(k4 e).2,(k4 e).1⟩⟩
  ·by_cases h4:4≤q
   ·have e:ordV q=lexI (fun a b=>cmpI a.kind b.kind) (lexI (fun a b=>cmpI (msr q a) (msr q b)) (cmpV 16)):=by
     funext a b
     unfold ordV ordM lexI
     rw [if_neg h0,if_neg h1]
     by_cases hk:a.kind=b.kind
     ·rw [if_neg (fun h=>h.2 hk)]
      have e2:(fun (a b:VT)=>cmpI a.kind b.kind) a b=0:=by show cmpI a.kind b.kind=0;rw [hk];exact cmpI_same _
      simp only [e2,ne_eq,not_true_eq_false,if_false]
     ·rw [if_pos ⟨h4,hk⟩,if_pos (cmpI_apart hk)];exact cmpV_kind a b hk
    rw [e]
    exact goes_lex (goes_by _) (goes_lex (goes_by _) (goes_V 16))
   ·have e:ordV q=lexI (fun a b=>cmpI (msr q a) (msr q b)) (cmpV 16):=by
     funext a b
     unfold ordV ordM lexI
     rw [if_neg h0,if_neg h1,if_neg (by omega)]
    rw [e]
    exact goes_lex (goes_by _) (goes_V 16)
theorem zai (q:Nat) (a b:VT):ordV q b a = - ordV q a b:=ordM_turn q a b _ _
theorem ordV_self (q:Nat) (a:VT):ordV q a a=0:=by have:=zai q a a;omega
theorem ordV_zero (q:Nat) {a b:VT} (ha:Good 16 a) (hb:Good 16 b):ordV q a b=0↔cmpV 16 a b=0:=by
 constructor
 ·intro h
  unfold ordV ordM at h
  by_cases h0:q=0
  ·rw [if_pos h0] at h;exact h
  ·rw [if_neg h0] at h
   by_cases h1:q=1
   ·rw [if_pos h1] at h;have:=zao 16 a b;omega
   ·rw [if_neg h1] at h
    by_cases h4:4≤q∧a.kind≠b.kind
    ·rw [if_pos h4] at h;exact h
    ·rw [if_neg h4] at h
     by_cases hz:cmpI (msr q a) (msr q b)≠0
     ·rw [if_pos hz] at h;exact absurd h hz
     ·rw [if_neg hz] at h;exact h
 ·intro h
  have e:=good_eq ha hb h
  subst e
  exact ordV_self q a
theorem ordV_eq (q:Nat) {a b:VT} (ha:Good 16 a) (hb:Good 16 b) (h:ordV q a b=0):a=b:=good_eq ha hb ((ordV_zero q ha hb).1 h)
theorem cmp_u64 (a b:Int) (w:World):Calls Tryz.prog 169 #[.int .u64 a,.int .u64 b] w fun e w'=>e=.returned (.int .i64 (cmpI a b))∧w'=w:=by
 by_cases h1:a<b
 ·go_enter Tryz.func169,Tryz.ntmps169
  go_wp2
  go_ret
  exact⟨by simp [cmpI,h1],rfl⟩
 ·by_cases h2:b<a
  ·go_enter Tryz.func169,Tryz.ntmps169
   go_wp2
   go_ret
   exact⟨zaf (by unfold cmpI;rw [if_neg (by omega),if_pos (by omega)]),rfl⟩
  ·go_enter Tryz.func169,Tryz.ntmps169
   go_wp2
   go_ret
   exact⟨zaf (by unfold cmpI;rw [if_neg (by omega),if_neg (by omega)]),rfl⟩
theorem natural_any (t s:VT) (x y:Value) (m n:Int) (w:World) (hx:Lies 16 w t.items x) (hy:Lies 16 w s.items y) :
 Calls Tryz.prog 131 #[.agg #[.int .i64 t.kind,.int .i64 t.num,.string t.text,x,.int .u64 m],.agg #[.int .i64 s.kind,.int .i64 s.num,.string s.text,y,.int .u64 n]] w fun e w'=>e=.returned (.int .i64 (cmpV 16 t s))∧Grew w w':=by
 obtain⟨ax,cx,rfl,_⟩:=Lies.slice hx
 obtain⟨ay,cy,rfl,_⟩:=Lies.slice hy
 have HX:Hid (Lies 16 w t.items (.slice ax t.items.length cx)):=hx
 have HY:Hid (Lies 16 w s.items (.slice ay s.items.length cy)):=hy
 clear hx hy
 go_enter Tryz.func131,Tryz.ntmps131
 go_wp2_with fail
 refine (compare_any 16 t s _ _ _ (Lies.keeps (Grew.two _ _ _).below _ _ _ HX.out) (Lies.keeps (Grew.two _ _ _).below _ _ _ HY.out)).mono ?_
 rintro e w1 ⟨rfl,hb⟩
 go_wp2_with fail
 go_ret
 exact⟨rfl,(Grew.two _ _ _).trans hb⟩
theorem turned_any (t s:VT) (x y:Value) (m n:Int) (w:World) (hx:Lies 16 w t.items x) (hy:Lies 16 w s.items y) :
 Calls Tryz.prog 132 #[.agg #[.int .i64 t.kind,.int .i64 t.num,.string t.text,x,.int .u64 m],.agg #[.int .i64 s.kind,.int .i64 s.num,.string s.text,y,.int .u64 n]] w fun e w'=>e=.returned (.int .i64 (cmpV 16 s t))∧Grew w w':=by
 obtain⟨ax,cx,rfl,_⟩:=Lies.slice hx
 obtain⟨ay,cy,rfl,_⟩:=Lies.slice hy
 have HX:Hid (Lies 16 w t.items (.slice ax t.items.length cx)):=hx
 have HY:Hid (Lies 16 w s.items (.slice ay s.items.length cy)):=hy
 clear hx hy
 go_enter Tryz.func132,Tryz.ntmps132
 go_wp2_with fail
 refine (natural_any s t _ _ _ _ _ (Lies.keeps (Grew.two _ _ _).below _ _ _ HY.out) (Lies.keeps (Grew.two _ _ _).below _ _ _ HX.out)).mono ?_
 rintro e w1 ⟨rfl,hb⟩
 go_wp2_with fail
 go_ret
 exact⟨rfl,(Grew.two _ _ _).trans hb⟩
theorem byMeasure_any (t s:VT) (x y:Value) (m n:Int) (w:World) (hx:Lies 16 w t.items x) (hy:Lies 16 w s.items y) :
 Calls Tryz.prog 134 #[.agg #[.int .i64 t.kind,.int .i64 t.num,.string t.text,x,.int .u64 m],.agg #[.int .i64 s.kind,.int .i64 s.num,.string s.text,y,.int .u64 n]] w fun e w'=>e=.returned (.int .i64 (if cmpI m n≠0 then cmpI m n else cmpV 16 t s))∧Grew w w':=by
 obtain⟨ax,cx,rfl,_⟩:=Lies.slice hx
 obtain⟨ay,cy,rfl,_⟩:=Lies.slice hy
 have HX:Hid (Lies 16 w t.items (.slice ax t.items.length cx)):=hx
 have HY:Hid (Lies 16 w s.items (.slice ay s.items.length cy)):=hy
 clear hx hy
 by_cases hz:cmpI m n≠0
 ·rw [if_pos hz]
  have hz' : ¬cmpI m n=0:=hz
  go_enter Tryz.func134,Tryz.ntmps134
  go_wp2_with (go_at_call 169;refine (cmp_u64 _ _ _).mono ?_;rintro e w' ⟨rfl,rfl⟩)
  go_ret
  exact⟨rfl,Grew.two _ _ _⟩
 ·rw [if_neg hz]
  have hz':cmpI m n=0:=by omega
  go_enter Tryz.func134,Tryz.ntmps134
  go_wp2_with (go_at_call 169;refine (cmp_u64 _ _ _).mono ?_;rintro e w' ⟨rfl,rfl⟩)
  refine (natural_any t s _ _ _ _ _ (Lies.keeps (Grew.two _ _ _).below _ _ _ HX.out) (Lies.keeps (Grew.two _ _ _).below _ _ _ HY.out)).mono ?_
  rintro e w1 ⟨rfl,hb⟩
  go_wp2_with fail
  go_ret
  exact⟨rfl,(Grew.two _ _ _).trans hb⟩
theorem byKind_any (t s:VT) (x y:Value) (m n:Int) (w:World) (hx:Lies 16 w t.items x) (hy:Lies 16 w s.items y) :
 Calls Tryz.prog 137 #[.agg #[.int .i64 t.kind,.int .i64 t.num,.string t.text,x,.int .u64 m],.agg #[.int .i64 s.kind,.int .i64 s.num,.string s.text,y,.int .u64 n]] w fun e w'=>e=.returned (.int .i64 (if t.kind≠s.kind then cmpV 16 t s else if cmpI m n≠0 then cmpI m n else cmpV 16 t s))∧Grew w w':=by
 obtain⟨ax,cx,rfl,_⟩:=Lies.slice hx
 obtain⟨ay,cy,rfl,_⟩:=Lies.slice hy
 have HX:Hid (Lies 16 w t.items (.slice ax t.items.length cx)):=hx
 have HY:Hid (Lies 16 w s.items (.slice ay s.items.length cy)):=hy
 clear hx hy
 by_cases hk:t.kind≠s.kind
 ·rw [if_pos hk]
  have hk':(t.kind==s.kind)=false:=by simpa using hk
  clear hk
  go_enter Tryz.func137,Tryz.ntmps137
  go_wp2_with fail
  refine (natural_any t s _ _ _ _ _ (Lies.keeps (Grew.two _ _ _).below _ _ _ HX.out) (Lies.keeps (Grew.two _ _ _).below _ _ _ HY.out)).mono ?_
  rintro e w1 ⟨rfl,hb⟩
  go_wp2_with fail
  go_ret
  exact⟨rfl,(Grew.two _ _ _).trans hb⟩
 ·rw [if_neg hk]
  have hk':(t.kind==s.kind)=true:=by simpa using hk
  clear hk
  have hbm:=fun W h1 h2=>byMeasure_any t s (.slice ax t.items.length cx) (.slice ay s.items.length cy) m n W h1 h2
  generalize (if cmpI m n≠0 then cmpI m n else cmpV 16 t s)=z at hbm ⊢
  have Hbm:Hid _:=hbm
  clear hbm
  go_enter Tryz.func137,Tryz.ntmps137
  go_wp2_with fail
  refine (Hbm.out _ (Lies.keeps (Grew.two _ _ _).below _ _ _ HX.out) (Lies.keeps (Grew.two _ _ _).below _ _ _ HY.out)).mono ?_
  rintro e w1 ⟨rfl,hb⟩
  go_wp2_with fail
  go_ret
  exact⟨rfl,(Grew.two _ _ _).trans hb⟩
inductive BT where
 | nil:BT
 | node (x:VT) (below rest:BT):BT
def BT.items:BT→List VT
 | .nil=>[]
 | .node x b r=>x::(b.items++r.items)
def BT.Ok (f:VT→VT→Int):BT→Prop
 | .nil=>True
 | .node x b r=>(∀y∈b.items,f x y≤0)∧b.Ok f∧r.Ok f
abbrev HP:Type:=VT×BT
abbrev HP.items (h:HP):List VT:=h.1::h.2.items
abbrev HP.Ok (f:VT→VT→Int) (h:HP):Prop:=(∀y∈h.2.items,f h.1 y≤0)∧h.2.Ok f
def BT.heaps:BT→List HP
 | .nil=>[]
 | .node x b r=>(x,b)::r.heaps
def zal:List HP→List VT
 | []=>[]
 | h::l=>HP.items h++zal l
theorem itemsH_app:∀(l m:List HP),zal (l++m)=zal l++zal m
 | [],_=>rfl
 | h::l,m=>by show HP.items h++zal (l++m)=_;rw [itemsH_app l m,←List.append_assoc];rfl
theorem heaps_items:∀(b:BT),zal b.heaps=b.items
 | .nil=>rfl
 | .node x b r=>by
  show (x::b.items)++zal r.heaps=_
  rw [heaps_items r];rfl
theorem heaps_len:∀(b:BT),b.heaps.length≤b.items.length
 | .nil=>Nat.le_refl _
 | .node x b r=>by
  have:=heaps_len r
  show r.heaps.length+1≤(b.items++r.items).length+1
  rw [List.length_append];omega
theorem itemsH_len:∀(l:List HP),l.length≤(zal l).length
 | []=>Nat.le_refl _
 | h::l=>by
  have:=itemsH_len l
  show l.length+1≤(HP.items h++zal l).length
  rw [List.length_append,List.length_cons];omega
def joinH (f:VT→VT→Int) (a b:HP):HP:=if f b.1 a.1<0 then (b.1,.node a.1 a.2 b.2) else (a.1,.node b.1 b.2 a.2)
theorem joinH_perm (f:VT→VT→Int) (a b:HP):(HP.items (joinH f a b)).Perm (HP.items a++HP.items b):=by
 unfold joinH
 split
 ·show (b.1::a.1::(a.2.items++b.2.items)).Perm (a.1::a.2.items++b.1::b.2.items)
  refine (List.Perm.swap a.1 b.1 _).trans ?_
  rw [List.cons_append]
  refine List.Perm.cons _ ?_
  exact List.perm_middle.symm
 ·show (a.1::b.1::(b.2.items++a.2.items)).Perm (a.1::a.2.items++b.1::b.2.items)
  rw [List.cons_append]
  refine List.Perm.cons _ ?_
  have h:(b.1::(b.2.items++a.2.items))=HP.items b++a.2.items:=rfl
  rw [h]
  exact List.perm_append_comm
theorem joinH_ok {f:VT→VT→Int} (hg:Goes f) (ht:∀a b,f b a = - f a b) {a b:HP} (ha:HP.Ok f a) (hb:HP.Ok f b):HP.Ok f (joinH f a b):=by
 unfold joinH
 split
 ·rename_i h
  refine⟨fun y hy=>?_,ha.1,ha.2,hb.2⟩
  have hy:y∈a.1::(a.2.items++b.2.items):=hy
  rcases List.mem_cons.1 hy with rfl|hy
  ·show f b.1 a.1≤0;omega
  ·rcases List.mem_append.1 hy with hy|hy
   ·exact (hg b.1 a.1 y (by omega) (ha.1 y hy)).1
   ·exact hb.1 y hy
 ·rename_i h
  have h2:f a.1 b.1≤0:=by have:=ht a.1 b.1;omega
  refine⟨fun y hy=>?_,hb.1,hb.2,ha.2⟩
  have hy:y∈b.1::(b.2.items++a.2.items):=hy
  rcases List.mem_cons.1 hy with rfl|hy
  ·exact h2
  ·rcases List.mem_append.1 hy with hy|hy
   ·exact (hg a.1 b.1 y h2 (hb.1 y hy)).1
   ·exact ha.1 y hy
def oItems:Option HP→List VT
 | none=>[]
 | some h=>HP.items h
def oOk (f:VT→VT→Int):Option HP→Prop
 | none=>True
 | some h=>HP.Ok f h
def MeasPost (z:Int) (w:World) (e:Ending) (w':World):Prop:=e=.returned (.int .u64 z)∧Below w.heap.size w w'
theorem nothing_any (t:VT) (a:Option Addr) (l c:Nat) (w:World):Calls Tryz.prog 130 #[.agg #[.int .i64 t.kind,.int .i64 t.num,.string t.text,.slice a l c]] w (MeasPost 0 w):=by
 go_enter Tryz.func130,Tryz.ntmps130
 go_wp2_with fail
 go_ret
 exact⟨rfl,((Grew.refl _).alloc _).below⟩
theorem fullHash_any (t:VT) (u:Value) (w:World) (hu:Lies 16 w t.items u) (hr:zab 16 t=true) (hs:t.text.size≤9223372036854775807):Calls Tryz.prog 133 #[.agg #[.int .i64 t.kind,.int .i64 t.num,.string t.text,u]] w (MeasPost (IntKind.u64.wrap (fullZ 16 t)) w):=by
 obtain⟨a,c,rfl,_⟩:=Lies.slice hu
 have HL:Hid (Lies 16 w t.items (.slice a t.items.length c)):=hu
 clear hu
 have hz:fullA 16 t=fullZ 16 t:=by unfold fullA;rw [hr];rfl
 rw [←hz]
 clear hz hr
 go_enter Tryz.func133,Tryz.ntmps133
 go_wp2_with fail
 refine (pfull_any 16 t _ _ (Lies.keeps ((Grew.refl w).alloc _).below _ _ _ HL.out) hs).mono ?_
 rintro e w1 ⟨rfl,hb⟩
 have hb1:Below w.heap.size w w1:=((Grew.refl w).alloc _).below.trans (hb.mono (by simp))
 clear hb
 generalize errOf (zab 16 t)=E
 go_wp2_with fail
 go_ret
 exact⟨rfl,hb1⟩
theorem parts1_any (t:VT) (u:Value) (w:World) (hu:Lies 16 w t.items u) (hr:zab 16 t=true) (hs:t.text.size≤9223372036854775807):Calls Tryz.prog 135 #[.agg #[.int .i64 t.kind,.int .i64 t.num,.string t.text,u]] w (MeasPost (IntKind.u64.wrap (cpV 16 t)) w):=by
 obtain⟨a,c,rfl,_⟩:=Lies.slice hu
 have HL:Hid (Lies 16 w t.items (.slice a t.items.length c)):=hu
 clear hu
 have hp:=fun W h1=>parts_any 16 t (.slice a t.items.length c) W h1 hs
 rw [hr,if_pos rfl] at hp
 have Hp:Hid _:=hp
 clear hp hr
 generalize cpV 16 t=z at *
 go_enter Tryz.func135,Tryz.ntmps135
 go_wp2_with fail
 refine (Hp.out _ (Lies.keeps ((Grew.refl w).alloc _).below _ _ _ HL.out)).mono ?_
 rintro e w1 ⟨rfl,hb⟩
 have hb1:Below w.heap.size w w1:=((Grew.refl w).alloc _).below.trans (hb.mono (by simp))
 clear hb
 generalize errOf true=E
 go_wp2_with fail
 go_ret
 exact⟨rfl,hb1⟩
theorem runes_any (t:VT) (a:Option Addr) (l c:Nat) (w:World) (hs:t.text.size≤4294967296):Calls Tryz.prog 136 #[.agg #[.int .i64 t.kind,.int .i64 t.num,.string t.text,.slice a l c]] w (MeasPost (runesZ t.text) w):=by
 generalize hs':t.text=s at *
 have Hb1:Hid (∀pos,Below w.heap.size w ((w.alloc (.cells #[.int .i64 t.kind,.int .i64 t.num,.string s,.slice a l c] 24)).iter s pos)):=fun pos=>(((Grew.refl w).alloc _).alloc _).below
 go_enter Tryz.func136,Tryz.ntmps136
 go_wp2_with fail
 go_loopg [3] s.size (fun k n w'=>∃(pos b c':Nat),w'=(w.alloc (.cells #[.int .i64 t.kind,.int .i64 t.num,.string s,.slice a l c] 24)).iter s pos∧n=.int .u64 (c':Int)∧k=s.size-pos∧Hid (rnF s b pos c'=runesZ s)∧s.size≤pos+b∧c'≤pos)
 case atStart=>exact⟨0,s.size,0,rfl,rfl,rfl,rfl,by omega,by omega⟩
 case round=>
  obtain⟨pos,b,c',rfl,rfl,hk,Hc,hb,hcp⟩:=hrel
  have Hk:Hid _:=hk
  clear hk
  by_cases hp:pos<s.size
  ·have hnx:∀ty,(Instr.next (.pointer (some ⟨(w.alloc (.cells #[.int .i64 t.kind,.int .i64 t.num,.string s,.slice a l c] 24)).heap.size,0,none⟩)) true ty).run Tryz.prog ((w.alloc (.cells #[.int .i64 t.kind,.int .i64 t.num,.string s,.slice a l c] 24)).iter s pos)=_:=fun ty=>run_next_any (w.alloc (.cells #[.int .i64 t.kind,.int .i64 t.num,.string s,.slice a l c] 24)) s pos ty hp
   simp only [World.size_alloc] at hnx
   have hwd:=width_pos s pos hp
   obtain⟨b,rfl⟩:∃c,b=c+1:=⟨b-1,by omega⟩
   have He:Hid (rnF s (b+1) pos c'=rnF s b (pos+(Utf8.decode s pos).2) (c'+1)):=by
    show _=_
    simp only [rnF,hp,if_true]
   go_wp2_with fail
   go_roundg (s.size-(pos+(Utf8.decode s pos).2))
   case measure=>have:=Hk.out;omega
   case rel=>
    refine⟨pos+(Utf8.decode s pos).2,b,c'+1,rfl,by go_num,rfl,?_,by omega,by omega⟩
    show _=_
    rw [←Hc.out,He.out];rfl
  ·have hnx:∀ty,(Instr.next (.pointer (some ⟨(w.alloc (.cells #[.int .i64 t.kind,.int .i64 t.num,.string s,.slice a l c] 24)).heap.size,0,none⟩)) true ty).run Tryz.prog ((w.alloc (.cells #[.int .i64 t.kind,.int .i64 t.num,.string s,.slice a l c] 24)).iter s pos)=_:=fun ty=>run_next_end (w.alloc (.cells #[.int .i64 t.kind,.int .i64 t.num,.string s,.slice a l c] 24)) s pos ty hp
   simp only [World.size_alloc] at hnx
   go_wp2_with fail
   go_ret
   exact⟨zaf (by rw [←Hc.out,rnF_end s b pos c' hp]),Hb1.out pos⟩
theorem distance_any (t:VT) (a:Option Addr) (l c:Nat) (w:World):Calls Tryz.prog 138 #[.agg #[.int .i64 t.kind,.int .i64 t.num,.string t.text,.slice a l c]] w (MeasPost (if t.kind=2 then farZ t.num else 0) w):=by
 by_cases hk:t.kind=2
 ·rw [if_pos hk]
  have hk':(t.kind==2)=true:=by simpa using hk
  clear hk
  unfold farZ
  by_cases hn:t.num<0
  ·rw [if_pos hn]
   go_enter Tryz.func138,Tryz.ntmps138
   go_wp2_with fail
   go_ret
   exact⟨rfl,((Grew.refl _).alloc _).below⟩
  ·rw [if_neg hn]
   go_enter Tryz.func138,Tryz.ntmps138
   go_wp2_with fail
   go_ret
   exact⟨rfl,((Grew.refl _).alloc _).below⟩
 ·rw [if_neg hk]
  have hk':(t.kind==2)=false:=by simpa using hk
  clear hk
  go_enter Tryz.func138,Tryz.ntmps138
  go_wp2_with fail
  go_ret
  exact⟨rfl,((Grew.refl _).alloc _).below⟩
end Go.Proofs.YtlnecfjnffdciacGreat
