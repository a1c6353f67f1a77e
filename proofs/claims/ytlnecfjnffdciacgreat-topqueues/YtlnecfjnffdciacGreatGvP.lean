import Derived.Test.YtlnecfjnffdciacGreatRangeX
import Derived.Test.YtlnecfjnffdciacGreatLastOf
import Derived.Test.YtlnecfjnffdciacGreatMapP
import Derived.Test.YtlnecfjnffdciacGreatAppV4
namespace Go.Proofs.YtlnecfjnffdciacGreat
open Go.RowKit Go.Shelf
structure CQ where
 k:VT
 v:VT
 a1:Option Addr
 c1:Nat
 a2:Option Addr
 c2:Nat
def CQ.t (x:CQ):VT×VT:=(x.k,x.v)
def encCQ (x:CQ):Array Value:=#[.agg #[.int .i64 x.k.kind,.int .i64 x.k.num,.string x.k.text,.slice x.a1 x.k.items.length x.c1],.agg #[.int .i64 x.v.kind,.int .i64 x.v.num,.string x.v.text,.slice x.a2 x.v.items.length x.c2]]
def NewC (B:Nat) (W:World) (x:CQ):Prop:=(LiesB B 16 W x.k.items (.slice x.a1 x.k.items.length x.c1)∧x.k.text.size≤9223372036854775807)∧(LiesB B 16 W x.v.items (.slice x.a2 x.v.items.length x.c2)∧x.v.text.size≤9223372036854775807)
def PreCQ (l:List (VT×VT)) (pre:List CQ) (x:CQ) (V W:World):Prop:=NewC V.heap.size W x∧(pre.map CQ.t++[x.t]) <+: l
def LsX (X:Nat→Prop) (W:World) (t:VT) (a:Option Addr) (c:Nat):Prop:=LiesX X 16 W t.items (.slice a t.items.length c)∧t.text.size≤9223372036854775807
theorem cell_grownY {A V:World} {row:Option Nat} (hg:A.grownBy V row) (hr:∀r,row=some r→∃o:Obj,A.heap[r]? = some o∧o.isCells=false) {a:Addr} {u:Value} (hu:A.cell? a=some u):V.cell? a=some u:=by
 by_cases e:row=some a.block
 ·obtain⟨o,ho,hoc⟩:=hr _ e
  obtain⟨o2,ho2,hc2⟩:=cells_of_cell hu
  rw [ho] at ho2
  cases ho2
  rw [hoc] at hc2
  cases hc2
 ·exact (World.cell?_of_block (hg.block a.block (zad hu) (fun e2=>e e2.symm))).trans hu
def BoxV (W:World) (B:Nat) (t:VT) (u:Value):Prop:=W.heap[B]? = some (.cells #[.int .i64 t.kind,.int .i64 t.num,.string t.text,u] 24 (0,0))
theorem BoxV.lt {W:World} {B:Nat} {t:VT} {u:Value} (h:BoxV W B t u):B<W.heap.size:=(Array.getElem?_eq_some_iff.1 h).1
theorem BoxV.cells {W:World} {B:Nat} {t:VT} {u:Value} (h:BoxV W B t u):W.cell? ⟨B,0,none⟩=some (.int .i64 t.kind)∧W.cell? ⟨B,1,none⟩=some (.int .i64 t.num)∧W.cell? ⟨B,2,none⟩=some (.string t.text)∧W.cell? ⟨B,3,none⟩=some u:=by
 have h':W.heap[B]? = some (.cells #[.int .i64 t.kind,.int .i64 t.num,.string t.text,u] 24 (0,0)):=h
 unfold World.cell?
 simp [h']
theorem BoxV.kept {A V:World} {row:Option Nat} {B:Nat} {t:VT} {u:Value} (h:BoxV A B t u) (hg:A.grownBy V row) (hr:some B≠row):BoxV V B t u:=(hg.block _ h.lt hr).trans h
theorem boxV_grownY {A V:World} {row:Option Nat} (hg:A.grownBy V row) (hr:∀r,row=some r→∃o:Obj,A.heap[r]? = some o∧o.isCells=false) {B:Nat} {t:VT} {u:Value} (h:BoxV A B t u):BoxV V B t u:=by
 have h':A.heap[B]? = some (.cells #[.int .i64 t.kind,.int .i64 t.num,.string t.text,u] 24 (0,0)):=h
 refine h.kept hg (fun e=>?_)
 obtain⟨o,ho,hoc⟩:=hr _ e.symm
 rw [h'] at ho
 cases ho
 simp [Obj.isCells] at hoc
attribute [local go_sem] Oper.semAt_some
structure CV where
 k:VT
 a1:Option Addr
 c1:Nat
def CV.p (x:CV):VT×Value:=(x.k,.slice x.a1 x.k.items.length x.c1)
def encCV (x:CV):Array Value:=#[.agg #[.int .i64 x.k.kind,.int .i64 x.k.num,.string x.k.text,.slice x.a1 x.k.items.length x.c1]]
def NewV (B:Nat) (W:World) (x:CV):Prop:=LiesB B 16 W x.k.items (.slice x.a1 x.k.items.length x.c1)∧x.k.text.size≤9223372036854775807
def PreCV (l:List VT) (pre:List CV) (x:CV) (V W:World):Prop:=NewV V.heap.size W x∧(pre.map CV.k++[x.k]) <+: l
abbrev OffV (B:Nat) (v:Value) (W:World) (k:Nat):Prop:=k≠B∧v.ownBlock≠some k∧k<W.heap.size
def GvR (b B:Nat) (pre:List CV) (v:Value) (W:World):Prop:=
 Go.Boxed W B 22 v∧W.ownsRow b 24 4 v pre.length (pre.flatMap (fun x=>encP x.p))∧∀x∈pre,LsX (OffV B v W) W x.k x.a1 x.c1
theorem LsX.grownV {B:Nat} {v:Value} {A V:World} {row:Option Nat} (hg:A.grownBy V row) (hr:∀r,row=some r→∃o:Obj,A.heap[r]? = some o∧o.isCells=false) {t:VT} {a:Option Addr} {c:Nat} (h:LsX (OffV B v A) A t a c):LsX (OffV B v V) V t a c:=
 ⟨h.1.stays (fun _ hk=>⟨hk.1,hk.2.1,Nat.lt_of_lt_of_le hk.2.2 hg.size⟩) (fun _ _ _ hu=>cell_grownY hg hr hu),h.2⟩
theorem GvR.own (b B M:Nat) (hB:B<M) (pre:List CV) (v:Value):OwnFrom M (fun (_:Unit) W=>GvR b B pre v W):=by
 intro s A V row hs hg hr
 obtain⟨bx,hrow,hl⟩:=hs
 have hr2:∀r,row=some r→∃o:Obj,A.heap[r]? = some o∧o.isCells=false:=fun r e=>(hr r e).2
 refine⟨bx.kept hg (fun e=>by have:=(hr _ e.symm).1;omega),hrow.kept hg ?_,fun x hx=>(hl x hx).grownV hg hr2⟩
 cases hvo:v.ownBlock with
 | none=>exact .inl rfl
 | some k=>
  refine .inr (fun e=>?_)
  obtain⟨_,o,ho,hoc⟩:=hr k e.symm
  rcases hrow.2 with ⟨e1,_⟩|⟨g,cap,cur,e1,_,e2,_,_,e4,_⟩
  ·rw [e1] at hvo;cases hvo
  ·rw [e1] at hvo
   have hgk:g=k:=by simpa [Value.ownBlock] using hvo
   subst hgk
   rw [e2] at ho
   cases ho
   simp [Obj.isCells] at hoc
def GvA (B:Nat) (l:List VT) (f:CV→Nat→Act) (pre:List CV) (x:CV) (a:Act) (W:World):Prop:=
 ∃Bk v,BoxV W Bk x.k (.slice x.a1 x.k.items.length x.c1)∧B<Bk∧Go.Boxed W B 22 v∧v.ownBlock≠some Bk∧LsX (OffV B v W) W x.k x.a1 x.c1∧(pre.map CV.k++[x.k]) <+: l∧a=f x Bk
theorem GvA.own (B:Nat) (l:List VT) (M:Nat) (hM:B<M) (f:CV→Nat→Act) (pre:List CV) (x:CV) (a:Act):OwnFrom M (fun (_:Unit) W=>GvA B l f pre x a W):=by
 intro s A V row hs hg hr
 obtain⟨Bk,v,bk,h1,bx,h3,hL,hp,rfl⟩:=hs
 have hr2:∀r,row=some r→∃o:Obj,A.heap[r]? = some o∧o.isCells=false:=fun r e=>(hr r e).2
 exact⟨Bk,v,boxV_grownY hg hr2 bk,h1,bx.kept hg (fun e=>by have:=(hr _ e.symm).1;omega),h3,hL.grownV hg hr2,hp,rfl⟩
theorem boxed_not_rowV {W:World} {B T base n:Nat} {u v:Value} {xs:List Value} (hb:Go.Boxed W B T u) (hr:W.ownsRow base 24 4 v n xs):some B≠v.ownBlock:=fun e=>by
 have hb':W.heap[B]? = some (.cells #[u] T (0,0)):=hb
 rcases hr.2 with ⟨e1,_⟩|⟨g9,cap9,cur,e1,_,e2,_,_,e4,_⟩
 ·rw [e1] at e;cases e
 ·rw [e1] at e
  have hgB:B=g9:=by simpa [Value.ownBlock] using e
  subst hgB
  rw [e2] at hb'
  injection hb' with hb'
  injection hb' with hcu _
  rw [hcu] at e4
  simp at e4
  omega
theorem boxed_put4 {W:World} {B:Nat} {t:Nat} {v:Value} (h:Go.Boxed W B t v) {g j:Nat} (hne:g≠B) (x:VT) (u:Value):Go.Boxed (W.setCells g j (encP (x,u))) B t v:=by
 have hs:∀(W:World) (j:Nat) (u:Value),Go.Boxed W B t v→Go.Boxed (W.setCell ⟨g,j,none⟩ u) B t v:=fun W j u h=>by
  show (W.setCell ⟨g,j,none⟩ u).heap[B]? = _
  rw [heap_setCell_other W ⟨g,j,none⟩ B u (fun e=>hne e.symm)]
  exact h
 exact hs _ _ _ (hs _ _ _ (hs _ _ _ (hs _ _ _ h)))
theorem keeps_put4 (w:World) (g j:Nat) (t:VT) (u:Value):KeepsOthers w (w.setCells g j (encP (t,u))):=
 (((KeepsOthers.setCell w ⟨g,j,none⟩ _).trans (KeepsOthers.setCell _ ⟨g,j+1,none⟩ _)).trans (KeepsOthers.setCell _ ⟨g,j+1+1,none⟩ _)).trans (KeepsOthers.setCell _ ⟨g,j+1+1+1,none⟩ _)
theorem below_put4 {n0:Nat} {w W:World} (h:Below n0 w W) {g:Nat} (hg:n0≤g) (j:Nat) (t:VT) (u:Value):Below n0 w (W.setCells g j (encP (t,u))):=
 (((h.setCell (p:=⟨g,j,none⟩) hg _).setCell (p:=⟨g,j+1,none⟩) hg _).setCell (p:=⟨g,j+1+1,none⟩) hg _).setCell (p:=⟨g,j+1+1+1,none⟩) hg _
abbrev Z4V:Obj:=.cells #[.int .i64 0,.int .i64 0,.string ⟨#[]⟩,.slice none 0 0] 24
def EndV (B g k cap:Nat) (x:CV) (w3 Z:World):Prop:=
 Z=(w3.setCells g (k*4) (encP x.p)).setCell ⟨B,0,none⟩ (.slice (some ⟨g,0,none⟩) (k+1) cap)∨Z=(w3.setCell ⟨B,0,none⟩ (.slice (some ⟨g,0,none⟩) (k+1) cap)).setCells g (k*4) (encP x.p)
theorem gv_step {w:World} {B k n1:Nat} {pre:List CV} {x:CV} {av:Option Addr} {cv:Nat} {W:World} (hk:k=pre.length) (hwB:w.heap.size≤B) (hR:GvR w.heap.size B pre (.slice av k cv) W) (hB:Below w.heap.size w W)
 (hx1:LsX (OffV B (.slice av k cv) W) W x.k x.a1 x.c1) (g cap:Nat) (w3:World) (hown:w3.ownsRow w.heap.size 24 4 (.slice (some ⟨g,0,none⟩) (k+1) cap) (k+1) (pre.flatMap (fun x=>encP x.p)++[.int .i64 0,.int .i64 0,.string ⟨#[]⟩,.slice none 0 0]))
 (hgrow:(W.alloc Z4V).drew.grownBy w3 (Value.slice av k cv).ownBlock) (hg:(Value.slice av k cv).ownBlock=some g∨g=(W.alloc Z4V).drew.heap.size) :
 Go.Boxed w3 B 22 (.slice av k cv)∧(∀B8 T u,Go.Boxed W B8 T u→Go.Boxed w3 B8 T u∧g≠B8)∧g≠B∧∀Z,EndV B g k cap x w3 Z→KeepsOthers W Z∧KpY 22 w.heap.size n1 W Z∧GvR w.heap.size B (pre++[x]) (.slice (some ⟨g,0,none⟩) (k+1) cap) Z∧Below w.heap.size w Z:=by
 obtain⟨bx,hrow,hl⟩:=hR
 have hvo:∀j,(Value.slice av k cv).ownBlock=some j→w.heap.size≤j∧j<W.heap.size:=fun j hj=>hrow.lt j hj
 have hbs:=hB.size
 have hs1:(W.alloc Z4V).drew.heap.size=W.heap.size+1:=by show (W.alloc Z4V).heap.size=_;simp
 have hbox:∀(B T:Nat) (u:Value),Go.Boxed W B T u→some B≠(Value.slice av k cv).ownBlock:=fun B T u hbu=>boxed_not_rowV hbu hrow
 have hnb:∀(B T:Nat) (u:Value),Go.Boxed W B T u→g≠B:=fun B T u hbu=>by
  rcases hg with hg|hg
  ·exact fun e=>hbox B T u hbu (by rw [hg,e])
  ·have:=hbu.lt;omega
 have hk3B:∀(B T:Nat) (u:Value),Go.Boxed W B T u→Go.Boxed w3 B T u:=fun B T u hbu=>(show Go.Boxed (W.alloc Z4V).drew B T u from hbu.alloc _).kept hgrow (hbox B T u hbu)
 have hw3:Below w.heap.size W w3:=((Below.refl _ W).alloc (by omega) _).drew.grown hgrow (by omega) (fun j e=>(hvo j e).1)
 have hrD:(W.alloc Z4V).drew.ownsRow w.heap.size 24 4 (.slice av k cv) pre.length (pre.flatMap (fun x=>encP x.p)):=(hrow.alloc _).drew
 have hk3:KeepsOthers W w3:=by
  refine ((KeepsOthers.alloc W _).trans (KeepsOthers.drew _)).trans (KeepsOthers.of_grownBy hgrow (fun j o2 e ho=>?_))
  rcases hrD.2 with ⟨e1,_⟩|⟨g9,cap9,cur,e1,_,e2,_⟩
  ·rw [e1] at e;cases e
  ·rw [e1] at e
   have:g9=j:=by simpa [Value.ownBlock] using e
   subst this
   rw [e2] at ho
   cases ho
   rfl
 have hgn:g≠B:=hnb _ _ _ bx
 have hgw:w.heap.size≤g:=(hown.lt g rfl).1
 have hxl:(pre.flatMap (fun x=>encP x.p)).length=k*4:=by rw [hrow.1,hk]
 refine⟨hk3B _ _ _ bx,fun B8 T u hbu=>⟨hk3B _ _ _ hbu,hnb _ _ _ hbu⟩,hgn,fun Z hZ=>?_⟩
 have hkZ:KeepsOthers W Z:=by
  rcases hZ with rfl|rfl
  ·exact hk3.trans ((keeps_put4 _ _ _ _ _).trans (KeepsOthers.setCell _ _ _))
  ·exact hk3.trans ((KeepsOthers.setCell _ _ _).trans (keeps_put4 _ _ _ _ _))
 have hbZ:Below w.heap.size W Z:=by
  rcases hZ with rfl|rfl
  ·exact (below_put4 hw3 hgw _ _ _).setCell (p:=⟨B,0,none⟩) hwB _
  ·exact below_put4 (hw3.setCell (p:=⟨B,0,none⟩) hwB _) hgw _ _ _
 have hboxZ:∀(B8 T:Nat) (u:Value),B8≠B→Go.Boxed W B8 T u→Go.Boxed Z B8 T u:=fun B8 T u hB8 hbu=>by
  have h3:=hk3B _ _ _ hbu
  have hg8:=hnb _ _ _ hbu
  rcases hZ with rfl|rfl
  ·exact (boxed_put4 h3 hg8 _ _).kept (grownBy_setCell' _ _ _) (by simp;omega)
  ·exact boxed_put4 (h3.kept (grownBy_setCell' _ _ _) (by simp;omega)) hg8 _ _
 have hrZ:Go.Boxed Z B 22 (.slice (some ⟨g,0,none⟩) (k+1) cap)∧Z.ownsRow w.heap.size 24 4 (.slice (some ⟨g,0,none⟩) (k+1) cap) (k+1) (pre.flatMap (fun x=>encP x.p)++encP x.p):=by
  have h3:=hk3B _ _ _ bx
  rcases hZ with rfl|rfl
  ·exact⟨(boxed_put4 h3 hgn _ _).set _,ownsRow_setCell_other (own_put23 hown hxl) (by simp [Value.ownBlock];omega) _⟩
  ·exact⟨boxed_put4 (h3.set _) hgn _ _,own_put23 (ownsRow_setCell_other hown (by simp [Value.ownBlock];omega) _) hxl⟩
 have hls:∀(t:VT) (a:Option Addr) (c:Nat),LsX (OffV B (.slice av k cv) W) W t a c→LsX (OffV B (.slice (some ⟨g,0,none⟩) (k+1) cap) Z) Z t a c:=fun t a c h=>
  ⟨h.1.stays (fun k2 hk2=>⟨hk2.1,(fun e=>by
   have e2:g=k2:=by simpa [Value.ownBlock] using e
   subst e2
   rcases hg with hg|hg
   ·exact hk2.2.1 hg
   ·have:=hk2.2.2;omega),Nat.lt_of_lt_of_le hk2.2.2 hkZ.size⟩) (fun a2 u hX hu=>by
   have h1:(W.alloc Z4V).drew.cell? a2=some u:=zaa (((Grew.refl W).alloc Z4V).below) hu
   have h3:w3.cell? a2=some u:=(World.cell?_of_block (hgrow.block a2.block (zad h1) (fun e=>hX.2.1 e.symm))).trans h1
   have hga:a2.block≠g:=fun e=>by
    rcases hg with hg|hg
    ·exact hX.2.1 (by rw [e,hg])
    ·have:=hX.2.2;omega
   rcases hZ with rfl|rfl
   ·exact (grownBy_setCell' _ B _).cell (set4_cell hga h3) (fun e=>hX.1 (by injection e))
   ·exact set4_cell hga ((grownBy_setCell' w3 B _).cell h3 (fun e=>hX.1 (by injection e)))),h.2⟩
 refine⟨hkZ,⟨hbZ,fun B8 T u hT hbu=>hboxZ B8 T u (fun e=>?_) hbu,hkZ.from _⟩,⟨hrZ.1,?_,fun y hy=>?_⟩,hB.trans hbZ⟩
 ·subst e
  have h1:W.heap[B8]? = some (.cells #[u] T (0,0)):=hbu
  have h2:W.heap[B8]? = some (.cells #[.slice av k cv] 22 (0,0)):=bx
  rw [h1] at h2
  injection h2 with h2
  injection h2 with _ h2
  exact hT h2
 ·have h9:=hrZ.2
  rw [List.length_append,List.flatMap_append,←hk]
  simpa using h9
 ·rcases List.mem_append.1 hy with hy|hy
  ·exact hls _ _ _ (hl y hy)
  ·rw [List.mem_singleton.1 hy]
   exact hls _ _ _ hx1
def GvI (w:World) (B:Nat) (pre:List CV) (W:World):Prop:=(∃v,GvR w.heap.size B pre v W)∧Below w.heap.size w W
theorem GvI.own (w:World) (B M:Nat) (hB:B<M) (hw:w.heap.size≤M):OwnFrom M (GvI w B):=by
 intro s A V row hs hg hr
 obtain⟨⟨v,hR⟩,hb⟩:=hs
 exact⟨⟨v,GvR.own w.heap.size B M hB s v () A V row hR hg hr⟩,hb.grown hg hb.size (fun k e=>by have:=(hr _ e).1;omega)⟩
theorem GvA.make {w:World} {B:Nat} {l:List VT} {f:CV→Nat→Act} {pre:List CV} {x:CV} {V W:World} (hI:GvI w B pre V) (hVW:Below V.heap.size V W) (hN:NewV V.heap.size W x) (hpx:(pre.map CV.k++[x.k]) <+: l) :
 GvA B l f pre x (f x W.heap.size) (W.alloc (.cells #[.int .i64 x.k.kind,.int .i64 x.k.num,.string x.k.text,.slice x.a1 x.k.items.length x.c1] 24))∧GvI w B pre (W.alloc (.cells #[.int .i64 x.k.kind,.int .i64 x.k.num,.string x.k.text,.slice x.a1 x.k.items.length x.c1] 24)):=by
 have hba:Below W.heap.size W (W.alloc (.cells #[.int .i64 x.k.kind,.int .i64 x.k.num,.string x.k.text,.slice x.a1 x.k.items.length x.c1] 24)):=((Grew.refl W).alloc _).below
 have hbVa:=hVW.trans (hba.mono hVW.size)
 have hI2:=hI
 obtain⟨⟨v,bx,hrow,_⟩,hB⟩:=hI
 have hvo:∀g,v.ownBlock=some g→g<V.heap.size:=fun g hg=>(hrow.lt g hg).2
 have hb8:B<V.heap.size:=bx.lt
 have hs1:=hVW.size
 refine⟨⟨W.heap.size,v,World.alloc_heap_new W _,by omega,(hbVa.block _ bx.lt).trans bx,(fun e=>by have:=hvo _ e;omega),⟨(LiesX.of_b hN.1).both.stays (fun k hk=>⟨by omega,(fun e=>by have:=hvo _ e;omega),by have:=hk.2;simp only [World.size_alloc];omega⟩) (fun a u _ hu=>zaa hba hu),hN.2⟩,hpx,rfl⟩,?_⟩
 exact GvI.own w B (B+1+w.heap.size) (by omega) (by omega) pre V _ none hI2 (zag hbVa) (fun r e=>by cases e)
theorem GvR.slp {b B:Nat} {pre:List CV} {v:Value} {W:World} (h:GvR b B pre v W) (hl:pre.length≤65536):SlP b 16 W (pre.map CV.p) v:=
 SlP.of_own (base:=b) (d:=16) (w:=W) (v:=v) (n:=pre.length) (ps:=pre.map CV.p) (by rw [List.length_map]) (by rw [List.flatMap_map];exact h.2.1) (fun p hp=>by
  obtain⟨x,hx,rfl⟩:=List.mem_map.1 hp
  obtain⟨h1,h2⟩:=h.2.2 x hx
  exact⟨h1.lies,h2⟩) (by rw [List.length_map];omega)
theorem map_p_k (pre:List CV):(pre.map CV.p).map (·.1)=pre.map CV.k:=by rw [List.map_map];rfl
theorem slp_putObj {base d:Nat} {w:World} {ps:List (VT×Value)} {v:Value} (h:SlP base d w ps v) {D:Nat} {o o':Obj} (hD:w.heap[D]? = some o) (ho:o.isCells=false):SlP base d (w.putObj D o') ps v:=by
 obtain⟨a,c,hv,h1,h2,h3,h4⟩:=h
 refine⟨a,c,hv,h1,h2,fun hne=>?_,fun p hp=>?_⟩
 ·obtain⟨b,o2,e1,e2,e3⟩:=h3 hne
  exact⟨b,o2,e1,e2,fun j hj=>by
   obtain⟨q0,q1,q2,q3⟩:=e3 j hj
   exact⟨cell_turnsX hD ho _ _ _ q0,cell_turnsX hD ho _ _ _ q1,cell_turnsX hD ho _ _ _ q2,cell_turnsX hD ho _ _ _ q3⟩⟩
 ·obtain⟨k1,k2⟩:=h4 p hp
  exact⟨((LiesX.of_lies k1).stays (Y:=fun _=>True) (fun _ _=>trivial) (fun a u _ hu=>cell_turnsX hD ho _ a u hu)).lies,k2⟩
end Go.Proofs.YtlnecfjnffdciacGreat
