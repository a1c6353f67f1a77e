import Derived.Test.YtlnecfjnffdciacGreatTreeS
import Derived.Deep.AppendLies
import Derived.RangeFuncNested
import Derived.RangeFuncBound
import Derived.Shelf.RegionOpen
import Derived.OwnWalkIn
import Derived.LoopNIn
import Derived.LoopIn
namespace Go.Proofs.YtlnecfjnffdciacGreat
open Go.RowKit Go.Shelf
def SeqX {α:Type} (F:Fence) (n:Nat) (P:Program) (g:Nat) (lb:Array Value) (encs:α→Array Value) (Kp:Nat→World→World→Prop) (Pre:List α→α→World→World→Prop) (S Sp:List α→Prop) (N:Nat) (w:World):Prop:=
 ∀(l:Nat) (J Jx:List α→World→Prop) (W:World),Below w.heap.size w W→OwnFrom W.heap.size J→OwnFrom W.heap.size Jx→
  (∀pre x V W1,J pre V→Below V.heap.size V W1→Pre pre x V W1→pre.length<N→YieldAt F (n-1) P l (encs x) W1 fun e W'=>(e=.returned (.bool true)∧J (pre++[x]) W'∧Kp W.heap.size W1 W')∨(e=.returned (.bool false)∧Jx (pre++[x]) W'∧Kp W.heap.size W1 W'))→
  J [] W→CallsIn F n P g (#[.func (.yield l) #[] #[]]++lb) W fun e W'=>(∃v,e=.returned v)∧((∃xs,S xs∧J xs W')∨(∃pre,Sp pre∧Jx pre W'))
def postX {α:Type} (B:Nat) (Kp:World→World→Prop) (I:List α→World→Prop) (Ix:Code→List α→World→Prop) (xs:List α) (W:World):Exit→Act→World→Prop
 | .normal,_,W'=>KeepsFrom B W W'∧Kp W W'∧I xs W'
 | .ret,_,W'=>KeepsFrom B W W'∧Kp W W'∧Ix .ret xs W'
 | .exit id,_,W'=>KeepsFrom B W W'∧Kp W W'∧Ix (.exit id) xs W'
 | .goto t,_,W'=>KeepsFrom B W W'∧Kp W W'∧Ix (.goto t) xs W'
 | .panic _,_,_=>False
 | .outgrown,_,_=>False
def recX (fn:FuncId) (tmps:Array Value) (ps:Array Tmp) (assign body:Code) (D:Nat) (st:LoopState) (pe:Option Code):Loop:={ state:=st,pending:=pe,fn:=fn,tmps:=tmps,params:=ps,assign:=assign,body:=body,defers:=D }
def BooksX (D:Nat) (r:Loop) (W:World):Prop:=W.heap[D+1]? = some (.loop r)∧W.heap[D]? = some (.deferred (some []))
theorem BooksX.others {D B:Nat} {r:Loop} {W W':World} (h:BooksX D r W) (hk:KeepsFrom B W W') (hB:B≤D):BooksX D r W':=⟨hk.same _ _ (by omega) h.1 rfl,hk.same _ _ hB h.2 rfl⟩
theorem BooksX.put {D:Nat} {r r':Loop} {W:World} (h:BooksX D r W):BooksX D r' (W.putObj (D+1) (.loop r')):=
 ⟨World.putObj_heap_same (Array.getElem?_eq_some_iff.1 h.1).1,(World.putObj_heap_other (by omega)).trans h.2⟩
theorem BooksX.grown {D B:Nat} {r:Loop} {A C:World} {row:Option Nat} (h:BooksX D r A) (hg:A.grownBy C row) (hr:∀k,row=some k→B≤k) (hB:D+1<B):BooksX D r C:=
 ⟨(hg.block _ (Array.getElem?_eq_some_iff.1 h.1).1 (fun e=>by have:=hr _ e.symm;omega)).trans h.1,(hg.block _ (Array.getElem?_eq_some_iff.1 h.2).1 (fun e=>by have:=hr _ e.symm;omega)).trans h.2⟩
theorem rangeX {α:Type} {F:Fence} {n:Nat} {P:Program} {g:Operand} {ps:Array Tmp} {assign body:Code} {Q:Exit→Act→World→Prop} {a:Act} {w:World}
 (hro:F.round=none) (h1:1≤n) {gf:Nat} {lb:Array Value} (hg:a.eval g=.func (.func gf) #[] lb) (hFg:F.fn gf) (eg:∀args w,(callFunc gf args).run P w=.ok (.enter gf args) w)
 {encs:α→Array Value} {Kp:Nat→World→World→Prop} {Pre:List α→α→World→World→Prop} {S Sp:List α→Prop} {N:Nat} {w0:World} (hseq:SeqX F (n-1) P gf lb encs Kp Pre S Sp N w0)
 (hKt:∀{A B C:World},Kp (w.heap.size+2) A B→Kp (w.heap.size+2) B C→Kp (w.heap.size+2) A C) (hKb:∀(W:World) (o o':Obj),W.heap[w.heap.size+1]? = some o→o.isCells=false→Kp (w.heap.size+2) W (W.putObj (w.heap.size+1) o')) (hb0:Below w0.heap.size w0 w) (hps:∀x,(encs x).size=ps.size)
 (I:List α→World→Prop) (Ix:Code→List α→World→Prop) (hI:OwnFrom w.heap.size I) (hIx:∀c,OwnFrom w.heap.size (Ix c)) (h0:I [] w) (Ax:List α→α→Act→World→Prop) (hAx:∀pre x a',OwnFrom w.heap.size (fun (_:Unit) W=>Ax pre x a' W))
 (hassign:∀(l:Nat) (pre:List α) (x:α) (V W:World) (K:Act→World→Prop),I pre V→Below V.heap.size V W→Pre pre x V W→(∀a' W',KeepsFrom w.heap.size W W'→Kp (w.heap.size+2) W W'→I pre W'→Ax pre x a' W'→K a' W')→
  assign.wpIn (F.inRound l) (n-1-1) P (Exit.then K (fun _ _ _=>False)) { tmps:=(ps.zip (encs x)).foldl (fun t (p,v)=>t.setIfInBounds p v) a.tmps,defers:=[] } W)
 (hbody:∀(l:Nat) (pre:List α) (x:α) (a':Act) (W:World),w.heap.size≤l→I pre W→Ax pre x a' W→pre.length<N→body.wpIn (F.inRound l) (n-1-1) P (postX w.heap.size (Kp (w.heap.size+2)) I Ix (pre++[x]) W) a' W)
 (hdone:∀(D:Nat) (xs:List α) (W:World),w.heap.size≤D→S xs→I xs W→W.heap[D]? = some (.deferred (some []))→Q .normal { a with defers:={ target:=.collected D,args:=#[] } :: a.defers } W)
 (hstop:∀(D:Nat) (c:Code) (pre:List α) (W:World),w.heap.size≤D→Sp pre→Ix c pre W→W.heap[D]? = some (.deferred (some []))→c.wpIn F n P Q { a with defers:={ target:=.collected D,args:=#[] } :: a.defers } W) :
 (Code.rangeFunc g ps assign body).wpIn F n P Q a w:=by
 refine wpIn_rangeFunc fun fn hfn=>?_
 rw [hro]
 obtain⟨rec,hrec⟩:∃rec,rec=recX fn a.tmps ps assign body w.heap.size:=⟨_,rfl⟩
 obtain⟨V,hV⟩:∃V,V=(w.alloc (.deferred (some []))).alloc (.loop (rec .ready none)):=⟨_,rfl⟩
 have hVs:V.heap.size=w.heap.size+2:=by rw [hV];simp
 have hbk:BooksX w.heap.size (rec .ready none) V:=by
  rw [hV]
  refine⟨?_,(Below.heap_alloc _ _ _ (by simp)).trans (World.alloc_heap_new w _)⟩
  have h9:=World.alloc_heap_new (w.alloc (.deferred (some []))) (.loop (rec .ready none))
  rwa [World.size_alloc] at h9
 have hIV:I [] V:=by rw [hV];exact hI.alloc _ (hI.alloc _ h0)
 have hbV:Below w0.heap.size w0 V:=by
  rw [hV]
  exact hb0.trans ((((Below.refl _ w).alloc (Nat.le_refl _) _).alloc (by simp) _).mono hb0.size)
 refine⟨w.heap.size+1,[{ target:=.collected w.heap.size,args:=#[] }],V,{ target:=.fn (.func gf) lb,args:=#[.func (.yield (w.heap.size+1)) #[] #[]] },V,gf,#[.func (.yield (w.heap.size+1)) #[] #[]]++lb,V,?_,?_,?_,?_,fun _=>h1,?_⟩
 ·rw [hV,hrec];exact run_enterLoop_outer _ _ _ _ _
 ·simp only [resolve,hg]
  simp [go_sem]
 ·intro f' hf'
  simp [Target.leads] at hf'
  subst hf'
  exact hFg
 ·simp [invoke,go_sem,eg]
 ·refine (hseq (w.heap.size+1) (fun pre W=>I pre W∧BooksX w.heap.size (rec .ready none) W) (fun pre W=>∃c,Ix c pre W∧BooksX w.heap.size (rec .done (some c)) W) V hbV ?_ ?_ ?_ ⟨hIV,hbk⟩).mono ?_
  ·rintro s A B row ⟨hi,hk⟩ hgr hr
   exact⟨hI s A B row hi hgr (fun r e=>⟨by have:=(hr r e).1;omega,(hr r e).2⟩),hk.grown hgr (fun k e=>(hr k e).1) (by omega)⟩
  ·rintro s A B row ⟨c,hi,hk⟩ hgr hr
   exact⟨c,hIx c s A B row hi hgr (fun r e=>⟨by have:=(hr r e).1;omega,(hr r e).2⟩),hk.grown hgr (fun k e=>(hr k e).1) (by omega)⟩
  ·rintro pre x V0 W ⟨hi,hk0⟩ hb0W hpre hlen
   have hk:BooksX w.heap.size (rec .ready none) W:=⟨(hb0W.block _ (Array.getElem?_eq_some_iff.1 hk0.1).1).trans hk0.1,(hb0W.block _ (Array.getElem?_eq_some_iff.1 hk0.2).1).trans hk0.2⟩
   have hy:=run_yield (P:=P) (args:=encs x) hk.1 (by rw [hrec];exact hps x)
   rw [hrec] at hy
   refine⟨fn,_,assign,body,hy,roundIn_of_wpIn hfn (hassign _ pre x V0 W _ hi hb0W hpre ?_)⟩
   intro a' Wa hkf hkp hia hax
   have hka:=hk.others hkf (Nat.le_refl _)
   refine⟨_,run_beginRound hka.1 (by rw [hrec];rfl),?_⟩
   have hk2:BooksX w.heap.size { rec .ready none with state:=.busy } (Wa.putObj (w.heap.size+1) (.loop { rec .ready none with state:=.busy })):=hka.put
   have hkp2:Kp (w.heap.size+2) Wa (Wa.putObj (w.heap.size+1) (.loop { rec .ready none with state:=.busy })):=hKb _ _ _ hka.1 rfl
   refine wpIn_mono (hbody _ pre x a' _ (by omega) (hI.putObj _ hia (by omega) hka.1 rfl) ((hAx pre x a').putObj (s:=()) _ hax (by omega) hka.1 rfl) hlen) ?_
   rintro e a3 W3 hp
   cases e with
   | normal=>
    obtain⟨hk3,hkp3,hi3⟩:=hp
    have hb3:=hk2.others hk3 (Nat.le_refl _)
    have hrun:=run_endRound (P:=P) none hb3.1
    refine⟨_,_,hrun,.inl ⟨rfl,⟨hI.putObj _ hi3 (by omega) hb3.1 rfl,?_⟩,by rw [hVs];exact hKt hkp (hKt (hKt hkp2 hkp3) (hKb _ _ _ hb3.1 rfl))⟩⟩
    have h9:=hb3.put (r':=rec .ready none)
    rw [hrec] at h9 ⊢
    exact h9
   | ret=>
    obtain⟨hk3,hkp3,hi3⟩:=hp
    have hb3:=hk2.others hk3 (Nat.le_refl _)
    have hrun:=run_endRound (P:=P) (some .ret) hb3.1
    refine⟨_,_,hrun,.inr ⟨rfl,⟨.ret,(hIx _).putObj _ hi3 (by omega) hb3.1 rfl,?_⟩,by rw [hVs];exact hKt hkp (hKt (hKt hkp2 hkp3) (hKb _ _ _ hb3.1 rfl))⟩⟩
    have h9:=hb3.put (r':=rec .done (some .ret))
    rw [hrec] at h9 ⊢
    exact h9
   | exit id=>
    obtain⟨hk3,hkp3,hi3⟩:=hp
    have hb3:=hk2.others hk3 (Nat.le_refl _)
    have hrun:=run_endRound (P:=P) (some (.exit id)) hb3.1
    refine⟨_,_,hrun,.inr ⟨rfl,⟨.exit id,(hIx _).putObj _ hi3 (by omega) hb3.1 rfl,?_⟩,by rw [hVs];exact hKt hkp (hKt (hKt hkp2 hkp3) (hKb _ _ _ hb3.1 rfl))⟩⟩
    have h9:=hb3.put (r':=rec .done (some (.exit id)))
    rw [hrec] at h9 ⊢
    exact h9
   | goto t=>
    obtain⟨hk3,hkp3,hi3⟩:=hp
    have hb3:=hk2.others hk3 (Nat.le_refl _)
    have hrun:=run_endRound (P:=P) (some (.goto t)) hb3.1
    refine⟨_,_,hrun,.inr ⟨rfl,⟨.goto t,(hIx _).putObj _ hi3 (by omega) hb3.1 rfl,?_⟩,by rw [hVs];exact hKt hkp (hKt (hKt hkp2 hkp3) (hKb _ _ _ hb3.1 rfl))⟩⟩
    have h9:=hb3.put (r':=rec .done (some (.goto t)))
    rw [hrec] at h9 ⊢
    exact h9
   | panic ch=>exact hp.elim
   | outgrown=>exact hp.elim
  ·rintro e W2 ⟨⟨v,rfl⟩,(⟨xs,hS,hi,hk⟩|⟨pre,hSp,c,hi,hk⟩)⟩
   ·have hrun:=run_endLoop (P:=P) hk.1 (by rw [hrec];simp [recX])
    exact⟨none,_,by rw [hrun,hrec];rfl,hdone _ xs _ (Nat.le_refl _) hS (hI.putObj _ hi (by omega) hk.1 rfl) ((World.putObj_heap_other (by omega)).trans hk.2)⟩
   ·have hrun:=run_endLoop (P:=P) hk.1 (by rw [hrec];simp [recX])
    exact⟨some c,_,by rw [hrun,hrec];rfl,hstop _ c pre _ (Nat.le_refl _) hSp ((hIx c).putObj _ hi (by omega) hk.1 rfl) ((World.putObj_heap_other (by omega)).trans hk.2)⟩
def KBy (Z:Nat) (A B:World):Prop:=∀b T u,T≠Z→Go.Boxed A b T u→Go.Boxed B b T u
def KpY (Z n0 n1:Nat) (A B:World):Prop:=Below n0 A B∧KBy Z A B∧KeepsFrom n1 A B
theorem KBy.below {Z:Nat} {A B:World} (h:Below A.heap.size A B):KBy Z A B:=fun b _ _ _ hb=>(h.block b hb.lt).trans hb
theorem KBy.trans {Z:Nat} {A B C:World} (h:KBy Z A B) (k:KBy Z B C):KBy Z A C:=fun b T u hT hb=>k b T u hT (h b T u hT hb)
theorem KBy.put {Z:Nat} {W:World} {l:Nat} {o o':Obj} (hl:W.heap[l]? = some o) (ho:o.isCells=false):KBy Z W (W.putObj l o'):=fun b T u _ hb=>by
 by_cases e:b=l
 ·subst e
  have hb':W.heap[b]? = some (.cells #[u] T (0,0)):=hb
  rw [hl] at hb'
  injection hb' with hb'
  subst hb'
  simp [Obj.isCells] at ho
 ·exact (World.putObj_heap_other e).trans hb
theorem kpY_t {Z n0 n1:Nat} {A B C:World} (h:KpY Z n0 n1 A B) (k:KpY Z n0 n1 B C):KpY Z n0 n1 A C:=⟨h.1.trans k.1,h.2.1.trans k.2.1,h.2.2.trans k.2.2⟩
theorem kpY_b {Z n0 n1 l:Nat} (hn:n0≤l) (h1:l<n1) (W:World) (o o':Obj) (h:W.heap[l]? = some o) (hc:o.isCells=false):KpY Z n0 n1 W (W.putObj l o'):=
 ⟨⟨rfl,rfl,rfl,by simp [World.putObj],fun k hk=>World.putObj_heap_other (by omega)⟩,KBy.put h hc,by simp [World.putObj],fun k o2 hk ho _=>(World.putObj_heap_other (by omega)).trans ho⟩
theorem keepsBelowY {B:Nat} {A C:World} (h:Below A.heap.size A C):KeepsFrom B A C:=⟨h.size,fun k _ _ hk _=>(h.block k (Array.getElem?_eq_some_iff.1 hk).1).trans hk⟩
theorem keepsLaterY {B B':Nat} {A C:World} (h:KeepsFrom B A C) (hB:B≤B'):KeepsFrom B' A C:=⟨h.size,fun k o hk ho hc=>h.same k o (by omega) ho hc⟩
theorem zag {A C:World} (h:Below A.heap.size A C):A.grownBy C none:=⟨h.os,h.tape,h.output,h.size,fun k hk _=>h.block k hk⟩
theorem room_wideX (k:Nat):Fence.wide.room k:=fun d h=>by cases h
theorem roundIn_inX {m:Nat} {P:Program} {l:Nat} {f:FuncId} {tmps:Array Value} {assign body:Code} {w:World} {R:Ending→World→Prop} (h:RoundIn Fence.wide m P l f tmps assign body w R) (lp m':Nat):RoundIn (Fence.wide.inRound lp) m' P l f tmps assign body w R:=⟨h.1,fun c cs _=>h.2 c cs (room_wideX _)⟩
theorem roundIn_deepX {m m':Nat} {P:Program} {l:Nat} {f:FuncId} {tmps:Array Value} {assign body:Code} {w:World} {R:Ending→World→Prop} (h:RoundIn Fence.wide m P l f tmps assign body w R):RoundIn Fence.wide m' P l f tmps assign body w R:=⟨h.1,fun c cs _=>h.2 c cs (room_wideX _)⟩
theorem yieldAt_deepX {m:Nat} (m':Nat) {P:Program} {l:Nat} {args:Array Value} {W:World} {R:Ending→World→Prop} (h:YieldAt Fence.wide m P l args W R):YieldAt Fence.wide m' P l args W R:=by
 obtain⟨fn,tmps,assign,body,hy,hR⟩:=h
 exact⟨fn,tmps,assign,body,hy,roundIn_deepX hR⟩
theorem below_putX {n0 l:Nat} {W:World} {o':Obj} (hn:n0≤l):Below n0 W (W.putObj l o'):=⟨rfl,rfl,rfl,by simp [World.putObj],fun k hk=>World.putObj_heap_other (by omega)⟩
def markX (D:Nat):Deferred:={ target:=.collected D,args:=#[] }
def MarksX (n0:Nat) (W:World) (ds:List Nat):Prop:=ds.Nodup∧∀D∈ds,n0≤D∧W.heap[D]? = some (.deferred (some []))
theorem MarksX.nil (n0:Nat) (W:World):MarksX n0 W []:=⟨List.nodup_nil,fun _ h=>by cases h⟩
theorem MarksX.cons {n0:Nat} {W:World} {ds:List Nat} (h:MarksX n0 W ds) {D:Nat} (hn:n0≤D) (hD:W.heap[D]? = some (.deferred (some []))) (hne:D ∉ ds):MarksX n0 W (D::ds):=
 ⟨List.nodup_cons.2 ⟨hne,h.1⟩,fun E hE=>by
  rcases List.mem_cons.1 hE with rfl|hE
  ·exact⟨hn,hD⟩
  ·exact h.2 E hE⟩
theorem MarksX.one {n0 D:Nat} {W:World} (hn:n0≤D) (hD:W.heap[D]? = some (.deferred (some []))):MarksX n0 W [D]:=(MarksX.nil _ _).cons hn hD (by simp)
theorem leavesX {F:Fence} {n:Nat} {P:Program} {fn:Func} {tmps:Array Value} {R:Ending→World→Prop} (n0:Nat) (T:World→Prop) (hT:∀W D,n0≤D→W.heap[D]? = some (.deferred (some []))→T W→T (W.putObj D (.deferred none)))
 (hend:∀W,T W→∃v,(results fn tmps).run P W=.ok v W∧R (.returned v) W):∀(ds:List Nat) (W:World),MarksX n0 W ds→T W→LeavesInM F n P fn tmps R (ds.map markX) .returning W:=by
 intro ds
 induction ds with
 | nil=>intro W _ h;exact hend W h
 | cons D ds ih=>
  intro W hm h
  obtain⟨hn,hD⟩:=hm.2 D List.mem_cons_self
  refine⟨by simp,.inl ⟨D,_,rfl,run_takeDeferred hD,?_⟩⟩
  refine ih _ ⟨(List.nodup_cons.1 hm.1).2,fun E hE=>?_⟩ (hT W D hn hD h)
  obtain⟨hn2,hE2⟩:=hm.2 E (List.mem_cons_of_mem _ hE)
  refine⟨hn2,(World.putObj_heap_other (fun e=>?_)).trans hE2⟩
  subst e
  exact (List.nodup_cons.1 hm.1).1 hE
theorem cell_turnsX {W:World} {D:Nat} {o:Obj} (hD:W.heap[D]? = some o) (ho:o.isCells=false) (o':Obj) (a:Addr) (u:Value) (hu:W.cell? a=some u):(W.putObj D o').cell? a=some u:=by
 refine (grownBy_putObj' W D o').cell hu (fun e=>?_)
 injection e with e
 unfold World.cell? at hu
 rw [e,hD] at hu
 cases o <;> simp_all [Obj.isCells]
end Go.Proofs.YtlnecfjnffdciacGreat
