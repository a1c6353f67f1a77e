import Derived.Test.YtcflooaoocngdaaGreatPrtP
import Derived.Test.YtcflooaoocngdaaGreatSplF
import Derived.Test.YtcflooaoocngdaaGreatAppV4
import Derived.Test.YtcflooaoocngdaaGreatHeldIn
set_option maxRecDepth 100000
set_option maxHeartbeats 8000000
namespace Go.Proofs.YtcflooaoocngdaaGreat
open Go.RowKit
def PtPost (r:List VT) (er:Int) (w:World) (e:Ending) (w':World):Prop:=
 ∃v,e=.returned (.tuple #[v,.int .i64 er])∧Lies 18 w' r v∧Below w.heap.size w w'
open Go.Shelf
attribute [local go_sem] Oper.semAt_some
theorem part_any (c:List VT) (u:Value) (W:World) (hu:Lies 17 W c u) (hr:∀x∈c,zab 16 x=true) (hl:c.length≤65536) :
 Calls Tryz.prog 13 #[u] W fun e w'=>Below W.heap.size W w'∧((zab 17 (listT c)=false∧e=.returned (.tuple #[.agg #[.int .i64 0,.int .i64 0,.string ⟨#[]⟩,.slice none 0 0],.int .i64 2]))∨(zab 17 (listT c)=true∧∃a3 n3 c3,e=.returned (.tuple #[.agg #[.int .i64 4,.int .i64 0,.string ⟨#[]⟩,.slice a3 n3 c3],.int .i64 0])∧LiesX (fun m=>W.heap.size≤m) 17 w' c (.slice a3 n3 c3))):=by
 refine Calls.mono (vlist_any 16 c u W hu) ?_
 have hz:zad 16 c=0:=by unfold zad;rw [if_neg (by omega),if_pos (List.all_eq_true.2 hr)]
 have hrr:=list_right c hr
 rintro e w' ⟨hb,⟨h,_⟩|⟨_,⟨h,he⟩|⟨h,v,he,hv⟩⟩⟩
 ·exact absurd hz h
 ·exact⟨hb,.inl ⟨by rw [hrr];exact h,he⟩⟩
 ·have hx:LiesX (fun m=>W.heap.size≤m) 17 w' c v:=LiesX.of_b hv
  obtain⟨a3,c3,rfl,_⟩:=LiesX.slice hx
  exact⟨hb,.inr ⟨by rw [hrr];exact h,a3,_,c3,he,hx⟩⟩
theorem partsF_bad (d:Nat) (n:Int) (l:List VT) (v:Value) (w:World) (hv:Lies (d+1) w l v) (hbad:(n<1∨65536<n)∨zad d l≠0) :
 Calls Tryz.prog 4 #[.int .i64 n,v] w (PtPost (prtL d n l) (prtE d n l) w):=by
 obtain⟨a,c,rfl,hcl⟩:=Lies.slice hv
 have HC:Hid (∀W,Below w.heap.size w W→Calls Tryz.prog 11 #[.slice a l.length c] W fun e w'=>e=.returned (.int .i64 (zad d l))∧Below W.heap.size W w'):=fun W hW=>zap d l _ W (Lies.keeps hW _ _ _ hv)
 generalize l.length=ll at *
 have hLL:prtE d n l≠0:=by
  unfold prtE
  by_cases h:n<1∨65536<n
  ·rw [if_pos h];omega
  ·rw [if_neg h,if_pos (hbad.resolve_left h)];exact hbad.resolve_left h
 have hL:prtL d n l=[]:=by unfold prtL;rw [if_neg hLL]
 rw [hL]
 have HF:Hid (∀W,Below w.heap.size w W→PtPost [] (prtE d n l) w (.returned (.tuple #[.slice none 0 0,.int .i64 (prtE d n l)])) W):=fun W hW=>⟨_,rfl,(zah (fun _=>True) 18 _ none 0).lies,hW⟩
 have hb0:Below w.heap.size w ((w.alloc (.cells #[.slice none 0 0] 22)).alloc (.cells #[.int .i64 0] 23)):=(((Grew.refl w).alloc _).alloc _).below
 have hb1:∀e,Below w.heap.size w ((w.alloc (.cells #[.slice none 0 0] 22)).alloc (.cells #[.int .i64 e] 23)):=fun e=>(((Grew.refl w).alloc _).alloc _).below
 clear hv hL hLL
 generalize hP:PtPost [] (prtE d n l) w=PP at *
 have hE:(n<1∨65536<n)→prtE d n l=1:=fun h=>by unfold prtE;rw [if_pos h]
 have hE2 : ¬(n<1∨65536<n)→prtE d n l=zad d l:=fun h=>by unfold prtE;rw [if_neg h,if_pos (hbad.resolve_left h)]
 clear hP
 generalize prtE d n l=E at *
 have HE:Hid _:=hE
 have HE2:Hid _:=hE2
 clear hE hE2
 have Hb1:Hid _:=hb1
 clear hb1
 go_enter Tryz.func4,Tryz.ntmps4
 by_cases hn1:n<1
 ·have hE:=HE.out (.inl hn1)
  subst hE
  have HG:=HF.out _ (Hb1.out 1)
  have Hg:Hid _:=HG
  clear HE HE2 HC HF hb0 Hb1 hbad HG
  go_wp2_with fail
  refine bodyPost_ret (v:=.tuple #[.slice none 0 0,.int .i64 1]) ?_ rfl Hg.out
  simp [results,Tryz.results4,go_sem]
 by_cases hn2:65536<n
 ·have hE:=HE.out (.inr hn2)
  subst hE
  have HG:=HF.out _ (Hb1.out 1)
  have Hg:Hid _:=HG
  clear HE HE2 HC HF hb0 Hb1 hbad HG
  go_wp2_with fail
  refine bodyPost_ret (v:=.tuple #[.slice none 0 0,.int .i64 1]) ?_ rfl Hg.out
  simp [results,Tryz.results4,go_sem]
 have hE:=HE2.out (by omega)
 have hne:=hbad.resolve_left (by omega)
 subst hE
 clear HE HE2 hbad
 generalize zad d l=E at *
 have HW:Hid (Go.Boxed ((w.alloc (.cells #[.slice none 0 0] 22)).alloc (.cells #[.int .i64 0] 23)) w.heap.size 22 (.slice none 0 0)∧Go.Boxed ((w.alloc (.cells #[.slice none 0 0] 22)).alloc (.cells #[.int .i64 0] 23)) (w.heap.size+1) 23 (.int .i64 0)):=by
  refine⟨(Go.Boxed.new w _ _).alloc _,?_⟩
  have:=Go.Boxed.new (w.alloc (.cells #[.slice none 0 0] 22)) 23 (.int .i64 0)
  rwa [World.size_alloc] at this
 go_wp2_with fail
 refine Calls.mono (HC.out _ hb0) ?_
 rintro e w1 ⟨rfl,hb2⟩
 have x4:=zaa hb2 HW.out.1.cell
 have x5:=zaa hb2 HW.out.2.cell
 have g4:=(hb2.frozen (p:=⟨w.heap.size,0,none⟩) HW.out.1.lt).trans HW.out.1.frozen
 have g5:=(hb2.frozen (p:=⟨w.heap.size+1,0,none⟩) HW.out.2.lt).trans HW.out.2.frozen
 have hb3:Below w.heap.size w w1:=hb0.trans (hb2.mono hb0.size)
 have Hg:Hid (PP (.returned (.tuple #[.slice none 0 0,.int .i64 E])) ((w1.setCell ⟨w.heap.size,0,none⟩ (.slice none 0 0)).setCell ⟨w.heap.size+1,0,none⟩ (.int .i64 E))):=HF.out _ ((hb3.setCell (p:=⟨w.heap.size,0,none⟩) (Nat.le_refl _) _).setCell (p:=⟨w.heap.size+1,0,none⟩) (Nat.le_succ _) _)
 clear HC HF Hb1 HW hb0 hb2 hb3
 go_wp2_with fail
 refine bodyPost_ret (v:=.tuple #[.slice none 0 0,.int .i64 E]) ?_ rfl Hg.out
 simp [results,Tryz.results4,go_sem,x4,x5]
def ckL {S ll:Nat} (l:List VT) (x:CkS S ll):List VT:=(l.drop x.1.1).take (x.1.2-x.1.1)
theorem ckL_mul {S:Nat} {l:List VT} {i m:Nat} (hm:m=min S (l.length-i)):(l.drop i).take m=(l.drop i).take S:=by
 rw [hm]
 by_cases h:S≤l.length-i
 ·rw [Nat.min_eq_left h]
 ·rw [Nat.min_eq_right (by omega),List.take_of_length_le (by rw [List.length_drop];omega),List.take_of_length_le (by rw [List.length_drop];omega)]
theorem ckL_of {S:Nat} (hS:1≤S) (l:List VT) (x:CkS S l.length):x.1.1 / S<nCk S l.length∧ckL l x=prtAt S l (x.1.1 / S):=by
 obtain⟨⟨i,j⟩,h1,h2,h3⟩:=x
 simp only at h1 h2 h3
 have h4:i / S*S=i:=by
  have:=Nat.div_add_mod i S
  rw [h3,Nat.mul_comm] at this
  simpa using this
 refine⟨(nCk_lt hS).2 (by simp only;rw [h4];exact h1),?_⟩
 simp only [ckL,prtAt,h4]
 exact ckL_mul (by omega)
theorem cks_map {S:Nat} (l:List VT) (h:0<l.length) (hS:1≤S):(cksS S l.length h (nCk S l.length)).map (fun x=>listT (ckL l x))=prt S l:=by
 unfold cksS prt
 rw [List.map_map]
 refine List.map_congr_left (fun k hk=>?_)
 have hlt:k*S<l.length:=(nCk_lt hS).1 (List.mem_range.1 hk)
 have hv:=ckAtS_val S l.length k h hlt
 show listT (ckL l (ckAtS S l.length k h))=_
 unfold ckL prtAt
 rw [hv]
 exact congrArg listT (ckL_mul (by simp only;omega))
structure PI (S ll:Nat) (l:List VT) (w:World) (O M:Nat) (pre:List (CkS S ll)) (W:World):Prop where
 ex:∃(ao:Option Addr) (co:Nat) (ps:List (VT×Value)),ps.length=pre.length∧W.cell? ⟨O,0,none⟩=some (.slice ao pre.length co)∧W.frozen? ⟨O,0,none⟩=false∧W.ownsRow M 27 4 (.slice ao pre.length co) pre.length (ps.flatMap encP)∧
  (∀p∈ps,LiesX (fun m=>M≤m∧(Value.slice ao pre.length co).ownBlock≠some m) 17 W p.1.items p.2)∧ps.map (·.1)=pre.map (fun x=>listT (ckL l x))
 right:∀x∈pre,zab 17 (listT (ckL l x))=true
 c4:W.cell? ⟨w.heap.size,0,none⟩=some (.slice none 0 0)∧W.frozen? ⟨w.heap.size,0,none⟩=false
 c5:W.cell? ⟨w.heap.size+1,0,none⟩=some (.int .i64 0)∧W.frozen? ⟨w.heap.size+1,0,none⟩=false
 below:Below w.heap.size w W
 size:M≤W.heap.size
theorem notR25 {W:World} {row:Option Nat} (hr:∀r,row=some r→∃o:Obj,W.heap[r]? = some o∧o.isCells=false) {a:Addr} {v:Value} (h:W.cell? a=some v) : ¬some a.block=row:=by
 intro e
 obtain⟨o,ho,hoc⟩:=hr _ e.symm
 unfold World.cell? at h
 rw [ho] at h
 cases o <;> simp_all [Obj.isCells]
theorem ownR25 {W W':World} {row:Option Nat} {base n:Nat} {v:Value} {xs:List Value} (h:W.ownsRow base 27 4 v n xs) (k:KC (fun n=>some n=row) W W') (hr:∀r,row=some r→∃o:Obj,W.heap[r]? = some o∧o.isCells=false):W'.ownsRow base 27 4 v n xs:=by
 refine own_kc h k (fun g hg e=>?_)
 rcases h.2 with ⟨rfl,_⟩|⟨g',cap,cur,rfl,_,h4,_⟩
 ·simp [Value.ownBlock] at hg
 ·obtain⟨o,ho,hoc⟩:=hr _ e.symm
  have:g'=g:=by simpa [Value.ownBlock] using hg
  subst this
  rw [h4] at ho
  injection ho with ho
  subst ho
  simp [Obj.isCells] at hoc
theorem PI.own {S ll:Nat} {l:List VT} {w:World} {O M B:Nat} (hw:w.heap.size≤B):OwnFrom B (PI S ll l w O M):=by
 intro s A V row hs hg hr
 have hr2:∀r,row=some r→∃o:Obj,A.heap[r]? = some o∧o.isCells=false:=fun r e=>(hr r e).2
 have hk:KC (fun n=>some n=row) A V:=⟨hg.os,hg.tape,hg.output,hg.size,fun j hj hn=>hg.block j hj hn⟩
 obtain⟨ao,co,ps,h1,h2,h3,h4,h5,h6⟩:=hs.ex
 exact⟨⟨ao,co,ps,h1,hk.cell (notR25 hr2 h2) h2,hk.frozen (a:=⟨O,0,none⟩) (notR25 hr2 h2) h2 h3,ownR25 h4 hk hr2,fun p hp=>LiesX.stays (fun _ h=>h) (fun b v _ hv=>hk.cell (notR25 hr2 hv) hv) (h5 p hp),h6⟩,hs.right,
  ⟨hk.cell (notR25 hr2 hs.c4.1) hs.c4.1,hk.frozen (a:=⟨w.heap.size,0,none⟩) (notR25 hr2 hs.c4.1) hs.c4.1 hs.c4.2⟩,⟨hk.cell (notR25 hr2 hs.c5.1) hs.c5.1,hk.frozen (a:=⟨w.heap.size+1,0,none⟩) (notR25 hr2 hs.c5.1) hs.c5.1 hs.c5.2⟩,
  hs.below.trans (hk.below (fun j hj e=>by have:=(hr j e.symm).1;omega) hs.below.size),Nat.le_trans hs.size hg.size⟩
theorem PI.step {S ll:Nat} {l:List VT} {w:World} {O M:Nat} {pre:List (CkS S ll)} {x:CkS S ll} {W w3 w':World} {u:Value} {e:Ending} {ao:Option Addr} {co:Nat} {ps:List (VT×Value)} (h:PI S ll l w O M pre W) (hO:w.heap.size+2≤O) (hOM:O<M)
 (h1:ps.length=pre.length) (h4:W.ownsRow M 27 4 (.slice ao pre.length co) pre.length (ps.flatMap encP)) (h5:∀p∈ps,LiesX (fun m=>M≤m∧(Value.slice ao pre.length co).ownBlock≠some m) 17 W p.1.items p.2) (h6:ps.map (·.1)=pre.map (fun x=>listT (ckL l x)))
 (hb:Below W.heap.size W w3) (hu:LiesX (fun m=>W.heap.size≤m) 17 w3 (ckL l x) u) (hr:zab 17 (listT (ckL l x))=true)
 (ht:T1Post M O pre.length (listT (ckL l x)) u (.slice ao pre.length co) (ps.flatMap encP) w3 e w'):PI S ll l w O M (pre++[x]) w'∧KC (fun n=>n=O∨(Value.slice ao pre.length co).ownBlock=some n) W w':=by
 obtain⟨_,g,cap,t1,t2,t3,t4,t5,t6⟩:=ht
 have hk:KC (fun n=>n=O∨(Value.slice ao pre.length co).ownBlock=some n) W w':=(KC.of_below hb).trans2 t4 (fun _ _ h=>h)
 have hold:∀n,n<M→n≠O→¬(n=O∨(Value.slice ao pre.length co).ownBlock=some n):=fun n hn hne h=>by
  rcases h with h|h
  ·exact hne h
  ·have:=(h4.lt n h).1;omega
 refine⟨⟨⟨some ⟨g,0,none⟩,cap,ps++[(listT (ckL l x),u)],by simp [h1],by rw [List.length_append];exact t1,t2,by rw [List.length_append,List.flatMap_append];simpa using t3,fun p hp=>?_,by rw [List.map_append,h6];simp⟩,fun y hy=>?_,?_,?_,?_,Nat.le_trans h.size hk.size⟩,hk⟩
 ·have hown:(Value.slice (some ⟨g,0,none⟩) (pre++[x]).length cap).ownBlock=some g:=by simp [Value.ownBlock]
  rw [hown]
  have hA:LiesX (fun m=>(M≤m∧(Value.slice ao pre.length co).ownBlock≠some m)∧m<w3.heap.size) 17 w3 p.1.items p.2:=by
   rcases List.mem_append.1 hp with hp|hp
   ·exact ((h5 p hp).keeps hb).both
   ·have:p=(listT (ckL l x),u):=by simpa using hp
    subst this
    refine (hu.mono (fun m hm=>⟨by have:=h.size;omega,fun e=>?_⟩)).both
    have:=(h4.lt m e).2
    omega
  refine (t4.liesX (fun m hm e=>?_) hA).mono (fun m hm=>⟨hm.1.1,fun e=>?_⟩)
  ·rcases e with e|e
   ·have:=hm.1.1;omega
   ·exact hm.1.2 e
  ·injection e with e
   subst e
   rcases t5 with t|t
   ·exact hm.1.2 t
   ·have:=hm.2;omega
 ·rcases List.mem_append.1 hy with hy|hy
  ·exact h.right y hy
  ·have:y=x:=by simpa using hy
   subst this
   exact hr
 ·exact⟨hk.cell (hold w.heap.size (by omega) (by omega)) h.c4.1,hk.frozen (a:=⟨w.heap.size,0,none⟩) (hold w.heap.size (by omega) (by omega)) h.c4.1 h.c4.2⟩
 ·exact⟨hk.cell (hold (w.heap.size+1) (by omega) (by omega)) h.c5.1,hk.frozen (a:=⟨w.heap.size+1,0,none⟩) (hold (w.heap.size+1) (by omega) (by omega)) h.c5.1 h.c5.2⟩
 ·exact h.below.trans (hk.below (fun j hj=>hold j (by omega) (by omega)) h.below.size)
theorem PI.fin {d S:Nat} {l:List VT} {w W:World} {O M:Nat} (hS:1≤S) (hl6:l.length≤65536) (hlen:0<l.length) (hE:prtE d S l=if prtOk S l then 0 else 2) (h:PI S l.length l w O M (cksS S l.length hlen (nCk S l.length)) W) :
 ∃ao n co,W.cell? ⟨O,0,none⟩=some (.slice ao n co)∧prtE d S l=0∧LiesX (fun m=>M≤m) 18 W (prtL d S l) (.slice ao n co):=by
 obtain⟨ao,co,ps,h1,h2,h3,h4,h5,h6⟩:=h.ex
 rw [cks_map l hlen hS] at h6
 have hok:prtOk S l=true:=prt_yes S l (fun x hx=>by
  rw [←cks_map l hlen hS] at hx
  obtain⟨y,hy,rfl⟩:=List.mem_map.1 hx
  exact h.right y hy)
 have hE0:prtE d S l=0:=by rw [hE,if_pos hok]
 have hL:prtL d S l=prt S l:=by unfold prtL;rw [if_pos hE0];simp
 refine⟨ao,_,co,h2,hE0,?_⟩
 rw [hL,←h6]
 rw [cksS_len] at h1
 have hnl:=nCk_le S l.length hS
 refine own_liesX (X:=fun m=>M≤m) (d:=17) h4 (by rw [cksS_len,h1]) (fun g hg=>(h4.lt g hg).1) (fun p hp=>⟨(h5 p hp).mono (fun _ h=>h.1),?_⟩) (by omega)
 have h7:p.1∈prt S l:=by rw [←h6];exact List.mem_map.2 ⟨p,hp,rfl⟩
 obtain⟨_,_,e1⟩:=List.mem_map.1 h7
 rw [←e1]
 exact Nat.zero_le _
theorem ko25 {B:Nat→Prop} {W W':World} (k:KC B W W') (h:∀j o,W.heap[j]? = some o→o.isCells=false→¬B j):KeepsOthers W W':=⟨k.size,fun j o hj ho=>(k.block j (Array.getElem?_eq_some_iff.1 hj).1 (h j o hj ho)).trans hj⟩
theorem cellNot25 {W:World} {a:Addr} {v:Value} (h:W.cell? a=some v) {j:Nat} {o:Obj} (hj:W.heap[j]? = some o) (ho:o.isCells=false) : ¬j=a.block:=by
 intro e
 subst e
 unfold World.cell? at h
 rw [hj] at h
 cases o <;> simp_all [Obj.isCells]
theorem ownNot25 {W:World} {base n:Nat} {v:Value} {xs:List Value} (h:W.ownsRow base 27 4 v n xs) {j:Nat} {o:Obj} (hj:W.heap[j]? = some o) (ho:o.isCells=false) : ¬v.ownBlock=some j:=by
 intro e
 rcases h.2 with ⟨rfl,_⟩|⟨g',cap,cur,rfl,_,h4,_⟩
 ·simp [Value.ownBlock] at e
 ·have:g'=j:=by simpa [Value.ownBlock] using e
  subst this
  rw [h4] at hj
  injection hj with hj
  subst hj
  simp [Obj.isCells] at ho
theorem two25 {w:World} {A B:Nat} {x y a b:Value} (hA:w.cell? ⟨A,0,none⟩=some x) (hB:w.cell? ⟨B,0,none⟩=some y) (hne:A≠B) :
 ((w.setCell ⟨A,0,none⟩ a).setCell ⟨B,0,none⟩ b).cell? ⟨A,0,none⟩=some a∧((w.setCell ⟨A,0,none⟩ a).setCell ⟨B,0,none⟩ b).cell? ⟨B,0,none⟩=some b:=by
 have h1:=World.cell?_setCell_same' w ⟨A,0,none⟩ a (by rw [hA];rfl)
 have h2:(w.setCell ⟨A,0,none⟩ a).cell? ⟨B,0,none⟩=some y:=by rw [World.cell?_setCell_far _ _ _ _ (by exact hne)];exact hB
 exact⟨by rw [World.cell?_setCell_far _ _ _ _ (by exact fun e=>hne e.symm)];exact h1,World.cell?_setCell_same' _ _ _ (by rw [h2];rfl)⟩
theorem putObj25 {W:World} {D:Nat} {o o':Obj} (h:W.heap[D]? = some o) (ho:o.isCells=false) {a:Addr} {v:Value} (hc:W.cell? a=some v):(W.putObj D o').cell? a=some v:=by
 have hn:=cellNot25 hc h ho
 exact (World.cell?_of_block ((grownBy_putObj' W D o').block a.block (zae hc) (fun e=>hn (by injection e with e;exact e.symm)))).trans hc
def mark25 (D:Nat):Deferred:={ target:=.collected D,args:=#[] }
theorem leaves25 {F:Fence} {n:Nat} {P:Program} {fn:Func} {tmps:Array Value} {R:Ending→World→Prop} (D:Nat) (W:World) (hD:W.heap[D]? = some (.deferred (some [])))
 (hend:∃v,(results fn tmps).run P (W.putObj D (.deferred none))=.ok v (W.putObj D (.deferred none))∧R (.returned v) (W.putObj D (.deferred none))):LeavesInM F n P fn tmps R [mark25 D] .returning W:=
 ⟨by simp,.inl ⟨D,_,rfl,run_takeDeferred hD,hend⟩⟩
end Go.Proofs.YtcflooaoocngdaaGreat
namespace Go.Proofs.YtcflooaoocngdaaGreat
open Go.RowKit Go.Shelf
section
variable {l n:Nat} {P:Program} {ops:Array Oper} {Q:Exit→Act→World→Prop} {md:Region.Mode} {S:World→Prop}
theorem wpAnyR_two {i j:Nat} {fuel:Nat} {listed:Array Bool} {a:Act} {w:World} (hr:Region.ready md ops listed=[i,j])
 (h1:wpOpIn (Fence.wide.inRound l) n P ops Q i (fun a' w'=>S w'∧wpAnyR l n P md ops Q S fuel (listed.setIfInBounds i true) a' w') a w)
 (h2:wpOpIn (Fence.wide.inRound l) n P ops Q j (fun a' w'=>S w'∧wpAnyR l n P md ops Q S fuel (listed.setIfInBounds j true) a' w') a w):wpAnyR l n P md ops Q S (fuel+1) listed a w:=by
 refine⟨fun h0=>absurd (hr ▸ h0) (by simp),fun k hk=>?_⟩
 rw [hr] at hk
 rcases List.mem_cons.1 hk with rfl|hk
 ·exact h1
 ·obtain rfl:=List.mem_singleton.1 hk
  exact h2
theorem wpOpR_read {i:Nat} {oi:Oper} (v:Value) {a:Act} {w:World} {K:Act→World→Prop} (hi:ops[i]? = some oi) (hd:noDefer ops=true)
 (hy:YieldsIf P ops (fun w'=>w'=w) oi v a) (h:K (a.put oi.dst v) w):wpOpIn (Fence.wide.inRound l) n P ops Q i K a w:=
 yieldsR (S:=fun w'=>w'=w) hi (fun c=>noDefer_spec hd i oi c hi) hy rfl h
theorem zal {i:Nat} {fuel:Nat} {listed:Array Bool} {a:Act} {w:World} (hr:Region.ready md ops listed=[i])
 (h1:wpOpIn (Fence.wide.inRound l) n P ops Q i (fun a' w'=>S w'∧wpAnyR l n P md ops Q S fuel (listed.setIfInBounds i true) a' w') a w):wpAnyR l n P md ops Q S (fuel+1) listed a w:=by
 refine⟨fun h0=>absurd (hr ▸ h0) (by simp),fun k hk=>?_⟩
 rw [hr] at hk
 obtain rfl:=List.mem_singleton.1 hk
 exact h1
end
structure App25 (R:Ending→World→Prop) (O B g cap K:Nat) (a3:Option Addr) (n3 c3:Nat) (v:Value) (w7:World):Prop where
 part:w7.cell? ⟨B,0,none⟩=some (.int .i64 4)∧w7.cell? ⟨B,1,none⟩=some (.int .i64 0)∧w7.cell? ⟨B,2,none⟩=some (.string ⟨#[]⟩)∧w7.cell? ⟨B,3,none⟩=some (.slice a3 n3 c3)
 row:w7.cell? ⟨g,K*4,none⟩=some (.int .i64 0)∧w7.cell? ⟨g,K*4+1,none⟩=some (.int .i64 0)∧w7.cell? ⟨g,K*4+2,none⟩=some (.string ⟨#[]⟩)∧w7.cell? ⟨g,K*4+3,none⟩=some (.slice none 0 0)
 fr:w7.frozen? ⟨g,K*4,none⟩=false∧w7.frozen? ⟨g,K*4+1,none⟩=false∧w7.frozen? ⟨g,K*4+2,none⟩=false∧w7.frozen? ⟨g,K*4+3,none⟩=false
 box:w7.cell? ⟨O,0,none⟩=some v∧w7.frozen? ⟨O,0,none⟩=false
 ne1:g≠O
 ne3:g≠B
 ne5:O<B
 endA:R (.returned (.tuple #[])) (((((w7.setCell ⟨g,K*4,none⟩ (.int .i64 4)).setCell ⟨g,K*4+1,none⟩ (.int .i64 0)).setCell ⟨g,K*4+2,none⟩ (.string ⟨#[]⟩)).setCell ⟨g,K*4+3,none⟩ (.slice a3 n3 c3)).setCell ⟨O,0,none⟩ (.slice (some ⟨g,0,none⟩) (K+1) cap))
 endC:R (.returned (.tuple #[])) (((((w7.setCell ⟨O,0,none⟩ (.slice (some ⟨g,0,none⟩) (K+1) cap)).setCell ⟨g,K*4,none⟩ (.int .i64 4)).setCell ⟨g,K*4+1,none⟩ (.int .i64 0)).setCell ⟨g,K*4+2,none⟩ (.string ⟨#[]⟩)).setCell ⟨g,K*4+3,none⟩ (.slice a3 n3 c3))
attribute [local go_sem] Oper.semAt_some
theorem partsF_ok (d:Nat) (S:Nat) (hS1:1≤S) (hS2:S≤65536) (l:List VT) (v:Value) (w:World) (hv:Lies (d+1) w l v) (hle:zad d l=0) (hne:l≠[]) :
 Calls Tryz.prog 4 #[.int .i64 (S:Int),v] w (PtPost (prtL d S l) (prtE d S l) w):=by
 obtain⟨a,c,rfl,hcl⟩:=Lies.slice hv
 have HC:Hid (∀W,Below w.heap.size w W→Calls Tryz.prog 11 #[.slice a l.length c] W fun e w'=>e=.returned (.int .i64 0)∧Below W.heap.size W w'):=fun W hW=>by
  have:=zap d l _ W (Lies.keeps hW _ _ _ hv)
  rwa [hle] at this
 have hcan:=canonL25 hv hle
 have HE:Hid (prtE d S l=if prtOk S l then 0 else 2):=by show _=_;unfold prtE;rw [if_neg (by omega),if_neg (by omega)];simp
 obtain⟨ll,hll⟩:∃ll,ll=l.length:=⟨_,rfl⟩
 have Hll:Hid (ll=l.length):=hll
 rw [←hll] at HC hcl hcan ⊢
 have hl6:ll≤65536:=hcan.2.1
 have hl0:0<ll:=by rw [hll];exact List.length_pos_iff.2 hne
 have hlc:ll≤c:=by
  obtain⟨_,_,hv',hb',_⟩:=hcan.1
  injection hv' with _ _ e9
  omega
 obtain⟨b,o,rfl⟩:∃b o,a=some ⟨b,o,none⟩:=by
  obtain⟨a',c',hv',_,hr'⟩:=hcan.1
  injection hv' with e9 _ _
  obtain⟨b,o,ha,_⟩:=hr' hne
  exact⟨b,o,by rw [e9,ha]⟩
 have HL:Hid (Lies 17 w l (.slice (some ⟨b,o,none⟩) ll c)∧∀x∈l,zab 16 x=true):=⟨hcan.1,fun x hx=>(hcan.2.2 x hx).1⟩
 clear hv hll hcan hle hcl hne
 generalize hP:PtPost (prtL d S l) (prtE d S l) w=PP
 have HP:Hid (PtPost (prtL d S l) (prtE d S l) w=PP):=hP
 clear hP
 obtain⟨i0,hi,hz0,hz1,hz2⟩:=info24
 have Hi:Hid _:=hi;have Hz0:Hid _:=hz0;have Hz1:Hid _:=hz1;have Hz2:Hid _:=hz2
 clear hi hz0 hz1 hz2
 have hb0:Below w.heap.size w ((w.alloc (.cells #[.slice none 0 0] 22)).alloc (.cells #[.int .i64 0] 23)):=(((Grew.refl w).alloc _).alloc _).below
 have HW:Hid (Go.Boxed ((w.alloc (.cells #[.slice none 0 0] 22)).alloc (.cells #[.int .i64 0] 23)) w.heap.size 22 (.slice none 0 0)∧Go.Boxed ((w.alloc (.cells #[.slice none 0 0] 22)).alloc (.cells #[.int .i64 0] 23)) (w.heap.size+1) 23 (.int .i64 0)):=by
  refine⟨(Go.Boxed.new w _ _).alloc _,?_⟩
  have:=Go.Boxed.new (w.alloc (.cells #[.slice none 0 0] 22)) 23 (.int .i64 0)
  rwa [World.size_alloc] at this
 have hn1 : ¬(S:Int)<1:=by omega
 have hn2 : ¬65536<(S:Int):=by omega
 refine (callsIn_wide (n:=6)).1 ?_
 refine callsIn_of_wp_marks Tryz.func4 rfl trivial ?_ rfl
 simp only [Tryz.ntmps4,List.size_toArray,List.length_cons,List.length_nil,Nat.reduceAdd,Nat.reduceSub,Array.replicate_succ,Array.replicate_zero,List.push_toArray,List.append_toArray,List.nil_append,List.cons_append]
 gi_wp2
 refine⟨trivial,(callsIn_wide.2 (HC.out _ hb0)).mono ?_⟩
 rintro e w1 ⟨rfl,hb2⟩
 have hs0:((w.alloc (.cells #[.slice none 0 0] 22)).alloc (.cells #[.int .i64 0] 23)).heap.size=w.heap.size+2:=by simp
 have hs1:w.heap.size+2≤w1.heap.size:=by have:=hb2.size;omega
 have hb3:Below w.heap.size w w1:=hb0.trans (hb2.mono hb0.size)
 have HX:Hid (Go.Boxed w1 w.heap.size 22 (.slice none 0 0)∧Go.Boxed w1 (w.heap.size+1) 23 (.int .i64 0)):=⟨HW.out.1.kept (row:=none) ⟨hb2.os,hb2.tape,hb2.output,hb2.size,fun k hk _=>hb2.block k hk⟩ (by simp),HW.out.2.kept (row:=none) ⟨hb2.os,hb2.tape,hb2.output,hb2.size,fun k hk _=>hb2.block k hk⟩ (by simp)⟩
 clear HC HW hb0 hb2 hs0
 gi_wp2
 refine⟨trivial,(chunkF_in S hS1 _ _ _ _ _).mono ?_⟩
 rintro e w2 ⟨rfl,rfl⟩
 gi_wp2
 obtain⟨V,hV⟩:∃V,V=((w1.alloc (.cells #[.slice none 0 0] 22)).alloc (.cells #[.slice (some ⟨b,o,none⟩) ll c] 22)).alloc (.cells #[.int .i64 (S:Int)] 3):=⟨_,rfl⟩
 have hVs:V.heap.size=w1.heap.size+3:=by rw [hV];simp
 have hVb:Below w1.heap.size w1 V:=by rw [hV];exact ((((Grew.refl w1).alloc _).alloc _).alloc _).below
 have hbO:=Go.Boxed.new w1 22 (.slice none 0 0)
 have hbS:=Go.Boxed.new (w1.alloc (.cells #[.slice none 0 0] 22)) 22 (.slice (some ⟨b,o,none⟩) ll c)
 have hbN:=Go.Boxed.new ((w1.alloc (.cells #[.slice none 0 0] 22)).alloc (.cells #[.slice (some ⟨b,o,none⟩) ll c] 22)) 3 (.int .i64 (S:Int))
 rw [World.size_alloc] at hbS hbN
 rw [World.size_alloc] at hbN
 have hO:Go.Boxed V w1.heap.size 22 (.slice none 0 0):=by rw [hV];exact (hbO.alloc _).alloc _
 have bS:V.cell? ⟨w1.heap.size+1,0,none⟩=some (.slice (some ⟨b,o,none⟩) ll c):=by rw [hV];exact (hbS.alloc _).cell
 have bN:V.cell? ⟨w1.heap.size+1+1,0,none⟩=some (.int .i64 (S:Int)):=by rw [hV];exact hbN.cell
 have HI0:Hid (PI S ll l w w1.heap.size (w1.heap.size+3) [] V):=by
  refine⟨⟨none,0,[],rfl,hO.cell,hO.frozen,World.ownsRow_nil _ _ _ _,(fun p hp=>by cases hp),rfl⟩,(fun x hx=>by cases hx),⟨zaa hVb HX.out.1.cell,(hVb.frozen (p:=⟨w.heap.size,0,none⟩) HX.out.1.lt).trans HX.out.1.frozen⟩,⟨zaa hVb HX.out.2.cell,(hVb.frozen (p:=⟨w.heap.size+1,0,none⟩) HX.out.2.lt).trans HX.out.2.frozen⟩,hb3.trans (hVb.mono hb3.size),by omega⟩
 rw [←hV]
 clear HX hbO hbS hbN hO
 refine wpIn_rangeFunc_ownG rfl (by omega) (gf:=29) (lb:=#[.pointer (some ⟨w1.heap.size+1,0,none⟩),.pointer (some ⟨w1.heap.size+1+1,0,none⟩)]) rfl trivial (enters_of Tryz.func29 (by kernel_rfl) rfl)
  (chunkS_stops S hS1 hS2 5 (by omega) w.heap.size (w1.heap.size+1) (w1.heap.size+1+1) b o ll c hl0 hlc hl6 V (by omega) (by omega) bS bN) KpC.t (KpC.b (by omega) (by omega) (by omega)) (Below.refl _ _) (fun _=>rfl)
  (PI S ll l w w1.heap.size (w1.heap.size+3)) (fun c _ W=>c=.ret∧prtOk S l=false∧W.cell? ⟨w.heap.size,0,none⟩=some (.slice none 0 0)∧W.cell? ⟨w.heap.size+1,0,none⟩=some (.int .i64 2)∧Below w.heap.size w W)
  (PI.own (by omega)) ?hIx HI0.out
  (fun x=>{ tmps:=#[.int .i64 (S:Int),.slice (some ⟨b,o,none⟩) ll c,undef,undef,.pointer (some ⟨w.heap.size,0,none⟩),.pointer (some ⟨w.heap.size+1,0,none⟩),.int .i64 0,.pointer (some ⟨w1.heap.size,0,none⟩),.slice (some ⟨b,o+x.1.1*4,none⟩) (x.1.2-x.1.1) (x.1.2-x.1.1),undef,undef,.int .i64 (S:Int),.bool false,.bool false,.int .i64 (S:Int),.bool false,.bool false,.slice (some ⟨b,o,none⟩) ll c,.int .i64 0,.int .i64 0,.bool false,undef,.slice (some ⟨b,o,none⟩) ll c,.int .i64 (S:Int),.func (.func 29) #[] #[.pointer (some ⟨w1.heap.size+1,0,none⟩),.pointer (some ⟨w1.heap.size+1+1,0,none⟩)],.slice (some ⟨b,o+x.1.1*4,none⟩) (x.1.2-x.1.1) (x.1.2-x.1.1),undef,undef,undef,undef,undef,undef,undef,undef,undef,undef,undef,undef,undef,undef,undef],defers:=[] }) ?assign ?body ?done ?stop
 all_goals clear hV
 case hIx=>
  intro c9 s A Z row hs hg hr
  have hr2:∀r,row=some r→∃o:Obj,A.heap[r]? = some o∧o.isCells=false:=fun r e=>(hr r e).2
  have hk:KC (fun n=>some n=row) A Z:=⟨hg.os,hg.tape,hg.output,hg.size,fun j hj hn=>hg.block j hj hn⟩
  obtain⟨h1,h2,h3,h4,h5⟩:=hs
  exact⟨h1,h2,hk.cell (notR25 hr2 h3) h3,hk.cell (notR25 hr2 h4) h4,h5.trans (hk.below (fun j hj e=>by have:=(hr j e.symm).1;omega) h5.size)⟩
 case assign=>
  intro lp x W K hK
  gi_wp2
  exact hK
 case body=>
  rintro lp pre x W hI hlt
  have hx1:=x.2.1
  have hx2:=x.2.2.1
  have hck:Lies 17 w (ckL l x) (.slice (some ⟨b,o+x.1.1*4,none⟩) (x.1.2-x.1.1) (x.1.2-x.1.1)):=by
   have hl:=HL.out.1
   have e:=Hll.out
   rw [e] at hl
   have h1:=Lies.dropped hl x.1.1
   have h2:=Lies.taken (by rw [List.length_drop];exact h1) (x.1.2-x.1.1) (by rw [List.length_drop];omega)
   obtain⟨a9,c9,hv9,hb9,hr9⟩:=h2
   injection hv9 with e7 e8 e9
   have hn9:(ckL l x).length=x.1.2-x.1.1:=by unfold ckL;rw [List.length_take,List.length_drop];omega
   exact⟨a9,x.1.2-x.1.1,by rw [e7,hn9],by rw [hn9];omega,hr9⟩
  have hckl:(ckL l x).length≤65536:=by unfold ckL;rw [List.length_take,List.length_drop];have:=Hll.out;omega
  have HPart:Hid _:=part_any (ckL l x) _ W (Lies.keeps hI.below _ _ _ hck) (fun y hy=>HL.out.2 y (List.mem_of_mem_drop (List.mem_of_mem_take hy))) hckl
  obtain⟨ao,co,ps,p1,p2,p3,p4,p5,p6⟩:=hI.ex
  have HI:Hid (PI S ll l w w1.heap.size (w1.heap.size+3) pre W):=hI
  have HPs:Hid (ps.length=pre.length∧W.ownsRow (w1.heap.size+3) 27 4 (.slice ao pre.length co) pre.length (ps.flatMap encP)∧(∀p∈ps,LiesX (fun m=>w1.heap.size+3≤m∧(Value.slice ao pre.length co).ownBlock≠some m) 17 W p.1.items p.2)∧ps.map (·.1)=pre.map (fun x=>listT (ckL l x))):=⟨p1,p4,p5,p6⟩
  obtain⟨c4,f4⟩:=hI.c4
  obtain⟨c5,f5⟩:=hI.c5
  clear hI p1 p4 p5 p6 hck hckl hx1 hx2 hVs hVb bS bN HI0
  gi_wp2
  refine⟨trivial,(CallsIn.inRound lp (callsIn_wide.2 HPart.out)).mono ?_⟩
  rintro e w3 ⟨hb9,⟨hr,rfl⟩|⟨hr,a3,n3,c3,rfl,hl3⟩⟩
  ·have hok:prtOk S l=false:=by
    have e:=Hll.out
    subst e
    have h9:=ckL_of hS1 l x
    exact prt_no S l _ h9.1 (by rw [←h9.2];exact hr)
   have hw3:w.heap.size+2≤w3.heap.size:=by have:=hb9.size;have:=HI.out.size;omega
   have c4':=zaa hb9 c4
   have c5':=zaa hb9 c5
   have f4':=(hb9.frozen (p:=⟨w.heap.size,0,none⟩) (zae c4)).trans f4
   have f5':=(hb9.frozen (p:=⟨w.heap.size+1,0,none⟩) (zae c5)).trans f5
   have HEnd:Hid (∀A,KeepsFrom V.heap.size W (((w3.setCell ⟨w.heap.size,0,none⟩ (.slice none 0 0)).setCell ⟨w.heap.size+1,0,none⟩ (.int .i64 2)).alloc A)∧(Code.ret=.ret∧prtOk S l=false∧(((w3.setCell ⟨w.heap.size,0,none⟩ (.slice none 0 0)).setCell ⟨w.heap.size+1,0,none⟩ (.int .i64 2)).alloc A).cell? ⟨w.heap.size,0,none⟩=some (.slice none 0 0)∧(((w3.setCell ⟨w.heap.size,0,none⟩ (.slice none 0 0)).setCell ⟨w.heap.size+1,0,none⟩ (.int .i64 2)).alloc A).cell? ⟨w.heap.size+1,0,none⟩=some (.int .i64 2)∧Below w.heap.size w (((w3.setCell ⟨w.heap.size,0,none⟩ (.slice none 0 0)).setCell ⟨w.heap.size+1,0,none⟩ (.int .i64 2)).alloc A))):=fun A=>by
    have h2:=two25 (a:=.slice none 0 0) (b:=.int .i64 2) c4' c5' (by omega)
    have hbz:Below w.heap.size w ((w3.setCell ⟨w.heap.size,0,none⟩ (.slice none 0 0)).setCell ⟨w.heap.size+1,0,none⟩ (.int .i64 2)):=((HI.out.below.trans (hb9.mono HI.out.below.size)).setCell (p:=⟨w.heap.size,0,none⟩) (Nat.le_refl _) _).setCell (p:=⟨w.heap.size+1,0,none⟩) (Nat.le_succ _) _
    have hal:=((Grew.refl ((w3.setCell ⟨w.heap.size,0,none⟩ (.slice none 0 0)).setCell ⟨w.heap.size+1,0,none⟩ (.int .i64 2))).alloc A).below
    exact⟨((((ko25 (KC.of_below (B:=fun _=>False) hb9) (fun _ _ _ _ h=>h)).trans (KeepsOthers.setCell _ _ _)).trans (KeepsOthers.setCell _ _ _)).trans (KeepsOthers.alloc _ _)).from _,rfl,hok,zaa hal h2.1,zaa hal h2.2,hbz.trans (hal.mono hbz.size)⟩
   have l4:w.heap.size<w3.heap.size:=by omega
   have l5:w.heap.size+1<w3.heap.size:=by omega
   have z5:∀A,(w3.alloc A).cell? ⟨w.heap.size+1,0,none⟩=some (.int .i64 0):=fun A=>zaa ((Grew.refl w3).alloc A).below c5'
   have y5:∀A,(w3.alloc A).frozen? ⟨w.heap.size+1,0,none⟩=false:=fun A=>(((Grew.refl w3).alloc A).below.frozen (p:=⟨w.heap.size+1,0,none⟩) l5).trans f5'
   clear HPart HPs HI c4 c5 f4 f5 p2 p3 hb9 hr hok HL HE HP
   gi_wp2
   exact⟨(HEnd.out _).1,rfl,(HEnd.out _).2.2⟩
  ·have hK6:pre.length≤65537:=by have:=nCk_le S ll hS1;omega
   have HFin:Hid (∀e w',T1Post (w1.heap.size+3) w1.heap.size pre.length (listT (ckL l x)) (.slice a3 n3 c3) (.slice ao pre.length co) (ps.flatMap encP) w3 e w'→KeepsFrom V.heap.size W w'∧KpC w.heap.size (w1.heap.size+1) (w1.heap.size+1+1) W w'∧PI S ll l w w1.heap.size (w1.heap.size+3) (pre++[x]) w'):=fun e w' ht=>by
    have h:=PI.step HI.out (by omega) (by omega) HPs.out.1 HPs.out.2.1 HPs.out.2.2.1 HPs.out.2.2.2 hb9 hl3 hr ht
    have hsz:=HI.out.size
    have hno:∀n,n≠w1.heap.size→n<w1.heap.size+3→¬(n=w1.heap.size∨(Value.slice ao pre.length co).ownBlock=some n):=fun n h1 h2 h3=>by
     rcases h3 with h3|h3
     ·exact h1 h3
     ·have:=(HPs.out.2.1.lt n h3).1;omega
    refine⟨(ko25 h.2 (fun j o hj ho e9=>?_)).from _,⟨h.2.below (fun j hj=>hno j (by omega) (by omega)) HI.out.below.size,?_,?_⟩,h.1⟩
    ·rcases e9 with e9|e9
     ·exact cellNot25 p2 hj ho e9
     ·exact ownNot25 HPs.out.2.1 hj ho e9
    ·exact World.cell?_of_block (a:=⟨w1.heap.size+1,0,none⟩) (h.2.block (w1.heap.size+1) (by omega) (hno (w1.heap.size+1) (by omega) (by omega)))
    ·exact World.cell?_of_block (a:=⟨w1.heap.size+1+1,0,none⟩) (h.2.block (w1.heap.size+1+1) (by omega) (hno (w1.heap.size+1+1) (by omega) (by omega)))
   obtain⟨W4,hW4⟩:∃W4,W4=w3.alloc (.cells #[.int .i64 4,.int .i64 0,.string ⟨#[]⟩,.slice a3 n3 c3] 27):=⟨_,rfl⟩
   have HW:Hid (W4=w3.alloc (.cells #[.int .i64 4,.int .i64 0,.string ⟨#[]⟩,.slice a3 n3 c3] 27)):=hW4
   have hwb:Below w3.heap.size w3 W4:=by rw [hW4];exact ((Grew.refl w3).alloc _).below
   have HWs:Hid (W4.heap.size=w3.heap.size+1):=by rw [hW4];exact World.size_alloc w3 _
   have hown3:w3.ownsRow (w1.heap.size+3) 27 4 (.slice ao pre.length co) pre.length (ps.flatMap encP):=own_kc HPs.out.2.1 (KC.of_below (B:=fun _=>False) hb9) (fun _ _ h=>h)
   have Hown:Hid (W4.ownsRow (w1.heap.size+3) 27 4 (.slice ao pre.length co) pre.length (ps.flatMap encP)):=by rw [hW4];exact hown3.alloc _
   have Hxl:Hid ((ps.flatMap encP).length=pre.length*4):=hown3.1
   have hbl:w1.heap.size<w3.heap.size:=by have:=hb9.size;have:=HI.out.size;omega
   have hbase:w1.heap.size+3≤w3.heap.size:=by have:=hb9.size;have:=HI.out.size;omega
   have hbc:=zaa hb9 p2
   have hfc:=(hb9.frozen (p:=⟨w1.heap.size,0,none⟩) (zae p2)).trans p3
   have hne:(Value.slice ao pre.length co).ownBlock≠some w1.heap.size:=fun e=>by have:=(HPs.out.2.1.lt _ e).1;omega
   have b1:W4.cell? ⟨w1.heap.size,0,none⟩=some (.slice ao pre.length co):=zaa hwb hbc
   have b2:∀A,(W4.alloc A).cell? ⟨w1.heap.size,0,none⟩=some (.slice ao pre.length co):=fun A=>zaa ((Grew.refl W4).alloc A).below b1
   have f1:W4.frozen? ⟨w1.heap.size,0,none⟩=false:=(hwb.frozen (p:=⟨w1.heap.size,0,none⟩) hbl).trans hfc
   have hBx:Bx W4 w3.heap.size ⟨4,0,⟨#[]⟩,[]⟩ (.slice a3 n3 c3):=by rw [hW4];exact zaj w3 ⟨4,0,⟨#[]⟩,[]⟩ _
   obtain⟨y0,y1,y2,y3,_,_,_,_⟩:=hBx
   simp only at y0 y1 y2 y3
   have z0:∀A,(W4.alloc A).cell? ⟨w3.heap.size,0,none⟩=some (.int .i64 4):=fun A=>zaa ((Grew.refl W4).alloc A).below y0
   have z1:∀A,(W4.alloc A).cell? ⟨w3.heap.size,1,none⟩=some (.int .i64 0):=fun A=>zaa ((Grew.refl W4).alloc A).below y1
   have z2:∀A,(W4.alloc A).cell? ⟨w3.heap.size,2,none⟩=some (.string ⟨#[]⟩):=fun A=>zaa ((Grew.refl W4).alloc A).below y2
   have z3:∀A,(W4.alloc A).cell? ⟨w3.heap.size,3,none⟩=some (.slice a3 n3 c3):=fun A=>zaa ((Grew.refl W4).alloc A).below y3
   have HR:Hid (∀g,(Value.slice ao pre.length co).ownBlock=some g→g<w3.heap.size∧g≠w1.heap.size):=fun g hg=>⟨(hown3.lt g hg).2,fun e=>hne (by rw [hg,e])⟩
   clear hl3 HPart HL HE HP c4 c5 f4 f5 p2 p3 hbc hfc hown3 hW4 hb9 hr HPs HI
   generalize hFL:ps.flatMap encP=FL at *
   clear hFL
   generalize pre.length=K at *
   have hkk:(K:Int)<(K:Int)+1:=by omega
   gi_wp2
   rw [←HW.out]
   clear HW
   have hmx:Tryz.prog.follows .mixedOrders=true:=by kernel_rfl
   have hS0:W4.drew.cell? ⟨w3.heap.size,0,none⟩=some (.int .i64 4)∧W4.drew.cell? ⟨w3.heap.size,1,none⟩=some (.int .i64 0)∧W4.drew.cell? ⟨w3.heap.size,2,none⟩=some (.string ⟨#[]⟩)∧W4.drew.cell? ⟨w3.heap.size,3,none⟩=some (.slice a3 n3 c3):=⟨y0,y1,y2,y3⟩
   have hS5:(W4.drew.alloc (.cells #[.int .i64 0,.int .i64 0,.string ⟨#[]⟩,.slice none 0 0] 27)).cell? ⟨w3.heap.size,0,none⟩=some (.int .i64 4)∧(W4.drew.alloc (.cells #[.int .i64 0,.int .i64 0,.string ⟨#[]⟩,.slice none 0 0] 27)).cell? ⟨w3.heap.size,1,none⟩=some (.int .i64 0)∧(W4.drew.alloc (.cells #[.int .i64 0,.int .i64 0,.string ⟨#[]⟩,.slice none 0 0] 27)).cell? ⟨w3.heap.size,2,none⟩=some (.string ⟨#[]⟩)∧(W4.drew.alloc (.cells #[.int .i64 0,.int .i64 0,.string ⟨#[]⟩,.slice none 0 0] 27)).cell? ⟨w3.heap.size,3,none⟩=some (.slice a3 n3 c3):=by
    have hb9:Below W4.heap.size W4 (W4.drew.alloc (.cells #[.int .i64 0,.int .i64 0,.string ⟨#[]⟩,.slice none 0 0] 27)):=((Below.refl W4.heap.size W4).drew).alloc (Nat.le_refl _) _
    exact⟨zaa hb9 y0,zaa hb9 y1,zaa hb9 y2,zaa hb9 y3⟩
   have hzB:Bx (W4.drew.alloc (.cells #[.int .i64 0,.int .i64 0,.string ⟨#[]⟩,.slice none 0 0] 27)) W4.heap.size zeroT (.slice none 0 0):=zaj W4.drew zeroT _
   have b5:(W4.alloc (.cells #[.int .i64 0,.int .i64 0,.string ⟨#[]⟩,.slice none 0 0] 27)).cell? ⟨w1.heap.size,0,none⟩=some (.slice ao K co):=b2 _
   have HAp:Hid (∀(g cap:Nat) (w7:World),w7.ownsRow (w1.heap.size+3) 27 4 (.slice (some ⟨g,0,none⟩) (K+1) cap) (K+1) (FL++[.int .i64 0,.int .i64 0,.string ⟨#[]⟩,.slice none 0 0])→(W4.drew.alloc (.cells #[.int .i64 0,.int .i64 0,.string ⟨#[]⟩,.slice none 0 0] 27)).grownBy w7 (Value.slice ao K co).ownBlock→((Value.slice ao K co).ownBlock=some g∨g=(W4.drew.alloc (.cells #[.int .i64 0,.int .i64 0,.string ⟨#[]⟩,.slice none 0 0] 27)).heap.size)→g<w7.heap.size→App25 (T1Post (w1.heap.size+3) w1.heap.size K (listT (ckL l x)) (.slice a3 n3 c3) (.slice ao K co) FL w3) w1.heap.size w3.heap.size g cap K a3 n3 c3 (.slice ao K co) w7):=by
    intro g cap w7 hown7 hg7 hat7 hlt7
    have hk7:KC (fun n=>(Value.slice ao K co).ownBlock=some n) W4 w7:=(by first|exact far23 ((Grew.refl W4).alloc _).below hg7|exact far23 ((Grew.refl W4).alloc _).drew.below hg7|exact far23 ((Grew.refl W4).drew.alloc _).below hg7)
    have hgr:((Value.slice ao K co).ownBlock=some g∨w3.heap.size<g)∧g≠w1.heap.size∧g≠w3.heap.size:=place23 HWs.out (by simp) hbl HR.out hat7
    have b7:=hk7.cell (a:=⟨w1.heap.size,0,none⟩) hne b1
    have f7:=hk7.frozen (a:=⟨w1.heap.size,0,none⟩) hne b1 f1
    have hnw : ¬(Value.slice ao K co).ownBlock=some w3.heap.size:=(fun h=>by have:=(HR.out _ h).1;omega)
    have y0:=hk7.cell (a:=⟨w3.heap.size,0,none⟩) hnw y0
    have y1:=hk7.cell (a:=⟨w3.heap.size,1,none⟩) hnw y1
    have y2:=hk7.cell (a:=⟨w3.heap.size,2,none⟩) hnw y2
    have y3:=hk7.cell (a:=⟨w3.heap.size,3,none⟩) hnw y3
    have r0:w7.cell? ⟨g,K*4,none⟩=some (.int .i64 0):=(by rw [hown7.cellAt _ (by omega),List.getElem?_append_right (by rw [Hxl.out];omega),Hxl.out];first|rfl|simp)
    have r1:w7.cell? ⟨g,K*4+1,none⟩=some (.int .i64 0):=(by rw [hown7.cellAt _ (by omega),List.getElem?_append_right (by rw [Hxl.out];omega),Hxl.out];first|rfl|simp)
    have r2:w7.cell? ⟨g,K*4+2,none⟩=some (.string ⟨#[]⟩):=(by rw [hown7.cellAt _ (by omega),List.getElem?_append_right (by rw [Hxl.out];omega),Hxl.out];first|rfl|simp)
    have r3:w7.cell? ⟨g,K*4+3,none⟩=some (.slice none 0 0):=(by rw [hown7.cellAt _ (by omega),List.getElem?_append_right (by rw [Hxl.out];omega),Hxl.out];first|rfl|simp)
    refine⟨⟨y0,y1,y2,y3⟩,⟨r0,r1,r2,r3⟩,⟨hown7.frozenAt _,hown7.frozenAt _,hown7.frozenAt _,hown7.frozenAt _⟩,⟨b7,f7⟩,hgr.2.1,hgr.2.2,by omega,?_,?_⟩
    ·exact t1_end (Z:=((((w7.setCell ⟨g,K*4,none⟩ (.int .i64 4)).setCell ⟨g,K*4+1,none⟩ (.int .i64 0)).setCell ⟨g,K*4+2,none⟩ (.string ⟨#[]⟩)).setCell ⟨g,K*4+3,none⟩ (.slice a3 n3 c3)).setCell ⟨w1.heap.size,0,none⟩ (.slice (some ⟨g,0,none⟩) (K+1) cap)) hgr.2.1 b7 f7 hown7 Hxl.out ((KC.of_below (B:=fun n=>n=w1.heap.size∨(Value.slice ao K co).ownBlock=some n) hwb).trans2 hk7 (fun j _ h=>.inr h)) (hgr.1.imp id (fun h=>by omega)) (.inl rfl)
    ·exact t1_end (Z:=((((w7.setCell ⟨w1.heap.size,0,none⟩ (.slice (some ⟨g,0,none⟩) (K+1) cap)).setCell ⟨g,K*4,none⟩ (.int .i64 4)).setCell ⟨g,K*4+1,none⟩ (.int .i64 0)).setCell ⟨g,K*4+2,none⟩ (.string ⟨#[]⟩)).setCell ⟨g,K*4+3,none⟩ (.slice a3 n3 c3)) hgr.2.1 b7 f7 hown7 Hxl.out ((KC.of_below (B:=fun n=>n=w1.heap.size∨(Value.slice ao K co).ownBlock=some n) hwb).trans2 hk7 (fun j _ h=>.inr h)) (hgr.1.imp id (fun h=>by omega)) (.inr rfl)
   have HO5:Hid ((W4.drew.alloc (.cells #[.int .i64 0,.int .i64 0,.string ⟨#[]⟩,.slice none 0 0] 27)).ownsRow (w1.heap.size+3) 27 4 (.slice ao K co) K FL):=Hown.out.drew.alloc _
   have Hs5:Hid (w1.heap.size+3≤(W4.drew.alloc (.cells #[.int .i64 0,.int .i64 0,.string ⟨#[]⟩,.slice none 0 0] 27)).heap.size):=by have:=HWs.out;show _≤_;simp;omega
   have HK5:Hid (K≤65537):=hK6
   have hK0:(0:Int)≤(K:Int):=by omega
   clear z0 z1 z2 z3 b2 hwb Hown HR
   refine wpIn_region_R (fun w9=>w9.cell? ⟨w3.heap.size,0,none⟩=some (.int .i64 4)∧w9.cell? ⟨w3.heap.size,1,none⟩=some (.int .i64 0)∧w9.cell? ⟨w3.heap.size,2,none⟩=some (.string ⟨#[]⟩)∧w9.cell? ⟨w3.heap.size,3,none⟩=some (.slice a3 n3 c3)) hmx ?_
   change wpAnyR _ _ _ _ _ _ _ _ _ _ W4.drew
   refine wpAnyR_take (i:=1) (.agg #[.int .i64 4,.int .i64 0,.string ⟨#[]⟩,.slice a3 n3 c3]) rfl (by kernel_rfl) (by kernel_rfl) (by kernel_rfl) (by kernel_rfl) (fun _ _ _ h=>h) (.inl ⟨by kernel_rfl,fun w9 hS=>?_⟩) hS0 ?_
   ·obtain⟨e0,e1,e2,e3⟩:=hS;simp [go_sem,e0,e1,e2,e3]
   refine wpAnyR_two (i:=0) (j:=3) (by kernel_rfl) ?_ ?_
   ·refine wpOpR_read (.slice ao K co) rfl (by kernel_rfl) (.inl ⟨by kernel_rfl,fun w9 hS=>?_⟩) ?_
    ·subst hS;simp [go_sem,b1]
    refine⟨hS0,?_⟩
    refine wpAnyR_take (i:=2) (.int .i64 (K:Int)) rfl (by kernel_rfl) (by kernel_rfl) (by kernel_rfl) (by kernel_rfl) (fun _ _ _ h=>h) (.inl ⟨by kernel_rfl,fun w9 hS=>?_⟩) hS0 ?_
    ·(try clear hS);simp [go_sem]
    refine zal (i:=3) (by kernel_rfl) (wpOpIn_step rfl (fun Kk hKk=>?_))
    go_simp
    refine hKk _ _ ⟨hS5,?_⟩
    clear hKk Kk
    refine zal (i:=4) (by kernel_rfl) (wpOpIn_step rfl (fun Kk hKk=>?_))
    refine appV_step rfl (.tmp 34) (.tmp 37) rfl (w1.heap.size+3) (.slice ao K co) K FL rfl HO5.out W4.heap.size rfl hzB.c0 hzB.c1 hzB.c2 hzB.c3 HK5.out Hs5.out ?_
    intro g cap w7 hown7 hg7 hat7 hlt7
    have HA7:=show Hid _ from HAp.out g cap w7 hown7 hg7 hat7 hlt7
    refine hKk _ _ ⟨HA7.out.part,?_⟩
    clear hKk Kk hown7 hg7 hat7 hlt7
    obtain⟨r0,r1,r2,r3⟩:=HA7.out.row
    obtain⟨q0,q1,q2,q3⟩:=HA7.out.fr
    obtain⟨b7,f7⟩:=HA7.out.box
    have n1 : ¬g=w1.heap.size:=HA7.out.ne1
    have n2 : ¬w1.heap.size=g:=fun e=>n1 e.symm
    have n3' : ¬g=w3.heap.size:=HA7.out.ne3
    refine wpAnyR_take (i:=5) (.pointer (some ⟨g,K*4,none⟩)) rfl (by kernel_rfl) (by kernel_rfl) (by kernel_rfl) (by kernel_rfl) (fun _ _ _ h=>h) (.inl ⟨by kernel_rfl,fun w9 hS=>?_⟩) HA7.out.part ?_
    ·(try clear hS);simp [go_sem,hkk,hK0,Addr.add];exact Eq.symm
    refine wpAnyR_two (i:=6) (j:=7) (by kernel_rfl) (wpOpIn_step rfl (fun Kk hKk=>?_)) (wpOpIn_step rfl (fun Kk hKk=>?_))
    ·go_simp
     have e4:∀(o9:Nat) (v9:Value),w7.cell? ⟨w3.heap.size,o9,none⟩=some v9→((((w7.setCell ⟨g,K*4,none⟩ (.int .i64 4)).setCell ⟨g,K*4+1,none⟩ (.int .i64 0)).setCell ⟨g,K*4+2,none⟩ (.string ⟨#[]⟩)).setCell ⟨g,K*4+3,none⟩ (.slice a3 n3 c3)).cell? ⟨w3.heap.size,o9,none⟩=some v9:=fun o9 v9 h9=>set4_cell (g:=g) (o:=K*4) (x:=⟨4,0,⟨#[]⟩,[]⟩) (u:=.slice a3 n3 c3) (fun e=>n3' e.symm) h9
     have b8:((((w7.setCell ⟨g,K*4,none⟩ (.int .i64 4)).setCell ⟨g,K*4+1,none⟩ (.int .i64 0)).setCell ⟨g,K*4+2,none⟩ (.string ⟨#[]⟩)).setCell ⟨g,K*4+3,none⟩ (.slice a3 n3 c3)).cell? ⟨w1.heap.size,0,none⟩=some (.slice ao K co):=set4_cell (g:=g) (o:=K*4) (x:=⟨4,0,⟨#[]⟩,[]⟩) (u:=.slice a3 n3 c3) n2 b7
     have hS8:=And.intro (e4 _ _ HA7.out.part.1) (And.intro (e4 _ _ HA7.out.part.2.1) (And.intro (e4 _ _ HA7.out.part.2.2.1) (e4 _ _ HA7.out.part.2.2.2)))
     refine hKk _ _ ⟨hS8,?_⟩
     clear hKk Kk
     refine zal (i:=7) (by kernel_rfl) (wpOpIn_step rfl (fun Kk hKk=>?_))
     go_simp
     have hn9:∀(o9:Nat),(⟨w1.heap.size,0,none⟩:Addr)≠⟨w3.heap.size,o9,none⟩:=fun o9 e=>by have:=HA7.out.ne5;injection e with e _ _;omega
     refine hKk _ _ ⟨⟨?_,?_,?_,?_⟩,?_⟩
     ·rw [World.cell?_setCell_other _ _ _ _ (hn9 _)];exact hS8.1
     ·rw [World.cell?_setCell_other _ _ _ _ (hn9 _)];exact hS8.2.1
     ·rw [World.cell?_setCell_other _ _ _ _ (hn9 _)];exact hS8.2.2.1
     ·rw [World.cell?_setCell_other _ _ _ _ (hn9 _)];exact hS8.2.2.2
     refine wpAnyR_done (by kernel_rfl) ?_ _
     have HEnd9:=show Hid _ from HFin.out _ _ HA7.out.endA
     clear e4 b8 hS8 hKk Kk r0 r1 r2 r3 q0 q1 q2 q3 b7 f7
     gi_wp2
     exact HEnd9.out
    ·go_simp
     have hn9:∀(o9:Nat),(⟨w1.heap.size,0,none⟩:Addr)≠⟨w3.heap.size,o9,none⟩:=fun o9 e=>by have:=HA7.out.ne5;injection e with e _ _;omega
     have hg9:∀(o9:Nat),(⟨w1.heap.size,0,none⟩:Addr)≠⟨g,o9,none⟩:=fun o9 e=>by injection e with e _ _;exact n2 e
     have hS8:∀(o9:Nat) (v9:Value),w7.cell? ⟨w3.heap.size,o9,none⟩=some v9→(w7.setCell ⟨w1.heap.size,0,none⟩ (.slice (some ⟨g,0,none⟩) (K+1) cap)).cell? ⟨w3.heap.size,o9,none⟩=some v9:=fun o9 v9 h9=>by rw [World.cell?_setCell_other _ _ _ _ (hn9 _)];exact h9
     have hr8:∀(o9:Nat) (v9:Value),w7.cell? ⟨g,o9,none⟩=some v9→(w7.setCell ⟨w1.heap.size,0,none⟩ (.slice (some ⟨g,0,none⟩) (K+1) cap)).cell? ⟨g,o9,none⟩=some v9:=fun o9 v9 h9=>by rw [World.cell?_setCell_other _ _ _ _ (hg9 _)];exact h9
     have r0:=hr8 _ _ r0;have r1:=hr8 _ _ r1;have r2:=hr8 _ _ r2;have r3:=hr8 _ _ r3
     have s0:=hS8 _ _ HA7.out.part.1;have s1:=hS8 _ _ HA7.out.part.2.1;have s2:=hS8 _ _ HA7.out.part.2.2.1;have s3:=hS8 _ _ HA7.out.part.2.2.2
     refine hKk _ _ ⟨⟨s0,s1,s2,s3⟩,?_⟩
     clear hKk Kk hr8 hS8
     refine zal (i:=6) (by kernel_rfl) (wpOpIn_step rfl (fun Kk hKk=>?_))
     go_simp
     have e4:∀(o9:Nat) (v9:Value),(w7.setCell ⟨w1.heap.size,0,none⟩ (.slice (some ⟨g,0,none⟩) (K+1) cap)).cell? ⟨w3.heap.size,o9,none⟩=some v9→(((((w7.setCell ⟨w1.heap.size,0,none⟩ (.slice (some ⟨g,0,none⟩) (K+1) cap)).setCell ⟨g,K*4,none⟩ (.int .i64 4)).setCell ⟨g,K*4+1,none⟩ (.int .i64 0)).setCell ⟨g,K*4+2,none⟩ (.string ⟨#[]⟩)).setCell ⟨g,K*4+3,none⟩ (.slice a3 n3 c3)).cell? ⟨w3.heap.size,o9,none⟩=some v9:=fun o9 v9 h9=>set4_cell (g:=g) (o:=K*4) (x:=⟨4,0,⟨#[]⟩,[]⟩) (u:=.slice a3 n3 c3) (fun e=>n3' e.symm) h9
     refine hKk _ _ ⟨⟨e4 _ _ s0,e4 _ _ s1,e4 _ _ s2,e4 _ _ s3⟩,?_⟩
     refine wpAnyR_done (by kernel_rfl) ?_ _
     have HEnd9:=show Hid _ from HFin.out _ _ HA7.out.endC
     clear e4 hKk Kk r0 r1 r2 r3 q0 q1 q2 q3 b7 f7 s0 s1 s2 s3 hn9 hg9
     gi_wp2
     exact HEnd9.out
   ·refine wpOpIn_step rfl (fun Kk hKk=>?_)
    go_simp
    refine hKk _ _ ⟨hS5,?_⟩
    clear hKk Kk
    refine zal (i:=0) (by kernel_rfl) (wpOpR_read (.slice ao K co) rfl (by kernel_rfl) (.inl ⟨by kernel_rfl,fun w9 hS=>?_⟩) ?_)
    ·subst hS;simp [go_sem,b5]
    refine⟨hS5,?_⟩
    refine wpAnyR_take (i:=2) (.int .i64 (K:Int)) rfl (by kernel_rfl) (by kernel_rfl) (by kernel_rfl) (by kernel_rfl) (fun _ _ _ h=>h) (.inl ⟨by kernel_rfl,fun w9 hS=>?_⟩) hS5 ?_
    ·(try clear hS);simp [go_sem]
    refine zal (i:=4) (by kernel_rfl) (wpOpIn_step rfl (fun Kk hKk=>?_))
    refine appV_step rfl (.tmp 34) (.tmp 37) rfl (w1.heap.size+3) (.slice ao K co) K FL rfl HO5.out W4.heap.size rfl hzB.c0 hzB.c1 hzB.c2 hzB.c3 HK5.out Hs5.out ?_
    intro g cap w7 hown7 hg7 hat7 hlt7
    have HA7:=show Hid _ from HAp.out g cap w7 hown7 hg7 hat7 hlt7
    refine hKk _ _ ⟨HA7.out.part,?_⟩
    clear hKk Kk hown7 hg7 hat7 hlt7
    obtain⟨r0,r1,r2,r3⟩:=HA7.out.row
    obtain⟨q0,q1,q2,q3⟩:=HA7.out.fr
    obtain⟨b7,f7⟩:=HA7.out.box
    have n1 : ¬g=w1.heap.size:=HA7.out.ne1
    have n2 : ¬w1.heap.size=g:=fun e=>n1 e.symm
    have n3' : ¬g=w3.heap.size:=HA7.out.ne3
    refine wpAnyR_take (i:=5) (.pointer (some ⟨g,K*4,none⟩)) rfl (by kernel_rfl) (by kernel_rfl) (by kernel_rfl) (by kernel_rfl) (fun _ _ _ h=>h) (.inl ⟨by kernel_rfl,fun w9 hS=>?_⟩) HA7.out.part ?_
    ·(try clear hS);simp [go_sem,hkk,hK0,Addr.add];exact Eq.symm
    refine wpAnyR_two (i:=6) (j:=7) (by kernel_rfl) (wpOpIn_step rfl (fun Kk hKk=>?_)) (wpOpIn_step rfl (fun Kk hKk=>?_))
    ·go_simp
     have e4:∀(o9:Nat) (v9:Value),w7.cell? ⟨w3.heap.size,o9,none⟩=some v9→((((w7.setCell ⟨g,K*4,none⟩ (.int .i64 4)).setCell ⟨g,K*4+1,none⟩ (.int .i64 0)).setCell ⟨g,K*4+2,none⟩ (.string ⟨#[]⟩)).setCell ⟨g,K*4+3,none⟩ (.slice a3 n3 c3)).cell? ⟨w3.heap.size,o9,none⟩=some v9:=fun o9 v9 h9=>set4_cell (g:=g) (o:=K*4) (x:=⟨4,0,⟨#[]⟩,[]⟩) (u:=.slice a3 n3 c3) (fun e=>n3' e.symm) h9
     have b8:((((w7.setCell ⟨g,K*4,none⟩ (.int .i64 4)).setCell ⟨g,K*4+1,none⟩ (.int .i64 0)).setCell ⟨g,K*4+2,none⟩ (.string ⟨#[]⟩)).setCell ⟨g,K*4+3,none⟩ (.slice a3 n3 c3)).cell? ⟨w1.heap.size,0,none⟩=some (.slice ao K co):=set4_cell (g:=g) (o:=K*4) (x:=⟨4,0,⟨#[]⟩,[]⟩) (u:=.slice a3 n3 c3) n2 b7
     have hS8:=And.intro (e4 _ _ HA7.out.part.1) (And.intro (e4 _ _ HA7.out.part.2.1) (And.intro (e4 _ _ HA7.out.part.2.2.1) (e4 _ _ HA7.out.part.2.2.2)))
     refine hKk _ _ ⟨hS8,?_⟩
     clear hKk Kk
     refine zal (i:=7) (by kernel_rfl) (wpOpIn_step rfl (fun Kk hKk=>?_))
     go_simp
     have hn9:∀(o9:Nat),(⟨w1.heap.size,0,none⟩:Addr)≠⟨w3.heap.size,o9,none⟩:=fun o9 e=>by have:=HA7.out.ne5;injection e with e _ _;omega
     refine hKk _ _ ⟨⟨?_,?_,?_,?_⟩,?_⟩
     ·rw [World.cell?_setCell_other _ _ _ _ (hn9 _)];exact hS8.1
     ·rw [World.cell?_setCell_other _ _ _ _ (hn9 _)];exact hS8.2.1
     ·rw [World.cell?_setCell_other _ _ _ _ (hn9 _)];exact hS8.2.2.1
     ·rw [World.cell?_setCell_other _ _ _ _ (hn9 _)];exact hS8.2.2.2
     refine wpAnyR_done (by kernel_rfl) ?_ _
     have HEnd9:=show Hid _ from HFin.out _ _ HA7.out.endA
     clear e4 b8 hS8 hKk Kk r0 r1 r2 r3 q0 q1 q2 q3 b7 f7
     gi_wp2
     exact HEnd9.out
    ·go_simp
     have hn9:∀(o9:Nat),(⟨w1.heap.size,0,none⟩:Addr)≠⟨w3.heap.size,o9,none⟩:=fun o9 e=>by have:=HA7.out.ne5;injection e with e _ _;omega
     have hg9:∀(o9:Nat),(⟨w1.heap.size,0,none⟩:Addr)≠⟨g,o9,none⟩:=fun o9 e=>by injection e with e _ _;exact n2 e
     have hS8:∀(o9:Nat) (v9:Value),w7.cell? ⟨w3.heap.size,o9,none⟩=some v9→(w7.setCell ⟨w1.heap.size,0,none⟩ (.slice (some ⟨g,0,none⟩) (K+1) cap)).cell? ⟨w3.heap.size,o9,none⟩=some v9:=fun o9 v9 h9=>by rw [World.cell?_setCell_other _ _ _ _ (hn9 _)];exact h9
     have hr8:∀(o9:Nat) (v9:Value),w7.cell? ⟨g,o9,none⟩=some v9→(w7.setCell ⟨w1.heap.size,0,none⟩ (.slice (some ⟨g,0,none⟩) (K+1) cap)).cell? ⟨g,o9,none⟩=some v9:=fun o9 v9 h9=>by rw [World.cell?_setCell_other _ _ _ _ (hg9 _)];exact h9
     have r0:=hr8 _ _ r0;have r1:=hr8 _ _ r1;have r2:=hr8 _ _ r2;have r3:=hr8 _ _ r3
     have s0:=hS8 _ _ HA7.out.part.1;have s1:=hS8 _ _ HA7.out.part.2.1;have s2:=hS8 _ _ HA7.out.part.2.2.1;have s3:=hS8 _ _ HA7.out.part.2.2.2
     refine hKk _ _ ⟨⟨s0,s1,s2,s3⟩,?_⟩
     clear hKk Kk hr8 hS8
     refine zal (i:=6) (by kernel_rfl) (wpOpIn_step rfl (fun Kk hKk=>?_))
     go_simp
     have e4:∀(o9:Nat) (v9:Value),(w7.setCell ⟨w1.heap.size,0,none⟩ (.slice (some ⟨g,0,none⟩) (K+1) cap)).cell? ⟨w3.heap.size,o9,none⟩=some v9→(((((w7.setCell ⟨w1.heap.size,0,none⟩ (.slice (some ⟨g,0,none⟩) (K+1) cap)).setCell ⟨g,K*4,none⟩ (.int .i64 4)).setCell ⟨g,K*4+1,none⟩ (.int .i64 0)).setCell ⟨g,K*4+2,none⟩ (.string ⟨#[]⟩)).setCell ⟨g,K*4+3,none⟩ (.slice a3 n3 c3)).cell? ⟨w3.heap.size,o9,none⟩=some v9:=fun o9 v9 h9=>set4_cell (g:=g) (o:=K*4) (x:=⟨4,0,⟨#[]⟩,[]⟩) (u:=.slice a3 n3 c3) (fun e=>n3' e.symm) h9
     refine hKk _ _ ⟨⟨e4 _ _ s0,e4 _ _ s1,e4 _ _ s2,e4 _ _ s3⟩,?_⟩
     refine wpAnyR_done (by kernel_rfl) ?_ _
     have HEnd9:=show Hid _ from HFin.out _ _ HA7.out.endC
     clear e4 hKk Kk r0 r1 r2 r3 q0 q1 q2 q3 b7 f7 s0 s1 s2 s3 hn9 hg9
     gi_wp2
     exact HEnd9.out
 case done=>
  rintro D xs W hD rfl hI hK
  have e9:=Hll.out
  subst e9
  obtain⟨ao,n9,co,q1,q2,q3⟩:=hI.fin hS1 hl6 hl0 HE.out
  obtain⟨c4,f4⟩:=hI.c4
  obtain⟨c5,f5⟩:=hI.c5
  have HKD:Hid (((W.setCell ⟨w.heap.size,0,none⟩ (.slice ao n9 co)).setCell ⟨w.heap.size+1,0,none⟩ (.int .i64 0)).heap[D]? = some (.deferred (some []))):=((KeepsOthers.setCell W ⟨w.heap.size,0,none⟩ (.slice ao n9 co)).trans (KeepsOthers.setCell _ ⟨w.heap.size+1,0,none⟩ (.int .i64 0))).same D _ hK rfl
  have h2:=two25 (a:=.slice ao n9 co) (b:=.int .i64 0) c4 c5 (by omega)
  have hbb:=(hI.below.setCell (p:=⟨w.heap.size,0,none⟩) (Nat.le_refl _) (.slice ao n9 co)).setCell (p:=⟨w.heap.size+1,0,none⟩) (Nat.le_succ _) (.int .i64 0)
  have hMw:w.heap.size+2≤w1.heap.size:=hs1
  have HL2:LiesX (fun m=>w1.heap.size+3≤m) 18 ((W.setCell ⟨w.heap.size,0,none⟩ (.slice ao n9 co)).setCell ⟨w.heap.size+1,0,none⟩ (.int .i64 0)) (prtL d S l) (.slice ao n9 co):=(((KC.refl (fun n=>n=w.heap.size∨n=w.heap.size+1) W).set (g:=w.heap.size) (o:=0) (.inl (.inl rfl)) _).set (g:=w.heap.size+1) (o:=0) (.inl (.inr rfl)) _).liesX (fun n hn h=>by omega) q3
  have c4':=putObj25 (o':=.deferred none) HKD.out rfl h2.1
  have c5':=putObj25 (o':=.deferred none) HKD.out rfl h2.2
  have HZ:Hid (PP (.returned (.tuple #[.slice ao n9 co,.int .i64 0])) (((W.setCell ⟨w.heap.size,0,none⟩ (.slice ao n9 co)).setCell ⟨w.heap.size+1,0,none⟩ (.int .i64 0)).putObj D (.deferred none))):=by
   show PP _ _
   rw [←HP.out,q2]
   exact⟨_,rfl,(LiesX.stays (fun _ h=>h) (fun b v _ hv=>putObj25 HKD.out rfl hv) HL2).lies,hbb.trans (belowK_b (w:=w) (Nat.le_refl _) _ D _ _ (by omega) HKD.out rfl rfl)⟩
  clear hI hK q3 HL2 hbb h2
  gi_wp2
  refine leaves25 D _ HKD.out ⟨.tuple #[.slice ao n9 co,.int .i64 0],?_,HZ.out⟩
  simp [results,Tryz.results4,go_sem,c4',c5']
 case stop=>
  rintro D c9 pre W hD _ ⟨rfl,hok,c4,c5,hb⟩ hK
  have hE:prtE d S l=2:=by rw [HE.out,if_neg (by rw [hok];exact Bool.false_ne_true)]
  have hL:prtL d S l=[]:=by unfold prtL;rw [if_neg (by rw [hE];omega)]
  have c4':=putObj25 (o':=.deferred none) hK rfl c4
  have c5':=putObj25 (o':=.deferred none) hK rfl c5
  have HZ:Hid (PP (.returned (.tuple #[.slice none 0 0,.int .i64 2])) (W.putObj D (.deferred none))):=by
   show PP _ _
   rw [←HP.out,hE,hL]
   exact⟨_,rfl,(zah (fun _=>True) 18 _ none 0).lies,hb.trans (belowK_b (w:=w) (Nat.le_refl _) W D _ _ (by omega) hK rfl rfl)⟩
  gi_wp2
  refine leaves25 D W hK ⟨.tuple #[.slice none 0 0,.int .i64 2],?_,HZ.out⟩
  simp [results,Tryz.results4,go_sem,c4',c5']
theorem partsF_nil (d:Nat) (S:Nat) (hS1:1≤S) (hS2:S≤65536) (v:Value) (w:World) (hv:Lies (d+1) w [] v) :
 Calls Tryz.prog 4 #[.int .i64 (S:Int),v] w (PtPost (prtL d S []) (prtE d S []) w):=by
 obtain⟨a,c,rfl,hcl⟩:=Lies.slice hv
 have hle:zad d []=0:=by unfold zad;simp
 have HC:Hid (∀W,Below w.heap.size w W→Calls Tryz.prog 11 #[.slice a 0 c] W fun e w'=>e=.returned (.int .i64 0)∧Below W.heap.size W w'):=fun W hW=>by
  have:=zap d [] _ W (Lies.keeps hW _ _ _ hv)
  rwa [hle] at this
 have hok:prtOk S []=true:=by
  have hz:nCk S 0=0:=Nat.le_zero.1 (nCk_le S 0 hS1)
  unfold prtOk prt
  simp [hz]
 have hE:prtE d S []=0:=by unfold prtE;rw [if_neg (by omega),if_neg (by omega)];simp [hok]
 have hL:prtL d S []=[]:=by
  have hz:nCk S 0=0:=Nat.le_zero.1 (nCk_le S 0 hS1)
  unfold prtL
  rw [if_pos hE]
  unfold prt
  simp [hz]
 rw [hE,hL]
 show Calls Tryz.prog 4 #[.int .i64 (S:Int),.slice a 0 c] w _
 clear hv hle hok hE hL hcl
 have hb0:Below w.heap.size w ((w.alloc (.cells #[.slice none 0 0] 22)).alloc (.cells #[.int .i64 0] 23)):=(((Grew.refl w).alloc _).alloc _).below
 have HW:Hid (Go.Boxed ((w.alloc (.cells #[.slice none 0 0] 22)).alloc (.cells #[.int .i64 0] 23)) w.heap.size 22 (.slice none 0 0)∧Go.Boxed ((w.alloc (.cells #[.slice none 0 0] 22)).alloc (.cells #[.int .i64 0] 23)) (w.heap.size+1) 23 (.int .i64 0)):=by
  refine⟨(Go.Boxed.new w _ _).alloc _,?_⟩
  have:=Go.Boxed.new (w.alloc (.cells #[.slice none 0 0] 22)) 23 (.int .i64 0)
  rwa [World.size_alloc] at this
 have hn1 : ¬(S:Int)<1:=by omega
 have hn2 : ¬65536<(S:Int):=by omega
 refine (callsIn_wide (n:=6)).1 ?_
 refine callsIn_of_wp_marks Tryz.func4 rfl trivial ?_ rfl
 simp only [Tryz.ntmps4,List.size_toArray,List.length_cons,List.length_nil,Nat.reduceAdd,Nat.reduceSub,Array.replicate_succ,Array.replicate_zero,List.push_toArray,List.append_toArray,List.nil_append,List.cons_append]
 gi_wp2
 refine⟨trivial,(callsIn_wide.2 (HC.out _ hb0)).mono ?_⟩
 rintro e w1 ⟨rfl,hb2⟩
 have hs0:((w.alloc (.cells #[.slice none 0 0] 22)).alloc (.cells #[.int .i64 0] 23)).heap.size=w.heap.size+2:=by simp
 have hs1:w.heap.size+2≤w1.heap.size:=by have:=hb2.size;omega
 have hb3:Below w.heap.size w w1:=hb0.trans (hb2.mono hb0.size)
 have HX:Hid (Go.Boxed w1 w.heap.size 22 (.slice none 0 0)∧Go.Boxed w1 (w.heap.size+1) 23 (.int .i64 0)):=⟨HW.out.1.kept (row:=none) ⟨hb2.os,hb2.tape,hb2.output,hb2.size,fun k hk _=>hb2.block k hk⟩ (by simp),HW.out.2.kept (row:=none) ⟨hb2.os,hb2.tape,hb2.output,hb2.size,fun k hk _=>hb2.block k hk⟩ (by simp)⟩
 clear HC HW hb0 hb2 hs0
 gi_wp2
 refine⟨trivial,(chunkF_in S hS1 _ _ _ _ _).mono ?_⟩
 rintro e w2 ⟨rfl,rfl⟩
 gi_wp2
 obtain⟨V,hV⟩:∃V,V=((w1.alloc (.cells #[.slice none 0 0] 22)).alloc (.cells #[.slice a 0 c] 22)).alloc (.cells #[.int .i64 (S:Int)] 3):=⟨_,rfl⟩
 have hVs:V.heap.size=w1.heap.size+3:=by rw [hV];simp
 have hVb:Below w1.heap.size w1 V:=by rw [hV];exact ((((Grew.refl w1).alloc _).alloc _).alloc _).below
 have hbO:=Go.Boxed.new w1 22 (.slice none 0 0)
 have hbS:=Go.Boxed.new (w1.alloc (.cells #[.slice none 0 0] 22)) 22 (.slice a 0 c)
 rw [World.size_alloc] at hbS
 have hO:Go.Boxed V w1.heap.size 22 (.slice none 0 0):=by rw [hV];exact (hbO.alloc _).alloc _
 have bS:V.cell? ⟨w1.heap.size+1,0,none⟩=some (.slice a 0 c):=by rw [hV];exact (hbS.alloc _).cell
 have hg1V:w1.grownBy V none:=⟨hVb.os,hVb.tape,hVb.output,hVb.size,fun k hk _=>hVb.block k hk⟩
 have HI0:Hid (Go.Boxed V w1.heap.size 22 (.slice none 0 0)∧Go.Boxed V w.heap.size 22 (.slice none 0 0)∧Go.Boxed V (w.heap.size+1) 23 (.int .i64 0)∧Below w.heap.size w V):=⟨hO,HX.out.1.kept hg1V (by simp),HX.out.2.kept hg1V (by simp),hb3.trans (hVb.mono hb3.size)⟩
 rw [←hV]
 clear HX hbO hbS hO hg1V hb3
 refine wpIn_rangeFunc_ownG rfl (by omega) (gf:=29) (lb:=#[.pointer (some ⟨w1.heap.size+1,0,none⟩),.pointer (some ⟨w1.heap.size+1+1,0,none⟩)]) rfl trivial (enters_of Tryz.func29 (by kernel_rfl) rfl)
  (chunkS_none 5 w.heap.size (w1.heap.size+1) (w1.heap.size+1+1) a c V (by omega) bS) KpC.t (KpC.b (by omega) (by omega) (by omega)) (Below.refl _ _) (fun _=>rfl)
  (fun (_:List Unit) W=>Go.Boxed W w1.heap.size 22 (.slice none 0 0)∧Go.Boxed W w.heap.size 22 (.slice none 0 0)∧Go.Boxed W (w.heap.size+1) 23 (.int .i64 0)∧Below w.heap.size w W) (fun _ _ _=>False)
  ?hI (fun _ _ _ _ _ hs _ _=>hs) HI0.out
  (fun _=>{ tmps:=#[.int .i64 (S:Int),.slice a 0 c,undef,undef,.pointer (some ⟨w.heap.size,0,none⟩),.pointer (some ⟨w.heap.size+1,0,none⟩),.int .i64 0,.pointer (some ⟨w1.heap.size,0,none⟩),.slice a 0 0,undef,undef,.int .i64 (S:Int),.bool false,.bool false,.int .i64 (S:Int),.bool false,.bool false,.slice a 0 c,.int .i64 0,.int .i64 0,.bool false,undef,.slice a 0 c,.int .i64 (S:Int),.func (.func 29) #[] #[.pointer (some ⟨w1.heap.size+1,0,none⟩),.pointer (some ⟨w1.heap.size+1+1,0,none⟩)],.slice a 0 0,undef,undef,undef,undef,undef,undef,undef,undef,undef,undef,undef,undef,undef,undef,undef],defers:=[] }) ?assign ?body ?done ?stop
 all_goals clear hV
 case hI=>
  intro s A V' row hs hg hr
  refine⟨hs.1.kept hg (fun e=>?_),hs.2.1.kept hg (fun e=>?_),hs.2.2.1.kept hg (fun e=>?_),hs.2.2.2.grown hg hs.2.2.2.size (fun k e=>?_)⟩
  all_goals first
   | (have:=(hr _ e.symm).1;omega)
   | (have:=(hr _ e).1;omega)
 case assign=>
  intro lp x W K hK
  gi_wp2
  exact hK
 case body=>
  rintro lp pre x W hI hlt
  cases hlt
 case done=>
  rintro D xs W hD _ hI hK
  obtain⟨b1,b2,b3,hb⟩:=hI
  have q1:=b1.cell
  have c4:=b2.cell
  have f4:=b2.frozen
  have c5:=b3.cell
  have f5:=b3.frozen
  have HKD:Hid (((W.setCell ⟨w.heap.size,0,none⟩ (.slice none 0 0)).setCell ⟨w.heap.size+1,0,none⟩ (.int .i64 0)).heap[D]? = some (.deferred (some []))):=((KeepsOthers.setCell W ⟨w.heap.size,0,none⟩ (.slice none 0 0)).trans (KeepsOthers.setCell _ ⟨w.heap.size+1,0,none⟩ (.int .i64 0))).same D _ hK rfl
  have h2:=two25 (a:=.slice none 0 0) (b:=.int .i64 0) c4 c5 (by omega)
  have hbb:=(hb.setCell (p:=⟨w.heap.size,0,none⟩) (Nat.le_refl _) (.slice none 0 0)).setCell (p:=⟨w.heap.size+1,0,none⟩) (Nat.le_succ _) (.int .i64 0)
  have hMw:w.heap.size+2≤w1.heap.size:=hs1
  have c4':=putObj25 (o':=.deferred none) HKD.out rfl h2.1
  have c5':=putObj25 (o':=.deferred none) HKD.out rfl h2.2
  have HZ:Hid (PtPost [] 0 w (.returned (.tuple #[.slice none 0 0,.int .i64 0])) (((W.setCell ⟨w.heap.size,0,none⟩ (.slice none 0 0)).setCell ⟨w.heap.size+1,0,none⟩ (.int .i64 0)).putObj D (.deferred none))):=
   ⟨_,rfl,(zah (fun _=>True) 18 _ none 0).lies,hbb.trans (belowK_b (w:=w) (Nat.le_refl _) _ D _ _ (by omega) HKD.out rfl rfl)⟩
  clear hK hbb h2 hb b1 b2 b3
  gi_wp2
  refine leaves25 D _ HKD.out ⟨.tuple #[.slice none 0 0,.int .i64 0],?_,HZ.out⟩
  simp [results,Tryz.results4,go_sem,c4',c5']
 case stop=>
  rintro D c9 pre W hD _ h9 hK
  exact h9.elim
theorem partsF_any (d:Nat) (n:Int) (l:List VT) (v:Value) (w:World) (hv:Lies (d+1) w l v) :
 Calls Tryz.prog 4 #[.int .i64 n,v] w (PtPost (prtL d n l) (prtE d n l) w):=by
 by_cases hbad:(n<1∨65536<n)∨zad d l≠0
 ·exact partsF_bad d n l v w hv hbad
 ·obtain⟨S,rfl⟩:∃S:Nat,n=(S:Int):=⟨n.toNat,by omega⟩
  by_cases hne:l=[]
  ·subst hne
   exact partsF_nil d S (by omega) (by omega) v w hv
  ·exact partsF_ok d S (by omega) (by omega) l v w hv (by omega) hne
end Go.Proofs.YtcflooaoocngdaaGreat
