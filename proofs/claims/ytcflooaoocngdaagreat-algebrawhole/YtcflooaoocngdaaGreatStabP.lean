import Derived.Test.YtcflooaoocngdaaGreatRotate
import Derived.BigQuiet
import Derived.Shelf.SlSortCmp.QuietGrown
set_option maxRecDepth 100000
set_option maxHeartbeats 32000000
namespace Go.Proofs.YtcflooaoocngdaaGreat
open Go.RowKit
theorem RowQ.cells {w0 w:World} {g:Nat} {ps:List PP} (h:RowQ w0 g ps w) (i:Nat) (x:PP) (hx:ps[i]? = some x) :
 (w.cell? ⟨g,i*8,none⟩=some (.int .i64 x.1.1.kind)∧w.cell? ⟨g,i*8+1,none⟩=some (.int .i64 x.1.1.num)∧w.cell? ⟨g,i*8+2,none⟩=some (.string x.1.1.text)∧w.cell? ⟨g,i*8+3,none⟩=some x.1.2∧
 w.cell? ⟨g,i*8+4,none⟩=some (.int .i64 x.2.1.kind)∧w.cell? ⟨g,i*8+5,none⟩=some (.int .i64 x.2.1.num)∧w.cell? ⟨g,i*8+6,none⟩=some (.string x.2.1.text)∧w.cell? ⟨g,i*8+7,none⟩=some x.2.2)∧
 (w.frozen? ⟨g,i*8,none⟩=false∧w.frozen? ⟨g,i*8+1,none⟩=false∧w.frozen? ⟨g,i*8+2,none⟩=false∧w.frozen? ⟨g,i*8+3,none⟩=false∧
 w.frozen? ⟨g,i*8+4,none⟩=false∧w.frozen? ⟨g,i*8+5,none⟩=false∧w.frozen? ⟨g,i*8+6,none⟩=false∧w.frozen? ⟨g,i*8+7,none⟩=false):=by
 obtain⟨hi,e⟩:=List.getElem?_eq_some_iff.1 hx
 have:=h.at i hi
 rw [e] at this
 exact⟨this,h.fzs i hi⟩
theorem RowQ.swp {w0 w:World} {g:Nat} {ps:List PP} (h:RowQ w0 g ps w) (hg:w0.heap.size≤g) (i j:Nat) (x y:PP) (hx:ps[i]? = some x) (hy:ps[j]? = some y):RowQ w0 g (swp2 ps i j) ((w.setCells g (i*8) (encQ y)).setCells g (j*8) (encQ x)):=by
 obtain⟨hi,e1⟩:=List.getElem?_eq_some_iff.1 hx
 obtain⟨hj,e2⟩:=List.getElem?_eq_some_iff.1 hy
 have:=h.swap hg i j hi hj
 rw [e1,e2] at this
 unfold swp2
 rw [dif_pos ⟨hi,hj⟩]
 exact this
theorem below_drewN (w:World) (n:Nat):Below w.heap.size w (w.drewN n):=⟨rfl,rfl,rfl,Nat.le_refl _,fun _ _=>rfl⟩
def CmpQ (f:Nat) (G:World→PP→Prop) (cf:PP→PP→Int):Prop:=
 ∀(p r:PP) (W:World),G W p→G W r→Calls Tryz.prog f #[.agg (encQ p).toArray,.agg (encQ r).toArray] W fun e W'=>e=.returned (.int .i64 (cf p r))∧Below W.heap.size W W'
def GoodQ (d:Nat) (W:World) (p:PP):Prop:=Sound d W p.1∧Sound d W p.2
theorem GoodQ.keeps {d:Nat} {W W':World} {p:PP} (h:GoodQ d W p) (hb:Below W.heap.size W W'):GoodQ d W' p:=⟨h.1.keeps hb,h.2.keeps hb⟩
theorem GoodQ.slq {d:Nat} {W:World} {ps:List PP} (h:∀p∈ps,GoodQ d W p):Slq ps:=fun p hp=>by
 obtain⟨a,c,e,_⟩:=Lies.slice (h p hp).1.1
 obtain⟨a2,c2,e2,_⟩:=Lies.slice (h p hp).2.1
 exact⟨⟨a,_,c,e⟩,⟨a2,_,c2,e2⟩⟩
def ltC (cf:PP→PP→Int) (x y:PP):Bool:=decide (cf x y<0)
theorem swp2_turn (A B C:List PP) (x y:PP):swp2 (A++(x::(B++(y::C)))) (A.length+1+B.length) A.length=A++(y::(B++(x::C))):=by
 rw [←swp2_app A B C x y]
 unfold swp2
 have h1:A.length<(A++(x::(B++(y::C)))).length:=by simp
 have h2:A.length+1+B.length<(A++(x::(B++(y::C)))).length:=by simp;omega
 rw [dif_pos ⟨h2,h1⟩,dif_pos ⟨h1,h2⟩]
 unfold swapL
 rw [List.set_comm _ _ (by omega)]
theorem ins_up {lt:PP→PP→Bool} (h:Weak lt) (S1 S2:List PP) (x:PP) (hS:Up lt (S1++S2)) (h2:∀s∈S2,lt x s=true) (h1:∀y,S1.getLast? = some y→lt x y=false):Up lt (S1++(x::S2)):=by
 obtain⟨u1,u2,u3⟩:=List.pairwise_append.1 hS
 have hx:∀s∈S1,lt x s=false:=fun s hs=>by
  rcases List.eq_nil_or_concat S1 with e|⟨l,b,e⟩
  ·rw [e] at hs;cases hs
  ·rw [List.concat_eq_append] at e
   subst e
   have hb:=h1 b (by simp)
   rcases List.mem_append.1 hs with hs|hs
   ·have:=(List.pairwise_append.1 u1).2.2 s hs b (by simp)
    exact h.tr s b x this hb
   ·rw [List.mem_singleton.1 hs];exact hb
 refine List.pairwise_append.2 ⟨u1,List.pairwise_cons.2 ⟨fun s hs=>h.as x s (h2 s hs),u2⟩,fun s hs y hy=>?_⟩
 rcases List.mem_cons.1 hy with rfl|hy
 ·exact hx s hs
 ·exact u3 s hs y hy
theorem ins_alike {lt:PP→PP→Bool} (h:Weak lt) (S1 S2:List PP) (x:PP) (h2:∀s∈S2,lt x s=true):Alike lt (S1++(x::S2)) (S1++S2++[x]):=by
 rw [List.append_assoc]
 refine (Alike.refl lt S1).app ?_
 exact (alike_swap h S2 [x] (fun a ha b hb=>by rw [List.mem_singleton.1 hb];exact h2 a ha)).symm
structure InI (lt:PP→PP→Bool) (w0:World) (g j:Nat) (A S:List PP) (x:PP) (R:List PP) (wr:World) (S1 S2:List PP):Prop where
 ej:j=A.length+S1.length
 eq:S1++S2=S
 ahead:∀s∈S2,lt x s=true
 row:RowQ w0 g (A++(S1++(x::(S2++R)))) wr
theorem InI.step {lt:PP→PP→Bool} {w0:World} {g j:Nat} {A S:List PP} {x:PP} {R:List PP} {wr:World} {S1 S2:List PP} {y:PP} (h:InI lt w0 g j A S x R wr (S1++[y]) S2) (hlt:lt x y=true) {W:World} (hR:RowQ w0 g (swp2 (A++((S1++[y])++(x::(S2++R)))) j (j-1)) W):InI lt w0 g (j-1) A S x R W S1 (y::S2):=by
 have hej:=h.ej
 simp at hej
 refine⟨by omega,by rw [←h.eq];simp,fun s hs=>?_,?_⟩
 ·rcases List.mem_cons.1 hs with rfl|hs
  ·exact hlt
  ·exact h.ahead s hs
 ·have e:A++((S1++[y])++(x::(S2++R)))=(A++S1)++(y::([]++(x::(S2++R)))):=by simp
  have e1:j=(A++S1).length+1+([]:List PP).length:=by simp;omega
  have e2:j-1=(A++S1).length:=by simp;omega
  rw [e,e2,e1,swp2_turn] at hR
  simpa using hR
structure InO (lt:PP→PP→Bool) (w0:World) (g i:Nat) (A M C:List PP) (wr:World) (S R:List PP):Prop where
 ei:i=A.length+S.length
 len:(S++R).length=M.length
 up:Up lt S
 al:Alike lt (S++R) M
 row:RowQ w0 g (A++(S++(R++C))) wr
 mem:∀x∈S++R,x∈M
def zac (lt:PP→PP→Bool) (w0:World) (g:Nat) (A M C:List PP) (w':World):Prop:=
 ∃M',M'.length=M.length∧(∀x∈M',x∈M)∧Up lt M'∧Alike lt M' M∧RowQ w0 g (A++(M'++C)) w'
theorem insertion_any (f d:Nat) (eg:∀args w,(callFunc f args).run Tryz.prog w=.ok (.enter f args) w) (cf:PP→PP→Int) (hc:CmpQ f (GoodQ d) cf) (hwk:Weak (ltC cf)) (w0:World) (g cap a b L:Nat) (A M C:List PP) (w:World) (hg:w0.heap.size≤g) (ha:a=A.length) (hb:b=A.length+M.length) (hL:L=(A++(M++C)).length) (hR:RowQ w0 g (A++(M++C)) w) (hG:∀p∈A++(M++C),GoodQ d w0 p) (hlen:L≤65536) :
 Calls Tryz.prog 120 #[.slice (some ⟨g,0,none⟩) L cap,.int .i64 a,.int .i64 b,.func (.func f) #[] #[]] w fun e w'=>e=.returned (.tuple #[])∧zac (ltC cf) w0 g A M C w':=by
 have HC:Hid (CmpQ f (GoodQ d) cf):=hc
 have HW:Hid (Weak (ltC cf)):=hwk
 have HG:Hid (∀p∈A++(M++C),GoodQ d w0 p):=hG
 have hbL:b≤L:=by rw [hb,hL];simp
 have hwa:IntKind.i64.wrap ((a:Int)+1)=((a+1:Nat):Int):=by rw [IntKind.wrap_i64];omega
 have HA:Hid (a=A.length):=ha
 have HB:Hid (b=A.length+M.length):=hb
 clear hL
 cases M with
 | nil=>
  have HR:Hid (RowQ w0 g (A++([]++C)) w):=hR
  have hab : ¬(((a+1:Nat):Int)<(b:Nat)):=by simp at hb;omega
  clear hR hG hc hwk hb ha
  generalize a+1=a1 at *
  go_enter Tryz.func120,Tryz.ntmps120
  go_wp2_with fail
  go_loopg [8] 0 (fun z vi wr=>vi=.int .i64 (a1:Int)∧z=0∧wr=w)
  case atStart=>exact⟨rfl,rfl,rfl⟩
  case round=>
   obtain⟨rfl,rfl,rfl⟩:=hrel
   go_wp2_with fail
   exact bodyPost_end (v:=.tuple #[]) (by simp [results,Tryz.results120,go_sem]) rfl ⟨rfl,[],rfl,(fun x hx=>hx),List.Pairwise.nil,Alike.refl _ _,HR.out⟩
 | cons m0 R0=>
  have HO0:Hid (InO (ltC cf) w0 g (a+1) A (m0::R0) C w [m0] R0):=⟨by simp [ha],by simp,List.pairwise_cons.2 ⟨(fun y hy=>by cases hy),List.Pairwise.nil⟩,Alike.refl _ _,by simpa using hR,(fun x hx=>hx)⟩
  generalize m0::R0=M at *
  clear hR hG hc hwk ha hb
  go_enter Tryz.func120,Tryz.ntmps120
  go_wp2_with fail
  go_loopg [8] R0.length (fun z vi wr=>∃(i:Nat) (S R:List PP),vi=.int .i64 (i:Int)∧z=R.length∧Hid (InO (ltC cf) w0 g i A M C wr S R))
  case atStart=>exact⟨a+1,[m0],R0,by go_num,rfl,HO0⟩
  case round=>
   obtain⟨i,S,R,rfl,hk,HM⟩:=hrel
   have Hk:Hid _:=hk
   clear hk HO0 hwa
   have ha:=HA.out
   have hb:=HB.out
   have hiL:i=A.length+S.length:=HM.out.ei
   have hlM:S.length+R.length=M.length:=by have:=HM.out.len;simpa using this
   cases R with
   | nil=>
    have hib : ¬((i:Int)<(b:Nat)):=by simp at hlM;omega
    have HE:Hid (zac (ltC cf) w0 g A M C wr):=⟨S,by simpa using hlM,fun x hx=>HM.out.mem x (by simpa using hx),HM.out.up,by have:=HM.out.al;rwa [List.append_nil] at this,HM.out.row⟩
    clear HM hiL hlM ha hb
    go_wp2_with fail
    exact bodyPost_end (v:=.tuple #[]) (by simp [results,Tryz.results120,go_sem]) rfl ⟨rfl,HE.out⟩
   | cons x R'=>
    have hib:(i:Int)<(b:Nat):=by simp at hlM;omega
    have HI0:Hid (InI (ltC cf) w0 g i A S x (R'++C) wr S []):=⟨hiL,by simp,(fun s hs=>by cases hs),by simpa using HM.out.row⟩
    have HOut:Hid (∀S1 S2 W,S1++S2=S→(∀s∈S2,ltC cf x s=true)→(∀y,S1.getLast? = some y→ltC cf x y=false)→RowQ w0 g (A++(S1++(x::(S2++(R'++C))))) W→InO (ltC cf) w0 g (i+1) A M C W (S1++(x::S2)) R'):=fun S1 S2 W e h2 h1 hR=>by
     have e':=congrArg List.length e
     simp at e'
     refine⟨by simp;omega,by simp at hlM ⊢;omega,ins_up HW.out S1 S2 x (by rw [e];exact HM.out.up) h2 h1,?_,by simpa using hR,fun z hz=>HM.out.mem z ?_⟩
     ·have k1:Alike (ltC cf) ((S1++(x::S2))++R') ((S1++S2++[x])++R'):=(ins_alike HW.out S1 S2 x h2).app (Alike.refl _ R')
      refine k1.trans ?_
      have k2:(S1++S2++[x])++R'=S++(x::R'):=by rw [e];simp
      rw [k2]
      exact HM.out.al
     ·rw [←e]
      simp at hz ⊢
      rcases hz with hz|hz|hz|hz <;> simp [hz]
    have HGx:Hid (GoodQ d w0 x):=HG.out x (by have:=HM.out.mem x (by simp);simp [this])
    have HGS:Hid (∀s∈S,GoodQ d w0 s):=fun s hs=>HG.out s (by have:=HM.out.mem s (by simp [hs]);simp [this])
    have hiL2:i<L:=by omega
    have HiL:Hid (i=A.length+S.length):=hiL
    clear HM hiL hlM ha hb
    go_wp2_with fail
    go_loopg [9] S.length (fun z vj wr2=>∃(j:Nat) (S1 S2:List PP),vj=.int .i64 (j:Int)∧z=S1.length∧Hid (InI (ltC cf) w0 g j A S x (R'++C) wr2 S1 S2))
    case atStart=>exact⟨i,S,[],rfl,rfl,HI0⟩
    case round=>
     obtain⟨j,S1,S2,rfl,hk2,HM⟩:=hrel
     have Hk2:Hid _:=hk2
     clear hk2 HI0
     have hej:=HM.out.ej
     have ha:=HA.out
     have hb:=HB.out
     have hiL:=HiL.out
     have hle:S1.length≤S.length:=by rw [←HM.out.eq];simp
     have hjL:j<L:=by omega
     by_cases hS1:S1=[]
     ·obtain rfl:j=a:=by rw [hS1] at hej;simp at hej;omega
      have HN:Hid (∀n,InO (ltC cf) w0 g (i+1) A M C (wr.drewN n) (S1++(x::S2)) R'):=fun n=>HOut.out S1 S2 _ HM.out.eq HM.out.ahead (fun y hy=>by rw [hS1] at hy;cases hy) (HM.out.row.keeps (below_drewN wr n))
      have HiLt:Hid (i<L):=hiL2
      clear HM HOut hej hle hS1 hjL hiL2 hiL hb ha hbL HGx HGS HC HW HG
      go_wp2_with fail
      clear hib
      go_quiet (fail)
      have hiL2:=HiLt.out
      go_wp2_with fail
      go_roundg R'.length
      case measure=>have:=Hk.out;simp at this;omega
      case rel=>exact⟨i+1,_,R',by go_num,rfl,HN.out _⟩
     ·obtain⟨S1',y,rfl⟩:∃S1' y,S1=S1'++[y]:=by
       rcases List.eq_nil_or_concat S1 with h|⟨l,b,h⟩
       ·exact absurd h hS1
       ·exact⟨l,b,by rw [h,List.concat_eq_append]⟩
      simp only [List.length_append,List.length_singleton] at hej hle
      obtain⟨K,hK⟩:∃K,K=j-1:=⟨_,rfl⟩
      have hja:(a:Int)<(j:Int):=by omega
      have hwK:IntKind.i64.wrap ((j:Int)-1)=(K:Int):=by rw [IntKind.wrap_i64];omega
      have hKi:(K:Int)<(L:Nat):=by omega
      have hji:(j:Int)<(L:Nat):=by omega
      have hjn:K+1=j:=by omega
      have e1:(A++((S1'++[y])++(x::(S2++(R'++C)))))[j]? = some x:=by
       have:A++((S1'++[y])++(x::(S2++(R'++C))))=(A++(S1'++[y]))++(x::(S2++(R'++C))):=by simp
       rw [this,List.getElem?_append_right (by simp;omega)]
       simp [hej]
      have e2:(A++((S1'++[y])++(x::(S2++(R'++C)))))[K]? = some y:=by
       have:A++((S1'++[y])++(x::(S2++(R'++C))))=(A++S1')++(y::(x::(S2++(R'++C)))):=by simp
       rw [this,List.getElem?_append_right (by simp;omega)]
       have:K-(A++S1').length=0:=by simp;omega
       rw [this];rfl
      obtain⟨⟨p0,p1,p2,p3,p4,p5,p6,p7⟩,_⟩:=HM.out.row.cells j x e1
      obtain⟨⟨r0,r1,r2,r3,r4,r5,r6,r7⟩,_⟩:=HM.out.row.cells K y e2
      have Gx:=HGx.out
      have Gy:=HGS.out y (by rw [←HM.out.eq];simp)
      have HCc:Hid (∀W,Below w0.heap.size w0 W→Calls Tryz.prog f #[.agg (encQ x).toArray,.agg (encQ y).toArray] W fun e W'=>e=.returned (.int .i64 (cf x y))∧Below W.heap.size W W'):=fun W h=>HC.out x y W (Gx.keeps h) (Gy.keeps h)
      have HN:Hid (¬cf x y<0→∀W,Below wr.heap.size wr W→InO (ltC cf) w0 g (i+1) A M C W ((S1'++[y])++(x::S2)) R'):=fun hz W hW=>HOut.out _ S2 W HM.out.eq HM.out.ahead (fun y' hy=>by
       have:y=y':=by simpa using hy
       rw [←this];exact decide_eq_false hz) (HM.out.row.keeps hW)
      have HStep:Hid (cf x y<0→∀W,Below wr.heap.size wr W→InI (ltC cf) w0 g K A S x (R'++C) ((W.setCells g (j*8) (encQ y)).setCells g (K*8) (encQ x)).drew S1' (y::S2)):=fun hz W hW=>by
       have h1:=(HM.out.row.keeps hW).swp hg j K x y e1 e2
       have h2:=h1.keeps (Grew.refl _).drew.below
       rw [hK] at h2 ⊢
       exact HM.out.step (decide_eq_true hz) h2
      have Hrow:Hid (∀W,Below wr.heap.size wr W→RowQ w0 g _ W):=fun W hW=>HM.out.row.keeps hW
      have He1:Hid _:=e1
      have He2:Hid _:=e2
      have hb0:Below w0.heap.size w0 wr:=HM.out.row.below
      have hgl:g<wr.heap.size:=HM.out.row.lt
      obtain⟨ax,cx,ex1,_⟩:=Lies.slice Gx.1.1
      obtain⟨bx,dx,ex2,_⟩:=Lies.slice Gx.2.1
      obtain⟨ay,cy,ey1,_⟩:=Lies.slice Gy.1.1
      obtain⟨by',dy,ey2,_⟩:=Lies.slice Gy.2.1
      obtain⟨pa,pn,pc,rfl'⟩:∃a n c,x.1.2=.slice a n c:=⟨_,_,_,ex1⟩
      obtain⟨pb,pm,pd,rfl2⟩:∃a n c,x.2.2=.slice a n c:=⟨_,_,_,ex2⟩
      obtain⟨ra,rn,rc,rfl3⟩:∃a n c,y.1.2=.slice a n c:=⟨_,_,_,ey1⟩
      obtain⟨rb,rm,rd,rfl4⟩:∃a n c,y.2.2=.slice a n c:=⟨_,_,_,ey2⟩
      clear HM HOut Gx Gy ex1 ex2 ey1 ey2 e1 e2 hej
      rw [rfl'] at p3;rw [rfl2] at p7;rw [rfl3] at r3;rw [rfl4] at r7
      have HCe:Hid (∀W,Below w0.heap.size w0 W→Calls Tryz.prog f #[.agg #[.int .i64 x.1.1.kind,.int .i64 x.1.1.num,.string x.1.1.text,.slice pa pn pc,.int .i64 x.2.1.kind,.int .i64 x.2.1.num,.string x.2.1.text,.slice pb pm pd],.agg #[.int .i64 y.1.1.kind,.int .i64 y.1.1.num,.string y.1.1.text,.slice ra rn rc,.int .i64 y.2.1.kind,.int .i64 y.2.1.num,.string y.2.1.text,.slice rb rm rd]] W fun e W'=>e=.returned (.int .i64 (cf x y))∧Below W.heap.size W W'):=fun W h=>by
       have h':=HCc.out W h
       simp only [encQ,encP,rfl',rfl2,rfl3,rfl4,List.cons_append,List.nil_append] at h'
       exact h'
      have Hst:Hid (cf x y<0→∀W,Below wr.heap.size wr W→InI (ltC cf) w0 g K A S x (R'++C) ((W.setCells g (j*8) [.int .i64 y.1.1.kind,.int .i64 y.1.1.num,.string y.1.1.text,.slice ra rn rc,.int .i64 y.2.1.kind,.int .i64 y.2.1.num,.string y.2.1.text,.slice rb rm rd]).setCells g (K*8) [.int .i64 x.1.1.kind,.int .i64 x.1.1.num,.string x.1.1.text,.slice pa pn pc,.int .i64 x.2.1.kind,.int .i64 x.2.1.num,.string x.2.1.text,.slice pb pm pd]).drew S1' (y::S2)):=fun hz W hW=>by
       have h':=HStep.out hz W hW
       simp only [encQ,encP,rfl',rfl2,rfl3,rfl4,List.cons_append,List.nil_append] at h'
       exact h'
      have Hfz:Hid (∀W,Below wr.heap.size wr W→(W.frozen? ⟨g,j*8,none⟩=false∧W.frozen? ⟨g,j*8+1,none⟩=false∧W.frozen? ⟨g,j*8+2,none⟩=false∧W.frozen? ⟨g,j*8+3,none⟩=false∧W.frozen? ⟨g,j*8+4,none⟩=false∧W.frozen? ⟨g,j*8+5,none⟩=false∧W.frozen? ⟨g,j*8+6,none⟩=false∧W.frozen? ⟨g,j*8+7,none⟩=false)∧(W.frozen? ⟨g,K*8,none⟩=false∧W.frozen? ⟨g,K*8+1,none⟩=false∧W.frozen? ⟨g,K*8+2,none⟩=false∧W.frozen? ⟨g,K*8+3,none⟩=false∧W.frozen? ⟨g,K*8+4,none⟩=false∧W.frozen? ⟨g,K*8+5,none⟩=false∧W.frozen? ⟨g,K*8+6,none⟩=false∧W.frozen? ⟨g,K*8+7,none⟩=false)):=fun W hW=>⟨((Hrow.out W hW).cells j x He1.out).2,((Hrow.out W hW).cells K y He2.out).2⟩
      have HiLt:Hid (i<L):=hiL2
      have HjK:Hid (K+1=j):=hjn
      have hjn':a<j:=by omega
      have hKn:K<L:=by omega
      clear HCc HStep Hrow He1 He2 rfl' rfl2 rfl3 rfl4 hK hle hiL2 hiL hb ha hbL HGx HGS HC HW HG hjn hS1
      generalize hZ:cf x y=Z at *
      clear hZ
      go_wp2_with fail
      go_region_held3 (fun w'=>(w'.cell? ⟨g,j*8,none⟩=some (.int .i64 x.1.1.kind)∧w'.cell? ⟨g,j*8+1,none⟩=some (.int .i64 x.1.1.num)∧w'.cell? ⟨g,j*8+2,none⟩=some (.string x.1.1.text)∧w'.cell? ⟨g,j*8+3,none⟩=some (.slice pa pn pc)∧w'.cell? ⟨g,j*8+4,none⟩=some (.int .i64 x.2.1.kind)∧w'.cell? ⟨g,j*8+5,none⟩=some (.int .i64 x.2.1.num)∧w'.cell? ⟨g,j*8+6,none⟩=some (.string x.2.1.text)∧w'.cell? ⟨g,j*8+7,none⟩=some (.slice pb pm pd))∧(w'.cell? ⟨g,K*8,none⟩=some (.int .i64 y.1.1.kind)∧w'.cell? ⟨g,K*8+1,none⟩=some (.int .i64 y.1.1.num)∧w'.cell? ⟨g,K*8+2,none⟩=some (.string y.1.1.text)∧w'.cell? ⟨g,K*8+3,none⟩=some (.slice ra rn rc)∧w'.cell? ⟨g,K*8+4,none⟩=some (.int .i64 y.2.1.kind)∧w'.cell? ⟨g,K*8+5,none⟩=some (.int .i64 y.2.1.num)∧w'.cell? ⟨g,K*8+6,none⟩=some (.string y.2.1.text)∧w'.cell? ⟨g,K*8+7,none⟩=some (.slice rb rm rd))) (go_keep)
       (first|(go_at_fn f;refine (HCe.out _ (hb0.trans ((Below.refl _ _).drew.mono hb0.size))).mono ?_;rintro e w1 ⟨rfl,hg1⟩;have hb1:Below wr.heap.size wr w1:=(Below.refl _ _).drew.trans hg1;clear hg1;have p0:=zaa hb1 p0;have p1:=zaa hb1 p1;have p2:=zaa hb1 p2;have p3:=zaa hb1 p3;have p4:=zaa hb1 p4;have p5:=zaa hb1 p5;have p6:=zaa hb1 p6;have p7:=zaa hb1 p7;have r0:=zaa hb1 r0;have r1:=zaa hb1 r1;have r2:=zaa hb1 r2;have r3:=zaa hb1 r3;have r4:=zaa hb1 r4;have r5:=zaa hb1 r5;have r6:=zaa hb1 r6;have r7:=zaa hb1 r7))
      by_cases hz:Z<0
      ·have HS1:Hid _:=Hst.out hz w1 hb1
       obtain⟨⟨f0,f1,f2,f3,f4,f5,f6,f7⟩,⟨z0,z1,z2,z3,z4,z5,z6,z7⟩⟩:=Hfz.out w1 hb1
       have hjK:=HjK.out
       have n00 : ¬(K*8=j*8):=by omega
       have n01 : ¬(K*8=j*8+1):=by omega
       have n02 : ¬(K*8=j*8+2):=by omega
       have n03 : ¬(K*8=j*8+3):=by omega
       have n04 : ¬(K*8=j*8+4):=by omega
       have n05 : ¬(K*8=j*8+5):=by omega
       have n06 : ¬(K*8=j*8+6):=by omega
       have n07 : ¬(K*8=j*8+7):=by omega
       have n10 : ¬(K*8+1=j*8):=by omega
       have n11 : ¬(K*8+1=j*8+1):=by omega
       have n12 : ¬(K*8+1=j*8+2):=by omega
       have n13 : ¬(K*8+1=j*8+3):=by omega
       have n14 : ¬(K*8+1=j*8+4):=by omega
       have n15 : ¬(K*8+1=j*8+5):=by omega
       have n16 : ¬(K*8+1=j*8+6):=by omega
       have n17 : ¬(K*8+1=j*8+7):=by omega
       have n20 : ¬(K*8+2=j*8):=by omega
       have n21 : ¬(K*8+2=j*8+1):=by omega
       have n22 : ¬(K*8+2=j*8+2):=by omega
       have n23 : ¬(K*8+2=j*8+3):=by omega
       have n24 : ¬(K*8+2=j*8+4):=by omega
       have n25 : ¬(K*8+2=j*8+5):=by omega
       have n26 : ¬(K*8+2=j*8+6):=by omega
       have n27 : ¬(K*8+2=j*8+7):=by omega
       have n30 : ¬(K*8+3=j*8):=by omega
       have n31 : ¬(K*8+3=j*8+1):=by omega
       have n32 : ¬(K*8+3=j*8+2):=by omega
       have n33 : ¬(K*8+3=j*8+3):=by omega
       have n34 : ¬(K*8+3=j*8+4):=by omega
       have n35 : ¬(K*8+3=j*8+5):=by omega
       have n36 : ¬(K*8+3=j*8+6):=by omega
       have n37 : ¬(K*8+3=j*8+7):=by omega
       have n40 : ¬(K*8+4=j*8):=by omega
       have n41 : ¬(K*8+4=j*8+1):=by omega
       have n42 : ¬(K*8+4=j*8+2):=by omega
       have n43 : ¬(K*8+4=j*8+3):=by omega
       have n44 : ¬(K*8+4=j*8+4):=by omega
       have n45 : ¬(K*8+4=j*8+5):=by omega
       have n46 : ¬(K*8+4=j*8+6):=by omega
       have n47 : ¬(K*8+4=j*8+7):=by omega
       have n50 : ¬(K*8+5=j*8):=by omega
       have n51 : ¬(K*8+5=j*8+1):=by omega
       have n52 : ¬(K*8+5=j*8+2):=by omega
       have n53 : ¬(K*8+5=j*8+3):=by omega
       have n54 : ¬(K*8+5=j*8+4):=by omega
       have n55 : ¬(K*8+5=j*8+5):=by omega
       have n56 : ¬(K*8+5=j*8+6):=by omega
       have n57 : ¬(K*8+5=j*8+7):=by omega
       have n60 : ¬(K*8+6=j*8):=by omega
       have n61 : ¬(K*8+6=j*8+1):=by omega
       have n62 : ¬(K*8+6=j*8+2):=by omega
       have n63 : ¬(K*8+6=j*8+3):=by omega
       have n64 : ¬(K*8+6=j*8+4):=by omega
       have n65 : ¬(K*8+6=j*8+5):=by omega
       have n66 : ¬(K*8+6=j*8+6):=by omega
       have n67 : ¬(K*8+6=j*8+7):=by omega
       have n70 : ¬(K*8+7=j*8):=by omega
       have n71 : ¬(K*8+7=j*8+1):=by omega
       have n72 : ¬(K*8+7=j*8+2):=by omega
       have n73 : ¬(K*8+7=j*8+3):=by omega
       have n74 : ¬(K*8+7=j*8+4):=by omega
       have n75 : ¬(K*8+7=j*8+5):=by omega
       have n76 : ¬(K*8+7=j*8+6):=by omega
       have n77 : ¬(K*8+7=j*8+7):=by omega
       clear hjK Hst HN Hfz
       go_wp2_with fail
       go_region
       clear p0 p1 p2 p3 p4 p5 p6 p7 r0 r1 r2 r3 r4 r5 r6 r7 f0 f1 f2 f3 f4 f5 f6 f7 z0 z1 z2 z3 z4 z5 z6 z7 n00 n01 n02 n03 n04 n05 n06 n07 n10 n11 n12 n13 n14 n15 n16 n17 n20 n21 n22 n23 n24 n25 n26 n27 n30 n31 n32 n33 n34 n35 n36 n37 n40 n41 n42 n43 n44 n45 n46 n47 n50 n51 n52 n53 n54 n55 n56 n57 n60 n61 n62 n63 n64 n65 n66 n67 n70 n71 n72 n73 n74 n75 n76 n77
       simp only [World.setCells] at HS1
       go_wp2_with fail
       go_roundg S1'.length
       case measure=>have:=Hk2.out;simp at this;omega
       case rel=>exact⟨K,S1',y::S2,rfl,rfl,HS1⟩
      ·have HN1:Hid _:=HN.out (by omega) w1 hb1
       clear p0 p1 p2 p3 p4 p5 p6 p7 r0 r1 r2 r3 r4 r5 r6 r7 Hst HN Hfz
       have hiL2:=HiLt.out
       go_wp2_with fail
       go_roundg R'.length
       case measure=>have:=Hk.out;simp at this;omega
       case rel=>exact⟨i+1,_,R',by go_num,rfl,HN1⟩
def cmpQ (d:Nat) (p r:PP):Int:=cmpV d p.1.1 r.1.1
theorem compareKeys_any (d:Nat):CmpQ 69 (GoodQ d) (cmpQ d):=by
 intro p r W hp hr
 obtain⟨⟨t,u⟩,⟨t2,u2⟩⟩:=p
 obtain⟨⟨s,v⟩,⟨s2,v2⟩⟩:=r
 obtain⟨a1,c1,e1,_⟩:=Lies.slice hp.1.1
 obtain⟨a2,c2,e2,_⟩:=Lies.slice hp.2.1
 obtain⟨a3,c3,e3,_⟩:=Lies.slice hr.1.1
 obtain⟨a4,c4,e4,_⟩:=Lies.slice hr.2.1
 simp only at e1 e2 e3 e4
 subst e1 e2 e3 e4
 have HP:Hid (Lies d W t.items (.slice a1 t.items.length c1)):=hp.1.1
 have HR:Hid (Lies d W s.items (.slice a3 s.items.length c3)):=hr.1.1
 clear hp hr
 have hcmp:cmpQ d ((t,.slice a1 t.items.length c1),(t2,.slice a2 t2.items.length c2)) ((s,.slice a3 s.items.length c3),(s2,.slice a4 s2.items.length c4))=cmpV d t s:=rfl
 rw [hcmp]
 show Calls Tryz.prog 69 #[.agg #[.int .i64 t.kind,.int .i64 t.num,.string t.text,.slice a1 t.items.length c1,.int .i64 t2.kind,.int .i64 t2.num,.string t2.text,.slice a2 t2.items.length c2],.agg #[.int .i64 s.kind,.int .i64 s.num,.string s.text,.slice a3 s.items.length c3,.int .i64 s2.kind,.int .i64 s2.num,.string s2.text,.slice a4 s2.items.length c4]] W _
 have hb:Below W.heap.size W ((W.alloc (.cells #[.int .i64 t.kind,.int .i64 t.num,.string t.text,.slice a1 t.items.length c1,.int .i64 t2.kind,.int .i64 t2.num,.string t2.text,.slice a2 t2.items.length c2] 52)).alloc (.cells #[.int .i64 s.kind,.int .i64 s.num,.string s.text,.slice a3 s.items.length c3,.int .i64 s2.kind,.int .i64 s2.num,.string s2.text,.slice a4 s2.items.length c4] 52)):=(((Grew.refl W).alloc _).alloc _).below
 clear hcmp
 go_enter Tryz.func69,Tryz.ntmps69
 go_wp2_with fail
 refine (zao d t s _ _ _ (Lies.keeps hb _ _ _ HP.out) (Lies.keeps hb _ _ _ HR.out)).mono ?_
 rintro e w1 ⟨rfl,hg⟩
 have hb1:Below W.heap.size W w1:=hb.trans (hg.below.mono hb.size)
 clear hg
 go_wp2_with fail
 go_ret
 exact⟨rfl,hb1⟩
theorem eg_keys:∀args w,(callFunc 69 args).run Tryz.prog w=.ok (.enter 69 args) w:=enters_of Tryz.func69 (by kernel_rfl) rfl
structure Sea (lt:PP→PP→Bool) (x:PP) (Y:List PP) (m i j:Nat):Prop where
 le:m≤i
 ij:i≤j
 je:j≤m+Y.length
 lo:∀k (h:k<Y.length),k+m<i→lt Y[k] x=true
 hi:∀k (h:k<Y.length),j≤k+m→lt Y[k] x=false
theorem Sea.less {lt:PP→PP→Bool} (hw:Weak lt) {x:PP} {Y:List PP} {m i j:Nat} (hY:Up lt Y) (s:Sea lt x Y m i j) (h:Nat) (h1:i≤h) (h2:h<j) (hk:h-m<Y.length) (hl:lt Y[h-m] x=true):Sea lt x Y m (h+1) j:=by
 have:=s.le
 refine⟨by omega,by omega,s.je,fun k hkk hlt=>?_,s.hi⟩
 exact hw.tr_lt (up_get hw hY k (h-m) (by omega) hk) hl
theorem Sea.more {lt:PP→PP→Bool} (hw:Weak lt) {x:PP} {Y:List PP} {m i j:Nat} (hY:Up lt Y) (s:Sea lt x Y m i j) (h:Nat) (h1:i≤h) (h2:h<j) (hk:h-m<Y.length) (hl:lt Y[h-m] x=false):Sea lt x Y m i h:=by
 have:=s.le
 have:=s.je
 refine⟨s.le,h1,by omega,s.lo,fun k hkk hlt=>?_⟩
 exact hw.tr _ _ _ hl (up_get hw hY (h-m) k (by omega) hkk)
structure Mov (w0:World) (g a i:Nat) (A:List PP) (x:PP) (Y1 R:List PP) (wr:World) (k:Nat) (P Q:List PP):Prop where
 ek:k=A.length+P.length
 eq:P++Q=Y1
 row:RowQ w0 g (A++(P++(x::(Q++R)))) wr
theorem Mov.step {w0:World} {g a i:Nat} {A:List PP} {x:PP} {Y1 R:List PP} {wr:World} {k:Nat} {P Q:List PP} {q:PP} (h:Mov w0 g a i A x Y1 R wr k P (q::Q)) {W:World} (hR:RowQ w0 g (swp2 (A++(P++(x::((q::Q)++R)))) k (k+1)) W):Mov w0 g a i A x Y1 R W (k+1) (P++[q]) Q:=by
 have hek:=h.ek
 refine⟨by simp;omega,by rw [←h.eq];simp,?_⟩
 have e:A++(P++(x::((q::Q)++R)))=(A++P)++(x::([]++(q::(Q++R)))):=by simp
 have e1:k=(A++P).length:=by simp;omega
 have e2:k+1=(A++P).length+1+([]:List PP).length:=by simp;omega
 rw [e,e2,e1,swp2_app] at hR
 simpa using hR
theorem sym_left (f d:Nat) (eg:∀args w,(callFunc f args).run Tryz.prog w=.ok (.enter f args) w) (cf:PP→PP→Int) (hc:CmpQ f (GoodQ d) cf) (hwk:Weak (ltC cf)) (w0:World) (g cap a m b L:Nat) (A:List PP) (x:PP) (Y C:List PP) (w:World) (hg:w0.heap.size≤g) (ha:a=A.length) (hm:m=a+1) (hb:b=m+Y.length) (hL:L=(A++([x]++(Y++C))).length) (hR:RowQ w0 g (A++([x]++(Y++C))) w) (hG:∀p∈A++([x]++(Y++C)),GoodQ d w0 p) (hY:Up (ltC cf) Y) (hlen:L≤65536) :
 Calls Tryz.prog 121 #[.slice (some ⟨g,0,none⟩) L cap,.int .i64 a,.int .i64 m,.int .i64 b,.func (.func f) #[] #[]] w fun e w'=>e=.returned (.tuple #[])∧zac (ltC cf) w0 g A ([x]++Y) C w':=by
 have HC:Hid (CmpQ f (GoodQ d) cf):=hc
 have HW:Hid (Weak (ltC cf)):=hwk
 have HY:Hid (Up (ltC cf) Y):=hY
 have HGx:Hid (GoodQ d w0 x):=hG x (by simp)
 have HGY:Hid (∀y∈Y,GoodQ d w0 y):=fun y hy=>hG y (by simp [hy])
 have HA:Hid (a=A.length):=ha
 have HMm:Hid (m=a+1):=hm
 have HBb:Hid (b=m+Y.length):=hb
 have HLl:Hid (b≤L):=by show _≤_;rw [hb,hL,hm,ha];simp;omega
 have hbL:b≤L:=HLl.out
 have hmb:m≤b:=by omega
 have ham:a<m:=by omega
 have hw1:IntKind.i64.wrap ((m:Int)-(a:Int))=1:=by rw [IntKind.wrap_i64];omega
 have HS0:Hid (Sea (ltC cf) x Y m m b):=⟨Nat.le_refl _,hmb,by omega,(fun k _ h=>by omega),(fun k hk h=>by omega)⟩
 have HR0:Hid (RowQ w0 g (A++([x]++(Y++C))) w):=hR
 clear hc hwk hY hG ha hm hb hL hR
 go_enter Tryz.func121,Tryz.ntmps121
 go_wp2_with fail
 go_loopg [10,11] (b-m) (fun z vi vj wr=>∃(i j:Nat),vi=.int .i64 (i:Int)∧vj=.int .i64 (j:Int)∧z=j-i∧Hid (Sea (ltC cf) x Y m i j)∧Hid (RowQ w0 g (A++([x]++(Y++C))) wr))
 case atStart=>exact⟨m,b,rfl,rfl,rfl,HS0,HR0⟩
 case round=>
  obtain⟨i,j,rfl,rfl,hk,HS,HR⟩:=hrel
  have Hk:Hid _:=hk
  clear hk HS0 HR0 hw1
  have s1:=HS.out.le
  have s2:=HS.out.ij
  have s3:=HS.out.je
  by_cases hij:i<j
  ·obtain⟨h,hh⟩:∃h,h=(i+j) / 2:=⟨_,rfl⟩
   have Hh:Hid (h=(i+j) / 2):=hh
   have hd:((i:Int)+(j:Int)) / 2=(h:Int):=by omega
   have hb':=HBb.out
   have ha':=HA.out
   have hm':=HMm.out
   have hhm:h-m<Y.length:=by omega
   have e1:(A++([x]++(Y++C)))[a]? = some x:=by rw [ha',List.getElem?_append_right (Nat.le_refl _)];simp
   have e2:(A++([x]++(Y++C)))[h]? = some Y[h-m]:=by
    rw [List.getElem?_append_right (by omega)]
    have:h-A.length=(h-m)+1:=by omega
    rw [this]
    show (x::(Y++C))[h-m+1]? = _
    rw [List.getElem?_cons_succ,List.getElem?_append_left hhm,List.getElem?_eq_getElem hhm]
   have Gx:=HGx.out
   have Gy:=HGY.out Y[h-m] (List.getElem_mem hhm)
   obtain⟨⟨p0,p1,p2,p3,p4,p5,p6,p7⟩,_⟩:=HR.out.cells a x e1
   obtain⟨⟨r0,r1,r2,r3,r4,r5,r6,r7⟩,_⟩:=HR.out.cells h Y[h-m] e2
   have HL1:Hid (ltC cf Y[h-m] x=true→Sea (ltC cf) x Y m (h+1) j):=fun hl=>HS.out.less HW.out HY.out h (by omega) (by omega) hhm hl
   have HL2:Hid (ltC cf Y[h-m] x=false→Sea (ltC cf) x Y m i h):=fun hl=>HS.out.more HW.out HY.out h (by omega) (by omega) hhm hl
   have hb0:Below w0.heap.size w0 wr:=HR.out.below
   generalize Y[h-m]=y at *
   obtain⟨⟨pa,pn,pc,sx1⟩,⟨pb,pm,pd,sx2⟩⟩:=GoodQ.slq (d:=d) (W:=w0) (ps:=[x]) (fun p hp=>by rw [List.mem_singleton.1 hp];exact Gx) x (by simp)
   obtain⟨⟨ra,rn,rc,sy1⟩,⟨rb,rm,rd,sy2⟩⟩:=GoodQ.slq (d:=d) (W:=w0) (ps:=[y]) (fun p hp=>by rw [List.mem_singleton.1 hp];exact Gy) y (by simp)
   rw [sx1] at p3;rw [sx2] at p7;rw [sy1] at r3;rw [sy2] at r7
   have HCe:Hid (∀W,Below w0.heap.size w0 W→Calls Tryz.prog f #[.agg #[.int .i64 y.1.1.kind,.int .i64 y.1.1.num,.string y.1.1.text,.slice ra rn rc,.int .i64 y.2.1.kind,.int .i64 y.2.1.num,.string y.2.1.text,.slice rb rm rd],.agg #[.int .i64 x.1.1.kind,.int .i64 x.1.1.num,.string x.1.1.text,.slice pa pn pc,.int .i64 x.2.1.kind,.int .i64 x.2.1.num,.string x.2.1.text,.slice pb pm pd]] W fun e W'=>e=.returned (.int .i64 (cf y x))∧Below W.heap.size W W'):=fun W hW=>by
    have h':=HC.out y x W (Gy.keeps hW) (Gx.keeps hW)
    simp only [encQ,encP,sx1,sx2,sy1,sy2,List.cons_append,List.nil_append] at h'
    exact h'
   have hhl:h<L:=by omega
   have hhi:(h:Int)<(L:Nat):=by omega
   have hai:(a:Int)<(L:Nat):=by omega
   have HZ1:Hid (cf y x<0→Sea (ltC cf) x Y m (h+1) j):=fun hz=>HL1.out (decide_eq_true hz)
   have HZ2:Hid (¬cf y x<0→Sea (ltC cf) x Y m i h):=fun hz=>HL2.out (decide_eq_false hz)
   clear HL1 HL2 Gx Gy sx1 sx2 sy1 sy2 e1 e2 hhm hb' ha' hm' HS s1 s2 s3 hh
   generalize hZ:cf y x=Z at *
   clear hZ
   go_wp2_with fail
   go_region_held3 (fun w'=>(w'.cell? ⟨g,h*8,none⟩=some (.int .i64 y.1.1.kind)∧w'.cell? ⟨g,h*8+1,none⟩=some (.int .i64 y.1.1.num)∧w'.cell? ⟨g,h*8+2,none⟩=some (.string y.1.1.text)∧w'.cell? ⟨g,h*8+3,none⟩=some (.slice ra rn rc)∧w'.cell? ⟨g,h*8+4,none⟩=some (.int .i64 y.2.1.kind)∧w'.cell? ⟨g,h*8+5,none⟩=some (.int .i64 y.2.1.num)∧w'.cell? ⟨g,h*8+6,none⟩=some (.string y.2.1.text)∧w'.cell? ⟨g,h*8+7,none⟩=some (.slice rb rm rd))∧(w'.cell? ⟨g,a*8,none⟩=some (.int .i64 x.1.1.kind)∧w'.cell? ⟨g,a*8+1,none⟩=some (.int .i64 x.1.1.num)∧w'.cell? ⟨g,a*8+2,none⟩=some (.string x.1.1.text)∧w'.cell? ⟨g,a*8+3,none⟩=some (.slice pa pn pc)∧w'.cell? ⟨g,a*8+4,none⟩=some (.int .i64 x.2.1.kind)∧w'.cell? ⟨g,a*8+5,none⟩=some (.int .i64 x.2.1.num)∧w'.cell? ⟨g,a*8+6,none⟩=some (.string x.2.1.text)∧w'.cell? ⟨g,a*8+7,none⟩=some (.slice pb pm pd))) (go_keep)
    (first|(go_at_fn f;refine (HCe.out _ (hb0.trans ((Below.refl _ _).drew.mono hb0.size))).mono ?_;rintro e w1 ⟨rfl,hg1⟩;have hb1:Below wr.heap.size wr w1:=(Below.refl _ _).drew.trans hg1;clear hg1;have p0:=zaa hb1 p0;have p1:=zaa hb1 p1;have p2:=zaa hb1 p2;have p3:=zaa hb1 p3;have p4:=zaa hb1 p4;have p5:=zaa hb1 p5;have p6:=zaa hb1 p6;have p7:=zaa hb1 p7;have r0:=zaa hb1 r0;have r1:=zaa hb1 r1;have r2:=zaa hb1 r2;have r3:=zaa hb1 r3;have r4:=zaa hb1 r4;have r5:=zaa hb1 r5;have r6:=zaa hb1 r6;have r7:=zaa hb1 r7))
   have HR1:Hid (RowQ w0 g (A++([x]++(Y++C))) w1):=HR.out.keeps hb1
   clear p0 p1 p2 p3 p4 p5 p6 p7 r0 r1 r2 r3 r4 r5 r6 r7 HR HCe
   by_cases hz:Z<0
   ·have HN:Hid _:=HZ1.out hz
    clear HZ1 HZ2
    go_wp2_with fail
    go_roundg (j-(h+1))
    case measure=>have:=Hk.out;have:=Hh.out;omega
    case rel=>exact⟨h+1,j,by go_num,rfl,rfl,HN,HR1⟩
   ·have HN:Hid _:=HZ2.out (by omega)
    clear HZ1 HZ2
    go_wp2_with fail
    go_roundg (h-i)
    case measure=>have:=Hk.out;have:=Hh.out;omega
    case rel=>exact⟨i,h,rfl,rfl,rfl,HN,HR1⟩
  ·have hje:j=i:=by omega
   subst hje
   have hb':=HBb.out
   have ha':=HA.out
   have hm':=HMm.out
   obtain⟨Y1,hY1⟩:∃Y1,Y1=Y.take (j-m):=⟨_,rfl⟩
   obtain⟨Y2,hY2⟩:∃Y2,Y2=Y.drop (j-m):=⟨_,rfl⟩
   have hYe:Y1++Y2=Y:=by rw [hY1,hY2];exact List.take_append_drop _ _
   have hl1:Y1.length=j-m:=by rw [hY1,List.length_take];omega
   have q1:∀y∈Y1,ltC cf y x=true:=fun y hy=>by
    rw [hY1] at hy
    obtain⟨k,hk,rfl⟩:=List.mem_iff_getElem.1 hy
    rw [List.length_take] at hk
    rw [List.getElem_take]
    exact HS.out.lo k (by omega) (by omega)
   have q2:∀y∈Y2,ltC cf y x=false:=fun y hy=>by
    rw [hY2] at hy
    obtain⟨k,hk,rfl⟩:=List.mem_iff_getElem.1 hy
    rw [List.length_drop] at hk
    rw [List.getElem_drop]
    exact HS.out.hi _ (by omega) (by omega)
   have HM0:Hid (Mov w0 g a j A x Y1 (Y2++C) wr a [] Y1):=⟨by simp [ha'],by simp,by have:=HR.out;rw [←hYe] at this;simpa using this⟩
   have HFin:Hid (∀W,RowQ w0 g (A++(Y1++(x::(Y2++C)))) W→zac (ltC cf) w0 g A ([x]++Y) C W):=fun W hW=>by
    have ho:=one_left HW.out x Y1 Y2 (by rw [hYe];exact HY.out) q1 q2
    refine⟨Y1++(x::Y2),by rw [←hYe];simp;omega,fun z hz=>?_,ho.1,by have:=ho.2;rwa [hYe] at this,by simpa using hW⟩
    rw [←hYe]
    simp at hz ⊢
    rcases hz with hz|hz|hz <;> simp [hz]
   have HG1:Hid (∀y∈Y1,GoodQ d w0 y):=fun y hy=>HGY.out y (by rw [←hYe];simp [hy])
   have Hl1:Hid (Y1.length=j-m):=hl1
   obtain⟨E,hE⟩:∃E,E=j-1:=⟨_,rfl⟩
   have HE:Hid (E=j-1):=hE
   have hwE:IntKind.i64.wrap ((j:Int)-1)=(E:Int):=by rw [IntKind.wrap_i64];omega
   have hEL:E<L:=by omega
   have HEn:Hid (E=A.length+Y1.length):=by show _=_;omega
   clear HS HR hYe hl1 hY1 hY2 q1 q2 hb' ha' hm' s1 s2 s3 hE hij HC HGY HY HW
   go_wp2_with fail
   go_loopg [13] Y1.length (fun z vk wr=>∃(k:Nat) (P Q:List PP),vk=.int .i64 (k:Int)∧z=Q.length∧Hid (Mov w0 g a j A x Y1 (Y2++C) wr k P Q))
   case atStart=>exact⟨a,[],Y1,rfl,rfl,HM0⟩
   case round=>
    obtain⟨k,P,Q,rfl,hk2,HM⟩:=hrel
    have Hk2:Hid _:=hk2
    clear hk2 HM0
    have hek:=HM.out.ek
    have hpq:P.length+Q.length=Y1.length:=by rw [←HM.out.eq];simp
    have hEn:=HEn.out
    cases Q with
    | nil=>
     have hkE : ¬((k:Int)<(E:Int)):=by simp at hpq;omega
     have HF:Hid (zac (ltC cf) w0 g A ([x]++Y) C wr):=HFin.out wr (by have:=HM.out.row;have e:=HM.out.eq;rw [List.append_nil] at e;rw [e] at this;simpa using this)
     clear HM HFin hek hpq hEn
     go_wp2_with fail
     exact bodyPost_ret (v:=.tuple #[]) (by simp [results,Tryz.results121,go_sem]) rfl ⟨rfl,HF.out⟩
    | cons y Q'=>
     have hkE:(k:Int)<(E:Int):=by simp at hpq;omega
     obtain⟨K,hK⟩:∃K,K=k+1:=⟨_,rfl⟩
     have hwK:IntKind.i64.wrap ((k:Int)+1)=(K:Int):=by rw [IntKind.wrap_i64];omega
     have e1:(A++(P++(x::((y::Q')++(Y2++C)))))[k]? = some x:=by
      have:A++(P++(x::((y::Q')++(Y2++C))))=(A++P)++(x::((y::Q')++(Y2++C))):=by simp
      rw [this,List.getElem?_append_right (by simp;omega)]
      have:k-(A++P).length=0:=by simp;omega
      rw [this];rfl
     have e2:(A++(P++(x::((y::Q')++(Y2++C)))))[K]? = some y:=by
      have:A++(P++(x::((y::Q')++(Y2++C))))=(A++P)++(x::((y::Q')++(Y2++C))):=by simp
      rw [this,List.getElem?_append_right (by simp;omega)]
      have:K-(A++P).length=1:=by simp;omega
      rw [this];rfl
     have Gx:=HGx.out
     have Gy:=HG1.out y (by rw [←HM.out.eq];simp)
     obtain⟨⟨p0,p1,p2,p3,p4,p5,p6,p7⟩,⟨f0,f1,f2,f3,f4,f5,f6,f7⟩⟩:=HM.out.row.cells k x e1
     obtain⟨⟨r0,r1,r2,r3,r4,r5,r6,r7⟩,⟨z0,z1,z2,z3,z4,z5,z6,z7⟩⟩:=HM.out.row.cells K y e2
     obtain⟨⟨pa,pn,pc,sx1⟩,⟨pb,pm,pd,sx2⟩⟩:=GoodQ.slq (d:=d) (W:=w0) (ps:=[x]) (fun p hp=>by rw [List.mem_singleton.1 hp];exact Gx) x (by simp)
     obtain⟨⟨ra,rn,rc,sy1⟩,⟨rb,rm,rd,sy2⟩⟩:=GoodQ.slq (d:=d) (W:=w0) (ps:=[y]) (fun p hp=>by rw [List.mem_singleton.1 hp];exact Gy) y (by simp)
     have HSt:Hid (Mov w0 g a j A x Y1 (Y2++C) ((wr.setCells g (k*8) [.int .i64 y.1.1.kind,.int .i64 y.1.1.num,.string y.1.1.text,.slice ra rn rc,.int .i64 y.2.1.kind,.int .i64 y.2.1.num,.string y.2.1.text,.slice rb rm rd]).setCells g (K*8) [.int .i64 x.1.1.kind,.int .i64 x.1.1.num,.string x.1.1.text,.slice pa pn pc,.int .i64 x.2.1.kind,.int .i64 x.2.1.num,.string x.2.1.text,.slice pb pm pd]).drew K (P++[y]) Q'):=by
      have h1:=(HM.out.row.swp hg k K x y e1 e2).keeps (Grew.refl _).drew.below
      simp only [encQ,encP,sx1,sx2,sy1,sy2,List.cons_append,List.nil_append] at h1
      rw [hK] at h1 ⊢
      exact HM.out.step (by simpa using h1)
     rw [sx1] at p3;rw [sx2] at p7;rw [sy1] at r3;rw [sy2] at r7
     have hki:(k:Int)<(L:Nat):=by omega
     have hKi:(K:Int)<(L:Nat):=by simp at hpq;omega
     have n00 : ¬(K*8=k*8):=by omega
     have n01 : ¬(K*8=k*8+1):=by omega
     have n02 : ¬(K*8=k*8+2):=by omega
     have n03 : ¬(K*8=k*8+3):=by omega
     have n04 : ¬(K*8=k*8+4):=by omega
     have n05 : ¬(K*8=k*8+5):=by omega
     have n06 : ¬(K*8=k*8+6):=by omega
     have n07 : ¬(K*8=k*8+7):=by omega
     have n10 : ¬(K*8+1=k*8):=by omega
     have n11 : ¬(K*8+1=k*8+1):=by omega
     have n12 : ¬(K*8+1=k*8+2):=by omega
     have n13 : ¬(K*8+1=k*8+3):=by omega
     have n14 : ¬(K*8+1=k*8+4):=by omega
     have n15 : ¬(K*8+1=k*8+5):=by omega
     have n16 : ¬(K*8+1=k*8+6):=by omega
     have n17 : ¬(K*8+1=k*8+7):=by omega
     have n20 : ¬(K*8+2=k*8):=by omega
     have n21 : ¬(K*8+2=k*8+1):=by omega
     have n22 : ¬(K*8+2=k*8+2):=by omega
     have n23 : ¬(K*8+2=k*8+3):=by omega
     have n24 : ¬(K*8+2=k*8+4):=by omega
     have n25 : ¬(K*8+2=k*8+5):=by omega
     have n26 : ¬(K*8+2=k*8+6):=by omega
     have n27 : ¬(K*8+2=k*8+7):=by omega
     have n30 : ¬(K*8+3=k*8):=by omega
     have n31 : ¬(K*8+3=k*8+1):=by omega
     have n32 : ¬(K*8+3=k*8+2):=by omega
     have n33 : ¬(K*8+3=k*8+3):=by omega
     have n34 : ¬(K*8+3=k*8+4):=by omega
     have n35 : ¬(K*8+3=k*8+5):=by omega
     have n36 : ¬(K*8+3=k*8+6):=by omega
     have n37 : ¬(K*8+3=k*8+7):=by omega
     have n40 : ¬(K*8+4=k*8):=by omega
     have n41 : ¬(K*8+4=k*8+1):=by omega
     have n42 : ¬(K*8+4=k*8+2):=by omega
     have n43 : ¬(K*8+4=k*8+3):=by omega
     have n44 : ¬(K*8+4=k*8+4):=by omega
     have n45 : ¬(K*8+4=k*8+5):=by omega
     have n46 : ¬(K*8+4=k*8+6):=by omega
     have n47 : ¬(K*8+4=k*8+7):=by omega
     have n50 : ¬(K*8+5=k*8):=by omega
     have n51 : ¬(K*8+5=k*8+1):=by omega
     have n52 : ¬(K*8+5=k*8+2):=by omega
     have n53 : ¬(K*8+5=k*8+3):=by omega
     have n54 : ¬(K*8+5=k*8+4):=by omega
     have n55 : ¬(K*8+5=k*8+5):=by omega
     have n56 : ¬(K*8+5=k*8+6):=by omega
     have n57 : ¬(K*8+5=k*8+7):=by omega
     have n60 : ¬(K*8+6=k*8):=by omega
     have n61 : ¬(K*8+6=k*8+1):=by omega
     have n62 : ¬(K*8+6=k*8+2):=by omega
     have n63 : ¬(K*8+6=k*8+3):=by omega
     have n64 : ¬(K*8+6=k*8+4):=by omega
     have n65 : ¬(K*8+6=k*8+5):=by omega
     have n66 : ¬(K*8+6=k*8+6):=by omega
     have n67 : ¬(K*8+6=k*8+7):=by omega
     have n70 : ¬(K*8+7=k*8):=by omega
     have n71 : ¬(K*8+7=k*8+1):=by omega
     have n72 : ¬(K*8+7=k*8+2):=by omega
     have n73 : ¬(K*8+7=k*8+3):=by omega
     have n74 : ¬(K*8+7=k*8+4):=by omega
     have n75 : ¬(K*8+7=k*8+5):=by omega
     have n76 : ¬(K*8+7=k*8+6):=by omega
     have n77 : ¬(K*8+7=k*8+7):=by omega
     clear HM Gx Gy sx1 sx2 sy1 sy2 e1 e2 hek hpq hEn hK
     go_wp2_with fail
     go_region
     clear p0 p1 p2 p3 p4 p5 p6 p7 r0 r1 r2 r3 r4 r5 r6 r7 f0 f1 f2 f3 f4 f5 f6 f7 z0 z1 z2 z3 z4 z5 z6 z7 n00 n01 n02 n03 n04 n05 n06 n07 n10 n11 n12 n13 n14 n15 n16 n17 n20 n21 n22 n23 n24 n25 n26 n27 n30 n31 n32 n33 n34 n35 n36 n37 n40 n41 n42 n43 n44 n45 n46 n47 n50 n51 n52 n53 n54 n55 n56 n57 n60 n61 n62 n63 n64 n65 n66 n67 n70 n71 n72 n73 n74 n75 n76 n77
     simp only [World.setCells] at HSt
     go_wp2_with fail
     go_roundg Q'.length
     case measure=>have:=Hk2.out;simp at this;omega
     case rel=>exact⟨K,P++[y],Q',rfl,rfl,HSt⟩
structure Seb (lt:PP→PP→Bool) (y:PP) (X:List PP) (a i j:Nat):Prop where
 le:a≤i
 ij:i≤j
 je:j≤a+X.length
 lo:∀k (h:k<X.length),k+a<i→lt y X[k]=false
 hi:∀k (h:k<X.length),j≤k+a→lt y X[k]=true
theorem Seb.less {lt:PP→PP→Bool} (hw:Weak lt) {y:PP} {X:List PP} {a i j:Nat} (hX:Up lt X) (s:Seb lt y X a i j) (h:Nat) (h1:i≤h) (h2:h<j) (hk:h-a<X.length) (hl:lt y X[h-a]=false):Seb lt y X a (h+1) j:=by
 have:=s.le
 refine⟨by omega,by omega,s.je,fun k hkk hlt=>?_,s.hi⟩
 exact hw.tr _ _ _ (up_get hw hX k (h-a) (by omega) hk) hl
theorem Seb.more {lt:PP→PP→Bool} (hw:Weak lt) {y:PP} {X:List PP} {a i j:Nat} (hX:Up lt X) (s:Seb lt y X a i j) (h:Nat) (h1:i≤h) (h2:h<j) (hk:h-a<X.length) (hl:lt y X[h-a]=true):Seb lt y X a i h:=by
 have:=s.le
 have:=s.je
 refine⟨s.le,h1,by omega,s.lo,fun k hkk hlt=>?_⟩
 exact hw.lt_tr hl (up_get hw hX (h-a) k (by omega) hkk)
structure Mow (w0:World) (g:Nat) (A:List PP) (y:PP) (X2 R:List PP) (wr:World) (k:Nat) (P Q:List PP):Prop where
 ek:k=A.length+P.length
 eq:P++Q=X2
 row:RowQ w0 g (A++(P++(y::(Q++R)))) wr
theorem Mow.step {w0:World} {g:Nat} {A:List PP} {y:PP} {X2 R:List PP} {wr:World} {k:Nat} {P Q:List PP} {q:PP} (h:Mow w0 g A y X2 R wr k (P++[q]) Q) {W:World} (hR:RowQ w0 g (swp2 (A++((P++[q])++(y::(Q++R)))) k (k-1)) W):Mow w0 g A y X2 R W (k-1) P (q::Q):=by
 have hek:=h.ek
 simp at hek
 refine⟨by omega,by rw [←h.eq];simp,?_⟩
 have e:A++((P++[q])++(y::(Q++R)))=(A++P)++(q::([]++(y::(Q++R)))):=by simp
 have e1:k=(A++P).length+1+([]:List PP).length:=by simp;omega
 have e2:k-1=(A++P).length:=by simp;omega
 rw [e,e2,e1,swp2_turn] at hR
 simpa using hR
theorem sym_right (f d:Nat) (eg:∀args w,(callFunc f args).run Tryz.prog w=.ok (.enter f args) w) (cf:PP→PP→Int) (hc:CmpQ f (GoodQ d) cf) (hwk:Weak (ltC cf)) (w0:World) (g cap a m b L:Nat) (A X:List PP) (y:PP) (C:List PP) (w:World) (hg:w0.heap.size≤g) (ha:a=A.length) (hm:m=a+X.length) (hb:b=m+1) (hX1:X.length≠1) (hL:L=(A++(X++([y]++C))).length) (hR:RowQ w0 g (A++(X++([y]++C))) w) (hG:∀p∈A++(X++([y]++C)),GoodQ d w0 p) (hX:Up (ltC cf) X) (hlen:L≤65536) :
 Calls Tryz.prog 121 #[.slice (some ⟨g,0,none⟩) L cap,.int .i64 a,.int .i64 m,.int .i64 b,.func (.func f) #[] #[]] w fun e w'=>e=.returned (.tuple #[])∧zac (ltC cf) w0 g A (X++[y]) C w':=by
 have HC:Hid (CmpQ f (GoodQ d) cf):=hc
 have HW:Hid (Weak (ltC cf)):=hwk
 have HX:Hid (Up (ltC cf) X):=hX
 have HGy:Hid (GoodQ d w0 y):=hG y (by simp)
 have HGX:Hid (∀x∈X,GoodQ d w0 x):=fun x hx=>hG x (by simp [hx])
 have HA:Hid (a=A.length):=ha
 have HMm:Hid (m=a+X.length):=hm
 have HLl:Hid (b≤L):=by show _≤_;rw [hb,hL,hm,ha];simp;omega
 have hbL:b≤L:=HLl.out
 have hmb:m<b:=by omega
 have ham:a≤m:=by omega
 obtain⟨D,hD⟩:∃D,D=m-a:=⟨_,rfl⟩
 have hw0:IntKind.i64.wrap ((m:Int)-(a:Int))=(D:Int):=by rw [IntKind.wrap_i64];omega
 have hD1 : ¬(D:Int)=1:=by omega
 have hD2 : ¬D=1:=by omega
 have hD3:((D:Int)==1)=false:=by simpa using hD1
 have hw1:IntKind.i64.wrap ((b:Int)-(m:Int))=1:=by rw [IntKind.wrap_i64];omega
 have HS0:Hid (Seb (ltC cf) y X a a m):=⟨Nat.le_refl _,ham,by omega,(fun k _ h=>by omega),(fun k hk h=>by omega)⟩
 have HR0:Hid (RowQ w0 g (A++(X++([y]++C))) w):=hR
 clear hc hwk hX hG ha hm hb hL hR hX1 hD
 go_enter Tryz.func121,Tryz.ntmps121
 go_wp2_with fail
 go_loopg [14,15] (m-a) (fun z vi vj wr=>∃(i j:Nat),vi=.int .i64 (i:Int)∧vj=.int .i64 (j:Int)∧z=j-i∧Hid (Seb (ltC cf) y X a i j)∧Hid (RowQ w0 g (A++(X++([y]++C))) wr))
 case atStart=>exact⟨a,m,rfl,rfl,rfl,HS0,HR0⟩
 case round=>
  obtain⟨i,j,rfl,rfl,hk,HS,HR⟩:=hrel
  have Hk:Hid _:=hk
  clear hk HS0 HR0 hw1 hw0 hD1 hD2 hD3
  have s1:=HS.out.le
  have s2:=HS.out.ij
  have s3:=HS.out.je
  by_cases hij:i<j
  ·obtain⟨h,hh⟩:∃h,h=(i+j) / 2:=⟨_,rfl⟩
   have Hh:Hid (h=(i+j) / 2):=hh
   have hd:((i:Int)+(j:Int)) / 2=(h:Int):=by omega
   have ha':=HA.out
   have hm':=HMm.out
   have hhm:h-a<X.length:=by omega
   have e1:(A++(X++([y]++C)))[m]? = some y:=by
    rw [List.getElem?_append_right (by omega),List.getElem?_append_right (by omega)]
    have:m-A.length-X.length=0:=by omega
    rw [this];rfl
   have e2:(A++(X++([y]++C)))[h]? = some X[h-a]:=by
    rw [List.getElem?_append_right (by omega)]
    have:h-A.length=h-a:=by omega
    rw [this,List.getElem?_append_left hhm,List.getElem?_eq_getElem hhm]
   have Gy:=HGy.out
   have Gx:=HGX.out X[h-a] (List.getElem_mem hhm)
   obtain⟨⟨r0,r1,r2,r3,r4,r5,r6,r7⟩,_⟩:=HR.out.cells m y e1
   obtain⟨⟨p0,p1,p2,p3,p4,p5,p6,p7⟩,_⟩:=HR.out.cells h X[h-a] e2
   have HL1:Hid (ltC cf y X[h-a]=false→Seb (ltC cf) y X a (h+1) j):=fun hl=>HS.out.less HW.out HX.out h (by omega) (by omega) hhm hl
   have HL2:Hid (ltC cf y X[h-a]=true→Seb (ltC cf) y X a i h):=fun hl=>HS.out.more HW.out HX.out h (by omega) (by omega) hhm hl
   have hb0:Below w0.heap.size w0 wr:=HR.out.below
   generalize X[h-a]=x at *
   obtain⟨⟨pa,pn,pc,sx1⟩,⟨pb,pm,pd,sx2⟩⟩:=GoodQ.slq (d:=d) (W:=w0) (ps:=[x]) (fun p hp=>by rw [List.mem_singleton.1 hp];exact Gx) x (by simp)
   obtain⟨⟨ra,rn,rc,sy1⟩,⟨rb,rm,rd,sy2⟩⟩:=GoodQ.slq (d:=d) (W:=w0) (ps:=[y]) (fun p hp=>by rw [List.mem_singleton.1 hp];exact Gy) y (by simp)
   rw [sx1] at p3;rw [sx2] at p7;rw [sy1] at r3;rw [sy2] at r7
   have HCe:Hid (∀W,Below w0.heap.size w0 W→Calls Tryz.prog f #[.agg #[.int .i64 y.1.1.kind,.int .i64 y.1.1.num,.string y.1.1.text,.slice ra rn rc,.int .i64 y.2.1.kind,.int .i64 y.2.1.num,.string y.2.1.text,.slice rb rm rd],.agg #[.int .i64 x.1.1.kind,.int .i64 x.1.1.num,.string x.1.1.text,.slice pa pn pc,.int .i64 x.2.1.kind,.int .i64 x.2.1.num,.string x.2.1.text,.slice pb pm pd]] W fun e W'=>e=.returned (.int .i64 (cf y x))∧Below W.heap.size W W'):=fun W hW=>by
    have h':=HC.out y x W (Gy.keeps hW) (Gx.keeps hW)
    simp only [encQ,encP,sx1,sx2,sy1,sy2,List.cons_append,List.nil_append] at h'
    exact h'
   have hhl:h<L:=by omega
   have hhi:(h:Int)<(L:Nat):=by omega
   have hmi:(m:Int)<(L:Nat):=by omega
   have HZ1:Hid (¬cf y x<0→Seb (ltC cf) y X a (h+1) j):=fun hz=>HL1.out (decide_eq_false hz)
   have HZ2:Hid (cf y x<0→Seb (ltC cf) y X a i h):=fun hz=>HL2.out (decide_eq_true hz)
   clear HL1 HL2 Gx Gy sx1 sx2 sy1 sy2 e1 e2 hhm ha' hm' HS s1 s2 s3 hh
   generalize hZ:cf y x=Z at *
   clear hZ
   go_wp2_with fail
   go_region_held3 (fun w'=>(w'.cell? ⟨g,m*8,none⟩=some (.int .i64 y.1.1.kind)∧w'.cell? ⟨g,m*8+1,none⟩=some (.int .i64 y.1.1.num)∧w'.cell? ⟨g,m*8+2,none⟩=some (.string y.1.1.text)∧w'.cell? ⟨g,m*8+3,none⟩=some (.slice ra rn rc)∧w'.cell? ⟨g,m*8+4,none⟩=some (.int .i64 y.2.1.kind)∧w'.cell? ⟨g,m*8+5,none⟩=some (.int .i64 y.2.1.num)∧w'.cell? ⟨g,m*8+6,none⟩=some (.string y.2.1.text)∧w'.cell? ⟨g,m*8+7,none⟩=some (.slice rb rm rd))∧(w'.cell? ⟨g,h*8,none⟩=some (.int .i64 x.1.1.kind)∧w'.cell? ⟨g,h*8+1,none⟩=some (.int .i64 x.1.1.num)∧w'.cell? ⟨g,h*8+2,none⟩=some (.string x.1.1.text)∧w'.cell? ⟨g,h*8+3,none⟩=some (.slice pa pn pc)∧w'.cell? ⟨g,h*8+4,none⟩=some (.int .i64 x.2.1.kind)∧w'.cell? ⟨g,h*8+5,none⟩=some (.int .i64 x.2.1.num)∧w'.cell? ⟨g,h*8+6,none⟩=some (.string x.2.1.text)∧w'.cell? ⟨g,h*8+7,none⟩=some (.slice pb pm pd))) (go_keep)
    (first|(go_at_fn f;refine (HCe.out _ (hb0.trans ((Below.refl _ _).drew.mono hb0.size))).mono ?_;rintro e w1 ⟨rfl,hg1⟩;have hb1:Below wr.heap.size wr w1:=(Below.refl _ _).drew.trans hg1;clear hg1;have p0:=zaa hb1 p0;have p1:=zaa hb1 p1;have p2:=zaa hb1 p2;have p3:=zaa hb1 p3;have p4:=zaa hb1 p4;have p5:=zaa hb1 p5;have p6:=zaa hb1 p6;have p7:=zaa hb1 p7;have r0:=zaa hb1 r0;have r1:=zaa hb1 r1;have r2:=zaa hb1 r2;have r3:=zaa hb1 r3;have r4:=zaa hb1 r4;have r5:=zaa hb1 r5;have r6:=zaa hb1 r6;have r7:=zaa hb1 r7))
   have HR1:Hid (RowQ w0 g (A++(X++([y]++C))) w1):=HR.out.keeps hb1
   clear p0 p1 p2 p3 p4 p5 p6 p7 r0 r1 r2 r3 r4 r5 r6 r7 HR HCe
   by_cases hz:Z<0
   ·have HN:Hid _:=HZ2.out hz
    have hzd:decide (Z<0)=true:=decide_eq_true hz
    have hze:(!decide (Z<0))=false:=by rw [hzd];rfl
    clear HZ1 HZ2
    go_wp2_with fail
    ·exact absurd ‹(!decide (Z<0))=true› (by rw [hze];simp)
    ·go_roundg (h-i)
     case measure=>have:=Hk.out;have:=Hh.out;omega
     case rel=>exact⟨i,h,rfl,rfl,rfl,HN,HR1⟩
   ·have HN:Hid _:=HZ1.out (by omega)
    have hze:(!decide (Z<0))=true:=by rw [decide_eq_false hz];rfl
    clear HZ1 HZ2
    go_wp2_with fail
    ·go_roundg (j-(h+1))
     case measure=>have:=Hk.out;have:=Hh.out;omega
     case rel=>exact⟨h+1,j,by go_num,rfl,rfl,HN,HR1⟩
    ·exact absurd ‹(!decide (Z<0))=false› (by rw [hze];simp)
  ·have hje:j=i:=by omega
   subst hje
   have ha':=HA.out
   have hm':=HMm.out
   obtain⟨X1,hX1⟩:∃X1,X1=X.take (j-a):=⟨_,rfl⟩
   obtain⟨X2,hX2⟩:∃X2,X2=X.drop (j-a):=⟨_,rfl⟩
   have hXe:X1++X2=X:=by rw [hX1,hX2];exact List.take_append_drop _ _
   have hl1:X1.length=j-a:=by rw [hX1,List.length_take];omega
   have hl2:X1.length+X2.length=X.length:=by rw [←hXe];simp
   have q1:∀x∈X1,ltC cf y x=false:=fun x hx=>by
    rw [hX1] at hx
    obtain⟨k,hk,rfl⟩:=List.mem_iff_getElem.1 hx
    rw [List.length_take] at hk
    rw [List.getElem_take]
    exact HS.out.lo k (by omega) (by omega)
   have q2:∀x∈X2,ltC cf y x=true:=fun x hx=>by
    rw [hX2] at hx
    obtain⟨k,hk,rfl⟩:=List.mem_iff_getElem.1 hx
    rw [List.length_drop] at hk
    rw [List.getElem_drop]
    exact HS.out.hi _ (by omega) (by omega)
   have HM0:Hid (Mow w0 g (A++X1) y X2 C wr m X2 []):=⟨by simp;omega,by simp,by have:=HR.out;rw [←hXe] at this;simpa using this⟩
   have HFin:Hid (∀W,RowQ w0 g ((A++X1)++(y::(X2++C))) W→zac (ltC cf) w0 g A (X++[y]) C W):=fun W hW=>by
    have ho:=one_right HW.out y X1 X2 (by rw [hXe];exact HX.out) q1 q2
    refine⟨X1++(y::X2),by rw [←hXe];simp,fun z hz=>?_,ho.1,by have:=ho.2;rwa [hXe] at this,by simpa using hW⟩
    rw [←hXe]
    simp at hz ⊢
    rcases hz with hz|hz|hz <;> simp [hz]
   have HG2:Hid (∀x∈X2,GoodQ d w0 x):=fun x hx=>HGX.out x (by rw [←hXe];simp [hx])
   have HEn:Hid (j=(A++X1).length):=by show _=_;simp;omega
   have HEm:Hid (m=(A++X1).length+X2.length):=by show _=_;simp;omega
   generalize A++X1=B at *
   clear HS HR hXe hl1 hl2 hX1 hX2 q1 q2 ha' hm' s1 s2 s3 hij HC HGX HX HW
   go_wp2_with fail
   go_loopg [17] X2.length (fun z vk wr=>∃(k:Nat) (P Q:List PP),vk=.int .i64 (k:Int)∧z=P.length∧Hid (Mow w0 g B y X2 C wr k P Q))
   case atStart=>exact⟨m,X2,[],rfl,rfl,HM0⟩
   case round=>
    obtain⟨k,P,Q,rfl,hk2,HM⟩:=hrel
    have Hk2:Hid _:=hk2
    clear hk2 HM0
    have hek:=HM.out.ek
    have hpq:P.length+Q.length=X2.length:=by rw [←HM.out.eq];simp
    have hEn:=HEn.out
    have hEm:=HEm.out
    rcases List.eq_nil_or_concat P with hP|⟨P',x,hP⟩
    ·subst hP
     have hkE : ¬((j:Int)<(k:Int)):=by simp at hek;omega
     have HF:Hid (zac (ltC cf) w0 g A (X++[y]) C wr):=HFin.out wr (by have:=HM.out.row;have e:=HM.out.eq;rw [List.nil_append] at e;rw [e] at this;simpa using this)
     clear HM HFin hek hpq hEn hEm
     go_wp2_with fail
     exact bodyPost_ret (v:=.tuple #[]) (by simp [results,Tryz.results121,go_sem]) rfl ⟨rfl,HF.out⟩
    ·rw [List.concat_eq_append] at hP
     subst hP
     simp only [List.length_append,List.length_singleton] at hek hpq
     have hkE:(j:Int)<(k:Int):=by omega
     obtain⟨K,hK⟩:∃K,K=k-1:=⟨_,rfl⟩
     have hwK:IntKind.i64.wrap ((k:Int)-1)=(K:Int):=by rw [IntKind.wrap_i64];omega
     have e1:(B++((P'++[x])++(y::(Q++C))))[k]? = some y:=by
      have:B++((P'++[x])++(y::(Q++C)))=(B++(P'++[x]))++(y::(Q++C)):=by simp
      rw [this,List.getElem?_append_right (by simp;omega)]
      have:k-(B++(P'++[x])).length=0:=by simp;omega
      rw [this];rfl
     have e2:(B++((P'++[x])++(y::(Q++C))))[K]? = some x:=by
      have:B++((P'++[x])++(y::(Q++C)))=(B++P')++(x::(y::(Q++C))):=by simp
      rw [this,List.getElem?_append_right (by simp;omega)]
      have:K-(B++P').length=0:=by simp;omega
      rw [this];rfl
     have Gy:=HGy.out
     have Gx:=HG2.out x (by rw [←HM.out.eq];simp)
     obtain⟨⟨r0,r1,r2,r3,r4,r5,r6,r7⟩,⟨z0,z1,z2,z3,z4,z5,z6,z7⟩⟩:=HM.out.row.cells k y e1
     obtain⟨⟨p0,p1,p2,p3,p4,p5,p6,p7⟩,⟨f0,f1,f2,f3,f4,f5,f6,f7⟩⟩:=HM.out.row.cells K x e2
     obtain⟨⟨pa,pn,pc,sx1⟩,⟨pb,pm,pd,sx2⟩⟩:=GoodQ.slq (d:=d) (W:=w0) (ps:=[x]) (fun p hp=>by rw [List.mem_singleton.1 hp];exact Gx) x (by simp)
     obtain⟨⟨ra,rn,rc,sy1⟩,⟨rb,rm,rd,sy2⟩⟩:=GoodQ.slq (d:=d) (W:=w0) (ps:=[y]) (fun p hp=>by rw [List.mem_singleton.1 hp];exact Gy) y (by simp)
     have HSt:Hid (Mow w0 g B y X2 C ((wr.setCells g (k*8) [.int .i64 x.1.1.kind,.int .i64 x.1.1.num,.string x.1.1.text,.slice pa pn pc,.int .i64 x.2.1.kind,.int .i64 x.2.1.num,.string x.2.1.text,.slice pb pm pd]).setCells g (K*8) [.int .i64 y.1.1.kind,.int .i64 y.1.1.num,.string y.1.1.text,.slice ra rn rc,.int .i64 y.2.1.kind,.int .i64 y.2.1.num,.string y.2.1.text,.slice rb rm rd]).drew K P' (x::Q)):=by
      have h1:=(HM.out.row.swp hg k K y x e1 e2).keeps (Grew.refl _).drew.below
      simp only [encQ,encP,sx1,sx2,sy1,sy2,List.cons_append,List.nil_append] at h1
      rw [hK] at h1 ⊢
      exact HM.out.step (by simpa using h1)
     rw [sx1] at p3;rw [sx2] at p7;rw [sy1] at r3;rw [sy2] at r7
     have hki:(k:Int)<(L:Nat):=by omega
     have hKi:(K:Int)<(L:Nat):=by omega
     have n00 : ¬(K*8=k*8):=by omega
     have n01 : ¬(K*8=k*8+1):=by omega
     have n02 : ¬(K*8=k*8+2):=by omega
     have n03 : ¬(K*8=k*8+3):=by omega
     have n04 : ¬(K*8=k*8+4):=by omega
     have n05 : ¬(K*8=k*8+5):=by omega
     have n06 : ¬(K*8=k*8+6):=by omega
     have n07 : ¬(K*8=k*8+7):=by omega
     have n10 : ¬(K*8+1=k*8):=by omega
     have n11 : ¬(K*8+1=k*8+1):=by omega
     have n12 : ¬(K*8+1=k*8+2):=by omega
     have n13 : ¬(K*8+1=k*8+3):=by omega
     have n14 : ¬(K*8+1=k*8+4):=by omega
     have n15 : ¬(K*8+1=k*8+5):=by omega
     have n16 : ¬(K*8+1=k*8+6):=by omega
     have n17 : ¬(K*8+1=k*8+7):=by omega
     have n20 : ¬(K*8+2=k*8):=by omega
     have n21 : ¬(K*8+2=k*8+1):=by omega
     have n22 : ¬(K*8+2=k*8+2):=by omega
     have n23 : ¬(K*8+2=k*8+3):=by omega
     have n24 : ¬(K*8+2=k*8+4):=by omega
     have n25 : ¬(K*8+2=k*8+5):=by omega
     have n26 : ¬(K*8+2=k*8+6):=by omega
     have n27 : ¬(K*8+2=k*8+7):=by omega
     have n30 : ¬(K*8+3=k*8):=by omega
     have n31 : ¬(K*8+3=k*8+1):=by omega
     have n32 : ¬(K*8+3=k*8+2):=by omega
     have n33 : ¬(K*8+3=k*8+3):=by omega
     have n34 : ¬(K*8+3=k*8+4):=by omega
     have n35 : ¬(K*8+3=k*8+5):=by omega
     have n36 : ¬(K*8+3=k*8+6):=by omega
     have n37 : ¬(K*8+3=k*8+7):=by omega
     have n40 : ¬(K*8+4=k*8):=by omega
     have n41 : ¬(K*8+4=k*8+1):=by omega
     have n42 : ¬(K*8+4=k*8+2):=by omega
     have n43 : ¬(K*8+4=k*8+3):=by omega
     have n44 : ¬(K*8+4=k*8+4):=by omega
     have n45 : ¬(K*8+4=k*8+5):=by omega
     have n46 : ¬(K*8+4=k*8+6):=by omega
     have n47 : ¬(K*8+4=k*8+7):=by omega
     have n50 : ¬(K*8+5=k*8):=by omega
     have n51 : ¬(K*8+5=k*8+1):=by omega
     have n52 : ¬(K*8+5=k*8+2):=by omega
     have n53 : ¬(K*8+5=k*8+3):=by omega
     have n54 : ¬(K*8+5=k*8+4):=by omega
     have n55 : ¬(K*8+5=k*8+5):=by omega
     have n56 : ¬(K*8+5=k*8+6):=by omega
     have n57 : ¬(K*8+5=k*8+7):=by omega
     have n60 : ¬(K*8+6=k*8):=by omega
     have n61 : ¬(K*8+6=k*8+1):=by omega
     have n62 : ¬(K*8+6=k*8+2):=by omega
     have n63 : ¬(K*8+6=k*8+3):=by omega
     have n64 : ¬(K*8+6=k*8+4):=by omega
     have n65 : ¬(K*8+6=k*8+5):=by omega
     have n66 : ¬(K*8+6=k*8+6):=by omega
     have n67 : ¬(K*8+6=k*8+7):=by omega
     have n70 : ¬(K*8+7=k*8):=by omega
     have n71 : ¬(K*8+7=k*8+1):=by omega
     have n72 : ¬(K*8+7=k*8+2):=by omega
     have n73 : ¬(K*8+7=k*8+3):=by omega
     have n74 : ¬(K*8+7=k*8+4):=by omega
     have n75 : ¬(K*8+7=k*8+5):=by omega
     have n76 : ¬(K*8+7=k*8+6):=by omega
     have n77 : ¬(K*8+7=k*8+7):=by omega
     clear HM Gx Gy sx1 sx2 sy1 sy2 e1 e2 hek hpq hEn hEm hK
     go_wp2_with fail
     go_region
     clear p0 p1 p2 p3 p4 p5 p6 p7 r0 r1 r2 r3 r4 r5 r6 r7 f0 f1 f2 f3 f4 f5 f6 f7 z0 z1 z2 z3 z4 z5 z6 z7 n00 n01 n02 n03 n04 n05 n06 n07 n10 n11 n12 n13 n14 n15 n16 n17 n20 n21 n22 n23 n24 n25 n26 n27 n30 n31 n32 n33 n34 n35 n36 n37 n40 n41 n42 n43 n44 n45 n46 n47 n50 n51 n52 n53 n54 n55 n56 n57 n60 n61 n62 n63 n64 n65 n66 n67 n70 n71 n72 n73 n74 n75 n76 n77
     simp only [World.setCells] at HSt
     go_wp2_with fail
     go_roundg P'.length
     case measure=>have:=Hk2.out;simp at this;omega
     case rel=>exact⟨K,P',x::Q,rfl,rfl,HSt⟩
theorem sym_gen (f d:Nat) (eg:∀args w,(callFunc f args).run Tryz.prog w=.ok (.enter f args) w) (cf:PP→PP→Int) (hc:CmpQ f (GoodQ d) cf) (hwk:Weak (ltC cf)) (w0:World) (g cap a m b L:Nat) (A X Y C:List PP) (w:World) (hg:w0.heap.size≤g) (ha:a=A.length) (hm:m=a+X.length) (hb:b=m+Y.length) (hX2:2≤X.length) (hY2:2≤Y.length) (hL:L=(A++(X++(Y++C))).length) (hR:RowQ w0 g (A++(X++(Y++C))) w) (hG:∀p∈A++(X++(Y++C)),GoodQ d w0 p) (hX:Up (ltC cf) X) (hY:Up (ltC cf) Y) (hlen:L≤65536)
 (ih:Hid (∀(A' X' Y' C':List PP) (a' m' b':Nat) (W:World),X'.length+Y'.length<X.length+Y.length→0<X'.length→0<Y'.length→a'=A'.length→m'=a'+X'.length→b'=m'+Y'.length→L=(A'++(X'++(Y'++C'))).length→RowQ w0 g (A'++(X'++(Y'++C'))) W→(∀p∈A'++(X'++(Y'++C')),GoodQ d w0 p)→Up (ltC cf) X'→Up (ltC cf) Y'→
  Calls Tryz.prog 121 #[.slice (some ⟨g,0,none⟩) L cap,.int .i64 a',.int .i64 m',.int .i64 b',.func (.func f) #[] #[]] W fun e w'=>e=.returned (.tuple #[])∧zac (ltC cf) w0 g A' (X'++Y') C' w')) :
 Calls Tryz.prog 121 #[.slice (some ⟨g,0,none⟩) L cap,.int .i64 a,.int .i64 m,.int .i64 b,.func (.func f) #[] #[]] w fun e w'=>e=.returned (.tuple #[])∧zac (ltC cf) w0 g A (X++Y) C w':=by
 have HC:Hid (CmpQ f (GoodQ d) cf):=hc
 have HW:Hid (Weak (ltC cf)):=hwk
 have HX:Hid (Up (ltC cf) X):=hX
 have HY:Hid (Up (ltC cf) Y):=hY
 have HG:Hid (∀p∈A++(X++(Y++C)),GoodQ d w0 p):=hG
 have HGX:Hid (∀x∈X,GoodQ d w0 x):=fun x hx=>hG x (by simp [hx])
 have HGY:Hid (∀y∈Y,GoodQ d w0 y):=fun y hy=>hG y (by simp [hy])
 have HA:Hid (a=A.length):=ha
 have HMm:Hid (m=a+X.length):=hm
 have HBb:Hid (b=m+Y.length):=hb
 have HLl:Hid (L=(A++(X++(Y++C))).length):=hL
 have hbL:b≤L:=by rw [hb,hL,hm,ha];simp;omega
 obtain⟨D,hD⟩:∃D,D=m-a:=⟨_,rfl⟩
 have hw0:IntKind.i64.wrap ((m:Int)-(a:Int))=(D:Int):=by rw [IntKind.wrap_i64];omega
 have hD1 : ¬(D:Int)=1:=by omega
 have hD3:((D:Int)==1)=false:=by simpa using hD1
 obtain⟨F,hF⟩:∃F,F=b-m:=⟨_,rfl⟩
 have hw1:IntKind.i64.wrap ((b:Int)-(m:Int))=(F:Int):=by rw [IntKind.wrap_i64];omega
 have hF1 : ¬(F:Int)=1:=by omega
 have hF3:((F:Int)==1)=false:=by simpa using hF1
 obtain⟨mid,hmid⟩:∃mid,mid=(a+b) / 2:=⟨_,rfl⟩
 have hd0:((a:Int)+(b:Int)) / 2=(mid:Int):=by omega
 obtain⟨n,hn⟩:∃n,n=mid+m:=⟨_,rfl⟩
 have hwn:IntKind.i64.wrap ((mid:Int)+(m:Int))=(n:Int):=by rw [IntKind.wrap_i64];omega
 obtain⟨p,hp⟩:∃p,p=n-1:=⟨_,rfl⟩
 have hwp:IntKind.i64.wrap ((n:Int)-1)=(p:Int):=by rw [IntKind.wrap_i64];omega
 have Hp:Hid (p=n-1):=hp
 have HR0:Hid (RowQ w0 g (A++(X++(Y++C))) w):=hR
 have hal:a<L∧m<L∧n<2*L:=by omega
 by_cases hmm:mid<m
 ·obtain⟨s0,hs0⟩:∃s0,s0=n-b:=⟨_,rfl⟩
  have hws:IntKind.i64.wrap ((n:Int)-(b:Int))=(s0:Int):=by rw [IntKind.wrap_i64];omega
  have hmi:(mid:Int)<(m:Int):=by omega
  clear hc hwk hX hY hG ha hm hb hL hR hD hF hp
  have Hs0:Hid (s0=n-b):=hs0
  clear hs0
  have HBd:Hid (Bds X.length Y.length a m b n mid s0 mid):=⟨HMm.out,HBb.out,hn,hmid,hX2,hY2,.inl ⟨hmm,Hs0.out,rfl⟩⟩
  have hbs:=HBd.out.start
  have HS0:Hid (Sec (ltC cf) X Y a m n s0 mid s0 mid):=Sec.begin _ _ _ _ _ _ _ _ hbs.1
  clear hbs hn hmid hX2 hY2
  go_enter Tryz.func121,Tryz.ntmps121
  go_wp2_with fail
  go_loopg [20,21] (mid-s0) (fun z vi vj wr=>∃(s r:Nat),vi=.int .i64 (s:Int)∧vj=.int .i64 (r:Int)∧z=r-s∧Hid (Sec (ltC cf) X Y a m n s0 mid s r)∧Hid (RowQ w0 g (A++(X++(Y++C))) wr))
  case atStart=>exact⟨s0,mid,rfl,rfl,rfl,HS0,HR0⟩
  case round=>
   obtain⟨s,r,rfl,rfl,hk,HS,HR⟩:=hrel
   have Hk:Hid _:=hk
   clear hk HS0 HR0
   have s1:=HS.out.s1
   have s2:=HS.out.s2
   have s3:=HS.out.s3
   by_cases hij:s<r
   ·obtain⟨h,hh⟩:∃h,h=(s+r) / 2:=⟨_,rfl⟩
    have Hh:Hid (h=(s+r) / 2):=hh
    have hd:((s:Int)+(r:Int)) / 2=(h:Int):=by omega
    have ok:=HBd.out.ok h (by omega) (by omega)
    obtain⟨⟨o1,o2⟩,⟨o3,o4⟩,o5⟩:=ok
    have ha':=HA.out
    have hm':=HMm.out
    have hb':=HBb.out
    obtain⟨q,hq⟩:∃q,q=n-1-h:=⟨_,rfl⟩
    have hpn:=Hp.out
    have hwq:IntKind.i64.wrap ((p:Int)-(h:Int))=(q:Int):=by rw [IntKind.wrap_i64];omega
    have e2:(A++(X++(Y++C)))[h]? = some X[h-a]:=by
     rw [List.getElem?_append_right (by omega)]
     have:h-A.length=h-a:=by omega
     rw [this,List.getElem?_append_left o2,List.getElem?_eq_getElem o2]
    have e1:(A++(X++(Y++C)))[q]? = some Y[n-1-h-m]:=by
     rw [List.getElem?_append_right (by omega),List.getElem?_append_right (by omega)]
     have:q-A.length-X.length=n-1-h-m:=by omega
     rw [this,List.getElem?_append_left o4,List.getElem?_eq_getElem o4]
    have Gy:=HGY.out Y[n-1-h-m] (List.getElem_mem o4)
    have Gx:=HGX.out X[h-a] (List.getElem_mem o2)
    obtain⟨⟨r0,r1,r2,r3,r4,r5,r6,r7⟩,_⟩:=HR.out.cells q Y[n-1-h-m] e1
    obtain⟨⟨p0,p1,p2,p3,p4,p5,p6,p7⟩,_⟩:=HR.out.cells h X[h-a] e2
    have HL1:Hid (ltC cf Y[n-1-h-m] X[h-a]=false→Sec (ltC cf) X Y a m n s0 mid (h+1) r):=fun hl=>HS.out.less HW.out HX.out HY.out HBd.out h (by omega) (by omega) o2 o4 hl
    have HL2:Hid (ltC cf Y[n-1-h-m] X[h-a]=true→Sec (ltC cf) X Y a m n s0 mid s h):=fun hl=>HS.out.more HW.out HX.out HY.out HBd.out h (by omega) (by omega) o2 o4 hl
    have hb0:Below w0.heap.size w0 wr:=HR.out.below
    generalize X[h-a]=x at *
    generalize Y[n-1-h-m]=y at *
    obtain⟨⟨pa,pn,pc,sx1⟩,⟨pb,pm,pd,sx2⟩⟩:=GoodQ.slq (d:=d) (W:=w0) (ps:=[x]) (fun p hp=>by rw [List.mem_singleton.1 hp];exact Gx) x (by simp)
    obtain⟨⟨ra,rn,rc,sy1⟩,⟨rb,rm,rd,sy2⟩⟩:=GoodQ.slq (d:=d) (W:=w0) (ps:=[y]) (fun p hp=>by rw [List.mem_singleton.1 hp];exact Gy) y (by simp)
    rw [sx1] at p3;rw [sx2] at p7;rw [sy1] at r3;rw [sy2] at r7
    have HCe:Hid (∀W,Below w0.heap.size w0 W→Calls Tryz.prog f #[.agg #[.int .i64 y.1.1.kind,.int .i64 y.1.1.num,.string y.1.1.text,.slice ra rn rc,.int .i64 y.2.1.kind,.int .i64 y.2.1.num,.string y.2.1.text,.slice rb rm rd],.agg #[.int .i64 x.1.1.kind,.int .i64 x.1.1.num,.string x.1.1.text,.slice pa pn pc,.int .i64 x.2.1.kind,.int .i64 x.2.1.num,.string x.2.1.text,.slice pb pm pd]] W fun e W'=>e=.returned (.int .i64 (cf y x))∧Below W.heap.size W W'):=fun W hW=>by
     have h':=HC.out y x W (Gy.keeps hW) (Gx.keeps hW)
     simp only [encQ,encP,sx1,sx2,sy1,sy2,List.cons_append,List.nil_append] at h'
     exact h'
    have hhl:h<L:=by omega
    have hql:q<L:=by omega
    have hhi:(h:Int)<(L:Nat):=by omega
    have hqi:(q:Int)<(L:Nat):=by omega
    have HZ1:Hid (¬cf y x<0→Sec (ltC cf) X Y a m n s0 mid (h+1) r):=fun hz=>HL1.out (decide_eq_false hz)
    have HZ2:Hid (cf y x<0→Sec (ltC cf) X Y a m n s0 mid s h):=fun hz=>HL2.out (decide_eq_true hz)
    clear HL1 HL2 Gx Gy sx1 sx2 sy1 sy2 e1 e2 o1 o2 o3 o4 o5 ha' hm' hb' HS s1 s2 s3 hh hq hpn
    generalize hZ:cf y x=Z at *
    clear hZ
    go_wp2_with fail
    go_region_held3 (fun w'=>(w'.cell? ⟨g,q*8,none⟩=some (.int .i64 y.1.1.kind)∧w'.cell? ⟨g,q*8+1,none⟩=some (.int .i64 y.1.1.num)∧w'.cell? ⟨g,q*8+2,none⟩=some (.string y.1.1.text)∧w'.cell? ⟨g,q*8+3,none⟩=some (.slice ra rn rc)∧w'.cell? ⟨g,q*8+4,none⟩=some (.int .i64 y.2.1.kind)∧w'.cell? ⟨g,q*8+5,none⟩=some (.int .i64 y.2.1.num)∧w'.cell? ⟨g,q*8+6,none⟩=some (.string y.2.1.text)∧w'.cell? ⟨g,q*8+7,none⟩=some (.slice rb rm rd))∧(w'.cell? ⟨g,h*8,none⟩=some (.int .i64 x.1.1.kind)∧w'.cell? ⟨g,h*8+1,none⟩=some (.int .i64 x.1.1.num)∧w'.cell? ⟨g,h*8+2,none⟩=some (.string x.1.1.text)∧w'.cell? ⟨g,h*8+3,none⟩=some (.slice pa pn pc)∧w'.cell? ⟨g,h*8+4,none⟩=some (.int .i64 x.2.1.kind)∧w'.cell? ⟨g,h*8+5,none⟩=some (.int .i64 x.2.1.num)∧w'.cell? ⟨g,h*8+6,none⟩=some (.string x.2.1.text)∧w'.cell? ⟨g,h*8+7,none⟩=some (.slice pb pm pd))) (go_keep)
     (first|(go_at_fn f;refine (HCe.out _ (hb0.trans ((Below.refl _ _).drew.mono hb0.size))).mono ?_;rintro e w1 ⟨rfl,hg1⟩;have hb1:Below wr.heap.size wr w1:=(Below.refl _ _).drew.trans hg1;clear hg1;have p0:=zaa hb1 p0;have p1:=zaa hb1 p1;have p2:=zaa hb1 p2;have p3:=zaa hb1 p3;have p4:=zaa hb1 p4;have p5:=zaa hb1 p5;have p6:=zaa hb1 p6;have p7:=zaa hb1 p7;have r0:=zaa hb1 r0;have r1:=zaa hb1 r1;have r2:=zaa hb1 r2;have r3:=zaa hb1 r3;have r4:=zaa hb1 r4;have r5:=zaa hb1 r5;have r6:=zaa hb1 r6;have r7:=zaa hb1 r7))
    have HR1:Hid (RowQ w0 g (A++(X++(Y++C))) w1):=HR.out.keeps hb1
    clear p0 p1 p2 p3 p4 p5 p6 p7 r0 r1 r2 r3 r4 r5 r6 r7 HR HCe
    by_cases hz:Z<0
    ·have HN:Hid _:=HZ2.out hz
     have hzd:decide (Z<0)=true:=decide_eq_true hz
     have hze:(!decide (Z<0))=false:=by rw [hzd];rfl
     clear HZ1 HZ2
     go_wp2_with fail
     ·exact absurd ‹(!decide (Z<0))=true› (by rw [hze];simp)
     ·go_roundg (h-s)
      case measure=>have:=Hk.out;have:=Hh.out;omega
      case rel=>exact⟨s,h,rfl,rfl,rfl,HN,HR1⟩
    ·have HN:Hid _:=HZ1.out (by omega)
     have hze:(!decide (Z<0))=true:=by rw [decide_eq_false hz];rfl
     clear HZ1 HZ2
     go_wp2_with fail
     ·go_roundg (r-(h+1))
      case measure=>have:=Hk.out;have:=Hh.out;omega
      case rel=>exact⟨h+1,r,by go_num,rfl,rfl,HN,HR1⟩
     ·exact absurd ‹(!decide (Z<0))=false› (by rw [hze];simp)
   ·have hje:r=s:=by omega
    subst hje
    obtain⟨⟨c1,c2⟩,q1,q2⟩:=HS.out.cut HW.out HX.out HY.out HBd.out
    have bs:=HBd.out.start
    have ha':=HA.out
    have hm':=HMm.out
    have hb':=HBb.out
    have hn':=HBd.out.en
    have hmid':=HBd.out.mi
    obtain⟨E,hE⟩:∃E,E=n-r:=⟨_,rfl⟩
    have hwE:IntKind.i64.wrap ((n:Int)-(r:Int))=(E:Int):=by rw [IntKind.wrap_i64];omega
    obtain⟨X1,hX1⟩:∃X1,X1=X.take (r-a):=⟨_,rfl⟩
    obtain⟨X2,hX2⟩:∃X2,X2=X.drop (r-a):=⟨_,rfl⟩
    obtain⟨Y1,hY1⟩:∃Y1,Y1=Y.take (n-r-m):=⟨_,rfl⟩
    obtain⟨Y2,hY2⟩:∃Y2,Y2=Y.drop (n-r-m):=⟨_,rfl⟩
    rw [←hX2,←hY1] at q1
    rw [←hX1,←hY2] at q2
    have hXe:X1++X2=X:=by rw [hX1,hX2];exact List.take_append_drop _ _
    have hYe:Y1++Y2=Y:=by rw [hY1,hY2];exact List.take_append_drop _ _
    have l1:X1.length=r-a:=by rw [hX1,List.length_take];omega
    have l2:Y1.length=E-m:=by rw [hY1,List.length_take];omega
    have l3:X1.length+X2.length=X.length:=by rw [←hXe];simp
    have l4:Y1.length+Y2.length=Y.length:=by rw [←hYe];simp
    have HRow:Hid (RowQ w0 g ((A++X1)++(X2++(Y1++(Y2++C)))) wr):=by show RowQ _ _ _ _;have:=HR.out;rw [←hXe,←hYe] at this;simpa using this
    have HLL:Hid (L=A.length+X1.length+X2.length+Y1.length+Y2.length+C.length):=by show _=_;have:=HLl.out;simp at this;omega
    have HGo:Hid (∀p,p∈A∨p∈X1∨p∈X2∨p∈Y1∨p∈Y2∨p∈C→GoodQ d w0 p):=fun p hp=>HG.out p (by rw [←hXe,←hYe];simp;rcases hp with h|h|h|h|h|h <;> simp [h])
    have uX:=List.pairwise_append.1 (show Up (ltC cf) (X1++X2) by rw [hXe];exact HX.out)
    have uY:=List.pairwise_append.1 (show Up (ltC cf) (Y1++Y2) by rw [hYe];exact HY.out)
    have HRn:Hid ((¬r<m∨¬m<E)→RowQ w0 g (A++(X1++(Y1++(X2++(Y2++C))))) wr):=fun h=>by
     rcases h with h|h
     ·have e:X2=[]:=List.eq_nil_of_length_eq_zero (by omega)
      have:=HRow.out
      rw [e] at this ⊢
      simpa using this
     ·have e:Y1=[]:=List.eq_nil_of_length_eq_zero (by omega)
      have:=HRow.out
      rw [e] at this ⊢
      simpa using this
    have HRo:Hid (r<m→m<E→Calls Tryz.prog 125 #[.slice (some ⟨g,0,none⟩) L cap,.int .i64 r,.int .i64 m,.int .i64 E,.func (.func f) #[] #[]] wr fun e w'=>e=.returned (.tuple #[])∧RowQ w0 g ((A++X1)++(Y1++(X2++(Y2++C)))) w'):=fun h1 h2=>rotate_any w0 g cap r m E L _ (A++X1) X2 Y1 (Y2++C) wr hg (by simp;omega) (by simp;omega) (by simp;omega) (by omega) (by omega) (by have:=HLL.out;simp;omega) HRow.out (GoodQ.slq (d:=d) (W:=w0) (fun p hp=>HGo.out p (by simp at hp ⊢;rcases hp with h|h|h|h|h|h <;> simp [h]))) hlen
    have HE1:Hid ((¬a<r∨¬r<mid)→Up (ltC cf) (X1++Y1)):=fun h=>by
     rcases h with h|h
     ·have e:X1=[]:=List.eq_nil_of_length_eq_zero (by omega)
      rw [e];exact uY.1
     ·have e:Y1=[]:=List.eq_nil_of_length_eq_zero (by omega)
      rw [e,List.append_nil];exact uX.1
    have HE2:Hid ((¬mid<E∨¬E<b)→Up (ltC cf) (X2++Y2)):=fun h=>by
     rcases h with h|h
     ·have e:X2=[]:=List.eq_nil_of_length_eq_zero (by omega)
      rw [e];exact uY.2.1
     ·have e:Y2=[]:=List.eq_nil_of_length_eq_zero (by omega)
      rw [e,List.append_nil];exact uX.2.1
    have HIh1:Hid (∀W,a<r→r<mid→RowQ w0 g (A++(X1++(Y1++(X2++(Y2++C))))) W→Calls Tryz.prog 121 #[.slice (some ⟨g,0,none⟩) L cap,.int .i64 a,.int .i64 r,.int .i64 mid,.func (.func f) #[] #[]] W fun e w'=>e=.returned (.tuple #[])∧zac (ltC cf) w0 g A (X1++Y1) (X2++(Y2++C)) w'):=fun W h1 h2 hR=>ih.out A X1 Y1 (X2++(Y2++C)) a r mid W (by omega) (by omega) (by omega) ha' (by omega) (by omega) (by have:=HLL.out;simp;omega) hR (fun p hp=>HGo.out p (by simp at hp ⊢;rcases hp with h|h|h|h|h|h <;> simp [h])) uX.1 uY.1
    have HIh2:Hid (∀(M1:List PP) (W:World),mid<E→E<b→(M1.length=X1.length+Y1.length∧(∀z∈M1,z∈X1++Y1)∧Up (ltC cf) M1∧Alike (ltC cf) M1 (X1++Y1))→RowQ w0 g ((A++M1)++(X2++(Y2++C))) W→Calls Tryz.prog 121 #[.slice (some ⟨g,0,none⟩) L cap,.int .i64 mid,.int .i64 E,.int .i64 b,.func (.func f) #[] #[]] W fun e w'=>e=.returned (.tuple #[])∧zac (ltC cf) w0 g (A++M1) (X2++Y2) C w'):=fun M1 W h1 h2 hM hR=>ih.out (A++M1) X2 Y2 C mid E b W (by omega) (by omega) (by omega) (by have:=hM.1;simp;omega) (by omega) (by omega) (by have:=HLL.out;have:=hM.1;simp;omega) hR (fun p hp=>HGo.out p (by
     have hz:=hM.2.1 p
     simp at hp hz ⊢
     rcases hp with h|h|h|h|h
     ·simp [h]
     ·rcases hz h with k|k <;> simp [k]
     ·simp [h]
     ·simp [h]
     ·simp [h])) uX.2.1 uY.2.1
    have HFin:Hid (∀(M1 M2:List PP) (W:World),(M1.length=X1.length+Y1.length∧(∀z∈M1,z∈X1++Y1)∧Up (ltC cf) M1∧Alike (ltC cf) M1 (X1++Y1))→(M2.length=X2.length+Y2.length∧(∀z∈M2,z∈X2++Y2)∧Up (ltC cf) M2∧Alike (ltC cf) M2 (X2++Y2)∧RowQ w0 g ((A++M1)++(M2++C)) W)→zac (ltC cf) w0 g A (X++Y) C W):=fun M1 M2 W h1 h2=>by
     have hs:=cut_sorts HW.out X1 X2 Y1 Y2 M1 M2 (by rw [hXe];exact HX.out) (by rw [hYe];exact HY.out) q1 q2 h1.2.2.1 h1.2.2.2 h1.2.1 h2.2.2.1 h2.2.2.2.1 h2.2.1
     rw [hXe,hYe] at hs
     refine⟨M1++M2,by have:=h1.1;have:=h2.1;simp;omega,fun z hz=>hs.2.mem HW.out hz,hs.1,hs.2,by simpa using h2.2.2.2.2⟩
    have har:a≤r:=by omega
    have hrm:r≤mid:=by rcases HBd.out.ends with ⟨_,_,_⟩|⟨_,_,_⟩ <;> omega
    have hmE:mid≤E:=by omega
    have hEb:E≤b:=by omega
    clear HR HS HRow HLL HGo uX uY hXe hYe l1 l2 l3 l4 hX1 hX2 hY1 hY2 q1 q2 c1 c2 bs ha' hm' hb' hn' hmid' hE ih HC HW HX HY HG HGX HGY HBd s1 s2 s3 hij
    by_cases e1:r<m
    ·by_cases e2:m<E
     ·go_wp2_with fail
      refine (HRo.out e1 e2).mono ?_
      rintro e w1 ⟨rfl,hr1⟩
      have Hrow1:Hid (RowQ w0 g (A++(X1++(Y1++(X2++(Y2++C))))) w1):=by show RowQ _ _ _ _;simpa using hr1
      clear hr1 HRo HRn
      by_cases f1:a<r
      ·by_cases f2:r<mid
       ·go_wp2_with fail
        refine (HIh1.out _ f1 f2 Hrow1.out).mono ?_
        rintro e w2 ⟨rfl,hs2⟩
        obtain⟨M1,k1,k2,k3,k4,k5⟩:=hs2
        have Hs1:Hid (M1.length=X1.length+Y1.length∧(∀z∈M1,z∈X1++Y1)∧Up (ltC cf) M1∧Alike (ltC cf) M1 (X1++Y1)):=⟨by simpa using k1,k2,k3,k4⟩
        have Hr1:Hid (RowQ w0 g ((A++M1)++(X2++(Y2++C))) w2):=by show RowQ _ _ _ _;simpa using k5
        clear k1 k2 k3 k4 k5 HIh1 Hrow1
        by_cases g1:mid<E
        ·by_cases g2:E<b
         ·go_wp2_with fail
          refine (HIh2.out M1 _ g1 g2 Hs1.out Hr1.out).mono ?_
          rintro e w3 ⟨rfl,hs3⟩
          obtain⟨M2,k1,k2,k3,k4,k5⟩:=hs3
          have Hs2:Hid (M2.length=X2.length+Y2.length∧(∀z∈M2,z∈X2++Y2)∧Up (ltC cf) M2∧Alike (ltC cf) M2 (X2++Y2)∧RowQ w0 g ((A++M1)++(M2++C)) w3):=⟨by simpa using k1,k2,k3,k4,k5⟩
          clear k1 k2 k3 k4 k5 HIh2 Hr1
          have HF:Hid (zac (ltC cf) w0 g A (X++Y) C w3):=HFin.out M1 _ _ Hs1.out Hs2.out
          clear HFin
          go_wp2_with fail
          exact bodyPost_end (v:=.tuple #[]) (by simp [results,Tryz.results121,go_sem]) rfl ⟨rfl,HF.out⟩
         ·have g2' : ¬((E:Int)<(b:Int)):=by omega
          have Hs2:Hid ((X2++Y2).length=X2.length+Y2.length∧(∀z∈X2++Y2,z∈X2++Y2)∧Up (ltC cf) (X2++Y2)∧Alike (ltC cf) (X2++Y2) (X2++Y2)∧RowQ w0 g ((A++M1)++((X2++Y2)++C)) w2):=⟨by simp,(fun z hz=>hz),HE2.out (.inr g2),Alike.refl _ _,by simpa using Hr1.out⟩
          clear HIh2 Hr1
          have HF:Hid (zac (ltC cf) w0 g A (X++Y) C w2):=HFin.out M1 _ _ Hs1.out Hs2.out
          clear HFin
          go_wp2_with fail
          exact bodyPost_end (v:=.tuple #[]) (by simp [results,Tryz.results121,go_sem]) rfl ⟨rfl,HF.out⟩
        ·have g1' : ¬((mid:Int)<(E:Int)):=by omega
         have Hs2:Hid ((X2++Y2).length=X2.length+Y2.length∧(∀z∈X2++Y2,z∈X2++Y2)∧Up (ltC cf) (X2++Y2)∧Alike (ltC cf) (X2++Y2) (X2++Y2)∧RowQ w0 g ((A++M1)++((X2++Y2)++C)) w2):=⟨by simp,(fun z hz=>hz),HE2.out (.inl g1),Alike.refl _ _,by simpa using Hr1.out⟩
         clear HIh2 Hr1
         have HF:Hid (zac (ltC cf) w0 g A (X++Y) C w2):=HFin.out M1 _ _ Hs1.out Hs2.out
         clear HFin
         go_wp2_with fail
         exact bodyPost_end (v:=.tuple #[]) (by simp [results,Tryz.results121,go_sem]) rfl ⟨rfl,HF.out⟩
       ·have f2' : ¬((r:Int)<(mid:Int)):=by omega
        obtain⟨M1,hM1⟩:∃M1,M1=X1++Y1:=⟨_,rfl⟩
        have Hs1:Hid (M1.length=X1.length+Y1.length∧(∀z∈M1,z∈X1++Y1)∧Up (ltC cf) M1∧Alike (ltC cf) M1 (X1++Y1)):=by rw [hM1];exact⟨by simp,(fun z hz=>hz),HE1.out (.inr f2),Alike.refl _ _⟩
        have Hr1:Hid (RowQ w0 g ((A++M1)++(X2++(Y2++C))) w1):=by show RowQ _ _ _ _;rw [hM1];simpa using Hrow1.out
        clear hM1 HIh1 Hrow1
        by_cases g1:mid<E
        ·by_cases g2:E<b
         ·go_wp2_with fail
          refine (HIh2.out M1 _ g1 g2 Hs1.out Hr1.out).mono ?_
          rintro e w3 ⟨rfl,hs3⟩
          obtain⟨M2,k1,k2,k3,k4,k5⟩:=hs3
          have Hs2:Hid (M2.length=X2.length+Y2.length∧(∀z∈M2,z∈X2++Y2)∧Up (ltC cf) M2∧Alike (ltC cf) M2 (X2++Y2)∧RowQ w0 g ((A++M1)++(M2++C)) w3):=⟨by simpa using k1,k2,k3,k4,k5⟩
          clear k1 k2 k3 k4 k5 HIh2 Hr1
          have HF:Hid (zac (ltC cf) w0 g A (X++Y) C w3):=HFin.out M1 _ _ Hs1.out Hs2.out
          clear HFin
          go_wp2_with fail
          exact bodyPost_end (v:=.tuple #[]) (by simp [results,Tryz.results121,go_sem]) rfl ⟨rfl,HF.out⟩
         ·have g2' : ¬((E:Int)<(b:Int)):=by omega
          have Hs2:Hid ((X2++Y2).length=X2.length+Y2.length∧(∀z∈X2++Y2,z∈X2++Y2)∧Up (ltC cf) (X2++Y2)∧Alike (ltC cf) (X2++Y2) (X2++Y2)∧RowQ w0 g ((A++M1)++((X2++Y2)++C)) w1):=⟨by simp,(fun z hz=>hz),HE2.out (.inr g2),Alike.refl _ _,by simpa using Hr1.out⟩
          clear HIh2 Hr1
          have HF:Hid (zac (ltC cf) w0 g A (X++Y) C w1):=HFin.out M1 _ _ Hs1.out Hs2.out
          clear HFin
          go_wp2_with fail
          exact bodyPost_end (v:=.tuple #[]) (by simp [results,Tryz.results121,go_sem]) rfl ⟨rfl,HF.out⟩
        ·have g1' : ¬((mid:Int)<(E:Int)):=by omega
         have Hs2:Hid ((X2++Y2).length=X2.length+Y2.length∧(∀z∈X2++Y2,z∈X2++Y2)∧Up (ltC cf) (X2++Y2)∧Alike (ltC cf) (X2++Y2) (X2++Y2)∧RowQ w0 g ((A++M1)++((X2++Y2)++C)) w1):=⟨by simp,(fun z hz=>hz),HE2.out (.inl g1),Alike.refl _ _,by simpa using Hr1.out⟩
         clear HIh2 Hr1
         have HF:Hid (zac (ltC cf) w0 g A (X++Y) C w1):=HFin.out M1 _ _ Hs1.out Hs2.out
         clear HFin
         go_wp2_with fail
         exact bodyPost_end (v:=.tuple #[]) (by simp [results,Tryz.results121,go_sem]) rfl ⟨rfl,HF.out⟩
      ·have f1' : ¬((a:Int)<(r:Int)):=by omega
       obtain⟨M1,hM1⟩:∃M1,M1=X1++Y1:=⟨_,rfl⟩
       have Hs1:Hid (M1.length=X1.length+Y1.length∧(∀z∈M1,z∈X1++Y1)∧Up (ltC cf) M1∧Alike (ltC cf) M1 (X1++Y1)):=by rw [hM1];exact⟨by simp,(fun z hz=>hz),HE1.out (.inl f1),Alike.refl _ _⟩
       have Hr1:Hid (RowQ w0 g ((A++M1)++(X2++(Y2++C))) w1):=by show RowQ _ _ _ _;rw [hM1];simpa using Hrow1.out
       clear hM1 HIh1 Hrow1
       by_cases g1:mid<E
       ·by_cases g2:E<b
        ·go_wp2_with fail
         refine (HIh2.out M1 _ g1 g2 Hs1.out Hr1.out).mono ?_
         rintro e w3 ⟨rfl,hs3⟩
         obtain⟨M2,k1,k2,k3,k4,k5⟩:=hs3
         have Hs2:Hid (M2.length=X2.length+Y2.length∧(∀z∈M2,z∈X2++Y2)∧Up (ltC cf) M2∧Alike (ltC cf) M2 (X2++Y2)∧RowQ w0 g ((A++M1)++(M2++C)) w3):=⟨by simpa using k1,k2,k3,k4,k5⟩
         clear k1 k2 k3 k4 k5 HIh2 Hr1
         have HF:Hid (zac (ltC cf) w0 g A (X++Y) C w3):=HFin.out M1 _ _ Hs1.out Hs2.out
         clear HFin
         go_wp2_with fail
         exact bodyPost_end (v:=.tuple #[]) (by simp [results,Tryz.results121,go_sem]) rfl ⟨rfl,HF.out⟩
        ·have g2' : ¬((E:Int)<(b:Int)):=by omega
         have Hs2:Hid ((X2++Y2).length=X2.length+Y2.length∧(∀z∈X2++Y2,z∈X2++Y2)∧Up (ltC cf) (X2++Y2)∧Alike (ltC cf) (X2++Y2) (X2++Y2)∧RowQ w0 g ((A++M1)++((X2++Y2)++C)) w1):=⟨by simp,(fun z hz=>hz),HE2.out (.inr g2),Alike.refl _ _,by simpa using Hr1.out⟩
         clear HIh2 Hr1
         have HF:Hid (zac (ltC cf) w0 g A (X++Y) C w1):=HFin.out M1 _ _ Hs1.out Hs2.out
         clear HFin
         go_wp2_with fail
         exact bodyPost_end (v:=.tuple #[]) (by simp [results,Tryz.results121,go_sem]) rfl ⟨rfl,HF.out⟩
       ·have g1' : ¬((mid:Int)<(E:Int)):=by omega
        have Hs2:Hid ((X2++Y2).length=X2.length+Y2.length∧(∀z∈X2++Y2,z∈X2++Y2)∧Up (ltC cf) (X2++Y2)∧Alike (ltC cf) (X2++Y2) (X2++Y2)∧RowQ w0 g ((A++M1)++((X2++Y2)++C)) w1):=⟨by simp,(fun z hz=>hz),HE2.out (.inl g1),Alike.refl _ _,by simpa using Hr1.out⟩
        clear HIh2 Hr1
        have HF:Hid (zac (ltC cf) w0 g A (X++Y) C w1):=HFin.out M1 _ _ Hs1.out Hs2.out
        clear HFin
        go_wp2_with fail
        exact bodyPost_end (v:=.tuple #[]) (by simp [results,Tryz.results121,go_sem]) rfl ⟨rfl,HF.out⟩
     ·have e2' : ¬((m:Int)<(E:Int)):=by omega
      have Hrow1:Hid (RowQ w0 g (A++(X1++(Y1++(X2++(Y2++C))))) wr):=HRn.out (.inr e2)
      clear HRo HRn
      by_cases f1:a<r
      ·by_cases f2:r<mid
       ·go_wp2_with fail
        refine (HIh1.out _ f1 f2 Hrow1.out).mono ?_
        rintro e w2 ⟨rfl,hs2⟩
        obtain⟨M1,k1,k2,k3,k4,k5⟩:=hs2
        have Hs1:Hid (M1.length=X1.length+Y1.length∧(∀z∈M1,z∈X1++Y1)∧Up (ltC cf) M1∧Alike (ltC cf) M1 (X1++Y1)):=⟨by simpa using k1,k2,k3,k4⟩
        have Hr1:Hid (RowQ w0 g ((A++M1)++(X2++(Y2++C))) w2):=by show RowQ _ _ _ _;simpa using k5
        clear k1 k2 k3 k4 k5 HIh1 Hrow1
        by_cases g1:mid<E
        ·by_cases g2:E<b
         ·go_wp2_with fail
          refine (HIh2.out M1 _ g1 g2 Hs1.out Hr1.out).mono ?_
          rintro e w3 ⟨rfl,hs3⟩
          obtain⟨M2,k1,k2,k3,k4,k5⟩:=hs3
          have Hs2:Hid (M2.length=X2.length+Y2.length∧(∀z∈M2,z∈X2++Y2)∧Up (ltC cf) M2∧Alike (ltC cf) M2 (X2++Y2)∧RowQ w0 g ((A++M1)++(M2++C)) w3):=⟨by simpa using k1,k2,k3,k4,k5⟩
          clear k1 k2 k3 k4 k5 HIh2 Hr1
          have HF:Hid (zac (ltC cf) w0 g A (X++Y) C w3):=HFin.out M1 _ _ Hs1.out Hs2.out
          clear HFin
          go_wp2_with fail
          exact bodyPost_end (v:=.tuple #[]) (by simp [results,Tryz.results121,go_sem]) rfl ⟨rfl,HF.out⟩
         ·have g2' : ¬((E:Int)<(b:Int)):=by omega
          have Hs2:Hid ((X2++Y2).length=X2.length+Y2.length∧(∀z∈X2++Y2,z∈X2++Y2)∧Up (ltC cf) (X2++Y2)∧Alike (ltC cf) (X2++Y2) (X2++Y2)∧RowQ w0 g ((A++M1)++((X2++Y2)++C)) w2):=⟨by simp,(fun z hz=>hz),HE2.out (.inr g2),Alike.refl _ _,by simpa using Hr1.out⟩
          clear HIh2 Hr1
          have HF:Hid (zac (ltC cf) w0 g A (X++Y) C w2):=HFin.out M1 _ _ Hs1.out Hs2.out
          clear HFin
          go_wp2_with fail
          exact bodyPost_end (v:=.tuple #[]) (by simp [results,Tryz.results121,go_sem]) rfl ⟨rfl,HF.out⟩
        ·have g1' : ¬((mid:Int)<(E:Int)):=by omega
         have Hs2:Hid ((X2++Y2).length=X2.length+Y2.length∧(∀z∈X2++Y2,z∈X2++Y2)∧Up (ltC cf) (X2++Y2)∧Alike (ltC cf) (X2++Y2) (X2++Y2)∧RowQ w0 g ((A++M1)++((X2++Y2)++C)) w2):=⟨by simp,(fun z hz=>hz),HE2.out (.inl g1),Alike.refl _ _,by simpa using Hr1.out⟩
         clear HIh2 Hr1
         have HF:Hid (zac (ltC cf) w0 g A (X++Y) C w2):=HFin.out M1 _ _ Hs1.out Hs2.out
         clear HFin
         go_wp2_with fail
         exact bodyPost_end (v:=.tuple #[]) (by simp [results,Tryz.results121,go_sem]) rfl ⟨rfl,HF.out⟩
       ·have f2' : ¬((r:Int)<(mid:Int)):=by omega
        obtain⟨M1,hM1⟩:∃M1,M1=X1++Y1:=⟨_,rfl⟩
        have Hs1:Hid (M1.length=X1.length+Y1.length∧(∀z∈M1,z∈X1++Y1)∧Up (ltC cf) M1∧Alike (ltC cf) M1 (X1++Y1)):=by rw [hM1];exact⟨by simp,(fun z hz=>hz),HE1.out (.inr f2),Alike.refl _ _⟩
        have Hr1:Hid (RowQ w0 g ((A++M1)++(X2++(Y2++C))) wr):=by show RowQ _ _ _ _;rw [hM1];simpa using Hrow1.out
        clear hM1 HIh1 Hrow1
        by_cases g1:mid<E
        ·by_cases g2:E<b
         ·go_wp2_with fail
          refine (HIh2.out M1 _ g1 g2 Hs1.out Hr1.out).mono ?_
          rintro e w3 ⟨rfl,hs3⟩
          obtain⟨M2,k1,k2,k3,k4,k5⟩:=hs3
          have Hs2:Hid (M2.length=X2.length+Y2.length∧(∀z∈M2,z∈X2++Y2)∧Up (ltC cf) M2∧Alike (ltC cf) M2 (X2++Y2)∧RowQ w0 g ((A++M1)++(M2++C)) w3):=⟨by simpa using k1,k2,k3,k4,k5⟩
          clear k1 k2 k3 k4 k5 HIh2 Hr1
          have HF:Hid (zac (ltC cf) w0 g A (X++Y) C w3):=HFin.out M1 _ _ Hs1.out Hs2.out
          clear HFin
          go_wp2_with fail
          exact bodyPost_end (v:=.tuple #[]) (by simp [results,Tryz.results121,go_sem]) rfl ⟨rfl,HF.out⟩
         ·have g2' : ¬((E:Int)<(b:Int)):=by omega
          have Hs2:Hid ((X2++Y2).length=X2.length+Y2.length∧(∀z∈X2++Y2,z∈X2++Y2)∧Up (ltC cf) (X2++Y2)∧Alike (ltC cf) (X2++Y2) (X2++Y2)∧RowQ w0 g ((A++M1)++((X2++Y2)++C)) wr):=⟨by simp,(fun z hz=>hz),HE2.out (.inr g2),Alike.refl _ _,by simpa using Hr1.out⟩
          clear HIh2 Hr1
          have HF:Hid (zac (ltC cf) w0 g A (X++Y) C wr):=HFin.out M1 _ _ Hs1.out Hs2.out
          clear HFin
          go_wp2_with fail
          exact bodyPost_end (v:=.tuple #[]) (by simp [results,Tryz.results121,go_sem]) rfl ⟨rfl,HF.out⟩
        ·have g1' : ¬((mid:Int)<(E:Int)):=by omega
         have Hs2:Hid ((X2++Y2).length=X2.length+Y2.length∧(∀z∈X2++Y2,z∈X2++Y2)∧Up (ltC cf) (X2++Y2)∧Alike (ltC cf) (X2++Y2) (X2++Y2)∧RowQ w0 g ((A++M1)++((X2++Y2)++C)) wr):=⟨by simp,(fun z hz=>hz),HE2.out (.inl g1),Alike.refl _ _,by simpa using Hr1.out⟩
         clear HIh2 Hr1
         have HF:Hid (zac (ltC cf) w0 g A (X++Y) C wr):=HFin.out M1 _ _ Hs1.out Hs2.out
         clear HFin
         go_wp2_with fail
         exact bodyPost_end (v:=.tuple #[]) (by simp [results,Tryz.results121,go_sem]) rfl ⟨rfl,HF.out⟩
      ·have f1' : ¬((a:Int)<(r:Int)):=by omega
       obtain⟨M1,hM1⟩:∃M1,M1=X1++Y1:=⟨_,rfl⟩
       have Hs1:Hid (M1.length=X1.length+Y1.length∧(∀z∈M1,z∈X1++Y1)∧Up (ltC cf) M1∧Alike (ltC cf) M1 (X1++Y1)):=by rw [hM1];exact⟨by simp,(fun z hz=>hz),HE1.out (.inl f1),Alike.refl _ _⟩
       have Hr1:Hid (RowQ w0 g ((A++M1)++(X2++(Y2++C))) wr):=by show RowQ _ _ _ _;rw [hM1];simpa using Hrow1.out
       clear hM1 HIh1 Hrow1
       by_cases g1:mid<E
       ·by_cases g2:E<b
        ·go_wp2_with fail
         refine (HIh2.out M1 _ g1 g2 Hs1.out Hr1.out).mono ?_
         rintro e w3 ⟨rfl,hs3⟩
         obtain⟨M2,k1,k2,k3,k4,k5⟩:=hs3
         have Hs2:Hid (M2.length=X2.length+Y2.length∧(∀z∈M2,z∈X2++Y2)∧Up (ltC cf) M2∧Alike (ltC cf) M2 (X2++Y2)∧RowQ w0 g ((A++M1)++(M2++C)) w3):=⟨by simpa using k1,k2,k3,k4,k5⟩
         clear k1 k2 k3 k4 k5 HIh2 Hr1
         have HF:Hid (zac (ltC cf) w0 g A (X++Y) C w3):=HFin.out M1 _ _ Hs1.out Hs2.out
         clear HFin
         go_wp2_with fail
         exact bodyPost_end (v:=.tuple #[]) (by simp [results,Tryz.results121,go_sem]) rfl ⟨rfl,HF.out⟩
        ·have g2' : ¬((E:Int)<(b:Int)):=by omega
         have Hs2:Hid ((X2++Y2).length=X2.length+Y2.length∧(∀z∈X2++Y2,z∈X2++Y2)∧Up (ltC cf) (X2++Y2)∧Alike (ltC cf) (X2++Y2) (X2++Y2)∧RowQ w0 g ((A++M1)++((X2++Y2)++C)) wr):=⟨by simp,(fun z hz=>hz),HE2.out (.inr g2),Alike.refl _ _,by simpa using Hr1.out⟩
         clear HIh2 Hr1
         have HF:Hid (zac (ltC cf) w0 g A (X++Y) C wr):=HFin.out M1 _ _ Hs1.out Hs2.out
         clear HFin
         go_wp2_with fail
         exact bodyPost_end (v:=.tuple #[]) (by simp [results,Tryz.results121,go_sem]) rfl ⟨rfl,HF.out⟩
       ·have g1' : ¬((mid:Int)<(E:Int)):=by omega
        have Hs2:Hid ((X2++Y2).length=X2.length+Y2.length∧(∀z∈X2++Y2,z∈X2++Y2)∧Up (ltC cf) (X2++Y2)∧Alike (ltC cf) (X2++Y2) (X2++Y2)∧RowQ w0 g ((A++M1)++((X2++Y2)++C)) wr):=⟨by simp,(fun z hz=>hz),HE2.out (.inl g1),Alike.refl _ _,by simpa using Hr1.out⟩
        clear HIh2 Hr1
        have HF:Hid (zac (ltC cf) w0 g A (X++Y) C wr):=HFin.out M1 _ _ Hs1.out Hs2.out
        clear HFin
        go_wp2_with fail
        exact bodyPost_end (v:=.tuple #[]) (by simp [results,Tryz.results121,go_sem]) rfl ⟨rfl,HF.out⟩
    ·have e1' : ¬((r:Int)<(m:Int)):=by omega
     have Hrow1:Hid (RowQ w0 g (A++(X1++(Y1++(X2++(Y2++C))))) wr):=HRn.out (.inl e1)
     clear HRo HRn
     by_cases f1:a<r
     ·by_cases f2:r<mid
      ·go_wp2_with fail
       refine (HIh1.out _ f1 f2 Hrow1.out).mono ?_
       rintro e w2 ⟨rfl,hs2⟩
       obtain⟨M1,k1,k2,k3,k4,k5⟩:=hs2
       have Hs1:Hid (M1.length=X1.length+Y1.length∧(∀z∈M1,z∈X1++Y1)∧Up (ltC cf) M1∧Alike (ltC cf) M1 (X1++Y1)):=⟨by simpa using k1,k2,k3,k4⟩
       have Hr1:Hid (RowQ w0 g ((A++M1)++(X2++(Y2++C))) w2):=by show RowQ _ _ _ _;simpa using k5
       clear k1 k2 k3 k4 k5 HIh1 Hrow1
       by_cases g1:mid<E
       ·by_cases g2:E<b
        ·go_wp2_with fail
         refine (HIh2.out M1 _ g1 g2 Hs1.out Hr1.out).mono ?_
         rintro e w3 ⟨rfl,hs3⟩
         obtain⟨M2,k1,k2,k3,k4,k5⟩:=hs3
         have Hs2:Hid (M2.length=X2.length+Y2.length∧(∀z∈M2,z∈X2++Y2)∧Up (ltC cf) M2∧Alike (ltC cf) M2 (X2++Y2)∧RowQ w0 g ((A++M1)++(M2++C)) w3):=⟨by simpa using k1,k2,k3,k4,k5⟩
         clear k1 k2 k3 k4 k5 HIh2 Hr1
         have HF:Hid (zac (ltC cf) w0 g A (X++Y) C w3):=HFin.out M1 _ _ Hs1.out Hs2.out
         clear HFin
         go_wp2_with fail
         exact bodyPost_end (v:=.tuple #[]) (by simp [results,Tryz.results121,go_sem]) rfl ⟨rfl,HF.out⟩
        ·have g2' : ¬((E:Int)<(b:Int)):=by omega
         have Hs2:Hid ((X2++Y2).length=X2.length+Y2.length∧(∀z∈X2++Y2,z∈X2++Y2)∧Up (ltC cf) (X2++Y2)∧Alike (ltC cf) (X2++Y2) (X2++Y2)∧RowQ w0 g ((A++M1)++((X2++Y2)++C)) w2):=⟨by simp,(fun z hz=>hz),HE2.out (.inr g2),Alike.refl _ _,by simpa using Hr1.out⟩
         clear HIh2 Hr1
         have HF:Hid (zac (ltC cf) w0 g A (X++Y) C w2):=HFin.out M1 _ _ Hs1.out Hs2.out
         clear HFin
         go_wp2_with fail
         exact bodyPost_end (v:=.tuple #[]) (by simp [results,Tryz.results121,go_sem]) rfl ⟨rfl,HF.out⟩
       ·have g1' : ¬((mid:Int)<(E:Int)):=by omega
        have Hs2:Hid ((X2++Y2).length=X2.length+Y2.length∧(∀z∈X2++Y2,z∈X2++Y2)∧Up (ltC cf) (X2++Y2)∧Alike (ltC cf) (X2++Y2) (X2++Y2)∧RowQ w0 g ((A++M1)++((X2++Y2)++C)) w2):=⟨by simp,(fun z hz=>hz),HE2.out (.inl g1),Alike.refl _ _,by simpa using Hr1.out⟩
        clear HIh2 Hr1
        have HF:Hid (zac (ltC cf) w0 g A (X++Y) C w2):=HFin.out M1 _ _ Hs1.out Hs2.out
        clear HFin
        go_wp2_with fail
        exact bodyPost_end (v:=.tuple #[]) (by simp [results,Tryz.results121,go_sem]) rfl ⟨rfl,HF.out⟩
      ·have f2' : ¬((r:Int)<(mid:Int)):=by omega
       obtain⟨M1,hM1⟩:∃M1,M1=X1++Y1:=⟨_,rfl⟩
       have Hs1:Hid (M1.length=X1.length+Y1.length∧(∀z∈M1,z∈X1++Y1)∧Up (ltC cf) M1∧Alike (ltC cf) M1 (X1++Y1)):=by rw [hM1];exact⟨by simp,(fun z hz=>hz),HE1.out (.inr f2),Alike.refl _ _⟩
       have Hr1:Hid (RowQ w0 g ((A++M1)++(X2++(Y2++C))) wr):=by show RowQ _ _ _ _;rw [hM1];simpa using Hrow1.out
       clear hM1 HIh1 Hrow1
       by_cases g1:mid<E
       ·by_cases g2:E<b
        ·go_wp2_with fail
         refine (HIh2.out M1 _ g1 g2 Hs1.out Hr1.out).mono ?_
         rintro e w3 ⟨rfl,hs3⟩
         obtain⟨M2,k1,k2,k3,k4,k5⟩:=hs3
         have Hs2:Hid (M2.length=X2.length+Y2.length∧(∀z∈M2,z∈X2++Y2)∧Up (ltC cf) M2∧Alike (ltC cf) M2 (X2++Y2)∧RowQ w0 g ((A++M1)++(M2++C)) w3):=⟨by simpa using k1,k2,k3,k4,k5⟩
         clear k1 k2 k3 k4 k5 HIh2 Hr1
         have HF:Hid (zac (ltC cf) w0 g A (X++Y) C w3):=HFin.out M1 _ _ Hs1.out Hs2.out
         clear HFin
         go_wp2_with fail
         exact bodyPost_end (v:=.tuple #[]) (by simp [results,Tryz.results121,go_sem]) rfl ⟨rfl,HF.out⟩
        ·have g2' : ¬((E:Int)<(b:Int)):=by omega
         have Hs2:Hid ((X2++Y2).length=X2.length+Y2.length∧(∀z∈X2++Y2,z∈X2++Y2)∧Up (ltC cf) (X2++Y2)∧Alike (ltC cf) (X2++Y2) (X2++Y2)∧RowQ w0 g ((A++M1)++((X2++Y2)++C)) wr):=⟨by simp,(fun z hz=>hz),HE2.out (.inr g2),Alike.refl _ _,by simpa using Hr1.out⟩
         clear HIh2 Hr1
         have HF:Hid (zac (ltC cf) w0 g A (X++Y) C wr):=HFin.out M1 _ _ Hs1.out Hs2.out
         clear HFin
         go_wp2_with fail
         exact bodyPost_end (v:=.tuple #[]) (by simp [results,Tryz.results121,go_sem]) rfl ⟨rfl,HF.out⟩
       ·have g1' : ¬((mid:Int)<(E:Int)):=by omega
        have Hs2:Hid ((X2++Y2).length=X2.length+Y2.length∧(∀z∈X2++Y2,z∈X2++Y2)∧Up (ltC cf) (X2++Y2)∧Alike (ltC cf) (X2++Y2) (X2++Y2)∧RowQ w0 g ((A++M1)++((X2++Y2)++C)) wr):=⟨by simp,(fun z hz=>hz),HE2.out (.inl g1),Alike.refl _ _,by simpa using Hr1.out⟩
        clear HIh2 Hr1
        have HF:Hid (zac (ltC cf) w0 g A (X++Y) C wr):=HFin.out M1 _ _ Hs1.out Hs2.out
        clear HFin
        go_wp2_with fail
        exact bodyPost_end (v:=.tuple #[]) (by simp [results,Tryz.results121,go_sem]) rfl ⟨rfl,HF.out⟩
     ·have f1' : ¬((a:Int)<(r:Int)):=by omega
      obtain⟨M1,hM1⟩:∃M1,M1=X1++Y1:=⟨_,rfl⟩
      have Hs1:Hid (M1.length=X1.length+Y1.length∧(∀z∈M1,z∈X1++Y1)∧Up (ltC cf) M1∧Alike (ltC cf) M1 (X1++Y1)):=by rw [hM1];exact⟨by simp,(fun z hz=>hz),HE1.out (.inl f1),Alike.refl _ _⟩
      have Hr1:Hid (RowQ w0 g ((A++M1)++(X2++(Y2++C))) wr):=by show RowQ _ _ _ _;rw [hM1];simpa using Hrow1.out
      clear hM1 HIh1 Hrow1
      by_cases g1:mid<E
      ·by_cases g2:E<b
       ·go_wp2_with fail
        refine (HIh2.out M1 _ g1 g2 Hs1.out Hr1.out).mono ?_
        rintro e w3 ⟨rfl,hs3⟩
        obtain⟨M2,k1,k2,k3,k4,k5⟩:=hs3
        have Hs2:Hid (M2.length=X2.length+Y2.length∧(∀z∈M2,z∈X2++Y2)∧Up (ltC cf) M2∧Alike (ltC cf) M2 (X2++Y2)∧RowQ w0 g ((A++M1)++(M2++C)) w3):=⟨by simpa using k1,k2,k3,k4,k5⟩
        clear k1 k2 k3 k4 k5 HIh2 Hr1
        have HF:Hid (zac (ltC cf) w0 g A (X++Y) C w3):=HFin.out M1 _ _ Hs1.out Hs2.out
        clear HFin
        go_wp2_with fail
        exact bodyPost_end (v:=.tuple #[]) (by simp [results,Tryz.results121,go_sem]) rfl ⟨rfl,HF.out⟩
       ·have g2' : ¬((E:Int)<(b:Int)):=by omega
        have Hs2:Hid ((X2++Y2).length=X2.length+Y2.length∧(∀z∈X2++Y2,z∈X2++Y2)∧Up (ltC cf) (X2++Y2)∧Alike (ltC cf) (X2++Y2) (X2++Y2)∧RowQ w0 g ((A++M1)++((X2++Y2)++C)) wr):=⟨by simp,(fun z hz=>hz),HE2.out (.inr g2),Alike.refl _ _,by simpa using Hr1.out⟩
        clear HIh2 Hr1
        have HF:Hid (zac (ltC cf) w0 g A (X++Y) C wr):=HFin.out M1 _ _ Hs1.out Hs2.out
        clear HFin
        go_wp2_with fail
        exact bodyPost_end (v:=.tuple #[]) (by simp [results,Tryz.results121,go_sem]) rfl ⟨rfl,HF.out⟩
      ·have g1' : ¬((mid:Int)<(E:Int)):=by omega
       have Hs2:Hid ((X2++Y2).length=X2.length+Y2.length∧(∀z∈X2++Y2,z∈X2++Y2)∧Up (ltC cf) (X2++Y2)∧Alike (ltC cf) (X2++Y2) (X2++Y2)∧RowQ w0 g ((A++M1)++((X2++Y2)++C)) wr):=⟨by simp,(fun z hz=>hz),HE2.out (.inl g1),Alike.refl _ _,by simpa using Hr1.out⟩
       clear HIh2 Hr1
       have HF:Hid (zac (ltC cf) w0 g A (X++Y) C wr):=HFin.out M1 _ _ Hs1.out Hs2.out
       clear HFin
       go_wp2_with fail
       exact bodyPost_end (v:=.tuple #[]) (by simp [results,Tryz.results121,go_sem]) rfl ⟨rfl,HF.out⟩
 ·have hmi : ¬(mid:Int)<(m:Int):=by omega
  clear hc hwk hX hY hG ha hm hb hL hR hD hF hp
  have HBd:Hid (Bds X.length Y.length a m b n mid a m):=⟨HMm.out,HBb.out,hn,hmid,hX2,hY2,.inr ⟨by omega,rfl,rfl⟩⟩
  have hbs:=HBd.out.start
  have HS0:Hid (Sec (ltC cf) X Y a m n a m a m):=Sec.begin _ _ _ _ _ _ _ _ hbs.1
  clear hbs hn hmid hX2 hY2
  go_enter Tryz.func121,Tryz.ntmps121
  go_wp2_with fail
  go_loopg [20,21] (m-a) (fun z vi vj wr=>∃(s r:Nat),vi=.int .i64 (s:Int)∧vj=.int .i64 (r:Int)∧z=r-s∧Hid (Sec (ltC cf) X Y a m n a m s r)∧Hid (RowQ w0 g (A++(X++(Y++C))) wr))
  case atStart=>exact⟨a,m,rfl,rfl,rfl,HS0,HR0⟩
  case round=>
   obtain⟨s,r,rfl,rfl,hk,HS,HR⟩:=hrel
   have Hk:Hid _:=hk
   clear hk HS0 HR0
   have s1:=HS.out.s1
   have s2:=HS.out.s2
   have s3:=HS.out.s3
   by_cases hij:s<r
   ·obtain⟨h,hh⟩:∃h,h=(s+r) / 2:=⟨_,rfl⟩
    have Hh:Hid (h=(s+r) / 2):=hh
    have hd:((s:Int)+(r:Int)) / 2=(h:Int):=by omega
    have ok:=HBd.out.ok h (by omega) (by omega)
    obtain⟨⟨o1,o2⟩,⟨o3,o4⟩,o5⟩:=ok
    have ha':=HA.out
    have hm':=HMm.out
    have hb':=HBb.out
    obtain⟨q,hq⟩:∃q,q=n-1-h:=⟨_,rfl⟩
    have hpn:=Hp.out
    have hwq:IntKind.i64.wrap ((p:Int)-(h:Int))=(q:Int):=by rw [IntKind.wrap_i64];omega
    have e2:(A++(X++(Y++C)))[h]? = some X[h-a]:=by
     rw [List.getElem?_append_right (by omega)]
     have:h-A.length=h-a:=by omega
     rw [this,List.getElem?_append_left o2,List.getElem?_eq_getElem o2]
    have e1:(A++(X++(Y++C)))[q]? = some Y[n-1-h-m]:=by
     rw [List.getElem?_append_right (by omega),List.getElem?_append_right (by omega)]
     have:q-A.length-X.length=n-1-h-m:=by omega
     rw [this,List.getElem?_append_left o4,List.getElem?_eq_getElem o4]
    have Gy:=HGY.out Y[n-1-h-m] (List.getElem_mem o4)
    have Gx:=HGX.out X[h-a] (List.getElem_mem o2)
    obtain⟨⟨r0,r1,r2,r3,r4,r5,r6,r7⟩,_⟩:=HR.out.cells q Y[n-1-h-m] e1
    obtain⟨⟨p0,p1,p2,p3,p4,p5,p6,p7⟩,_⟩:=HR.out.cells h X[h-a] e2
    have HL1:Hid (ltC cf Y[n-1-h-m] X[h-a]=false→Sec (ltC cf) X Y a m n a m (h+1) r):=fun hl=>HS.out.less HW.out HX.out HY.out HBd.out h (by omega) (by omega) o2 o4 hl
    have HL2:Hid (ltC cf Y[n-1-h-m] X[h-a]=true→Sec (ltC cf) X Y a m n a m s h):=fun hl=>HS.out.more HW.out HX.out HY.out HBd.out h (by omega) (by omega) o2 o4 hl
    have hb0:Below w0.heap.size w0 wr:=HR.out.below
    generalize X[h-a]=x at *
    generalize Y[n-1-h-m]=y at *
    obtain⟨⟨pa,pn,pc,sx1⟩,⟨pb,pm,pd,sx2⟩⟩:=GoodQ.slq (d:=d) (W:=w0) (ps:=[x]) (fun p hp=>by rw [List.mem_singleton.1 hp];exact Gx) x (by simp)
    obtain⟨⟨ra,rn,rc,sy1⟩,⟨rb,rm,rd,sy2⟩⟩:=GoodQ.slq (d:=d) (W:=w0) (ps:=[y]) (fun p hp=>by rw [List.mem_singleton.1 hp];exact Gy) y (by simp)
    rw [sx1] at p3;rw [sx2] at p7;rw [sy1] at r3;rw [sy2] at r7
    have HCe:Hid (∀W,Below w0.heap.size w0 W→Calls Tryz.prog f #[.agg #[.int .i64 y.1.1.kind,.int .i64 y.1.1.num,.string y.1.1.text,.slice ra rn rc,.int .i64 y.2.1.kind,.int .i64 y.2.1.num,.string y.2.1.text,.slice rb rm rd],.agg #[.int .i64 x.1.1.kind,.int .i64 x.1.1.num,.string x.1.1.text,.slice pa pn pc,.int .i64 x.2.1.kind,.int .i64 x.2.1.num,.string x.2.1.text,.slice pb pm pd]] W fun e W'=>e=.returned (.int .i64 (cf y x))∧Below W.heap.size W W'):=fun W hW=>by
     have h':=HC.out y x W (Gy.keeps hW) (Gx.keeps hW)
     simp only [encQ,encP,sx1,sx2,sy1,sy2,List.cons_append,List.nil_append] at h'
     exact h'
    have hhl:h<L:=by omega
    have hql:q<L:=by omega
    have hhi:(h:Int)<(L:Nat):=by omega
    have hqi:(q:Int)<(L:Nat):=by omega
    have HZ1:Hid (¬cf y x<0→Sec (ltC cf) X Y a m n a m (h+1) r):=fun hz=>HL1.out (decide_eq_false hz)
    have HZ2:Hid (cf y x<0→Sec (ltC cf) X Y a m n a m s h):=fun hz=>HL2.out (decide_eq_true hz)
    clear HL1 HL2 Gx Gy sx1 sx2 sy1 sy2 e1 e2 o1 o2 o3 o4 o5 ha' hm' hb' HS s1 s2 s3 hh hq hpn
    generalize hZ:cf y x=Z at *
    clear hZ
    go_wp2_with fail
    go_region_held3 (fun w'=>(w'.cell? ⟨g,q*8,none⟩=some (.int .i64 y.1.1.kind)∧w'.cell? ⟨g,q*8+1,none⟩=some (.int .i64 y.1.1.num)∧w'.cell? ⟨g,q*8+2,none⟩=some (.string y.1.1.text)∧w'.cell? ⟨g,q*8+3,none⟩=some (.slice ra rn rc)∧w'.cell? ⟨g,q*8+4,none⟩=some (.int .i64 y.2.1.kind)∧w'.cell? ⟨g,q*8+5,none⟩=some (.int .i64 y.2.1.num)∧w'.cell? ⟨g,q*8+6,none⟩=some (.string y.2.1.text)∧w'.cell? ⟨g,q*8+7,none⟩=some (.slice rb rm rd))∧(w'.cell? ⟨g,h*8,none⟩=some (.int .i64 x.1.1.kind)∧w'.cell? ⟨g,h*8+1,none⟩=some (.int .i64 x.1.1.num)∧w'.cell? ⟨g,h*8+2,none⟩=some (.string x.1.1.text)∧w'.cell? ⟨g,h*8+3,none⟩=some (.slice pa pn pc)∧w'.cell? ⟨g,h*8+4,none⟩=some (.int .i64 x.2.1.kind)∧w'.cell? ⟨g,h*8+5,none⟩=some (.int .i64 x.2.1.num)∧w'.cell? ⟨g,h*8+6,none⟩=some (.string x.2.1.text)∧w'.cell? ⟨g,h*8+7,none⟩=some (.slice pb pm pd))) (go_keep)
     (first|(go_at_fn f;refine (HCe.out _ (hb0.trans ((Below.refl _ _).drew.mono hb0.size))).mono ?_;rintro e w1 ⟨rfl,hg1⟩;have hb1:Below wr.heap.size wr w1:=(Below.refl _ _).drew.trans hg1;clear hg1;have p0:=zaa hb1 p0;have p1:=zaa hb1 p1;have p2:=zaa hb1 p2;have p3:=zaa hb1 p3;have p4:=zaa hb1 p4;have p5:=zaa hb1 p5;have p6:=zaa hb1 p6;have p7:=zaa hb1 p7;have r0:=zaa hb1 r0;have r1:=zaa hb1 r1;have r2:=zaa hb1 r2;have r3:=zaa hb1 r3;have r4:=zaa hb1 r4;have r5:=zaa hb1 r5;have r6:=zaa hb1 r6;have r7:=zaa hb1 r7))
    have HR1:Hid (RowQ w0 g (A++(X++(Y++C))) w1):=HR.out.keeps hb1
    clear p0 p1 p2 p3 p4 p5 p6 p7 r0 r1 r2 r3 r4 r5 r6 r7 HR HCe
    by_cases hz:Z<0
    ·have HN:Hid _:=HZ2.out hz
     have hzd:decide (Z<0)=true:=decide_eq_true hz
     have hze:(!decide (Z<0))=false:=by rw [hzd];rfl
     clear HZ1 HZ2
     go_wp2_with fail
     ·exact absurd ‹(!decide (Z<0))=true› (by rw [hze];simp)
     ·go_roundg (h-s)
      case measure=>have:=Hk.out;have:=Hh.out;omega
      case rel=>exact⟨s,h,rfl,rfl,rfl,HN,HR1⟩
    ·have HN:Hid _:=HZ1.out (by omega)
     have hze:(!decide (Z<0))=true:=by rw [decide_eq_false hz];rfl
     clear HZ1 HZ2
     go_wp2_with fail
     ·go_roundg (r-(h+1))
      case measure=>have:=Hk.out;have:=Hh.out;omega
      case rel=>exact⟨h+1,r,by go_num,rfl,rfl,HN,HR1⟩
     ·exact absurd ‹(!decide (Z<0))=false› (by rw [hze];simp)
   ·have hje:r=s:=by omega
    subst hje
    obtain⟨⟨c1,c2⟩,q1,q2⟩:=HS.out.cut HW.out HX.out HY.out HBd.out
    have bs:=HBd.out.start
    have ha':=HA.out
    have hm':=HMm.out
    have hb':=HBb.out
    have hn':=HBd.out.en
    have hmid':=HBd.out.mi
    obtain⟨E,hE⟩:∃E,E=n-r:=⟨_,rfl⟩
    have hwE:IntKind.i64.wrap ((n:Int)-(r:Int))=(E:Int):=by rw [IntKind.wrap_i64];omega
    obtain⟨X1,hX1⟩:∃X1,X1=X.take (r-a):=⟨_,rfl⟩
    obtain⟨X2,hX2⟩:∃X2,X2=X.drop (r-a):=⟨_,rfl⟩
    obtain⟨Y1,hY1⟩:∃Y1,Y1=Y.take (n-r-m):=⟨_,rfl⟩
    obtain⟨Y2,hY2⟩:∃Y2,Y2=Y.drop (n-r-m):=⟨_,rfl⟩
    rw [←hX2,←hY1] at q1
    rw [←hX1,←hY2] at q2
    have hXe:X1++X2=X:=by rw [hX1,hX2];exact List.take_append_drop _ _
    have hYe:Y1++Y2=Y:=by rw [hY1,hY2];exact List.take_append_drop _ _
    have l1:X1.length=r-a:=by rw [hX1,List.length_take];omega
    have l2:Y1.length=E-m:=by rw [hY1,List.length_take];omega
    have l3:X1.length+X2.length=X.length:=by rw [←hXe];simp
    have l4:Y1.length+Y2.length=Y.length:=by rw [←hYe];simp
    have HRow:Hid (RowQ w0 g ((A++X1)++(X2++(Y1++(Y2++C)))) wr):=by show RowQ _ _ _ _;have:=HR.out;rw [←hXe,←hYe] at this;simpa using this
    have HLL:Hid (L=A.length+X1.length+X2.length+Y1.length+Y2.length+C.length):=by show _=_;have:=HLl.out;simp at this;omega
    have HGo:Hid (∀p,p∈A∨p∈X1∨p∈X2∨p∈Y1∨p∈Y2∨p∈C→GoodQ d w0 p):=fun p hp=>HG.out p (by rw [←hXe,←hYe];simp;rcases hp with h|h|h|h|h|h <;> simp [h])
    have uX:=List.pairwise_append.1 (show Up (ltC cf) (X1++X2) by rw [hXe];exact HX.out)
    have uY:=List.pairwise_append.1 (show Up (ltC cf) (Y1++Y2) by rw [hYe];exact HY.out)
    have HRn:Hid ((¬r<m∨¬m<E)→RowQ w0 g (A++(X1++(Y1++(X2++(Y2++C))))) wr):=fun h=>by
     rcases h with h|h
     ·have e:X2=[]:=List.eq_nil_of_length_eq_zero (by omega)
      have:=HRow.out
      rw [e] at this ⊢
      simpa using this
     ·have e:Y1=[]:=List.eq_nil_of_length_eq_zero (by omega)
      have:=HRow.out
      rw [e] at this ⊢
      simpa using this
    have HRo:Hid (r<m→m<E→Calls Tryz.prog 125 #[.slice (some ⟨g,0,none⟩) L cap,.int .i64 r,.int .i64 m,.int .i64 E,.func (.func f) #[] #[]] wr fun e w'=>e=.returned (.tuple #[])∧RowQ w0 g ((A++X1)++(Y1++(X2++(Y2++C)))) w'):=fun h1 h2=>rotate_any w0 g cap r m E L _ (A++X1) X2 Y1 (Y2++C) wr hg (by simp;omega) (by simp;omega) (by simp;omega) (by omega) (by omega) (by have:=HLL.out;simp;omega) HRow.out (GoodQ.slq (d:=d) (W:=w0) (fun p hp=>HGo.out p (by simp at hp ⊢;rcases hp with h|h|h|h|h|h <;> simp [h]))) hlen
    have HE1:Hid ((¬a<r∨¬r<mid)→Up (ltC cf) (X1++Y1)):=fun h=>by
     rcases h with h|h
     ·have e:X1=[]:=List.eq_nil_of_length_eq_zero (by omega)
      rw [e];exact uY.1
     ·have e:Y1=[]:=List.eq_nil_of_length_eq_zero (by omega)
      rw [e,List.append_nil];exact uX.1
    have HE2:Hid ((¬mid<E∨¬E<b)→Up (ltC cf) (X2++Y2)):=fun h=>by
     rcases h with h|h
     ·have e:X2=[]:=List.eq_nil_of_length_eq_zero (by omega)
      rw [e];exact uY.2.1
     ·have e:Y2=[]:=List.eq_nil_of_length_eq_zero (by omega)
      rw [e,List.append_nil];exact uX.2.1
    have HIh1:Hid (∀W,a<r→r<mid→RowQ w0 g (A++(X1++(Y1++(X2++(Y2++C))))) W→Calls Tryz.prog 121 #[.slice (some ⟨g,0,none⟩) L cap,.int .i64 a,.int .i64 r,.int .i64 mid,.func (.func f) #[] #[]] W fun e w'=>e=.returned (.tuple #[])∧zac (ltC cf) w0 g A (X1++Y1) (X2++(Y2++C)) w'):=fun W h1 h2 hR=>ih.out A X1 Y1 (X2++(Y2++C)) a r mid W (by omega) (by omega) (by omega) ha' (by omega) (by omega) (by have:=HLL.out;simp;omega) hR (fun p hp=>HGo.out p (by simp at hp ⊢;rcases hp with h|h|h|h|h|h <;> simp [h])) uX.1 uY.1
    have HIh2:Hid (∀(M1:List PP) (W:World),mid<E→E<b→(M1.length=X1.length+Y1.length∧(∀z∈M1,z∈X1++Y1)∧Up (ltC cf) M1∧Alike (ltC cf) M1 (X1++Y1))→RowQ w0 g ((A++M1)++(X2++(Y2++C))) W→Calls Tryz.prog 121 #[.slice (some ⟨g,0,none⟩) L cap,.int .i64 mid,.int .i64 E,.int .i64 b,.func (.func f) #[] #[]] W fun e w'=>e=.returned (.tuple #[])∧zac (ltC cf) w0 g (A++M1) (X2++Y2) C w'):=fun M1 W h1 h2 hM hR=>ih.out (A++M1) X2 Y2 C mid E b W (by omega) (by omega) (by omega) (by have:=hM.1;simp;omega) (by omega) (by omega) (by have:=HLL.out;have:=hM.1;simp;omega) hR (fun p hp=>HGo.out p (by
     have hz:=hM.2.1 p
     simp at hp hz ⊢
     rcases hp with h|h|h|h|h
     ·simp [h]
     ·rcases hz h with k|k <;> simp [k]
     ·simp [h]
     ·simp [h]
     ·simp [h])) uX.2.1 uY.2.1
    have HFin:Hid (∀(M1 M2:List PP) (W:World),(M1.length=X1.length+Y1.length∧(∀z∈M1,z∈X1++Y1)∧Up (ltC cf) M1∧Alike (ltC cf) M1 (X1++Y1))→(M2.length=X2.length+Y2.length∧(∀z∈M2,z∈X2++Y2)∧Up (ltC cf) M2∧Alike (ltC cf) M2 (X2++Y2)∧RowQ w0 g ((A++M1)++(M2++C)) W)→zac (ltC cf) w0 g A (X++Y) C W):=fun M1 M2 W h1 h2=>by
     have hs:=cut_sorts HW.out X1 X2 Y1 Y2 M1 M2 (by rw [hXe];exact HX.out) (by rw [hYe];exact HY.out) q1 q2 h1.2.2.1 h1.2.2.2 h1.2.1 h2.2.2.1 h2.2.2.2.1 h2.2.1
     rw [hXe,hYe] at hs
     refine⟨M1++M2,by have:=h1.1;have:=h2.1;simp;omega,fun z hz=>hs.2.mem HW.out hz,hs.1,hs.2,by simpa using h2.2.2.2.2⟩
    have har:a≤r:=by omega
    have hrm:r≤mid:=by rcases HBd.out.ends with ⟨_,_,_⟩|⟨_,_,_⟩ <;> omega
    have hmE:mid≤E:=by omega
    have hEb:E≤b:=by omega
    clear HR HS HRow HLL HGo uX uY hXe hYe l1 l2 l3 l4 hX1 hX2 hY1 hY2 q1 q2 c1 c2 bs ha' hm' hb' hn' hmid' hE ih HC HW HX HY HG HGX HGY HBd s1 s2 s3 hij
    by_cases e1:r<m
    ·by_cases e2:m<E
     ·go_wp2_with fail
      refine (HRo.out e1 e2).mono ?_
      rintro e w1 ⟨rfl,hr1⟩
      have Hrow1:Hid (RowQ w0 g (A++(X1++(Y1++(X2++(Y2++C))))) w1):=by show RowQ _ _ _ _;simpa using hr1
      clear hr1 HRo HRn
      by_cases f1:a<r
      ·by_cases f2:r<mid
       ·go_wp2_with fail
        refine (HIh1.out _ f1 f2 Hrow1.out).mono ?_
        rintro e w2 ⟨rfl,hs2⟩
        obtain⟨M1,k1,k2,k3,k4,k5⟩:=hs2
        have Hs1:Hid (M1.length=X1.length+Y1.length∧(∀z∈M1,z∈X1++Y1)∧Up (ltC cf) M1∧Alike (ltC cf) M1 (X1++Y1)):=⟨by simpa using k1,k2,k3,k4⟩
        have Hr1:Hid (RowQ w0 g ((A++M1)++(X2++(Y2++C))) w2):=by show RowQ _ _ _ _;simpa using k5
        clear k1 k2 k3 k4 k5 HIh1 Hrow1
        by_cases g1:mid<E
        ·by_cases g2:E<b
         ·go_wp2_with fail
          refine (HIh2.out M1 _ g1 g2 Hs1.out Hr1.out).mono ?_
          rintro e w3 ⟨rfl,hs3⟩
          obtain⟨M2,k1,k2,k3,k4,k5⟩:=hs3
          have Hs2:Hid (M2.length=X2.length+Y2.length∧(∀z∈M2,z∈X2++Y2)∧Up (ltC cf) M2∧Alike (ltC cf) M2 (X2++Y2)∧RowQ w0 g ((A++M1)++(M2++C)) w3):=⟨by simpa using k1,k2,k3,k4,k5⟩
          clear k1 k2 k3 k4 k5 HIh2 Hr1
          have HF:Hid (zac (ltC cf) w0 g A (X++Y) C w3):=HFin.out M1 _ _ Hs1.out Hs2.out
          clear HFin
          go_wp2_with fail
          exact bodyPost_end (v:=.tuple #[]) (by simp [results,Tryz.results121,go_sem]) rfl ⟨rfl,HF.out⟩
         ·have g2' : ¬((E:Int)<(b:Int)):=by omega
          have Hs2:Hid ((X2++Y2).length=X2.length+Y2.length∧(∀z∈X2++Y2,z∈X2++Y2)∧Up (ltC cf) (X2++Y2)∧Alike (ltC cf) (X2++Y2) (X2++Y2)∧RowQ w0 g ((A++M1)++((X2++Y2)++C)) w2):=⟨by simp,(fun z hz=>hz),HE2.out (.inr g2),Alike.refl _ _,by simpa using Hr1.out⟩
          clear HIh2 Hr1
          have HF:Hid (zac (ltC cf) w0 g A (X++Y) C w2):=HFin.out M1 _ _ Hs1.out Hs2.out
          clear HFin
          go_wp2_with fail
          exact bodyPost_end (v:=.tuple #[]) (by simp [results,Tryz.results121,go_sem]) rfl ⟨rfl,HF.out⟩
        ·have g1' : ¬((mid:Int)<(E:Int)):=by omega
         have Hs2:Hid ((X2++Y2).length=X2.length+Y2.length∧(∀z∈X2++Y2,z∈X2++Y2)∧Up (ltC cf) (X2++Y2)∧Alike (ltC cf) (X2++Y2) (X2++Y2)∧RowQ w0 g ((A++M1)++((X2++Y2)++C)) w2):=⟨by simp,(fun z hz=>hz),HE2.out (.inl g1),Alike.refl _ _,by simpa using Hr1.out⟩
         clear HIh2 Hr1
         have HF:Hid (zac (ltC cf) w0 g A (X++Y) C w2):=HFin.out M1 _ _ Hs1.out Hs2.out
         clear HFin
         go_wp2_with fail
         exact bodyPost_end (v:=.tuple #[]) (by simp [results,Tryz.results121,go_sem]) rfl ⟨rfl,HF.out⟩
       ·have f2' : ¬((r:Int)<(mid:Int)):=by omega
        obtain⟨M1,hM1⟩:∃M1,M1=X1++Y1:=⟨_,rfl⟩
        have Hs1:Hid (M1.length=X1.length+Y1.length∧(∀z∈M1,z∈X1++Y1)∧Up (ltC cf) M1∧Alike (ltC cf) M1 (X1++Y1)):=by rw [hM1];exact⟨by simp,(fun z hz=>hz),HE1.out (.inr f2),Alike.refl _ _⟩
        have Hr1:Hid (RowQ w0 g ((A++M1)++(X2++(Y2++C))) w1):=by show RowQ _ _ _ _;rw [hM1];simpa using Hrow1.out
        clear hM1 HIh1 Hrow1
        by_cases g1:mid<E
        ·by_cases g2:E<b
         ·go_wp2_with fail
          refine (HIh2.out M1 _ g1 g2 Hs1.out Hr1.out).mono ?_
          rintro e w3 ⟨rfl,hs3⟩
          obtain⟨M2,k1,k2,k3,k4,k5⟩:=hs3
          have Hs2:Hid (M2.length=X2.length+Y2.length∧(∀z∈M2,z∈X2++Y2)∧Up (ltC cf) M2∧Alike (ltC cf) M2 (X2++Y2)∧RowQ w0 g ((A++M1)++(M2++C)) w3):=⟨by simpa using k1,k2,k3,k4,k5⟩
          clear k1 k2 k3 k4 k5 HIh2 Hr1
          have HF:Hid (zac (ltC cf) w0 g A (X++Y) C w3):=HFin.out M1 _ _ Hs1.out Hs2.out
          clear HFin
          go_wp2_with fail
          exact bodyPost_end (v:=.tuple #[]) (by simp [results,Tryz.results121,go_sem]) rfl ⟨rfl,HF.out⟩
         ·have g2' : ¬((E:Int)<(b:Int)):=by omega
          have Hs2:Hid ((X2++Y2).length=X2.length+Y2.length∧(∀z∈X2++Y2,z∈X2++Y2)∧Up (ltC cf) (X2++Y2)∧Alike (ltC cf) (X2++Y2) (X2++Y2)∧RowQ w0 g ((A++M1)++((X2++Y2)++C)) w1):=⟨by simp,(fun z hz=>hz),HE2.out (.inr g2),Alike.refl _ _,by simpa using Hr1.out⟩
          clear HIh2 Hr1
          have HF:Hid (zac (ltC cf) w0 g A (X++Y) C w1):=HFin.out M1 _ _ Hs1.out Hs2.out
          clear HFin
          go_wp2_with fail
          exact bodyPost_end (v:=.tuple #[]) (by simp [results,Tryz.results121,go_sem]) rfl ⟨rfl,HF.out⟩
        ·have g1' : ¬((mid:Int)<(E:Int)):=by omega
         have Hs2:Hid ((X2++Y2).length=X2.length+Y2.length∧(∀z∈X2++Y2,z∈X2++Y2)∧Up (ltC cf) (X2++Y2)∧Alike (ltC cf) (X2++Y2) (X2++Y2)∧RowQ w0 g ((A++M1)++((X2++Y2)++C)) w1):=⟨by simp,(fun z hz=>hz),HE2.out (.inl g1),Alike.refl _ _,by simpa using Hr1.out⟩
         clear HIh2 Hr1
         have HF:Hid (zac (ltC cf) w0 g A (X++Y) C w1):=HFin.out M1 _ _ Hs1.out Hs2.out
         clear HFin
         go_wp2_with fail
         exact bodyPost_end (v:=.tuple #[]) (by simp [results,Tryz.results121,go_sem]) rfl ⟨rfl,HF.out⟩
      ·have f1' : ¬((a:Int)<(r:Int)):=by omega
       obtain⟨M1,hM1⟩:∃M1,M1=X1++Y1:=⟨_,rfl⟩
       have Hs1:Hid (M1.length=X1.length+Y1.length∧(∀z∈M1,z∈X1++Y1)∧Up (ltC cf) M1∧Alike (ltC cf) M1 (X1++Y1)):=by rw [hM1];exact⟨by simp,(fun z hz=>hz),HE1.out (.inl f1),Alike.refl _ _⟩
       have Hr1:Hid (RowQ w0 g ((A++M1)++(X2++(Y2++C))) w1):=by show RowQ _ _ _ _;rw [hM1];simpa using Hrow1.out
       clear hM1 HIh1 Hrow1
       by_cases g1:mid<E
       ·by_cases g2:E<b
        ·go_wp2_with fail
         refine (HIh2.out M1 _ g1 g2 Hs1.out Hr1.out).mono ?_
         rintro e w3 ⟨rfl,hs3⟩
         obtain⟨M2,k1,k2,k3,k4,k5⟩:=hs3
         have Hs2:Hid (M2.length=X2.length+Y2.length∧(∀z∈M2,z∈X2++Y2)∧Up (ltC cf) M2∧Alike (ltC cf) M2 (X2++Y2)∧RowQ w0 g ((A++M1)++(M2++C)) w3):=⟨by simpa using k1,k2,k3,k4,k5⟩
         clear k1 k2 k3 k4 k5 HIh2 Hr1
         have HF:Hid (zac (ltC cf) w0 g A (X++Y) C w3):=HFin.out M1 _ _ Hs1.out Hs2.out
         clear HFin
         go_wp2_with fail
         exact bodyPost_end (v:=.tuple #[]) (by simp [results,Tryz.results121,go_sem]) rfl ⟨rfl,HF.out⟩
        ·have g2' : ¬((E:Int)<(b:Int)):=by omega
         have Hs2:Hid ((X2++Y2).length=X2.length+Y2.length∧(∀z∈X2++Y2,z∈X2++Y2)∧Up (ltC cf) (X2++Y2)∧Alike (ltC cf) (X2++Y2) (X2++Y2)∧RowQ w0 g ((A++M1)++((X2++Y2)++C)) w1):=⟨by simp,(fun z hz=>hz),HE2.out (.inr g2),Alike.refl _ _,by simpa using Hr1.out⟩
         clear HIh2 Hr1
         have HF:Hid (zac (ltC cf) w0 g A (X++Y) C w1):=HFin.out M1 _ _ Hs1.out Hs2.out
         clear HFin
         go_wp2_with fail
         exact bodyPost_end (v:=.tuple #[]) (by simp [results,Tryz.results121,go_sem]) rfl ⟨rfl,HF.out⟩
       ·have g1' : ¬((mid:Int)<(E:Int)):=by omega
        have Hs2:Hid ((X2++Y2).length=X2.length+Y2.length∧(∀z∈X2++Y2,z∈X2++Y2)∧Up (ltC cf) (X2++Y2)∧Alike (ltC cf) (X2++Y2) (X2++Y2)∧RowQ w0 g ((A++M1)++((X2++Y2)++C)) w1):=⟨by simp,(fun z hz=>hz),HE2.out (.inl g1),Alike.refl _ _,by simpa using Hr1.out⟩
        clear HIh2 Hr1
        have HF:Hid (zac (ltC cf) w0 g A (X++Y) C w1):=HFin.out M1 _ _ Hs1.out Hs2.out
        clear HFin
        go_wp2_with fail
        exact bodyPost_end (v:=.tuple #[]) (by simp [results,Tryz.results121,go_sem]) rfl ⟨rfl,HF.out⟩
     ·have e2' : ¬((m:Int)<(E:Int)):=by omega
      have Hrow1:Hid (RowQ w0 g (A++(X1++(Y1++(X2++(Y2++C))))) wr):=HRn.out (.inr e2)
      clear HRo HRn
      by_cases f1:a<r
      ·by_cases f2:r<mid
       ·go_wp2_with fail
        refine (HIh1.out _ f1 f2 Hrow1.out).mono ?_
        rintro e w2 ⟨rfl,hs2⟩
        obtain⟨M1,k1,k2,k3,k4,k5⟩:=hs2
        have Hs1:Hid (M1.length=X1.length+Y1.length∧(∀z∈M1,z∈X1++Y1)∧Up (ltC cf) M1∧Alike (ltC cf) M1 (X1++Y1)):=⟨by simpa using k1,k2,k3,k4⟩
        have Hr1:Hid (RowQ w0 g ((A++M1)++(X2++(Y2++C))) w2):=by show RowQ _ _ _ _;simpa using k5
        clear k1 k2 k3 k4 k5 HIh1 Hrow1
        by_cases g1:mid<E
        ·by_cases g2:E<b
         ·go_wp2_with fail
          refine (HIh2.out M1 _ g1 g2 Hs1.out Hr1.out).mono ?_
          rintro e w3 ⟨rfl,hs3⟩
          obtain⟨M2,k1,k2,k3,k4,k5⟩:=hs3
          have Hs2:Hid (M2.length=X2.length+Y2.length∧(∀z∈M2,z∈X2++Y2)∧Up (ltC cf) M2∧Alike (ltC cf) M2 (X2++Y2)∧RowQ w0 g ((A++M1)++(M2++C)) w3):=⟨by simpa using k1,k2,k3,k4,k5⟩
          clear k1 k2 k3 k4 k5 HIh2 Hr1
          have HF:Hid (zac (ltC cf) w0 g A (X++Y) C w3):=HFin.out M1 _ _ Hs1.out Hs2.out
          clear HFin
          go_wp2_with fail
          exact bodyPost_end (v:=.tuple #[]) (by simp [results,Tryz.results121,go_sem]) rfl ⟨rfl,HF.out⟩
         ·have g2' : ¬((E:Int)<(b:Int)):=by omega
          have Hs2:Hid ((X2++Y2).length=X2.length+Y2.length∧(∀z∈X2++Y2,z∈X2++Y2)∧Up (ltC cf) (X2++Y2)∧Alike (ltC cf) (X2++Y2) (X2++Y2)∧RowQ w0 g ((A++M1)++((X2++Y2)++C)) w2):=⟨by simp,(fun z hz=>hz),HE2.out (.inr g2),Alike.refl _ _,by simpa using Hr1.out⟩
          clear HIh2 Hr1
          have HF:Hid (zac (ltC cf) w0 g A (X++Y) C w2):=HFin.out M1 _ _ Hs1.out Hs2.out
          clear HFin
          go_wp2_with fail
          exact bodyPost_end (v:=.tuple #[]) (by simp [results,Tryz.results121,go_sem]) rfl ⟨rfl,HF.out⟩
        ·have g1' : ¬((mid:Int)<(E:Int)):=by omega
         have Hs2:Hid ((X2++Y2).length=X2.length+Y2.length∧(∀z∈X2++Y2,z∈X2++Y2)∧Up (ltC cf) (X2++Y2)∧Alike (ltC cf) (X2++Y2) (X2++Y2)∧RowQ w0 g ((A++M1)++((X2++Y2)++C)) w2):=⟨by simp,(fun z hz=>hz),HE2.out (.inl g1),Alike.refl _ _,by simpa using Hr1.out⟩
         clear HIh2 Hr1
         have HF:Hid (zac (ltC cf) w0 g A (X++Y) C w2):=HFin.out M1 _ _ Hs1.out Hs2.out
         clear HFin
         go_wp2_with fail
         exact bodyPost_end (v:=.tuple #[]) (by simp [results,Tryz.results121,go_sem]) rfl ⟨rfl,HF.out⟩
       ·have f2' : ¬((r:Int)<(mid:Int)):=by omega
        obtain⟨M1,hM1⟩:∃M1,M1=X1++Y1:=⟨_,rfl⟩
        have Hs1:Hid (M1.length=X1.length+Y1.length∧(∀z∈M1,z∈X1++Y1)∧Up (ltC cf) M1∧Alike (ltC cf) M1 (X1++Y1)):=by rw [hM1];exact⟨by simp,(fun z hz=>hz),HE1.out (.inr f2),Alike.refl _ _⟩
        have Hr1:Hid (RowQ w0 g ((A++M1)++(X2++(Y2++C))) wr):=by show RowQ _ _ _ _;rw [hM1];simpa using Hrow1.out
        clear hM1 HIh1 Hrow1
        by_cases g1:mid<E
        ·by_cases g2:E<b
         ·go_wp2_with fail
          refine (HIh2.out M1 _ g1 g2 Hs1.out Hr1.out).mono ?_
          rintro e w3 ⟨rfl,hs3⟩
          obtain⟨M2,k1,k2,k3,k4,k5⟩:=hs3
          have Hs2:Hid (M2.length=X2.length+Y2.length∧(∀z∈M2,z∈X2++Y2)∧Up (ltC cf) M2∧Alike (ltC cf) M2 (X2++Y2)∧RowQ w0 g ((A++M1)++(M2++C)) w3):=⟨by simpa using k1,k2,k3,k4,k5⟩
          clear k1 k2 k3 k4 k5 HIh2 Hr1
          have HF:Hid (zac (ltC cf) w0 g A (X++Y) C w3):=HFin.out M1 _ _ Hs1.out Hs2.out
          clear HFin
          go_wp2_with fail
          exact bodyPost_end (v:=.tuple #[]) (by simp [results,Tryz.results121,go_sem]) rfl ⟨rfl,HF.out⟩
         ·have g2' : ¬((E:Int)<(b:Int)):=by omega
          have Hs2:Hid ((X2++Y2).length=X2.length+Y2.length∧(∀z∈X2++Y2,z∈X2++Y2)∧Up (ltC cf) (X2++Y2)∧Alike (ltC cf) (X2++Y2) (X2++Y2)∧RowQ w0 g ((A++M1)++((X2++Y2)++C)) wr):=⟨by simp,(fun z hz=>hz),HE2.out (.inr g2),Alike.refl _ _,by simpa using Hr1.out⟩
          clear HIh2 Hr1
          have HF:Hid (zac (ltC cf) w0 g A (X++Y) C wr):=HFin.out M1 _ _ Hs1.out Hs2.out
          clear HFin
          go_wp2_with fail
          exact bodyPost_end (v:=.tuple #[]) (by simp [results,Tryz.results121,go_sem]) rfl ⟨rfl,HF.out⟩
        ·have g1' : ¬((mid:Int)<(E:Int)):=by omega
         have Hs2:Hid ((X2++Y2).length=X2.length+Y2.length∧(∀z∈X2++Y2,z∈X2++Y2)∧Up (ltC cf) (X2++Y2)∧Alike (ltC cf) (X2++Y2) (X2++Y2)∧RowQ w0 g ((A++M1)++((X2++Y2)++C)) wr):=⟨by simp,(fun z hz=>hz),HE2.out (.inl g1),Alike.refl _ _,by simpa using Hr1.out⟩
         clear HIh2 Hr1
         have HF:Hid (zac (ltC cf) w0 g A (X++Y) C wr):=HFin.out M1 _ _ Hs1.out Hs2.out
         clear HFin
         go_wp2_with fail
         exact bodyPost_end (v:=.tuple #[]) (by simp [results,Tryz.results121,go_sem]) rfl ⟨rfl,HF.out⟩
      ·have f1' : ¬((a:Int)<(r:Int)):=by omega
       obtain⟨M1,hM1⟩:∃M1,M1=X1++Y1:=⟨_,rfl⟩
       have Hs1:Hid (M1.length=X1.length+Y1.length∧(∀z∈M1,z∈X1++Y1)∧Up (ltC cf) M1∧Alike (ltC cf) M1 (X1++Y1)):=by rw [hM1];exact⟨by simp,(fun z hz=>hz),HE1.out (.inl f1),Alike.refl _ _⟩
       have Hr1:Hid (RowQ w0 g ((A++M1)++(X2++(Y2++C))) wr):=by show RowQ _ _ _ _;rw [hM1];simpa using Hrow1.out
       clear hM1 HIh1 Hrow1
       by_cases g1:mid<E
       ·by_cases g2:E<b
        ·go_wp2_with fail
         refine (HIh2.out M1 _ g1 g2 Hs1.out Hr1.out).mono ?_
         rintro e w3 ⟨rfl,hs3⟩
         obtain⟨M2,k1,k2,k3,k4,k5⟩:=hs3
         have Hs2:Hid (M2.length=X2.length+Y2.length∧(∀z∈M2,z∈X2++Y2)∧Up (ltC cf) M2∧Alike (ltC cf) M2 (X2++Y2)∧RowQ w0 g ((A++M1)++(M2++C)) w3):=⟨by simpa using k1,k2,k3,k4,k5⟩
         clear k1 k2 k3 k4 k5 HIh2 Hr1
         have HF:Hid (zac (ltC cf) w0 g A (X++Y) C w3):=HFin.out M1 _ _ Hs1.out Hs2.out
         clear HFin
         go_wp2_with fail
         exact bodyPost_end (v:=.tuple #[]) (by simp [results,Tryz.results121,go_sem]) rfl ⟨rfl,HF.out⟩
        ·have g2' : ¬((E:Int)<(b:Int)):=by omega
         have Hs2:Hid ((X2++Y2).length=X2.length+Y2.length∧(∀z∈X2++Y2,z∈X2++Y2)∧Up (ltC cf) (X2++Y2)∧Alike (ltC cf) (X2++Y2) (X2++Y2)∧RowQ w0 g ((A++M1)++((X2++Y2)++C)) wr):=⟨by simp,(fun z hz=>hz),HE2.out (.inr g2),Alike.refl _ _,by simpa using Hr1.out⟩
         clear HIh2 Hr1
         have HF:Hid (zac (ltC cf) w0 g A (X++Y) C wr):=HFin.out M1 _ _ Hs1.out Hs2.out
         clear HFin
         go_wp2_with fail
         exact bodyPost_end (v:=.tuple #[]) (by simp [results,Tryz.results121,go_sem]) rfl ⟨rfl,HF.out⟩
       ·have g1' : ¬((mid:Int)<(E:Int)):=by omega
        have Hs2:Hid ((X2++Y2).length=X2.length+Y2.length∧(∀z∈X2++Y2,z∈X2++Y2)∧Up (ltC cf) (X2++Y2)∧Alike (ltC cf) (X2++Y2) (X2++Y2)∧RowQ w0 g ((A++M1)++((X2++Y2)++C)) wr):=⟨by simp,(fun z hz=>hz),HE2.out (.inl g1),Alike.refl _ _,by simpa using Hr1.out⟩
        clear HIh2 Hr1
        have HF:Hid (zac (ltC cf) w0 g A (X++Y) C wr):=HFin.out M1 _ _ Hs1.out Hs2.out
        clear HFin
        go_wp2_with fail
        exact bodyPost_end (v:=.tuple #[]) (by simp [results,Tryz.results121,go_sem]) rfl ⟨rfl,HF.out⟩
    ·have e1' : ¬((r:Int)<(m:Int)):=by omega
     have Hrow1:Hid (RowQ w0 g (A++(X1++(Y1++(X2++(Y2++C))))) wr):=HRn.out (.inl e1)
     clear HRo HRn
     by_cases f1:a<r
     ·by_cases f2:r<mid
      ·go_wp2_with fail
       refine (HIh1.out _ f1 f2 Hrow1.out).mono ?_
       rintro e w2 ⟨rfl,hs2⟩
       obtain⟨M1,k1,k2,k3,k4,k5⟩:=hs2
       have Hs1:Hid (M1.length=X1.length+Y1.length∧(∀z∈M1,z∈X1++Y1)∧Up (ltC cf) M1∧Alike (ltC cf) M1 (X1++Y1)):=⟨by simpa using k1,k2,k3,k4⟩
       have Hr1:Hid (RowQ w0 g ((A++M1)++(X2++(Y2++C))) w2):=by show RowQ _ _ _ _;simpa using k5
       clear k1 k2 k3 k4 k5 HIh1 Hrow1
       by_cases g1:mid<E
       ·by_cases g2:E<b
        ·go_wp2_with fail
         refine (HIh2.out M1 _ g1 g2 Hs1.out Hr1.out).mono ?_
         rintro e w3 ⟨rfl,hs3⟩
         obtain⟨M2,k1,k2,k3,k4,k5⟩:=hs3
         have Hs2:Hid (M2.length=X2.length+Y2.length∧(∀z∈M2,z∈X2++Y2)∧Up (ltC cf) M2∧Alike (ltC cf) M2 (X2++Y2)∧RowQ w0 g ((A++M1)++(M2++C)) w3):=⟨by simpa using k1,k2,k3,k4,k5⟩
         clear k1 k2 k3 k4 k5 HIh2 Hr1
         have HF:Hid (zac (ltC cf) w0 g A (X++Y) C w3):=HFin.out M1 _ _ Hs1.out Hs2.out
         clear HFin
         go_wp2_with fail
         exact bodyPost_end (v:=.tuple #[]) (by simp [results,Tryz.results121,go_sem]) rfl ⟨rfl,HF.out⟩
        ·have g2' : ¬((E:Int)<(b:Int)):=by omega
         have Hs2:Hid ((X2++Y2).length=X2.length+Y2.length∧(∀z∈X2++Y2,z∈X2++Y2)∧Up (ltC cf) (X2++Y2)∧Alike (ltC cf) (X2++Y2) (X2++Y2)∧RowQ w0 g ((A++M1)++((X2++Y2)++C)) w2):=⟨by simp,(fun z hz=>hz),HE2.out (.inr g2),Alike.refl _ _,by simpa using Hr1.out⟩
         clear HIh2 Hr1
         have HF:Hid (zac (ltC cf) w0 g A (X++Y) C w2):=HFin.out M1 _ _ Hs1.out Hs2.out
         clear HFin
         go_wp2_with fail
         exact bodyPost_end (v:=.tuple #[]) (by simp [results,Tryz.results121,go_sem]) rfl ⟨rfl,HF.out⟩
       ·have g1' : ¬((mid:Int)<(E:Int)):=by omega
        have Hs2:Hid ((X2++Y2).length=X2.length+Y2.length∧(∀z∈X2++Y2,z∈X2++Y2)∧Up (ltC cf) (X2++Y2)∧Alike (ltC cf) (X2++Y2) (X2++Y2)∧RowQ w0 g ((A++M1)++((X2++Y2)++C)) w2):=⟨by simp,(fun z hz=>hz),HE2.out (.inl g1),Alike.refl _ _,by simpa using Hr1.out⟩
        clear HIh2 Hr1
        have HF:Hid (zac (ltC cf) w0 g A (X++Y) C w2):=HFin.out M1 _ _ Hs1.out Hs2.out
        clear HFin
        go_wp2_with fail
        exact bodyPost_end (v:=.tuple #[]) (by simp [results,Tryz.results121,go_sem]) rfl ⟨rfl,HF.out⟩
      ·have f2' : ¬((r:Int)<(mid:Int)):=by omega
       obtain⟨M1,hM1⟩:∃M1,M1=X1++Y1:=⟨_,rfl⟩
       have Hs1:Hid (M1.length=X1.length+Y1.length∧(∀z∈M1,z∈X1++Y1)∧Up (ltC cf) M1∧Alike (ltC cf) M1 (X1++Y1)):=by rw [hM1];exact⟨by simp,(fun z hz=>hz),HE1.out (.inr f2),Alike.refl _ _⟩
       have Hr1:Hid (RowQ w0 g ((A++M1)++(X2++(Y2++C))) wr):=by show RowQ _ _ _ _;rw [hM1];simpa using Hrow1.out
       clear hM1 HIh1 Hrow1
       by_cases g1:mid<E
       ·by_cases g2:E<b
        ·go_wp2_with fail
         refine (HIh2.out M1 _ g1 g2 Hs1.out Hr1.out).mono ?_
         rintro e w3 ⟨rfl,hs3⟩
         obtain⟨M2,k1,k2,k3,k4,k5⟩:=hs3
         have Hs2:Hid (M2.length=X2.length+Y2.length∧(∀z∈M2,z∈X2++Y2)∧Up (ltC cf) M2∧Alike (ltC cf) M2 (X2++Y2)∧RowQ w0 g ((A++M1)++(M2++C)) w3):=⟨by simpa using k1,k2,k3,k4,k5⟩
         clear k1 k2 k3 k4 k5 HIh2 Hr1
         have HF:Hid (zac (ltC cf) w0 g A (X++Y) C w3):=HFin.out M1 _ _ Hs1.out Hs2.out
         clear HFin
         go_wp2_with fail
         exact bodyPost_end (v:=.tuple #[]) (by simp [results,Tryz.results121,go_sem]) rfl ⟨rfl,HF.out⟩
        ·have g2' : ¬((E:Int)<(b:Int)):=by omega
         have Hs2:Hid ((X2++Y2).length=X2.length+Y2.length∧(∀z∈X2++Y2,z∈X2++Y2)∧Up (ltC cf) (X2++Y2)∧Alike (ltC cf) (X2++Y2) (X2++Y2)∧RowQ w0 g ((A++M1)++((X2++Y2)++C)) wr):=⟨by simp,(fun z hz=>hz),HE2.out (.inr g2),Alike.refl _ _,by simpa using Hr1.out⟩
         clear HIh2 Hr1
         have HF:Hid (zac (ltC cf) w0 g A (X++Y) C wr):=HFin.out M1 _ _ Hs1.out Hs2.out
         clear HFin
         go_wp2_with fail
         exact bodyPost_end (v:=.tuple #[]) (by simp [results,Tryz.results121,go_sem]) rfl ⟨rfl,HF.out⟩
       ·have g1' : ¬((mid:Int)<(E:Int)):=by omega
        have Hs2:Hid ((X2++Y2).length=X2.length+Y2.length∧(∀z∈X2++Y2,z∈X2++Y2)∧Up (ltC cf) (X2++Y2)∧Alike (ltC cf) (X2++Y2) (X2++Y2)∧RowQ w0 g ((A++M1)++((X2++Y2)++C)) wr):=⟨by simp,(fun z hz=>hz),HE2.out (.inl g1),Alike.refl _ _,by simpa using Hr1.out⟩
        clear HIh2 Hr1
        have HF:Hid (zac (ltC cf) w0 g A (X++Y) C wr):=HFin.out M1 _ _ Hs1.out Hs2.out
        clear HFin
        go_wp2_with fail
        exact bodyPost_end (v:=.tuple #[]) (by simp [results,Tryz.results121,go_sem]) rfl ⟨rfl,HF.out⟩
     ·have f1' : ¬((a:Int)<(r:Int)):=by omega
      obtain⟨M1,hM1⟩:∃M1,M1=X1++Y1:=⟨_,rfl⟩
      have Hs1:Hid (M1.length=X1.length+Y1.length∧(∀z∈M1,z∈X1++Y1)∧Up (ltC cf) M1∧Alike (ltC cf) M1 (X1++Y1)):=by rw [hM1];exact⟨by simp,(fun z hz=>hz),HE1.out (.inl f1),Alike.refl _ _⟩
      have Hr1:Hid (RowQ w0 g ((A++M1)++(X2++(Y2++C))) wr):=by show RowQ _ _ _ _;rw [hM1];simpa using Hrow1.out
      clear hM1 HIh1 Hrow1
      by_cases g1:mid<E
      ·by_cases g2:E<b
       ·go_wp2_with fail
        refine (HIh2.out M1 _ g1 g2 Hs1.out Hr1.out).mono ?_
        rintro e w3 ⟨rfl,hs3⟩
        obtain⟨M2,k1,k2,k3,k4,k5⟩:=hs3
        have Hs2:Hid (M2.length=X2.length+Y2.length∧(∀z∈M2,z∈X2++Y2)∧Up (ltC cf) M2∧Alike (ltC cf) M2 (X2++Y2)∧RowQ w0 g ((A++M1)++(M2++C)) w3):=⟨by simpa using k1,k2,k3,k4,k5⟩
        clear k1 k2 k3 k4 k5 HIh2 Hr1
        have HF:Hid (zac (ltC cf) w0 g A (X++Y) C w3):=HFin.out M1 _ _ Hs1.out Hs2.out
        clear HFin
        go_wp2_with fail
        exact bodyPost_end (v:=.tuple #[]) (by simp [results,Tryz.results121,go_sem]) rfl ⟨rfl,HF.out⟩
       ·have g2' : ¬((E:Int)<(b:Int)):=by omega
        have Hs2:Hid ((X2++Y2).length=X2.length+Y2.length∧(∀z∈X2++Y2,z∈X2++Y2)∧Up (ltC cf) (X2++Y2)∧Alike (ltC cf) (X2++Y2) (X2++Y2)∧RowQ w0 g ((A++M1)++((X2++Y2)++C)) wr):=⟨by simp,(fun z hz=>hz),HE2.out (.inr g2),Alike.refl _ _,by simpa using Hr1.out⟩
        clear HIh2 Hr1
        have HF:Hid (zac (ltC cf) w0 g A (X++Y) C wr):=HFin.out M1 _ _ Hs1.out Hs2.out
        clear HFin
        go_wp2_with fail
        exact bodyPost_end (v:=.tuple #[]) (by simp [results,Tryz.results121,go_sem]) rfl ⟨rfl,HF.out⟩
      ·have g1' : ¬((mid:Int)<(E:Int)):=by omega
       have Hs2:Hid ((X2++Y2).length=X2.length+Y2.length∧(∀z∈X2++Y2,z∈X2++Y2)∧Up (ltC cf) (X2++Y2)∧Alike (ltC cf) (X2++Y2) (X2++Y2)∧RowQ w0 g ((A++M1)++((X2++Y2)++C)) wr):=⟨by simp,(fun z hz=>hz),HE2.out (.inl g1),Alike.refl _ _,by simpa using Hr1.out⟩
       clear HIh2 Hr1
       have HF:Hid (zac (ltC cf) w0 g A (X++Y) C wr):=HFin.out M1 _ _ Hs1.out Hs2.out
       clear HFin
       go_wp2_with fail
       exact bodyPost_end (v:=.tuple #[]) (by simp [results,Tryz.results121,go_sem]) rfl ⟨rfl,HF.out⟩
theorem sym_any (f d:Nat) (eg:∀args w,(callFunc f args).run Tryz.prog w=.ok (.enter f args) w) (cf:PP→PP→Int) (hc:CmpQ f (GoodQ d) cf) (hwk:Weak (ltC cf)) (w0:World) (g cap L:Nat) (hg:w0.heap.size≤g) (hlen:L≤65536) :
 ∀(N:Nat) (A X Y C:List PP) (a m b:Nat) (w:World),X.length+Y.length≤N→0<X.length→0<Y.length→a=A.length→m=a+X.length→b=m+Y.length→L=(A++(X++(Y++C))).length→RowQ w0 g (A++(X++(Y++C))) w→(∀p∈A++(X++(Y++C)),GoodQ d w0 p)→Up (ltC cf) X→Up (ltC cf) Y→
  Calls Tryz.prog 121 #[.slice (some ⟨g,0,none⟩) L cap,.int .i64 a,.int .i64 m,.int .i64 b,.func (.func f) #[] #[]] w fun e w'=>e=.returned (.tuple #[])∧zac (ltC cf) w0 g A (X++Y) C w':=by
 intro N
 induction N with
 | zero=>intro A X Y C a m b w hN hX _;omega
 | succ N ih=>
  intro A X Y C a m b w hN hX0 hY0 ha hm hb hL hR hG hX hY
  match X,hX0 with
  | [x],_=>exact sym_left f d eg cf hc hwk w0 g cap a m b L A x Y C w hg ha (by simpa using hm) hb hL hR hG hY hlen
  | x1::x2::X',_=>
   match Y,hY0 with
   | [y],_=>exact sym_right f d eg cf hc hwk w0 g cap a m b L A (x1::x2::X') y C w hg ha hm (by simpa using hb) (by simp) hL hR hG hX hlen
   | y1::y2::Y',_=>
    refine sym_gen f d eg cf hc hwk w0 g cap a m b L A (x1::x2::X') (y1::y2::Y') C w hg ha hm hb (by simp) (by simp) hL hR hG hX hY hlen ?_
    intro A' X'' Y'' C' a' m' b' W hlt h1 h2 h3 h4 h5 h6 h7 h8 h9 h10
    exact ih A' X'' Y'' C' a' m' b' W (by omega) h1 h2 h3 h4 h5 h6 h7 h8 h9 h10
end Go.Proofs.YtcflooaoocngdaaGreat
namespace Go.Proofs.YtcflooaoocngdaaGreat
open Go.RowKit
structure StQ (lt:PP→PP→Bool) (w0:World) (g:Nat) (M0 l:List PP) (wr:World):Prop where
 len:l.length=M0.length
 al:Alike lt l M0
 mem:∀x∈l,x∈M0
 row:RowQ w0 g l wr
theorem StQ.sorted {lt:PP→PP→Bool} {w0:World} {g:Nat} {M0 A M C:List PP} {wr w':World} (h:StQ lt w0 g M0 (A++(M++C)) wr) (hs:zac lt w0 g A M C w'):∃M',M'.length=M.length∧Up lt M'∧StQ lt w0 g M0 (A++(M'++C)) w':=by
 obtain⟨M',h1,h2,h3,h4,h5⟩:=hs
 refine⟨M',h1,h3,?_,((Alike.refl lt A).app (h4.app (Alike.refl lt C))).trans h.al,?_,h5⟩
 ·have:=h.len;simp at this ⊢;omega
 ·intro x hx
  apply h.mem
  simp at hx ⊢
  rcases hx with hx|hx|hx
  ·exact .inl hx
  ·exact .inr (.inl (h2 x hx))
  ·exact .inr (.inr hx)
variable (f d:Nat) (eg:∀args w,(callFunc f args).run Tryz.prog w=.ok (.enter f args) w) (cf:PP→PP→Int) (hc:CmpQ f (GoodQ d) cf) (hwk:Weak (ltC cf)) (w0:World) (g cap L:Nat) (hg:w0.heap.size≤g) (hlen:L≤65536) (M0:List PP) (hL:L=M0.length) (hG:∀p∈M0,GoodQ d w0 p)
include eg hc hwk hg hlen hL hG
theorem ins_step (l:List PP) (i a b:Nat) (W:World) (h:StQ (ltC cf) w0 g M0 l W) (hF:Fst (ltC cf) 20 i l) (ha:a=i*20) (hb:b=a+20) (hn:b≤L) :
 Calls Tryz.prog 120 #[.slice (some ⟨g,0,none⟩) L cap,.int .i64 a,.int .i64 b,.func (.func f) #[] #[]] W fun e w'=>e=.returned (.tuple #[])∧∃l',StQ (ltC cf) w0 g M0 l' w'∧Fst (ltC cf) 20 (i+1) l':=by
 have hl:=h.len
 have e3:=three l a 20
 have lA:(l.take a).length=a:=by rw [List.length_take];omega
 have lM:((l.drop a).take 20).length=20:=by rw [List.length_take,List.length_drop];omega
 rw [e3] at h hF
 generalize l.take a=A at *
 generalize (l.drop a).take 20=M at *
 generalize l.drop (a+20)=C at *
 refine (insertion_any f d eg cf hc hwk w0 g cap a b L A M C W hg lA.symm (by omega) (by rw [h.len];exact hL) h.row (fun p hp=>hG p (h.mem p hp)) hlen).mono ?_
 rintro e w' ⟨rfl,hs⟩
 obtain⟨M',h1,h2,h3⟩:=h.sorted hs
 exact⟨rfl,_,h3,hF.step (by omega) (.inl (by omega)) h2⟩
theorem ins_last (l:List PP) (i a:Nat) (W:World) (h:StQ (ltC cf) w0 g M0 l W) (hF:Fst (ltC cf) 20 i l) (ha:a=i*20) (hn:a≤L) (hn2:L<a+20) :
 Calls Tryz.prog 120 #[.slice (some ⟨g,0,none⟩) L cap,.int .i64 a,.int .i64 L,.func (.func f) #[] #[]] W fun e w'=>e=.returned (.tuple #[])∧∃l',StQ (ltC cf) w0 g M0 l' w'∧AllB (ltC cf) 20 l':=by
 have hl:=h.len
 have e3:l=l.take a++(l.drop a++[]):=by simp
 have lA:(l.take a).length=a:=by rw [List.length_take];omega
 have lM:(l.drop a).length=L-a:=by rw [List.length_drop];omega
 rw [e3] at h hF
 generalize l.take a=A at *
 generalize l.drop a=M at *
 refine (insertion_any f d eg cf hc hwk w0 g cap a L L A M [] W hg lA.symm (by omega) (by rw [h.len];exact hL) h.row (fun p hp=>hG p (h.mem p hp)) hlen).mono ?_
 rintro e w' ⟨rfl,hs⟩
 obtain⟨M',h1,h2,h3⟩:=h.sorted hs
 have:=hF.step (by omega) (.inr ⟨rfl,by omega⟩) h2
 exact⟨rfl,_,h3,this.all (by rw [h3.len];omega)⟩
theorem sym_step (l:List PP) (s i a m b:Nat) (W:World) (h:StQ (ltC cf) w0 g M0 l W) (hM:Mid (ltC cf) s i l) (hs:0<s) (ha:a=i*(2*s)) (hm:m=a+s) (hb:b=a+2*s) (hn:b≤L) :
 Calls Tryz.prog 121 #[.slice (some ⟨g,0,none⟩) L cap,.int .i64 a,.int .i64 m,.int .i64 b,.func (.func f) #[] #[]] W fun e w'=>e=.returned (.tuple #[])∧∃l',StQ (ltC cf) w0 g M0 l' w'∧Mid (ltC cf) s (i+1) l':=by
 have hl:=h.len
 have e3:=four l a s s
 obtain⟨uX,uY⟩:=hM.next ha
 have lA:(l.take a).length=a:=by rw [List.length_take];omega
 have lX:((l.drop a).take s).length=s:=by rw [List.length_take,List.length_drop];omega
 have lY:((l.drop (a+s)).take s).length=s:=by rw [List.length_take,List.length_drop];omega
 rw [e3] at h hM
 generalize l.take a=A at *
 generalize (l.drop a).take s=X at *
 generalize (l.drop (a+s)).take s=Y at *
 generalize l.drop (a+s+s)=C at *
 have h':=h
 rw [List.append_assoc] at h'
 refine (sym_any f d eg cf hc hwk w0 g cap L hg hlen (X.length+Y.length) A X Y C a m b W (Nat.le_refl _) (by omega) (by omega) lA.symm (by omega) (by omega) (by rw [h'.len];exact hL) h'.row (fun p hp=>hG p (h'.mem p hp)) uX uY).mono ?_
 rintro e w' ⟨rfl,hs⟩
 obtain⟨M',h1,h2,h3⟩:=h.sorted hs
 have h1':M'.length=2*s:=by rw [h1,List.length_append];omega
 exact⟨rfl,_,h3,hM.step (by omega) h1 (.inl h1') h2⟩
theorem sym_last (l:List PP) (s i a m:Nat) (W:World) (h:StQ (ltC cf) w0 g M0 l W) (hM:Mid (ltC cf) s i l) (hs:0<s) (ha:a=i*(2*s)) (hm:m=a+s) (hn:m<L) (hn2:L<a+2*s) :
 Calls Tryz.prog 121 #[.slice (some ⟨g,0,none⟩) L cap,.int .i64 a,.int .i64 m,.int .i64 L,.func (.func f) #[] #[]] W fun e w'=>e=.returned (.tuple #[])∧∃l',StQ (ltC cf) w0 g M0 l' w'∧AllB (ltC cf) (2*s) l':=by
 have hl:=h.len
 have e3:l=l.take a++(((l.drop a).take s++(l.drop (a+s)))++[]):=by
  rw [List.append_nil,←List.drop_drop (i:=s),List.take_append_drop,List.take_append_drop]
 obtain⟨uX,uY⟩:=hM.next ha
 have lA:(l.take a).length=a:=by rw [List.length_take];omega
 have lX:((l.drop a).take s).length=s:=by rw [List.length_take,List.length_drop];omega
 have lY:(l.drop (a+s)).length=L-(a+s):=by rw [List.length_drop];omega
 rw [List.take_of_length_le (by omega)] at uY
 rw [e3] at h hM
 generalize l.take a=A at *
 generalize (l.drop a).take s=X at *
 generalize l.drop (a+s)=Y at *
 have h':=h
 rw [List.append_assoc] at h'
 refine (sym_any f d eg cf hc hwk w0 g cap L hg hlen (X.length+Y.length) A X Y [] a m L W (Nat.le_refl _) (by omega) (by omega) lA.symm (by omega) (by omega) (by rw [h'.len];exact hL) h'.row (fun p hp=>hG p (h'.mem p hp)) uX uY).mono ?_
 rintro e w' ⟨rfl,hs⟩
 obtain⟨M',h1,h2,h3⟩:=h.sorted hs
 have h1':M'.length≤2*s:=by rw [h1,List.length_append];omega
 have:=hM.step (by omega) h1 (.inr ⟨rfl,h1'⟩) h2
 exact⟨rfl,_,h3,this.all (by rw [h3.len,Nat.succ_mul];omega)⟩
end Go.Proofs.YtcflooaoocngdaaGreat
