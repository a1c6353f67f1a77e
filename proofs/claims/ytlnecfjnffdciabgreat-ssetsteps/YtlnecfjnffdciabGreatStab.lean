import Derived.Test.YtlnecfjnffdciabGreatSym2
import Derived.Test.YtlnecfjnffdciabGreatPlaceP
namespace Go.Proofs.YtlnecfjnffdciabGreat
open Go.RowKit
set_option maxRecDepth 100000 in
set_option maxHeartbeats 32000000 in
theorem sym_gen (f d:Nat) (eg:∀args w,(callFunc f args).run Tryz.prog w=.ok (.enter f args) w) (cf:PP→PP→Int) (hc:CmpQ f (GoodQ d) cf) (hwk:Weak (ltC cf)) (w0:World) (g cap a m b L:Nat) (A X Y C:List PP) (w:World) (hg:w0.heap.size≤g) (ha:a=A.length) (hm:m=a+X.length) (hb:b=m+Y.length) (hX2:2≤X.length) (hY2:2≤Y.length) (hL:L=(A++(X++(Y++C))).length) (hR:RowQ w0 g (A++(X++(Y++C))) w) (hG:∀p∈A++(X++(Y++C)),GoodQ d w0 p) (hX:Up (ltC cf) X) (hY:Up (ltC cf) Y) (hlen:L≤65536)
 (ih:Hid (∀(A' X' Y' C':List PP) (a' m' b':Nat) (W:World),X'.length+Y'.length<X.length+Y.length→0<X'.length→0<Y'.length→a'=A'.length→m'=a'+X'.length→b'=m'+Y'.length→L=(A'++(X'++(Y'++C'))).length→RowQ w0 g (A'++(X'++(Y'++C'))) W→(∀p∈A'++(X'++(Y'++C')),GoodQ d w0 p)→Up (ltC cf) X'→Up (ltC cf) Y'→
  Calls Tryz.prog 309 #[.slice (some ⟨g,0,none⟩) L cap,.int .i64 a',.int .i64 m',.int .i64 b',.func (.func f) #[] #[]] W fun e w'=>e=.returned (.tuple #[])∧zae (ltC cf) w0 g A' (X'++Y') C' w')) :
 Calls Tryz.prog 309 #[.slice (some ⟨g,0,none⟩) L cap,.int .i64 a,.int .i64 m,.int .i64 b,.func (.func f) #[] #[]] w fun e w'=>e=.returned (.tuple #[])∧zae (ltC cf) w0 g A (X++Y) C w':=by
 have HC:Hid (CmpQ f (GoodQ d) cf):=hc
 have HW:Hid (Weak (ltC cf)):=hwk
 have HX:Hid (Up (ltC cf) X):=hX
 have HY:Hid (Up (ltC cf) Y):=hY
 have HG:Hid (∀p∈A++(X++(Y++C)),GoodQ d w0 p):=hG
 have HGX:Hid (∀x∈X,GoodQ d w0 x):=fun x hx=>hG x (by simp [hx])
 have HGY:Hid (∀y∈Y,GoodQ d w0 y):=fun y hy=>hG y (by simp [hy])
 have HA:Hid (a=A.length):=ha
 have HMm:Hid (m=a+X.length):=hm
 have HBb:Hid (b=m+Y.length):=hb
 have HLl:Hid (L=(A++(X++(Y++C))).length):=hL
 have hbL:b≤L:=by rw [hb,hL,hm,ha];simp;omega
 obtain⟨D,hD⟩:∃D,D=m-a:=⟨_,rfl⟩
 have hw0:IntKind.i64.wrap ((m:Int)-(a:Int))=(D:Int):=by rw [IntKind.wrap_i64];omega
 have hD1 : ¬(D:Int)=1:=by omega
 have hD3:((D:Int)==1)=false:=by simpa using hD1
 obtain⟨F,hF⟩:∃F,F=b-m:=⟨_,rfl⟩
 have hw1:IntKind.i64.wrap ((b:Int)-(m:Int))=(F:Int):=by rw [IntKind.wrap_i64];omega
 have hF1 : ¬(F:Int)=1:=by omega
 have hF3:((F:Int)==1)=false:=by simpa using hF1
 obtain⟨mid,hmid⟩:∃mid,mid=(a+b) / 2:=⟨_,rfl⟩
 have hd0:((a:Int)+(b:Int)) / 2=(mid:Int):=by omega
 obtain⟨n,hn⟩:∃n,n=mid+m:=⟨_,rfl⟩
 have hwn:IntKind.i64.wrap ((mid:Int)+(m:Int))=(n:Int):=by rw [IntKind.wrap_i64];omega
 obtain⟨p,hp⟩:∃p,p=n-1:=⟨_,rfl⟩
 have hwp:IntKind.i64.wrap ((n:Int)-1)=(p:Int):=by rw [IntKind.wrap_i64];omega
 have Hp:Hid (p=n-1):=hp
 have HR0:Hid (RowQ w0 g (A++(X++(Y++C))) w):=hR
 have hal:a<L∧m<L∧n<2*L:=by omega
 by_cases hmm:mid<m
 ·obtain⟨s0,hs0⟩:∃s0,s0=n-b:=⟨_,rfl⟩
  have hws:IntKind.i64.wrap ((n:Int)-(b:Int))=(s0:Int):=by rw [IntKind.wrap_i64];omega
  have hmi:(mid:Int)<(m:Int):=by omega
  clear hc hwk hX hY hG ha hm hb hL hR hD hF hp
  have Hs0:Hid (s0=n-b):=hs0
  clear hs0
  have HBd:Hid (Bds X.length Y.length a m b n mid s0 mid):=⟨HMm.out,HBb.out,hn,hmid,hX2,hY2,.inl ⟨hmm,Hs0.out,rfl⟩⟩
  have hbs:=HBd.out.start
  have HS0:Hid (Sec (ltC cf) X Y a m n s0 mid s0 mid):=Sec.begin _ _ _ _ _ _ _ _ hbs.1
  clear hbs hn hmid hX2 hY2
  go_enter Tryz.func309,Tryz.ntmps309
  go_wp2_with fail
  go_loopg [20,21] (mid-s0) (fun z vi vj wr=>∃(s r:Nat),vi=.int .i64 (s:Int)∧vj=.int .i64 (r:Int)∧z=r-s∧Hid (Sec (ltC cf) X Y a m n s0 mid s r)∧Hid (RowQ w0 g (A++(X++(Y++C))) wr))
  case atStart=>exact⟨s0,mid,rfl,rfl,rfl,HS0,HR0⟩
  case round=>
   obtain⟨s,r,rfl,rfl,hk,HS,HR⟩:=hrel
   have Hk:Hid _:=hk
   clear hk HS0 HR0
   have s1:=HS.out.s1
   have s2:=HS.out.s2
   have s3:=HS.out.s3
   by_cases hij:s<r
   ·obtain⟨h,hh⟩:∃h,h=(s+r) / 2:=⟨_,rfl⟩
    have Hh:Hid (h=(s+r) / 2):=hh
    have hd:((s:Int)+(r:Int)) / 2=(h:Int):=by omega
    have ok:=HBd.out.ok h (by omega) (by omega)
    obtain⟨⟨o1,o2⟩,⟨o3,o4⟩,o5⟩:=ok
    have ha':=HA.out
    have hm':=HMm.out
    have hb':=HBb.out
    obtain⟨q,hq⟩:∃q,q=n-1-h:=⟨_,rfl⟩
    have hpn:=Hp.out
    have hwq:IntKind.i64.wrap ((p:Int)-(h:Int))=(q:Int):=by rw [IntKind.wrap_i64];omega
    have e2:(A++(X++(Y++C)))[h]? = some X[h-a]:=by
     rw [List.getElem?_append_right (by omega)]
     have:h-A.length=h-a:=by omega
     rw [this,List.getElem?_append_left o2,List.getElem?_eq_getElem o2]
    have e1:(A++(X++(Y++C)))[q]? = some Y[n-1-h-m]:=by
     rw [List.getElem?_append_right (by omega),List.getElem?_append_right (by omega)]
     have:q-A.length-X.length=n-1-h-m:=by omega
     rw [this,List.getElem?_append_left o4,List.getElem?_eq_getElem o4]
    have Gy:=HGY.out Y[n-1-h-m] (List.getElem_mem o4)
    have Gx:=HGX.out X[h-a] (List.getElem_mem o2)
    obtain⟨⟨r0,r1,r2,r3,r4,r5,r6,r7⟩,_⟩:=HR.out.cells q Y[n-1-h-m] e1
    obtain⟨⟨p0,p1,p2,p3,p4,p5,p6,p7⟩,_⟩:=HR.out.cells h X[h-a] e2
    have HL1:Hid (ltC cf Y[n-1-h-m] X[h-a]=false→Sec (ltC cf) X Y a m n s0 mid (h+1) r):=fun hl=>HS.out.less HW.out HX.out HY.out HBd.out h (by omega) (by omega) o2 o4 hl
    have HL2:Hid (ltC cf Y[n-1-h-m] X[h-a]=true→Sec (ltC cf) X Y a m n s0 mid s h):=fun hl=>HS.out.more HW.out HX.out HY.out HBd.out h (by omega) (by omega) o2 o4 hl
    have hb0:Below w0.heap.size w0 wr:=HR.out.below
    generalize X[h-a]=x at *
    generalize Y[n-1-h-m]=y at *
    obtain⟨⟨pa,pn,pc,sx1⟩,⟨pb,pm,pd,sx2⟩⟩:=GoodQ.slq (d:=d) (W:=w0) (ps:=[x]) (fun p hp=>by rw [List.mem_singleton.1 hp];exact Gx) x (by simp)
    obtain⟨⟨ra,rn,rc,sy1⟩,⟨rb,rm,rd,sy2⟩⟩:=GoodQ.slq (d:=d) (W:=w0) (ps:=[y]) (fun p hp=>by rw [List.mem_singleton.1 hp];exact Gy) y (by simp)
    rw [sx1] at p3;rw [sx2] at p7;rw [sy1] at r3;rw [sy2] at r7
    have HCe:Hid (∀W,Below w0.heap.size w0 W→Calls Tryz.prog f #[.agg #[.int .i64 y.1.1.kind,.int .i64 y.1.1.num,.string y.1.1.text,.slice ra rn rc,.int .i64 y.2.1.kind,.int .i64 y.2.1.num,.string y.2.1.text,.slice rb rm rd],.agg #[.int .i64 x.1.1.kind,.int .i64 x.1.1.num,.string x.1.1.text,.slice pa pn pc,.int .i64 x.2.1.kind,.int .i64 x.2.1.num,.string x.2.1.text,.slice pb pm pd]] W fun e W'=>e=.returned (.int .i64 (cf y x))∧Below W.heap.size W W'):=fun W hW=>by
     have h':=HC.out y x W (Gy.keeps hW) (Gx.keeps hW)
     simp only [encQ,encP,sx1,sx2,sy1,sy2,List.cons_append,List.nil_append] at h'
     exact h'
    have hhl:h<L:=by omega
    have hql:q<L:=by omega
    have hhi:(h:Int)<(L:Nat):=by omega
    have hqi:(q:Int)<(L:Nat):=by omega
    have HZ1:Hid (¬cf y x<0→Sec (ltC cf) X Y a m n s0 mid (h+1) r):=fun hz=>HL1.out (decide_eq_false hz)
    have HZ2:Hid (cf y x<0→Sec (ltC cf) X Y a m n s0 mid s h):=fun hz=>HL2.out (decide_eq_true hz)
    clear HL1 HL2 Gx Gy sx1 sx2 sy1 sy2 e1 e2 o1 o2 o3 o4 o5 ha' hm' hb' HS s1 s2 s3 hh hq hpn
    generalize hZ:cf y x=Z at *
    clear hZ
    go_wp2_with fail
    go_region_held3 (fun w'=>(w'.cell? ⟨g,q*8,none⟩=some (.int .i64 y.1.1.kind)∧w'.cell? ⟨g,q*8+1,none⟩=some (.int .i64 y.1.1.num)∧w'.cell? ⟨g,q*8+2,none⟩=some (.string y.1.1.text)∧w'.cell? ⟨g,q*8+3,none⟩=some (.slice ra rn rc)∧w'.cell? ⟨g,q*8+4,none⟩=some (.int .i64 y.2.1.kind)∧w'.cell? ⟨g,q*8+5,none⟩=some (.int .i64 y.2.1.num)∧w'.cell? ⟨g,q*8+6,none⟩=some (.string y.2.1.text)∧w'.cell? ⟨g,q*8+7,none⟩=some (.slice rb rm rd))∧(w'.cell? ⟨g,h*8,none⟩=some (.int .i64 x.1.1.kind)∧w'.cell? ⟨g,h*8+1,none⟩=some (.int .i64 x.1.1.num)∧w'.cell? ⟨g,h*8+2,none⟩=some (.string x.1.1.text)∧w'.cell? ⟨g,h*8+3,none⟩=some (.slice pa pn pc)∧w'.cell? ⟨g,h*8+4,none⟩=some (.int .i64 x.2.1.kind)∧w'.cell? ⟨g,h*8+5,none⟩=some (.int .i64 x.2.1.num)∧w'.cell? ⟨g,h*8+6,none⟩=some (.string x.2.1.text)∧w'.cell? ⟨g,h*8+7,none⟩=some (.slice pb pm pd))) (go_keep)
     (first|(go_at_fn f;refine (HCe.out _ (hb0.trans ((Below.refl _ _).drew.mono hb0.size))).mono ?_;rintro e w1 ⟨rfl,hg1⟩;have hb1:Below wr.heap.size wr w1:=(Below.refl _ _).drew.trans hg1;clear hg1;have p0:=zaa hb1 p0;have p1:=zaa hb1 p1;have p2:=zaa hb1 p2;have p3:=zaa hb1 p3;have p4:=zaa hb1 p4;have p5:=zaa hb1 p5;have p6:=zaa hb1 p6;have p7:=zaa hb1 p7;have r0:=zaa hb1 r0;have r1:=zaa hb1 r1;have r2:=zaa hb1 r2;have r3:=zaa hb1 r3;have r4:=zaa hb1 r4;have r5:=zaa hb1 r5;have r6:=zaa hb1 r6;have r7:=zaa hb1 r7))
    have HR1:Hid (RowQ w0 g (A++(X++(Y++C))) w1):=HR.out.keeps hb1
    clear p0 p1 p2 p3 p4 p5 p6 p7 r0 r1 r2 r3 r4 r5 r6 r7 HR HCe
    by_cases hz:Z<0
    ·have HN:Hid _:=HZ2.out hz
     have hzd:decide (Z<0)=true:=decide_eq_true hz
     have hze:(!decide (Z<0))=false:=by rw [hzd];rfl
     clear HZ1 HZ2
     go_wp2_with fail
     ·exact absurd ‹(!decide (Z<0))=true› (by rw [hze];simp)
     ·go_roundg (h-s)
      case measure=>have:=Hk.out;have:=Hh.out;omega
      case rel=>exact⟨s,h,rfl,rfl,rfl,HN,HR1⟩
    ·have HN:Hid _:=HZ1.out (by omega)
     have hze:(!decide (Z<0))=true:=by rw [decide_eq_false hz];rfl
     clear HZ1 HZ2
     go_wp2_with fail
     ·go_roundg (r-(h+1))
      case measure=>have:=Hk.out;have:=Hh.out;omega
      case rel=>exact⟨h+1,r,by go_num,rfl,rfl,HN,HR1⟩
     ·exact absurd ‹(!decide (Z<0))=false› (by rw [hze];simp)
   ·have hje:r=s:=by omega
    subst hje
    obtain⟨⟨c1,c2⟩,q1,q2⟩:=HS.out.cut HW.out HX.out HY.out HBd.out
    have bs:=HBd.out.start
    have ha':=HA.out
    have hm':=HMm.out
    have hb':=HBb.out
    have hn':=HBd.out.en
    have hmid':=HBd.out.mi
    obtain⟨E,hE⟩:∃E,E=n-r:=⟨_,rfl⟩
    have hwE:IntKind.i64.wrap ((n:Int)-(r:Int))=(E:Int):=by rw [IntKind.wrap_i64];omega
    obtain⟨X1,hX1⟩:∃X1,X1=X.take (r-a):=⟨_,rfl⟩
    obtain⟨X2,hX2⟩:∃X2,X2=X.drop (r-a):=⟨_,rfl⟩
    obtain⟨Y1,hY1⟩:∃Y1,Y1=Y.take (n-r-m):=⟨_,rfl⟩
    obtain⟨Y2,hY2⟩:∃Y2,Y2=Y.drop (n-r-m):=⟨_,rfl⟩
    rw [←hX2,←hY1] at q1
    rw [←hX1,←hY2] at q2
    have hXe:X1++X2=X:=by rw [hX1,hX2];exact List.take_append_drop _ _
    have hYe:Y1++Y2=Y:=by rw [hY1,hY2];exact List.take_append_drop _ _
    have l1:X1.length=r-a:=by rw [hX1,List.length_take];omega
    have l2:Y1.length=E-m:=by rw [hY1,List.length_take];omega
    have l3:X1.length+X2.length=X.length:=by rw [←hXe];simp
    have l4:Y1.length+Y2.length=Y.length:=by rw [←hYe];simp
    have HRow:Hid (RowQ w0 g ((A++X1)++(X2++(Y1++(Y2++C)))) wr):=by show RowQ _ _ _ _;have:=HR.out;rw [←hXe,←hYe] at this;simpa using this
    have HLL:Hid (L=A.length+X1.length+X2.length+Y1.length+Y2.length+C.length):=by show _=_;have:=HLl.out;simp at this;omega
    have HGo:Hid (∀p,p∈A∨p∈X1∨p∈X2∨p∈Y1∨p∈Y2∨p∈C→GoodQ d w0 p):=fun p hp=>HG.out p (by rw [←hXe,←hYe];simp;rcases hp with h|h|h|h|h|h <;> simp [h])
    have uX:=List.pairwise_append.1 (show Up (ltC cf) (X1++X2) by rw [hXe];exact HX.out)
    have uY:=List.pairwise_append.1 (show Up (ltC cf) (Y1++Y2) by rw [hYe];exact HY.out)
    have HRn:Hid ((¬r<m∨¬m<E)→RowQ w0 g (A++(X1++(Y1++(X2++(Y2++C))))) wr):=fun h=>by
     rcases h with h|h
     ·have e:X2=[]:=List.eq_nil_of_length_eq_zero (by omega)
      have:=HRow.out
      rw [e] at this ⊢
      simpa using this
     ·have e:Y1=[]:=List.eq_nil_of_length_eq_zero (by omega)
      have:=HRow.out
      rw [e] at this ⊢
      simpa using this
    have HRo:Hid (r<m→m<E→Calls Tryz.prog 322 #[.slice (some ⟨g,0,none⟩) L cap,.int .i64 r,.int .i64 m,.int .i64 E,.func (.func f) #[] #[]] wr fun e w'=>e=.returned (.tuple #[])∧RowQ w0 g ((A++X1)++(Y1++(X2++(Y2++C)))) w'):=fun h1 h2=>rotate_any w0 g cap r m E L _ (A++X1) X2 Y1 (Y2++C) wr hg (by simp;omega) (by simp;omega) (by simp;omega) (by omega) (by omega) (by have:=HLL.out;simp;omega) HRow.out (GoodQ.slq (d:=d) (W:=w0) (fun p hp=>HGo.out p (by simp at hp ⊢;rcases hp with h|h|h|h|h|h <;> simp [h]))) hlen
    have HE1:Hid ((¬a<r∨¬r<mid)→Up (ltC cf) (X1++Y1)):=fun h=>by
     rcases h with h|h
     ·have e:X1=[]:=List.eq_nil_of_length_eq_zero (by omega)
      rw [e];exact uY.1
     ·have e:Y1=[]:=List.eq_nil_of_length_eq_zero (by omega)
      rw [e,List.append_nil];exact uX.1
    have HE2:Hid ((¬mid<E∨¬E<b)→Up (ltC cf) (X2++Y2)):=fun h=>by
     rcases h with h|h
     ·have e:X2=[]:=List.eq_nil_of_length_eq_zero (by omega)
      rw [e];exact uY.2.1
     ·have e:Y2=[]:=List.eq_nil_of_length_eq_zero (by omega)
      rw [e,List.append_nil];exact uX.2.1
    have HIh1:Hid (∀W,a<r→r<mid→RowQ w0 g (A++(X1++(Y1++(X2++(Y2++C))))) W→Calls Tryz.prog 309 #[.slice (some ⟨g,0,none⟩) L cap,.int .i64 a,.int .i64 r,.int .i64 mid,.func (.func f) #[] #[]] W fun e w'=>e=.returned (.tuple #[])∧zae (ltC cf) w0 g A (X1++Y1) (X2++(Y2++C)) w'):=fun W h1 h2 hR=>ih.out A X1 Y1 (X2++(Y2++C)) a r mid W (by omega) (by omega) (by omega) ha' (by omega) (by omega) (by have:=HLL.out;simp;omega) hR (fun p hp=>HGo.out p (by simp at hp ⊢;rcases hp with h|h|h|h|h|h <;> simp [h])) uX.1 uY.1
    have HIh2:Hid (∀(M1:List PP) (W:World),mid<E→E<b→(M1.length=X1.length+Y1.length∧(∀z∈M1,z∈X1++Y1)∧Up (ltC cf) M1∧Alike (ltC cf) M1 (X1++Y1))→RowQ w0 g ((A++M1)++(X2++(Y2++C))) W→Calls Tryz.prog 309 #[.slice (some ⟨g,0,none⟩) L cap,.int .i64 mid,.int .i64 E,.int .i64 b,.func (.func f) #[] #[]] W fun e w'=>e=.returned (.tuple #[])∧zae (ltC cf) w0 g (A++M1) (X2++Y2) C w'):=fun M1 W h1 h2 hM hR=>ih.out (A++M1) X2 Y2 C mid E b W (by omega) (by omega) (by omega) (by have:=hM.1;simp;omega) (by omega) (by omega) (by have:=HLL.out;have:=hM.1;simp;omega) hR (fun p hp=>HGo.out p (by
     have hz:=hM.2.1 p
     simp at hp hz ⊢
     rcases hp with h|h|h|h|h
     ·simp [h]
     ·rcases hz h with k|k <;> simp [k]
     ·simp [h]
     ·simp [h]
     ·simp [h])) uX.2.1 uY.2.1
    have HFin:Hid (∀(M1 M2:List PP) (W:World),(M1.length=X1.length+Y1.length∧(∀z∈M1,z∈X1++Y1)∧Up (ltC cf) M1∧Alike (ltC cf) M1 (X1++Y1))→(M2.length=X2.length+Y2.length∧(∀z∈M2,z∈X2++Y2)∧Up (ltC cf) M2∧Alike (ltC cf) M2 (X2++Y2)∧RowQ w0 g ((A++M1)++(M2++C)) W)→zae (ltC cf) w0 g A (X++Y) C W):=fun M1 M2 W h1 h2=>by
     have hs:=cut_sorts HW.out X1 X2 Y1 Y2 M1 M2 (by rw [hXe];exact HX.out) (by rw [hYe];exact HY.out) q1 q2 h1.2.2.1 h1.2.2.2 h1.2.1 h2.2.2.1 h2.2.2.2.1 h2.2.1
     rw [hXe,hYe] at hs
     refine⟨M1++M2,by have:=h1.1;have:=h2.1;simp;omega,fun z hz=>hs.2.mem HW.out hz,hs.1,hs.2,by simpa using h2.2.2.2.2⟩
    have har:a≤r:=by omega
    have hrm:r≤mid:=by rcases HBd.out.ends with ⟨_,_,_⟩|⟨_,_,_⟩ <;> omega
    have hmE:mid≤E:=by omega
    have hEb:E≤b:=by omega
    clear HR HS HRow HLL HGo uX uY hXe hYe l1 l2 l3 l4 hX1 hX2 hY1 hY2 q1 q2 c1 c2 bs ha' hm' hb' hn' hmid' hE ih HC HW HX HY HG HGX HGY HBd s1 s2 s3 hij
    by_cases e1:r<m
    ·by_cases e2:m<E
     ·go_wp2_with fail
      refine (HRo.out e1 e2).mono ?_
      rintro e w1 ⟨rfl,hr1⟩
      have Hrow1:Hid (RowQ w0 g (A++(X1++(Y1++(X2++(Y2++C))))) w1):=by show RowQ _ _ _ _;simpa using hr1
      clear hr1 HRo HRn
      by_cases f1:a<r
      ·by_cases f2:r<mid
       ·go_wp2_with fail
        refine (HIh1.out _ f1 f2 Hrow1.out).mono ?_
        rintro e w2 ⟨rfl,hs2⟩
        obtain⟨M1,k1,k2,k3,k4,k5⟩:=hs2
        have Hs1:Hid (M1.length=X1.length+Y1.length∧(∀z∈M1,z∈X1++Y1)∧Up (ltC cf) M1∧Alike (ltC cf) M1 (X1++Y1)):=⟨by simpa using k1,k2,k3,k4⟩
        have Hr1:Hid (RowQ w0 g ((A++M1)++(X2++(Y2++C))) w2):=by show RowQ _ _ _ _;simpa using k5
        clear k1 k2 k3 k4 k5 HIh1 Hrow1
        by_cases g1:mid<E
        ·by_cases g2:E<b
         ·go_wp2_with fail
          refine (HIh2.out M1 _ g1 g2 Hs1.out Hr1.out).mono ?_
          rintro e w3 ⟨rfl,hs3⟩
          obtain⟨M2,k1,k2,k3,k4,k5⟩:=hs3
          have Hs2:Hid (M2.length=X2.length+Y2.length∧(∀z∈M2,z∈X2++Y2)∧Up (ltC cf) M2∧Alike (ltC cf) M2 (X2++Y2)∧RowQ w0 g ((A++M1)++(M2++C)) w3):=⟨by simpa using k1,k2,k3,k4,k5⟩
          clear k1 k2 k3 k4 k5 HIh2 Hr1
          have HF:Hid (zae (ltC cf) w0 g A (X++Y) C w3):=HFin.out M1 _ _ Hs1.out Hs2.out
          clear HFin
          go_wp2_with fail
          exact bodyPost_end (v:=.tuple #[]) (by simp [results,Tryz.results309,go_sem]) rfl ⟨rfl,HF.out⟩
         ·have g2' : ¬((E:Int)<(b:Int)):=by omega
          have Hs2:Hid ((X2++Y2).length=X2.length+Y2.length∧(∀z∈X2++Y2,z∈X2++Y2)∧Up (ltC cf) (X2++Y2)∧Alike (ltC cf) (X2++Y2) (X2++Y2)∧RowQ w0 g ((A++M1)++((X2++Y2)++C)) w2):=⟨by simp,(fun z hz=>hz),HE2.out (.inr g2),Alike.refl _ _,by simpa using Hr1.out⟩
          clear HIh2 Hr1
          have HF:Hid (zae (ltC cf) w0 g A (X++Y) C w2):=HFin.out M1 _ _ Hs1.out Hs2.out
          clear HFin
          go_wp2_with fail
          exact bodyPost_end (v:=.tuple #[]) (by simp [results,Tryz.results309,go_sem]) rfl ⟨rfl,HF.out⟩
        ·have g1' : ¬((mid:Int)<(E:Int)):=by omega
         have Hs2:Hid ((X2++Y2).length=X2.length+Y2.length∧(∀z∈X2++Y2,z∈X2++Y2)∧Up (ltC cf) (X2++Y2)∧Alike (ltC cf) (X2++Y2) (X2++Y2)∧RowQ w0 g ((A++M1)++((X2++Y2)++C)) w2):=⟨by simp,(fun z hz=>hz),HE2.out (.inl g1),Alike.refl _ _,by simpa using Hr1.out⟩
         clear HIh2 Hr1
         have HF:Hid (zae (ltC cf) w0 g A (X++Y) C w2):=HFin.out M1 _ _ Hs1.out Hs2.out
         clear HFin
         go_wp2_with fail
         exact bodyPost_end (v:=.tuple #[]) (by simp [results,Tryz.results309,go_sem]) rfl ⟨rfl,HF.out⟩
       ·have f2' : ¬((r:Int)<(mid:Int)):=by omega
        obtain⟨M1,hM1⟩:∃M1,M1=X1++Y1:=⟨_,rfl⟩
        have Hs1:Hid (M1.length=X1.length+Y1.length∧(∀z∈M1,z∈X1++Y1)∧Up (ltC cf) M1∧Alike (ltC cf) M1 (X1++Y1)):=by rw [hM1];exact⟨by simp,(fun z hz=>hz),HE1.out (.inr f2),Alike.refl _ _⟩
        have Hr1:Hid (RowQ w0 g ((A++M1)++(X2++(Y2++C))) w1):=by show RowQ _ _ _ _;rw [hM1];simpa using Hrow1.out
        clear hM1 HIh1 Hrow1
        by_cases g1:mid<E
        ·by_cases g2:E<b
         ·go_wp2_with fail
          refine (HIh2.out M1 _ g1 g2 Hs1.out Hr1.out).mono ?_
          rintro e w3 ⟨rfl,hs3⟩
          obtain⟨M2,k1,k2,k3,k4,k5⟩:=hs3
          have Hs2:Hid (M2.length=X2.length+Y2.length∧(∀z∈M2,z∈X2++Y2)∧Up (ltC cf) M2∧Alike (ltC cf) M2 (X2++Y2)∧RowQ w0 g ((A++M1)++(M2++C)) w3):=⟨by simpa using k1,k2,k3,k4,k5⟩
          clear k1 k2 k3 k4 k5 HIh2 Hr1
          have HF:Hid (zae (ltC cf) w0 g A (X++Y) C w3):=HFin.out M1 _ _ Hs1.out Hs2.out
          clear HFin
          go_wp2_with fail
          exact bodyPost_end (v:=.tuple #[]) (by simp [results,Tryz.results309,go_sem]) rfl ⟨rfl,HF.out⟩
         ·have g2' : ¬((E:Int)<(b:Int)):=by omega
          have Hs2:Hid ((X2++Y2).length=X2.length+Y2.length∧(∀z∈X2++Y2,z∈X2++Y2)∧Up (ltC cf) (X2++Y2)∧Alike (ltC cf) (X2++Y2) (X2++Y2)∧RowQ w0 g ((A++M1)++((X2++Y2)++C)) w1):=⟨by simp,(fun z hz=>hz),HE2.out (.inr g2),Alike.refl _ _,by simpa using Hr1.out⟩
          clear HIh2 Hr1
          have HF:Hid (zae (ltC cf) w0 g A (X++Y) C w1):=HFin.out M1 _ _ Hs1.out Hs2.out
          clear HFin
          go_wp2_with fail
          exact bodyPost_end (v:=.tuple #[]) (by simp [results,Tryz.results309,go_sem]) rfl ⟨rfl,HF.out⟩
        ·have g1' : ¬((mid:Int)<(E:Int)):=by omega
         have Hs2:Hid ((X2++Y2).length=X2.length+Y2.length∧(∀z∈X2++Y2,z∈X2++Y2)∧Up (ltC cf) (X2++Y2)∧Alike (ltC cf) (X2++Y2) (X2++Y2)∧RowQ w0 g ((A++M1)++((X2++Y2)++C)) w1):=⟨by simp,(fun z hz=>hz),HE2.out (.inl g1),Alike.refl _ _,by simpa using Hr1.out⟩
         clear HIh2 Hr1
         have HF:Hid (zae (ltC cf) w0 g A (X++Y) C w1):=HFin.out M1 _ _ Hs1.out Hs2.out
         clear HFin
         go_wp2_with fail
         exact bodyPost_end (v:=.tuple #[]) (by simp [results,Tryz.results309,go_sem]) rfl ⟨rfl,HF.out⟩
      ·have f1' : ¬((a:Int)<(r:Int)):=by omega
       obtain⟨M1,hM1⟩:∃M1,M1=X1++Y1:=⟨_,rfl⟩
       have Hs1:Hid (M1.length=X1.length+Y1.length∧(∀z∈M1,z∈X1++Y1)∧Up (ltC cf) M1∧Alike (ltC cf) M1 (X1++Y1)):=by rw [hM1];exact⟨by simp,(fun z hz=>hz),HE1.out (.inl f1),Alike.refl _ _⟩
       have Hr1:Hid (RowQ w0 g ((A++M1)++(X2++(Y2++C))) w1):=by show RowQ _ _ _ _;rw [hM1];simpa using Hrow1.out
       clear hM1 HIh1 Hrow1
       by_cases g1:mid<E
       ·by_cases g2:E<b
        ·go_wp2_with fail
         refine (HIh2.out M1 _ g1 g2 Hs1.out Hr1.out).mono ?_
         rintro e w3 ⟨rfl,hs3⟩
         obtain⟨M2,k1,k2,k3,k4,k5⟩:=hs3
         have Hs2:Hid (M2.length=X2.length+Y2.length∧(∀z∈M2,z∈X2++Y2)∧Up (ltC cf) M2∧Alike (ltC cf) M2 (X2++Y2)∧RowQ w0 g ((A++M1)++(M2++C)) w3):=⟨by simpa using k1,k2,k3,k4,k5⟩
         clear k1 k2 k3 k4 k5 HIh2 Hr1
         have HF:Hid (zae (ltC cf) w0 g A (X++Y) C w3):=HFin.out M1 _ _ Hs1.out Hs2.out
         clear HFin
         go_wp2_with fail
         exact bodyPost_end (v:=.tuple #[]) (by simp [results,Tryz.results309,go_sem]) rfl ⟨rfl,HF.out⟩
        ·have g2' : ¬((E:Int)<(b:Int)):=by omega
         have Hs2:Hid ((X2++Y2).length=X2.length+Y2.length∧(∀z∈X2++Y2,z∈X2++Y2)∧Up (ltC cf) (X2++Y2)∧Alike (ltC cf) (X2++Y2) (X2++Y2)∧RowQ w0 g ((A++M1)++((X2++Y2)++C)) w1):=⟨by simp,(fun z hz=>hz),HE2.out (.inr g2),Alike.refl _ _,by simpa using Hr1.out⟩
         clear HIh2 Hr1
         have HF:Hid (zae (ltC cf) w0 g A (X++Y) C w1):=HFin.out M1 _ _ Hs1.out Hs2.out
         clear HFin
         go_wp2_with fail
         exact bodyPost_end (v:=.tuple #[]) (by simp [results,Tryz.results309,go_sem]) rfl ⟨rfl,HF.out⟩
       ·have g1' : ¬((mid:Int)<(E:Int)):=by omega
        have Hs2:Hid ((X2++Y2).length=X2.length+Y2.length∧(∀z∈X2++Y2,z∈X2++Y2)∧Up (ltC cf) (X2++Y2)∧Alike (ltC cf) (X2++Y2) (X2++Y2)∧RowQ w0 g ((A++M1)++((X2++Y2)++C)) w1):=⟨by simp,(fun z hz=>hz),HE2.out (.inl g1),Alike.refl _ _,by simpa using Hr1.out⟩
        clear HIh2 Hr1
        have HF:Hid (zae (ltC cf) w0 g A (X++Y) C w1):=HFin.out M1 _ _ Hs1.out Hs2.out
        clear HFin
        go_wp2_with fail
        exact bodyPost_end (v:=.tuple #[]) (by simp [results,Tryz.results309,go_sem]) rfl ⟨rfl,HF.out⟩
     ·have e2' : ¬((m:Int)<(E:Int)):=by omega
      have Hrow1:Hid (RowQ w0 g (A++(X1++(Y1++(X2++(Y2++C))))) wr):=HRn.out (.inr e2)
      clear HRo HRn
      by_cases f1:a<r
      ·by_cases f2:r<mid
       ·go_wp2_with fail
        refine (HIh1.out _ f1 f2 Hrow1.out).mono ?_
        rintro e w2 ⟨rfl,hs2⟩
        obtain⟨M1,k1,k2,k3,k4,k5⟩:=hs2
        have Hs1:Hid (M1.length=X1.length+Y1.length∧(∀z∈M1,z∈X1++Y1)∧Up (ltC cf) M1∧Alike (ltC cf) M1 (X1++Y1)):=⟨by simpa using k1,k2,k3,k4⟩
        have Hr1:Hid (RowQ w0 g ((A++M1)++(X2++(Y2++C))) w2):=by show RowQ _ _ _ _;simpa using k5
        clear k1 k2 k3 k4 k5 HIh1 Hrow1
        by_cases g1:mid<E
        ·by_cases g2:E<b
         ·go_wp2_with fail
          refine (HIh2.out M1 _ g1 g2 Hs1.out Hr1.out).mono ?_
          rintro e w3 ⟨rfl,hs3⟩
          obtain⟨M2,k1,k2,k3,k4,k5⟩:=hs3
          have Hs2:Hid (M2.length=X2.length+Y2.length∧(∀z∈M2,z∈X2++Y2)∧Up (ltC cf) M2∧Alike (ltC cf) M2 (X2++Y2)∧RowQ w0 g ((A++M1)++(M2++C)) w3):=⟨by simpa using k1,k2,k3,k4,k5⟩
          clear k1 k2 k3 k4 k5 HIh2 Hr1
          have HF:Hid (zae (ltC cf) w0 g A (X++Y) C w3):=HFin.out M1 _ _ Hs1.out Hs2.out
          clear HFin
          go_wp2_with fail
          exact bodyPost_end (v:=.tuple #[]) (by simp [results,Tryz.results309,go_sem]) rfl ⟨rfl,HF.out⟩
         ·have g2' : ¬((E:Int)<(b:Int)):=by omega
          have Hs2:Hid ((X2++Y2).length=X2.length+Y2.length∧(∀z∈X2++Y2,z∈X2++Y2)∧Up (ltC cf) (X2++Y2)∧Alike (ltC cf) (X2++Y2) (X2++Y2)∧RowQ w0 g ((A++M1)++((X2++Y2)++C)) w2):=⟨by simp,(fun z hz=>hz),HE2.out (.inr g2),Alike.refl _ _,by simpa using Hr1.out⟩
          clear HIh2 Hr1
          have HF:Hid (zae (ltC cf) w0 g A (X++Y) C w2):=HFin.out M1 _ _ Hs1.out Hs2.out
          clear HFin
          go_wp2_with fail
          exact bodyPost_end (v:=.tuple #[]) (by simp [results,Tryz.results309,go_sem]) rfl ⟨rfl,HF.out⟩
        ·have g1' : ¬((mid:Int)<(E:Int)):=by omega
         have Hs2:Hid ((X2++Y2).length=X2.length+Y2.length∧(∀z∈X2++Y2,z∈X2++Y2)∧Up (ltC cf) (X2++Y2)∧Alike (ltC cf) (X2++Y2) (X2++Y2)∧RowQ w0 g ((A++M1)++((X2++Y2)++C)) w2):=⟨by simp,(fun z hz=>hz),HE2.out (.inl g1),Alike.refl _ _,by simpa using Hr1.out⟩
         clear HIh2 Hr1
         have HF:Hid (zae (ltC cf) w0 g A (X++Y) C w2):=HFin.out M1 _ _ Hs1.out Hs2.out
         clear HFin
         go_wp2_with fail
         exact bodyPost_end (v:=.tuple #[]) (by simp [results,Tryz.results309,go_sem]) rfl ⟨rfl,HF.out⟩
       ·have f2' : ¬((r:Int)<(mid:Int)):=by omega
        obtain⟨M1,hM1⟩:∃M1,M1=X1++Y1:=⟨_,rfl⟩
        have Hs1:Hid (M1.length=X1.length+Y1.length∧(∀z∈M1,z∈X1++Y1)∧Up (ltC cf) M1∧Alike (ltC cf) M1 (X1++Y1)):=by rw [hM1];exact⟨by simp,(fun z hz=>hz),HE1.out (.inr f2),Alike.refl _ _⟩
        have Hr1:Hid (RowQ w0 g ((A++M1)++(X2++(Y2++C))) wr):=by show RowQ _ _ _ _;rw [hM1];simpa using Hrow1.out
        clear hM1 HIh1 Hrow1
        by_cases g1:mid<E
        ·by_cases g2:E<b
         ·go_wp2_with fail
          refine (HIh2.out M1 _ g1 g2 Hs1.out Hr1.out).mono ?_
          rintro e w3 ⟨rfl,hs3⟩
          obtain⟨M2,k1,k2,k3,k4,k5⟩:=hs3
          have Hs2:Hid (M2.length=X2.length+Y2.length∧(∀z∈M2,z∈X2++Y2)∧Up (ltC cf) M2∧Alike (ltC cf) M2 (X2++Y2)∧RowQ w0 g ((A++M1)++(M2++C)) w3):=⟨by simpa using k1,k2,k3,k4,k5⟩
          clear k1 k2 k3 k4 k5 HIh2 Hr1
          have HF:Hid (zae (ltC cf) w0 g A (X++Y) C w3):=HFin.out M1 _ _ Hs1.out Hs2.out
          clear HFin
          go_wp2_with fail
          exact bodyPost_end (v:=.tuple #[]) (by simp [results,Tryz.results309,go_sem]) rfl ⟨rfl,HF.out⟩
         ·have g2' : ¬((E:Int)<(b:Int)):=by omega
          have Hs2:Hid ((X2++Y2).length=X2.length+Y2.length∧(∀z∈X2++Y2,z∈X2++Y2)∧Up (ltC cf) (X2++Y2)∧Alike (ltC cf) (X2++Y2) (X2++Y2)∧RowQ w0 g ((A++M1)++((X2++Y2)++C)) wr):=⟨by simp,(fun z hz=>hz),HE2.out (.inr g2),Alike.refl _ _,by simpa using Hr1.out⟩
          clear HIh2 Hr1
          have HF:Hid (zae (ltC cf) w0 g A (X++Y) C wr):=HFin.out M1 _ _ Hs1.out Hs2.out
          clear HFin
          go_wp2_with fail
          exact bodyPost_end (v:=.tuple #[]) (by simp [results,Tryz.results309,go_sem]) rfl ⟨rfl,HF.out⟩
        ·have g1' : ¬((mid:Int)<(E:Int)):=by omega
         have Hs2:Hid ((X2++Y2).length=X2.length+Y2.length∧(∀z∈X2++Y2,z∈X2++Y2)∧Up (ltC cf) (X2++Y2)∧Alike (ltC cf) (X2++Y2) (X2++Y2)∧RowQ w0 g ((A++M1)++((X2++Y2)++C)) wr):=⟨by simp,(fun z hz=>hz),HE2.out (.inl g1),Alike.refl _ _,by simpa using Hr1.out⟩
         clear HIh2 Hr1
         have HF:Hid (zae (ltC cf) w0 g A (X++Y) C wr):=HFin.out M1 _ _ Hs1.out Hs2.out
         clear HFin
         go_wp2_with fail
         exact bodyPost_end (v:=.tuple #[]) (by simp [results,Tryz.results309,go_sem]) rfl ⟨rfl,HF.out⟩
      ·have f1' : ¬((a:Int)<(r:Int)):=by omega
       obtain⟨M1,hM1⟩:∃M1,M1=X1++Y1:=⟨_,rfl⟩
       have Hs1:Hid (M1.length=X1.length+Y1.length∧(∀z∈M1,z∈X1++Y1)∧Up (ltC cf) M1∧Alike (ltC cf) M1 (X1++Y1)):=by rw [hM1];exact⟨by simp,(fun z hz=>hz),HE1.out (.inl f1),Alike.refl _ _⟩
       have Hr1:Hid (RowQ w0 g ((A++M1)++(X2++(Y2++C))) wr):=by show RowQ _ _ _ _;rw [hM1];simpa using Hrow1.out
       clear hM1 HIh1 Hrow1
       by_cases g1:mid<E
       ·by_cases g2:E<b
        ·go_wp2_with fail
         refine (HIh2.out M1 _ g1 g2 Hs1.out Hr1.out).mono ?_
         rintro e w3 ⟨rfl,hs3⟩
         obtain⟨M2,k1,k2,k3,k4,k5⟩:=hs3
         have Hs2:Hid (M2.length=X2.length+Y2.length∧(∀z∈M2,z∈X2++Y2)∧Up (ltC cf) M2∧Alike (ltC cf) M2 (X2++Y2)∧RowQ w0 g ((A++M1)++(M2++C)) w3):=⟨by simpa using k1,k2,k3,k4,k5⟩
         clear k1 k2 k3 k4 k5 HIh2 Hr1
         have HF:Hid (zae (ltC cf) w0 g A (X++Y) C w3):=HFin.out M1 _ _ Hs1.out Hs2.out
         clear HFin
         go_wp2_with fail
         exact bodyPost_end (v:=.tuple #[]) (by simp [results,Tryz.results309,go_sem]) rfl ⟨rfl,HF.out⟩
        ·have g2' : ¬((E:Int)<(b:Int)):=by omega
         have Hs2:Hid ((X2++Y2).length=X2.length+Y2.length∧(∀z∈X2++Y2,z∈X2++Y2)∧Up (ltC cf) (X2++Y2)∧Alike (ltC cf) (X2++Y2) (X2++Y2)∧RowQ w0 g ((A++M1)++((X2++Y2)++C)) wr):=⟨by simp,(fun z hz=>hz),HE2.out (.inr g2),Alike.refl _ _,by simpa using Hr1.out⟩
         clear HIh2 Hr1
         have HF:Hid (zae (ltC cf) w0 g A (X++Y) C wr):=HFin.out M1 _ _ Hs1.out Hs2.out
         clear HFin
         go_wp2_with fail
         exact bodyPost_end (v:=.tuple #[]) (by simp [results,Tryz.results309,go_sem]) rfl ⟨rfl,HF.out⟩
       ·have g1' : ¬((mid:Int)<(E:Int)):=by omega
        have Hs2:Hid ((X2++Y2).length=X2.length+Y2.length∧(∀z∈X2++Y2,z∈X2++Y2)∧Up (ltC cf) (X2++Y2)∧Alike (ltC cf) (X2++Y2) (X2++Y2)∧RowQ w0 g ((A++M1)++((X2++Y2)++C)) wr):=⟨by simp,(fun z hz=>hz),HE2.out (.inl g1),Alike.refl _ _,by simpa using Hr1.out⟩
        clear HIh2 Hr1
        have HF:Hid (zae (ltC cf) w0 g A (X++Y) C wr):=HFin.out M1 _ _ Hs1.out Hs2.out
        clear HFin
        go_wp2_with fail
        exact bodyPost_end (v:=.tuple #[]) (by simp [results,Tryz.results309,go_sem]) rfl ⟨rfl,HF.out⟩
    ·have e1' : ¬((r:Int)<(m:Int)):=by omega
     have Hrow1:Hid (RowQ w0 g (A++(X1++(Y1++(X2++(Y2++C))))) wr):=HRn.out (.inl e1)
     clear HRo HRn
     by_cases f1:a<r
     ·by_cases f2:r<mid
      ·go_wp2_with fail
       refine (HIh1.out _ f1 f2 Hrow1.out).mono ?_
       rintro e w2 ⟨rfl,hs2⟩
       obtain⟨M1,k1,k2,k3,k4,k5⟩:=hs2
       have Hs1:Hid (M1.length=X1.length+Y1.length∧(∀z∈M1,z∈X1++Y1)∧Up (ltC cf) M1∧Alike (ltC cf) M1 (X1++Y1)):=⟨by simpa using k1,k2,k3,k4⟩
       have Hr1:Hid (RowQ w0 g ((A++M1)++(X2++(Y2++C))) w2):=by show RowQ _ _ _ _;simpa using k5
       clear k1 k2 k3 k4 k5 HIh1 Hrow1
       by_cases g1:mid<E
       ·by_cases g2:E<b
        ·go_wp2_with fail
         refine (HIh2.out M1 _ g1 g2 Hs1.out Hr1.out).mono ?_
         rintro e w3 ⟨rfl,hs3⟩
         obtain⟨M2,k1,k2,k3,k4,k5⟩:=hs3
         have Hs2:Hid (M2.length=X2.length+Y2.length∧(∀z∈M2,z∈X2++Y2)∧Up (ltC cf) M2∧Alike (ltC cf) M2 (X2++Y2)∧RowQ w0 g ((A++M1)++(M2++C)) w3):=⟨by simpa using k1,k2,k3,k4,k5⟩
         clear k1 k2 k3 k4 k5 HIh2 Hr1
         have HF:Hid (zae (ltC cf) w0 g A (X++Y) C w3):=HFin.out M1 _ _ Hs1.out Hs2.out
         clear HFin
         go_wp2_with fail
         exact bodyPost_end (v:=.tuple #[]) (by simp [results,Tryz.results309,go_sem]) rfl ⟨rfl,HF.out⟩
        ·have g2' : ¬((E:Int)<(b:Int)):=by omega
         have Hs2:Hid ((X2++Y2).length=X2.length+Y2.length∧(∀z∈X2++Y2,z∈X2++Y2)∧Up (ltC cf) (X2++Y2)∧Alike (ltC cf) (X2++Y2) (X2++Y2)∧RowQ w0 g ((A++M1)++((X2++Y2)++C)) w2):=⟨by simp,(fun z hz=>hz),HE2.out (.inr g2),Alike.refl _ _,by simpa using Hr1.out⟩
         clear HIh2 Hr1
         have HF:Hid (zae (ltC cf) w0 g A (X++Y) C w2):=HFin.out M1 _ _ Hs1.out Hs2.out
         clear HFin
         go_wp2_with fail
         exact bodyPost_end (v:=.tuple #[]) (by simp [results,Tryz.results309,go_sem]) rfl ⟨rfl,HF.out⟩
       ·have g1' : ¬((mid:Int)<(E:Int)):=by omega
        have Hs2:Hid ((X2++Y2).length=X2.length+Y2.length∧(∀z∈X2++Y2,z∈X2++Y2)∧Up (ltC cf) (X2++Y2)∧Alike (ltC cf) (X2++Y2) (X2++Y2)∧RowQ w0 g ((A++M1)++((X2++Y2)++C)) w2):=⟨by simp,(fun z hz=>hz),HE2.out (.inl g1),Alike.refl _ _,by simpa using Hr1.out⟩
        clear HIh2 Hr1
        have HF:Hid (zae (ltC cf) w0 g A (X++Y) C w2):=HFin.out M1 _ _ Hs1.out Hs2.out
        clear HFin
        go_wp2_with fail
        exact bodyPost_end (v:=.tuple #[]) (by simp [results,Tryz.results309,go_sem]) rfl ⟨rfl,HF.out⟩
      ·have f2' : ¬((r:Int)<(mid:Int)):=by omega
       obtain⟨M1,hM1⟩:∃M1,M1=X1++Y1:=⟨_,rfl⟩
       have Hs1:Hid (M1.length=X1.length+Y1.length∧(∀z∈M1,z∈X1++Y1)∧Up (ltC cf) M1∧Alike (ltC cf) M1 (X1++Y1)):=by rw [hM1];exact⟨by simp,(fun z hz=>hz),HE1.out (.inr f2),Alike.refl _ _⟩
       have Hr1:Hid (RowQ w0 g ((A++M1)++(X2++(Y2++C))) wr):=by show RowQ _ _ _ _;rw [hM1];simpa using Hrow1.out
       clear hM1 HIh1 Hrow1
       by_cases g1:mid<E
       ·by_cases g2:E<b
        ·go_wp2_with fail
         refine (HIh2.out M1 _ g1 g2 Hs1.out Hr1.out).mono ?_
         rintro e w3 ⟨rfl,hs3⟩
         obtain⟨M2,k1,k2,k3,k4,k5⟩:=hs3
         have Hs2:Hid (M2.length=X2.length+Y2.length∧(∀z∈M2,z∈X2++Y2)∧Up (ltC cf) M2∧Alike (ltC cf) M2 (X2++Y2)∧RowQ w0 g ((A++M1)++(M2++C)) w3):=⟨by simpa using k1,k2,k3,k4,k5⟩
         clear k1 k2 k3 k4 k5 HIh2 Hr1
         have HF:Hid (zae (ltC cf) w0 g A (X++Y) C w3):=HFin.out M1 _ _ Hs1.out Hs2.out
         clear HFin
         go_wp2_with fail
         exact bodyPost_end (v:=.tuple #[]) (by simp [results,Tryz.results309,go_sem]) rfl ⟨rfl,HF.out⟩
        ·have g2' : ¬((E:Int)<(b:Int)):=by omega
         have Hs2:Hid ((X2++Y2).length=X2.length+Y2.length∧(∀z∈X2++Y2,z∈X2++Y2)∧Up (ltC cf) (X2++Y2)∧Alike (ltC cf) (X2++Y2) (X2++Y2)∧RowQ w0 g ((A++M1)++((X2++Y2)++C)) wr):=⟨by simp,(fun z hz=>hz),HE2.out (.inr g2),Alike.refl _ _,by simpa using Hr1.out⟩
         clear HIh2 Hr1
         have HF:Hid (zae (ltC cf) w0 g A (X++Y) C wr):=HFin.out M1 _ _ Hs1.out Hs2.out
         clear HFin
         go_wp2_with fail
         exact bodyPost_end (v:=.tuple #[]) (by simp [results,Tryz.results309,go_sem]) rfl ⟨rfl,HF.out⟩
       ·have g1' : ¬((mid:Int)<(E:Int)):=by omega
        have Hs2:Hid ((X2++Y2).length=X2.length+Y2.length∧(∀z∈X2++Y2,z∈X2++Y2)∧Up (ltC cf) (X2++Y2)∧Alike (ltC cf) (X2++Y2) (X2++Y2)∧RowQ w0 g ((A++M1)++((X2++Y2)++C)) wr):=⟨by simp,(fun z hz=>hz),HE2.out (.inl g1),Alike.refl _ _,by simpa using Hr1.out⟩
        clear HIh2 Hr1
        have HF:Hid (zae (ltC cf) w0 g A (X++Y) C wr):=HFin.out M1 _ _ Hs1.out Hs2.out
        clear HFin
        go_wp2_with fail
        exact bodyPost_end (v:=.tuple #[]) (by simp [results,Tryz.results309,go_sem]) rfl ⟨rfl,HF.out⟩
     ·have f1' : ¬((a:Int)<(r:Int)):=by omega
      obtain⟨M1,hM1⟩:∃M1,M1=X1++Y1:=⟨_,rfl⟩
      have Hs1:Hid (M1.length=X1.length+Y1.length∧(∀z∈M1,z∈X1++Y1)∧Up (ltC cf) M1∧Alike (ltC cf) M1 (X1++Y1)):=by rw [hM1];exact⟨by simp,(fun z hz=>hz),HE1.out (.inl f1),Alike.refl _ _⟩
      have Hr1:Hid (RowQ w0 g ((A++M1)++(X2++(Y2++C))) wr):=by show RowQ _ _ _ _;rw [hM1];simpa using Hrow1.out
      clear hM1 HIh1 Hrow1
      by_cases g1:mid<E
      ·by_cases g2:E<b
       ·go_wp2_with fail
        refine (HIh2.out M1 _ g1 g2 Hs1.out Hr1.out).mono ?_
        rintro e w3 ⟨rfl,hs3⟩
        obtain⟨M2,k1,k2,k3,k4,k5⟩:=hs3
        have Hs2:Hid (M2.length=X2.length+Y2.length∧(∀z∈M2,z∈X2++Y2)∧Up (ltC cf) M2∧Alike (ltC cf) M2 (X2++Y2)∧RowQ w0 g ((A++M1)++(M2++C)) w3):=⟨by simpa using k1,k2,k3,k4,k5⟩
        clear k1 k2 k3 k4 k5 HIh2 Hr1
        have HF:Hid (zae (ltC cf) w0 g A (X++Y) C w3):=HFin.out M1 _ _ Hs1.out Hs2.out
        clear HFin
        go_wp2_with fail
        exact bodyPost_end (v:=.tuple #[]) (by simp [results,Tryz.results309,go_sem]) rfl ⟨rfl,HF.out⟩
       ·have g2' : ¬((E:Int)<(b:Int)):=by omega
        have Hs2:Hid ((X2++Y2).length=X2.length+Y2.length∧(∀z∈X2++Y2,z∈X2++Y2)∧Up (ltC cf) (X2++Y2)∧Alike (ltC cf) (X2++Y2) (X2++Y2)∧RowQ w0 g ((A++M1)++((X2++Y2)++C)) wr):=⟨by simp,(fun z hz=>hz),HE2.out (.inr g2),Alike.refl _ _,by simpa using Hr1.out⟩
        clear HIh2 Hr1
        have HF:Hid (zae (ltC cf) w0 g A (X++Y) C wr):=HFin.out M1 _ _ Hs1.out Hs2.out
        clear HFin
        go_wp2_with fail
        exact bodyPost_end (v:=.tuple #[]) (by simp [results,Tryz.results309,go_sem]) rfl ⟨rfl,HF.out⟩
      ·have g1' : ¬((mid:Int)<(E:Int)):=by omega
       have Hs2:Hid ((X2++Y2).length=X2.length+Y2.length∧(∀z∈X2++Y2,z∈X2++Y2)∧Up (ltC cf) (X2++Y2)∧Alike (ltC cf) (X2++Y2) (X2++Y2)∧RowQ w0 g ((A++M1)++((X2++Y2)++C)) wr):=⟨by simp,(fun z hz=>hz),HE2.out (.inl g1),Alike.refl _ _,by simpa using Hr1.out⟩
       clear HIh2 Hr1
       have HF:Hid (zae (ltC cf) w0 g A (X++Y) C wr):=HFin.out M1 _ _ Hs1.out Hs2.out
       clear HFin
       go_wp2_with fail
       exact bodyPost_end (v:=.tuple #[]) (by simp [results,Tryz.results309,go_sem]) rfl ⟨rfl,HF.out⟩
 ·have hmi : ¬(mid:Int)<(m:Int):=by omega
  clear hc hwk hX hY hG ha hm hb hL hR hD hF hp
  have HBd:Hid (Bds X.length Y.length a m b n mid a m):=⟨HMm.out,HBb.out,hn,hmid,hX2,hY2,.inr ⟨by omega,rfl,rfl⟩⟩
  have hbs:=HBd.out.start
  have HS0:Hid (Sec (ltC cf) X Y a m n a m a m):=Sec.begin _ _ _ _ _ _ _ _ hbs.1
  clear hbs hn hmid hX2 hY2
  go_enter Tryz.func309,Tryz.ntmps309
  go_wp2_with fail
  go_loopg [20,21] (m-a) (fun z vi vj wr=>∃(s r:Nat),vi=.int .i64 (s:Int)∧vj=.int .i64 (r:Int)∧z=r-s∧Hid (Sec (ltC cf) X Y a m n a m s r)∧Hid (RowQ w0 g (A++(X++(Y++C))) wr))
  case atStart=>exact⟨a,m,rfl,rfl,rfl,HS0,HR0⟩
  case round=>
   obtain⟨s,r,rfl,rfl,hk,HS,HR⟩:=hrel
   have Hk:Hid _:=hk
   clear hk HS0 HR0
   have s1:=HS.out.s1
   have s2:=HS.out.s2
   have s3:=HS.out.s3
   by_cases hij:s<r
   ·obtain⟨h,hh⟩:∃h,h=(s+r) / 2:=⟨_,rfl⟩
    have Hh:Hid (h=(s+r) / 2):=hh
    have hd:((s:Int)+(r:Int)) / 2=(h:Int):=by omega
    have ok:=HBd.out.ok h (by omega) (by omega)
    obtain⟨⟨o1,o2⟩,⟨o3,o4⟩,o5⟩:=ok
    have ha':=HA.out
    have hm':=HMm.out
    have hb':=HBb.out
    obtain⟨q,hq⟩:∃q,q=n-1-h:=⟨_,rfl⟩
    have hpn:=Hp.out
    have hwq:IntKind.i64.wrap ((p:Int)-(h:Int))=(q:Int):=by rw [IntKind.wrap_i64];omega
    have e2:(A++(X++(Y++C)))[h]? = some X[h-a]:=by
     rw [List.getElem?_append_right (by omega)]
     have:h-A.length=h-a:=by omega
     rw [this,List.getElem?_append_left o2,List.getElem?_eq_getElem o2]
    have e1:(A++(X++(Y++C)))[q]? = some Y[n-1-h-m]:=by
     rw [List.getElem?_append_right (by omega),List.getElem?_append_right (by omega)]
     have:q-A.length-X.length=n-1-h-m:=by omega
     rw [this,List.getElem?_append_left o4,List.getElem?_eq_getElem o4]
    have Gy:=HGY.out Y[n-1-h-m] (List.getElem_mem o4)
    have Gx:=HGX.out X[h-a] (List.getElem_mem o2)
    obtain⟨⟨r0,r1,r2,r3,r4,r5,r6,r7⟩,_⟩:=HR.out.cells q Y[n-1-h-m] e1
    obtain⟨⟨p0,p1,p2,p3,p4,p5,p6,p7⟩,_⟩:=HR.out.cells h X[h-a] e2
    have HL1:Hid (ltC cf Y[n-1-h-m] X[h-a]=false→Sec (ltC cf) X Y a m n a m (h+1) r):=fun hl=>HS.out.less HW.out HX.out HY.out HBd.out h (by omega) (by omega) o2 o4 hl
    have HL2:Hid (ltC cf Y[n-1-h-m] X[h-a]=true→Sec (ltC cf) X Y a m n a m s h):=fun hl=>HS.out.more HW.out HX.out HY.out HBd.out h (by omega) (by omega) o2 o4 hl
    have hb0:Below w0.heap.size w0 wr:=HR.out.below
    generalize X[h-a]=x at *
    generalize Y[n-1-h-m]=y at *
    obtain⟨⟨pa,pn,pc,sx1⟩,⟨pb,pm,pd,sx2⟩⟩:=GoodQ.slq (d:=d) (W:=w0) (ps:=[x]) (fun p hp=>by rw [List.mem_singleton.1 hp];exact Gx) x (by simp)
    obtain⟨⟨ra,rn,rc,sy1⟩,⟨rb,rm,rd,sy2⟩⟩:=GoodQ.slq (d:=d) (W:=w0) (ps:=[y]) (fun p hp=>by rw [List.mem_singleton.1 hp];exact Gy) y (by simp)
    rw [sx1] at p3;rw [sx2] at p7;rw [sy1] at r3;rw [sy2] at r7
    have HCe:Hid (∀W,Below w0.heap.size w0 W→Calls Tryz.prog f #[.agg #[.int .i64 y.1.1.kind,.int .i64 y.1.1.num,.string y.1.1.text,.slice ra rn rc,.int .i64 y.2.1.kind,.int .i64 y.2.1.num,.string y.2.1.text,.slice rb rm rd],.agg #[.int .i64 x.1.1.kind,.int .i64 x.1.1.num,.string x.1.1.text,.slice pa pn pc,.int .i64 x.2.1.kind,.int .i64 x.2.1.num,.string x.2.1.text,.slice pb pm pd]] W fun e W'=>e=.returned (.int .i64 (cf y x))∧Below W.heap.size W W'):=fun W hW=>by
     have h':=HC.out y x W (Gy.keeps hW) (Gx.keeps hW)
     simp only [encQ,encP,sx1,sx2,sy1,sy2,List.cons_append,List.nil_append] at h'
     exact h'
    have hhl:h<L:=by omega
    have hql:q<L:=by omega
    have hhi:(h:Int)<(L:Nat):=by omega
    have hqi:(q:Int)<(L:Nat):=by omega
    have HZ1:Hid (¬cf y x<0→Sec (ltC cf) X Y a m n a m (h+1) r):=fun hz=>HL1.out (decide_eq_false hz)
    have HZ2:Hid (cf y x<0→Sec (ltC cf) X Y a m n a m s h):=fun hz=>HL2.out (decide_eq_true hz)
    clear HL1 HL2 Gx Gy sx1 sx2 sy1 sy2 e1 e2 o1 o2 o3 o4 o5 ha' hm' hb' HS s1 s2 s3 hh hq hpn
    generalize hZ:cf y x=Z at *
    clear hZ
    go_wp2_with fail
    go_region_held3 (fun w'=>(w'.cell? ⟨g,q*8,none⟩=some (.int .i64 y.1.1.kind)∧w'.cell? ⟨g,q*8+1,none⟩=some (.int .i64 y.1.1.num)∧w'.cell? ⟨g,q*8+2,none⟩=some (.string y.1.1.text)∧w'.cell? ⟨g,q*8+3,none⟩=some (.slice ra rn rc)∧w'.cell? ⟨g,q*8+4,none⟩=some (.int .i64 y.2.1.kind)∧w'.cell? ⟨g,q*8+5,none⟩=some (.int .i64 y.2.1.num)∧w'.cell? ⟨g,q*8+6,none⟩=some (.string y.2.1.text)∧w'.cell? ⟨g,q*8+7,none⟩=some (.slice rb rm rd))∧(w'.cell? ⟨g,h*8,none⟩=some (.int .i64 x.1.1.kind)∧w'.cell? ⟨g,h*8+1,none⟩=some (.int .i64 x.1.1.num)∧w'.cell? ⟨g,h*8+2,none⟩=some (.string x.1.1.text)∧w'.cell? ⟨g,h*8+3,none⟩=some (.slice pa pn pc)∧w'.cell? ⟨g,h*8+4,none⟩=some (.int .i64 x.2.1.kind)∧w'.cell? ⟨g,h*8+5,none⟩=some (.int .i64 x.2.1.num)∧w'.cell? ⟨g,h*8+6,none⟩=some (.string x.2.1.text)∧w'.cell? ⟨g,h*8+7,none⟩=some (.slice pb pm pd))) (go_keep)
     (first|(go_at_fn f;refine (HCe.out _ (hb0.trans ((Below.refl _ _).drew.mono hb0.size))).mono ?_;rintro e w1 ⟨rfl,hg1⟩;have hb1:Below wr.heap.size wr w1:=(Below.refl _ _).drew.trans hg1;clear hg1;have p0:=zaa hb1 p0;have p1:=zaa hb1 p1;have p2:=zaa hb1 p2;have p3:=zaa hb1 p3;have p4:=zaa hb1 p4;have p5:=zaa hb1 p5;have p6:=zaa hb1 p6;have p7:=zaa hb1 p7;have r0:=zaa hb1 r0;have r1:=zaa hb1 r1;have r2:=zaa hb1 r2;have r3:=zaa hb1 r3;have r4:=zaa hb1 r4;have r5:=zaa hb1 r5;have r6:=zaa hb1 r6;have r7:=zaa hb1 r7))
    have HR1:Hid (RowQ w0 g (A++(X++(Y++C))) w1):=HR.out.keeps hb1
    clear p0 p1 p2 p3 p4 p5 p6 p7 r0 r1 r2 r3 r4 r5 r6 r7 HR HCe
    by_cases hz:Z<0
    ·have HN:Hid _:=HZ2.out hz
     have hzd:decide (Z<0)=true:=decide_eq_true hz
     have hze:(!decide (Z<0))=false:=by rw [hzd];rfl
     clear HZ1 HZ2
     go_wp2_with fail
     ·exact absurd ‹(!decide (Z<0))=true› (by rw [hze];simp)
     ·go_roundg (h-s)
      case measure=>have:=Hk.out;have:=Hh.out;omega
      case rel=>exact⟨s,h,rfl,rfl,rfl,HN,HR1⟩
    ·have HN:Hid _:=HZ1.out (by omega)
     have hze:(!decide (Z<0))=true:=by rw [decide_eq_false hz];rfl
     clear HZ1 HZ2
     go_wp2_with fail
     ·go_roundg (r-(h+1))
      case measure=>have:=Hk.out;have:=Hh.out;omega
      case rel=>exact⟨h+1,r,by go_num,rfl,rfl,HN,HR1⟩
     ·exact absurd ‹(!decide (Z<0))=false› (by rw [hze];simp)
   ·have hje:r=s:=by omega
    subst hje
    obtain⟨⟨c1,c2⟩,q1,q2⟩:=HS.out.cut HW.out HX.out HY.out HBd.out
    have bs:=HBd.out.start
    have ha':=HA.out
    have hm':=HMm.out
    have hb':=HBb.out
    have hn':=HBd.out.en
    have hmid':=HBd.out.mi
    obtain⟨E,hE⟩:∃E,E=n-r:=⟨_,rfl⟩
    have hwE:IntKind.i64.wrap ((n:Int)-(r:Int))=(E:Int):=by rw [IntKind.wrap_i64];omega
    obtain⟨X1,hX1⟩:∃X1,X1=X.take (r-a):=⟨_,rfl⟩
    obtain⟨X2,hX2⟩:∃X2,X2=X.drop (r-a):=⟨_,rfl⟩
    obtain⟨Y1,hY1⟩:∃Y1,Y1=Y.take (n-r-m):=⟨_,rfl⟩
    obtain⟨Y2,hY2⟩:∃Y2,Y2=Y.drop (n-r-m):=⟨_,rfl⟩
    rw [←hX2,←hY1] at q1
    rw [←hX1,←hY2] at q2
    have hXe:X1++X2=X:=by rw [hX1,hX2];exact List.take_append_drop _ _
    have hYe:Y1++Y2=Y:=by rw [hY1,hY2];exact List.take_append_drop _ _
    have l1:X1.length=r-a:=by rw [hX1,List.length_take];omega
    have l2:Y1.length=E-m:=by rw [hY1,List.length_take];omega
    have l3:X1.length+X2.length=X.length:=by rw [←hXe];simp
    have l4:Y1.length+Y2.length=Y.length:=by rw [←hYe];simp
    have HRow:Hid (RowQ w0 g ((A++X1)++(X2++(Y1++(Y2++C)))) wr):=by show RowQ _ _ _ _;have:=HR.out;rw [←hXe,←hYe] at this;simpa using this
    have HLL:Hid (L=A.length+X1.length+X2.length+Y1.length+Y2.length+C.length):=by show _=_;have:=HLl.out;simp at this;omega
    have HGo:Hid (∀p,p∈A∨p∈X1∨p∈X2∨p∈Y1∨p∈Y2∨p∈C→GoodQ d w0 p):=fun p hp=>HG.out p (by rw [←hXe,←hYe];simp;rcases hp with h|h|h|h|h|h <;> simp [h])
    have uX:=List.pairwise_append.1 (show Up (ltC cf) (X1++X2) by rw [hXe];exact HX.out)
    have uY:=List.pairwise_append.1 (show Up (ltC cf) (Y1++Y2) by rw [hYe];exact HY.out)
    have HRn:Hid ((¬r<m∨¬m<E)→RowQ w0 g (A++(X1++(Y1++(X2++(Y2++C))))) wr):=fun h=>by
     rcases h with h|h
     ·have e:X2=[]:=List.eq_nil_of_length_eq_zero (by omega)
      have:=HRow.out
      rw [e] at this ⊢
      simpa using this
     ·have e:Y1=[]:=List.eq_nil_of_length_eq_zero (by omega)
      have:=HRow.out
      rw [e] at this ⊢
      simpa using this
    have HRo:Hid (r<m→m<E→Calls Tryz.prog 322 #[.slice (some ⟨g,0,none⟩) L cap,.int .i64 r,.int .i64 m,.int .i64 E,.func (.func f) #[] #[]] wr fun e w'=>e=.returned (.tuple #[])∧RowQ w0 g ((A++X1)++(Y1++(X2++(Y2++C)))) w'):=fun h1 h2=>rotate_any w0 g cap r m E L _ (A++X1) X2 Y1 (Y2++C) wr hg (by simp;omega) (by simp;omega) (by simp;omega) (by omega) (by omega) (by have:=HLL.out;simp;omega) HRow.out (GoodQ.slq (d:=d) (W:=w0) (fun p hp=>HGo.out p (by simp at hp ⊢;rcases hp with h|h|h|h|h|h <;> simp [h]))) hlen
    have HE1:Hid ((¬a<r∨¬r<mid)→Up (ltC cf) (X1++Y1)):=fun h=>by
     rcases h with h|h
     ·have e:X1=[]:=List.eq_nil_of_length_eq_zero (by omega)
      rw [e];exact uY.1
     ·have e:Y1=[]:=List.eq_nil_of_length_eq_zero (by omega)
      rw [e,List.append_nil];exact uX.1
    have HE2:Hid ((¬mid<E∨¬E<b)→Up (ltC cf) (X2++Y2)):=fun h=>by
     rcases h with h|h
     ·have e:X2=[]:=List.eq_nil_of_length_eq_zero (by omega)
      rw [e];exact uY.2.1
     ·have e:Y2=[]:=List.eq_nil_of_length_eq_zero (by omega)
      rw [e,List.append_nil];exact uX.2.1
    have HIh1:Hid (∀W,a<r→r<mid→RowQ w0 g (A++(X1++(Y1++(X2++(Y2++C))))) W→Calls Tryz.prog 309 #[.slice (some ⟨g,0,none⟩) L cap,.int .i64 a,.int .i64 r,.int .i64 mid,.func (.func f) #[] #[]] W fun e w'=>e=.returned (.tuple #[])∧zae (ltC cf) w0 g A (X1++Y1) (X2++(Y2++C)) w'):=fun W h1 h2 hR=>ih.out A X1 Y1 (X2++(Y2++C)) a r mid W (by omega) (by omega) (by omega) ha' (by omega) (by omega) (by have:=HLL.out;simp;omega) hR (fun p hp=>HGo.out p (by simp at hp ⊢;rcases hp with h|h|h|h|h|h <;> simp [h])) uX.1 uY.1
    have HIh2:Hid (∀(M1:List PP) (W:World),mid<E→E<b→(M1.length=X1.length+Y1.length∧(∀z∈M1,z∈X1++Y1)∧Up (ltC cf) M1∧Alike (ltC cf) M1 (X1++Y1))→RowQ w0 g ((A++M1)++(X2++(Y2++C))) W→Calls Tryz.prog 309 #[.slice (some ⟨g,0,none⟩) L cap,.int .i64 mid,.int .i64 E,.int .i64 b,.func (.func f) #[] #[]] W fun e w'=>e=.returned (.tuple #[])∧zae (ltC cf) w0 g (A++M1) (X2++Y2) C w'):=fun M1 W h1 h2 hM hR=>ih.out (A++M1) X2 Y2 C mid E b W (by omega) (by omega) (by omega) (by have:=hM.1;simp;omega) (by omega) (by omega) (by have:=HLL.out;have:=hM.1;simp;omega) hR (fun p hp=>HGo.out p (by
     have hz:=hM.2.1 p
     simp at hp hz ⊢
     rcases hp with h|h|h|h|h
     ·simp [h]
     ·rcases hz h with k|k <;> simp [k]
     ·simp [h]
     ·simp [h]
     ·simp [h])) uX.2.1 uY.2.1
    have HFin:Hid (∀(M1 M2:List PP) (W:World),(M1.length=X1.length+Y1.length∧(∀z∈M1,z∈X1++Y1)∧Up (ltC cf) M1∧Alike (ltC cf) M1 (X1++Y1))→(M2.length=X2.length+Y2.length∧(∀z∈M2,z∈X2++Y2)∧Up (ltC cf) M2∧Alike (ltC cf) M2 (X2++Y2)∧RowQ w0 g ((A++M1)++(M2++C)) W)→zae (ltC cf) w0 g A (X++Y) C W):=fun M1 M2 W h1 h2=>by
     have hs:=cut_sorts HW.out X1 X2 Y1 Y2 M1 M2 (by rw [hXe];exact HX.out) (by rw [hYe];exact HY.out) q1 q2 h1.2.2.1 h1.2.2.2 h1.2.1 h2.2.2.1 h2.2.2.2.1 h2.2.1
     rw [hXe,hYe] at hs
     refine⟨M1++M2,by have:=h1.1;have:=h2.1;simp;omega,fun z hz=>hs.2.mem HW.out hz,hs.1,hs.2,by simpa using h2.2.2.2.2⟩
    have har:a≤r:=by omega
    have hrm:r≤mid:=by rcases HBd.out.ends with ⟨_,_,_⟩|⟨_,_,_⟩ <;> omega
    have hmE:mid≤E:=by omega
    have hEb:E≤b:=by omega
    clear HR HS HRow HLL HGo uX uY hXe hYe l1 l2 l3 l4 hX1 hX2 hY1 hY2 q1 q2 c1 c2 bs ha' hm' hb' hn' hmid' hE ih HC HW HX HY HG HGX HGY HBd s1 s2 s3 hij
    by_cases e1:r<m
    ·by_cases e2:m<E
     ·go_wp2_with fail
      refine (HRo.out e1 e2).mono ?_
      rintro e w1 ⟨rfl,hr1⟩
      have Hrow1:Hid (RowQ w0 g (A++(X1++(Y1++(X2++(Y2++C))))) w1):=by show RowQ _ _ _ _;simpa using hr1
      clear hr1 HRo HRn
      by_cases f1:a<r
      ·by_cases f2:r<mid
       ·go_wp2_with fail
        refine (HIh1.out _ f1 f2 Hrow1.out).mono ?_
        rintro e w2 ⟨rfl,hs2⟩
        obtain⟨M1,k1,k2,k3,k4,k5⟩:=hs2
        have Hs1:Hid (M1.length=X1.length+Y1.length∧(∀z∈M1,z∈X1++Y1)∧Up (ltC cf) M1∧Alike (ltC cf) M1 (X1++Y1)):=⟨by simpa using k1,k2,k3,k4⟩
        have Hr1:Hid (RowQ w0 g ((A++M1)++(X2++(Y2++C))) w2):=by show RowQ _ _ _ _;simpa using k5
        clear k1 k2 k3 k4 k5 HIh1 Hrow1
        by_cases g1:mid<E
        ·by_cases g2:E<b
         ·go_wp2_with fail
          refine (HIh2.out M1 _ g1 g2 Hs1.out Hr1.out).mono ?_
          rintro e w3 ⟨rfl,hs3⟩
          obtain⟨M2,k1,k2,k3,k4,k5⟩:=hs3
          have Hs2:Hid (M2.length=X2.length+Y2.length∧(∀z∈M2,z∈X2++Y2)∧Up (ltC cf) M2∧Alike (ltC cf) M2 (X2++Y2)∧RowQ w0 g ((A++M1)++(M2++C)) w3):=⟨by simpa using k1,k2,k3,k4,k5⟩
          clear k1 k2 k3 k4 k5 HIh2 Hr1
          have HF:Hid (zae (ltC cf) w0 g A (X++Y) C w3):=HFin.out M1 _ _ Hs1.out Hs2.out
          clear HFin
          go_wp2_with fail
          exact bodyPost_end (v:=.tuple #[]) (by simp [results,Tryz.results309,go_sem]) rfl ⟨rfl,HF.out⟩
         ·have g2' : ¬((E:Int)<(b:Int)):=by omega
          have Hs2:Hid ((X2++Y2).length=X2.length+Y2.length∧(∀z∈X2++Y2,z∈X2++Y2)∧Up (ltC cf) (X2++Y2)∧Alike (ltC cf) (X2++Y2) (X2++Y2)∧RowQ w0 g ((A++M1)++((X2++Y2)++C)) w2):=⟨by simp,(fun z hz=>hz),HE2.out (.inr g2),Alike.refl _ _,by simpa using Hr1.out⟩
          clear HIh2 Hr1
          have HF:Hid (zae (ltC cf) w0 g A (X++Y) C w2):=HFin.out M1 _ _ Hs1.out Hs2.out
          clear HFin
          go_wp2_with fail
          exact bodyPost_end (v:=.tuple #[]) (by simp [results,Tryz.results309,go_sem]) rfl ⟨rfl,HF.out⟩
        ·have g1' : ¬((mid:Int)<(E:Int)):=by omega
         have Hs2:Hid ((X2++Y2).length=X2.length+Y2.length∧(∀z∈X2++Y2,z∈X2++Y2)∧Up (ltC cf) (X2++Y2)∧Alike (ltC cf) (X2++Y2) (X2++Y2)∧RowQ w0 g ((A++M1)++((X2++Y2)++C)) w2):=⟨by simp,(fun z hz=>hz),HE2.out (.inl g1),Alike.refl _ _,by simpa using Hr1.out⟩
         clear HIh2 Hr1
         have HF:Hid (zae (ltC cf) w0 g A (X++Y) C w2):=HFin.out M1 _ _ Hs1.out Hs2.out
         clear HFin
         go_wp2_with fail
         exact bodyPost_end (v:=.tuple #[]) (by simp [results,Tryz.results309,go_sem]) rfl ⟨rfl,HF.out⟩
       ·have f2' : ¬((r:Int)<(mid:Int)):=by omega
        obtain⟨M1,hM1⟩:∃M1,M1=X1++Y1:=⟨_,rfl⟩
        have Hs1:Hid (M1.length=X1.length+Y1.length∧(∀z∈M1,z∈X1++Y1)∧Up (ltC cf) M1∧Alike (ltC cf) M1 (X1++Y1)):=by rw [hM1];exact⟨by simp,(fun z hz=>hz),HE1.out (.inr f2),Alike.refl _ _⟩
        have Hr1:Hid (RowQ w0 g ((A++M1)++(X2++(Y2++C))) w1):=by show RowQ _ _ _ _;rw [hM1];simpa using Hrow1.out
        clear hM1 HIh1 Hrow1
        by_cases g1:mid<E
        ·by_cases g2:E<b
         ·go_wp2_with fail
          refine (HIh2.out M1 _ g1 g2 Hs1.out Hr1.out).mono ?_
          rintro e w3 ⟨rfl,hs3⟩
          obtain⟨M2,k1,k2,k3,k4,k5⟩:=hs3
          have Hs2:Hid (M2.length=X2.length+Y2.length∧(∀z∈M2,z∈X2++Y2)∧Up (ltC cf) M2∧Alike (ltC cf) M2 (X2++Y2)∧RowQ w0 g ((A++M1)++(M2++C)) w3):=⟨by simpa using k1,k2,k3,k4,k5⟩
          clear k1 k2 k3 k4 k5 HIh2 Hr1
          have HF:Hid (zae (ltC cf) w0 g A (X++Y) C w3):=HFin.out M1 _ _ Hs1.out Hs2.out
          clear HFin
          go_wp2_with fail
          exact bodyPost_end (v:=.tuple #[]) (by simp [results,Tryz.results309,go_sem]) rfl ⟨rfl,HF.out⟩
         ·have g2' : ¬((E:Int)<(b:Int)):=by omega
          have Hs2:Hid ((X2++Y2).length=X2.length+Y2.length∧(∀z∈X2++Y2,z∈X2++Y2)∧Up (ltC cf) (X2++Y2)∧Alike (ltC cf) (X2++Y2) (X2++Y2)∧RowQ w0 g ((A++M1)++((X2++Y2)++C)) w1):=⟨by simp,(fun z hz=>hz),HE2.out (.inr g2),Alike.refl _ _,by simpa using Hr1.out⟩
          clear HIh2 Hr1
          have HF:Hid (zae (ltC cf) w0 g A (X++Y) C w1):=HFin.out M1 _ _ Hs1.out Hs2.out
          clear HFin
          go_wp2_with fail
          exact bodyPost_end (v:=.tuple #[]) (by simp [results,Tryz.results309,go_sem]) rfl ⟨rfl,HF.out⟩
        ·have g1' : ¬((mid:Int)<(E:Int)):=by omega
         have Hs2:Hid ((X2++Y2).length=X2.length+Y2.length∧(∀z∈X2++Y2,z∈X2++Y2)∧Up (ltC cf) (X2++Y2)∧Alike (ltC cf) (X2++Y2) (X2++Y2)∧RowQ w0 g ((A++M1)++((X2++Y2)++C)) w1):=⟨by simp,(fun z hz=>hz),HE2.out (.inl g1),Alike.refl _ _,by simpa using Hr1.out⟩
         clear HIh2 Hr1
         have HF:Hid (zae (ltC cf) w0 g A (X++Y) C w1):=HFin.out M1 _ _ Hs1.out Hs2.out
         clear HFin
         go_wp2_with fail
         exact bodyPost_end (v:=.tuple #[]) (by simp [results,Tryz.results309,go_sem]) rfl ⟨rfl,HF.out⟩
      ·have f1' : ¬((a:Int)<(r:Int)):=by omega
       obtain⟨M1,hM1⟩:∃M1,M1=X1++Y1:=⟨_,rfl⟩
       have Hs1:Hid (M1.length=X1.length+Y1.length∧(∀z∈M1,z∈X1++Y1)∧Up (ltC cf) M1∧Alike (ltC cf) M1 (X1++Y1)):=by rw [hM1];exact⟨by simp,(fun z hz=>hz),HE1.out (.inl f1),Alike.refl _ _⟩
       have Hr1:Hid (RowQ w0 g ((A++M1)++(X2++(Y2++C))) w1):=by show RowQ _ _ _ _;rw [hM1];simpa using Hrow1.out
       clear hM1 HIh1 Hrow1
       by_cases g1:mid<E
       ·by_cases g2:E<b
        ·go_wp2_with fail
         refine (HIh2.out M1 _ g1 g2 Hs1.out Hr1.out).mono ?_
         rintro e w3 ⟨rfl,hs3⟩
         obtain⟨M2,k1,k2,k3,k4,k5⟩:=hs3
         have Hs2:Hid (M2.length=X2.length+Y2.length∧(∀z∈M2,z∈X2++Y2)∧Up (ltC cf) M2∧Alike (ltC cf) M2 (X2++Y2)∧RowQ w0 g ((A++M1)++(M2++C)) w3):=⟨by simpa using k1,k2,k3,k4,k5⟩
         clear k1 k2 k3 k4 k5 HIh2 Hr1
         have HF:Hid (zae (ltC cf) w0 g A (X++Y) C w3):=HFin.out M1 _ _ Hs1.out Hs2.out
         clear HFin
         go_wp2_with fail
         exact bodyPost_end (v:=.tuple #[]) (by simp [results,Tryz.results309,go_sem]) rfl ⟨rfl,HF.out⟩
        ·have g2' : ¬((E:Int)<(b:Int)):=by omega
         have Hs2:Hid ((X2++Y2).length=X2.length+Y2.length∧(∀z∈X2++Y2,z∈X2++Y2)∧Up (ltC cf) (X2++Y2)∧Alike (ltC cf) (X2++Y2) (X2++Y2)∧RowQ w0 g ((A++M1)++((X2++Y2)++C)) w1):=⟨by simp,(fun z hz=>hz),HE2.out (.inr g2),Alike.refl _ _,by simpa using Hr1.out⟩
         clear HIh2 Hr1
         have HF:Hid (zae (ltC cf) w0 g A (X++Y) C w1):=HFin.out M1 _ _ Hs1.out Hs2.out
         clear HFin
         go_wp2_with fail
         exact bodyPost_end (v:=.tuple #[]) (by simp [results,Tryz.results309,go_sem]) rfl ⟨rfl,HF.out⟩
       ·have g1' : ¬((mid:Int)<(E:Int)):=by omega
        have Hs2:Hid ((X2++Y2).length=X2.length+Y2.length∧(∀z∈X2++Y2,z∈X2++Y2)∧Up (ltC cf) (X2++Y2)∧Alike (ltC cf) (X2++Y2) (X2++Y2)∧RowQ w0 g ((A++M1)++((X2++Y2)++C)) w1):=⟨by simp,(fun z hz=>hz),HE2.out (.inl g1),Alike.refl _ _,by simpa using Hr1.out⟩
        clear HIh2 Hr1
        have HF:Hid (zae (ltC cf) w0 g A (X++Y) C w1):=HFin.out M1 _ _ Hs1.out Hs2.out
        clear HFin
        go_wp2_with fail
        exact bodyPost_end (v:=.tuple #[]) (by simp [results,Tryz.results309,go_sem]) rfl ⟨rfl,HF.out⟩
     ·have e2' : ¬((m:Int)<(E:Int)):=by omega
      have Hrow1:Hid (RowQ w0 g (A++(X1++(Y1++(X2++(Y2++C))))) wr):=HRn.out (.inr e2)
      clear HRo HRn
      by_cases f1:a<r
      ·by_cases f2:r<mid
       ·go_wp2_with fail
        refine (HIh1.out _ f1 f2 Hrow1.out).mono ?_
        rintro e w2 ⟨rfl,hs2⟩
        obtain⟨M1,k1,k2,k3,k4,k5⟩:=hs2
        have Hs1:Hid (M1.length=X1.length+Y1.length∧(∀z∈M1,z∈X1++Y1)∧Up (ltC cf) M1∧Alike (ltC cf) M1 (X1++Y1)):=⟨by simpa using k1,k2,k3,k4⟩
        have Hr1:Hid (RowQ w0 g ((A++M1)++(X2++(Y2++C))) w2):=by show RowQ _ _ _ _;simpa using k5
        clear k1 k2 k3 k4 k5 HIh1 Hrow1
        by_cases g1:mid<E
        ·by_cases g2:E<b
         ·go_wp2_with fail
          refine (HIh2.out M1 _ g1 g2 Hs1.out Hr1.out).mono ?_
          rintro e w3 ⟨rfl,hs3⟩
          obtain⟨M2,k1,k2,k3,k4,k5⟩:=hs3
          have Hs2:Hid (M2.length=X2.length+Y2.length∧(∀z∈M2,z∈X2++Y2)∧Up (ltC cf) M2∧Alike (ltC cf) M2 (X2++Y2)∧RowQ w0 g ((A++M1)++(M2++C)) w3):=⟨by simpa using k1,k2,k3,k4,k5⟩
          clear k1 k2 k3 k4 k5 HIh2 Hr1
          have HF:Hid (zae (ltC cf) w0 g A (X++Y) C w3):=HFin.out M1 _ _ Hs1.out Hs2.out
          clear HFin
          go_wp2_with fail
          exact bodyPost_end (v:=.tuple #[]) (by simp [results,Tryz.results309,go_sem]) rfl ⟨rfl,HF.out⟩
         ·have g2' : ¬((E:Int)<(b:Int)):=by omega
          have Hs2:Hid ((X2++Y2).length=X2.length+Y2.length∧(∀z∈X2++Y2,z∈X2++Y2)∧Up (ltC cf) (X2++Y2)∧Alike (ltC cf) (X2++Y2) (X2++Y2)∧RowQ w0 g ((A++M1)++((X2++Y2)++C)) w2):=⟨by simp,(fun z hz=>hz),HE2.out (.inr g2),Alike.refl _ _,by simpa using Hr1.out⟩
          clear HIh2 Hr1
          have HF:Hid (zae (ltC cf) w0 g A (X++Y) C w2):=HFin.out M1 _ _ Hs1.out Hs2.out
          clear HFin
          go_wp2_with fail
          exact bodyPost_end (v:=.tuple #[]) (by simp [results,Tryz.results309,go_sem]) rfl ⟨rfl,HF.out⟩
        ·have g1' : ¬((mid:Int)<(E:Int)):=by omega
         have Hs2:Hid ((X2++Y2).length=X2.length+Y2.length∧(∀z∈X2++Y2,z∈X2++Y2)∧Up (ltC cf) (X2++Y2)∧Alike (ltC cf) (X2++Y2) (X2++Y2)∧RowQ w0 g ((A++M1)++((X2++Y2)++C)) w2):=⟨by simp,(fun z hz=>hz),HE2.out (.inl g1),Alike.refl _ _,by simpa using Hr1.out⟩
         clear HIh2 Hr1
         have HF:Hid (zae (ltC cf) w0 g A (X++Y) C w2):=HFin.out M1 _ _ Hs1.out Hs2.out
         clear HFin
         go_wp2_with fail
         exact bodyPost_end (v:=.tuple #[]) (by simp [results,Tryz.results309,go_sem]) rfl ⟨rfl,HF.out⟩
       ·have f2' : ¬((r:Int)<(mid:Int)):=by omega
        obtain⟨M1,hM1⟩:∃M1,M1=X1++Y1:=⟨_,rfl⟩
        have Hs1:Hid (M1.length=X1.length+Y1.length∧(∀z∈M1,z∈X1++Y1)∧Up (ltC cf) M1∧Alike (ltC cf) M1 (X1++Y1)):=by rw [hM1];exact⟨by simp,(fun z hz=>hz),HE1.out (.inr f2),Alike.refl _ _⟩
        have Hr1:Hid (RowQ w0 g ((A++M1)++(X2++(Y2++C))) wr):=by show RowQ _ _ _ _;rw [hM1];simpa using Hrow1.out
        clear hM1 HIh1 Hrow1
        by_cases g1:mid<E
        ·by_cases g2:E<b
         ·go_wp2_with fail
          refine (HIh2.out M1 _ g1 g2 Hs1.out Hr1.out).mono ?_
          rintro e w3 ⟨rfl,hs3⟩
          obtain⟨M2,k1,k2,k3,k4,k5⟩:=hs3
          have Hs2:Hid (M2.length=X2.length+Y2.length∧(∀z∈M2,z∈X2++Y2)∧Up (ltC cf) M2∧Alike (ltC cf) M2 (X2++Y2)∧RowQ w0 g ((A++M1)++(M2++C)) w3):=⟨by simpa using k1,k2,k3,k4,k5⟩
          clear k1 k2 k3 k4 k5 HIh2 Hr1
          have HF:Hid (zae (ltC cf) w0 g A (X++Y) C w3):=HFin.out M1 _ _ Hs1.out Hs2.out
          clear HFin
          go_wp2_with fail
          exact bodyPost_end (v:=.tuple #[]) (by simp [results,Tryz.results309,go_sem]) rfl ⟨rfl,HF.out⟩
         ·have g2' : ¬((E:Int)<(b:Int)):=by omega
          have Hs2:Hid ((X2++Y2).length=X2.length+Y2.length∧(∀z∈X2++Y2,z∈X2++Y2)∧Up (ltC cf) (X2++Y2)∧Alike (ltC cf) (X2++Y2) (X2++Y2)∧RowQ w0 g ((A++M1)++((X2++Y2)++C)) wr):=⟨by simp,(fun z hz=>hz),HE2.out (.inr g2),Alike.refl _ _,by simpa using Hr1.out⟩
          clear HIh2 Hr1
          have HF:Hid (zae (ltC cf) w0 g A (X++Y) C wr):=HFin.out M1 _ _ Hs1.out Hs2.out
          clear HFin
          go_wp2_with fail
          exact bodyPost_end (v:=.tuple #[]) (by simp [results,Tryz.results309,go_sem]) rfl ⟨rfl,HF.out⟩
        ·have g1' : ¬((mid:Int)<(E:Int)):=by omega
         have Hs2:Hid ((X2++Y2).length=X2.length+Y2.length∧(∀z∈X2++Y2,z∈X2++Y2)∧Up (ltC cf) (X2++Y2)∧Alike (ltC cf) (X2++Y2) (X2++Y2)∧RowQ w0 g ((A++M1)++((X2++Y2)++C)) wr):=⟨by simp,(fun z hz=>hz),HE2.out (.inl g1),Alike.refl _ _,by simpa using Hr1.out⟩
         clear HIh2 Hr1
         have HF:Hid (zae (ltC cf) w0 g A (X++Y) C wr):=HFin.out M1 _ _ Hs1.out Hs2.out
         clear HFin
         go_wp2_with fail
         exact bodyPost_end (v:=.tuple #[]) (by simp [results,Tryz.results309,go_sem]) rfl ⟨rfl,HF.out⟩
      ·have f1' : ¬((a:Int)<(r:Int)):=by omega
       obtain⟨M1,hM1⟩:∃M1,M1=X1++Y1:=⟨_,rfl⟩
       have Hs1:Hid (M1.length=X1.length+Y1.length∧(∀z∈M1,z∈X1++Y1)∧Up (ltC cf) M1∧Alike (ltC cf) M1 (X1++Y1)):=by rw [hM1];exact⟨by simp,(fun z hz=>hz),HE1.out (.inl f1),Alike.refl _ _⟩
       have Hr1:Hid (RowQ w0 g ((A++M1)++(X2++(Y2++C))) wr):=by show RowQ _ _ _ _;rw [hM1];simpa using Hrow1.out
       clear hM1 HIh1 Hrow1
       by_cases g1:mid<E
       ·by_cases g2:E<b
        ·go_wp2_with fail
         refine (HIh2.out M1 _ g1 g2 Hs1.out Hr1.out).mono ?_
         rintro e w3 ⟨rfl,hs3⟩
         obtain⟨M2,k1,k2,k3,k4,k5⟩:=hs3
         have Hs2:Hid (M2.length=X2.length+Y2.length∧(∀z∈M2,z∈X2++Y2)∧Up (ltC cf) M2∧Alike (ltC cf) M2 (X2++Y2)∧RowQ w0 g ((A++M1)++(M2++C)) w3):=⟨by simpa using k1,k2,k3,k4,k5⟩
         clear k1 k2 k3 k4 k5 HIh2 Hr1
         have HF:Hid (zae (ltC cf) w0 g A (X++Y) C w3):=HFin.out M1 _ _ Hs1.out Hs2.out
         clear HFin
         go_wp2_with fail
         exact bodyPost_end (v:=.tuple #[]) (by simp [results,Tryz.results309,go_sem]) rfl ⟨rfl,HF.out⟩
        ·have g2' : ¬((E:Int)<(b:Int)):=by omega
         have Hs2:Hid ((X2++Y2).length=X2.length+Y2.length∧(∀z∈X2++Y2,z∈X2++Y2)∧Up (ltC cf) (X2++Y2)∧Alike (ltC cf) (X2++Y2) (X2++Y2)∧RowQ w0 g ((A++M1)++((X2++Y2)++C)) wr):=⟨by simp,(fun z hz=>hz),HE2.out (.inr g2),Alike.refl _ _,by simpa using Hr1.out⟩
         clear HIh2 Hr1
         have HF:Hid (zae (ltC cf) w0 g A (X++Y) C wr):=HFin.out M1 _ _ Hs1.out Hs2.out
         clear HFin
         go_wp2_with fail
         exact bodyPost_end (v:=.tuple #[]) (by simp [results,Tryz.results309,go_sem]) rfl ⟨rfl,HF.out⟩
       ·have g1' : ¬((mid:Int)<(E:Int)):=by omega
        have Hs2:Hid ((X2++Y2).length=X2.length+Y2.length∧(∀z∈X2++Y2,z∈X2++Y2)∧Up (ltC cf) (X2++Y2)∧Alike (ltC cf) (X2++Y2) (X2++Y2)∧RowQ w0 g ((A++M1)++((X2++Y2)++C)) wr):=⟨by simp,(fun z hz=>hz),HE2.out (.inl g1),Alike.refl _ _,by simpa using Hr1.out⟩
        clear HIh2 Hr1
        have HF:Hid (zae (ltC cf) w0 g A (X++Y) C wr):=HFin.out M1 _ _ Hs1.out Hs2.out
        clear HFin
        go_wp2_with fail
        exact bodyPost_end (v:=.tuple #[]) (by simp [results,Tryz.results309,go_sem]) rfl ⟨rfl,HF.out⟩
    ·have e1' : ¬((r:Int)<(m:Int)):=by omega
     have Hrow1:Hid (RowQ w0 g (A++(X1++(Y1++(X2++(Y2++C))))) wr):=HRn.out (.inl e1)
     clear HRo HRn
     by_cases f1:a<r
     ·by_cases f2:r<mid
      ·go_wp2_with fail
       refine (HIh1.out _ f1 f2 Hrow1.out).mono ?_
       rintro e w2 ⟨rfl,hs2⟩
       obtain⟨M1,k1,k2,k3,k4,k5⟩:=hs2
       have Hs1:Hid (M1.length=X1.length+Y1.length∧(∀z∈M1,z∈X1++Y1)∧Up (ltC cf) M1∧Alike (ltC cf) M1 (X1++Y1)):=⟨by simpa using k1,k2,k3,k4⟩
       have Hr1:Hid (RowQ w0 g ((A++M1)++(X2++(Y2++C))) w2):=by show RowQ _ _ _ _;simpa using k5
       clear k1 k2 k3 k4 k5 HIh1 Hrow1
       by_cases g1:mid<E
       ·by_cases g2:E<b
        ·go_wp2_with fail
         refine (HIh2.out M1 _ g1 g2 Hs1.out Hr1.out).mono ?_
         rintro e w3 ⟨rfl,hs3⟩
         obtain⟨M2,k1,k2,k3,k4,k5⟩:=hs3
         have Hs2:Hid (M2.length=X2.length+Y2.length∧(∀z∈M2,z∈X2++Y2)∧Up (ltC cf) M2∧Alike (ltC cf) M2 (X2++Y2)∧RowQ w0 g ((A++M1)++(M2++C)) w3):=⟨by simpa using k1,k2,k3,k4,k5⟩
         clear k1 k2 k3 k4 k5 HIh2 Hr1
         have HF:Hid (zae (ltC cf) w0 g A (X++Y) C w3):=HFin.out M1 _ _ Hs1.out Hs2.out
         clear HFin
         go_wp2_with fail
         exact bodyPost_end (v:=.tuple #[]) (by simp [results,Tryz.results309,go_sem]) rfl ⟨rfl,HF.out⟩
        ·have g2' : ¬((E:Int)<(b:Int)):=by omega
         have Hs2:Hid ((X2++Y2).length=X2.length+Y2.length∧(∀z∈X2++Y2,z∈X2++Y2)∧Up (ltC cf) (X2++Y2)∧Alike (ltC cf) (X2++Y2) (X2++Y2)∧RowQ w0 g ((A++M1)++((X2++Y2)++C)) w2):=⟨by simp,(fun z hz=>hz),HE2.out (.inr g2),Alike.refl _ _,by simpa using Hr1.out⟩
         clear HIh2 Hr1
         have HF:Hid (zae (ltC cf) w0 g A (X++Y) C w2):=HFin.out M1 _ _ Hs1.out Hs2.out
         clear HFin
         go_wp2_with fail
         exact bodyPost_end (v:=.tuple #[]) (by simp [results,Tryz.results309,go_sem]) rfl ⟨rfl,HF.out⟩
       ·have g1' : ¬((mid:Int)<(E:Int)):=by omega
        have Hs2:Hid ((X2++Y2).length=X2.length+Y2.length∧(∀z∈X2++Y2,z∈X2++Y2)∧Up (ltC cf) (X2++Y2)∧Alike (ltC cf) (X2++Y2) (X2++Y2)∧RowQ w0 g ((A++M1)++((X2++Y2)++C)) w2):=⟨by simp,(fun z hz=>hz),HE2.out (.inl g1),Alike.refl _ _,by simpa using Hr1.out⟩
        clear HIh2 Hr1
        have HF:Hid (zae (ltC cf) w0 g A (X++Y) C w2):=HFin.out M1 _ _ Hs1.out Hs2.out
        clear HFin
        go_wp2_with fail
        exact bodyPost_end (v:=.tuple #[]) (by simp [results,Tryz.results309,go_sem]) rfl ⟨rfl,HF.out⟩
      ·have f2' : ¬((r:Int)<(mid:Int)):=by omega
       obtain⟨M1,hM1⟩:∃M1,M1=X1++Y1:=⟨_,rfl⟩
       have Hs1:Hid (M1.length=X1.length+Y1.length∧(∀z∈M1,z∈X1++Y1)∧Up (ltC cf) M1∧Alike (ltC cf) M1 (X1++Y1)):=by rw [hM1];exact⟨by simp,(fun z hz=>hz),HE1.out (.inr f2),Alike.refl _ _⟩
       have Hr1:Hid (RowQ w0 g ((A++M1)++(X2++(Y2++C))) wr):=by show RowQ _ _ _ _;rw [hM1];simpa using Hrow1.out
       clear hM1 HIh1 Hrow1
       by_cases g1:mid<E
       ·by_cases g2:E<b
        ·go_wp2_with fail
         refine (HIh2.out M1 _ g1 g2 Hs1.out Hr1.out).mono ?_
         rintro e w3 ⟨rfl,hs3⟩
         obtain⟨M2,k1,k2,k3,k4,k5⟩:=hs3
         have Hs2:Hid (M2.length=X2.length+Y2.length∧(∀z∈M2,z∈X2++Y2)∧Up (ltC cf) M2∧Alike (ltC cf) M2 (X2++Y2)∧RowQ w0 g ((A++M1)++(M2++C)) w3):=⟨by simpa using k1,k2,k3,k4,k5⟩
         clear k1 k2 k3 k4 k5 HIh2 Hr1
         have HF:Hid (zae (ltC cf) w0 g A (X++Y) C w3):=HFin.out M1 _ _ Hs1.out Hs2.out
         clear HFin
         go_wp2_with fail
         exact bodyPost_end (v:=.tuple #[]) (by simp [results,Tryz.results309,go_sem]) rfl ⟨rfl,HF.out⟩
        ·have g2' : ¬((E:Int)<(b:Int)):=by omega
         have Hs2:Hid ((X2++Y2).length=X2.length+Y2.length∧(∀z∈X2++Y2,z∈X2++Y2)∧Up (ltC cf) (X2++Y2)∧Alike (ltC cf) (X2++Y2) (X2++Y2)∧RowQ w0 g ((A++M1)++((X2++Y2)++C)) wr):=⟨by simp,(fun z hz=>hz),HE2.out (.inr g2),Alike.refl _ _,by simpa using Hr1.out⟩
         clear HIh2 Hr1
         have HF:Hid (zae (ltC cf) w0 g A (X++Y) C wr):=HFin.out M1 _ _ Hs1.out Hs2.out
         clear HFin
         go_wp2_with fail
         exact bodyPost_end (v:=.tuple #[]) (by simp [results,Tryz.results309,go_sem]) rfl ⟨rfl,HF.out⟩
       ·have g1' : ¬((mid:Int)<(E:Int)):=by omega
        have Hs2:Hid ((X2++Y2).length=X2.length+Y2.length∧(∀z∈X2++Y2,z∈X2++Y2)∧Up (ltC cf) (X2++Y2)∧Alike (ltC cf) (X2++Y2) (X2++Y2)∧RowQ w0 g ((A++M1)++((X2++Y2)++C)) wr):=⟨by simp,(fun z hz=>hz),HE2.out (.inl g1),Alike.refl _ _,by simpa using Hr1.out⟩
        clear HIh2 Hr1
        have HF:Hid (zae (ltC cf) w0 g A (X++Y) C wr):=HFin.out M1 _ _ Hs1.out Hs2.out
        clear HFin
        go_wp2_with fail
        exact bodyPost_end (v:=.tuple #[]) (by simp [results,Tryz.results309,go_sem]) rfl ⟨rfl,HF.out⟩
     ·have f1' : ¬((a:Int)<(r:Int)):=by omega
      obtain⟨M1,hM1⟩:∃M1,M1=X1++Y1:=⟨_,rfl⟩
      have Hs1:Hid (M1.length=X1.length+Y1.length∧(∀z∈M1,z∈X1++Y1)∧Up (ltC cf) M1∧Alike (ltC cf) M1 (X1++Y1)):=by rw [hM1];exact⟨by simp,(fun z hz=>hz),HE1.out (.inl f1),Alike.refl _ _⟩
      have Hr1:Hid (RowQ w0 g ((A++M1)++(X2++(Y2++C))) wr):=by show RowQ _ _ _ _;rw [hM1];simpa using Hrow1.out
      clear hM1 HIh1 Hrow1
      by_cases g1:mid<E
      ·by_cases g2:E<b
       ·go_wp2_with fail
        refine (HIh2.out M1 _ g1 g2 Hs1.out Hr1.out).mono ?_
        rintro e w3 ⟨rfl,hs3⟩
        obtain⟨M2,k1,k2,k3,k4,k5⟩:=hs3
        have Hs2:Hid (M2.length=X2.length+Y2.length∧(∀z∈M2,z∈X2++Y2)∧Up (ltC cf) M2∧Alike (ltC cf) M2 (X2++Y2)∧RowQ w0 g ((A++M1)++(M2++C)) w3):=⟨by simpa using k1,k2,k3,k4,k5⟩
        clear k1 k2 k3 k4 k5 HIh2 Hr1
        have HF:Hid (zae (ltC cf) w0 g A (X++Y) C w3):=HFin.out M1 _ _ Hs1.out Hs2.out
        clear HFin
        go_wp2_with fail
        exact bodyPost_end (v:=.tuple #[]) (by simp [results,Tryz.results309,go_sem]) rfl ⟨rfl,HF.out⟩
       ·have g2' : ¬((E:Int)<(b:Int)):=by omega
        have Hs2:Hid ((X2++Y2).length=X2.length+Y2.length∧(∀z∈X2++Y2,z∈X2++Y2)∧Up (ltC cf) (X2++Y2)∧Alike (ltC cf) (X2++Y2) (X2++Y2)∧RowQ w0 g ((A++M1)++((X2++Y2)++C)) wr):=⟨by simp,(fun z hz=>hz),HE2.out (.inr g2),Alike.refl _ _,by simpa using Hr1.out⟩
        clear HIh2 Hr1
        have HF:Hid (zae (ltC cf) w0 g A (X++Y) C wr):=HFin.out M1 _ _ Hs1.out Hs2.out
        clear HFin
        go_wp2_with fail
        exact bodyPost_end (v:=.tuple #[]) (by simp [results,Tryz.results309,go_sem]) rfl ⟨rfl,HF.out⟩
      ·have g1' : ¬((mid:Int)<(E:Int)):=by omega
       have Hs2:Hid ((X2++Y2).length=X2.length+Y2.length∧(∀z∈X2++Y2,z∈X2++Y2)∧Up (ltC cf) (X2++Y2)∧Alike (ltC cf) (X2++Y2) (X2++Y2)∧RowQ w0 g ((A++M1)++((X2++Y2)++C)) wr):=⟨by simp,(fun z hz=>hz),HE2.out (.inl g1),Alike.refl _ _,by simpa using Hr1.out⟩
       clear HIh2 Hr1
       have HF:Hid (zae (ltC cf) w0 g A (X++Y) C wr):=HFin.out M1 _ _ Hs1.out Hs2.out
       clear HFin
       go_wp2_with fail
       exact bodyPost_end (v:=.tuple #[]) (by simp [results,Tryz.results309,go_sem]) rfl ⟨rfl,HF.out⟩
end Go.Proofs.YtlnecfjnffdciabGreat

namespace Go.Proofs.YtlnecfjnffdciabGreat
open Go.RowKit
theorem sym_any (f d:Nat) (eg:∀args w,(callFunc f args).run Tryz.prog w=.ok (.enter f args) w) (cf:PP→PP→Int) (hc:CmpQ f (GoodQ d) cf) (hwk:Weak (ltC cf)) (w0:World) (g cap L:Nat) (hg:w0.heap.size≤g) (hlen:L≤65536) :
 ∀(N:Nat) (A X Y C:List PP) (a m b:Nat) (w:World),X.length+Y.length≤N→0<X.length→0<Y.length→a=A.length→m=a+X.length→b=m+Y.length→L=(A++(X++(Y++C))).length→RowQ w0 g (A++(X++(Y++C))) w→(∀p∈A++(X++(Y++C)),GoodQ d w0 p)→Up (ltC cf) X→Up (ltC cf) Y→
  Calls Tryz.prog 309 #[.slice (some ⟨g,0,none⟩) L cap,.int .i64 a,.int .i64 m,.int .i64 b,.func (.func f) #[] #[]] w fun e w'=>e=.returned (.tuple #[])∧zae (ltC cf) w0 g A (X++Y) C w':=by
 intro N
 induction N with
 | zero=>intro A X Y C a m b w hN hX _;omega
 | succ N ih=>
  intro A X Y C a m b w hN hX0 hY0 ha hm hb hL hR hG hX hY
  match X,hX0 with
  | [x],_=>exact sym_left f d eg cf hc hwk w0 g cap a m b L A x Y C w hg ha (by simpa using hm) hb hL hR hG hY hlen
  | x1::x2::X',_=>
   match Y,hY0 with
   | [y],_=>exact sym_right f d eg cf hc hwk w0 g cap a m b L A (x1::x2::X') y C w hg ha hm (by simpa using hb) (by simp) hL hR hG hX hlen
   | y1::y2::Y',_=>
    refine sym_gen f d eg cf hc hwk w0 g cap a m b L A (x1::x2::X') (y1::y2::Y') C w hg ha hm hb (by simp) (by simp) hL hR hG hX hY hlen ?_
    intro A' X'' Y'' C' a' m' b' W hlt h1 h2 h3 h4 h5 h6 h7 h8 h9 h10
    exact ih A' X'' Y'' C' a' m' b' W (by omega) h1 h2 h3 h4 h5 h6 h7 h8 h9 h10
end Go.Proofs.YtlnecfjnffdciabGreat

namespace Go.Proofs.YtlnecfjnffdciabGreat
open Go.RowKit
structure StQ (lt:PP→PP→Bool) (w0:World) (g:Nat) (M0 l:List PP) (wr:World):Prop where
 len:l.length=M0.length
 al:Alike lt l M0
 mem:∀x∈l,x∈M0
 row:RowQ w0 g l wr
theorem StQ.sorted {lt:PP→PP→Bool} {w0:World} {g:Nat} {M0 A M C:List PP} {wr w':World} (h:StQ lt w0 g M0 (A++(M++C)) wr) (hs:zae lt w0 g A M C w'):∃M',M'.length=M.length∧Up lt M'∧StQ lt w0 g M0 (A++(M'++C)) w':=by
 obtain⟨M',h1,h2,h3,h4,h5⟩:=hs
 refine⟨M',h1,h3,?_,((Alike.refl lt A).app (h4.app (Alike.refl lt C))).trans h.al,?_,h5⟩
 ·have:=h.len;simp at this ⊢;omega
 ·intro x hx
  apply h.mem
  simp at hx ⊢
  rcases hx with hx|hx|hx
  ·exact .inl hx
  ·exact .inr (.inl (h2 x hx))
  ·exact .inr (.inr hx)
variable (f d:Nat) (eg:∀args w,(callFunc f args).run Tryz.prog w=.ok (.enter f args) w) (cf:PP→PP→Int) (hc:CmpQ f (GoodQ d) cf) (hwk:Weak (ltC cf)) (w0:World) (g cap L:Nat) (hg:w0.heap.size≤g) (hlen:L≤65536) (M0:List PP) (hL:L=M0.length) (hG:∀p∈M0,GoodQ d w0 p)
include eg hc hwk hg hlen hL hG
theorem ins_step (l:List PP) (i a b:Nat) (W:World) (h:StQ (ltC cf) w0 g M0 l W) (hF:Fst (ltC cf) 20 i l) (ha:a=i*20) (hb:b=a+20) (hn:b≤L) :
 Calls Tryz.prog 308 #[.slice (some ⟨g,0,none⟩) L cap,.int .i64 a,.int .i64 b,.func (.func f) #[] #[]] W fun e w'=>e=.returned (.tuple #[])∧∃l',StQ (ltC cf) w0 g M0 l' w'∧Fst (ltC cf) 20 (i+1) l':=by
 have hl:=h.len
 have e3:=three l a 20
 have lA:(l.take a).length=a:=by rw [List.length_take];omega
 have lM:((l.drop a).take 20).length=20:=by rw [List.length_take,List.length_drop];omega
 rw [e3] at h hF
 generalize l.take a=A at *
 generalize (l.drop a).take 20=M at *
 generalize l.drop (a+20)=C at *
 refine (insertion_any f d eg cf hc hwk w0 g cap a b L A M C W hg lA.symm (by omega) (by rw [h.len];exact hL) h.row (fun p hp=>hG p (h.mem p hp)) hlen).mono ?_
 rintro e w' ⟨rfl,hs⟩
 obtain⟨M',h1,h2,h3⟩:=h.sorted hs
 exact⟨rfl,_,h3,hF.step (by omega) (.inl (by omega)) h2⟩
theorem ins_last (l:List PP) (i a:Nat) (W:World) (h:StQ (ltC cf) w0 g M0 l W) (hF:Fst (ltC cf) 20 i l) (ha:a=i*20) (hn:a≤L) (hn2:L<a+20) :
 Calls Tryz.prog 308 #[.slice (some ⟨g,0,none⟩) L cap,.int .i64 a,.int .i64 L,.func (.func f) #[] #[]] W fun e w'=>e=.returned (.tuple #[])∧∃l',StQ (ltC cf) w0 g M0 l' w'∧AllB (ltC cf) 20 l':=by
 have hl:=h.len
 have e3:l=l.take a++(l.drop a++[]):=by simp
 have lA:(l.take a).length=a:=by rw [List.length_take];omega
 have lM:(l.drop a).length=L-a:=by rw [List.length_drop];omega
 rw [e3] at h hF
 generalize l.take a=A at *
 generalize l.drop a=M at *
 refine (insertion_any f d eg cf hc hwk w0 g cap a L L A M [] W hg lA.symm (by omega) (by rw [h.len];exact hL) h.row (fun p hp=>hG p (h.mem p hp)) hlen).mono ?_
 rintro e w' ⟨rfl,hs⟩
 obtain⟨M',h1,h2,h3⟩:=h.sorted hs
 have:=hF.step (by omega) (.inr ⟨rfl,by omega⟩) h2
 exact⟨rfl,_,h3,this.all (by rw [h3.len];omega)⟩
theorem sym_step (l:List PP) (s i a m b:Nat) (W:World) (h:StQ (ltC cf) w0 g M0 l W) (hM:Mid (ltC cf) s i l) (hs:0<s) (ha:a=i*(2*s)) (hm:m=a+s) (hb:b=a+2*s) (hn:b≤L) :
 Calls Tryz.prog 309 #[.slice (some ⟨g,0,none⟩) L cap,.int .i64 a,.int .i64 m,.int .i64 b,.func (.func f) #[] #[]] W fun e w'=>e=.returned (.tuple #[])∧∃l',StQ (ltC cf) w0 g M0 l' w'∧Mid (ltC cf) s (i+1) l':=by
 have hl:=h.len
 have e3:=four l a s s
 obtain⟨uX,uY⟩:=hM.next ha
 have lA:(l.take a).length=a:=by rw [List.length_take];omega
 have lX:((l.drop a).take s).length=s:=by rw [List.length_take,List.length_drop];omega
 have lY:((l.drop (a+s)).take s).length=s:=by rw [List.length_take,List.length_drop];omega
 rw [e3] at h hM
 generalize l.take a=A at *
 generalize (l.drop a).take s=X at *
 generalize (l.drop (a+s)).take s=Y at *
 generalize l.drop (a+s+s)=C at *
 have h':=h
 rw [List.append_assoc] at h'
 refine (sym_any f d eg cf hc hwk w0 g cap L hg hlen (X.length+Y.length) A X Y C a m b W (Nat.le_refl _) (by omega) (by omega) lA.symm (by omega) (by omega) (by rw [h'.len];exact hL) h'.row (fun p hp=>hG p (h'.mem p hp)) uX uY).mono ?_
 rintro e w' ⟨rfl,hs⟩
 obtain⟨M',h1,h2,h3⟩:=h.sorted hs
 have h1':M'.length=2*s:=by rw [h1,List.length_append];omega
 exact⟨rfl,_,h3,hM.step (by omega) h1 (.inl h1') h2⟩
theorem sym_last (l:List PP) (s i a m:Nat) (W:World) (h:StQ (ltC cf) w0 g M0 l W) (hM:Mid (ltC cf) s i l) (hs:0<s) (ha:a=i*(2*s)) (hm:m=a+s) (hn:m<L) (hn2:L<a+2*s) :
 Calls Tryz.prog 309 #[.slice (some ⟨g,0,none⟩) L cap,.int .i64 a,.int .i64 m,.int .i64 L,.func (.func f) #[] #[]] W fun e w'=>e=.returned (.tuple #[])∧∃l',StQ (ltC cf) w0 g M0 l' w'∧AllB (ltC cf) (2*s) l':=by
 have hl:=h.len
 have e3:l=l.take a++(((l.drop a).take s++(l.drop (a+s)))++[]):=by
  rw [List.append_nil,←List.drop_drop (i:=s),List.take_append_drop,List.take_append_drop]
 obtain⟨uX,uY⟩:=hM.next ha
 have lA:(l.take a).length=a:=by rw [List.length_take];omega
 have lX:((l.drop a).take s).length=s:=by rw [List.length_take,List.length_drop];omega
 have lY:(l.drop (a+s)).length=L-(a+s):=by rw [List.length_drop];omega
 rw [List.take_of_length_le (by omega)] at uY
 rw [e3] at h hM
 generalize l.take a=A at *
 generalize (l.drop a).take s=X at *
 generalize l.drop (a+s)=Y at *
 have h':=h
 rw [List.append_assoc] at h'
 refine (sym_any f d eg cf hc hwk w0 g cap L hg hlen (X.length+Y.length) A X Y [] a m L W (Nat.le_refl _) (by omega) (by omega) lA.symm (by omega) (by omega) (by rw [h'.len];exact hL) h'.row (fun p hp=>hG p (h'.mem p hp)) uX uY).mono ?_
 rintro e w' ⟨rfl,hs⟩
 obtain⟨M',h1,h2,h3⟩:=h.sorted hs
 have h1':M'.length≤2*s:=by rw [h1,List.length_append];omega
 have:=hM.step (by omega) h1 (.inr ⟨rfl,h1'⟩) h2
 exact⟨rfl,_,h3,this.all (by rw [h3.len,Nat.succ_mul];omega)⟩
end Go.Proofs.YtlnecfjnffdciabGreat

namespace Go.Proofs.YtlnecfjnffdciabGreat
open Go.RowKit
set_option maxRecDepth 100000 in
set_option maxHeartbeats 16000000 in
theorem stable_any (f d:Nat) (eg:∀args w,(callFunc f args).run Tryz.prog w=.ok (.enter f args) w) (cf:PP→PP→Int) (hc:CmpQ f (GoodQ d) cf) (hwk:Weak (ltC cf)) (w0:World) (g cap L:Nat) (hg:w0.heap.size≤g) (hlen:L≤65536) (M0:List PP) (hL:L=M0.length) (hG:∀p∈M0,GoodQ d w0 p) (w:World) (hR:RowQ w0 g M0 w) :
 Calls Tryz.prog 273 #[.slice (some ⟨g,0,none⟩) L cap,.int .i64 L,.func (.func f) #[] #[]] w fun e w'=>e=.returned (.tuple #[])∧∃l,StQ (ltC cf) w0 g M0 l w'∧Up (ltC cf) l:=by
 have H1:Hid (∀(l:List PP) (i a b:Nat) (W:World),StQ (ltC cf) w0 g M0 l W→Fst (ltC cf) 20 i l→a=i*20→b=a+20→b≤L→Calls Tryz.prog 308 #[.slice (some ⟨g,0,none⟩) L cap,.int .i64 a,.int .i64 b,.func (.func f) #[] #[]] W fun e w'=>e=.returned (.tuple #[])∧∃l',StQ (ltC cf) w0 g M0 l' w'∧Fst (ltC cf) 20 (i+1) l'):=
  fun l i a b W h1 h2 h3 h4 h5=>ins_step f d eg cf hc hwk w0 g cap L hg hlen M0 hL hG l i a b W h1 h2 h3 h4 h5
 have H2:Hid (∀(l:List PP) (i a:Nat) (W:World),StQ (ltC cf) w0 g M0 l W→Fst (ltC cf) 20 i l→a=i*20→a≤L→L<a+20→Calls Tryz.prog 308 #[.slice (some ⟨g,0,none⟩) L cap,.int .i64 a,.int .i64 L,.func (.func f) #[] #[]] W fun e w'=>e=.returned (.tuple #[])∧∃l',StQ (ltC cf) w0 g M0 l' w'∧AllB (ltC cf) 20 l'):=
  fun l i a W h1 h2 h3 h4 h5=>ins_last f d eg cf hc hwk w0 g cap L hg hlen M0 hL hG l i a W h1 h2 h3 h4 h5
 have H3:Hid (∀(l:List PP) (s i a m b:Nat) (W:World),StQ (ltC cf) w0 g M0 l W→Mid (ltC cf) s i l→0<s→a=i*(2*s)→m=a+s→b=a+2*s→b≤L→Calls Tryz.prog 309 #[.slice (some ⟨g,0,none⟩) L cap,.int .i64 a,.int .i64 m,.int .i64 b,.func (.func f) #[] #[]] W fun e w'=>e=.returned (.tuple #[])∧∃l',StQ (ltC cf) w0 g M0 l' w'∧Mid (ltC cf) s (i+1) l'):=
  fun l s i a m b W h1 h2 h3 h4 h5 h6 h7=>sym_step f d eg cf hc hwk w0 g cap L hg hlen M0 hL hG l s i a m b W h1 h2 h3 h4 h5 h6 h7
 have H4:Hid (∀(l:List PP) (s i a m:Nat) (W:World),StQ (ltC cf) w0 g M0 l W→Mid (ltC cf) s i l→0<s→a=i*(2*s)→m=a+s→m<L→L<a+2*s→Calls Tryz.prog 309 #[.slice (some ⟨g,0,none⟩) L cap,.int .i64 a,.int .i64 m,.int .i64 L,.func (.func f) #[] #[]] W fun e w'=>e=.returned (.tuple #[])∧∃l',StQ (ltC cf) w0 g M0 l' w'∧AllB (ltC cf) (2*s) l'):=
  fun l s i a m W h1 h2 h3 h4 h5 h6 h7=>sym_last f d eg cf hc hwk w0 g cap L hg hlen M0 hL hG l s i a m W h1 h2 h3 h4 h5 h6 h7
 have HS0:Hid (StQ (ltC cf) w0 g M0 M0 w):=⟨rfl,Alike.refl _ _,(fun _ h=>h),hR⟩
 have HF0:Hid (Fst (ltC cf) 20 0 M0):=fun k hk=>absurd hk (by omega)
 have HL:Hid (L=M0.length):=hL
 generalize ltC cf=lt at *
 clear hc hwk hG hR hL hg
 go_enter Tryz.func273,Tryz.ntmps273
 go_wp2_with fail
 go_loopg [7,8] L (fun z va vb wr=>∃(i a b:Nat) (l:List PP),va=.int .i64 (a:Int)∧vb=.int .i64 (b:Int)∧z=L-a∧Hid (a=i*20)∧Hid (b=a+20)∧a≤L∧Hid (StQ lt w0 g M0 l wr)∧Hid (Fst lt 20 i l))
 case atStart=>exact⟨0,0,20,M0,rfl,rfl,rfl,Nat.zero_mul 20 |>.symm,rfl,Nat.zero_le _,HS0,HF0⟩
 case round=>
  obtain⟨i,a,b,l,rfl,rfl,hk,Ha,Hb,hal,HS,HF⟩:=hrel
  have Hk:Hid _:=hk
  clear hk HS0 HF0
  by_cases hbl:b≤L
  ·have hbi:(b:Int)≤(L:Nat):=by omega
   go_wp2_with fail
   refine (H1.out l i a b _ HS.out HF.out Ha.out Hb.out hbl).mono ?_
   rintro e w1 ⟨rfl,l',hs',hf'⟩
   have HS1:Hid _:=hs'
   have HF1:Hid _:=hf'
   clear hs' hf' HS HF
   go_wp2_with fail
   go_roundg (L-b)
   case measure=>have:=Hk.out;have:=Hb.out;omega
   case rel=>exact⟨i+1,b,b+20,l',rfl,by go_num,rfl,(by show _=_;have:=Ha.out;have:=Hb.out;omega),rfl,hbl,HS1,HF1⟩
  ·have hbi : ¬(b:Int)≤(L:Nat):=by omega
   go_wp2_with fail
   refine (H2.out l i a _ HS.out HF.out Ha.out hal (by have:=Hb.out;omega)).mono ?_
   rintro e w1 ⟨rfl,l1,hs1,hb1⟩
   have HS1:Hid (StQ lt w0 g M0 l1 w1):=hs1
   have HB1:Hid (AllB lt 20 l1):=hb1
   clear hs1 hb1 HS HF Hk Ha Hb hbi hbl hal H1 H2
   go_wp2_with fail
   go_loopg [6] (L-20) (fun z vs wr=>∃(s:Nat) (l:List PP),vs=.int .i64 (s:Int)∧z=L-s∧0<s∧Hid (StQ lt w0 g M0 l wr)∧Hid (AllB lt s l))
   case atStart=>exact⟨20,l1,rfl,rfl,by omega,HS1,HB1⟩
   case round=>
    obtain⟨s,l,rfl,hk,hs0,HS,HB⟩:=hrel
    have Hk:Hid _:=hk
    clear hk HS1 HB1
    by_cases hsl:s<L
    ·have hsi:(s:Int)<(L:Nat):=by omega
     have HM0:Hid (Mid lt s 0 l):=HB.out.mid
     obtain⟨t,ht⟩:∃t,t=2*s:=⟨_,rfl⟩
     have Ht:Hid (t=2*s):=ht
     have hw2:IntKind.i64.wrap (2*(s:Int))=(t:Int):=by rw [IntKind.wrap_i64];omega
     have hw3:IntKind.i64.wrap ((s:Int)*2)=(t:Int):=by rw [IntKind.wrap_i64];omega
     have htl:t<2*L:=by omega
     clear ht HB
     go_wp2_with fail
     go_loopg [7,8] L (fun z va vb wr=>∃(i a b:Nat) (l:List PP),va=.int .i64 (a:Int)∧vb=.int .i64 (b:Int)∧z=L-a∧Hid (a=i*(2*s))∧Hid (b=a+t)∧a≤L∧b<4*L∧Hid (StQ lt w0 g M0 l wr)∧Hid (Mid lt s i l))
     case atStart=>exact⟨0,0,t,l,rfl,rfl,rfl,(by show _=_;rw [Nat.zero_mul]),(by show _=_;omega),Nat.zero_le _,by omega,HS,HM0⟩
     case round=>
      obtain⟨i,a,b,l2,rfl,rfl,hk,Ha,Hb,hal,hb4,HS2,HM2⟩:=hrel
      have Hk2:Hid _:=hk
      clear hk HS HM0
      obtain⟨m,hm⟩:∃m,m=a+s:=⟨_,rfl⟩
      have hwm:IntKind.i64.wrap ((a:Int)+(s:Int))=(m:Int):=by rw [IntKind.wrap_i64];omega
      have Hm:Hid (m=a+s):=hm
      clear hm
      by_cases hbl:b≤L
      ·have hbi:(b:Int)≤(L:Nat):=by omega
       obtain⟨b2,hb2⟩:∃b2,b2=b+t:=⟨_,rfl⟩
       have hwb:IntKind.i64.wrap ((b:Int)+(t:Int))=(b2:Int):=by rw [IntKind.wrap_i64];omega
       have Hb2:Hid (b2=b+t):=hb2
       have hb24:b2<4*L:=by omega
       clear hb2
       go_wp2_with fail
       refine (H3.out l2 s i a m b _ HS2.out HM2.out hs0 Ha.out Hm.out (by have:=Hb.out;have:=Ht.out;omega) hbl).mono ?_
       rintro e w2 ⟨rfl,l',hs',hf'⟩
       have HS3:Hid _:=hs'
       have HM3:Hid _:=hf'
       clear hs' hf' HS2 HM2
       go_wp2_with fail
       go_roundg (L-b)
       case measure=>have:=Hk2.out;have:=Hb.out;have:=Ht.out;omega
       case rel=>exact⟨i+1,b,b2,l',rfl,rfl,rfl,(by show _=_;have:=Ha.out;have:=Hb.out;have:=Ht.out;rw [Nat.succ_mul];omega),Hb2,hbl,hb24,HS3,HM3⟩
      ·have hbi : ¬(b:Int)≤(L:Nat):=by omega
       by_cases hml:m<L
       ·have hmi:(m:Int)<(L:Nat):=by omega
        go_wp2_with fail
        refine (H4.out l2 s i a m _ HS2.out HM2.out hs0 Ha.out Hm.out hml (by have:=Hb.out;have:=Ht.out;omega)).mono ?_
        rintro e w2 ⟨rfl,l',hs',hf'⟩
        have HS3:Hid _:=hs'
        have HM3:Hid (AllB lt t l'):=by rw [Ht.out];exact hf'
        clear hs' hf' HS2 HM2
        go_wp2_with fail
        go_roundg (L-t)
        case measure=>have:=Hk.out;have:=Ht.out;omega
        case rel=>exact⟨t,l',rfl,rfl,by have:=Ht.out;omega,HS3,HM3⟩
       ·have hmi : ¬(m:Int)<(L:Nat):=by omega
        have HM3:Hid (AllB lt t l2):=by rw [Ht.out];exact HM2.out.all (by have:=HS2.out.len;have:=HL.out;have:=Ha.out;have:=Hm.out;omega)
        go_wp2_with fail
        go_roundg (L-t)
        case measure=>have:=Hk.out;have:=Ht.out;omega
        case rel=>exact⟨t,l2,rfl,rfl,by have:=Ht.out;omega,HS2,HM3⟩
    ·have hsi : ¬(s:Int)<(L:Nat):=by omega
     have HE:Hid (∃l,StQ lt w0 g M0 l wr∧Up lt l):=⟨l,HS.out,HB.out.whole (by have:=HS.out.len;have:=HL.out;omega)⟩
     clear HS HB
     go_wp2_with fail
     exact bodyPost_end (v:=.tuple #[]) (by simp [results,Tryz.results273,go_sem]) rfl ⟨rfl,HE.out⟩
end Go.Proofs.YtlnecfjnffdciabGreat

