import Derived.Test.YtcflooaoocngdaaGreatReduceM
import Derived.Deep.CutRange
import Derived.Test.YtcflooaoocngdaaGreatAppRow
set_option maxRecDepth 100000
set_option maxHeartbeats 8000000
namespace Go.Proofs.YtcflooaoocngdaaGreat
open Go.RowKit
theorem red1_any (b0 b1 k:Nat) (x y:VT) (au:Option Addr) (lu cu:Nat) (v:Value) (w:World) (hk:k≤65536) (hb:Bx w b0 y v) (hc:w.cell? ⟨b1,0,none⟩=some (.int .i64 (k:Int))) (hf:w.frozen? ⟨b1,0,none⟩=false) (hne:b0≠b1) :
 Calls Tryz.prog 47 #[.agg #[.int .i64 x.kind,.int .i64 x.num,.string x.text,.slice au lu cu],.pointer (some ⟨b0,0,none⟩),.pointer (some ⟨b1,0,none⟩)] w fun e w'=>e=.returned (.tuple #[])∧Bx w' b0 x (.slice au lu cu)∧w'.cell? ⟨b1,0,none⟩=some (.int .i64 ((k+1:Nat):Int))∧w'.frozen? ⟨b1,0,none⟩=false∧KC (fun n=>n=b0∨n=b1) w w':=by
 have hbl:b0<w.heap.size:=zae hb.c0
 have hbl1:b1<w.heap.size:=zae hc
 have n1 : ¬b0=w.heap.size:=by omega
 have n2 : ¬w.heap.size=b0:=by omega
 have n3 : ¬b1=w.heap.size:=by omega
 have n4 : ¬w.heap.size=b1:=by omega
 have n5 : ¬b0=b1:=hne
 have n6 : ¬b1=b0:=fun e=>hne e.symm
 have e1:IntKind.i64.wrap ((k:Int)+1)=((k+1:Nat):Int):=by rw [IntKind.wrap_i64];omega
 have HE:Hid (∀Z,Z=((w.setCells b0 0 (encP (x,.slice au lu cu))).setCell ⟨b1,0,none⟩ (.int .i64 ((k+1:Nat):Int))).alloc (.cells #[.int .i64 x.kind,.int .i64 x.num,.string x.text,.slice au lu cu] 27)→Bx Z b0 x (.slice au lu cu)∧Z.cell? ⟨b1,0,none⟩=some (.int .i64 ((k+1:Nat):Int))∧Z.frozen? ⟨b1,0,none⟩=false∧KC (fun n=>n=b0∨n=b1) w Z):=by
  intro Z hZ
  have k1:KC (fun n=>n=b1) (w.setCells b0 0 (encP (x,.slice au lu cu))) ((w.setCells b0 0 (encP (x,.slice au lu cu))).setCell ⟨b1,0,none⟩ (.int .i64 ((k+1:Nat):Int))):=KC.set (B:=fun n=>n=b1) (KC.refl _ _) (.inl rfl) _
  have k2:KC (fun n=>n=b0) w (w.setCells b0 0 (encP (x,.slice au lu cu))):=KC.put4 (B:=fun n=>n=b0) (KC.refl _ w) (.inl rfl) x _
  have ha:Below ((w.setCells b0 0 (encP (x,.slice au lu cu))).setCell ⟨b1,0,none⟩ (.int .i64 ((k+1:Nat):Int))).heap.size ((w.setCells b0 0 (encP (x,.slice au lu cu))).setCell ⟨b1,0,none⟩ (.int .i64 ((k+1:Nat):Int))) Z:=by rw [hZ];exact ((Grew.refl _).alloc _).below
  have hc2:(w.setCells b0 0 (encP (x,.slice au lu cu))).cell? ⟨b1,0,none⟩=some (.int .i64 (k:Int)):=k2.cell n6 hc
  have hf2:(w.setCells b0 0 (encP (x,.slice au lu cu))).frozen? ⟨b1,0,none⟩=false:=k2.frozen n6 hc hf
  refine⟨(k1.bx n5 (Bx.put hb (x,.slice au lu cu))).keeps ha,zaa ha (World.cell?_setCell_same _ _ _ hc2),?_,?_⟩
  ·rw [ha.frozen (p:=⟨b1,0,none⟩) (zae (World.cell?_setCell_same _ _ _ hc2)),World.frozen?_setCell];exact hf2
  ·exact ((k2.mono (fun _ _ h=>.inl h)).trans2 k1 (fun _ _ h=>.inr h)).trans2 (KC.of_below (B:=fun _=>False) ha) (fun _ _ h=>h.elim)
 have hal:Below w.heap.size w (w.alloc (.cells #[.int .i64 x.kind,.int .i64 x.num,.string x.text,.slice au lu cu] 27)):=((Grew.refl w).alloc _).below
 obtain⟨c0,c1,c2,c3,g0,g1,g2,g3⟩:=hb
 have d0:=zaa hal c0;have d1:=zaa hal c1;have d2:=zaa hal c2;have d3:=zaa hal c3
 have d4:=zaa hal hc
 have e0':=(hal.frozen (p:=⟨b0,0,none⟩) hbl).trans g0;have e1':=(hal.frozen (p:=⟨b0,1,none⟩) hbl).trans g1;have e2':=(hal.frozen (p:=⟨b0,2,none⟩) hbl).trans g2;have e3':=(hal.frozen (p:=⟨b0,3,none⟩) hbl).trans g3
 have e4':=(hal.frozen (p:=⟨b1,0,none⟩) hbl1).trans hf
 clear hal hne
 go_enter Tryz.func47,Tryz.ntmps47
 go_wp2_with fail
 refine bodyPost_end (v:=.tuple #[]) ?_ rfl ⟨rfl,HE.out _ rfl⟩
 simp [results,Tryz.results47,go_sem]
def JRd (b0 b1 lo:Nat) (O:Nat→Prop) (t0:VT) (bar:Nat→Prop) (l:List VT) (w:World):Prop:=
 ∃a n c,Bx w b0 (lastT t0 l) (.slice a n c)∧w.cell? ⟨b1,0,none⟩=some (.int .i64 (l.length:Int))∧w.frozen? ⟨b1,0,none⟩=false∧LiesX (fun m=>m≠b0∧m≠b1∧¬O m∧lo≤m) 16 w (lastT t0 l).items (.slice a n c)∧¬bar b0∧¬bar b1∧¬O b0∧¬O b1∧b0≠b1
theorem jrd_rdr (b0 b1 lo:Nat) (O:Nat→Prop) (t0:VT):Rdr O (JRd b0 b1 lo O t0) where
 k1:=by
  rintro bar l w w' ⟨a,n,c,h1,h2,h3,h4,h5,h6,h7,h8,h9⟩ k
  exact⟨a,n,c,k.bx h7 h1,k.cell h8 h2,k.frozen h8 h2 h3,k.liesX (fun m hm=>hm.2.2.1) h4,h5,h6,h7,h8,h9⟩
 k2:=by
  rintro bar l w w' ⟨a,n,c,h1,h2,h3,h4,h5,h6,h7,h8,h9⟩ hb
  have l0:b0<w.heap.size:=zae h1.c0
  have l1:b1<w.heap.size:=zae h2
  refine⟨a,n,c,h1.keeps hb,zaa hb h2,(hb.frozen (p:=⟨b1,0,none⟩) l1).trans h3,h4.keeps hb,?_,?_,h7,h8,h9⟩
  ·rintro (h|h)
   ·exact h5 h
   ·omega
  ·rintro (h|h)
   ·exact h6 h
   ·omega
 k3:=by
  rintro bar bar' l w ⟨a,n,c,h1,h2,h3,h4,h5,h6,h7,h8,h9⟩ hb
  exact⟨a,n,c,h1,h2,h3,h4,fun h=>h5 (hb _ h),fun h=>h6 (hb _ h),h7,h8,h9⟩
theorem jrd_found (b0 b1 lo:Nat) (N:Nat) (t0:VT) (bar:Nat→Prop) (l:List VT) (x:VT) (u:Value) (w:World) (hl:l.length<65536) (h:JRd b0 b1 lo (fun n=>n=N) t0 bar l w) (hx:LiesX (fun n=>bar n∧N<n) 16 w x.items u) (hlo:lo≤N) :
 Calls Tryz.prog 47 (#[.agg #[.int .i64 x.kind,.int .i64 x.num,.string x.text,u]]++#[.pointer (some ⟨b0,0,none⟩),.pointer (some ⟨b1,0,none⟩)]) w fun e w'=>e=.returned (.tuple #[])∧KC (fun n=>¬bar n) w w'∧JRd b0 b1 lo (fun n=>n=N) t0 bar (l++[x]) w':=by
 obtain⟨a,n,c,h1,h2,h3,h4,h5,h6,h7,h8,h9⟩:=h
 obtain⟨au,cu,rfl,_⟩:=LiesX.slice hx
 refine Calls.mono (red1_any b0 b1 l.length x _ au _ cu _ w (by omega) h1 h2 h3 h9) ?_
 rintro e w' ⟨rfl,g1,g2,g3,g4⟩
 refine⟨rfl,g4.mono (fun m _ hm hb=>by rcases hm with rfl|rfl;exact h5 hb;exact h6 hb),au,_,cu,by rw [lastT_snoc];exact g1,by rw [g2];simp,g3,?_,h5,h6,h7,h8,h9⟩
 rw [lastT_snoc]
 exact (g4.liesX (fun m hm h=>by rcases h with rfl|rfl;exact h5 hm.1;exact h6 hm.1) hx).mono (fun m hm=>⟨fun e=>h5 (e ▸ hm.1),fun e=>h6 (e ▸ hm.1),by have:=hm.2;omega,by have:=hm.2;omega⟩)
theorem canonL25 {w:World} {n:Nat} {l:List VT} {u:Value} (h:Lies (n+1) w l u) (hr:zad n l=0):Lies 17 w l u∧l.length≤65536∧∀x∈l,zab 16 x=true∧Dp 16 x:=by
 have hz:=listErr_zero hr
 have hall:∀x∈l,zab 16 x=true∧Dp 16 x:=fun x hx=>by
  obtain⟨a,c,e,_,hr1⟩:=h
  obtain⟨i,hi,rfl⟩:=List.getElem_of_mem hx
  obtain⟨b,o,ha,hrow⟩:=hr1 (fun e=>by rw [e] at hi;cases hi)
  obtain⟨v,_,_,_,_,hL,_⟩:=hrow i hi
  have hd:=Dp.of_lies n w _ v hL
  have hrx:=hz.2 _ (List.getElem_mem hi)
  exact⟨(canon hL hrx).2,right_deep hrx hd⟩
 exact⟨Lies.lower 17 (n+1) l u h (by omega) (fun x hx=>(hall x hx).2),hz.1,hall⟩
theorem zap (d:Nat) (l:List VT) (u:Value) (w:World) (hu:Lies (d+1) w l u) :
 Calls Tryz.prog 11 #[u] w fun e w'=>e=.returned (.int .i64 (zad d l))∧Below w.heap.size w w':=by
 obtain⟨a,c,rfl,_⟩:=Lies.slice hu
 have HL:Hid (Lies (d+1) w l (.slice a l.length c)):=hu
 clear hu
 go_enter Tryz.func11,Tryz.ntmps11
 go_wp2_with fail
 refine (checkAll_any d l _ _ HL.out).mono ?_
 rintro e w1 ⟨rfl,hb⟩
 go_wp2_with fail
 go_ret
 exact⟨rfl,hb⟩
theorem dp_nilD (d:Nat):Dp d nilT:=by
 cases d
 ·exact rfl
 ·intro x hx;cases hx
theorem nil_rightD (d:Nat):zab d nilT=true:=by
 rw [rightV_any nilT (dp_nilD 16) (dp_nilD d)]
 exact nil_right
theorem twoE_nil (d:Nat) (q:Int) (t:VT):twoE d q t nilT=if q<0∨8≤q then 4 else if zab d t=true then 0 else 3:=by
 unfold twoE
 by_cases h1:q<0∨8≤q
 ·rw [if_pos h1,if_pos h1]
 ·rw [if_neg h1,if_neg h1]
  by_cases h2:zab d t=true
  ·rw [if_pos ⟨h2,nil_rightD d⟩,if_pos h2]
  ·rw [if_neg (fun h=>h2 h.1),if_neg h2]
theorem checkRed_any (d:Nat) (q:Int) (t:VT) (u:Value) (l:List VT) (v:Value) (w:World) (hu:Lies d w t.items u) (hs:t.text.size≤9223372036854775807) (hv:Lies (d+1) w l v) :
 Calls Tryz.prog 45 #[.int .i64 q,.agg #[.int .i64 t.kind,.int .i64 t.num,.string t.text,u],v] w fun e w'=>e=.returned (.int .i64 (redE d q t l))∧Below w.heap.size w w':=by
 obtain⟨a,c,rfl,_⟩:=Lies.slice hu
 obtain⟨a2,c2,rfl,_⟩:=Lies.slice hv
 have HT:Hid (∀W,Below w.heap.size w W→Calls Tryz.prog 81 #[.int .i64 q,.agg #[.int .i64 t.kind,.int .i64 t.num,.string t.text,.slice a t.items.length c],.agg #[.int .i64 0,.int .i64 0,.string ⟨#[]⟩,.slice none 0 0]] W (TPost (twoT d q t nilT) (twoB d q t nilT) (twoE d q t nilT) W)):=fun W hW=>
  two_any d q t nilT (.slice a t.items.length c) (.slice none 0 0) W (Lies.keeps hW _ _ _ hu) (zah (fun _=>True) d W none 0).lies hs (by show 0≤_;omega)
 have HC:Hid (∀W,Below w.heap.size w W→Calls Tryz.prog 11 #[.slice a2 l.length c2] W fun e w'=>e=.returned (.int .i64 (zad d l))∧Below W.heap.size W w'):=fun W hW=>zap d l _ W (Lies.keeps hW _ _ _ hv)
 have HE:Hid (twoE d q t nilT≠0→redE d q t l=twoE d q t nilT):=fun h=>by
  rw [twoE_nil] at h ⊢
  unfold redE
  by_cases h1:q<0∨8≤q
  ·rw [if_pos h1,if_pos h1]
  ·rw [if_neg h1] at h ⊢
   rw [if_neg h1]
   by_cases h2:zab d t=true
   ·rw [if_pos h2] at h;exact absurd rfl h
   ·rw [if_neg h2,if_neg h2]
 have HE0:Hid (twoE d q t nilT=0→redE d q t l=zad d l):=fun h=>by
  rw [twoE_nil] at h
  unfold redE
  by_cases h1:q<0∨8≤q
  ·rw [if_pos h1] at h;omega
  ·rw [if_neg h1] at h
   by_cases h2:zab d t=true
   ·rw [if_neg h1,if_pos h2]
   ·rw [if_neg h2] at h;omega
 clear hu hv hs
 generalize t.items.length=lt at *
 generalize l.length=ll at *
 have hal:Below w.heap.size w (w.alloc (.cells #[.int .i64 t.kind,.int .i64 t.num,.string t.text,.slice a lt c] 27)):=((Grew.refl w).alloc _).below
 go_enter Tryz.func45,Tryz.ntmps45
 go_wp2_with fail
 refine Calls.mono (HT.out _ hal) ?_
 rintro e w2 ⟨u2,rfl,hl2,hb2⟩
 obtain⟨a9,c9,rfl,_⟩:=LiesX.slice hl2
 have hb3:Below w.heap.size w w2:=hal.trans (hb2.mono (by simp))
 clear hl2
 generalize (twoT d q t nilT).items.length=n9 at *
 generalize twoE d q t nilT=E at *
 generalize twoB d q t nilT=B at *
 generalize twoT d q t nilT=R at *
 clear hal hb2 HT
 by_cases hE:E=0
 ·subst hE
  have hb4:Below w.heap.size w (w2.alloc (.cells #[.int .i64 R.kind,.int .i64 R.num,.string R.text,.slice a9 n9 c9] 27)):=hb3.alloc hb3.size _
  have e0:=HE0.out rfl
  clear HE HE0
  go_wp2_with fail
  refine Calls.mono (HC.out _ hb4) ?_
  rintro e w5 ⟨rfl,hb5⟩
  have hb6:Below w.heap.size w w5:=hb4.trans (hb5.mono hb4.size)
  clear hb5 hb4 hb3 HC
  go_wp2_with fail
  go_ret
  exact⟨by rw [e0];rfl,hb6⟩
 ·have e0:=HE.out hE
  have hb4:Below w.heap.size w (w2.alloc (.cells #[.int .i64 R.kind,.int .i64 R.num,.string R.text,.slice a9 n9 c9] 27)):=hb3.alloc hb3.size _
  clear HE HE0 HC hb3
  go_wp2_with fail
  go_ret
  exact⟨by rw [e0];rfl,hb4⟩
def RedPost (r:VT) (n:Nat) (er:Int) (w:World) (e:Ending) (w':World):Prop:=
 ∃u,e=.returned (.tuple #[.agg #[.int .i64 r.kind,.int .i64 r.num,.string r.text,u],.int .i64 (n:Int),.int .i64 er])∧Lies 16 w' r.items u∧Below w.heap.size w w'
def redT (d:Nat) (q:Int) (t:VT) (l:List VT):VT:=if redE d q t l=0 then lastT t (redS q.toNat t l) else nilT
def redN (d:Nat) (q:Int) (t:VT) (l:List VT):Nat:=if redE d q t l=0 then (redS q.toNat t l).length else 0
theorem egR1:∀args w,(callFunc 47 args).run Tryz.prog w=.ok (.enter 47 args) w:=enters_of Tryz.func47 (by kernel_rfl) rfl
theorem reduceF_any (d:Nat) (q:Int) (t:VT) (u:Value) (l:List VT) (v:Value) (w:World) (hu:Lies d w t.items u) (hs:t.text.size≤9223372036854775807) (hv:Lies (d+1) w l v) :
 Calls Tryz.prog 23 #[.int .i64 q,.agg #[.int .i64 t.kind,.int .i64 t.num,.string t.text,u],v] w (RedPost (redT d q t l) (redN d q t l) (redE d q t l) w):=by
 obtain⟨a,c,rfl,_⟩:=Lies.slice hu
 obtain⟨a2,c2,rfl,_⟩:=Lies.slice hv
 have HC:Hid (∀W,Below w.heap.size w W→Calls Tryz.prog 45 #[.int .i64 q,.agg #[.int .i64 t.kind,.int .i64 t.num,.string t.text,.slice a t.items.length c],.slice a2 l.length c2] W fun e w'=>e=.returned (.int .i64 (redE d q t l))∧Below W.heap.size W w'):=fun W hW=>checkRed_any d q t _ l _ W (Lies.keeps hW _ _ _ hu) hs (Lies.keeps hW _ _ _ hv)
 have HU:Hid (Lies d w t.items (.slice a t.items.length c)):=hu
 have HV:Hid (Lies (d+1) w l (.slice a2 l.length c2)):=hv
 have hB0:Below w.heap.size w ((w.alloc (.cells #[.int .i64 t.kind,.int .i64 t.num,.string t.text,.slice a t.items.length c] 27)).alloc (.cells #[.int .i64 0,.int .i64 0,.string ⟨#[]⟩,.slice none 0 0] 27)):=(((Grew.refl w).alloc _).alloc _).below
 have HX0:Hid (Bx ((w.alloc (.cells #[.int .i64 t.kind,.int .i64 t.num,.string t.text,.slice a t.items.length c] 27)).alloc (.cells #[.int .i64 0,.int .i64 0,.string ⟨#[]⟩,.slice none 0 0] 27)) w.heap.size t (.slice a t.items.length c)):=(zaj w t _).keeps ((Grew.refl _).alloc _).below
 have HR0:Hid (Bx ((w.alloc (.cells #[.int .i64 t.kind,.int .i64 t.num,.string t.text,.slice a t.items.length c] 27)).alloc (.cells #[.int .i64 0,.int .i64 0,.string ⟨#[]⟩,.slice none 0 0] 27)) (w.heap.size+1) zeroT (.slice none 0 0)):=by
  have:=zaj (w.alloc (.cells #[.int .i64 t.kind,.int .i64 t.num,.string t.text,.slice a t.items.length c] 27)) zeroT (.slice none 0 0)
  show Bx _ _ _ _
  simpa using this
 have hS0:((w.alloc (.cells #[.int .i64 t.kind,.int .i64 t.num,.string t.text,.slice a t.items.length c] 27)).alloc (.cells #[.int .i64 0,.int .i64 0,.string ⟨#[]⟩,.slice none 0 0] 27)).heap.size=w.heap.size+2:=by simp
 clear hu hv hs
 generalize hlt:t.items.length=lt at *
 have Hlt:Hid (t.items.length=lt):=hlt
 generalize hll:l.length=ll at *
 have Hll:Hid (l.length=ll):=hll
 clear hlt hll
 generalize hP:RedPost (redT d q t l) (redN d q t l) (redE d q t l) w=P
 have HP:Hid (RedPost (redT d q t l) (redN d q t l) (redE d q t l) w=P):=hP
 clear hP
 go_enter Tryz.func23,Tryz.ntmps23
 go_wp2_with fail
 refine Calls.mono (HC.out _ hB0) ?_
 rintro e w2 ⟨rfl,hb2⟩
 have hb2:Below ((w.alloc (.cells #[.int .i64 t.kind,.int .i64 t.num,.string t.text,.slice a lt c] 27)).alloc (.cells #[.int .i64 0,.int .i64 0,.string ⟨#[]⟩,.slice none 0 0] 27)).heap.size ((w.alloc (.cells #[.int .i64 t.kind,.int .i64 t.num,.string t.text,.slice a lt c] 27)).alloc (.cells #[.int .i64 0,.int .i64 0,.string ⟨#[]⟩,.slice none 0 0] 27)) w2:=hb2
 have hb3:Below w.heap.size w w2:=hB0.trans (hb2.mono hB0.size)
 have HX2:Hid (Bx w2 w.heap.size t (.slice a lt c)):=HX0.out.keeps hb2
 have HR2:Hid (Bx w2 (w.heap.size+1) zeroT (.slice none 0 0)):=HR0.out.keeps hb2
 have hs2:w.heap.size+2≤w2.heap.size:=by have:=hb2.size;omega
 clear HX0 HR0 hB0 hb2 hS0 HC
 by_cases hE:redE d q t l=0
 ·have hz:=redE_zero hE
  have e1:redT d q t l=lastT t (redS q.toNat t l):=by unfold redT;rw [if_pos hE]
  have e2:redN d q t l=(redS q.toNat t l).length:=by unfold redN;rw [if_pos hE]
  rw [e1,e2,hE] at HP
  rw [hE]
  clear hE e1 e2
  obtain⟨Q,hQ,hQ8⟩:∃Q:Nat,q=Q∧Q<8:=⟨q.toNat,by omega,by omega⟩
  subst hQ
  rw [show ((Q:Int)).toNat=Q by simp] at HP
  have hct:=canon HU.out hz.2.1
  have hcl:=canonL25 HV.out hz.2.2
  have HCp:Hid (Calls Tryz.prog 34 #[.agg #[.int .i64 t.kind,.int .i64 t.num,.string t.text,.slice a lt c]] w2 (CopyPost 16 t w2)):=copy_right t _ w2 (Lies.keeps hb3 _ _ _ hct.1) hct.2
  have HT16:Hid (LiesX (fun n=>n<w.heap.size) 16 w t.items (.slice a lt c)∧zab 16 t=true):=⟨LiesX.of_lies hct.1,hct.2⟩
  have HL17:Hid (LiesX (fun n=>n<w.heap.size) 17 w l (.slice a2 ll c2)∧l.length≤65536∧∀x∈l,zab 16 x=true):=⟨LiesX.of_lies hcl.1,hcl.2.1,fun x hx=>(hcl.2.2 x hx).1⟩
  clear hz hct hcl HU HV
  obtain⟨x0,x1,x2,x3,_,_,_,_⟩:=HX2.out
  go_wp2_with fail
  refine Calls.mono HCp.out ?_
  rintro e w3 ⟨v3,rfl,hl3,hb4⟩
  obtain⟨a3,c3,rfl,_⟩:=LiesB.slice hl3
  rw [Hlt.out] at hl3 ⊢
  have hb5:Below w.heap.size w w3:=hb3.trans (hb4.mono hb3.size)
  have HX3:Hid (Bx w3 w.heap.size t (.slice a lt c)):=HX2.out.keeps hb4
  have HR3:Hid (Bx w3 (w.heap.size+1) zeroT (.slice none 0 0)):=HR2.out.keeps hb4
  have hs3:w.heap.size+2≤w3.heap.size:=Nat.le_trans hs2 hb4.size
  have HL3:Hid (LiesX (fun n=>w.heap.size+2≤n∧n<w3.heap.size) 16 w3 t.items (.slice a3 lt c3)):=(LiesX.of_b hl3).both.mono (fun n hn=>⟨by omega,hn.2⟩)
  clear hl3 hb4 hb3 HX2 HR2 HCp x0 x1 x2 x3 hs2
  have hbA:Below w3.heap.size w3 ((w3.alloc (.cells #[.int .i64 t.kind,.int .i64 t.num,.string t.text,.slice a3 lt c3] 27)).alloc (.cells #[.int .i64 0] 3)):=(((Grew.refl w3).alloc _).alloc _).below
  have hb6:Below w.heap.size w ((w3.alloc (.cells #[.int .i64 t.kind,.int .i64 t.num,.string t.text,.slice a3 lt c3] 27)).alloc (.cells #[.int .i64 0] 3)):=hb5.trans (hbA.mono hb5.size)
  have hsA:((w3.alloc (.cells #[.int .i64 t.kind,.int .i64 t.num,.string t.text,.slice a3 lt c3] 27)).alloc (.cells #[.int .i64 0] 3)).heap.size=w3.heap.size+2:=by simp
  have HXA:Hid (Bx ((w3.alloc (.cells #[.int .i64 t.kind,.int .i64 t.num,.string t.text,.slice a3 lt c3] 27)).alloc (.cells #[.int .i64 0] 3)) w.heap.size t (.slice a lt c)):=HX3.out.keeps hbA
  have HRA:Hid (Bx ((w3.alloc (.cells #[.int .i64 t.kind,.int .i64 t.num,.string t.text,.slice a3 lt c3] 27)).alloc (.cells #[.int .i64 0] 3)) (w.heap.size+1) zeroT (.slice none 0 0)):=HR3.out.keeps hbA
  have HJ:Hid (JRd w3.heap.size (w3.heap.size+1) (w.heap.size+2) (fun n=>n=w3.heap.size+2) t (fun n=>n<w.heap.size+2) [] ((w3.alloc (.cells #[.int .i64 t.kind,.int .i64 t.num,.string t.text,.slice a3 lt c3] 27)).alloc (.cells #[.int .i64 0] 3))):=by
   refine⟨a3,lt,c3,(zaj w3 t _).keeps ((Grew.refl _).alloc _).below,by simp,by simp,(HL3.out.keeps hbA).mono (fun n hn=>⟨by omega,by omega,by omega,by omega⟩),by omega,by omega,by omega,by omega,by omega⟩
  have HRd:Hid (Calls Tryz.prog 46 #[.int .i64 (Q:Int),.agg #[.int .i64 t.kind,.int .i64 t.num,.string t.text,.slice a lt c],.slice a2 ll c2,.func (.func 47) #[] #[.pointer (some ⟨w3.heap.size,0,none⟩),.pointer (some ⟨w3.heap.size+1,0,none⟩)]] ((w3.alloc (.cells #[.int .i64 t.kind,.int .i64 t.num,.string t.text,.slice a3 lt c3] 27)).alloc (.cells #[.int .i64 0] 3)) (RdPost (JRd w3.heap.size (w3.heap.size+1) (w.heap.size+2) (fun n=>n=w3.heap.size+2) t) (fun n=>n<w.heap.size+2) (redS Q t l) ((w3.alloc (.cells #[.int .i64 t.kind,.int .i64 t.num,.string t.text,.slice a3 lt c3] 27)).alloc (.cells #[.int .i64 0] 3)))):=by
   have h:=reduce_any (JRd w3.heap.size (w3.heap.size+1) (w.heap.size+2) (fun n=>n=w3.heap.size+2) t) 47 #[.pointer (some ⟨w3.heap.size,0,none⟩),.pointer (some ⟨w3.heap.size+1,0,none⟩)] egR1 Q hQ8 t a c l a2 c2 (fun n=>n<w.heap.size+2) ((w3.alloc (.cells #[.int .i64 t.kind,.int .i64 t.num,.string t.text,.slice a3 lt c3] 27)).alloc (.cells #[.int .i64 0] 3)) (by rw [hsA];exact jrd_rdr _ _ _ _ _)
    (fun bar l x u w' h1 _ h3 h4 _=>jrd_found _ _ (w.heap.size+2) (w3.heap.size+2) t bar l x u w' h1 h3 (by rw [hsA] at h4;exact h4) (by omega)) HJ.out (by rw [Hlt.out];exact (HT16.out.1.keeps hb6).mono (fun n hn=>by omega)) HT16.out.2 (by rw [Hll.out];exact (HL17.out.1.keeps hb6).mono (fun n hn=>by omega)) HL17.out.2.2 HL17.out.2.1
   rw [Hlt.out,Hll.out] at h
   exact h
  clear HJ HX3 HR3 HL3 hbA HT16 HL17
  obtain⟨x0,x1,x2,x3,_,_,_,_⟩:=HXA.out
  go_wp2_with fail
  refine Calls.mono HRd.out ?_
  rintro e w7 ⟨rfl,hk7,a7,n7,c7,hb7,hc7,hf7,hl7,_⟩
  have HR7:Hid (Bx w7 (w.heap.size+1) zeroT (.slice none 0 0)):=hk7.bx (fun h=>h (by omega)) HRA.out
  have HB7:Hid (Bx w7 w3.heap.size (lastT t (redS Q t l)) (.slice a7 n7 c7)):=hb7
  have Hbl:Hid (Below w.heap.size w (w7.setCells (w.heap.size+1) 0 (encP (lastT t (redS Q t l),.slice a7 n7 c7)))):=zag (hb6.trans (hk7.below (fun j hj h=>h (by omega)) hb6.size)) (by omega) _
  have Hbl2:Hid (Below w.heap.size w (w7.setCells (w.heap.size+1) 0 (encP (lastT t (redS Q t l),.slice a7 n7 c7))).drew):=Hbl.out.drew
  have hn7:(lastT t (redS Q t l)).items.length=n7:=by
   obtain⟨_,_,e,_⟩:=LiesX.slice hl7
   injection e with _ e2 _
   exact e2.symm
  have HL7:Hid (LiesX (fun m=>w.heap.size+2≤m) 16 w7 (lastT t (redS Q t l)).items (.slice a7 n7 c7)):=hl7.mono (fun m hm=>hm.2.2.2)
  generalize lastT t (redS Q t l)=R at *
  generalize (redS Q t l).length=RN at *
  have Hbx:Hid (Bx (w7.setCells (w.heap.size+1) 0 (encP (R,.slice a7 n7 c7))) (w.heap.size+1) R (.slice a7 n7 c7)):=HR7.out.put (R,.slice a7 n7 c7)
  have HZ:Hid (RedPost R RN 0 w (.returned (.tuple #[.agg #[.int .i64 R.kind,.int .i64 R.num,.string R.text,.slice a7 n7 c7],.int .i64 (RN:Int),.int .i64 0])) (w7.setCells (w.heap.size+1) 0 (encP (R,.slice a7 n7 c7))).drew):=⟨_,rfl,(LiesX.keeps (Below.refl _ _).drew (HL7.out.set (g:=w.heap.size+1) (by omega))).lies,Hbl2.out⟩
  clear hn7 hb7 hl7 hk7 HRd HXA HRA x0 x1 x2 x3 hb6 hsA hb5 Hbl Hbl2 HL7
  obtain⟨y0,y1,y2,y3,g0,g1,g2,g3⟩:=HR7.out
  obtain⟨z0,z1,z2,z3,_,_,_,_⟩:=HB7.out
  have n1 : ¬w3.heap.size=w.heap.size+1:=by omega
  have n2 : ¬w.heap.size+1=w3.heap.size:=by omega
  have n3 : ¬w3.heap.size+1=w.heap.size+1:=by omega
  have n4 : ¬w.heap.size+1=w3.heap.size+1:=by omega
  go_wp2_with fail
  go_region
  go_wp2_with fail
  refine bodyPost_ret (v:=.tuple #[.agg #[.int .i64 R.kind,.int .i64 R.num,.string R.text,.slice a7 n7 c7],.int .i64 (RN:Int),.int .i64 0]) ?_ rfl (by rw [←HP.out];exact HZ.out)
  obtain⟨q0,q1,q2,q3,_,_,_,_⟩:=Hbx.out
  simp only [encP,World.setCells,Nat.zero_add,Nat.reduceAdd] at q0 q1 q2 q3
  simp [results,Tryz.results23,go_sem,q0,q1,q2,q3]
 ·have e1:redT d q t l=nilT:=by unfold redT;rw [if_neg hE]
  have e2:redN d q t l=0:=by unfold redN;rw [if_neg hE]
  rw [e1,e2] at HP
  clear e1 e2 HU HV
  generalize redE d q t l=E at *
  have Hbx:Hid (Bx (w2.setCells (w.heap.size+1) 0 (encP (zeroT,.slice none 0 0))) (w.heap.size+1) zeroT (.slice none 0 0)):=HR2.out.put (zeroT,.slice none 0 0)
  have Hbl:Hid (Below w.heap.size w (w2.setCells (w.heap.size+1) 0 (encP (zeroT,.slice none 0 0)))):=zag hb3 (by omega) _
  obtain⟨y0,y1,y2,y3,g0,g1,g2,g3⟩:=HR2.out
  clear hb3 HX2 HR2
  go_wp2_with fail
  refine bodyPost_ret (v:=.tuple #[.agg #[.int .i64 0,.int .i64 0,.string ⟨#[]⟩,.slice none 0 0],.int .i64 0,.int .i64 E]) ?_ rfl (by rw [←HP.out];exact⟨_,rfl,(zah (fun _=>True) 16 _ none 0).lies,Hbl.out⟩)
  obtain⟨q0,q1,q2,q3,_,_,_,_⟩:=Hbx.out
  simp only [encP,World.setCells,Nat.zero_add,Nat.reduceAdd] at q0 q1 q2 q3
  simp [results,Tryz.results23,go_sem,q0,q1,q2,q3]
def splN (q:Nat):List VT→Nat
 | []=>0
 | x::xs=>if qB q x=true then splN q xs+1 else 0
theorem splN_le (q:Nat):∀l:List VT,splN q l≤l.length:=by
 intro l
 induction l with
 | nil=>exact Nat.le_refl _
 | cons x xs ih=>unfold splN;split <;> simp <;> omega
theorem splN_yes (q:Nat):∀(l:List VT) (j:Nat) (hj:j<l.length),(∀i (hi:i<l.length),i<j→qB q l[i]=true)→qB q l[j]=false→splN q l=j:=by
 intro l
 induction l with
 | nil=>intro j hj;simp at hj
 | cons x xs ih=>
  intro j hj h1 h2
  cases j with
  | zero=>
   simp only [List.getElem_cons_zero] at h2
   unfold splN
   rw [h2];rfl
  | succ j=>
   have h0:=h1 0 (by simp) (by omega)
   simp only [List.getElem_cons_zero] at h0
   unfold splN
   rw [if_pos h0,ih j (by simpa using hj) (fun i hi hij=>by have:=h1 (i+1) (by simpa using hi) (by omega);simpa using this) (by simpa using h2)]
theorem splN_all (q:Nat):∀(l:List VT),(∀i (hi:i<l.length),qB q l[i]=true)→splN q l=l.length:=by
 intro l
 induction l with
 | nil=>intro _;rfl
 | cons x xs ih=>
  intro h1
  have h0:=h1 0 (by simp)
  simp only [List.getElem_cons_zero] at h0
  unfold splN
  rw [if_pos h0,ih (fun i hi=>by have:=h1 (i+1) (by simpa using hi);simpa using this)]
  simp
def askE (d:Nat) (q:Int) (l:List VT):Int:=if q<0∨8≤q then 4 else zad d l
def SpPost (l1 l2:List VT) (er:Int) (w:World) (e:Ending) (w':World):Prop:=
 ∃v1 v2,e=.returned (.tuple #[v1,v2,.int .i64 er])∧Lies 17 w' l1 v1∧Lies 17 w' l2 v2∧Below w.heap.size w w'
def spl1 (d:Nat) (q:Int) (l:List VT):List VT:=if askE d q l=0 then l.take (splN q.toNat l) else []
def spl2 (d:Nat) (q:Int) (l:List VT):List VT:=if askE d q l=0 then l.drop (splN q.toNat l) else []
theorem split1_any (q:Nat) (hq:q<8) (t:VT) (u:Value) (B:Nat) (w:World) (hu:Lies 16 w t.items u) (hr:zab 16 t=true) (hB:w.cell? ⟨B,0,none⟩=some (.int .i64 (q:Int))) :
 Calls Tryz.prog 17 #[.agg #[.int .i64 t.kind,.int .i64 t.num,.string t.text,u],.pointer (some ⟨B,0,none⟩)] w fun e w'=>e=.returned (.bool (!qB q t))∧Below w.heap.size w w':=by
 obtain⟨a,c,rfl,_⟩:=Lies.slice hu
 have HI:Hid (∀W,Below w.heap.size w W→Calls Tryz.prog 15 #[.int .i64 (q:Int),.agg #[.int .i64 t.kind,.int .i64 t.num,.string t.text,.slice a t.items.length c]] W (IPost (qB q t) 0 W)):=fun W hW=>by
  have h:=pis_any 16 (q:Int) t (.slice a t.items.length c) W (Lies.keeps hW _ _ _ hu) (Nat.le_trans (right_size hr) (by omega))
  have e:isE 16 (q:Int) t=0:=by unfold isE;rw [if_neg (by omega),if_pos hr]
  have e2:isZ 16 (q:Int) t=qB q t:=by unfold isZ;rw [if_pos e];simp
  rwa [e,e2] at h
 have hlB:B<w.heap.size:=zae hB
 have hal:Below w.heap.size w (w.alloc (.cells #[.int .i64 t.kind,.int .i64 t.num,.string t.text,.slice a t.items.length c] 27)):=((Grew.refl w).alloc _).below
 clear hu hr
 generalize t.items.length=lt at *
 generalize qB q t=b at *
 go_enter Tryz.func17,Tryz.ntmps17
 go_wp2_with fail
 refine Calls.mono (HI.out _ hal) ?_
 rintro e w2 ⟨rfl,hb2⟩
 have hb3:Below w.heap.size w w2:=hal.trans (hb2.mono (by simp))
 clear hb2 hal HI
 go_wp2_with fail
 go_ret
 exact⟨rfl,hb3⟩
theorem egP1:∀args w,(callFunc 17 args).run Tryz.prog w=.ok (.enter 17 args) w:=enters_of Tryz.func17 (by kernel_rfl) rfl
theorem index_any (q:Nat) (hq:q<8) (l:List VT) (v:Value) (B:Nat) (w:World) (hv:Lies 17 w l v) (hr:∀x∈l,zab 16 x=true) (hn:l.length≤65536) (hB:w.cell? ⟨B,0,none⟩=some (.int .i64 (q:Int))) :
 Calls Tryz.prog 16 #[v,.func (.func 17) #[] #[.pointer (some ⟨B,0,none⟩)]] w fun e w'=>e=.returned (.int .i64 (if splN q l<l.length then (splN q l:Int) else -1))∧Below w.heap.size w w':=by
 obtain⟨a,c,rfl,_⟩:=Lies.slice hv
 generalize hE:(if splN q l<l.length then (splN q l:Int) else -1)=E
 have HE:Hid ((if splN q l<l.length then (splN q l:Int) else -1)=E):=hE
 have HV:Hid (Lies 17 w l (.slice a l.length c)∧∀x∈l,zab 16 x=true):=⟨hv,hr⟩
 have HB:Hid (w.cell? ⟨B,0,none⟩=some (.int .i64 (q:Int))):=hB
 obtain⟨ll,hll⟩:∃ll,ll=l.length:=⟨_,rfl⟩
 have Hll:Hid (ll=l.length):=hll
 have hn6:ll≤65536:=by omega
 have eg:=egP1
 rw [←hll] at HV ⊢
 clear hv hn hll hE hr hB
 go_enter Tryz.func16,Tryz.ntmps16
 go_wp2_with fail
 go_loopg [8] ll (fun z v8 wr=>∃j:Nat,v8=.int .i64 (j:Int)∧z=ll-j∧j≤ll∧Hid ((∀i (hi:i<l.length),i<j→qB q l[i]=true)∧Below w.heap.size w wr))
 case atStart=>exact⟨0,rfl,by omega,by omega,fun i hi h=>by omega,Below.refl _ _⟩
 case round=>
  obtain⟨j,rfl,hgk,hj,HI⟩:=hrel
  have Hgk:Hid (gk=ll-j):=hgk
  clear hgk
  by_cases hlt:j<ll
  ·have hji:(j:Int)<(ll:Int):=by omega
   have hjl:j<l.length:=by have:=Hll.out;omega
   obtain⟨al',cl',he,_,hrow⟩:=HV.out.1
   injection he with e1 e2 e3
   subst e1 e3
   clear e2
   obtain⟨b1,o1,rfl,hall⟩:=hrow (by intro e;rw [e] at hjl;simp at hjl)
   obtain⟨ux,p0,p1,p2,p3,p4,_⟩:=hall j hjl
   clear hall hrow
   obtain⟨ax,cx,rfl,_⟩:=Lies.slice p4
   have hbw:=HI.out.2
   have HC:Hid (Calls Tryz.prog 17 #[.agg #[.int .i64 l[j].kind,.int .i64 l[j].num,.string l[j].text,.slice ax l[j].items.length cx],.pointer (some ⟨B,0,none⟩)] wr fun e w'=>e=.returned (.bool (!qB q l[j]))∧Below wr.heap.size wr w'):=split1_any q hq l[j] _ B wr (Lies.keeps hbw _ _ _ p4) (HV.out.2 _ (List.getElem_mem hjl)) (zaa hbw HB.out)
   replace p0:=zaa hbw p0;replace p1:=zaa hbw p1;replace p2:=zaa hbw p2;replace p3:=zaa hbw p3
   have HQ:Hid (qB q l[j]=false→splN q l=j):=fun h=>splN_yes q l j hjl HI.out.1 h
   have HQ2:Hid (qB q l[j]=true→∀i (hi:i<l.length),i<j+1→qB q l[i]=true):=fun h i hi hij=>by
    by_cases e:i=j
    ·subst e;exact h
    ·exact HI.out.1 i hi (by omega)
   clear p4 HI
   generalize l[j]=x at *
   generalize x.items.length=xl at *
   go_wp2_with (go_at_fn 17;refine Calls.mono HC.out ?_;rintro e w4 ⟨rfl,hb4⟩;fail)
   go_at_fn 17
   refine Calls.mono HC.out ?_
   rintro e w4 ⟨rfl,hb4⟩
   have hb5:Below w.heap.size w w4:=hbw.trans (hb4.mono hbw.size)
   clear hb4 hbw HC
   cases hqb:qB q x
   ·have hs:=HQ.out hqb
    clear HQ HQ2
    go_wp2_with fail
    go_ret
    exact⟨by rw [←HE.out,hs,if_pos (by have:=Hll.out;omega)];rfl,hb5⟩
   ·have HN:=HQ2.out hqb
    have HN2:Hid (∀i (hi:i<l.length),i<j+1→qB q l[i]=true):=HN
    clear HQ HQ2 HN
    go_wp2_with fail
    go_roundg (ll-(j+1))
    case measure=>have:=Hgk.out;omega
    case rel=>exact⟨j+1,by go_num,rfl,by omega,HN2.out,hb5⟩
  ·have hs:splN q l=l.length:=splN_all q l (fun i hi=>HI.out.1 i hi (by have:=Hll.out;omega))
   have hji : ¬(j:Int)<(ll:Int):=by omega
   have hbw:=HI.out.2
   clear HI
   go_wp2_with fail
   go_ret
   exact⟨by rw [←HE.out,if_neg (by rw [hs];omega)];rfl,hbw⟩
theorem lies_cut {D:Nat} {w:World} {l:List VT} {a:Option Addr} {c:Nat} (h:Lies (D+1) w l (.slice a l.length c)) (m:Nat) (hm:m≤l.length):Lies (D+1) w (l.take m) (.slice a m c)∧(∀b o,a=some ⟨b,o,none⟩→m<c→Lies (D+1) w (l.drop m) (.slice (some ⟨b,o+m*4,none⟩) (l.length-m) (c-m)))∧(m=l.length→∀a' c',Lies (D+1) w (l.drop m) (.slice a' 0 c')):=by
 refine⟨?_,fun b o e hc=>?_,fun e a' c'=>?_⟩
 ·cases a with
  | none=>
   obtain⟨a',c',hv,hb,hr⟩:=h
   injection hv with e1 e2 e3
   have hl:l=[]:=by
    by_cases hne:l=[]
    ·exact hne
    ·obtain⟨b,o,ha,_⟩:=hr hne
     rw [←e1] at ha;cases ha
   subst hl
   have:m=0:=by simpa using hm
   subst this
   exact (zah (fun _=>True) (D+1) w none c).lies
  | some ad=>
   by_cases hm0:m=0
   ·subst hm0;exact (zah (fun _=>True) (D+1) w (some ad) c).lies
   ·obtain⟨a',c',hv,hb,hr⟩:=id h
    injection hv with e1 e2 e3
    obtain⟨b,o,ha,_⟩:=hr (fun e=>by rw [e] at hm;simp at hm;omega)
    rw [ha] at e1
    injection e1 with e1
    subst e1
    exact Lies.taken h m hm
 ·subst e
  exact Lies.dropped h m
 ·subst e
  rw [List.drop_length]
  exact (zah (fun _=>True) (D+1) w a' c').lies
theorem splitF_any (d:Nat) (q:Int) (l:List VT) (v:Value) (w:World) (hv:Lies (d+1) w l v) :
 Calls Tryz.prog 6 #[.int .i64 q,v] w (SpPost (spl1 d q l) (spl2 d q l) (askE d q l) w):=by
 obtain⟨a,c,rfl,hcl⟩:=Lies.slice hv
 have HI:Hid (∀W,Calls Tryz.prog 15 #[.int .i64 q,.agg #[.int .i64 0,.int .i64 0,.string ⟨#[]⟩,.slice none 0 0]] W (IPost (isZ 16 q nilT) (isE 16 q nilT) W)):=fun W=>pis_any 16 q nilT (.slice none 0 0) W (zah (fun _=>True) 16 W none 0).lies (by show 0≤_;omega)
 have HC:Hid (∀W,Below w.heap.size w W→Calls Tryz.prog 11 #[.slice a l.length c] W fun e w'=>e=.returned (.int .i64 (zad d l))∧Below W.heap.size W w'):=fun W hW=>zap d l _ W (Lies.keeps hW _ _ _ hv)
 have HV:Hid (Lies (d+1) w l (.slice a l.length c)):=hv
 have hal:Below w.heap.size w (w.alloc (.cells #[.int .i64 q] 3)):=((Grew.refl w).alloc _).below
 have HB0:Hid ((w.alloc (.cells #[.int .i64 q] 3)).cell? ⟨w.heap.size,0,none⟩=some (.int .i64 q)):=by show _=_;simp
 obtain⟨ll,hll⟩:∃ll,ll=l.length:=⟨_,rfl⟩
 have Hll:Hid (ll=l.length):=hll
 rw [←hll] at HC HV hcl ⊢
 clear hv hll
 generalize hP:SpPost (spl1 d q l) (spl2 d q l) (askE d q l) w=PP
 have HP:Hid (SpPost (spl1 d q l) (spl2 d q l) (askE d q l) w=PP):=hP
 clear hP
 go_enter Tryz.func6,Tryz.ntmps6
 go_wp2_with fail
 refine Calls.mono (HI.out _) ?_
 rintro e w1 ⟨rfl,hb1⟩
 have hb1:Below (w.alloc (.cells #[.int .i64 q] 3)).heap.size (w.alloc (.cells #[.int .i64 q] 3)) w1:=hb1
 have HB1:Hid (w1.cell? ⟨w.heap.size,0,none⟩=some (.int .i64 q)):=zaa hb1 HB0.out
 have hw1:Below w.heap.size w w1:=hal.trans (hb1.mono hal.size)
 clear hb1 hal HB0 HI
 by_cases hq:q<0∨8≤q
 ·have e1:isE 16 q nilT=4:=by unfold isE;rw [if_pos hq]
  have e2:askE d q l=4:=by unfold askE;rw [if_pos hq]
  have e3:spl1 d q l=[]:=by unfold spl1;rw [e2];rfl
  have e4:spl2 d q l=[]:=by unfold spl2;rw [e2];rfl
  rw [e1]
  rw [e2,e3,e4] at HP
  clear e1 e2 e3 e4 hq
  generalize isZ 16 q nilT=zz
  go_wp2_with fail
  refine bodyPost_ret (v:=.tuple #[.slice none 0 0,.slice none 0 0,.int .i64 4]) ?_ rfl (by rw [←HP.out];exact⟨_,_,rfl,(zah (fun _=>True) 17 _ none 0).lies,(zah (fun _=>True) 17 _ none 0).lies,hw1⟩)
  simp [results,Tryz.results6,go_sem]
 ·have e1:isE 16 q nilT=0:=by unfold isE;rw [if_neg hq,if_pos nil_right]
  have e2:askE d q l=zad d l:=by unfold askE;rw [if_neg hq]
  rw [e1]
  generalize isZ 16 q nilT=zz
  clear e1
  go_wp2_with fail
  refine Calls.mono (HC.out _ hw1) ?_
  rintro e w2 ⟨rfl,hb2⟩
  have HB2:Hid (w2.cell? ⟨w.heap.size,0,none⟩=some (.int .i64 q)):=zaa hb2 HB1.out
  have hw2:Below w.heap.size w w2:=hw1.trans (hb2.mono hw1.size)
  clear hb2 HB1 hw1 HC
  by_cases hE:zad d l=0
  ·have hcan:=canonL25 HV.out hE
   obtain⟨Q,hQ,hQ8⟩:∃Q:Nat,q=Q∧Q<8:=⟨q.toNat,by omega,by omega⟩
   have e3:spl1 d q l=l.take (splN Q l):=by unfold spl1;rw [e2,hE,if_pos rfl,hQ];simp
   have e4:spl2 d q l=l.drop (splN Q l):=by unfold spl2;rw [e2,hE,if_pos rfl,hQ];simp
   rw [e2,e3,e4,hE] at HP
   rw [hE]
   subst hQ
   have hle:=splN_le Q l
   have HX:Hid (Calls Tryz.prog 16 #[.slice a ll c,.func (.func 17) #[] #[.pointer (some ⟨w.heap.size,0,none⟩)]] w2 fun e w'=>e=.returned (.int .i64 (if splN Q l<ll then (splN Q l:Int) else -1))∧Below w2.heap.size w2 w'):=by
    have h:=index_any Q hQ8 l (.slice a ll c) w.heap.size w2 (Lies.keeps hw2 _ _ _ hcan.1) (fun x hx=>(hcan.2.2 x hx).1) hcan.2.1 HB2.out
    rw [←Hll.out] at h
    exact h
   have HL:Hid (Lies 17 w l (.slice a ll c)∧l.length≤65536∧∀x∈l,zab 16 x=true):=⟨hcan.1,hcan.2.1,fun x hx=>(hcan.2.2 x hx).1⟩
   have Hle:Hid (splN Q l≤ll):=by rw [Hll.out];exact hle
   have hlc:ll≤c:=by
    obtain⟨_,_,hv',hb',_⟩:=hcan.1
    injection hv' with _ _ e9
    have:=Hll.out
    omega
   have HC1:Hid (∀W m,Below w.heap.size w W→m≤ll→Calls Tryz.prog 18 #[.slice a m c] W fun e w'=>∃v,e=.returned v∧LiesB W.heap.size 17 w' (l.take m) v∧Below W.heap.size W w'):=fun W m hW hm=>by
    have hcut:=lies_cut (D:=16) (by rw [←Hll.out];exact Lies.keeps hW _ _ _ HL.out.1) m (by rw [←Hll.out];exact hm)
    exact copyAll_core 16 (l.take m) _ W hcut.1 (by have:=HL.out.2.1;rw [List.length_take];omega) (fun x v W' hx hv' _=>copy_right x v W' hv' (HL.out.2.2 x (List.mem_of_mem_take hx)))
   have HC2:Hid (∀W m u,Below w.heap.size w W→m≤ll→Lies 17 W (l.drop m) u→Calls Tryz.prog 18 #[u] W fun e w'=>∃v,e=.returned v∧LiesB W.heap.size 17 w' (l.drop m) v∧Below W.heap.size W w'):=fun W m u hW hm hu=>
    copyAll_core 16 (l.drop m) _ W hu (by have:=HL.out.2.1;rw [List.length_drop];omega) (fun x v W' hx hv' _=>copy_right x v W' hv' (HL.out.2.2 x (List.mem_of_mem_drop hx)))
   clear e3 e4 e2 hE hcan hle HV
   go_wp2_with fail
   refine Calls.mono HX.out ?_
   rintro e w3 ⟨rfl,hb3⟩
   have hw3:Below w.heap.size w w3:=hw2.trans (hb3.mono hw2.size)
   clear hb3 hw2 HX HB2
   obtain⟨sN,hsN⟩:∃sN,sN=splN Q l:=⟨_,rfl⟩
   rw [←hsN] at HP Hle ⊢
   clear hsN
   have hsl:=Hle.out
   have HA:Hid (∀W,Below w.heap.size w W→Calls Tryz.prog 18 #[.slice a sN c] W fun e w'=>∃v,e=.returned v∧LiesB W.heap.size 17 w' (l.take sN) v∧Below W.heap.size W w'):=fun W hW=>HC1.out W sN hW Hle.out
   by_cases hlt:sN<ll
   ·rw [if_pos hlt]
    obtain⟨b1,o1,rfl⟩:∃b1 o1,a=some ⟨b1,o1,none⟩:=by
     obtain⟨a',c',hv',_,hr'⟩:=HL.out.1
     injection hv' with e9 _ _
     obtain⟨b,o,ha,_⟩:=hr' (fun e=>by have:=Hll.out;rw [e] at this;simp at this;omega)
     exact⟨b,o,by rw [e9,ha]⟩
    have HBb:Hid (∀W,Below w.heap.size w W→Calls Tryz.prog 18 #[.slice (some ⟨b1,o1+sN*4,none⟩) (ll-sN) (c-sN)] W fun e w'=>∃v,e=.returned v∧LiesB W.heap.size 17 w' (l.drop sN) v∧Below W.heap.size W w'):=fun W hW=>HC2.out W sN _ hW Hle.out (by
     have hcut:=lies_cut (D:=16) (m:=sN) (by rw [←Hll.out];exact Lies.keeps hW _ _ _ HL.out.1) (by rw [←Hll.out];exact hsl)
     have:=hcut.2.1 b1 o1 rfl (by omega)
     rw [←Hll.out] at this
     exact this)
    have f1:(sN:Int)≤(c:Int):=by omega
    have f2:(sN:Int)≤(ll:Int):=by omega
    have f3:sN≤c:=by omega
    have f4 : ¬c=sN:=by omega
    have f5 : ¬(c:Int)=(sN:Int):=by omega
    have f6:(ll:Int)≤(c:Int):=by omega
    have f7 : ¬(sN:Int)<0:=by omega
    clear HC1 HC2 HL
    go_wp2_with fail
    go_region_held3 (fun _=>True) (trivial)
     (first|(go_at_call 18;(with_reducible refine Calls.mono (HA.out _ ?_) ?_);(first|exact hw3|exact hw3.drew);rintro e w4 ⟨v4,rfl,hl4,hb4⟩;obtain⟨a4,c4,rfl,_⟩:=LiesB.slice hl4;have hw4:Below w.heap.size w w4:=(by first|exact hw3.trans (hb4.mono hw3.size)|exact hw3.drew.trans (hb4.mono hw3.size));have HL4:Hid (Lies 17 w4 (l.take sN) (.slice a4 (l.take sN).length c4)):=LiesB.lies _ _ _ hl4;clear hl4 hb4)|(go_at_call 18;(with_reducible refine Calls.mono (HBb.out _ ?_) ?_);(first|exact hw4|exact hw4.drew);rintro e w5 ⟨v5,rfl,hl5,hb5⟩;obtain⟨a5,c5,rfl,_⟩:=LiesB.slice hl5;have hw5:Below w.heap.size w w5:=hw4.trans (hb5.mono hw4.size);have HL5:Hid (Lies 17 w5 (l.take sN) (.slice a4 (l.take sN).length c4)∧Lies 17 w5 (l.drop sN) (.slice a5 (l.drop sN).length c5)):=⟨Lies.keeps hb5 _ _ _ HL4.out,LiesB.lies _ _ _ hl5⟩;clear hl5 hb5))
    have HZ:Hid (SpPost (l.take sN) (l.drop sN) 0 w (.returned (.tuple #[.slice a4 (l.take sN).length c4,.slice a5 (l.drop sN).length c5,.int .i64 0])) w5):=⟨_,_,rfl,HL5.out.1,HL5.out.2,hw5⟩
    clear HL4 HL5 hw3 hw4 hw5 HA HBb
    go_wp2_with fail
    refine bodyPost_ret (v:=.tuple #[.slice a4 (l.take sN).length c4,.slice a5 (l.drop sN).length c5,.int .i64 0]) ?_ rfl (by rw [←HP.out];exact HZ.out)
    simp [results,Tryz.results6,go_sem]
   ·have es:sN=ll:=by omega
    rw [if_neg hlt]
    clear hlt
    subst es
    have f6:(sN:Int)≤(c:Int):=by omega
    have fll : ¬(sN:Int)<0:=by omega
    by_cases hcs:c=sN
    ·subst hcs
     have HBb:Hid (∀W,Below w.heap.size w W→Calls Tryz.prog 18 #[.slice a 0 0] W fun e w'=>∃v,e=.returned v∧LiesB W.heap.size 17 w' (l.drop c) v∧Below W.heap.size W w'):=fun W hW=>HC2.out W c _ hW (Nat.le_refl _) (by
      have hcut:=lies_cut (D:=16) (m:=c) (by rw [←Hll.out];exact Lies.keeps hW _ _ _ HL.out.1) (by rw [←Hll.out];exact Nat.le_refl _)
      exact hcut.2.2 Hll.out a 0)
     clear HC1 HC2 HL
     go_wp2_with fail
     go_region_held3 (fun _=>True) (trivial)
      (first|(go_at_call 18;(with_reducible refine Calls.mono (HA.out _ ?_) ?_);(first|exact hw3|exact hw3.drew);rintro e w4 ⟨v4,rfl,hl4,hb4⟩;obtain⟨a4,c4,rfl,_⟩:=LiesB.slice hl4;have hw4:Below w.heap.size w w4:=(by first|exact hw3.trans (hb4.mono hw3.size)|exact hw3.drew.trans (hb4.mono hw3.size));have HL4:Hid (Lies 17 w4 (l.take c) (.slice a4 (l.take c).length c4)):=LiesB.lies _ _ _ hl4;clear hl4 hb4)|(go_at_call 18;(with_reducible refine Calls.mono (HBb.out _ ?_) ?_);(first|exact hw4|exact hw4.drew);rintro e w5 ⟨v5,rfl,hl5,hb5⟩;obtain⟨a5,c5,rfl,_⟩:=LiesB.slice hl5;have hw5:Below w.heap.size w w5:=hw4.trans (hb5.mono hw4.size);have HL5:Hid (Lies 17 w5 (l.take c) (.slice a4 (l.take c).length c4)∧Lies 17 w5 (l.drop c) (.slice a5 (l.drop c).length c5)):=⟨Lies.keeps hb5 _ _ _ HL4.out,LiesB.lies _ _ _ hl5⟩;clear hl5 hb5))
     have HZ:Hid (SpPost (l.take c) (l.drop c) 0 w (.returned (.tuple #[.slice a4 (l.take c).length c4,.slice a5 (l.drop c).length c5,.int .i64 0])) w5):=⟨_,_,rfl,HL5.out.1,HL5.out.2,hw5⟩
     clear HL4 HL5 hw3 hw4 hw5 HA HBb
     go_wp2_with fail
     refine bodyPost_ret (v:=.tuple #[.slice a4 (l.take c).length c4,.slice a5 (l.drop c).length c5,.int .i64 0]) ?_ rfl (by rw [←HP.out];exact HZ.out)
     simp [results,Tryz.results6,go_sem]
    ·obtain⟨b1,o1,hab⟩|hno:(∃b1 o1,a=some ⟨b1,o1,none⟩)∨sN=0:=by
      by_cases h0:sN=0
      ·exact .inr h0
      ·obtain⟨a',c',hv',_,hr'⟩:=HL.out.1
       injection hv' with e9 _ _
       obtain⟨b,o,ha,_⟩:=hr' (fun e=>by have:=Hll.out;rw [e] at this;simp at this;omega)
       exact .inl ⟨b,o,by rw [e9,ha]⟩
     ·subst hab
      have HBb:Hid (∀W,Below w.heap.size w W→Calls Tryz.prog 18 #[.slice (some ⟨b1,o1+sN*4,none⟩) 0 (c-sN)] W fun e w'=>∃v,e=.returned v∧LiesB W.heap.size 17 w' (l.drop sN) v∧Below W.heap.size W w'):=fun W hW=>HC2.out W sN _ hW (Nat.le_refl _) (by
       have hcut:=lies_cut (D:=16) (m:=sN) (by rw [←Hll.out];exact Lies.keeps hW _ _ _ HL.out.1) (by rw [←Hll.out];exact Nat.le_refl _)
       exact hcut.2.2 Hll.out _ _)
      have f3:sN≤c:=by omega
      have f5 : ¬(c:Int)=(sN:Int):=by omega
      clear HC1 HC2 HL
      go_wp2_with fail
      go_region_held3 (fun _=>True) (trivial)
       (first|(go_at_call 18;(with_reducible refine Calls.mono (HA.out _ ?_) ?_);(first|exact hw3|exact hw3.drew);rintro e w4 ⟨v4,rfl,hl4,hb4⟩;obtain⟨a4,c4,rfl,_⟩:=LiesB.slice hl4;have hw4:Below w.heap.size w w4:=(by first|exact hw3.trans (hb4.mono hw3.size)|exact hw3.drew.trans (hb4.mono hw3.size));have HL4:Hid (Lies 17 w4 (l.take sN) (.slice a4 (l.take sN).length c4)):=LiesB.lies _ _ _ hl4;clear hl4 hb4)|(go_at_call 18;(with_reducible refine Calls.mono (HBb.out _ ?_) ?_);(first|exact hw4|exact hw4.drew);rintro e w5 ⟨v5,rfl,hl5,hb5⟩;obtain⟨a5,c5,rfl,_⟩:=LiesB.slice hl5;have hw5:Below w.heap.size w w5:=hw4.trans (hb5.mono hw4.size);have HL5:Hid (Lies 17 w5 (l.take sN) (.slice a4 (l.take sN).length c4)∧Lies 17 w5 (l.drop sN) (.slice a5 (l.drop sN).length c5)):=⟨Lies.keeps hb5 _ _ _ HL4.out,LiesB.lies _ _ _ hl5⟩;clear hl5 hb5))
      have HZ:Hid (SpPost (l.take sN) (l.drop sN) 0 w (.returned (.tuple #[.slice a4 (l.take sN).length c4,.slice a5 (l.drop sN).length c5,.int .i64 0])) w5):=⟨_,_,rfl,HL5.out.1,HL5.out.2,hw5⟩
      clear HL4 HL5 hw3 hw4 hw5 HA HBb
      go_wp2_with fail
      refine bodyPost_ret (v:=.tuple #[.slice a4 (l.take sN).length c4,.slice a5 (l.drop sN).length c5,.int .i64 0]) ?_ rfl (by rw [←HP.out];exact HZ.out)
      simp [results,Tryz.results6,go_sem]
     ·subst hno
      have HBb:Hid (∀W u,Below w.heap.size w W→Lies 17 W [] u→Calls Tryz.prog 18 #[u] W fun e w'=>∃v,e=.returned v∧LiesB W.heap.size 17 w' (l.drop 0) v∧Below W.heap.size W w'):=fun W u hW hu=>HC2.out W 0 u hW (Nat.le_refl _) (by
       have h0:l=[]:=List.length_eq_zero_iff.1 Hll.out.symm
       rw [h0];exact hu)
      have f5 : ¬(c:Int)=0:=by omega
      cases a with
      | none=>
       have HBb:Hid (∀W,Below w.heap.size w W→Calls Tryz.prog 18 #[.slice none 0 c] W fun e w'=>∃v,e=.returned v∧LiesB W.heap.size 17 w' (l.drop 0) v∧Below W.heap.size W w'):=fun W hW=>HBb.out W _ hW (zah (fun _=>True) 17 W none c).lies
       clear HC1 HC2 HL
       go_wp2_with fail
       go_region_held3 (fun _=>True) (trivial)
        (first|(go_at_call 18;(with_reducible refine Calls.mono (HA.out _ ?_) ?_);(first|exact hw3|exact hw3.drew);rintro e w4 ⟨v4,rfl,hl4,hb4⟩;obtain⟨a4,c4,rfl,_⟩:=LiesB.slice hl4;have hw4:Below w.heap.size w w4:=(by first|exact hw3.trans (hb4.mono hw3.size)|exact hw3.drew.trans (hb4.mono hw3.size));have HL4:Hid (Lies 17 w4 (l.take 0) (.slice a4 (l.take 0).length c4)):=LiesB.lies _ _ _ hl4;clear hl4 hb4)|(go_at_call 18;(with_reducible refine Calls.mono (HBb.out _ ?_) ?_);(first|exact hw4|exact hw4.drew);rintro e w5 ⟨v5,rfl,hl5,hb5⟩;obtain⟨a5,c5,rfl,_⟩:=LiesB.slice hl5;have hw5:Below w.heap.size w w5:=hw4.trans (hb5.mono hw4.size);have HL5:Hid (Lies 17 w5 (l.take 0) (.slice a4 (l.take 0).length c4)∧Lies 17 w5 (l.drop 0) (.slice a5 (l.drop 0).length c5)):=⟨Lies.keeps hb5 _ _ _ HL4.out,LiesB.lies _ _ _ hl5⟩;clear hl5 hb5))
       have HZ:Hid (SpPost (l.take 0) (l.drop 0) 0 w (.returned (.tuple #[.slice a4 (l.take 0).length c4,.slice a5 (l.drop 0).length c5,.int .i64 0])) w5):=⟨_,_,rfl,HL5.out.1,HL5.out.2,hw5⟩
       clear HL4 HL5 hw3 hw4 hw5 HA HBb
       go_wp2_with fail
       refine bodyPost_ret (v:=.tuple #[.slice a4 (l.take 0).length c4,.slice a5 (l.drop 0).length c5,.int .i64 0]) ?_ rfl (by rw [←HP.out];exact HZ.out)
       simp [results,Tryz.results6,go_sem]
      | some ad=>
       have HBb:Hid (∀W,Below w.heap.size w W→Calls Tryz.prog 18 #[.slice (some ad) 0 c] W fun e w'=>∃v,e=.returned v∧LiesB W.heap.size 17 w' (l.drop 0) v∧Below W.heap.size W w'):=fun W hW=>HBb.out W _ hW (zah (fun _=>True) 17 W (some ad) c).lies
       clear HC1 HC2 HL
       go_wp2_with fail
       go_region_held3 (fun _=>True) (trivial)
        (first|(go_at_call 18;(with_reducible refine Calls.mono (HA.out _ ?_) ?_);(first|exact hw3|exact hw3.drew);rintro e w4 ⟨v4,rfl,hl4,hb4⟩;obtain⟨a4,c4,rfl,_⟩:=LiesB.slice hl4;have hw4:Below w.heap.size w w4:=(by first|exact hw3.trans (hb4.mono hw3.size)|exact hw3.drew.trans (hb4.mono hw3.size));have HL4:Hid (Lies 17 w4 (l.take 0) (.slice a4 (l.take 0).length c4)):=LiesB.lies _ _ _ hl4;clear hl4 hb4)|(go_at_call 18;(with_reducible refine Calls.mono (HBb.out _ ?_) ?_);(first|exact hw4|exact hw4.drew);rintro e w5 ⟨v5,rfl,hl5,hb5⟩;obtain⟨a5,c5,rfl,_⟩:=LiesB.slice hl5;have hw5:Below w.heap.size w w5:=hw4.trans (hb5.mono hw4.size);have HL5:Hid (Lies 17 w5 (l.take 0) (.slice a4 (l.take 0).length c4)∧Lies 17 w5 (l.drop 0) (.slice a5 (l.drop 0).length c5)):=⟨Lies.keeps hb5 _ _ _ HL4.out,LiesB.lies _ _ _ hl5⟩;clear hl5 hb5))
       have HZ:Hid (SpPost (l.take 0) (l.drop 0) 0 w (.returned (.tuple #[.slice a4 (l.take 0).length c4,.slice a5 (l.drop 0).length c5,.int .i64 0])) w5):=⟨_,_,rfl,HL5.out.1,HL5.out.2,hw5⟩
       clear HL4 HL5 hw3 hw4 hw5 HA HBb
       go_wp2_with fail
       refine bodyPost_ret (v:=.tuple #[.slice a4 (l.take 0).length c4,.slice a5 (l.drop 0).length c5,.int .i64 0]) ?_ rfl (by rw [←HP.out];exact HZ.out)
       simp [results,Tryz.results6,go_sem]
  ·have e3:spl1 d q l=[]:=by unfold spl1;rw [e2,if_neg hE]
   have e4:spl2 d q l=[]:=by unfold spl2;rw [e2,if_neg hE]
   rw [e3,e4,e2] at HP
   clear e3 e4 e2 HV
   generalize zad d l=E at *
   go_wp2_with fail
   refine bodyPost_ret (v:=.tuple #[.slice none 0 0,.slice none 0 0,.int .i64 E]) ?_ rfl (by rw [←HP.out];exact⟨_,_,rfl,(zah (fun _=>True) 17 _ none 0).lies,(zah (fun _=>True) 17 _ none 0).lies,hw2⟩)
   simp [results,Tryz.results6,go_sem]
end Go.Proofs.YtcflooaoocngdaaGreat
