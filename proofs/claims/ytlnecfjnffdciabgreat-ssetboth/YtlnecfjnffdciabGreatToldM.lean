import Derived.Test.YtlnecfjnffdciabGreatEqualM
import Derived.Deep.CutBlock
set_option maxRecDepth 100000
set_option maxHeartbeats 8000000
namespace Go.Proofs.YtlnecfjnffdciabGreat
open Go.RowKit Go.Shelf
structure Bx2 (W:World) (n:Nat) (u v:Value):Prop where
 c0:W.cell? ⟨n,0,none⟩=some u
 c1:W.cell? ⟨n,1,none⟩=some v
 f0:W.frozen? ⟨n,0,none⟩=false
 f1:W.frozen? ⟨n,1,none⟩=false
theorem Bx2.keeps {W W':World} {n:Nat} {u v:Value} (h:Bx2 W n u v) (hb:Below W.heap.size W W'):Bx2 W' n u v:=by
 have hl:n<W.heap.size:=zad h.c0
 exact⟨zaa hb h.c0,zaa hb h.c1,(hb.frozen (p:=⟨n,0,none⟩) hl).trans h.f0,(hb.frozen (p:=⟨n,1,none⟩) hl).trans h.f1⟩
theorem zaw (w:World) (T:Nat) (u v:Value):Bx2 (w.alloc (.cells #[u,v] T)) w.heap.size u v:=by
 refine⟨?_,?_,?_,?_⟩ <;> simp
theorem Bx2.put {W:World} {n:Nat} {u v:Value} (h:Bx2 W n u v) (u' v':Value):Bx2 (W.setCells n 0 [u',v']) n u' v':=by
 have hin:∀j (hj:j<[u',v'].length),(W.setCells n 0 [u',v']).cell? ⟨n,0+j,none⟩=some ([u',v'][j]):=
  World.cell?_setCells_in n _ 0 W (fun j hj=>by
   match j,hj with
   | 0,_=>rw [h.c0];rfl
   | 1,_=>rw [h.c1];rfl)
 have q0:=hin 0 (by simp);have q1:=hin 1 (by simp)
 refine⟨by simpa using q0,by simpa using q1,?_,?_⟩
 ·rw [World.frozen?_setCells];exact h.f0
 ·rw [World.frozen?_setCells];exact h.f1
theorem below_pt15 {n0:Nat} {w W:World} (h:Below n0 w W) {n:Nat} (hn:n0≤n) (u v:Value):Below n0 w (W.setCells n 0 [u,v]):=
 (h.setCell (p:=⟨n,0,none⟩) hn _).setCell (p:=⟨n,0+1,none⟩) hn _
def zbe (q:Nat) (p:Option Addr) (w:World) (e:Ending) (w':World):Prop:=e=.returned (.agg #[.int .i64 (q:Int),.pointer p])∧Below w.heap.size w w'
theorem whole_15 (b q:Nat) (p:Option Addr) (w:World) (ho:w.cell? ⟨b,0,none⟩=some (.int .i64 (q:Int))) (hp:w.cell? ⟨b,1,none⟩=some (.pointer p)):Calls Tryz.prog 191 #[.pointer (some ⟨b,0,none⟩)] w (zbe q p w):=by
 have hlt:b<w.heap.size:=zad ho
 obtain⟨W0,hW0⟩:∃W0,W0=w.alloc (.cells #[.int .i64 0,.pointer none] 246):=⟨_,rfl⟩
 have HW:Hid (W0=w.alloc (.cells #[.int .i64 0,.pointer none] 246)):=hW0
 have hb0:Below w.heap.size w W0:=by rw [hW0];exact ((Grew.refl w).alloc _).below
 have HZ:Hid (Bx2 W0 w.heap.size (.int .i64 0) (.pointer none)):=by rw [hW0];exact zaw _ _ _ _
 obtain⟨y0,y1,f0,f1⟩:=HZ.out
 have m0:=zaa hb0 ho
 have m1:=zaa hb0 hp
 have n1 : ¬b=w.heap.size:=by omega
 have n2 : ¬w.heap.size=b:=by omega
 have HB:Hid (Below w.heap.size w W0):=hb0
 clear hW0 ho hp hlt hb0
 go_enter Tryz.func191,Tryz.ntmps191
 go_wp2_with fail
 rw [←HW.out]
 refine (own_14 _ _).mono ?_
 rintro e w1 ⟨rfl,hw1⟩
 subst hw1
 clear HW
 go_wp2_with fail
 go_region
 go_wp2_with fail
 have HQ:Hid _:=HZ.out.put (.int .i64 (q:Int)) (.pointer p)
 refine bodyPost_ret (v:=.agg #[.int .i64 (q:Int),.pointer p]) ?_ rfl ⟨rfl,(below_pt15 HB.out (Nat.le_refl _) (.int .i64 (q:Int)) (.pointer p)).drew⟩
 obtain⟨q0,q1,_,_⟩:=HQ.out
 simp only [World.setCells,Nat.zero_add] at q0 q1
 simp [results,Tryz.results191,go_sem,q0,q1]
theorem plen_15 {X:Nat→Prop} {d:Nat} {w:World} {t:RT PT} {p:Option Addr} (q:Nat) (hn:NM X d w t p):Calls Tryz.prog 192 #[.agg #[.int .i64 (q:Int),.pointer p]] w fun e w'=>e=.returned (.int .i64 (t.size:Nat))∧Below w.heap.size w w':=by
 have HM:Hid (∀V,Below w.heap.size w V→Calls Tryz.prog 113 #[.pointer p] V (zah (t.size:Int) (t.high:Int) (t.blacks:Int) V)):=fun V hV=>zak (hn.keeps hV)
 have HB:Hid (∀A,Below w.heap.size w (w.alloc A)):=fun A=>((Grew.refl w).alloc A).below
 have hf1:∀W:World,(Instr.field 171 (.agg #[.int .i64 t.size,.int .i64 t.high,.int .i64 t.blacks]) 0).run Tryz.prog W=.ok (.int .i64 (t.size:Nat)) W:=fun W=>field_size14 _ _ _ W
 clear hn
 go_enter Tryz.func192,Tryz.ntmps192
 go_wp2_with fail
 refine Calls.mono (HM.out _ (HB.out _)) ?_
 rintro e w2 ⟨hb,rfl⟩
 have hb2:Below w.heap.size w w2:=(HB.out _).trans (hb.mono (HB.out _).size)
 clear hb HB HM
 go_wp2_with fail
 go_ret
 exact⟨rfl,hb2⟩
theorem pahead_15 (q b:Nat) (pl pr:Option Addr) (x:PT) (ku vu:Value) (c:Bool) (s h k:Nat) (w:World) (hn:NCells w b pl pr x ku vu c s h k):Calls Tryz.prog 193 #[.agg #[.int .i64 (q:Int),.pointer (some ⟨b,0,none⟩)]] w (zbe q pl w):=by
 have hlt:b<w.heap.size:=zad hn.left
 obtain⟨W0,hW0⟩:∃W0,W0=(w.alloc (.cells #[.int .i64 (q:Int),.pointer (some ⟨b,0,none⟩)] 246)).alloc (.cells #[.int .i64 0,.pointer none] 246):=⟨_,rfl⟩
 have HW:Hid (W0=(w.alloc (.cells #[.int .i64 (q:Int),.pointer (some ⟨b,0,none⟩)] 246)).alloc (.cells #[.int .i64 0,.pointer none] 246)):=hW0
 have hb0:Below w.heap.size w W0:=by rw [hW0];exact (((Grew.refl w).alloc _).alloc _).below
 have HA:Hid (Bx2 W0 w.heap.size (.int .i64 (q:Int)) (.pointer (some ⟨b,0,none⟩))):=by rw [hW0];exact (zaw _ _ _ _).keeps ((Grew.refl _).alloc _).below
 have HZ:Hid (Bx2 W0 (w.heap.size+1) (.int .i64 0) (.pointer none)):=by
  rw [hW0]
  have h9:=zaw (w.alloc (.cells #[.int .i64 (q:Int),.pointer (some ⟨b,0,none⟩)] 246)) 246 (.int .i64 0) (.pointer none)
  rwa [World.size_alloc] at h9
 obtain⟨x0,x1,_,_⟩:=HA.out
 obtain⟨y0,y1,f0,f1⟩:=HZ.out
 have m0:=zaa hb0 hn.left
 have n1 : ¬b=w.heap.size+1:=by omega
 have n2 : ¬w.heap.size+1=b:=by omega
 have n3 : ¬w.heap.size=w.heap.size+1:=by omega
 have n4 : ¬w.heap.size+1=w.heap.size:=by omega
 have HB:Hid (Below w.heap.size w W0):=hb0
 clear hW0 hn hlt hb0
 go_enter Tryz.func193,Tryz.ntmps193
 go_upto_region 1 with fail
 rw [←HW.out]
 clear HW
 go_wp2_with fail
 go_region
 go_wp2_with fail
 have HQ:Hid _:=HZ.out.put (.int .i64 (q:Int)) (.pointer pl)
 refine bodyPost_ret (v:=.agg #[.int .i64 (q:Int),.pointer pl]) ?_ rfl ⟨rfl,(below_pt15 HB.out (Nat.le_succ _) (.int .i64 (q:Int)) (.pointer pl)).drew⟩
 obtain⟨q0,q1,_,_⟩:=HQ.out
 simp only [World.setCells,Nat.zero_add] at q0 q1
 simp [results,Tryz.results193,go_sem,q0,q1]
theorem pbehind_15 (q b:Nat) (pl pr:Option Addr) (x:PT) (ku vu:Value) (c:Bool) (s h k:Nat) (w:World) (hn:NCells w b pl pr x ku vu c s h k):Calls Tryz.prog 194 #[.agg #[.int .i64 (q:Int),.pointer (some ⟨b,0,none⟩)]] w (zbe q pr w):=by
 have hlt:b<w.heap.size:=zad hn.left
 obtain⟨W0,hW0⟩:∃W0,W0=(w.alloc (.cells #[.int .i64 (q:Int),.pointer (some ⟨b,0,none⟩)] 246)).alloc (.cells #[.int .i64 0,.pointer none] 246):=⟨_,rfl⟩
 have HW:Hid (W0=(w.alloc (.cells #[.int .i64 (q:Int),.pointer (some ⟨b,0,none⟩)] 246)).alloc (.cells #[.int .i64 0,.pointer none] 246)):=hW0
 have hb0:Below w.heap.size w W0:=by rw [hW0];exact (((Grew.refl w).alloc _).alloc _).below
 have HA:Hid (Bx2 W0 w.heap.size (.int .i64 (q:Int)) (.pointer (some ⟨b,0,none⟩))):=by rw [hW0];exact (zaw _ _ _ _).keeps ((Grew.refl _).alloc _).below
 have HZ:Hid (Bx2 W0 (w.heap.size+1) (.int .i64 0) (.pointer none)):=by
  rw [hW0]
  have h9:=zaw (w.alloc (.cells #[.int .i64 (q:Int),.pointer (some ⟨b,0,none⟩)] 246)) 246 (.int .i64 0) (.pointer none)
  rwa [World.size_alloc] at h9
 obtain⟨x0,x1,_,_⟩:=HA.out
 obtain⟨y0,y1,f0,f1⟩:=HZ.out
 have m0:=zaa hb0 hn.right
 have n1 : ¬b=w.heap.size+1:=by omega
 have n2 : ¬w.heap.size+1=b:=by omega
 have n3 : ¬w.heap.size=w.heap.size+1:=by omega
 have n4 : ¬w.heap.size+1=w.heap.size:=by omega
 have HB:Hid (Below w.heap.size w W0):=hb0
 clear hW0 hn hlt hb0
 go_enter Tryz.func194,Tryz.ntmps194
 go_upto_region 1 with fail
 rw [←HW.out]
 clear HW
 go_wp2_with fail
 go_region
 go_wp2_with fail
 have HQ:Hid _:=HZ.out.put (.int .i64 (q:Int)) (.pointer pr)
 refine bodyPost_ret (v:=.agg #[.int .i64 (q:Int),.pointer pr]) ?_ rfl ⟨rfl,(below_pt15 HB.out (Nat.le_succ _) (.int .i64 (q:Int)) (.pointer pr)).drew⟩
 obtain⟨q0,q1,_,_⟩:=HQ.out
 simp only [World.setCells,Nat.zero_add] at q0 q1
 simp [results,Tryz.results194,go_sem,q0,q1]
theorem ppair_15 (q b:Nat) (pl pr:Option Addr) (x:PT) (ku vu:Value) (c:Bool) (s h k:Nat) (w:World) (hn:NCells w b pl pr x ku vu c s h k) (hk:Lies 16 w x.1.items ku) (hv:Lies 16 w x.2.items vu) (hr:zac 16 x.1=true∧zac 16 x.2=true):Calls Tryz.prog 195 #[.agg #[.int .i64 (q:Int),.pointer (some ⟨b,0,none⟩)]] w (zba x w):=by
 obtain⟨ak,ck,rfl,_⟩:=Lies.slice hk
 obtain⟨av,cv,rfl,_⟩:=Lies.slice hv
 have HCp:Hid (∀V,Below w.heap.size w V→Calls Tryz.prog 137 #[.agg #[.int .i64 x.1.kind,.int .i64 x.1.num,.string x.1.text,.slice ak x.1.items.length ck,.int .i64 x.2.kind,.int .i64 x.2.num,.string x.2.text,.slice av x.2.items.length cv]] V (zba x V)):=fun V hV=>copied_14 x _ _ V (Lies.keeps hV _ _ _ hk) (Lies.keeps hV _ _ _ hv) hr
 have hlt:b<w.heap.size:=zad hn.left
 obtain⟨W0,hW0⟩:∃W0,W0=(w.alloc (.cells #[.int .i64 (q:Int),.pointer (some ⟨b,0,none⟩)] 246)).alloc (.cells #[.int .i64 0,.int .i64 0,.string ⟨#[]⟩,.slice none 0 0,.int .i64 0,.int .i64 0,.string ⟨#[]⟩,.slice none 0 0] 108):=⟨_,rfl⟩
 have HW:Hid (W0=(w.alloc (.cells #[.int .i64 (q:Int),.pointer (some ⟨b,0,none⟩)] 246)).alloc (.cells #[.int .i64 0,.int .i64 0,.string ⟨#[]⟩,.slice none 0 0,.int .i64 0,.int .i64 0,.string ⟨#[]⟩,.slice none 0 0] 108)):=hW0
 have hb0:Below w.heap.size w W0:=by rw [hW0];exact (((Grew.refl w).alloc _).alloc _).below
 have hs0:W0.heap.size=w.heap.size+1+1:=by rw [hW0];simp
 have HA:Hid (Bx2 W0 w.heap.size (.int .i64 (q:Int)) (.pointer (some ⟨b,0,none⟩))):=by rw [hW0];exact (zaw _ _ _ _).keeps ((Grew.refl _).alloc _).below
 have HZ:Hid (Bx8 W0 (w.heap.size+1) (.int .i64 0) (.int .i64 0) (.string ⟨#[]⟩) (.slice none 0 0) (.int .i64 0) (.int .i64 0) (.string ⟨#[]⟩) (.slice none 0 0)):=by
  rw [hW0]
  have h9:=zay (w.alloc (.cells #[.int .i64 (q:Int),.pointer (some ⟨b,0,none⟩)] 246)) 108 (.int .i64 0) (.int .i64 0) (.string ⟨#[]⟩) (.slice none 0 0) (.int .i64 0) (.int .i64 0) (.string ⟨#[]⟩) (.slice none 0 0)
  rwa [World.size_alloc] at h9
 obtain⟨x0,x1,_,_⟩:=HA.out
 obtain⟨_,_,m2,m3,m4,m5,m6,m7,m8,m9,_,_,_,_⟩:=hn.keeps hb0
 have HB:Hid (Below w.heap.size w W0):=hb0
 have HS:Hid (W0.heap.size=w.heap.size+1+1):=hs0
 clear hW0 hn hlt hb0 hs0 hk hv hr
 go_enter Tryz.func195,Tryz.ntmps195
 go_upto_region 1 with fail
 rw [←HW.out]
 clear HW
 go_wp2_with fail
 refine Calls.mono (HCp.out _ HB.out) ?_
 rintro e w6 ⟨ku',vu',rfl,hl5,hl6,hbc⟩
 obtain⟨a5,c5,rfl,_⟩:=LiesB.slice hl5
 obtain⟨a6,c6,rfl,_⟩:=LiesB.slice hl6
 have HZ6:Hid (Bx8 w6 (w.heap.size+1) (.int .i64 0) (.int .i64 0) (.string ⟨#[]⟩) (.slice none 0 0) (.int .i64 0) (.int .i64 0) (.string ⟨#[]⟩) (.slice none 0 0)):=HZ.out.keeps hbc
 obtain⟨y0,y1,y2,y3,y4,y5,y6,y7,f0,f1,f2,f3,f4,f5,f6,f7,_⟩:=HZ6.out
 have Hq:Hid _:=put8_in HZ6.out (.int .i64 x.1.kind) (.int .i64 x.1.num) (.string x.1.text) (.slice a5 x.1.items.length c5) (.int .i64 x.2.kind) (.int .i64 x.2.num) (.string x.2.text) (.slice a6 x.2.items.length c6)
 have hbz:Below w.heap.size w w6:=HB.out.trans (hbc.mono HB.out.size)
 have HE:Hid (zba x w (.returned (.agg #[.int .i64 x.1.kind,.int .i64 x.1.num,.string x.1.text,.slice a5 x.1.items.length c5,.int .i64 x.2.kind,.int .i64 x.2.num,.string x.2.text,.slice a6 x.2.items.length c6])) (w6.setCells (w.heap.size+1) 0 [.int .i64 x.1.kind,.int .i64 x.1.num,.string x.1.text,.slice a5 x.1.items.length c5,.int .i64 x.2.kind,.int .i64 x.2.num,.string x.2.text,.slice a6 x.2.items.length c6])):=⟨_,_,rfl,LiesB.lower14 HB.out.size _ _ _ (LiesB.put8 (by have:=HS.out;omega) _ hl5),LiesB.lower14 HB.out.size _ _ _ (LiesB.put8 (by have:=HS.out;omega) _ hl6),za9 hbz (by omega) _ _ _ _ _ _ _ _⟩
 clear hl5 hl6 hbc hbz m2 m3 m4 m5 m6 m7 m8 m9 x0 x1 HCp
 go_wp2_with fail
 refine bodyPost_ret (v:=.agg #[.int .i64 x.1.kind,.int .i64 x.1.num,.string x.1.text,.slice a5 x.1.items.length c5,.int .i64 x.2.kind,.int .i64 x.2.num,.string x.2.text,.slice a6 x.2.items.length c6]) ?_ rfl HE.out
 obtain⟨q0,q1,q2,q3,q4,q5,q6,q7⟩:=Hq.out
 simp only [World.setCells,Nat.zero_add,Nat.reduceAdd] at q0 q1 q2 q3 q4 q5 q6 q7
 simp [results,Tryz.results195,go_sem,q0,q1,q2,q3,q4,q5,q6,q7]
theorem stand_core (q b:Nat) (y:VT) (yu:Value) (pl pr:Option Addr) (x:PT) (ku vu:Value) (c:Bool) (s h k:Nat) (R:Int) (w:World) (hn:NCells w b pl pr x ku vu c s h k)
 (hc:∀V,Below w.heap.size w V→Calls Tryz.prog 216 #[.int .i64 (q:Int),.agg #[.int .i64 y.kind,.int .i64 y.num,.string y.text,yu],.agg #[.int .i64 x.1.kind,.int .i64 x.1.num,.string x.1.text,ku]] V fun e w'=>e=.returned (.tuple #[.int .i64 R,.int .i64 0])∧Below V.heap.size V w') :
 Calls Tryz.prog 205 #[.agg #[.int .i64 (q:Int),.pointer (some ⟨b,0,none⟩)],.agg #[.int .i64 y.kind,.int .i64 y.num,.string y.text,yu]] w fun e w'=>e=.returned (.int .i64 R)∧Below w.heap.size w w':=by
 have HC:Hid _:=hc
 obtain⟨W0,hW0⟩:∃W0,W0=(w.alloc (.cells #[.int .i64 (q:Int),.pointer (some ⟨b,0,none⟩)] 246)).alloc (.cells #[.int .i64 y.kind,.int .i64 y.num,.string y.text,yu] 33):=⟨_,rfl⟩
 have HW:Hid (W0=(w.alloc (.cells #[.int .i64 (q:Int),.pointer (some ⟨b,0,none⟩)] 246)).alloc (.cells #[.int .i64 y.kind,.int .i64 y.num,.string y.text,yu] 33)):=hW0
 have hb0:Below w.heap.size w W0:=by rw [hW0];exact (((Grew.refl w).alloc _).alloc _).below
 have HA:Hid (Bx2 W0 w.heap.size (.int .i64 (q:Int)) (.pointer (some ⟨b,0,none⟩))):=by rw [hW0];exact (zaw _ _ _ _).keeps ((Grew.refl _).alloc _).below
 have HY:Hid (Bx W0 (w.heap.size+1) y yu):=by
  rw [hW0]
  have h9:=bx_alloc (w.alloc (.cells #[.int .i64 (q:Int),.pointer (some ⟨b,0,none⟩)] 246)) y yu
  rwa [World.size_alloc] at h9
 obtain⟨x0,x1,_,_⟩:=HA.out
 obtain⟨y0,y1,y2,y3,_,_,_,_⟩:=HY.out
 obtain⟨_,_,m2,m3,m4,m5,_,_,_,_,_,_,_,_⟩:=hn.keeps hb0
 have HB:Hid (Below w.heap.size w W0):=hb0
 clear hW0 hn hb0 hc
 go_enter Tryz.func205,Tryz.ntmps205
 go_upto_region 1 with fail
 rw [←HW.out]
 clear HW
 go_wp2_with fail
 go_region_held3 (fun w'=>w'.cell? ⟨w.heap.size,0,none⟩=some (.int .i64 (q:Int))∧w'.cell? ⟨w.heap.size,1,none⟩=some (.pointer (some ⟨b,0,none⟩))∧w'.cell? ⟨w.heap.size+1,0,none⟩=some (.int .i64 y.kind)∧w'.cell? ⟨w.heap.size+1,1,none⟩=some (.int .i64 y.num)∧w'.cell? ⟨w.heap.size+1,2,none⟩=some (.string y.text)∧w'.cell? ⟨w.heap.size+1,3,none⟩=some yu∧w'.cell? ⟨b,2,none⟩=some (.int .i64 x.1.kind)∧w'.cell? ⟨b,3,none⟩=some (.int .i64 x.1.num)∧w'.cell? ⟨b,4,none⟩=some (.string x.1.text)∧w'.cell? ⟨b,5,none⟩=some ku) (go_keep)
  (first|(go_at_call 216;(with_reducible refine Calls.mono (HC.out _ HB.out.drew) ?_);rintro e w1 ⟨rfl,hg'⟩;have hg:Below W0.heap.size W0 w1:=(Below.refl _ _).drew.trans hg';have x0:=zaa hg x0;have x1:=zaa hg x1;have y0:=zaa hg y0;have y1:=zaa hg y1;have y2:=zaa hg y2;have y3:=zaa hg y3;have m2:=zaa hg m2;have m3:=zaa hg m3;have m4:=zaa hg m4;have m5:=zaa hg m5;clear hg'))
 have HE:Hid (Below w.heap.size w w1):=HB.out.trans (hg.mono HB.out.size)
 clear hg x0 x1 y0 y1 y2 y3 m2 m3 m4 m5 HC
 go_wp2_with fail
 go_ret
 exact⟨rfl,HE.out⟩
theorem stand_15 (q b:Nat) (hq:q<6) (y:VT) (yu:Value) (pl pr:Option Addr) (x:PT) (ku vu:Value) (c:Bool) (s h k:Nat) (w:World) (hn:NCells w b pl pr x ku vu c s h k) (hy:Lies 16 w y.items yu) (hyt:y.text.size≤9223372036854775807) (hyr:zac 16 y=true) (hk:Lies 16 w x.1.items ku) (hkt:x.1.text.size≤9223372036854775807) (hr:zac 16 x.1=true) :
 Calls Tryz.prog 205 #[.agg #[.int .i64 (q:Int),.pointer (some ⟨b,0,none⟩)],.agg #[.int .i64 y.kind,.int .i64 y.num,.string y.text,yu]] w fun e w'=>e=.returned (.int .i64 (atK q y x))∧Below w.heap.size w w':=
 stand_core q b y yu pl pr x ku vu c s h k _ w hn fun V hV=>by
  have h9:=compareO_any 16 (q:Int) y x.1 yu ku V (Lies.keeps hV _ _ _ hy) (Lies.keeps hV _ _ _ hk) hyt hkt
  rw [(ordR_right q hq y x.1 hyr hr).1,(ordR_right q hq y x.1 hyr hr).2] at h9
  exact h9
theorem upto_wrong (d b:Nat) (cn:Bool) (y:VT) (yu:Value) (w:World) (hy:Lies d w y.items yu) (ht:y.text.size≤9223372036854775807) (hr:zac d y=false):Calls Tryz.prog 140 #[.pointer (some ⟨b,0,none⟩),.agg #[.int .i64 y.kind,.int .i64 y.num,.string y.text,yu],.bool cn] w fun e w'=>e=.returned (.tuple #[.int .i64 0,.int .i64 3])∧Below w.heap.size w w':=by
 obtain⟨ak,ck,rfl,_⟩:=Lies.slice hy
 have hb0:∀o,Below w.heap.size w (w.alloc o):=fun o=>((Grew.refl w).alloc o).below
 have HC:Hid (∀o,Calls Tryz.prog 101 #[.agg #[.int .i64 y.kind,.int .i64 y.num,.string y.text,.slice ak y.items.length ck]] (w.alloc o) fun e w'=>e=.returned (.int .i64 3)∧Below (w.alloc o).heap.size (w.alloc o) w'):=fun o=>by
  have h9:=za8 d y _ (w.alloc o) (Lies.keeps (hb0 o) _ _ _ hy) ht
  rwa [hr] at h9
 have HB:Hid _:=hb0
 clear hy ht hr hb0
 go_enter Tryz.func140,Tryz.ntmps140
 go_wp2_with fail
 refine (HC.out _).mono ?_
 rintro e w1 ⟨rfl,hg⟩
 have hb1:Below w.heap.size w w1:=(HB.out _).trans (hg.mono (HB.out _).size)
 clear hg HB HC
 go_wp2_with fail
 first|(go_ret;exact⟨rfl,hb1⟩)|(go_ret2;exact⟨rfl,hb1⟩)
structure USt (w wr:World) (q:Nat) (y:VT) (yu:Value) (cn:Bool) (T:Nat) (s:RT PT) (p:Option Addr) (B n:Nat):Prop where
 box:Bx2 wr B (.int .i64 (q:Int)) (.pointer p)
 key:Bx wr w.heap.size y yu
 lo:w.heap.size<B
 nm:NM TT 16 w s p
 tot:n+RT.upTo (atK q y) cn s=T
 sub:∀x∈s.items,zac 16 x.1=true
 size:n+s.size≤65536
 below:Below w.heap.size w wr
theorem USt.keeps {w wr wr':World} {q:Nat} {y:VT} {yu:Value} {cn:Bool} {T:Nat} {s:RT PT} {p:Option Addr} {B n:Nat} (h:USt w wr q y yu cn T s p B n) (hb:Below wr.heap.size wr wr'):USt w wr' q y yu cn T s p B n:=
 ⟨h.box.keeps hb,h.key.keeps hb,h.lo,h.nm,h.tot,h.sub,h.size,h.below.trans (hb.mono h.below.size)⟩
theorem bx_put2 {W:World} {n m:Nat} {y:VT} {yu:Value} (h:Bx W n y yu) (hm:n≠m) (u v:Value):Bx (W.setCells m 0 [u,v]) n y yu:=
 ⟨zag (g:=m) hm h.c0,zag (g:=m) hm h.c1,zag (g:=m) hm h.c2,zag (g:=m) hm h.c3,by rw [World.frozen?_setCells];exact h.f0,by rw [World.frozen?_setCells];exact h.f1,by rw [World.frozen?_setCells];exact h.f2,by rw [World.frozen?_setCells];exact h.f3⟩
theorem USt.next {w wr:World} {q:Nat} {y:VT} {yu:Value} {cn:Bool} {T:Nat} {s s':RT PT} {p p':Option Addr} {B n n':Nat} (h:USt w wr q y yu cn T s p B n) (hn:NM TT 16 w s' p') (ht:n'+RT.upTo (atK q y) cn s'=T) (hs:∀x∈s'.items,x∈s.items) (hz:n'+s'.size≤65536) :
 USt w ((wr.setCells B 0 [.int .i64 (q:Int),.pointer p']).alloc (.cells #[.int .i64 (q:Int),.pointer p'] 246)) q y yu cn T s' p' wr.heap.size n':=by
 have hsz:(wr.setCells B 0 [.int .i64 (q:Int),.pointer p']).heap.size=wr.heap.size:=by simp [World.setCells]
 have hal:=((Grew.refl (wr.setCells B 0 [.int .i64 (q:Int),.pointer p'])).alloc (.cells #[.int .i64 (q:Int),.pointer p'] 246)).below
 have hbx:=zaw (wr.setCells B 0 [.int .i64 (q:Int),.pointer p']) 246 (.int .i64 (q:Int)) (.pointer p')
 rw [hsz] at hbx
 have hlow:w.heap.size<wr.heap.size:=by have h9:=zad h.key.c0;simpa using h9
 refine⟨hbx,(bx_put2 h.key (by have:=h.lo;omega) _ _).keeps hal,hlow,hn,ht,fun x hx=>h.sub x (hs x hx),hz,?_⟩
 have hb1:Below w.heap.size w (wr.setCells B 0 [.int .i64 (q:Int),.pointer p']):=below_pt15 h.below (by have:=h.lo;omega) _ _
 exact hb1.trans (hal.mono hb1.size)
theorem upto_right (d b q:Nat) (cn:Bool) (t:RT PT) (y:VT) (yu:Value) (w:World) (hm:MC w q t b) (hy:Lies d w y.items yu) (ht:y.text.size≤9223372036854775807) (hr:zac d y=true):Calls Tryz.prog 140 #[.pointer (some ⟨b,0,none⟩),.agg #[.int .i64 y.kind,.int .i64 y.num,.string y.text,yu],.bool cn] w fun e w'=>e=.returned (.tuple #[.int .i64 (RT.upTo (atK q y) cn t:Nat),.int .i64 0])∧Below w.heap.size w w':=by
 obtain⟨ak,ck,rfl,_⟩:=Lies.slice hy
 obtain⟨h16,hr16⟩:=canon hy hr
 have hb0:∀o,Below w.heap.size w (w.alloc o):=fun o=>((Grew.refl w).alloc o).below
 have HC:Hid (∀o,Calls Tryz.prog 101 #[.agg #[.int .i64 y.kind,.int .i64 y.num,.string y.text,.slice ak y.items.length ck]] (w.alloc o) fun e w'=>e=.returned (.int .i64 0)∧Below (w.alloc o).heap.size (w.alloc o) w'):=fun o=>by
  have h9:=za8 d y _ (w.alloc o) (Lies.keeps (hb0 o) _ _ _ hy) ht
  rwa [hr] at h9
 obtain⟨po,hpo,hn⟩:=hm.top
 have HWh:Hid (∀V,Below w.heap.size w V→Calls Tryz.prog 191 #[.pointer (some ⟨b,0,none⟩)] V (zbe q po V)):=fun V hV=>whole_15 b q po V (zaa hV hm.ord) (zaa hV hpo)
 have HN:Hid (NM TT 16 w t po):=hn
 have HK:Hid (Lies 16 w y.items (.slice ak y.items.length ck)):=h16
 have HKt:Hid (y.text.size≤9223372036854775807):=ht
 have HKr:Hid (zac 16 y=true):=hr16
 have HS:Hid (∀x∈t.items,zac 16 x.1=true):=fun x hx=>(hm.right x hx).1.1
 have HSz:Hid (t.size≤65536):=hm.size
 have H6:Hid (q<6):=hm.q6
 obtain⟨T,hT⟩:∃T,T=RT.upTo (atK q y) cn t:=⟨_,rfl⟩
 rw [←hT]
 have HT:Hid (RT.upTo (atK q y) cn t=T):=hT.symm
 obtain⟨Z,hZ⟩:∃Z,Z=t.size:=⟨_,rfl⟩
 have HZ:Hid (Z=t.size):=hZ
 have HB:Hid _:=hb0
 clear hm hy ht hr hb0 h16 hr16 hpo hn hT hZ
 go_enter Tryz.func140,Tryz.ntmps140
 go_wp2_with fail
 refine (HC.out _).mono ?_
 rintro e w1 ⟨rfl,hg⟩
 have HK1:Hid (Bx w1 w.heap.size y (.slice ak y.items.length ck)):=(bx_alloc w y _).keeps hg
 have hb1:Below w.heap.size w w1:=(HB.out _).trans (hg.mono (HB.out _).size)
 clear hg HC HB
 go_wp2_with fail
 refine Calls.mono (HWh.out _ hb1) ?_
 rintro e w2 ⟨rfl,hg2⟩
 have HU:Hid (USt w (w2.alloc (.cells #[.int .i64 (q:Int),.pointer po] 246)) q y (.slice ak y.items.length ck) cn T t po w2.heap.size 0):=by
  have hal:=((Grew.refl w2).alloc (.cells #[.int .i64 (q:Int),.pointer po] 246)).below
  have hb2:Below w.heap.size w w2:=hb1.trans (hg2.mono hb1.size)
  refine⟨zaw _ _ _ _,(HK1.out.keeps hg2).keeps hal,?_,HN.out,?_,HS.out,?_,hb2.trans (hal.mono hb2.size)⟩
  ·have h9:=zad (HK1.out.keeps hg2).c0;simpa using h9
  ·rw [Nat.zero_add];exact HT.out
  ·rw [Nat.zero_add];exact HSz.out
 clear HWh HN HT HS HSz HK1 hb1 hg2
 go_wp2_with fail
 go_loopg [9,10] Z (fun z v9 v10 wr=>∃(s:RT PT) (p:Option Addr) (B n:Nat),v9=.int .i64 (n:Int)∧v10=.pointer (some ⟨B,0,none⟩)∧Hid (z=s.size)∧Hid (USt w wr q y (.slice ak y.items.length ck) cn T s p B n))
 case atStart=>exact⟨t,po,w2.heap.size,0,rfl,rfl,HZ,HU⟩
 case round=>
  obtain⟨s,p,B,n,rfl,rfl,Hz,HSt⟩:=hrel
  clear HU HZ
  have hbw:Below w.heap.size w wr:=HSt.out.below
  obtain⟨b0,b1,fb0,fb1⟩:=HSt.out.box
  obtain⟨k0,k1,k2,k3,_,_,_,_⟩:=HSt.out.key
  cases s with
  | nil=>
   have hp:p=none:=HSt.out.nm
   subst hp
   have hn9:n=T:=by have h9:=HSt.out.tot;simpa [RT.upTo] using h9
   have HL:Hid (Calls Tryz.prog 192 #[.agg #[.int .i64 (q:Int),.pointer none]] wr fun e w'=>e=.returned (.int .i64 0)∧Below wr.heap.size wr w'):=plen_15 (X:=TT) (d:=16) (t:=.nil) q rfl
   have HE:Hid (n=T∧Below w.heap.size w wr):=⟨hn9,hbw⟩
   clear hn9 hbw
   go_wp2_with fail
   refine Calls.mono HL.out ?_
   rintro e w3 ⟨rfl,hg3⟩
   have HE3:Hid (n=T∧Below w.heap.size w w3):=⟨HE.out.1,HE.out.2.trans (hg3.mono HE.out.2.size)⟩
   clear hg3 HE HL k0 k1 k2 k3 b0 b1 fb0 fb1
   go_wp2_with fail
   first|go_ret|go_ret2
   exact⟨by rw [HE3.out.1];rfl,HE3.out.2⟩
  | node c l x r=>
   obtain⟨bb,pl,pr,ku,vu,hp,hc,hk,hv,hl,hr⟩:=HSt.out.nm
   subst hp
   obtain⟨N,hN⟩:∃N,N=(RT.node c l x r).size:=⟨_,rfl⟩
   have hN2:N=l.size+1+r.size:=hN
   have hpos:(0:Int)<(N:Int):=by omega
   have HL:Hid (∀V,Below w.heap.size w V→Calls Tryz.prog 192 #[.agg #[.int .i64 (q:Int),.pointer (some ⟨bb,0,none⟩)]] V fun e w'=>e=.returned (.int .i64 (N:Int))∧Below V.heap.size V w'):=fun V hV=>by rw [hN];exact plen_15 q (HSt.out.nm.keeps hV)
   obtain⟨G,hG⟩:∃G,G=atK q y x:=⟨_,rfl⟩
   have HSd:Hid (∀V,Below w.heap.size w V→Calls Tryz.prog 205 #[.agg #[.int .i64 (q:Int),.pointer (some ⟨bb,0,none⟩)],.agg #[.int .i64 y.kind,.int .i64 y.num,.string y.text,.slice ak y.items.length ck]] V fun e w'=>e=.returned (.int .i64 G)∧Below V.heap.size V w'):=fun V hV=>by
    rw [hG];exact stand_15 q bb H6.out y _ pl pr x ku vu c _ _ _ V (hc.keeps hV) (Lies.keeps hV _ _ _ HK.out) HKt.out HKr.out (LiesX.keeps hV hk.1).lies hk.2 (HSt.out.sub x (by simp [RT.items]))
   have HAh:Hid (∀V,Below w.heap.size w V→Calls Tryz.prog 193 #[.agg #[.int .i64 (q:Int),.pointer (some ⟨bb,0,none⟩)]] V (zbe q pl V)):=fun V hV=>pahead_15 q bb pl pr x ku vu c _ _ _ V (hc.keeps hV)
   have HBh:Hid (∀V,Below w.heap.size w V→Calls Tryz.prog 194 #[.agg #[.int .i64 (q:Int),.pointer (some ⟨bb,0,none⟩)]] V (zbe q pr V)):=fun V hV=>pbehind_15 q bb pl pr x ku vu c _ _ _ V (hc.keeps hV)
   obtain⟨M,hM⟩:∃M,M=l.size:=⟨_,rfl⟩
   have HLl:Hid (∀V,Below w.heap.size w V→Calls Tryz.prog 192 #[.agg #[.int .i64 (q:Int),.pointer pl]] V fun e w'=>e=.returned (.int .i64 (M:Int))∧Below V.heap.size V w'):=fun V hV=>by rw [hM];exact plen_15 q (hl.keeps hV)
   have HNl:Hid (NM TT 16 w l pl):=hl
   have HNr:Hid (NM TT 16 w r pr):=hr
   have HM:Hid (M=l.size):=hM
   have HZn:Hid ((RT.node c l x r).size=l.size+1+r.size):=rfl
   have hsz:n+(l.size+1+r.size)≤65536:=HSt.out.size
   have e1:IntKind.i64.wrap ((M:Int)+1)=((M+1:Nat):Int):=by rw [IntKind.wrap_i64];omega
   have E2:Hid (wrap64 ((n:Int)+((M:Int)+1))=((n+(M+1):Nat):Int)):=by show _=_;first|(unfold wrap64;omega)|(rw [←IntKind.wrap_eq_wrap64,IntKind.wrap_i64];omega)
   have HG:Hid (atK q y x=G):=hG.symm
   have hbw2:=hbw
   clear hc hk hv hl hr hN hN2 hG hM hsz
   go_wp2_with fail
   refine Calls.mono (HL.out _ hbw) ?_
   rintro e w3 ⟨rfl,hg3⟩
   have b0:=zaa hg3 b0;have b1:=zaa hg3 b1;have k0:=zaa hg3 k0;have k1:=zaa hg3 k1;have k2:=zaa hg3 k2;have k3:=zaa hg3 k3
   have hbw:Below w.heap.size w w3:=hbw2.trans (hg3.mono hbw2.size)
   have HS3:Hid (USt w w3 q y (.slice ak y.items.length ck) cn T (.node c l x r) (some ⟨bb,0,none⟩) B n):=HSt.out.keeps hg3
   clear hg3 HL hbw2 HSt fb0 fb1
   go_wp2_with fail
   refine Calls.mono (HSd.out _ hbw) ?_
   rintro e w4 ⟨rfl,hg4⟩
   have b0:=zaa hg4 b0;have b1:=zaa hg4 b1
   have hbw4:Below w.heap.size w w4:=hbw.trans (hg4.mono hbw.size)
   have HS4:Hid (USt w w4 q y (.slice ak y.items.length ck) cn T (.node c l x r) (some ⟨bb,0,none⟩) B n):=HS3.out.keeps hg4
   clear hg4 HSd hbw HS3 k0 k1 k2 k3 hpos
   by_cases g1:0<G
   ·have HT:Hid (n+(M+1)+RT.upTo (atK q y) cn r=T):=by
     show _=_
     rw [←HS4.out.tot]
     show _=n+(if RT.ahead (atK q y) cn x=true then l.size+1+RT.upTo (atK q y) cn r else RT.upTo (atK q y) cn l)
     rw [if_pos (by simp only [RT.ahead,HG.out];simp [g1]),HM.out]
     omega
    clear HG
    go_wp2_with fail
    refine Calls.mono (HAh.out _ hbw4) ?_
    rintro e w5 ⟨rfl,hg5⟩
    have b0:=zaa hg5 b0;have b1:=zaa hg5 b1
    have hbw5:Below w.heap.size w w5:=hbw4.trans (hg5.mono hbw4.size)
    have HS5:Hid (USt w w5 q y (.slice ak y.items.length ck) cn T (.node c l x r) (some ⟨bb,0,none⟩) B n):=HS4.out.keeps hg5
    clear hg5 HS4 hbw4 HAh
    go_wp2_with fail
    refine Calls.mono (HLl.out _ hbw5) ?_
    rintro e w6 ⟨rfl,hg6⟩
    have b0:=zaa hg6 b0;have b1:=zaa hg6 b1
    have hbw6:Below w.heap.size w w6:=hbw5.trans (hg6.mono hbw5.size)
    have HS6:Hid (USt w w6 q y (.slice ak y.items.length ck) cn T (.node c l x r) (some ⟨bb,0,none⟩) B n):=HS5.out.keeps hg6
    clear hg6 HS5 hbw5 HLl
    go_wp2_with fail
    refine Calls.mono (HBh.out _ hbw6) ?_
    rintro e w7 ⟨rfl,hg7⟩
    have HS7:Hid (USt w w7 q y (.slice ak y.items.length ck) cn T (.node c l x r) (some ⟨bb,0,none⟩) B n):=HS6.out.keeps hg7
    obtain⟨b0,b1,fb0,fb1⟩:=HS7.out.box
    have HX:Hid (USt w ((w7.setCells B 0 [.int .i64 (q:Int),.pointer pr]).alloc (.cells #[.int .i64 (q:Int),.pointer pr] 246)) q y (.slice ak y.items.length ck) cn T r pr w7.heap.size (n+(M+1))):=HS7.out.next HNr.out HT.out (fun z hz=>by simp [RT.items,hz]) (by have h8:=HS7.out.size;have:=HZn.out;have:=HM.out;omega)
    clear hg7 HS6 hbw6 HBh
    go_wp2_with fail
    go_roundg r.size
    case measure=>have:=Hz.out;have:=HZn.out;omega
    case rel=>exact⟨r,pr,w7.heap.size,n+(M+1),congrArg (Value.int .i64) E2.out,rfl,rfl,HX⟩
   ·by_cases g2:G=0
    ·subst g2
     cases cn with
     | true=>
      have HT:Hid (n+(M+1)+RT.upTo (atK q y) true r=T):=by
       show _=_
       rw [←HS4.out.tot]
       show _=n+(if RT.ahead (atK q y) true x=true then l.size+1+RT.upTo (atK q y) true r else RT.upTo (atK q y) true l)
       rw [if_pos (by simp only [RT.ahead,HG.out];simp),HM.out]
       omega
      clear HG
      go_wp2_with fail
      refine Calls.mono (HAh.out _ hbw4) ?_
      rintro e w5 ⟨rfl,hg5⟩
      have b0:=zaa hg5 b0;have b1:=zaa hg5 b1
      have hbw5:Below w.heap.size w w5:=hbw4.trans (hg5.mono hbw4.size)
      have HS5:Hid (USt w w5 q y (.slice ak y.items.length ck) true T (.node c l x r) (some ⟨bb,0,none⟩) B n):=HS4.out.keeps hg5
      clear hg5 HS4 hbw4 HAh
      go_wp2_with fail
      refine Calls.mono (HLl.out _ hbw5) ?_
      rintro e w6 ⟨rfl,hg6⟩
      have b0:=zaa hg6 b0;have b1:=zaa hg6 b1
      have hbw6:Below w.heap.size w w6:=hbw5.trans (hg6.mono hbw5.size)
      have HS6:Hid (USt w w6 q y (.slice ak y.items.length ck) true T (.node c l x r) (some ⟨bb,0,none⟩) B n):=HS5.out.keeps hg6
      clear hg6 HS5 hbw5 HLl
      go_wp2_with fail
      refine Calls.mono (HBh.out _ hbw6) ?_
      rintro e w7 ⟨rfl,hg7⟩
      have HS7:Hid (USt w w7 q y (.slice ak y.items.length ck) true T (.node c l x r) (some ⟨bb,0,none⟩) B n):=HS6.out.keeps hg7
      obtain⟨b0,b1,fb0,fb1⟩:=HS7.out.box
      have HX:Hid (USt w ((w7.setCells B 0 [.int .i64 (q:Int),.pointer pr]).alloc (.cells #[.int .i64 (q:Int),.pointer pr] 246)) q y (.slice ak y.items.length ck) true T r pr w7.heap.size (n+(M+1))):=HS7.out.next HNr.out HT.out (fun z hz=>by simp [RT.items,hz]) (by have h8:=HS7.out.size;have:=HZn.out;have:=HM.out;omega)
      clear hg7 HS6 hbw6 HBh
      go_wp2_with fail
      go_roundg r.size
      case measure=>have:=Hz.out;have:=HZn.out;omega
      case rel=>exact⟨r,pr,w7.heap.size,n+(M+1),congrArg (Value.int .i64) E2.out,rfl,rfl,HX⟩
     | false=>
      have HT:Hid (n+RT.upTo (atK q y) false l=T):=by
       show _=_
       rw [←HS4.out.tot]
       show _=n+(if RT.ahead (atK q y) false x=true then l.size+1+RT.upTo (atK q y) false r else RT.upTo (atK q y) false l)
       rw [if_neg (by simp only [RT.ahead,HG.out];simp)]
      clear HG
      go_wp2_with fail
      refine Calls.mono (HAh.out _ hbw4) ?_
      rintro e w7 ⟨rfl,hg7⟩
      have HS7:Hid (USt w w7 q y (.slice ak y.items.length ck) false T (.node c l x r) (some ⟨bb,0,none⟩) B n):=HS4.out.keeps hg7
      obtain⟨b0,b1,fb0,fb1⟩:=HS7.out.box
      have HX:Hid (USt w ((w7.setCells B 0 [.int .i64 (q:Int),.pointer pl]).alloc (.cells #[.int .i64 (q:Int),.pointer pl] 246)) q y (.slice ak y.items.length ck) false T l pl w7.heap.size n):=HS7.out.next HNl.out HT.out (fun z hz=>by simp [RT.items,hz]) (by have h8:=HS7.out.size;have:=HZn.out;omega)
      clear hg7 HS4 hbw4 HAh HBh HLl
      go_wp2_with fail
      go_roundg l.size
      case measure=>have:=Hz.out;have:=HZn.out;omega
      case rel=>exact⟨l,pl,w7.heap.size,n,rfl,rfl,rfl,HX⟩
    ·have g3:G<0:=by omega
     have HT:Hid (n+RT.upTo (atK q y) cn l=T):=by
      show _=_
      rw [←HS4.out.tot]
      show _=n+(if RT.ahead (atK q y) cn x=true then l.size+1+RT.upTo (atK q y) cn r else RT.upTo (atK q y) cn l)
      rw [if_neg (by simp only [RT.ahead,HG.out];simp [g1,g2])]
     clear HG
     go_wp2_with fail
     refine Calls.mono (HAh.out _ hbw4) ?_
     rintro e w7 ⟨rfl,hg7⟩
     have HS7:Hid (USt w w7 q y (.slice ak y.items.length ck) cn T (.node c l x r) (some ⟨bb,0,none⟩) B n):=HS4.out.keeps hg7
     obtain⟨b0,b1,fb0,fb1⟩:=HS7.out.box
     have HX:Hid (USt w ((w7.setCells B 0 [.int .i64 (q:Int),.pointer pl]).alloc (.cells #[.int .i64 (q:Int),.pointer pl] 246)) q y (.slice ak y.items.length ck) cn T l pl w7.heap.size n):=HS7.out.next HNl.out HT.out (fun z hz=>by simp [RT.items,hz]) (by have h8:=HS7.out.size;have:=HZn.out;omega)
     clear hg7 HS4 hbw4 HAh HBh HLl
     go_wp2_with fail
     go_roundg l.size
     case measure=>have:=Hz.out;have:=HZn.out;omega
     case rel=>exact⟨l,pl,w7.heap.size,n,rfl,rfl,rfl,HX⟩
def itemAt (l:List PT) (i:Int):Option PT:=if 0≤i then l[i.toNat]? else none
abbrev pairV (x:PT) (ku vu:Value):Value:=.agg #[.int .i64 x.1.kind,.int .i64 x.1.num,.string x.1.text,ku,.int .i64 x.2.kind,.int .i64 x.2.num,.string x.2.text,vu]
abbrev zeroPV:Value:=.agg #[.int .i64 0,.int .i64 0,.string ⟨#[]⟩,.slice none 0 0,.int .i64 0,.int .i64 0,.string ⟨#[]⟩,.slice none 0 0]
def InPost (o:Option PT) (w:World) (e:Ending) (w':World):Prop:=Below w.heap.size w w'∧((o=none∧e=.returned (.tuple #[zeroPV,.bool false]))∨∃x ku vu,o=some x∧e=.returned (.tuple #[pairV x ku vu,.bool true])∧LiesB w.heap.size 16 w' x.1.items ku∧LiesB w.heap.size 16 w' x.2.items vu)
structure ISt (w wr:World) (q:Nat) (O:Option PT) (s:RT PT) (p:Option Addr) (B j:Nat):Prop where
 box:Bx2 wr B (.int .i64 (q:Int)) (.pointer p)
 res:Bx8 wr w.heap.size (.int .i64 0) (.int .i64 0) (.string ⟨#[]⟩) (.slice none 0 0) (.int .i64 0) (.int .i64 0) (.string ⟨#[]⟩) (.slice none 0 0)
 lo:w.heap.size<B
 nm:NM TT 16 w s p
 at_:RT.nth s j=O
 lt:j<s.size
 sub:∀x∈s.items,zac 16 x.1=true∧zac 16 x.2=true
 size:s.size≤65536
 below:Below w.heap.size w wr
theorem ISt.keeps {w wr wr':World} {q:Nat} {O:Option PT} {s:RT PT} {p:Option Addr} {B j:Nat} (h:ISt w wr q O s p B j) (hb:Below wr.heap.size wr wr'):ISt w wr' q O s p B j:=
 ⟨h.box.keeps hb,h.res.keeps hb,h.lo,h.nm,h.at_,h.lt,h.sub,h.size,h.below.trans (hb.mono h.below.size)⟩
theorem bx8_other {W:World} {n m:Nat} {v0 v1 v2 v3 v4 v5 v6 v7:Value} (h:Bx8 W n v0 v1 v2 v3 v4 v5 v6 v7) (hm:n≠m) (vs:List Value):Bx8 (W.setCells m 0 vs) n v0 v1 v2 v3 v4 v5 v6 v7:=
 ⟨zag (g:=m) hm h.c0,zag (g:=m) hm h.c1,zag (g:=m) hm h.c2,zag (g:=m) hm h.c3,zag (g:=m) hm h.c4,zag (g:=m) hm h.c5,zag (g:=m) hm h.c6,zag (g:=m) hm h.c7,by rw [World.frozen?_setCells];exact h.f0,by rw [World.frozen?_setCells];exact h.f1,by rw [World.frozen?_setCells];exact h.f2,by rw [World.frozen?_setCells];exact h.f3,by rw [World.frozen?_setCells];exact h.f4,by rw [World.frozen?_setCells];exact h.f5,by rw [World.frozen?_setCells];exact h.f6,by rw [World.frozen?_setCells];exact h.f7,by rw [World.cell?_setCells_out m vs 0 W ⟨n,13,none⟩ (fun e _=>absurd e hm)];exact h.top⟩
theorem ISt.next {w wr:World} {q:Nat} {O:Option PT} {s s':RT PT} {p p':Option Addr} {B j j':Nat} (h:ISt w wr q O s p B j) (hn:NM TT 16 w s' p') (ha:RT.nth s' j'=O) (hlt:j'<s'.size) (hs:∀x∈s'.items,x∈s.items) (hz:s'.size≤s.size) :
 ISt w (wr.setCells B 0 [.int .i64 (q:Int),.pointer p']) q O s' p' B j':=
 ⟨h.box.put _ _,bx8_other h.res (by have:=h.lo;omega) _,h.lo,hn,ha,hlt,fun x hx=>h.sub x (hs x hx),by have:=h.size;omega,below_pt15 h.below (by have:=h.lo;omega) _ _⟩
theorem inpl_neg (b q:Nat) (t:RT PT) (i:Int) (w:World) (hm:MC w q t b) (hi:i<0):Calls Tryz.prog 128 #[.pointer (some ⟨b,0,none⟩),.int .i64 i] w (InPost none w):=by
 obtain⟨po,hpo,hn⟩:=hm.top
 have HWh:Hid (∀V,Below w.heap.size w V→Calls Tryz.prog 191 #[.pointer (some ⟨b,0,none⟩)] V (zbe q po V)):=fun V hV=>whole_15 b q po V (zaa hV hm.ord) (zaa hV hpo)
 have HB:Hid (Below w.heap.size w (w.alloc (.cells #[.int .i64 0,.int .i64 0,.string ⟨#[]⟩,.slice none 0 0,.int .i64 0,.int .i64 0,.string ⟨#[]⟩,.slice none 0 0] 108))):=((Grew.refl w).alloc _).below
 have HZ:Hid (Bx8 (w.alloc (.cells #[.int .i64 0,.int .i64 0,.string ⟨#[]⟩,.slice none 0 0,.int .i64 0,.int .i64 0,.string ⟨#[]⟩,.slice none 0 0] 108)) w.heap.size (.int .i64 0) (.int .i64 0) (.string ⟨#[]⟩) (.slice none 0 0) (.int .i64 0) (.int .i64 0) (.string ⟨#[]⟩) (.slice none 0 0)):=zay _ _ _ _ _ _ _ _ _ _
 clear hm hpo hn
 go_enter Tryz.func128,Tryz.ntmps128
 go_wp2_with fail
 refine Calls.mono (HWh.out _ HB.out) ?_
 rintro e w2 ⟨rfl,hg2⟩
 have hb2:Below w.heap.size w w2:=HB.out.trans (hg2.mono HB.out.size)
 have HZ2:Hid (Bx8 w2 w.heap.size (.int .i64 0) (.int .i64 0) (.string ⟨#[]⟩) (.slice none 0 0) (.int .i64 0) (.int .i64 0) (.string ⟨#[]⟩) (.slice none 0 0)):=HZ.out.keeps hg2
 obtain⟨W3,hW3⟩:∃W3,W3=w2.alloc (.cells #[.int .i64 (q:Int),.pointer po] 246):=⟨_,rfl⟩
 have HW3:Hid (W3=w2.alloc (.cells #[.int .i64 (q:Int),.pointer po] 246)):=hW3
 have hal:Below w2.heap.size w2 W3:=by rw [hW3];exact ((Grew.refl w2).alloc _).below
 have HP3:Hid (Bx2 W3 w2.heap.size (.int .i64 (q:Int)) (.pointer po)):=by rw [hW3];exact zaw _ _ _ _
 have hb3:Below w.heap.size w W3:=hb2.trans (hal.mono hb2.size)
 have HZ3:Hid (Bx8 W3 w.heap.size (.int .i64 0) (.int .i64 0) (.string ⟨#[]⟩) (.slice none 0 0) (.int .i64 0) (.int .i64 0) (.string ⟨#[]⟩) (.slice none 0 0)):=HZ2.out.keeps hal
 obtain⟨b0,b1,_,_⟩:=HP3.out
 clear hW3 hal hg2 hb2 HB HZ HZ2 HWh
 go_upto_region 2 with fail
 rw [←HW3.out]
 clear HW3
 obtain⟨y0,y1,y2,y3,y4,y5,y6,y7,f0,f1,f2,f3,f4,f5,f6,f7,_⟩:=HZ3.out
 have Hq:Hid _:=put8_in HZ3.out (.int .i64 0) (.int .i64 0) (.string ⟨#[]⟩) (.slice none 0 0) (.int .i64 0) (.int .i64 0) (.string ⟨#[]⟩) (.slice none 0 0)
 have HE:Hid (InPost none w (.returned (.tuple #[.agg #[.int .i64 0,.int .i64 0,.string ⟨#[]⟩,.slice none 0 0,.int .i64 0,.int .i64 0,.string ⟨#[]⟩,.slice none 0 0],.bool false])) (W3.setCells w.heap.size 0 [.int .i64 0,.int .i64 0,.string ⟨#[]⟩,.slice none 0 0,.int .i64 0,.int .i64 0,.string ⟨#[]⟩,.slice none 0 0])):=⟨za9 hb3 (Nat.le_refl _) _ _ _ _ _ _ _ _,.inl ⟨rfl,rfl⟩⟩
 clear hb3
 go_wp2_with fail
 refine bodyPost_ret (v:=.tuple #[.agg #[.int .i64 0,.int .i64 0,.string ⟨#[]⟩,.slice none 0 0,.int .i64 0,.int .i64 0,.string ⟨#[]⟩,.slice none 0 0],.bool false]) ?_ rfl HE.out
 obtain⟨q0,q1,q2,q3,q4,q5,q6,q7⟩:=Hq.out
 simp only [World.setCells,Nat.zero_add,Nat.reduceAdd] at q0 q1 q2 q3 q4 q5 q6 q7
 simp [results,Tryz.results128,go_sem,q0,q1,q2,q3,q4,q5,q6,q7]
theorem inpl_far (b q:Nat) (t:RT PT) (i:Int) (w:World) (hm:MC w q t b) (hi : ¬i<0∧(t.size:Int)≤i):Calls Tryz.prog 128 #[.pointer (some ⟨b,0,none⟩),.int .i64 i] w (InPost none w):=by
 obtain⟨po,hpo,hn⟩:=hm.top
 have HWh:Hid (∀V,Below w.heap.size w V→Calls Tryz.prog 191 #[.pointer (some ⟨b,0,none⟩)] V (zbe q po V)):=fun V hV=>whole_15 b q po V (zaa hV hm.ord) (zaa hV hpo)
 obtain⟨hi0,hi1⟩:=hi
 obtain⟨N,hN⟩:∃N,N=t.size:=⟨_,rfl⟩
 have HL:Hid (∀V,Below w.heap.size w V→Calls Tryz.prog 192 #[.agg #[.int .i64 (q:Int),.pointer po]] V fun e w'=>e=.returned (.int .i64 (N:Int))∧Below V.heap.size V w'):=fun V hV=>by rw [hN];exact plen_15 q (hn.keeps hV)
 rw [←hN] at hi1
 clear hN
 have HB:Hid (Below w.heap.size w (w.alloc (.cells #[.int .i64 0,.int .i64 0,.string ⟨#[]⟩,.slice none 0 0,.int .i64 0,.int .i64 0,.string ⟨#[]⟩,.slice none 0 0] 108))):=((Grew.refl w).alloc _).below
 have HZ:Hid (Bx8 (w.alloc (.cells #[.int .i64 0,.int .i64 0,.string ⟨#[]⟩,.slice none 0 0,.int .i64 0,.int .i64 0,.string ⟨#[]⟩,.slice none 0 0] 108)) w.heap.size (.int .i64 0) (.int .i64 0) (.string ⟨#[]⟩) (.slice none 0 0) (.int .i64 0) (.int .i64 0) (.string ⟨#[]⟩) (.slice none 0 0)):=zay _ _ _ _ _ _ _ _ _ _
 clear hm hpo hn
 go_enter Tryz.func128,Tryz.ntmps128
 go_wp2_with fail
 refine Calls.mono (HWh.out _ HB.out) ?_
 rintro e w2 ⟨rfl,hg2⟩
 have hb2:Below w.heap.size w w2:=HB.out.trans (hg2.mono HB.out.size)
 have HZ2:Hid (Bx8 w2 w.heap.size (.int .i64 0) (.int .i64 0) (.string ⟨#[]⟩) (.slice none 0 0) (.int .i64 0) (.int .i64 0) (.string ⟨#[]⟩) (.slice none 0 0)):=HZ.out.keeps hg2
 obtain⟨W3,hW3⟩:∃W3,W3=w2.alloc (.cells #[.int .i64 (q:Int),.pointer po] 246):=⟨_,rfl⟩
 have HW3:Hid (W3=w2.alloc (.cells #[.int .i64 (q:Int),.pointer po] 246)):=hW3
 have hal:Below w2.heap.size w2 W3:=by rw [hW3];exact ((Grew.refl w2).alloc _).below
 have HP3:Hid (Bx2 W3 w2.heap.size (.int .i64 (q:Int)) (.pointer po)):=by rw [hW3];exact zaw _ _ _ _
 have hb3:Below w.heap.size w W3:=hb2.trans (hal.mono hb2.size)
 have HZ3:Hid (Bx8 W3 w.heap.size (.int .i64 0) (.int .i64 0) (.string ⟨#[]⟩) (.slice none 0 0) (.int .i64 0) (.int .i64 0) (.string ⟨#[]⟩) (.slice none 0 0)):=HZ2.out.keeps hal
 obtain⟨b0,b1,_,_⟩:=HP3.out
 clear hW3 hal hg2 hb2 HB HZ HZ2 HWh
 go_upto_region 2 with fail
 rw [←HW3.out]
 clear HW3
 go_wp2_with fail
 refine Calls.mono (HL.out _ hb3) ?_
 rintro e w4 ⟨rfl,hg4⟩
 have HZ3:Hid (Bx8 w4 w.heap.size (.int .i64 0) (.int .i64 0) (.string ⟨#[]⟩) (.slice none 0 0) (.int .i64 0) (.int .i64 0) (.string ⟨#[]⟩) (.slice none 0 0)):=HZ3.out.keeps hg4
 have hb3:Below w.heap.size w w4:=hb3.trans (hg4.mono hb3.size)
 clear hg4 HL b0 b1
 obtain⟨y0,y1,y2,y3,y4,y5,y6,y7,f0,f1,f2,f3,f4,f5,f6,f7,_⟩:=HZ3.out
 have Hq:Hid _:=put8_in HZ3.out (.int .i64 0) (.int .i64 0) (.string ⟨#[]⟩) (.slice none 0 0) (.int .i64 0) (.int .i64 0) (.string ⟨#[]⟩) (.slice none 0 0)
 have HE:Hid (InPost none w (.returned (.tuple #[.agg #[.int .i64 0,.int .i64 0,.string ⟨#[]⟩,.slice none 0 0,.int .i64 0,.int .i64 0,.string ⟨#[]⟩,.slice none 0 0],.bool false])) (w4.setCells w.heap.size 0 [.int .i64 0,.int .i64 0,.string ⟨#[]⟩,.slice none 0 0,.int .i64 0,.int .i64 0,.string ⟨#[]⟩,.slice none 0 0])):=⟨za9 hb3 (Nat.le_refl _) _ _ _ _ _ _ _ _,.inl ⟨rfl,rfl⟩⟩
 clear hb3
 go_wp2_with fail
 refine bodyPost_ret (v:=.tuple #[.agg #[.int .i64 0,.int .i64 0,.string ⟨#[]⟩,.slice none 0 0,.int .i64 0,.int .i64 0,.string ⟨#[]⟩,.slice none 0 0],.bool false]) ?_ rfl HE.out
 obtain⟨q0,q1,q2,q3,q4,q5,q6,q7⟩:=Hq.out
 simp only [World.setCells,Nat.zero_add,Nat.reduceAdd] at q0 q1 q2 q3 q4 q5 q6 q7
 simp [results,Tryz.results128,go_sem,q0,q1,q2,q3,q4,q5,q6,q7]
theorem inpl_in (b q j:Nat) (t:RT PT) (w:World) (hm:MC w q t b) (hj:j<t.size):Calls Tryz.prog 128 #[.pointer (some ⟨b,0,none⟩),.int .i64 (j:Int)] w (InPost (RT.nth t j) w):=by
 obtain⟨po,hpo,hn⟩:=hm.top
 have HWh:Hid (∀V,Below w.heap.size w V→Calls Tryz.prog 191 #[.pointer (some ⟨b,0,none⟩)] V (zbe q po V)):=fun V hV=>whole_15 b q po V (zaa hV hm.ord) (zaa hV hpo)
 obtain⟨N,hN⟩:∃N,N=t.size:=⟨_,rfl⟩
 have HL:Hid (∀V,Below w.heap.size w V→Calls Tryz.prog 192 #[.agg #[.int .i64 (q:Int),.pointer po]] V fun e w'=>e=.returned (.int .i64 (N:Int))∧Below V.heap.size V w'):=fun V hV=>by rw [hN];exact plen_15 q (hn.keeps hV)
 have HN:Hid (NM TT 16 w t po):=hn
 have HB:Hid (Below w.heap.size w (w.alloc (.cells #[.int .i64 0,.int .i64 0,.string ⟨#[]⟩,.slice none 0 0,.int .i64 0,.int .i64 0,.string ⟨#[]⟩,.slice none 0 0] 108))):=((Grew.refl w).alloc _).below
 have HZ:Hid (Bx8 (w.alloc (.cells #[.int .i64 0,.int .i64 0,.string ⟨#[]⟩,.slice none 0 0,.int .i64 0,.int .i64 0,.string ⟨#[]⟩,.slice none 0 0] 108)) w.heap.size (.int .i64 0) (.int .i64 0) (.string ⟨#[]⟩) (.slice none 0 0) (.int .i64 0) (.int .i64 0) (.string ⟨#[]⟩) (.slice none 0 0)):=zay _ _ _ _ _ _ _ _ _ _
 obtain⟨O,hO⟩:∃O,O=RT.nth t j:=⟨_,rfl⟩
 have HO:Hid (RT.nth t j=O):=hO.symm
 rw [←hO]
 have HR:Hid (∀x∈t.items,zac 16 x.1=true∧zac 16 x.2=true):=fun x hx=>⟨(hm.right x hx).1.1,(hm.right x hx).2.1⟩
 have HSz:Hid (t.size≤65536):=hm.size
 have HJ:Hid (j<t.size):=hj
 have HNs:Hid (N=t.size):=hN
 have hi0 : ¬(j:Int)<0:=by omega
 have hi1 : ¬(N:Int)≤(j:Int):=by omega
 clear hm hpo hn hO hj hN
 go_enter Tryz.func128,Tryz.ntmps128
 go_wp2_with fail
 refine Calls.mono (HWh.out _ HB.out) ?_
 rintro e w2 ⟨rfl,hg2⟩
 have hb2:Below w.heap.size w w2:=HB.out.trans (hg2.mono HB.out.size)
 have HZ2:Hid (Bx8 w2 w.heap.size (.int .i64 0) (.int .i64 0) (.string ⟨#[]⟩) (.slice none 0 0) (.int .i64 0) (.int .i64 0) (.string ⟨#[]⟩) (.slice none 0 0)):=HZ.out.keeps hg2
 obtain⟨W3,hW3⟩:∃W3,W3=w2.alloc (.cells #[.int .i64 (q:Int),.pointer po] 246):=⟨_,rfl⟩
 have HW3:Hid (W3=w2.alloc (.cells #[.int .i64 (q:Int),.pointer po] 246)):=hW3
 have hal:Below w2.heap.size w2 W3:=by rw [hW3];exact ((Grew.refl w2).alloc _).below
 obtain⟨B,hB⟩:∃B,B=w2.heap.size:=⟨_,rfl⟩
 have HBe:Hid (B=w2.heap.size):=hB
 have HI3:Hid (ISt w W3 q O t po B j):=by
  refine⟨?_,HZ2.out.keeps hal,?_,HN.out,HO.out,HJ.out,HR.out,HSz.out,hb2.trans (hal.mono hb2.size)⟩
  ·rw [hW3,hB];exact zaw _ _ _ _
  ·rw [hB];have h9:=zad HZ2.out.c0;simpa using h9
 obtain⟨b0,b1,_,_⟩:=HI3.out.box
 have hb3:=HI3.out.below
 clear hW3 hal hg2 hb2 hB HB HZ HZ2 HWh HN HO HJ HR HSz
 go_upto_region 2 with fail
 rw [←HW3.out,←HBe.out]
 clear HW3 HBe
 go_wp2_with fail
 refine Calls.mono (HL.out _ hb3) ?_
 rintro e w4 ⟨rfl,hg4⟩
 have HI4:Hid (ISt w w4 q O t po B j):=HI3.out.keeps hg4
 have HJ4:Hid (j<65536):=by have:=HI3.out.size;have:=HI3.out.lt;show _<_;omega
 clear hg4 HL b0 b1 HI3 hb3
 go_wp2_with fail
 generalize decide (N≤j)=D1
 generalize decide ((j:Int)<0)=D0
 go_loopg [1] N (fun z v1 wr=>∃(s:RT PT) (p:Option Addr) (j:Nat),v1=.int .i64 (j:Int)∧Hid (z=s.size)∧Hid (ISt w wr q O s p B j))
 case atStart=>exact⟨t,po,j,rfl,HNs,HI4⟩
 case round=>
  obtain⟨s,p,j,rfl,Hz,HSt⟩:=hrel
  clear HI4 HNs HJ4 hi0 hi1
  cases s with
  | nil=>exact absurd HSt.out.lt (by simp [RT.size])
  | node c l x r=>
   obtain⟨bb,pl,pr,ku,vu,hp,hc,hk,hv,hl,hr⟩:=HSt.out.nm
   subst hp
   obtain⟨b0,b1,_,_⟩:=HSt.out.box
   have hbw:Below w.heap.size w wr:=HSt.out.below
   have HAh:Hid (∀V,Below w.heap.size w V→Calls Tryz.prog 193 #[.agg #[.int .i64 (q:Int),.pointer (some ⟨bb,0,none⟩)]] V (zbe q pl V)):=fun V hV=>pahead_15 q bb pl pr x ku vu c _ _ _ V (hc.keeps hV)
   have HBh:Hid (∀V,Below w.heap.size w V→Calls Tryz.prog 194 #[.agg #[.int .i64 (q:Int),.pointer (some ⟨bb,0,none⟩)]] V (zbe q pr V)):=fun V hV=>pbehind_15 q bb pl pr x ku vu c _ _ _ V (hc.keeps hV)
   have HPr:Hid (∀V,Below w.heap.size w V→Calls Tryz.prog 195 #[.agg #[.int .i64 (q:Int),.pointer (some ⟨bb,0,none⟩)]] V (zba x V)):=fun V hV=>ppair_15 q bb pl pr x ku vu c _ _ _ V (hc.keeps hV) (LiesX.keeps hV hk.1).lies (LiesX.keeps hV hv.1).lies (HSt.out.sub x (by simp [RT.items]))
   obtain⟨M,hM⟩:∃M,M=l.size:=⟨_,rfl⟩
   have HLl:Hid (∀V,Below w.heap.size w V→Calls Tryz.prog 192 #[.agg #[.int .i64 (q:Int),.pointer pl]] V fun e w'=>e=.returned (.int .i64 (M:Int))∧Below V.heap.size V w'):=fun V hV=>by rw [hM];exact plen_15 q (hl.keeps hV)
   have HNl:Hid (NM TT 16 w l pl):=hl
   have HNr:Hid (NM TT 16 w r pr):=hr
   have HM:Hid (M=l.size):=hM
   have HZn:Hid ((RT.node c l x r).size=l.size+1+r.size):=rfl
   have HAt:Hid ((if j<M then RT.nth l j else if M<j then RT.nth r (j-M-1) else some x)=O):=by rw [hM];exact HSt.out.at_
   clear hc hk hv hl hr hM
   go_wp2_with fail
   refine Calls.mono (HAh.out _ hbw) ?_
   rintro e w5 ⟨rfl,hg5⟩
   obtain⟨W6,hW6⟩:∃W6,W6=w5.alloc (.cells #[.int .i64 (q:Int),.pointer pl] 246):=⟨_,rfl⟩
   have HW6:Hid (W6=w5.alloc (.cells #[.int .i64 (q:Int),.pointer pl] 246)):=hW6
   obtain⟨B6,hB6⟩:∃B6,B6=w5.heap.size:=⟨_,rfl⟩
   have HB6:Hid (B6=w5.heap.size):=hB6
   have HP6:Hid (Bx2 W6 B6 (.int .i64 (q:Int)) (.pointer pl)):=by rw [hW6,hB6];exact zaw _ _ _ _
   have hal:Below w5.heap.size w5 W6:=by rw [hW6];exact ((Grew.refl w5).alloc _).below
   have HI6:Hid (ISt w W6 q O (.node c l x r) (some ⟨bb,0,none⟩) B j):=(HSt.out.keeps hg5).keeps hal
   have HNe:Hid (B6≠B):=by have h9:=zad (HSt.out.keeps hg5).box.c0;simp only at h9;show _≠_;omega
   obtain⟨p0,p1,_,_⟩:=HP6.out
   have hb6:=HI6.out.below
   clear hW6 hB6 hal hg5 hbw b0 b1 HSt HAh
   go_upto_region 5 with fail
   rw [←HW6.out,←HB6.out]
   clear HW6 HB6
   go_wp2_with fail
   refine Calls.mono (HLl.out _ hb6) ?_
   rintro e w7 ⟨rfl,hg7⟩
   have HI7:Hid (ISt w w7 q O (.node c l x r) (some ⟨bb,0,none⟩) B j):=HI6.out.keeps hg7
   have HP7:Hid (Bx2 w7 B6 (.int .i64 (q:Int)) (.pointer pl)):=HP6.out.keeps hg7
   obtain⟨b0,b1,fb0,fb1⟩:=HI7.out.box
   obtain⟨p0,p1,_,_⟩:=HP7.out
   have hb7:=HI7.out.below
   have hne:=HNe.out
   have hne2 : ¬B=B6:=fun e=>hne e.symm
   clear hg7 hb6 HI6 HP6 HLl
   by_cases g1:(j:Int)<(M:Int)
   ·have HX:Hid (ISt w (w7.setCells B 0 [.int .i64 (q:Int),.pointer pl]) q O l pl B j):=HI7.out.next HNl.out (by have h9:=HAt.out;rwa [if_pos (by omega)] at h9) (by have:=HM.out;omega) (fun z hz=>by simp [RT.items,hz]) (by have:=HZn.out;omega)
    clear HAt
    go_wp2_with fail
    go_roundg l.size
    case measure=>have:=Hz.out;have:=HZn.out;omega
    case rel=>exact⟨l,pl,j,rfl,rfl,HX⟩
   ·by_cases g2:(M:Int)<(j:Int)
    ·have E1:Hid (wrap64 (wrap64 ((j:Int)-(M:Int))-1)=((j-M-1:Nat):Int)):=by
      have h1:=HI7.out.lt;have h2:=HI7.out.size
      show _=_
      unfold wrap64;omega
     clear p0 p1
     go_wp2_with fail
     refine Calls.mono (HBh.out _ hb7) ?_
     rintro e w8 ⟨rfl,hg8⟩
     have HI8:Hid (ISt w w8 q O (.node c l x r) (some ⟨bb,0,none⟩) B j):=HI7.out.keeps hg8
     obtain⟨b0,b1,fb0,fb1⟩:=HI8.out.box
     have HX:Hid (ISt w (w8.setCells B 0 [.int .i64 (q:Int),.pointer pr]) q O r pr B (j-M-1)):=HI8.out.next HNr.out (by have h9:=HAt.out;rwa [if_neg (by omega),if_pos (by omega)] at h9) (by have:=HI8.out.lt;have:=HM.out;have:=HZn.out;omega) (fun z hz=>by simp [RT.items,hz]) (by have:=HZn.out;omega)
     clear HAt hg8 HI7 hb7 HP7
     go_wp2_with fail
     go_roundg r.size
     case measure=>have:=Hz.out;have:=HZn.out;omega
     case rel=>exact⟨r,pr,j-M-1,congrArg (Value.int .i64) E1.out,rfl,HX⟩
    ·have HOx:Hid (O=some x):=by have h9:=HAt.out;rw [if_neg (by omega),if_neg (by omega)] at h9;exact h9.symm
     clear HAt p0 p1
     go_wp2_with fail
     refine Calls.mono (HPr.out _ hb7) ?_
     rintro e w8 ⟨ku',vu',rfl,hl5,hl6,hg8⟩
     obtain⟨a5,c5,rfl,_⟩:=LiesB.slice hl5
     obtain⟨a6,c6,rfl,_⟩:=LiesB.slice hl6
     have HR8:Hid (Bx8 w8 w.heap.size (.int .i64 0) (.int .i64 0) (.string ⟨#[]⟩) (.slice none 0 0) (.int .i64 0) (.int .i64 0) (.string ⟨#[]⟩) (.slice none 0 0)):=HI7.out.res.keeps hg8
     obtain⟨y0,y1,y2,y3,y4,y5,y6,y7,f0,f1,f2,f3,f4,f5,f6,f7,_⟩:=HR8.out
     have Hq:Hid _:=put8_in HR8.out (.int .i64 x.1.kind) (.int .i64 x.1.num) (.string x.1.text) (.slice a5 x.1.items.length c5) (.int .i64 x.2.kind) (.int .i64 x.2.num) (.string x.2.text) (.slice a6 x.2.items.length c6)
     have hlt7:w.heap.size<w7.heap.size:=by have h9:=zad HI7.out.res.c0;simpa using h9
     have hbz:Below w.heap.size w w8:=hb7.trans (hg8.mono hb7.size)
     have HE:Hid (InPost O w (.returned (.tuple #[.agg #[.int .i64 x.1.kind,.int .i64 x.1.num,.string x.1.text,.slice a5 x.1.items.length c5,.int .i64 x.2.kind,.int .i64 x.2.num,.string x.2.text,.slice a6 x.2.items.length c6],.bool true])) (w8.setCells w.heap.size 0 [.int .i64 x.1.kind,.int .i64 x.1.num,.string x.1.text,.slice a5 x.1.items.length c5,.int .i64 x.2.kind,.int .i64 x.2.num,.string x.2.text,.slice a6 x.2.items.length c6])):=⟨za9 hbz (Nat.le_refl _) _ _ _ _ _ _ _ _,.inr ⟨x,_,_,HOx.out,rfl,LiesB.lower14 hb7.size _ _ _ (LiesB.put8 hlt7 _ hl5),LiesB.lower14 hb7.size _ _ _ (LiesB.put8 hlt7 _ hl6)⟩⟩
     clear hl5 hl6 hg8 hbz hlt7 hb7 HPr HOx fb0 fb1 b0 b1
     go_wp2_with fail
     refine bodyPost_ret (v:=.tuple #[.agg #[.int .i64 x.1.kind,.int .i64 x.1.num,.string x.1.text,.slice a5 x.1.items.length c5,.int .i64 x.2.kind,.int .i64 x.2.num,.string x.2.text,.slice a6 x.2.items.length c6],.bool true]) ?_ rfl HE.out
     obtain⟨q0,q1,q2,q3,q4,q5,q6,q7⟩:=Hq.out
     simp only [World.setCells,Nat.zero_add,Nat.reduceAdd] at q0 q1 q2 q3 q4 q5 q6 q7
     simp [results,Tryz.results128,go_sem,q0,q1,q2,q3,q4,q5,q6,q7]
theorem inpl_15 (b q:Nat) (t:RT PT) (i:Int) (w:World) (hm:MC w q t b):Calls Tryz.prog 128 #[.pointer (some ⟨b,0,none⟩),.int .i64 i] w (InPost (itemAt t.items i) w):=by
 unfold itemAt
 by_cases h0:i<0
 ·rw [if_neg (by omega)];exact inpl_neg b q t i w hm h0
 ·rw [if_pos (by omega),←RT.nth_items]
  by_cases h1:(t.size:Int)≤i
  ·have h9:RT.nth t i.toNat=none:=by
    rw [RT.nth_items,List.getElem?_eq_none_iff,←RT.size_items];omega
   rw [h9];exact inpl_far b q t i w hm ⟨h0,h1⟩
  ·obtain⟨j,rfl⟩:∃j:Nat,i=(j:Int):=⟨i.toNat,by omega⟩
   exact inpl_in b q j t w hm (by omega)
theorem rank15_core (n:Nat) (E:Int) (b:Nat) (y:VT) (ak:Option Addr) (ck:Nat) (w:World) (hc:∀V,Below w.heap.size w V→Calls Tryz.prog 140 #[.pointer (some ⟨b,0,none⟩),.agg #[.int .i64 y.kind,.int .i64 y.num,.string y.text,.slice ak y.items.length ck],.bool false] V fun e w'=>e=.returned (.tuple #[.int .i64 (n:Int),.int .i64 E])∧Below V.heap.size V w'):Calls Tryz.prog 86 #[.pointer (some ⟨b,0,none⟩),.agg #[.int .i64 y.kind,.int .i64 y.num,.string y.text,.slice ak y.items.length ck]] w fun e w'=>e=.returned (.tuple #[.int .i64 (n:Int),.int .i64 E])∧Below w.heap.size w w':=by
 have HU:Hid _:=hc
 have HB:Hid (Below w.heap.size w (w.alloc (.cells #[.int .i64 y.kind,.int .i64 y.num,.string y.text,.slice ak y.items.length ck] 33))):=((Grew.refl w).alloc _).below
 clear hc
 go_enter Tryz.func86,Tryz.ntmps86
 go_wp2_with fail
 refine Calls.mono (HU.out _ HB.out) ?_
 rintro e w2 ⟨rfl,hg2⟩
 have hb2:Below w.heap.size w w2:=HB.out.trans (hg2.mono HB.out.size)
 clear hg2 HU HB
 go_wp2_with fail
 first|(go_ret;exact⟨rfl,hb2⟩)|(go_ret2;exact⟨rfl,hb2⟩)
theorem rank15_wrong (d b:Nat) (y:VT) (yu:Value) (w:World) (hy:Lies d w y.items yu) (ht:y.text.size≤9223372036854775807) (hr:zac d y=false):Calls Tryz.prog 86 #[.pointer (some ⟨b,0,none⟩),.agg #[.int .i64 y.kind,.int .i64 y.num,.string y.text,yu]] w fun e w'=>e=.returned (.tuple #[.int .i64 0,.int .i64 3])∧Below w.heap.size w w':=by
 obtain⟨ak,ck,rfl,_⟩:=Lies.slice hy
 exact rank15_core 0 3 b y ak ck w fun V hV=>upto_wrong d b false y _ V (Lies.keeps hV _ _ _ hy) ht hr
theorem rank15_right (d b q:Nat) (t:RT PT) (y:VT) (yu:Value) (w:World) (hm:MC w q t b) (hy:Lies d w y.items yu) (ht:y.text.size≤9223372036854775807) (hr:zac d y=true):Calls Tryz.prog 86 #[.pointer (some ⟨b,0,none⟩),.agg #[.int .i64 y.kind,.int .i64 y.num,.string y.text,yu]] w fun e w'=>e=.returned (.tuple #[.int .i64 (RT.upTo (atK q y) false t:Nat),.int .i64 0])∧Below w.heap.size w w':=by
 obtain⟨ak,ck,rfl,_⟩:=Lies.slice hy
 exact rank15_core _ 0 b y ak ck w fun V hV=>upto_right d b q false t y _ V (hm.keeps hV) (Lies.keeps hV _ _ _ hy) ht hr
theorem first_15 (b q:Nat) (t:RT PT) (w:World) (hm:MC w q t b):Calls Tryz.prog 73 #[.pointer (some ⟨b,0,none⟩)] w (InPost (itemAt t.items 0) w):=by
 obtain⟨O,hO⟩:∃O,O=itemAt t.items 0:=⟨_,rfl⟩
 have HU:Hid (∀V,Below w.heap.size w V→Calls Tryz.prog 128 #[.pointer (some ⟨b,0,none⟩),.int .i64 0] V (InPost O V)):=fun V hV=>by rw [hO];exact inpl_15 b q t _ V (hm.keeps hV)
 rw [←hO]
 obtain⟨W0,hW0⟩:∃W0,W0=w.alloc (.cells #[.int .i64 0,.int .i64 0,.string ⟨#[]⟩,.slice none 0 0,.int .i64 0,.int .i64 0,.string ⟨#[]⟩,.slice none 0 0] 108):=⟨_,rfl⟩
 have HW0:Hid (W0=w.alloc (.cells #[.int .i64 0,.int .i64 0,.string ⟨#[]⟩,.slice none 0 0,.int .i64 0,.int .i64 0,.string ⟨#[]⟩,.slice none 0 0] 108)):=hW0
 have hb0:Below w.heap.size w W0:=by rw [hW0];exact ((Grew.refl w).alloc _).below
 have HS0:Hid (w.heap.size<W0.heap.size):=by rw [hW0];show _<_;simp
 have HZ0:Hid (Bx8 W0 w.heap.size (.int .i64 0) (.int .i64 0) (.string ⟨#[]⟩) (.slice none 0 0) (.int .i64 0) (.int .i64 0) (.string ⟨#[]⟩) (.slice none 0 0)):=by rw [hW0];exact zay _ _ _ _ _ _ _ _ _ _
 clear hW0 hO hm
 go_enter Tryz.func73,Tryz.ntmps73
 go_upto_region 1 with fail
 rw [←HW0.out]
 clear HW0
 go_wp2_with fail
 refine Calls.mono (HU.out _ hb0) ?_
 rintro e w2 ⟨hg2,hcase⟩
 have HZ2:Hid (Bx8 w2 w.heap.size (.int .i64 0) (.int .i64 0) (.string ⟨#[]⟩) (.slice none 0 0) (.int .i64 0) (.int .i64 0) (.string ⟨#[]⟩) (.slice none 0 0)):=HZ0.out.keeps hg2
 have hb2:Below w.heap.size w w2:=hb0.trans (hg2.mono hb0.size)
 obtain⟨y0,y1,y2,y3,y4,y5,y6,y7,f0,f1,f2,f3,f4,f5,f6,f7,_⟩:=HZ2.out
 clear hg2 HU HZ0
 rcases hcase with ⟨ho,rfl⟩|⟨x,ku,vu,ho,rfl,hl5,hl6⟩
 ·have Hq:Hid _:=put8_in HZ2.out (.int .i64 0) (.int .i64 0) (.string ⟨#[]⟩) (.slice none 0 0) (.int .i64 0) (.int .i64 0) (.string ⟨#[]⟩) (.slice none 0 0)
  have HE:Hid (InPost O w (.returned (.tuple #[.agg #[.int .i64 0,.int .i64 0,.string ⟨#[]⟩,.slice none 0 0,.int .i64 0,.int .i64 0,.string ⟨#[]⟩,.slice none 0 0],.bool false])) (w2.setCells w.heap.size 0 [.int .i64 0,.int .i64 0,.string ⟨#[]⟩,.slice none 0 0,.int .i64 0,.int .i64 0,.string ⟨#[]⟩,.slice none 0 0])):=⟨za9 hb2 (Nat.le_refl _) _ _ _ _ _ _ _ _,.inl ⟨ho,rfl⟩⟩
  clear ho hb0 hb2
  go_wp2_with fail
  refine bodyPost_ret (v:=.tuple #[.agg #[.int .i64 0,.int .i64 0,.string ⟨#[]⟩,.slice none 0 0,.int .i64 0,.int .i64 0,.string ⟨#[]⟩,.slice none 0 0],.bool false]) ?_ rfl HE.out
  obtain⟨q0,q1,q2,q3,q4,q5,q6,q7⟩:=Hq.out
  simp only [World.setCells,Nat.zero_add,Nat.reduceAdd] at q0 q1 q2 q3 q4 q5 q6 q7
  simp [results,Tryz.results73,go_sem,q0,q1,q2,q3,q4,q5,q6,q7]
 ·obtain⟨a5,c5,rfl,_⟩:=LiesB.slice hl5
  obtain⟨a6,c6,rfl,_⟩:=LiesB.slice hl6
  have Hq:Hid _:=put8_in HZ2.out (.int .i64 x.1.kind) (.int .i64 x.1.num) (.string x.1.text) (.slice a5 x.1.items.length c5) (.int .i64 x.2.kind) (.int .i64 x.2.num) (.string x.2.text) (.slice a6 x.2.items.length c6)
  have HE:Hid (InPost O w (.returned (.tuple #[.agg #[.int .i64 x.1.kind,.int .i64 x.1.num,.string x.1.text,.slice a5 x.1.items.length c5,.int .i64 x.2.kind,.int .i64 x.2.num,.string x.2.text,.slice a6 x.2.items.length c6],.bool true])) (w2.setCells w.heap.size 0 [.int .i64 x.1.kind,.int .i64 x.1.num,.string x.1.text,.slice a5 x.1.items.length c5,.int .i64 x.2.kind,.int .i64 x.2.num,.string x.2.text,.slice a6 x.2.items.length c6])):=⟨za9 hb2 (Nat.le_refl _) _ _ _ _ _ _ _ _,.inr ⟨x,_,_,ho,rfl,LiesB.lower14 hb0.size _ _ _ (LiesB.put8 HS0.out _ hl5),LiesB.lower14 hb0.size _ _ _ (LiesB.put8 HS0.out _ hl6)⟩⟩
  clear ho hb0 hb2 hl5 hl6
  go_wp2_with fail
  refine bodyPost_ret (v:=.tuple #[.agg #[.int .i64 x.1.kind,.int .i64 x.1.num,.string x.1.text,.slice a5 x.1.items.length c5,.int .i64 x.2.kind,.int .i64 x.2.num,.string x.2.text,.slice a6 x.2.items.length c6],.bool true]) ?_ rfl HE.out
  obtain⟨q0,q1,q2,q3,q4,q5,q6,q7⟩:=Hq.out
  simp only [World.setCells,Nat.zero_add,Nat.reduceAdd] at q0 q1 q2 q3 q4 q5 q6 q7
  simp [results,Tryz.results73,go_sem,q0,q1,q2,q3,q4,q5,q6,q7]
end Go.Proofs.YtlnecfjnffdciabGreat
