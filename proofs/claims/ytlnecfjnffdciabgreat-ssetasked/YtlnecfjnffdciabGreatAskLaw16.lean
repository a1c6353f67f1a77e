import Derived.Test.YtlnecfjnffdciabGreatRBtw16
namespace Go.Proofs.YtlnecfjnffdciabGreat
open Go.RowKit Go.Shelf
set_option maxRecDepth 100000 in
set_option maxHeartbeats 8000000 in
theorem sat_16 {w:World} {q:Nat} {l:List PT} {s:Nat} (h:SC w q l s) (i:Int):Calls Tryz.prog 28 #[.pointer (some ⟨s,0,none⟩),.int .i64 i] w (MbPost (zal l i) 5 w):=by
 obtain⟨b,t,hs,hm,rfl,_⟩:=h
 have HF:Hid (∀V,Below w.heap.size w V→Calls Tryz.prog 85 #[.pointer (some ⟨b,0,none⟩),.int .i64 i] V (AtPost15 (zal t.items i) V)):=fun V hV=>rat_15 b q t i V (hm.keeps hV)
 obtain⟨W0,hW0⟩:∃W0,W0=w.alloc (.cells #[.int .i64 0,.int .i64 0,.string ⟨#[]⟩,.slice none 0 0] 33):=⟨_,rfl⟩
 have HW0:Hid (W0=w.alloc (.cells #[.int .i64 0,.int .i64 0,.string ⟨#[]⟩,.slice none 0 0] 33)):=hW0
 have hb1:Below w.heap.size w W0:=by rw [hW0];exact ((Grew.refl w).alloc _).below
 have HX:Hid (Bx W0 w.heap.size zeroT (.slice none 0 0)):=by rw [hW0];exact zag w zeroT _
 have HSz:Hid (W0.heap.size=w.heap.size+1):=by rw [hW0];exact World.size_alloc _ _
 have hs1:=zaa hb1 hs
 clear hm hs hW0
 generalize zal t.items i=O at *
 go_enter Tryz.func28,Tryz.ntmps28
 go_upto_region 1 with fail
 rw [←HW0.out]
 clear HW0
 go_wp2_with fail
 refine (sown_16 _ _).mono ?_
 rintro e w1 ⟨rfl,hw⟩
 obtain rfl:W0=w1:=hw.symm
 have HFc:=show Hid _ from HF.out W0 hb1
 clear HF
 go_wp2_with fail
 refine Calls.mono HFc.out ?_
 rintro e w2 ⟨hg2,⟨ho,rfl⟩|⟨x,ku,vu,ho,rfl,hl1,hl2⟩⟩
 ·have HX2:Hid _:=HX.out.keeps hg2
  have hb2:Below w.heap.size w w2:=hb1.trans (hg2.mono hb1.size)
  have HO:Hid (O=none):=ho
  clear hg2 HFc HX ho hs1 hb1
  obtain⟨W3,hW3⟩:∃W3,W3=w2.alloc (.cells #[.int .i64 0,.int .i64 0,.string ⟨#[]⟩,.slice none 0 0,.int .i64 0,.int .i64 0,.string ⟨#[]⟩,.slice none 0 0] 108):=⟨_,rfl⟩
  have HW3:Hid (W3=w2.alloc (.cells #[.int .i64 0,.int .i64 0,.string ⟨#[]⟩,.slice none 0 0,.int .i64 0,.int .i64 0,.string ⟨#[]⟩,.slice none 0 0] 108)):=hW3
  have hg3:Below w2.heap.size w2 W3:=by rw [hW3];exact ((Grew.refl w2).alloc _).below
  have p0:W3.cell? ⟨w2.heap.size,0,none⟩=some (.int .i64 0):=by rw [hW3];simp
  have p1:W3.cell? ⟨w2.heap.size,1,none⟩=some (.int .i64 0):=by rw [hW3];simp
  have p2:W3.cell? ⟨w2.heap.size,2,none⟩=some (.string ⟨#[]⟩):=by rw [hW3];simp
  have p3:W3.cell? ⟨w2.heap.size,3,none⟩=some (.slice none 0 0):=by rw [hW3];simp
  have HK3:Hid (Bx W3 w.heap.size zeroT (.slice none 0 0)):=HX2.out.keeps hg3
  have hb3:Below w.heap.size w W3:=hb2.trans (hg3.mono hb2.size)
  clear hW3 hg3 hb2 HX2
  go_upto_region 2 with fail
  rw [←HW3.out]
  clear HW3
  obtain⟨y0,y1,y2,y3,z0,z1,z2,z3⟩:=HK3.out
  have Hbx:Hid (Bx (W3.setCells w.heap.size 0 (encP (zeroT,.slice none 0 0))) w.heap.size zeroT (.slice none 0 0)):=HK3.out.put (zeroT,.slice none 0 0)
  have HT:Hid (MbPost O 5 w (.returned (.tuple #[.agg #[.int .i64 0,.int .i64 0,.string ⟨#[]⟩,.slice none 0 0],.int .i64 5])) (W3.setCells w.heap.size 0 (encP (zeroT,.slice none 0 0)))):=by
   have Hbl:Below w.heap.size w (W3.setCells w.heap.size 0 (encP (zeroT,.slice none 0 0))):=zas hb3 (by omega) (zeroT,.slice none 0 0)
   rw [HO.out]
   exact tells_zero _ _ Hbl
  clear hb3 HO
  go_wp2_with fail
  refine bodyPost_ret (v:=(.tuple #[.agg #[.int .i64 0,.int .i64 0,.string ⟨#[]⟩,.slice none 0 0],.int .i64 5])) ?_ rfl HT.out
  obtain⟨q0,q1,q2,q3,_,_,_,_⟩:=Hbx.out
  simp only [encP,World.setCells,Nat.zero_add,Nat.reduceAdd] at q0 q1 q2 q3
  simp [results,Tryz.results28,go_sem,q0,q1,q2,q3]
 ·obtain⟨a1,c1,rfl,_⟩:=LiesB.slice hl1
  obtain⟨a2,c2,rfl,_⟩:=LiesB.slice hl2
  have HX2:Hid _:=HX.out.keeps hg2
  have hb2:Below w.heap.size w w2:=hb1.trans (hg2.mono hb1.size)
  have HO:Hid (O=some x):=ho
  have HL:Hid (LiesB W0.heap.size 16 w2 x.1.items (.slice a1 x.1.items.length c1)):=hl1
  clear hg2 HFc HX ho hs1 hb1 hl1 hl2
  obtain⟨W3,hW3⟩:∃W3,W3=w2.alloc (.cells #[.int .i64 x.1.kind,.int .i64 x.1.num,.string x.1.text,.slice a1 x.1.items.length c1,.int .i64 x.2.kind,.int .i64 x.2.num,.string x.2.text,.slice a2 x.2.items.length c2] 108):=⟨_,rfl⟩
  have HW3:Hid (W3=w2.alloc (.cells #[.int .i64 x.1.kind,.int .i64 x.1.num,.string x.1.text,.slice a1 x.1.items.length c1,.int .i64 x.2.kind,.int .i64 x.2.num,.string x.2.text,.slice a2 x.2.items.length c2] 108)):=hW3
  have hg3:Below w2.heap.size w2 W3:=by rw [hW3];exact ((Grew.refl w2).alloc _).below
  have p0:W3.cell? ⟨w2.heap.size,0,none⟩=some (.int .i64 x.1.kind):=by rw [hW3];simp
  have p1:W3.cell? ⟨w2.heap.size,1,none⟩=some (.int .i64 x.1.num):=by rw [hW3];simp
  have p2:W3.cell? ⟨w2.heap.size,2,none⟩=some (.string x.1.text):=by rw [hW3];simp
  have p3:W3.cell? ⟨w2.heap.size,3,none⟩=some (.slice a1 x.1.items.length c1):=by rw [hW3];simp
  have HK3:Hid (Bx W3 w.heap.size zeroT (.slice none 0 0)):=HX2.out.keeps hg3
  have hb3:Below w.heap.size w W3:=hb2.trans (hg3.mono hb2.size)
  have HL3:Hid (LiesX (fun b=>b≠w.heap.size) 16 W3 x.1.items (.slice a1 x.1.items.length c1)):=(LiesX.of_b (LiesB.keepsB hg3 HL.out)).mono (fun b h=>by have:=HSz.out;omega)
  clear hW3 hg3 hb2 HX2 HL
  go_upto_region 2 with fail
  rw [←HW3.out]
  clear HW3
  obtain⟨y0,y1,y2,y3,z0,z1,z2,z3⟩:=HK3.out
  have Hbx:Hid (Bx (W3.setCells w.heap.size 0 (encP (x.1,.slice a1 x.1.items.length c1))) w.heap.size x.1 (.slice a1 x.1.items.length c1)):=HK3.out.put (x.1,.slice a1 x.1.items.length c1)
  have HT:Hid (MbPost O 5 w (.returned (.tuple #[.agg #[.int .i64 x.1.kind,.int .i64 x.1.num,.string x.1.text,.slice a1 x.1.items.length c1],.int .i64 0])) (W3.setCells w.heap.size 0 (encP (x.1,.slice a1 x.1.items.length c1)))):=by
   have Hbl:Below w.heap.size w (W3.setCells w.heap.size 0 (encP (x.1,.slice a1 x.1.items.length c1))):=zas hb3 (by omega) (x.1,.slice a1 x.1.items.length c1)
   rw [HO.out]
   exact⟨_,rfl,(LiesX.set (g:=w.heap.size) (fun h=>h rfl) HL3.out).lies,Hbl⟩
  clear hb3 HO HL3
  go_wp2_with fail
  refine bodyPost_ret (v:=(.tuple #[.agg #[.int .i64 x.1.kind,.int .i64 x.1.num,.string x.1.text,.slice a1 x.1.items.length c1],.int .i64 0])) ?_ rfl HT.out
  obtain⟨q0,q1,q2,q3,_,_,_,_⟩:=Hbx.out
  simp only [encP,World.setCells,Nat.zero_add,Nat.reduceAdd] at q0 q1 q2 q3
  simp [results,Tryz.results28,go_sem,q0,q1,q2,q3]
end Go.Proofs.YtlnecfjnffdciabGreat

namespace Go.Proofs.YtlnecfjnffdciabGreat
open Go.RowKit Go.Shelf
def pO (o:Option PT):PT:=o.getD (zeroT,zeroT)
theorem keyO_p (o:Option PT):keyO o=(pO o).1:=by cases o <;> rfl
def NePost (o:Option PT) (E:Int) (w:World) (e:Ending) (w':World):Prop:=Below w.heap.size w w'∧∃a1 c1 a2 c2,e=.returned (.tuple #[pairV (pO o) (.slice a1 (pO o).1.items.length c1) (.slice a2 (pO o).2.items.length c2),.bool o.isSome,.int .i64 E])∧LiesX (fun b=>w.heap.size≤b) 16 w' (pO o).1.items (.slice a1 (pO o).1.items.length c1)
theorem nx_mk {O:Option PT} {P:PT} {E:Int} {w Z:World} {a1:Option Addr} {c1:Nat} (hP:P=pO O) (w0:World) (hl:LiesX (fun b=>w.heap.size≤b) 16 Z P.1.items (.slice a1 P.1.items.length c1)) (hb:Below w.heap.size w Z):zbe w0 O E w (.returned (.tuple #[.agg #[.int .i64 P.1.kind,.int .i64 P.1.num,.string P.1.text,.slice a1 P.1.items.length c1],.bool O.isSome,.int .i64 E])) Z:=by
 subst hP
 refine⟨a1,c1,by rw [keyO_p],?_,hb⟩
 rw [keyO_p]
 exact hl.mono (fun b h=>.inr h)
def NxCut (O:Option PT) (E:Int) (w:World) (s7 s8 s9:Value) (wx:World):Prop:=∃n P a1 c1,s7=.pointer (some ⟨n,0,none⟩)∧s8=.bool O.isSome∧s9=.int .i64 E∧Hid (P=pO O∧Below w.heap.size w wx)∧Hid (wx.cell? ⟨n,0,none⟩=some (.int .i64 P.1.kind)∧wx.cell? ⟨n,1,none⟩=some (.int .i64 P.1.num)∧wx.cell? ⟨n,2,none⟩=some (.string P.1.text)∧wx.cell? ⟨n,3,none⟩=some (.slice a1 P.1.items.length c1))∧Hid (Bx wx (w.heap.size+1) zeroT (.slice none 0 0))∧Hid (LiesX (fun b=>w.heap.size≤b∧b≠w.heap.size+1) 16 wx P.1.items (.slice a1 P.1.items.length c1))
theorem nxcut_B {O:Option PT} {E:Int} {w w2:World} {P:PT} {a1 a2:Option Addr} {c1 c2:Nat} {T:TypeId} (hP:P=pO O) (hb:Below w.heap.size w w2) (hk:Bx w2 (w.heap.size+1) zeroT (.slice none 0 0)) (hl:LiesX (fun b=>w.heap.size≤b∧b≠w.heap.size+1) 16 w2 P.1.items (.slice a1 P.1.items.length c1)):NxCut O E w (.pointer (some ⟨w2.heap.size,0,none⟩)) (.bool O.isSome) (.int .i64 E) (w2.alloc (.cells #[.int .i64 P.1.kind,.int .i64 P.1.num,.string P.1.text,.slice a1 P.1.items.length c1,.int .i64 P.2.kind,.int .i64 P.2.num,.string P.2.text,.slice a2 P.2.items.length c2] T)):=
 ⟨w2.heap.size,P,a1,c1,rfl,rfl,rfl,⟨hP,hb.alloc hb.size _⟩,⟨by simp,by simp,by simp,by simp⟩,hk.keeps ((Grew.refl _).alloc _).below,hl.keeps ((Grew.refl _).alloc _).below⟩
theorem nxcut_A {O:Option PT} {E:Int} {w w2:World} {P:PT} {a1 a2:Option Addr} {c1 c2 n:Nat} {v0 v1 v2 v3 v4 v5 v6 v7:Value} (hP:P=pO O) (hb:Below w.heap.size w w2) (hn:w.heap.size≤n) (hn2 : ¬w.heap.size+1=n) (h8:Bx8 w2 n v0 v1 v2 v3 v4 v5 v6 v7) (hk:Bx w2 (w.heap.size+1) zeroT (.slice none 0 0)) (hl:LiesX (fun b=>b≠n∧w.heap.size≤b∧b≠w.heap.size+1) 16 w2 P.1.items (.slice a1 P.1.items.length c1)):NxCut O E w (.pointer (some ⟨n,0,none⟩)) (.bool O.isSome) (.int .i64 E) ((((((((w2.setCell ⟨n,0,none⟩ (.int .i64 P.1.kind)).setCell ⟨n,1,none⟩ (.int .i64 P.1.num)).setCell ⟨n,2,none⟩ (.string P.1.text)).setCell ⟨n,3,none⟩ (.slice a1 P.1.items.length c1)).setCell ⟨n,4,none⟩ (.int .i64 P.2.kind)).setCell ⟨n,5,none⟩ (.int .i64 P.2.num)).setCell ⟨n,6,none⟩ (.string P.2.text)).setCell ⟨n,7,none⟩ (.slice a2 P.2.items.length c2)):=by
 show NxCut O E w _ _ _ (w2.setCells n 0 [.int .i64 P.1.kind,.int .i64 P.1.num,.string P.1.text,.slice a1 P.1.items.length c1,.int .i64 P.2.kind,.int .i64 P.2.num,.string P.2.text,.slice a2 P.2.items.length c2])
 exact⟨n,P,a1,c1,rfl,rfl,rfl,⟨hP,zam hb hn _ _ _ _ _ _ _ _⟩,(fun h=>⟨h.1,h.2.1,h.2.2.1,h.2.2.2.1⟩) (zaz h8 _ _ _ _ _ _ _ _),hk.other hn2 [.int .i64 P.1.kind,.int .i64 P.1.num,.string P.1.text,.slice a1 P.1.items.length c1,.int .i64 P.2.kind,.int .i64 P.2.num,.string P.2.text,.slice a2 P.2.items.length c2],(LiesX.set (g:=n) (fun h=>h.1 rfl) hl).mono (fun b h=>h.2)⟩
theorem NearPost.ne {o:Option PT} {E:Int} {w:World} {e:Ending} {w':World} (h:NearPost o E w e w'):NePost o E w e w':=by
 obtain⟨hb,⟨rfl,rfl⟩|⟨x,ku,vu,rfl,rfl,rfl,hl1,hl2⟩⟩:=h
 ·exact⟨hb,none,0,none,0,rfl,liesX_nil _ _ _ _ _⟩
 ·obtain⟨a1,c1,rfl,_⟩:=LiesB.slice hl1
  obtain⟨a2,c2,rfl,_⟩:=LiesB.slice hl2
  exact⟨hb,a1,c1,a2,c2,rfl,LiesX.of_b hl1⟩
set_option maxRecDepth 100000 in
set_option maxHeartbeats 16000000 in
theorem snext_16 (w0:World) {w:World} {q:Nat} {l:List PT} {s:Nat} (h:SC w q l s) (d:Nat) (y:VT) (yu:Value) (hy:Lies d w y.items yu) (hyt:y.text.size≤9223372036854775807):Calls Tryz.prog 32 #[.pointer (some ⟨s,0,none⟩),.agg #[.int .i64 y.kind,.int .i64 y.num,.string y.text,yu]] w (zbe w0 (nextO d q y l) (errOf (zab d y)) w):=by
 obtain⟨b,t,hs,hm,rfl,_⟩:=h
 obtain⟨ay,cy,rfl,_⟩:=Lies.slice hy
 have HA:Hid (∀V,Below w.heap.size w V→Calls Tryz.prog 88 #[.pointer (some ⟨b,0,none⟩),.agg #[.int .i64 y.kind,.int .i64 y.num,.string y.text,.slice ay y.items.length cy]] V (NePost (nextO d q y t.items) (errOf (zab d y)) V)):=fun V hV=>by
  cases hr:zab d y with
  | false=>
   have h9:=higher15_wrong d b y _ V (Lies.keeps hV _ _ _ hy) hyt hr
   have e:nextO d q y t.items=none:=by unfold nextO;rw [if_neg (by rw [hr];simp)]
   rw [e]
   exact h9.mono fun _ _ h=>h.ne
  | true=>
   have h9:=higher15_right d b q t y _ V (hm.keeps hV) (Lies.keeps hV _ _ _ hy) hyt hr
   rw [RT.upTo_items (atK q y) true t (RT.Rises.falls (byK_cmp q) hm.rises (y,y))] at h9
   have e:nextO d q y t.items=zal t.items (((t.items.filter (RT.ahead (atK q y) true)).length:Nat):Int):=by unfold nextO;rw [if_pos hr];rfl
   rw [e]
   exact h9.mono fun _ _ h=>h.ne
 obtain⟨W0,hW0⟩:∃W0,W0=(w.alloc (.cells #[.int .i64 y.kind,.int .i64 y.num,.string y.text,.slice ay y.items.length cy] 33)).alloc (.cells #[.int .i64 0,.int .i64 0,.string ⟨#[]⟩,.slice none 0 0] 33):=⟨_,rfl⟩
 have HW0:Hid (W0=(w.alloc (.cells #[.int .i64 y.kind,.int .i64 y.num,.string y.text,.slice ay y.items.length cy] 33)).alloc (.cells #[.int .i64 0,.int .i64 0,.string ⟨#[]⟩,.slice none 0 0] 33)):=hW0
 have hb0:Below w.heap.size w W0:=by rw [hW0];exact (((Grew.refl w).alloc _).alloc _).below
 have hyb:Bx W0 w.heap.size y (.slice ay y.items.length cy):=by rw [hW0];exact (zag _ _ _).keeps ((Grew.refl _).alloc _).below
 have HK0:Hid (Bx W0 (w.heap.size+1) zeroT (.slice none 0 0)):=by
  rw [hW0]
  have h9:=zag (w.alloc (.cells #[.int .i64 y.kind,.int .i64 y.num,.string y.text,.slice ay y.items.length cy] 33)) zeroT (.slice none 0 0)
  rwa [World.size_alloc] at h9
 have hsz:W0.heap.size=w.heap.size+2:=by rw [hW0];simp
 have HSz:Hid (W0.heap.size=w.heap.size+2):=hsz
 obtain⟨k0,k1,k2,k3,_,_,_,_⟩:=hyb
 have hs0:=zaa hb0 hs
 have n0:=zad hs
 simp only at n0
 clear hW0 hs hm hy hyt
 obtain⟨O,hO⟩:∃O,O=nextO d q y t.items:=⟨_,rfl⟩
 rw [←hO] at HA ⊢
 clear hO
 generalize errOf (zab d y)=E at *
 have hbA:Below W0.heap.size W0 (W0.alloc (.cells #[.int .i64 0,.int .i64 0,.string ⟨#[]⟩,.slice none 0 0,.int .i64 0,.int .i64 0,.string ⟨#[]⟩,.slice none 0 0] 108)):=((Grew.refl W0).alloc _).below
 have HBA:Hid (Below W0.heap.size W0 (W0.alloc (.cells #[.int .i64 0,.int .i64 0,.string ⟨#[]⟩,.slice none 0 0,.int .i64 0,.int .i64 0,.string ⟨#[]⟩,.slice none 0 0] 108)).drew):=hbA.drew
 have HBd:Hid (Below W0.heap.size W0 W0.drew):=(Below.refl _ _).drew
 have HXA:Hid (Bx8 (W0.alloc (.cells #[.int .i64 0,.int .i64 0,.string ⟨#[]⟩,.slice none 0 0,.int .i64 0,.int .i64 0,.string ⟨#[]⟩,.slice none 0 0] 108)).drew W0.heap.size (.int .i64 0) (.int .i64 0) (.string ⟨#[]⟩) (.slice none 0 0) (.int .i64 0) (.int .i64 0) (.string ⟨#[]⟩) (.slice none 0 0)):=(zan W0 108 _ _ _ _ _ _ _ _).keeps (Below.refl _ _).drew
 have HB0:Hid (Below w.heap.size w W0):=hb0
 have HKp:Hid (∀(n:Nat) (v0 v1 v2 v3 v4 v5 v6 v7:Value) (V:World),W0.heap.size≤n→(fun w'=>w'.cell? ⟨s,0,none⟩=some (.pointer (some ⟨b,0,none⟩))∧w'.cell? ⟨w.heap.size,0,none⟩=some (.int .i64 y.kind)∧w'.cell? ⟨w.heap.size,1,none⟩=some (.int .i64 y.num)∧w'.cell? ⟨w.heap.size,2,none⟩=some (.string y.text)∧w'.cell? ⟨w.heap.size,3,none⟩=some (.slice ay y.items.length cy)) V→(fun w'=>w'.cell? ⟨s,0,none⟩=some (.pointer (some ⟨b,0,none⟩))∧w'.cell? ⟨w.heap.size,0,none⟩=some (.int .i64 y.kind)∧w'.cell? ⟨w.heap.size,1,none⟩=some (.int .i64 y.num)∧w'.cell? ⟨w.heap.size,2,none⟩=some (.string y.text)∧w'.cell? ⟨w.heap.size,3,none⟩=some (.slice ay y.items.length cy)) ((((((((V.setCell ⟨n,0,none⟩ v0).setCell ⟨n,1,none⟩ v1).setCell ⟨n,2,none⟩ v2).setCell ⟨n,3,none⟩ v3).setCell ⟨n,4,none⟩ v4).setCell ⟨n,5,none⟩ v5).setCell ⟨n,6,none⟩ v6).setCell ⟨n,7,none⟩ v7)):=fun n v0 v1 v2 v3 v4 v5 v6 v7 V hn h=>
  ⟨zaq (by simp only;omega) h.1,zaq (by simp only;omega) h.2.1,zaq (by simp only;omega) h.2.2.1,zaq (by simp only;omega) h.2.2.2.1,zaq (by simp only;omega) h.2.2.2.2⟩
 have n1 : ¬s=W0.heap.size:=by omega
 have n2 : ¬w.heap.size=W0.heap.size:=by omega
 have n3 : ¬w.heap.size+1=W0.heap.size:=by omega
 clear hbA hb0 hsz
 go_enter Tryz.func32,Tryz.ntmps32
 go_upto_region 1 with fail
 rw [←HW0.out]
 clear HW0
 go_cut [7,8,9] from 10 to 25 (fun s7 s8 s9 wx=>NxCut O E w s7 s8 s9 wx)
 case first=>
  go_region_held3 (fun w'=>w'.cell? ⟨s,0,none⟩=some (.pointer (some ⟨b,0,none⟩))∧w'.cell? ⟨w.heap.size,0,none⟩=some (.int .i64 y.kind)∧w'.cell? ⟨w.heap.size,1,none⟩=some (.int .i64 y.num)∧w'.cell? ⟨w.heap.size,2,none⟩=some (.string y.text)∧w'.cell? ⟨w.heap.size,3,none⟩=some (.slice ay y.items.length cy)) (first|go_keep|(exact HKp.out _ _ _ _ _ _ _ _ _ _ (Nat.le_refl _) (by assumption))|(exact HKp.out _ _ _ _ _ _ _ _ _ _ (by assumption) (by assumption)))
   (first
    | (go_at_call 74;(with_reducible refine Calls.mono (sown_16 _ _) ?_);rintro e wo ⟨rfl,hwo⟩;subst hwo)
    | (go_at_call 88;(with_reducible refine Calls.mono (HA.out _ (HB0.out.trans (Below.mono ?_ HB0.out.size))) ?_);(first|exact HBd.out|exact HBA.out);rintro e w2 ⟨hg2',a1,c1,a2,c2,rfl,hl2⟩;have hg2:Below W0.heap.size W0 w2:=(by first|exact HBd.out.trans hg2'|exact HBA.out.trans (hg2'.mono HBA.out.size));have hs0:=zaa hg2 hs0;have k0:=zaa hg2 k0;have k1:=zaa hg2 k1;have k2:=zaa hg2 k2;have k3:=zaa hg2 k3;have hw2s:W0.heap.size≤w2.heap.size:=hg2.size;(first|(have hz:=Bx8.keeps HXA.out hg2';have HYY:Hid _:=hz;obtain⟨z0,z1,z2,z3,z4,z5,z6,z7,y0,y1,y2,y3,y4,y5,y6,y7,_⟩:=hz)|skip);have HG2:Hid (Below w.heap.size w w2):=HB0.out.trans (hg2.mono HB0.out.size);have n4 : ¬(w.heap.size+1=w2.heap.size):=(by have:=HSz.out;omega);have n5:w.heap.size+1<w2.heap.size:=(by have:=HSz.out;omega);have HK2:Hid (Bx w2 (w.heap.size+1) zeroT (.slice none 0 0)):=HK0.out.keeps hg2;obtain⟨P,hP⟩:∃P,P=pO O:=⟨_,rfl⟩;rw [←hP] at hl2 ⊢;have HLr:Hid (LiesX (fun b=>w.heap.size≤b∧b≠w.heap.size+1) 16 w2 P.1.items (.slice a1 P.1.items.length c1)):=hl2.mono (fun b h=>(by have:=HSz.out;first|(have h':W0.heap.size≤b:=h;omega)|(have h':(W0.alloc (.cells #[.int .i64 0,.int .i64 0,.string ⟨#[]⟩,.slice none 0 0,.int .i64 0,.int .i64 0,.string ⟨#[]⟩,.slice none 0 0] 108)).heap.size≤b:=h;rw [World.size_alloc] at h';omega)));(first|(have HLa:Hid (LiesX (fun b=>b≠W0.heap.size∧w.heap.size≤b∧b≠w.heap.size+1) 16 w2 P.1.items (.slice a1 P.1.items.length c1)):=hl2.mono (fun b h=>(by have:=HSz.out;have h':(W0.alloc (.cells #[.int .i64 0,.int .i64 0,.string ⟨#[]⟩,.slice none 0 0,.int .i64 0,.int .i64 0,.string ⟨#[]⟩,.slice none 0 0] 108)).heap.size≤b:=h;rw [World.size_alloc] at h';omega)))|skip);have HPp:Hid (P=pO O):=hP;clear hg2' hl2 hg2 hP))
  all_goals go_wp2_with fail
  ·go_meet
   exact nxcut_B HPp.out HG2.out HK2.out HLr.out
  ·go_meet
   exact nxcut_A HPp.out HG2.out (by have:=HSz.out;omega) n3 HYY.out HK2.out HLa.out
  ·go_meet
   exact nxcut_A HPp.out HG2.out (by have:=HSz.out;omega) n3 HYY.out HK2.out HLa.out
 case rest=>
  obtain⟨n,P,a1,c1,rfl,rfl,rfl,HPb,HC4,HK2,HLr⟩:=hcut
  obtain⟨p0,p1,p2,p3⟩:=HC4.out
  obtain⟨r0,r1,r2,r3,f0,f1,f2,f3⟩:=HK2.out
  have HQA:Hid (Bx (wc.setCells (w.heap.size+1) 0 (encP (P.1,.slice a1 P.1.items.length c1))) (w.heap.size+1) P.1 (.slice a1 P.1.items.length c1)):=HK2.out.put (P.1,.slice a1 P.1.items.length c1)
  have HFA:Hid (zbe w0 O E w (.returned (.tuple #[.agg #[.int .i64 P.1.kind,.int .i64 P.1.num,.string P.1.text,.slice a1 P.1.items.length c1],.bool O.isSome,.int .i64 E])) (wc.setCells (w.heap.size+1) 0 (encP (P.1,.slice a1 P.1.items.length c1)))):=nx_mk HPb.out.1 w0 ((LiesX.set (g:=w.heap.size+1) (fun h=>h.2 rfl) HLr.out).mono (fun b h=>h.1)) (zas HPb.out.2 (by omega) (P.1,.slice a1 P.1.items.length c1))
  go_wp2_with fail
  refine bodyPost_ret (v:=.tuple #[.agg #[.int .i64 P.1.kind,.int .i64 P.1.num,.string P.1.text,.slice a1 P.1.items.length c1],.bool O.isSome,.int .i64 E]) ?_ rfl HFA.out
  obtain⟨q0,q1,q2,q3,_,_,_,_⟩:=HQA.out
  simp only [encP,World.setCells,Nat.zero_add,Nat.reduceAdd] at q0 q1 q2 q3
  simp [results,Tryz.results32,go_sem,q0,q1,q2,q3]
set_option maxRecDepth 100000 in
set_option maxHeartbeats 16000000 in
theorem sahd_16 (w0:World) {w:World} {q:Nat} {l:List PT} {s:Nat} (h:SC w q l s) (d:Nat) (y:VT) (yu:Value) (hy:Lies d w y.items yu) (hyt:y.text.size≤9223372036854775807):Calls Tryz.prog 34 #[.pointer (some ⟨s,0,none⟩),.agg #[.int .i64 y.kind,.int .i64 y.num,.string y.text,yu]] w (zbe w0 (zbb d q y l) (errOf (zab d y)) w):=by
 obtain⟨b,t,hs,hm,rfl,_⟩:=h
 obtain⟨ay,cy,rfl,_⟩:=Lies.slice hy
 have HA:Hid (∀V,Below w.heap.size w V→Calls Tryz.prog 89 #[.pointer (some ⟨b,0,none⟩),.agg #[.int .i64 y.kind,.int .i64 y.num,.string y.text,.slice ay y.items.length cy]] V (NePost (zbb d q y t.items) (errOf (zab d y)) V)):=fun V hV=>by
  cases hr:zab d y with
  | false=>
   have h9:=lower15_wrong d b y _ V (Lies.keeps hV _ _ _ hy) hyt hr
   have e:zbb d q y t.items=none:=by unfold zbb;rw [if_neg (by rw [hr];simp)]
   rw [e]
   exact h9.mono fun _ _ h=>h.ne
  | true=>
   have h9:=lower15_right d b q t y _ V (hm.keeps hV) (Lies.keeps hV _ _ _ hy) hyt hr
   rw [RT.upTo_items (atK q y) false t (RT.Rises.falls (byK_cmp q) hm.rises (y,y))] at h9
   have e:zbb d q y t.items=zal t.items ((((t.items.filter (RT.ahead (atK q y) false)).length:Nat):Int)-1):=by unfold zbb;rw [if_pos hr];rfl
   rw [e]
   exact h9.mono fun _ _ h=>h.ne
 obtain⟨W0,hW0⟩:∃W0,W0=(w.alloc (.cells #[.int .i64 y.kind,.int .i64 y.num,.string y.text,.slice ay y.items.length cy] 33)).alloc (.cells #[.int .i64 0,.int .i64 0,.string ⟨#[]⟩,.slice none 0 0] 33):=⟨_,rfl⟩
 have HW0:Hid (W0=(w.alloc (.cells #[.int .i64 y.kind,.int .i64 y.num,.string y.text,.slice ay y.items.length cy] 33)).alloc (.cells #[.int .i64 0,.int .i64 0,.string ⟨#[]⟩,.slice none 0 0] 33)):=hW0
 have hb0:Below w.heap.size w W0:=by rw [hW0];exact (((Grew.refl w).alloc _).alloc _).below
 have hyb:Bx W0 w.heap.size y (.slice ay y.items.length cy):=by rw [hW0];exact (zag _ _ _).keeps ((Grew.refl _).alloc _).below
 have HK0:Hid (Bx W0 (w.heap.size+1) zeroT (.slice none 0 0)):=by
  rw [hW0]
  have h9:=zag (w.alloc (.cells #[.int .i64 y.kind,.int .i64 y.num,.string y.text,.slice ay y.items.length cy] 33)) zeroT (.slice none 0 0)
  rwa [World.size_alloc] at h9
 have hsz:W0.heap.size=w.heap.size+2:=by rw [hW0];simp
 have HSz:Hid (W0.heap.size=w.heap.size+2):=hsz
 obtain⟨k0,k1,k2,k3,_,_,_,_⟩:=hyb
 have hs0:=zaa hb0 hs
 have n0:=zad hs
 simp only at n0
 clear hW0 hs hm hy hyt
 obtain⟨O,hO⟩:∃O,O=zbb d q y t.items:=⟨_,rfl⟩
 rw [←hO] at HA ⊢
 clear hO
 generalize errOf (zab d y)=E at *
 have hbA:Below W0.heap.size W0 (W0.alloc (.cells #[.int .i64 0,.int .i64 0,.string ⟨#[]⟩,.slice none 0 0,.int .i64 0,.int .i64 0,.string ⟨#[]⟩,.slice none 0 0] 108)):=((Grew.refl W0).alloc _).below
 have HBA:Hid (Below W0.heap.size W0 (W0.alloc (.cells #[.int .i64 0,.int .i64 0,.string ⟨#[]⟩,.slice none 0 0,.int .i64 0,.int .i64 0,.string ⟨#[]⟩,.slice none 0 0] 108)).drew):=hbA.drew
 have HBd:Hid (Below W0.heap.size W0 W0.drew):=(Below.refl _ _).drew
 have HXA:Hid (Bx8 (W0.alloc (.cells #[.int .i64 0,.int .i64 0,.string ⟨#[]⟩,.slice none 0 0,.int .i64 0,.int .i64 0,.string ⟨#[]⟩,.slice none 0 0] 108)).drew W0.heap.size (.int .i64 0) (.int .i64 0) (.string ⟨#[]⟩) (.slice none 0 0) (.int .i64 0) (.int .i64 0) (.string ⟨#[]⟩) (.slice none 0 0)):=(zan W0 108 _ _ _ _ _ _ _ _).keeps (Below.refl _ _).drew
 have HB0:Hid (Below w.heap.size w W0):=hb0
 have HKp:Hid (∀(n:Nat) (v0 v1 v2 v3 v4 v5 v6 v7:Value) (V:World),W0.heap.size≤n→(fun w'=>w'.cell? ⟨s,0,none⟩=some (.pointer (some ⟨b,0,none⟩))∧w'.cell? ⟨w.heap.size,0,none⟩=some (.int .i64 y.kind)∧w'.cell? ⟨w.heap.size,1,none⟩=some (.int .i64 y.num)∧w'.cell? ⟨w.heap.size,2,none⟩=some (.string y.text)∧w'.cell? ⟨w.heap.size,3,none⟩=some (.slice ay y.items.length cy)) V→(fun w'=>w'.cell? ⟨s,0,none⟩=some (.pointer (some ⟨b,0,none⟩))∧w'.cell? ⟨w.heap.size,0,none⟩=some (.int .i64 y.kind)∧w'.cell? ⟨w.heap.size,1,none⟩=some (.int .i64 y.num)∧w'.cell? ⟨w.heap.size,2,none⟩=some (.string y.text)∧w'.cell? ⟨w.heap.size,3,none⟩=some (.slice ay y.items.length cy)) ((((((((V.setCell ⟨n,0,none⟩ v0).setCell ⟨n,1,none⟩ v1).setCell ⟨n,2,none⟩ v2).setCell ⟨n,3,none⟩ v3).setCell ⟨n,4,none⟩ v4).setCell ⟨n,5,none⟩ v5).setCell ⟨n,6,none⟩ v6).setCell ⟨n,7,none⟩ v7)):=fun n v0 v1 v2 v3 v4 v5 v6 v7 V hn h=>
  ⟨zaq (by simp only;omega) h.1,zaq (by simp only;omega) h.2.1,zaq (by simp only;omega) h.2.2.1,zaq (by simp only;omega) h.2.2.2.1,zaq (by simp only;omega) h.2.2.2.2⟩
 have n1 : ¬s=W0.heap.size:=by omega
 have n2 : ¬w.heap.size=W0.heap.size:=by omega
 have n3 : ¬w.heap.size+1=W0.heap.size:=by omega
 clear hbA hb0 hsz
 go_enter Tryz.func34,Tryz.ntmps34
 go_upto_region 1 with fail
 rw [←HW0.out]
 clear HW0
 go_cut [7,8,9] from 10 to 25 (fun s7 s8 s9 wx=>NxCut O E w s7 s8 s9 wx)
 case first=>
  go_region_held3 (fun w'=>w'.cell? ⟨s,0,none⟩=some (.pointer (some ⟨b,0,none⟩))∧w'.cell? ⟨w.heap.size,0,none⟩=some (.int .i64 y.kind)∧w'.cell? ⟨w.heap.size,1,none⟩=some (.int .i64 y.num)∧w'.cell? ⟨w.heap.size,2,none⟩=some (.string y.text)∧w'.cell? ⟨w.heap.size,3,none⟩=some (.slice ay y.items.length cy)) (first|go_keep|(exact HKp.out _ _ _ _ _ _ _ _ _ _ (Nat.le_refl _) (by assumption))|(exact HKp.out _ _ _ _ _ _ _ _ _ _ (by assumption) (by assumption)))
   (first
    | (go_at_call 74;(with_reducible refine Calls.mono (sown_16 _ _) ?_);rintro e wo ⟨rfl,hwo⟩;subst hwo)
    | (go_at_call 89;(with_reducible refine Calls.mono (HA.out _ (HB0.out.trans (Below.mono ?_ HB0.out.size))) ?_);(first|exact HBd.out|exact HBA.out);rintro e w2 ⟨hg2',a1,c1,a2,c2,rfl,hl2⟩;have hg2:Below W0.heap.size W0 w2:=(by first|exact HBd.out.trans hg2'|exact HBA.out.trans (hg2'.mono HBA.out.size));have hs0:=zaa hg2 hs0;have k0:=zaa hg2 k0;have k1:=zaa hg2 k1;have k2:=zaa hg2 k2;have k3:=zaa hg2 k3;have hw2s:W0.heap.size≤w2.heap.size:=hg2.size;(first|(have hz:=Bx8.keeps HXA.out hg2';have HYY:Hid _:=hz;obtain⟨z0,z1,z2,z3,z4,z5,z6,z7,y0,y1,y2,y3,y4,y5,y6,y7,_⟩:=hz)|skip);have HG2:Hid (Below w.heap.size w w2):=HB0.out.trans (hg2.mono HB0.out.size);have n4 : ¬(w.heap.size+1=w2.heap.size):=(by have:=HSz.out;omega);have n5:w.heap.size+1<w2.heap.size:=(by have:=HSz.out;omega);have HK2:Hid (Bx w2 (w.heap.size+1) zeroT (.slice none 0 0)):=HK0.out.keeps hg2;obtain⟨P,hP⟩:∃P,P=pO O:=⟨_,rfl⟩;rw [←hP] at hl2 ⊢;have HLr:Hid (LiesX (fun b=>w.heap.size≤b∧b≠w.heap.size+1) 16 w2 P.1.items (.slice a1 P.1.items.length c1)):=hl2.mono (fun b h=>(by have:=HSz.out;first|(have h':W0.heap.size≤b:=h;omega)|(have h':(W0.alloc (.cells #[.int .i64 0,.int .i64 0,.string ⟨#[]⟩,.slice none 0 0,.int .i64 0,.int .i64 0,.string ⟨#[]⟩,.slice none 0 0] 108)).heap.size≤b:=h;rw [World.size_alloc] at h';omega)));(first|(have HLa:Hid (LiesX (fun b=>b≠W0.heap.size∧w.heap.size≤b∧b≠w.heap.size+1) 16 w2 P.1.items (.slice a1 P.1.items.length c1)):=hl2.mono (fun b h=>(by have:=HSz.out;have h':(W0.alloc (.cells #[.int .i64 0,.int .i64 0,.string ⟨#[]⟩,.slice none 0 0,.int .i64 0,.int .i64 0,.string ⟨#[]⟩,.slice none 0 0] 108)).heap.size≤b:=h;rw [World.size_alloc] at h';omega)))|skip);have HPp:Hid (P=pO O):=hP;clear hg2' hl2 hg2 hP))
  all_goals go_wp2_with fail
  ·go_meet
   exact nxcut_B HPp.out HG2.out HK2.out HLr.out
  ·go_meet
   exact nxcut_A HPp.out HG2.out (by have:=HSz.out;omega) n3 HYY.out HK2.out HLa.out
  ·go_meet
   exact nxcut_A HPp.out HG2.out (by have:=HSz.out;omega) n3 HYY.out HK2.out HLa.out
 case rest=>
  obtain⟨n,P,a1,c1,rfl,rfl,rfl,HPb,HC4,HK2,HLr⟩:=hcut
  obtain⟨p0,p1,p2,p3⟩:=HC4.out
  obtain⟨r0,r1,r2,r3,f0,f1,f2,f3⟩:=HK2.out
  have HQA:Hid (Bx (wc.setCells (w.heap.size+1) 0 (encP (P.1,.slice a1 P.1.items.length c1))) (w.heap.size+1) P.1 (.slice a1 P.1.items.length c1)):=HK2.out.put (P.1,.slice a1 P.1.items.length c1)
  have HFA:Hid (zbe w0 O E w (.returned (.tuple #[.agg #[.int .i64 P.1.kind,.int .i64 P.1.num,.string P.1.text,.slice a1 P.1.items.length c1],.bool O.isSome,.int .i64 E])) (wc.setCells (w.heap.size+1) 0 (encP (P.1,.slice a1 P.1.items.length c1)))):=nx_mk HPb.out.1 w0 ((LiesX.set (g:=w.heap.size+1) (fun h=>h.2 rfl) HLr.out).mono (fun b h=>h.1)) (zas HPb.out.2 (by omega) (P.1,.slice a1 P.1.items.length c1))
  go_wp2_with fail
  refine bodyPost_ret (v:=.tuple #[.agg #[.int .i64 P.1.kind,.int .i64 P.1.num,.string P.1.text,.slice a1 P.1.items.length c1],.bool O.isSome,.int .i64 E]) ?_ rfl HFA.out
  obtain⟨q0,q1,q2,q3,_,_,_,_⟩:=HQA.out
  simp only [encP,World.setCells,Nat.zero_add,Nat.reduceAdd] at q0 q1 q2 q3
  simp [results,Tryz.results34,go_sem,q0,q1,q2,q3]
end Go.Proofs.YtlnecfjnffdciabGreat

namespace Go.Proofs.YtlnecfjnffdciabGreat
open Go.RowKit Go.Shelf
set_option maxRecDepth 100000 in
set_option maxHeartbeats 4000000 in
theorem sheightC_16 {w:World} {H b s:Nat} (hb:w.cell? ⟨s,0,none⟩=some (.pointer (some ⟨b,0,none⟩))) (hc:Calls Tryz.prog 120 #[.pointer (some ⟨b,0,none⟩)] w fun e w'=>e=.returned (.int .i64 (H:Nat))∧Below w.heap.size w w'):Calls Tryz.prog 68 #[.pointer (some ⟨s,0,none⟩)] w fun e w'=>e=.returned (.int .i64 (H:Nat))∧Below w.heap.size w w':=by
 have HL:Hid _:=hc
 clear hc
 go_enter Tryz.func68,Tryz.ntmps68
 go_wp2_with fail
 refine (sown_16 _ _).mono ?_
 rintro e w1 ⟨rfl,hw⟩
 obtain rfl:w=w1:=hw.symm
 go_wp2_with fail
 refine Calls.mono HL.out ?_
 rintro e w2 ⟨rfl,hg⟩
 go_wp2_with fail
 go_ret
 exact⟨rfl,hg⟩
theorem sheightF_16 {w:World} {q:Nat} {l:List PT} {s:Nat} (h:SC w q l s):∃H:Nat,(∀j,l.length<2^j→H≤2*j)∧∀V,Below w.heap.size w V→Calls Tryz.prog 68 #[.pointer (some ⟨s,0,none⟩)] V fun e w'=>e=.returned (.int .i64 (H:Nat))∧Below V.heap.size V w':=by
 obtain⟨b,t,hb,hm,hi,_⟩:=h
 exact⟨t.high,fun j hj=>flat_high hm.well hm.black (by rw [RT.size_items,hi];exact hj),fun V hV=>sheightC_16 (zaa hV hb) (mheight_14 (hm.keeps hV))⟩
set_option maxRecDepth 100000 in
set_option maxHeartbeats 16000000 in
theorem same_16 {w:World} {q:Nat} {l:List PT} {s c:Nat} (h:SC w q l s) (hd:DS w q l c):Calls Tryz.prog 12 #[.pointer (some ⟨s,0,none⟩),.pointer (some ⟨c,0,none⟩)] w fun e w'=>e=.returned (.bool true)∧Below w.heap.size w w':=by
 obtain⟨m,qs,a9,c9,k0,k1,_,hqt,_,hdm⟩:=hd.row
 have hz:l.length≤65536:=hdm.size
 obtain⟨N,hN⟩:∃N,N=l.length:=⟨_,rfl⟩
 have HIt:Hid (Calls Tryz.prog 64 #[.pointer (some ⟨c,0,none⟩)] w (ItPost w.heap.size (l.map (·.1)) w)):=ritems_16 hd
 have HO:Hid (∀V,Below w.heap.size w V→Calls Tryz.prog 65 #[.pointer (some ⟨s,0,none⟩)] V fun e w'=>e=.returned (.int .i64 (q:Int))∧w'=V):=fun V hV=>sorder_16 (h.keeps hV)
 have HL:Hid (∀V,Below w.heap.size w V→Calls Tryz.prog 66 #[.pointer (some ⟨s,0,none⟩)] V fun e w'=>e=.returned (.int .i64 (N:Int))∧Below V.heap.size V w'):=fun V hV=>by
  have:=slen_16 (h.keeps hV)
  rwa [←hN] at this
 have HI:Hid (∀V,Below w.heap.size w V→Calls Tryz.prog 46 #[.pointer (some ⟨s,0,none⟩)] V (ItPost V.heap.size (l.map (·.1)) V)):=fun V hV=>sitems_16 (h.keeps hV)
 have HG:Hid (∀V,Below w.heap.size w V→Calls Tryz.prog 67 #[.pointer (some ⟨s,0,none⟩),.int .i64 ((N:Int)+1)] V (ItPost V.heap.size (l.map (·.1)) V)):=fun V hV=>by
  have:=sgoneM_16 (h.keeps hV) (N+1) (by omega) (by omega)
  rw [List.take_of_length_le (by rw [List.length_map];omega)] at this
  rwa [show ((N+1:Nat):Int)=(N:Int)+1 by omega] at this
 obtain⟨H,hH,hHc⟩:=sheightF_16 h
 have HH:Hid (∀V,Below w.heap.size w V→Calls Tryz.prog 68 #[.pointer (some ⟨s,0,none⟩)] V fun e w'=>e=.returned (.int .i64 (H:Nat))∧Below V.heap.size V w'):=hHc
 have HHj:Hid (∀j,N<2^j→H≤2*j):=by rw [hN];exact hH
 have HM:Hid (∀V,Calls Tryz.prog 69 #[.int .i64 (N:Nat)] V (MostPost N V)):=fun V=>most_any N V (by omega)
 have HS:Hid (∀V ps u ps2 u2,ps.map (·.1)=l.map (·.1)→ps2.map (·.1)=l.map (·.1)→SlP 0 16 V ps u→SlP 0 16 V ps2 u2→Calls Tryz.prog 47 #[u,u2] V fun e w'=>e=.returned (.bool true)∧Below V.heap.size V w'):=fun V ps u ps2 u2 h1 h2 h3 h4=>by
  have k3:=h3.lies
  have k4:=h4.lies
  rw [h1] at k3
  rw [h2] at k4
  exact values_same 16 (l.map (·.1)) u u2 V k3 k4 (by rw [List.length_map];exact hz)
 have hwr:IntKind.i64.wrap ((N:Int)+1)=(N:Int)+1:=by rw [IntKind.wrap_i64];omega
 have HN:Hid (N=(l.map (·.1)).length):=by rw [List.length_map];exact hN
 clear h hd hqt hdm hz hN hH hHc
 generalize l.map (·.1)=ks at *
 go_enter Tryz.func12,Tryz.ntmps12
 go_wp2_with fail
 refine Calls.mono HIt.out ?_
 rintro e w1 ⟨hbc,ps0,v0,rfl,hm0,hs0⟩
 have hp0:ps0.length=N:=by have:=congrArg List.length hm0;rw [List.length_map] at this;rw [this,HN.out]
 obtain⟨a0,c0,rfl,_⟩:=hs0.slice
 rw [hp0] at hs0 ⊢
 have HSs:Hid (∀V ps u,Below w1.heap.size w1 V→ps.map (·.1)=ks→SlP 0 16 V ps u→Calls Tryz.prog 47 #[u,.slice a0 N c0] V fun e w'=>e=.returned (.bool true)∧Below V.heap.size V w'):=fun V ps u hV h1 h2=>HS.out V ps u ps0 _ h1 hm0 h2 ((hs0.mono (Nat.zero_le _)).keeps hV)
 have k0:=zaa hbc k0
 have k1:=zaa hbc k1
 have hbx:Below w1.heap.size w1 w1:=Below.refl _ _
 have HB1:Hid (Below w.heap.size w w1):=hbc
 clear hm0 hs0 hp0 HIt HS hbc
 go_wp2_with fail
 go_region_held3 (fun w'=>w'.cell? ⟨c,0,none⟩=some (.pointer (some ⟨m,0,none⟩))∧w'.cell? ⟨m,0,none⟩=some (.int .i64 (q:Int))) (go_keep)
  (first
   | (go_at_call 65;(with_reducible refine Calls.mono (HO.out _ (HB1.out.trans ((hbx.trans ((Below.refl _ _).drew.mono hbx.size)).mono HB1.out.size))) ?_);rintro e w3 ⟨rfl,hw⟩;subst hw)
   | (go_at_call 66;(with_reducible refine Calls.mono (HL.out _ (HB1.out.trans ((hbx.trans ((Below.refl _ _).drew.mono hbx.size)).mono HB1.out.size))) ?_);rintro e w4 ⟨rfl,hg⟩;replace hbx:=hbx.trans ((Below.drew (Below.refl _ _)).trans (hg.mono hbx.size));have k0:=zaa hg k0;have k1:=zaa hg k1;clear hg)
   | (go_at_call 46;(with_reducible refine Calls.mono (HI.out _ (HB1.out.trans (hbx.mono HB1.out.size))) ?_);rintro e w5 ⟨hg,ps5,u5,rfl,hq5,hs5⟩;obtain⟨a5,c5,rfl,_⟩:=hs5.slice;replace hbx:=hbx.trans (hg.mono hbx.size);have HS5:Hid _:=HSs.out _ ps5 _ hbx hq5 (hs5.mono (Nat.zero_le _));clear hs5 hq5;have k0:=zaa hg k0;have k1:=zaa hg k1;clear hg)
   | (go_at_call 47;refine Calls.mono HS7.out ?_;rintro e w8 ⟨rfl,hg⟩;replace hbx:=hbx.trans (hg.mono hbx.size);have k0:=zaa hg k0;have k1:=zaa hg k1;clear hg)
   | (go_at_call 47;refine Calls.mono HS5.out ?_;rintro e w6 ⟨rfl,hg⟩;replace hbx:=hbx.trans (hg.mono hbx.size);have k0:=zaa hg k0;have k1:=zaa hg k1;clear hg)
   | (go_at_call 67;(with_reducible refine Calls.mono (HG.out _ (HB1.out.trans (hbx.mono HB1.out.size))) ?_);rintro e w7 ⟨hg,ps7,u7,rfl,hq7,hs7⟩;obtain⟨a7,c7,rfl,_⟩:=hs7.slice;replace hbx:=hbx.trans (hg.mono hbx.size);have HS7:Hid _:=HSs.out _ ps7 _ hbx hq7 (hs7.mono (Nat.zero_le _));clear hs7 hq7;have k0:=zaa hg k0;have k1:=zaa hg k1;clear hg)
   | (go_at_call 68;(with_reducible refine Calls.mono (HH.out _ (HB1.out.trans (hbx.mono HB1.out.size))) ?_);rintro e w9 ⟨rfl,hg⟩;replace hbx:=hbx.trans (hg.mono hbx.size);have k0:=zaa hg k0;have k1:=zaa hg k1;clear hg)
   | (go_at_call 69;refine Calls.mono (HM.out _) ?_;rintro e wm ⟨⟨j,rfl,_,hj⟩,hw⟩;subst hw;have hle0:(H:Int)≤((2*j:Nat):Int):=(by have:=HHj.out j hj;omega);clear hj;obtain⟨J,hJ⟩:∃J,J=2*j:=⟨_,rfl⟩;rw [←hJ] at hle0 ⊢;clear hJ))
 all_goals (first|(go_ret;exact⟨rfl,HB1.out.trans (hbx.mono HB1.out.size)⟩)|(go_wp2_with fail;go_ret;exact⟨rfl,HB1.out.trans (hbx.mono HB1.out.size)⟩))
end Go.Proofs.YtlnecfjnffdciabGreat

namespace Go.Proofs.YtlnecfjnffdciabGreat
open Go.RowKit Go.Shelf
abbrev nw16 (n:Int):VT:=⟨2,n,⟨#[]⟩,[]⟩
theorem three_16 (x y z:Int) (b cap:Nat) (w:World) (h0:w.cell? ⟨b,0,none⟩=some (.int .i64 x)) (h1:w.cell? ⟨b,1,none⟩=some (.int .i64 y)) (h2:w.cell? ⟨b,2,none⟩=some (.int .i64 z)) :
 Calls Tryz.prog 62 #[.slice (some ⟨b,0,none⟩) 3 cap] w fun e w'=>∃a c,e=.returned (.slice a 3 c)∧Lies 17 w' [nw16 x,nw16 y,nw16 z] (.slice a 3 c)∧Below w.heap.size w w':=by
 refine (ints_any b [x,y,z] cap w (by simp) (fun i hi=>?_)).mono ?_
 ·match i,hi with
  | 0,_=>exact h0
  | 1,_=>exact h1
  | 2,_=>exact h2
 rintro e w' ⟨v,rfl,hown,hb⟩
 have hown2:w'.ownsRow w.heap.size 33 4 v 3 ([(nw16 x,Value.slice none 0 0),(nw16 y,Value.slice none 0 0),(nw16 z,Value.slice none 0 0)].flatMap encP):=hown
 have hl:=own_liesX (X:=fun _=>True) (d:=16) hown2 rfl (fun _ _=>trivial) (fun p hp=>by
  simp only [List.mem_cons,List.not_mem_nil,or_false] at hp
  rcases hp with rfl|rfl|rfl <;> exact⟨⟨none,0,rfl,by simp,fun h=>absurd rfl h⟩,(show (0:Nat)≤9223372036854775807 by decide)⟩) (by simp)
 obtain⟨a,c,rfl,_⟩:=LiesX.slice hl
 exact⟨a,c,rfl,hl.lies,hb⟩
def three16:List PT:=[nilP (nw16 0),nilP (nw16 1),nilP (nw16 (-2))]
theorem three_set:setL (5:Int).toNat [nw16 (-2),nw16 1,nw16 0]=three16:=by kernel_rfl
theorem three_look:lookE 16 5 [nw16 (-2),nw16 1,nw16 0]=0:=by kernel_rfl
theorem three_rank:rankN 16 5 (nw16 (-1)) three16=1:=by kernel_rfl
theorem three_right:errOf (zab 16 (nw16 (-1)))=0:=by kernel_rfl
set_option maxRecDepth 100000 in
set_option maxHeartbeats 8000000 in
theorem speaks16_any (w:World):Calls Tryz.prog 11 #[] w fun e w'=>e=.returned (.bool true)∧Below w.heap.size w w':=by
 have HI:Hid (∀n W,Calls Tryz.prog 63 #[.int .i64 n] W fun e w'=>e=.returned (.agg #[.int .i64 2,.int .i64 n,.string ⟨#[]⟩,.slice none 0 0])∧Below W.heap.size W w'):=fun n W=>Calls.mono (int_any n W) fun _ _ h=>⟨h.1,h.2.below⟩
 obtain⟨W1,hW1⟩:∃W1,W1=w.alloc (.cells #[.int .i64 (-2),.int .i64 1,.int .i64 0] 2):=⟨_,rfl⟩
 have HW1:Hid (W1=w.alloc (.cells #[.int .i64 (-2),.int .i64 1,.int .i64 0] 2)):=hW1
 have HB1:Hid (Below w.heap.size w W1):=by rw [hW1];exact ((Grew.refl w).alloc _).below
 have HC:Hid (Calls Tryz.prog 62 #[.slice (some ⟨w.heap.size,0,none⟩) 3 3] W1 fun e w'=>∃a c,e=.returned (.slice a 3 c)∧Lies 17 w' [nw16 (-2),nw16 1,nw16 0] (.slice a 3 c)∧Below W1.heap.size W1 w'):=three_16 _ _ _ _ _ _ (by rw [hW1];simp) (by rw [hW1];simp) (by rw [hW1];simp)
 clear hW1
 go_enter Tryz.func11,Tryz.ntmps11
 go_wp2_with fail
 rw [←HW1.out]
 clear HW1
 refine Calls.mono HC.out ?_
 rintro e w2 ⟨a2,c2,rfl,hl2,hg2⟩
 have hb2:Below w.heap.size w w2:=HB1.out.trans (hg2.mono HB1.out.size)
 have HOf:Hid (Calls Tryz.prog 9 #[.int .i64 5,.slice a2 3 c2] w2 (SpPost 5 three16 0 w2)):=by
  have h9:=sof_list16 16 5 _ _ w2 hl2
  rw [three_set,three_look] at h9
  exact h9
 clear HC HB1 hl2 hg2
 go_wp2_with fail
 refine Calls.mono HOf.out ?_
 rintro e w3 ⟨hg3,p3,rfl,⟨h0,_⟩|⟨_,s,rfl,hs⟩⟩
 ·exact absurd rfl h0
 have hb3:Below w.heap.size w w3:=hb2.trans (hg3.mono hb2.size)
 have HR:Hid (∀V,Below w3.heap.size w3 V→Calls Tryz.prog 30 #[.pointer (some ⟨s,0,none⟩),.agg #[.int .i64 2,.int .i64 (-1),.string ⟨#[]⟩,.slice none 0 0]] V (RkPost 1 0 V)):=fun V hV=>by
  have h9:=srank_16 (hs.keeps hV) 16 (nw16 (-1)) (.slice none 0 0) (zero_lies 16 V) (show (0:Nat)≤9223372036854775807 by decide)
  rw [three_rank,three_right] at h9
  exact h9
 have HF:Hid (∀V,Below w3.heap.size w3 V→Calls Tryz.prog 15 #[.pointer (some ⟨s,0,none⟩)] V fun e w'=>∃a c,e=.returned (.tuple #[.agg #[.int .i64 2,.int .i64 0,.string ⟨#[]⟩,.slice a 0 c],.int .i64 0])∧Below V.heap.size V w'):=fun V hV=>by
  refine (sfirst_16 (hs.keeps hV)).mono ?_
  rintro e w' ⟨hb,⟨ho,_⟩|⟨x,a,c,ho,rfl,_⟩⟩
  ·exact absurd ho (by unfold zal three16;simp)
  ·have hx:x=nilP (nw16 0):=by unfold zal three16 at ho;simp at ho;exact ho.symm
   subst hx
   exact⟨a,c,rfl,hb⟩
 have HIt:Hid (∀V,Below w3.heap.size w3 V→Calls Tryz.prog 46 #[.pointer (some ⟨s,0,none⟩)] V fun e w'=>∃a c,e=.returned (.slice a 3 c)∧Lies 17 w' [nw16 0,nw16 1,nw16 (-2)] (.slice a 3 c)∧Below V.heap.size V w'):=fun V hV=>by
  refine (sitems_16 (hs.keeps hV)).mono ?_
  rintro e w' ⟨hb,ps,v,rfl,hm,hS⟩
  have hl:=hS.lies
  rw [hm] at hl
  obtain⟨a,c,rfl,_⟩:=hS.slice
  have hp:ps.length=3:=by have:=congrArg List.length hm;rw [List.length_map] at this;rw [this];rfl
  rw [hp] at hl ⊢
  exact⟨a,c,rfl,hl,hb⟩
 clear hs hg3 HOf hb2
 go_wp2_with fail
 refine Calls.mono (HI.out _ _) ?_
 rintro e w4 ⟨rfl,hg4⟩
 have hb4:Below w.heap.size w w4:=hb3.trans (hg4.mono hb3.size)
 go_wp2_with fail
 refine Calls.mono (HR.out _ hg4) ?_
 rintro e w5 ⟨rfl,hg5'⟩
 have hg5:Below w3.heap.size w3 w5:=hg4.trans (hg5'.mono hg4.size)
 have hb5:Below w.heap.size w w5:=hb4.trans (hg5'.mono hb4.size)
 clear hg5' hg4 hb4 HR
 go_wp2_with fail
 refine Calls.mono (HF.out _ hg5) ?_
 rintro e w6 ⟨a6,c6,rfl,hg6'⟩
 have hg6:Below w3.heap.size w3 w6:=hg5.trans (hg6'.mono hg5.size)
 have hb6:Below w.heap.size w w6:=hb5.trans (hg6'.mono hb5.size)
 obtain⟨W7,hW7⟩:∃W7,W7=w6.alloc (.cells #[.int .i64 2,.int .i64 0,.string ⟨#[]⟩,.slice a6 0 c6] 33):=⟨_,rfl⟩
 have HW7:Hid (W7=w6.alloc (.cells #[.int .i64 2,.int .i64 0,.string ⟨#[]⟩,.slice a6 0 c6] 33)):=hW7
 have hal:Below w6.heap.size w6 W7:=by rw [hW7];exact ((Grew.refl w6).alloc _).below
 have k7:W7.cell? ⟨w6.heap.size,1,none⟩=some (.int .i64 0):=by rw [hW7];exact (zag _ (nw16 0) _).c1
 have hg7:Below w3.heap.size w3 W7:=hg6.trans (hal.mono hg6.size)
 have hb7:Below w.heap.size w W7:=hb6.trans (hal.mono hb6.size)
 clear hg6' hg6 hb6 HF hW7 hal hg5 hb5
 go_upto_region 6 with fail
 rw [←HW7.out]
 clear HW7
 go_wp2_with fail
 refine Calls.mono (HIt.out _ hg7) ?_
 rintro e w8 ⟨a8,c8,rfl,hl8,hg8'⟩
 have hb8:Below w.heap.size w w8:=hb7.trans (hg8'.mono hb7.size)
 have HL8:Hid (Lies 17 w8 [nw16 0,nw16 1,nw16 (-2)] (.slice a8 3 c8)):=hl8
 clear hg8' hg7 hb7 HIt hl8 k7
 go_wp2_with fail
 obtain⟨W9,hW9⟩:∃W9,W9=w8.alloc (.cells #[.int .i64 0,.int .i64 1,.int .i64 (-2)] 2):=⟨_,rfl⟩
 have HB9:Hid (Below w8.heap.size w8 W9):=by rw [hW9];exact ((Grew.refl w8).alloc _).below
 have HC9:Hid (Calls Tryz.prog 62 #[.slice (some ⟨w8.heap.size,0,none⟩) 3 3] W9 fun e w'=>∃a c,e=.returned (.slice a 3 c)∧Lies 17 w' [nw16 0,nw16 1,nw16 (-2)] (.slice a 3 c)∧Below W9.heap.size W9 w'):=three_16 _ _ _ _ _ _ (by rw [hW9];simp) (by rw [hW9];simp) (by rw [hW9];simp)
 rw [←hW9]
 clear hW9
 refine Calls.mono HC9.out ?_
 rintro e w10 ⟨a10,c10,rfl,hl10,hg10⟩
 have hg:Below w8.heap.size w8 w10:=HB9.out.trans (hg10.mono HB9.out.size)
 have HV:Hid (Calls Tryz.prog 47 #[.slice a8 3 c8,.slice a10 3 c10] w10 fun e w'=>e=.returned (.bool true)∧Below w10.heap.size w10 w'):=values_same 16 _ _ _ _ (Lies.keeps hg _ _ _ HL8.out) hl10 (by simp)
 have hb10:Below w.heap.size w w10:=hb8.trans (hg.mono hb8.size)
 clear hl10 hg10 hg HC9 HB9 HL8 hb8
 go_wp2_with fail
 refine Calls.mono HV.out ?_
 rintro e w11 ⟨rfl,hg11⟩
 have hb11:Below w.heap.size w w11:=hb10.trans (hg11.mono hb10.size)
 clear HV hg11 hb10
 go_wp2_with fail
 first|(go_ret;exact⟨by simp,hb11⟩)|(go_ret;exact⟨rfl,hb11⟩)
end Go.Proofs.YtlnecfjnffdciabGreat

namespace Go.Proofs.YtlnecfjnffdciabGreat
open Go.RowKit Go.Shelf
theorem val_told16 {d:Nat} (t:VT) (u v:Value) (W:World) (h1:Lies d W t.items u) (h2:Lies d W t.items v):Calls Tryz.prog 19 #[.agg #[.int .i64 t.kind,.int .i64 t.num,.string t.text,u],.agg #[.int .i64 t.kind,.int .i64 t.num,.string t.text,v]] W fun e W'=>e=.returned (.bool true)∧Below W.heap.size W W':=(same_any d t t _ _ W h1 h2).mono fun e W' h=>⟨by rw [h.1,sameV_self],h.2.below⟩
end Go.Proofs.YtlnecfjnffdciabGreat

namespace Go.Proofs.YtlnecfjnffdciabGreat
open Go.RowKit Go.Shelf
def Ask9 (W:World) (b:Nat) (i:Int) (y z:VT) (yu zu:Value):Prop:=W.cell? ⟨b,0,none⟩=some (.int .i64 i)∧(W.cell? ⟨b,1,none⟩=some (.int .i64 y.kind)∧W.cell? ⟨b,2,none⟩=some (.int .i64 y.num)∧W.cell? ⟨b,3,none⟩=some (.string y.text)∧W.cell? ⟨b,4,none⟩=some yu)∧W.cell? ⟨b,5,none⟩=some (.int .i64 z.kind)∧W.cell? ⟨b,6,none⟩=some (.int .i64 z.num)∧W.cell? ⟨b,7,none⟩=some (.string z.text)∧W.cell? ⟨b,8,none⟩=some zu
theorem Ask9.keeps {W W':World} {b:Nat} {i:Int} {y z:VT} {yu zu:Value} (h:Ask9 W b i y z yu zu) (hb:Below W.heap.size W W'):Ask9 W' b i y z yu zu:=by
 obtain⟨h0,⟨h1,h2,h3,h4⟩,h5,h6,h7,h8⟩:=h
 exact⟨zaa hb h0,⟨zaa hb h1,zaa hb h2,zaa hb h3,zaa hb h4⟩,zaa hb h5,zaa hb h6,zaa hb h7,zaa hb h8⟩
set_option maxRecDepth 100000 in
set_option maxHeartbeats 32000000 in
theorem ask16_walk (o:Int) (n:Nat) (l:List VT) (a:Option Addr) (cp:Nat) (m:Nat) (i:Int) (y z:VT) (yu zu:Value) (w:World) (hl:Lies (n+1) w l (.slice a l.length cp)) (hy:Lies m w y.items yu) (hyt:y.text.size≤9223372036854775807) (hz:Lies m w z.items zu) (hzt:z.text.size≤9223372036854775807):Calls Tryz.prog 5 #[.int .i64 o,.slice a l.length cp,.agg #[.int .i64 i,.int .i64 y.kind,.int .i64 y.num,.string y.text,yu,.int .i64 z.kind,.int .i64 z.num,.string z.text,zu]] w fun e w'=>e=.returned (.bool true)∧Below w.heap.size w w':=by
 obtain⟨ay,cy,rfl,_⟩:=Lies.slice hy
 obtain⟨az,cz,rfl,_⟩:=Lies.slice hz
 have HNm:Hid (∀V,Below w.heap.size w V→Calls Tryz.prog 9 #[.int .i64 o,.slice a l.length cp] V (SpPost o.toNat (setL o.toNat l) (lookE n o l) V)):=fun V hV=>sof_list16 n o l _ V (Lies.keeps hV _ _ _ hl)
 have HNd:Hid (∀V,Below w.heap.size w V→Calls Tryz.prog 10 #[.int .i64 o,.slice a l.length cp] V (DsPost o.toNat (setL o.toNat l) (lookE n o l) V)):=fun V hV=>rof_16 n o l _ V (Lies.keeps hV _ _ _ hl)
 have HSp:Hid (∀V,Calls Tryz.prog 11 #[] V fun e w'=>e=.returned (.bool true)∧Below V.heap.size V w'):=speaks16_any
 have HY:Hid (Lies m w y.items (.slice ay y.items.length cy)∧y.text.size≤9223372036854775807):=⟨hy,hyt⟩
 have HZ:Hid (Lies m w z.items (.slice az z.items.length cz)∧z.text.size≤9223372036854775807):=⟨hz,hzt⟩
 obtain⟨E0,hE0⟩:∃E0,E0=lookE n o l:=⟨_,rfl⟩
 obtain⟨L,hL⟩:∃L,L=setL o.toNat l:=⟨_,rfl⟩
 obtain⟨q,hq⟩:∃q,q=o.toNat:=⟨_,rfl⟩
 rw [←hE0,←hL,←hq] at HNm HNd
 obtain⟨W0,hW0⟩:∃W0,W0=w.alloc (.cells #[.int .i64 i,.int .i64 y.kind,.int .i64 y.num,.string y.text,.slice ay y.items.length cy,.int .i64 z.kind,.int .i64 z.num,.string z.text,.slice az z.items.length cz] 51):=⟨_,rfl⟩
 have HW0:Hid (W0=w.alloc (.cells #[.int .i64 i,.int .i64 y.kind,.int .i64 y.num,.string y.text,.slice ay y.items.length cy,.int .i64 z.kind,.int .i64 z.num,.string z.text,.slice az z.items.length cz] 51)):=hW0
 have hb0:Below w.heap.size w W0:=by rw [hW0];exact ((Grew.refl w).alloc _).below
 have HQ0:Hid (Ask9 W0 w.heap.size i y z (.slice ay y.items.length cy) (.slice az z.items.length cz)):=by rw [hW0];exact⟨by simp,⟨by simp,by simp,by simp,by simp⟩,by simp,by simp,by simp,by simp⟩
 have HNm0:=show Hid _ from HNm.out W0 hb0
 clear hl hE0 hL hq hy hyt hz hzt HNm hW0
 generalize l.length=N at *
 go_enter Tryz.func5,Tryz.ntmps5
 go_upto_region 1 with fail
 rw [←HW0.out]
 clear HW0
 go_wp2_with fail
 refine Calls.mono HNm0.out ?_
 rintro e w1 ⟨hg1,pm,rfl,hpm⟩
 have hb1:Below w.heap.size w w1:=hb0.trans (hg1.mono hb0.size)
 have HQ1:Hid (Ask9 w1 w.heap.size i y z (.slice ay y.items.length cy) (.slice az z.items.length cz)):=Ask9.keeps HQ0.out hg1
 have HNd1:=show Hid _ from HNd.out w1 hb1
 have Hpm:Hid _:=hpm
 clear hpm HNm0 HNd HQ0 hg1 hb0
 go_wp2_with fail
 refine Calls.mono HNd1.out ?_
 rintro e w2 ⟨hg2,pd,rfl,hpd⟩
 have hb2:Below w.heap.size w w2:=hb1.trans (hg2.mono hb1.size)
 have HQ2:Hid (Ask9 w2 w.heap.size i y z (.slice ay y.items.length cy) (.slice az z.items.length cz)):=Ask9.keeps HQ1.out hg2
 have HSt:Hid ((E0≠0∧pm=none∧pd=none)∨(E0=0∧∃s c,pm=some ⟨s,0,none⟩∧pd=some ⟨c,0,none⟩∧SC w2 q L s∧DS w2 q L c)):=by
  rcases Hpm.out with ⟨h0,rfl⟩|⟨h0,s,rfl,hm⟩
  ·rcases hpd with ⟨_,rfl⟩|⟨h1,_⟩
   ·exact .inl ⟨h0,rfl,rfl⟩
   ·exact absurd h1 h0
  ·rcases hpd with ⟨h1,_⟩|⟨_,c,rfl,hd⟩
   ·exact absurd h0 h1
   ·exact .inr ⟨h0,s,c,rfl,rfl,hm.keeps hg2,hd⟩
 clear Hpm hpd HNd1 hg2 hb1 HQ1
 rcases HSt.out with ⟨h0,rfl,rfl⟩|⟨rfl,s,c,rfl,rfl,hm,hd⟩
 ·have HSp2:=show Hid _ from HSp.out w2
  have hne:(E0 != 0)=true:=by simpa using h0
  have hnE : ¬E0=0:=h0
  clear HSt HSp HQ2 HY HZ
  go_wp2_with fail
  refine Calls.mono HSp2.out ?_
  rintro e w3 ⟨rfl,hg3⟩
  have hb3:=hb2.trans (hg3.mono hb2.size)
  clear HSp2 hg3
  go_wp2_with fail
  go_ret
  exact⟨rfl,hb3⟩
 ·have HB2:Hid (Below w.heap.size w w2):=hb2
  have HQz:Hid (Ask9 w2 w.heap.size i y z (.slice ay y.items.length cy) (.slice az z.items.length cz)):=HQ2.out
  have hYk:∀V,Below w2.heap.size w2 V→Lies m V y.items (.slice ay y.items.length cy):=fun V hV=>Lies.keeps (hb2.trans (hV.mono hb2.size)) _ _ _ HY.out.1
  have hZk:∀V,Below w2.heap.size w2 V→Lies m V z.items (.slice az z.items.length cz):=fun V hV=>Lies.keeps (hb2.trans (hV.mono hb2.size)) _ _ _ HZ.out.1
  have HYk:Hid (∀V,Below w2.heap.size w2 V→Lies m V y.items (.slice ay y.items.length cy)):=hYk
  have HC1:Hid (∀V,Below w2.heap.size w2 V→Calls Tryz.prog 28 #[.pointer (some ⟨s,0,none⟩),.int .i64 i] V (Tells 16 (keyO (zal L i),errO (zal L i) 5) V)):=fun V hV=>sat_16 (hm.keeps hV) i
  have HC2:Hid (∀V,Below w2.heap.size w2 V→Calls Tryz.prog 29 #[.pointer (some ⟨c,0,none⟩),.int .i64 i] V (Tells 16 (keyO (zal L i),errO (zal L i) 5) V)):=fun V hV=>rat_16 (hd.keeps hV) i
  have HC3:Hid (∀V,Below w2.heap.size w2 V→Calls Tryz.prog 30 #[.pointer (some ⟨s,0,none⟩),.agg #[.int .i64 y.kind,.int .i64 y.num,.string y.text,.slice ay y.items.length cy]] V (RkPost (rankN m q y L) (errOf (zab m y)) V)):=fun V hV=>srank_16 (hm.keeps hV) m y _ (hYk V hV) HY.out.2
  have HC4:Hid (∀V,Below w2.heap.size w2 V→Calls Tryz.prog 31 #[.pointer (some ⟨c,0,none⟩),.agg #[.int .i64 y.kind,.int .i64 y.num,.string y.text,.slice ay y.items.length cy]] V (RkPost (rankN m q y L) (errOf (zab m y)) V)):=fun V hV=>rrank_16 hd hV m y _ (hYk V hV)
  have HC5:Hid (∀V,Below w2.heap.size w2 V→Calls Tryz.prog 32 #[.pointer (some ⟨s,0,none⟩),.agg #[.int .i64 y.kind,.int .i64 y.num,.string y.text,.slice ay y.items.length cy]] V (zbe w2 (nextO m q y L) (errOf (zab m y)) V)):=fun V hV=>snext_16 w2 (hm.keeps hV) m y _ (hYk V hV) HY.out.2
  have HC6:Hid (∀V,Below w2.heap.size w2 V→Calls Tryz.prog 33 #[.pointer (some ⟨c,0,none⟩),.agg #[.int .i64 y.kind,.int .i64 y.num,.string y.text,.slice ay y.items.length cy]] V (zbe w2 (nextO m q y L) (errOf (zab m y)) V)):=fun V hV=>rnext_16 hd hV m y _ (hYk V hV)
  have HC7:Hid (∀V,Below w2.heap.size w2 V→Calls Tryz.prog 34 #[.pointer (some ⟨s,0,none⟩),.agg #[.int .i64 y.kind,.int .i64 y.num,.string y.text,.slice ay y.items.length cy]] V (zbe w2 (zbb m q y L) (errOf (zab m y)) V)):=fun V hV=>sahd_16 w2 (hm.keeps hV) m y _ (hYk V hV) HY.out.2
  have HC8:Hid (∀V,Below w2.heap.size w2 V→Calls Tryz.prog 35 #[.pointer (some ⟨c,0,none⟩),.agg #[.int .i64 y.kind,.int .i64 y.num,.string y.text,.slice ay y.items.length cy]] V (zbe w2 (zbb m q y L) (errOf (zab m y)) V)):=fun V hV=>rahd_16 hd hV m y _ (hYk V hV)
  have HC9:Hid (∀V,Below w2.heap.size w2 V→Calls Tryz.prog 36 #[.pointer (some ⟨s,0,none⟩),.agg #[.int .i64 y.kind,.int .i64 y.num,.string y.text,.slice ay y.items.length cy],.agg #[.int .i64 z.kind,.int .i64 z.num,.string z.text,.slice az z.items.length cz]] V (SpPost q (btwS q y z L) (btwE m m y z) V)):=fun V hV=>sbtw_16 (hm.keeps hV) m y z _ _ (hYk V hV) HY.out.2 (hZk V hV) HZ.out.2
  have HC10:Hid (∀V,Below w2.heap.size w2 V→Calls Tryz.prog 37 #[.pointer (some ⟨c,0,none⟩),.agg #[.int .i64 y.kind,.int .i64 y.num,.string y.text,.slice ay y.items.length cy],.agg #[.int .i64 z.kind,.int .i64 z.num,.string z.text,.slice az z.items.length cz]] V (DsPost q (btwS q y z L) (btwE m m y z) V)):=fun V hV=>rbtw_16 (hd.keeps hV) m y z _ _ (hYk V hV) (hZk V hV)
  clear hYk hZk HYk HY HZ HSt hb2 hm hd
  generalize keyO (zal L i)=t1 at *
  generalize errO (zal L i) 5=n1 at *
  generalize rankN m q y L=R at *
  generalize errOf (zab m y)=EV at *
  generalize nextO m q y L=o2 at *
  generalize zbb m q y L=o3 at *
  obtain⟨t2,h2⟩:∃t,t=keyO o2:=⟨_,rfl⟩
  obtain⟨t3,h3⟩:∃t,t=keyO o3:=⟨_,rfl⟩
  obtain⟨g2,k2⟩:∃g,g=o2.isSome:=⟨_,rfl⟩
  obtain⟨g3,k3⟩:∃g,g=o3.isSome:=⟨_,rfl⟩
  unfold zbe at HC5 HC6 HC7 HC8
  rw [←h2,←k2] at HC5 HC6
  rw [←h3,←k3] at HC7 HC8
  clear h2 h3 k2 k3
  generalize btwS q y z L=LB at *
  generalize btwE m m y z=EB at *
  have HG0:Hid (Below w2.heap.size w2 w2):=Below.refl _ _
  have HCc:=show Hid _ from HC1.out w2 HG0.out
  obtain⟨x0,⟨x1,x2,x3,x4⟩,x5,x6,x7,x8⟩:=HQ2.out
  go_wp2_with fail
  refine Calls.mono HCc.out ?_
  rintro e v1 ⟨u1,rfl,hL1,hg1⟩
  obtain⟨a1,c1,rfl,_⟩:=Lies.slice hL1
  obtain⟨V1,hV1⟩:∃V,V=v1.alloc (.cells #[.int .i64 t1.kind,.int .i64 t1.num,.string t1.text,.slice a1 t1.items.length c1] 33):=⟨_,rfl⟩
  have HV1:Hid (V1=v1.alloc (.cells #[.int .i64 t1.kind,.int .i64 t1.num,.string t1.text,.slice a1 t1.items.length c1] 33)):=hV1
  have ha1:Below v1.heap.size v1 V1:=by rw [hV1];exact ((Grew.refl _).alloc _).below
  have hq1:Below w2.heap.size w2 V1:=hg1.trans (ha1.mono hg1.size)
  have HG1:Hid (Below w2.heap.size w2 V1):=HG0.out.trans (hq1.mono HG0.out.size)
  have HQ_1:Hid (Ask9 V1 w.heap.size i y z (.slice ay y.items.length cy) (.slice az z.items.length cz)):=Ask9.keeps HQ2.out hq1
  have HX1_1:Hid (Bx V1 v1.heap.size t1 (.slice a1 t1.items.length c1)∧Lies 16 V1 t1.items (.slice a1 t1.items.length c1)):=⟨by rw [hV1];exact zag _ t1 _,Lies.keeps ha1 _ _ _ hL1⟩
  have hs1:v1.heap.size<V1.heap.size∧w2.heap.size≤v1.heap.size∧w2.heap.size≤v1.heap.size:=⟨by rw [hV1];simp,hg1.size,Nat.le_trans HG0.out.size hg1.size⟩
  have HS1:Hid _:=hs1
  clear HCc HC1 hL1 hg1 ha1 hq1 hV1 hs1 HG0 HQ2 x0 x1 x2 x3 x4 x5 x6 x7 x8
  go_upto_region 6 with fail
  rw [←HV1.out]
  clear HV1
  have HCc:=show Hid _ from HC2.out V1 HG1.out
  obtain⟨x0,⟨x1,x2,x3,x4⟩,x5,x6,x7,x8⟩:=HQ_1.out
  go_wp2_with fail
  refine Calls.mono HCc.out ?_
  rintro e v2 ⟨u2,rfl,hL2,hg2⟩
  obtain⟨a2,c2,rfl,_⟩:=Lies.slice hL2
  obtain⟨V2,hV2⟩:∃V,V=v2.alloc (.cells #[.int .i64 t1.kind,.int .i64 t1.num,.string t1.text,.slice a2 t1.items.length c2] 33):=⟨_,rfl⟩
  have HV2:Hid (V2=v2.alloc (.cells #[.int .i64 t1.kind,.int .i64 t1.num,.string t1.text,.slice a2 t1.items.length c2] 33)):=hV2
  have ha2:Below v2.heap.size v2 V2:=by rw [hV2];exact ((Grew.refl _).alloc _).below
  have hq2:Below V1.heap.size V1 V2:=hg2.trans (ha2.mono hg2.size)
  have HG2:Hid (Below w2.heap.size w2 V2):=HG1.out.trans (hq2.mono HG1.out.size)
  have HQ_2:Hid (Ask9 V2 w.heap.size i y z (.slice ay y.items.length cy) (.slice az z.items.length cz)):=Ask9.keeps HQ_1.out hq2
  have HX1_2:Hid (Bx V2 v1.heap.size t1 (.slice a1 t1.items.length c1)∧Lies 16 V2 t1.items (.slice a1 t1.items.length c1)):=⟨HX1_1.out.1.keeps hq2,Lies.keeps hq2 _ _ _ HX1_1.out.2⟩
  clear HX1_1
  have HX2_2:Hid (Bx V2 v2.heap.size t1 (.slice a2 t1.items.length c2)∧Lies 16 V2 t1.items (.slice a2 t1.items.length c2)):=⟨by rw [hV2];exact zag _ t1 _,Lies.keeps ha2 _ _ _ hL2⟩
  have hs2:v2.heap.size<V2.heap.size∧V1.heap.size≤v2.heap.size∧w2.heap.size≤v2.heap.size:=⟨by rw [hV2];simp,hg2.size,Nat.le_trans HG1.out.size hg2.size⟩
  have HS2:Hid _:=hs2
  clear HCc HC2 hL2 hg2 ha2 hq2 hV2 hs2 HG1 HQ_1 x0 x1 x2 x3 x4 x5 x6 x7 x8
  go_upto_region 7 with fail
  rw [←HV2.out]
  clear HV2
  have HCc:=show Hid _ from HC3.out V2 HG2.out
  obtain⟨x0,⟨x1,x2,x3,x4⟩,x5,x6,x7,x8⟩:=HQ_2.out
  go_wp2_with fail
  refine Calls.mono HCc.out ?_
  rintro e V3 ⟨rfl,hg3⟩
  have HG3:Hid (Below w2.heap.size w2 V3):=HG2.out.trans (hg3.mono HG2.out.size)
  have HQ_3:Hid (Ask9 V3 w.heap.size i y z (.slice ay y.items.length cy) (.slice az z.items.length cz)):=Ask9.keeps HQ_2.out hg3
  have HX1_3:Hid (Bx V3 v1.heap.size t1 (.slice a1 t1.items.length c1)∧Lies 16 V3 t1.items (.slice a1 t1.items.length c1)):=⟨HX1_2.out.1.keeps hg3,Lies.keeps hg3 _ _ _ HX1_2.out.2⟩
  clear HX1_2
  have HX2_3:Hid (Bx V3 v2.heap.size t1 (.slice a2 t1.items.length c2)∧Lies 16 V3 t1.items (.slice a2 t1.items.length c2)):=⟨HX2_2.out.1.keeps hg3,Lies.keeps hg3 _ _ _ HX2_2.out.2⟩
  clear HX2_2
  clear HCc HC3 hg3 HG2 HQ_2 x0 x1 x2 x3 x4 x5 x6 x7 x8
  have HCc:=show Hid _ from HC4.out V3 HG3.out
  obtain⟨x0,⟨x1,x2,x3,x4⟩,x5,x6,x7,x8⟩:=HQ_3.out
  go_wp2_with fail
  refine Calls.mono HCc.out ?_
  rintro e V4 ⟨rfl,hg4⟩
  have HG4:Hid (Below w2.heap.size w2 V4):=HG3.out.trans (hg4.mono HG3.out.size)
  have HQ_4:Hid (Ask9 V4 w.heap.size i y z (.slice ay y.items.length cy) (.slice az z.items.length cz)):=Ask9.keeps HQ_3.out hg4
  have HX1_4:Hid (Bx V4 v1.heap.size t1 (.slice a1 t1.items.length c1)∧Lies 16 V4 t1.items (.slice a1 t1.items.length c1)):=⟨HX1_3.out.1.keeps hg4,Lies.keeps hg4 _ _ _ HX1_3.out.2⟩
  clear HX1_3
  have HX2_4:Hid (Bx V4 v2.heap.size t1 (.slice a2 t1.items.length c2)∧Lies 16 V4 t1.items (.slice a2 t1.items.length c2)):=⟨HX2_3.out.1.keeps hg4,Lies.keeps hg4 _ _ _ HX2_3.out.2⟩
  clear HX2_3
  clear HCc HC4 hg4 HG3 HQ_3 x0 x1 x2 x3 x4 x5 x6 x7 x8
  obtain⟨p0,p1,p2,p3,_,_,_,_⟩:=HX1_4.out.1
  obtain⟨q0,q1,q2,q3,_,_,_,_⟩:=HX2_4.out.1
  have HVc:Hid _:=val_told16 t1 _ _ V4 HX1_4.out.2 HX2_4.out.2
  go_wp2_with fail
  refine Calls.mono HVc.out ?_
  rintro e V5 ⟨rfl,hg5⟩
  have HG5:Hid (Below w2.heap.size w2 V5):=HG4.out.trans (hg5.mono HG4.out.size)
  have HQ_5:Hid (Ask9 V5 w.heap.size i y z (.slice ay y.items.length cy) (.slice az z.items.length cz)):=Ask9.keeps HQ_4.out hg5
  have HX1_5:Hid (Bx V5 v1.heap.size t1 (.slice a1 t1.items.length c1)∧Lies 16 V5 t1.items (.slice a1 t1.items.length c1)):=⟨HX1_4.out.1.keeps hg5,Lies.keeps hg5 _ _ _ HX1_4.out.2⟩
  clear HX1_4
  have HX2_5:Hid (Bx V5 v2.heap.size t1 (.slice a2 t1.items.length c2)∧Lies 16 V5 t1.items (.slice a2 t1.items.length c2)):=⟨HX2_4.out.1.keeps hg5,Lies.keeps hg5 _ _ _ HX2_4.out.2⟩
  clear HX2_4
  clear HVc hg5 HG4 HQ_4 p0 p1 p2 p3 q0 q1 q2 q3
  clear HX1_5 HX2_5
  have HCc:=show Hid _ from HC5.out V5 HG5.out
  obtain⟨x0,⟨x1,x2,x3,x4⟩,x5,x6,x7,x8⟩:=HQ_5.out
  go_wp2_with fail
  refine Calls.mono HCc.out ?_
  rintro e v6 ⟨a6,c6,rfl,hL6,hg6⟩
  have hL6:=hL6.lies
  obtain⟨V6,hV6⟩:∃V,V=v6.alloc (.cells #[.int .i64 t2.kind,.int .i64 t2.num,.string t2.text,.slice a6 t2.items.length c6] 33):=⟨_,rfl⟩
  have HV6:Hid (V6=v6.alloc (.cells #[.int .i64 t2.kind,.int .i64 t2.num,.string t2.text,.slice a6 t2.items.length c6] 33)):=hV6
  have ha6:Below v6.heap.size v6 V6:=by rw [hV6];exact ((Grew.refl _).alloc _).below
  have hq6:Below V5.heap.size V5 V6:=hg6.trans (ha6.mono hg6.size)
  have HG6:Hid (Below w2.heap.size w2 V6):=HG5.out.trans (hq6.mono HG5.out.size)
  have HQ_6:Hid (Ask9 V6 w.heap.size i y z (.slice ay y.items.length cy) (.slice az z.items.length cz)):=Ask9.keeps HQ_5.out hq6
  have HX6_6:Hid (Bx V6 v6.heap.size t2 (.slice a6 t2.items.length c6)∧Lies 16 V6 t2.items (.slice a6 t2.items.length c6)):=⟨by rw [hV6];exact zag _ t2 _,Lies.keeps ha6 _ _ _ hL6⟩
  have hs6:v6.heap.size<V6.heap.size∧V5.heap.size≤v6.heap.size∧w2.heap.size≤v6.heap.size:=⟨by rw [hV6];simp,hg6.size,Nat.le_trans HG5.out.size hg6.size⟩
  have HS6:Hid _:=hs6
  clear HCc HC5 hL6 hg6 ha6 hq6 hV6 hs6 HG5 HQ_5 x0 x1 x2 x3 x4 x5 x6 x7 x8
  go_upto_region 12 with fail
  rw [←HV6.out]
  clear HV6
  have HCc:=show Hid _ from HC6.out V6 HG6.out
  obtain⟨x0,⟨x1,x2,x3,x4⟩,x5,x6,x7,x8⟩:=HQ_6.out
  go_wp2_with fail
  refine Calls.mono HCc.out ?_
  rintro e v7 ⟨a7,c7,rfl,hL7,hg7⟩
  have hL7:=hL7.lies
  obtain⟨V7,hV7⟩:∃V,V=v7.alloc (.cells #[.int .i64 t2.kind,.int .i64 t2.num,.string t2.text,.slice a7 t2.items.length c7] 33):=⟨_,rfl⟩
  have HV7:Hid (V7=v7.alloc (.cells #[.int .i64 t2.kind,.int .i64 t2.num,.string t2.text,.slice a7 t2.items.length c7] 33)):=hV7
  have ha7:Below v7.heap.size v7 V7:=by rw [hV7];exact ((Grew.refl _).alloc _).below
  have hq7:Below V6.heap.size V6 V7:=hg7.trans (ha7.mono hg7.size)
  have HG7:Hid (Below w2.heap.size w2 V7):=HG6.out.trans (hq7.mono HG6.out.size)
  have HQ_7:Hid (Ask9 V7 w.heap.size i y z (.slice ay y.items.length cy) (.slice az z.items.length cz)):=Ask9.keeps HQ_6.out hq7
  have HX6_7:Hid (Bx V7 v6.heap.size t2 (.slice a6 t2.items.length c6)∧Lies 16 V7 t2.items (.slice a6 t2.items.length c6)):=⟨HX6_6.out.1.keeps hq7,Lies.keeps hq7 _ _ _ HX6_6.out.2⟩
  clear HX6_6
  have HX7_7:Hid (Bx V7 v7.heap.size t2 (.slice a7 t2.items.length c7)∧Lies 16 V7 t2.items (.slice a7 t2.items.length c7)):=⟨by rw [hV7];exact zag _ t2 _,Lies.keeps ha7 _ _ _ hL7⟩
  have hs7:v7.heap.size<V7.heap.size∧V6.heap.size≤v7.heap.size∧w2.heap.size≤v7.heap.size:=⟨by rw [hV7];simp,hg7.size,Nat.le_trans HG6.out.size hg7.size⟩
  have HS7:Hid _:=hs7
  clear HCc HC6 hL7 hg7 ha7 hq7 hV7 hs7 HG6 HQ_6 x0 x1 x2 x3 x4 x5 x6 x7 x8
  go_upto_region 13 with fail
  rw [←HV7.out]
  clear HV7
  obtain⟨p0,p1,p2,p3,_,_,_,_⟩:=HX6_7.out.1
  obtain⟨q0,q1,q2,q3,_,_,_,_⟩:=HX7_7.out.1
  have HVc:Hid _:=val_told16 t2 _ _ V7 HX6_7.out.2 HX7_7.out.2
  have hgg:(g2 != g2)=false:=by simp
  go_wp2_with fail
  refine Calls.mono HVc.out ?_
  rintro e V8 ⟨rfl,hg8⟩
  have HG8:Hid (Below w2.heap.size w2 V8):=HG7.out.trans (hg8.mono HG7.out.size)
  have HQ_8:Hid (Ask9 V8 w.heap.size i y z (.slice ay y.items.length cy) (.slice az z.items.length cz)):=Ask9.keeps HQ_7.out hg8
  have HX6_8:Hid (Bx V8 v6.heap.size t2 (.slice a6 t2.items.length c6)∧Lies 16 V8 t2.items (.slice a6 t2.items.length c6)):=⟨HX6_7.out.1.keeps hg8,Lies.keeps hg8 _ _ _ HX6_7.out.2⟩
  clear HX6_7
  have HX7_8:Hid (Bx V8 v7.heap.size t2 (.slice a7 t2.items.length c7)∧Lies 16 V8 t2.items (.slice a7 t2.items.length c7)):=⟨HX7_7.out.1.keeps hg8,Lies.keeps hg8 _ _ _ HX7_7.out.2⟩
  clear HX7_7
  clear HVc hg8 HG7 HQ_7 p0 p1 p2 p3 q0 q1 q2 q3
  have hlo:w2.heap.size≤v6.heap.size∧v6.heap.size<v7.heap.size∧v7.heap.size<V8.heap.size:=by
   have h6:=HS6.out;have h7:=HS7.out
   exact⟨by omega,by omega,zad HX7_8.out.1.c0⟩
  have HLo:Hid _:=hlo
  clear hlo
  have HCc:=show Hid _ from HC7.out V8 HG8.out
  obtain⟨x0,⟨x1,x2,x3,x4⟩,x5,x6,x7,x8⟩:=HQ_8.out
  obtain⟨r0,r1,r2,r3,f0,f1,f2,f3⟩:=HX6_8.out.1
  go_wp2_with fail
  refine Calls.mono HCc.out ?_
  rintro e v9 ⟨a9,c9,rfl,hL9,hg9⟩
  have HK9:Hid (Bx v9 v6.heap.size t2 (.slice a6 t2.items.length c6)):=HX6_8.out.1.keeps hg9
  have HO9:Hid (Bx v9 v7.heap.size t2 (.slice a7 t2.items.length c7)):=HX7_8.out.1.keeps hg9
  clear r0 r1 r2 r3 f0 f1 f2 f3 x0 x1 x2 x3 x4 x5 x6 x7 x8 HX6_8 HX7_8
  obtain⟨r0,r1,r2,r3,f0,f1,f2,f3⟩:=HK9.out
  obtain⟨V9,hV9⟩:∃V,V=((((v9.setCell ⟨v6.heap.size,0,none⟩ (.int .i64 t3.kind)).setCell ⟨v6.heap.size,1,none⟩ (.int .i64 t3.num)).setCell ⟨v6.heap.size,2,none⟩ (.string t3.text)).setCell ⟨v6.heap.size,3,none⟩ (.slice a9 t3.items.length c9)):=⟨_,rfl⟩
  have HV9:Hid (V9=((((v9.setCell ⟨v6.heap.size,0,none⟩ (.int .i64 t3.kind)).setCell ⟨v6.heap.size,1,none⟩ (.int .i64 t3.num)).setCell ⟨v6.heap.size,2,none⟩ (.string t3.text)).setCell ⟨v6.heap.size,3,none⟩ (.slice a9 t3.items.length c9))):=hV9
  have hV9s:V9=v9.setCells v6.heap.size 0 (encP (t3,.slice a9 t3.items.length c9)):=hV9
  have hq9:Below w2.heap.size w2 V9:=by rw [hV9s];exact zas (HG8.out.trans (hg9.mono HG8.out.size)) HLo.out.1 (t3,.slice a9 t3.items.length c9)
  have HG9:Hid (Below w2.heap.size w2 V9):=hq9
  have HQ_9:Hid (Ask9 V9 w.heap.size i y z (.slice ay y.items.length cy) (.slice az z.items.length cz)):=Ask9.keeps HQz.out hq9
  have HX6_9:Hid (Bx V9 v6.heap.size t3 (.slice a9 t3.items.length c9)):=by rw [hV9s];exact HK9.out.put (t3,.slice a9 t3.items.length c9)
  have HX7_9:Hid (Bx V9 v7.heap.size t2 (.slice a7 t2.items.length c7)):=by rw [hV9s];exact HO9.out.other (by have:=HLo.out;omega) (encP (t3,.slice a9 t3.items.length c9))
  have HL9:Hid (LiesX (fun b=>b<w2.heap.size∨V8.heap.size≤b) 16 V9 t3.items (.slice a9 t3.items.length c9)):=by rw [hV9s];exact LiesX.set (g:=v6.heap.size) (fun h=>by have:=HLo.out;omega) hL9
  have HZ9:Hid (V8.heap.size≤V9.heap.size):=by have h9:=hg9.size;rw [hV9s];show V8.heap.size≤_;simpa [encP,World.setCells] using h9
  clear HCc HC7 hL9 hg9 hV9 hV9s HG8 HQ_8 HK9 HO9 hq9
  go_upto_region 16 with fail
  rw [←HV9.out]
  clear HV9 r0 r1 r2 r3 f0 f1 f2 f3
  have HCc:=show Hid _ from HC8.out V9 HG9.out
  obtain⟨x0,⟨x1,x2,x3,x4⟩,x5,x6,x7,x8⟩:=HQ_9.out
  obtain⟨r0,r1,r2,r3,f0,f1,f2,f3⟩:=HX7_9.out
  go_wp2_with fail
  refine Calls.mono HCc.out ?_
  rintro e v10 ⟨a10,c10,rfl,hL10,hg10⟩
  have HK10:Hid (Bx v10 v7.heap.size t2 (.slice a7 t2.items.length c7)):=HX7_9.out.keeps hg10
  have HO10:Hid (Bx v10 v6.heap.size t3 (.slice a9 t3.items.length c9)):=HX6_9.out.keeps hg10
  clear r0 r1 r2 r3 f0 f1 f2 f3 x0 x1 x2 x3 x4 x5 x6 x7 x8 HX6_9 HX7_9
  obtain⟨r0,r1,r2,r3,f0,f1,f2,f3⟩:=HK10.out
  obtain⟨V10,hV10⟩:∃V,V=((((v10.setCell ⟨v7.heap.size,0,none⟩ (.int .i64 t3.kind)).setCell ⟨v7.heap.size,1,none⟩ (.int .i64 t3.num)).setCell ⟨v7.heap.size,2,none⟩ (.string t3.text)).setCell ⟨v7.heap.size,3,none⟩ (.slice a10 t3.items.length c10)):=⟨_,rfl⟩
  have HV10:Hid (V10=((((v10.setCell ⟨v7.heap.size,0,none⟩ (.int .i64 t3.kind)).setCell ⟨v7.heap.size,1,none⟩ (.int .i64 t3.num)).setCell ⟨v7.heap.size,2,none⟩ (.string t3.text)).setCell ⟨v7.heap.size,3,none⟩ (.slice a10 t3.items.length c10))):=hV10
  have hV10s:V10=v10.setCells v7.heap.size 0 (encP (t3,.slice a10 t3.items.length c10)):=hV10
  have hq10:Below w2.heap.size w2 V10:=by rw [hV10s];exact zas (HG9.out.trans (hg10.mono HG9.out.size)) (by have:=HLo.out;omega) (t3,.slice a10 t3.items.length c10)
  have HG10:Hid (Below w2.heap.size w2 V10):=hq10
  have HQ_10:Hid (Ask9 V10 w.heap.size i y z (.slice ay y.items.length cy) (.slice az z.items.length cz)):=Ask9.keeps HQz.out hq10
  have HXa_10:Hid (Bx V10 v6.heap.size t3 (.slice a9 t3.items.length c9)∧Lies 16 V10 t3.items (.slice a9 t3.items.length c9)):=by
   rw [hV10s]
   exact⟨HO10.out.other (by have:=HLo.out;omega) (encP (t3,.slice a10 t3.items.length c10)),LiesX.lies (LiesX.set (g:=v7.heap.size) (fun h=>by have:=HLo.out;omega) (HL9.out.keeps hg10))⟩
  have HXb_10:Hid (Bx V10 v7.heap.size t3 (.slice a10 t3.items.length c10)∧Lies 16 V10 t3.items (.slice a10 t3.items.length c10)):=by
   rw [hV10s]
   exact⟨HK10.out.put (t3,.slice a10 t3.items.length c10),LiesX.lies (LiesX.set (g:=v7.heap.size) (fun h=>by have:=HLo.out;have:=HZ9.out;omega) hL10)⟩
  clear HCc HC8 hL10 hg10 hV10 hV10s HG9 HQ_9 HK10 HO10 hq10 HL9
  go_upto_region 17 with fail
  rw [←HV10.out]
  clear HV10 r0 r1 r2 r3 f0 f1 f2 f3
  obtain⟨p0,p1,p2,p3,_,_,_,_⟩:=HXa_10.out.1
  obtain⟨q0,q1,q2,q3,_,_,_,_⟩:=HXb_10.out.1
  have HVc:Hid _:=val_told16 t3 _ _ V10 HXa_10.out.2 HXb_10.out.2
  have hgg3:(g3 != g3)=false:=by simp
  go_wp2_with fail
  refine Calls.mono HVc.out ?_
  rintro e V11 ⟨rfl,hg11⟩
  have HG11:Hid (Below w2.heap.size w2 V11):=HG10.out.trans (hg11.mono HG10.out.size)
  have HQ_11:Hid (Ask9 V11 w.heap.size i y z (.slice ay y.items.length cy) (.slice az z.items.length cz)):=Ask9.keeps HQ_10.out hg11
  have HXa_11:Hid (Bx V11 v6.heap.size t3 (.slice a9 t3.items.length c9)∧Lies 16 V11 t3.items (.slice a9 t3.items.length c9)):=⟨HXa_10.out.1.keeps hg11,Lies.keeps hg11 _ _ _ HXa_10.out.2⟩
  clear HXa_10
  have HXb_11:Hid (Bx V11 v7.heap.size t3 (.slice a10 t3.items.length c10)∧Lies 16 V11 t3.items (.slice a10 t3.items.length c10)):=⟨HXb_10.out.1.keeps hg11,Lies.keeps hg11 _ _ _ HXb_10.out.2⟩
  clear HXb_10
  clear HVc hg11 HG10 HQ_10 p0 p1 p2 p3 q0 q1 q2 q3
  clear HXa_11 HXb_11
  have HCc:=show Hid _ from HC9.out V11 HG11.out
  obtain⟨x0,⟨x1,x2,x3,x4⟩,x5,x6,x7,x8⟩:=HQ_11.out
  go_wp2_with fail
  refine Calls.mono HCc.out ?_
  rintro e V12 ⟨hg12,p12,rfl,hp12⟩
  have HG12:Hid (Below w2.heap.size w2 V12):=HG11.out.trans (hg12.mono HG11.out.size)
  have HQ_12:Hid (Ask9 V12 w.heap.size i y z (.slice ay y.items.length cy) (.slice az z.items.length cz)):=Ask9.keeps HQ_11.out hg12
  have Hp12:Hid ((EB≠0∧p12=none)∨(EB=0∧∃s,p12=some ⟨s,0,none⟩∧SC V12 q LB s)):=hp12
  clear hp12
  clear HCc HC9 hg12 HG11 HQ_11 x0 x1 x2 x3 x4 x5 x6 x7 x8
  have HCc:=show Hid _ from HC10.out V12 HG12.out
  obtain⟨x0,⟨x1,x2,x3,x4⟩,x5,x6,x7,x8⟩:=HQ_12.out
  go_wp2_with fail
  refine Calls.mono HCc.out ?_
  rintro e V13 ⟨hg13,p13,rfl,hp13⟩
  have HG13:Hid (Below w2.heap.size w2 V13):=HG12.out.trans (hg13.mono HG12.out.size)
  have HQ_13:Hid (Ask9 V13 w.heap.size i y z (.slice ay y.items.length cy) (.slice az z.items.length cz)):=Ask9.keeps HQ_12.out hg13
  have Hp13:Hid ((EB≠0∧p12=none∧p13=none)∨(EB=0∧∃s c,p12=some ⟨s,0,none⟩∧p13=some ⟨c,0,none⟩∧SC V13 q LB s∧DS V13 q LB c)):=by
   rcases Hp12.out with ⟨h0,rfl⟩|⟨h0,s,rfl,hm⟩
   ·rcases hp13 with ⟨_,rfl⟩|⟨h1,_⟩
    ·exact .inl ⟨h0,rfl,rfl⟩
    ·exact absurd h1 h0
   ·rcases hp13 with ⟨h1,_⟩|⟨_,c,rfl,hd⟩
    ·exact absurd h0 h1
    ·exact .inr ⟨h0,s,c,rfl,rfl,hm.keeps hg13,hd⟩
  clear hp13 Hp12
  clear HCc HC10 hg13 HG12 HQ_12 x0 x1 x2 x3 x4 x5 x6 x7 x8
  have HBz:Hid (Below w.heap.size w V13):=HB2.out.trans (HG13.out.mono HB2.out.size)
  clear HG13 HQ_13 HB2 HQz
  rcases Hp13.out with ⟨h0,rfl,rfl⟩|⟨rfl,su,cu,rfl,rfl,hmu,hdu⟩
  ·have HSp2:=show Hid _ from HSp.out V13
   have hne:(EB != 0)=true:=by simpa using h0
   have hnE : ¬EB=0:=h0
   clear HSp Hp13
   go_wp2_with fail
   refine Calls.mono HSp2.out ?_
   rintro e w3 ⟨rfl,hg3⟩
   have hb3:=HBz.out.trans (hg3.mono HBz.out.size)
   clear HSp2 hg3
   go_wp2_with fail
   go_ret
   exact⟨rfl,hb3⟩
  ·have HSm:Hid _:=same_16 hmu hdu
   clear hmu hdu Hp13
   go_wp2_with fail
   refine Calls.mono HSm.out ?_
   rintro e w3 ⟨rfl,hg3⟩
   have HB3:Hid (Below w.heap.size w w3):=HBz.out.trans (hg3.mono HBz.out.size)
   have HSp3:=show Hid _ from HSp.out w3
   clear hg3 HSm HSp HBz
   go_wp2_with fail
   refine Calls.mono HSp3.out ?_
   rintro e w4 ⟨rfl,hg4⟩
   have HB4:Hid (Below w.heap.size w w4):=HB3.out.trans (hg4.mono HB3.out.size)
   clear hg4 HSp3 HB3
   go_wp2_with fail
   go_ret
   exact⟨rfl,HB4.out⟩
end Go.Proofs.YtlnecfjnffdciabGreat

