import Derived.Test.YtlnecfjnffdciabGreatBx8
set_option maxRecDepth 100000
set_option maxHeartbeats 16000000
namespace Go.Proofs.YtlnecfjnffdciabGreat
open Go.RowKit
def CutPost14 (X:Nat→Prop) (d:Nat) (t:RT PT) (x:PT) (w:World) (e:Ending) (w':World):Prop:=
 Below w.heap.size w w'∧∃p ku vu,e=.returned (.tuple #[.pointer p,.agg #[.int .i64 x.1.kind,.int .i64 x.1.num,.string x.1.text,ku,.int .i64 x.2.kind,.int .i64 x.2.num,.string x.2.text,vu]])∧NM X d w' t p∧(LiesX X d w' x.1.items ku∧x.1.text.size≤9223372036854775807)∧(LiesX X d w' x.2.items vu∧x.2.text.size≤9223372036854775807)
theorem cutLast_here (X:Nat→Prop) (d:Nat) (w:World) (l:RT PT) (x:PT) (b:Nat) (pl:Option Addr) (ku vu:Value) (c:Bool) (S H K:Nat) (hn:NCells w b pl none x ku vu c S H K) (hl:NM X d w l pl) (hk:(LiesX X d w x.1.items ku∧x.1.text.size≤9223372036854775807)∧(LiesX X d w x.2.items vu∧x.2.text.size≤9223372036854775807)) :
 Calls Tryz.prog 255 #[.pointer (some ⟨b,0,none⟩)] w (CutPost14 X d l x w):=by
 obtain⟨ak,ck,rfl,_⟩:=hk.1.1.slice
 obtain⟨av,cv,rfl,_⟩:=hk.2.1.slice
 obtain⟨c0,c1,c2,c3,c4,c5,c6,c7,c8,c9,_,_,_,_⟩:=hn
 have HK:Hid _:=hk
 have HL:Hid _:=hl
 clear hk hl
 have hbl:=zad c0
 simp only at hbl
 have hbne : ¬b=w.heap.size:=by omega
 go_enter Tryz.func255,Tryz.ntmps255
 go_wp2_with fail
 go_region
 go_wp2_with fail
 have hbb:Below w.heap.size w (w.alloc (.cells #[.int .i64 x.1.kind,.int .i64 x.1.num,.string x.1.text,.slice ak x.1.items.length ck,.int .i64 x.2.kind,.int .i64 x.2.num,.string x.2.text,.slice av x.2.items.length cv] 108)).drew:=((Grew.refl w).alloc _).below.drew
 refine bodyPost_ret (v:=.tuple #[.pointer pl,.agg #[.int .i64 x.1.kind,.int .i64 x.1.num,.string x.1.text,.slice ak x.1.items.length ck,.int .i64 x.2.kind,.int .i64 x.2.num,.string x.2.text,.slice av x.2.items.length cv]]) ?_ rfl ⟨hbb,_,_,_,rfl,HL.out.keeps hbb,⟨LiesX.keeps hbb HK.out.1.1,HK.out.1.2⟩,⟨LiesX.keeps hbb HK.out.2.1,HK.out.2.2⟩⟩
 simp [results,Tryz.results255,go_sem]
theorem cutLast_step (X:Nat→Prop) (d:Nat) (w:World) (r0 T:RT PT) (x z:PT) (b:Nat) (pl:Option Addr) (q:Addr) (ku vu:Value) (c:Bool) (S H K:Nat) (hn:NCells w b pl (some q) x ku vu c S H K) (hk:(LiesX X d w x.1.items ku∧x.1.text.size≤9223372036854775807)∧(LiesX X d w x.2.items vu∧x.2.text.size≤9223372036854775807))
 (hi:∀V,Below w.heap.size w V→Calls Tryz.prog 255 #[.pointer (some q)] V (CutPost14 X d r0 z V))
 (hj:∀V p,Below w.heap.size w V→NM X d V r0 p→Calls Tryz.prog 204 #[.pointer pl,.agg #[.int .i64 x.1.kind,.int .i64 x.1.num,.string x.1.text,ku,.int .i64 x.2.kind,.int .i64 x.2.num,.string x.2.text,vu],.pointer p] V (zab X d T V)) (hX : ¬X w.heap.size) :
 Calls Tryz.prog 255 #[.pointer (some ⟨b,0,none⟩)] w (CutPost14 X d T z w):=by
 obtain⟨ak,ck,rfl,_⟩:=hk.1.1.slice
 obtain⟨av,cv,rfl,_⟩:=hk.2.1.slice
 obtain⟨c0,c1,c2,c3,c4,c5,c6,c7,c8,c9,_,_,_,_⟩:=hn
 have HI:Hid _:=hi
 have HJ:Hid _:=hj
 have HK:Hid _:=hk
 clear hk hi hj
 have hbl:=zad c0
 simp only at hbl
 have hbne : ¬b=w.heap.size:=by omega
 go_enter Tryz.func255,Tryz.ntmps255
 go_wp2_with fail
 obtain⟨W0,hW0⟩:∃W0,W0=w.alloc (.cells #[.int .i64 0,.int .i64 0,.string ⟨#[]⟩,.slice none 0 0,.int .i64 0,.int .i64 0,.string ⟨#[]⟩,.slice none 0 0] 108):=⟨_,rfl⟩
 rw [←hW0]
 have hb0:Below w.heap.size w W0:=by rw [hW0];exact ((Grew.refl w).alloc _).below
 have HZ0:Hid (Bx8 W0 w.heap.size (.int .i64 0) (.int .i64 0) (.string ⟨#[]⟩) (.slice none 0 0) (.int .i64 0) (.int .i64 0) (.string ⟨#[]⟩) (.slice none 0 0)):=by rw [hW0];exact zay w _ _ _ _ _ _ _ _ _
 have hz0:w.heap.size<W0.heap.size:=by rw [hW0];simp
 clear hW0
 refine (HI.out _ hb0).mono ?_
 rintro e w1 ⟨hg1,p1,kz,vz,rfl,ht1,hkz,hvz⟩
 obtain⟨akz,ckz,rfl,_⟩:=hkz.1.slice
 obtain⟨avz,cvz,rfl,_⟩:=hvz.1.slice
 have hb1:Below w.heap.size w w1:=hb0.trans (hg1.mono hb0.size)
 obtain⟨W1,hW1⟩:∃W1,W1=w1.alloc (.cells #[.int .i64 z.1.kind,.int .i64 z.1.num,.string z.1.text,.slice akz z.1.items.length ckz,.int .i64 z.2.kind,.int .i64 z.2.num,.string z.2.text,.slice avz z.2.items.length cvz] 108):=⟨_,rfl⟩
 have hbA:Below w1.heap.size w1 W1:=by rw [hW1];exact ((Grew.refl w1).alloc _).below
 have HT1:Hid (NM X d W1 r0 p1):=ht1.keeps hbA
 have HKZ:Hid (LiesX X d W1 z.1.items (.slice akz z.1.items.length ckz)∧z.1.text.size≤9223372036854775807):=⟨LiesX.keeps hbA hkz.1,hkz.2⟩
 have HVZ:Hid (LiesX X d W1 z.2.items (.slice avz z.2.items.length cvz)∧z.2.text.size≤9223372036854775807):=⟨LiesX.keeps hbA hvz.1,hvz.2⟩
 have hb2:Below w.heap.size w W1:=hb1.trans (hbA.mono hb1.size)
 have HZ1:Hid (Bx8 W1 w.heap.size (.int .i64 0) (.int .i64 0) (.string ⟨#[]⟩) (.slice none 0 0) (.int .i64 0) (.int .i64 0) (.string ⟨#[]⟩) (.slice none 0 0)):=(HZ0.out.keeps hg1).keeps hbA
 have hn2:w1.heap.size≠w.heap.size:=by have:=hg1.size;omega
 clear ht1 hkz hvz HZ0
 go_wp2_with fail
 rw [←hW1]
 have z0:W1.cell? ⟨w1.heap.size,0,none⟩=some (.int .i64 z.1.kind):=by rw [hW1];simp
 have z1:W1.cell? ⟨w1.heap.size,1,none⟩=some (.int .i64 z.1.num):=by rw [hW1];simp
 have z2:W1.cell? ⟨w1.heap.size,2,none⟩=some (.string z.1.text):=by rw [hW1];simp
 have z3:W1.cell? ⟨w1.heap.size,3,none⟩=some (.slice akz z.1.items.length ckz):=by rw [hW1];simp
 have z4:W1.cell? ⟨w1.heap.size,4,none⟩=some (.int .i64 z.2.kind):=by rw [hW1];simp
 have z5:W1.cell? ⟨w1.heap.size,5,none⟩=some (.int .i64 z.2.num):=by rw [hW1];simp
 have z6:W1.cell? ⟨w1.heap.size,6,none⟩=some (.string z.2.text):=by rw [hW1];simp
 have z7:W1.cell? ⟨w1.heap.size,7,none⟩=some (.slice avz z.2.items.length cvz):=by rw [hW1];simp
 have c0:=zaa hb2 c0;have c1:=zaa hb2 c1;have c2:=zaa hb2 c2;have c3:=zaa hb2 c3;have c4:=zaa hb2 c4;have c5:=zaa hb2 c5;have c6:=zaa hb2 c6;have c7:=zaa hb2 c7;have c8:=zaa hb2 c8;have c9:=zaa hb2 c9
 clear hW1 hg1 hbA hb0 hb1 HI hbl hz0
 generalize w1.heap.size=B2 at *
 obtain⟨y0,y1,y2,y3,y4,y5,y6,y7,f0,f1,f2,f3,f4,f5,f6,f7,_⟩:=HZ1.out
 have hb6:b≠w.heap.size:=hbne
 go_region_held3 (fun w'=>w'.cell? ⟨b,0,none⟩=some (.pointer pl)∧w'.cell? ⟨b,2,none⟩=some (.int .i64 x.1.kind)∧w'.cell? ⟨b,3,none⟩=some (.int .i64 x.1.num)∧w'.cell? ⟨b,4,none⟩=some (.string x.1.text)∧w'.cell? ⟨b,5,none⟩=some (.slice ak x.1.items.length ck)∧w'.cell? ⟨b,6,none⟩=some (.int .i64 x.2.kind)∧w'.cell? ⟨b,7,none⟩=some (.int .i64 x.2.num)∧w'.cell? ⟨b,8,none⟩=some (.string x.2.text)∧w'.cell? ⟨b,9,none⟩=some (.slice av x.2.items.length cv)∧w'.cell? ⟨B2,0,none⟩=some (.int .i64 z.1.kind)∧w'.cell? ⟨B2,1,none⟩=some (.int .i64 z.1.num)∧w'.cell? ⟨B2,2,none⟩=some (.string z.1.text)∧w'.cell? ⟨B2,3,none⟩=some (.slice akz z.1.items.length ckz)∧w'.cell? ⟨B2,4,none⟩=some (.int .i64 z.2.kind)∧w'.cell? ⟨B2,5,none⟩=some (.int .i64 z.2.num)∧w'.cell? ⟨B2,6,none⟩=some (.string z.2.text)∧w'.cell? ⟨B2,7,none⟩=some (.slice avz z.2.items.length cvz)) (first|go_keep|exact⟨zaj hb6 c0,zaj hb6 c2,zaj hb6 c3,zaj hb6 c4,zaj hb6 c5,zaj hb6 c6,zaj hb6 c7,zaj hb6 c8,zaj hb6 c9,zaj hn2 z0,zaj hn2 z1,zaj hn2 z2,zaj hn2 z3,zaj hn2 z4,zaj hn2 z5,zaj hn2 z6,zaj hn2 z7⟩)
  (first|(go_at_call 204;refine (HJ.out _ _ hb2.drew (HT1.out.keeps (Below.refl _ _).drew)).mono ?_;rintro e w5 ⟨hg5,p5,rfl,ht5⟩;have hbc:Below W1.heap.size W1 w5:=(Below.refl _ _).drew.trans hg5;have c0:=zaa hbc c0;have c1:=zaa hbc c1;have c2:=zaa hbc c2;have c3:=zaa hbc c3;have c4:=zaa hbc c4;have c5:=zaa hbc c5;have c6:=zaa hbc c6;have c7:=zaa hbc c7;have c8:=zaa hbc c8;have c9:=zaa hbc c9;have z0:=zaa hbc z0;have z1:=zaa hbc z1;have z2:=zaa hbc z2;have z3:=zaa hbc z3;have z4:=zaa hbc z4;have z5:=zaa hbc z5;have z6:=zaa hbc z6;have z7:=zaa hbc z7;have HT5:Hid (NM X d w5 T p5):=ht5;have HZ5:Hid (Bx8 w5 w.heap.size (.int .i64 0) (.int .i64 0) (.string ⟨#[]⟩) (.slice none 0 0) (.int .i64 0) (.int .i64 0) (.string ⟨#[]⟩) (.slice none 0 0)):=HZ1.out.keeps hbc;obtain⟨y0,y1,y2,y3,y4,y5,y6,y7,f0,f1,f2,f3,f4,f5,f6,f7,_⟩:=HZ5.out;clear ht5 hg5))
 have Hq:Hid _:=put8_in HZ5.out (.int .i64 z.1.kind) (.int .i64 z.1.num) (.string z.1.text) (.slice akz z.1.items.length ckz) (.int .i64 z.2.kind) (.int .i64 z.2.num) (.string z.2.text) (.slice avz z.2.items.length cvz)
 have hbz:Below w.heap.size w w5:=hb2.trans (hbc.mono hb2.size)
 have HBz:Hid (Below w.heap.size w (w5.setCells w.heap.size 0 [.int .i64 z.1.kind,.int .i64 z.1.num,.string z.1.text,.slice akz z.1.items.length ckz,.int .i64 z.2.kind,.int .i64 z.2.num,.string z.2.text,.slice avz z.2.items.length cvz])):=za9 hbz (Nat.le_refl _) _ _ _ _ _ _ _ _
 have HTz:Hid (NM X d (w5.setCells w.heap.size 0 [.int .i64 z.1.kind,.int .i64 z.1.num,.string z.1.text,.slice akz z.1.items.length ckz,.int .i64 z.2.kind,.int .i64 z.2.num,.string z.2.text,.slice avz z.2.items.length cvz]) T p5):=HT5.out.put8 hX HZ5.out _
 have HKz:Hid (LiesX X d (w5.setCells w.heap.size 0 [.int .i64 z.1.kind,.int .i64 z.1.num,.string z.1.text,.slice akz z.1.items.length ckz,.int .i64 z.2.kind,.int .i64 z.2.num,.string z.2.text,.slice avz z.2.items.length cvz]) z.1.items (.slice akz z.1.items.length ckz)):=(HKZ.out.1.keeps hbc).set hX
 have HVz:Hid (LiesX X d (w5.setCells w.heap.size 0 [.int .i64 z.1.kind,.int .i64 z.1.num,.string z.1.text,.slice akz z.1.items.length ckz,.int .i64 z.2.kind,.int .i64 z.2.num,.string z.2.text,.slice avz z.2.items.length cvz]) z.2.items (.slice avz z.2.items.length cvz)):=(HVZ.out.1.keeps hbc).set hX
 go_wp2_with fail
 refine bodyPost_ret (v:=.tuple #[.pointer p5,.agg #[.int .i64 z.1.kind,.int .i64 z.1.num,.string z.1.text,.slice akz z.1.items.length ckz,.int .i64 z.2.kind,.int .i64 z.2.num,.string z.2.text,.slice avz z.2.items.length cvz]]) ?_ rfl ⟨HBz.out,_,_,_,rfl,HTz.out,⟨HKz.out,HKZ.out.2⟩,⟨HVz.out,HVZ.out.2⟩⟩
 obtain⟨q0,q1,q2,q3,q4,q5,q6,q7⟩:=Hq.out
 simp only [World.setCells,Nat.zero_add,Nat.reduceAdd] at q0 q1 q2 q3 q4 q5 q6 q7
 simp [results,Tryz.results255,go_sem,q0,q1,q2,q3,q4,q5,q6,q7]
theorem cutLast_core (X:Nat→Prop) (d:Nat):∀(r l:RT PT) (c:Bool) (x:PT) (p:Option Addr) (w:World),NM X d w (.node c l x r) p→RT.Well l→RT.Well r→l.size+1+r.size<4611686018427387904→Calls Tryz.prog 255 #[.pointer p] w (CutPost14 X d (RT.cutLast l x r).1 (RT.cutLast l x r).2 w)
 | .nil,l,c,x,p,w,h,wl,wr,hs=>by
  obtain⟨b,pl,pr,ku,vu,rfl,hn,hk,hv,hl,hr⟩:=h
  have hr':pr=none:=hr
  subst hr'
  exact cutLast_here X d w l x b pl ku vu c _ _ _ hn hl ⟨hk,hv⟩
 | .node c2 l2 y r2,l,c,x,p,w,h,wl,wr,hs=>by
  have h0:=h
  obtain⟨b,pl,pr,ku,vu,rfl,hn,hk,hv,hl,hr⟩:=NM.both h
  obtain⟨q,hq⟩:∃q,pr=some q:=by
   obtain⟨b2,_,_,_,_,e,_⟩:=hr
   exact⟨_,e⟩
  subst hq
  have hsz:(RT.node c2 l2 y r2).size=l2.size+1+r2.size:=rfl
  have hw2:=RT.cutLast_well r2 l2 y wr.left wr.right
  have hz2:(RT.cutLast l2 y r2).1.size+1=l2.size+1+r2.size:=by
   have h9:=congrArg List.length (RT.cutLast_items r2 l2 y)
   rw [RT.size_items,RT.size_items l2,RT.size_items r2]
   simp at h9
   omega
  refine Calls.mono (cutLast_step (fun b=>X b∧b<w.heap.size) d w (RT.cutLast l2 y r2).1 _ x (RT.cutLast l2 y r2).2 b pl q ku vu c _ _ _ hn ⟨hk,hv⟩ (fun V hV=>cutLast_core (fun b=>X b∧b<w.heap.size) d r2 l2 c2 y (some q) V (hr.keeps hV) wr.left wr.right (by omega)) (fun V p9 hV h9=>join_14 (fun b=>X b∧b<w.heap.size) d V l _ x pl p9 ku vu (hl.keeps hV) h9 wl hw2 ⟨LiesX.keeps hV hk.1,hk.2⟩ ⟨LiesX.keeps hV hv.1,hv.2⟩ (by omega)) (fun e=>Nat.lt_irrefl _ e.2)) ?_
  rintro e w' ⟨hb,p',ku',vu',rfl,ht,h1,h2⟩
  exact⟨hb,p',ku',vu',rfl,ht.mono (fun _ h=>h.1),⟨h1.1.mono (fun _ h=>h.1),h1.2⟩,⟨h2.1.mono (fun _ h=>h.1),h2.2⟩⟩
theorem together_nil (w:World) (q:Option Addr):Calls Tryz.prog 201 #[.pointer none,.pointer q] w fun e w'=>e=.returned (.pointer q)∧w'=w:=by
 go_enter Tryz.func201,Tryz.ntmps201
 go_wp2_with fail
 go_ret
 exact⟨rfl,rfl⟩
theorem together_node (X:Nat→Prop) (d:Nat) (w:World) (p:Addr) (q:Option Addr) (r0 T:RT PT) (z:PT)
 (hi:Calls Tryz.prog 255 #[.pointer (some p)] w (CutPost14 X d r0 z w))
 (hj:∀V p k v,Below w.heap.size w V→NM X d V r0 p→(LiesX X d V z.1.items k∧z.1.text.size≤9223372036854775807)→(LiesX X d V z.2.items v∧z.2.text.size≤9223372036854775807)→Calls Tryz.prog 204 #[.pointer p,.agg #[.int .i64 z.1.kind,.int .i64 z.1.num,.string z.1.text,k,.int .i64 z.2.kind,.int .i64 z.2.num,.string z.2.text,v],.pointer q] V (zab X d T V)) :
 Calls Tryz.prog 201 #[.pointer (some p),.pointer q] w (zab X d T w):=by
 have HI:Hid _:=hi
 have HJ:Hid _:=hj
 clear hi hj
 go_enter Tryz.func201,Tryz.ntmps201
 go_wp2_with fail
 refine Calls.mono HI.out ?_
 rintro e w1 ⟨hg1,p1,kz,vz,rfl,ht1,hkz,hvz⟩
 obtain⟨akz,ckz,rfl,_⟩:=hkz.1.slice
 obtain⟨avz,cvz,rfl,_⟩:=hvz.1.slice
 have hbA:∀o,Below w1.heap.size w1 (w1.alloc o):=fun o=>((Grew.refl w1).alloc _).below
 have HJ2:Hid (∀o,Calls Tryz.prog 204 #[.pointer p1,.agg #[.int .i64 z.1.kind,.int .i64 z.1.num,.string z.1.text,(.slice akz z.1.items.length ckz),.int .i64 z.2.kind,.int .i64 z.2.num,.string z.2.text,(.slice avz z.2.items.length cvz)],.pointer q] (w1.alloc o) (zab X d T (w1.alloc o))):=fun o=>HJ.out _ _ _ _ (hg1.trans ((hbA o).mono hg1.size)) (ht1.keeps (hbA o)) ⟨LiesX.keeps (hbA o) hkz.1,hkz.2⟩ ⟨LiesX.keeps (hbA o) hvz.1,hvz.2⟩
 have HB:Hid (∀o,Below w.heap.size w (w1.alloc o)):=fun o=>hg1.trans ((hbA o).mono hg1.size)
 clear hg1 ht1 hkz hvz hbA HJ HI
 go_wp2_with fail
 refine (HJ2.out _).mono ?_
 rintro e w5 ⟨hg5,p5,rfl,ht5⟩
 have HE:Hid (zab X d T w (.returned (.pointer p5)) w5):=⟨(HB.out _).trans (hg5.mono (HB.out _).size),p5,rfl,ht5⟩
 clear hg5 ht5 HJ2
 go_wp2_with fail
 go_ret
 exact HE.out
theorem cutLast_size {α:Type} (r l:RT α) (x:α):(RT.cutLast l x r).1.size=l.size+r.size:=by
 have h9:=congrArg List.length (RT.cutLast_items r l x)
 rw [RT.size_items,RT.size_items l,RT.size_items r]
 simp at h9
 omega
theorem together_14 (X:Nat→Prop) (d:Nat) (w:World) (l r:RT PT) (p q:Option Addr) (hl:NM X d w l p) (hr:NM X d w r q) (wl:RT.Well l) (wr:RT.Well r) (hs:l.size+r.size+1<4611686018427387904) :
 Calls Tryz.prog 201 #[.pointer p,.pointer q] w (zab X d (RT.together l r) w):=by
 cases l with
 | nil=>
  have hp:p=none:=hl
  subst hp
  refine Calls.mono (together_nil w q) ?_
  rintro e w' ⟨rfl,rfl⟩
  exact⟨Below.refl _ _,q,rfl,hr⟩
 | node c l x r'=>
  obtain⟨a,ha⟩:∃a,p=some a:=by
   obtain⟨b2,_,_,_,_,e,_⟩:=hl
   exact⟨_,e⟩
  subst ha
  have hz:(RT.node c l x r').size=l.size+1+r'.size:=rfl
  have hc:=cutLast_size r' l x
  exact together_node X d w a q _ _ _ (cutLast_core X d r' l c x (some a) w hl wl.left wl.right (by omega)) (fun V p k v hV h1 h2 h3=>join_14 X d V _ r _ p q k v h1 (hr.keeps hV) (RT.cutLast_well r' l x wl.left wl.right) wr h2 h3 (by omega))
def za3 (X:Nat→Prop) (d:Nat) (a b:RT PT) (w:World) (e:Ending) (w':World):Prop:=Below w.heap.size w w'∧∃p q,e=.returned (.tuple #[.pointer p,.pointer q])∧NM X d w' a p∧NM X d w' b q
theorem split_nil (f:Nat) (q1 q2:Option Addr) (w:World):Calls Tryz.prog 202 #[.pointer none,.func (.func f) #[] #[.pointer q1,.pointer q2]] w fun e w'=>e=.returned (.tuple #[.pointer none,.pointer none])∧w'=w:=by
 go_enter Tryz.func202,Tryz.ntmps202
 go_wp2_with fail
 go_ret2
 exact⟨rfl,rfl⟩
theorem split_lt (X:Nat→Prop) (d:Nat) (w:World) (x:PT) (b f:Nat) (q1 q2 pl pr:Option Addr) (ku vu:Value) (c:Bool) (S H K:Nat) (hn:NCells w b pl pr x ku vu c S H K) (eg:∀args w,(callFunc f args).run Tryz.prog w=.ok (.enter f args) w) (gx:Int) (hgx:gx<0)
 (hat:∀V,Below w.heap.size w V→Calls Tryz.prog f #[.agg #[.int .i64 x.1.kind,.int .i64 x.1.num,.string x.1.text,ku,.int .i64 x.2.kind,.int .i64 x.2.num,.string x.2.text,vu],.pointer q1,.pointer q2] V fun e w'=>e=.returned (.int .i64 gx)∧Below V.heap.size V w')
 (a0 b0 T:RT PT) (hi:∀V,Below w.heap.size w V→Calls Tryz.prog 202 #[.pointer pl,.func (.func f) #[] #[.pointer q1,.pointer q2]] V (za3 X d a0 b0 V)) (hj:∀V p,Below w.heap.size w V→NM X d V b0 p→Calls Tryz.prog 204 #[.pointer p,.agg #[.int .i64 x.1.kind,.int .i64 x.1.num,.string x.1.text,ku,.int .i64 x.2.kind,.int .i64 x.2.num,.string x.2.text,vu],.pointer pr] V (zab X d T V)) :
 Calls Tryz.prog 202 #[.pointer (some ⟨b,0,none⟩),.func (.func f) #[] #[.pointer q1,.pointer q2]] w (za3 X d a0 T w):=by
 obtain⟨c0,c1,c2,c3,c4,c5,c6,c7,c8,c9,_,_,_,_⟩:=hn
 have HA:Hid _:=hat
 have HI:Hid _:=hi
 have HJ:Hid _:=hj
 clear hi hj hat
 go_enter Tryz.func202,Tryz.ntmps202
 go_wp2_with (go_at_fn f;refine (HA.out _ (Below.refl _ _)).mono ?_;rintro e w1 ⟨rfl,hg1⟩;fail)
 go_at_fn f
 refine (HA.out _ (Below.refl _ _)).mono ?_
 rintro e w1 ⟨rfl,hg1⟩
 clear HA
 have c0:=zaa hg1 c0;have c1:=zaa hg1 c1;have c2:=zaa hg1 c2;have c3:=zaa hg1 c3;have c4:=zaa hg1 c4;have c5:=zaa hg1 c5;have c6:=zaa hg1 c6;have c7:=zaa hg1 c7;have c8:=zaa hg1 c8;have c9:=zaa hg1 c9
 have hn1 : ¬0<gx:=by omega
 go_wp2_with fail
 refine (HI.out _ hg1).mono ?_
 rintro e w2 ⟨hg2,pa,pb,rfl,hta,htb⟩
 have hb2:Below w.heap.size w w2:=hg1.trans (hg2.mono hg1.size)
 have c0:=zaa hg2 c0;have c1:=zaa hg2 c1;have c2:=zaa hg2 c2;have c3:=zaa hg2 c3;have c4:=zaa hg2 c4;have c5:=zaa hg2 c5;have c6:=zaa hg2 c6;have c7:=zaa hg2 c7;have c8:=zaa hg2 c8;have c9:=zaa hg2 c9
 have HTA:Hid (NM X d w2 a0 pa):=hta;have HTB:Hid (NM X d w2 b0 pb):=htb
 clear hta htb hg2 hg1 HI
 go_wp2_with fail
 go_region_held3 (fun w'=>w'.cell? ⟨b,1,none⟩=some (.pointer pr)∧w'.cell? ⟨b,2,none⟩=some (.int .i64 x.1.kind)∧w'.cell? ⟨b,3,none⟩=some (.int .i64 x.1.num)∧w'.cell? ⟨b,4,none⟩=some (.string x.1.text)∧w'.cell? ⟨b,5,none⟩=some (ku)∧w'.cell? ⟨b,6,none⟩=some (.int .i64 x.2.kind)∧w'.cell? ⟨b,7,none⟩=some (.int .i64 x.2.num)∧w'.cell? ⟨b,8,none⟩=some (.string x.2.text)∧w'.cell? ⟨b,9,none⟩=some (vu)) (go_keep) (first|(go_at_call 204;refine (HJ.out _ _ hb2.drew (HTB.out.keeps (Below.refl _ _).drew)).mono ?_;rintro e w5 ⟨hg5,p5,rfl,ht5⟩;have hbc:Below w2.heap.size w2 w5:=(Below.refl _ _).drew.trans hg5;have hbz:Below w.heap.size w w5:=hb2.trans (hbc.mono hb2.size);have HE:Hid (za3 X d a0 T w (.returned (.tuple #[.pointer pa,.pointer p5])) w5):=⟨hbz,pa,p5,rfl,HTA.out.keeps hbc,ht5⟩;have c1:=zaa hbc c1;have c2:=zaa hbc c2;have c3:=zaa hbc c3;have c4:=zaa hbc c4;have c5:=zaa hbc c5;have c6:=zaa hbc c6;have c7:=zaa hbc c7;have c8:=zaa hbc c8;have c9:=zaa hbc c9;clear hg5 ht5 hbz hbc))
 all_goals (first|(go_ret2;exact HE.out)|(go_wp2_with fail;go_ret2;exact HE.out))
theorem split_gt (X:Nat→Prop) (d:Nat) (w:World) (x:PT) (b f:Nat) (q1 q2 pl pr:Option Addr) (ku vu:Value) (c:Bool) (S H K:Nat) (hn:NCells w b pl pr x ku vu c S H K) (eg:∀args w,(callFunc f args).run Tryz.prog w=.ok (.enter f args) w) (gx:Int) (hgx:0<gx)
 (hat:∀V,Below w.heap.size w V→Calls Tryz.prog f #[.agg #[.int .i64 x.1.kind,.int .i64 x.1.num,.string x.1.text,ku,.int .i64 x.2.kind,.int .i64 x.2.num,.string x.2.text,vu],.pointer q1,.pointer q2] V fun e w'=>e=.returned (.int .i64 gx)∧Below V.heap.size V w')
 (a0 b0 T:RT PT) (hi:∀V,Below w.heap.size w V→Calls Tryz.prog 202 #[.pointer pr,.func (.func f) #[] #[.pointer q1,.pointer q2]] V (za3 X d a0 b0 V)) (hj:∀V p,Below w.heap.size w V→NM X d V a0 p→Calls Tryz.prog 204 #[.pointer pl,.agg #[.int .i64 x.1.kind,.int .i64 x.1.num,.string x.1.text,ku,.int .i64 x.2.kind,.int .i64 x.2.num,.string x.2.text,vu],.pointer p] V (zab X d T V)) :
 Calls Tryz.prog 202 #[.pointer (some ⟨b,0,none⟩),.func (.func f) #[] #[.pointer q1,.pointer q2]] w (za3 X d T b0 w):=by
 obtain⟨c0,c1,c2,c3,c4,c5,c6,c7,c8,c9,_,_,_,_⟩:=hn
 have HA:Hid _:=hat
 have HI:Hid _:=hi
 have HJ:Hid _:=hj
 clear hi hj hat
 go_enter Tryz.func202,Tryz.ntmps202
 go_wp2_with (go_at_fn f;refine (HA.out _ (Below.refl _ _)).mono ?_;rintro e w1 ⟨rfl,hg1⟩;fail)
 go_at_fn f
 refine (HA.out _ (Below.refl _ _)).mono ?_
 rintro e w1 ⟨rfl,hg1⟩
 clear HA
 have c0:=zaa hg1 c0;have c1:=zaa hg1 c1;have c2:=zaa hg1 c2;have c3:=zaa hg1 c3;have c4:=zaa hg1 c4;have c5:=zaa hg1 c5;have c6:=zaa hg1 c6;have c7:=zaa hg1 c7;have c8:=zaa hg1 c8;have c9:=zaa hg1 c9
 have hn1 : ¬gx<0:=by omega
 go_wp2_with fail
 refine (HI.out _ hg1).mono ?_
 rintro e w2 ⟨hg2,pa,pb,rfl,hta,htb⟩
 have hb2:Below w.heap.size w w2:=hg1.trans (hg2.mono hg1.size)
 have c0:=zaa hg2 c0;have c1:=zaa hg2 c1;have c2:=zaa hg2 c2;have c3:=zaa hg2 c3;have c4:=zaa hg2 c4;have c5:=zaa hg2 c5;have c6:=zaa hg2 c6;have c7:=zaa hg2 c7;have c8:=zaa hg2 c8;have c9:=zaa hg2 c9
 have HTA:Hid (NM X d w2 a0 pa):=hta;have HTB:Hid (NM X d w2 b0 pb):=htb
 clear hta htb hg2 hg1 HI
 go_wp2_with fail
 go_region_held3 (fun w'=>w'.cell? ⟨b,0,none⟩=some (.pointer pl)∧w'.cell? ⟨b,2,none⟩=some (.int .i64 x.1.kind)∧w'.cell? ⟨b,3,none⟩=some (.int .i64 x.1.num)∧w'.cell? ⟨b,4,none⟩=some (.string x.1.text)∧w'.cell? ⟨b,5,none⟩=some (ku)∧w'.cell? ⟨b,6,none⟩=some (.int .i64 x.2.kind)∧w'.cell? ⟨b,7,none⟩=some (.int .i64 x.2.num)∧w'.cell? ⟨b,8,none⟩=some (.string x.2.text)∧w'.cell? ⟨b,9,none⟩=some (vu)) (go_keep) (first|(go_at_call 204;refine (HJ.out _ _ hb2.drew (HTA.out.keeps (Below.refl _ _).drew)).mono ?_;rintro e w5 ⟨hg5,p5,rfl,ht5⟩;have hbc:Below w2.heap.size w2 w5:=(Below.refl _ _).drew.trans hg5;have hbz:Below w.heap.size w w5:=hb2.trans (hbc.mono hb2.size);have HE:Hid (za3 X d T b0 w (.returned (.tuple #[.pointer p5,.pointer pb])) w5):=⟨hbz,p5,pb,rfl,ht5,HTB.out.keeps hbc⟩;have c0:=zaa hbc c0;have c2:=zaa hbc c2;have c3:=zaa hbc c3;have c4:=zaa hbc c4;have c5:=zaa hbc c5;have c6:=zaa hbc c6;have c7:=zaa hbc c7;have c8:=zaa hbc c8;have c9:=zaa hbc c9;clear hg5 ht5 hbz hbc))
 all_goals (first|(go_ret2;exact HE.out)|(go_wp2_with fail;go_ret2;exact HE.out))
theorem split_eq (X:Nat→Prop) (d:Nat) (w:World) (x:PT) (b f:Nat) (q1 q2 pl pr:Option Addr) (ku vu:Value) (c:Bool) (S H K:Nat) (hn:NCells w b pl pr x ku vu c S H K) (eg:∀args w,(callFunc f args).run Tryz.prog w=.ok (.enter f args) w) (gx:Int) (hgx:gx=0)
 (hat:∀V,Below w.heap.size w V→Calls Tryz.prog f #[.agg #[.int .i64 x.1.kind,.int .i64 x.1.num,.string x.1.text,ku,.int .i64 x.2.kind,.int .i64 x.2.num,.string x.2.text,vu],.pointer q1,.pointer q2] V fun e w'=>e=.returned (.int .i64 gx)∧Below V.heap.size V w')
 (l r:RT PT) (hl:NM X d w l pl) (hr:NM X d w r pr) :
 Calls Tryz.prog 202 #[.pointer (some ⟨b,0,none⟩),.func (.func f) #[] #[.pointer q1,.pointer q2]] w (za3 X d l r w):=by
 obtain⟨c0,c1,c2,c3,c4,c5,c6,c7,c8,c9,_,_,_,_⟩:=hn
 have HA:Hid _:=hat
 have HL:Hid _:=hl
 have HRr:Hid _:=hr
 clear hat hl hr
 go_enter Tryz.func202,Tryz.ntmps202
 go_wp2_with (go_at_fn f;refine (HA.out _ (Below.refl _ _)).mono ?_;rintro e w1 ⟨rfl,hg1⟩;fail)
 go_at_fn f
 refine (HA.out _ (Below.refl _ _)).mono ?_
 rintro e w1 ⟨rfl,hg1⟩
 clear HA
 have c0:=zaa hg1 c0;have c1:=zaa hg1 c1;have c2:=zaa hg1 c2;have c3:=zaa hg1 c3;have c4:=zaa hg1 c4;have c5:=zaa hg1 c5;have c6:=zaa hg1 c6;have c7:=zaa hg1 c7;have c8:=zaa hg1 c8;have c9:=zaa hg1 c9
 subst hgx
 go_wp2_with fail
 go_region
 have HE:Hid (za3 X d l r w (.returned (.tuple #[.pointer pl,.pointer pr])) w1.drew):=⟨hg1.drew,pl,pr,rfl,HL.out.keeps hg1.drew,HRr.out.keeps hg1.drew⟩
 (first|(go_ret2;exact HE.out)|(go_wp2_with fail;go_ret2;exact HE.out))
def AtC (X:Nat→Prop) (d f:Nat) (q1 q2:Option Addr) (g:PT→Int) (P:PT→Prop) (w:World):Prop:=
 ∀V,Below w.heap.size w V→∀(x:PT) (ku vu:Value),P x→(LiesX X d V x.1.items ku∧x.1.text.size≤9223372036854775807)→(LiesX X d V x.2.items vu∧x.2.text.size≤9223372036854775807)→Calls Tryz.prog f #[.agg #[.int .i64 x.1.kind,.int .i64 x.1.num,.string x.1.text,ku,.int .i64 x.2.kind,.int .i64 x.2.num,.string x.2.text,vu],.pointer q1,.pointer q2] V fun e w'=>e=.returned (.int .i64 (g x))∧Below V.heap.size V w'
theorem AtC.keeps {X:Nat→Prop} {d f:Nat} {q1 q2:Option Addr} {g:PT→Int} {P:PT→Prop} {w w':World} (h:AtC X d f q1 q2 g P w) (hb:Below w.heap.size w w'):AtC X d f q1 q2 g P w':=fun V hV=>h V (hb.trans (hV.mono hb.size))
theorem za1 {α:Type} (g:α→Int):∀(t:RT α),(RT.split g t).1.size+(RT.split g t).2.size≤t.size
 | .nil=>Nat.le_refl _
 | .node c l x r=>by
  have h1:=za1 g l
  have h2:=za1 g r
  have hz:(RT.node c l x r).size=l.size+1+r.size:=rfl
  unfold RT.split
  split
  ·show (RT.split g l).1.size+(RT.join (RT.split g l).2 x r).size≤_
   rw [join_size];omega
  ·split
   ·show (RT.join l x (RT.split g r).1).size+(RT.split g r).2.size≤_
    rw [join_size];omega
   ·show l.size+r.size≤_
    omega
theorem split_14 (X:Nat→Prop) (d f:Nat) (q1 q2:Option Addr) (g:PT→Int) (P:PT→Prop) (eg:∀args w,(callFunc f args).run Tryz.prog w=.ok (.enter f args) w):∀(t:RT PT) (p:Option Addr) (w:World),AtC X d f q1 q2 g P w→NM X d w t p→RT.Well t→(∀x∈t.items,P x)→t.size<4611686018427387904→
 Calls Tryz.prog 202 #[.pointer p,.func (.func f) #[] #[.pointer q1,.pointer q2]] w (za3 X d (RT.split g t).1 (RT.split g t).2 w)
 | .nil,p,w,ha,hn,hw,hp,hs=>by
  have hp:p=none:=hn
  subst hp
  refine Calls.mono (split_nil f q1 q2 w) ?_
  rintro e w' ⟨rfl,rfl⟩
  exact⟨Below.refl _ _,none,none,rfl,rfl,rfl⟩
 | .node c l x r,p,w,ha,hn,hw,hp,hs=>by
  obtain⟨b,pl,pr,ku,vu,rfl,hc,hk,hv,hl,hr⟩:=hn
  have hz:(RT.node c l x r).size=l.size+1+r.size:=rfl
  have hat:=fun V (hV:Below w.heap.size w V)=>ha V hV x ku vu (hp x (by simp [RT.items])) ⟨LiesX.keeps hV hk.1,hk.2⟩ ⟨LiesX.keeps hV hv.1,hv.2⟩
  by_cases h1:g x<0
  ·have e9:RT.split g (.node c l x r)=((RT.split g l).1,RT.join (RT.split g l).2 x r):=by
    show (if _ then _ else _)=_
    rw [if_pos h1]
   rw [e9]
   have hsz:=za1 g l
   exact split_lt X d w x b f q1 q2 pl pr ku vu c _ _ _ hc eg (g x) h1 hat _ _ _ (fun V hV=>split_14 X d f q1 q2 g P eg l pl V (ha.keeps hV) (hl.keeps hV) hw.left (fun y hy=>hp y (by simp [RT.items,hy])) (by omega)) (fun V q hV hq=>join_14 X d V _ r x q pr ku vu hq (hr.keeps hV) (RT.split_well g l hw.left).2 hw.right ⟨LiesX.keeps hV hk.1,hk.2⟩ ⟨LiesX.keeps hV hv.1,hv.2⟩ (by omega))
  ·by_cases h2:0<g x
   ·have e9:RT.split g (.node c l x r)=(RT.join l x (RT.split g r).1,(RT.split g r).2):=by
     show (if _ then _ else if _ then _ else _)=_
     rw [if_neg h1,if_pos h2]
    rw [e9]
    have hsz:=za1 g r
    exact split_gt X d w x b f q1 q2 pl pr ku vu c _ _ _ hc eg (g x) h2 hat _ _ _ (fun V hV=>split_14 X d f q1 q2 g P eg r pr V (ha.keeps hV) (hr.keeps hV) hw.right (fun y hy=>hp y (by simp [RT.items,hy])) (by omega)) (fun V q hV hq=>join_14 X d V l _ x pl q ku vu (hl.keeps hV) hq hw.left (RT.split_well g r hw.right).1 ⟨LiesX.keeps hV hk.1,hk.2⟩ ⟨LiesX.keeps hV hv.1,hv.2⟩ (by omega))
   ·have e9:RT.split g (.node c l x r)=(l,r):=by
     show (if _ then _ else if _ then _ else _)=_
     rw [if_neg h1,if_neg h2]
    rw [e9]
    exact split_eq X d w x b f q1 q2 pl pr ku vu c _ _ _ hc eg (g x) (by omega) hat l r hl hr
def CmpC (X:Nat→Prop) (d f:Nat) (by0:Option Addr) (cmp:PT→PT→Int) (P:PT→Prop) (w:World):Prop:=
 ∀V,Below w.heap.size w V→∀(x y:PT) (ku vu ky vy:Value),P x→P y→(LiesX X d V x.1.items ku∧x.1.text.size≤9223372036854775807)→(LiesX X d V x.2.items vu∧x.2.text.size≤9223372036854775807)→(LiesX X d V y.1.items ky∧y.1.text.size≤9223372036854775807)→(LiesX X d V y.2.items vy∧y.2.text.size≤9223372036854775807)→
  Calls Tryz.prog f #[.agg #[.int .i64 x.1.kind,.int .i64 x.1.num,.string x.1.text,ku,.int .i64 x.2.kind,.int .i64 x.2.num,.string x.2.text,vu],.agg #[.int .i64 y.1.kind,.int .i64 y.1.num,.string y.1.text,ky,.int .i64 y.2.kind,.int .i64 y.2.num,.string y.2.text,vy],.pointer by0] V fun e w'=>e=.returned (.int .i64 (cmp x y))∧Below V.heap.size V w'
theorem CmpC.keeps {X:Nat→Prop} {d f:Nat} {by0:Option Addr} {cmp:PT→PT→Int} {P:PT→Prop} {w w':World} (h:CmpC X d f by0 cmp P w) (hb:Below w.heap.size w w'):CmpC X d f by0 cmp P w':=fun V hV=>h V (hb.trans (hV.mono hb.size))
theorem union1_core (f:Nat) (eg:∀args w,(callFunc f args).run Tryz.prog w=.ok (.enter f args) w) (by0:Option Addr) (b cb tb:Nat) (pl pr:Option Addr) (x y:PT) (ku vu ky vy:Value) (c:Bool) (S H K:Nat) (R:Int) (w:World) (hcb:w.cell? ⟨cb,0,none⟩=some (.func (.func f) #[] #[.pointer by0])) (htb:w.cell? ⟨tb,0,none⟩=some (.pointer (some ⟨b,0,none⟩))) (hn:NCells w b pl pr y ky vy c S H K)
 (hc:∀V,Below w.heap.size w V→Calls Tryz.prog f #[.agg #[.int .i64 y.1.kind,.int .i64 y.1.num,.string y.1.text,ky,.int .i64 y.2.kind,.int .i64 y.2.num,.string y.2.text,vy],.agg #[.int .i64 x.1.kind,.int .i64 x.1.num,.string x.1.text,ku,.int .i64 x.2.kind,.int .i64 x.2.num,.string x.2.text,vu],.pointer by0] V fun e w'=>e=.returned (.int .i64 R)∧Below V.heap.size V w') :
 Calls Tryz.prog 214 #[.agg #[.int .i64 x.1.kind,.int .i64 x.1.num,.string x.1.text,ku,.int .i64 x.2.kind,.int .i64 x.2.num,.string x.2.text,vu],.pointer (some ⟨cb,0,none⟩),.pointer (some ⟨tb,0,none⟩)] w fun e w'=>e=.returned (.int .i64 R)∧Below w.heap.size w w':=by
 have HC:Hid _:=hc
 obtain⟨c0,c1,c2,c3,c4,c5,c6,c7,c8,c9,_,_,_,_⟩:=hn
 have hb0:∀o,Below w.heap.size w (w.alloc o):=fun o=>((Grew.refl w).alloc o).below
 have h1:=zad hcb
 have h2:=zad htb
 have h3:=zad c0
 simp only at h1 h2 h3
 clear hc
 go_enter Tryz.func214,Tryz.ntmps214
 go_wp2_with fail
 obtain⟨W0,hW0⟩:∃W0,W0=w.alloc (.cells #[.int .i64 x.1.kind,.int .i64 x.1.num,.string x.1.text,ku,.int .i64 x.2.kind,.int .i64 x.2.num,.string x.2.text,vu] 108):=⟨_,rfl⟩
 rw [←hW0]
 have hb1:Below w.heap.size w W0:=by rw [hW0];exact hb0 _
 have x0:W0.cell? ⟨w.heap.size,0,none⟩=some (.int .i64 x.1.kind):=by rw [hW0];simp
 have x1:W0.cell? ⟨w.heap.size,1,none⟩=some (.int .i64 x.1.num):=by rw [hW0];simp
 have x2:W0.cell? ⟨w.heap.size,2,none⟩=some (.string x.1.text):=by rw [hW0];simp
 have x3:W0.cell? ⟨w.heap.size,3,none⟩=some (ku):=by rw [hW0];simp
 have x4:W0.cell? ⟨w.heap.size,4,none⟩=some (.int .i64 x.2.kind):=by rw [hW0];simp
 have x5:W0.cell? ⟨w.heap.size,5,none⟩=some (.int .i64 x.2.num):=by rw [hW0];simp
 have x6:W0.cell? ⟨w.heap.size,6,none⟩=some (.string x.2.text):=by rw [hW0];simp
 have x7:W0.cell? ⟨w.heap.size,7,none⟩=some (vu):=by rw [hW0];simp
 have c0:=zaa hb1 c0;have c1:=zaa hb1 c1;have c2:=zaa hb1 c2;have c3:=zaa hb1 c3;have c4:=zaa hb1 c4;have c5:=zaa hb1 c5;have c6:=zaa hb1 c6;have c7:=zaa hb1 c7;have c8:=zaa hb1 c8;have c9:=zaa hb1 c9;have hcb:=zaa hb1 hcb;have htb:=zaa hb1 htb
 clear hW0 hb0
 go_region_held3 (fun w'=>w'.cell? ⟨b,2,none⟩=some (.int .i64 y.1.kind)∧w'.cell? ⟨b,3,none⟩=some (.int .i64 y.1.num)∧w'.cell? ⟨b,4,none⟩=some (.string y.1.text)∧w'.cell? ⟨b,5,none⟩=some (ky)∧w'.cell? ⟨b,6,none⟩=some (.int .i64 y.2.kind)∧w'.cell? ⟨b,7,none⟩=some (.int .i64 y.2.num)∧w'.cell? ⟨b,8,none⟩=some (.string y.2.text)∧w'.cell? ⟨b,9,none⟩=some (vy)∧w'.cell? ⟨cb,0,none⟩=some (.func (.func f) #[] #[.pointer by0])∧w'.cell? ⟨tb,0,none⟩=some (.pointer (some ⟨b,0,none⟩))∧w'.cell? ⟨w.heap.size,0,none⟩=some (.int .i64 x.1.kind)∧w'.cell? ⟨w.heap.size,1,none⟩=some (.int .i64 x.1.num)∧w'.cell? ⟨w.heap.size,2,none⟩=some (.string x.1.text)∧w'.cell? ⟨w.heap.size,3,none⟩=some (ku)∧w'.cell? ⟨w.heap.size,4,none⟩=some (.int .i64 x.2.kind)∧w'.cell? ⟨w.heap.size,5,none⟩=some (.int .i64 x.2.num)∧w'.cell? ⟨w.heap.size,6,none⟩=some (.string x.2.text)∧w'.cell? ⟨w.heap.size,7,none⟩=some (vu)) (go_keep)
  (first|(go_at_fn f;(with_reducible refine Calls.mono (HC.out _ hb1.drew) ?_);rintro e w2 ⟨rfl,hg⟩;have hg2:Below W0.heap.size W0 w2:=(Below.refl _ _).drew.trans hg;have hb2:Below w.heap.size w w2:=hb1.trans (hg2.mono hb1.size);have c2:=zaa hg2 c2;have c3:=zaa hg2 c3;have c4:=zaa hg2 c4;have c5:=zaa hg2 c5;have c6:=zaa hg2 c6;have c7:=zaa hg2 c7;have c8:=zaa hg2 c8;have c9:=zaa hg2 c9;have hcb:=zaa hg2 hcb;have htb:=zaa hg2 htb;have x0:=zaa hg2 x0;have x1:=zaa hg2 x1;have x2:=zaa hg2 x2;have x3:=zaa hg2 x3;have x4:=zaa hg2 x4;have x5:=zaa hg2 x5;have x6:=zaa hg2 x6;have x7:=zaa hg2 x7;clear hg hg2))
 all_goals (first|(go_ret;exact⟨rfl,hb2⟩)|(go_wp2_with fail;go_ret;exact⟨rfl,hb2⟩))
theorem union_nilA (q:Option Addr) (g:Value) (hg:∃f l,g=.func f #[] l) (w:World):Calls Tryz.prog 148 #[.pointer none,.pointer q,g] w fun e w'=>e=.returned (.pointer q)∧Below w.heap.size w w':=by
 obtain⟨f,l,rfl⟩:=hg
 have hb:∀A B,Below w.heap.size w ((w.alloc A).alloc B):=fun A B=>(((Grew.refl w).alloc A).alloc B).below
 go_enter Tryz.func148,Tryz.ntmps148
 go_wp2_with fail
 go_ret
 exact⟨rfl,hb _ _⟩
theorem union_nilB (p:Addr) (g:Value) (hg:∃f l,g=.func f #[] l) (w:World):Calls Tryz.prog 148 #[.pointer (some p),.pointer none,g] w fun e w'=>e=.returned (.pointer (some p))∧Below w.heap.size w w':=by
 obtain⟨f,l,rfl⟩:=hg
 have hb:∀A B,Below w.heap.size w ((w.alloc A).alloc B):=fun A B=>(((Grew.refl w).alloc A).alloc B).below
 go_enter Tryz.func148,Tryz.ntmps148
 go_wp2_with fail
 go_ret
 exact⟨rfl,hb _ _⟩
theorem union_node (X:Nat→Prop) (d f:Nat) (by0:Option Addr) (w:World) (p:Addr) (b:Nat) (pl pr:Option Addr) (y:PT) (ky vy:Value) (c:Bool) (S H K:Nat) (hn:NCells w b pl pr y ky vy c S H K) (a0 b0 T1 T2 T:RT PT)
 (hs:∀V,Below w.heap.size w V→V.cell? ⟨w.heap.size+1,0,none⟩=some (.func (.func f) #[] #[.pointer by0])→V.cell? ⟨w.heap.size,0,none⟩=some (.pointer (some ⟨b,0,none⟩))→Calls Tryz.prog 202 #[.pointer (some p),.func (.func 214) #[] #[.pointer (some ⟨w.heap.size+1,0,none⟩),.pointer (some ⟨w.heap.size,0,none⟩)]] V (za3 X d a0 b0 V))
 (hu1:∀V p1,Below w.heap.size w V→NM X d V a0 p1→Calls Tryz.prog 148 #[.pointer p1,.pointer pl,.func (.func f) #[] #[.pointer by0]] V (zab X d T1 V))
 (hu2:∀V p2,Below w.heap.size w V→NM X d V b0 p2→Calls Tryz.prog 148 #[.pointer p2,.pointer pr,.func (.func f) #[] #[.pointer by0]] V (zab X d T2 V))
 (hj:∀V p1 p2,Below w.heap.size w V→NM X d V T1 p1→NM X d V T2 p2→Calls Tryz.prog 204 #[.pointer p1,.agg #[.int .i64 y.1.kind,.int .i64 y.1.num,.string y.1.text,ky,.int .i64 y.2.kind,.int .i64 y.2.num,.string y.2.text,vy],.pointer p2] V (zab X d T V)) :
 Calls Tryz.prog 148 #[.pointer (some p),.pointer (some ⟨b,0,none⟩),.func (.func f) #[] #[.pointer by0]] w (zab X d T w):=by
 have HS:Hid _:=hs
 have H1:Hid _:=hu1
 have H2:Hid _:=hu2
 have HJ:Hid _:=hj
 obtain⟨c0,c1,c2,c3,c4,c5,c6,c7,c8,c9,_,_,_,_⟩:=hn
 have HB:Hid (∀A B,Below w.heap.size w ((w.alloc A).alloc B)):=fun A B=>(((Grew.refl w).alloc A).alloc B).below
 clear hs hu1 hu2 hj
 go_enter Tryz.func148,Tryz.ntmps148
 go_wp2_with fail
 obtain⟨W0,hW0⟩:∃W0,W0=(w.alloc (.cells #[.pointer (some ⟨b,0,none⟩)] 160)).alloc (.cells #[.func (.func f) #[] #[.pointer by0]] 204):=⟨_,rfl⟩
 rw [←hW0]
 have hb0:Below w.heap.size w W0:=by rw [hW0];exact HB.out _ _
 have t0:W0.cell? ⟨w.heap.size,0,none⟩=some (.pointer (some ⟨b,0,none⟩)):=by rw [hW0];exact zaa ((Grew.refl _).alloc _).below (show (w.alloc (.cells #[.pointer (some ⟨b,0,none⟩)] 160)).cell? ⟨w.heap.size,0,none⟩=_ by simp)
 have t1:W0.cell? ⟨w.heap.size+1,0,none⟩=some (.func (.func f) #[] #[.pointer by0]):=by
  rw [hW0]
  have h9:((w.alloc (.cells #[.pointer (some ⟨b,0,none⟩)] 160)).alloc (.cells #[.func (.func f) #[] #[.pointer by0]] 204)).cell? ⟨(w.alloc (.cells #[.pointer (some ⟨b,0,none⟩)] 160)).heap.size,0,none⟩=some (.func (.func f) #[] #[.pointer by0]):=by simp
  rwa [World.size_alloc] at h9
 clear hW0
 refine (HS.out _ hb0 t1 t0).mono ?_
 rintro e w1 ⟨hg1,p1,p2,rfl,ht1,ht2⟩
 have hb1:Below w.heap.size w w1:=hb0.trans (hg1.mono hb0.size)
 have t0:=zaa hg1 t0;have t1:=zaa hg1 t1
 have c0:=zaa hb1 c0;have c1:=zaa hb1 c1;have c2:=zaa hb1 c2;have c3:=zaa hb1 c3;have c4:=zaa hb1 c4;have c5:=zaa hb1 c5;have c6:=zaa hb1 c6;have c7:=zaa hb1 c7;have c8:=zaa hb1 c8;have c9:=zaa hb1 c9
 have HT1:Hid (NM X d w1 a0 p1):=ht1
 have HT2:Hid (NM X d w1 b0 p2):=ht2
 clear ht1 ht2 hg1 HS hb0
 go_wp2_with fail
 have hbc:Below w1.heap.size w1 w1.drew:=(Below.refl _ _).drew
 go_region_held3 (fun w'=>w'.cell? ⟨b,0,none⟩=some (.pointer pl)∧w'.cell? ⟨b,1,none⟩=some (.pointer pr)∧w'.cell? ⟨b,2,none⟩=some (.int .i64 y.1.kind)∧w'.cell? ⟨b,3,none⟩=some (.int .i64 y.1.num)∧w'.cell? ⟨b,4,none⟩=some (.string y.1.text)∧w'.cell? ⟨b,5,none⟩=some (ky)∧w'.cell? ⟨b,6,none⟩=some (.int .i64 y.2.kind)∧w'.cell? ⟨b,7,none⟩=some (.int .i64 y.2.num)∧w'.cell? ⟨b,8,none⟩=some (.string y.2.text)∧w'.cell? ⟨b,9,none⟩=some (vy)∧w'.cell? ⟨w.heap.size,0,none⟩=some (.pointer (some ⟨b,0,none⟩))∧w'.cell? ⟨w.heap.size+1,0,none⟩=some (.func (.func f) #[] #[.pointer by0])) (go_keep)
  (first
   | (go_at_call 204;(with_reducible refine Calls.mono (HJ.out _ _ _ (hb1.trans (hbc.mono hb1.size)) HP.out HQ.out) ?_);rintro e w7 ⟨hg,z7,rfl,ht⟩;have HE:Hid (zab X d T w (.returned (.pointer z7)) w7):=⟨(hb1.trans (hbc.mono hb1.size)).trans (hg.mono (hb1.trans (hbc.mono hb1.size)).size),z7,rfl,ht⟩;have c0:=zaa hg c0;have c1:=zaa hg c1;have c2:=zaa hg c2;have c3:=zaa hg c3;have c4:=zaa hg c4;have c5:=zaa hg c5;have c6:=zaa hg c6;have c7:=zaa hg c7;have c8:=zaa hg c8;have c9:=zaa hg c9;have t0:=zaa hg t0;have t1:=zaa hg t1;clear hg ht)
   | (go_at_call 148;(with_reducible refine Calls.mono (H1.out _ _ (hb1.trans (hbc.mono hb1.size)) (HT1.out.keeps hbc)) ?_);rintro e w5 ⟨hg,z5,rfl,ht⟩;have HP:Hid (NM X d w5 T1 z5):=ht;(try have HQ:Hid (NM X d w5 T2 _):=HQ.out.keeps hg);replace hbc:=hbc.trans (hg.mono hbc.size);have c0:=zaa hg c0;have c1:=zaa hg c1;have c2:=zaa hg c2;have c3:=zaa hg c3;have c4:=zaa hg c4;have c5:=zaa hg c5;have c6:=zaa hg c6;have c7:=zaa hg c7;have c8:=zaa hg c8;have c9:=zaa hg c9;have t0:=zaa hg t0;have t1:=zaa hg t1;clear hg ht)
   | (go_at_call 148;(with_reducible refine Calls.mono (H2.out _ _ (hb1.trans (hbc.mono hb1.size)) (HT2.out.keeps hbc)) ?_);rintro e w6 ⟨hg,z6,rfl,ht⟩;have HQ:Hid (NM X d w6 T2 z6):=ht;(try have HP:Hid (NM X d w6 T1 _):=HP.out.keeps hg);replace hbc:=hbc.trans (hg.mono hbc.size);have c0:=zaa hg c0;have c1:=zaa hg c1;have c2:=zaa hg c2;have c3:=zaa hg c3;have c4:=zaa hg c4;have c5:=zaa hg c5;have c6:=zaa hg c6;have c7:=zaa hg c7;have c8:=zaa hg c8;have c9:=zaa hg c9;have t0:=zaa hg t0;have t1:=zaa hg t1;clear hg ht))
 all_goals (first|(go_ret;exact HE.out)|(go_wp2_with fail;go_ret;exact HE.out))
theorem eg_union1:∀args w,(callFunc 214 args).run Tryz.prog w=.ok (.enter 214 args) w:=enters_of Tryz.func214 (by kernel_rfl) rfl
theorem union_sizes {α:Type} (cmp:α→α→Int):∀(b a:RT α),(RT.union cmp b a).size≤b.size+a.size
 | .nil,a=>by show a.size≤_;simp [RT.size]
 | .node c l x r,.nil=>by show (RT.node c l x r).size≤_;simp [RT.size]
 | .node c l x r,.node c2 l2 x2 r2=>by
  have h1:=union_sizes cmp l (RT.split (cmp x) (.node c2 l2 x2 r2)).1
  have h2:=union_sizes cmp r (RT.split (cmp x) (.node c2 l2 x2 r2)).2
  have h3:=za1 (cmp x) (.node c2 l2 x2 r2)
  show (RT.join _ x _).size≤(l.size+1+r.size)+_
  rw [join_size]
  omega
theorem split_mem {α:Type} (g:α→Int):∀(t:RT α),(∀y∈(RT.split g t).1.items,y∈t.items)∧(∀y∈(RT.split g t).2.items,y∈t.items)
 | .nil=>⟨fun _ h=>h,fun _ h=>h⟩
 | .node c l x r=>by
  obtain⟨h1,h2⟩:=split_mem g l
  obtain⟨h3,h4⟩:=split_mem g r
  have hi:∀y,y∈(RT.node c l x r).items↔y∈l.items∨y=x∨y∈r.items:=fun y=>by simp [RT.items]
  unfold RT.split
  split
  ·refine⟨fun y hy=>(hi y).2 (.inl (h1 y hy)),fun y hy=>(hi y).2 ?_⟩
   have hy':y∈(RT.join (RT.split g l).2 x r).items:=hy
   rw [RT.join_items] at hy'
   rcases List.mem_append.1 hy' with h|h
   ·exact .inl (h2 y h)
   ·rcases List.mem_cons.1 h with h|h
    ·exact .inr (.inl h)
    ·exact .inr (.inr h)
  ·split
   ·refine⟨fun y hy=>(hi y).2 ?_,fun y hy=>(hi y).2 (.inr (.inr (h4 y hy)))⟩
    have hy':y∈(RT.join l x (RT.split g r).1).items:=hy
    rw [RT.join_items] at hy'
    rcases List.mem_append.1 hy' with h|h
    ·exact .inl h
    ·rcases List.mem_cons.1 h with h|h
     ·exact .inr (.inl h)
     ·exact .inr (.inr (h3 y h))
   ·exact⟨fun y hy=>(hi y).2 (.inl hy),fun y hy=>(hi y).2 (.inr (.inr hy))⟩
theorem union_14 (X:Nat→Prop) (d f:Nat) (eg:∀args w,(callFunc f args).run Tryz.prog w=.ok (.enter f args) w) (by0:Option Addr) (cmp:PT→PT→Int) (P:PT→Prop):∀(tb ta:RT PT) (pb pa:Option Addr) (w:World),CmpC X d f by0 cmp P w→NM X d w tb pb→NM X d w ta pa→RT.Well tb→RT.Well ta→(∀x∈tb.items,P x)→(∀x∈ta.items,P x)→tb.size+ta.size<4611686018427387904→
 Calls Tryz.prog 148 #[.pointer pa,.pointer pb,.func (.func f) #[] #[.pointer by0]] w (zab X d (RT.union cmp tb ta) w)
 | .nil,ta,pb,pa,w,hc,hb,ha,wb,wa,qb,qa,hz=>by
  have hpb:pb=none:=hb
  subst hpb
  cases pa with
  | none=>
   refine Calls.mono (union_nilA none _ ⟨_,_,rfl⟩ w) ?_
   rintro e w' ⟨rfl,hg⟩
   exact⟨hg,none,rfl,ha.keeps hg⟩
  | some p=>
   refine Calls.mono (union_nilB p _ ⟨_,_,rfl⟩ w) ?_
   rintro e w' ⟨rfl,hg⟩
   exact⟨hg,some p,rfl,ha.keeps hg⟩
 | .node c l y r,.nil,pb,pa,w,hc,hb,ha,wb,wa,qb,qa,hz=>by
  have hpa:pa=none:=ha
  subst hpa
  refine Calls.mono (union_nilA pb _ ⟨_,_,rfl⟩ w) ?_
  rintro e w' ⟨rfl,hg⟩
  exact⟨hg,pb,rfl,hb.keeps hg⟩
 | .node c l y r,.node c2 l2 y2 r2,pb,pa,w,hc,hb,ha,wb,wa,qb,qa,hz=>by
  obtain⟨b,pl,pr,ky,vy,rfl,hn,hk,hv,hl,hr⟩:=hb
  obtain⟨p,hp⟩:∃p,pa=some p:=by
   obtain⟨b2,_,_,_,_,e,_⟩:=ha
   exact⟨_,e⟩
  subst hp
  have hyP:P y:=qb y (by simp [RT.items])
  have hsz:=za1 (cmp y) (.node c2 l2 y2 r2)
  have hsw:=RT.split_well (cmp y) _ wa
  have hsm:=split_mem (cmp y) (.node c2 l2 y2 r2)
  have hzz:(RT.node c l y r).size=l.size+1+r.size:=rfl
  have hu1:=union_sizes cmp l (RT.split (cmp y) (.node c2 l2 y2 r2)).1
  have hu2:=union_sizes cmp r (RT.split (cmp y) (.node c2 l2 y2 r2)).2
  refine union_node X d f by0 w p b pl pr y ky vy c _ _ _ hn (RT.split (cmp y) (.node c2 l2 y2 r2)).1 (RT.split (cmp y) (.node c2 l2 y2 r2)).2 (RT.union cmp l (RT.split (cmp y) (.node c2 l2 y2 r2)).1) (RT.union cmp r (RT.split (cmp y) (.node c2 l2 y2 r2)).2) _ (fun V hV h1 h0=>?_) (fun V p1 hV h1=>?_) (fun V p2 hV h2=>?_) (fun V p1 p2 hV h1 h2=>?_)
  ·refine split_14 X d 214 _ _ (cmp y) P eg_union1 _ (some p) V ?_ (ha.keeps hV) wa qa (by omega)
   intro V2 hV2 x ku vu hx hkx hvx
   have hVV:Below w.heap.size w V2:=hV.trans (hV2.mono hV.size)
   refine union1_core f eg by0 b _ _ pl pr x y ku vu ky vy c _ _ _ _ V2 (zaa hV2 h1) (zaa hV2 h0) (hn.keeps hVV) fun V3 hV3=>?_
   have h9:Below w.heap.size w V3:=hVV.trans (hV3.mono hVV.size)
   exact hc V3 h9 y x ky vy ku vu hyP hx ⟨LiesX.keeps h9 hk.1,hk.2⟩ ⟨LiesX.keeps h9 hv.1,hv.2⟩ ⟨LiesX.keeps hV3 hkx.1,hkx.2⟩ ⟨LiesX.keeps hV3 hvx.1,hvx.2⟩
  ·exact union_14 X d f eg by0 cmp P l _ pl p1 V (hc.keeps hV) (hl.keeps hV) h1 wb.left hsw.1 (fun x hx=>qb x (by simp [RT.items,hx])) (fun x hx=>qa x (hsm.1 x hx)) (by omega)
  ·exact union_14 X d f eg by0 cmp P r _ pr p2 V (hc.keeps hV) (hr.keeps hV) h2 wb.right hsw.2 (fun x hx=>qb x (by simp [RT.items,hx])) (fun x hx=>qa x (hsm.2 x hx)) (by omega)
  ·exact join_14 X d V _ _ y p1 p2 ky vy h1 h2 (RT.union_well cmp l _ wb.left hsw.1) (RT.union_well cmp r _ wb.right hsw.2) ⟨LiesX.keeps hV hk.1,hk.2⟩ ⟨LiesX.keeps hV hv.1,hv.2⟩ (by omega)
theorem less1_core (f:Nat) (eg:∀args w,(callFunc f args).run Tryz.prog w=.ok (.enter f args) w) (by0:Option Addr) (b cb tb:Nat) (pl pr:Option Addr) (x y:PT) (ku vu ky vy:Value) (c:Bool) (S H K:Nat) (R:Int) (w:World) (hcb:w.cell? ⟨cb,0,none⟩=some (.func (.func f) #[] #[.pointer by0])) (htb:w.cell? ⟨tb,0,none⟩=some (.pointer (some ⟨b,0,none⟩))) (hn:NCells w b pl pr y ky vy c S H K)
 (hc:∀V,Below w.heap.size w V→Calls Tryz.prog f #[.agg #[.int .i64 y.1.kind,.int .i64 y.1.num,.string y.1.text,ky,.int .i64 y.2.kind,.int .i64 y.2.num,.string y.2.text,vy],.agg #[.int .i64 x.1.kind,.int .i64 x.1.num,.string x.1.text,ku,.int .i64 x.2.kind,.int .i64 x.2.num,.string x.2.text,vu],.pointer by0] V fun e w'=>e=.returned (.int .i64 R)∧Below V.heap.size V w') :
 Calls Tryz.prog 217 #[.agg #[.int .i64 x.1.kind,.int .i64 x.1.num,.string x.1.text,ku,.int .i64 x.2.kind,.int .i64 x.2.num,.string x.2.text,vu],.pointer (some ⟨cb,0,none⟩),.pointer (some ⟨tb,0,none⟩)] w fun e w'=>e=.returned (.int .i64 R)∧Below w.heap.size w w':=by
 have HC:Hid _:=hc
 obtain⟨c0,c1,c2,c3,c4,c5,c6,c7,c8,c9,_,_,_,_⟩:=hn
 have hb0:∀o,Below w.heap.size w (w.alloc o):=fun o=>((Grew.refl w).alloc o).below
 have h1:=zad hcb
 have h2:=zad htb
 have h3:=zad c0
 simp only at h1 h2 h3
 clear hc
 go_enter Tryz.func217,Tryz.ntmps217
 go_wp2_with fail
 obtain⟨W0,hW0⟩:∃W0,W0=w.alloc (.cells #[.int .i64 x.1.kind,.int .i64 x.1.num,.string x.1.text,ku,.int .i64 x.2.kind,.int .i64 x.2.num,.string x.2.text,vu] 108):=⟨_,rfl⟩
 rw [←hW0]
 have hb1:Below w.heap.size w W0:=by rw [hW0];exact hb0 _
 have x0:W0.cell? ⟨w.heap.size,0,none⟩=some (.int .i64 x.1.kind):=by rw [hW0];simp
 have x1:W0.cell? ⟨w.heap.size,1,none⟩=some (.int .i64 x.1.num):=by rw [hW0];simp
 have x2:W0.cell? ⟨w.heap.size,2,none⟩=some (.string x.1.text):=by rw [hW0];simp
 have x3:W0.cell? ⟨w.heap.size,3,none⟩=some (ku):=by rw [hW0];simp
 have x4:W0.cell? ⟨w.heap.size,4,none⟩=some (.int .i64 x.2.kind):=by rw [hW0];simp
 have x5:W0.cell? ⟨w.heap.size,5,none⟩=some (.int .i64 x.2.num):=by rw [hW0];simp
 have x6:W0.cell? ⟨w.heap.size,6,none⟩=some (.string x.2.text):=by rw [hW0];simp
 have x7:W0.cell? ⟨w.heap.size,7,none⟩=some (vu):=by rw [hW0];simp
 have c0:=zaa hb1 c0;have c1:=zaa hb1 c1;have c2:=zaa hb1 c2;have c3:=zaa hb1 c3;have c4:=zaa hb1 c4;have c5:=zaa hb1 c5;have c6:=zaa hb1 c6;have c7:=zaa hb1 c7;have c8:=zaa hb1 c8;have c9:=zaa hb1 c9;have hcb:=zaa hb1 hcb;have htb:=zaa hb1 htb
 clear hW0 hb0
 go_region_held3 (fun w'=>w'.cell? ⟨b,2,none⟩=some (.int .i64 y.1.kind)∧w'.cell? ⟨b,3,none⟩=some (.int .i64 y.1.num)∧w'.cell? ⟨b,4,none⟩=some (.string y.1.text)∧w'.cell? ⟨b,5,none⟩=some (ky)∧w'.cell? ⟨b,6,none⟩=some (.int .i64 y.2.kind)∧w'.cell? ⟨b,7,none⟩=some (.int .i64 y.2.num)∧w'.cell? ⟨b,8,none⟩=some (.string y.2.text)∧w'.cell? ⟨b,9,none⟩=some (vy)∧w'.cell? ⟨cb,0,none⟩=some (.func (.func f) #[] #[.pointer by0])∧w'.cell? ⟨tb,0,none⟩=some (.pointer (some ⟨b,0,none⟩))∧w'.cell? ⟨w.heap.size,0,none⟩=some (.int .i64 x.1.kind)∧w'.cell? ⟨w.heap.size,1,none⟩=some (.int .i64 x.1.num)∧w'.cell? ⟨w.heap.size,2,none⟩=some (.string x.1.text)∧w'.cell? ⟨w.heap.size,3,none⟩=some (ku)∧w'.cell? ⟨w.heap.size,4,none⟩=some (.int .i64 x.2.kind)∧w'.cell? ⟨w.heap.size,5,none⟩=some (.int .i64 x.2.num)∧w'.cell? ⟨w.heap.size,6,none⟩=some (.string x.2.text)∧w'.cell? ⟨w.heap.size,7,none⟩=some (vu)) (go_keep)
  (first|(go_at_fn f;(with_reducible refine Calls.mono (HC.out _ hb1.drew) ?_);rintro e w2 ⟨rfl,hg⟩;have hg2:Below W0.heap.size W0 w2:=(Below.refl _ _).drew.trans hg;have hb2:Below w.heap.size w w2:=hb1.trans (hg2.mono hb1.size);have c2:=zaa hg2 c2;have c3:=zaa hg2 c3;have c4:=zaa hg2 c4;have c5:=zaa hg2 c5;have c6:=zaa hg2 c6;have c7:=zaa hg2 c7;have c8:=zaa hg2 c8;have c9:=zaa hg2 c9;have hcb:=zaa hg2 hcb;have htb:=zaa hg2 htb;have x0:=zaa hg2 x0;have x1:=zaa hg2 x1;have x2:=zaa hg2 x2;have x3:=zaa hg2 x3;have x4:=zaa hg2 x4;have x5:=zaa hg2 x5;have x6:=zaa hg2 x6;have x7:=zaa hg2 x7;clear hg hg2))
 all_goals (first|(go_ret;exact⟨rfl,hb2⟩)|(go_wp2_with fail;go_ret;exact⟨rfl,hb2⟩))
theorem less_nilA (q:Option Addr) (g:Value) (hg:∃f l,g=.func f #[] l) (w:World):Calls Tryz.prog 150 #[.pointer none,.pointer q,g] w fun e w'=>e=.returned (.pointer none)∧Below w.heap.size w w':=by
 obtain⟨f,l,rfl⟩:=hg
 have hb:∀A B,Below w.heap.size w ((w.alloc A).alloc B):=fun A B=>(((Grew.refl w).alloc A).alloc B).below
 go_enter Tryz.func150,Tryz.ntmps150
 go_wp2_with fail
 go_ret
 exact⟨rfl,hb _ _⟩
theorem less_nilB (p:Addr) (g:Value) (hg:∃f l,g=.func f #[] l) (w:World):Calls Tryz.prog 150 #[.pointer (some p),.pointer none,g] w fun e w'=>e=.returned (.pointer (some p))∧Below w.heap.size w w':=by
 obtain⟨f,l,rfl⟩:=hg
 have hb:∀A B,Below w.heap.size w ((w.alloc A).alloc B):=fun A B=>(((Grew.refl w).alloc A).alloc B).below
 go_enter Tryz.func150,Tryz.ntmps150
 go_wp2_with fail
 go_ret
 exact⟨rfl,hb _ _⟩
theorem less_node (X:Nat→Prop) (d f:Nat) (by0:Option Addr) (w:World) (p:Addr) (b:Nat) (pl pr:Option Addr) (y:PT) (ky vy:Value) (c:Bool) (S H K:Nat) (hn:NCells w b pl pr y ky vy c S H K) (a0 b0 T1 T2 T:RT PT)
 (hs:∀V,Below w.heap.size w V→V.cell? ⟨w.heap.size+1,0,none⟩=some (.func (.func f) #[] #[.pointer by0])→V.cell? ⟨w.heap.size,0,none⟩=some (.pointer (some ⟨b,0,none⟩))→Calls Tryz.prog 202 #[.pointer (some p),.func (.func 217) #[] #[.pointer (some ⟨w.heap.size+1,0,none⟩),.pointer (some ⟨w.heap.size,0,none⟩)]] V (za3 X d a0 b0 V))
 (hu1:∀V p1,Below w.heap.size w V→NM X d V a0 p1→Calls Tryz.prog 150 #[.pointer p1,.pointer pl,.func (.func f) #[] #[.pointer by0]] V (zab X d T1 V))
 (hu2:∀V p2,Below w.heap.size w V→NM X d V b0 p2→Calls Tryz.prog 150 #[.pointer p2,.pointer pr,.func (.func f) #[] #[.pointer by0]] V (zab X d T2 V))
 (hj:∀V p1 p2,Below w.heap.size w V→NM X d V T1 p1→NM X d V T2 p2→Calls Tryz.prog 201 #[.pointer p1,.pointer p2] V (zab X d T V)) :
 Calls Tryz.prog 150 #[.pointer (some p),.pointer (some ⟨b,0,none⟩),.func (.func f) #[] #[.pointer by0]] w (zab X d T w):=by
 have HS:Hid _:=hs
 have H1:Hid _:=hu1
 have H2:Hid _:=hu2
 have HJ:Hid _:=hj
 obtain⟨c0,c1,c2,c3,c4,c5,c6,c7,c8,c9,_,_,_,_⟩:=hn
 have HB:Hid (∀A B,Below w.heap.size w ((w.alloc A).alloc B)):=fun A B=>(((Grew.refl w).alloc A).alloc B).below
 clear hs hu1 hu2 hj
 go_enter Tryz.func150,Tryz.ntmps150
 go_wp2_with fail
 obtain⟨W0,hW0⟩:∃W0,W0=(w.alloc (.cells #[.pointer (some ⟨b,0,none⟩)] 160)).alloc (.cells #[.func (.func f) #[] #[.pointer by0]] 204):=⟨_,rfl⟩
 rw [←hW0]
 have hb0:Below w.heap.size w W0:=by rw [hW0];exact HB.out _ _
 have t0:W0.cell? ⟨w.heap.size,0,none⟩=some (.pointer (some ⟨b,0,none⟩)):=by rw [hW0];exact zaa ((Grew.refl _).alloc _).below (show (w.alloc (.cells #[.pointer (some ⟨b,0,none⟩)] 160)).cell? ⟨w.heap.size,0,none⟩=_ by simp)
 have t1:W0.cell? ⟨w.heap.size+1,0,none⟩=some (.func (.func f) #[] #[.pointer by0]):=by
  rw [hW0]
  have h9:((w.alloc (.cells #[.pointer (some ⟨b,0,none⟩)] 160)).alloc (.cells #[.func (.func f) #[] #[.pointer by0]] 204)).cell? ⟨(w.alloc (.cells #[.pointer (some ⟨b,0,none⟩)] 160)).heap.size,0,none⟩=some (.func (.func f) #[] #[.pointer by0]):=by simp
  rwa [World.size_alloc] at h9
 clear hW0
 refine (HS.out _ hb0 t1 t0).mono ?_
 rintro e w1 ⟨hg1,p1,p2,rfl,ht1,ht2⟩
 have hb1:Below w.heap.size w w1:=hb0.trans (hg1.mono hb0.size)
 have t0:=zaa hg1 t0;have t1:=zaa hg1 t1
 have c0:=zaa hb1 c0;have c1:=zaa hb1 c1;have c2:=zaa hb1 c2;have c3:=zaa hb1 c3;have c4:=zaa hb1 c4;have c5:=zaa hb1 c5;have c6:=zaa hb1 c6;have c7:=zaa hb1 c7;have c8:=zaa hb1 c8;have c9:=zaa hb1 c9
 have HT1:Hid (NM X d w1 a0 p1):=ht1
 have HT2:Hid (NM X d w1 b0 p2):=ht2
 clear ht1 ht2 hg1 HS hb0
 go_wp2_with fail
 have hbc:Below w1.heap.size w1 w1.drew:=(Below.refl _ _).drew
 go_region_held3 (fun w'=>w'.cell? ⟨b,0,none⟩=some (.pointer pl)∧w'.cell? ⟨b,1,none⟩=some (.pointer pr)∧w'.cell? ⟨b,2,none⟩=some (.int .i64 y.1.kind)∧w'.cell? ⟨b,3,none⟩=some (.int .i64 y.1.num)∧w'.cell? ⟨b,4,none⟩=some (.string y.1.text)∧w'.cell? ⟨b,5,none⟩=some (ky)∧w'.cell? ⟨b,6,none⟩=some (.int .i64 y.2.kind)∧w'.cell? ⟨b,7,none⟩=some (.int .i64 y.2.num)∧w'.cell? ⟨b,8,none⟩=some (.string y.2.text)∧w'.cell? ⟨b,9,none⟩=some (vy)∧w'.cell? ⟨w.heap.size,0,none⟩=some (.pointer (some ⟨b,0,none⟩))∧w'.cell? ⟨w.heap.size+1,0,none⟩=some (.func (.func f) #[] #[.pointer by0])) (go_keep)
  (first
   | (go_at_call 201;(with_reducible refine Calls.mono (HJ.out _ _ _ (hb1.trans (hbc.mono hb1.size)) HP.out HQ.out) ?_);rintro e w7 ⟨hg,z7,rfl,ht⟩;have HE:Hid (zab X d T w (.returned (.pointer z7)) w7):=⟨(hb1.trans (hbc.mono hb1.size)).trans (hg.mono (hb1.trans (hbc.mono hb1.size)).size),z7,rfl,ht⟩;have c0:=zaa hg c0;have c1:=zaa hg c1;have c2:=zaa hg c2;have c3:=zaa hg c3;have c4:=zaa hg c4;have c5:=zaa hg c5;have c6:=zaa hg c6;have c7:=zaa hg c7;have c8:=zaa hg c8;have c9:=zaa hg c9;have t0:=zaa hg t0;have t1:=zaa hg t1;clear hg ht)
   | (go_at_call 150;(with_reducible refine Calls.mono (H1.out _ _ (hb1.trans (hbc.mono hb1.size)) (HT1.out.keeps hbc)) ?_);rintro e w5 ⟨hg,z5,rfl,ht⟩;have HP:Hid (NM X d w5 T1 z5):=ht;(try have HQ:Hid (NM X d w5 T2 _):=HQ.out.keeps hg);replace hbc:=hbc.trans (hg.mono hbc.size);have c0:=zaa hg c0;have c1:=zaa hg c1;have c2:=zaa hg c2;have c3:=zaa hg c3;have c4:=zaa hg c4;have c5:=zaa hg c5;have c6:=zaa hg c6;have c7:=zaa hg c7;have c8:=zaa hg c8;have c9:=zaa hg c9;have t0:=zaa hg t0;have t1:=zaa hg t1;clear hg ht)
   | (go_at_call 150;(with_reducible refine Calls.mono (H2.out _ _ (hb1.trans (hbc.mono hb1.size)) (HT2.out.keeps hbc)) ?_);rintro e w6 ⟨hg,z6,rfl,ht⟩;have HQ:Hid (NM X d w6 T2 z6):=ht;(try have HP:Hid (NM X d w6 T1 _):=HP.out.keeps hg);replace hbc:=hbc.trans (hg.mono hbc.size);have c0:=zaa hg c0;have c1:=zaa hg c1;have c2:=zaa hg c2;have c3:=zaa hg c3;have c4:=zaa hg c4;have c5:=zaa hg c5;have c6:=zaa hg c6;have c7:=zaa hg c7;have c8:=zaa hg c8;have c9:=zaa hg c9;have t0:=zaa hg t0;have t1:=zaa hg t1;clear hg ht))
 all_goals (first|(go_ret;exact HE.out)|(go_wp2_with fail;go_ret;exact HE.out))
theorem eg_less1:∀args w,(callFunc 217 args).run Tryz.prog w=.ok (.enter 217 args) w:=enters_of Tryz.func217 (by kernel_rfl) rfl
theorem together_size {α:Type} (l r:RT α):(RT.together l r).size=l.size+r.size:=by
 rw [RT.size_items,RT.together_items,List.length_append,←RT.size_items,←RT.size_items]
theorem less_sizes {α:Type} (cmp:α→α→Int):∀(b a:RT α),(RT.less cmp b a).size≤a.size
 | .nil,a=>Nat.le_refl _
 | .node c l x r,.nil=>Nat.le_refl _
 | .node c l x r,.node c2 l2 x2 r2=>by
  have h1:=less_sizes cmp l (RT.split (cmp x) (.node c2 l2 x2 r2)).1
  have h2:=less_sizes cmp r (RT.split (cmp x) (.node c2 l2 x2 r2)).2
  have h3:=za1 (cmp x) (.node c2 l2 x2 r2)
  show (RT.together _ _).size≤_
  rw [together_size]
  omega
theorem less_14 (X:Nat→Prop) (d f:Nat) (eg:∀args w,(callFunc f args).run Tryz.prog w=.ok (.enter f args) w) (by0:Option Addr) (cmp:PT→PT→Int) (P:PT→Prop):∀(tb ta:RT PT) (pb pa:Option Addr) (w:World),CmpC X d f by0 cmp P w→NM X d w tb pb→NM X d w ta pa→RT.Well tb→RT.Well ta→(∀x∈tb.items,P x)→(∀x∈ta.items,P x)→tb.size+ta.size<4611686018427387904→
 Calls Tryz.prog 150 #[.pointer pa,.pointer pb,.func (.func f) #[] #[.pointer by0]] w (zab X d (RT.less cmp tb ta) w)
 | .nil,ta,pb,pa,w,hc,hb,ha,wb,wa,qb,qa,hz=>by
  have hpb:pb=none:=hb
  subst hpb
  cases pa with
  | none=>
   refine Calls.mono (less_nilA none _ ⟨_,_,rfl⟩ w) ?_
   rintro e w' ⟨rfl,hg⟩
   exact⟨hg,none,rfl,ha.keeps hg⟩
  | some p=>
   refine Calls.mono (less_nilB p _ ⟨_,_,rfl⟩ w) ?_
   rintro e w' ⟨rfl,hg⟩
   exact⟨hg,some p,rfl,ha.keeps hg⟩
 | .node c l y r,.nil,pb,pa,w,hc,hb,ha,wb,wa,qb,qa,hz=>by
  have hpa:pa=none:=ha
  subst hpa
  refine Calls.mono (less_nilA pb _ ⟨_,_,rfl⟩ w) ?_
  rintro e w' ⟨rfl,hg⟩
  exact⟨hg,none,rfl,rfl⟩
 | .node c l y r,.node c2 l2 y2 r2,pb,pa,w,hc,hb,ha,wb,wa,qb,qa,hz=>by
  obtain⟨b,pl,pr,ky,vy,rfl,hn,hk,hv,hl,hr⟩:=hb
  obtain⟨p,hp⟩:∃p,pa=some p:=by
   obtain⟨b2,_,_,_,_,e,_⟩:=ha
   exact⟨_,e⟩
  subst hp
  have hyP:P y:=qb y (by simp [RT.items])
  have hsz:=za1 (cmp y) (.node c2 l2 y2 r2)
  have hsw:=RT.split_well (cmp y) _ wa
  have hsm:=split_mem (cmp y) (.node c2 l2 y2 r2)
  have hzz:(RT.node c l y r).size=l.size+1+r.size:=rfl
  have hu1:=less_sizes cmp l (RT.split (cmp y) (.node c2 l2 y2 r2)).1
  have hu2:=less_sizes cmp r (RT.split (cmp y) (.node c2 l2 y2 r2)).2
  refine less_node X d f by0 w p b pl pr y ky vy c _ _ _ hn (RT.split (cmp y) (.node c2 l2 y2 r2)).1 (RT.split (cmp y) (.node c2 l2 y2 r2)).2 (RT.less cmp l (RT.split (cmp y) (.node c2 l2 y2 r2)).1) (RT.less cmp r (RT.split (cmp y) (.node c2 l2 y2 r2)).2) _ (fun V hV h1 h0=>?_) (fun V p1 hV h1=>?_) (fun V p2 hV h2=>?_) (fun V p1 p2 hV h1 h2=>?_)
  ·refine split_14 X d 217 _ _ (cmp y) P eg_less1 _ (some p) V ?_ (ha.keeps hV) wa qa (by omega)
   intro V2 hV2 x ku vu hx hkx hvx
   have hVV:Below w.heap.size w V2:=hV.trans (hV2.mono hV.size)
   refine less1_core f eg by0 b _ _ pl pr x y ku vu ky vy c _ _ _ _ V2 (zaa hV2 h1) (zaa hV2 h0) (hn.keeps hVV) fun V3 hV3=>?_
   have h9:Below w.heap.size w V3:=hVV.trans (hV3.mono hVV.size)
   exact hc V3 h9 y x ky vy ku vu hyP hx ⟨LiesX.keeps h9 hk.1,hk.2⟩ ⟨LiesX.keeps h9 hv.1,hv.2⟩ ⟨LiesX.keeps hV3 hkx.1,hkx.2⟩ ⟨LiesX.keeps hV3 hvx.1,hvx.2⟩
  ·exact less_14 X d f eg by0 cmp P l _ pl p1 V (hc.keeps hV) (hl.keeps hV) h1 wb.left hsw.1 (fun x hx=>qb x (by simp [RT.items,hx])) (fun x hx=>qa x (hsm.1 x hx)) (by omega)
  ·exact less_14 X d f eg by0 cmp P r _ pr p2 V (hc.keeps hV) (hr.keeps hV) h2 wb.right hsw.2 (fun x hx=>qb x (by simp [RT.items,hx])) (fun x hx=>qa x (hsm.2 x hx)) (by omega)
  ·exact together_14 X d V _ _ p1 p2 h1 h2 (RT.less_well cmp l _ wb.left hsw.1) (RT.less_well cmp r _ wb.right hsw.2) (by omega)
end Go.Proofs.YtlnecfjnffdciabGreat
