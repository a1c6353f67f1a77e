import Derived.Test.YtlnecfjnffdciabGreatSAll16
import Derived.Test.YtlnecfjnffdciabGreatRBtw15
namespace Go.Proofs.YtlnecfjnffdciabGreat
open Go.RowKit Go.Shelf
set_option maxRecDepth 100000 in
set_option maxHeartbeats 4000000 in
theorem sore_none16 (w:World):Calls Tryz.prog 72 #[zeroPV,.bool false] w fun e w'=>e=.returned (.tuple #[.agg #[.int .i64 0,.int .i64 0,.string ⟨#[]⟩,.slice none 0 0],.int .i64 6])∧Below w.heap.size w w':=by
 go_enter Tryz.func72,Tryz.ntmps72
 go_wp2_with fail
 refine bodyPost_ret (v:=.tuple #[.agg #[.int .i64 0,.int .i64 0,.string ⟨#[]⟩,.slice none 0 0],.int .i64 6]) (by simp [results,Tryz.results72,go_sem]) rfl ⟨rfl,?_⟩
 first
  | exact (((Grew.refl w).alloc _).alloc _).below
  | exact below_boxa _ _ _ _ _ _
set_option maxRecDepth 100000 in
set_option maxHeartbeats 4000000 in
theorem sore_some16 (x:PT) (a1:Option Addr) (n1 c1:Nat) (a2:Option Addr) (n2 c2:Nat) (w:World):Calls Tryz.prog 72 #[pairV x (.slice a1 n1 c1) (.slice a2 n2 c2),.bool true] w fun e w'=>e=.returned (.tuple #[.agg #[.int .i64 x.1.kind,.int .i64 x.1.num,.string x.1.text,.slice a1 n1 c1],.int .i64 0])∧Below w.heap.size w w':=by
 go_enter Tryz.func72,Tryz.ntmps72
 go_wp2_with fail
 refine bodyPost_ret (v:=.tuple #[.agg #[.int .i64 x.1.kind,.int .i64 x.1.num,.string x.1.text,.slice a1 n1 c1],.int .i64 0]) (by simp [results,Tryz.results72,go_sem]) rfl ⟨rfl,?_⟩
 first
  | exact (((Grew.refl w).alloc _).alloc _).below
  | exact below_boxa _ _ _ _ _ _
def FiPost (o:Option PT) (E:Int) (w:World) (e:Ending) (w':World):Prop:=Below w.heap.size w w'∧((o=none∧e=.returned (.tuple #[.agg #[.int .i64 0,.int .i64 0,.string ⟨#[]⟩,.slice none 0 0],.int .i64 E]))∨∃x a c,o=some x∧e=.returned (.tuple #[.agg #[.int .i64 x.1.kind,.int .i64 x.1.num,.string x.1.text,.slice a x.1.items.length c],.int .i64 0])∧LiesB w.heap.size 16 w' x.1.items (.slice a x.1.items.length c))
theorem below_box4 {w V:World} (h:Below w.heap.size w V) (v0 v1 v2 v3:Value) (n:Nat) (hn:w.heap.size≤n):Below w.heap.size w ((((V.setCell ⟨n,0,none⟩ v0).setCell ⟨n,1,none⟩ v1).setCell ⟨n,2,none⟩ v2).setCell ⟨n,3,none⟩ v3):=
 (((h.setCell (p:=⟨n,0,none⟩) hn _).setCell (p:=⟨n,1,none⟩) hn _).setCell (p:=⟨n,2,none⟩) hn _).setCell (p:=⟨n,3,none⟩) hn _
theorem liesB_box4 {w0 V:World} {n:Nat} (hn:n+1≤w0.heap.size) {d:Nat} {l:List VT} {v:Value} (h:LiesB w0.heap.size d V l v) (v0 v1 v2 v3:Value):LiesB n d ((((V.setCell ⟨n,0,none⟩ v0).setCell ⟨n,1,none⟩ v1).setCell ⟨n,2,none⟩ v2).setCell ⟨n,3,none⟩ v3) l v:=by
 refine LiesB.lower (by omega) _ _ _ (LiesB.stays (fun a u ha hu=>⟨?_,by simp only [World.frozen?_setCell]⟩) _ _ _ h)
 have hne:a.block≠n:=by omega
 have hs:∀(W:World) (j:Nat) (u0:Value),W.cell? a=some u→(W.setCell ⟨n,j,none⟩ u0).cell? a=some u:=fun W j u0 h=>by
  rw [World.cell?_setCell_other _ _ _ _ (fun e=>hne (by rw [←e]))];exact h
 exact hs _ _ _ (hs _ _ _ (hs _ _ _ (hs _ _ _ hu)))
set_option maxRecDepth 100000 in
set_option maxHeartbeats 8000000 in
theorem sfirst_16 {w:World} {q:Nat} {l:List PT} {s:Nat} (h:SC w q l s):Calls Tryz.prog 15 #[.pointer (some ⟨s,0,none⟩)] w (FiPost (zal l 0) 6 w):=by
 obtain⟨b,t,hs,hm,rfl,_⟩:=h
 have HF:Hid (∀V,Below w.heap.size w V→Calls Tryz.prog 73 #[.pointer (some ⟨b,0,none⟩)] V (InPost (zal t.items 0) V)):=fun V hV=>first_15 b q t V (hm.keeps hV)
 have hb1:Below w.heap.size w (w.alloc (.cells #[.int .i64 0,.int .i64 0,.string ⟨#[]⟩,.slice none 0 0] 33)):=((Grew.refl w).alloc _).below
 have HX:Hid (Bx (w.alloc (.cells #[.int .i64 0,.int .i64 0,.string ⟨#[]⟩,.slice none 0 0] 33)) w.heap.size nilT (.slice none 0 0)):=zag w nilT (.slice none 0 0)
 have hs1:=zaa hb1 hs
 have hsl:=zad hs
 simp only at hsl
 clear hm
 generalize zal t.items 0=O at *
 obtain⟨W0,hW0⟩:∃W0,W0=w.alloc (.cells #[.int .i64 0,.int .i64 0,.string ⟨#[]⟩,.slice none 0 0] 33):=⟨_,rfl⟩
 have HW0:Hid (W0=w.alloc (.cells #[.int .i64 0,.int .i64 0,.string ⟨#[]⟩,.slice none 0 0] 33)):=hW0
 rw [←hW0] at hb1 HX hs1
 clear hW0 hs
 go_enter Tryz.func15,Tryz.ntmps15
 go_upto_region 1 with fail
 rw [←HW0.out]
 clear HW0
 go_wp2_with fail
 refine (sown_16 _ _).mono ?_
 rintro e w1 ⟨rfl,hw⟩
 obtain rfl:W0=w1:=hw.symm
 go_wp2_with fail
 have HFc:=show Hid _ from HF.out W0 hb1
 clear HF
 refine Calls.mono HFc.out ?_
 rintro e w2 ⟨hg2,⟨ho,rfl⟩|⟨x,ku,vu,ho,rfl,hl1,hl2⟩⟩
 ·have HX2:Hid _:=HX.out.keeps hg2
  have hb2:Below w.heap.size w w2:=hb1.trans (hg2.mono hb1.size)
  have HO:Hid (O=none):=ho
  clear hg2 HFc HX ho hs1
  go_wp2_with fail
  refine (sore_none16 _).mono ?_
  rintro e w3 ⟨rfl,hg3⟩
  have HB3:Hid (Below w.heap.size w w3):=hb2.trans (hg3.mono hb2.size)
  obtain⟨r0,r1,r2,r3,y0,y1,y2,y3⟩:=HX2.out.keeps hg3
  clear hg3 HX2 hb2 hb1
  go_wp2_with fail
  refine bodyPost_ret (v:=.tuple #[.agg #[.int .i64 0,.int .i64 0,.string ⟨#[]⟩,.slice none 0 0],.int .i64 6]) ?_ rfl ⟨below_box4 HB3.out _ _ _ _ _ (Nat.le_refl _),.inl ⟨HO.out,rfl⟩⟩
  simp [results,Tryz.results15,go_sem,r0,r1,r2,r3]
 ·obtain⟨a1,c1,rfl,_⟩:=LiesB.slice hl1
  obtain⟨a2,c2,rfl,_⟩:=LiesB.slice hl2
  have HX2:Hid _:=HX.out.keeps hg2
  have hb2:Below w.heap.size w w2:=hb1.trans (hg2.mono hb1.size)
  have HO:Hid (O=some x):=ho
  have HL:Hid (LiesB W0.heap.size 16 w2 x.1.items (.slice a1 x.1.items.length c1)):=hl1
  have HS0:Hid (w.heap.size+1≤W0.heap.size):=by have:=HX.out;obtain⟨r0,_⟩:=this;have:=zad r0;exact this
  clear hg2 HFc HX ho hs1 hl1 hl2
  go_wp2_with fail
  refine (sore_some16 x a1 _ c1 a2 _ c2 _).mono ?_
  rintro e w3 ⟨rfl,hg3⟩
  have HB3:Hid (Below w.heap.size w w3):=hb2.trans (hg3.mono hb2.size)
  have HL3:Hid (LiesB W0.heap.size 16 w3 x.1.items (.slice a1 x.1.items.length c1)):=LiesB.keepsB hg3 HL.out
  obtain⟨r0,r1,r2,r3,y0,y1,y2,y3⟩:=HX2.out.keeps hg3
  clear hg3 HX2 hb2 hb1 HL
  go_wp2_with fail
  refine bodyPost_ret (v:=.tuple #[.agg #[.int .i64 x.1.kind,.int .i64 x.1.num,.string x.1.text,.slice a1 x.1.items.length c1],.int .i64 0]) ?_ rfl ⟨below_box4 HB3.out _ _ _ _ _ (Nat.le_refl _),.inr ⟨x,a1,c1,HO.out,rfl,liesB_box4 HS0.out HL3.out _ _ _ _⟩⟩
  simp [results,Tryz.results15,go_sem,r0,r1,r2,r3]
def upS (q:Nat) (y:VT) (l:List PT):Nat:=(l.filter (RT.ahead (atK q y) false)).length
def RkPost (n:Nat) (E:Int) (w:World) (e:Ending) (w':World):Prop:=e=.returned (.tuple #[.int .i64 (n:Int),.int .i64 E])∧Below w.heap.size w w'
def rankN (d q:Nat) (y:VT) (l:List PT):Nat:=if zab d y=true then upS q y l else 0
theorem rank15_both (d b q:Nat) (t:RT PT) (y:VT) (yu:Value) (w:World) (hm:MC w q t b) (hy:Lies d w y.items yu) (ht:y.text.size≤9223372036854775807):Calls Tryz.prog 86 #[.pointer (some ⟨b,0,none⟩),.agg #[.int .i64 y.kind,.int .i64 y.num,.string y.text,yu]] w (RkPost (rankN d q y t.items) (errOf (zab d y)) w):=by
 cases hr:zab d y with
 | false=>
  unfold rankN
  rw [hr]
  exact rank15_wrong d b y yu w hy ht hr
 | true=>
  have h9:=rank15_right d b q t y yu w hm hy ht hr
  rw [RT.upTo_items (atK q y) false t (RT.Rises.falls (byK_cmp q) hm.rises (y,y))] at h9
  unfold rankN
  rw [hr]
  exact h9
set_option maxRecDepth 100000 in
set_option maxHeartbeats 8000000 in
theorem srank_16 {w:World} {q:Nat} {l:List PT} {s:Nat} (h:SC w q l s) (d:Nat) (y:VT) (yu:Value) (hy:Lies d w y.items yu) (hyt:y.text.size≤9223372036854775807):Calls Tryz.prog 30 #[.pointer (some ⟨s,0,none⟩),.agg #[.int .i64 y.kind,.int .i64 y.num,.string y.text,yu]] w (RkPost (rankN d q y l) (errOf (zab d y)) w):=by
 obtain⟨b,t,hs,hm,rfl,hn⟩:=h
 obtain⟨ay,cy,rfl,_⟩:=Lies.slice hy
 have HA:Hid (∀V,Below w.heap.size w V→Calls Tryz.prog 86 #[.pointer (some ⟨b,0,none⟩),.agg #[.int .i64 y.kind,.int .i64 y.num,.string y.text,.slice ay y.items.length cy]] V (RkPost (rankN d q y t.items) (errOf (zab d y)) V)):=fun V hV=>rank15_both d b q t y _ V (hm.keeps hV) (Lies.keeps hV _ _ _ hy) hyt
 obtain⟨W0,hW0⟩:∃W0,W0=w.alloc (.cells #[.int .i64 y.kind,.int .i64 y.num,.string y.text,.slice ay y.items.length cy] 33):=⟨_,rfl⟩
 have HW0:Hid (W0=w.alloc (.cells #[.int .i64 y.kind,.int .i64 y.num,.string y.text,.slice ay y.items.length cy] 33)):=hW0
 have hb0:Below w.heap.size w W0:=by rw [hW0];exact ((Grew.refl w).alloc _).below
 have k0:W0.cell? ⟨w.heap.size,0,none⟩=some (.int .i64 y.kind):=by rw [hW0];simp
 have k1:W0.cell? ⟨w.heap.size,1,none⟩=some (.int .i64 y.num):=by rw [hW0];simp
 have k2:W0.cell? ⟨w.heap.size,2,none⟩=some (.string y.text):=by rw [hW0];simp
 have k3:W0.cell? ⟨w.heap.size,3,none⟩=some (.slice ay y.items.length cy):=by rw [hW0];simp
 have hs0:=zaa hb0 hs
 clear hW0 hs hm hn hy hyt
 generalize errOf (zab d y)=E at *
 generalize rankN d q y t.items=O at *
 go_enter Tryz.func30,Tryz.ntmps30
 go_upto_region 1 with fail
 rw [←HW0.out]
 clear HW0
 go_region_held3 (fun w'=>w'.cell? ⟨s,0,none⟩=some (.pointer (some ⟨b,0,none⟩))∧w'.cell? ⟨w.heap.size,0,none⟩=some (.int .i64 y.kind)∧w'.cell? ⟨w.heap.size,1,none⟩=some (.int .i64 y.num)∧w'.cell? ⟨w.heap.size,2,none⟩=some (.string y.text)∧w'.cell? ⟨w.heap.size,3,none⟩=some (.slice ay y.items.length cy)) (go_keep)
  (first
   | (go_at_call 74;(with_reducible refine Calls.mono (sown_16 _ _) ?_);rintro e wo ⟨rfl,hwo⟩;subst hwo)
   | (go_at_call 86;(with_reducible refine Calls.mono (HA.out _ hb0.drew) ?_);rintro e w2 ⟨rfl,hg2'⟩;have hg2:Below W0.heap.size W0 w2:=(Below.refl _ _).drew.trans hg2';have hs0:=zaa hg2 hs0;have k0:=zaa hg2 k0;have k1:=zaa hg2 k1;have k2:=zaa hg2 k2;have k3:=zaa hg2 k3;have HE:Hid (RkPost O E w (.returned (.tuple #[.int .i64 (O:Int),.int .i64 E])) w2):=⟨rfl,hb0.trans (hg2.mono hb0.size)⟩;clear hg2'))
 all_goals (first|(go_ret2;exact HE.out)|(go_wp2_with fail;go_ret2;exact HE.out))
end Go.Proofs.YtlnecfjnffdciabGreat

namespace Go.Proofs.YtlnecfjnffdciabGreat
open Go.RowKit Go.Shelf
def btwS (q:Nat) (y z:VT) (l:List PT):List PT:=(l.take ((l.filter (RT.ahead (atK q z) true)).length)).drop ((l.filter (RT.ahead (atK q y) false)).length)
theorem btwS_is {w:World} {q b:Nat} {t:RT PT} (hm:MC w q t b) (y z:VT):btwL q y z true true t=btwS q y z t.items:=by
 unfold btwL btwS
 rw [RT.upTo_items (atK q z) true t (RT.Rises.falls (byK_cmp q) hm.rises (z,z)),RT.upTo_items (atK q y) (!true) t (RT.Rises.falls (byK_cmp q) hm.rises (y,y))]
 rfl
theorem nils_btw {q:Nat} {y z:VT} {l:List PT} (h:Nils l):Nils (btwS q y z l):=fun x hx=>h x (List.mem_of_mem_take (List.mem_of_mem_drop hx))
set_option maxRecDepth 100000 in
set_option maxHeartbeats 8000000 in
theorem sbtw_16 {w:World} {q:Nat} {l:List PT} {s:Nat} (h:SC w q l s) (d:Nat) (y z:VT) (yu zu:Value) (hy:Lies d w y.items yu) (hyt:y.text.size≤9223372036854775807) (hz:Lies d w z.items zu) (hzt:z.text.size≤9223372036854775807):Calls Tryz.prog 36 #[.pointer (some ⟨s,0,none⟩),.agg #[.int .i64 y.kind,.int .i64 y.num,.string y.text,yu],.agg #[.int .i64 z.kind,.int .i64 z.num,.string z.text,zu]] w (SpPost q (btwS q y z l) (btwE d d y z) w):=by
 obtain⟨b,t,hs,hm,rfl,hn⟩:=h
 obtain⟨ay,cy,rfl,_⟩:=Lies.slice hy
 obtain⟨az,cz,rfl,_⟩:=Lies.slice hz
 have HN:Hid (Nils (btwS q y z t.items)):=nils_btw hn
 have HA:Hid (∀V,Below w.heap.size w V→Calls Tryz.prog 90 #[.pointer (some ⟨b,0,none⟩),.agg #[.int .i64 y.kind,.int .i64 y.num,.string y.text,.slice ay y.items.length cy],.agg #[.int .i64 z.kind,.int .i64 z.num,.string z.text,.slice az z.items.length cz],.bool true,.bool true] V (MpPost q (btwS q y z t.items) (btwE d d y z) V)):=fun V hV=>by
  have h9:=mcut_15 d d b q t y z _ _ true true V (hm.keeps hV) (Lies.keeps hV _ _ _ hy) hyt (Lies.keeps hV _ _ _ hz) hzt
  rw [btwS_is hm] at h9
  refine h9.mono fun e w' h=>?_
  obtain⟨hb,⟨h0,rfl⟩|⟨h0,t2,b2,rfl,hm2,hi2⟩⟩:=h
  ·exact⟨hb,none,rfl,.inl ⟨h0,rfl⟩⟩
  ·rw [h0]
   exact⟨hb,_,rfl,.inr ⟨rfl,t2,b2,rfl,hm2,hi2⟩⟩
 obtain⟨W0,hW0⟩:∃W0,W0=(w.alloc (.cells #[.int .i64 y.kind,.int .i64 y.num,.string y.text,.slice ay y.items.length cy] 33)).alloc (.cells #[.int .i64 z.kind,.int .i64 z.num,.string z.text,.slice az z.items.length cz] 33):=⟨_,rfl⟩
 have HW0:Hid (W0=(w.alloc (.cells #[.int .i64 y.kind,.int .i64 y.num,.string y.text,.slice ay y.items.length cy] 33)).alloc (.cells #[.int .i64 z.kind,.int .i64 z.num,.string z.text,.slice az z.items.length cz] 33)):=hW0
 have hb0:Below w.heap.size w W0:=by rw [hW0];exact (((Grew.refl w).alloc _).alloc _).below
 have hyb:Bx W0 w.heap.size y (.slice ay y.items.length cy):=by rw [hW0];exact (zag _ _ _).keeps ((Grew.refl _).alloc _).below
 have hzb:Bx W0 (w.heap.size+1) z (.slice az z.items.length cz):=by
  rw [hW0]
  have h9:=zag (w.alloc (.cells #[.int .i64 y.kind,.int .i64 y.num,.string y.text,.slice ay y.items.length cy] 33)) z (.slice az z.items.length cz)
  rwa [World.size_alloc] at h9
 obtain⟨k0,k1,k2,k3,_,_,_,_⟩:=hyb
 obtain⟨m0,m1,m2,m3,_,_,_,_⟩:=hzb
 have hs0:=zaa hb0 hs
 clear hW0 hs hm hn hy hyt hz hzt
 generalize btwS q y z t.items=L at *
 generalize btwE d d y z=E at *
 go_enter Tryz.func36,Tryz.ntmps36
 go_upto_region 1 with fail
 rw [←HW0.out]
 clear HW0
 go_region_held3 (fun w'=>w'.cell? ⟨s,0,none⟩=some (.pointer (some ⟨b,0,none⟩))∧w'.cell? ⟨w.heap.size,0,none⟩=some (.int .i64 y.kind)∧w'.cell? ⟨w.heap.size,1,none⟩=some (.int .i64 y.num)∧w'.cell? ⟨w.heap.size,2,none⟩=some (.string y.text)∧w'.cell? ⟨w.heap.size,3,none⟩=some (.slice ay y.items.length cy)∧w'.cell? ⟨w.heap.size+1,0,none⟩=some (.int .i64 z.kind)∧w'.cell? ⟨w.heap.size+1,1,none⟩=some (.int .i64 z.num)∧w'.cell? ⟨w.heap.size+1,2,none⟩=some (.string z.text)∧w'.cell? ⟨w.heap.size+1,3,none⟩=some (.slice az z.items.length cz)) (go_keep)
  (first
   | (go_at_call 74;(with_reducible refine Calls.mono (sown_16 _ _) ?_);rintro e wo ⟨rfl,hwo⟩;subst hwo)
   | (go_at_call 90;(with_reducible refine Calls.mono (HA.out _ hb0.drew) ?_);rintro e w2 ⟨hg2',p2,rfl,hp2⟩;have hg2:Below W0.heap.size W0 w2:=(Below.refl _ _).drew.trans hg2';have hs0:=zaa hg2 hs0;have k0:=zaa hg2 k0;have k1:=zaa hg2 k1;have k2:=zaa hg2 k2;have k3:=zaa hg2 k3;have m0:=zaa hg2 m0;have m1:=zaa hg2 m1;have m2:=zaa hg2 m2;have m3:=zaa hg2 m3;have HP2:Hid _:=hp2;clear hg2' hp2)
   | (go_at_call 58;(with_reducible refine Calls.mono (smade_16 HP2.out HN.out) ?_);rintro e w3 ⟨hg3,p3,rfl,hp3⟩;have hs0:=zaa hg3 hs0;have k0:=zaa hg3 k0;have k1:=zaa hg3 k1;have k2:=zaa hg3 k2;have k3:=zaa hg3 k3;have m0:=zaa hg3 m0;have m1:=zaa hg3 m1;have m2:=zaa hg3 m2;have m3:=zaa hg3 m3;have HE:Hid (SpPost q L E w (.returned (.tuple #[.pointer p3,.int .i64 E])) w3):=⟨hb0.trans ((hg2.trans (hg3.mono hg2.size)).mono hb0.size),p3,rfl,hp3⟩;clear hg3 hp3))
 all_goals (first|(go_ret2;exact HE.out)|(go_wp2_with fail;go_ret2;exact HE.out))
end Go.Proofs.YtlnecfjnffdciabGreat

