import Derived.Test.YtlnecfjnffdciabGreatSFst16
import Derived.Test.YtlnecfjnffdciabGreatSpeaks16
import Derived.Test.YtlnecfjnffdciabGreatBuildS
namespace Go.Proofs.YtlnecfjnffdciabGreat
open Go.RowKit Go.Shelf

def DcPost (q:Nat) (l:List PT) (w:World) (e:Ending) (w':World):Prop:=Below w.heap.size w w'∧∃c,e=.returned (.pointer (some ⟨c,0,none⟩))∧DS w' q l c

theorem dc_new {w V:World} {q:Nat} {l:List PT} {b:Nat} (hb:Below w.heap.size w V) (hd:DM V q l b) (hn:Nils l):DcPost q l w (.returned (.pointer (some ⟨V.heap.size,0,none⟩))) (V.alloc (.cells #[.pointer (some ⟨b,0,none⟩)] 101)):=
 ⟨hb.alloc hb.size _,_,rfl,b,by simp,hd.keeps ((Grew.refl V).alloc _).below,hn⟩

theorem DS.len {w:World} {q:Nat} {l:List PT} {c:Nat} (h:DS w q l c):Calls Tryz.prog 75 #[.pointer (some ⟨c,0,none⟩)] w fun e w'=>e=.returned (.int .i64 (l.length:Nat))∧Below w.heap.size w w':=by
 obtain⟨m,qs,a0,c0,h0,_,h1,rfl,hs,hd⟩:=h.row
 refine (rlen_16 h0 h1).mono ?_
 rintro e w' ⟨rfl,rfl⟩
 exact⟨by rw [List.length_map],Below.refl _ _⟩

set_option maxRecDepth 100000 in
set_option maxHeartbeats 8000000 in
theorem rin_16 {w0 w:World} {q:Nat} {l:List PT} {c:Nat} (h0:DS w0 q l c) (hw0:Below w0.heap.size w0 w) (y:VT) (yu:Value) (hy:Lies 16 w y.items yu) (hyr:rightV 16 y=true):Calls Tryz.prog 80 #[.pointer (some ⟨c,0,none⟩),.agg #[.int .i64 y.kind,.int .i64 y.num,.string y.text,yu]] w fun e w'=>e=.returned (.bool (findK q y l).isSome)∧Below w.heap.size w w':=by
 have h:=h0.keeps hw0
 obtain⟨m,hs,hm,hn⟩:=h
 obtain⟨ay,cy,rfl,_⟩:=Lies.slice hy
 have HA:Hid (∀V,Below w.heap.size w V→Calls Tryz.prog 132 #[.pointer (some ⟨m,0,none⟩),.agg #[.int .i64 y.kind,.int .i64 y.num,.string y.text,.slice ay y.items.length cy]] V (HvPost w.heap.size (findK q y l) V)):=fun V hV=>rhave_14 hm hV y _ (Lies.keeps hV _ _ _ hy) hyr
 obtain⟨W0,hW0⟩:∃W0,W0=w.alloc (.cells #[.int .i64 y.kind,.int .i64 y.num,.string y.text,.slice ay y.items.length cy] 33):=⟨_,rfl⟩
 have HW0:Hid (W0=w.alloc (.cells #[.int .i64 y.kind,.int .i64 y.num,.string y.text,.slice ay y.items.length cy] 33)):=hW0
 have hb0:Below w.heap.size w W0:=by rw [hW0];exact ((Grew.refl w).alloc _).below
 have k0:W0.cell? ⟨w.heap.size,0,none⟩=some (.int .i64 y.kind):=by rw [hW0];simp
 have k1:W0.cell? ⟨w.heap.size,1,none⟩=some (.int .i64 y.num):=by rw [hW0];simp
 have k2:W0.cell? ⟨w.heap.size,2,none⟩=some (.string y.text):=by rw [hW0];simp
 have k3:W0.cell? ⟨w.heap.size,3,none⟩=some (.slice ay y.items.length cy):=by rw [hW0];simp
 have hs0:=cell_keeps hb0 hs
 clear hW0 hs hm hn hy h0 hw0
 generalize findK q y l=O at *
 go_enter Tryz.func80,Tryz.ntmps80
 go_upto_region 1 with fail
 rw [←HW0.out]
 clear HW0
 have hbA:Below W0.heap.size W0 (W0.alloc (.cells #[.int .i64 0,.int .i64 0,.string ⟨#[]⟩,.slice none 0 0] 33)):=((Grew.refl W0).alloc _).below
 have HBA:Hid (Below W0.heap.size W0 (W0.alloc (.cells #[.int .i64 0,.int .i64 0,.string ⟨#[]⟩,.slice none 0 0] 33)).drew):=hbA.drew
 have HBd:Hid (Below W0.heap.size W0 W0.drew):=(Below.refl _ _).drew
 have HXA:Hid (Bx (W0.alloc (.cells #[.int .i64 0,.int .i64 0,.string ⟨#[]⟩,.slice none 0 0] 33)).drew W0.heap.size nilT (.slice none 0 0)):=(show Bx (W0.alloc (.cells #[.int .i64 0,.int .i64 0,.string ⟨#[]⟩,.slice none 0 0] 33)) W0.heap.size nilT (.slice none 0 0) from bx_alloc W0 nilT (.slice none 0 0)).keeps (Below.refl _ _).drew
 have HB0:Hid (Below w.heap.size w W0):=hb0
 have HKp:Hid (∀(n:Nat) (v0 v1 v2 v3:Value) (V:World),W0.heap.size≤n→(fun w'=>w'.cell? ⟨c,0,none⟩=some (.pointer (some ⟨m,0,none⟩))∧w'.cell? ⟨w.heap.size,0,none⟩=some (.int .i64 y.kind)∧w'.cell? ⟨w.heap.size,1,none⟩=some (.int .i64 y.num)∧w'.cell? ⟨w.heap.size,2,none⟩=some (.string y.text)∧w'.cell? ⟨w.heap.size,3,none⟩=some (.slice ay y.items.length cy)) V→(fun w'=>w'.cell? ⟨c,0,none⟩=some (.pointer (some ⟨m,0,none⟩))∧w'.cell? ⟨w.heap.size,0,none⟩=some (.int .i64 y.kind)∧w'.cell? ⟨w.heap.size,1,none⟩=some (.int .i64 y.num)∧w'.cell? ⟨w.heap.size,2,none⟩=some (.string y.text)∧w'.cell? ⟨w.heap.size,3,none⟩=some (.slice ay y.items.length cy)) ((((V.setCell ⟨n,0,none⟩ v0).setCell ⟨n,1,none⟩ v1).setCell ⟨n,2,none⟩ v2).setCell ⟨n,3,none⟩ v3)):=fun n v0 v1 v2 v3 V hn h=>by
  have l1:=cell_lt hs0
  have l2:=cell_lt k0
  simp only at l1 l2
  exact⟨set4_keep16 (by simp only;omega) h.1,set4_keep16 (by simp only;omega) h.2.1,set4_keep16 (by simp only;omega) h.2.2.1,set4_keep16 (by simp only;omega) h.2.2.2.1,set4_keep16 (by simp only;omega) h.2.2.2.2⟩
 have hl0:=cell_lt hs0
 have hl1:=cell_lt k0
 simp only at hl0 hl1
 have n1 : ¬c=W0.heap.size:=by omega
 have n2 : ¬w.heap.size=W0.heap.size:=by omega
 have HGs:Hid (∀(n:Nat) (v0 v1 v2 v3:Value) (V:World),Below w.heap.size w V→w.heap.size≤n→Below w.heap.size w ((((V.setCell ⟨n,0,none⟩ v0).setCell ⟨n,1,none⟩ v1).setCell ⟨n,2,none⟩ v2).setCell ⟨n,3,none⟩ v3)):=fun n v0 v1 v2 v3 V h hn=>(((h.setCell (p:=⟨n,0,none⟩) hn _).setCell (p:=⟨n,1,none⟩) hn _).setCell (p:=⟨n,2,none⟩) hn _).setCell (p:=⟨n,3,none⟩) hn _
 clear hbA hb0
 go_region_held3 (fun w'=>w'.cell? ⟨c,0,none⟩=some (.pointer (some ⟨m,0,none⟩))∧w'.cell? ⟨w.heap.size,0,none⟩=some (.int .i64 y.kind)∧w'.cell? ⟨w.heap.size,1,none⟩=some (.int .i64 y.num)∧w'.cell? ⟨w.heap.size,2,none⟩=some (.string y.text)∧w'.cell? ⟨w.heap.size,3,none⟩=some (.slice ay y.items.length cy)) (first | go_keep | (exact HKp.out _ _ _ _ _ _ (Nat.le_refl _) (by assumption)) | (exact HKp.out _ _ _ _ _ _ (by assumption) (by assumption)))
  (first
   | (go_at_call 132;(with_reducible refine Calls.mono (HA.out _ (HB0.out.trans (Below.mono ?_ HB0.out.size))) ?_);(first | exact HBd.out | exact HBA.out);rintro e w2 ⟨hg2',a2,c2,rfl,hl2⟩;have hg2:Below W0.heap.size W0 w2:=(by first | exact HBd.out.trans hg2' | exact HBA.out.trans (hg2'.mono HBA.out.size));have hs0:=cell_keeps hg2 hs0;have k0:=cell_keeps hg2 k0;have k1:=cell_keeps hg2 k1;have k2:=cell_keeps hg2 k2;have k3:=cell_keeps hg2 k3;have hw2s:W0.heap.size≤w2.heap.size:=hg2.size;(first | (have hz:=Bx.keeps HXA.out hg2';obtain⟨z0,z1,z2,z3,y0,y1,y2,y3⟩:=hz) | skip);have HG2:Hid (Below w.heap.size w w2):=HB0.out.trans (hg2.mono HB0.out.size);clear hg2' hl2 hg2))
 all_goals go_wp2_with fail
 all_goals (first | exact⟨rfl,HG2.out⟩ | (go_ret;first | exact⟨rfl,HG2.out⟩ | (refine⟨rfl,?_⟩;first | exact HGs.out _ _ _ _ _ _ HG2.out (by omega) | exact HGs.out _ _ _ _ _ _ (HG2.out.alloc HG2.out.size _) (by have:=HG2.out.size;omega) | exact HG2.out.alloc HG2.out.size _ | exact HG2.out)))

set_option maxRecDepth 100000 in
set_option maxHeartbeats 8000000 in
theorem rwot_16 {w0 w:World} {q:Nat} {l:List PT} {c:Nat} (h0:DS w0 q l c) (hw0:Below w0.heap.size w0 w) (y:VT) (yu:Value) (hy:Lies 16 w y.items yu) (hyr:rightV 16 y=true):Calls Tryz.prog 82 #[.pointer (some ⟨c,0,none⟩),.agg #[.int .i64 y.kind,.int .i64 y.num,.string y.text,yu]] w (DcPost q (lessK q y l) w):=by
 have h:=h0.keeps hw0
 obtain⟨m,hs,hm,hn⟩:=h
 obtain⟨ay,cy,rfl,_⟩:=Lies.slice hy
 have HA:Hid (∀V,Below w.heap.size w V→Calls Tryz.prog 136 #[.pointer (some ⟨m,0,none⟩),.agg #[.int .i64 y.kind,.int .i64 y.num,.string y.text,.slice ay y.items.length cy]] V (DmPost q (lessK q y l) V)):=fun V hV=>rwot_14 hm hV y _ (Lies.keeps hV _ _ _ hy) hyr
 have HN:Hid (Nils (lessK q y l)):=nils_less hn
 obtain⟨W0,hW0⟩:∃W0,W0=w.alloc (.cells #[.int .i64 y.kind,.int .i64 y.num,.string y.text,.slice ay y.items.length cy] 33):=⟨_,rfl⟩
 have HW0:Hid (W0=w.alloc (.cells #[.int .i64 y.kind,.int .i64 y.num,.string y.text,.slice ay y.items.length cy] 33)):=hW0
 have hb0:Below w.heap.size w W0:=by rw [hW0];exact ((Grew.refl w).alloc _).below
 have k0:W0.cell? ⟨w.heap.size,0,none⟩=some (.int .i64 y.kind):=by rw [hW0];simp
 have k1:W0.cell? ⟨w.heap.size,1,none⟩=some (.int .i64 y.num):=by rw [hW0];simp
 have k2:W0.cell? ⟨w.heap.size,2,none⟩=some (.string y.text):=by rw [hW0];simp
 have k3:W0.cell? ⟨w.heap.size,3,none⟩=some (.slice ay y.items.length cy):=by rw [hW0];simp
 have hs0:=cell_keeps hb0 hs
 clear hW0 hs hm hn hy h0 hw0
 generalize lessK q y l=L at *
 go_enter Tryz.func82,Tryz.ntmps82
 go_upto_region 1 with fail
 rw [←HW0.out]
 clear HW0
 go_region_held3 (fun w'=>w'.cell? ⟨c,0,none⟩=some (.pointer (some ⟨m,0,none⟩))∧w'.cell? ⟨w.heap.size,0,none⟩=some (.int .i64 y.kind)∧w'.cell? ⟨w.heap.size,1,none⟩=some (.int .i64 y.num)∧w'.cell? ⟨w.heap.size,2,none⟩=some (.string y.text)∧w'.cell? ⟨w.heap.size,3,none⟩=some (.slice ay y.items.length cy)) (go_keep)
  (first
   | (go_at_call 136;(with_reducible refine Calls.mono (HA.out _ hb0.drew) ?_);rintro e w2 ⟨hg2',b2,rfl,hd2⟩;have hg2:Below W0.heap.size W0 w2:=(Below.refl _ _).drew.trans hg2';have hs0:=cell_keeps hg2 hs0;have k0:=cell_keeps hg2 k0;have k1:=cell_keeps hg2 k1;have k2:=cell_keeps hg2 k2;have k3:=cell_keeps hg2 k3;have HE:Hid (DcPost q L w (.returned (.pointer (some ⟨w2.heap.size,0,none⟩))) (w2.alloc (.cells #[.pointer (some ⟨b2,0,none⟩)] 101))):=dc_new (hb0.trans (hg2.mono hb0.size)) hd2 HN.out;clear hg2' hd2))
 all_goals (first | (go_ret;exact HE.out) | (go_wp2_with fail;go_ret;exact HE.out))

set_option maxRecDepth 100000 in
set_option maxHeartbeats 8000000 in
theorem rwith_16 {w0 w:World} {q:Nat} {l:List PT} {c:Nat} (h0:DS w0 q l c) (hw0:Below w0.heap.size w0 w) (y:VT) (yu:Value) (hy:Lies 16 w y.items yu) (hyr:rightV 16 y=true) (hyt:y.text.size≤9223372036854775807) (hsz:findK q y l=none→l.length < 65536):Calls Tryz.prog 84 #[.pointer (some ⟨c,0,none⟩),.agg #[.int .i64 y.kind,.int .i64 y.num,.string y.text,yu]] w (DcPost q (withK q y nilT l) w):=by
 have h:=h0.keeps hw0
 obtain⟨m,hs,hm,hn⟩:=h
 obtain⟨ay,cy,rfl,_⟩:=Lies.slice hy
 have HA:Hid (∀V,Below w.heap.size w V→Calls Tryz.prog 139 #[.pointer (some ⟨m,0,none⟩),.agg #[.int .i64 y.kind,.int .i64 y.num,.string y.text,.slice ay y.items.length cy],.agg #[.int .i64 0,.int .i64 0,.string ⟨#[]⟩,.slice none 0 0]] V (DmPost q (withK q y nilT l) V)):=fun V hV=>rwith_14 hm hV y nilT _ (.slice none 0 0) (Lies.keeps hV _ _ _ hy) hyr (zero_lies 16 V) (right_nil 16) hyt (show (0:Nat)≤9223372036854775807 by decide) hsz
 have HN:Hid (Nils (withK q y nilT l)):=nils_with hn
 obtain⟨W0,hW0⟩:∃W0,W0=w.alloc (.cells #[.int .i64 y.kind,.int .i64 y.num,.string y.text,.slice ay y.items.length cy] 33):=⟨_,rfl⟩
 have HW0:Hid (W0=w.alloc (.cells #[.int .i64 y.kind,.int .i64 y.num,.string y.text,.slice ay y.items.length cy] 33)):=hW0
 have hb0:Below w.heap.size w W0:=by rw [hW0];exact ((Grew.refl w).alloc _).below
 have k0:W0.cell? ⟨w.heap.size,0,none⟩=some (.int .i64 y.kind):=by rw [hW0];simp
 have k1:W0.cell? ⟨w.heap.size,1,none⟩=some (.int .i64 y.num):=by rw [hW0];simp
 have k2:W0.cell? ⟨w.heap.size,2,none⟩=some (.string y.text):=by rw [hW0];simp
 have k3:W0.cell? ⟨w.heap.size,3,none⟩=some (.slice ay y.items.length cy):=by rw [hW0];simp
 have hs0:=cell_keeps hb0 hs
 clear hW0 hs hm hn hy h0 hw0
 generalize withK q y nilT l=L at *
 go_enter Tryz.func84,Tryz.ntmps84
 go_upto_region 1 with fail
 rw [←HW0.out]
 clear HW0
 go_region_held3 (fun w'=>w'.cell? ⟨c,0,none⟩=some (.pointer (some ⟨m,0,none⟩))∧w'.cell? ⟨w.heap.size,0,none⟩=some (.int .i64 y.kind)∧w'.cell? ⟨w.heap.size,1,none⟩=some (.int .i64 y.num)∧w'.cell? ⟨w.heap.size,2,none⟩=some (.string y.text)∧w'.cell? ⟨w.heap.size,3,none⟩=some (.slice ay y.items.length cy)) (go_keep)
  (first
   | (go_at_call 139;(with_reducible refine Calls.mono (HA.out _ hb0.drew) ?_);rintro e w2 ⟨hg2',b2,rfl,hd2⟩;have hg2:Below W0.heap.size W0 w2:=(Below.refl _ _).drew.trans hg2';have hs0:=cell_keeps hg2 hs0;have k0:=cell_keeps hg2 k0;have k1:=cell_keeps hg2 k1;have k2:=cell_keeps hg2 k2;have k3:=cell_keeps hg2 k3;have HE:Hid (DcPost q L w (.returned (.pointer (some ⟨w2.heap.size,0,none⟩))) (w2.alloc (.cells #[.pointer (some ⟨b2,0,none⟩)] 101))):=dc_new (hb0.trans (hg2.mono hb0.size)) hd2 HN.out;clear hg2' hd2))
 all_goals (first | (go_ret;exact HE.out) | (go_wp2_with fail;go_ret;exact HE.out))

theorem getO_wrong {d q:Nat} {y:VT} {l:List PT} (h:rightV d y=false):getO d q y l=none:=by unfold getO;rw [h];rfl
theorem getO_right {d q:Nat} {y:VT} {l:List PT} (h:rightV d y=true):getO d q y l=findK q y l:=by unfold getO;rw [if_pos h]

set_option maxRecDepth 100000 in
set_option maxHeartbeats 8000000 in
theorem rhas_16 {w0 w:World} {q:Nat} {l:List PT} {c:Nat} (h:DS w0 q l c) (hw0:Below w0.heap.size w0 w) (d:Nat) (y:VT) (yu:Value) (hy:Lies d w y.items yu):Calls Tryz.prog 23 #[.pointer (some ⟨c,0,none⟩),.agg #[.int .i64 y.kind,.int .i64 y.num,.string y.text,yu]] w (HasPost (getO d q y l).isSome (errOf (rightV d y)) w):=by
 obtain⟨ay,cy,rfl,_⟩:=Lies.slice hy
 obtain⟨W0,hW0⟩:∃W0,W0=w.alloc (.cells #[.int .i64 y.kind,.int .i64 y.num,.string y.text,.slice ay y.items.length cy] 33):=⟨_,rfl⟩
 have hb0:Below w.heap.size w W0:=by rw [hW0];exact ((Grew.refl w).alloc _).below
 have HY0:Hid (Bx W0 w.heap.size y (.slice ay y.items.length cy)):=by rw [hW0];exact bx_alloc _ _ _
 have HR:Hid (Calls Tryz.prog 79 #[.agg #[.int .i64 y.kind,.int .i64 y.num,.string y.text,.slice ay y.items.length cy]] W0 fun e w'=>e=.returned (.bool (rightV d y))∧Below W0.heap.size W0 w'):=right_any d y _ W0 (Lies.keeps hb0 _ _ _ hy)
 have HW:Hid (rightV d y=true→∀V,Below w.heap.size w V→Calls Tryz.prog 80 #[.pointer (some ⟨c,0,none⟩),.agg #[.int .i64 y.kind,.int .i64 y.num,.string y.text,.slice ay y.items.length cy]] V (fun e w'=>e=.returned (.bool (findK q y l).isSome)∧Below V.heap.size V w')):=fun hr V hV=>by
  obtain⟨h1,h2⟩:=canon hy hr
  exact rin_16 h (hw0.trans (hV.mono hw0.size)) y _ (Lies.keeps hV _ _ _ h1) h2
 clear hy h
 cases hr:rightV d y with
 | false=>
  have HRr:Hid (rightV d y=false):=hr
  rw [hr] at HR
  clear HW hr
  go_enter Tryz.func23,Tryz.ntmps23
  obtain⟨r0,r1,r2,r3,_,_,_,_⟩:=HY0.out
  go_wp2_with fail
  rw [←hW0]
  clear hW0
  go_wp2_with fail
  refine Calls.mono HR.out ?_
  rintro e w1 ⟨rfl,hg1⟩
  have HE:Hid ((HasPost (getO d q y l).isSome (errOf false) w) (.returned (.tuple #[.bool false,.int .i64 3])) w1):=by rw [getO_wrong HRr.out];exact⟨rfl,hb0.trans (hg1.mono hb0.size)⟩
  clear r0 r1 r2 r3 HR HY0 hg1 hb0
  go_wp2_with fail
  refine bodyPost_ret (v:=(.tuple #[.bool false,.int .i64 3])) (by simp [results,Tryz.results23,go_sem]) rfl HE.out
 | true=>
  rw [hr] at HR
  have HWt:Hid (∀V,Below w.heap.size w V→Calls Tryz.prog 80 #[.pointer (some ⟨c,0,none⟩),.agg #[.int .i64 y.kind,.int .i64 y.num,.string y.text,.slice ay y.items.length cy]] V (fun e w'=>e=.returned (.bool (findK q y l).isSome)∧Below V.heap.size V w')):=HW.out hr
  have HRr:Hid (rightV d y=true):=hr
  clear HW hr
  go_enter Tryz.func23,Tryz.ntmps23
  obtain⟨r0,r1,r2,r3,_,_,_,_⟩:=HY0.out
  go_wp2_with fail
  rw [←hW0]
  clear hW0
  go_wp2_with fail
  refine Calls.mono HR.out ?_
  rintro e w1 ⟨rfl,hg1⟩
  have hb1:Below w.heap.size w w1:=hb0.trans (hg1.mono hb0.size)
  clear r0 r1 r2 r3
  obtain⟨r0,r1,r2,r3,_,_,_,_⟩:=HY0.out.keeps hg1
  have HWc:=show Hid _ from HWt.out w1 hb1
  clear HR HWt HY0 hg1 hb0
  go_wp2_with fail
  refine Calls.mono HWc.out ?_
  rintro e w2 ⟨rfl,hg2⟩
  have HE:Hid ((HasPost (getO d q y l).isSome (errOf true) w) (.returned (.tuple #[.bool (findK q y l).isSome,.int .i64 0])) w2):=by rw [getO_right HRr.out];exact⟨rfl,hb1.trans (hg2.mono hb1.size)⟩
  generalize (findK q y l).isSome=F at *
  clear r0 r1 r2 r3 HWc hg2 hb1
  go_wp2_with fail
  refine bodyPost_ret (v:=(.tuple #[.bool F,.int .i64 0])) (by simp [results,Tryz.results23,go_sem]) rfl HE.out

set_option maxRecDepth 100000 in
set_option maxHeartbeats 8000000 in
theorem rdisj_16 {w0 w:World} {q:Nat} {l:List PT} {c:Nat} (h:DS w0 q l c) (hw0:Below w0.heap.size w0 w) (d:Nat) (y:VT) (yu:Value) (hy:Lies d w y.items yu):Calls Tryz.prog 25 #[.pointer (some ⟨c,0,none⟩),.agg #[.int .i64 y.kind,.int .i64 y.num,.string y.text,yu]] w (DsPost q (lessK q y l) (errOf (rightV d y)) w):=by
 obtain⟨ay,cy,rfl,_⟩:=Lies.slice hy
 obtain⟨W0,hW0⟩:∃W0,W0=w.alloc (.cells #[.int .i64 y.kind,.int .i64 y.num,.string y.text,.slice ay y.items.length cy] 33):=⟨_,rfl⟩
 have hb0:Below w.heap.size w W0:=by rw [hW0];exact ((Grew.refl w).alloc _).below
 have HY0:Hid (Bx W0 w.heap.size y (.slice ay y.items.length cy)):=by rw [hW0];exact bx_alloc _ _ _
 have HR:Hid (Calls Tryz.prog 79 #[.agg #[.int .i64 y.kind,.int .i64 y.num,.string y.text,.slice ay y.items.length cy]] W0 fun e w'=>e=.returned (.bool (rightV d y))∧Below W0.heap.size W0 w'):=right_any d y _ W0 (Lies.keeps hb0 _ _ _ hy)
 have HW:Hid (rightV d y=true→∀V,Below w.heap.size w V→Calls Tryz.prog 82 #[.pointer (some ⟨c,0,none⟩),.agg #[.int .i64 y.kind,.int .i64 y.num,.string y.text,.slice ay y.items.length cy]] V (DcPost q (lessK q y l) V)):=fun hr V hV=>by
  obtain⟨h1,h2⟩:=canon hy hr
  exact rwot_16 h (hw0.trans (hV.mono hw0.size)) y _ (Lies.keeps hV _ _ _ h1) h2
 clear hy h
 cases hr:rightV d y with
 | false=>
  have HRr:Hid (rightV d y=false):=hr
  rw [hr] at HR
  clear HW hr
  go_enter Tryz.func25,Tryz.ntmps25
  obtain⟨r0,r1,r2,r3,_,_,_,_⟩:=HY0.out
  go_wp2_with fail
  rw [←hW0]
  clear hW0
  go_wp2_with fail
  refine Calls.mono HR.out ?_
  rintro e w1 ⟨rfl,hg1⟩
  have HE:Hid ((DsPost q (lessK q y l) (errOf false) w) (.returned (.tuple #[.pointer none,.int .i64 3])) w1):=⟨hb0.trans (hg1.mono hb0.size),none,rfl,.inl ⟨by decide,rfl⟩⟩
  clear r0 r1 r2 r3 HR HY0 hg1 hb0
  go_wp2_with fail
  refine bodyPost_ret (v:=(.tuple #[.pointer none,.int .i64 3])) (by simp [results,Tryz.results25,go_sem]) rfl HE.out
 | true=>
  rw [hr] at HR
  have HWt:Hid (∀V,Below w.heap.size w V→Calls Tryz.prog 82 #[.pointer (some ⟨c,0,none⟩),.agg #[.int .i64 y.kind,.int .i64 y.num,.string y.text,.slice ay y.items.length cy]] V (DcPost q (lessK q y l) V)):=HW.out hr
  have HRr:Hid (rightV d y=true):=hr
  clear HW hr
  go_enter Tryz.func25,Tryz.ntmps25
  obtain⟨r0,r1,r2,r3,_,_,_,_⟩:=HY0.out
  go_wp2_with fail
  rw [←hW0]
  clear hW0
  go_wp2_with fail
  refine Calls.mono HR.out ?_
  rintro e w1 ⟨rfl,hg1⟩
  have hb1:Below w.heap.size w w1:=hb0.trans (hg1.mono hb0.size)
  clear r0 r1 r2 r3
  obtain⟨r0,r1,r2,r3,_,_,_,_⟩:=HY0.out.keeps hg1
  have HWc:=show Hid _ from HWt.out w1 hb1
  clear HR HWt HY0 hg1 hb0
  go_wp2_with fail
  refine Calls.mono HWc.out ?_
  rintro e w2 ⟨hg2,b,rfl,hd⟩
  have HE:Hid ((DsPost q (lessK q y l) (errOf true) w) (.returned (.tuple #[.pointer (some ⟨b,0,none⟩),.int .i64 0])) w2):=⟨hb1.trans (hg2.mono hb1.size),_,rfl,.inr ⟨rfl,b,rfl,hd⟩⟩
  clear hd
  clear r0 r1 r2 r3 HWc hg2 hb1
  go_wp2_with fail
  refine bodyPost_ret (v:=(.tuple #[.pointer (some ⟨b,0,none⟩),.int .i64 0])) (by simp [results,Tryz.results25,go_sem]) rfl HE.out

set_option maxRecDepth 100000 in
set_option maxHeartbeats 16000000 in
theorem rconj_16 {w0 w:World} {q:Nat} {l:List PT} {c:Nat} (h:DS w0 q l c) (hw0:Below w0.heap.size w0 w) (d:Nat) (y:VT) (yu:Value) (hy:Lies d w y.items yu) (hyt:y.text.size≤9223372036854775807):Calls Tryz.prog 27 #[.pointer (some ⟨c,0,none⟩),.agg #[.int .i64 y.kind,.int .i64 y.num,.string y.text,yu]] w (DsPost q (withK q y nilT l) (assocL d q y nilT l) w):=by
 obtain⟨ay,cy,rfl,_⟩:=Lies.slice hy
 obtain⟨W0,hW0⟩:∃W0,W0=w.alloc (.cells #[.int .i64 y.kind,.int .i64 y.num,.string y.text,.slice ay y.items.length cy] 33):=⟨_,rfl⟩
 have hb0:Below w.heap.size w W0:=by rw [hW0];exact ((Grew.refl w).alloc _).below
 have HY0:Hid (Bx W0 w.heap.size y (.slice ay y.items.length cy)):=by rw [hW0];exact bx_alloc _ _ _
 have HR:Hid (Calls Tryz.prog 79 #[.agg #[.int .i64 y.kind,.int .i64 y.num,.string y.text,.slice ay y.items.length cy]] W0 fun e w'=>e=.returned (.bool (rightV d y))∧Below W0.heap.size W0 w'):=right_any d y _ W0 (Lies.keeps hb0 _ _ _ hy)
 have HIn:Hid (rightV d y=true→∀V,Below w.heap.size w V→Calls Tryz.prog 80 #[.pointer (some ⟨c,0,none⟩),.agg #[.int .i64 y.kind,.int .i64 y.num,.string y.text,.slice ay y.items.length cy]] V fun e w'=>e=.returned (.bool (findK q y l).isSome)∧Below V.heap.size V w'):=fun hr V hV=>by
  obtain⟨h1,h2⟩:=canon hy hr
  exact rin_16 h (hw0.trans (hV.mono hw0.size)) y _ (Lies.keeps hV _ _ _ h1) h2
 have HLn:Hid (∀V,Below w.heap.size w V→Calls Tryz.prog 75 #[.pointer (some ⟨c,0,none⟩)] V (fun e w'=>e=.returned (.int .i64 (l.length:Nat))∧Below V.heap.size V w')):=fun V hV=>(h.keeps (hw0.trans (hV.mono hw0.size))).len
 have HWi:Hid (rightV d y=true→(findK q y l=none→l.length < 65536)→∀V,Below w.heap.size w V→Calls Tryz.prog 84 #[.pointer (some ⟨c,0,none⟩),.agg #[.int .i64 y.kind,.int .i64 y.num,.string y.text,.slice ay y.items.length cy]] V (DcPost q (withK q y nilT l) V)):=fun hr hsz V hV=>by
  obtain⟨h1,h2⟩:=canon hy hr
  exact rwith_16 h (hw0.trans (hV.mono hw0.size)) y _ (Lies.keeps hV _ _ _ h1) h2 hyt hsz
 have HZ:Hid (l.length≤65536):=by obtain⟨_,_,hd,_⟩:=h;exact hd.size
 clear hy h
 cases hr:rightV d y with
 | false=>
  have HEE:Hid (assocL d q y nilT l=3):=by show _=_;unfold assocL;rw [if_pos hr]
  rw [hr] at HR
  clear HIn HLn HWi hr
  go_enter Tryz.func27,Tryz.ntmps27
  obtain⟨r0,r1,r2,r3,_,_,_,_⟩:=HY0.out
  go_wp2_with fail
  rw [←hW0]
  clear hW0
  go_wp2_with fail
  refine Calls.mono HR.out ?_
  rintro e w1 ⟨rfl,hg1⟩
  have HE:Hid (DsPost q (withK q y nilT l) (assocL d q y nilT l) w (.returned (.tuple #[.pointer none,.int .i64 3])) w1):=by rw [HEE.out];exact⟨hb0.trans (hg1.mono hb0.size),none,rfl,.inl ⟨by decide,rfl⟩⟩
  clear r0 r1 r2 r3 HR HY0 hg1 hb0
  go_wp2_with fail
  refine bodyPost_ret (v:=.tuple #[.pointer none,.int .i64 3]) (by simp [results,Tryz.results27,go_sem]) rfl HE.out
 | true=>
  have HEE:Hid (assocL d q y nilT l=if findK q y l=none∧l.length=65536 then 2 else 0):=by show _=_;unfold assocL;rw [if_neg (by rw [hr];simp),if_neg (by rw [right_nil];simp)]
  rw [hr] at HR
  have HIn2:Hid _:=HIn.out hr
  have HWi2:Hid _:=HWi.out hr
  clear HIn HWi hr
  obtain⟨F,hF⟩:∃F,F=(findK q y l).isSome:=⟨_,rfl⟩
  have HF:Hid (F=(findK q y l).isSome):=hF
  rw [←hF] at HIn2
  clear hF
  obtain⟨N,hN⟩:∃N,N=l.length:=⟨_,rfl⟩
  have HN:Hid (N=l.length):=hN
  rw [←hN] at HLn
  clear hN
  go_enter Tryz.func27,Tryz.ntmps27
  obtain⟨r0,r1,r2,r3,_,_,_,_⟩:=HY0.out
  go_wp2_with fail
  rw [←hW0]
  clear hW0
  go_wp2_with fail
  refine Calls.mono HR.out ?_
  rintro e w1 ⟨rfl,hg1⟩
  have hb1:Below w.heap.size w w1:=hb0.trans (hg1.mono hb0.size)
  clear r0 r1 r2 r3
  obtain⟨r0,r1,r2,r3,_,_,_,_⟩:=HY0.out.keeps hg1
  have HIc:=show Hid _ from HIn2.out w1 hb1
  have HY1:Hid (Bx w1 w.heap.size y (.slice ay y.items.length cy)):=HY0.out.keeps hg1
  clear HR HIn2 HY0 hg1 hb0
  go_wp2_with fail
  refine Calls.mono HIc.out ?_
  rintro e w2 ⟨rfl,hg2⟩
  have hb2:Below w.heap.size w w2:=hb1.trans (hg2.mono hb1.size)
  clear r0 r1 r2 r3
  obtain⟨r0,r1,r2,r3,_,_,_,_⟩:=HY1.out.keeps hg2
  have HY2:Hid (Bx w2 w.heap.size y (.slice ay y.items.length cy)):=HY1.out.keeps hg2
  clear HIc HY1 hg2 hb1
  cases F with
  | true=>
   have HWc:=show Hid _ from HWi2.out (fun e=>by have:=HF.out;rw [e] at this;cases this) w2 hb2
   clear HWi2 HLn HY2
   go_wp2_with fail
   refine Calls.mono HWc.out ?_
   rintro e w3 ⟨hg3,b,rfl,hd⟩
   have HE:Hid (DsPost q (withK q y nilT l) (assocL d q y nilT l) w (.returned (.tuple #[.pointer (some ⟨b,0,none⟩),.int .i64 0])) w3):=by rw [HEE.out,if_neg (fun e=>by have:=HF.out;rw [e.1] at this;cases this)];exact⟨hb2.trans (hg3.mono hb2.size),_,rfl,.inr ⟨rfl,b,rfl,hd⟩⟩
   clear r0 r1 r2 r3 HWc hg3 hd hb2
   go_wp2_with fail
   refine bodyPost_ret (v:=.tuple #[.pointer (some ⟨b,0,none⟩),.int .i64 0]) (by simp [results,Tryz.results27,go_sem]) rfl HE.out
  | false=>
   have HLc:=show Hid _ from HLn.out w2 hb2
   have HFn:Hid (findK q y l=none):=by show _=_;have:=HF.out;cases hk:findK q y l with | none=>rfl | some x=>(rw [hk] at this;cases this)
   clear HLn
   go_wp2_with fail
   refine Calls.mono HLc.out ?_
   rintro e w3 ⟨rfl,hg3⟩
   have hb3:Below w.heap.size w w3:=hb2.trans (hg3.mono hb2.size)
   clear r0 r1 r2 r3
   obtain⟨r0,r1,r2,r3,_,_,_,_⟩:=HY2.out.keeps hg3
   clear HLc HY2 hg3 hb2
   by_cases hbig:65536≤N
   ·have hbI:(65536:Int)≤(N:Nat):=by omega
    have HE:Hid (DsPost q (withK q y nilT l) (assocL d q y nilT l) w (.returned (.tuple #[.pointer none,.int .i64 2])) w3):=by rw [HEE.out,if_pos ⟨HFn.out,by have:=HZ.out;have:=HN.out;omega⟩];exact⟨hb3,none,rfl,.inl ⟨by decide,rfl⟩⟩
    clear r0 r1 r2 r3 HWi2 hb3
    go_wp2_with fail
    refine bodyPost_ret (v:=.tuple #[.pointer none,.int .i64 2]) (by simp [results,Tryz.results27,go_sem]) rfl HE.out
   ·have hbI : ¬(65536:Int)≤(N:Nat):=by omega
    have HWc:=show Hid _ from HWi2.out (fun _=>by have:=HN.out;omega) w3 hb3
    have HE0:Hid (assocL d q y nilT l=0):=by show _=_;rw [HEE.out,if_neg (fun e=>by have:=HN.out;omega)]
    have hltD:decide ((65536:Int)≤((N:Nat):Int))=false:=decide_eq_false hbI
    clear HWi2 hbig
    go_wp2_with fail
    refine Calls.mono HWc.out ?_
    rintro e w4 ⟨hg4,b,rfl,hd⟩
    have HE:Hid (DsPost q (withK q y nilT l) (assocL d q y nilT l) w (.returned (.tuple #[.pointer (some ⟨b,0,none⟩),.int .i64 0])) w4):=by rw [HE0.out];exact⟨hb3.trans (hg4.mono hb3.size),_,rfl,.inr ⟨rfl,b,rfl,hd⟩⟩
    clear r0 r1 r2 r3 HWc hg4 hd hb3
    go_wp2_with fail
    refine bodyPost_ret (v:=.tuple #[.pointer (some ⟨b,0,none⟩),.int .i64 0]) (by simp [results,Tryz.results27,go_sem]) rfl HE.out

end Go.Proofs.YtlnecfjnffdciabGreat

