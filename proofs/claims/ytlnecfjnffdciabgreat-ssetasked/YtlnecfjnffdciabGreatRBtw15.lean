import Derived.Test.YtlnecfjnffdciabGreatNearM
namespace Go.Proofs.YtlnecfjnffdciabGreat
open Go.RowKit Go.Shelf
def AtPost15 (o:Option PT) (w:World) (e:Ending) (w':World):Prop:=Below w.heap.size w w'∧((o=none∧e=.returned (.tuple #[zeroPV,.int .i64 5]))∨∃x ku vu,o=some x∧e=.returned (.tuple #[pairV x ku vu,.int .i64 0])∧LiesB w.heap.size 16 w' x.1.items ku∧LiesB w.heap.size 16 w' x.2.items vu)
set_option maxRecDepth 100000 in
set_option maxHeartbeats 8000000 in
theorem lower15_core (O:Option PT) (E:Int) (b:Nat) (y:VT) (ak:Option Addr) (ck:Nat) (w:World) (hc:∀V,Below w.heap.size w V→Calls Tryz.prog 143 #[.pointer (some ⟨b,0,none⟩),.agg #[.int .i64 y.kind,.int .i64 y.num,.string y.text,.slice ak y.items.length ck],.bool false] V (NearPost O E V)):Calls Tryz.prog 89 #[.pointer (some ⟨b,0,none⟩),.agg #[.int .i64 y.kind,.int .i64 y.num,.string y.text,.slice ak y.items.length ck]] w (NearPost O E w):=by
 have HU:Hid _:=hc
 obtain⟨W0,hW0⟩:∃W0,W0=(w.alloc (.cells #[.int .i64 y.kind,.int .i64 y.num,.string y.text,.slice ak y.items.length ck] 33)).alloc (.cells #[.int .i64 0,.int .i64 0,.string ⟨#[]⟩,.slice none 0 0,.int .i64 0,.int .i64 0,.string ⟨#[]⟩,.slice none 0 0] 108):=⟨_,rfl⟩
 have HW0:Hid (W0=(w.alloc (.cells #[.int .i64 y.kind,.int .i64 y.num,.string y.text,.slice ak y.items.length ck] 33)).alloc (.cells #[.int .i64 0,.int .i64 0,.string ⟨#[]⟩,.slice none 0 0,.int .i64 0,.int .i64 0,.string ⟨#[]⟩,.slice none 0 0] 108)):=hW0
 have hb0:Below w.heap.size w W0:=by rw [hW0];exact (((Grew.refl w).alloc _).alloc _).below
 have HS0:Hid (w.heap.size+1<W0.heap.size):=by rw [hW0];show _<_;simp
 have HK0:Hid (Bx W0 w.heap.size y (.slice ak y.items.length ck)):=by rw [hW0];exact (zag w y _).keeps ((Grew.refl _).alloc _).below
 have HZ0:Hid (Bx8 W0 (w.heap.size+1) (.int .i64 0) (.int .i64 0) (.string ⟨#[]⟩) (.slice none 0 0) (.int .i64 0) (.int .i64 0) (.string ⟨#[]⟩) (.slice none 0 0)):=by
  rw [hW0]
  have h9:=zan (w.alloc (.cells #[.int .i64 y.kind,.int .i64 y.num,.string y.text,.slice ak y.items.length ck] 33)) 108 (.int .i64 0) (.int .i64 0) (.string ⟨#[]⟩) (.slice none 0 0) (.int .i64 0) (.int .i64 0) (.string ⟨#[]⟩) (.slice none 0 0)
  rwa [World.size_alloc] at h9
 obtain⟨k0,k1,k2,k3,_,_,_,_⟩:=HK0.out
 clear hW0 hc
 go_enter Tryz.func89,Tryz.ntmps89
 go_upto_region 1 with fail
 rw [←HW0.out]
 clear HW0
 go_wp2_with fail
 refine Calls.mono (HU.out _ hb0) ?_
 rintro e w2 ⟨hg2,hcase⟩
 have HZ2:Hid (Bx8 w2 (w.heap.size+1) (.int .i64 0) (.int .i64 0) (.string ⟨#[]⟩) (.slice none 0 0) (.int .i64 0) (.int .i64 0) (.string ⟨#[]⟩) (.slice none 0 0)):=HZ0.out.keeps hg2
 have hb2:Below w.heap.size w w2:=hb0.trans (hg2.mono hb0.size)
 obtain⟨y0,y1,y2,y3,y4,y5,y6,y7,f0,f1,f2,f3,f4,f5,f6,f7,_⟩:=HZ2.out
 clear hg2 HU HZ0 k0 k1 k2 k3 HK0
 rcases hcase with ⟨ho,rfl⟩|⟨x,ku,vu,ho,hE,rfl,hl5,hl6⟩
 ·have Hq:Hid _:=zaz HZ2.out (.int .i64 0) (.int .i64 0) (.string ⟨#[]⟩) (.slice none 0 0) (.int .i64 0) (.int .i64 0) (.string ⟨#[]⟩) (.slice none 0 0)
  have HE:Hid (NearPost O E w (.returned (.tuple #[.agg #[.int .i64 0,.int .i64 0,.string ⟨#[]⟩,.slice none 0 0,.int .i64 0,.int .i64 0,.string ⟨#[]⟩,.slice none 0 0],.bool false,.int .i64 E])) (w2.setCells (w.heap.size+1) 0 [.int .i64 0,.int .i64 0,.string ⟨#[]⟩,.slice none 0 0,.int .i64 0,.int .i64 0,.string ⟨#[]⟩,.slice none 0 0])):=⟨zam hb2 (by omega) _ _ _ _ _ _ _ _,.inl ⟨ho,rfl⟩⟩
  clear ho hb0 hb2
  go_wp2_with fail
  refine bodyPost_ret (v:=.tuple #[.agg #[.int .i64 0,.int .i64 0,.string ⟨#[]⟩,.slice none 0 0,.int .i64 0,.int .i64 0,.string ⟨#[]⟩,.slice none 0 0],.bool false,.int .i64 E]) ?_ rfl HE.out
  obtain⟨q0,q1,q2,q3,q4,q5,q6,q7⟩:=Hq.out
  simp only [World.setCells,Nat.zero_add,Nat.reduceAdd] at q0 q1 q2 q3 q4 q5 q6 q7
  simp [results,Tryz.results89,go_sem,q0,q1,q2,q3,q4,q5,q6,q7]
 ·obtain⟨a5,c5,rfl,_⟩:=LiesB.slice hl5
  obtain⟨a6,c6,rfl,_⟩:=LiesB.slice hl6
  have Hq:Hid _:=zaz HZ2.out (.int .i64 x.1.kind) (.int .i64 x.1.num) (.string x.1.text) (.slice a5 x.1.items.length c5) (.int .i64 x.2.kind) (.int .i64 x.2.num) (.string x.2.text) (.slice a6 x.2.items.length c6)
  have HE:Hid (NearPost O E w (.returned (.tuple #[.agg #[.int .i64 x.1.kind,.int .i64 x.1.num,.string x.1.text,.slice a5 x.1.items.length c5,.int .i64 x.2.kind,.int .i64 x.2.num,.string x.2.text,.slice a6 x.2.items.length c6],.bool true,.int .i64 0])) (w2.setCells (w.heap.size+1) 0 [.int .i64 x.1.kind,.int .i64 x.1.num,.string x.1.text,.slice a5 x.1.items.length c5,.int .i64 x.2.kind,.int .i64 x.2.num,.string x.2.text,.slice a6 x.2.items.length c6])):=⟨zam hb2 (by omega) _ _ _ _ _ _ _ _,.inr ⟨x,_,_,ho,hE,rfl,LiesB.lower14 hb0.size _ _ _ (LiesB.put8 HS0.out _ hl5),LiesB.lower14 hb0.size _ _ _ (LiesB.put8 HS0.out _ hl6)⟩⟩
  clear ho hb0 hb2 hl5 hl6 hE
  go_wp2_with fail
  refine bodyPost_ret (v:=.tuple #[.agg #[.int .i64 x.1.kind,.int .i64 x.1.num,.string x.1.text,.slice a5 x.1.items.length c5,.int .i64 x.2.kind,.int .i64 x.2.num,.string x.2.text,.slice a6 x.2.items.length c6],.bool true,.int .i64 0]) ?_ rfl HE.out
  obtain⟨q0,q1,q2,q3,q4,q5,q6,q7⟩:=Hq.out
  simp only [World.setCells,Nat.zero_add,Nat.reduceAdd] at q0 q1 q2 q3 q4 q5 q6 q7
  simp [results,Tryz.results89,go_sem,q0,q1,q2,q3,q4,q5,q6,q7]
theorem lower15_wrong (d b:Nat) (y:VT) (yu:Value) (w:World) (hy:Lies d w y.items yu) (ht:y.text.size≤9223372036854775807) (hr:zab d y=false):Calls Tryz.prog 89 #[.pointer (some ⟨b,0,none⟩),.agg #[.int .i64 y.kind,.int .i64 y.num,.string y.text,yu]] w (NearPost none 3 w):=by
 obtain⟨ak,ck,rfl,_⟩:=Lies.slice hy
 exact lower15_core none 3 b y ak ck w fun V hV=>lasto_wrong d b false y _ V (Lies.keeps hV _ _ _ hy) ht hr
theorem lower15_right (d b q:Nat) (t:RT PT) (y:VT) (yu:Value) (w:World) (hm:MC w q t b) (hy:Lies d w y.items yu) (ht:y.text.size≤9223372036854775807) (hr:zab d y=true):Calls Tryz.prog 89 #[.pointer (some ⟨b,0,none⟩),.agg #[.int .i64 y.kind,.int .i64 y.num,.string y.text,yu]] w (NearPost (zal t.items ((RT.upTo (atK q y) false t:Nat)-1:Int)) 0 w):=by
 obtain⟨ak,ck,rfl,_⟩:=Lies.slice hy
 exact lower15_core _ 0 b y ak ck w fun V hV=>lasto_right d b q false t y _ V (hm.keeps hV) (Lies.keeps hV _ _ _ hy) ht hr
set_option maxRecDepth 100000 in
set_option maxHeartbeats 8000000 in
theorem higher15_core (O:Option PT) (E:Int) (b:Nat) (y:VT) (ak:Option Addr) (ck:Nat) (w:World) (hc:∀V,Below w.heap.size w V→Calls Tryz.prog 142 #[.pointer (some ⟨b,0,none⟩),.agg #[.int .i64 y.kind,.int .i64 y.num,.string y.text,.slice ak y.items.length ck],.bool true] V (NearPost O E V)):Calls Tryz.prog 88 #[.pointer (some ⟨b,0,none⟩),.agg #[.int .i64 y.kind,.int .i64 y.num,.string y.text,.slice ak y.items.length ck]] w (NearPost O E w):=by
 have HU:Hid _:=hc
 obtain⟨W0,hW0⟩:∃W0,W0=(w.alloc (.cells #[.int .i64 y.kind,.int .i64 y.num,.string y.text,.slice ak y.items.length ck] 33)).alloc (.cells #[.int .i64 0,.int .i64 0,.string ⟨#[]⟩,.slice none 0 0,.int .i64 0,.int .i64 0,.string ⟨#[]⟩,.slice none 0 0] 108):=⟨_,rfl⟩
 have HW0:Hid (W0=(w.alloc (.cells #[.int .i64 y.kind,.int .i64 y.num,.string y.text,.slice ak y.items.length ck] 33)).alloc (.cells #[.int .i64 0,.int .i64 0,.string ⟨#[]⟩,.slice none 0 0,.int .i64 0,.int .i64 0,.string ⟨#[]⟩,.slice none 0 0] 108)):=hW0
 have hb0:Below w.heap.size w W0:=by rw [hW0];exact (((Grew.refl w).alloc _).alloc _).below
 have HS0:Hid (w.heap.size+1<W0.heap.size):=by rw [hW0];show _<_;simp
 have HK0:Hid (Bx W0 w.heap.size y (.slice ak y.items.length ck)):=by rw [hW0];exact (zag w y _).keeps ((Grew.refl _).alloc _).below
 have HZ0:Hid (Bx8 W0 (w.heap.size+1) (.int .i64 0) (.int .i64 0) (.string ⟨#[]⟩) (.slice none 0 0) (.int .i64 0) (.int .i64 0) (.string ⟨#[]⟩) (.slice none 0 0)):=by
  rw [hW0]
  have h9:=zan (w.alloc (.cells #[.int .i64 y.kind,.int .i64 y.num,.string y.text,.slice ak y.items.length ck] 33)) 108 (.int .i64 0) (.int .i64 0) (.string ⟨#[]⟩) (.slice none 0 0) (.int .i64 0) (.int .i64 0) (.string ⟨#[]⟩) (.slice none 0 0)
  rwa [World.size_alloc] at h9
 obtain⟨k0,k1,k2,k3,_,_,_,_⟩:=HK0.out
 clear hW0 hc
 go_enter Tryz.func88,Tryz.ntmps88
 go_upto_region 1 with fail
 rw [←HW0.out]
 clear HW0
 go_wp2_with fail
 refine Calls.mono (HU.out _ hb0) ?_
 rintro e w2 ⟨hg2,hcase⟩
 have HZ2:Hid (Bx8 w2 (w.heap.size+1) (.int .i64 0) (.int .i64 0) (.string ⟨#[]⟩) (.slice none 0 0) (.int .i64 0) (.int .i64 0) (.string ⟨#[]⟩) (.slice none 0 0)):=HZ0.out.keeps hg2
 have hb2:Below w.heap.size w w2:=hb0.trans (hg2.mono hb0.size)
 obtain⟨y0,y1,y2,y3,y4,y5,y6,y7,f0,f1,f2,f3,f4,f5,f6,f7,_⟩:=HZ2.out
 clear hg2 HU HZ0 k0 k1 k2 k3 HK0
 rcases hcase with ⟨ho,rfl⟩|⟨x,ku,vu,ho,hE,rfl,hl5,hl6⟩
 ·have Hq:Hid _:=zaz HZ2.out (.int .i64 0) (.int .i64 0) (.string ⟨#[]⟩) (.slice none 0 0) (.int .i64 0) (.int .i64 0) (.string ⟨#[]⟩) (.slice none 0 0)
  have HE:Hid (NearPost O E w (.returned (.tuple #[.agg #[.int .i64 0,.int .i64 0,.string ⟨#[]⟩,.slice none 0 0,.int .i64 0,.int .i64 0,.string ⟨#[]⟩,.slice none 0 0],.bool false,.int .i64 E])) (w2.setCells (w.heap.size+1) 0 [.int .i64 0,.int .i64 0,.string ⟨#[]⟩,.slice none 0 0,.int .i64 0,.int .i64 0,.string ⟨#[]⟩,.slice none 0 0])):=⟨zam hb2 (by omega) _ _ _ _ _ _ _ _,.inl ⟨ho,rfl⟩⟩
  clear ho hb0 hb2
  go_wp2_with fail
  refine bodyPost_ret (v:=.tuple #[.agg #[.int .i64 0,.int .i64 0,.string ⟨#[]⟩,.slice none 0 0,.int .i64 0,.int .i64 0,.string ⟨#[]⟩,.slice none 0 0],.bool false,.int .i64 E]) ?_ rfl HE.out
  obtain⟨q0,q1,q2,q3,q4,q5,q6,q7⟩:=Hq.out
  simp only [World.setCells,Nat.zero_add,Nat.reduceAdd] at q0 q1 q2 q3 q4 q5 q6 q7
  simp [results,Tryz.results88,go_sem,q0,q1,q2,q3,q4,q5,q6,q7]
 ·obtain⟨a5,c5,rfl,_⟩:=LiesB.slice hl5
  obtain⟨a6,c6,rfl,_⟩:=LiesB.slice hl6
  have Hq:Hid _:=zaz HZ2.out (.int .i64 x.1.kind) (.int .i64 x.1.num) (.string x.1.text) (.slice a5 x.1.items.length c5) (.int .i64 x.2.kind) (.int .i64 x.2.num) (.string x.2.text) (.slice a6 x.2.items.length c6)
  have HE:Hid (NearPost O E w (.returned (.tuple #[.agg #[.int .i64 x.1.kind,.int .i64 x.1.num,.string x.1.text,.slice a5 x.1.items.length c5,.int .i64 x.2.kind,.int .i64 x.2.num,.string x.2.text,.slice a6 x.2.items.length c6],.bool true,.int .i64 0])) (w2.setCells (w.heap.size+1) 0 [.int .i64 x.1.kind,.int .i64 x.1.num,.string x.1.text,.slice a5 x.1.items.length c5,.int .i64 x.2.kind,.int .i64 x.2.num,.string x.2.text,.slice a6 x.2.items.length c6])):=⟨zam hb2 (by omega) _ _ _ _ _ _ _ _,.inr ⟨x,_,_,ho,hE,rfl,LiesB.lower14 hb0.size _ _ _ (LiesB.put8 HS0.out _ hl5),LiesB.lower14 hb0.size _ _ _ (LiesB.put8 HS0.out _ hl6)⟩⟩
  clear ho hb0 hb2 hl5 hl6 hE
  go_wp2_with fail
  refine bodyPost_ret (v:=.tuple #[.agg #[.int .i64 x.1.kind,.int .i64 x.1.num,.string x.1.text,.slice a5 x.1.items.length c5,.int .i64 x.2.kind,.int .i64 x.2.num,.string x.2.text,.slice a6 x.2.items.length c6],.bool true,.int .i64 0]) ?_ rfl HE.out
  obtain⟨q0,q1,q2,q3,q4,q5,q6,q7⟩:=Hq.out
  simp only [World.setCells,Nat.zero_add,Nat.reduceAdd] at q0 q1 q2 q3 q4 q5 q6 q7
  simp [results,Tryz.results88,go_sem,q0,q1,q2,q3,q4,q5,q6,q7]
theorem higher15_wrong (d b:Nat) (y:VT) (yu:Value) (w:World) (hy:Lies d w y.items yu) (ht:y.text.size≤9223372036854775807) (hr:zab d y=false):Calls Tryz.prog 88 #[.pointer (some ⟨b,0,none⟩),.agg #[.int .i64 y.kind,.int .i64 y.num,.string y.text,yu]] w (NearPost none 3 w):=by
 obtain⟨ak,ck,rfl,_⟩:=Lies.slice hy
 exact higher15_core none 3 b y ak ck w fun V hV=>firstb_wrong d b true y _ V (Lies.keeps hV _ _ _ hy) ht hr
theorem higher15_right (d b q:Nat) (t:RT PT) (y:VT) (yu:Value) (w:World) (hm:MC w q t b) (hy:Lies d w y.items yu) (ht:y.text.size≤9223372036854775807) (hr:zab d y=true):Calls Tryz.prog 88 #[.pointer (some ⟨b,0,none⟩),.agg #[.int .i64 y.kind,.int .i64 y.num,.string y.text,yu]] w (NearPost (zal t.items ((RT.upTo (atK q y) true t:Nat):Int)) 0 w):=by
 obtain⟨ak,ck,rfl,_⟩:=Lies.slice hy
 exact higher15_core _ 0 b y ak ck w fun V hV=>firstb_right d b q true t y _ V (hm.keeps hV) (Lies.keeps hV _ _ _ hy) ht hr
set_option maxRecDepth 100000 in
set_option maxHeartbeats 8000000 in
theorem rank15_core (n:Nat) (E:Int) (b:Nat) (y:VT) (ak:Option Addr) (ck:Nat) (w:World) (hc:∀V,Below w.heap.size w V→Calls Tryz.prog 140 #[.pointer (some ⟨b,0,none⟩),.agg #[.int .i64 y.kind,.int .i64 y.num,.string y.text,.slice ak y.items.length ck],.bool false] V fun e w'=>e=.returned (.tuple #[.int .i64 (n:Int),.int .i64 E])∧Below V.heap.size V w'):Calls Tryz.prog 86 #[.pointer (some ⟨b,0,none⟩),.agg #[.int .i64 y.kind,.int .i64 y.num,.string y.text,.slice ak y.items.length ck]] w fun e w'=>e=.returned (.tuple #[.int .i64 (n:Int),.int .i64 E])∧Below w.heap.size w w':=by
 have HU:Hid _:=hc
 have HB:Hid (Below w.heap.size w (w.alloc (.cells #[.int .i64 y.kind,.int .i64 y.num,.string y.text,.slice ak y.items.length ck] 33))):=((Grew.refl w).alloc _).below
 clear hc
 go_enter Tryz.func86,Tryz.ntmps86
 go_wp2_with fail
 refine Calls.mono (HU.out _ HB.out) ?_
 rintro e w2 ⟨rfl,hg2⟩
 have hb2:Below w.heap.size w w2:=HB.out.trans (hg2.mono HB.out.size)
 clear hg2 HU HB
 go_wp2_with fail
 first|(go_ret;exact⟨rfl,hb2⟩)|(go_ret2;exact⟨rfl,hb2⟩)
theorem rank15_wrong (d b:Nat) (y:VT) (yu:Value) (w:World) (hy:Lies d w y.items yu) (ht:y.text.size≤9223372036854775807) (hr:zab d y=false):Calls Tryz.prog 86 #[.pointer (some ⟨b,0,none⟩),.agg #[.int .i64 y.kind,.int .i64 y.num,.string y.text,yu]] w fun e w'=>e=.returned (.tuple #[.int .i64 0,.int .i64 3])∧Below w.heap.size w w':=by
 obtain⟨ak,ck,rfl,_⟩:=Lies.slice hy
 exact rank15_core 0 3 b y ak ck w fun V hV=>upto_wrong d b false y _ V (Lies.keeps hV _ _ _ hy) ht hr
theorem rank15_right (d b q:Nat) (t:RT PT) (y:VT) (yu:Value) (w:World) (hm:MC w q t b) (hy:Lies d w y.items yu) (ht:y.text.size≤9223372036854775807) (hr:zab d y=true):Calls Tryz.prog 86 #[.pointer (some ⟨b,0,none⟩),.agg #[.int .i64 y.kind,.int .i64 y.num,.string y.text,yu]] w fun e w'=>e=.returned (.tuple #[.int .i64 (RT.upTo (atK q y) false t:Nat),.int .i64 0])∧Below w.heap.size w w':=by
 obtain⟨ak,ck,rfl,_⟩:=Lies.slice hy
 exact rank15_core _ 0 b y ak ck w fun V hV=>upto_right d b q false t y _ V (hm.keeps hV) (Lies.keeps hV _ _ _ hy) ht hr
set_option maxRecDepth 100000 in
set_option maxHeartbeats 8000000 in
theorem first_15 (b q:Nat) (t:RT PT) (w:World) (hm:MC w q t b):Calls Tryz.prog 73 #[.pointer (some ⟨b,0,none⟩)] w (InPost (zal t.items 0) w):=by
 obtain⟨O,hO⟩:∃O,O=zal t.items 0:=⟨_,rfl⟩
 have HU:Hid (∀V,Below w.heap.size w V→Calls Tryz.prog 128 #[.pointer (some ⟨b,0,none⟩),.int .i64 0] V (InPost O V)):=fun V hV=>by rw [hO];exact inpl_15 b q t _ V (hm.keeps hV)
 rw [←hO]
 obtain⟨W0,hW0⟩:∃W0,W0=w.alloc (.cells #[.int .i64 0,.int .i64 0,.string ⟨#[]⟩,.slice none 0 0,.int .i64 0,.int .i64 0,.string ⟨#[]⟩,.slice none 0 0] 108):=⟨_,rfl⟩
 have HW0:Hid (W0=w.alloc (.cells #[.int .i64 0,.int .i64 0,.string ⟨#[]⟩,.slice none 0 0,.int .i64 0,.int .i64 0,.string ⟨#[]⟩,.slice none 0 0] 108)):=hW0
 have hb0:Below w.heap.size w W0:=by rw [hW0];exact ((Grew.refl w).alloc _).below
 have HS0:Hid (w.heap.size<W0.heap.size):=by rw [hW0];show _<_;simp
 have HZ0:Hid (Bx8 W0 w.heap.size (.int .i64 0) (.int .i64 0) (.string ⟨#[]⟩) (.slice none 0 0) (.int .i64 0) (.int .i64 0) (.string ⟨#[]⟩) (.slice none 0 0)):=by rw [hW0];exact zan _ _ _ _ _ _ _ _ _ _
 clear hW0 hO hm
 go_enter Tryz.func73,Tryz.ntmps73
 go_upto_region 1 with fail
 rw [←HW0.out]
 clear HW0
 go_wp2_with fail
 refine Calls.mono (HU.out _ hb0) ?_
 rintro e w2 ⟨hg2,hcase⟩
 have HZ2:Hid (Bx8 w2 w.heap.size (.int .i64 0) (.int .i64 0) (.string ⟨#[]⟩) (.slice none 0 0) (.int .i64 0) (.int .i64 0) (.string ⟨#[]⟩) (.slice none 0 0)):=HZ0.out.keeps hg2
 have hb2:Below w.heap.size w w2:=hb0.trans (hg2.mono hb0.size)
 obtain⟨y0,y1,y2,y3,y4,y5,y6,y7,f0,f1,f2,f3,f4,f5,f6,f7,_⟩:=HZ2.out
 clear hg2 HU HZ0
 rcases hcase with ⟨ho,rfl⟩|⟨x,ku,vu,ho,rfl,hl5,hl6⟩
 ·have Hq:Hid _:=zaz HZ2.out (.int .i64 0) (.int .i64 0) (.string ⟨#[]⟩) (.slice none 0 0) (.int .i64 0) (.int .i64 0) (.string ⟨#[]⟩) (.slice none 0 0)
  have HE:Hid (InPost O w (.returned (.tuple #[.agg #[.int .i64 0,.int .i64 0,.string ⟨#[]⟩,.slice none 0 0,.int .i64 0,.int .i64 0,.string ⟨#[]⟩,.slice none 0 0],.bool false])) (w2.setCells w.heap.size 0 [.int .i64 0,.int .i64 0,.string ⟨#[]⟩,.slice none 0 0,.int .i64 0,.int .i64 0,.string ⟨#[]⟩,.slice none 0 0])):=⟨zam hb2 (Nat.le_refl _) _ _ _ _ _ _ _ _,.inl ⟨ho,rfl⟩⟩
  clear ho hb0 hb2
  go_wp2_with fail
  refine bodyPost_ret (v:=.tuple #[.agg #[.int .i64 0,.int .i64 0,.string ⟨#[]⟩,.slice none 0 0,.int .i64 0,.int .i64 0,.string ⟨#[]⟩,.slice none 0 0],.bool false]) ?_ rfl HE.out
  obtain⟨q0,q1,q2,q3,q4,q5,q6,q7⟩:=Hq.out
  simp only [World.setCells,Nat.zero_add,Nat.reduceAdd] at q0 q1 q2 q3 q4 q5 q6 q7
  simp [results,Tryz.results73,go_sem,q0,q1,q2,q3,q4,q5,q6,q7]
 ·obtain⟨a5,c5,rfl,_⟩:=LiesB.slice hl5
  obtain⟨a6,c6,rfl,_⟩:=LiesB.slice hl6
  have Hq:Hid _:=zaz HZ2.out (.int .i64 x.1.kind) (.int .i64 x.1.num) (.string x.1.text) (.slice a5 x.1.items.length c5) (.int .i64 x.2.kind) (.int .i64 x.2.num) (.string x.2.text) (.slice a6 x.2.items.length c6)
  have HE:Hid (InPost O w (.returned (.tuple #[.agg #[.int .i64 x.1.kind,.int .i64 x.1.num,.string x.1.text,.slice a5 x.1.items.length c5,.int .i64 x.2.kind,.int .i64 x.2.num,.string x.2.text,.slice a6 x.2.items.length c6],.bool true])) (w2.setCells w.heap.size 0 [.int .i64 x.1.kind,.int .i64 x.1.num,.string x.1.text,.slice a5 x.1.items.length c5,.int .i64 x.2.kind,.int .i64 x.2.num,.string x.2.text,.slice a6 x.2.items.length c6])):=⟨zam hb2 (Nat.le_refl _) _ _ _ _ _ _ _ _,.inr ⟨x,_,_,ho,rfl,LiesB.lower14 hb0.size _ _ _ (LiesB.put8 HS0.out _ hl5),LiesB.lower14 hb0.size _ _ _ (LiesB.put8 HS0.out _ hl6)⟩⟩
  clear ho hb0 hb2 hl5 hl6
  go_wp2_with fail
  refine bodyPost_ret (v:=.tuple #[.agg #[.int .i64 x.1.kind,.int .i64 x.1.num,.string x.1.text,.slice a5 x.1.items.length c5,.int .i64 x.2.kind,.int .i64 x.2.num,.string x.2.text,.slice a6 x.2.items.length c6],.bool true]) ?_ rfl HE.out
  obtain⟨q0,q1,q2,q3,q4,q5,q6,q7⟩:=Hq.out
  simp only [World.setCells,Nat.zero_add,Nat.reduceAdd] at q0 q1 q2 q3 q4 q5 q6 q7
  simp [results,Tryz.results73,go_sem,q0,q1,q2,q3,q4,q5,q6,q7]
set_option maxRecDepth 100000 in
set_option maxHeartbeats 8000000 in
theorem rat_15 (b q:Nat) (t:RT PT) (i:Int) (w:World) (hm:MC w q t b):Calls Tryz.prog 85 #[.pointer (some ⟨b,0,none⟩),.int .i64 i] w (AtPost15 (zal t.items i) w):=by
 obtain⟨O,hO⟩:∃O,O=zal t.items i:=⟨_,rfl⟩
 have HU:Hid (∀V,Below w.heap.size w V→Calls Tryz.prog 128 #[.pointer (some ⟨b,0,none⟩),.int .i64 i] V (InPost O V)):=fun V hV=>by rw [hO];exact inpl_15 b q t _ V (hm.keeps hV)
 rw [←hO]
 obtain⟨W0,hW0⟩:∃W0,W0=w.alloc (.cells #[.int .i64 0,.int .i64 0,.string ⟨#[]⟩,.slice none 0 0,.int .i64 0,.int .i64 0,.string ⟨#[]⟩,.slice none 0 0] 108):=⟨_,rfl⟩
 have HW0:Hid (W0=w.alloc (.cells #[.int .i64 0,.int .i64 0,.string ⟨#[]⟩,.slice none 0 0,.int .i64 0,.int .i64 0,.string ⟨#[]⟩,.slice none 0 0] 108)):=hW0
 have hb0:Below w.heap.size w W0:=by rw [hW0];exact ((Grew.refl w).alloc _).below
 have HS0:Hid (w.heap.size<W0.heap.size):=by rw [hW0];show _<_;simp
 have HZ0:Hid (Bx8 W0 w.heap.size (.int .i64 0) (.int .i64 0) (.string ⟨#[]⟩) (.slice none 0 0) (.int .i64 0) (.int .i64 0) (.string ⟨#[]⟩) (.slice none 0 0)):=by rw [hW0];exact zan _ _ _ _ _ _ _ _ _ _
 clear hW0 hO hm
 go_enter Tryz.func85,Tryz.ntmps85
 go_upto_region 1 with fail
 rw [←HW0.out]
 clear HW0
 go_wp2_with fail
 refine Calls.mono (HU.out _ hb0) ?_
 rintro e w2 ⟨hg2,hcase⟩
 have HZ2:Hid (Bx8 w2 w.heap.size (.int .i64 0) (.int .i64 0) (.string ⟨#[]⟩) (.slice none 0 0) (.int .i64 0) (.int .i64 0) (.string ⟨#[]⟩) (.slice none 0 0)):=HZ0.out.keeps hg2
 have hb2:Below w.heap.size w w2:=hb0.trans (hg2.mono hb0.size)
 clear hg2 HU HZ0
 rcases hcase with ⟨ho,rfl⟩|⟨x,ku,vu,ho,rfl,hl5,hl6⟩
 ·obtain⟨W3,hW3⟩:∃W3,W3=w2.alloc (.cells #[.int .i64 0,.int .i64 0,.string ⟨#[]⟩,.slice none 0 0,.int .i64 0,.int .i64 0,.string ⟨#[]⟩,.slice none 0 0] 108):=⟨_,rfl⟩
  have HW3:Hid (W3=w2.alloc (.cells #[.int .i64 0,.int .i64 0,.string ⟨#[]⟩,.slice none 0 0,.int .i64 0,.int .i64 0,.string ⟨#[]⟩,.slice none 0 0] 108)):=hW3
  have hal:Below w2.heap.size w2 W3:=by rw [hW3];exact ((Grew.refl w2).alloc _).below
  have HZ3:Hid (Bx8 W3 w.heap.size (.int .i64 0) (.int .i64 0) (.string ⟨#[]⟩) (.slice none 0 0) (.int .i64 0) (.int .i64 0) (.string ⟨#[]⟩) (.slice none 0 0)):=HZ2.out.keeps hal
  have hb3:Below w.heap.size w W3:=hb2.trans (hal.mono hb2.size)
  obtain⟨y0,y1,y2,y3,y4,y5,y6,y7,f0,f1,f2,f3,f4,f5,f6,f7,_⟩:=HZ3.out
  have Hq:Hid _:=zaz HZ3.out (.int .i64 0) (.int .i64 0) (.string ⟨#[]⟩) (.slice none 0 0) (.int .i64 0) (.int .i64 0) (.string ⟨#[]⟩) (.slice none 0 0)
  have HE:Hid (AtPost15 O w (.returned (.tuple #[.agg #[.int .i64 0,.int .i64 0,.string ⟨#[]⟩,.slice none 0 0,.int .i64 0,.int .i64 0,.string ⟨#[]⟩,.slice none 0 0],.int .i64 5])) (W3.setCells w.heap.size 0 [.int .i64 0,.int .i64 0,.string ⟨#[]⟩,.slice none 0 0,.int .i64 0,.int .i64 0,.string ⟨#[]⟩,.slice none 0 0])):=⟨zam hb3 (Nat.le_refl _) _ _ _ _ _ _ _ _,.inl ⟨ho,rfl⟩⟩
  clear hW3 hal ho hb0 hb2 hb3
  go_upto_region 2 with fail
  rw [←HW3.out]
  clear HW3
  go_wp2_with fail
  refine bodyPost_ret (v:=.tuple #[.agg #[.int .i64 0,.int .i64 0,.string ⟨#[]⟩,.slice none 0 0,.int .i64 0,.int .i64 0,.string ⟨#[]⟩,.slice none 0 0],.int .i64 5]) ?_ rfl HE.out
  obtain⟨q0,q1,q2,q3,q4,q5,q6,q7⟩:=Hq.out
  simp only [World.setCells,Nat.zero_add,Nat.reduceAdd] at q0 q1 q2 q3 q4 q5 q6 q7
  simp [results,Tryz.results85,go_sem,q0,q1,q2,q3,q4,q5,q6,q7]
 ·obtain⟨a5,c5,rfl,_⟩:=LiesB.slice hl5
  obtain⟨a6,c6,rfl,_⟩:=LiesB.slice hl6
  obtain⟨W3,hW3⟩:∃W3,W3=w2.alloc (.cells #[.int .i64 x.1.kind,.int .i64 x.1.num,.string x.1.text,.slice a5 x.1.items.length c5,.int .i64 x.2.kind,.int .i64 x.2.num,.string x.2.text,.slice a6 x.2.items.length c6] 108):=⟨_,rfl⟩
  have HW3:Hid (W3=w2.alloc (.cells #[.int .i64 x.1.kind,.int .i64 x.1.num,.string x.1.text,.slice a5 x.1.items.length c5,.int .i64 x.2.kind,.int .i64 x.2.num,.string x.2.text,.slice a6 x.2.items.length c6] 108)):=hW3
  have hal:Below w2.heap.size w2 W3:=by rw [hW3];exact ((Grew.refl w2).alloc _).below
  have HB3:Hid (Bx8 W3 w2.heap.size (.int .i64 x.1.kind) (.int .i64 x.1.num) (.string x.1.text) (.slice a5 x.1.items.length c5) (.int .i64 x.2.kind) (.int .i64 x.2.num) (.string x.2.text) (.slice a6 x.2.items.length c6)):=by rw [hW3];exact zan _ _ _ _ _ _ _ _ _ _
  have HZ3:Hid (Bx8 W3 w.heap.size (.int .i64 0) (.int .i64 0) (.string ⟨#[]⟩) (.slice none 0 0) (.int .i64 0) (.int .i64 0) (.string ⟨#[]⟩) (.slice none 0 0)):=HZ2.out.keeps hal
  have hb3:Below w.heap.size w W3:=hb2.trans (hal.mono hb2.size)
  obtain⟨y0,y1,y2,y3,y4,y5,y6,y7,f0,f1,f2,f3,f4,f5,f6,f7,_⟩:=HZ3.out
  obtain⟨z0,z1,z2,z3,z4,z5,z6,z7,_,_,_,_,_,_,_,_,_⟩:=HB3.out
  have Hq:Hid _:=zaz HZ3.out (.int .i64 x.1.kind) (.int .i64 x.1.num) (.string x.1.text) (.slice a5 x.1.items.length c5) (.int .i64 x.2.kind) (.int .i64 x.2.num) (.string x.2.text) (.slice a6 x.2.items.length c6)
  have HE:Hid (AtPost15 O w (.returned (.tuple #[.agg #[.int .i64 x.1.kind,.int .i64 x.1.num,.string x.1.text,.slice a5 x.1.items.length c5,.int .i64 x.2.kind,.int .i64 x.2.num,.string x.2.text,.slice a6 x.2.items.length c6],.int .i64 0])) (W3.setCells w.heap.size 0 [.int .i64 x.1.kind,.int .i64 x.1.num,.string x.1.text,.slice a5 x.1.items.length c5,.int .i64 x.2.kind,.int .i64 x.2.num,.string x.2.text,.slice a6 x.2.items.length c6])):=⟨zam hb3 (Nat.le_refl _) _ _ _ _ _ _ _ _,.inr ⟨x,_,_,ho,rfl,LiesB.lower14 hb0.size _ _ _ (LiesB.put8 HS0.out _ (LiesB.keepsB hal hl5)),LiesB.lower14 hb0.size _ _ _ (LiesB.put8 HS0.out _ (LiesB.keepsB hal hl6))⟩⟩
  clear hW3 hal ho hb0 hb2 hb3 hl5 hl6
  go_upto_region 2 with fail
  rw [←HW3.out]
  clear HW3
  go_wp2_with fail
  refine bodyPost_ret (v:=.tuple #[.agg #[.int .i64 x.1.kind,.int .i64 x.1.num,.string x.1.text,.slice a5 x.1.items.length c5,.int .i64 x.2.kind,.int .i64 x.2.num,.string x.2.text,.slice a6 x.2.items.length c6],.int .i64 0]) ?_ rfl HE.out
  obtain⟨q0,q1,q2,q3,q4,q5,q6,q7⟩:=Hq.out
  simp only [World.setCells,Nat.zero_add,Nat.reduceAdd] at q0 q1 q2 q3 q4 q5 q6 q7
  simp [results,Tryz.results85,go_sem,q0,q1,q2,q3,q4,q5,q6,q7]
end Go.Proofs.YtlnecfjnffdciabGreat

namespace Go.Proofs.YtlnecfjnffdciabGreat
open Go.RowKit Go.Shelf
theorem drop_is {α:Type} (A:α→Bool):∀(l:List α) (I:Nat),(∀(i:Nat) (x:α),l[i]? = some x→(A x=true↔i<I))→l.drop I=l.filter (fun x=> !A x)
 | [],I,_=>by simp
 | x::l,0,h=>by
  rw [List.drop_zero]
  refine (List.filter_eq_self.2 fun y hy=>?_).symm
  obtain⟨i,hi⟩:=List.mem_iff_getElem?.1 hy
  have h9:=mt (h i y hi).1 (Nat.not_lt_zero _)
  cases hA:A y with
  | true=>exact absurd hA h9
  | false=>rfl
 | x::l,I+1,h=>by
  have h0:=(h 0 x rfl).2 (Nat.succ_pos _)
  rw [List.drop_succ_cons,List.filter_cons_of_neg (by simp [h0])]
  exact drop_is A l I (fun i y hy=>by
   have h9:=h (i+1) y (by simpa using hy)
   rw [h9]
   omega)
end Go.Proofs.YtlnecfjnffdciabGreat

