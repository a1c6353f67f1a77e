import Derived.Test.YtlnecfjnffdciabGreatHungN
import Derived.Test.YtlnecfjnffdciabGreatRotate
import Derived.BigRegion
namespace Go.Proofs.YtlnecfjnffdciabGreat
open Go.RowKit
set_option maxRecDepth 100000 in
set_option maxHeartbeats 16000000 in
theorem hungL_red (X:Nat→Prop) (d:Nat) (w:World) (o el er:RT PT) (x y ex:PT) (b:Nat) (pa pi q:Option Addr) (ku vu ku2 vu2:Value) (S H K:Nat) (ec:Bool)
 (hn:NCells w b pi pa y ku2 vu2 true S H K)
 (hi:∀V,Below w.heap.size w V→Calls Tryz.prog 257 #[.pointer q,.agg #[.int .i64 x.1.kind,.int .i64 x.1.num,.string x.1.text,ku,.int .i64 x.2.kind,.int .i64 x.2.num,.string x.2.text,vu],.pointer (pi)] V (zac X d (.node ec el ex er) V))
 (hd:∀V pe,Below w.heap.size w V→NM X d V (.node ec el ex er) pe→Calls Tryz.prog 234 #[.bool true,.pointer pe,.agg #[.int .i64 y.1.kind,.int .i64 y.1.num,.string y.1.text,ku2,.int .i64 y.2.kind,.int .i64 y.2.num,.string y.2.text,vu2],.pointer pa] V (zac X d (.node true (.node ec el ex er) y o) V)) :
 Calls Tryz.prog 257 #[.pointer q,.agg #[.int .i64 x.1.kind,.int .i64 x.1.num,.string x.1.text,ku,.int .i64 x.2.kind,.int .i64 x.2.num,.string x.2.text,vu],.pointer (some ⟨b,0,none⟩)] w (zac X d (.node true (.node ec el ex er) y o) w):=by
 have HR:Hid (∀V,Below w.heap.size w V→Calls Tryz.prog 254 #[.pointer (some ⟨b,0,none⟩)] V fun e w'=>e=.returned (.bool true)∧w'=V):=fun V hV=>za3 b true V (hn.keeps hV).red
 have HI:Hid _:=hi
 have HD:Hid _:=hd
 have HN:Hid (NCells w b pi pa y ku2 vu2 true S H K):=hn
 obtain⟨c0,c1,c2,c3,c4,c5,c6,c7,c8,c9,c10,_,_,_⟩:=hn
 have hbl:=zad c0;simp only at hbl;have hbne : ¬b=w.heap.size:=by omega
 clear hi hd
 go_enter Tryz.func257,Tryz.ntmps257
 go_wp2_with fail
 refine (HR.out _ (by first|exact Below.refl _ _|exact ((Grew.refl w).alloc _).below)).mono ?_
 rintro e w1 ⟨rfl,rfl⟩
 obtain⟨W0,hW0⟩:∃W0,W0=w.alloc (.cells #[.int .i64 x.1.kind,.int .i64 x.1.num,.string x.1.text,ku,.int .i64 x.2.kind,.int .i64 x.2.num,.string x.2.text,vu] 108):=⟨_,rfl⟩
 rw [←hW0]
 have hb0:Below w.heap.size w W0:=by rw [hW0];exact ((Grew.refl w).alloc _).below
 have x0:W0.cell? ⟨w.heap.size,0,none⟩=some (.int .i64 x.1.kind):=by rw [hW0];simp
 have x1:W0.cell? ⟨w.heap.size,1,none⟩=some (.int .i64 x.1.num):=by rw [hW0];simp
 have x2:W0.cell? ⟨w.heap.size,2,none⟩=some (.string x.1.text):=by rw [hW0];simp
 have x3:W0.cell? ⟨w.heap.size,3,none⟩=some (ku):=by rw [hW0];simp
 have x4:W0.cell? ⟨w.heap.size,4,none⟩=some (.int .i64 x.2.kind):=by rw [hW0];simp
 have x5:W0.cell? ⟨w.heap.size,5,none⟩=some (.int .i64 x.2.num):=by rw [hW0];simp
 have x6:W0.cell? ⟨w.heap.size,6,none⟩=some (.string x.2.text):=by rw [hW0];simp
 have x7:W0.cell? ⟨w.heap.size,7,none⟩=some (vu):=by rw [hW0];simp
 clear hW0 HR
 have c0:=zaa hb0 c0;have c1:=zaa hb0 c1;have c2:=zaa hb0 c2;have c3:=zaa hb0 c3;have c4:=zaa hb0 c4;have c5:=zaa hb0 c5;have c6:=zaa hb0 c6;have c7:=zaa hb0 c7;have c8:=zaa hb0 c8;have c9:=zaa hb0 c9;have c10:=zaa hb0 c10
 have hb2:=hb0
 go_wp2_with fail
 go_region_held3 (fun w'=>w'.cell? ⟨b,0,none⟩=some (.pointer pi)∧w'.cell? ⟨w.heap.size,0,none⟩=some (.int .i64 x.1.kind)∧w'.cell? ⟨w.heap.size,1,none⟩=some (.int .i64 x.1.num)∧w'.cell? ⟨w.heap.size,2,none⟩=some (.string x.1.text)∧w'.cell? ⟨w.heap.size,3,none⟩=some (ku)∧w'.cell? ⟨w.heap.size,4,none⟩=some (.int .i64 x.2.kind)∧w'.cell? ⟨w.heap.size,5,none⟩=some (.int .i64 x.2.num)∧w'.cell? ⟨w.heap.size,6,none⟩=some (.string x.2.text)∧w'.cell? ⟨w.heap.size,7,none⟩=some (vu)) (go_keep) (first|(go_at_call 257;refine (HI.out _ hb2.drew).mono ?_;rintro e w3 ⟨hg3,pe,rfl,ht⟩;have hb3:Below w.heap.size w w3:=hb2.drew.trans (hg3.mono hb2.drew.size);have hg3:Below W0.heap.size W0 w3:=(Below.refl _ _).drew.trans hg3;have c0:=zaa hg3 c0;have c1:=zaa hg3 c1;have c2:=zaa hg3 c2;have c3:=zaa hg3 c3;have c4:=zaa hg3 c4;have c5:=zaa hg3 c5;have c6:=zaa hg3 c6;have c7:=zaa hg3 c7;have c8:=zaa hg3 c8;have c9:=zaa hg3 c9;have c10:=zaa hg3 c10;have x0:=zaa hg3 x0;have x1:=zaa hg3 x1;have x2:=zaa hg3 x2;have x3:=zaa hg3 x3;have x4:=zaa hg3 x4;have x5:=zaa hg3 x5;have x6:=zaa hg3 x6;have x7:=zaa hg3 x7;have HT:Hid (NM X d w3 (.node ec el ex er) pe):=ht;clear hg3 ht HI))
 have ht:=HT.out
 obtain⟨be,pel,per,ke,ve,rfl,hne3,hke,hve,htl,htr⟩:=ht
 obtain⟨e0,e1,e2,e3,e4,e5,e6,e7,e8,e9,e10,_,_,_⟩:=hne3
 have HKE:Hid (LiesX X d w3 ex.1.items ke∧ex.1.text.size≤9223372036854775807):=hke;have HVE:Hid (LiesX X d w3 ex.2.items ve∧ex.2.text.size≤9223372036854775807):=hve;have HTL:Hid (NM X d w3 el pel):=htl;have HTR:Hid (NM X d w3 er per):=htr
 clear hke hve htl htr x0 x1 x2 x3 x4 x5 x6 x7
 go_wp2_with fail
 go_region_held3 (fun w'=>w'.cell? ⟨b,10,none⟩=some (.bool true)∧w'.cell? ⟨b,1,none⟩=some (.pointer pa)∧w'.cell? ⟨b,2,none⟩=some (.int .i64 y.1.kind)∧w'.cell? ⟨b,3,none⟩=some (.int .i64 y.1.num)∧w'.cell? ⟨b,4,none⟩=some (.string y.1.text)∧w'.cell? ⟨b,5,none⟩=some (ku2)∧w'.cell? ⟨b,6,none⟩=some (.int .i64 y.2.kind)∧w'.cell? ⟨b,7,none⟩=some (.int .i64 y.2.num)∧w'.cell? ⟨b,8,none⟩=some (.string y.2.text)∧w'.cell? ⟨b,9,none⟩=some (vu2)) (go_keep) (first|(go_at_call 234;refine (HD.out _ _ hb3.drew (HT.out.keeps (Below.refl _ _).drew)).mono ?_;rintro e w5 ⟨hg5,p5,rfl,ht5⟩;have HE:Hid (zac X d (.node true (.node ec el ex er) y o) w (.returned (.pointer p5)) w5):=⟨hb3.drew.trans (hg5.mono hb3.drew.size),p5,rfl,ht5⟩;have hg6:Below w3.heap.size w3 w5:=(Below.refl _ _).drew.trans hg5;have c10:=zaa hg6 c10;have c1:=zaa hg6 c1;have c2:=zaa hg6 c2;have c3:=zaa hg6 c3;have c4:=zaa hg6 c4;have c5:=zaa hg6 c5;have c6:=zaa hg6 c6;have c7:=zaa hg6 c7;have c8:=zaa hg6 c8;have c9:=zaa hg6 c9;clear hg5 hg6 ht5 HD))
 all_goals (first|(go_ret;exact HE.out)|(go_wp2_with fail;go_ret;exact HE.out))
set_option maxRecDepth 100000 in
set_option maxHeartbeats 16000000 in
theorem hungL_A (X:Nat→Prop) (d:Nat) (w:World) (o el er:RT PT) (x y ex:PT) (b:Nat) (pa pi q:Option Addr) (ku vu ku2 vu2:Value) (S H K:Nat)
 (hn:NCells w b pi pa y ku2 vu2 false S H K)
 (hi:∀V,Below w.heap.size w V→Calls Tryz.prog 257 #[.pointer q,.agg #[.int .i64 x.1.kind,.int .i64 x.1.num,.string x.1.text,ku,.int .i64 x.2.kind,.int .i64 x.2.num,.string x.2.text,vu],.pointer (pi)] V (zac X d (.node false el ex er) V))
 (k1 k2 s1 s2 h1 h2:Int) (hm1:∀V,Below w.heap.size w V→Calls Tryz.prog 113 #[.pointer (q)] V (zah s1 h1 k1 V)) (hm2:∀V,Below w.heap.size w V→Calls Tryz.prog 113 #[.pointer (some ⟨b,0,none⟩)] V (zah s2 h2 k2 V)) (hne : ¬k1=k2)
 (hd:∀V pe,Below w.heap.size w V→NM X d V (.node false el ex er) pe→Calls Tryz.prog 234 #[.bool false,.pointer pe,.agg #[.int .i64 y.1.kind,.int .i64 y.1.num,.string y.1.text,ku2,.int .i64 y.2.kind,.int .i64 y.2.num,.string y.2.text,vu2],.pointer pa] V (zac X d (.node false (.node false el ex er) y o) V)) :
 Calls Tryz.prog 257 #[.pointer q,.agg #[.int .i64 x.1.kind,.int .i64 x.1.num,.string x.1.text,ku,.int .i64 x.2.kind,.int .i64 x.2.num,.string x.2.text,vu],.pointer (some ⟨b,0,none⟩)] w (zac X d (.node false (.node false el ex er) y o) w):=by
 have HR:Hid (∀V,Below w.heap.size w V→Calls Tryz.prog 254 #[.pointer (some ⟨b,0,none⟩)] V fun e w'=>e=.returned (.bool false)∧w'=V):=fun V hV=>za3 b false V (hn.keeps hV).red
 have HI:Hid _:=hi
 have HM1:Hid _:=hm1;have HM2:Hid _:=hm2
 have HD:Hid _:=hd
 have HN:Hid (NCells w b pi pa y ku2 vu2 false S H K):=hn
 obtain⟨c0,c1,c2,c3,c4,c5,c6,c7,c8,c9,c10,_,_,_⟩:=hn
 have hbl:=zad c0;simp only at hbl;have hbne : ¬b=w.heap.size:=by omega
 clear hi hm1 hm2 hd
 go_enter Tryz.func257,Tryz.ntmps257
 go_wp2_with fail
 refine (HR.out _ (by first|exact Below.refl _ _|exact ((Grew.refl w).alloc _).below)).mono ?_
 rintro e w1 ⟨rfl,rfl⟩
 obtain⟨W0,hW0⟩:∃W0,W0=w.alloc (.cells #[.int .i64 x.1.kind,.int .i64 x.1.num,.string x.1.text,ku,.int .i64 x.2.kind,.int .i64 x.2.num,.string x.2.text,vu] 108):=⟨_,rfl⟩
 rw [←hW0]
 have hb0:Below w.heap.size w W0:=by rw [hW0];exact ((Grew.refl w).alloc _).below
 have x0:W0.cell? ⟨w.heap.size,0,none⟩=some (.int .i64 x.1.kind):=by rw [hW0];simp
 have x1:W0.cell? ⟨w.heap.size,1,none⟩=some (.int .i64 x.1.num):=by rw [hW0];simp
 have x2:W0.cell? ⟨w.heap.size,2,none⟩=some (.string x.1.text):=by rw [hW0];simp
 have x3:W0.cell? ⟨w.heap.size,3,none⟩=some (ku):=by rw [hW0];simp
 have x4:W0.cell? ⟨w.heap.size,4,none⟩=some (.int .i64 x.2.kind):=by rw [hW0];simp
 have x5:W0.cell? ⟨w.heap.size,5,none⟩=some (.int .i64 x.2.num):=by rw [hW0];simp
 have x6:W0.cell? ⟨w.heap.size,6,none⟩=some (.string x.2.text):=by rw [hW0];simp
 have x7:W0.cell? ⟨w.heap.size,7,none⟩=some (vu):=by rw [hW0];simp
 clear hW0 HR
 have c0:=zaa hb0 c0;have c1:=zaa hb0 c1;have c2:=zaa hb0 c2;have c3:=zaa hb0 c3;have c4:=zaa hb0 c4;have c5:=zaa hb0 c5;have c6:=zaa hb0 c6;have c7:=zaa hb0 c7;have c8:=zaa hb0 c8;have c9:=zaa hb0 c9;have c10:=zaa hb0 c10
 go_wp2_with fail
 refine (HM1.out _ hb0).mono ?_
 rintro e w1 ⟨hg1,rfl⟩
 have hb1:Below w.heap.size w w1:=hb0.trans (hg1.mono hb0.size)
 have c0:=zaa hg1 c0;have c1:=zaa hg1 c1;have c2:=zaa hg1 c2;have c3:=zaa hg1 c3;have c4:=zaa hg1 c4;have c5:=zaa hg1 c5;have c6:=zaa hg1 c6;have c7:=zaa hg1 c7;have c8:=zaa hg1 c8;have c9:=zaa hg1 c9;have c10:=zaa hg1 c10;have x0:=zaa hg1 x0;have x1:=zaa hg1 x1;have x2:=zaa hg1 x2;have x3:=zaa hg1 x3;have x4:=zaa hg1 x4;have x5:=zaa hg1 x5;have x6:=zaa hg1 x6;have x7:=zaa hg1 x7
 have hf1:∀W:World,(Instr.field 171 (.agg #[.int .i64 s1,.int .i64 h1,.int .i64 k1]) 2).run Tryz.prog W=.ok (.int .i64 k1) W:=fun W=>zai _ _ _ W
 have hf2:∀W:World,(Instr.field 171 (.agg #[.int .i64 s2,.int .i64 h2,.int .i64 k2]) 2).run Tryz.prog W=.ok (.int .i64 k2) W:=fun W=>zai _ _ _ W
 clear hg1 hb0
 go_wp2_with fail
 refine (HM2.out _ (by first|exact hb1|exact hb1.alloc hb1.size _)).mono ?_
 rintro e w2 ⟨hg2,rfl⟩
 have hb2:Below w.heap.size w w2:=by first|exact hb1.trans (hg2.mono hb1.size)|exact (hb1.alloc hb1.size _).trans (hg2.mono (hb1.alloc hb1.size _).size)
 have c0:=zaa hg2 (by first|exact c0|exact zaa ((Grew.refl w1).alloc _).below c0)
 have c1:=zaa hg2 (by first|exact c1|exact zaa ((Grew.refl w1).alloc _).below c1)
 have c2:=zaa hg2 (by first|exact c2|exact zaa ((Grew.refl w1).alloc _).below c2)
 have c3:=zaa hg2 (by first|exact c3|exact zaa ((Grew.refl w1).alloc _).below c3)
 have c4:=zaa hg2 (by first|exact c4|exact zaa ((Grew.refl w1).alloc _).below c4)
 have c5:=zaa hg2 (by first|exact c5|exact zaa ((Grew.refl w1).alloc _).below c5)
 have c6:=zaa hg2 (by first|exact c6|exact zaa ((Grew.refl w1).alloc _).below c6)
 have c7:=zaa hg2 (by first|exact c7|exact zaa ((Grew.refl w1).alloc _).below c7)
 have c8:=zaa hg2 (by first|exact c8|exact zaa ((Grew.refl w1).alloc _).below c8)
 have c9:=zaa hg2 (by first|exact c9|exact zaa ((Grew.refl w1).alloc _).below c9)
 have c10:=zaa hg2 (by first|exact c10|exact zaa ((Grew.refl w1).alloc _).below c10)
 have x0:=zaa hg2 (by first|exact x0|exact zaa ((Grew.refl w1).alloc _).below x0)
 have x1:=zaa hg2 (by first|exact x1|exact zaa ((Grew.refl w1).alloc _).below x1)
 have x2:=zaa hg2 (by first|exact x2|exact zaa ((Grew.refl w1).alloc _).below x2)
 have x3:=zaa hg2 (by first|exact x3|exact zaa ((Grew.refl w1).alloc _).below x3)
 have x4:=zaa hg2 (by first|exact x4|exact zaa ((Grew.refl w1).alloc _).below x4)
 have x5:=zaa hg2 (by first|exact x5|exact zaa ((Grew.refl w1).alloc _).below x5)
 have x6:=zaa hg2 (by first|exact x6|exact zaa ((Grew.refl w1).alloc _).below x6)
 have x7:=zaa hg2 (by first|exact x7|exact zaa ((Grew.refl w1).alloc _).below x7)
 clear hg2 hb1 HM1 HM2
 go_wp2_with fail
 go_region_held3 (fun w'=>w'.cell? ⟨b,0,none⟩=some (.pointer pi)∧w'.cell? ⟨w.heap.size,0,none⟩=some (.int .i64 x.1.kind)∧w'.cell? ⟨w.heap.size,1,none⟩=some (.int .i64 x.1.num)∧w'.cell? ⟨w.heap.size,2,none⟩=some (.string x.1.text)∧w'.cell? ⟨w.heap.size,3,none⟩=some (ku)∧w'.cell? ⟨w.heap.size,4,none⟩=some (.int .i64 x.2.kind)∧w'.cell? ⟨w.heap.size,5,none⟩=some (.int .i64 x.2.num)∧w'.cell? ⟨w.heap.size,6,none⟩=some (.string x.2.text)∧w'.cell? ⟨w.heap.size,7,none⟩=some (vu)) (go_keep) (first|(go_at_call 257;refine (HI.out _ hb2.drew).mono ?_;rintro e w3 ⟨hg3,pe,rfl,ht⟩;have hb3:Below w.heap.size w w3:=hb2.drew.trans (hg3.mono hb2.drew.size);have hg3:Below w2.heap.size w2 w3:=(Below.refl _ _).drew.trans hg3;have c0:=zaa hg3 c0;have c1:=zaa hg3 c1;have c2:=zaa hg3 c2;have c3:=zaa hg3 c3;have c4:=zaa hg3 c4;have c5:=zaa hg3 c5;have c6:=zaa hg3 c6;have c7:=zaa hg3 c7;have c8:=zaa hg3 c8;have c9:=zaa hg3 c9;have c10:=zaa hg3 c10;have x0:=zaa hg3 x0;have x1:=zaa hg3 x1;have x2:=zaa hg3 x2;have x3:=zaa hg3 x3;have x4:=zaa hg3 x4;have x5:=zaa hg3 x5;have x6:=zaa hg3 x6;have x7:=zaa hg3 x7;have HT:Hid (NM X d w3 (.node false el ex er) pe):=ht;clear hg3 ht HI))
 have ht:=HT.out
 obtain⟨be,pel,per,ke,ve,rfl,hne3,hke,hve,htl,htr⟩:=ht
 obtain⟨e0,e1,e2,e3,e4,e5,e6,e7,e8,e9,e10,_,_,_⟩:=hne3
 have HKE:Hid (LiesX X d w3 ex.1.items ke∧ex.1.text.size≤9223372036854775807):=hke;have HVE:Hid (LiesX X d w3 ex.2.items ve∧ex.2.text.size≤9223372036854775807):=hve;have HTL:Hid (NM X d w3 el pel):=htl;have HTR:Hid (NM X d w3 er per):=htr
 clear hke hve htl htr x0 x1 x2 x3 x4 x5 x6 x7
 go_wp2_with fail
 go_region_held3 (fun w'=>w'.cell? ⟨b,10,none⟩=some (.bool false)∧w'.cell? ⟨b,1,none⟩=some (.pointer pa)∧w'.cell? ⟨b,2,none⟩=some (.int .i64 y.1.kind)∧w'.cell? ⟨b,3,none⟩=some (.int .i64 y.1.num)∧w'.cell? ⟨b,4,none⟩=some (.string y.1.text)∧w'.cell? ⟨b,5,none⟩=some (ku2)∧w'.cell? ⟨b,6,none⟩=some (.int .i64 y.2.kind)∧w'.cell? ⟨b,7,none⟩=some (.int .i64 y.2.num)∧w'.cell? ⟨b,8,none⟩=some (.string y.2.text)∧w'.cell? ⟨b,9,none⟩=some (vu2)) (go_keep) (first|(go_at_call 234;refine (HD.out _ _ hb3.drew (HT.out.keeps (Below.refl _ _).drew)).mono ?_;rintro e w5 ⟨hg5,p5,rfl,ht5⟩;have HE:Hid (zac X d (.node false (.node false el ex er) y o) w (.returned (.pointer p5)) w5):=⟨hb3.drew.trans (hg5.mono hb3.drew.size),p5,rfl,ht5⟩;have hg6:Below w3.heap.size w3 w5:=(Below.refl _ _).drew.trans hg5;have c10:=zaa hg6 c10;have c1:=zaa hg6 c1;have c2:=zaa hg6 c2;have c3:=zaa hg6 c3;have c4:=zaa hg6 c4;have c5:=zaa hg6 c5;have c6:=zaa hg6 c6;have c7:=zaa hg6 c7;have c8:=zaa hg6 c8;have c9:=zaa hg6 c9;clear hg5 hg6 ht5 HD))
 all_goals (first|(go_ret;exact HE.out)|(go_wp2_with fail;go_ret;exact HE.out))
set_option maxRecDepth 100000 in
set_option maxHeartbeats 16000000 in
theorem hungL_B (X:Nat→Prop) (d:Nat) (w:World) (o el er:RT PT) (x y ex:PT) (b:Nat) (pa pi q:Option Addr) (ku vu ku2 vu2:Value) (S H K:Nat)
 (hn:NCells w b pi pa y ku2 vu2 false S H K)
 (hi:∀V,Below w.heap.size w V→Calls Tryz.prog 257 #[.pointer q,.agg #[.int .i64 x.1.kind,.int .i64 x.1.num,.string x.1.text,ku,.int .i64 x.2.kind,.int .i64 x.2.num,.string x.2.text,vu],.pointer (pi)] V (zac X d (.node true el ex er) V))
 (k1 k2 s1 s2 h1 h2:Int) (hm1:∀V,Below w.heap.size w V→Calls Tryz.prog 113 #[.pointer (q)] V (zah s1 h1 k1 V)) (hm2:∀V,Below w.heap.size w V→Calls Tryz.prog 113 #[.pointer (some ⟨b,0,none⟩)] V (zah s2 h2 k2 V)) (hne : ¬k1=k2)
 (hd:∀V pe,Below w.heap.size w V→NM X d V (.node true el ex er) pe→Calls Tryz.prog 234 #[.bool false,.pointer pe,.agg #[.int .i64 y.1.kind,.int .i64 y.1.num,.string y.1.text,ku2,.int .i64 y.2.kind,.int .i64 y.2.num,.string y.2.text,vu2],.pointer pa] V (zac X d (.node false (.node true el ex er) y o) V))
 (hrd:∀V p,NM X d V el p→Calls Tryz.prog 254 #[.pointer p] V fun e w'=>e=.returned (.bool false)∧w'=V) :
 Calls Tryz.prog 257 #[.pointer q,.agg #[.int .i64 x.1.kind,.int .i64 x.1.num,.string x.1.text,ku,.int .i64 x.2.kind,.int .i64 x.2.num,.string x.2.text,vu],.pointer (some ⟨b,0,none⟩)] w (zac X d (.node false (.node true el ex er) y o) w):=by
 have HR:Hid (∀V,Below w.heap.size w V→Calls Tryz.prog 254 #[.pointer (some ⟨b,0,none⟩)] V fun e w'=>e=.returned (.bool false)∧w'=V):=fun V hV=>za3 b false V (hn.keeps hV).red
 have HI:Hid _:=hi
 have HM1:Hid _:=hm1;have HM2:Hid _:=hm2
 have HD:Hid _:=hd
 have HRd:Hid _:=hrd
 have HN:Hid (NCells w b pi pa y ku2 vu2 false S H K):=hn
 obtain⟨c0,c1,c2,c3,c4,c5,c6,c7,c8,c9,c10,_,_,_⟩:=hn
 have hbl:=zad c0;simp only at hbl;have hbne : ¬b=w.heap.size:=by omega
 clear hi hm1 hm2 hd hrd
 go_enter Tryz.func257,Tryz.ntmps257
 go_wp2_with fail
 refine (HR.out _ (by first|exact Below.refl _ _|exact ((Grew.refl w).alloc _).below)).mono ?_
 rintro e w1 ⟨rfl,rfl⟩
 obtain⟨W0,hW0⟩:∃W0,W0=w.alloc (.cells #[.int .i64 x.1.kind,.int .i64 x.1.num,.string x.1.text,ku,.int .i64 x.2.kind,.int .i64 x.2.num,.string x.2.text,vu] 108):=⟨_,rfl⟩
 rw [←hW0]
 have hb0:Below w.heap.size w W0:=by rw [hW0];exact ((Grew.refl w).alloc _).below
 have x0:W0.cell? ⟨w.heap.size,0,none⟩=some (.int .i64 x.1.kind):=by rw [hW0];simp
 have x1:W0.cell? ⟨w.heap.size,1,none⟩=some (.int .i64 x.1.num):=by rw [hW0];simp
 have x2:W0.cell? ⟨w.heap.size,2,none⟩=some (.string x.1.text):=by rw [hW0];simp
 have x3:W0.cell? ⟨w.heap.size,3,none⟩=some (ku):=by rw [hW0];simp
 have x4:W0.cell? ⟨w.heap.size,4,none⟩=some (.int .i64 x.2.kind):=by rw [hW0];simp
 have x5:W0.cell? ⟨w.heap.size,5,none⟩=some (.int .i64 x.2.num):=by rw [hW0];simp
 have x6:W0.cell? ⟨w.heap.size,6,none⟩=some (.string x.2.text):=by rw [hW0];simp
 have x7:W0.cell? ⟨w.heap.size,7,none⟩=some (vu):=by rw [hW0];simp
 clear hW0 HR
 have c0:=zaa hb0 c0;have c1:=zaa hb0 c1;have c2:=zaa hb0 c2;have c3:=zaa hb0 c3;have c4:=zaa hb0 c4;have c5:=zaa hb0 c5;have c6:=zaa hb0 c6;have c7:=zaa hb0 c7;have c8:=zaa hb0 c8;have c9:=zaa hb0 c9;have c10:=zaa hb0 c10
 go_wp2_with fail
 refine (HM1.out _ hb0).mono ?_
 rintro e w1 ⟨hg1,rfl⟩
 have hb1:Below w.heap.size w w1:=hb0.trans (hg1.mono hb0.size)
 have c0:=zaa hg1 c0;have c1:=zaa hg1 c1;have c2:=zaa hg1 c2;have c3:=zaa hg1 c3;have c4:=zaa hg1 c4;have c5:=zaa hg1 c5;have c6:=zaa hg1 c6;have c7:=zaa hg1 c7;have c8:=zaa hg1 c8;have c9:=zaa hg1 c9;have c10:=zaa hg1 c10;have x0:=zaa hg1 x0;have x1:=zaa hg1 x1;have x2:=zaa hg1 x2;have x3:=zaa hg1 x3;have x4:=zaa hg1 x4;have x5:=zaa hg1 x5;have x6:=zaa hg1 x6;have x7:=zaa hg1 x7
 have hf1:∀W:World,(Instr.field 171 (.agg #[.int .i64 s1,.int .i64 h1,.int .i64 k1]) 2).run Tryz.prog W=.ok (.int .i64 k1) W:=fun W=>zai _ _ _ W
 have hf2:∀W:World,(Instr.field 171 (.agg #[.int .i64 s2,.int .i64 h2,.int .i64 k2]) 2).run Tryz.prog W=.ok (.int .i64 k2) W:=fun W=>zai _ _ _ W
 clear hg1 hb0
 go_wp2_with fail
 refine (HM2.out _ (by first|exact hb1|exact hb1.alloc hb1.size _)).mono ?_
 rintro e w2 ⟨hg2,rfl⟩
 have hb2:Below w.heap.size w w2:=by first|exact hb1.trans (hg2.mono hb1.size)|exact (hb1.alloc hb1.size _).trans (hg2.mono (hb1.alloc hb1.size _).size)
 have c0:=zaa hg2 (by first|exact c0|exact zaa ((Grew.refl w1).alloc _).below c0)
 have c1:=zaa hg2 (by first|exact c1|exact zaa ((Grew.refl w1).alloc _).below c1)
 have c2:=zaa hg2 (by first|exact c2|exact zaa ((Grew.refl w1).alloc _).below c2)
 have c3:=zaa hg2 (by first|exact c3|exact zaa ((Grew.refl w1).alloc _).below c3)
 have c4:=zaa hg2 (by first|exact c4|exact zaa ((Grew.refl w1).alloc _).below c4)
 have c5:=zaa hg2 (by first|exact c5|exact zaa ((Grew.refl w1).alloc _).below c5)
 have c6:=zaa hg2 (by first|exact c6|exact zaa ((Grew.refl w1).alloc _).below c6)
 have c7:=zaa hg2 (by first|exact c7|exact zaa ((Grew.refl w1).alloc _).below c7)
 have c8:=zaa hg2 (by first|exact c8|exact zaa ((Grew.refl w1).alloc _).below c8)
 have c9:=zaa hg2 (by first|exact c9|exact zaa ((Grew.refl w1).alloc _).below c9)
 have c10:=zaa hg2 (by first|exact c10|exact zaa ((Grew.refl w1).alloc _).below c10)
 have x0:=zaa hg2 (by first|exact x0|exact zaa ((Grew.refl w1).alloc _).below x0)
 have x1:=zaa hg2 (by first|exact x1|exact zaa ((Grew.refl w1).alloc _).below x1)
 have x2:=zaa hg2 (by first|exact x2|exact zaa ((Grew.refl w1).alloc _).below x2)
 have x3:=zaa hg2 (by first|exact x3|exact zaa ((Grew.refl w1).alloc _).below x3)
 have x4:=zaa hg2 (by first|exact x4|exact zaa ((Grew.refl w1).alloc _).below x4)
 have x5:=zaa hg2 (by first|exact x5|exact zaa ((Grew.refl w1).alloc _).below x5)
 have x6:=zaa hg2 (by first|exact x6|exact zaa ((Grew.refl w1).alloc _).below x6)
 have x7:=zaa hg2 (by first|exact x7|exact zaa ((Grew.refl w1).alloc _).below x7)
 clear hg2 hb1 HM1 HM2
 go_wp2_with fail
 go_region_held3 (fun w'=>w'.cell? ⟨b,0,none⟩=some (.pointer pi)∧w'.cell? ⟨w.heap.size,0,none⟩=some (.int .i64 x.1.kind)∧w'.cell? ⟨w.heap.size,1,none⟩=some (.int .i64 x.1.num)∧w'.cell? ⟨w.heap.size,2,none⟩=some (.string x.1.text)∧w'.cell? ⟨w.heap.size,3,none⟩=some (ku)∧w'.cell? ⟨w.heap.size,4,none⟩=some (.int .i64 x.2.kind)∧w'.cell? ⟨w.heap.size,5,none⟩=some (.int .i64 x.2.num)∧w'.cell? ⟨w.heap.size,6,none⟩=some (.string x.2.text)∧w'.cell? ⟨w.heap.size,7,none⟩=some (vu)) (go_keep) (first|(go_at_call 257;refine (HI.out _ hb2.drew).mono ?_;rintro e w3 ⟨hg3,pe,rfl,ht⟩;have hb3:Below w.heap.size w w3:=hb2.drew.trans (hg3.mono hb2.drew.size);have hg3:Below w2.heap.size w2 w3:=(Below.refl _ _).drew.trans hg3;have c0:=zaa hg3 c0;have c1:=zaa hg3 c1;have c2:=zaa hg3 c2;have c3:=zaa hg3 c3;have c4:=zaa hg3 c4;have c5:=zaa hg3 c5;have c6:=zaa hg3 c6;have c7:=zaa hg3 c7;have c8:=zaa hg3 c8;have c9:=zaa hg3 c9;have c10:=zaa hg3 c10;have x0:=zaa hg3 x0;have x1:=zaa hg3 x1;have x2:=zaa hg3 x2;have x3:=zaa hg3 x3;have x4:=zaa hg3 x4;have x5:=zaa hg3 x5;have x6:=zaa hg3 x6;have x7:=zaa hg3 x7;have HT:Hid (NM X d w3 (.node true el ex er) pe):=ht;clear hg3 ht HI))
 have ht:=HT.out
 obtain⟨be,pel,per,ke,ve,rfl,hne3,hke,hve,htl,htr⟩:=ht
 obtain⟨e0,e1,e2,e3,e4,e5,e6,e7,e8,e9,e10,_,_,_⟩:=hne3
 have HKE:Hid (LiesX X d w3 ex.1.items ke∧ex.1.text.size≤9223372036854775807):=hke;have HVE:Hid (LiesX X d w3 ex.2.items ve∧ex.2.text.size≤9223372036854775807):=hve;have HTL:Hid (NM X d w3 el pel):=htl;have HTR:Hid (NM X d w3 er per):=htr
 clear hke hve htl htr x0 x1 x2 x3 x4 x5 x6 x7
 go_wp2_with fail
 refine (HRd.out _ _ HTL.out).mono ?_
 rintro e w4 ⟨rfl,rfl⟩
 go_wp2_with fail
 go_region_held3 (fun w'=>w'.cell? ⟨b,10,none⟩=some (.bool false)∧w'.cell? ⟨b,1,none⟩=some (.pointer pa)∧w'.cell? ⟨b,2,none⟩=some (.int .i64 y.1.kind)∧w'.cell? ⟨b,3,none⟩=some (.int .i64 y.1.num)∧w'.cell? ⟨b,4,none⟩=some (.string y.1.text)∧w'.cell? ⟨b,5,none⟩=some (ku2)∧w'.cell? ⟨b,6,none⟩=some (.int .i64 y.2.kind)∧w'.cell? ⟨b,7,none⟩=some (.int .i64 y.2.num)∧w'.cell? ⟨b,8,none⟩=some (.string y.2.text)∧w'.cell? ⟨b,9,none⟩=some (vu2)) (go_keep) (first|(go_at_call 234;refine (HD.out _ _ hb3.drew (HT.out.keeps (Below.refl _ _).drew)).mono ?_;rintro e w5 ⟨hg5,p5,rfl,ht5⟩;have HE:Hid (zac X d (.node false (.node true el ex er) y o) w (.returned (.pointer p5)) w5):=⟨hb3.drew.trans (hg5.mono hb3.drew.size),p5,rfl,ht5⟩;have hg6:Below w4.heap.size w4 w5:=(Below.refl _ _).drew.trans hg5;have c10:=zaa hg6 c10;have c1:=zaa hg6 c1;have c2:=zaa hg6 c2;have c3:=zaa hg6 c3;have c4:=zaa hg6 c4;have c5:=zaa hg6 c5;have c6:=zaa hg6 c6;have c7:=zaa hg6 c7;have c8:=zaa hg6 c8;have c9:=zaa hg6 c9;clear hg5 hg6 ht5 HD))
 all_goals (first|(go_ret;exact HE.out)|(go_wp2_with fail;go_ret;exact HE.out))
set_option maxRecDepth 100000 in
set_option maxHeartbeats 16000000 in
theorem hungL_C (X:Nat→Prop) (d:Nat) (w:World) (o el er:RT PT) (x y ex:PT) (b:Nat) (pa pi q:Option Addr) (ku vu ku2 vu2:Value) (S H K:Nat)
 (hn:NCells w b pi pa y ku2 vu2 false S H K)
 (hi:∀V,Below w.heap.size w V→Calls Tryz.prog 257 #[.pointer q,.agg #[.int .i64 x.1.kind,.int .i64 x.1.num,.string x.1.text,ku,.int .i64 x.2.kind,.int .i64 x.2.num,.string x.2.text,vu],.pointer (pi)] V (zac X d (.node true el ex er) V))
 (k1 k2 s1 s2 h1 h2:Int) (hm1:∀V,Below w.heap.size w V→Calls Tryz.prog 113 #[.pointer (q)] V (zah s1 h1 k1 V)) (hm2:∀V,Below w.heap.size w V→Calls Tryz.prog 113 #[.pointer (some ⟨b,0,none⟩)] V (zah s2 h2 k2 V)) (hne : ¬k1=k2)
 (hrd:∀V p,NM X d V el p→Calls Tryz.prog 254 #[.pointer p] V fun e w'=>e=.returned (.bool true)∧w'=V)
 (hin:∀V p,Below w.heap.size w V→NM X d V er p→Calls Tryz.prog 234 #[.bool false,.pointer p,.agg #[.int .i64 y.1.kind,.int .i64 y.1.num,.string y.1.text,ku2,.int .i64 y.2.kind,.int .i64 y.2.num,.string y.2.text,vu2],.pointer pa] V (zac X d (.node false er y o) V))
 (hbl:∀V p,NM X d V el p→Calls Tryz.prog 200 #[.pointer p] V (zac X d el.black V))
 (hout:∀V p1 p2 k3 v3,NM X d V el.black p1→NM X d V (.node false er y o) p2→(LiesX X d V ex.1.items k3∧ex.1.text.size≤9223372036854775807)→(LiesX X d V ex.2.items v3∧ex.2.text.size≤9223372036854775807)→Calls Tryz.prog 234 #[.bool true,.pointer p1,.agg #[.int .i64 ex.1.kind,.int .i64 ex.1.num,.string ex.1.text,k3,.int .i64 ex.2.kind,.int .i64 ex.2.num,.string ex.2.text,v3],.pointer p2] V (zac X d (.node true el.black ex (.node false er y o)) V)) :
 Calls Tryz.prog 257 #[.pointer q,.agg #[.int .i64 x.1.kind,.int .i64 x.1.num,.string x.1.text,ku,.int .i64 x.2.kind,.int .i64 x.2.num,.string x.2.text,vu],.pointer (some ⟨b,0,none⟩)] w (zac X d (.node true el.black ex (.node false er y o)) w):=by
 have HR:Hid (∀V,Below w.heap.size w V→Calls Tryz.prog 254 #[.pointer (some ⟨b,0,none⟩)] V fun e w'=>e=.returned (.bool false)∧w'=V):=fun V hV=>za3 b false V (hn.keeps hV).red
 have HI:Hid _:=hi
 have HM1:Hid _:=hm1;have HM2:Hid _:=hm2
 have HRd:Hid _:=hrd
 have HIn:Hid _:=hin;have HBl:Hid _:=hbl;have HOut:Hid _:=hout
 have HN:Hid (NCells w b pi pa y ku2 vu2 false S H K):=hn
 obtain⟨c0,c1,c2,c3,c4,c5,c6,c7,c8,c9,c10,_,_,_⟩:=hn
 have hbl:=zad c0;simp only at hbl;have hbne : ¬b=w.heap.size:=by omega
 clear hi hm1 hm2 hrd hin  hout
 go_enter Tryz.func257,Tryz.ntmps257
 go_wp2_with fail
 refine (HR.out _ (by first|exact Below.refl _ _|exact ((Grew.refl w).alloc _).below)).mono ?_
 rintro e w1 ⟨rfl,rfl⟩
 obtain⟨W0,hW0⟩:∃W0,W0=w.alloc (.cells #[.int .i64 x.1.kind,.int .i64 x.1.num,.string x.1.text,ku,.int .i64 x.2.kind,.int .i64 x.2.num,.string x.2.text,vu] 108):=⟨_,rfl⟩
 rw [←hW0]
 have hb0:Below w.heap.size w W0:=by rw [hW0];exact ((Grew.refl w).alloc _).below
 have x0:W0.cell? ⟨w.heap.size,0,none⟩=some (.int .i64 x.1.kind):=by rw [hW0];simp
 have x1:W0.cell? ⟨w.heap.size,1,none⟩=some (.int .i64 x.1.num):=by rw [hW0];simp
 have x2:W0.cell? ⟨w.heap.size,2,none⟩=some (.string x.1.text):=by rw [hW0];simp
 have x3:W0.cell? ⟨w.heap.size,3,none⟩=some (ku):=by rw [hW0];simp
 have x4:W0.cell? ⟨w.heap.size,4,none⟩=some (.int .i64 x.2.kind):=by rw [hW0];simp
 have x5:W0.cell? ⟨w.heap.size,5,none⟩=some (.int .i64 x.2.num):=by rw [hW0];simp
 have x6:W0.cell? ⟨w.heap.size,6,none⟩=some (.string x.2.text):=by rw [hW0];simp
 have x7:W0.cell? ⟨w.heap.size,7,none⟩=some (vu):=by rw [hW0];simp
 clear hW0 HR
 have c0:=zaa hb0 c0;have c1:=zaa hb0 c1;have c2:=zaa hb0 c2;have c3:=zaa hb0 c3;have c4:=zaa hb0 c4;have c5:=zaa hb0 c5;have c6:=zaa hb0 c6;have c7:=zaa hb0 c7;have c8:=zaa hb0 c8;have c9:=zaa hb0 c9;have c10:=zaa hb0 c10
 go_wp2_with fail
 refine (HM1.out _ hb0).mono ?_
 rintro e w1 ⟨hg1,rfl⟩
 have hb1:Below w.heap.size w w1:=hb0.trans (hg1.mono hb0.size)
 have c0:=zaa hg1 c0;have c1:=zaa hg1 c1;have c2:=zaa hg1 c2;have c3:=zaa hg1 c3;have c4:=zaa hg1 c4;have c5:=zaa hg1 c5;have c6:=zaa hg1 c6;have c7:=zaa hg1 c7;have c8:=zaa hg1 c8;have c9:=zaa hg1 c9;have c10:=zaa hg1 c10;have x0:=zaa hg1 x0;have x1:=zaa hg1 x1;have x2:=zaa hg1 x2;have x3:=zaa hg1 x3;have x4:=zaa hg1 x4;have x5:=zaa hg1 x5;have x6:=zaa hg1 x6;have x7:=zaa hg1 x7
 have hf1:∀W:World,(Instr.field 171 (.agg #[.int .i64 s1,.int .i64 h1,.int .i64 k1]) 2).run Tryz.prog W=.ok (.int .i64 k1) W:=fun W=>zai _ _ _ W
 have hf2:∀W:World,(Instr.field 171 (.agg #[.int .i64 s2,.int .i64 h2,.int .i64 k2]) 2).run Tryz.prog W=.ok (.int .i64 k2) W:=fun W=>zai _ _ _ W
 clear hg1 hb0
 go_wp2_with fail
 refine (HM2.out _ (by first|exact hb1|exact hb1.alloc hb1.size _)).mono ?_
 rintro e w2 ⟨hg2,rfl⟩
 have hb2:Below w.heap.size w w2:=by first|exact hb1.trans (hg2.mono hb1.size)|exact (hb1.alloc hb1.size _).trans (hg2.mono (hb1.alloc hb1.size _).size)
 have c0:=zaa hg2 (by first|exact c0|exact zaa ((Grew.refl w1).alloc _).below c0)
 have c1:=zaa hg2 (by first|exact c1|exact zaa ((Grew.refl w1).alloc _).below c1)
 have c2:=zaa hg2 (by first|exact c2|exact zaa ((Grew.refl w1).alloc _).below c2)
 have c3:=zaa hg2 (by first|exact c3|exact zaa ((Grew.refl w1).alloc _).below c3)
 have c4:=zaa hg2 (by first|exact c4|exact zaa ((Grew.refl w1).alloc _).below c4)
 have c5:=zaa hg2 (by first|exact c5|exact zaa ((Grew.refl w1).alloc _).below c5)
 have c6:=zaa hg2 (by first|exact c6|exact zaa ((Grew.refl w1).alloc _).below c6)
 have c7:=zaa hg2 (by first|exact c7|exact zaa ((Grew.refl w1).alloc _).below c7)
 have c8:=zaa hg2 (by first|exact c8|exact zaa ((Grew.refl w1).alloc _).below c8)
 have c9:=zaa hg2 (by first|exact c9|exact zaa ((Grew.refl w1).alloc _).below c9)
 have c10:=zaa hg2 (by first|exact c10|exact zaa ((Grew.refl w1).alloc _).below c10)
 have x0:=zaa hg2 (by first|exact x0|exact zaa ((Grew.refl w1).alloc _).below x0)
 have x1:=zaa hg2 (by first|exact x1|exact zaa ((Grew.refl w1).alloc _).below x1)
 have x2:=zaa hg2 (by first|exact x2|exact zaa ((Grew.refl w1).alloc _).below x2)
 have x3:=zaa hg2 (by first|exact x3|exact zaa ((Grew.refl w1).alloc _).below x3)
 have x4:=zaa hg2 (by first|exact x4|exact zaa ((Grew.refl w1).alloc _).below x4)
 have x5:=zaa hg2 (by first|exact x5|exact zaa ((Grew.refl w1).alloc _).below x5)
 have x6:=zaa hg2 (by first|exact x6|exact zaa ((Grew.refl w1).alloc _).below x6)
 have x7:=zaa hg2 (by first|exact x7|exact zaa ((Grew.refl w1).alloc _).below x7)
 clear hg2 hb1 HM1 HM2
 go_wp2_with fail
 go_region_held3 (fun w'=>w'.cell? ⟨b,0,none⟩=some (.pointer pi)∧w'.cell? ⟨w.heap.size,0,none⟩=some (.int .i64 x.1.kind)∧w'.cell? ⟨w.heap.size,1,none⟩=some (.int .i64 x.1.num)∧w'.cell? ⟨w.heap.size,2,none⟩=some (.string x.1.text)∧w'.cell? ⟨w.heap.size,3,none⟩=some (ku)∧w'.cell? ⟨w.heap.size,4,none⟩=some (.int .i64 x.2.kind)∧w'.cell? ⟨w.heap.size,5,none⟩=some (.int .i64 x.2.num)∧w'.cell? ⟨w.heap.size,6,none⟩=some (.string x.2.text)∧w'.cell? ⟨w.heap.size,7,none⟩=some (vu)) (go_keep) (first|(go_at_call 257;refine (HI.out _ hb2.drew).mono ?_;rintro e w3 ⟨hg3,pe,rfl,ht⟩;have hb3:Below w.heap.size w w3:=hb2.drew.trans (hg3.mono hb2.drew.size);have hg3:Below w2.heap.size w2 w3:=(Below.refl _ _).drew.trans hg3;have c0:=zaa hg3 c0;have c1:=zaa hg3 c1;have c2:=zaa hg3 c2;have c3:=zaa hg3 c3;have c4:=zaa hg3 c4;have c5:=zaa hg3 c5;have c6:=zaa hg3 c6;have c7:=zaa hg3 c7;have c8:=zaa hg3 c8;have c9:=zaa hg3 c9;have c10:=zaa hg3 c10;have x0:=zaa hg3 x0;have x1:=zaa hg3 x1;have x2:=zaa hg3 x2;have x3:=zaa hg3 x3;have x4:=zaa hg3 x4;have x5:=zaa hg3 x5;have x6:=zaa hg3 x6;have x7:=zaa hg3 x7;have HT:Hid (NM X d w3 (.node true el ex er) pe):=ht;clear hg3 ht HI))
 have ht:=HT.out
 obtain⟨be,pel,per,ke,ve,rfl,hne3,hke,hve,htl,htr⟩:=ht
 obtain⟨e0,e1,e2,e3,e4,e5,e6,e7,e8,e9,e10,_,_,_⟩:=hne3
 have HKE:Hid (LiesX X d w3 ex.1.items ke∧ex.1.text.size≤9223372036854775807):=hke;have HVE:Hid (LiesX X d w3 ex.2.items ve∧ex.2.text.size≤9223372036854775807):=hve;have HTL:Hid (NM X d w3 el pel):=htl;have HTR:Hid (NM X d w3 er per):=htr
 clear hke hve htl htr x0 x1 x2 x3 x4 x5 x6 x7
 go_wp2_with fail
 refine (HRd.out _ _ HTL.out).mono ?_
 rintro e w4 ⟨rfl,rfl⟩
 go_wp2_with fail
 have hbc:Below w4.heap.size w4 w4.drew:=(Below.refl _ _).drew
 go_region_held3 (fun w'=>w'.cell? ⟨b,1,none⟩=some (.pointer pa)∧w'.cell? ⟨b,2,none⟩=some (.int .i64 y.1.kind)∧w'.cell? ⟨b,3,none⟩=some (.int .i64 y.1.num)∧w'.cell? ⟨b,4,none⟩=some (.string y.1.text)∧w'.cell? ⟨b,5,none⟩=some (ku2)∧w'.cell? ⟨b,6,none⟩=some (.int .i64 y.2.kind)∧w'.cell? ⟨b,7,none⟩=some (.int .i64 y.2.num)∧w'.cell? ⟨b,8,none⟩=some (.string y.2.text)∧w'.cell? ⟨b,9,none⟩=some (vu2)∧w'.cell? ⟨be,0,none⟩=some (.pointer pel)∧w'.cell? ⟨be,1,none⟩=some (.pointer per)∧w'.cell? ⟨be,2,none⟩=some (.int .i64 ex.1.kind)∧w'.cell? ⟨be,3,none⟩=some (.int .i64 ex.1.num)∧w'.cell? ⟨be,4,none⟩=some (.string ex.1.text)∧w'.cell? ⟨be,5,none⟩=some (ke)∧w'.cell? ⟨be,6,none⟩=some (.int .i64 ex.2.kind)∧w'.cell? ⟨be,7,none⟩=some (.int .i64 ex.2.num)∧w'.cell? ⟨be,8,none⟩=some (.string ex.2.text)∧w'.cell? ⟨be,9,none⟩=some (ve)) (go_keep) (first
  | (go_at_call 234;refine (HOut.out _ _ _ _ _ HP.out HQ.out ⟨LiesX.keeps hbc HKE.out.1,HKE.out.2⟩ ⟨LiesX.keeps hbc HVE.out.1,HVE.out.2⟩).mono ?_;rintro e w7 ⟨hg,p7,rfl,ht⟩;have HE:Hid (zac X d (.node true el.black ex (.node false er y o)) w (.returned (.pointer p7)) w7):=⟨(hb3.trans (hbc.mono hb3.size)).trans (hg.mono (hb3.trans (hbc.mono hb3.size)).size),p7,rfl,ht⟩;have c1:=zaa hg c1;have c2:=zaa hg c2;have c3:=zaa hg c3;have c4:=zaa hg c4;have c5:=zaa hg c5;have c6:=zaa hg c6;have c7:=zaa hg c7;have c8:=zaa hg c8;have c9:=zaa hg c9;have e0:=zaa hg e0;have e1:=zaa hg e1;have e2:=zaa hg e2;have e3:=zaa hg e3;have e4:=zaa hg e4;have e5:=zaa hg e5;have e6:=zaa hg e6;have e7:=zaa hg e7;have e8:=zaa hg e8;have e9:=zaa hg e9;clear hg ht)
  | (go_at_call 234;refine (HIn.out _ _ (hb3.trans (hbc.mono hb3.size)) (HTR.out.keeps hbc)).mono ?_;rintro e w5 ⟨hg,p5,rfl,ht⟩;have HQ:Hid (NM X d w5 (.node false er y o) p5):=ht;(try have HP:Hid (NM X d w5 el.black _):=HP.out.keeps hg);replace hbc:=hbc.trans (hg.mono hbc.size);have c1:=zaa hg c1;have c2:=zaa hg c2;have c3:=zaa hg c3;have c4:=zaa hg c4;have c5:=zaa hg c5;have c6:=zaa hg c6;have c7:=zaa hg c7;have c8:=zaa hg c8;have c9:=zaa hg c9;have e0:=zaa hg e0;have e1:=zaa hg e1;have e2:=zaa hg e2;have e3:=zaa hg e3;have e4:=zaa hg e4;have e5:=zaa hg e5;have e6:=zaa hg e6;have e7:=zaa hg e7;have e8:=zaa hg e8;have e9:=zaa hg e9;clear hg ht)
  | (go_at_call 200;refine (HBl.out _ _ (HTL.out.keeps hbc)).mono ?_;rintro e w6 ⟨hg,p6,rfl,ht⟩;have HP:Hid (NM X d w6 el.black p6):=ht;(try have HQ:Hid (NM X d w6 (.node false er y o) _):=HQ.out.keeps hg);replace hbc:=hbc.trans (hg.mono hbc.size);have c1:=zaa hg c1;have c2:=zaa hg c2;have c3:=zaa hg c3;have c4:=zaa hg c4;have c5:=zaa hg c5;have c6:=zaa hg c6;have c7:=zaa hg c7;have c8:=zaa hg c8;have c9:=zaa hg c9;have e0:=zaa hg e0;have e1:=zaa hg e1;have e2:=zaa hg e2;have e3:=zaa hg e3;have e4:=zaa hg e4;have e5:=zaa hg e5;have e6:=zaa hg e6;have e7:=zaa hg e7;have e8:=zaa hg e8;have e9:=zaa hg e9;clear hg ht))
 all_goals (first|(go_ret;exact HE.out)|(go_wp2_with fail;go_ret;exact HE.out))
end Go.Proofs.YtlnecfjnffdciabGreat

namespace Go.Proofs.YtlnecfjnffdciabGreat
open Go.RowKit
theorem hungR_node {α:Type} (x:α) (r:RT α):∀(l:RT α),∃c a b e,RT.hungR l x r=.node c a b e
 | .nil=>⟨_,_,_,_,rfl⟩
 | .node c l y rr=>by
  unfold RT.hungR
  split
  ·exact⟨_,_,_,_,rfl⟩
  ·unfold RT.turnR
   split <;> exact⟨_,_,_,_,rfl⟩
theorem hungR_size {α:Type} (l:RT α) (x:α) (r:RT α):(RT.hungR l x r).size=l.size+1+r.size:=by
 rw [RT.size_items,RT.hungR_items,RT.size_items l,RT.size_items r];simp;omega
theorem hungR_any (X:Nat→Prop) (d:Nat) (s:RT PT) (x:PT) (q:Option Addr) (ku vu:Value):∀(t:RT PT) (p:Option Addr) (m k:Nat) (w:World),RT.BH t m→RT.BH s k→k≤m→NM X d w t p→NM X d w s q→(LiesX X d w x.1.items ku∧x.1.text.size≤9223372036854775807)→(LiesX X d w x.2.items vu∧x.2.text.size≤9223372036854775807)→t.size+1+s.size<4611686018427387904→
 Calls Tryz.prog 256 #[.pointer p,.agg #[.int .i64 x.1.kind,.int .i64 x.1.num,.string x.1.text,ku,.int .i64 x.2.kind,.int .i64 x.2.num,.string x.2.text,vu],.pointer q] w (zac X d (RT.hungR t x s) w)
 | .nil,p,m,k,w,hm,hk,hkm,ht,hs,hx1,hx2,hz=>by
  have hm0:m=0:=hm
  have e:RT.blacks s=0:=by rw [hk.blacks];omega
  have h9:=hungR_here X d w RT.nil s x p q ku vu ht hs hx1 hx2 (by simpa [RT.size] using hz) rfl (by rw [e];rfl)
  exact h9
 | .node c l0 y rr,p,m,k,w,hm,hk,hkm,ht,hs,hx1,hx2,hz=>by
  by_cases hc:c=false∧RT.blacks (.node c l0 y rr)=RT.blacks s
  ·have e9:RT.hungR (.node c l0 y rr) x s=.node true (.node c l0 y rr) x s:=by
    show (if _ then _ else _)=_
    rw [if_pos hc]
   rw [e9]
   exact hungR_here X d w (.node c l0 y rr) s x p q ku vu ht hs hx1 hx2 (hz) hc.1 hc.2
  ·obtain⟨m',hm',hl,hr⟩:=hm
   have hb:RT.blacks (.node c l0 y rr)=m:=RT.BH.blacks (t:=.node c l0 y rr) ⟨m',hm',hl,hr⟩
   have hbs:=hk.blacks
   have hkm':k≤m':=by
    cases c with
    | true=>simp at hm';omega
    | false=>
     have : ¬RT.blacks (.node false l0 y rr)=RT.blacks s:=fun e=>hc ⟨rfl,e⟩
     simp at hm'
     omega
   have hzz:(RT.node c l0 y rr).size=l0.size+1+rr.size:=rfl
   have hsz:(RT.hungR rr x s).size=rr.size+1+s.size:=hungR_size _ _ _
   have e9:RT.hungR (.node c l0 y rr) x s=RT.turnR c l0 y (RT.hungR rr x s):=by
    show (if _ then _ else _)=_
    rw [if_neg hc]
   rw [e9]
   obtain⟨b,pl0,pr0,ku2,vu2,rfl,hn,hy1,hy2,hnl,hnr⟩:=ht
   have hi:∀V,Below w.heap.size w V→Calls Tryz.prog 256 #[.pointer pr0,.agg #[.int .i64 x.1.kind,.int .i64 x.1.num,.string x.1.text,ku,.int .i64 x.2.kind,.int .i64 x.2.num,.string x.2.text,vu],.pointer q] V (zac X d (RT.hungR rr x s) V):=fun V hV=>hungR_any X d s x q ku vu rr pr0 m' k V hr hk hkm' (hnr.keeps hV) (hs.keeps hV) ⟨LiesX.keeps hV hx1.1,hx1.2⟩ ⟨LiesX.keeps hV hx2.1,hx2.2⟩ (by omega)
   have ho:NM X d w l0 pl0:=hnl
   have htt:NM X d w (.node c l0 y rr) (some ⟨b,0,none⟩):=⟨b,pl0,pr0,ku2,vu2,rfl,hn,hy1,hy2,hnl,hnr⟩
   obtain⟨ec,el,ex,er,hEe⟩:=hungR_node x s rr
   obtain⟨E,hE0⟩:∃E,E=RT.hungR rr x s:=⟨_,rfl⟩
   rw [←hE0] at hsz hi hEe ⊢
   have hmade:∀c V pe,Below w.heap.size w V→NM X d V E pe→Calls Tryz.prog 234 #[.bool c,.pointer pl0,.agg #[.int .i64 y.1.kind,.int .i64 y.1.num,.string y.1.text,ku2,.int .i64 y.2.kind,.int .i64 y.2.num,.string y.2.text,vu2],.pointer pe] V (zac X d (.node c l0 y E) V):=fun c V pe hV hE=>made_14 X d V c l0 E y pl0 pe ku2 vu2 (ho.keeps hV) hE ⟨LiesX.keeps hV hy1.1,hy1.2⟩ ⟨LiesX.keeps hV hy2.1,hy2.2⟩ (by omega)
   cases c with
   | true=>
    subst hEe
    exact hungR_red X d w l0 el er x y ex b pl0 pr0 q ku vu ku2 vu2 _ _ _ ec hn hi (hmade true)
   | false=>
    have hne : ¬((RT.blacks (.node false l0 y rr):Int)=(RT.blacks s:Int)):=fun e=>hc ⟨rfl,by omega⟩
    have g1:=fun V (hV:Below w.heap.size w V)=>zal (htt.keeps hV)
    have g2:=fun V (hV:Below w.heap.size w V)=>zal (hs.keeps hV)
    cases ec with
    | false=>
     subst hEe
     exact hungR_A X d w l0 el er x y ex b pl0 pr0 q ku vu ku2 vu2 _ _ _ hn hi _ _ _ _ _ _ g1 g2 hne (hmade false)
    | true=>
     cases hred:RT.isRed er with
     | false=>
      subst hEe
      have e8:RT.turnR false l0 y (.node true el ex er)=.node false l0 y (.node true el ex er):=by
       cases er with
       | nil=>rfl
       | node c9 a9 b9 d9=>
        cases c9 with
        | false=>rfl
        | true=>cases hred
      rw [e8]
      exact hungR_B X d w l0 el er x y ex b pl0 pr0 q ku vu ku2 vu2 _ _ _ hn hi _ _ _ _ _ _ g1 g2 hne (hmade false) (fun V p hp=>by rw [←hred];exact isRed_14 hp)
     | true=>
      subst hEe
      have e8:RT.turnR false l0 y (.node true el ex er)=.node true (.node false l0 y el) ex er.black:=by
       cases er with
       | nil=>cases hred
       | node c9 a9 b9 d9=>
        cases c9 with
        | false=>cases hred
        | true=>rfl
      have hsz':el.size+1+er.size=rr.size+1+s.size:=hsz
      have hbs9:(er).black.size=(er).size:=by rw [RT.size_items,RT.black_items,←RT.size_items]
      rw [e8]
      exact hungR_C X d w l0 el er x y ex b pl0 pr0 q ku vu ku2 vu2 _ _ _ hn hi _ _ _ _ _ _ g1 g2 hne (fun V p hp=>by rw [←hred];exact isRed_14 hp)
       (fun V p hV hp=>made_14 X d V false l0 el y pl0 p ku2 vu2 (ho.keeps hV) hp ⟨LiesX.keeps hV hy1.1,hy1.2⟩ ⟨LiesX.keeps hV hy2.1,hy2.2⟩ (by omega))
       (fun V p hp=>black_14 hp (by omega))
       (fun V p1 p2 k3 v3 h1 h2 h3 h4=>made_14 X d V true _ _ ex p1 p2 k3 v3 h1 h2 h3 h4 (by
        show (l0.size+1+el.size)+1+er.black.size<_
        omega))
theorem hungL_node {α:Type} (x:α) (l:RT α):∀(r:RT α),∃c a b e,RT.hungL l x r=.node c a b e
 | .nil=>by cases l <;> exact⟨_,_,_,_,rfl⟩
 | .node c ll y r=>by
  unfold RT.hungL
  split
  ·exact⟨_,_,_,_,rfl⟩
  ·unfold RT.turnL
   split <;> exact⟨_,_,_,_,rfl⟩
theorem hungL_size {α:Type} (l:RT α) (x:α) (r:RT α):(RT.hungL l x r).size=l.size+1+r.size:=by
 rw [RT.size_items,RT.hungL_items,RT.size_items l,RT.size_items r];simp;omega
theorem hungL_any (X:Nat→Prop) (d:Nat) (s:RT PT) (x:PT) (q:Option Addr) (ku vu:Value):∀(t:RT PT) (p:Option Addr) (m k:Nat) (w:World),RT.BH t m→RT.BH s k→k≤m→NM X d w t p→NM X d w s q→(LiesX X d w x.1.items ku∧x.1.text.size≤9223372036854775807)→(LiesX X d w x.2.items vu∧x.2.text.size≤9223372036854775807)→t.size+1+s.size<4611686018427387904→
 Calls Tryz.prog 257 #[.pointer q,.agg #[.int .i64 x.1.kind,.int .i64 x.1.num,.string x.1.text,ku,.int .i64 x.2.kind,.int .i64 x.2.num,.string x.2.text,vu],.pointer p] w (zac X d (RT.hungL s x t) w)
 | .nil,p,m,k,w,hm,hk,hkm,ht,hs,hx1,hx2,hz=>by
  have hm0:m=0:=hm
  have e:RT.blacks s=0:=by rw [hk.blacks];omega
  have h9:=hungL_here X d w s RT.nil x q p ku vu hs ht hx1 hx2 (by simpa [RT.size,Nat.add_comm] using hz) rfl (by rw [e];rfl)
  have e9:RT.hungL s x RT.nil=.node true s x .nil:=by cases s <;> rfl
  rw [e9];exact h9
 | .node c l0 y rr,p,m,k,w,hm,hk,hkm,ht,hs,hx1,hx2,hz=>by
  by_cases hc:c=false∧RT.blacks s=RT.blacks (.node c l0 y rr)
  ·have e9:RT.hungL s x (.node c l0 y rr)=.node true s x (.node c l0 y rr):=by
    cases s <;> show (if _ then _ else _)=_
    all_goals rw [if_pos hc]
   rw [e9]
   exact hungL_here X d w s (.node c l0 y rr) x q p ku vu hs ht hx1 hx2 (by omega) hc.1 hc.2
  ·obtain⟨m',hm',hl,hr⟩:=hm
   have hb:RT.blacks (.node c l0 y rr)=m:=RT.BH.blacks (t:=.node c l0 y rr) ⟨m',hm',hl,hr⟩
   have hbs:=hk.blacks
   have hkm':k≤m':=by
    cases c with
    | true=>simp at hm';omega
    | false=>
     have : ¬RT.blacks (.node false l0 y rr)=RT.blacks s:=fun e=>hc ⟨rfl,e.symm⟩
     simp at hm'
     omega
   have hzz:(RT.node c l0 y rr).size=l0.size+1+rr.size:=rfl
   have hsz:(RT.hungL s x l0).size=s.size+1+l0.size:=hungL_size _ _ _
   have e9:RT.hungL s x (.node c l0 y rr)=RT.turnL c (RT.hungL s x l0) y rr:=by
    cases s <;> show (if _ then _ else _)=_
    all_goals rw [if_neg hc]
   rw [e9]
   obtain⟨b,pl0,pr0,ku2,vu2,rfl,hn,hy1,hy2,hnl,hnr⟩:=ht
   have hi:∀V,Below w.heap.size w V→Calls Tryz.prog 257 #[.pointer q,.agg #[.int .i64 x.1.kind,.int .i64 x.1.num,.string x.1.text,ku,.int .i64 x.2.kind,.int .i64 x.2.num,.string x.2.text,vu],.pointer pl0] V (zac X d (RT.hungL s x l0) V):=fun V hV=>hungL_any X d s x q ku vu l0 pl0 m' k V hl hk hkm' (hnl.keeps hV) (hs.keeps hV) ⟨LiesX.keeps hV hx1.1,hx1.2⟩ ⟨LiesX.keeps hV hx2.1,hx2.2⟩ (by omega)
   have ho:NM X d w rr pr0:=hnr
   have htt:NM X d w (.node c l0 y rr) (some ⟨b,0,none⟩):=⟨b,pl0,pr0,ku2,vu2,rfl,hn,hy1,hy2,hnl,hnr⟩
   obtain⟨ec,el,ex,er,hEe⟩:=hungL_node x s l0
   obtain⟨E,hE0⟩:∃E,E=RT.hungL s x l0:=⟨_,rfl⟩
   rw [←hE0] at hsz hi hEe ⊢
   have hmade:∀c V pe,Below w.heap.size w V→NM X d V E pe→Calls Tryz.prog 234 #[.bool c,.pointer pe,.agg #[.int .i64 y.1.kind,.int .i64 y.1.num,.string y.1.text,ku2,.int .i64 y.2.kind,.int .i64 y.2.num,.string y.2.text,vu2],.pointer pr0] V (zac X d (.node c E y rr) V):=fun c V pe hV hE=>made_14 X d V c E rr y pe pr0 ku2 vu2 hE (ho.keeps hV) ⟨LiesX.keeps hV hy1.1,hy1.2⟩ ⟨LiesX.keeps hV hy2.1,hy2.2⟩ (by omega)
   cases c with
   | true=>
    subst hEe
    exact hungL_red X d w rr el er x y ex b pr0 pl0 q ku vu ku2 vu2 _ _ _ ec hn hi (hmade true)
   | false=>
    have hne : ¬((RT.blacks s:Int)=(RT.blacks (.node false l0 y rr):Int)):=fun e=>hc ⟨rfl,by omega⟩
    have g1:=fun V (hV:Below w.heap.size w V)=>zal (htt.keeps hV)
    have g2:=fun V (hV:Below w.heap.size w V)=>zal (hs.keeps hV)
    cases ec with
    | false=>
     subst hEe
     exact hungL_A X d w rr el er x y ex b pr0 pl0 q ku vu ku2 vu2 _ _ _ hn hi _ _ _ _ _ _ g2 g1 hne (hmade false)
    | true=>
     cases hred:RT.isRed el with
     | false=>
      subst hEe
      have e8:RT.turnL false (.node true el ex er) y rr=.node false (.node true el ex er) y rr:=by
       cases el with
       | nil=>rfl
       | node c9 a9 b9 d9=>
        cases c9 with
        | false=>rfl
        | true=>cases hred
      rw [e8]
      exact hungL_B X d w rr el er x y ex b pr0 pl0 q ku vu ku2 vu2 _ _ _ hn hi _ _ _ _ _ _ g2 g1 hne (hmade false) (fun V p hp=>by rw [←hred];exact isRed_14 hp)
     | true=>
      subst hEe
      have e8:RT.turnL false (.node true el ex er) y rr=.node true el.black ex (.node false er y rr):=by
       cases el with
       | nil=>cases hred
       | node c9 a9 b9 d9=>
        cases c9 with
        | false=>cases hred
        | true=>rfl
      have hsz':el.size+1+er.size=s.size+1+l0.size:=hsz
      have hbs9:(el).black.size=(el).size:=by rw [RT.size_items,RT.black_items,←RT.size_items]
      rw [e8]
      exact hungL_C X d w rr el er x y ex b pr0 pl0 q ku vu ku2 vu2 _ _ _ hn hi _ _ _ _ _ _ g2 g1 hne (fun V p hp=>by rw [←hred];exact isRed_14 hp)
       (fun V p hV hp=>made_14 X d V false er rr y p pr0 ku2 vu2 hp (ho.keeps hV) ⟨LiesX.keeps hV hy1.1,hy1.2⟩ ⟨LiesX.keeps hV hy2.1,hy2.2⟩ (by omega))
       (fun V p hp=>black_14 hp (by omega))
       (fun V p1 p2 k3 v3 h1 h2 h3 h4=>made_14 X d V true _ _ ex p1 p2 k3 v3 h1 h2 h3 h4 (by
        show el.black.size+1+(er.size+1+rr.size)<_
        omega))
end Go.Proofs.YtlnecfjnffdciabGreat

namespace Go.Proofs.YtlnecfjnffdciabGreat
open Go.RowKit
theorem join_size {α:Type} (l:RT α) (x:α) (r:RT α):(RT.join l x r).size=l.size+1+r.size:=by
 rw [RT.size_items,RT.join_items,RT.size_items l,RT.size_items r];simp;omega
set_option maxRecDepth 100000 in
set_option maxHeartbeats 16000000 in
theorem join_core (X:Nat→Prop) (d:Nat) (w:World) (l r T:RT PT) (x:PT) (pl pr:Option Addr) (ku vu:Value) (c:Nat)
 (h1:∀V,Below w.heap.size w V→Calls Tryz.prog 200 #[.pointer pl] V (zac X d l.black V)) (h2:∀V,Below w.heap.size w V→Calls Tryz.prog 200 #[.pointer pr] V (zac X d r.black V))
 (hlt:c=0→¬((r.black.blacks:Int)<(l.black.blacks:Int))∧¬((l.black.blacks:Int)<(r.black.blacks:Int))∧∀V p q,Below w.heap.size w V→NM X d V l.black p→NM X d V r.black q→Calls Tryz.prog 234 #[.bool true,.pointer p,.agg #[.int .i64 x.1.kind,.int .i64 x.1.num,.string x.1.text,ku,.int .i64 x.2.kind,.int .i64 x.2.num,.string x.2.text,vu],.pointer q] V (zac X d T V))
 (hgt:c=1→((r.black.blacks:Int)<(l.black.blacks:Int))∧∀V p q,Below w.heap.size w V→NM X d V l.black p→NM X d V r.black q→Calls Tryz.prog 256 #[.pointer p,.agg #[.int .i64 x.1.kind,.int .i64 x.1.num,.string x.1.text,ku,.int .i64 x.2.kind,.int .i64 x.2.num,.string x.2.text,vu],.pointer q] V (zac X d T V))
 (hls:c=2→¬((r.black.blacks:Int)<(l.black.blacks:Int))∧((l.black.blacks:Int)<(r.black.blacks:Int))∧∀V p q,Below w.heap.size w V→NM X d V l.black p→NM X d V r.black q→Calls Tryz.prog 257 #[.pointer p,.agg #[.int .i64 x.1.kind,.int .i64 x.1.num,.string x.1.text,ku,.int .i64 x.2.kind,.int .i64 x.2.num,.string x.2.text,vu],.pointer q] V (zac X d T V))
 (hc:c=0∨c=1∨c=2) :
 Calls Tryz.prog 204 #[.pointer pl,.agg #[.int .i64 x.1.kind,.int .i64 x.1.num,.string x.1.text,ku,.int .i64 x.2.kind,.int .i64 x.2.num,.string x.2.text,vu],.pointer pr] w (zac X d T w):=by
 have H1:Hid _:=h1
 have H2:Hid _:=h2
 have HL:Hid _:=hlt
 have HG:Hid _:=hgt
 have HS:Hid _:=hls
 have HC:Hid _:=hc
 clear h1 h2 hlt hgt hls hc
 go_enter Tryz.func204,Tryz.ntmps204
 go_wp2_with fail
 obtain⟨W0,hW0⟩:∃W0,W0=w.alloc (.cells #[.int .i64 x.1.kind,.int .i64 x.1.num,.string x.1.text,ku,.int .i64 x.2.kind,.int .i64 x.2.num,.string x.2.text,vu] 108):=⟨_,rfl⟩
 rw [←hW0]
 have hb0:Below w.heap.size w W0:=by rw [hW0];exact ((Grew.refl w).alloc _).below
 have x0:W0.cell? ⟨w.heap.size,0,none⟩=some (.int .i64 x.1.kind):=by rw [hW0];simp
 have x1:W0.cell? ⟨w.heap.size,1,none⟩=some (.int .i64 x.1.num):=by rw [hW0];simp
 have x2:W0.cell? ⟨w.heap.size,2,none⟩=some (.string x.1.text):=by rw [hW0];simp
 have x3:W0.cell? ⟨w.heap.size,3,none⟩=some ku:=by rw [hW0];simp
 have x4:W0.cell? ⟨w.heap.size,4,none⟩=some (.int .i64 x.2.kind):=by rw [hW0];simp
 have x5:W0.cell? ⟨w.heap.size,5,none⟩=some (.int .i64 x.2.num):=by rw [hW0];simp
 have x6:W0.cell? ⟨w.heap.size,6,none⟩=some (.string x.2.text):=by rw [hW0];simp
 have x7:W0.cell? ⟨w.heap.size,7,none⟩=some vu:=by rw [hW0];simp
 clear hW0
 refine (H1.out _ hb0).mono ?_
 rintro e w1 ⟨hg1,p1,rfl,ht1⟩
 have hb1:Below w.heap.size w w1:=hb0.trans (hg1.mono hb0.size)
 go_wp2_with fail
 refine (H2.out _ hb1).mono ?_
 rintro e w2 ⟨hg2,p2,rfl,ht2⟩
 have hb2:Below w.heap.size w w2:=hb1.trans (hg2.mono hb1.size)
 have HT1:Hid (NM X d w2 l.black p1):=ht1.keeps hg2
 have HT2:Hid (NM X d w2 r.black p2):=ht2
 have hg:Below W0.heap.size W0 w2:=hg1.trans (hg2.mono hg1.size)
 have x0:=zaa hg x0
 have x1:=zaa hg x1
 have x2:=zaa hg x2
 have x3:=zaa hg x3
 have x4:=zaa hg x4
 have x5:=zaa hg x5
 have x6:=zaa hg x6
 have x7:=zaa hg x7
 clear ht1 ht2 hg1 hg2 hg hb0 hb1 H1 H2
 go_wp2_with fail
 refine (zal HT1.out).mono ?_
 rintro e w3 ⟨hg3,rfl⟩
 have hb3:Below w.heap.size w w3:=hb2.trans (hg3.mono hb2.size)
 have HT1:Hid (NM X d w3 l.black p1):=HT1.out.keeps hg3
 have HT2:Hid (NM X d w3 r.black p2):=HT2.out.keeps hg3
 have x0:=zaa hg3 x0
 have x1:=zaa hg3 x1
 have x2:=zaa hg3 x2
 have x3:=zaa hg3 x3
 have x4:=zaa hg3 x4
 have x5:=zaa hg3 x5
 have x6:=zaa hg3 x6
 have x7:=zaa hg3 x7
 have hf1:∀W:World,(Instr.field 171 (.agg #[.int .i64 l.black.size,.int .i64 l.black.high,.int .i64 l.black.blacks]) 2).run Tryz.prog W=.ok (.int .i64 l.black.blacks) W:=fun W=>zai _ _ _ W
 have hf2:∀W:World,(Instr.field 171 (.agg #[.int .i64 r.black.size,.int .i64 r.black.high,.int .i64 r.black.blacks]) 2).run Tryz.prog W=.ok (.int .i64 r.black.blacks) W:=fun W=>zai _ _ _ W
 clear hg3 hb2
 go_wp2_with fail
 refine (zal HT2.out).mono ?_
 rintro e w4 ⟨hg4,rfl⟩
 have hb4:Below w.heap.size w w4:=hb3.trans (hg4.mono hb3.size)
 have HT1:Hid (NM X d w4 l.black p1):=HT1.out.keeps hg4
 have HT2:Hid (NM X d w4 r.black p2):=HT2.out.keeps hg4
 have x0:=zaa hg4 x0
 have x1:=zaa hg4 x1
 have x2:=zaa hg4 x2
 have x3:=zaa hg4 x3
 have x4:=zaa hg4 x4
 have x5:=zaa hg4 x5
 have x6:=zaa hg4 x6
 have x7:=zaa hg4 x7
 clear hg4 hb3
 rcases HC.out with rfl|rfl|rfl
 ·obtain⟨hn1,hn2,hmd⟩:=HL.out rfl
  have HD:Hid _:=hmd
  clear hmd HL HG HS HC
  go_wp2_with fail
  refine (HD.out _ _ _ hb4 HT1.out HT2.out).mono ?_
  rintro e w5 ⟨hg5,p5,rfl,ht5⟩
  have HE:Hid (zac X d T w (.returned (.pointer p5)) w5):=⟨hb4.trans (hg5.mono hb4.size),p5,rfl,ht5⟩
  clear hg5 ht5 HD
  go_wp2_with fail
  go_ret
  exact HE.out
 ·obtain⟨hn1,hmd⟩:=HG.out rfl
  have HD:Hid _:=hmd
  clear hmd HL HG HS HC
  go_wp2_with fail
  refine (HD.out _ _ _ hb4 HT1.out HT2.out).mono ?_
  rintro e w5 ⟨hg5,p5,rfl,ht5⟩
  have HE:Hid (zac X d T w (.returned (.pointer p5)) w5):=⟨hb4.trans (hg5.mono hb4.size),p5,rfl,ht5⟩
  clear hg5 ht5 HD
  go_wp2_with fail
  go_ret
  exact HE.out
 ·obtain⟨hn1,hn2,hmd⟩:=HS.out rfl
  have HD:Hid _:=hmd
  clear hmd HL HG HS HC
  go_wp2_with fail
  refine (HD.out _ _ _ hb4 HT1.out HT2.out).mono ?_
  rintro e w5 ⟨hg5,p5,rfl,ht5⟩
  have HE:Hid (zac X d T w (.returned (.pointer p5)) w5):=⟨hb4.trans (hg5.mono hb4.size),p5,rfl,ht5⟩
  clear hg5 ht5 HD
  go_wp2_with fail
  go_ret
  exact HE.out
theorem join_14 (X:Nat→Prop) (d:Nat) (w:World) (l r:RT PT) (x:PT) (pl pr:Option Addr) (ku vu:Value) (hl:NM X d w l pl) (hr:NM X d w r pr) (wl:RT.Well l) (wr:RT.Well r) (hk:LiesX X d w x.1.items ku∧x.1.text.size≤9223372036854775807) (hv:LiesX X d w x.2.items vu∧x.2.text.size≤9223372036854775807) (hs:l.size+1+r.size<4611686018427387904) :
 Calls Tryz.prog 204 #[.pointer pl,.agg #[.int .i64 x.1.kind,.int .i64 x.1.num,.string x.1.text,ku,.int .i64 x.2.kind,.int .i64 x.2.num,.string x.2.text,vu],.pointer pr] w (zac X d (RT.join l x r) w):=by
 obtain⟨n1,_,b1⟩:=wl
 obtain⟨n2,_,b2⟩:=wr
 obtain⟨m1,b1⟩:=b1.black
 obtain⟨m2,b2⟩:=b2.black
 have e1:=b1.blacks
 have e2:=b2.blacks
 have z1:l.black.size=l.size:=by rw [RT.size_items,RT.black_items,←RT.size_items]
 have z2:r.black.size=r.size:=by rw [RT.size_items,RT.black_items,←RT.size_items]
 have kk:=fun V (hV:Below w.heap.size w V)=>(⟨LiesX.keeps hV hk.1,hk.2⟩:LiesX X d V x.1.items ku∧x.1.text.size≤9223372036854775807)
 have vv:=fun V (hV:Below w.heap.size w V)=>(⟨LiesX.keeps hV hv.1,hv.2⟩:LiesX X d V x.2.items vu∧x.2.text.size≤9223372036854775807)
 refine join_core X d w l r _ x pl pr ku vu (if m1=m2 then 0 else if m2<m1 then 1 else 2) (fun V hV=>black_14 (hl.keeps hV) (by omega)) (fun V hV=>black_14 (hr.keeps hV) (by omega)) ?_ ?_ ?_ ?_
 ·intro hc
  have hm:m1=m2:=by
   by_cases h:m1=m2
   ·exact h
   ·rw [if_neg h] at hc;split at hc <;> cases hc
  refine⟨by omega,by omega,fun V p q hV h1 h2=>?_⟩
  have e9:RT.join l x r=.node true l.black x r.black:=by
   unfold RT.join
   rw [if_neg (by omega),if_neg (by omega)]
  rw [e9]
  exact made_14 X d V true _ _ x p q ku vu h1 h2 (kk V hV) (vv V hV) (by omega)
 ·intro hc
  have hm:m2<m1:=by
   by_cases h:m1=m2
   ·rw [if_pos h] at hc;cases hc
   ·rw [if_neg h] at hc
    by_cases h':m2<m1
    ·exact h'
    ·rw [if_neg h'] at hc;cases hc
  refine⟨by omega,fun V p q hV h1 h2=>?_⟩
  have e9:RT.join l x r=RT.hungR l.black x r.black:=by
   unfold RT.join
   rw [if_pos (by omega)]
  rw [e9]
  exact hungR_any X d r.black x q ku vu l.black p m1 m2 V b1 b2 (by omega) h1 h2 (kk V hV) (vv V hV) (by omega)
 ·intro hc
  have hm:m1<m2:=by
   by_cases h:m1=m2
   ·rw [if_pos h] at hc;cases hc
   ·rw [if_neg h] at hc
    by_cases h':m2<m1
    ·rw [if_pos h'] at hc;cases hc
    ·omega
  refine⟨by omega,by omega,fun V p q hV h1 h2=>?_⟩
  have e9:RT.join l x r=RT.hungL l.black x r.black:=by
   unfold RT.join
   rw [if_neg (by omega),if_pos (by omega)]
  rw [e9]
  exact hungL_any X d l.black x p ku vu r.black q m2 m1 V b2 b1 (by omega) h2 h1 (kk V hV) (vv V hV) (by omega)
 ·split
  ·exact .inl rfl
  ·split
   ·exact .inr (.inl rfl)
   ·exact .inr (.inr rfl)
end Go.Proofs.YtlnecfjnffdciabGreat

namespace Go.Proofs.YtlnecfjnffdciabGreat
open Go.RowKit
structure Bx8 (W:World) (n:Nat) (v0 v1 v2 v3 v4 v5 v6 v7:Value):Prop where
 c0:W.cell? ⟨n,0,none⟩=some v0
 c1:W.cell? ⟨n,1,none⟩=some v1
 c2:W.cell? ⟨n,2,none⟩=some v2
 c3:W.cell? ⟨n,3,none⟩=some v3
 c4:W.cell? ⟨n,4,none⟩=some v4
 c5:W.cell? ⟨n,5,none⟩=some v5
 c6:W.cell? ⟨n,6,none⟩=some v6
 c7:W.cell? ⟨n,7,none⟩=some v7
 f0:W.frozen? ⟨n,0,none⟩=false
 f1:W.frozen? ⟨n,1,none⟩=false
 f2:W.frozen? ⟨n,2,none⟩=false
 f3:W.frozen? ⟨n,3,none⟩=false
 f4:W.frozen? ⟨n,4,none⟩=false
 f5:W.frozen? ⟨n,5,none⟩=false
 f6:W.frozen? ⟨n,6,none⟩=false
 f7:W.frozen? ⟨n,7,none⟩=false
 top:W.cell? ⟨n,13,none⟩=none
theorem cell_none {w w':World} (hb:Below w.heap.size w w') {a:Addr} (ha:a.block<w.heap.size) (h:w.cell? a=none):w'.cell? a=none:=by
 have e:=hb.block a.block ha
 unfold World.cell? at h ⊢
 rw [e]
 exact h
theorem Bx8.keeps {W W':World} {n:Nat} {v0 v1 v2 v3 v4 v5 v6 v7:Value} (h:Bx8 W n v0 v1 v2 v3 v4 v5 v6 v7) (hb:Below W.heap.size W W'):Bx8 W' n v0 v1 v2 v3 v4 v5 v6 v7:=by
 have hl:n<W.heap.size:=zad h.c0
 exact⟨zaa hb h.c0,zaa hb h.c1,zaa hb h.c2,zaa hb h.c3,zaa hb h.c4,zaa hb h.c5,zaa hb h.c6,zaa hb h.c7,(hb.frozen (p:=⟨n,0,none⟩) hl).trans h.f0,(hb.frozen (p:=⟨n,1,none⟩) hl).trans h.f1,(hb.frozen (p:=⟨n,2,none⟩) hl).trans h.f2,(hb.frozen (p:=⟨n,3,none⟩) hl).trans h.f3,(hb.frozen (p:=⟨n,4,none⟩) hl).trans h.f4,(hb.frozen (p:=⟨n,5,none⟩) hl).trans h.f5,(hb.frozen (p:=⟨n,6,none⟩) hl).trans h.f6,(hb.frozen (p:=⟨n,7,none⟩) hl).trans h.f7,cell_none hb hl h.top⟩
theorem bx8_alloc (w:World) (T:Nat) (v0 v1 v2 v3 v4 v5 v6 v7:Value):Bx8 (w.alloc (.cells #[v0,v1,v2,v3,v4,v5,v6,v7] T)) w.heap.size v0 v1 v2 v3 v4 v5 v6 v7:=by
 refine⟨?_,?_,?_,?_,?_,?_,?_,?_,?_,?_,?_,?_,?_,?_,?_,?_,?_⟩ <;> simp
theorem put8_in {W:World} {n:Nat} {v0 v1 v2 v3 v4 v5 v6 v7:Value} (h:Bx8 W n v0 v1 v2 v3 v4 v5 v6 v7) (u0 u1 u2 u3 u4 u5 u6 u7:Value):(W.setCells n 0 [u0,u1,u2,u3,u4,u5,u6,u7]).cell? ⟨n,0,none⟩=some u0∧(W.setCells n 0 [u0,u1,u2,u3,u4,u5,u6,u7]).cell? ⟨n,1,none⟩=some u1∧(W.setCells n 0 [u0,u1,u2,u3,u4,u5,u6,u7]).cell? ⟨n,2,none⟩=some u2∧(W.setCells n 0 [u0,u1,u2,u3,u4,u5,u6,u7]).cell? ⟨n,3,none⟩=some u3∧(W.setCells n 0 [u0,u1,u2,u3,u4,u5,u6,u7]).cell? ⟨n,4,none⟩=some u4∧(W.setCells n 0 [u0,u1,u2,u3,u4,u5,u6,u7]).cell? ⟨n,5,none⟩=some u5∧(W.setCells n 0 [u0,u1,u2,u3,u4,u5,u6,u7]).cell? ⟨n,6,none⟩=some u6∧(W.setCells n 0 [u0,u1,u2,u3,u4,u5,u6,u7]).cell? ⟨n,7,none⟩=some u7:=by
 have hin:∀j (hj:j<[u0,u1,u2,u3,u4,u5,u6,u7].length),(W.setCells n 0 [u0,u1,u2,u3,u4,u5,u6,u7]).cell? ⟨n,0+j,none⟩=some ([u0,u1,u2,u3,u4,u5,u6,u7][j]):=
  World.cell?_setCells_in n _ 0 W (fun j hj=>by
   match j,hj with
   | 0,_=>rw [h.c0];rfl
   | 1,_=>rw [h.c1];rfl
   | 2,_=>rw [h.c2];rfl
   | 3,_=>rw [h.c3];rfl
   | 4,_=>rw [h.c4];rfl
   | 5,_=>rw [h.c5];rfl
   | 6,_=>rw [h.c6];rfl
   | 7,_=>rw [h.c7];rfl)
 refine⟨?_,?_,?_,?_,?_,?_,?_,?_⟩
 ·have q:=hin 0 (by simp);simpa using q
 ·have q:=hin 1 (by simp);simpa using q
 ·have q:=hin 2 (by simp);simpa using q
 ·have q:=hin 3 (by simp);simpa using q
 ·have q:=hin 4 (by simp);simpa using q
 ·have q:=hin 5 (by simp);simpa using q
 ·have q:=hin 6 (by simp);simpa using q
 ·have q:=hin 7 (by simp);simpa using q
theorem NM.put8 {X:Nat→Prop} {d:Nat} {W:World} {n:Nat} {v0 v1 v2 v3 v4 v5 v6 v7:Value} (hx : ¬X n) (h:Bx8 W n v0 v1 v2 v3 v4 v5 v6 v7) (vs:List Value) {t:RT PT} {p:Option Addr} (hn:NM X d W t p):NM X d (W.setCells n 0 vs) t p:=
 NM.stays (fun _ h=>h) (fun a v ha hv=>zag (g:=n) (fun e=>hx (by rw [←e];exact ha)) hv) (fun b k u _ h13 hc=>zag (g:=n) (fun e=>by simp only at e;rw [e] at h13;exact h13 h.top) hc) hn
theorem zaj {W:World} {n:Nat} {v0 v1 v2 v3 v4 v5 v6 v7:Value} {a:Addr} {v:Value} (hn:a.block≠n) (h:W.cell? a=some v):((((((((W.setCell ⟨n,0,none⟩ v0).setCell ⟨n,1,none⟩ v1).setCell ⟨n,2,none⟩ v2).setCell ⟨n,3,none⟩ v3).setCell ⟨n,4,none⟩ v4).setCell ⟨n,5,none⟩ v5).setCell ⟨n,6,none⟩ v6).setCell ⟨n,7,none⟩ v7).cell? a=some v:=
 zag (g:=n) (o:=0) (vs:=[v0,v1,v2,v3,v4,v5,v6,v7]) hn h
theorem zbc {n0:Nat} {w W:World} (h:Below n0 w W) {g:Nat} (hg:n0≤g) (v0 v1 v2 v3 v4 v5 v6 v7:Value):Below n0 w (W.setCells g 0 [v0,v1,v2,v3,v4,v5,v6,v7]):=
 (((((((h.setCell (p:=⟨g,0,none⟩) hg _).setCell (p:=⟨g,0+1,none⟩) hg _).setCell (p:=⟨g,0+1+1,none⟩) hg _).setCell (p:=⟨g,0+1+1+1,none⟩) hg _).setCell (p:=⟨g,0+1+1+1+1,none⟩) hg _).setCell (p:=⟨g,0+1+1+1+1+1,none⟩) hg _).setCell (p:=⟨g,0+1+1+1+1+1+1,none⟩) hg _).setCell (p:=⟨g,0+1+1+1+1+1+1+1,none⟩) hg _
end Go.Proofs.YtlnecfjnffdciabGreat

namespace Go.Proofs.YtlnecfjnffdciabGreat
open Go.RowKit
def CutPost14 (X:Nat→Prop) (d:Nat) (t:RT PT) (x:PT) (w:World) (e:Ending) (w':World):Prop:=
 Below w.heap.size w w'∧∃p ku vu,e=.returned (.tuple #[.pointer p,.agg #[.int .i64 x.1.kind,.int .i64 x.1.num,.string x.1.text,ku,.int .i64 x.2.kind,.int .i64 x.2.num,.string x.2.text,vu]])∧NM X d w' t p∧(LiesX X d w' x.1.items ku∧x.1.text.size≤9223372036854775807)∧(LiesX X d w' x.2.items vu∧x.2.text.size≤9223372036854775807)
set_option maxRecDepth 100000 in
set_option maxHeartbeats 16000000 in
theorem cutLast_here (X:Nat→Prop) (d:Nat) (w:World) (l:RT PT) (x:PT) (b:Nat) (pl:Option Addr) (ku vu:Value) (c:Bool) (S H K:Nat) (hn:NCells w b pl none x ku vu c S H K) (hl:NM X d w l pl) (hk:(LiesX X d w x.1.items ku∧x.1.text.size≤9223372036854775807)∧(LiesX X d w x.2.items vu∧x.2.text.size≤9223372036854775807)) :
 Calls Tryz.prog 255 #[.pointer (some ⟨b,0,none⟩)] w (CutPost14 X d l x w):=by
 obtain⟨ak,ck,rfl,_⟩:=hk.1.1.slice
 obtain⟨av,cv,rfl,_⟩:=hk.2.1.slice
 obtain⟨c0,c1,c2,c3,c4,c5,c6,c7,c8,c9,_,_,_,_⟩:=hn
 have HK:Hid _:=hk
 have HL:Hid _:=hl
 clear hk hl
 have hbl:=zad c0
 simp only at hbl
 have hbne : ¬b=w.heap.size:=by omega
 go_enter Tryz.func255,Tryz.ntmps255
 go_wp2_with fail
 go_region
 go_wp2_with fail
 have hbb:Below w.heap.size w (w.alloc (.cells #[.int .i64 x.1.kind,.int .i64 x.1.num,.string x.1.text,.slice ak x.1.items.length ck,.int .i64 x.2.kind,.int .i64 x.2.num,.string x.2.text,.slice av x.2.items.length cv] 108)).drew:=((Grew.refl w).alloc _).below.drew
 refine bodyPost_ret (v:=.tuple #[.pointer pl,.agg #[.int .i64 x.1.kind,.int .i64 x.1.num,.string x.1.text,.slice ak x.1.items.length ck,.int .i64 x.2.kind,.int .i64 x.2.num,.string x.2.text,.slice av x.2.items.length cv]]) ?_ rfl ⟨hbb,_,_,_,rfl,HL.out.keeps hbb,⟨LiesX.keeps hbb HK.out.1.1,HK.out.1.2⟩,⟨LiesX.keeps hbb HK.out.2.1,HK.out.2.2⟩⟩
 simp [results,Tryz.results255,go_sem]
set_option maxRecDepth 100000 in
set_option maxHeartbeats 16000000 in
theorem cutLast_step (X:Nat→Prop) (d:Nat) (w:World) (r0 T:RT PT) (x z:PT) (b:Nat) (pl:Option Addr) (q:Addr) (ku vu:Value) (c:Bool) (S H K:Nat) (hn:NCells w b pl (some q) x ku vu c S H K) (hk:(LiesX X d w x.1.items ku∧x.1.text.size≤9223372036854775807)∧(LiesX X d w x.2.items vu∧x.2.text.size≤9223372036854775807))
 (hi:∀V,Below w.heap.size w V→Calls Tryz.prog 255 #[.pointer (some q)] V (CutPost14 X d r0 z V))
 (hj:∀V p,Below w.heap.size w V→NM X d V r0 p→Calls Tryz.prog 204 #[.pointer pl,.agg #[.int .i64 x.1.kind,.int .i64 x.1.num,.string x.1.text,ku,.int .i64 x.2.kind,.int .i64 x.2.num,.string x.2.text,vu],.pointer p] V (zac X d T V)) (hX : ¬X w.heap.size) :
 Calls Tryz.prog 255 #[.pointer (some ⟨b,0,none⟩)] w (CutPost14 X d T z w):=by
 obtain⟨ak,ck,rfl,_⟩:=hk.1.1.slice
 obtain⟨av,cv,rfl,_⟩:=hk.2.1.slice
 obtain⟨c0,c1,c2,c3,c4,c5,c6,c7,c8,c9,_,_,_,_⟩:=hn
 have HI:Hid _:=hi
 have HJ:Hid _:=hj
 have HK:Hid _:=hk
 clear hk hi hj
 have hbl:=zad c0
 simp only at hbl
 have hbne : ¬b=w.heap.size:=by omega
 go_enter Tryz.func255,Tryz.ntmps255
 go_wp2_with fail
 obtain⟨W0,hW0⟩:∃W0,W0=w.alloc (.cells #[.int .i64 0,.int .i64 0,.string ⟨#[]⟩,.slice none 0 0,.int .i64 0,.int .i64 0,.string ⟨#[]⟩,.slice none 0 0] 108):=⟨_,rfl⟩
 rw [←hW0]
 have hb0:Below w.heap.size w W0:=by rw [hW0];exact ((Grew.refl w).alloc _).below
 have HZ0:Hid (Bx8 W0 w.heap.size (.int .i64 0) (.int .i64 0) (.string ⟨#[]⟩) (.slice none 0 0) (.int .i64 0) (.int .i64 0) (.string ⟨#[]⟩) (.slice none 0 0)):=by rw [hW0];exact bx8_alloc w _ _ _ _ _ _ _ _ _
 have hz0:w.heap.size<W0.heap.size:=by rw [hW0];simp
 clear hW0
 refine (HI.out _ hb0).mono ?_
 rintro e w1 ⟨hg1,p1,kz,vz,rfl,ht1,hkz,hvz⟩
 obtain⟨akz,ckz,rfl,_⟩:=hkz.1.slice
 obtain⟨avz,cvz,rfl,_⟩:=hvz.1.slice
 have hb1:Below w.heap.size w w1:=hb0.trans (hg1.mono hb0.size)
 obtain⟨W1,hW1⟩:∃W1,W1=w1.alloc (.cells #[.int .i64 z.1.kind,.int .i64 z.1.num,.string z.1.text,.slice akz z.1.items.length ckz,.int .i64 z.2.kind,.int .i64 z.2.num,.string z.2.text,.slice avz z.2.items.length cvz] 108):=⟨_,rfl⟩
 have hbA:Below w1.heap.size w1 W1:=by rw [hW1];exact ((Grew.refl w1).alloc _).below
 have HT1:Hid (NM X d W1 r0 p1):=ht1.keeps hbA
 have HKZ:Hid (LiesX X d W1 z.1.items (.slice akz z.1.items.length ckz)∧z.1.text.size≤9223372036854775807):=⟨LiesX.keeps hbA hkz.1,hkz.2⟩
 have HVZ:Hid (LiesX X d W1 z.2.items (.slice avz z.2.items.length cvz)∧z.2.text.size≤9223372036854775807):=⟨LiesX.keeps hbA hvz.1,hvz.2⟩
 have hb2:Below w.heap.size w W1:=hb1.trans (hbA.mono hb1.size)
 have HZ1:Hid (Bx8 W1 w.heap.size (.int .i64 0) (.int .i64 0) (.string ⟨#[]⟩) (.slice none 0 0) (.int .i64 0) (.int .i64 0) (.string ⟨#[]⟩) (.slice none 0 0)):=(HZ0.out.keeps hg1).keeps hbA
 have hn2:w1.heap.size≠w.heap.size:=by have:=hg1.size;omega
 clear ht1 hkz hvz HZ0
 go_wp2_with fail
 rw [←hW1]
 have z0:W1.cell? ⟨w1.heap.size,0,none⟩=some (.int .i64 z.1.kind):=by rw [hW1];simp
 have z1:W1.cell? ⟨w1.heap.size,1,none⟩=some (.int .i64 z.1.num):=by rw [hW1];simp
 have z2:W1.cell? ⟨w1.heap.size,2,none⟩=some (.string z.1.text):=by rw [hW1];simp
 have z3:W1.cell? ⟨w1.heap.size,3,none⟩=some (.slice akz z.1.items.length ckz):=by rw [hW1];simp
 have z4:W1.cell? ⟨w1.heap.size,4,none⟩=some (.int .i64 z.2.kind):=by rw [hW1];simp
 have z5:W1.cell? ⟨w1.heap.size,5,none⟩=some (.int .i64 z.2.num):=by rw [hW1];simp
 have z6:W1.cell? ⟨w1.heap.size,6,none⟩=some (.string z.2.text):=by rw [hW1];simp
 have z7:W1.cell? ⟨w1.heap.size,7,none⟩=some (.slice avz z.2.items.length cvz):=by rw [hW1];simp
 have c0:=zaa hb2 c0;have c1:=zaa hb2 c1;have c2:=zaa hb2 c2;have c3:=zaa hb2 c3;have c4:=zaa hb2 c4;have c5:=zaa hb2 c5;have c6:=zaa hb2 c6;have c7:=zaa hb2 c7;have c8:=zaa hb2 c8;have c9:=zaa hb2 c9
 clear hW1 hg1 hbA hb0 hb1 HI hbl hz0
 generalize w1.heap.size=B2 at *
 obtain⟨y0,y1,y2,y3,y4,y5,y6,y7,f0,f1,f2,f3,f4,f5,f6,f7,_⟩:=HZ1.out
 have hb6:b≠w.heap.size:=hbne
 go_region_held3 (fun w'=>w'.cell? ⟨b,0,none⟩=some (.pointer pl)∧w'.cell? ⟨b,2,none⟩=some (.int .i64 x.1.kind)∧w'.cell? ⟨b,3,none⟩=some (.int .i64 x.1.num)∧w'.cell? ⟨b,4,none⟩=some (.string x.1.text)∧w'.cell? ⟨b,5,none⟩=some (.slice ak x.1.items.length ck)∧w'.cell? ⟨b,6,none⟩=some (.int .i64 x.2.kind)∧w'.cell? ⟨b,7,none⟩=some (.int .i64 x.2.num)∧w'.cell? ⟨b,8,none⟩=some (.string x.2.text)∧w'.cell? ⟨b,9,none⟩=some (.slice av x.2.items.length cv)∧w'.cell? ⟨B2,0,none⟩=some (.int .i64 z.1.kind)∧w'.cell? ⟨B2,1,none⟩=some (.int .i64 z.1.num)∧w'.cell? ⟨B2,2,none⟩=some (.string z.1.text)∧w'.cell? ⟨B2,3,none⟩=some (.slice akz z.1.items.length ckz)∧w'.cell? ⟨B2,4,none⟩=some (.int .i64 z.2.kind)∧w'.cell? ⟨B2,5,none⟩=some (.int .i64 z.2.num)∧w'.cell? ⟨B2,6,none⟩=some (.string z.2.text)∧w'.cell? ⟨B2,7,none⟩=some (.slice avz z.2.items.length cvz)) (first|go_keep|exact⟨zaj hb6 c0,zaj hb6 c2,zaj hb6 c3,zaj hb6 c4,zaj hb6 c5,zaj hb6 c6,zaj hb6 c7,zaj hb6 c8,zaj hb6 c9,zaj hn2 z0,zaj hn2 z1,zaj hn2 z2,zaj hn2 z3,zaj hn2 z4,zaj hn2 z5,zaj hn2 z6,zaj hn2 z7⟩)
  (first|(go_at_call 204;refine (HJ.out _ _ hb2.drew (HT1.out.keeps (Below.refl _ _).drew)).mono ?_;rintro e w5 ⟨hg5,p5,rfl,ht5⟩;have hbc:Below W1.heap.size W1 w5:=(Below.refl _ _).drew.trans hg5;have c0:=zaa hbc c0;have c1:=zaa hbc c1;have c2:=zaa hbc c2;have c3:=zaa hbc c3;have c4:=zaa hbc c4;have c5:=zaa hbc c5;have c6:=zaa hbc c6;have c7:=zaa hbc c7;have c8:=zaa hbc c8;have c9:=zaa hbc c9;have z0:=zaa hbc z0;have z1:=zaa hbc z1;have z2:=zaa hbc z2;have z3:=zaa hbc z3;have z4:=zaa hbc z4;have z5:=zaa hbc z5;have z6:=zaa hbc z6;have z7:=zaa hbc z7;have HT5:Hid (NM X d w5 T p5):=ht5;have HZ5:Hid (Bx8 w5 w.heap.size (.int .i64 0) (.int .i64 0) (.string ⟨#[]⟩) (.slice none 0 0) (.int .i64 0) (.int .i64 0) (.string ⟨#[]⟩) (.slice none 0 0)):=HZ1.out.keeps hbc;obtain⟨y0,y1,y2,y3,y4,y5,y6,y7,f0,f1,f2,f3,f4,f5,f6,f7,_⟩:=HZ5.out;clear ht5 hg5))
 have Hq:Hid _:=put8_in HZ5.out (.int .i64 z.1.kind) (.int .i64 z.1.num) (.string z.1.text) (.slice akz z.1.items.length ckz) (.int .i64 z.2.kind) (.int .i64 z.2.num) (.string z.2.text) (.slice avz z.2.items.length cvz)
 have hbz:Below w.heap.size w w5:=hb2.trans (hbc.mono hb2.size)
 have HBz:Hid (Below w.heap.size w (w5.setCells w.heap.size 0 [.int .i64 z.1.kind,.int .i64 z.1.num,.string z.1.text,.slice akz z.1.items.length ckz,.int .i64 z.2.kind,.int .i64 z.2.num,.string z.2.text,.slice avz z.2.items.length cvz])):=zbc hbz (Nat.le_refl _) _ _ _ _ _ _ _ _
 have HTz:Hid (NM X d (w5.setCells w.heap.size 0 [.int .i64 z.1.kind,.int .i64 z.1.num,.string z.1.text,.slice akz z.1.items.length ckz,.int .i64 z.2.kind,.int .i64 z.2.num,.string z.2.text,.slice avz z.2.items.length cvz]) T p5):=HT5.out.put8 hX HZ5.out _
 have HKz:Hid (LiesX X d (w5.setCells w.heap.size 0 [.int .i64 z.1.kind,.int .i64 z.1.num,.string z.1.text,.slice akz z.1.items.length ckz,.int .i64 z.2.kind,.int .i64 z.2.num,.string z.2.text,.slice avz z.2.items.length cvz]) z.1.items (.slice akz z.1.items.length ckz)):=(HKZ.out.1.keeps hbc).set hX
 have HVz:Hid (LiesX X d (w5.setCells w.heap.size 0 [.int .i64 z.1.kind,.int .i64 z.1.num,.string z.1.text,.slice akz z.1.items.length ckz,.int .i64 z.2.kind,.int .i64 z.2.num,.string z.2.text,.slice avz z.2.items.length cvz]) z.2.items (.slice avz z.2.items.length cvz)):=(HVZ.out.1.keeps hbc).set hX
 go_wp2_with fail
 refine bodyPost_ret (v:=.tuple #[.pointer p5,.agg #[.int .i64 z.1.kind,.int .i64 z.1.num,.string z.1.text,.slice akz z.1.items.length ckz,.int .i64 z.2.kind,.int .i64 z.2.num,.string z.2.text,.slice avz z.2.items.length cvz]]) ?_ rfl ⟨HBz.out,_,_,_,rfl,HTz.out,⟨HKz.out,HKZ.out.2⟩,⟨HVz.out,HVZ.out.2⟩⟩
 obtain⟨q0,q1,q2,q3,q4,q5,q6,q7⟩:=Hq.out
 simp only [World.setCells,Nat.zero_add,Nat.reduceAdd] at q0 q1 q2 q3 q4 q5 q6 q7
 simp [results,Tryz.results255,go_sem,q0,q1,q2,q3,q4,q5,q6,q7]
theorem cutLast_core (X:Nat→Prop) (d:Nat):∀(r l:RT PT) (c:Bool) (x:PT) (p:Option Addr) (w:World),NM X d w (.node c l x r) p→RT.Well l→RT.Well r→l.size+1+r.size<4611686018427387904→Calls Tryz.prog 255 #[.pointer p] w (CutPost14 X d (RT.cutLast l x r).1 (RT.cutLast l x r).2 w)
 | .nil,l,c,x,p,w,h,wl,wr,hs=>by
  obtain⟨b,pl,pr,ku,vu,rfl,hn,hk,hv,hl,hr⟩:=h
  have hr':pr=none:=hr
  subst hr'
  exact cutLast_here X d w l x b pl ku vu c _ _ _ hn hl ⟨hk,hv⟩
 | .node c2 l2 y r2,l,c,x,p,w,h,wl,wr,hs=>by
  have h0:=h
  obtain⟨b,pl,pr,ku,vu,rfl,hn,hk,hv,hl,hr⟩:=NM.both h
  obtain⟨q,hq⟩:∃q,pr=some q:=by
   obtain⟨b2,_,_,_,_,e,_⟩:=hr
   exact⟨_,e⟩
  subst hq
  have hsz:(RT.node c2 l2 y r2).size=l2.size+1+r2.size:=rfl
  have hw2:=RT.cutLast_well r2 l2 y wr.left wr.right
  have hz2:(RT.cutLast l2 y r2).1.size+1=l2.size+1+r2.size:=by
   have h9:=congrArg List.length (RT.cutLast_items r2 l2 y)
   rw [RT.size_items,RT.size_items l2,RT.size_items r2]
   simp at h9
   omega
  refine Calls.mono (cutLast_step (fun b=>X b∧b<w.heap.size) d w (RT.cutLast l2 y r2).1 _ x (RT.cutLast l2 y r2).2 b pl q ku vu c _ _ _ hn ⟨hk,hv⟩ (fun V hV=>cutLast_core (fun b=>X b∧b<w.heap.size) d r2 l2 c2 y (some q) V (hr.keeps hV) wr.left wr.right (by omega)) (fun V p9 hV h9=>join_14 (fun b=>X b∧b<w.heap.size) d V l _ x pl p9 ku vu (hl.keeps hV) h9 wl hw2 ⟨LiesX.keeps hV hk.1,hk.2⟩ ⟨LiesX.keeps hV hv.1,hv.2⟩ (by omega)) (fun e=>Nat.lt_irrefl _ e.2)) ?_
  rintro e w' ⟨hb,p',ku',vu',rfl,ht,h1,h2⟩
  exact⟨hb,p',ku',vu',rfl,ht.mono (fun _ h=>h.1),⟨h1.1.mono (fun _ h=>h.1),h1.2⟩,⟨h2.1.mono (fun _ h=>h.1),h2.2⟩⟩
end Go.Proofs.YtlnecfjnffdciabGreat

namespace Go.Proofs.YtlnecfjnffdciabGreat
open Go.RowKit
set_option maxRecDepth 100000 in
set_option maxHeartbeats 4000000 in
theorem together_nil (w:World) (q:Option Addr):Calls Tryz.prog 201 #[.pointer none,.pointer q] w fun e w'=>e=.returned (.pointer q)∧w'=w:=by
 go_enter Tryz.func201,Tryz.ntmps201
 go_wp2_with fail
 go_ret
 exact⟨rfl,rfl⟩
set_option maxRecDepth 100000 in
set_option maxHeartbeats 4000000 in
theorem together_node (X:Nat→Prop) (d:Nat) (w:World) (p:Addr) (q:Option Addr) (r0 T:RT PT) (z:PT)
 (hi:Calls Tryz.prog 255 #[.pointer (some p)] w (CutPost14 X d r0 z w))
 (hj:∀V p k v,Below w.heap.size w V→NM X d V r0 p→(LiesX X d V z.1.items k∧z.1.text.size≤9223372036854775807)→(LiesX X d V z.2.items v∧z.2.text.size≤9223372036854775807)→Calls Tryz.prog 204 #[.pointer p,.agg #[.int .i64 z.1.kind,.int .i64 z.1.num,.string z.1.text,k,.int .i64 z.2.kind,.int .i64 z.2.num,.string z.2.text,v],.pointer q] V (zac X d T V)) :
 Calls Tryz.prog 201 #[.pointer (some p),.pointer q] w (zac X d T w):=by
 have HI:Hid _:=hi
 have HJ:Hid _:=hj
 clear hi hj
 go_enter Tryz.func201,Tryz.ntmps201
 go_wp2_with fail
 refine Calls.mono HI.out ?_
 rintro e w1 ⟨hg1,p1,kz,vz,rfl,ht1,hkz,hvz⟩
 obtain⟨akz,ckz,rfl,_⟩:=hkz.1.slice
 obtain⟨avz,cvz,rfl,_⟩:=hvz.1.slice
 have hbA:∀o,Below w1.heap.size w1 (w1.alloc o):=fun o=>((Grew.refl w1).alloc _).below
 have HJ2:Hid (∀o,Calls Tryz.prog 204 #[.pointer p1,.agg #[.int .i64 z.1.kind,.int .i64 z.1.num,.string z.1.text,(.slice akz z.1.items.length ckz),.int .i64 z.2.kind,.int .i64 z.2.num,.string z.2.text,(.slice avz z.2.items.length cvz)],.pointer q] (w1.alloc o) (zac X d T (w1.alloc o))):=fun o=>HJ.out _ _ _ _ (hg1.trans ((hbA o).mono hg1.size)) (ht1.keeps (hbA o)) ⟨LiesX.keeps (hbA o) hkz.1,hkz.2⟩ ⟨LiesX.keeps (hbA o) hvz.1,hvz.2⟩
 have HB:Hid (∀o,Below w.heap.size w (w1.alloc o)):=fun o=>hg1.trans ((hbA o).mono hg1.size)
 clear hg1 ht1 hkz hvz hbA HJ HI
 go_wp2_with fail
 refine (HJ2.out _).mono ?_
 rintro e w5 ⟨hg5,p5,rfl,ht5⟩
 have HE:Hid (zac X d T w (.returned (.pointer p5)) w5):=⟨(HB.out _).trans (hg5.mono (HB.out _).size),p5,rfl,ht5⟩
 clear hg5 ht5 HJ2
 go_wp2_with fail
 go_ret
 exact HE.out
theorem cutLast_size {α:Type} (r l:RT α) (x:α):(RT.cutLast l x r).1.size=l.size+r.size:=by
 have h9:=congrArg List.length (RT.cutLast_items r l x)
 rw [RT.size_items,RT.size_items l,RT.size_items r]
 simp at h9
 omega
theorem together_14 (X:Nat→Prop) (d:Nat) (w:World) (l r:RT PT) (p q:Option Addr) (hl:NM X d w l p) (hr:NM X d w r q) (wl:RT.Well l) (wr:RT.Well r) (hs:l.size+r.size+1<4611686018427387904) :
 Calls Tryz.prog 201 #[.pointer p,.pointer q] w (zac X d (RT.together l r) w):=by
 cases l with
 | nil=>
  have hp:p=none:=hl
  subst hp
  refine Calls.mono (together_nil w q) ?_
  rintro e w' ⟨rfl,rfl⟩
  exact⟨Below.refl _ _,q,rfl,hr⟩
 | node c l x r'=>
  obtain⟨a,ha⟩:∃a,p=some a:=by
   obtain⟨b2,_,_,_,_,e,_⟩:=hl
   exact⟨_,e⟩
  subst ha
  have hz:(RT.node c l x r').size=l.size+1+r'.size:=rfl
  have hc:=cutLast_size r' l x
  exact together_node X d w a q _ _ _ (cutLast_core X d r' l c x (some a) w hl wl.left wl.right (by omega)) (fun V p k v hV h1 h2 h3=>join_14 X d V _ r _ p q k v h1 (hr.keeps hV) (RT.cutLast_well r' l x wl.left wl.right) wr h2 h3 (by omega))
def za6 (X:Nat→Prop) (d:Nat) (a b:RT PT) (w:World) (e:Ending) (w':World):Prop:=Below w.heap.size w w'∧∃p q,e=.returned (.tuple #[.pointer p,.pointer q])∧NM X d w' a p∧NM X d w' b q
set_option maxRecDepth 100000 in
set_option maxHeartbeats 4000000 in
theorem split_nil (f:Nat) (q1 q2:Option Addr) (w:World):Calls Tryz.prog 202 #[.pointer none,.func (.func f) #[] #[.pointer q1,.pointer q2]] w fun e w'=>e=.returned (.tuple #[.pointer none,.pointer none])∧w'=w:=by
 go_enter Tryz.func202,Tryz.ntmps202
 go_wp2_with fail
 go_ret2
 exact⟨rfl,rfl⟩
set_option maxRecDepth 100000 in
set_option maxHeartbeats 8000000 in
theorem split_lt (X:Nat→Prop) (d:Nat) (w:World) (x:PT) (b f:Nat) (q1 q2 pl pr:Option Addr) (ku vu:Value) (c:Bool) (S H K:Nat) (hn:NCells w b pl pr x ku vu c S H K) (eg:∀args w,(callFunc f args).run Tryz.prog w=.ok (.enter f args) w) (gx:Int) (hgx:gx<0)
 (hat:∀V,Below w.heap.size w V→Calls Tryz.prog f #[.agg #[.int .i64 x.1.kind,.int .i64 x.1.num,.string x.1.text,ku,.int .i64 x.2.kind,.int .i64 x.2.num,.string x.2.text,vu],.pointer q1,.pointer q2] V fun e w'=>e=.returned (.int .i64 gx)∧Below V.heap.size V w')
 (a0 b0 T:RT PT) (hi:∀V,Below w.heap.size w V→Calls Tryz.prog 202 #[.pointer pl,.func (.func f) #[] #[.pointer q1,.pointer q2]] V (za6 X d a0 b0 V)) (hj:∀V p,Below w.heap.size w V→NM X d V b0 p→Calls Tryz.prog 204 #[.pointer p,.agg #[.int .i64 x.1.kind,.int .i64 x.1.num,.string x.1.text,ku,.int .i64 x.2.kind,.int .i64 x.2.num,.string x.2.text,vu],.pointer pr] V (zac X d T V)) :
 Calls Tryz.prog 202 #[.pointer (some ⟨b,0,none⟩),.func (.func f) #[] #[.pointer q1,.pointer q2]] w (za6 X d a0 T w):=by
 obtain⟨c0,c1,c2,c3,c4,c5,c6,c7,c8,c9,_,_,_,_⟩:=hn
 have HA:Hid _:=hat
 have HI:Hid _:=hi
 have HJ:Hid _:=hj
 clear hi hj hat
 go_enter Tryz.func202,Tryz.ntmps202
 go_wp2_with (go_at_fn f;refine (HA.out _ (Below.refl _ _)).mono ?_;rintro e w1 ⟨rfl,hg1⟩;fail)
 go_at_fn f
 refine (HA.out _ (Below.refl _ _)).mono ?_
 rintro e w1 ⟨rfl,hg1⟩
 clear HA
 have c0:=zaa hg1 c0;have c1:=zaa hg1 c1;have c2:=zaa hg1 c2;have c3:=zaa hg1 c3;have c4:=zaa hg1 c4;have c5:=zaa hg1 c5;have c6:=zaa hg1 c6;have c7:=zaa hg1 c7;have c8:=zaa hg1 c8;have c9:=zaa hg1 c9
 have hn1 : ¬0<gx:=by omega
 go_wp2_with fail
 refine (HI.out _ hg1).mono ?_
 rintro e w2 ⟨hg2,pa,pb,rfl,hta,htb⟩
 have hb2:Below w.heap.size w w2:=hg1.trans (hg2.mono hg1.size)
 have c0:=zaa hg2 c0;have c1:=zaa hg2 c1;have c2:=zaa hg2 c2;have c3:=zaa hg2 c3;have c4:=zaa hg2 c4;have c5:=zaa hg2 c5;have c6:=zaa hg2 c6;have c7:=zaa hg2 c7;have c8:=zaa hg2 c8;have c9:=zaa hg2 c9
 have HTA:Hid (NM X d w2 a0 pa):=hta;have HTB:Hid (NM X d w2 b0 pb):=htb
 clear hta htb hg2 hg1 HI
 go_wp2_with fail
 go_region_held3 (fun w'=>w'.cell? ⟨b,1,none⟩=some (.pointer pr)∧w'.cell? ⟨b,2,none⟩=some (.int .i64 x.1.kind)∧w'.cell? ⟨b,3,none⟩=some (.int .i64 x.1.num)∧w'.cell? ⟨b,4,none⟩=some (.string x.1.text)∧w'.cell? ⟨b,5,none⟩=some (ku)∧w'.cell? ⟨b,6,none⟩=some (.int .i64 x.2.kind)∧w'.cell? ⟨b,7,none⟩=some (.int .i64 x.2.num)∧w'.cell? ⟨b,8,none⟩=some (.string x.2.text)∧w'.cell? ⟨b,9,none⟩=some (vu)) (go_keep) (first|(go_at_call 204;refine (HJ.out _ _ hb2.drew (HTB.out.keeps (Below.refl _ _).drew)).mono ?_;rintro e w5 ⟨hg5,p5,rfl,ht5⟩;have hbc:Below w2.heap.size w2 w5:=(Below.refl _ _).drew.trans hg5;have hbz:Below w.heap.size w w5:=hb2.trans (hbc.mono hb2.size);have HE:Hid (za6 X d a0 T w (.returned (.tuple #[.pointer pa,.pointer p5])) w5):=⟨hbz,pa,p5,rfl,HTA.out.keeps hbc,ht5⟩;have c1:=zaa hbc c1;have c2:=zaa hbc c2;have c3:=zaa hbc c3;have c4:=zaa hbc c4;have c5:=zaa hbc c5;have c6:=zaa hbc c6;have c7:=zaa hbc c7;have c8:=zaa hbc c8;have c9:=zaa hbc c9;clear hg5 ht5 hbz hbc))
 all_goals (first|(go_ret2;exact HE.out)|(go_wp2_with fail;go_ret2;exact HE.out))
set_option maxRecDepth 100000 in
set_option maxHeartbeats 8000000 in
theorem split_gt (X:Nat→Prop) (d:Nat) (w:World) (x:PT) (b f:Nat) (q1 q2 pl pr:Option Addr) (ku vu:Value) (c:Bool) (S H K:Nat) (hn:NCells w b pl pr x ku vu c S H K) (eg:∀args w,(callFunc f args).run Tryz.prog w=.ok (.enter f args) w) (gx:Int) (hgx:0<gx)
 (hat:∀V,Below w.heap.size w V→Calls Tryz.prog f #[.agg #[.int .i64 x.1.kind,.int .i64 x.1.num,.string x.1.text,ku,.int .i64 x.2.kind,.int .i64 x.2.num,.string x.2.text,vu],.pointer q1,.pointer q2] V fun e w'=>e=.returned (.int .i64 gx)∧Below V.heap.size V w')
 (a0 b0 T:RT PT) (hi:∀V,Below w.heap.size w V→Calls Tryz.prog 202 #[.pointer pr,.func (.func f) #[] #[.pointer q1,.pointer q2]] V (za6 X d a0 b0 V)) (hj:∀V p,Below w.heap.size w V→NM X d V a0 p→Calls Tryz.prog 204 #[.pointer pl,.agg #[.int .i64 x.1.kind,.int .i64 x.1.num,.string x.1.text,ku,.int .i64 x.2.kind,.int .i64 x.2.num,.string x.2.text,vu],.pointer p] V (zac X d T V)) :
 Calls Tryz.prog 202 #[.pointer (some ⟨b,0,none⟩),.func (.func f) #[] #[.pointer q1,.pointer q2]] w (za6 X d T b0 w):=by
 obtain⟨c0,c1,c2,c3,c4,c5,c6,c7,c8,c9,_,_,_,_⟩:=hn
 have HA:Hid _:=hat
 have HI:Hid _:=hi
 have HJ:Hid _:=hj
 clear hi hj hat
 go_enter Tryz.func202,Tryz.ntmps202
 go_wp2_with (go_at_fn f;refine (HA.out _ (Below.refl _ _)).mono ?_;rintro e w1 ⟨rfl,hg1⟩;fail)
 go_at_fn f
 refine (HA.out _ (Below.refl _ _)).mono ?_
 rintro e w1 ⟨rfl,hg1⟩
 clear HA
 have c0:=zaa hg1 c0;have c1:=zaa hg1 c1;have c2:=zaa hg1 c2;have c3:=zaa hg1 c3;have c4:=zaa hg1 c4;have c5:=zaa hg1 c5;have c6:=zaa hg1 c6;have c7:=zaa hg1 c7;have c8:=zaa hg1 c8;have c9:=zaa hg1 c9
 have hn1 : ¬gx<0:=by omega
 go_wp2_with fail
 refine (HI.out _ hg1).mono ?_
 rintro e w2 ⟨hg2,pa,pb,rfl,hta,htb⟩
 have hb2:Below w.heap.size w w2:=hg1.trans (hg2.mono hg1.size)
 have c0:=zaa hg2 c0;have c1:=zaa hg2 c1;have c2:=zaa hg2 c2;have c3:=zaa hg2 c3;have c4:=zaa hg2 c4;have c5:=zaa hg2 c5;have c6:=zaa hg2 c6;have c7:=zaa hg2 c7;have c8:=zaa hg2 c8;have c9:=zaa hg2 c9
 have HTA:Hid (NM X d w2 a0 pa):=hta;have HTB:Hid (NM X d w2 b0 pb):=htb
 clear hta htb hg2 hg1 HI
 go_wp2_with fail
 go_region_held3 (fun w'=>w'.cell? ⟨b,0,none⟩=some (.pointer pl)∧w'.cell? ⟨b,2,none⟩=some (.int .i64 x.1.kind)∧w'.cell? ⟨b,3,none⟩=some (.int .i64 x.1.num)∧w'.cell? ⟨b,4,none⟩=some (.string x.1.text)∧w'.cell? ⟨b,5,none⟩=some (ku)∧w'.cell? ⟨b,6,none⟩=some (.int .i64 x.2.kind)∧w'.cell? ⟨b,7,none⟩=some (.int .i64 x.2.num)∧w'.cell? ⟨b,8,none⟩=some (.string x.2.text)∧w'.cell? ⟨b,9,none⟩=some (vu)) (go_keep) (first|(go_at_call 204;refine (HJ.out _ _ hb2.drew (HTA.out.keeps (Below.refl _ _).drew)).mono ?_;rintro e w5 ⟨hg5,p5,rfl,ht5⟩;have hbc:Below w2.heap.size w2 w5:=(Below.refl _ _).drew.trans hg5;have hbz:Below w.heap.size w w5:=hb2.trans (hbc.mono hb2.size);have HE:Hid (za6 X d T b0 w (.returned (.tuple #[.pointer p5,.pointer pb])) w5):=⟨hbz,p5,pb,rfl,ht5,HTB.out.keeps hbc⟩;have c0:=zaa hbc c0;have c2:=zaa hbc c2;have c3:=zaa hbc c3;have c4:=zaa hbc c4;have c5:=zaa hbc c5;have c6:=zaa hbc c6;have c7:=zaa hbc c7;have c8:=zaa hbc c8;have c9:=zaa hbc c9;clear hg5 ht5 hbz hbc))
 all_goals (first|(go_ret2;exact HE.out)|(go_wp2_with fail;go_ret2;exact HE.out))
set_option maxRecDepth 100000 in
set_option maxHeartbeats 8000000 in
theorem split_eq (X:Nat→Prop) (d:Nat) (w:World) (x:PT) (b f:Nat) (q1 q2 pl pr:Option Addr) (ku vu:Value) (c:Bool) (S H K:Nat) (hn:NCells w b pl pr x ku vu c S H K) (eg:∀args w,(callFunc f args).run Tryz.prog w=.ok (.enter f args) w) (gx:Int) (hgx:gx=0)
 (hat:∀V,Below w.heap.size w V→Calls Tryz.prog f #[.agg #[.int .i64 x.1.kind,.int .i64 x.1.num,.string x.1.text,ku,.int .i64 x.2.kind,.int .i64 x.2.num,.string x.2.text,vu],.pointer q1,.pointer q2] V fun e w'=>e=.returned (.int .i64 gx)∧Below V.heap.size V w')
 (l r:RT PT) (hl:NM X d w l pl) (hr:NM X d w r pr) :
 Calls Tryz.prog 202 #[.pointer (some ⟨b,0,none⟩),.func (.func f) #[] #[.pointer q1,.pointer q2]] w (za6 X d l r w):=by
 obtain⟨c0,c1,c2,c3,c4,c5,c6,c7,c8,c9,_,_,_,_⟩:=hn
 have HA:Hid _:=hat
 have HL:Hid _:=hl
 have HRr:Hid _:=hr
 clear hat hl hr
 go_enter Tryz.func202,Tryz.ntmps202
 go_wp2_with (go_at_fn f;refine (HA.out _ (Below.refl _ _)).mono ?_;rintro e w1 ⟨rfl,hg1⟩;fail)
 go_at_fn f
 refine (HA.out _ (Below.refl _ _)).mono ?_
 rintro e w1 ⟨rfl,hg1⟩
 clear HA
 have c0:=zaa hg1 c0;have c1:=zaa hg1 c1;have c2:=zaa hg1 c2;have c3:=zaa hg1 c3;have c4:=zaa hg1 c4;have c5:=zaa hg1 c5;have c6:=zaa hg1 c6;have c7:=zaa hg1 c7;have c8:=zaa hg1 c8;have c9:=zaa hg1 c9
 subst hgx
 go_wp2_with fail
 go_region
 have HE:Hid (za6 X d l r w (.returned (.tuple #[.pointer pl,.pointer pr])) w1.drew):=⟨hg1.drew,pl,pr,rfl,HL.out.keeps hg1.drew,HRr.out.keeps hg1.drew⟩
 (first|(go_ret2;exact HE.out)|(go_wp2_with fail;go_ret2;exact HE.out))
def AtC (X:Nat→Prop) (d f:Nat) (q1 q2:Option Addr) (g:PT→Int) (P:PT→Prop) (w:World):Prop:=
 ∀V,Below w.heap.size w V→∀(x:PT) (ku vu:Value),P x→(LiesX X d V x.1.items ku∧x.1.text.size≤9223372036854775807)→(LiesX X d V x.2.items vu∧x.2.text.size≤9223372036854775807)→Calls Tryz.prog f #[.agg #[.int .i64 x.1.kind,.int .i64 x.1.num,.string x.1.text,ku,.int .i64 x.2.kind,.int .i64 x.2.num,.string x.2.text,vu],.pointer q1,.pointer q2] V fun e w'=>e=.returned (.int .i64 (g x))∧Below V.heap.size V w'
theorem AtC.keeps {X:Nat→Prop} {d f:Nat} {q1 q2:Option Addr} {g:PT→Int} {P:PT→Prop} {w w':World} (h:AtC X d f q1 q2 g P w) (hb:Below w.heap.size w w'):AtC X d f q1 q2 g P w':=fun V hV=>h V (hb.trans (hV.mono hb.size))
theorem split_sizes {α:Type} (g:α→Int):∀(t:RT α),(RT.split g t).1.size+(RT.split g t).2.size≤t.size
 | .nil=>Nat.le_refl _
 | .node c l x r=>by
  have h1:=split_sizes g l
  have h2:=split_sizes g r
  have hz:(RT.node c l x r).size=l.size+1+r.size:=rfl
  unfold RT.split
  split
  ·show (RT.split g l).1.size+(RT.join (RT.split g l).2 x r).size≤_
   rw [join_size];omega
  ·split
   ·show (RT.join l x (RT.split g r).1).size+(RT.split g r).2.size≤_
    rw [join_size];omega
   ·show l.size+r.size≤_
    omega
theorem split_14 (X:Nat→Prop) (d f:Nat) (q1 q2:Option Addr) (g:PT→Int) (P:PT→Prop) (eg:∀args w,(callFunc f args).run Tryz.prog w=.ok (.enter f args) w):∀(t:RT PT) (p:Option Addr) (w:World),AtC X d f q1 q2 g P w→NM X d w t p→RT.Well t→(∀x∈t.items,P x)→t.size<4611686018427387904→
 Calls Tryz.prog 202 #[.pointer p,.func (.func f) #[] #[.pointer q1,.pointer q2]] w (za6 X d (RT.split g t).1 (RT.split g t).2 w)
 | .nil,p,w,ha,hn,hw,hp,hs=>by
  have hp:p=none:=hn
  subst hp
  refine Calls.mono (split_nil f q1 q2 w) ?_
  rintro e w' ⟨rfl,rfl⟩
  exact⟨Below.refl _ _,none,none,rfl,rfl,rfl⟩
 | .node c l x r,p,w,ha,hn,hw,hp,hs=>by
  obtain⟨b,pl,pr,ku,vu,rfl,hc,hk,hv,hl,hr⟩:=hn
  have hz:(RT.node c l x r).size=l.size+1+r.size:=rfl
  have hat:=fun V (hV:Below w.heap.size w V)=>ha V hV x ku vu (hp x (by simp [RT.items])) ⟨LiesX.keeps hV hk.1,hk.2⟩ ⟨LiesX.keeps hV hv.1,hv.2⟩
  by_cases h1:g x<0
  ·have e9:RT.split g (.node c l x r)=((RT.split g l).1,RT.join (RT.split g l).2 x r):=by
    show (if _ then _ else _)=_
    rw [if_pos h1]
   rw [e9]
   have hsz:=split_sizes g l
   exact split_lt X d w x b f q1 q2 pl pr ku vu c _ _ _ hc eg (g x) h1 hat _ _ _ (fun V hV=>split_14 X d f q1 q2 g P eg l pl V (ha.keeps hV) (hl.keeps hV) hw.left (fun y hy=>hp y (by simp [RT.items,hy])) (by omega)) (fun V q hV hq=>join_14 X d V _ r x q pr ku vu hq (hr.keeps hV) (RT.split_well g l hw.left).2 hw.right ⟨LiesX.keeps hV hk.1,hk.2⟩ ⟨LiesX.keeps hV hv.1,hv.2⟩ (by omega))
  ·by_cases h2:0<g x
   ·have e9:RT.split g (.node c l x r)=(RT.join l x (RT.split g r).1,(RT.split g r).2):=by
     show (if _ then _ else if _ then _ else _)=_
     rw [if_neg h1,if_pos h2]
    rw [e9]
    have hsz:=split_sizes g r
    exact split_gt X d w x b f q1 q2 pl pr ku vu c _ _ _ hc eg (g x) h2 hat _ _ _ (fun V hV=>split_14 X d f q1 q2 g P eg r pr V (ha.keeps hV) (hr.keeps hV) hw.right (fun y hy=>hp y (by simp [RT.items,hy])) (by omega)) (fun V q hV hq=>join_14 X d V l _ x pl q ku vu (hl.keeps hV) hq hw.left (RT.split_well g r hw.right).1 ⟨LiesX.keeps hV hk.1,hk.2⟩ ⟨LiesX.keeps hV hv.1,hv.2⟩ (by omega))
   ·have e9:RT.split g (.node c l x r)=(l,r):=by
     show (if _ then _ else if _ then _ else _)=_
     rw [if_neg h1,if_neg h2]
    rw [e9]
    exact split_eq X d w x b f q1 q2 pl pr ku vu c _ _ _ hc eg (g x) (by omega) hat l r hl hr
set_option maxRecDepth 100000 in
set_option maxHeartbeats 8000000 in
theorem with_core (X:Nat→Prop) (d f:Nat) (q1 q2 p:Option Addr) (x:PT) (ku vu:Value) (w:World) (a0 b0 T:RT PT)
 (hi:∀V,Below w.heap.size w V→Calls Tryz.prog 202 #[.pointer p,.func (.func f) #[] #[.pointer q1,.pointer q2]] V (za6 X d a0 b0 V)) (hj:∀V p q,Below w.heap.size w V→NM X d V a0 p→NM X d V b0 q→Calls Tryz.prog 204 #[.pointer p,.agg #[.int .i64 x.1.kind,.int .i64 x.1.num,.string x.1.text,ku,.int .i64 x.2.kind,.int .i64 x.2.num,.string x.2.text,vu],.pointer q] V (zac X d T V)) :
 Calls Tryz.prog 138 #[.pointer p,.agg #[.int .i64 x.1.kind,.int .i64 x.1.num,.string x.1.text,ku,.int .i64 x.2.kind,.int .i64 x.2.num,.string x.2.text,vu],.func (.func f) #[] #[.pointer q1,.pointer q2]] w (zac X d T w):=by
 have HI:Hid _:=hi
 have HJ:Hid _:=hj
 clear hi hj
 go_enter Tryz.func138,Tryz.ntmps138
 go_wp2_with fail
 obtain⟨W0,hW0⟩:∃W0,W0=w.alloc (.cells #[.int .i64 x.1.kind,.int .i64 x.1.num,.string x.1.text,ku,.int .i64 x.2.kind,.int .i64 x.2.num,.string x.2.text,vu] 108):=⟨_,rfl⟩
 rw [←hW0]
 have hb0:Below w.heap.size w W0:=by rw [hW0];exact ((Grew.refl w).alloc _).below
 have x0:W0.cell? ⟨w.heap.size,0,none⟩=some (.int .i64 x.1.kind):=by rw [hW0];simp
 have x1:W0.cell? ⟨w.heap.size,1,none⟩=some (.int .i64 x.1.num):=by rw [hW0];simp
 have x2:W0.cell? ⟨w.heap.size,2,none⟩=some (.string x.1.text):=by rw [hW0];simp
 have x3:W0.cell? ⟨w.heap.size,3,none⟩=some (ku):=by rw [hW0];simp
 have x4:W0.cell? ⟨w.heap.size,4,none⟩=some (.int .i64 x.2.kind):=by rw [hW0];simp
 have x5:W0.cell? ⟨w.heap.size,5,none⟩=some (.int .i64 x.2.num):=by rw [hW0];simp
 have x6:W0.cell? ⟨w.heap.size,6,none⟩=some (.string x.2.text):=by rw [hW0];simp
 have x7:W0.cell? ⟨w.heap.size,7,none⟩=some (vu):=by rw [hW0];simp
 clear hW0
 refine (HI.out _ hb0).mono ?_
 rintro e w2 ⟨hg2,pa,pb,rfl,hta,htb⟩
 have hb2:Below w.heap.size w w2:=hb0.trans (hg2.mono hb0.size)
 have x0:=zaa hg2 x0;have x1:=zaa hg2 x1;have x2:=zaa hg2 x2;have x3:=zaa hg2 x3;have x4:=zaa hg2 x4;have x5:=zaa hg2 x5;have x6:=zaa hg2 x6;have x7:=zaa hg2 x7
 have HJ2:Hid _:=HJ.out _ _ _ hb2 hta htb
 clear hta htb hg2 HI HJ hb0
 go_wp2_with fail
 refine Calls.mono HJ2.out ?_
 rintro e w5 ⟨hg5,p5,rfl,ht5⟩
 have HE:Hid (zac X d T w (.returned (.pointer p5)) w5):=⟨hb2.trans (hg5.mono hb2.size),p5,rfl,ht5⟩
 clear hg5 ht5 HJ2
 go_wp2_with fail
 go_ret
 exact HE.out
set_option maxRecDepth 100000 in
set_option maxHeartbeats 8000000 in
theorem without_core (X:Nat→Prop) (d f:Nat) (q1 q2 p:Option Addr) (w:World) (a0 b0 T:RT PT)
 (hi:Calls Tryz.prog 202 #[.pointer p,.func (.func f) #[] #[.pointer q1,.pointer q2]] w (za6 X d a0 b0 w)) (hj:∀V p q,NM X d V a0 p→NM X d V b0 q→Calls Tryz.prog 201 #[.pointer p,.pointer q] V (zac X d T V)) :
 Calls Tryz.prog 134 #[.pointer p,.func (.func f) #[] #[.pointer q1,.pointer q2]] w (zac X d T w):=by
 have HI:Hid _:=hi
 have HJ:Hid _:=hj
 clear hi hj
 go_enter Tryz.func134,Tryz.ntmps134
 go_wp2_with fail
 refine Calls.mono HI.out ?_
 rintro e w2 ⟨hg2,pa,pb,rfl,hta,htb⟩
 have HJ2:Hid _:=HJ.out _ _ _ hta htb
 clear hta htb HI HJ
 go_wp2_with fail
 refine Calls.mono HJ2.out ?_
 rintro e w5 ⟨hg5,p5,rfl,ht5⟩
 have HE:Hid (zac X d T w (.returned (.pointer p5)) w5):=⟨hg2.trans (hg5.mono hg2.size),p5,rfl,ht5⟩
 clear hg5 ht5 HJ2 hg2
 go_wp2_with fail
 go_ret
 exact HE.out
theorem with_14 (X:Nat→Prop) (d f:Nat) (q1 q2 p:Option Addr) (g:PT→Int) (P:PT→Prop) (eg:∀args w,(callFunc f args).run Tryz.prog w=.ok (.enter f args) w) (t:RT PT) (x:PT) (ku vu:Value) (w:World) (ha:AtC X d f q1 q2 g P w) (hn:NM X d w t p) (hw:RT.Well t) (hp:∀x∈t.items,P x) (hs:t.size+1<4611686018427387904) (hk:LiesX X d w x.1.items ku∧x.1.text.size≤9223372036854775807) (hv:LiesX X d w x.2.items vu∧x.2.text.size≤9223372036854775807) :
 Calls Tryz.prog 138 #[.pointer p,.agg #[.int .i64 x.1.kind,.int .i64 x.1.num,.string x.1.text,ku,.int .i64 x.2.kind,.int .i64 x.2.num,.string x.2.text,vu],.func (.func f) #[] #[.pointer q1,.pointer q2]] w (zac X d (RT.with_ g x t) w):=by
 have hz:=split_sizes g t
 exact with_core X d f q1 q2 p x ku vu w _ _ _ (fun V hV=>split_14 X d f q1 q2 g P eg t p V (ha.keeps hV) (hn.keeps hV) hw hp (by omega)) (fun V a b hV h1 h2=>join_14 X d V _ _ x a b ku vu h1 h2 (RT.split_well g t hw).1 (RT.split_well g t hw).2 ⟨LiesX.keeps hV hk.1,hk.2⟩ ⟨LiesX.keeps hV hv.1,hv.2⟩ (by omega))
theorem without_14 (X:Nat→Prop) (d f:Nat) (q1 q2 p:Option Addr) (g:PT→Int) (P:PT→Prop) (eg:∀args w,(callFunc f args).run Tryz.prog w=.ok (.enter f args) w) (t:RT PT) (w:World) (ha:AtC X d f q1 q2 g P w) (hn:NM X d w t p) (hw:RT.Well t) (hp:∀x∈t.items,P x) (hs:t.size+1<4611686018427387904) :
 Calls Tryz.prog 134 #[.pointer p,.func (.func f) #[] #[.pointer q1,.pointer q2]] w (zac X d (RT.without g t) w):=by
 have hz:=split_sizes g t
 exact without_core X d f q1 q2 p w _ _ _ (split_14 X d f q1 q2 g P eg t p w ha hn hw hp (by omega)) (fun V a b h1 h2=>together_14 X d V _ _ a b h1 h2 (RT.split_well g t hw).1 (RT.split_well g t hw).2 (by omega))
end Go.Proofs.YtlnecfjnffdciabGreat

