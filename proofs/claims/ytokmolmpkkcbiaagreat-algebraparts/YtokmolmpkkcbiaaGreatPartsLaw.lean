import Derived.Test.YtokmolmpkkcbiaaGreatPrtN
import Derived.Test.YtokmolmpkkcbiaaGreatSpeaks25
namespace Go.Proofs.YtokmolmpkkcbiaaGreat
open Go.RowKit Go.Shelf
set_option maxRecDepth 100000 in
set_option maxHeartbeats 16000000 in
theorem parts_walk (n q:Int) (d:Nat) (l:List VT) (a:Option Addr) (cp:Nat) (w:World) (hl:Lies (d+1) w l (.slice a l.length cp)):Calls Tryz.prog 3 #[.int .i64 n,.int .i64 q,.slice a l.length cp] w fun e w'=>e=.returned (.bool true)∧Below w.heap.size w w':=by
 have HSp:Hid (∀V,Calls Tryz.prog 9 #[] V fun e w'=>e=.returned (.bool true)∧Below V.heap.size V w'):=speaks25_any
 have H1:Hid (Calls Tryz.prog 4 #[.int .i64 n,.slice a l.length cp] w (PtPost (prtL d n l) (prtE d n l) w)):=partsF_any d n l _ w hl
 have H2:Hid (∀V,Below w.heap.size w V→Calls Tryz.prog 5 #[.int .i64 n,.slice a l.length cp] V (PtPost (prtL d n l) (prtE d n l) V)):=fun V hV=>rparts_any d n l _ V (Lies.keeps hV _ _ _ hl)
 have H3:Hid (∀V,Below w.heap.size w V→Calls Tryz.prog 6 #[.int .i64 q,.slice a l.length cp] V (SpPost (spl1 d q l) (spl2 d q l) (askE d q l) V)):=fun V hV=>splitF_any d q l _ V (Lies.keeps hV _ _ _ hl)
 have H4:Hid (∀V,Below w.heap.size w V→Calls Tryz.prog 7 #[.int .i64 q,.slice a l.length cp] V (SpPost (spl1 d q l) (spl2 d q l) (askE d q l) V)):=fun V hV=>rsplit_any d q l _ V (Lies.keeps hV _ _ _ hl)
 have HV:Hid (∀(D:Nat) (L:List VT) V u v,Lies (D+1) V L u→Lies (D+1) V L v→Calls Tryz.prog 8 #[u,v] V fun e w'=>e=.returned (.bool true)∧Below V.heap.size V w'):=fun D L V u v h1 h2=>values_all D L u v V h1 h2
 clear hl
 generalize prtL d n l=PL at *
 generalize prtE d n l=PE at *
 generalize spl1 d q l=S1 at *
 generalize spl2 d q l=S2 at *
 generalize askE d q l=SE at *
 generalize l.length=N at *
 go_enter Tryz.func3,Tryz.ntmps3
 go_wp2_with fail
 refine Calls.mono H1.out ?_
 rintro e w1 ⟨v1,rfl,hL1,hb1⟩
 obtain⟨a1,c1,rfl,_⟩:=Lies.slice hL1
 have HL1:Hid (Lies 18 w1 PL (.slice a1 PL.length c1)):=hL1
 have H2c:=show Hid _ from H2.out w1 hb1
 clear H1 H2 hL1
 go_wp2_with fail
 refine Calls.mono H2c.out ?_
 rintro e w2 ⟨v2,rfl,hL2,hg2⟩
 obtain⟨a2,c2,rfl,_⟩:=Lies.slice hL2
 have hb2:Below w.heap.size w w2:=hb1.trans (hg2.mono hb1.size)
 have HL2:Hid (Lies 18 w2 PL (.slice a1 PL.length c1)∧Lies 18 w2 PL (.slice a2 PL.length c2)):=⟨Lies.keeps hg2 _ _ _ HL1.out,hL2⟩
 have H3c:=show Hid _ from H3.out w2 hb2
 clear H2c H3 hL2 HL1 hb1 hg2
 go_wp2_with fail
 refine Calls.mono H3c.out ?_
 rintro e w3 ⟨v3,v4,rfl,hL3,hL4,hg3⟩
 obtain⟨a3,c3,rfl,_⟩:=Lies.slice hL3
 obtain⟨a4,c4,rfl,_⟩:=Lies.slice hL4
 have hb3:Below w.heap.size w w3:=hb2.trans (hg3.mono hb2.size)
 have HL3:Hid ((Lies 18 w3 PL (.slice a1 PL.length c1)∧Lies 18 w3 PL (.slice a2 PL.length c2))∧Lies 17 w3 S1 (.slice a3 S1.length c3)∧Lies 17 w3 S2 (.slice a4 S2.length c4)):=⟨⟨Lies.keeps hg3 _ _ _ HL2.out.1,Lies.keeps hg3 _ _ _ HL2.out.2⟩,hL3,hL4⟩
 have H4c:=show Hid _ from H4.out w3 hb3
 clear H3c H4 hL3 hL4 HL2 hb2 hg3
 go_wp2_with fail
 refine Calls.mono H4c.out ?_
 rintro e w4 ⟨v5,v6,rfl,hL5,hL6,hg4⟩
 obtain⟨a5,c5,rfl,_⟩:=Lies.slice hL5
 obtain⟨a6,c6,rfl,_⟩:=Lies.slice hL6
 have hb4:Below w.heap.size w w4:=hb3.trans (hg4.mono hb3.size)
 have HVa:Hid (Calls Tryz.prog 8 #[.slice a1 PL.length c1,.slice a2 PL.length c2] w4 fun e w'=>e=.returned (.bool true)∧Below w4.heap.size w4 w'):=HV.out 17 PL w4 _ _ (Lies.keeps hg4 _ _ _ HL3.out.1.1) (Lies.keeps hg4 _ _ _ HL3.out.1.2)
 have HVb:Hid (∀V,Below w4.heap.size w4 V→Calls Tryz.prog 8 #[.slice a3 S1.length c3,.slice a5 S1.length c5] V fun e w'=>e=.returned (.bool true)∧Below V.heap.size V w'):=fun V hV=>HV.out 16 S1 V _ _ (Lies.keeps (hg4.trans (hV.mono hg4.size)) _ _ _ HL3.out.2.1) (Lies.keeps hV _ _ _ hL5)
 have HVc:Hid (∀V,Below w4.heap.size w4 V→Calls Tryz.prog 8 #[.slice a4 S2.length c4,.slice a6 S2.length c6] V fun e w'=>e=.returned (.bool true)∧Below V.heap.size V w'):=fun V hV=>HV.out 16 S2 V _ _ (Lies.keeps (hg4.trans (hV.mono hg4.size)) _ _ _ HL3.out.2.2) (Lies.keeps hV _ _ _ hL6)
 clear H4c hL5 hL6 HL3 hb3 hg4 HV
 generalize PL.length=N1 at *
 generalize S1.length=N2 at *
 generalize S2.length=N3 at *
 go_wp2_with fail
 refine Calls.mono HVa.out ?_
 rintro e w5 ⟨rfl,hg5⟩
 have HG5:Hid (Below w4.heap.size w4 w5):=hg5
 have HB4:Hid (Below w.heap.size w w4):=hb4
 have HVb5:=show Hid _ from HVb.out w5 hg5
 clear HVa HVb hg5 hb4
 go_wp2_with fail
 refine Calls.mono HVb5.out ?_
 rintro e w6 ⟨rfl,hg6⟩
 have HG6:Hid (Below w4.heap.size w4 w6):=HG5.out.trans (hg6.mono HG5.out.size)
 have HVc6:=show Hid _ from HVc.out w6 HG6.out
 clear HVb5 HVc hg6 HG5
 go_wp2_with fail
 refine Calls.mono HVc6.out ?_
 rintro e w7 ⟨rfl,hg7⟩
 have HG7:Hid (Below w4.heap.size w4 w7):=HG6.out.trans (hg7.mono HG6.out.size)
 have HSp7:=show Hid _ from HSp.out w7
 clear HVc6 hg7 HG6 HSp
 go_wp2_with fail
 refine Calls.mono HSp7.out ?_
 rintro e w8 ⟨rfl,hg8⟩
 have HF:Hid (Below w.heap.size w w8):=HB4.out.trans ((HG7.out.trans (hg8.mono HG7.out.size)).mono HB4.out.size)
 clear HSp7 hg8
 go_wp2_with fail
 go_ret
 exact⟨rfl,HF.out⟩
end Go.Proofs.YtokmolmpkkcbiaaGreat
