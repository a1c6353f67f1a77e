import Derived.Test.YtlnecfjnffdciaaGreatHungM
namespace Go.Proofs.YtlnecfjnffdciaaGreat
open Go.RowKit

set_option maxRecDepth 100000 in
set_option maxHeartbeats 16000000 in
theorem hungR_red (X : Nat → Prop) (d : Nat) (w : World) (o el er : RT PT) (x y ex : PT) (b : Nat) (pa pi q : Option Addr) (ku vu ku2 vu2 : Value) (S H K : Nat) (ec : Bool)
 (hn : NCells w b pa pi y ku2 vu2 true S H K)
 (hi : ∀ V, Below w.heap.size w V → Calls Tryz.prog 167 #[.pointer (pi), .agg #[.int .i64 x.1.kind, .int .i64 x.1.num, .string x.1.text, ku, .int .i64 x.2.kind, .int .i64 x.2.num, .string x.2.text, vu], .pointer q] V (TreePost X d (.node ec el ex er) V))
 (hd : ∀ V pe, Below w.heap.size w V → NM X d V (.node ec el ex er) pe → Calls Tryz.prog 135 #[.bool true, .pointer pa, .agg #[.int .i64 y.1.kind, .int .i64 y.1.num, .string y.1.text, ku2, .int .i64 y.2.kind, .int .i64 y.2.num, .string y.2.text, vu2], .pointer pe] V (TreePost X d (.node true o y (.node ec el ex er)) V)) :
 Calls Tryz.prog 167 #[.pointer (some ⟨b, 0, none⟩), .agg #[.int .i64 x.1.kind, .int .i64 x.1.num, .string x.1.text, ku, .int .i64 x.2.kind, .int .i64 x.2.num, .string x.2.text, vu], .pointer q] w (TreePost X d (.node true o y (.node ec el ex er)) w) := by
 have HR : Hid (∀ V, Below w.heap.size w V → Calls Tryz.prog 157 #[.pointer (some ⟨b, 0, none⟩)] V fun e w' => e = .returned (.bool true) ∧ w' = V) := fun V hV => isRed_node b true V (hn.keeps hV).red
 have HI : Hid _ := hi
 have HD : Hid _ := hd
 have HN : Hid (NCells w b pa pi y ku2 vu2 true S H K) := hn
 obtain ⟨c0, c1, c2, c3, c4, c5, c6, c7, c8, c9, c10, _, _, _⟩ := hn
 have hbl := cell_lt c0; simp only at hbl; have hbne : ¬ b = w.heap.size := by omega
 clear hi hd
 go_enter Tryz.func167, Tryz.ntmps167
 go_wp2_with fail
 refine (HR.out _ (by first | exact Below.refl _ _ | exact ((Grew.refl w).alloc _).below)).mono ?_
 rintro e w1 ⟨rfl, rfl⟩
 obtain ⟨W0, hW0⟩ : ∃ W0, W0 = w.alloc (.cells #[.int .i64 x.1.kind, .int .i64 x.1.num, .string x.1.text, ku, .int .i64 x.2.kind, .int .i64 x.2.num, .string x.2.text, vu] 69) := ⟨_, rfl⟩
 rw [← hW0]
 have hb0 : Below w.heap.size w W0 := by rw [hW0]; exact ((Grew.refl w).alloc _).below
 have x0 : W0.cell? ⟨w.heap.size, 0, none⟩ = some (.int .i64 x.1.kind) := by rw [hW0]; simp
 have x1 : W0.cell? ⟨w.heap.size, 1, none⟩ = some (.int .i64 x.1.num) := by rw [hW0]; simp
 have x2 : W0.cell? ⟨w.heap.size, 2, none⟩ = some (.string x.1.text) := by rw [hW0]; simp
 have x3 : W0.cell? ⟨w.heap.size, 3, none⟩ = some (ku) := by rw [hW0]; simp
 have x4 : W0.cell? ⟨w.heap.size, 4, none⟩ = some (.int .i64 x.2.kind) := by rw [hW0]; simp
 have x5 : W0.cell? ⟨w.heap.size, 5, none⟩ = some (.int .i64 x.2.num) := by rw [hW0]; simp
 have x6 : W0.cell? ⟨w.heap.size, 6, none⟩ = some (.string x.2.text) := by rw [hW0]; simp
 have x7 : W0.cell? ⟨w.heap.size, 7, none⟩ = some (vu) := by rw [hW0]; simp
 clear hW0 HR
 have c0 := cell_keeps hb0 c0; have c1 := cell_keeps hb0 c1; have c2 := cell_keeps hb0 c2; have c3 := cell_keeps hb0 c3; have c4 := cell_keeps hb0 c4; have c5 := cell_keeps hb0 c5; have c6 := cell_keeps hb0 c6; have c7 := cell_keeps hb0 c7; have c8 := cell_keeps hb0 c8; have c9 := cell_keeps hb0 c9; have c10 := cell_keeps hb0 c10
 have hb2 := hb0
 go_wp2_with fail
 go_region_held3 (fun w' => w'.cell? ⟨b, 1, none⟩ = some (.pointer pi) ∧ w'.cell? ⟨w.heap.size, 0, none⟩ = some (.int .i64 x.1.kind) ∧ w'.cell? ⟨w.heap.size, 1, none⟩ = some (.int .i64 x.1.num) ∧ w'.cell? ⟨w.heap.size, 2, none⟩ = some (.string x.1.text) ∧ w'.cell? ⟨w.heap.size, 3, none⟩ = some (ku) ∧ w'.cell? ⟨w.heap.size, 4, none⟩ = some (.int .i64 x.2.kind) ∧ w'.cell? ⟨w.heap.size, 5, none⟩ = some (.int .i64 x.2.num) ∧ w'.cell? ⟨w.heap.size, 6, none⟩ = some (.string x.2.text) ∧ w'.cell? ⟨w.heap.size, 7, none⟩ = some (vu)) (go_keep) (first | (go_at_call 167; refine (HI.out _ hb2.drew).mono ?_; rintro e w3 ⟨hg3, pe, rfl, ht⟩; have hb3 : Below w.heap.size w w3 := hb2.drew.trans (hg3.mono hb2.drew.size); have hg3 : Below W0.heap.size W0 w3 := (Below.refl _ _).drew.trans hg3; have c0 := cell_keeps hg3 c0; have c1 := cell_keeps hg3 c1; have c2 := cell_keeps hg3 c2; have c3 := cell_keeps hg3 c3; have c4 := cell_keeps hg3 c4; have c5 := cell_keeps hg3 c5; have c6 := cell_keeps hg3 c6; have c7 := cell_keeps hg3 c7; have c8 := cell_keeps hg3 c8; have c9 := cell_keeps hg3 c9; have c10 := cell_keeps hg3 c10; have x0 := cell_keeps hg3 x0; have x1 := cell_keeps hg3 x1; have x2 := cell_keeps hg3 x2; have x3 := cell_keeps hg3 x3; have x4 := cell_keeps hg3 x4; have x5 := cell_keeps hg3 x5; have x6 := cell_keeps hg3 x6; have x7 := cell_keeps hg3 x7; have HT : Hid (NM X d w3 (.node ec el ex er) pe) := ht; clear hg3 ht HI))
 have ht := HT.out
 obtain ⟨be, pel, per, ke, ve, rfl, hne3, hke, hve, htl, htr⟩ := ht
 obtain ⟨e0, e1, e2, e3, e4, e5, e6, e7, e8, e9, e10, _, _, _⟩ := hne3
 have HKE : Hid (LiesX X d w3 ex.1.items ke ∧ ex.1.text.size ≤ 9223372036854775807) := hke; have HVE : Hid (LiesX X d w3 ex.2.items ve ∧ ex.2.text.size ≤ 9223372036854775807) := hve; have HTL : Hid (NM X d w3 el pel) := htl; have HTR : Hid (NM X d w3 er per) := htr
 clear hke hve htl htr x0 x1 x2 x3 x4 x5 x6 x7
 go_wp2_with fail
 go_region_held3 (fun w' => w'.cell? ⟨b, 10, none⟩ = some (.bool true) ∧ w'.cell? ⟨b, 0, none⟩ = some (.pointer pa) ∧ w'.cell? ⟨b, 2, none⟩ = some (.int .i64 y.1.kind) ∧ w'.cell? ⟨b, 3, none⟩ = some (.int .i64 y.1.num) ∧ w'.cell? ⟨b, 4, none⟩ = some (.string y.1.text) ∧ w'.cell? ⟨b, 5, none⟩ = some (ku2) ∧ w'.cell? ⟨b, 6, none⟩ = some (.int .i64 y.2.kind) ∧ w'.cell? ⟨b, 7, none⟩ = some (.int .i64 y.2.num) ∧ w'.cell? ⟨b, 8, none⟩ = some (.string y.2.text) ∧ w'.cell? ⟨b, 9, none⟩ = some (vu2)) (go_keep) (first | (go_at_call 135; refine (HD.out _ _ hb3.drew (HT.out.keeps (Below.refl _ _).drew)).mono ?_; rintro e w5 ⟨hg5, p5, rfl, ht5⟩; have HE : Hid (TreePost X d (.node true o y (.node ec el ex er)) w (.returned (.pointer p5)) w5) := ⟨hb3.drew.trans (hg5.mono hb3.drew.size), p5, rfl, ht5⟩; have hg6 : Below w3.heap.size w3 w5 := (Below.refl _ _).drew.trans hg5; have c10 := cell_keeps hg6 c10; have c0 := cell_keeps hg6 c0; have c2 := cell_keeps hg6 c2; have c3 := cell_keeps hg6 c3; have c4 := cell_keeps hg6 c4; have c5 := cell_keeps hg6 c5; have c6 := cell_keeps hg6 c6; have c7 := cell_keeps hg6 c7; have c8 := cell_keeps hg6 c8; have c9 := cell_keeps hg6 c9; clear hg5 hg6 ht5 HD))
 all_goals (first | (go_ret; exact HE.out) | (go_wp2_with fail; go_ret; exact HE.out))

set_option maxRecDepth 100000 in
set_option maxHeartbeats 16000000 in
theorem hungR_A (X : Nat → Prop) (d : Nat) (w : World) (o el er : RT PT) (x y ex : PT) (b : Nat) (pa pi q : Option Addr) (ku vu ku2 vu2 : Value) (S H K : Nat)
 (hn : NCells w b pa pi y ku2 vu2 false S H K)
 (hi : ∀ V, Below w.heap.size w V → Calls Tryz.prog 167 #[.pointer (pi), .agg #[.int .i64 x.1.kind, .int .i64 x.1.num, .string x.1.text, ku, .int .i64 x.2.kind, .int .i64 x.2.num, .string x.2.text, vu], .pointer q] V (TreePost X d (.node false el ex er) V))
 (k1 k2 s1 s2 h1 h2 : Int) (hm1 : ∀ V, Below w.heap.size w V → Calls Tryz.prog 75 #[.pointer (some ⟨b, 0, none⟩)] V (MeasPost14 s1 h1 k1 V)) (hm2 : ∀ V, Below w.heap.size w V → Calls Tryz.prog 75 #[.pointer (q)] V (MeasPost14 s2 h2 k2 V)) (hne : ¬ k1 = k2)
 (hd : ∀ V pe, Below w.heap.size w V → NM X d V (.node false el ex er) pe → Calls Tryz.prog 135 #[.bool false, .pointer pa, .agg #[.int .i64 y.1.kind, .int .i64 y.1.num, .string y.1.text, ku2, .int .i64 y.2.kind, .int .i64 y.2.num, .string y.2.text, vu2], .pointer pe] V (TreePost X d (.node false o y (.node false el ex er)) V)) :
 Calls Tryz.prog 167 #[.pointer (some ⟨b, 0, none⟩), .agg #[.int .i64 x.1.kind, .int .i64 x.1.num, .string x.1.text, ku, .int .i64 x.2.kind, .int .i64 x.2.num, .string x.2.text, vu], .pointer q] w (TreePost X d (.node false o y (.node false el ex er)) w) := by
 have HR : Hid (∀ V, Below w.heap.size w V → Calls Tryz.prog 157 #[.pointer (some ⟨b, 0, none⟩)] V fun e w' => e = .returned (.bool false) ∧ w' = V) := fun V hV => isRed_node b false V (hn.keeps hV).red
 have HI : Hid _ := hi
 have HM1 : Hid _ := hm1; have HM2 : Hid _ := hm2
 have HD : Hid _ := hd
 have HN : Hid (NCells w b pa pi y ku2 vu2 false S H K) := hn
 obtain ⟨c0, c1, c2, c3, c4, c5, c6, c7, c8, c9, c10, _, _, _⟩ := hn
 have hbl := cell_lt c0; simp only at hbl; have hbne : ¬ b = w.heap.size := by omega
 clear hi hm1 hm2 hd
 go_enter Tryz.func167, Tryz.ntmps167
 go_wp2_with fail
 refine (HR.out _ (by first | exact Below.refl _ _ | exact ((Grew.refl w).alloc _).below)).mono ?_
 rintro e w1 ⟨rfl, rfl⟩
 obtain ⟨W0, hW0⟩ : ∃ W0, W0 = w.alloc (.cells #[.int .i64 x.1.kind, .int .i64 x.1.num, .string x.1.text, ku, .int .i64 x.2.kind, .int .i64 x.2.num, .string x.2.text, vu] 69) := ⟨_, rfl⟩
 rw [← hW0]
 have hb0 : Below w.heap.size w W0 := by rw [hW0]; exact ((Grew.refl w).alloc _).below
 have x0 : W0.cell? ⟨w.heap.size, 0, none⟩ = some (.int .i64 x.1.kind) := by rw [hW0]; simp
 have x1 : W0.cell? ⟨w.heap.size, 1, none⟩ = some (.int .i64 x.1.num) := by rw [hW0]; simp
 have x2 : W0.cell? ⟨w.heap.size, 2, none⟩ = some (.string x.1.text) := by rw [hW0]; simp
 have x3 : W0.cell? ⟨w.heap.size, 3, none⟩ = some (ku) := by rw [hW0]; simp
 have x4 : W0.cell? ⟨w.heap.size, 4, none⟩ = some (.int .i64 x.2.kind) := by rw [hW0]; simp
 have x5 : W0.cell? ⟨w.heap.size, 5, none⟩ = some (.int .i64 x.2.num) := by rw [hW0]; simp
 have x6 : W0.cell? ⟨w.heap.size, 6, none⟩ = some (.string x.2.text) := by rw [hW0]; simp
 have x7 : W0.cell? ⟨w.heap.size, 7, none⟩ = some (vu) := by rw [hW0]; simp
 clear hW0 HR
 have c0 := cell_keeps hb0 c0; have c1 := cell_keeps hb0 c1; have c2 := cell_keeps hb0 c2; have c3 := cell_keeps hb0 c3; have c4 := cell_keeps hb0 c4; have c5 := cell_keeps hb0 c5; have c6 := cell_keeps hb0 c6; have c7 := cell_keeps hb0 c7; have c8 := cell_keeps hb0 c8; have c9 := cell_keeps hb0 c9; have c10 := cell_keeps hb0 c10
 go_wp2_with fail
 refine (HM1.out _ hb0).mono ?_
 rintro e w1 ⟨hg1, rfl⟩
 have hb1 : Below w.heap.size w w1 := hb0.trans (hg1.mono hb0.size)
 have c0 := cell_keeps hg1 c0; have c1 := cell_keeps hg1 c1; have c2 := cell_keeps hg1 c2; have c3 := cell_keeps hg1 c3; have c4 := cell_keeps hg1 c4; have c5 := cell_keeps hg1 c5; have c6 := cell_keeps hg1 c6; have c7 := cell_keeps hg1 c7; have c8 := cell_keeps hg1 c8; have c9 := cell_keeps hg1 c9; have c10 := cell_keeps hg1 c10; have x0 := cell_keeps hg1 x0; have x1 := cell_keeps hg1 x1; have x2 := cell_keeps hg1 x2; have x3 := cell_keeps hg1 x3; have x4 := cell_keeps hg1 x4; have x5 := cell_keeps hg1 x5; have x6 := cell_keeps hg1 x6; have x7 := cell_keeps hg1 x7
 have hf1 : ∀ W : World, (Instr.field 106 (.agg #[.int .i64 s1, .int .i64 h1, .int .i64 k1]) 2).run Tryz.prog W = .ok (.int .i64 k1) W := fun W => field_blacks _ _ _ W
 have hf2 : ∀ W : World, (Instr.field 106 (.agg #[.int .i64 s2, .int .i64 h2, .int .i64 k2]) 2).run Tryz.prog W = .ok (.int .i64 k2) W := fun W => field_blacks _ _ _ W
 clear hg1 hb0
 go_wp2_with fail
 refine (HM2.out _ (by first | exact hb1 | exact hb1.alloc hb1.size _)).mono ?_
 rintro e w2 ⟨hg2, rfl⟩
 have hb2 : Below w.heap.size w w2 := by first | exact hb1.trans (hg2.mono hb1.size) | exact (hb1.alloc hb1.size _).trans (hg2.mono (hb1.alloc hb1.size _).size)
 have c0 := cell_keeps hg2 (by first | exact c0 | exact cell_keeps ((Grew.refl w1).alloc _).below c0)
 have c1 := cell_keeps hg2 (by first | exact c1 | exact cell_keeps ((Grew.refl w1).alloc _).below c1)
 have c2 := cell_keeps hg2 (by first | exact c2 | exact cell_keeps ((Grew.refl w1).alloc _).below c2)
 have c3 := cell_keeps hg2 (by first | exact c3 | exact cell_keeps ((Grew.refl w1).alloc _).below c3)
 have c4 := cell_keeps hg2 (by first | exact c4 | exact cell_keeps ((Grew.refl w1).alloc _).below c4)
 have c5 := cell_keeps hg2 (by first | exact c5 | exact cell_keeps ((Grew.refl w1).alloc _).below c5)
 have c6 := cell_keeps hg2 (by first | exact c6 | exact cell_keeps ((Grew.refl w1).alloc _).below c6)
 have c7 := cell_keeps hg2 (by first | exact c7 | exact cell_keeps ((Grew.refl w1).alloc _).below c7)
 have c8 := cell_keeps hg2 (by first | exact c8 | exact cell_keeps ((Grew.refl w1).alloc _).below c8)
 have c9 := cell_keeps hg2 (by first | exact c9 | exact cell_keeps ((Grew.refl w1).alloc _).below c9)
 have c10 := cell_keeps hg2 (by first | exact c10 | exact cell_keeps ((Grew.refl w1).alloc _).below c10)
 have x0 := cell_keeps hg2 (by first | exact x0 | exact cell_keeps ((Grew.refl w1).alloc _).below x0)
 have x1 := cell_keeps hg2 (by first | exact x1 | exact cell_keeps ((Grew.refl w1).alloc _).below x1)
 have x2 := cell_keeps hg2 (by first | exact x2 | exact cell_keeps ((Grew.refl w1).alloc _).below x2)
 have x3 := cell_keeps hg2 (by first | exact x3 | exact cell_keeps ((Grew.refl w1).alloc _).below x3)
 have x4 := cell_keeps hg2 (by first | exact x4 | exact cell_keeps ((Grew.refl w1).alloc _).below x4)
 have x5 := cell_keeps hg2 (by first | exact x5 | exact cell_keeps ((Grew.refl w1).alloc _).below x5)
 have x6 := cell_keeps hg2 (by first | exact x6 | exact cell_keeps ((Grew.refl w1).alloc _).below x6)
 have x7 := cell_keeps hg2 (by first | exact x7 | exact cell_keeps ((Grew.refl w1).alloc _).below x7)
 clear hg2 hb1 HM1 HM2
 go_wp2_with fail
 go_region_held3 (fun w' => w'.cell? ⟨b, 1, none⟩ = some (.pointer pi) ∧ w'.cell? ⟨w.heap.size, 0, none⟩ = some (.int .i64 x.1.kind) ∧ w'.cell? ⟨w.heap.size, 1, none⟩ = some (.int .i64 x.1.num) ∧ w'.cell? ⟨w.heap.size, 2, none⟩ = some (.string x.1.text) ∧ w'.cell? ⟨w.heap.size, 3, none⟩ = some (ku) ∧ w'.cell? ⟨w.heap.size, 4, none⟩ = some (.int .i64 x.2.kind) ∧ w'.cell? ⟨w.heap.size, 5, none⟩ = some (.int .i64 x.2.num) ∧ w'.cell? ⟨w.heap.size, 6, none⟩ = some (.string x.2.text) ∧ w'.cell? ⟨w.heap.size, 7, none⟩ = some (vu)) (go_keep) (first | (go_at_call 167; refine (HI.out _ hb2.drew).mono ?_; rintro e w3 ⟨hg3, pe, rfl, ht⟩; have hb3 : Below w.heap.size w w3 := hb2.drew.trans (hg3.mono hb2.drew.size); have hg3 : Below w2.heap.size w2 w3 := (Below.refl _ _).drew.trans hg3; have c0 := cell_keeps hg3 c0; have c1 := cell_keeps hg3 c1; have c2 := cell_keeps hg3 c2; have c3 := cell_keeps hg3 c3; have c4 := cell_keeps hg3 c4; have c5 := cell_keeps hg3 c5; have c6 := cell_keeps hg3 c6; have c7 := cell_keeps hg3 c7; have c8 := cell_keeps hg3 c8; have c9 := cell_keeps hg3 c9; have c10 := cell_keeps hg3 c10; have x0 := cell_keeps hg3 x0; have x1 := cell_keeps hg3 x1; have x2 := cell_keeps hg3 x2; have x3 := cell_keeps hg3 x3; have x4 := cell_keeps hg3 x4; have x5 := cell_keeps hg3 x5; have x6 := cell_keeps hg3 x6; have x7 := cell_keeps hg3 x7; have HT : Hid (NM X d w3 (.node false el ex er) pe) := ht; clear hg3 ht HI))
 have ht := HT.out
 obtain ⟨be, pel, per, ke, ve, rfl, hne3, hke, hve, htl, htr⟩ := ht
 obtain ⟨e0, e1, e2, e3, e4, e5, e6, e7, e8, e9, e10, _, _, _⟩ := hne3
 have HKE : Hid (LiesX X d w3 ex.1.items ke ∧ ex.1.text.size ≤ 9223372036854775807) := hke; have HVE : Hid (LiesX X d w3 ex.2.items ve ∧ ex.2.text.size ≤ 9223372036854775807) := hve; have HTL : Hid (NM X d w3 el pel) := htl; have HTR : Hid (NM X d w3 er per) := htr
 clear hke hve htl htr x0 x1 x2 x3 x4 x5 x6 x7
 go_wp2_with fail
 go_region_held3 (fun w' => w'.cell? ⟨b, 10, none⟩ = some (.bool false) ∧ w'.cell? ⟨b, 0, none⟩ = some (.pointer pa) ∧ w'.cell? ⟨b, 2, none⟩ = some (.int .i64 y.1.kind) ∧ w'.cell? ⟨b, 3, none⟩ = some (.int .i64 y.1.num) ∧ w'.cell? ⟨b, 4, none⟩ = some (.string y.1.text) ∧ w'.cell? ⟨b, 5, none⟩ = some (ku2) ∧ w'.cell? ⟨b, 6, none⟩ = some (.int .i64 y.2.kind) ∧ w'.cell? ⟨b, 7, none⟩ = some (.int .i64 y.2.num) ∧ w'.cell? ⟨b, 8, none⟩ = some (.string y.2.text) ∧ w'.cell? ⟨b, 9, none⟩ = some (vu2)) (go_keep) (first | (go_at_call 135; refine (HD.out _ _ hb3.drew (HT.out.keeps (Below.refl _ _).drew)).mono ?_; rintro e w5 ⟨hg5, p5, rfl, ht5⟩; have HE : Hid (TreePost X d (.node false o y (.node false el ex er)) w (.returned (.pointer p5)) w5) := ⟨hb3.drew.trans (hg5.mono hb3.drew.size), p5, rfl, ht5⟩; have hg6 : Below w3.heap.size w3 w5 := (Below.refl _ _).drew.trans hg5; have c10 := cell_keeps hg6 c10; have c0 := cell_keeps hg6 c0; have c2 := cell_keeps hg6 c2; have c3 := cell_keeps hg6 c3; have c4 := cell_keeps hg6 c4; have c5 := cell_keeps hg6 c5; have c6 := cell_keeps hg6 c6; have c7 := cell_keeps hg6 c7; have c8 := cell_keeps hg6 c8; have c9 := cell_keeps hg6 c9; clear hg5 hg6 ht5 HD))
 all_goals (first | (go_ret; exact HE.out) | (go_wp2_with fail; go_ret; exact HE.out))

set_option maxRecDepth 100000 in
set_option maxHeartbeats 16000000 in
theorem hungR_B (X : Nat → Prop) (d : Nat) (w : World) (o el er : RT PT) (x y ex : PT) (b : Nat) (pa pi q : Option Addr) (ku vu ku2 vu2 : Value) (S H K : Nat)
 (hn : NCells w b pa pi y ku2 vu2 false S H K)
 (hi : ∀ V, Below w.heap.size w V → Calls Tryz.prog 167 #[.pointer (pi), .agg #[.int .i64 x.1.kind, .int .i64 x.1.num, .string x.1.text, ku, .int .i64 x.2.kind, .int .i64 x.2.num, .string x.2.text, vu], .pointer q] V (TreePost X d (.node true el ex er) V))
 (k1 k2 s1 s2 h1 h2 : Int) (hm1 : ∀ V, Below w.heap.size w V → Calls Tryz.prog 75 #[.pointer (some ⟨b, 0, none⟩)] V (MeasPost14 s1 h1 k1 V)) (hm2 : ∀ V, Below w.heap.size w V → Calls Tryz.prog 75 #[.pointer (q)] V (MeasPost14 s2 h2 k2 V)) (hne : ¬ k1 = k2)
 (hd : ∀ V pe, Below w.heap.size w V → NM X d V (.node true el ex er) pe → Calls Tryz.prog 135 #[.bool false, .pointer pa, .agg #[.int .i64 y.1.kind, .int .i64 y.1.num, .string y.1.text, ku2, .int .i64 y.2.kind, .int .i64 y.2.num, .string y.2.text, vu2], .pointer pe] V (TreePost X d (.node false o y (.node true el ex er)) V))
 (hrd : ∀ V p, NM X d V er p → Calls Tryz.prog 157 #[.pointer p] V fun e w' => e = .returned (.bool false) ∧ w' = V) :
 Calls Tryz.prog 167 #[.pointer (some ⟨b, 0, none⟩), .agg #[.int .i64 x.1.kind, .int .i64 x.1.num, .string x.1.text, ku, .int .i64 x.2.kind, .int .i64 x.2.num, .string x.2.text, vu], .pointer q] w (TreePost X d (.node false o y (.node true el ex er)) w) := by
 have HR : Hid (∀ V, Below w.heap.size w V → Calls Tryz.prog 157 #[.pointer (some ⟨b, 0, none⟩)] V fun e w' => e = .returned (.bool false) ∧ w' = V) := fun V hV => isRed_node b false V (hn.keeps hV).red
 have HI : Hid _ := hi
 have HM1 : Hid _ := hm1; have HM2 : Hid _ := hm2
 have HD : Hid _ := hd
 have HRd : Hid _ := hrd
 have HN : Hid (NCells w b pa pi y ku2 vu2 false S H K) := hn
 obtain ⟨c0, c1, c2, c3, c4, c5, c6, c7, c8, c9, c10, _, _, _⟩ := hn
 have hbl := cell_lt c0; simp only at hbl; have hbne : ¬ b = w.heap.size := by omega
 clear hi hm1 hm2 hd hrd
 go_enter Tryz.func167, Tryz.ntmps167
 go_wp2_with fail
 refine (HR.out _ (by first | exact Below.refl _ _ | exact ((Grew.refl w).alloc _).below)).mono ?_
 rintro e w1 ⟨rfl, rfl⟩
 obtain ⟨W0, hW0⟩ : ∃ W0, W0 = w.alloc (.cells #[.int .i64 x.1.kind, .int .i64 x.1.num, .string x.1.text, ku, .int .i64 x.2.kind, .int .i64 x.2.num, .string x.2.text, vu] 69) := ⟨_, rfl⟩
 rw [← hW0]
 have hb0 : Below w.heap.size w W0 := by rw [hW0]; exact ((Grew.refl w).alloc _).below
 have x0 : W0.cell? ⟨w.heap.size, 0, none⟩ = some (.int .i64 x.1.kind) := by rw [hW0]; simp
 have x1 : W0.cell? ⟨w.heap.size, 1, none⟩ = some (.int .i64 x.1.num) := by rw [hW0]; simp
 have x2 : W0.cell? ⟨w.heap.size, 2, none⟩ = some (.string x.1.text) := by rw [hW0]; simp
 have x3 : W0.cell? ⟨w.heap.size, 3, none⟩ = some (ku) := by rw [hW0]; simp
 have x4 : W0.cell? ⟨w.heap.size, 4, none⟩ = some (.int .i64 x.2.kind) := by rw [hW0]; simp
 have x5 : W0.cell? ⟨w.heap.size, 5, none⟩ = some (.int .i64 x.2.num) := by rw [hW0]; simp
 have x6 : W0.cell? ⟨w.heap.size, 6, none⟩ = some (.string x.2.text) := by rw [hW0]; simp
 have x7 : W0.cell? ⟨w.heap.size, 7, none⟩ = some (vu) := by rw [hW0]; simp
 clear hW0 HR
 have c0 := cell_keeps hb0 c0; have c1 := cell_keeps hb0 c1; have c2 := cell_keeps hb0 c2; have c3 := cell_keeps hb0 c3; have c4 := cell_keeps hb0 c4; have c5 := cell_keeps hb0 c5; have c6 := cell_keeps hb0 c6; have c7 := cell_keeps hb0 c7; have c8 := cell_keeps hb0 c8; have c9 := cell_keeps hb0 c9; have c10 := cell_keeps hb0 c10
 go_wp2_with fail
 refine (HM1.out _ hb0).mono ?_
 rintro e w1 ⟨hg1, rfl⟩
 have hb1 : Below w.heap.size w w1 := hb0.trans (hg1.mono hb0.size)
 have c0 := cell_keeps hg1 c0; have c1 := cell_keeps hg1 c1; have c2 := cell_keeps hg1 c2; have c3 := cell_keeps hg1 c3; have c4 := cell_keeps hg1 c4; have c5 := cell_keeps hg1 c5; have c6 := cell_keeps hg1 c6; have c7 := cell_keeps hg1 c7; have c8 := cell_keeps hg1 c8; have c9 := cell_keeps hg1 c9; have c10 := cell_keeps hg1 c10; have x0 := cell_keeps hg1 x0; have x1 := cell_keeps hg1 x1; have x2 := cell_keeps hg1 x2; have x3 := cell_keeps hg1 x3; have x4 := cell_keeps hg1 x4; have x5 := cell_keeps hg1 x5; have x6 := cell_keeps hg1 x6; have x7 := cell_keeps hg1 x7
 have hf1 : ∀ W : World, (Instr.field 106 (.agg #[.int .i64 s1, .int .i64 h1, .int .i64 k1]) 2).run Tryz.prog W = .ok (.int .i64 k1) W := fun W => field_blacks _ _ _ W
 have hf2 : ∀ W : World, (Instr.field 106 (.agg #[.int .i64 s2, .int .i64 h2, .int .i64 k2]) 2).run Tryz.prog W = .ok (.int .i64 k2) W := fun W => field_blacks _ _ _ W
 clear hg1 hb0
 go_wp2_with fail
 refine (HM2.out _ (by first | exact hb1 | exact hb1.alloc hb1.size _)).mono ?_
 rintro e w2 ⟨hg2, rfl⟩
 have hb2 : Below w.heap.size w w2 := by first | exact hb1.trans (hg2.mono hb1.size) | exact (hb1.alloc hb1.size _).trans (hg2.mono (hb1.alloc hb1.size _).size)
 have c0 := cell_keeps hg2 (by first | exact c0 | exact cell_keeps ((Grew.refl w1).alloc _).below c0)
 have c1 := cell_keeps hg2 (by first | exact c1 | exact cell_keeps ((Grew.refl w1).alloc _).below c1)
 have c2 := cell_keeps hg2 (by first | exact c2 | exact cell_keeps ((Grew.refl w1).alloc _).below c2)
 have c3 := cell_keeps hg2 (by first | exact c3 | exact cell_keeps ((Grew.refl w1).alloc _).below c3)
 have c4 := cell_keeps hg2 (by first | exact c4 | exact cell_keeps ((Grew.refl w1).alloc _).below c4)
 have c5 := cell_keeps hg2 (by first | exact c5 | exact cell_keeps ((Grew.refl w1).alloc _).below c5)
 have c6 := cell_keeps hg2 (by first | exact c6 | exact cell_keeps ((Grew.refl w1).alloc _).below c6)
 have c7 := cell_keeps hg2 (by first | exact c7 | exact cell_keeps ((Grew.refl w1).alloc _).below c7)
 have c8 := cell_keeps hg2 (by first | exact c8 | exact cell_keeps ((Grew.refl w1).alloc _).below c8)
 have c9 := cell_keeps hg2 (by first | exact c9 | exact cell_keeps ((Grew.refl w1).alloc _).below c9)
 have c10 := cell_keeps hg2 (by first | exact c10 | exact cell_keeps ((Grew.refl w1).alloc _).below c10)
 have x0 := cell_keeps hg2 (by first | exact x0 | exact cell_keeps ((Grew.refl w1).alloc _).below x0)
 have x1 := cell_keeps hg2 (by first | exact x1 | exact cell_keeps ((Grew.refl w1).alloc _).below x1)
 have x2 := cell_keeps hg2 (by first | exact x2 | exact cell_keeps ((Grew.refl w1).alloc _).below x2)
 have x3 := cell_keeps hg2 (by first | exact x3 | exact cell_keeps ((Grew.refl w1).alloc _).below x3)
 have x4 := cell_keeps hg2 (by first | exact x4 | exact cell_keeps ((Grew.refl w1).alloc _).below x4)
 have x5 := cell_keeps hg2 (by first | exact x5 | exact cell_keeps ((Grew.refl w1).alloc _).below x5)
 have x6 := cell_keeps hg2 (by first | exact x6 | exact cell_keeps ((Grew.refl w1).alloc _).below x6)
 have x7 := cell_keeps hg2 (by first | exact x7 | exact cell_keeps ((Grew.refl w1).alloc _).below x7)
 clear hg2 hb1 HM1 HM2
 go_wp2_with fail
 go_region_held3 (fun w' => w'.cell? ⟨b, 1, none⟩ = some (.pointer pi) ∧ w'.cell? ⟨w.heap.size, 0, none⟩ = some (.int .i64 x.1.kind) ∧ w'.cell? ⟨w.heap.size, 1, none⟩ = some (.int .i64 x.1.num) ∧ w'.cell? ⟨w.heap.size, 2, none⟩ = some (.string x.1.text) ∧ w'.cell? ⟨w.heap.size, 3, none⟩ = some (ku) ∧ w'.cell? ⟨w.heap.size, 4, none⟩ = some (.int .i64 x.2.kind) ∧ w'.cell? ⟨w.heap.size, 5, none⟩ = some (.int .i64 x.2.num) ∧ w'.cell? ⟨w.heap.size, 6, none⟩ = some (.string x.2.text) ∧ w'.cell? ⟨w.heap.size, 7, none⟩ = some (vu)) (go_keep) (first | (go_at_call 167; refine (HI.out _ hb2.drew).mono ?_; rintro e w3 ⟨hg3, pe, rfl, ht⟩; have hb3 : Below w.heap.size w w3 := hb2.drew.trans (hg3.mono hb2.drew.size); have hg3 : Below w2.heap.size w2 w3 := (Below.refl _ _).drew.trans hg3; have c0 := cell_keeps hg3 c0; have c1 := cell_keeps hg3 c1; have c2 := cell_keeps hg3 c2; have c3 := cell_keeps hg3 c3; have c4 := cell_keeps hg3 c4; have c5 := cell_keeps hg3 c5; have c6 := cell_keeps hg3 c6; have c7 := cell_keeps hg3 c7; have c8 := cell_keeps hg3 c8; have c9 := cell_keeps hg3 c9; have c10 := cell_keeps hg3 c10; have x0 := cell_keeps hg3 x0; have x1 := cell_keeps hg3 x1; have x2 := cell_keeps hg3 x2; have x3 := cell_keeps hg3 x3; have x4 := cell_keeps hg3 x4; have x5 := cell_keeps hg3 x5; have x6 := cell_keeps hg3 x6; have x7 := cell_keeps hg3 x7; have HT : Hid (NM X d w3 (.node true el ex er) pe) := ht; clear hg3 ht HI))
 have ht := HT.out
 obtain ⟨be, pel, per, ke, ve, rfl, hne3, hke, hve, htl, htr⟩ := ht
 obtain ⟨e0, e1, e2, e3, e4, e5, e6, e7, e8, e9, e10, _, _, _⟩ := hne3
 have HKE : Hid (LiesX X d w3 ex.1.items ke ∧ ex.1.text.size ≤ 9223372036854775807) := hke; have HVE : Hid (LiesX X d w3 ex.2.items ve ∧ ex.2.text.size ≤ 9223372036854775807) := hve; have HTL : Hid (NM X d w3 el pel) := htl; have HTR : Hid (NM X d w3 er per) := htr
 clear hke hve htl htr x0 x1 x2 x3 x4 x5 x6 x7
 go_wp2_with fail
 refine (HRd.out _ _ HTR.out).mono ?_
 rintro e w4 ⟨rfl, rfl⟩
 go_wp2_with fail
 go_region_held3 (fun w' => w'.cell? ⟨b, 10, none⟩ = some (.bool false) ∧ w'.cell? ⟨b, 0, none⟩ = some (.pointer pa) ∧ w'.cell? ⟨b, 2, none⟩ = some (.int .i64 y.1.kind) ∧ w'.cell? ⟨b, 3, none⟩ = some (.int .i64 y.1.num) ∧ w'.cell? ⟨b, 4, none⟩ = some (.string y.1.text) ∧ w'.cell? ⟨b, 5, none⟩ = some (ku2) ∧ w'.cell? ⟨b, 6, none⟩ = some (.int .i64 y.2.kind) ∧ w'.cell? ⟨b, 7, none⟩ = some (.int .i64 y.2.num) ∧ w'.cell? ⟨b, 8, none⟩ = some (.string y.2.text) ∧ w'.cell? ⟨b, 9, none⟩ = some (vu2)) (go_keep) (first | (go_at_call 135; refine (HD.out _ _ hb3.drew (HT.out.keeps (Below.refl _ _).drew)).mono ?_; rintro e w5 ⟨hg5, p5, rfl, ht5⟩; have HE : Hid (TreePost X d (.node false o y (.node true el ex er)) w (.returned (.pointer p5)) w5) := ⟨hb3.drew.trans (hg5.mono hb3.drew.size), p5, rfl, ht5⟩; have hg6 : Below w4.heap.size w4 w5 := (Below.refl _ _).drew.trans hg5; have c10 := cell_keeps hg6 c10; have c0 := cell_keeps hg6 c0; have c2 := cell_keeps hg6 c2; have c3 := cell_keeps hg6 c3; have c4 := cell_keeps hg6 c4; have c5 := cell_keeps hg6 c5; have c6 := cell_keeps hg6 c6; have c7 := cell_keeps hg6 c7; have c8 := cell_keeps hg6 c8; have c9 := cell_keeps hg6 c9; clear hg5 hg6 ht5 HD))
 all_goals (first | (go_ret; exact HE.out) | (go_wp2_with fail; go_ret; exact HE.out))

set_option maxRecDepth 100000 in
set_option maxHeartbeats 16000000 in
theorem hungR_C (X : Nat → Prop) (d : Nat) (w : World) (o el er : RT PT) (x y ex : PT) (b : Nat) (pa pi q : Option Addr) (ku vu ku2 vu2 : Value) (S H K : Nat)
 (hn : NCells w b pa pi y ku2 vu2 false S H K)
 (hi : ∀ V, Below w.heap.size w V → Calls Tryz.prog 167 #[.pointer (pi), .agg #[.int .i64 x.1.kind, .int .i64 x.1.num, .string x.1.text, ku, .int .i64 x.2.kind, .int .i64 x.2.num, .string x.2.text, vu], .pointer q] V (TreePost X d (.node true el ex er) V))
 (k1 k2 s1 s2 h1 h2 : Int) (hm1 : ∀ V, Below w.heap.size w V → Calls Tryz.prog 75 #[.pointer (some ⟨b, 0, none⟩)] V (MeasPost14 s1 h1 k1 V)) (hm2 : ∀ V, Below w.heap.size w V → Calls Tryz.prog 75 #[.pointer (q)] V (MeasPost14 s2 h2 k2 V)) (hne : ¬ k1 = k2)
 (hrd : ∀ V p, NM X d V er p → Calls Tryz.prog 157 #[.pointer p] V fun e w' => e = .returned (.bool true) ∧ w' = V)
 (hin : ∀ V p, Below w.heap.size w V → NM X d V el p → Calls Tryz.prog 135 #[.bool false, .pointer pa, .agg #[.int .i64 y.1.kind, .int .i64 y.1.num, .string y.1.text, ku2, .int .i64 y.2.kind, .int .i64 y.2.num, .string y.2.text, vu2], .pointer p] V (TreePost X d (.node false o y el) V))
 (hbl : ∀ V p, NM X d V er p → Calls Tryz.prog 112 #[.pointer p] V (TreePost X d er.black V))
 (hout : ∀ V p1 p2 k3 v3, NM X d V (.node false o y el) p1 → NM X d V er.black p2 → (LiesX X d V ex.1.items k3 ∧ ex.1.text.size ≤ 9223372036854775807) → (LiesX X d V ex.2.items v3 ∧ ex.2.text.size ≤ 9223372036854775807) → Calls Tryz.prog 135 #[.bool true, .pointer p1, .agg #[.int .i64 ex.1.kind, .int .i64 ex.1.num, .string ex.1.text, k3, .int .i64 ex.2.kind, .int .i64 ex.2.num, .string ex.2.text, v3], .pointer p2] V (TreePost X d (.node true (.node false o y el) ex er.black) V)) :
 Calls Tryz.prog 167 #[.pointer (some ⟨b, 0, none⟩), .agg #[.int .i64 x.1.kind, .int .i64 x.1.num, .string x.1.text, ku, .int .i64 x.2.kind, .int .i64 x.2.num, .string x.2.text, vu], .pointer q] w (TreePost X d (.node true (.node false o y el) ex er.black) w) := by
 have HR : Hid (∀ V, Below w.heap.size w V → Calls Tryz.prog 157 #[.pointer (some ⟨b, 0, none⟩)] V fun e w' => e = .returned (.bool false) ∧ w' = V) := fun V hV => isRed_node b false V (hn.keeps hV).red
 have HI : Hid _ := hi
 have HM1 : Hid _ := hm1; have HM2 : Hid _ := hm2
 have HRd : Hid _ := hrd
 have HIn : Hid _ := hin; have HBl : Hid _ := hbl; have HOut : Hid _ := hout
 have HN : Hid (NCells w b pa pi y ku2 vu2 false S H K) := hn
 obtain ⟨c0, c1, c2, c3, c4, c5, c6, c7, c8, c9, c10, _, _, _⟩ := hn
 have hbl := cell_lt c0; simp only at hbl; have hbne : ¬ b = w.heap.size := by omega
 clear hi hm1 hm2 hrd hin  hout
 go_enter Tryz.func167, Tryz.ntmps167
 go_wp2_with fail
 refine (HR.out _ (by first | exact Below.refl _ _ | exact ((Grew.refl w).alloc _).below)).mono ?_
 rintro e w1 ⟨rfl, rfl⟩
 obtain ⟨W0, hW0⟩ : ∃ W0, W0 = w.alloc (.cells #[.int .i64 x.1.kind, .int .i64 x.1.num, .string x.1.text, ku, .int .i64 x.2.kind, .int .i64 x.2.num, .string x.2.text, vu] 69) := ⟨_, rfl⟩
 rw [← hW0]
 have hb0 : Below w.heap.size w W0 := by rw [hW0]; exact ((Grew.refl w).alloc _).below
 have x0 : W0.cell? ⟨w.heap.size, 0, none⟩ = some (.int .i64 x.1.kind) := by rw [hW0]; simp
 have x1 : W0.cell? ⟨w.heap.size, 1, none⟩ = some (.int .i64 x.1.num) := by rw [hW0]; simp
 have x2 : W0.cell? ⟨w.heap.size, 2, none⟩ = some (.string x.1.text) := by rw [hW0]; simp
 have x3 : W0.cell? ⟨w.heap.size, 3, none⟩ = some (ku) := by rw [hW0]; simp
 have x4 : W0.cell? ⟨w.heap.size, 4, none⟩ = some (.int .i64 x.2.kind) := by rw [hW0]; simp
 have x5 : W0.cell? ⟨w.heap.size, 5, none⟩ = some (.int .i64 x.2.num) := by rw [hW0]; simp
 have x6 : W0.cell? ⟨w.heap.size, 6, none⟩ = some (.string x.2.text) := by rw [hW0]; simp
 have x7 : W0.cell? ⟨w.heap.size, 7, none⟩ = some (vu) := by rw [hW0]; simp
 clear hW0 HR
 have c0 := cell_keeps hb0 c0; have c1 := cell_keeps hb0 c1; have c2 := cell_keeps hb0 c2; have c3 := cell_keeps hb0 c3; have c4 := cell_keeps hb0 c4; have c5 := cell_keeps hb0 c5; have c6 := cell_keeps hb0 c6; have c7 := cell_keeps hb0 c7; have c8 := cell_keeps hb0 c8; have c9 := cell_keeps hb0 c9; have c10 := cell_keeps hb0 c10
 go_wp2_with fail
 refine (HM1.out _ hb0).mono ?_
 rintro e w1 ⟨hg1, rfl⟩
 have hb1 : Below w.heap.size w w1 := hb0.trans (hg1.mono hb0.size)
 have c0 := cell_keeps hg1 c0; have c1 := cell_keeps hg1 c1; have c2 := cell_keeps hg1 c2; have c3 := cell_keeps hg1 c3; have c4 := cell_keeps hg1 c4; have c5 := cell_keeps hg1 c5; have c6 := cell_keeps hg1 c6; have c7 := cell_keeps hg1 c7; have c8 := cell_keeps hg1 c8; have c9 := cell_keeps hg1 c9; have c10 := cell_keeps hg1 c10; have x0 := cell_keeps hg1 x0; have x1 := cell_keeps hg1 x1; have x2 := cell_keeps hg1 x2; have x3 := cell_keeps hg1 x3; have x4 := cell_keeps hg1 x4; have x5 := cell_keeps hg1 x5; have x6 := cell_keeps hg1 x6; have x7 := cell_keeps hg1 x7
 have hf1 : ∀ W : World, (Instr.field 106 (.agg #[.int .i64 s1, .int .i64 h1, .int .i64 k1]) 2).run Tryz.prog W = .ok (.int .i64 k1) W := fun W => field_blacks _ _ _ W
 have hf2 : ∀ W : World, (Instr.field 106 (.agg #[.int .i64 s2, .int .i64 h2, .int .i64 k2]) 2).run Tryz.prog W = .ok (.int .i64 k2) W := fun W => field_blacks _ _ _ W
 clear hg1 hb0
 go_wp2_with fail
 refine (HM2.out _ (by first | exact hb1 | exact hb1.alloc hb1.size _)).mono ?_
 rintro e w2 ⟨hg2, rfl⟩
 have hb2 : Below w.heap.size w w2 := by first | exact hb1.trans (hg2.mono hb1.size) | exact (hb1.alloc hb1.size _).trans (hg2.mono (hb1.alloc hb1.size _).size)
 have c0 := cell_keeps hg2 (by first | exact c0 | exact cell_keeps ((Grew.refl w1).alloc _).below c0)
 have c1 := cell_keeps hg2 (by first | exact c1 | exact cell_keeps ((Grew.refl w1).alloc _).below c1)
 have c2 := cell_keeps hg2 (by first | exact c2 | exact cell_keeps ((Grew.refl w1).alloc _).below c2)
 have c3 := cell_keeps hg2 (by first | exact c3 | exact cell_keeps ((Grew.refl w1).alloc _).below c3)
 have c4 := cell_keeps hg2 (by first | exact c4 | exact cell_keeps ((Grew.refl w1).alloc _).below c4)
 have c5 := cell_keeps hg2 (by first | exact c5 | exact cell_keeps ((Grew.refl w1).alloc _).below c5)
 have c6 := cell_keeps hg2 (by first | exact c6 | exact cell_keeps ((Grew.refl w1).alloc _).below c6)
 have c7 := cell_keeps hg2 (by first | exact c7 | exact cell_keeps ((Grew.refl w1).alloc _).below c7)
 have c8 := cell_keeps hg2 (by first | exact c8 | exact cell_keeps ((Grew.refl w1).alloc _).below c8)
 have c9 := cell_keeps hg2 (by first | exact c9 | exact cell_keeps ((Grew.refl w1).alloc _).below c9)
 have c10 := cell_keeps hg2 (by first | exact c10 | exact cell_keeps ((Grew.refl w1).alloc _).below c10)
 have x0 := cell_keeps hg2 (by first | exact x0 | exact cell_keeps ((Grew.refl w1).alloc _).below x0)
 have x1 := cell_keeps hg2 (by first | exact x1 | exact cell_keeps ((Grew.refl w1).alloc _).below x1)
 have x2 := cell_keeps hg2 (by first | exact x2 | exact cell_keeps ((Grew.refl w1).alloc _).below x2)
 have x3 := cell_keeps hg2 (by first | exact x3 | exact cell_keeps ((Grew.refl w1).alloc _).below x3)
 have x4 := cell_keeps hg2 (by first | exact x4 | exact cell_keeps ((Grew.refl w1).alloc _).below x4)
 have x5 := cell_keeps hg2 (by first | exact x5 | exact cell_keeps ((Grew.refl w1).alloc _).below x5)
 have x6 := cell_keeps hg2 (by first | exact x6 | exact cell_keeps ((Grew.refl w1).alloc _).below x6)
 have x7 := cell_keeps hg2 (by first | exact x7 | exact cell_keeps ((Grew.refl w1).alloc _).below x7)
 clear hg2 hb1 HM1 HM2
 go_wp2_with fail
 go_region_held3 (fun w' => w'.cell? ⟨b, 1, none⟩ = some (.pointer pi) ∧ w'.cell? ⟨w.heap.size, 0, none⟩ = some (.int .i64 x.1.kind) ∧ w'.cell? ⟨w.heap.size, 1, none⟩ = some (.int .i64 x.1.num) ∧ w'.cell? ⟨w.heap.size, 2, none⟩ = some (.string x.1.text) ∧ w'.cell? ⟨w.heap.size, 3, none⟩ = some (ku) ∧ w'.cell? ⟨w.heap.size, 4, none⟩ = some (.int .i64 x.2.kind) ∧ w'.cell? ⟨w.heap.size, 5, none⟩ = some (.int .i64 x.2.num) ∧ w'.cell? ⟨w.heap.size, 6, none⟩ = some (.string x.2.text) ∧ w'.cell? ⟨w.heap.size, 7, none⟩ = some (vu)) (go_keep) (first | (go_at_call 167; refine (HI.out _ hb2.drew).mono ?_; rintro e w3 ⟨hg3, pe, rfl, ht⟩; have hb3 : Below w.heap.size w w3 := hb2.drew.trans (hg3.mono hb2.drew.size); have hg3 : Below w2.heap.size w2 w3 := (Below.refl _ _).drew.trans hg3; have c0 := cell_keeps hg3 c0; have c1 := cell_keeps hg3 c1; have c2 := cell_keeps hg3 c2; have c3 := cell_keeps hg3 c3; have c4 := cell_keeps hg3 c4; have c5 := cell_keeps hg3 c5; have c6 := cell_keeps hg3 c6; have c7 := cell_keeps hg3 c7; have c8 := cell_keeps hg3 c8; have c9 := cell_keeps hg3 c9; have c10 := cell_keeps hg3 c10; have x0 := cell_keeps hg3 x0; have x1 := cell_keeps hg3 x1; have x2 := cell_keeps hg3 x2; have x3 := cell_keeps hg3 x3; have x4 := cell_keeps hg3 x4; have x5 := cell_keeps hg3 x5; have x6 := cell_keeps hg3 x6; have x7 := cell_keeps hg3 x7; have HT : Hid (NM X d w3 (.node true el ex er) pe) := ht; clear hg3 ht HI))
 have ht := HT.out
 obtain ⟨be, pel, per, ke, ve, rfl, hne3, hke, hve, htl, htr⟩ := ht
 obtain ⟨e0, e1, e2, e3, e4, e5, e6, e7, e8, e9, e10, _, _, _⟩ := hne3
 have HKE : Hid (LiesX X d w3 ex.1.items ke ∧ ex.1.text.size ≤ 9223372036854775807) := hke; have HVE : Hid (LiesX X d w3 ex.2.items ve ∧ ex.2.text.size ≤ 9223372036854775807) := hve; have HTL : Hid (NM X d w3 el pel) := htl; have HTR : Hid (NM X d w3 er per) := htr
 clear hke hve htl htr x0 x1 x2 x3 x4 x5 x6 x7
 go_wp2_with fail
 refine (HRd.out _ _ HTR.out).mono ?_
 rintro e w4 ⟨rfl, rfl⟩
 go_wp2_with fail
 have hbc : Below w4.heap.size w4 w4.drew := (Below.refl _ _).drew
 go_region_held3 (fun w' => w'.cell? ⟨b, 0, none⟩ = some (.pointer pa) ∧ w'.cell? ⟨b, 2, none⟩ = some (.int .i64 y.1.kind) ∧ w'.cell? ⟨b, 3, none⟩ = some (.int .i64 y.1.num) ∧ w'.cell? ⟨b, 4, none⟩ = some (.string y.1.text) ∧ w'.cell? ⟨b, 5, none⟩ = some (ku2) ∧ w'.cell? ⟨b, 6, none⟩ = some (.int .i64 y.2.kind) ∧ w'.cell? ⟨b, 7, none⟩ = some (.int .i64 y.2.num) ∧ w'.cell? ⟨b, 8, none⟩ = some (.string y.2.text) ∧ w'.cell? ⟨b, 9, none⟩ = some (vu2) ∧ w'.cell? ⟨be, 0, none⟩ = some (.pointer pel) ∧ w'.cell? ⟨be, 1, none⟩ = some (.pointer per) ∧ w'.cell? ⟨be, 2, none⟩ = some (.int .i64 ex.1.kind) ∧ w'.cell? ⟨be, 3, none⟩ = some (.int .i64 ex.1.num) ∧ w'.cell? ⟨be, 4, none⟩ = some (.string ex.1.text) ∧ w'.cell? ⟨be, 5, none⟩ = some (ke) ∧ w'.cell? ⟨be, 6, none⟩ = some (.int .i64 ex.2.kind) ∧ w'.cell? ⟨be, 7, none⟩ = some (.int .i64 ex.2.num) ∧ w'.cell? ⟨be, 8, none⟩ = some (.string ex.2.text) ∧ w'.cell? ⟨be, 9, none⟩ = some (ve)) (go_keep) (first
  | (go_at_call 135; refine (HOut.out _ _ _ _ _ HP.out HQ.out ⟨LiesX.keeps hbc HKE.out.1, HKE.out.2⟩ ⟨LiesX.keeps hbc HVE.out.1, HVE.out.2⟩).mono ?_; rintro e w7 ⟨hg, p7, rfl, ht⟩; have HE : Hid (TreePost X d (.node true (.node false o y el) ex er.black) w (.returned (.pointer p7)) w7) := ⟨(hb3.trans (hbc.mono hb3.size)).trans (hg.mono (hb3.trans (hbc.mono hb3.size)).size), p7, rfl, ht⟩; have c0 := cell_keeps hg c0; have c2 := cell_keeps hg c2; have c3 := cell_keeps hg c3; have c4 := cell_keeps hg c4; have c5 := cell_keeps hg c5; have c6 := cell_keeps hg c6; have c7 := cell_keeps hg c7; have c8 := cell_keeps hg c8; have c9 := cell_keeps hg c9; have e0 := cell_keeps hg e0; have e1 := cell_keeps hg e1; have e2 := cell_keeps hg e2; have e3 := cell_keeps hg e3; have e4 := cell_keeps hg e4; have e5 := cell_keeps hg e5; have e6 := cell_keeps hg e6; have e7 := cell_keeps hg e7; have e8 := cell_keeps hg e8; have e9 := cell_keeps hg e9; clear hg ht)
  | (go_at_call 135; refine (HIn.out _ _ (hb3.trans (hbc.mono hb3.size)) (HTL.out.keeps hbc)).mono ?_; rintro e w5 ⟨hg, p5, rfl, ht⟩; have HP : Hid (NM X d w5 (.node false o y el) p5) := ht; (try have HQ : Hid (NM X d w5 er.black _) := HQ.out.keeps hg); replace hbc := hbc.trans (hg.mono hbc.size); have c0 := cell_keeps hg c0; have c2 := cell_keeps hg c2; have c3 := cell_keeps hg c3; have c4 := cell_keeps hg c4; have c5 := cell_keeps hg c5; have c6 := cell_keeps hg c6; have c7 := cell_keeps hg c7; have c8 := cell_keeps hg c8; have c9 := cell_keeps hg c9; have e0 := cell_keeps hg e0; have e1 := cell_keeps hg e1; have e2 := cell_keeps hg e2; have e3 := cell_keeps hg e3; have e4 := cell_keeps hg e4; have e5 := cell_keeps hg e5; have e6 := cell_keeps hg e6; have e7 := cell_keeps hg e7; have e8 := cell_keeps hg e8; have e9 := cell_keeps hg e9; clear hg ht)
  | (go_at_call 112; refine (HBl.out _ _ (HTR.out.keeps hbc)).mono ?_; rintro e w6 ⟨hg, p6, rfl, ht⟩; have HQ : Hid (NM X d w6 er.black p6) := ht; (try have HP : Hid (NM X d w6 (.node false o y el) _) := HP.out.keeps hg); replace hbc := hbc.trans (hg.mono hbc.size); have c0 := cell_keeps hg c0; have c2 := cell_keeps hg c2; have c3 := cell_keeps hg c3; have c4 := cell_keeps hg c4; have c5 := cell_keeps hg c5; have c6 := cell_keeps hg c6; have c7 := cell_keeps hg c7; have c8 := cell_keeps hg c8; have c9 := cell_keeps hg c9; have e0 := cell_keeps hg e0; have e1 := cell_keeps hg e1; have e2 := cell_keeps hg e2; have e3 := cell_keeps hg e3; have e4 := cell_keeps hg e4; have e5 := cell_keeps hg e5; have e6 := cell_keeps hg e6; have e7 := cell_keeps hg e7; have e8 := cell_keeps hg e8; have e9 := cell_keeps hg e9; clear hg ht))
 all_goals (first | (go_ret; exact HE.out) | (go_wp2_with fail; go_ret; exact HE.out))

end Go.Proofs.YtlnecfjnffdciaaGreat

