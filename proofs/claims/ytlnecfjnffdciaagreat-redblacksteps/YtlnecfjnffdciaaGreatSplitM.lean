import Derived.Test.YtlnecfjnffdciaaGreatBx8
namespace Go.Proofs.YtlnecfjnffdciaaGreat
open Go.RowKit

def CutPost14 (X : Nat → Prop) (d : Nat) (t : RT PT) (x : PT) (w : World) (e : Ending) (w' : World) : Prop :=
 Below w.heap.size w w' ∧ ∃ p ku vu, e = .returned (.tuple #[.pointer p, .agg #[.int .i64 x.1.kind, .int .i64 x.1.num, .string x.1.text, ku, .int .i64 x.2.kind, .int .i64 x.2.num, .string x.2.text, vu]]) ∧ NM X d w' t p ∧ (LiesX X d w' x.1.items ku ∧ x.1.text.size ≤ 9223372036854775807) ∧ (LiesX X d w' x.2.items vu ∧ x.2.text.size ≤ 9223372036854775807)

set_option maxRecDepth 100000 in
set_option maxHeartbeats 16000000 in
theorem cutLast_here (X : Nat → Prop) (d : Nat) (w : World) (l : RT PT) (x : PT) (b : Nat) (pl : Option Addr) (ku vu : Value) (c : Bool) (S H K : Nat) (hn : NCells w b pl none x ku vu c S H K) (hl : NM X d w l pl) (hk : (LiesX X d w x.1.items ku ∧ x.1.text.size ≤ 9223372036854775807) ∧ (LiesX X d w x.2.items vu ∧ x.2.text.size ≤ 9223372036854775807)) :
 Calls Tryz.prog 158 #[.pointer (some ⟨b, 0, none⟩)] w (CutPost14 X d l x w) := by
 obtain ⟨ak, ck, rfl, _⟩ := hk.1.1.slice
 obtain ⟨av, cv, rfl, _⟩ := hk.2.1.slice
 obtain ⟨c0, c1, c2, c3, c4, c5, c6, c7, c8, c9, _, _, _, _⟩ := hn
 have HK : Hid _ := hk
 have HL : Hid _ := hl
 clear hk hl
 have hbl := cell_lt c0
 simp only at hbl
 have hbne : ¬ b = w.heap.size := by omega
 go_enter Tryz.func158, Tryz.ntmps158
 go_wp2_with fail
 go_region
 go_wp2_with fail
 have hbb : Below w.heap.size w (w.alloc (.cells #[.int .i64 x.1.kind, .int .i64 x.1.num, .string x.1.text, .slice ak x.1.items.length ck, .int .i64 x.2.kind, .int .i64 x.2.num, .string x.2.text, .slice av x.2.items.length cv] 69)).drew := ((Grew.refl w).alloc _).below.drew
 refine bodyPost_ret (v := .tuple #[.pointer pl, .agg #[.int .i64 x.1.kind, .int .i64 x.1.num, .string x.1.text, .slice ak x.1.items.length ck, .int .i64 x.2.kind, .int .i64 x.2.num, .string x.2.text, .slice av x.2.items.length cv]]) ?_ rfl ⟨hbb, _, _, _, rfl, HL.out.keeps hbb, ⟨LiesX.keeps hbb HK.out.1.1, HK.out.1.2⟩, ⟨LiesX.keeps hbb HK.out.2.1, HK.out.2.2⟩⟩
 simp [results, Tryz.results158, go_sem]

set_option maxRecDepth 100000 in
set_option maxHeartbeats 16000000 in
theorem cutLast_step (X : Nat → Prop) (d : Nat) (w : World) (r0 T : RT PT) (x z : PT) (b : Nat) (pl : Option Addr) (q : Addr) (ku vu : Value) (c : Bool) (S H K : Nat) (hn : NCells w b pl (some q) x ku vu c S H K) (hk : (LiesX X d w x.1.items ku ∧ x.1.text.size ≤ 9223372036854775807) ∧ (LiesX X d w x.2.items vu ∧ x.2.text.size ≤ 9223372036854775807))
 (hi : ∀ V, Below w.heap.size w V → Calls Tryz.prog 158 #[.pointer (some q)] V (CutPost14 X d r0 z V))
 (hj : ∀ V p, Below w.heap.size w V → NM X d V r0 p → Calls Tryz.prog 119 #[.pointer pl, .agg #[.int .i64 x.1.kind, .int .i64 x.1.num, .string x.1.text, ku, .int .i64 x.2.kind, .int .i64 x.2.num, .string x.2.text, vu], .pointer p] V (TreePost X d T V)) (hX : ¬ X w.heap.size) :
 Calls Tryz.prog 158 #[.pointer (some ⟨b, 0, none⟩)] w (CutPost14 X d T z w) := by
 obtain ⟨ak, ck, rfl, _⟩ := hk.1.1.slice
 obtain ⟨av, cv, rfl, _⟩ := hk.2.1.slice
 obtain ⟨c0, c1, c2, c3, c4, c5, c6, c7, c8, c9, _, _, _, _⟩ := hn
 have HI : Hid _ := hi
 have HJ : Hid _ := hj
 have HK : Hid _ := hk
 clear hk hi hj
 have hbl := cell_lt c0
 simp only at hbl
 have hbne : ¬ b = w.heap.size := by omega
 go_enter Tryz.func158, Tryz.ntmps158
 go_wp2_with fail
 obtain ⟨W0, hW0⟩ : ∃ W0, W0 = w.alloc (.cells #[.int .i64 0, .int .i64 0, .string ⟨#[]⟩, .slice none 0 0, .int .i64 0, .int .i64 0, .string ⟨#[]⟩, .slice none 0 0] 69) := ⟨_, rfl⟩
 rw [← hW0]
 have hb0 : Below w.heap.size w W0 := by rw [hW0]; exact ((Grew.refl w).alloc _).below
 have HZ0 : Hid (Bx8 W0 w.heap.size (.int .i64 0) (.int .i64 0) (.string ⟨#[]⟩) (.slice none 0 0) (.int .i64 0) (.int .i64 0) (.string ⟨#[]⟩) (.slice none 0 0)) := by rw [hW0]; exact bx8_alloc w _ _ _ _ _ _ _ _ _
 have hz0 : w.heap.size < W0.heap.size := by rw [hW0]; simp
 clear hW0
 refine (HI.out _ hb0).mono ?_
 rintro e w1 ⟨hg1, p1, kz, vz, rfl, ht1, hkz, hvz⟩
 obtain ⟨akz, ckz, rfl, _⟩ := hkz.1.slice
 obtain ⟨avz, cvz, rfl, _⟩ := hvz.1.slice
 have hb1 : Below w.heap.size w w1 := hb0.trans (hg1.mono hb0.size)
 obtain ⟨W1, hW1⟩ : ∃ W1, W1 = w1.alloc (.cells #[.int .i64 z.1.kind, .int .i64 z.1.num, .string z.1.text, .slice akz z.1.items.length ckz, .int .i64 z.2.kind, .int .i64 z.2.num, .string z.2.text, .slice avz z.2.items.length cvz] 69) := ⟨_, rfl⟩
 have hbA : Below w1.heap.size w1 W1 := by rw [hW1]; exact ((Grew.refl w1).alloc _).below
 have HT1 : Hid (NM X d W1 r0 p1) := ht1.keeps hbA
 have HKZ : Hid (LiesX X d W1 z.1.items (.slice akz z.1.items.length ckz) ∧ z.1.text.size ≤ 9223372036854775807) := ⟨LiesX.keeps hbA hkz.1, hkz.2⟩
 have HVZ : Hid (LiesX X d W1 z.2.items (.slice avz z.2.items.length cvz) ∧ z.2.text.size ≤ 9223372036854775807) := ⟨LiesX.keeps hbA hvz.1, hvz.2⟩
 have hb2 : Below w.heap.size w W1 := hb1.trans (hbA.mono hb1.size)
 have HZ1 : Hid (Bx8 W1 w.heap.size (.int .i64 0) (.int .i64 0) (.string ⟨#[]⟩) (.slice none 0 0) (.int .i64 0) (.int .i64 0) (.string ⟨#[]⟩) (.slice none 0 0)) := (HZ0.out.keeps hg1).keeps hbA
 have hn2 : w1.heap.size ≠ w.heap.size := by have := hg1.size; omega
 clear ht1 hkz hvz HZ0
 go_wp2_with fail
 rw [← hW1]
 have z0 : W1.cell? ⟨w1.heap.size, 0, none⟩ = some (.int .i64 z.1.kind) := by rw [hW1]; simp
 have z1 : W1.cell? ⟨w1.heap.size, 1, none⟩ = some (.int .i64 z.1.num) := by rw [hW1]; simp
 have z2 : W1.cell? ⟨w1.heap.size, 2, none⟩ = some (.string z.1.text) := by rw [hW1]; simp
 have z3 : W1.cell? ⟨w1.heap.size, 3, none⟩ = some (.slice akz z.1.items.length ckz) := by rw [hW1]; simp
 have z4 : W1.cell? ⟨w1.heap.size, 4, none⟩ = some (.int .i64 z.2.kind) := by rw [hW1]; simp
 have z5 : W1.cell? ⟨w1.heap.size, 5, none⟩ = some (.int .i64 z.2.num) := by rw [hW1]; simp
 have z6 : W1.cell? ⟨w1.heap.size, 6, none⟩ = some (.string z.2.text) := by rw [hW1]; simp
 have z7 : W1.cell? ⟨w1.heap.size, 7, none⟩ = some (.slice avz z.2.items.length cvz) := by rw [hW1]; simp
 have c0 := cell_keeps hb2 c0; have c1 := cell_keeps hb2 c1; have c2 := cell_keeps hb2 c2; have c3 := cell_keeps hb2 c3; have c4 := cell_keeps hb2 c4; have c5 := cell_keeps hb2 c5; have c6 := cell_keeps hb2 c6; have c7 := cell_keeps hb2 c7; have c8 := cell_keeps hb2 c8; have c9 := cell_keeps hb2 c9
 clear hW1 hg1 hbA hb0 hb1 HI hbl hz0
 generalize w1.heap.size = B2 at *
 obtain ⟨y0, y1, y2, y3, y4, y5, y6, y7, f0, f1, f2, f3, f4, f5, f6, f7, _⟩ := HZ1.out
 have hb6 : b ≠ w.heap.size := hbne
 go_region_held3 (fun w' => w'.cell? ⟨b, 0, none⟩ = some (.pointer pl) ∧ w'.cell? ⟨b, 2, none⟩ = some (.int .i64 x.1.kind) ∧ w'.cell? ⟨b, 3, none⟩ = some (.int .i64 x.1.num) ∧ w'.cell? ⟨b, 4, none⟩ = some (.string x.1.text) ∧ w'.cell? ⟨b, 5, none⟩ = some (.slice ak x.1.items.length ck) ∧ w'.cell? ⟨b, 6, none⟩ = some (.int .i64 x.2.kind) ∧ w'.cell? ⟨b, 7, none⟩ = some (.int .i64 x.2.num) ∧ w'.cell? ⟨b, 8, none⟩ = some (.string x.2.text) ∧ w'.cell? ⟨b, 9, none⟩ = some (.slice av x.2.items.length cv) ∧ w'.cell? ⟨B2, 0, none⟩ = some (.int .i64 z.1.kind) ∧ w'.cell? ⟨B2, 1, none⟩ = some (.int .i64 z.1.num) ∧ w'.cell? ⟨B2, 2, none⟩ = some (.string z.1.text) ∧ w'.cell? ⟨B2, 3, none⟩ = some (.slice akz z.1.items.length ckz) ∧ w'.cell? ⟨B2, 4, none⟩ = some (.int .i64 z.2.kind) ∧ w'.cell? ⟨B2, 5, none⟩ = some (.int .i64 z.2.num) ∧ w'.cell? ⟨B2, 6, none⟩ = some (.string z.2.text) ∧ w'.cell? ⟨B2, 7, none⟩ = some (.slice avz z.2.items.length cvz)) (first | go_keep | exact ⟨set8_keep hb6 c0, set8_keep hb6 c2, set8_keep hb6 c3, set8_keep hb6 c4, set8_keep hb6 c5, set8_keep hb6 c6, set8_keep hb6 c7, set8_keep hb6 c8, set8_keep hb6 c9, set8_keep hn2 z0, set8_keep hn2 z1, set8_keep hn2 z2, set8_keep hn2 z3, set8_keep hn2 z4, set8_keep hn2 z5, set8_keep hn2 z6, set8_keep hn2 z7⟩)
  (first | (go_at_call 119; refine (HJ.out _ _ hb2.drew (HT1.out.keeps (Below.refl _ _).drew)).mono ?_; rintro e w5 ⟨hg5, p5, rfl, ht5⟩; have hbc : Below W1.heap.size W1 w5 := (Below.refl _ _).drew.trans hg5; have c0 := cell_keeps hbc c0; have c1 := cell_keeps hbc c1; have c2 := cell_keeps hbc c2; have c3 := cell_keeps hbc c3; have c4 := cell_keeps hbc c4; have c5 := cell_keeps hbc c5; have c6 := cell_keeps hbc c6; have c7 := cell_keeps hbc c7; have c8 := cell_keeps hbc c8; have c9 := cell_keeps hbc c9; have z0 := cell_keeps hbc z0; have z1 := cell_keeps hbc z1; have z2 := cell_keeps hbc z2; have z3 := cell_keeps hbc z3; have z4 := cell_keeps hbc z4; have z5 := cell_keeps hbc z5; have z6 := cell_keeps hbc z6; have z7 := cell_keeps hbc z7; have HT5 : Hid (NM X d w5 T p5) := ht5; have HZ5 : Hid (Bx8 w5 w.heap.size (.int .i64 0) (.int .i64 0) (.string ⟨#[]⟩) (.slice none 0 0) (.int .i64 0) (.int .i64 0) (.string ⟨#[]⟩) (.slice none 0 0)) := HZ1.out.keeps hbc; obtain ⟨y0, y1, y2, y3, y4, y5, y6, y7, f0, f1, f2, f3, f4, f5, f6, f7, _⟩ := HZ5.out; clear ht5 hg5))
 have Hq : Hid _ := put8_in HZ5.out (.int .i64 z.1.kind) (.int .i64 z.1.num) (.string z.1.text) (.slice akz z.1.items.length ckz) (.int .i64 z.2.kind) (.int .i64 z.2.num) (.string z.2.text) (.slice avz z.2.items.length cvz)
 have hbz : Below w.heap.size w w5 := hb2.trans (hbc.mono hb2.size)
 have HBz : Hid (Below w.heap.size w (w5.setCells w.heap.size 0 [.int .i64 z.1.kind, .int .i64 z.1.num, .string z.1.text, .slice akz z.1.items.length ckz, .int .i64 z.2.kind, .int .i64 z.2.num, .string z.2.text, .slice avz z.2.items.length cvz])) := below_put8 hbz (Nat.le_refl _) _ _ _ _ _ _ _ _
 have HTz : Hid (NM X d (w5.setCells w.heap.size 0 [.int .i64 z.1.kind, .int .i64 z.1.num, .string z.1.text, .slice akz z.1.items.length ckz, .int .i64 z.2.kind, .int .i64 z.2.num, .string z.2.text, .slice avz z.2.items.length cvz]) T p5) := HT5.out.put8 hX HZ5.out _
 have HKz : Hid (LiesX X d (w5.setCells w.heap.size 0 [.int .i64 z.1.kind, .int .i64 z.1.num, .string z.1.text, .slice akz z.1.items.length ckz, .int .i64 z.2.kind, .int .i64 z.2.num, .string z.2.text, .slice avz z.2.items.length cvz]) z.1.items (.slice akz z.1.items.length ckz)) := (HKZ.out.1.keeps hbc).set hX
 have HVz : Hid (LiesX X d (w5.setCells w.heap.size 0 [.int .i64 z.1.kind, .int .i64 z.1.num, .string z.1.text, .slice akz z.1.items.length ckz, .int .i64 z.2.kind, .int .i64 z.2.num, .string z.2.text, .slice avz z.2.items.length cvz]) z.2.items (.slice avz z.2.items.length cvz)) := (HVZ.out.1.keeps hbc).set hX
 go_wp2_with fail
 refine bodyPost_ret (v := .tuple #[.pointer p5, .agg #[.int .i64 z.1.kind, .int .i64 z.1.num, .string z.1.text, .slice akz z.1.items.length ckz, .int .i64 z.2.kind, .int .i64 z.2.num, .string z.2.text, .slice avz z.2.items.length cvz]]) ?_ rfl ⟨HBz.out, _, _, _, rfl, HTz.out, ⟨HKz.out, HKZ.out.2⟩, ⟨HVz.out, HVZ.out.2⟩⟩
 obtain ⟨q0, q1, q2, q3, q4, q5, q6, q7⟩ := Hq.out
 simp only [World.setCells, Nat.zero_add, Nat.reduceAdd] at q0 q1 q2 q3 q4 q5 q6 q7
 simp [results, Tryz.results158, go_sem, q0, q1, q2, q3, q4, q5, q6, q7]

theorem cutLast_core (X : Nat → Prop) (d : Nat) : ∀ (r l : RT PT) (c : Bool) (x : PT) (p : Option Addr) (w : World), NM X d w (.node c l x r) p → RT.Well l → RT.Well r → l.size + 1 + r.size < 4611686018427387904 → Calls Tryz.prog 158 #[.pointer p] w (CutPost14 X d (RT.cutLast l x r).1 (RT.cutLast l x r).2 w)
 | .nil, l, c, x, p, w, h, wl, wr, hs => by
  obtain ⟨b, pl, pr, ku, vu, rfl, hn, hk, hv, hl, hr⟩ := h
  have hr' : pr = none := hr
  subst hr'
  exact cutLast_here X d w l x b pl ku vu c _ _ _ hn hl ⟨hk, hv⟩
 | .node c2 l2 y r2, l, c, x, p, w, h, wl, wr, hs => by
  have h0 := h
  obtain ⟨b, pl, pr, ku, vu, rfl, hn, hk, hv, hl, hr⟩ := NM.both h
  obtain ⟨q, hq⟩ : ∃ q, pr = some q := by
   obtain ⟨b2, _, _, _, _, e, _⟩ := hr
   exact ⟨_, e⟩
  subst hq
  have hsz : (RT.node c2 l2 y r2).size = l2.size + 1 + r2.size := rfl
  have hw2 := RT.cutLast_well r2 l2 y wr.left wr.right
  have hz2 : (RT.cutLast l2 y r2).1.size + 1 = l2.size + 1 + r2.size := by
   have h9 := congrArg List.length (RT.cutLast_items r2 l2 y)
   rw [RT.size_items, RT.size_items l2, RT.size_items r2]
   simp at h9
   omega
  refine Calls.mono (cutLast_step (fun b => X b ∧ b < w.heap.size) d w (RT.cutLast l2 y r2).1 _ x (RT.cutLast l2 y r2).2 b pl q ku vu c _ _ _ hn ⟨hk, hv⟩ (fun V hV => cutLast_core (fun b => X b ∧ b < w.heap.size) d r2 l2 c2 y (some q) V (hr.keeps hV) wr.left wr.right (by omega)) (fun V p9 hV h9 => join_14 (fun b => X b ∧ b < w.heap.size) d V l _ x pl p9 ku vu (hl.keeps hV) h9 wl hw2 ⟨LiesX.keeps hV hk.1, hk.2⟩ ⟨LiesX.keeps hV hv.1, hv.2⟩ (by omega)) (fun e => Nat.lt_irrefl _ e.2)) ?_
  rintro e w' ⟨hb, p', ku', vu', rfl, ht, h1, h2⟩
  exact ⟨hb, p', ku', vu', rfl, ht.mono (fun _ h => h.1), ⟨h1.1.mono (fun _ h => h.1), h1.2⟩, ⟨h2.1.mono (fun _ h => h.1), h2.2⟩⟩

end Go.Proofs.YtlnecfjnffdciaaGreat

namespace Go.Proofs.YtlnecfjnffdciaaGreat
open Go.RowKit

set_option maxRecDepth 100000 in
set_option maxHeartbeats 4000000 in
theorem together_nil (w : World) (q : Option Addr) : Calls Tryz.prog 113 #[.pointer none, .pointer q] w fun e w' => e = .returned (.pointer q) ∧ w' = w := by
 go_enter Tryz.func113, Tryz.ntmps113
 go_wp2_with fail
 go_ret
 exact ⟨rfl, rfl⟩

set_option maxRecDepth 100000 in
set_option maxHeartbeats 4000000 in
theorem together_node (X : Nat → Prop) (d : Nat) (w : World) (p : Addr) (q : Option Addr) (r0 T : RT PT) (z : PT)
 (hi : Calls Tryz.prog 158 #[.pointer (some p)] w (CutPost14 X d r0 z w))
 (hj : ∀ V p k v, Below w.heap.size w V → NM X d V r0 p → (LiesX X d V z.1.items k ∧ z.1.text.size ≤ 9223372036854775807) → (LiesX X d V z.2.items v ∧ z.2.text.size ≤ 9223372036854775807) → Calls Tryz.prog 119 #[.pointer p, .agg #[.int .i64 z.1.kind, .int .i64 z.1.num, .string z.1.text, k, .int .i64 z.2.kind, .int .i64 z.2.num, .string z.2.text, v], .pointer q] V (TreePost X d T V)) :
 Calls Tryz.prog 113 #[.pointer (some p), .pointer q] w (TreePost X d T w) := by
 have HI : Hid _ := hi
 have HJ : Hid _ := hj
 clear hi hj
 go_enter Tryz.func113, Tryz.ntmps113
 go_wp2_with fail
 refine Calls.mono HI.out ?_
 rintro e w1 ⟨hg1, p1, kz, vz, rfl, ht1, hkz, hvz⟩
 obtain ⟨akz, ckz, rfl, _⟩ := hkz.1.slice
 obtain ⟨avz, cvz, rfl, _⟩ := hvz.1.slice
 have hbA : ∀ o, Below w1.heap.size w1 (w1.alloc o) := fun o => ((Grew.refl w1).alloc _).below
 have HJ2 : Hid (∀ o, Calls Tryz.prog 119 #[.pointer p1, .agg #[.int .i64 z.1.kind, .int .i64 z.1.num, .string z.1.text, (.slice akz z.1.items.length ckz), .int .i64 z.2.kind, .int .i64 z.2.num, .string z.2.text, (.slice avz z.2.items.length cvz)], .pointer q] (w1.alloc o) (TreePost X d T (w1.alloc o))) := fun o => HJ.out _ _ _ _ (hg1.trans ((hbA o).mono hg1.size)) (ht1.keeps (hbA o)) ⟨LiesX.keeps (hbA o) hkz.1, hkz.2⟩ ⟨LiesX.keeps (hbA o) hvz.1, hvz.2⟩
 have HB : Hid (∀ o, Below w.heap.size w (w1.alloc o)) := fun o => hg1.trans ((hbA o).mono hg1.size)
 clear hg1 ht1 hkz hvz hbA HJ HI
 go_wp2_with fail
 refine (HJ2.out _).mono ?_
 rintro e w5 ⟨hg5, p5, rfl, ht5⟩
 have HE : Hid (TreePost X d T w (.returned (.pointer p5)) w5) := ⟨(HB.out _).trans (hg5.mono (HB.out _).size), p5, rfl, ht5⟩
 clear hg5 ht5 HJ2
 go_wp2_with fail
 go_ret
 exact HE.out

theorem cutLast_size {α : Type} (r l : RT α) (x : α) : (RT.cutLast l x r).1.size = l.size + r.size := by
 have h9 := congrArg List.length (RT.cutLast_items r l x)
 rw [RT.size_items, RT.size_items l, RT.size_items r]
 simp at h9
 omega

theorem together_14 (X : Nat → Prop) (d : Nat) (w : World) (l r : RT PT) (p q : Option Addr) (hl : NM X d w l p) (hr : NM X d w r q) (wl : RT.Well l) (wr : RT.Well r) (hs : l.size + r.size + 1 < 4611686018427387904) :
 Calls Tryz.prog 113 #[.pointer p, .pointer q] w (TreePost X d (RT.together l r) w) := by
 cases l with
 | nil =>
  have hp : p = none := hl
  subst hp
  refine Calls.mono (together_nil w q) ?_
  rintro e w' ⟨rfl, rfl⟩
  exact ⟨Below.refl _ _, q, rfl, hr⟩
 | node c l x r' =>
  obtain ⟨a, ha⟩ : ∃ a, p = some a := by
   obtain ⟨b2, _, _, _, _, e, _⟩ := hl
   exact ⟨_, e⟩
  subst ha
  have hz : (RT.node c l x r').size = l.size + 1 + r'.size := rfl
  have hc := cutLast_size r' l x
  exact together_node X d w a q _ _ _ (cutLast_core X d r' l c x (some a) w hl wl.left wl.right (by omega)) (fun V p k v hV h1 h2 h3 => join_14 X d V _ r _ p q k v h1 (hr.keeps hV) (RT.cutLast_well r' l x wl.left wl.right) wr h2 h3 (by omega))

def SplitPost (X : Nat → Prop) (d : Nat) (a b : RT PT) (w : World) (e : Ending) (w' : World) : Prop := Below w.heap.size w w' ∧ ∃ p q, e = .returned (.tuple #[.pointer p, .pointer q]) ∧ NM X d w' a p ∧ NM X d w' b q

set_option maxRecDepth 100000 in
set_option maxHeartbeats 4000000 in
theorem split_nil (f : Nat) (q1 q2 : Option Addr) (w : World) : Calls Tryz.prog 114 #[.pointer none, .func (.func f) #[] #[.pointer q1, .pointer q2]] w fun e w' => e = .returned (.tuple #[.pointer none, .pointer none]) ∧ w' = w := by
 go_enter Tryz.func114, Tryz.ntmps114
 go_wp2_with fail
 go_ret2
 exact ⟨rfl, rfl⟩

set_option maxRecDepth 100000 in
set_option maxHeartbeats 8000000 in
theorem split_lt (X : Nat → Prop) (d : Nat) (w : World) (x : PT) (b f : Nat) (q1 q2 pl pr : Option Addr) (ku vu : Value) (c : Bool) (S H K : Nat) (hn : NCells w b pl pr x ku vu c S H K) (eg : ∀ args w, (callFunc f args).run Tryz.prog w = .ok (.enter f args) w) (gx : Int) (hgx : gx < 0)
 (hat : ∀ V, Below w.heap.size w V → Calls Tryz.prog f #[.agg #[.int .i64 x.1.kind, .int .i64 x.1.num, .string x.1.text, ku, .int .i64 x.2.kind, .int .i64 x.2.num, .string x.2.text, vu], .pointer q1, .pointer q2] V fun e w' => e = .returned (.int .i64 gx) ∧ Below V.heap.size V w')
 (a0 b0 T : RT PT) (hi : ∀ V, Below w.heap.size w V → Calls Tryz.prog 114 #[.pointer pl, .func (.func f) #[] #[.pointer q1, .pointer q2]] V (SplitPost X d a0 b0 V)) (hj : ∀ V p, Below w.heap.size w V → NM X d V b0 p → Calls Tryz.prog 119 #[.pointer p, .agg #[.int .i64 x.1.kind, .int .i64 x.1.num, .string x.1.text, ku, .int .i64 x.2.kind, .int .i64 x.2.num, .string x.2.text, vu], .pointer pr] V (TreePost X d T V)) :
 Calls Tryz.prog 114 #[.pointer (some ⟨b, 0, none⟩), .func (.func f) #[] #[.pointer q1, .pointer q2]] w (SplitPost X d a0 T w) := by
 obtain ⟨c0, c1, c2, c3, c4, c5, c6, c7, c8, c9, _, _, _, _⟩ := hn
 have HA : Hid _ := hat
 have HI : Hid _ := hi
 have HJ : Hid _ := hj
 clear hi hj hat
 go_enter Tryz.func114, Tryz.ntmps114
 go_wp2_with (go_at_fn f; refine (HA.out _ (Below.refl _ _)).mono ?_; rintro e w1 ⟨rfl, hg1⟩; fail)
 go_at_fn f
 refine (HA.out _ (Below.refl _ _)).mono ?_
 rintro e w1 ⟨rfl, hg1⟩
 clear HA
 have c0 := cell_keeps hg1 c0; have c1 := cell_keeps hg1 c1; have c2 := cell_keeps hg1 c2; have c3 := cell_keeps hg1 c3; have c4 := cell_keeps hg1 c4; have c5 := cell_keeps hg1 c5; have c6 := cell_keeps hg1 c6; have c7 := cell_keeps hg1 c7; have c8 := cell_keeps hg1 c8; have c9 := cell_keeps hg1 c9
 have hn1 : ¬ 0 < gx := by omega
 go_wp2_with fail
 refine (HI.out _ hg1).mono ?_
 rintro e w2 ⟨hg2, pa, pb, rfl, hta, htb⟩
 have hb2 : Below w.heap.size w w2 := hg1.trans (hg2.mono hg1.size)
 have c0 := cell_keeps hg2 c0; have c1 := cell_keeps hg2 c1; have c2 := cell_keeps hg2 c2; have c3 := cell_keeps hg2 c3; have c4 := cell_keeps hg2 c4; have c5 := cell_keeps hg2 c5; have c6 := cell_keeps hg2 c6; have c7 := cell_keeps hg2 c7; have c8 := cell_keeps hg2 c8; have c9 := cell_keeps hg2 c9
 have HTA : Hid (NM X d w2 a0 pa) := hta; have HTB : Hid (NM X d w2 b0 pb) := htb
 clear hta htb hg2 hg1 HI
 go_wp2_with fail
 go_region_held3 (fun w' => w'.cell? ⟨b, 1, none⟩ = some (.pointer pr) ∧ w'.cell? ⟨b, 2, none⟩ = some (.int .i64 x.1.kind) ∧ w'.cell? ⟨b, 3, none⟩ = some (.int .i64 x.1.num) ∧ w'.cell? ⟨b, 4, none⟩ = some (.string x.1.text) ∧ w'.cell? ⟨b, 5, none⟩ = some (ku) ∧ w'.cell? ⟨b, 6, none⟩ = some (.int .i64 x.2.kind) ∧ w'.cell? ⟨b, 7, none⟩ = some (.int .i64 x.2.num) ∧ w'.cell? ⟨b, 8, none⟩ = some (.string x.2.text) ∧ w'.cell? ⟨b, 9, none⟩ = some (vu)) (go_keep) (first | (go_at_call 119; refine (HJ.out _ _ hb2.drew (HTB.out.keeps (Below.refl _ _).drew)).mono ?_; rintro e w5 ⟨hg5, p5, rfl, ht5⟩; have hbc : Below w2.heap.size w2 w5 := (Below.refl _ _).drew.trans hg5; have hbz : Below w.heap.size w w5 := hb2.trans (hbc.mono hb2.size); have HE : Hid (SplitPost X d a0 T w (.returned (.tuple #[.pointer pa, .pointer p5])) w5) := ⟨hbz, pa, p5, rfl, HTA.out.keeps hbc, ht5⟩; have c1 := cell_keeps hbc c1; have c2 := cell_keeps hbc c2; have c3 := cell_keeps hbc c3; have c4 := cell_keeps hbc c4; have c5 := cell_keeps hbc c5; have c6 := cell_keeps hbc c6; have c7 := cell_keeps hbc c7; have c8 := cell_keeps hbc c8; have c9 := cell_keeps hbc c9; clear hg5 ht5 hbz hbc))
 all_goals (first | (go_ret2; exact HE.out) | (go_wp2_with fail; go_ret2; exact HE.out))

set_option maxRecDepth 100000 in
set_option maxHeartbeats 8000000 in
theorem split_gt (X : Nat → Prop) (d : Nat) (w : World) (x : PT) (b f : Nat) (q1 q2 pl pr : Option Addr) (ku vu : Value) (c : Bool) (S H K : Nat) (hn : NCells w b pl pr x ku vu c S H K) (eg : ∀ args w, (callFunc f args).run Tryz.prog w = .ok (.enter f args) w) (gx : Int) (hgx : 0 < gx)
 (hat : ∀ V, Below w.heap.size w V → Calls Tryz.prog f #[.agg #[.int .i64 x.1.kind, .int .i64 x.1.num, .string x.1.text, ku, .int .i64 x.2.kind, .int .i64 x.2.num, .string x.2.text, vu], .pointer q1, .pointer q2] V fun e w' => e = .returned (.int .i64 gx) ∧ Below V.heap.size V w')
 (a0 b0 T : RT PT) (hi : ∀ V, Below w.heap.size w V → Calls Tryz.prog 114 #[.pointer pr, .func (.func f) #[] #[.pointer q1, .pointer q2]] V (SplitPost X d a0 b0 V)) (hj : ∀ V p, Below w.heap.size w V → NM X d V a0 p → Calls Tryz.prog 119 #[.pointer pl, .agg #[.int .i64 x.1.kind, .int .i64 x.1.num, .string x.1.text, ku, .int .i64 x.2.kind, .int .i64 x.2.num, .string x.2.text, vu], .pointer p] V (TreePost X d T V)) :
 Calls Tryz.prog 114 #[.pointer (some ⟨b, 0, none⟩), .func (.func f) #[] #[.pointer q1, .pointer q2]] w (SplitPost X d T b0 w) := by
 obtain ⟨c0, c1, c2, c3, c4, c5, c6, c7, c8, c9, _, _, _, _⟩ := hn
 have HA : Hid _ := hat
 have HI : Hid _ := hi
 have HJ : Hid _ := hj
 clear hi hj hat
 go_enter Tryz.func114, Tryz.ntmps114
 go_wp2_with (go_at_fn f; refine (HA.out _ (Below.refl _ _)).mono ?_; rintro e w1 ⟨rfl, hg1⟩; fail)
 go_at_fn f
 refine (HA.out _ (Below.refl _ _)).mono ?_
 rintro e w1 ⟨rfl, hg1⟩
 clear HA
 have c0 := cell_keeps hg1 c0; have c1 := cell_keeps hg1 c1; have c2 := cell_keeps hg1 c2; have c3 := cell_keeps hg1 c3; have c4 := cell_keeps hg1 c4; have c5 := cell_keeps hg1 c5; have c6 := cell_keeps hg1 c6; have c7 := cell_keeps hg1 c7; have c8 := cell_keeps hg1 c8; have c9 := cell_keeps hg1 c9
 have hn1 : ¬ gx < 0 := by omega
 go_wp2_with fail
 refine (HI.out _ hg1).mono ?_
 rintro e w2 ⟨hg2, pa, pb, rfl, hta, htb⟩
 have hb2 : Below w.heap.size w w2 := hg1.trans (hg2.mono hg1.size)
 have c0 := cell_keeps hg2 c0; have c1 := cell_keeps hg2 c1; have c2 := cell_keeps hg2 c2; have c3 := cell_keeps hg2 c3; have c4 := cell_keeps hg2 c4; have c5 := cell_keeps hg2 c5; have c6 := cell_keeps hg2 c6; have c7 := cell_keeps hg2 c7; have c8 := cell_keeps hg2 c8; have c9 := cell_keeps hg2 c9
 have HTA : Hid (NM X d w2 a0 pa) := hta; have HTB : Hid (NM X d w2 b0 pb) := htb
 clear hta htb hg2 hg1 HI
 go_wp2_with fail
 go_region_held3 (fun w' => w'.cell? ⟨b, 0, none⟩ = some (.pointer pl) ∧ w'.cell? ⟨b, 2, none⟩ = some (.int .i64 x.1.kind) ∧ w'.cell? ⟨b, 3, none⟩ = some (.int .i64 x.1.num) ∧ w'.cell? ⟨b, 4, none⟩ = some (.string x.1.text) ∧ w'.cell? ⟨b, 5, none⟩ = some (ku) ∧ w'.cell? ⟨b, 6, none⟩ = some (.int .i64 x.2.kind) ∧ w'.cell? ⟨b, 7, none⟩ = some (.int .i64 x.2.num) ∧ w'.cell? ⟨b, 8, none⟩ = some (.string x.2.text) ∧ w'.cell? ⟨b, 9, none⟩ = some (vu)) (go_keep) (first | (go_at_call 119; refine (HJ.out _ _ hb2.drew (HTA.out.keeps (Below.refl _ _).drew)).mono ?_; rintro e w5 ⟨hg5, p5, rfl, ht5⟩; have hbc : Below w2.heap.size w2 w5 := (Below.refl _ _).drew.trans hg5; have hbz : Below w.heap.size w w5 := hb2.trans (hbc.mono hb2.size); have HE : Hid (SplitPost X d T b0 w (.returned (.tuple #[.pointer p5, .pointer pb])) w5) := ⟨hbz, p5, pb, rfl, ht5, HTB.out.keeps hbc⟩; have c0 := cell_keeps hbc c0; have c2 := cell_keeps hbc c2; have c3 := cell_keeps hbc c3; have c4 := cell_keeps hbc c4; have c5 := cell_keeps hbc c5; have c6 := cell_keeps hbc c6; have c7 := cell_keeps hbc c7; have c8 := cell_keeps hbc c8; have c9 := cell_keeps hbc c9; clear hg5 ht5 hbz hbc))
 all_goals (first | (go_ret2; exact HE.out) | (go_wp2_with fail; go_ret2; exact HE.out))

set_option maxRecDepth 100000 in
set_option maxHeartbeats 8000000 in
theorem split_eq (X : Nat → Prop) (d : Nat) (w : World) (x : PT) (b f : Nat) (q1 q2 pl pr : Option Addr) (ku vu : Value) (c : Bool) (S H K : Nat) (hn : NCells w b pl pr x ku vu c S H K) (eg : ∀ args w, (callFunc f args).run Tryz.prog w = .ok (.enter f args) w) (gx : Int) (hgx : gx = 0)
 (hat : ∀ V, Below w.heap.size w V → Calls Tryz.prog f #[.agg #[.int .i64 x.1.kind, .int .i64 x.1.num, .string x.1.text, ku, .int .i64 x.2.kind, .int .i64 x.2.num, .string x.2.text, vu], .pointer q1, .pointer q2] V fun e w' => e = .returned (.int .i64 gx) ∧ Below V.heap.size V w')
 (l r : RT PT) (hl : NM X d w l pl) (hr : NM X d w r pr) :
 Calls Tryz.prog 114 #[.pointer (some ⟨b, 0, none⟩), .func (.func f) #[] #[.pointer q1, .pointer q2]] w (SplitPost X d l r w) := by
 obtain ⟨c0, c1, c2, c3, c4, c5, c6, c7, c8, c9, _, _, _, _⟩ := hn
 have HA : Hid _ := hat
 have HL : Hid _ := hl
 have HRr : Hid _ := hr
 clear hat hl hr
 go_enter Tryz.func114, Tryz.ntmps114
 go_wp2_with (go_at_fn f; refine (HA.out _ (Below.refl _ _)).mono ?_; rintro e w1 ⟨rfl, hg1⟩; fail)
 go_at_fn f
 refine (HA.out _ (Below.refl _ _)).mono ?_
 rintro e w1 ⟨rfl, hg1⟩
 clear HA
 have c0 := cell_keeps hg1 c0; have c1 := cell_keeps hg1 c1; have c2 := cell_keeps hg1 c2; have c3 := cell_keeps hg1 c3; have c4 := cell_keeps hg1 c4; have c5 := cell_keeps hg1 c5; have c6 := cell_keeps hg1 c6; have c7 := cell_keeps hg1 c7; have c8 := cell_keeps hg1 c8; have c9 := cell_keeps hg1 c9
 subst hgx
 go_wp2_with fail
 go_region
 have HE : Hid (SplitPost X d l r w (.returned (.tuple #[.pointer pl, .pointer pr])) w1.drew) := ⟨hg1.drew, pl, pr, rfl, HL.out.keeps hg1.drew, HRr.out.keeps hg1.drew⟩
 (first | (go_ret2; exact HE.out) | (go_wp2_with fail; go_ret2; exact HE.out))

def AtC (X : Nat → Prop) (d f : Nat) (q1 q2 : Option Addr) (g : PT → Int) (P : PT → Prop) (w : World) : Prop :=
 ∀ V, Below w.heap.size w V → ∀ (x : PT) (ku vu : Value), P x → (LiesX X d V x.1.items ku ∧ x.1.text.size ≤ 9223372036854775807) → (LiesX X d V x.2.items vu ∧ x.2.text.size ≤ 9223372036854775807) → Calls Tryz.prog f #[.agg #[.int .i64 x.1.kind, .int .i64 x.1.num, .string x.1.text, ku, .int .i64 x.2.kind, .int .i64 x.2.num, .string x.2.text, vu], .pointer q1, .pointer q2] V fun e w' => e = .returned (.int .i64 (g x)) ∧ Below V.heap.size V w'

theorem AtC.keeps {X : Nat → Prop} {d f : Nat} {q1 q2 : Option Addr} {g : PT → Int} {P : PT → Prop} {w w' : World} (h : AtC X d f q1 q2 g P w) (hb : Below w.heap.size w w') : AtC X d f q1 q2 g P w' := fun V hV => h V (hb.trans (hV.mono hb.size))

theorem split_sizes {α : Type} (g : α → Int) : ∀ (t : RT α), (RT.split g t).1.size + (RT.split g t).2.size ≤ t.size
 | .nil => Nat.le_refl _
 | .node c l x r => by
  have h1 := split_sizes g l
  have h2 := split_sizes g r
  have hz : (RT.node c l x r).size = l.size + 1 + r.size := rfl
  unfold RT.split
  split
  ·show (RT.split g l).1.size + (RT.join (RT.split g l).2 x r).size ≤ _
   rw [join_size]; omega
  ·split
   ·show (RT.join l x (RT.split g r).1).size + (RT.split g r).2.size ≤ _
    rw [join_size]; omega
   ·show l.size + r.size ≤ _
    omega

theorem split_14 (X : Nat → Prop) (d f : Nat) (q1 q2 : Option Addr) (g : PT → Int) (P : PT → Prop) (eg : ∀ args w, (callFunc f args).run Tryz.prog w = .ok (.enter f args) w) : ∀ (t : RT PT) (p : Option Addr) (w : World), AtC X d f q1 q2 g P w → NM X d w t p → RT.Well t → (∀ x ∈ t.items, P x) → t.size < 4611686018427387904 →
 Calls Tryz.prog 114 #[.pointer p, .func (.func f) #[] #[.pointer q1, .pointer q2]] w (SplitPost X d (RT.split g t).1 (RT.split g t).2 w)
 | .nil, p, w, ha, hn, hw, hp, hs => by
  have hp : p = none := hn
  subst hp
  refine Calls.mono (split_nil f q1 q2 w) ?_
  rintro e w' ⟨rfl, rfl⟩
  exact ⟨Below.refl _ _, none, none, rfl, rfl, rfl⟩
 | .node c l x r, p, w, ha, hn, hw, hp, hs => by
  obtain ⟨b, pl, pr, ku, vu, rfl, hc, hk, hv, hl, hr⟩ := hn
  have hz : (RT.node c l x r).size = l.size + 1 + r.size := rfl
  have hat := fun V (hV : Below w.heap.size w V) => ha V hV x ku vu (hp x (by simp [RT.items])) ⟨LiesX.keeps hV hk.1, hk.2⟩ ⟨LiesX.keeps hV hv.1, hv.2⟩
  by_cases h1 : g x < 0
  ·have e9 : RT.split g (.node c l x r) = ((RT.split g l).1, RT.join (RT.split g l).2 x r) := by
    show (if _ then _ else _) = _
    rw [if_pos h1]
   rw [e9]
   have hsz := split_sizes g l
   exact split_lt X d w x b f q1 q2 pl pr ku vu c _ _ _ hc eg (g x) h1 hat _ _ _ (fun V hV => split_14 X d f q1 q2 g P eg l pl V (ha.keeps hV) (hl.keeps hV) hw.left (fun y hy => hp y (by simp [RT.items, hy])) (by omega)) (fun V q hV hq => join_14 X d V _ r x q pr ku vu hq (hr.keeps hV) (RT.split_well g l hw.left).2 hw.right ⟨LiesX.keeps hV hk.1, hk.2⟩ ⟨LiesX.keeps hV hv.1, hv.2⟩ (by omega))
  ·by_cases h2 : 0 < g x
   ·have e9 : RT.split g (.node c l x r) = (RT.join l x (RT.split g r).1, (RT.split g r).2) := by
     show (if _ then _ else if _ then _ else _) = _
     rw [if_neg h1, if_pos h2]
    rw [e9]
    have hsz := split_sizes g r
    exact split_gt X d w x b f q1 q2 pl pr ku vu c _ _ _ hc eg (g x) h2 hat _ _ _ (fun V hV => split_14 X d f q1 q2 g P eg r pr V (ha.keeps hV) (hr.keeps hV) hw.right (fun y hy => hp y (by simp [RT.items, hy])) (by omega)) (fun V q hV hq => join_14 X d V l _ x pl q ku vu (hl.keeps hV) hq hw.left (RT.split_well g r hw.right).1 ⟨LiesX.keeps hV hk.1, hk.2⟩ ⟨LiesX.keeps hV hv.1, hv.2⟩ (by omega))
   ·have e9 : RT.split g (.node c l x r) = (l, r) := by
     show (if _ then _ else if _ then _ else _) = _
     rw [if_neg h1, if_neg h2]
    rw [e9]
    exact split_eq X d w x b f q1 q2 pl pr ku vu c _ _ _ hc eg (g x) (by omega) hat l r hl hr

set_option maxRecDepth 100000 in
set_option maxHeartbeats 8000000 in
theorem with_core (X : Nat → Prop) (d f : Nat) (q1 q2 p : Option Addr) (x : PT) (ku vu : Value) (w : World) (a0 b0 T : RT PT)
 (hi : ∀ V, Below w.heap.size w V → Calls Tryz.prog 114 #[.pointer p, .func (.func f) #[] #[.pointer q1, .pointer q2]] V (SplitPost X d a0 b0 V)) (hj : ∀ V p q, Below w.heap.size w V → NM X d V a0 p → NM X d V b0 q → Calls Tryz.prog 119 #[.pointer p, .agg #[.int .i64 x.1.kind, .int .i64 x.1.num, .string x.1.text, ku, .int .i64 x.2.kind, .int .i64 x.2.num, .string x.2.text, vu], .pointer q] V (TreePost X d T V)) :
 Calls Tryz.prog 72 #[.pointer p, .agg #[.int .i64 x.1.kind, .int .i64 x.1.num, .string x.1.text, ku, .int .i64 x.2.kind, .int .i64 x.2.num, .string x.2.text, vu], .func (.func f) #[] #[.pointer q1, .pointer q2]] w (TreePost X d T w) := by
 have HI : Hid _ := hi
 have HJ : Hid _ := hj
 clear hi hj
 go_enter Tryz.func72, Tryz.ntmps72
 go_wp2_with fail
 obtain ⟨W0, hW0⟩ : ∃ W0, W0 = w.alloc (.cells #[.int .i64 x.1.kind, .int .i64 x.1.num, .string x.1.text, ku, .int .i64 x.2.kind, .int .i64 x.2.num, .string x.2.text, vu] 69) := ⟨_, rfl⟩
 rw [← hW0]
 have hb0 : Below w.heap.size w W0 := by rw [hW0]; exact ((Grew.refl w).alloc _).below
 have x0 : W0.cell? ⟨w.heap.size, 0, none⟩ = some (.int .i64 x.1.kind) := by rw [hW0]; simp
 have x1 : W0.cell? ⟨w.heap.size, 1, none⟩ = some (.int .i64 x.1.num) := by rw [hW0]; simp
 have x2 : W0.cell? ⟨w.heap.size, 2, none⟩ = some (.string x.1.text) := by rw [hW0]; simp
 have x3 : W0.cell? ⟨w.heap.size, 3, none⟩ = some (ku) := by rw [hW0]; simp
 have x4 : W0.cell? ⟨w.heap.size, 4, none⟩ = some (.int .i64 x.2.kind) := by rw [hW0]; simp
 have x5 : W0.cell? ⟨w.heap.size, 5, none⟩ = some (.int .i64 x.2.num) := by rw [hW0]; simp
 have x6 : W0.cell? ⟨w.heap.size, 6, none⟩ = some (.string x.2.text) := by rw [hW0]; simp
 have x7 : W0.cell? ⟨w.heap.size, 7, none⟩ = some (vu) := by rw [hW0]; simp
 clear hW0
 refine (HI.out _ hb0).mono ?_
 rintro e w2 ⟨hg2, pa, pb, rfl, hta, htb⟩
 have hb2 : Below w.heap.size w w2 := hb0.trans (hg2.mono hb0.size)
 have x0 := cell_keeps hg2 x0; have x1 := cell_keeps hg2 x1; have x2 := cell_keeps hg2 x2; have x3 := cell_keeps hg2 x3; have x4 := cell_keeps hg2 x4; have x5 := cell_keeps hg2 x5; have x6 := cell_keeps hg2 x6; have x7 := cell_keeps hg2 x7
 have HJ2 : Hid _ := HJ.out _ _ _ hb2 hta htb
 clear hta htb hg2 HI HJ hb0
 go_wp2_with fail
 refine Calls.mono HJ2.out ?_
 rintro e w5 ⟨hg5, p5, rfl, ht5⟩
 have HE : Hid (TreePost X d T w (.returned (.pointer p5)) w5) := ⟨hb2.trans (hg5.mono hb2.size), p5, rfl, ht5⟩
 clear hg5 ht5 HJ2
 go_wp2_with fail
 go_ret
 exact HE.out

set_option maxRecDepth 100000 in
set_option maxHeartbeats 8000000 in
theorem without_core (X : Nat → Prop) (d f : Nat) (q1 q2 p : Option Addr) (w : World) (a0 b0 T : RT PT)
 (hi : Calls Tryz.prog 114 #[.pointer p, .func (.func f) #[] #[.pointer q1, .pointer q2]] w (SplitPost X d a0 b0 w)) (hj : ∀ V p q, NM X d V a0 p → NM X d V b0 q → Calls Tryz.prog 113 #[.pointer p, .pointer q] V (TreePost X d T V)) :
 Calls Tryz.prog 66 #[.pointer p, .func (.func f) #[] #[.pointer q1, .pointer q2]] w (TreePost X d T w) := by
 have HI : Hid _ := hi
 have HJ : Hid _ := hj
 clear hi hj
 go_enter Tryz.func66, Tryz.ntmps66
 go_wp2_with fail
 refine Calls.mono HI.out ?_
 rintro e w2 ⟨hg2, pa, pb, rfl, hta, htb⟩
 have HJ2 : Hid _ := HJ.out _ _ _ hta htb
 clear hta htb HI HJ
 go_wp2_with fail
 refine Calls.mono HJ2.out ?_
 rintro e w5 ⟨hg5, p5, rfl, ht5⟩
 have HE : Hid (TreePost X d T w (.returned (.pointer p5)) w5) := ⟨hg2.trans (hg5.mono hg2.size), p5, rfl, ht5⟩
 clear hg5 ht5 HJ2 hg2
 go_wp2_with fail
 go_ret
 exact HE.out

theorem with_14 (X : Nat → Prop) (d f : Nat) (q1 q2 p : Option Addr) (g : PT → Int) (P : PT → Prop) (eg : ∀ args w, (callFunc f args).run Tryz.prog w = .ok (.enter f args) w) (t : RT PT) (x : PT) (ku vu : Value) (w : World) (ha : AtC X d f q1 q2 g P w) (hn : NM X d w t p) (hw : RT.Well t) (hp : ∀ x ∈ t.items, P x) (hs : t.size + 1 < 4611686018427387904) (hk : LiesX X d w x.1.items ku ∧ x.1.text.size ≤ 9223372036854775807) (hv : LiesX X d w x.2.items vu ∧ x.2.text.size ≤ 9223372036854775807) :
 Calls Tryz.prog 72 #[.pointer p, .agg #[.int .i64 x.1.kind, .int .i64 x.1.num, .string x.1.text, ku, .int .i64 x.2.kind, .int .i64 x.2.num, .string x.2.text, vu], .func (.func f) #[] #[.pointer q1, .pointer q2]] w (TreePost X d (RT.with_ g x t) w) := by
 have hz := split_sizes g t
 exact with_core X d f q1 q2 p x ku vu w _ _ _ (fun V hV => split_14 X d f q1 q2 g P eg t p V (ha.keeps hV) (hn.keeps hV) hw hp (by omega)) (fun V a b hV h1 h2 => join_14 X d V _ _ x a b ku vu h1 h2 (RT.split_well g t hw).1 (RT.split_well g t hw).2 ⟨LiesX.keeps hV hk.1, hk.2⟩ ⟨LiesX.keeps hV hv.1, hv.2⟩ (by omega))

theorem without_14 (X : Nat → Prop) (d f : Nat) (q1 q2 p : Option Addr) (g : PT → Int) (P : PT → Prop) (eg : ∀ args w, (callFunc f args).run Tryz.prog w = .ok (.enter f args) w) (t : RT PT) (w : World) (ha : AtC X d f q1 q2 g P w) (hn : NM X d w t p) (hw : RT.Well t) (hp : ∀ x ∈ t.items, P x) (hs : t.size + 1 < 4611686018427387904) :
 Calls Tryz.prog 66 #[.pointer p, .func (.func f) #[] #[.pointer q1, .pointer q2]] w (TreePost X d (RT.without g t) w) := by
 have hz := split_sizes g t
 exact without_core X d f q1 q2 p w _ _ _ (split_14 X d f q1 q2 g P eg t p w ha hn hw hp (by omega)) (fun V a b h1 h2 => together_14 X d V _ _ a b h1 h2 (RT.split_well g t hw).1 (RT.split_well g t hw).2 (by omega))

end Go.Proofs.YtlnecfjnffdciaaGreat

