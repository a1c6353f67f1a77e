import Derived.Test.YtlnecfjnffdciaaGreatInPlR
import Derived.Test.YtlnecfjnffdciaaGreatLevel
import Derived.Deep.RegionHeld3
import Derived.Test.YtlnecfjnffdciaaGreatPairsM
import Derived.Test.YtlnecfjnffdciaaGreatRunesP
namespace Go.Proofs.YtlnecfjnffdciaaGreat
open Go.RowKit Go.Shelf

def NearPost (o : Option PT) (E : Int) (w : World) (e : Ending) (w' : World) : Prop := Below w.heap.size w w' ∧ ((o = none ∧ e = .returned (.tuple #[zeroPV, .bool false, .int .i64 E])) ∨ ∃ x ku vu, o = some x ∧ E = 0 ∧ e = .returned (.tuple #[pairV x ku vu, .bool true, .int .i64 0]) ∧ LiesB w.heap.size 16 w' x.1.items ku ∧ LiesB w.heap.size 16 w' x.2.items vu)

set_option maxRecDepth 100000 in
set_option maxHeartbeats 8000000 in
theorem lasto_right (d b q : Nat) (cn : Bool) (t : RT PT) (y : VT) (yu : Value) (w : World) (hm : MC w q t b) (hy : Lies d w y.items yu) (ht : y.text.size ≤ 9223372036854775807) (hr : rightV d y = true) : Calls Tryz.prog 121 #[.pointer (some ⟨b, 0, none⟩), .agg #[.int .i64 y.kind, .int .i64 y.num, .string y.text, yu], .bool cn] w (NearPost (itemAt t.items ((RT.upTo (atK q y) cn t : Nat) - 1 : Int)) 0 w) := by
 obtain ⟨ak, ck, rfl, _⟩ := Lies.slice hy
 obtain ⟨n, hn⟩ : ∃ n, n = RT.upTo (atK q y) cn t := ⟨_, rfl⟩
 have hnz : n ≤ 65536 := by rw [hn]; exact Nat.le_trans (RT.upTo_le _ _ _) hm.size
 rw [← hn]
 have HU : Hid (∀ V, Below w.heap.size w V → Calls Tryz.prog 85 #[.pointer (some ⟨b, 0, none⟩), .agg #[.int .i64 y.kind, .int .i64 y.num, .string y.text, .slice ak y.items.length ck], .bool cn] V fun e w' => e = .returned (.tuple #[.int .i64 (n : Int), .int .i64 0]) ∧ Below V.heap.size V w') := fun V hV => by rw [hn]; exact upto_right d b q cn t y _ V (hm.keeps hV) (Lies.keeps hV _ _ _ hy) ht hr
 obtain ⟨O, hO⟩ : ∃ O, O = itemAt t.items ((n : Int) - 1) := ⟨_, rfl⟩
 have HI : Hid (∀ V, Below w.heap.size w V → Calls Tryz.prog 169 #[.pointer (some ⟨b, 0, none⟩), .int .i64 ((n : Int) - 1)] V (InPost O V)) := fun V hV => by rw [hO]; exact inpl_15 b q t _ V (hm.keeps hV)
 rw [← hO]
 have e1 : IntKind.i64.wrap ((n : Int) - 1) = (n : Int) - 1 := by rw [IntKind.wrap_i64]; omega
 obtain ⟨W0, hW0⟩ : ∃ W0, W0 = (w.alloc (.cells #[.int .i64 y.kind, .int .i64 y.num, .string y.text, .slice ak y.items.length ck] 34)).alloc (.cells #[.int .i64 0, .int .i64 0, .string ⟨#[]⟩, .slice none 0 0, .int .i64 0, .int .i64 0, .string ⟨#[]⟩, .slice none 0 0] 69) := ⟨_, rfl⟩
 have HW0 : Hid (W0 = (w.alloc (.cells #[.int .i64 y.kind, .int .i64 y.num, .string y.text, .slice ak y.items.length ck] 34)).alloc (.cells #[.int .i64 0, .int .i64 0, .string ⟨#[]⟩, .slice none 0 0, .int .i64 0, .int .i64 0, .string ⟨#[]⟩, .slice none 0 0] 69)) := hW0
 have hb0 : Below w.heap.size w W0 := by rw [hW0]; exact (((Grew.refl w).alloc _).alloc _).below
 have HS0 : Hid (W0.heap.size = w.heap.size + 1 + 1) := by rw [hW0]; show _ = _; simp
 have HK0 : Hid (Bx W0 w.heap.size y (.slice ak y.items.length ck)) := by rw [hW0]; exact (bx_alloc w y _).keeps ((Grew.refl _).alloc _).below
 have HZ0 : Hid (Bx8 W0 (w.heap.size + 1) (.int .i64 0) (.int .i64 0) (.string ⟨#[]⟩) (.slice none 0 0) (.int .i64 0) (.int .i64 0) (.string ⟨#[]⟩) (.slice none 0 0)) := by
  rw [hW0]
  have h9 := bx8_alloc (w.alloc (.cells #[.int .i64 y.kind, .int .i64 y.num, .string y.text, .slice ak y.items.length ck] 34)) 69 (.int .i64 0) (.int .i64 0) (.string ⟨#[]⟩) (.slice none 0 0) (.int .i64 0) (.int .i64 0) (.string ⟨#[]⟩) (.slice none 0 0)
  rwa [World.size_alloc] at h9
 obtain ⟨k0, k1, k2, k3, _, _, _, _⟩ := HK0.out
 clear hW0 hy ht hr hm hn hO hnz
 go_enter Tryz.func121, Tryz.ntmps121
 go_upto_region 1 with fail
 rw [← HW0.out]
 clear HW0
 go_wp2_with fail
 refine Calls.mono (HU.out _ hb0) ?_
 rintro e w1 ⟨rfl, hg1⟩
 have HZ1 : Hid (Bx8 w1 (w.heap.size + 1) (.int .i64 0) (.int .i64 0) (.string ⟨#[]⟩) (.slice none 0 0) (.int .i64 0) (.int .i64 0) (.string ⟨#[]⟩) (.slice none 0 0)) := HZ0.out.keeps hg1
 have hb1 : Below w.heap.size w w1 := hb0.trans (hg1.mono hb0.size)
 have HS1 : Hid (w.heap.size + 1 < w1.heap.size) := by have h9 := cell_lt HZ1.out.c0; show w.heap.size + 1 < w1.heap.size; simpa using h9
 clear hg1 HU k0 k1 k2 k3 HK0 HZ0 hb0
 go_wp2_with fail
 refine Calls.mono (HI.out _ hb1) ?_
 rintro e w2 ⟨hg2, hcase⟩
 have HZ2 : Hid (Bx8 w2 (w.heap.size + 1) (.int .i64 0) (.int .i64 0) (.string ⟨#[]⟩) (.slice none 0 0) (.int .i64 0) (.int .i64 0) (.string ⟨#[]⟩) (.slice none 0 0)) := HZ1.out.keeps hg2
 have hb2 : Below w.heap.size w w2 := hb1.trans (hg2.mono hb1.size)
 clear hg2 HI HZ1
 rcases hcase with ⟨ho, rfl⟩ | ⟨x, ku, vu, ho, rfl, hl5, hl6⟩
 ·obtain ⟨W3, hW3⟩ : ∃ W3, W3 = w2.alloc (.cells #[.int .i64 0, .int .i64 0, .string ⟨#[]⟩, .slice none 0 0, .int .i64 0, .int .i64 0, .string ⟨#[]⟩, .slice none 0 0] 69) := ⟨_, rfl⟩
  have HW3 : Hid (W3 = w2.alloc (.cells #[.int .i64 0, .int .i64 0, .string ⟨#[]⟩, .slice none 0 0, .int .i64 0, .int .i64 0, .string ⟨#[]⟩, .slice none 0 0] 69)) := hW3
  have hal : Below w2.heap.size w2 W3 := by rw [hW3]; exact ((Grew.refl w2).alloc _).below
  have HB3 : Hid (Bx8 W3 w2.heap.size (.int .i64 0) (.int .i64 0) (.string ⟨#[]⟩) (.slice none 0 0) (.int .i64 0) (.int .i64 0) (.string ⟨#[]⟩) (.slice none 0 0)) := by rw [hW3]; exact bx8_alloc _ _ _ _ _ _ _ _ _ _
  have HZ3 : Hid (Bx8 W3 (w.heap.size + 1) (.int .i64 0) (.int .i64 0) (.string ⟨#[]⟩) (.slice none 0 0) (.int .i64 0) (.int .i64 0) (.string ⟨#[]⟩) (.slice none 0 0)) := HZ2.out.keeps hal
  have hb3 : Below w.heap.size w W3 := hb2.trans (hal.mono hb2.size)
  obtain ⟨y0, y1, y2, y3, y4, y5, y6, y7, f0, f1, f2, f3, f4, f5, f6, f7, _⟩ := HZ3.out
  obtain ⟨z0, z1, z2, z3, z4, z5, z6, z7, _, _, _, _, _, _, _, _, _⟩ := HB3.out
  have Hq : Hid _ := put8_in HZ3.out (.int .i64 0) (.int .i64 0) (.string ⟨#[]⟩) (.slice none 0 0) (.int .i64 0) (.int .i64 0) (.string ⟨#[]⟩) (.slice none 0 0)
  have HE : Hid (NearPost O 0 w (.returned (.tuple #[.agg #[.int .i64 0, .int .i64 0, .string ⟨#[]⟩, .slice none 0 0, .int .i64 0, .int .i64 0, .string ⟨#[]⟩, .slice none 0 0], .bool false, .int .i64 0])) (W3.setCells (w.heap.size + 1) 0 [.int .i64 0, .int .i64 0, .string ⟨#[]⟩, .slice none 0 0, .int .i64 0, .int .i64 0, .string ⟨#[]⟩, .slice none 0 0])) := ⟨below_put8 hb3 (by omega) _ _ _ _ _ _ _ _, .inl ⟨ho, rfl⟩⟩
  clear hW3 hal ho hb1 hb2 hb3
  go_upto_region 5 with fail
  rw [← HW3.out]
  clear HW3
  go_wp2_with fail
  refine bodyPost_ret (v := .tuple #[.agg #[.int .i64 0, .int .i64 0, .string ⟨#[]⟩, .slice none 0 0, .int .i64 0, .int .i64 0, .string ⟨#[]⟩, .slice none 0 0], .bool false, .int .i64 0]) ?_ rfl HE.out
  obtain ⟨q0, q1, q2, q3, q4, q5, q6, q7⟩ := Hq.out
  simp only [World.setCells, Nat.zero_add, Nat.reduceAdd] at q0 q1 q2 q3 q4 q5 q6 q7
  simp [results, Tryz.results121, go_sem, q0, q1, q2, q3, q4, q5, q6, q7]
 ·obtain ⟨a5, c5, rfl, _⟩ := LiesB.slice hl5
  obtain ⟨a6, c6, rfl, _⟩ := LiesB.slice hl6
  obtain ⟨W3, hW3⟩ : ∃ W3, W3 = w2.alloc (.cells #[.int .i64 x.1.kind, .int .i64 x.1.num, .string x.1.text, .slice a5 x.1.items.length c5, .int .i64 x.2.kind, .int .i64 x.2.num, .string x.2.text, .slice a6 x.2.items.length c6] 69) := ⟨_, rfl⟩
  have HW3 : Hid (W3 = w2.alloc (.cells #[.int .i64 x.1.kind, .int .i64 x.1.num, .string x.1.text, .slice a5 x.1.items.length c5, .int .i64 x.2.kind, .int .i64 x.2.num, .string x.2.text, .slice a6 x.2.items.length c6] 69)) := hW3
  have hal : Below w2.heap.size w2 W3 := by rw [hW3]; exact ((Grew.refl w2).alloc _).below
  have HB3 : Hid (Bx8 W3 w2.heap.size (.int .i64 x.1.kind) (.int .i64 x.1.num) (.string x.1.text) (.slice a5 x.1.items.length c5) (.int .i64 x.2.kind) (.int .i64 x.2.num) (.string x.2.text) (.slice a6 x.2.items.length c6)) := by rw [hW3]; exact bx8_alloc _ _ _ _ _ _ _ _ _ _
  have HZ3 : Hid (Bx8 W3 (w.heap.size + 1) (.int .i64 0) (.int .i64 0) (.string ⟨#[]⟩) (.slice none 0 0) (.int .i64 0) (.int .i64 0) (.string ⟨#[]⟩) (.slice none 0 0)) := HZ2.out.keeps hal
  have hb3 : Below w.heap.size w W3 := hb2.trans (hal.mono hb2.size)
  obtain ⟨y0, y1, y2, y3, y4, y5, y6, y7, f0, f1, f2, f3, f4, f5, f6, f7, _⟩ := HZ3.out
  obtain ⟨z0, z1, z2, z3, z4, z5, z6, z7, _, _, _, _, _, _, _, _, _⟩ := HB3.out
  have Hq : Hid _ := put8_in HZ3.out (.int .i64 x.1.kind) (.int .i64 x.1.num) (.string x.1.text) (.slice a5 x.1.items.length c5) (.int .i64 x.2.kind) (.int .i64 x.2.num) (.string x.2.text) (.slice a6 x.2.items.length c6)
  have HE : Hid (NearPost O 0 w (.returned (.tuple #[.agg #[.int .i64 x.1.kind, .int .i64 x.1.num, .string x.1.text, .slice a5 x.1.items.length c5, .int .i64 x.2.kind, .int .i64 x.2.num, .string x.2.text, .slice a6 x.2.items.length c6], .bool true, .int .i64 0])) (W3.setCells (w.heap.size + 1) 0 [.int .i64 x.1.kind, .int .i64 x.1.num, .string x.1.text, .slice a5 x.1.items.length c5, .int .i64 x.2.kind, .int .i64 x.2.num, .string x.2.text, .slice a6 x.2.items.length c6])) := ⟨below_put8 hb3 (by omega) _ _ _ _ _ _ _ _, .inr ⟨x, _, _, ho, rfl, rfl, LiesB.lower14 hb1.size _ _ _ (LiesB.put8 HS1.out _ (LiesB.keepsB hal hl5)), LiesB.lower14 hb1.size _ _ _ (LiesB.put8 HS1.out _ (LiesB.keepsB hal hl6))⟩⟩
  clear hW3 hal ho hb1 hb2 hb3 hl5 hl6
  go_upto_region 5 with fail
  rw [← HW3.out]
  clear HW3
  go_wp2_with fail
  refine bodyPost_ret (v := .tuple #[.agg #[.int .i64 x.1.kind, .int .i64 x.1.num, .string x.1.text, .slice a5 x.1.items.length c5, .int .i64 x.2.kind, .int .i64 x.2.num, .string x.2.text, .slice a6 x.2.items.length c6], .bool true, .int .i64 0]) ?_ rfl HE.out
  obtain ⟨q0, q1, q2, q3, q4, q5, q6, q7⟩ := Hq.out
  simp only [World.setCells, Nat.zero_add, Nat.reduceAdd] at q0 q1 q2 q3 q4 q5 q6 q7
  simp [results, Tryz.results121, go_sem, q0, q1, q2, q3, q4, q5, q6, q7]

end Go.Proofs.YtlnecfjnffdciaaGreat

namespace Go.Proofs.YtlnecfjnffdciaaGreat
open Go.RowKit Go.Shelf

set_option maxRecDepth 100000 in
set_option maxHeartbeats 8000000 in
theorem floor15_core (O : Option PT) (E : Int) (b : Nat) (y : VT) (ak : Option Addr) (ck : Nat) (w : World) (hc : ∀ V, Below w.heap.size w V → Calls Tryz.prog 121 #[.pointer (some ⟨b, 0, none⟩), .agg #[.int .i64 y.kind, .int .i64 y.num, .string y.text, .slice ak y.items.length ck], .bool true] V (NearPost O E V)) : Calls Tryz.prog 83 #[.pointer (some ⟨b, 0, none⟩), .agg #[.int .i64 y.kind, .int .i64 y.num, .string y.text, .slice ak y.items.length ck]] w (NearPost O E w) := by
 have HU : Hid _ := hc
 obtain ⟨W0, hW0⟩ : ∃ W0, W0 = (w.alloc (.cells #[.int .i64 y.kind, .int .i64 y.num, .string y.text, .slice ak y.items.length ck] 34)).alloc (.cells #[.int .i64 0, .int .i64 0, .string ⟨#[]⟩, .slice none 0 0, .int .i64 0, .int .i64 0, .string ⟨#[]⟩, .slice none 0 0] 69) := ⟨_, rfl⟩
 have HW0 : Hid (W0 = (w.alloc (.cells #[.int .i64 y.kind, .int .i64 y.num, .string y.text, .slice ak y.items.length ck] 34)).alloc (.cells #[.int .i64 0, .int .i64 0, .string ⟨#[]⟩, .slice none 0 0, .int .i64 0, .int .i64 0, .string ⟨#[]⟩, .slice none 0 0] 69)) := hW0
 have hb0 : Below w.heap.size w W0 := by rw [hW0]; exact (((Grew.refl w).alloc _).alloc _).below
 have HS0 : Hid (w.heap.size + 1 < W0.heap.size) := by rw [hW0]; show _ < _; simp
 have HK0 : Hid (Bx W0 w.heap.size y (.slice ak y.items.length ck)) := by rw [hW0]; exact (bx_alloc w y _).keeps ((Grew.refl _).alloc _).below
 have HZ0 : Hid (Bx8 W0 (w.heap.size + 1) (.int .i64 0) (.int .i64 0) (.string ⟨#[]⟩) (.slice none 0 0) (.int .i64 0) (.int .i64 0) (.string ⟨#[]⟩) (.slice none 0 0)) := by
  rw [hW0]
  have h9 := bx8_alloc (w.alloc (.cells #[.int .i64 y.kind, .int .i64 y.num, .string y.text, .slice ak y.items.length ck] 34)) 69 (.int .i64 0) (.int .i64 0) (.string ⟨#[]⟩) (.slice none 0 0) (.int .i64 0) (.int .i64 0) (.string ⟨#[]⟩) (.slice none 0 0)
  rwa [World.size_alloc] at h9
 obtain ⟨k0, k1, k2, k3, _, _, _, _⟩ := HK0.out
 clear hW0 hc
 go_enter Tryz.func83, Tryz.ntmps83
 go_upto_region 1 with fail
 rw [← HW0.out]
 clear HW0
 go_wp2_with fail
 refine Calls.mono (HU.out _ hb0) ?_
 rintro e w2 ⟨hg2, hcase⟩
 have HZ2 : Hid (Bx8 w2 (w.heap.size + 1) (.int .i64 0) (.int .i64 0) (.string ⟨#[]⟩) (.slice none 0 0) (.int .i64 0) (.int .i64 0) (.string ⟨#[]⟩) (.slice none 0 0)) := HZ0.out.keeps hg2
 have hb2 : Below w.heap.size w w2 := hb0.trans (hg2.mono hb0.size)
 obtain ⟨y0, y1, y2, y3, y4, y5, y6, y7, f0, f1, f2, f3, f4, f5, f6, f7, _⟩ := HZ2.out
 clear hg2 HU HZ0 k0 k1 k2 k3 HK0
 rcases hcase with ⟨ho, rfl⟩ | ⟨x, ku, vu, ho, hE, rfl, hl5, hl6⟩
 ·have Hq : Hid _ := put8_in HZ2.out (.int .i64 0) (.int .i64 0) (.string ⟨#[]⟩) (.slice none 0 0) (.int .i64 0) (.int .i64 0) (.string ⟨#[]⟩) (.slice none 0 0)
  have HE : Hid (NearPost O E w (.returned (.tuple #[.agg #[.int .i64 0, .int .i64 0, .string ⟨#[]⟩, .slice none 0 0, .int .i64 0, .int .i64 0, .string ⟨#[]⟩, .slice none 0 0], .bool false, .int .i64 E])) (w2.setCells (w.heap.size + 1) 0 [.int .i64 0, .int .i64 0, .string ⟨#[]⟩, .slice none 0 0, .int .i64 0, .int .i64 0, .string ⟨#[]⟩, .slice none 0 0])) := ⟨below_put8 hb2 (by omega) _ _ _ _ _ _ _ _, .inl ⟨ho, rfl⟩⟩
  clear ho hb0 hb2
  go_wp2_with fail
  refine bodyPost_ret (v := .tuple #[.agg #[.int .i64 0, .int .i64 0, .string ⟨#[]⟩, .slice none 0 0, .int .i64 0, .int .i64 0, .string ⟨#[]⟩, .slice none 0 0], .bool false, .int .i64 E]) ?_ rfl HE.out
  obtain ⟨q0, q1, q2, q3, q4, q5, q6, q7⟩ := Hq.out
  simp only [World.setCells, Nat.zero_add, Nat.reduceAdd] at q0 q1 q2 q3 q4 q5 q6 q7
  simp [results, Tryz.results83, go_sem, q0, q1, q2, q3, q4, q5, q6, q7]
 ·obtain ⟨a5, c5, rfl, _⟩ := LiesB.slice hl5
  obtain ⟨a6, c6, rfl, _⟩ := LiesB.slice hl6
  have Hq : Hid _ := put8_in HZ2.out (.int .i64 x.1.kind) (.int .i64 x.1.num) (.string x.1.text) (.slice a5 x.1.items.length c5) (.int .i64 x.2.kind) (.int .i64 x.2.num) (.string x.2.text) (.slice a6 x.2.items.length c6)
  have HE : Hid (NearPost O E w (.returned (.tuple #[.agg #[.int .i64 x.1.kind, .int .i64 x.1.num, .string x.1.text, .slice a5 x.1.items.length c5, .int .i64 x.2.kind, .int .i64 x.2.num, .string x.2.text, .slice a6 x.2.items.length c6], .bool true, .int .i64 0])) (w2.setCells (w.heap.size + 1) 0 [.int .i64 x.1.kind, .int .i64 x.1.num, .string x.1.text, .slice a5 x.1.items.length c5, .int .i64 x.2.kind, .int .i64 x.2.num, .string x.2.text, .slice a6 x.2.items.length c6])) := ⟨below_put8 hb2 (by omega) _ _ _ _ _ _ _ _, .inr ⟨x, _, _, ho, hE, rfl, LiesB.lower14 hb0.size _ _ _ (LiesB.put8 HS0.out _ hl5), LiesB.lower14 hb0.size _ _ _ (LiesB.put8 HS0.out _ hl6)⟩⟩
  clear ho hb0 hb2 hl5 hl6 hE
  go_wp2_with fail
  refine bodyPost_ret (v := .tuple #[.agg #[.int .i64 x.1.kind, .int .i64 x.1.num, .string x.1.text, .slice a5 x.1.items.length c5, .int .i64 x.2.kind, .int .i64 x.2.num, .string x.2.text, .slice a6 x.2.items.length c6], .bool true, .int .i64 0]) ?_ rfl HE.out
  obtain ⟨q0, q1, q2, q3, q4, q5, q6, q7⟩ := Hq.out
  simp only [World.setCells, Nat.zero_add, Nat.reduceAdd] at q0 q1 q2 q3 q4 q5 q6 q7
  simp [results, Tryz.results83, go_sem, q0, q1, q2, q3, q4, q5, q6, q7]

theorem floor15_right (d b q : Nat) (t : RT PT) (y : VT) (yu : Value) (w : World) (hm : MC w q t b) (hy : Lies d w y.items yu) (ht : y.text.size ≤ 9223372036854775807) (hr : rightV d y = true) : Calls Tryz.prog 83 #[.pointer (some ⟨b, 0, none⟩), .agg #[.int .i64 y.kind, .int .i64 y.num, .string y.text, yu]] w (NearPost (itemAt t.items ((RT.upTo (atK q y) true t : Nat) - 1 : Int)) 0 w) := by
 obtain ⟨ak, ck, rfl, _⟩ := Lies.slice hy
 exact floor15_core _ 0 b y ak ck w fun V hV => lasto_right d b q true t y _ V (hm.keeps hV) (Lies.keeps hV _ _ _ hy) ht hr

set_option maxRecDepth 100000 in
set_option maxHeartbeats 8000000 in
theorem rank15_core (n : Nat) (E : Int) (b : Nat) (y : VT) (ak : Option Addr) (ck : Nat) (w : World) (hc : ∀ V, Below w.heap.size w V → Calls Tryz.prog 85 #[.pointer (some ⟨b, 0, none⟩), .agg #[.int .i64 y.kind, .int .i64 y.num, .string y.text, .slice ak y.items.length ck], .bool false] V fun e w' => e = .returned (.tuple #[.int .i64 (n : Int), .int .i64 E]) ∧ Below V.heap.size V w') : Calls Tryz.prog 84 #[.pointer (some ⟨b, 0, none⟩), .agg #[.int .i64 y.kind, .int .i64 y.num, .string y.text, .slice ak y.items.length ck]] w fun e w' => e = .returned (.tuple #[.int .i64 (n : Int), .int .i64 E]) ∧ Below w.heap.size w w' := by
 have HU : Hid _ := hc
 have HB : Hid (Below w.heap.size w (w.alloc (.cells #[.int .i64 y.kind, .int .i64 y.num, .string y.text, .slice ak y.items.length ck] 34))) := ((Grew.refl w).alloc _).below
 clear hc
 go_enter Tryz.func84, Tryz.ntmps84
 go_wp2_with fail
 refine Calls.mono (HU.out _ HB.out) ?_
 rintro e w2 ⟨rfl, hg2⟩
 have hb2 : Below w.heap.size w w2 := HB.out.trans (hg2.mono HB.out.size)
 clear hg2 HU HB
 go_wp2_with fail
 first | (go_ret; exact ⟨rfl, hb2⟩) | (go_ret2; exact ⟨rfl, hb2⟩)

theorem rank15_right (d b q : Nat) (t : RT PT) (y : VT) (yu : Value) (w : World) (hm : MC w q t b) (hy : Lies d w y.items yu) (ht : y.text.size ≤ 9223372036854775807) (hr : rightV d y = true) : Calls Tryz.prog 84 #[.pointer (some ⟨b, 0, none⟩), .agg #[.int .i64 y.kind, .int .i64 y.num, .string y.text, yu]] w fun e w' => e = .returned (.tuple #[.int .i64 (RT.upTo (atK q y) false t : Nat), .int .i64 0]) ∧ Below w.heap.size w w' := by
 obtain ⟨ak, ck, rfl, _⟩ := Lies.slice hy
 exact rank15_core _ 0 b y ak ck w fun V hV => upto_right d b q false t y _ V (hm.keeps hV) (Lies.keeps hV _ _ _ hy) ht hr

end Go.Proofs.YtlnecfjnffdciaaGreat

namespace Go.Proofs.YtlnecfjnffdciaaGreat
open Go.RowKit Go.Shelf

structure PrL (w : World) (x : PT) (k v : Value) : Prop where
 key : Lies 16 w x.1.items k
 val : Lies 16 w x.2.items v

theorem PrL.keeps {w w' : World} {x : PT} {k v : Value} (h : PrL w x k v) (hb : Below w.heap.size w w') : PrL w' x k v := ⟨Lies.keeps hb _ _ _ h.key, Lies.keeps hb _ _ _ h.val⟩

theorem PrL.slices {w : World} {x : PT} {k v : Value} (h : PrL w x k v) : ∃ a1 c1 a2 c2, k = .slice a1 x.1.items.length c1 ∧ v = .slice a2 x.2.items.length c2 := by
 obtain ⟨a1, c1, e1, _⟩ := Lies.slice h.key
 obtain ⟨a2, c2, e2, _⟩ := Lies.slice h.val
 exact ⟨a1, c1, a2, c2, e1, e2⟩

set_option maxRecDepth 100000 in
set_option maxHeartbeats 4000000 in
theorem pair15_same (x : PT) (k1 v1 k2 v2 : Value) (w : World) (h1 : PrL w x k1 v1) (h2 : PrL w x k2 v2) : Calls Tryz.prog 82 #[.agg #[.int .i64 x.1.kind, .int .i64 x.1.num, .string x.1.text, k1, .int .i64 x.2.kind, .int .i64 x.2.num, .string x.2.text, v1], .agg #[.int .i64 x.1.kind, .int .i64 x.1.num, .string x.1.text, k2, .int .i64 x.2.kind, .int .i64 x.2.num, .string x.2.text, v2]] w fun e w' => e = .returned (.bool true) ∧ Below w.heap.size w w' := by
 obtain ⟨a1, c1, a2, c2, rfl, rfl⟩ := h1.slices
 obtain ⟨a3, c3, a4, c4, rfl, rfl⟩ := h2.slices
 have HK : Hid (∀ V, Below w.heap.size w V → Calls Tryz.prog 17 #[.agg #[.int .i64 x.1.kind, .int .i64 x.1.num, .string x.1.text, .slice a1 x.1.items.length c1], .agg #[.int .i64 x.1.kind, .int .i64 x.1.num, .string x.1.text, .slice a3 x.1.items.length c3]] V fun e W' => e = .returned (.bool true) ∧ Below V.heap.size V W') := fun V hV => (same_any 16 x.1 x.1 _ _ V (Lies.keeps hV _ _ _ h1.key) (Lies.keeps hV _ _ _ h2.key)).mono fun e W' h => ⟨by rw [h.1, sameV_self], h.2.below⟩
 have HV : Hid (∀ V, Below w.heap.size w V → Calls Tryz.prog 17 #[.agg #[.int .i64 x.2.kind, .int .i64 x.2.num, .string x.2.text, .slice a2 x.2.items.length c2], .agg #[.int .i64 x.2.kind, .int .i64 x.2.num, .string x.2.text, .slice a4 x.2.items.length c4]] V fun e W' => e = .returned (.bool true) ∧ Below V.heap.size V W') := fun V hV => (same_any 16 x.2 x.2 _ _ V (Lies.keeps hV _ _ _ h1.val) (Lies.keeps hV _ _ _ h2.val)).mono fun e W' h => ⟨by rw [h.1, sameV_self], h.2.below⟩
 clear h1 h2
 obtain ⟨A1, hA1⟩ : ∃ A1, A1 = w.alloc (.cells #[.int .i64 x.1.kind, .int .i64 x.1.num, .string x.1.text, .slice a1 x.1.items.length c1, .int .i64 x.2.kind, .int .i64 x.2.num, .string x.2.text, .slice a2 x.2.items.length c2] 69) := ⟨_, rfl⟩
 obtain ⟨A2, hA2⟩ : ∃ A2, A2 = A1.alloc (.cells #[.int .i64 x.1.kind, .int .i64 x.1.num, .string x.1.text, .slice a3 x.1.items.length c3, .int .i64 x.2.kind, .int .i64 x.2.num, .string x.2.text, .slice a4 x.2.items.length c4] 69) := ⟨_, rfl⟩
 have hg1 : Below w.heap.size w A1 := by rw [hA1]; exact ((Grew.refl w).alloc _).below
 have hg2 : Below A1.heap.size A1 A2 := by rw [hA2]; exact ((Grew.refl A1).alloc _).below
 have hsz : A1.heap.size = w.heap.size + 1 := by rw [hA1]; simp
 have hb2 : Below w.heap.size w A2 := hg1.trans (hg2.mono hg1.size)
 have BX : Bx8 A2 w.heap.size (.int .i64 x.1.kind) (.int .i64 x.1.num) (.string x.1.text) (.slice a1 x.1.items.length c1) (.int .i64 x.2.kind) (.int .i64 x.2.num) (.string x.2.text) (.slice a2 x.2.items.length c2) := by
  have h9 : Bx8 A1 w.heap.size (.int .i64 x.1.kind) (.int .i64 x.1.num) (.string x.1.text) (.slice a1 x.1.items.length c1) (.int .i64 x.2.kind) (.int .i64 x.2.num) (.string x.2.text) (.slice a2 x.2.items.length c2) := by rw [hA1]; exact bx8_alloc w _ _ _ _ _ _ _ _ _
  exact h9.keeps hg2
 have BY : Bx8 A2 (w.heap.size + 1) (.int .i64 x.1.kind) (.int .i64 x.1.num) (.string x.1.text) (.slice a3 x.1.items.length c3) (.int .i64 x.2.kind) (.int .i64 x.2.num) (.string x.2.text) (.slice a4 x.2.items.length c4) := by rw [← hsz, hA2]; exact bx8_alloc A1 _ _ _ _ _ _ _ _ _
 have HK2 : Hid _ := HK.out A2 hb2
 have HB : Hid (∀ V, Below A2.heap.size A2 V → Below w.heap.size w V ∧ Bx8 V w.heap.size (.int .i64 x.1.kind) (.int .i64 x.1.num) (.string x.1.text) (.slice a1 x.1.items.length c1) (.int .i64 x.2.kind) (.int .i64 x.2.num) (.string x.2.text) (.slice a2 x.2.items.length c2) ∧ Bx8 V (w.heap.size + 1) (.int .i64 x.1.kind) (.int .i64 x.1.num) (.string x.1.text) (.slice a3 x.1.items.length c3) (.int .i64 x.2.kind) (.int .i64 x.2.num) (.string x.2.text) (.slice a4 x.2.items.length c4)) := fun V hV => ⟨hb2.trans (hV.mono hb2.size), BX.keeps hV, BY.keeps hV⟩
 rw [hA2, hA1] at HK2 HB
 clear BX BY hA1 hA2 hg1 hg2 hsz hb2 HK
 go_enter Tryz.func82, Tryz.ntmps82
 go_wp2_with fail
 refine Calls.mono HK2.out ?_
 rintro e w1 ⟨rfl, hb3⟩
 obtain ⟨hb4, BX, BY⟩ := HB.out w1 hb3
 have HV2 : Hid _ := HV.out w1 hb4
 obtain ⟨_, _, _, _, x4, x5, x6, x7⟩ := BX
 obtain ⟨_, _, _, _, y4, y5, y6, y7⟩ := BY
 clear HB HK2 HV hb3
 go_wp2_with fail
 refine Calls.mono HV2.out ?_
 rintro e w2 ⟨rfl, hb5⟩
 have hb6 : Below w.heap.size w w2 := hb4.trans (hb5.mono hb4.size)
 clear x4 x5 x6 x7 y4 y5 y6 y7 HV2 hb5
 go_wp2_with fail
 go_ret
 exact ⟨rfl, hb6⟩

end Go.Proofs.YtlnecfjnffdciaaGreat

namespace Go.Proofs.YtlnecfjnffdciaaGreat
open Go.RowKit Go.Shelf

abbrev numW (n : Int) : VT := ⟨2, n, ⟨#[]⟩, []⟩

def nm15 : Nat → Int | 0 => 1 | 1 => 3 | _ => 5
def pq15 (n : Int) : PP := ((numW n, .slice none 0 0), (numW n, .slice none 0 0))
def lq15 (i : Nat) : List PP := (List.range i).map (fun j => pq15 (nm15 j))
def five15 : List PT := [(numW 1, numW 1), (numW 3, numW 3), (numW 5, numW 5)]

theorem lq15_succ (i : Nat) : lq15 (i + 1) = lq15 i ++ [pq15 (nm15 i)] := by unfold lq15; rw [List.range_succ, List.map_append]; rfl
theorem lq15_len (i : Nat) : (lq15 i).length = i := by unfold lq15; simp
theorem five_err : ofErr 16 0 ((lq15 3).map trT) = 0 := by kernel_rfl
theorem five_kyd : (kyd (cmpQ 16) ((lq15 3).length + 1) (lq15 3)).map trT = five15 := by kernel_rfl
theorem five_rises : RT.Rises (byK 0) five15 := by
 have h1 : byK 0 (numW 1, numW 1) (numW 3, numW 3) = -1 := by kernel_rfl
 have h2 : byK 0 (numW 1, numW 1) (numW 5, numW 5) = -1 := by kernel_rfl
 have h3 : byK 0 (numW 3, numW 3) (numW 5, numW 5) = -1 := by kernel_rfl
 refine List.Pairwise.cons (fun y hy => ?_) (List.Pairwise.cons (fun y hy => ?_) (List.pairwise_singleton _ _))
 ·rcases List.mem_cons.1 hy with rfl | hy
  ·rw [h1]; decide
  ·rw [List.mem_singleton.1 hy, h2]; decide
 ·rw [List.mem_singleton.1 hy, h3]; decide
theorem five_items {w : World} {t : RT PT} {b : Nat} (h : MC w 0 t b) (hm : ∀ y, y ∈ t.items ↔ y ∈ (kyd (cmpQ 16) ((lq15 3).length + 1) (lq15 3)).map trT) : t.items = five15 := by
 refine RT.rises_eq (byK_cmp 0) _ _ h.rises five_rises fun y => ?_
 rw [hm y, five_kyd]
theorem five_no : (five15.filter (RT.ahead (atK 0 (numW 4)) false)).length = 2 := by kernel_rfl
theorem five_yes : (five15.filter (RT.ahead (atK 0 (numW 4)) true)).length = 2 := by kernel_rfl
theorem five_up (c : Bool) {w : World} {t : RT PT} {b : Nat} (h : MC w 0 t b) (hi : t.items = five15) : RT.upTo (atK 0 (numW 4)) c t = 2 := by
 have h9 := RT.upTo_items (atK 0 (numW 4)) c t (RT.Rises.falls (byK_cmp 0) h.rises (numW 4, numW 4))
 rw [h9, hi]
 cases c
 ·exact five_no
 ·exact five_yes
theorem four_right : rightV 16 (numW 4) = true := by kernel_rfl
theorem lq15_good (W : World) (i : Nat) : ∀ p ∈ lq15 i, GoodQ 16 W p := by
 intro p hp
 obtain ⟨j, _, rfl⟩ := List.mem_map.1 hp
 exact ⟨⟨zero_lies _ _, (show (0 : Nat) ≤ 9223372036854775807 by decide)⟩, ⟨zero_lies _ _, (show (0 : Nat) ≤ 9223372036854775807 by decide)⟩⟩

set_option maxRecDepth 100000 in
set_option maxHeartbeats 8000000 in
theorem speaks15_any (w : World) : Calls Tryz.prog 39 #[] w fun e w' => e = .returned (.bool true) ∧ Below w.heap.size w w' := by
 obtain ⟨i0, hi, hz0, hz1, hz2⟩ := infoQ
 have Hi : Hid _ := hi; have Hz0 : Hid _ := hz0; have Hz1 : Hid _ := hz1; have Hz2 : Hid _ := hz2
 have HI : Hid (∀ n W, Calls Tryz.prog 38 #[.int .i64 n] W fun e w' => e = .returned (.agg #[.int .i64 2, .int .i64 n, .string ⟨#[]⟩, .slice none 0 0]) ∧ Below W.heap.size W w') := fun n W => Calls.mono (int_any n W) fun _ _ h => ⟨h.1, h.2.below⟩
 obtain ⟨W1, hW1⟩ : ∃ W1, W1 = w.alloc (.cells #[.int .i64 1, .int .i64 3, .int .i64 5] 2) := ⟨_, rfl⟩
 have HW1 : Hid (W1 = w.alloc (.cells #[.int .i64 1, .int .i64 3, .int .i64 5] 2)) := hW1
 have hs1 : W1.heap.size = w.heap.size + 1 := by rw [hW1]; simp
 have HS1 : Hid (W1.heap.size = w.heap.size + 1) := hs1
 have HB1 : Hid (Below w.heap.size w W1) := by rw [hW1]; exact ((Grew.refl w).alloc _).below
 have HC1 : Hid (∀ j, j < 3 → W1.cell? ⟨w.heap.size, j, none⟩ = some (.int .i64 (nm15 j))) := by
  intro j hj
  rw [hW1]
  match j, hj with
  | 0, _ => simp [nm15]
  | 1, _ => simp [nm15]
  | 2, _ => simp [nm15]
 have HO : Hid (∀ v W, W.ownsRow W1.heap.size 69 8 v 3 ((lq15 3).flatMap encQ) → Calls Tryz.prog 9 #[.int .i64 0, v] W fun e w' => ∃ t b, e = .returned (.tuple #[.pointer (some ⟨b, 0, none⟩), .int .i64 0]) ∧ MC w' 0 t b ∧ t.items = five15 ∧ Below W.heap.size W w') := fun v W hv => by
  refine Calls.mono (mof_14 16 0 (lq15 3) v W ((SlQ.of_own (lq15_len 3).symm hv (lq15_good W 3) (by rw [lq15_len]; decide)).mono (Nat.zero_le _))) ?_
  rintro e w' ⟨hb, ⟨hne, _⟩ | ⟨_, t, b, rfl, hm, hme⟩⟩
  ·exact absurd five_err hne
  ·exact ⟨t, b, rfl, hm, five_items hm hme, hb⟩
 clear hi hz0 hz1 hz2 hW1 hs1
 go_enter Tryz.func39, Tryz.ntmps39
 go_wp2_with fail
 rw [← HW1.out]
 go_loopg [13, 1, 3] 3 (fun z vi v1 _ wr => ∃ i : Nat, vi = .int .i64 (i : Int) ∧ i ≤ 3 ∧ z = 3 - i ∧ Hid (wr.ownsRow W1.heap.size 69 8 v1 i ((lq15 i).flatMap encQ)) ∧ Hid (Below W1.heap.size W1 wr))
 case atStart => exact ⟨0, rfl, by omega, rfl, World.ownsRow_nil _ _ _ _, Below.refl _ _⟩
 case round =>
  obtain ⟨i, rfl, hi3, hz, HOw, HBw⟩ := hrel
  have Hz : Hid _ := hz
  clear hz HW1
  by_cases hlt : i < 3
  ·have hli : (i : Int) < 3 := by omega
   have c1 : wr.cell? ⟨w.heap.size, i, none⟩ = some (.int .i64 (nm15 i)) := cell_keeps HBw.out (HC1.out i hlt)
   have HLq : Hid ((lq15 (i + 1)).flatMap encQ = (lq15 i).flatMap encQ ++ encQ (pq15 (nm15 i))) := by show _ = _; rw [lq15_succ, List.flatMap_append]; simp
   generalize nm15 i = n at *
   go_wp2_with fail
   refine Calls.mono (HI.out _ _) ?_
   rintro e w2 ⟨rfl, hg2⟩
   go_wp2_with fail
   refine Calls.mono (HI.out _ _) ?_
   rintro e w3 ⟨rfl, hg3⟩
   have hg : Below wr.heap.size wr w3 := hg2.trans (hg3.mono hg2.size)
   have Hown : Hid (w3.ownsRow W1.heap.size 69 8 u1 i ((lq15 i).flatMap encQ)) := own_keeps HOw.out hg
   have hb3 : Below W1.heap.size W1 w3 := HBw.out.trans (hg.mono HBw.out.size)
   have hwl : W1.heap.size ≤ w3.heap.size := hb3.size
   clear hg2 hg3 hg c1
   go_wp2_with (first
    | (at_builtin; refine wpList_append_own _ rfl _ _ 22 rfl W1.heap.size 69 i0 (.agg #[.int .i64 0, .int .i64 0, .string ⟨#[]⟩, .slice none 0 0, .int .i64 0, .int .i64 0, .string ⟨#[]⟩, .slice none 0 0]) 8 112 Tryz.underlying22 Hi.out Hz0.out Hz1.out Hz2.out rfl (by decide) _ _ _ rfl (Hown.out.alloc _) ⟨w3.heap.size, 0, none⟩ 1 1 [.int .i64 2, .int .i64 n, .string ⟨#[]⟩, .slice none 0 0, .int .i64 2, .int .i64 n, .string ⟨#[]⟩, .slice none 0 0] rfl rfl (fun q u hq => by match q, hq with | 0, hq => (simp at hq; subst hq; simp [Addr.add]) | 1, hq => (simp at hq; subst hq; simp [Addr.add]) | 2, hq => (simp at hq; subst hq; simp [Addr.add]) | 3, hq => (simp at hq; subst hq; simp [Addr.add]) | 4, hq => (simp at hq; subst hq; simp [Addr.add]) | 5, hq => (simp at hq; subst hq; simp [Addr.add]) | 6, hq => (simp at hq; subst hq; simp [Addr.add]) | 7, hq => (simp at hq; subst hq; simp [Addr.add]) | q + 8, hq => simp at hq) (fun u hu => by simp only [List.mem_cons, List.not_mem_nil, or_false] at hu; rcases hu with rfl | rfl | rfl | rfl | rfl | rfl | rfl | rfl <;> rfl) (by unfold maxLen; omega) (by omega) (by simp; omega) ?_; intro v' w9 hown' hgrow _))
   have hb9 : Below W1.heap.size W1 w9 := own_growM (hb3.alloc hwl _) (by simp; omega) (Hown.out.alloc _) hgrow
   have HN3 : Hid (w9.ownsRow W1.heap.size 69 8 v' (i + 1) ((lq15 (i + 1)).flatMap encQ)) := by rw [HLq.out]; exact hown'
   clear hown' hgrow Hown hb3
   go_wp2_with fail
   go_roundg (3 - (i + 1))
   case measure => have := Hz.out; omega
   case rel => exact ⟨i + 1, by go_num, by omega, rfl, HN3, hb9⟩
  ·have hli : ¬ (i : Int) < 3 := by omega
   obtain rfl : i = 3 := by omega
   have hbw : Below w.heap.size w wr := HB1.out.trans (HBw.out.mono HB1.out.size)
   have HOf : Hid _ := HO.out _ _ HOw.out
   clear HO HOw HBw HC1 hli hlt
   go_wp2_with fail
   refine Calls.mono HOf.out ?_
   rintro e w2 ⟨t, b, rfl, hm, hti, hg2⟩
   have hb2 : Below w.heap.size w w2 := hbw.trans (hg2.mono hbw.size)
   have HF : Hid (∀ V, Below w2.heap.size w2 V → Calls Tryz.prog 83 #[.pointer (some ⟨b, 0, none⟩), .agg #[.int .i64 2, .int .i64 4, .string ⟨#[]⟩, .slice none 0 0]] V fun e w' => ∃ a5 c5 a6 c6, e = .returned (.tuple #[pairV (numW 3, numW 3) (.slice a5 0 c5) (.slice a6 0 c6), .bool true, .int .i64 0]) ∧ Below V.heap.size V w') := fun V hV => by
    refine Calls.mono (floor15_right 16 b 0 t (numW 4) (.slice none 0 0) V (hm.keeps hV) (zero_lies _ _) (show (0 : Nat) ≤ 9223372036854775807 by decide) four_right) ?_
    rw [five_up true (hm.keeps hV) hti, hti]
    rintro e w' ⟨hb, ⟨ho, _⟩ | ⟨x, ku, vu, ho, _, rfl, hl5, hl6⟩⟩
    ·exact absurd ho (by unfold itemAt five15; simp)
    ·have hx : x = (numW 3, numW 3) := by unfold itemAt five15 at ho; simp at ho; exact ho.symm
     subst hx
     obtain ⟨a5, c5, rfl, _⟩ := LiesB.slice hl5
     obtain ⟨a6, c6, rfl, _⟩ := LiesB.slice hl6
     exact ⟨a5, c5, a6, c6, rfl, hb⟩
   have HR : Hid (∀ V, Below w2.heap.size w2 V → Calls Tryz.prog 84 #[.pointer (some ⟨b, 0, none⟩), .agg #[.int .i64 2, .int .i64 4, .string ⟨#[]⟩, .slice none 0 0]] V fun e w' => e = .returned (.tuple #[.int .i64 2, .int .i64 0]) ∧ Below V.heap.size V w') := fun V hV => by
    have h9 := rank15_right 16 b 0 t (numW 4) (.slice none 0 0) V (hm.keeps hV) (zero_lies _ _) (show (0 : Nat) ≤ 9223372036854775807 by decide) four_right
    rw [five_up false (hm.keeps hV) hti] at h9
    exact h9
   clear hm hti hg2 hbw HOf
   go_wp2_with fail
   refine Calls.mono (HI.out _ _) ?_
   rintro e w3 ⟨rfl, hg3⟩
   have hb3 : Below w.heap.size w w3 := hb2.trans (hg3.mono hb2.size)
   go_wp2_with fail
   refine Calls.mono (HF.out _ hg3) ?_
   rintro e w4 ⟨a5, c5, a6, c6, rfl, hg4⟩
   have hg4' : Below w2.heap.size w2 w4 := hg3.trans (hg4.mono hg3.size)
   have hb4 : Below w.heap.size w w4 := hb3.trans (hg4.mono hb3.size)
   obtain ⟨W5, hW5⟩ : ∃ W5, W5 = w4.alloc (.cells #[.int .i64 2, .int .i64 3, .string ⟨#[]⟩, .slice a5 0 c5, .int .i64 2, .int .i64 3, .string ⟨#[]⟩, .slice a6 0 c6] 69) := ⟨_, rfl⟩
   have HW5 : Hid (W5 = w4.alloc (.cells #[.int .i64 2, .int .i64 3, .string ⟨#[]⟩, .slice a5 0 c5, .int .i64 2, .int .i64 3, .string ⟨#[]⟩, .slice a6 0 c6] 69)) := hW5
   have hal : Below w4.heap.size w4 W5 := by rw [hW5]; exact ((Grew.refl w4).alloc _).below
   have c5' : W5.cell? ⟨w4.heap.size, 1, none⟩ = some (.int .i64 3) := by rw [hW5]; exact (bx8_alloc _ _ _ _ _ _ _ _ _ _).c1
   have hg5 : Below w2.heap.size w2 W5 := hg4'.trans (hal.mono hg4'.size)
   have hb5 : Below w.heap.size w W5 := hb4.trans (hal.mono hb4.size)
   clear hg3 hg4 hb3 HF hW5 hal hb4 hg4'
   go_upto_region 11 with fail
   rw [← HW5.out]
   clear HW5
   go_wp2_with fail
   refine Calls.mono (HI.out _ _) ?_
   rintro e w6 ⟨rfl, hg6⟩
   have c6' := cell_keeps hg6 c5'
   have hg6' : Below w2.heap.size w2 w6 := hg5.trans (hg6.mono hg5.size)
   have hb6 : Below w.heap.size w w6 := hb5.trans (hg6.mono hb5.size)
   clear hg6 hg5 hb5 c5'
   go_wp2_with fail
   refine Calls.mono (HR.out _ hg6') ?_
   rintro e w7 ⟨rfl, hg7⟩
   have c7 := cell_keeps hg7 c6'
   have hb7 : Below w.heap.size w w7 := hb6.trans (hg7.mono hb6.size)
   clear hg7 hg6' hb6 c6' HR
   go_wp2_with fail
   first | (go_ret; exact ⟨by simp, hb7⟩) | (go_ret; exact ⟨rfl, hb7⟩)

end Go.Proofs.YtlnecfjnffdciaaGreat

