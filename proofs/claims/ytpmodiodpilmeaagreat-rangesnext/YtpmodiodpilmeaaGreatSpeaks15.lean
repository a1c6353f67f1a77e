/-
  The little program of chapter 15's statements.
-/
import Derived.Test.YtpmodiodpilmeaaGreatNearM
import Derived.Test.YtpmodiodpilmeaaGreatRIn
import Derived.Test.YtpmodiodpilmeaaGreatPairsM
import Derived.Test.YtpmodiodpilmeaaGreatRunesP
namespace Go.Proofs.YtpmodiodpilmeaaGreat
open Go.RowKit Go.Shelf

/-- What At tells. -/
def AtPost15 (o : Option PT) (w : World) (e : Ending) (w' : World) : Prop := Below w.heap.size w w' ∧ ((o = none ∧ e = .returned (.tuple #[zeroPV, .int .i64 5])) ∨ ∃ x ku vu, o = some x ∧ e = .returned (.tuple #[pairV x ku vu, .int .i64 0]) ∧ LiesB w.heap.size 16 w' x.1.items ku ∧ LiesB w.heap.size 16 w' x.2.items vu)

set_option maxRecDepth 100000 in
set_option maxHeartbeats 8000000 in
theorem floor15_core (O : Option PT) (E : Int) (b : Nat) (y : VT) (ak : Option Addr) (ck : Nat) (w : World) (hc : ∀ V, Below w.heap.size w V → Calls Tryz.prog 38 #[.pointer (some ⟨b, 0, none⟩), .agg #[.int .i64 y.kind, .int .i64 y.num, .string y.text, .slice ak y.items.length ck], .bool true] V (NearPost O E V)) : Calls Tryz.prog 11 #[.pointer (some ⟨b, 0, none⟩), .agg #[.int .i64 y.kind, .int .i64 y.num, .string y.text, .slice ak y.items.length ck]] w (NearPost O E w) := by
  have HU : Hid _ := hc
  obtain ⟨W0, hW0⟩ : ∃ W0, W0 = (w.alloc (.cells #[.int .i64 y.kind, .int .i64 y.num, .string y.text, .slice ak y.items.length ck] 25)).alloc (.cells #[.int .i64 0, .int .i64 0, .string ⟨#[]⟩, .slice none 0 0, .int .i64 0, .int .i64 0, .string ⟨#[]⟩, .slice none 0 0] 33) := ⟨_, rfl⟩
  have HW0 : Hid (W0 = (w.alloc (.cells #[.int .i64 y.kind, .int .i64 y.num, .string y.text, .slice ak y.items.length ck] 25)).alloc (.cells #[.int .i64 0, .int .i64 0, .string ⟨#[]⟩, .slice none 0 0, .int .i64 0, .int .i64 0, .string ⟨#[]⟩, .slice none 0 0] 33)) := hW0
  have hb0 : Below w.heap.size w W0 := by rw [hW0]; exact (((Grew.refl w).alloc _).alloc _).below
  have HS0 : Hid (w.heap.size + 1 < W0.heap.size) := by rw [hW0]; show _ < _; simp
  have HK0 : Hid (Bx W0 w.heap.size y (.slice ak y.items.length ck)) := by rw [hW0]; exact (bx_alloc w y _).keeps ((Grew.refl _).alloc _).below
  have HZ0 : Hid (Bx8 W0 (w.heap.size + 1) (.int .i64 0) (.int .i64 0) (.string ⟨#[]⟩) (.slice none 0 0) (.int .i64 0) (.int .i64 0) (.string ⟨#[]⟩) (.slice none 0 0)) := by
    rw [hW0]
    have h9 := bx8_alloc (w.alloc (.cells #[.int .i64 y.kind, .int .i64 y.num, .string y.text, .slice ak y.items.length ck] 25)) 33 (.int .i64 0) (.int .i64 0) (.string ⟨#[]⟩) (.slice none 0 0) (.int .i64 0) (.int .i64 0) (.string ⟨#[]⟩) (.slice none 0 0)
    rwa [World.size_alloc] at h9
  obtain ⟨k0, k1, k2, k3, _, _, _, _⟩ := HK0.out
  clear hW0 hc
  go_enter Tryz.func11, Tryz.ntmps11
  go_upto_region 1 with fail
  rw [← HW0.out]
  clear HW0
  go_wp2_with fail
  refine Calls.mono (HU.out _ hb0) ?_
  rintro e w2 ⟨hg2, hcase⟩
  have HZ2 : Hid (Bx8 w2 (w.heap.size + 1) (.int .i64 0) (.int .i64 0) (.string ⟨#[]⟩) (.slice none 0 0) (.int .i64 0) (.int .i64 0) (.string ⟨#[]⟩) (.slice none 0 0)) := HZ0.out.keeps hg2
  have hb2 : Below w.heap.size w w2 := hb0.trans (hg2.mono hb0.size)
  obtain ⟨y0, y1, y2, y3, y4, y5, y6, y7, f0, f1, f2, f3, f4, f5, f6, f7, _⟩ := HZ2.out
  clear hg2 HU HZ0 k0 k1 k2 k3 HK0
  rcases hcase with ⟨ho, rfl⟩ | ⟨x, ku, vu, ho, hE, rfl, hl5, hl6⟩
  · have Hq : Hid _ := put8_in HZ2.out (.int .i64 0) (.int .i64 0) (.string ⟨#[]⟩) (.slice none 0 0) (.int .i64 0) (.int .i64 0) (.string ⟨#[]⟩) (.slice none 0 0)
    have HE : Hid (NearPost O E w (.returned (.tuple #[.agg #[.int .i64 0, .int .i64 0, .string ⟨#[]⟩, .slice none 0 0, .int .i64 0, .int .i64 0, .string ⟨#[]⟩, .slice none 0 0], .bool false, .int .i64 E])) (w2.setCells (w.heap.size + 1) 0 [.int .i64 0, .int .i64 0, .string ⟨#[]⟩, .slice none 0 0, .int .i64 0, .int .i64 0, .string ⟨#[]⟩, .slice none 0 0])) := ⟨below_put8 hb2 (by omega) _ _ _ _ _ _ _ _, .inl ⟨ho, rfl⟩⟩
    clear ho hb0 hb2
    go_wp2_with fail
    refine bodyPost_ret (v := .tuple #[.agg #[.int .i64 0, .int .i64 0, .string ⟨#[]⟩, .slice none 0 0, .int .i64 0, .int .i64 0, .string ⟨#[]⟩, .slice none 0 0], .bool false, .int .i64 E]) ?_ rfl HE.out
    obtain ⟨q0, q1, q2, q3, q4, q5, q6, q7⟩ := Hq.out
    simp only [World.setCells, Nat.zero_add, Nat.reduceAdd] at q0 q1 q2 q3 q4 q5 q6 q7
    simp [results, Tryz.results11, go_sem, q0, q1, q2, q3, q4, q5, q6, q7]
  · obtain ⟨a5, c5, rfl, _⟩ := LiesB.slice hl5
    obtain ⟨a6, c6, rfl, _⟩ := LiesB.slice hl6
    have Hq : Hid _ := put8_in HZ2.out (.int .i64 x.1.kind) (.int .i64 x.1.num) (.string x.1.text) (.slice a5 x.1.items.length c5) (.int .i64 x.2.kind) (.int .i64 x.2.num) (.string x.2.text) (.slice a6 x.2.items.length c6)
    have HE : Hid (NearPost O E w (.returned (.tuple #[.agg #[.int .i64 x.1.kind, .int .i64 x.1.num, .string x.1.text, .slice a5 x.1.items.length c5, .int .i64 x.2.kind, .int .i64 x.2.num, .string x.2.text, .slice a6 x.2.items.length c6], .bool true, .int .i64 0])) (w2.setCells (w.heap.size + 1) 0 [.int .i64 x.1.kind, .int .i64 x.1.num, .string x.1.text, .slice a5 x.1.items.length c5, .int .i64 x.2.kind, .int .i64 x.2.num, .string x.2.text, .slice a6 x.2.items.length c6])) := ⟨below_put8 hb2 (by omega) _ _ _ _ _ _ _ _, .inr ⟨x, _, _, ho, hE, rfl, LiesB.lower14 hb0.size _ _ _ (LiesB.put8 HS0.out _ hl5), LiesB.lower14 hb0.size _ _ _ (LiesB.put8 HS0.out _ hl6)⟩⟩
    clear ho hb0 hb2 hl5 hl6 hE
    go_wp2_with fail
    refine bodyPost_ret (v := .tuple #[.agg #[.int .i64 x.1.kind, .int .i64 x.1.num, .string x.1.text, .slice a5 x.1.items.length c5, .int .i64 x.2.kind, .int .i64 x.2.num, .string x.2.text, .slice a6 x.2.items.length c6], .bool true, .int .i64 0]) ?_ rfl HE.out
    obtain ⟨q0, q1, q2, q3, q4, q5, q6, q7⟩ := Hq.out
    simp only [World.setCells, Nat.zero_add, Nat.reduceAdd] at q0 q1 q2 q3 q4 q5 q6 q7
    simp [results, Tryz.results11, go_sem, q0, q1, q2, q3, q4, q5, q6, q7]

theorem floor15_wrong (d b : Nat) (y : VT) (yu : Value) (w : World) (hy : Lies d w y.items yu) (ht : y.text.size ≤ 9223372036854775807) (hr : rightV d y = false) : Calls Tryz.prog 11 #[.pointer (some ⟨b, 0, none⟩), .agg #[.int .i64 y.kind, .int .i64 y.num, .string y.text, yu]] w (NearPost none 3 w) := by
  obtain ⟨ak, ck, rfl, _⟩ := Lies.slice hy
  exact floor15_core none 3 b y ak ck w fun V hV => lasto_wrong d b true y _ V (Lies.keeps hV _ _ _ hy) ht hr

theorem floor15_right (d b q : Nat) (t : RT PT) (y : VT) (yu : Value) (w : World) (hm : MC w q t b) (hy : Lies d w y.items yu) (ht : y.text.size ≤ 9223372036854775807) (hr : rightV d y = true) : Calls Tryz.prog 11 #[.pointer (some ⟨b, 0, none⟩), .agg #[.int .i64 y.kind, .int .i64 y.num, .string y.text, yu]] w (NearPost (itemAt t.items ((RT.upTo (atK q y) true t : Nat) - 1 : Int)) 0 w) := by
  obtain ⟨ak, ck, rfl, _⟩ := Lies.slice hy
  exact floor15_core _ 0 b y ak ck w fun V hV => lasto_right d b q true t y _ V (hm.keeps hV) (Lies.keeps hV _ _ _ hy) ht hr

set_option maxRecDepth 100000 in
set_option maxHeartbeats 8000000 in
theorem lower15_core (O : Option PT) (E : Int) (b : Nat) (y : VT) (ak : Option Addr) (ck : Nat) (w : World) (hc : ∀ V, Below w.heap.size w V → Calls Tryz.prog 38 #[.pointer (some ⟨b, 0, none⟩), .agg #[.int .i64 y.kind, .int .i64 y.num, .string y.text, .slice ak y.items.length ck], .bool false] V (NearPost O E V)) : Calls Tryz.prog 14 #[.pointer (some ⟨b, 0, none⟩), .agg #[.int .i64 y.kind, .int .i64 y.num, .string y.text, .slice ak y.items.length ck]] w (NearPost O E w) := by
  have HU : Hid _ := hc
  obtain ⟨W0, hW0⟩ : ∃ W0, W0 = (w.alloc (.cells #[.int .i64 y.kind, .int .i64 y.num, .string y.text, .slice ak y.items.length ck] 25)).alloc (.cells #[.int .i64 0, .int .i64 0, .string ⟨#[]⟩, .slice none 0 0, .int .i64 0, .int .i64 0, .string ⟨#[]⟩, .slice none 0 0] 33) := ⟨_, rfl⟩
  have HW0 : Hid (W0 = (w.alloc (.cells #[.int .i64 y.kind, .int .i64 y.num, .string y.text, .slice ak y.items.length ck] 25)).alloc (.cells #[.int .i64 0, .int .i64 0, .string ⟨#[]⟩, .slice none 0 0, .int .i64 0, .int .i64 0, .string ⟨#[]⟩, .slice none 0 0] 33)) := hW0
  have hb0 : Below w.heap.size w W0 := by rw [hW0]; exact (((Grew.refl w).alloc _).alloc _).below
  have HS0 : Hid (w.heap.size + 1 < W0.heap.size) := by rw [hW0]; show _ < _; simp
  have HK0 : Hid (Bx W0 w.heap.size y (.slice ak y.items.length ck)) := by rw [hW0]; exact (bx_alloc w y _).keeps ((Grew.refl _).alloc _).below
  have HZ0 : Hid (Bx8 W0 (w.heap.size + 1) (.int .i64 0) (.int .i64 0) (.string ⟨#[]⟩) (.slice none 0 0) (.int .i64 0) (.int .i64 0) (.string ⟨#[]⟩) (.slice none 0 0)) := by
    rw [hW0]
    have h9 := bx8_alloc (w.alloc (.cells #[.int .i64 y.kind, .int .i64 y.num, .string y.text, .slice ak y.items.length ck] 25)) 33 (.int .i64 0) (.int .i64 0) (.string ⟨#[]⟩) (.slice none 0 0) (.int .i64 0) (.int .i64 0) (.string ⟨#[]⟩) (.slice none 0 0)
    rwa [World.size_alloc] at h9
  obtain ⟨k0, k1, k2, k3, _, _, _, _⟩ := HK0.out
  clear hW0 hc
  go_enter Tryz.func14, Tryz.ntmps14
  go_upto_region 1 with fail
  rw [← HW0.out]
  clear HW0
  go_wp2_with fail
  refine Calls.mono (HU.out _ hb0) ?_
  rintro e w2 ⟨hg2, hcase⟩
  have HZ2 : Hid (Bx8 w2 (w.heap.size + 1) (.int .i64 0) (.int .i64 0) (.string ⟨#[]⟩) (.slice none 0 0) (.int .i64 0) (.int .i64 0) (.string ⟨#[]⟩) (.slice none 0 0)) := HZ0.out.keeps hg2
  have hb2 : Below w.heap.size w w2 := hb0.trans (hg2.mono hb0.size)
  obtain ⟨y0, y1, y2, y3, y4, y5, y6, y7, f0, f1, f2, f3, f4, f5, f6, f7, _⟩ := HZ2.out
  clear hg2 HU HZ0 k0 k1 k2 k3 HK0
  rcases hcase with ⟨ho, rfl⟩ | ⟨x, ku, vu, ho, hE, rfl, hl5, hl6⟩
  · have Hq : Hid _ := put8_in HZ2.out (.int .i64 0) (.int .i64 0) (.string ⟨#[]⟩) (.slice none 0 0) (.int .i64 0) (.int .i64 0) (.string ⟨#[]⟩) (.slice none 0 0)
    have HE : Hid (NearPost O E w (.returned (.tuple #[.agg #[.int .i64 0, .int .i64 0, .string ⟨#[]⟩, .slice none 0 0, .int .i64 0, .int .i64 0, .string ⟨#[]⟩, .slice none 0 0], .bool false, .int .i64 E])) (w2.setCells (w.heap.size + 1) 0 [.int .i64 0, .int .i64 0, .string ⟨#[]⟩, .slice none 0 0, .int .i64 0, .int .i64 0, .string ⟨#[]⟩, .slice none 0 0])) := ⟨below_put8 hb2 (by omega) _ _ _ _ _ _ _ _, .inl ⟨ho, rfl⟩⟩
    clear ho hb0 hb2
    go_wp2_with fail
    refine bodyPost_ret (v := .tuple #[.agg #[.int .i64 0, .int .i64 0, .string ⟨#[]⟩, .slice none 0 0, .int .i64 0, .int .i64 0, .string ⟨#[]⟩, .slice none 0 0], .bool false, .int .i64 E]) ?_ rfl HE.out
    obtain ⟨q0, q1, q2, q3, q4, q5, q6, q7⟩ := Hq.out
    simp only [World.setCells, Nat.zero_add, Nat.reduceAdd] at q0 q1 q2 q3 q4 q5 q6 q7
    simp [results, Tryz.results14, go_sem, q0, q1, q2, q3, q4, q5, q6, q7]
  · obtain ⟨a5, c5, rfl, _⟩ := LiesB.slice hl5
    obtain ⟨a6, c6, rfl, _⟩ := LiesB.slice hl6
    have Hq : Hid _ := put8_in HZ2.out (.int .i64 x.1.kind) (.int .i64 x.1.num) (.string x.1.text) (.slice a5 x.1.items.length c5) (.int .i64 x.2.kind) (.int .i64 x.2.num) (.string x.2.text) (.slice a6 x.2.items.length c6)
    have HE : Hid (NearPost O E w (.returned (.tuple #[.agg #[.int .i64 x.1.kind, .int .i64 x.1.num, .string x.1.text, .slice a5 x.1.items.length c5, .int .i64 x.2.kind, .int .i64 x.2.num, .string x.2.text, .slice a6 x.2.items.length c6], .bool true, .int .i64 0])) (w2.setCells (w.heap.size + 1) 0 [.int .i64 x.1.kind, .int .i64 x.1.num, .string x.1.text, .slice a5 x.1.items.length c5, .int .i64 x.2.kind, .int .i64 x.2.num, .string x.2.text, .slice a6 x.2.items.length c6])) := ⟨below_put8 hb2 (by omega) _ _ _ _ _ _ _ _, .inr ⟨x, _, _, ho, hE, rfl, LiesB.lower14 hb0.size _ _ _ (LiesB.put8 HS0.out _ hl5), LiesB.lower14 hb0.size _ _ _ (LiesB.put8 HS0.out _ hl6)⟩⟩
    clear ho hb0 hb2 hl5 hl6 hE
    go_wp2_with fail
    refine bodyPost_ret (v := .tuple #[.agg #[.int .i64 x.1.kind, .int .i64 x.1.num, .string x.1.text, .slice a5 x.1.items.length c5, .int .i64 x.2.kind, .int .i64 x.2.num, .string x.2.text, .slice a6 x.2.items.length c6], .bool true, .int .i64 0]) ?_ rfl HE.out
    obtain ⟨q0, q1, q2, q3, q4, q5, q6, q7⟩ := Hq.out
    simp only [World.setCells, Nat.zero_add, Nat.reduceAdd] at q0 q1 q2 q3 q4 q5 q6 q7
    simp [results, Tryz.results14, go_sem, q0, q1, q2, q3, q4, q5, q6, q7]

theorem lower15_wrong (d b : Nat) (y : VT) (yu : Value) (w : World) (hy : Lies d w y.items yu) (ht : y.text.size ≤ 9223372036854775807) (hr : rightV d y = false) : Calls Tryz.prog 14 #[.pointer (some ⟨b, 0, none⟩), .agg #[.int .i64 y.kind, .int .i64 y.num, .string y.text, yu]] w (NearPost none 3 w) := by
  obtain ⟨ak, ck, rfl, _⟩ := Lies.slice hy
  exact lower15_core none 3 b y ak ck w fun V hV => lasto_wrong d b false y _ V (Lies.keeps hV _ _ _ hy) ht hr

theorem lower15_right (d b q : Nat) (t : RT PT) (y : VT) (yu : Value) (w : World) (hm : MC w q t b) (hy : Lies d w y.items yu) (ht : y.text.size ≤ 9223372036854775807) (hr : rightV d y = true) : Calls Tryz.prog 14 #[.pointer (some ⟨b, 0, none⟩), .agg #[.int .i64 y.kind, .int .i64 y.num, .string y.text, yu]] w (NearPost (itemAt t.items ((RT.upTo (atK q y) false t : Nat) - 1 : Int)) 0 w) := by
  obtain ⟨ak, ck, rfl, _⟩ := Lies.slice hy
  exact lower15_core _ 0 b y ak ck w fun V hV => lasto_right d b q false t y _ V (hm.keeps hV) (Lies.keeps hV _ _ _ hy) ht hr

set_option maxRecDepth 100000 in
set_option maxHeartbeats 8000000 in
theorem ceil15_core (O : Option PT) (E : Int) (b : Nat) (y : VT) (ak : Option Addr) (ck : Nat) (w : World) (hc : ∀ V, Below w.heap.size w V → Calls Tryz.prog 42 #[.pointer (some ⟨b, 0, none⟩), .agg #[.int .i64 y.kind, .int .i64 y.num, .string y.text, .slice ak y.items.length ck], .bool false] V (NearPost O E V)) : Calls Tryz.prog 15 #[.pointer (some ⟨b, 0, none⟩), .agg #[.int .i64 y.kind, .int .i64 y.num, .string y.text, .slice ak y.items.length ck]] w (NearPost O E w) := by
  have HU : Hid _ := hc
  obtain ⟨W0, hW0⟩ : ∃ W0, W0 = (w.alloc (.cells #[.int .i64 y.kind, .int .i64 y.num, .string y.text, .slice ak y.items.length ck] 25)).alloc (.cells #[.int .i64 0, .int .i64 0, .string ⟨#[]⟩, .slice none 0 0, .int .i64 0, .int .i64 0, .string ⟨#[]⟩, .slice none 0 0] 33) := ⟨_, rfl⟩
  have HW0 : Hid (W0 = (w.alloc (.cells #[.int .i64 y.kind, .int .i64 y.num, .string y.text, .slice ak y.items.length ck] 25)).alloc (.cells #[.int .i64 0, .int .i64 0, .string ⟨#[]⟩, .slice none 0 0, .int .i64 0, .int .i64 0, .string ⟨#[]⟩, .slice none 0 0] 33)) := hW0
  have hb0 : Below w.heap.size w W0 := by rw [hW0]; exact (((Grew.refl w).alloc _).alloc _).below
  have HS0 : Hid (w.heap.size + 1 < W0.heap.size) := by rw [hW0]; show _ < _; simp
  have HK0 : Hid (Bx W0 w.heap.size y (.slice ak y.items.length ck)) := by rw [hW0]; exact (bx_alloc w y _).keeps ((Grew.refl _).alloc _).below
  have HZ0 : Hid (Bx8 W0 (w.heap.size + 1) (.int .i64 0) (.int .i64 0) (.string ⟨#[]⟩) (.slice none 0 0) (.int .i64 0) (.int .i64 0) (.string ⟨#[]⟩) (.slice none 0 0)) := by
    rw [hW0]
    have h9 := bx8_alloc (w.alloc (.cells #[.int .i64 y.kind, .int .i64 y.num, .string y.text, .slice ak y.items.length ck] 25)) 33 (.int .i64 0) (.int .i64 0) (.string ⟨#[]⟩) (.slice none 0 0) (.int .i64 0) (.int .i64 0) (.string ⟨#[]⟩) (.slice none 0 0)
    rwa [World.size_alloc] at h9
  obtain ⟨k0, k1, k2, k3, _, _, _, _⟩ := HK0.out
  clear hW0 hc
  go_enter Tryz.func15, Tryz.ntmps15
  go_upto_region 1 with fail
  rw [← HW0.out]
  clear HW0
  go_wp2_with fail
  refine Calls.mono (HU.out _ hb0) ?_
  rintro e w2 ⟨hg2, hcase⟩
  have HZ2 : Hid (Bx8 w2 (w.heap.size + 1) (.int .i64 0) (.int .i64 0) (.string ⟨#[]⟩) (.slice none 0 0) (.int .i64 0) (.int .i64 0) (.string ⟨#[]⟩) (.slice none 0 0)) := HZ0.out.keeps hg2
  have hb2 : Below w.heap.size w w2 := hb0.trans (hg2.mono hb0.size)
  obtain ⟨y0, y1, y2, y3, y4, y5, y6, y7, f0, f1, f2, f3, f4, f5, f6, f7, _⟩ := HZ2.out
  clear hg2 HU HZ0 k0 k1 k2 k3 HK0
  rcases hcase with ⟨ho, rfl⟩ | ⟨x, ku, vu, ho, hE, rfl, hl5, hl6⟩
  · have Hq : Hid _ := put8_in HZ2.out (.int .i64 0) (.int .i64 0) (.string ⟨#[]⟩) (.slice none 0 0) (.int .i64 0) (.int .i64 0) (.string ⟨#[]⟩) (.slice none 0 0)
    have HE : Hid (NearPost O E w (.returned (.tuple #[.agg #[.int .i64 0, .int .i64 0, .string ⟨#[]⟩, .slice none 0 0, .int .i64 0, .int .i64 0, .string ⟨#[]⟩, .slice none 0 0], .bool false, .int .i64 E])) (w2.setCells (w.heap.size + 1) 0 [.int .i64 0, .int .i64 0, .string ⟨#[]⟩, .slice none 0 0, .int .i64 0, .int .i64 0, .string ⟨#[]⟩, .slice none 0 0])) := ⟨below_put8 hb2 (by omega) _ _ _ _ _ _ _ _, .inl ⟨ho, rfl⟩⟩
    clear ho hb0 hb2
    go_wp2_with fail
    refine bodyPost_ret (v := .tuple #[.agg #[.int .i64 0, .int .i64 0, .string ⟨#[]⟩, .slice none 0 0, .int .i64 0, .int .i64 0, .string ⟨#[]⟩, .slice none 0 0], .bool false, .int .i64 E]) ?_ rfl HE.out
    obtain ⟨q0, q1, q2, q3, q4, q5, q6, q7⟩ := Hq.out
    simp only [World.setCells, Nat.zero_add, Nat.reduceAdd] at q0 q1 q2 q3 q4 q5 q6 q7
    simp [results, Tryz.results15, go_sem, q0, q1, q2, q3, q4, q5, q6, q7]
  · obtain ⟨a5, c5, rfl, _⟩ := LiesB.slice hl5
    obtain ⟨a6, c6, rfl, _⟩ := LiesB.slice hl6
    have Hq : Hid _ := put8_in HZ2.out (.int .i64 x.1.kind) (.int .i64 x.1.num) (.string x.1.text) (.slice a5 x.1.items.length c5) (.int .i64 x.2.kind) (.int .i64 x.2.num) (.string x.2.text) (.slice a6 x.2.items.length c6)
    have HE : Hid (NearPost O E w (.returned (.tuple #[.agg #[.int .i64 x.1.kind, .int .i64 x.1.num, .string x.1.text, .slice a5 x.1.items.length c5, .int .i64 x.2.kind, .int .i64 x.2.num, .string x.2.text, .slice a6 x.2.items.length c6], .bool true, .int .i64 0])) (w2.setCells (w.heap.size + 1) 0 [.int .i64 x.1.kind, .int .i64 x.1.num, .string x.1.text, .slice a5 x.1.items.length c5, .int .i64 x.2.kind, .int .i64 x.2.num, .string x.2.text, .slice a6 x.2.items.length c6])) := ⟨below_put8 hb2 (by omega) _ _ _ _ _ _ _ _, .inr ⟨x, _, _, ho, hE, rfl, LiesB.lower14 hb0.size _ _ _ (LiesB.put8 HS0.out _ hl5), LiesB.lower14 hb0.size _ _ _ (LiesB.put8 HS0.out _ hl6)⟩⟩
    clear ho hb0 hb2 hl5 hl6 hE
    go_wp2_with fail
    refine bodyPost_ret (v := .tuple #[.agg #[.int .i64 x.1.kind, .int .i64 x.1.num, .string x.1.text, .slice a5 x.1.items.length c5, .int .i64 x.2.kind, .int .i64 x.2.num, .string x.2.text, .slice a6 x.2.items.length c6], .bool true, .int .i64 0]) ?_ rfl HE.out
    obtain ⟨q0, q1, q2, q3, q4, q5, q6, q7⟩ := Hq.out
    simp only [World.setCells, Nat.zero_add, Nat.reduceAdd] at q0 q1 q2 q3 q4 q5 q6 q7
    simp [results, Tryz.results15, go_sem, q0, q1, q2, q3, q4, q5, q6, q7]

theorem ceil15_wrong (d b : Nat) (y : VT) (yu : Value) (w : World) (hy : Lies d w y.items yu) (ht : y.text.size ≤ 9223372036854775807) (hr : rightV d y = false) : Calls Tryz.prog 15 #[.pointer (some ⟨b, 0, none⟩), .agg #[.int .i64 y.kind, .int .i64 y.num, .string y.text, yu]] w (NearPost none 3 w) := by
  obtain ⟨ak, ck, rfl, _⟩ := Lies.slice hy
  exact ceil15_core none 3 b y ak ck w fun V hV => firstb_wrong d b false y _ V (Lies.keeps hV _ _ _ hy) ht hr

theorem ceil15_right (d b q : Nat) (t : RT PT) (y : VT) (yu : Value) (w : World) (hm : MC w q t b) (hy : Lies d w y.items yu) (ht : y.text.size ≤ 9223372036854775807) (hr : rightV d y = true) : Calls Tryz.prog 15 #[.pointer (some ⟨b, 0, none⟩), .agg #[.int .i64 y.kind, .int .i64 y.num, .string y.text, yu]] w (NearPost (itemAt t.items ((RT.upTo (atK q y) false t : Nat) : Int)) 0 w) := by
  obtain ⟨ak, ck, rfl, _⟩ := Lies.slice hy
  exact ceil15_core _ 0 b y ak ck w fun V hV => firstb_right d b q false t y _ V (hm.keeps hV) (Lies.keeps hV _ _ _ hy) ht hr

set_option maxRecDepth 100000 in
set_option maxHeartbeats 8000000 in
theorem higher15_core (O : Option PT) (E : Int) (b : Nat) (y : VT) (ak : Option Addr) (ck : Nat) (w : World) (hc : ∀ V, Below w.heap.size w V → Calls Tryz.prog 42 #[.pointer (some ⟨b, 0, none⟩), .agg #[.int .i64 y.kind, .int .i64 y.num, .string y.text, .slice ak y.items.length ck], .bool true] V (NearPost O E V)) : Calls Tryz.prog 17 #[.pointer (some ⟨b, 0, none⟩), .agg #[.int .i64 y.kind, .int .i64 y.num, .string y.text, .slice ak y.items.length ck]] w (NearPost O E w) := by
  have HU : Hid _ := hc
  obtain ⟨W0, hW0⟩ : ∃ W0, W0 = (w.alloc (.cells #[.int .i64 y.kind, .int .i64 y.num, .string y.text, .slice ak y.items.length ck] 25)).alloc (.cells #[.int .i64 0, .int .i64 0, .string ⟨#[]⟩, .slice none 0 0, .int .i64 0, .int .i64 0, .string ⟨#[]⟩, .slice none 0 0] 33) := ⟨_, rfl⟩
  have HW0 : Hid (W0 = (w.alloc (.cells #[.int .i64 y.kind, .int .i64 y.num, .string y.text, .slice ak y.items.length ck] 25)).alloc (.cells #[.int .i64 0, .int .i64 0, .string ⟨#[]⟩, .slice none 0 0, .int .i64 0, .int .i64 0, .string ⟨#[]⟩, .slice none 0 0] 33)) := hW0
  have hb0 : Below w.heap.size w W0 := by rw [hW0]; exact (((Grew.refl w).alloc _).alloc _).below
  have HS0 : Hid (w.heap.size + 1 < W0.heap.size) := by rw [hW0]; show _ < _; simp
  have HK0 : Hid (Bx W0 w.heap.size y (.slice ak y.items.length ck)) := by rw [hW0]; exact (bx_alloc w y _).keeps ((Grew.refl _).alloc _).below
  have HZ0 : Hid (Bx8 W0 (w.heap.size + 1) (.int .i64 0) (.int .i64 0) (.string ⟨#[]⟩) (.slice none 0 0) (.int .i64 0) (.int .i64 0) (.string ⟨#[]⟩) (.slice none 0 0)) := by
    rw [hW0]
    have h9 := bx8_alloc (w.alloc (.cells #[.int .i64 y.kind, .int .i64 y.num, .string y.text, .slice ak y.items.length ck] 25)) 33 (.int .i64 0) (.int .i64 0) (.string ⟨#[]⟩) (.slice none 0 0) (.int .i64 0) (.int .i64 0) (.string ⟨#[]⟩) (.slice none 0 0)
    rwa [World.size_alloc] at h9
  obtain ⟨k0, k1, k2, k3, _, _, _, _⟩ := HK0.out
  clear hW0 hc
  go_enter Tryz.func17, Tryz.ntmps17
  go_upto_region 1 with fail
  rw [← HW0.out]
  clear HW0
  go_wp2_with fail
  refine Calls.mono (HU.out _ hb0) ?_
  rintro e w2 ⟨hg2, hcase⟩
  have HZ2 : Hid (Bx8 w2 (w.heap.size + 1) (.int .i64 0) (.int .i64 0) (.string ⟨#[]⟩) (.slice none 0 0) (.int .i64 0) (.int .i64 0) (.string ⟨#[]⟩) (.slice none 0 0)) := HZ0.out.keeps hg2
  have hb2 : Below w.heap.size w w2 := hb0.trans (hg2.mono hb0.size)
  obtain ⟨y0, y1, y2, y3, y4, y5, y6, y7, f0, f1, f2, f3, f4, f5, f6, f7, _⟩ := HZ2.out
  clear hg2 HU HZ0 k0 k1 k2 k3 HK0
  rcases hcase with ⟨ho, rfl⟩ | ⟨x, ku, vu, ho, hE, rfl, hl5, hl6⟩
  · have Hq : Hid _ := put8_in HZ2.out (.int .i64 0) (.int .i64 0) (.string ⟨#[]⟩) (.slice none 0 0) (.int .i64 0) (.int .i64 0) (.string ⟨#[]⟩) (.slice none 0 0)
    have HE : Hid (NearPost O E w (.returned (.tuple #[.agg #[.int .i64 0, .int .i64 0, .string ⟨#[]⟩, .slice none 0 0, .int .i64 0, .int .i64 0, .string ⟨#[]⟩, .slice none 0 0], .bool false, .int .i64 E])) (w2.setCells (w.heap.size + 1) 0 [.int .i64 0, .int .i64 0, .string ⟨#[]⟩, .slice none 0 0, .int .i64 0, .int .i64 0, .string ⟨#[]⟩, .slice none 0 0])) := ⟨below_put8 hb2 (by omega) _ _ _ _ _ _ _ _, .inl ⟨ho, rfl⟩⟩
    clear ho hb0 hb2
    go_wp2_with fail
    refine bodyPost_ret (v := .tuple #[.agg #[.int .i64 0, .int .i64 0, .string ⟨#[]⟩, .slice none 0 0, .int .i64 0, .int .i64 0, .string ⟨#[]⟩, .slice none 0 0], .bool false, .int .i64 E]) ?_ rfl HE.out
    obtain ⟨q0, q1, q2, q3, q4, q5, q6, q7⟩ := Hq.out
    simp only [World.setCells, Nat.zero_add, Nat.reduceAdd] at q0 q1 q2 q3 q4 q5 q6 q7
    simp [results, Tryz.results17, go_sem, q0, q1, q2, q3, q4, q5, q6, q7]
  · obtain ⟨a5, c5, rfl, _⟩ := LiesB.slice hl5
    obtain ⟨a6, c6, rfl, _⟩ := LiesB.slice hl6
    have Hq : Hid _ := put8_in HZ2.out (.int .i64 x.1.kind) (.int .i64 x.1.num) (.string x.1.text) (.slice a5 x.1.items.length c5) (.int .i64 x.2.kind) (.int .i64 x.2.num) (.string x.2.text) (.slice a6 x.2.items.length c6)
    have HE : Hid (NearPost O E w (.returned (.tuple #[.agg #[.int .i64 x.1.kind, .int .i64 x.1.num, .string x.1.text, .slice a5 x.1.items.length c5, .int .i64 x.2.kind, .int .i64 x.2.num, .string x.2.text, .slice a6 x.2.items.length c6], .bool true, .int .i64 0])) (w2.setCells (w.heap.size + 1) 0 [.int .i64 x.1.kind, .int .i64 x.1.num, .string x.1.text, .slice a5 x.1.items.length c5, .int .i64 x.2.kind, .int .i64 x.2.num, .string x.2.text, .slice a6 x.2.items.length c6])) := ⟨below_put8 hb2 (by omega) _ _ _ _ _ _ _ _, .inr ⟨x, _, _, ho, hE, rfl, LiesB.lower14 hb0.size _ _ _ (LiesB.put8 HS0.out _ hl5), LiesB.lower14 hb0.size _ _ _ (LiesB.put8 HS0.out _ hl6)⟩⟩
    clear ho hb0 hb2 hl5 hl6 hE
    go_wp2_with fail
    refine bodyPost_ret (v := .tuple #[.agg #[.int .i64 x.1.kind, .int .i64 x.1.num, .string x.1.text, .slice a5 x.1.items.length c5, .int .i64 x.2.kind, .int .i64 x.2.num, .string x.2.text, .slice a6 x.2.items.length c6], .bool true, .int .i64 0]) ?_ rfl HE.out
    obtain ⟨q0, q1, q2, q3, q4, q5, q6, q7⟩ := Hq.out
    simp only [World.setCells, Nat.zero_add, Nat.reduceAdd] at q0 q1 q2 q3 q4 q5 q6 q7
    simp [results, Tryz.results17, go_sem, q0, q1, q2, q3, q4, q5, q6, q7]

theorem higher15_wrong (d b : Nat) (y : VT) (yu : Value) (w : World) (hy : Lies d w y.items yu) (ht : y.text.size ≤ 9223372036854775807) (hr : rightV d y = false) : Calls Tryz.prog 17 #[.pointer (some ⟨b, 0, none⟩), .agg #[.int .i64 y.kind, .int .i64 y.num, .string y.text, yu]] w (NearPost none 3 w) := by
  obtain ⟨ak, ck, rfl, _⟩ := Lies.slice hy
  exact higher15_core none 3 b y ak ck w fun V hV => firstb_wrong d b true y _ V (Lies.keeps hV _ _ _ hy) ht hr

theorem higher15_right (d b q : Nat) (t : RT PT) (y : VT) (yu : Value) (w : World) (hm : MC w q t b) (hy : Lies d w y.items yu) (ht : y.text.size ≤ 9223372036854775807) (hr : rightV d y = true) : Calls Tryz.prog 17 #[.pointer (some ⟨b, 0, none⟩), .agg #[.int .i64 y.kind, .int .i64 y.num, .string y.text, yu]] w (NearPost (itemAt t.items ((RT.upTo (atK q y) true t : Nat) : Int)) 0 w) := by
  obtain ⟨ak, ck, rfl, _⟩ := Lies.slice hy
  exact higher15_core _ 0 b y ak ck w fun V hV => firstb_right d b q true t y _ V (hm.keeps hV) (Lies.keeps hV _ _ _ hy) ht hr

set_option maxRecDepth 100000 in
set_option maxHeartbeats 8000000 in
theorem rank15_core (n : Nat) (E : Int) (b : Nat) (y : VT) (ak : Option Addr) (ck : Nat) (w : World) (hc : ∀ V, Below w.heap.size w V → Calls Tryz.prog 44 #[.pointer (some ⟨b, 0, none⟩), .agg #[.int .i64 y.kind, .int .i64 y.num, .string y.text, .slice ak y.items.length ck], .bool false] V fun e w' => e = .returned (.tuple #[.int .i64 (n : Int), .int .i64 E]) ∧ Below V.heap.size V w') : Calls Tryz.prog 22 #[.pointer (some ⟨b, 0, none⟩), .agg #[.int .i64 y.kind, .int .i64 y.num, .string y.text, .slice ak y.items.length ck]] w fun e w' => e = .returned (.tuple #[.int .i64 (n : Int), .int .i64 E]) ∧ Below w.heap.size w w' := by
  have HU : Hid _ := hc
  have HB : Hid (Below w.heap.size w (w.alloc (.cells #[.int .i64 y.kind, .int .i64 y.num, .string y.text, .slice ak y.items.length ck] 25))) := ((Grew.refl w).alloc _).below
  clear hc
  go_enter Tryz.func22, Tryz.ntmps22
  go_wp2_with fail
  refine Calls.mono (HU.out _ HB.out) ?_
  rintro e w2 ⟨rfl, hg2⟩
  have hb2 : Below w.heap.size w w2 := HB.out.trans (hg2.mono HB.out.size)
  clear hg2 HU HB
  go_wp2_with fail
  first | (go_ret; exact ⟨rfl, hb2⟩) | (go_ret2; exact ⟨rfl, hb2⟩)

theorem rank15_wrong (d b : Nat) (y : VT) (yu : Value) (w : World) (hy : Lies d w y.items yu) (ht : y.text.size ≤ 9223372036854775807) (hr : rightV d y = false) : Calls Tryz.prog 22 #[.pointer (some ⟨b, 0, none⟩), .agg #[.int .i64 y.kind, .int .i64 y.num, .string y.text, yu]] w fun e w' => e = .returned (.tuple #[.int .i64 0, .int .i64 3]) ∧ Below w.heap.size w w' := by
  obtain ⟨ak, ck, rfl, _⟩ := Lies.slice hy
  exact rank15_core 0 3 b y ak ck w fun V hV => upto_wrong d b false y _ V (Lies.keeps hV _ _ _ hy) ht hr

theorem rank15_right (d b q : Nat) (t : RT PT) (y : VT) (yu : Value) (w : World) (hm : MC w q t b) (hy : Lies d w y.items yu) (ht : y.text.size ≤ 9223372036854775807) (hr : rightV d y = true) : Calls Tryz.prog 22 #[.pointer (some ⟨b, 0, none⟩), .agg #[.int .i64 y.kind, .int .i64 y.num, .string y.text, yu]] w fun e w' => e = .returned (.tuple #[.int .i64 (RT.upTo (atK q y) false t : Nat), .int .i64 0]) ∧ Below w.heap.size w w' := by
  obtain ⟨ak, ck, rfl, _⟩ := Lies.slice hy
  exact rank15_core _ 0 b y ak ck w fun V hV => upto_right d b q false t y _ V (hm.keeps hV) (Lies.keeps hV _ _ _ hy) ht hr

set_option maxRecDepth 100000 in
set_option maxHeartbeats 8000000 in
theorem rat_15 (b q : Nat) (t : RT PT) (i : Int) (w : World) (hm : MC w q t b) : Calls Tryz.prog 20 #[.pointer (some ⟨b, 0, none⟩), .int .i64 i] w (AtPost15 (itemAt t.items i) w) := by
  obtain ⟨O, hO⟩ : ∃ O, O = itemAt t.items i := ⟨_, rfl⟩
  have HU : Hid (∀ V, Below w.heap.size w V → Calls Tryz.prog 43 #[.pointer (some ⟨b, 0, none⟩), .int .i64 i] V (InPost O V)) := fun V hV => by rw [hO]; exact inpl_15 b q t _ V (hm.keeps hV)
  rw [← hO]
  obtain ⟨W0, hW0⟩ : ∃ W0, W0 = w.alloc (.cells #[.int .i64 0, .int .i64 0, .string ⟨#[]⟩, .slice none 0 0, .int .i64 0, .int .i64 0, .string ⟨#[]⟩, .slice none 0 0] 33) := ⟨_, rfl⟩
  have HW0 : Hid (W0 = w.alloc (.cells #[.int .i64 0, .int .i64 0, .string ⟨#[]⟩, .slice none 0 0, .int .i64 0, .int .i64 0, .string ⟨#[]⟩, .slice none 0 0] 33)) := hW0
  have hb0 : Below w.heap.size w W0 := by rw [hW0]; exact ((Grew.refl w).alloc _).below
  have HS0 : Hid (w.heap.size < W0.heap.size) := by rw [hW0]; show _ < _; simp
  have HZ0 : Hid (Bx8 W0 w.heap.size (.int .i64 0) (.int .i64 0) (.string ⟨#[]⟩) (.slice none 0 0) (.int .i64 0) (.int .i64 0) (.string ⟨#[]⟩) (.slice none 0 0)) := by rw [hW0]; exact bx8_alloc _ _ _ _ _ _ _ _ _ _
  clear hW0 hO hm
  go_enter Tryz.func20, Tryz.ntmps20
  go_upto_region 1 with fail
  rw [← HW0.out]
  clear HW0
  go_wp2_with fail
  refine Calls.mono (HU.out _ hb0) ?_
  rintro e w2 ⟨hg2, hcase⟩
  have HZ2 : Hid (Bx8 w2 w.heap.size (.int .i64 0) (.int .i64 0) (.string ⟨#[]⟩) (.slice none 0 0) (.int .i64 0) (.int .i64 0) (.string ⟨#[]⟩) (.slice none 0 0)) := HZ0.out.keeps hg2
  have hb2 : Below w.heap.size w w2 := hb0.trans (hg2.mono hb0.size)
  clear hg2 HU HZ0
  rcases hcase with ⟨ho, rfl⟩ | ⟨x, ku, vu, ho, rfl, hl5, hl6⟩
  · obtain ⟨W3, hW3⟩ : ∃ W3, W3 = w2.alloc (.cells #[.int .i64 0, .int .i64 0, .string ⟨#[]⟩, .slice none 0 0, .int .i64 0, .int .i64 0, .string ⟨#[]⟩, .slice none 0 0] 33) := ⟨_, rfl⟩
    have HW3 : Hid (W3 = w2.alloc (.cells #[.int .i64 0, .int .i64 0, .string ⟨#[]⟩, .slice none 0 0, .int .i64 0, .int .i64 0, .string ⟨#[]⟩, .slice none 0 0] 33)) := hW3
    have hal : Below w2.heap.size w2 W3 := by rw [hW3]; exact ((Grew.refl w2).alloc _).below
    have HZ3 : Hid (Bx8 W3 w.heap.size (.int .i64 0) (.int .i64 0) (.string ⟨#[]⟩) (.slice none 0 0) (.int .i64 0) (.int .i64 0) (.string ⟨#[]⟩) (.slice none 0 0)) := HZ2.out.keeps hal
    have hb3 : Below w.heap.size w W3 := hb2.trans (hal.mono hb2.size)
    obtain ⟨y0, y1, y2, y3, y4, y5, y6, y7, f0, f1, f2, f3, f4, f5, f6, f7, _⟩ := HZ3.out
    have Hq : Hid _ := put8_in HZ3.out (.int .i64 0) (.int .i64 0) (.string ⟨#[]⟩) (.slice none 0 0) (.int .i64 0) (.int .i64 0) (.string ⟨#[]⟩) (.slice none 0 0)
    have HE : Hid (AtPost15 O w (.returned (.tuple #[.agg #[.int .i64 0, .int .i64 0, .string ⟨#[]⟩, .slice none 0 0, .int .i64 0, .int .i64 0, .string ⟨#[]⟩, .slice none 0 0], .int .i64 5])) (W3.setCells w.heap.size 0 [.int .i64 0, .int .i64 0, .string ⟨#[]⟩, .slice none 0 0, .int .i64 0, .int .i64 0, .string ⟨#[]⟩, .slice none 0 0])) := ⟨below_put8 hb3 (Nat.le_refl _) _ _ _ _ _ _ _ _, .inl ⟨ho, rfl⟩⟩
    clear hW3 hal ho hb0 hb2 hb3
    go_upto_region 2 with fail
    rw [← HW3.out]
    clear HW3
    go_wp2_with fail
    refine bodyPost_ret (v := .tuple #[.agg #[.int .i64 0, .int .i64 0, .string ⟨#[]⟩, .slice none 0 0, .int .i64 0, .int .i64 0, .string ⟨#[]⟩, .slice none 0 0], .int .i64 5]) ?_ rfl HE.out
    obtain ⟨q0, q1, q2, q3, q4, q5, q6, q7⟩ := Hq.out
    simp only [World.setCells, Nat.zero_add, Nat.reduceAdd] at q0 q1 q2 q3 q4 q5 q6 q7
    simp [results, Tryz.results20, go_sem, q0, q1, q2, q3, q4, q5, q6, q7]
  · obtain ⟨a5, c5, rfl, _⟩ := LiesB.slice hl5
    obtain ⟨a6, c6, rfl, _⟩ := LiesB.slice hl6
    obtain ⟨W3, hW3⟩ : ∃ W3, W3 = w2.alloc (.cells #[.int .i64 x.1.kind, .int .i64 x.1.num, .string x.1.text, .slice a5 x.1.items.length c5, .int .i64 x.2.kind, .int .i64 x.2.num, .string x.2.text, .slice a6 x.2.items.length c6] 33) := ⟨_, rfl⟩
    have HW3 : Hid (W3 = w2.alloc (.cells #[.int .i64 x.1.kind, .int .i64 x.1.num, .string x.1.text, .slice a5 x.1.items.length c5, .int .i64 x.2.kind, .int .i64 x.2.num, .string x.2.text, .slice a6 x.2.items.length c6] 33)) := hW3
    have hal : Below w2.heap.size w2 W3 := by rw [hW3]; exact ((Grew.refl w2).alloc _).below
    have HB3 : Hid (Bx8 W3 w2.heap.size (.int .i64 x.1.kind) (.int .i64 x.1.num) (.string x.1.text) (.slice a5 x.1.items.length c5) (.int .i64 x.2.kind) (.int .i64 x.2.num) (.string x.2.text) (.slice a6 x.2.items.length c6)) := by rw [hW3]; exact bx8_alloc _ _ _ _ _ _ _ _ _ _
    have HZ3 : Hid (Bx8 W3 w.heap.size (.int .i64 0) (.int .i64 0) (.string ⟨#[]⟩) (.slice none 0 0) (.int .i64 0) (.int .i64 0) (.string ⟨#[]⟩) (.slice none 0 0)) := HZ2.out.keeps hal
    have hb3 : Below w.heap.size w W3 := hb2.trans (hal.mono hb2.size)
    obtain ⟨y0, y1, y2, y3, y4, y5, y6, y7, f0, f1, f2, f3, f4, f5, f6, f7, _⟩ := HZ3.out
    obtain ⟨z0, z1, z2, z3, z4, z5, z6, z7, _, _, _, _, _, _, _, _, _⟩ := HB3.out
    have Hq : Hid _ := put8_in HZ3.out (.int .i64 x.1.kind) (.int .i64 x.1.num) (.string x.1.text) (.slice a5 x.1.items.length c5) (.int .i64 x.2.kind) (.int .i64 x.2.num) (.string x.2.text) (.slice a6 x.2.items.length c6)
    have HE : Hid (AtPost15 O w (.returned (.tuple #[.agg #[.int .i64 x.1.kind, .int .i64 x.1.num, .string x.1.text, .slice a5 x.1.items.length c5, .int .i64 x.2.kind, .int .i64 x.2.num, .string x.2.text, .slice a6 x.2.items.length c6], .int .i64 0])) (W3.setCells w.heap.size 0 [.int .i64 x.1.kind, .int .i64 x.1.num, .string x.1.text, .slice a5 x.1.items.length c5, .int .i64 x.2.kind, .int .i64 x.2.num, .string x.2.text, .slice a6 x.2.items.length c6])) := ⟨below_put8 hb3 (Nat.le_refl _) _ _ _ _ _ _ _ _, .inr ⟨x, _, _, ho, rfl, LiesB.lower14 hb0.size _ _ _ (LiesB.put8 HS0.out _ (LiesB.keepsB hal hl5)), LiesB.lower14 hb0.size _ _ _ (LiesB.put8 HS0.out _ (LiesB.keepsB hal hl6))⟩⟩
    clear hW3 hal ho hb0 hb2 hb3 hl5 hl6
    go_upto_region 2 with fail
    rw [← HW3.out]
    clear HW3
    go_wp2_with fail
    refine bodyPost_ret (v := .tuple #[.agg #[.int .i64 x.1.kind, .int .i64 x.1.num, .string x.1.text, .slice a5 x.1.items.length c5, .int .i64 x.2.kind, .int .i64 x.2.num, .string x.2.text, .slice a6 x.2.items.length c6], .int .i64 0]) ?_ rfl HE.out
    obtain ⟨q0, q1, q2, q3, q4, q5, q6, q7⟩ := Hq.out
    simp only [World.setCells, Nat.zero_add, Nat.reduceAdd] at q0 q1 q2 q3 q4 q5 q6 q7
    simp [results, Tryz.results20, go_sem, q0, q1, q2, q3, q4, q5, q6, q7]

end Go.Proofs.YtpmodiodpilmeaaGreat

namespace Go.Proofs.YtpmodiodpilmeaaGreat
open Go.RowKit Go.Shelf

/-- How many are ahead from the first one on. -/
def rankR (q : Nat) (l : List PT) (y : VT) : Nat := (l.takeWhile (fun x => decide (ordV q x.1 y < 0))).length
/-- Is the one behind them it? -/
def thereR (q : Nat) (l : List PT) (y : VT) : Bool := match l[rankR q l y]? with | some x => cmpV 16 x.1 y == 0 | none => false

theorem takeWhile_len {α : Type} (p : α → Bool) : ∀ (l : List α) (k : Nat), k ≤ l.length → (∀ j (hj : j < l.length), j < k → p l[j] = true) → (∀ hk : k < l.length, p l[k] = false) → (l.takeWhile p).length = k
  | [], k, h, _, _ => by simp at h; simp [h]
  | a :: l, 0, _, _, h => by
    have h9 := h (by simp)
    simp only [List.getElem_cons_zero] at h9
    simp [h9]
  | a :: l, k + 1, h, h1, h2 => by
    have h9 := h1 0 (by simp) (by omega)
    simp only [List.getElem_cons_zero] at h9
    rw [List.takeWhile_cons, h9]
    simp only [if_true, List.length_cons]
    rw [takeWhile_len p l k (by simpa using h) (fun j hj hk => by have h8 := h1 (j + 1) (by simpa using hj) (by omega); simpa using h8) (fun hk => by have h8 := h2 (by simpa using hk); simpa using h8)]

set_option maxRecDepth 100000 in
set_option maxHeartbeats 8000000 in
theorem rrank_15 (q : Nat) (hq : q < 6) (qs : List PP) (v : Value) (y : VT) (yu : Value) (w : World) (hv : SlQ 0 16 w qs v) (hr : ∀ p ∈ qs, rightV 16 p.1.1 = true) (hlen : qs.length ≤ 65536) (hy : Lies 16 w y.items yu) (hyr : rightV 16 y = true) :
    Calls Tryz.prog 24 #[.int .i64 (q : Int), v, .agg #[.int .i64 y.kind, .int .i64 y.num, .string y.text, yu]] w fun e w' => e = .returned (.tuple #[.int .i64 (rankR q (qs.map trT) y : Nat), .bool (thereR q (qs.map trT) y)]) ∧ Below w.heap.size w w' := by
  obtain ⟨ay, cy, rfl, _⟩ := Lies.slice hy
  obtain ⟨K, hK⟩ : ∃ K, K = rankR q (qs.map trT) y := ⟨_, rfl⟩
  obtain ⟨F, hF⟩ : ∃ F, F = thereR q (qs.map trT) y := ⟨_, rfl⟩
  have HK : Hid (∀ k, k ≤ qs.length → (∀ j (hj : j < qs.length), j < k → ordV q qs[j].1.1 y < 0) → (∀ hk : k < qs.length, ¬ ordV q qs[k].1.1 y < 0) → K = k ∧ F = (match qs[k]? with | some p => cmpV 16 p.1.1 y == 0 | none => false)) := by
    intro k h1 h2 h3
    have e : rankR q (qs.map trT) y = k := takeWhile_len _ _ k (by simpa using h1) (fun j hj hk => by
      have h9 := h2 j (by simpa using hj) hk
      simpa [trT] using h9) (fun hk => by
      have h9 := h3 (by simpa using hk)
      simpa [trT] using h9)
    refine ⟨by rw [hK, e], ?_⟩
    rw [hF]
    unfold thereR
    rw [e, List.getElem?_map]
    cases qs[k]? <;> rfl
  rw [← hK, ← hF]
  have Ho : Hid (∀ (x : VT) (xv tv : Value) (W : World), Lies 16 W x.items xv → Lies 16 W y.items tv → rightV 16 x = true → rightV 16 y = true → Calls Tryz.prog 48 #[.int .i64 (q : Int), .agg #[.int .i64 x.kind, .int .i64 x.num, .string x.text, xv], .agg #[.int .i64 y.kind, .int .i64 y.num, .string y.text, tv]] W fun e w' => e = .returned (.int .i64 (ordV q x y)) ∧ Below W.heap.size W w') := fun x xv tv W k1 k2 k3 k4 => rordV_any q hq x y xv tv W k1 k2 k3 k4
  have Hs : Hid (∀ (x : VT) (xv tv : Value) (W : World), Lies 16 W x.items xv → Lies 16 W y.items tv → Calls Tryz.prog 49 #[.agg #[.int .i64 x.kind, .int .i64 x.num, .string x.text, xv], .agg #[.int .i64 y.kind, .int .i64 y.num, .string y.text, tv]] W fun e w' => e = .returned (.bool (cmpV 16 x y == 0)) ∧ Below W.heap.size W w') := fun x xv tv W k1 k2 => rsame_any x y xv tv W k1 k2
  have HT : Hid (Lies 16 w y.items (.slice ay y.items.length cy) ∧ rightV 16 y = true) := ⟨hy, hyr⟩
  have HG : Hid (∀ p ∈ qs, rightV 16 p.1.1 = true) := hr
  have HL : Hid (qs.length ≤ 65536) := hlen
  obtain ⟨a, c, rfl, hac, _, hrow, hgood⟩ := hv
  have Hr : Hid (qs ≠ [] → ∃ b o, a = some ⟨b, o, none⟩ ∧ 0 ≤ b ∧ QAt w b o qs) := hrow
  have HGd : Hid (∀ p ∈ qs, GoodQ 16 w p) := hgood
  have HB0 : Hid (Bx (w.alloc (.cells #[.int .i64 y.kind, .int .i64 y.num, .string y.text, .slice ay y.items.length cy] 25)) w.heap.size y (.slice ay y.items.length cy)) := bx_alloc _ _ _
  have hb0 : Below w.heap.size w (w.alloc (.cells #[.int .i64 y.kind, .int .i64 y.num, .string y.text, .slice ay y.items.length cy] 25)) := ((Grew.refl w).alloc _).below
  obtain ⟨N, hN⟩ : ∃ N, N = qs.length := ⟨_, rfl⟩
  have HN : Hid (N = qs.length) := hN
  rw [← hN]
  clear hK hF hq hr hlen hy hyr hrow hgood hac hN
  generalize ordV q = g at *
  go_enter Tryz.func24, Tryz.ntmps24
  go_wp2_with fail
  go_loopg [8] N (fun z i wr => ∃ k : Nat, i = .int .i64 (k : Int) ∧ z = N - k ∧ k ≤ N ∧ Hid (∀ j (hj : j < qs.length), j < k → g qs[j].1.1 y < 0) ∧ Hid (Bx wr w.heap.size y (.slice ay y.items.length cy)) ∧ Hid (Below w.heap.size w wr))
  case atStart => exact ⟨0, rfl, by omega, by omega, fun j hj h => by omega, HB0, hb0⟩
  case round =>
    obtain ⟨k, rfl, hk, hk2, HD, HB, HW⟩ := hrel
    have Hk : Hid _ := hk
    clear hk HB0 hb0
    have hbw := HW.out
    by_cases hlt : k < N
    · have hki : (k : Int) < (N : Nat) := by omega
      have hltq : k < qs.length := by have := HN.out; omega
      obtain ⟨b, o, rfl, _, hall⟩ := Hr.out (by intro e; simp [e] at hltq)
      have gp := HG.out qs[k] (List.getElem_mem hltq)
      have gq := (HGd.out qs[k] (List.getElem_mem hltq)).1
      have Hyes : Hid (g qs[k].1.1 y < 0 → ∀ j (hj : j < qs.length), j < k + 1 → g qs[j].1.1 y < 0) := fun h j hj h2 => by
        by_cases e : j < k
        · exact HD.out j hj e
        · have : j = k := by omega
          subst this; exact h
      have Hno : Hid (¬ g qs[k].1.1 y < 0 → K = k ∧ F = (cmpV 16 qs[k].1.1 y == 0)) := fun h => by
        obtain ⟨e1, e2⟩ := HK.out k (by have := HN.out; omega) HD.out (fun _ => by omega)
        rw [List.getElem?_eq_getElem hltq] at e2
        exact ⟨e1, e2⟩
      obtain ⟨p0, p1, p2, p3, q4, q5, q6, q7⟩ := hall.at k hltq
      clear q4 q5 q6 q7
      obtain ⟨ax, cx, hax, _⟩ := Lies.slice gq.1
      rw [hax] at p3
      have HX : Hid (Lies 16 w qs[k].1.1.items (.slice ax qs[k].1.1.items.length cx) ∧ rightV 16 qs[k].1.1 = true) := ⟨by rw [← hax]; exact gq.1, gp⟩
      clear HD hall gp gq hax
      generalize qs[k].1.1 = x at *
      have p0 := cell_keeps hbw p0; have p1 := cell_keeps hbw p1; have p2 := cell_keeps hbw p2; have p3 := cell_keeps hbw p3
      obtain ⟨r0, r1, r2, r3, _, _, _, _⟩ := HB.out
      have hwl := hbw.size
      have HP0 : Hid (w.heap.size ≤ wr.heap.size) := hwl
      clear hltq
      go_wp2_with fail
      go_region_held3 (fun w' => w'.cell? ⟨b, o + k * 8, none⟩ = some (.int .i64 x.kind) ∧ w'.cell? ⟨b, o + k * 8 + 1, none⟩ = some (.int .i64 x.num) ∧ w'.cell? ⟨b, o + k * 8 + 2, none⟩ = some (.string x.text) ∧ w'.cell? ⟨b, o + k * 8 + 3, none⟩ = some (.slice ax x.items.length cx) ∧ w'.cell? ⟨w.heap.size, 0, none⟩ = some (.int .i64 y.kind) ∧ w'.cell? ⟨w.heap.size, 1, none⟩ = some (.int .i64 y.num) ∧ w'.cell? ⟨w.heap.size, 2, none⟩ = some (.string y.text) ∧ w'.cell? ⟨w.heap.size, 3, none⟩ = some (.slice ay y.items.length cy)) (go_keep)
        (first | (go_at_call 48; (with_reducible refine (Ho.out x _ _ _ (Lies.keeps hbw.drew _ _ _ HX.out.1) (Lies.keeps hbw.drew _ _ _ HT.out.1) HX.out.2 HT.out.2).mono ?_); rintro e w1 ⟨rfl, hg1⟩; have hb1' : Below wr.heap.size wr w1 := (Below.refl _ _).drew.trans hg1; have hb1 : Below w.heap.size w w1 := hbw.trans (hb1'.mono hwl); have HB1 : Hid (Bx w1 w.heap.size y (.slice ay y.items.length cy)) := HB.out.keeps hb1'; clear hg1; have p0 := cell_keeps hb1' p0; have p1 := cell_keeps hb1' p1; have p2 := cell_keeps hb1' p2; have p3 := cell_keeps hb1' p3; have r0 := cell_keeps hb1' r0; have r1 := cell_keeps hb1' r1; have r2 := cell_keeps hb1' r2; have r3 := cell_keeps hb1' r3))
      have HP1 : Hid (w1.cell? ⟨b, o + k * 8, none⟩ = some (.int .i64 x.kind) ∧ w1.cell? ⟨b, o + k * 8 + 1, none⟩ = some (.int .i64 x.num) ∧ w1.cell? ⟨b, o + k * 8 + 2, none⟩ = some (.string x.text) ∧ w1.cell? ⟨b, o + k * 8 + 3, none⟩ = some (.slice ax x.items.length cx)) := ⟨p0, p1, p2, p3⟩
      clear p0 p1 p2 p3 r0 r1 r2 r3 hb1' HB
      have hNz := HL.out
      have hNq := HN.out
      have hkz : k < 65536 := by omega
      clear hNz hNq
      by_cases hz : g x y < 0
      · have HD2 : Hid _ := Hyes.out hz
        clear Hyes Hno
        generalize g x y = Z at *
        go_wp2_with fail
        go_roundg (N - (k + 1))
        case measure => have := Hk.out; omega
        case rel => exact ⟨k + 1, by go_num, rfl, by omega, HD2, HB1, hb1⟩
      · obtain ⟨hKk, hFk⟩ := Hno.out (by omega)
        have HFk : Hid (F = (cmpV 16 x y == 0)) := hFk
        clear Hyes Hno hFk
        subst hKk
        generalize g x y = Z at *
        obtain ⟨p0, p1, p2, p3⟩ := HP1.out
        go_wp2_with fail
        obtain ⟨r0, r1, r2, r3, _, _, _, _⟩ := HB1.out
        have hwl1 := hb1.size
        go_region_held3 (fun w' => w'.cell? ⟨b, o + K * 8, none⟩ = some (.int .i64 x.kind) ∧ w'.cell? ⟨b, o + K * 8 + 1, none⟩ = some (.int .i64 x.num) ∧ w'.cell? ⟨b, o + K * 8 + 2, none⟩ = some (.string x.text) ∧ w'.cell? ⟨b, o + K * 8 + 3, none⟩ = some (.slice ax x.items.length cx) ∧ w'.cell? ⟨w.heap.size, 0, none⟩ = some (.int .i64 y.kind) ∧ w'.cell? ⟨w.heap.size, 1, none⟩ = some (.int .i64 y.num) ∧ w'.cell? ⟨w.heap.size, 2, none⟩ = some (.string y.text) ∧ w'.cell? ⟨w.heap.size, 3, none⟩ = some (.slice ay y.items.length cy)) (go_keep)
          (first | (go_at_call 49; (with_reducible refine (Hs.out x _ _ _ (Lies.keeps hb1.drew _ _ _ HX.out.1) (Lies.keeps hb1.drew _ _ _ HT.out.1)).mono ?_); rintro e w4 ⟨rfl, hg1⟩; have hb4' : Below w1.heap.size w1 w4 := (Below.refl _ _).drew.trans hg1; have hb4 : Below w.heap.size w w4 := hb1.trans (hb4'.mono hwl1); clear hg1; have p0 := cell_keeps hb4' p0; have p1 := cell_keeps hb4' p1; have p2 := cell_keeps hb4' p2; have p3 := cell_keeps hb4' p3; have r0 := cell_keeps hb4' r0; have r1 := cell_keeps hb4' r1; have r2 := cell_keeps hb4' r2; have r3 := cell_keeps hb4' r3))
        clear p0 p1 p2 p3 r0 r1 r2 r3 hb4'
        rw [← HFk.out]
        go_wp2_with fail
        exact bodyPost_ret (v := .tuple #[.int .i64 K, .bool F]) (by simp [results, Tryz.results24, go_sem]) rfl ⟨rfl, hb4⟩
    · have hki : ¬ (k : Int) < (N : Nat) := by omega
      obtain ⟨e1, e2⟩ := HK.out k (by have := HN.out; omega) HD.out (fun h => absurd h (by have := HN.out; omega))
      rw [List.getElem?_eq_none (by have := HN.out; omega)] at e2
      have hFk : F = false := e2
      clear HD HK e2
      subst e1 hFk
      go_wp2_with fail
      go_region
      go_wp2_with fail
      go_region
      go_wp2_with fail
      exact bodyPost_ret (v := .tuple #[.int .i64 K, .bool false]) (by simp [results, Tryz.results24, go_sem]) rfl ⟨rfl, hbw.drew.drew⟩

end Go.Proofs.YtpmodiodpilmeaaGreat

namespace Go.Proofs.YtpmodiodpilmeaaGreat
open Go.RowKit Go.Shelf

/-- A number's value. -/
abbrev numW (n : Int) : VT := ⟨2, n, ⟨#[]⟩, []⟩

def nm15 : Nat → Int | 0 => 1 | 1 => 3 | _ => 5
def pq15 (n : Int) : PP := ((numW n, .slice none 0 0), (numW n, .slice none 0 0))
def lq15 (i : Nat) : List PP := (List.range i).map (fun j => pq15 (nm15 j))
def five15 : List PT := [(numW 1, numW 1), (numW 3, numW 3), (numW 5, numW 5)]

theorem lq15_succ (i : Nat) : lq15 (i + 1) = lq15 i ++ [pq15 (nm15 i)] := by unfold lq15; rw [List.range_succ, List.map_append]; rfl
theorem lq15_len (i : Nat) : (lq15 i).length = i := by unfold lq15; simp
theorem five_err : ofErr 16 0 ((lq15 3).map trT) = 0 := by kernel_rfl
theorem five_kyd : (kyd (cmpQ 16) ((lq15 3).length + 1) (lq15 3)).map trT = five15 := by kernel_rfl
theorem five_rises : RT.Rises (byK 0) five15 := by
  have h1 : byK 0 (numW 1, numW 1) (numW 3, numW 3) = -1 := by kernel_rfl
  have h2 : byK 0 (numW 1, numW 1) (numW 5, numW 5) = -1 := by kernel_rfl
  have h3 : byK 0 (numW 3, numW 3) (numW 5, numW 5) = -1 := by kernel_rfl
  refine List.Pairwise.cons (fun y hy => ?_) (List.Pairwise.cons (fun y hy => ?_) (List.pairwise_singleton _ _))
  · rcases List.mem_cons.1 hy with rfl | hy
    · rw [h1]; decide
    · rw [List.mem_singleton.1 hy, h2]; decide
  · rw [List.mem_singleton.1 hy, h3]; decide
theorem five_items {w : World} {t : RT PT} {b : Nat} (h : MC w 0 t b) (hm : ∀ y, y ∈ t.items ↔ y ∈ (kyd (cmpQ 16) ((lq15 3).length + 1) (lq15 3)).map trT) : t.items = five15 := by
  refine RT.rises_eq (byK_cmp 0) _ _ h.rises five_rises fun y => ?_
  rw [hm y, five_kyd]
theorem five_no : (five15.filter (RT.ahead (atK 0 (numW 4)) false)).length = 2 := by kernel_rfl
theorem five_yes : (five15.filter (RT.ahead (atK 0 (numW 4)) true)).length = 2 := by kernel_rfl
theorem five_up (c : Bool) {w : World} {t : RT PT} {b : Nat} (h : MC w 0 t b) (hi : t.items = five15) : RT.upTo (atK 0 (numW 4)) c t = 2 := by
  have h9 := RT.upTo_items (atK 0 (numW 4)) c t (RT.Rises.falls (byK_cmp 0) h.rises (numW 4, numW 4))
  rw [h9, hi]
  cases c
  · exact five_no
  · exact five_yes
theorem four_right : rightV 16 (numW 4) = true := by kernel_rfl
theorem lq15_good (W : World) (i : Nat) : ∀ p ∈ lq15 i, GoodQ 16 W p := by
  intro p hp
  obtain ⟨j, _, rfl⟩ := List.mem_map.1 hp
  exact ⟨⟨zero_lies _ _, (show (0 : Nat) ≤ 9223372036854775807 by decide)⟩, ⟨zero_lies _ _, (show (0 : Nat) ≤ 9223372036854775807 by decide)⟩⟩

set_option maxRecDepth 100000 in
set_option maxHeartbeats 8000000 in
theorem speaks15_any (w : World) : Calls Tryz.prog 9 #[] w fun e w' => e = .returned (.bool true) ∧ Below w.heap.size w w' := by
  obtain ⟨i0, hi, hz0, hz1, hz2⟩ := infoQ
  have Hi : Hid _ := hi; have Hz0 : Hid _ := hz0; have Hz1 : Hid _ := hz1; have Hz2 : Hid _ := hz2
  have HI : Hid (∀ n W, Calls Tryz.prog 36 #[.int .i64 n] W fun e w' => e = .returned (.agg #[.int .i64 2, .int .i64 n, .string ⟨#[]⟩, .slice none 0 0]) ∧ Below W.heap.size W w') := fun n W => Calls.mono (int_any n W) fun _ _ h => ⟨h.1, h.2.below⟩
  obtain ⟨W1, hW1⟩ : ∃ W1, W1 = w.alloc (.cells #[.int .i64 1, .int .i64 3, .int .i64 5] 2) := ⟨_, rfl⟩
  have HW1 : Hid (W1 = w.alloc (.cells #[.int .i64 1, .int .i64 3, .int .i64 5] 2)) := hW1
  have hs1 : W1.heap.size = w.heap.size + 1 := by rw [hW1]; simp
  have HS1 : Hid (W1.heap.size = w.heap.size + 1) := hs1
  have HB1 : Hid (Below w.heap.size w W1) := by rw [hW1]; exact ((Grew.refl w).alloc _).below
  have HC1 : Hid (∀ j, j < 3 → W1.cell? ⟨w.heap.size, j, none⟩ = some (.int .i64 (nm15 j))) := by
    intro j hj
    rw [hW1]
    match j, hj with
    | 0, _ => simp [nm15]
    | 1, _ => simp [nm15]
    | 2, _ => simp [nm15]
  have HO : Hid (∀ v W, W.ownsRow W1.heap.size 33 8 v 3 ((lq15 3).flatMap encQ) → Calls Tryz.prog 8 #[.int .i64 0, v] W fun e w' => ∃ t b, e = .returned (.tuple #[.pointer (some ⟨b, 0, none⟩), .int .i64 0]) ∧ MC w' 0 t b ∧ t.items = five15 ∧ Below W.heap.size W w') := fun v W hv => by
    refine Calls.mono (mof_14 16 0 (lq15 3) v W ((SlQ.of_own (lq15_len 3).symm hv (lq15_good W 3) (by rw [lq15_len]; decide)).mono (Nat.zero_le _))) ?_
    rintro e w' ⟨hb, ⟨hne, _⟩ | ⟨_, t, b, rfl, hm, hme⟩⟩
    · exact absurd five_err hne
    · exact ⟨t, b, rfl, hm, five_items hm hme, hb⟩
  clear hi hz0 hz1 hz2 hW1 hs1
  go_enter Tryz.func9, Tryz.ntmps9
  go_wp2_with fail
  rw [← HW1.out]
  go_loopg [13, 1, 3] 3 (fun z vi v1 _ wr => ∃ i : Nat, vi = .int .i64 (i : Int) ∧ i ≤ 3 ∧ z = 3 - i ∧ Hid (wr.ownsRow W1.heap.size 33 8 v1 i ((lq15 i).flatMap encQ)) ∧ Hid (Below W1.heap.size W1 wr))
  case atStart => exact ⟨0, rfl, by omega, rfl, World.ownsRow_nil _ _ _ _, Below.refl _ _⟩
  case round =>
    obtain ⟨i, rfl, hi3, hz, HOw, HBw⟩ := hrel
    have Hz : Hid _ := hz
    clear hz HW1
    by_cases hlt : i < 3
    · have hli : (i : Int) < 3 := by omega
      have c1 : wr.cell? ⟨w.heap.size, i, none⟩ = some (.int .i64 (nm15 i)) := cell_keeps HBw.out (HC1.out i hlt)
      have HLq : Hid ((lq15 (i + 1)).flatMap encQ = (lq15 i).flatMap encQ ++ encQ (pq15 (nm15 i))) := by show _ = _; rw [lq15_succ, List.flatMap_append]; simp
      generalize nm15 i = n at *
      go_wp2_with fail
      refine Calls.mono (HI.out _ _) ?_
      rintro e w2 ⟨rfl, hg2⟩
      go_wp2_with fail
      refine Calls.mono (HI.out _ _) ?_
      rintro e w3 ⟨rfl, hg3⟩
      have hg : Below wr.heap.size wr w3 := hg2.trans (hg3.mono hg2.size)
      have Hown : Hid (w3.ownsRow W1.heap.size 33 8 u1 i ((lq15 i).flatMap encQ)) := own_keeps HOw.out hg
      have hb3 : Below W1.heap.size W1 w3 := HBw.out.trans (hg.mono HBw.out.size)
      have hwl : W1.heap.size ≤ w3.heap.size := hb3.size
      clear hg2 hg3 hg c1
      go_wp2_with (first
        | (at_builtin; refine wpList_append_own _ rfl _ _ 22 rfl W1.heap.size 33 i0 (.agg #[.int .i64 0, .int .i64 0, .string ⟨#[]⟩, .slice none 0 0, .int .i64 0, .int .i64 0, .string ⟨#[]⟩, .slice none 0 0]) 8 112 Tryz.underlying22 Hi.out Hz0.out Hz1.out Hz2.out rfl (by decide) _ _ _ rfl (Hown.out.alloc _) ⟨w3.heap.size, 0, none⟩ 1 1 [.int .i64 2, .int .i64 n, .string ⟨#[]⟩, .slice none 0 0, .int .i64 2, .int .i64 n, .string ⟨#[]⟩, .slice none 0 0] rfl rfl (fun q u hq => by match q, hq with | 0, hq => (simp at hq; subst hq; simp [Addr.add]) | 1, hq => (simp at hq; subst hq; simp [Addr.add]) | 2, hq => (simp at hq; subst hq; simp [Addr.add]) | 3, hq => (simp at hq; subst hq; simp [Addr.add]) | 4, hq => (simp at hq; subst hq; simp [Addr.add]) | 5, hq => (simp at hq; subst hq; simp [Addr.add]) | 6, hq => (simp at hq; subst hq; simp [Addr.add]) | 7, hq => (simp at hq; subst hq; simp [Addr.add]) | q + 8, hq => simp at hq) (fun u hu => by simp only [List.mem_cons, List.not_mem_nil, or_false] at hu; rcases hu with rfl | rfl | rfl | rfl | rfl | rfl | rfl | rfl <;> rfl) (by unfold maxLen; omega) (by omega) (by simp; omega) ?_; intro v' w9 hown' hgrow _))
      have hb9 : Below W1.heap.size W1 w9 := own_growM (hb3.alloc hwl _) (by simp; omega) (Hown.out.alloc _) hgrow
      have HN3 : Hid (w9.ownsRow W1.heap.size 33 8 v' (i + 1) ((lq15 (i + 1)).flatMap encQ)) := by rw [HLq.out]; exact hown'
      clear hown' hgrow Hown hb3
      go_wp2_with fail
      go_roundg (3 - (i + 1))
      case measure => have := Hz.out; omega
      case rel => exact ⟨i + 1, by go_num, by omega, rfl, HN3, hb9⟩
    · have hli : ¬ (i : Int) < 3 := by omega
      obtain rfl : i = 3 := by omega
      have hbw : Below w.heap.size w wr := HB1.out.trans (HBw.out.mono HB1.out.size)
      have HOf : Hid _ := HO.out _ _ HOw.out
      clear HO HOw HBw HC1 hli hlt
      go_wp2_with fail
      refine Calls.mono HOf.out ?_
      rintro e w2 ⟨t, b, rfl, hm, hti, hg2⟩
      have hb2 : Below w.heap.size w w2 := hbw.trans (hg2.mono hbw.size)
      have HF : Hid (∀ V, Below w2.heap.size w2 V → Calls Tryz.prog 11 #[.pointer (some ⟨b, 0, none⟩), .agg #[.int .i64 2, .int .i64 4, .string ⟨#[]⟩, .slice none 0 0]] V fun e w' => ∃ a5 c5 a6 c6, e = .returned (.tuple #[pairV (numW 3, numW 3) (.slice a5 0 c5) (.slice a6 0 c6), .bool true, .int .i64 0]) ∧ Below V.heap.size V w') := fun V hV => by
        refine Calls.mono (floor15_right 16 b 0 t (numW 4) (.slice none 0 0) V (hm.keeps hV) (zero_lies _ _) (show (0 : Nat) ≤ 9223372036854775807 by decide) four_right) ?_
        rw [five_up true (hm.keeps hV) hti, hti]
        rintro e w' ⟨hb, ⟨ho, _⟩ | ⟨x, ku, vu, ho, _, rfl, hl5, hl6⟩⟩
        · exact absurd ho (by unfold itemAt five15; simp)
        · have hx : x = (numW 3, numW 3) := by unfold itemAt five15 at ho; simp at ho; exact ho.symm
          subst hx
          obtain ⟨a5, c5, rfl, _⟩ := LiesB.slice hl5
          obtain ⟨a6, c6, rfl, _⟩ := LiesB.slice hl6
          exact ⟨a5, c5, a6, c6, rfl, hb⟩
      have HR : Hid (∀ V, Below w2.heap.size w2 V → Calls Tryz.prog 22 #[.pointer (some ⟨b, 0, none⟩), .agg #[.int .i64 2, .int .i64 4, .string ⟨#[]⟩, .slice none 0 0]] V fun e w' => e = .returned (.tuple #[.int .i64 2, .int .i64 0]) ∧ Below V.heap.size V w') := fun V hV => by
        have h9 := rank15_right 16 b 0 t (numW 4) (.slice none 0 0) V (hm.keeps hV) (zero_lies _ _) (show (0 : Nat) ≤ 9223372036854775807 by decide) four_right
        rw [five_up false (hm.keeps hV) hti] at h9
        exact h9
      clear hm hti hg2 hbw HOf
      go_wp2_with fail
      refine Calls.mono (HI.out _ _) ?_
      rintro e w3 ⟨rfl, hg3⟩
      have hb3 : Below w.heap.size w w3 := hb2.trans (hg3.mono hb2.size)
      go_wp2_with fail
      refine Calls.mono (HF.out _ hg3) ?_
      rintro e w4 ⟨a5, c5, a6, c6, rfl, hg4⟩
      have hg4' : Below w2.heap.size w2 w4 := hg3.trans (hg4.mono hg3.size)
      have hb4 : Below w.heap.size w w4 := hb3.trans (hg4.mono hb3.size)
      obtain ⟨W5, hW5⟩ : ∃ W5, W5 = w4.alloc (.cells #[.int .i64 2, .int .i64 3, .string ⟨#[]⟩, .slice a5 0 c5, .int .i64 2, .int .i64 3, .string ⟨#[]⟩, .slice a6 0 c6] 33) := ⟨_, rfl⟩
      have HW5 : Hid (W5 = w4.alloc (.cells #[.int .i64 2, .int .i64 3, .string ⟨#[]⟩, .slice a5 0 c5, .int .i64 2, .int .i64 3, .string ⟨#[]⟩, .slice a6 0 c6] 33)) := hW5
      have hal : Below w4.heap.size w4 W5 := by rw [hW5]; exact ((Grew.refl w4).alloc _).below
      have c5' : W5.cell? ⟨w4.heap.size, 1, none⟩ = some (.int .i64 3) := by rw [hW5]; exact (bx8_alloc _ _ _ _ _ _ _ _ _ _).c1
      have hg5 : Below w2.heap.size w2 W5 := hg4'.trans (hal.mono hg4'.size)
      have hb5 : Below w.heap.size w W5 := hb4.trans (hal.mono hb4.size)
      clear hg3 hg4 hb3 HF hW5 hal hb4 hg4'
      go_upto_region 11 with fail
      rw [← HW5.out]
      clear HW5
      go_wp2_with fail
      refine Calls.mono (HI.out _ _) ?_
      rintro e w6 ⟨rfl, hg6⟩
      have c6' := cell_keeps hg6 c5'
      have hg6' : Below w2.heap.size w2 w6 := hg5.trans (hg6.mono hg5.size)
      have hb6 : Below w.heap.size w w6 := hb5.trans (hg6.mono hb5.size)
      clear hg6 hg5 hb5 c5'
      go_wp2_with fail
      refine Calls.mono (HR.out _ hg6') ?_
      rintro e w7 ⟨rfl, hg7⟩
      have c7 := cell_keeps hg7 c6'
      have hb7 : Below w.heap.size w w7 := hb6.trans (hg7.mono hb6.size)
      clear hg7 hg6' hb6 c6' HR
      go_wp2_with fail
      first | (go_ret; exact ⟨by simp, hb7⟩) | (go_ret; exact ⟨rfl, hb7⟩)

end Go.Proofs.YtpmodiodpilmeaaGreat

