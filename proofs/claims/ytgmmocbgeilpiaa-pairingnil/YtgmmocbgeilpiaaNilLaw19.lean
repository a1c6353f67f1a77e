/-
  PairingNil: the statement's walk.
-/
import Derived.Test.YtgmmocbgeilpiaaSpeaks19
namespace Go.Proofs.Ytgmmocbgeilpiaa
open Go.RowKit Go.Shelf

/-- Of nothing is fine. -/
theorem look_none19 (q : Nat) (hq : q < 6) : lookE 16 (q : Int) [] = 0 := by
  unfold lookE listErr
  rw [if_neg (by omega), if_neg (by simp), if_pos (by rfl)]

theorem new_ok19 (X : Nat → Prop) (q : Nat) (hq : q < 6) (w : World) (hX : ∀ b, w.heap.size ≤ b → X b) : Calls Try.prog 14 #[.int .i64 (q : Int)] w fun e w' => ∃ b, e = .returned (.tuple #[.pointer (some ⟨b, 0, none⟩), .int .i64 0]) ∧ QC X w' q [] b ∧ Below w.heap.size w w' := by
  refine Calls.mono (new_any19 X (q : Int) w hX) ?_
  rintro e w' ⟨hb, ⟨h0, _⟩ | ⟨_, p, rfl, b, rfl, hc⟩⟩
  · exact absurd (look_none19 q hq) h0
  · exact ⟨b, rfl, hc, hb⟩

theorem meld_none19 (X : Nat → Prop) (b : Nat) (w : World) (h : QC X w 0 [] b) : Calls Try.prog 15 #[.pointer none, .pointer (some ⟨b, 0, none⟩)] w fun e w' => ∃ c, e = .returned (.tuple #[.pointer (some ⟨c, 0, none⟩), .int .i64 0]) ∧ QC X w' 0 [] c ∧ Below w.heap.size w w' := by
  refine Calls.mono (meld_any (.inl ⟨rfl, rfl, rfl⟩) (.inr ⟨b, rfl, h⟩) (by simp)) ?_
  rintro e w' ⟨hb, ⟨h0, _⟩ | ⟨_, p, rfl, c, rfl, hc⟩⟩
  · simp at h0
  · exact ⟨c, rfl, hc, hb⟩

theorem min_none19 (w : World) : Calls Try.prog 11 #[.pointer none] w fun e w' => e = .returned (.tuple #[.agg #[.int .i64 0, .int .i64 0, .string ⟨#[]⟩, .slice none 0 0], .int .i64 6]) ∧ Below w.heap.size w w' := by
  refine Calls.mono (min_any19 (X := fun _ => True) (q := 0) (.inl ⟨rfl, rfl, rfl⟩)) ?_
  rintro e w' ⟨hb, ⟨_, rfl⟩ | ⟨x, m, _, h0, _⟩⟩
  · exact ⟨rfl, hb⟩
  · cases h0

theorem push_no19 (d : Nat) {p : Option Addr} (x : VT) (u : Value) {w : World} (h : QN (fun _ => True) w 0 [] p) (hu : Lies d w x.items u) (ht : x.text.size ≤ 9223372036854775807) (hr : rightV d x = false) :
    Calls Try.prog 13 #[.pointer p, .agg #[.int .i64 x.kind, .int .i64 x.num, .string x.text, u]] w fun e w' => e = .returned (.tuple #[.pointer none, .int .i64 3]) ∧ Below w.heap.size w w' := by
  refine Calls.mono (push_any19 d x u h (fun _ _ => trivial) hu ht) ?_
  rintro e w' ⟨hb, ⟨_, rfl⟩ | ⟨h0, _⟩ | ⟨h0, _⟩⟩
  · exact ⟨rfl, hb⟩
  · rw [hr] at h0; cases h0
  · rw [hr] at h0; cases h0

theorem push_yes19 (d : Nat) {p : Option Addr} (x : VT) (u : Value) {w : World} (h : QN (fun _ => True) w 0 [] p) (hu : Lies d w x.items u) (ht : x.text.size ≤ 9223372036854775807) (hr : rightV d x = true) :
    Calls Try.prog 13 #[.pointer p, .agg #[.int .i64 x.kind, .int .i64 x.num, .string x.text, u]] w fun e w' => ∃ b, e = .returned (.tuple #[.pointer (some ⟨b, 0, none⟩), .int .i64 0]) ∧ QC (fun _ => True) w' 0 [x] b ∧ Below w.heap.size w w' := by
  refine Calls.mono (push_any19 d x u h (fun _ _ => trivial) hu ht) ?_
  rintro e w' ⟨hb, ⟨h0, _⟩ | ⟨_, h0, _⟩ | ⟨_, _, p, rfl, b, rfl, hc⟩⟩
  · rw [hr] at h0; cases h0
  · simp at h0
  · exact ⟨b, rfl, hc, hb⟩

set_option maxRecDepth 100000 in
set_option maxHeartbeats 8000000 in
theorem nil_yes19 (d : Nat) (x : VT) (u : Value) (w : World) (hu : Lies d w x.items u) (ht : x.text.size ≤ 9223372036854775807) (hr : rightV d x = true) :
    Calls Try.prog 4 #[.agg #[.int .i64 x.kind, .int .i64 x.num, .string x.text, u]] w fun e w' => e = .returned (.bool true) ∧ Below w.heap.size w w' := by
  obtain ⟨a, c, rfl, _⟩ := Lies.slice hu
  have HU : Hid (Lies d w x.items (.slice a x.items.length c)) := hu
  have HR : Hid (rightV d x = true) := hr
  obtain ⟨w0, hw0⟩ : ∃ w0, w0 = w.alloc (.cells #[.int .i64 x.kind, .int .i64 x.num, .string x.text, .slice a x.items.length c] 30) := ⟨_, rfl⟩
  have hb0 : Below w.heap.size w w0 := by rw [hw0]; exact ((Grew.refl w).alloc _).below
  have HBx : Hid (Boxed w0 w.heap.size x.kind x.num x.text (.slice a x.items.length c)) := by rw [hw0]; exact boxed_alloc w _ _ _ _ _
  have HB0 : Hid (Below w.heap.size w w0) := hb0
  clear hu hr hb0
  go_enter Try.func4, Try.ntmps4
  go_wp2_with fail
  rw [← hw0]
  clear hw0
  refine Calls.mono (push_yes19 d x _ (.inl ⟨rfl, rfl, rfl⟩) (Lies.keeps HB0.out _ _ _ HU.out) ht HR.out) ?_
  rintro e w1 ⟨b1, rfl, hc1, hg1⟩
  have HQ1 : Hid (QC (fun _ => True) w1 0 [x] b1) := hc1
  clear hc1
  have HB1 : Hid (Below w.heap.size w w1) := HB0.out.trans (hg1.mono HB0.out.size)
  have HX1 : Hid (Boxed w1 w.heap.size x.kind x.num x.text (.slice a x.items.length c)) := HBx.out.keeps hg1
  clear hg1 HB0 HBx
  go_wp2_with fail
  refine Calls.mono (new_ok19 (fun _ => True) 0 (by omega) w1 (fun _ _ => trivial)) ?_
  rintro e w2 ⟨b2, rfl, hc2, hg2⟩
  have HQ2 : Hid (QC (fun _ => True) w2 0 [] b2) := hc2
  have HB2 : Hid (Below w.heap.size w w2) := HB1.out.trans (hg2.mono HB1.out.size)
  obtain ⟨x0, x1, x2, x3⟩ := HX1.out.keeps hg2
  have HQ1 : Hid (QC (fun _ => True) w2 0 [x] b1) := HQ1.out.keeps hg2
  clear hc2 hg2 HB1 HX1
  go_wp2_with fail
  refine Calls.mono (push_yes19 d x _ (.inr ⟨b2, rfl, HQ2.out⟩) (Lies.keeps HB2.out _ _ _ HU.out) ht HR.out) ?_
  rintro e w3 ⟨b3, rfl, hc3, hg3⟩
  have HQ3 : Hid (QC (fun _ => True) w3 0 [x] b3) := hc3
  have HQ1 : Hid (QC (fun _ => True) w3 0 [x] b1) := HQ1.out.keeps hg3
  clear hc3
  have HQ2 : Hid (QC (fun _ => True) w3 0 [] b2) := HQ2.out.keeps hg3
  have HB3 : Hid (Below w.heap.size w w3) := HB2.out.trans (hg3.mono HB2.out.size)
  clear hg3 HB2 x0 x1 x2 x3
  go_wp2_with fail
  refine Calls.mono (min_none19 w3) ?_
  rintro e w4 ⟨rfl, hg4⟩
  obtain ⟨w5, hw5⟩ : ∃ w5, w5 = w4.alloc (.cells #[.int .i64 0, .int .i64 0, .string ⟨#[]⟩, .slice none 0 0] 30) := ⟨_, rfl⟩
  have hg5 : Below w3.heap.size w3 w5 := by rw [hw5]; exact hg4.alloc hg4.size _
  have HQ2 : Hid (QC (fun _ => True) w5 0 [] b2) := HQ2.out.keeps hg5
  have HB5 : Hid (Below w.heap.size w w5) := HB3.out.trans (hg5.mono HB3.out.size)
  have HQ1 : Hid (QC (fun _ => True) w5 0 [x] b1) := HQ1.out.keeps hg5
  have HQ3 : Hid (QC (fun _ => True) w5 0 [x] b3) := HQ3.out.keeps hg5
  clear hg4 hg5 HB3
  go_wp2_with fail
  rw [← hw5]
  clear hw5
  refine Calls.mono (meld_none19 (fun _ => True) b2 w5 HQ2.out) ?_
  rintro e w6 ⟨b6, rfl, hc6, hg6⟩
  have HQ6 : Hid (QC (fun _ => True) w6 0 [] b6) := hc6
  have HB6 : Hid (Below w.heap.size w w6) := HB5.out.trans (hg6.mono HB5.out.size)
  have HQ1 : Hid (QC (fun _ => True) w6 0 [x] b1) := HQ1.out.keeps hg6
  have HQ3 : Hid (QC (fun _ => True) w6 0 [x] b3) := HQ3.out.keeps hg6
  clear hc6 hg6 HB5 HQ2
  go_wp2_with fail
  refine Calls.mono (len_any19 (.inr ⟨b6, rfl, HQ6.out⟩)) ?_
  rintro e w7 ⟨rfl, hg7⟩
  have HB7 : Hid (Below w.heap.size w w7) := HB6.out.trans (hg7.mono HB6.out.size)
  have HQ1 : Hid (QC (fun _ => True) w7 0 [x] b1) := HQ1.out.keeps hg7
  have HQ3 : Hid (QC (fun _ => True) w7 0 [x] b3) := HQ3.out.keeps hg7
  clear hg7 HB6 HQ6
  go_wp2_with fail
  refine Calls.mono (len_any19 (X := fun _ => True) (q := 0) (I := []) (.inl ⟨rfl, rfl, rfl⟩)) ?_
  rintro e w8 ⟨rfl, hg8⟩
  have HB8 : Hid (Below w.heap.size w w8) := HB7.out.trans (hg8.mono HB7.out.size)
  have HQ1 : Hid (QC (fun _ => True) w8 0 [x] b1) := HQ1.out.keeps hg8
  have HQ3 : Hid (QC (fun _ => True) w8 0 [x] b3) := HQ3.out.keeps hg8
  clear hg8 HB7
  go_wp2_with fail
  refine Calls.mono (order_any19 (X := fun _ => True) (q := 0) (I := []) (.inl ⟨rfl, rfl, rfl⟩)) ?_
  rintro e w9 ⟨rfl, hg9⟩
  have HB9 : Hid (Below w.heap.size w w9) := HB8.out.trans (hg9.mono HB8.out.size)
  have HQ1 : Hid (QC (fun _ => True) w9 0 [x] b1) := HQ1.out.keeps hg9
  have HQ3 : Hid (QC (fun _ => True) w9 0 [x] b3) := HQ3.out.keeps hg9
  clear hg9 HB8
  go_wp2_with fail
  refine Calls.mono (len_any19 (.inr ⟨b1, rfl, HQ1.out⟩)) ?_
  rintro e w10 ⟨rfl, hg10⟩
  have HB10 : Hid (Below w.heap.size w w10) := HB9.out.trans (hg10.mono HB9.out.size)
  have HQ1 : Hid (QC (fun _ => True) w10 0 [x] b1) := HQ1.out.keeps hg10
  have HQ3 : Hid (QC (fun _ => True) w10 0 [x] b3) := HQ3.out.keeps hg10
  clear hg10 HB9
  go_wp2_with fail
  refine Calls.mono (sorted_any19 (.inr ⟨b1, rfl, HQ1.out⟩)) ?_
  rintro e w11 ⟨v11, rfl, hL11, hg11⟩
  have HB11 : Hid (Below w.heap.size w w11) := HB10.out.trans (hg11.mono HB10.out.size)
  have HQ3 : Hid (QC (fun _ => True) w11 0 [x] b3) := HQ3.out.keeps hg11
  have HL11 : Hid (Lies 17 w11 (srtV 0 [x]) v11) := LiesB.lies _ _ _ hL11
  clear hg11 HB10 hL11 HQ1
  obtain ⟨a11, c11, rfl, _⟩ := Lies.slice HL11.out
  go_wp2_with fail
  refine Calls.mono (sorted_any19 (.inr ⟨b3, rfl, HQ3.out⟩)) ?_
  rintro e w12 ⟨v12, rfl, hL12, hg12⟩
  have HB12 : Hid (Below w.heap.size w w12) := HB11.out.trans (hg12.mono HB11.out.size)
  have HL11 : Hid (Lies 17 w12 (srtV 0 [x]) (.slice a11 (srtV 0 [x]).length c11)) := Lies.keeps hg12 _ _ _ HL11.out
  have HL12 : Hid (Lies 17 w12 (srtV 0 [x]) v12) := LiesB.lies _ _ _ hL12
  clear hg12 HB11 hL12 HQ3
  obtain ⟨a12, c12, rfl, _⟩ := Lies.slice HL12.out
  go_wp2_with fail
  refine Calls.mono (values_one 16 (srtV 0 [x]) _ _ w12 HL11.out HL12.out (by rw [srtV_len]; simp)) ?_
  rintro e w13 ⟨rfl, hg13⟩
  have HB13 : Hid (Below w.heap.size w w13) := HB12.out.trans (hg13.mono HB12.out.size)
  clear hg13 HB12 HL11 HL12
  go_wp2_with fail
  refine Calls.mono (speaks19_any w13) ?_
  rintro e w20 ⟨rfl, hg20⟩
  have HB20 : Hid (Below w.heap.size w w20) := HB13.out.trans (hg20.mono HB13.out.size)
  clear hg20 HB13
  go_wp2_with fail
  go_ret
  exact ⟨rfl, HB20.out⟩

set_option maxRecDepth 100000 in
set_option maxHeartbeats 8000000 in
theorem nil_no19 (d : Nat) (x : VT) (u : Value) (w : World) (hu : Lies d w x.items u) (ht : x.text.size ≤ 9223372036854775807) (hr : rightV d x = false) :
    Calls Try.prog 4 #[.agg #[.int .i64 x.kind, .int .i64 x.num, .string x.text, u]] w fun e w' => e = .returned (.bool true) ∧ Below w.heap.size w w' := by
  obtain ⟨a, c, rfl, _⟩ := Lies.slice hu
  have HU : Hid (Lies d w x.items (.slice a x.items.length c)) := hu
  have HR : Hid (rightV d x = false) := hr
  obtain ⟨w0, hw0⟩ : ∃ w0, w0 = w.alloc (.cells #[.int .i64 x.kind, .int .i64 x.num, .string x.text, .slice a x.items.length c] 30) := ⟨_, rfl⟩
  have hb0 : Below w.heap.size w w0 := by rw [hw0]; exact ((Grew.refl w).alloc _).below
  have HBx : Hid (Boxed w0 w.heap.size x.kind x.num x.text (.slice a x.items.length c)) := by rw [hw0]; exact boxed_alloc w _ _ _ _ _
  have HB0 : Hid (Below w.heap.size w w0) := hb0
  clear hu hr hb0
  go_enter Try.func4, Try.ntmps4
  go_wp2_with fail
  rw [← hw0]
  clear hw0
  refine Calls.mono (push_no19 d x _ (.inl ⟨rfl, rfl, rfl⟩) (Lies.keeps HB0.out _ _ _ HU.out) ht HR.out) ?_
  rintro e w1 ⟨rfl, hg1⟩
  have HB1 : Hid (Below w.heap.size w w1) := HB0.out.trans (hg1.mono HB0.out.size)
  have HX1 : Hid (Boxed w1 w.heap.size x.kind x.num x.text (.slice a x.items.length c)) := HBx.out.keeps hg1
  clear hg1 HB0 HBx
  go_wp2_with fail
  refine Calls.mono (new_ok19 (fun _ => True) 0 (by omega) w1 (fun _ _ => trivial)) ?_
  rintro e w2 ⟨b2, rfl, hc2, hg2⟩
  have HQ2 : Hid (QC (fun _ => True) w2 0 [] b2) := hc2
  have HB2 : Hid (Below w.heap.size w w2) := HB1.out.trans (hg2.mono HB1.out.size)
  obtain ⟨x0, x1, x2, x3⟩ := HX1.out.keeps hg2
  clear hc2 hg2 HB1 HX1
  go_wp2_with fail
  refine Calls.mono (push_no19 d x _ (.inr ⟨b2, rfl, HQ2.out⟩) (Lies.keeps HB2.out _ _ _ HU.out) ht HR.out) ?_
  rintro e w3 ⟨rfl, hg3⟩
  have HQ2 : Hid (QC (fun _ => True) w3 0 [] b2) := HQ2.out.keeps hg3
  have HB3 : Hid (Below w.heap.size w w3) := HB2.out.trans (hg3.mono HB2.out.size)
  clear hg3 HB2 x0 x1 x2 x3
  go_wp2_with fail
  refine Calls.mono (min_none19 w3) ?_
  rintro e w4 ⟨rfl, hg4⟩
  obtain ⟨w5, hw5⟩ : ∃ w5, w5 = w4.alloc (.cells #[.int .i64 0, .int .i64 0, .string ⟨#[]⟩, .slice none 0 0] 30) := ⟨_, rfl⟩
  have hg5 : Below w3.heap.size w3 w5 := by rw [hw5]; exact hg4.alloc hg4.size _
  have HQ2 : Hid (QC (fun _ => True) w5 0 [] b2) := HQ2.out.keeps hg5
  have HB5 : Hid (Below w.heap.size w w5) := HB3.out.trans (hg5.mono HB3.out.size)
  clear hg4 hg5 HB3
  go_wp2_with fail
  rw [← hw5]
  clear hw5
  refine Calls.mono (meld_none19 (fun _ => True) b2 w5 HQ2.out) ?_
  rintro e w6 ⟨b6, rfl, hc6, hg6⟩
  have HQ6 : Hid (QC (fun _ => True) w6 0 [] b6) := hc6
  have HB6 : Hid (Below w.heap.size w w6) := HB5.out.trans (hg6.mono HB5.out.size)
  clear hc6 hg6 HB5 HQ2
  go_wp2_with fail
  refine Calls.mono (len_any19 (.inr ⟨b6, rfl, HQ6.out⟩)) ?_
  rintro e w7 ⟨rfl, hg7⟩
  have HB7 : Hid (Below w.heap.size w w7) := HB6.out.trans (hg7.mono HB6.out.size)
  clear hg7 HB6 HQ6
  go_wp2_with fail
  refine Calls.mono (len_any19 (X := fun _ => True) (q := 0) (I := []) (.inl ⟨rfl, rfl, rfl⟩)) ?_
  rintro e w8 ⟨rfl, hg8⟩
  have HB8 : Hid (Below w.heap.size w w8) := HB7.out.trans (hg8.mono HB7.out.size)
  clear hg8 HB7
  go_wp2_with fail
  refine Calls.mono (order_any19 (X := fun _ => True) (q := 0) (I := []) (.inl ⟨rfl, rfl, rfl⟩)) ?_
  rintro e w9 ⟨rfl, hg9⟩
  have HB9 : Hid (Below w.heap.size w w9) := HB8.out.trans (hg9.mono HB8.out.size)
  clear hg9 HB8
  go_wp2_with fail
  refine Calls.mono (speaks19_any w9) ?_
  rintro e w20 ⟨rfl, hg20⟩
  have HB20 : Hid (Below w.heap.size w w20) := HB9.out.trans (hg20.mono HB9.out.size)
  clear hg20 HB9
  go_wp2_with fail
  go_ret
  exact ⟨rfl, HB20.out⟩

theorem nil_walk19 (d : Nat) (x : VT) (u : Value) (w : World) (hu : Lies d w x.items u) (ht : x.text.size ≤ 9223372036854775807) :
    Calls Try.prog 4 #[.agg #[.int .i64 x.kind, .int .i64 x.num, .string x.text, u]] w fun e w' => e = .returned (.bool true) ∧ Below w.heap.size w w' := by
  cases hr : rightV d x with
  | true => exact nil_yes19 d x u w hu ht hr
  | false => exact nil_no19 d x u w hu ht hr

end Go.Proofs.Ytgmmocbgeilpiaa

