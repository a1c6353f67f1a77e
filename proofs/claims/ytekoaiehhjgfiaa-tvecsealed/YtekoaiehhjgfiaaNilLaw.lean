/-
  TvecNil.
-/
import Derived.Test.YtekoaiehhjgfiaaTvecR
namespace Go.Proofs.Ytekoaiehhjgfiaa
open Go.RowKit

set_option maxRecDepth 100000 in
set_option maxHeartbeats 8000000 in
theorem speaks13_any (w : World) : Calls Try.prog 6 #[] w fun e w' => e = .returned (.bool true) ∧ Below w.heap.size w w' := by
  have HI1 : Hid (Calls Try.prog 20 #[.slice (some ⟨w.heap.size, 0, none⟩) 2 2] (w.alloc (.cells #[.int .i64 1, .int .i64 2] 2)) fun e w' => ∃ g c, e = .returned (.slice (some ⟨g, 0, none⟩) 2 c) ∧ Lies 17 w' ([1, 2].map numT) (.slice (some ⟨g, 0, none⟩) 2 c) ∧ Below w.heap.size w w') := by
    have hbA : Below w.heap.size w (w.alloc (.cells #[.int .i64 1, .int .i64 2] 2)) := ((Grew.refl w).alloc _).below
    refine Calls.mono (nums_any [1, 2] w.heap.size 2 _ (by simp) (by simp) (fun i hi => by
      match i, hi with
      | 0, _ => simp
      | 1, _ => simp)) ?_
    rintro e w1 ⟨g, c, rfl, hl, hb⟩
    exact ⟨g, c, rfl, hl, hbA.trans (hb.mono hbA.size)⟩
  have HO : Hid (∀ V v, Lies 17 V ([1, 2].map numT) v → Calls Try.prog 5 #[v] V fun e w' => ∃ b, e = .returned (.tuple #[.pointer (some ⟨b, 0, none⟩), .int .i64 0]) ∧ VV w' ([1, 2].map numT) (.pointer (some ⟨b, 0, none⟩)) ∧ Below V.heap.size V w') := fun V v hv => by
    have h9 := of_any _ v V hv
    rw [nums_of [1, 2] (by simp)] at h9
    refine Calls.mono h9 ?_
    rintro e w1 ⟨hb, b, rfl, hvc⟩
    exact ⟨b, rfl, ⟨hvc, by simp, nums_right _⟩, hb⟩
  have HI3 : Hid (∀ V : World, Calls Try.prog 20 #[.slice (some ⟨V.heap.size, 0, none⟩) 3 3] (V.alloc (.cells #[.int .i64 9, .int .i64 2, .int .i64 3] 2)) fun e w' => ∃ g c, e = .returned (.slice (some ⟨g, 0, none⟩) 3 c) ∧ Lies 17 w' ([9, 2, 3].map numT) (.slice (some ⟨g, 0, none⟩) 3 c) ∧ Below V.heap.size V w') := fun V => by
    have hbA : Below V.heap.size V (V.alloc (.cells #[.int .i64 9, .int .i64 2, .int .i64 3] 2)) := ((Grew.refl V).alloc _).below
    refine Calls.mono (nums_any [9, 2, 3] V.heap.size 3 _ (by simp) (by simp) (fun i hi => by
      match i, hi with
      | 0, _ => simp
      | 1, _ => simp
      | 2, _ => simp)) ?_
    rintro e w1 ⟨g, c, rfl, hl, hb⟩
    exact ⟨g, c, rfl, hl, hbA.trans (hb.mono hbA.size)⟩
  go_enter Try.func6, Try.ntmps6
  go_wp2_with fail
  refine Calls.mono HI1.out ?_
  rintro e w1 ⟨g1, c1, rfl, hl1, hb1⟩
  have HO1 : Hid _ := HO.out w1 _ hl1
  clear HI1 hl1 HO
  go_wp2_with fail
  refine Calls.mono HO1.out ?_
  rintro e w2 ⟨b2, rfl, hv2, hg2⟩
  have hb2 : Below w.heap.size w w2 := hb1.trans (hg2.mono hb1.size)
  have HV2 : Hid (VV w2 ([1, 2].map numT) (.pointer (some ⟨b2, 0, none⟩))) := hv2
  have HBg : Hid _ := begin_any _ _ w2 hv2
  clear HO1 hv2 hg2
  go_wp2_with fail
  refine Calls.mono HBg.out ?_
  rintro e w3 ⟨b, h, v, rfl, t3, hg3, hh3, _⟩
  have hb3 : Below w.heap.size w w3 := hb2.trans (hg3.mono hb2.size)
  have hNh : w.heap.size ≤ h := Nat.le_trans hb2.size hh3
  have T3 : Hid (TV w3 ([1, 2].map numT) b h v) := t3
  have HV3 : Hid (VV w3 ([1, 2].map numT) (.pointer (some ⟨b2, 0, none⟩))) := HV2.out.keeps hg3
  clear HBg t3 hg3 HV2
  go_wp2_with fail
  refine (int_any 3 _).mono ?_
  rintro e w4 ⟨rfl, hg4⟩
  have hb4 : Below w.heap.size w w4 := hb3.trans (hg4.below.mono hb3.size)
  have T4 : Hid (TV w4 ([1, 2].map numT) b h v) := T3.out.keeps hg4.below
  have HV4 : Hid (VV w4 ([1, 2].map numT) (.pointer (some ⟨b2, 0, none⟩))) := HV3.out.keeps hg4.below
  have HP4 : Hid (Calls Try.prog 8 #[.pointer (some ⟨b, 0, none⟩), .agg #[.int .i64 2, .int .i64 3, .string ⟨#[]⟩, .slice none 0 0]] w4 fun e w' => e = .returned (.int .i64 0) ∧ Below w.heap.size w4 w' ∧ KeepsNP w4 w' ∧ ∃ v2, TV w' ([1, 2, 3].map numT) b h v2) := by
    refine Calls.mono (tpush_any 16 _ b h v (numT 3) none 0 w.heap.size w4 T4.out hNh hb4.size (lies_nilD _ _) (by show 0 ≤ 9223372036854775807; omega)) ?_
    rintro e w' ⟨k, rfl, h1, h2, ⟨rfl, _, v2, h3⟩ | ⟨_, hno, _⟩⟩
    · exact ⟨rfl, h1, h2, v2, h3⟩
    · exact absurd ⟨right_num 3, by simp⟩ hno
  clear T3 HV3 hg4
  go_wp2_with fail
  refine Calls.mono HP4.out ?_
  rintro e w5 ⟨rfl, hg5, hn5, v5, t5⟩
  have hb5 : Below w.heap.size w w5 := hb4.trans hg5
  have T5 : Hid (TV w5 ([1, 2, 3].map numT) b h v5) := t5
  have HV5 : Hid (VV w5 ([1, 2].map numT) (.pointer (some ⟨b2, 0, none⟩))) := HV4.out.np hn5
  clear HP4 T4 HV4 hg5 hn5 t5
  go_wp2_with fail
  refine (int_any 9 _).mono ?_
  rintro e w6 ⟨rfl, hg6⟩
  have hb6 : Below w.heap.size w w6 := hb5.trans (hg6.below.mono hb5.size)
  have T6 : Hid (TV w6 ([1, 2, 3].map numT) b h v5) := T5.out.keeps hg6.below
  have HV6 : Hid (VV w6 ([1, 2].map numT) (.pointer (some ⟨b2, 0, none⟩))) := HV5.out.keeps hg6.below
  have HS6 : Hid (Calls Try.prog 14 #[.pointer (some ⟨b, 0, none⟩), .int .i64 0, .agg #[.int .i64 2, .int .i64 9, .string ⟨#[]⟩, .slice none 0 0]] w6 fun e w' => e = .returned (.int .i64 0) ∧ Below w.heap.size w6 w' ∧ KeepsNP w6 w' ∧ ∃ v2, TV w' ([9, 2, 3].map numT) b h v2) := by
    refine Calls.mono (tset_any 16 _ b h v5 0 (numT 9) none 0 w.heap.size w6 T6.out hNh hb6.size (lies_nilD _ _) (by show 0 ≤ 9223372036854775807; omega)) ?_
    rintro e w' ⟨k, rfl, h1, h2, ⟨rfl, _, v2, h3⟩ | ⟨_, hno, _⟩⟩
    · exact ⟨rfl, h1, h2, v2, h3⟩
    · exact absurd ⟨right_num 9, by simp⟩ hno
  clear T5 HV5 hg6
  go_wp2_with fail
  refine Calls.mono HS6.out ?_
  rintro e w7 ⟨rfl, hg7, hn7, v7, t7⟩
  have hb7 : Below w.heap.size w w7 := hb6.trans hg7
  have HV7 : Hid (VV w7 ([1, 2].map numT) (.pointer (some ⟨b2, 0, none⟩))) := HV6.out.np hn7
  have HSl : Hid _ := tseal_any _ b h v7 w.heap.size w7 t7 hNh
  clear HS6 T6 HV6 hg7 hn7 t7
  go_wp2_with fail
  refine Calls.mono HSl.out ?_
  rintro e w8 ⟨rfl, hg8, hn8, hv8, ts8⟩
  have hb8 : Below w.heap.size w w8 := hb7.trans hg8
  have HV8 : Hid (VV w8 ([1, 2].map numT) (.pointer (some ⟨b2, 0, none⟩))) := HV7.out.np hn8
  have HIt : Hid _ := items_any _ _ w8 hv8.vc hv8.len hv8.right
  have TS8 : Hid (Shut13 w8 (.pointer (some ⟨b, 0, none⟩))) := ts8.shut
  clear HSl HV7 hg8 hn8 hv8 ts8
  go_wp2_with fail
  refine Calls.mono HIt.out ?_
  rintro e w9 ⟨v9, rfl, hv9, hg9⟩
  have hb9 : Below w.heap.size w w9 := hb8.trans (hg9.mono hb8.size)
  have HL9 : Hid (Lies 17 w9 ([9, 2, 3].map numT) v9) := LiesB.lies _ _ _ hv9
  have HV9 : Hid (VV w9 ([1, 2].map numT) (.pointer (some ⟨b2, 0, none⟩))) := HV8.out.keeps hg9
  have TS9 : Hid (Shut13 w9 (.pointer (some ⟨b, 0, none⟩))) := TS8.out.keeps hg9
  obtain ⟨a9, c9, rfl, _⟩ := Lies.slice HL9.out
  have HI9 : Hid _ := HI3.out w9
  clear HIt hv9 hg9 HV8 TS8 HI3
  go_wp2_with fail
  refine Calls.mono HI9.out ?_
  rintro e wa ⟨ga, ca, rfl, hla, hga⟩
  have hba : Below w.heap.size w wa := hb9.trans (hga.mono hb9.size)
  have HVs : Hid _ := values_one 16 ([9, 2, 3].map numT) _ _ wa (Lies.keeps hga _ _ _ HL9.out) hla (by simp)
  have HVa : Hid (VV wa ([1, 2].map numT) (.pointer (some ⟨b2, 0, none⟩))) := HV9.out.keeps hga
  have TSa : Hid (Shut13 wa (.pointer (some ⟨b, 0, none⟩))) := TS9.out.keeps hga
  clear HI9 hla hga HV9 TS9 HL9
  go_wp2_with fail
  refine Calls.mono HVs.out ?_
  rintro e wb ⟨rfl, hgb⟩
  have hbb : Below w.heap.size w wb := hba.trans (hgb.mono hba.size)
  have HVb : Hid (VV wb ([1, 2].map numT) (.pointer (some ⟨b2, 0, none⟩))) := HVa.out.keeps hgb
  have TSb : Hid (Shut13 wb (.pointer (some ⟨b, 0, none⟩))) := TSa.out.keeps hgb
  clear HVs hgb HVa TSa
  go_wp2_with fail
  refine (int_any 4 _).mono ?_
  rintro e wc ⟨rfl, hgc⟩
  have hbc : Below w.heap.size w wc := hbb.trans (hgc.below.mono hbb.size)
  have HVc : Hid (VV wc ([1, 2].map numT) (.pointer (some ⟨b2, 0, none⟩))) := HVb.out.keeps hgc.below
  have HPc : Hid (Calls Try.prog 8 #[.pointer (some ⟨b, 0, none⟩), .agg #[.int .i64 2, .int .i64 4, .string ⟨#[]⟩, .slice none 0 0]] wc fun e w' => e = .returned (.int .i64 7) ∧ Below wc.heap.size wc w') := shut_push _ (numT 4) none 0 wc (TSb.out.keeps hgc.below)
  clear HVb TSb hgc
  go_wp2_with fail
  refine Calls.mono HPc.out ?_
  rintro e wd ⟨rfl, hgd⟩
  have hbd : Below w.heap.size w wd := hbc.trans (hgd.mono hbc.size)
  have HLd : Hid (Calls Try.prog 22 #[.pointer (some ⟨b2, 0, none⟩)] wd (NumPost 2 wd)) := vlen_any 16 _ _ wd (HVc.out.keeps hgd).vc
  clear HPc hgd HVc
  go_wp2_with fail
  refine Calls.mono HLd.out ?_
  rintro e we ⟨rfl, hge⟩
  go_wp2_with fail
  go_ret
  exact ⟨rfl, hbd.trans (hge.mono hbd.size)⟩

end Go.Proofs.Ytekoaiehhjgfiaa

namespace Go.Proofs.Ytekoaiehhjgfiaa
open Go.RowKit

/-- The six cells of a step, in a block of their own. -/
structure Bx6 (W : World) (n : Nat) (k t : Int) (x : VT) (u : Value) : Prop where
  c0 : W.cell? ⟨n, 0, none⟩ = some (.int .i64 k)
  c1 : W.cell? ⟨n, 1, none⟩ = some (.int .i64 t)
  c2 : W.cell? ⟨n, 2, none⟩ = some (.int .i64 x.kind)
  c3 : W.cell? ⟨n, 3, none⟩ = some (.int .i64 x.num)
  c4 : W.cell? ⟨n, 4, none⟩ = some (.string x.text)
  c5 : W.cell? ⟨n, 5, none⟩ = some u

theorem Bx6.keeps {W W' : World} {n : Nat} {k t : Int} {x : VT} {u : Value} (h : Bx6 W n k t x u) (hb : Below W.heap.size W W') : Bx6 W' n k t x u :=
  ⟨cell_keeps hb h.c0, cell_keeps hb h.c1, cell_keeps hb h.c2, cell_keeps hb h.c3, cell_keeps hb h.c4, cell_keeps hb h.c5⟩

theorem bx6_alloc (w : World) (k t : Int) (x : VT) (u : Value) (T : Nat) : Bx6 (w.alloc (.cells #[.int .i64 k, .int .i64 t, .int .i64 x.kind, .int .i64 x.num, .string x.text, u] T)) w.heap.size k t x u := by
  refine ⟨?_, ?_, ?_, ?_, ?_, ?_⟩ <;> simp

theorem below_box4 (w : World) : Below w.heap.size w (w.alloc (.cells #[.int .i64 0, .int .i64 0, .string ⟨#[]⟩, .slice none 0 0] 33)) := ((Grew.refl w).alloc _).below

set_option maxRecDepth 100000 in
set_option maxHeartbeats 16000000 in
theorem nil_walk (k t : Int) (x : VT) (ax : Option Addr) (cx : Nat) (w : World) : Calls Try.prog 4 #[.agg #[.int .i64 k, .int .i64 t, .int .i64 x.kind, .int .i64 x.num, .string x.text, .slice ax x.items.length cx]] w fun e w' => e = .returned (.bool true) ∧ Below w.heap.size w w' := by
  obtain ⟨W0, hW0⟩ : ∃ W0, W0 = w.alloc (.cells #[.int .i64 k, .int .i64 t, .int .i64 x.kind, .int .i64 x.num, .string x.text, .slice ax x.items.length cx] 35) := ⟨_, rfl⟩
  have hb0 : Below w.heap.size w W0 := by rw [hW0]; exact ((Grew.refl w).alloc _).below
  have B0 : Hid (Bx6 W0 w.heap.size k t x (.slice ax x.items.length cx)) := by rw [hW0]; exact bx6_alloc _ _ _ _ _ _
  have HNt : Hid _ := shut_nth _ t W0 (shut_nil W0)
  have HW0 : Hid (W0 = w.alloc (.cells #[.int .i64 k, .int .i64 t, .int .i64 x.kind, .int .i64 x.num, .string x.text, .slice ax x.items.length cx] 35)) := hW0
  rw [hW0] at HNt
  clear hW0
  go_enter Try.func4, Try.ntmps4
  go_wp2_with fail
  refine Calls.mono HNt.out ?_
  rintro e w1 ⟨rfl, hg1⟩
  rw [← HW0.out] at hg1
  obtain ⟨W1, hW1⟩ : ∃ W1, W1 = w1.alloc (.cells #[.int .i64 0, .int .i64 0, .string ⟨#[]⟩, .slice none 0 0] 33) := ⟨_, rfl⟩
  have hx1 : Below w1.heap.size w1 W1 := by rw [hW1]; exact below_box4 w1
  have hg1' : Below W0.heap.size W0 W1 := hg1.trans (hx1.mono hg1.size)
  have hb1 : Below w.heap.size w W1 := hb0.trans (hg1'.mono hb0.size)
  have B1 : Hid (Bx6 W1 w.heap.size k t x (.slice ax x.items.length cx)) := B0.out.keeps hg1'
  have HPo : Hid _ := shut_pop _ W1 (shut_nil W1)
  have HW1 : Hid (W1 = w1.alloc (.cells #[.int .i64 0, .int .i64 0, .string ⟨#[]⟩, .slice none 0 0] 33)) := hW1
  rw [hW1] at HPo
  clear HNt hg1 hx1 hg1' B0 hW1
  go_wp2_with fail
  refine Calls.mono HPo.out ?_
  rintro e w2 ⟨rfl, hg2⟩
  rw [← HW1.out] at hg2
  obtain ⟨W2, hW2⟩ : ∃ W2, W2 = w2.alloc (.cells #[.int .i64 0, .int .i64 0, .string ⟨#[]⟩, .slice none 0 0] 33) := ⟨_, rfl⟩
  have hx2 : Below w2.heap.size w2 W2 := by rw [hW2]; exact below_box4 w2
  have hg2' : Below W1.heap.size W1 W2 := hg2.trans (hx2.mono hg2.size)
  have hb2 : Below w.heap.size w W2 := hb1.trans (hg2'.mono hb1.size)
  have B2 : Hid (Bx6 W2 w.heap.size k t x (.slice ax x.items.length cx)) := B1.out.keeps hg2'
  have HLn : Hid _ := shut_len _ W2 (shut_nil W2)
  have HW2 : Hid (W2 = w2.alloc (.cells #[.int .i64 0, .int .i64 0, .string ⟨#[]⟩, .slice none 0 0] 33)) := hW2
  rw [hW2] at HLn
  clear HPo hg2 hx2 hg2' B1 hW2
  go_wp2_with fail
  refine Calls.mono HLn.out ?_
  rintro e w3 ⟨rfl, hg3⟩
  rw [← HW2.out] at hg3
  have hb3 : Below w.heap.size w w3 := hb2.trans (hg3.mono hb2.size)
  have B3 : Hid (Bx6 w3 w.heap.size k t x (.slice ax x.items.length cx)) := B2.out.keeps hg3
  have HSl : Hid _ := shut_seal _ w3 (shut_nil w3)
  clear HLn hg3 B2
  go_wp2_with fail
  refine Calls.mono HSl.out ?_
  rintro e w4 ⟨rfl, hg4⟩
  have hb4 : Below w.heap.size w w4 := hb3.trans (hg4.mono hb3.size)
  have B4 : Hid (Bx6 w4 w.heap.size k t x (.slice ax x.items.length cx)) := B3.out.keeps hg4
  have HBg : Hid _ := begin_any [] (.pointer none) w4 ⟨.inl ⟨rfl, rfl⟩, by simp, rfl⟩
  clear HSl hg4 B3
  go_wp2_with fail
  refine Calls.mono HBg.out ?_
  rintro e w5 ⟨b, h, v, rfl, t5, hg5, _, _⟩
  have hb5 : Below w.heap.size w w5 := hb4.trans (hg5.mono hb4.size)
  have B5 : Hid (Bx6 w5 w.heap.size k t x (.slice ax x.items.length cx)) := B4.out.keeps hg5
  have HL5 : Hid _ := tlen_any [] b h v w5 t5
  clear HBg hg5 B4 t5
  go_wp2_with fail
  refine Calls.mono HL5.out ?_
  rintro e w6 ⟨rfl, hg6⟩
  have hb6 : Below w.heap.size w w6 := hb5.trans (hg6.mono hb5.size)
  obtain ⟨x0, x1, x2, x3, x4, x5⟩ := B5.out.keeps hg6
  have B6 : Hid (Bx6 w6 w.heap.size k t x (.slice ax x.items.length cx)) := B5.out.keeps hg6
  have HS6 : Hid _ := shut_set (.pointer none) t x ax cx w6 (shut_nil w6)
  clear HL5 hg6 B5
  go_wp2_with fail
  refine Calls.mono HS6.out ?_
  rintro e w7 ⟨rfl, hg7⟩
  have hb7 : Below w.heap.size w w7 := hb6.trans (hg7.mono hb6.size)
  obtain ⟨y0, y1, y2, y3, y4, y5⟩ := B6.out.keeps hg7
  have HP7 : Hid _ := shut_push (.pointer none) x ax cx w7 (shut_nil w7)
  clear HS6 hg7 B6 x0 x1 x2 x3 x4 x5
  go_wp2_with fail
  refine Calls.mono HP7.out ?_
  rintro e w8 ⟨rfl, hg8⟩
  have hb8 : Below w.heap.size w w8 := hb7.trans (hg8.mono hb7.size)
  have HEnd : Hid (Calls Try.prog 6 #[] w8 fun e w' => e = .returned (.bool true) ∧ Below w.heap.size w w') := Calls.mono (speaks13_any w8) (fun e w' h => ⟨h.1, hb8.trans (h.2.mono hb8.size)⟩)
  clear HP7 hg8 y0 y1 y2 y3 y4 y5
  go_wp2_with fail
  refine Calls.mono HEnd.out ?_
  rintro e wd ⟨rfl, hgd⟩
  go_wp2_with fail
  go_ret
  exact ⟨rfl, hgd⟩

end Go.Proofs.Ytekoaiehhjgfiaa

