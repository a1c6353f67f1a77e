/-
  The walk of ValueSets.
-/
import Derived.Test.YtajjkkfegcmkkaaRSets
import Derived.Test.YtajjkkfegcmkkaaSpeaks
namespace Go.Proofs.Ytajjkkfegcmkkaa
open Go.RowKit

set_option maxRecDepth 100000 in
set_option maxHeartbeats 8000000 in
theorem sets_walk (d : Nat) (l : List VT) (a : Option Addr) (c : Nat) (w : World) (hu : Lies (d + 1) w l (.slice a l.length c)) :
    Calls Try.prog 6 #[.slice a l.length c] w fun e w' => e = .returned (.bool true) ∧ Below w.heap.size w w' := by
  have hsp : Hid (∀ W : World, Calls Try.prog 15 #[] W fun e W' => e = .returned (.bool true) ∧ Below W.heap.size W W') := speaks_any
  have HL : Hid (Lies (d + 1) w l (.slice a l.length c)) := hu
  have H1 : Hid (∀ W, Lies (d + 1) W l (.slice a l.length c) → Calls Try.prog 20 #[.slice a l.length c] W (Tells (d + 1) (setA d l) W)) := fun W h => vset_tells d l a c W h
  have H2 : Hid (∀ W, Lies (d + 1) W l (.slice a l.length c) → Calls Try.prog 21 #[.slice a l.length c] W (Tells (d + 1) (setA d l) W)) := fun W h => rset_tells d l _ W h
  have H3 : Hid (∀ W, Lies (d + 1) W l (.slice a l.length c) → Calls Try.prog 22 #[.slice a l.length c] W (Tells (d + 1) (listA d l) W)) := fun W h => vlist_tells d l _ W h
  have H4 : Hid (∀ W, Lies (d + 1) W l (.slice a l.length c) → Calls Try.prog 23 #[.slice a l.length c] W (Tells (d + 1) (listA d l) W)) := fun W h => rlist_tells d l _ W h
  have H5 : Hid (∀ W, Lies (d + 1) W l (.slice a l.length c) → Calls Try.prog 24 #[.slice a l.length c] W fun e w' => ∃ v, e = .returned (.tuple #[v, .int .i64 (sortA d l).2]) ∧ Lies (d + 1) w' (sortA d l).1 v ∧ Below W.heap.size W w') := fun W h => (vsort_tells d l a c W h).mono fun e w' ⟨v, h1, h2, h3⟩ => ⟨v, h1, LiesB.lies _ _ _ h2, h3⟩
  have H6 : Hid (∀ W, Lies (d + 1) W l (.slice a l.length c) → Calls Try.prog 25 #[.slice a l.length c] W fun e w' => ∃ v, e = .returned (.tuple #[v, .int .i64 (sortA d l).2]) ∧ Lies (d + 1) w' (sortA d l).1 v ∧ Below W.heap.size W w') := fun W h => rsort_tells d l _ W h
  have Hsl : Hid ((sortA d l).1.length ≤ 65536) := by
    show _ ≤ _
    unfold sortA
    by_cases h : listErr d l ≠ 0
    · rw [if_pos h]; exact Nat.zero_le _
    · rw [if_neg h]
      have h0 : listErr d l = 0 := by simpa using h
      show (sortT d l).length ≤ 65536
      unfold sortT
      rw [srt_len]
      exact (listErr_zero h0).1
  have HSm : Hid (∀ (t : VT) (x y : Value) (W : World), Lies (d + 1) W t.items x → Lies (d + 1) W t.items y → Calls Try.prog 19 #[.agg #[.int .i64 t.kind, .int .i64 t.num, .string t.text, x], .agg #[.int .i64 t.kind, .int .i64 t.num, .string t.text, y]] W fun e W' => e = .returned (.bool true) ∧ Below W.heap.size W W') := fun t x y W h1 h2 => (same_any (d + 1) t t x y W h1 h2).mono fun e W' h => ⟨by rw [h.1, sameV_self], h.2.below⟩
  have HVs : Hid (∀ (m : List VT) (x y : Value) (W : World), Lies (d + 1) W m x → Lies (d + 1) W m y → m.length ≤ 65536 → Calls Try.prog 26 #[x, y] W fun e W' => e = .returned (.bool true) ∧ Below W.heap.size W W') := fun m x y W h1 h2 h3 => values_same d m x y W h1 h2 h3
  generalize setA d l = A at *
  generalize listA d l = B at *
  generalize sortA d l = S at *
  obtain ⟨t, n⟩ := A
  obtain ⟨s, m⟩ := B
  obtain ⟨ss, k⟩ := S
  clear hu
  go_enter Try.func6, Try.ntmps6
  go_wp2_with fail
  refine (H1.out _ HL.out).mono ?_
  rintro e w1 ⟨v1, rfl, hL1, hb1⟩
  obtain ⟨a1, c1, rfl, _⟩ := Lies.slice hL1
  have hq1 : Below w1.heap.size w1 (w1.alloc (.cells #[.int .i64 t.kind, .int .i64 t.num, .string t.text, .slice a1 t.items.length c1] 24)) := (Below.refl _ _).alloc (Nat.le_refl _) _
  have HX11 : Hid (Bx (w1.alloc (.cells #[.int .i64 t.kind, .int .i64 t.num, .string t.text, .slice a1 t.items.length c1] 24)) w1.heap.size t (.slice a1 t.items.length c1) ∧ Lies (d + 1) (w1.alloc (.cells #[.int .i64 t.kind, .int .i64 t.num, .string t.text, .slice a1 t.items.length c1] 24)) t.items (.slice a1 t.items.length c1)) := ⟨bx_alloc w1 t _, Lies.keeps hq1 _ _ _ hL1⟩
  have hr1 : Below w.heap.size w (w1.alloc (.cells #[.int .i64 t.kind, .int .i64 t.num, .string t.text, .slice a1 t.items.length c1] 24)) := hb1.trans (hq1.mono hb1.size)
  clear hL1
  go_wp2_with fail
  refine (H2.out _ (Lies.keeps hr1 _ _ _ HL.out)).mono ?_
  rintro e w2 ⟨v2, rfl, hL2, hg2⟩
  have hb2 : Below w.heap.size w w2 := hr1.trans (hg2.mono hr1.size)
  have HY21 : Hid (Bx w2 w1.heap.size t (.slice a1 t.items.length c1) ∧ Lies (d + 1) w2 t.items (.slice a1 t.items.length c1)) := ⟨HX11.out.1.keeps hg2, Lies.keeps hg2 _ _ _ HX11.out.2⟩
  clear hg2 hq1 hr1 HX11
  obtain ⟨a2, c2, rfl, _⟩ := Lies.slice hL2
  have hq2 : Below w2.heap.size w2 (w2.alloc (.cells #[.int .i64 t.kind, .int .i64 t.num, .string t.text, .slice a2 t.items.length c2] 24)) := (Below.refl _ _).alloc (Nat.le_refl _) _
  have HX21 : Hid (Bx (w2.alloc (.cells #[.int .i64 t.kind, .int .i64 t.num, .string t.text, .slice a2 t.items.length c2] 24)) w1.heap.size t (.slice a1 t.items.length c1) ∧ Lies (d + 1) (w2.alloc (.cells #[.int .i64 t.kind, .int .i64 t.num, .string t.text, .slice a2 t.items.length c2] 24)) t.items (.slice a1 t.items.length c1)) := ⟨HY21.out.1.keeps hq2, Lies.keeps hq2 _ _ _ HY21.out.2⟩
  have HX22 : Hid (Bx (w2.alloc (.cells #[.int .i64 t.kind, .int .i64 t.num, .string t.text, .slice a2 t.items.length c2] 24)) w2.heap.size t (.slice a2 t.items.length c2) ∧ Lies (d + 1) (w2.alloc (.cells #[.int .i64 t.kind, .int .i64 t.num, .string t.text, .slice a2 t.items.length c2] 24)) t.items (.slice a2 t.items.length c2)) := ⟨bx_alloc w2 t _, Lies.keeps hq2 _ _ _ hL2⟩
  have hr2 : Below w.heap.size w (w2.alloc (.cells #[.int .i64 t.kind, .int .i64 t.num, .string t.text, .slice a2 t.items.length c2] 24)) := hb2.trans (hq2.mono hb2.size)
  clear hL2 HY21
  go_wp2_with fail
  refine (H3.out _ (Lies.keeps hr2 _ _ _ HL.out)).mono ?_
  rintro e w3 ⟨v3, rfl, hL3, hg3⟩
  have hb3 : Below w.heap.size w w3 := hr2.trans (hg3.mono hr2.size)
  have HY31 : Hid (Bx w3 w1.heap.size t (.slice a1 t.items.length c1) ∧ Lies (d + 1) w3 t.items (.slice a1 t.items.length c1)) := ⟨HX21.out.1.keeps hg3, Lies.keeps hg3 _ _ _ HX21.out.2⟩
  have HY32 : Hid (Bx w3 w2.heap.size t (.slice a2 t.items.length c2) ∧ Lies (d + 1) w3 t.items (.slice a2 t.items.length c2)) := ⟨HX22.out.1.keeps hg3, Lies.keeps hg3 _ _ _ HX22.out.2⟩
  clear hg3 hq2 hr2 HX21 HX22
  obtain ⟨a3, c3, rfl, _⟩ := Lies.slice hL3
  have hq3 : Below w3.heap.size w3 (w3.alloc (.cells #[.int .i64 s.kind, .int .i64 s.num, .string s.text, .slice a3 s.items.length c3] 24)) := (Below.refl _ _).alloc (Nat.le_refl _) _
  have HX31 : Hid (Bx (w3.alloc (.cells #[.int .i64 s.kind, .int .i64 s.num, .string s.text, .slice a3 s.items.length c3] 24)) w1.heap.size t (.slice a1 t.items.length c1) ∧ Lies (d + 1) (w3.alloc (.cells #[.int .i64 s.kind, .int .i64 s.num, .string s.text, .slice a3 s.items.length c3] 24)) t.items (.slice a1 t.items.length c1)) := ⟨HY31.out.1.keeps hq3, Lies.keeps hq3 _ _ _ HY31.out.2⟩
  have HX32 : Hid (Bx (w3.alloc (.cells #[.int .i64 s.kind, .int .i64 s.num, .string s.text, .slice a3 s.items.length c3] 24)) w2.heap.size t (.slice a2 t.items.length c2) ∧ Lies (d + 1) (w3.alloc (.cells #[.int .i64 s.kind, .int .i64 s.num, .string s.text, .slice a3 s.items.length c3] 24)) t.items (.slice a2 t.items.length c2)) := ⟨HY32.out.1.keeps hq3, Lies.keeps hq3 _ _ _ HY32.out.2⟩
  have HX33 : Hid (Bx (w3.alloc (.cells #[.int .i64 s.kind, .int .i64 s.num, .string s.text, .slice a3 s.items.length c3] 24)) w3.heap.size s (.slice a3 s.items.length c3) ∧ Lies (d + 1) (w3.alloc (.cells #[.int .i64 s.kind, .int .i64 s.num, .string s.text, .slice a3 s.items.length c3] 24)) s.items (.slice a3 s.items.length c3)) := ⟨bx_alloc w3 s _, Lies.keeps hq3 _ _ _ hL3⟩
  have hr3 : Below w.heap.size w (w3.alloc (.cells #[.int .i64 s.kind, .int .i64 s.num, .string s.text, .slice a3 s.items.length c3] 24)) := hb3.trans (hq3.mono hb3.size)
  clear hL3 HY31 HY32
  go_wp2_with fail
  refine (H4.out _ (Lies.keeps hr3 _ _ _ HL.out)).mono ?_
  rintro e w4 ⟨v4, rfl, hL4, hg4⟩
  have hb4 : Below w.heap.size w w4 := hr3.trans (hg4.mono hr3.size)
  have HY41 : Hid (Bx w4 w1.heap.size t (.slice a1 t.items.length c1) ∧ Lies (d + 1) w4 t.items (.slice a1 t.items.length c1)) := ⟨HX31.out.1.keeps hg4, Lies.keeps hg4 _ _ _ HX31.out.2⟩
  have HY42 : Hid (Bx w4 w2.heap.size t (.slice a2 t.items.length c2) ∧ Lies (d + 1) w4 t.items (.slice a2 t.items.length c2)) := ⟨HX32.out.1.keeps hg4, Lies.keeps hg4 _ _ _ HX32.out.2⟩
  have HY43 : Hid (Bx w4 w3.heap.size s (.slice a3 s.items.length c3) ∧ Lies (d + 1) w4 s.items (.slice a3 s.items.length c3)) := ⟨HX33.out.1.keeps hg4, Lies.keeps hg4 _ _ _ HX33.out.2⟩
  clear hg4 hq3 hr3 HX31 HX32 HX33
  obtain ⟨a4, c4, rfl, _⟩ := Lies.slice hL4
  have hq4 : Below w4.heap.size w4 (w4.alloc (.cells #[.int .i64 s.kind, .int .i64 s.num, .string s.text, .slice a4 s.items.length c4] 24)) := (Below.refl _ _).alloc (Nat.le_refl _) _
  have HX41 : Hid (Bx (w4.alloc (.cells #[.int .i64 s.kind, .int .i64 s.num, .string s.text, .slice a4 s.items.length c4] 24)) w1.heap.size t (.slice a1 t.items.length c1) ∧ Lies (d + 1) (w4.alloc (.cells #[.int .i64 s.kind, .int .i64 s.num, .string s.text, .slice a4 s.items.length c4] 24)) t.items (.slice a1 t.items.length c1)) := ⟨HY41.out.1.keeps hq4, Lies.keeps hq4 _ _ _ HY41.out.2⟩
  have HX42 : Hid (Bx (w4.alloc (.cells #[.int .i64 s.kind, .int .i64 s.num, .string s.text, .slice a4 s.items.length c4] 24)) w2.heap.size t (.slice a2 t.items.length c2) ∧ Lies (d + 1) (w4.alloc (.cells #[.int .i64 s.kind, .int .i64 s.num, .string s.text, .slice a4 s.items.length c4] 24)) t.items (.slice a2 t.items.length c2)) := ⟨HY42.out.1.keeps hq4, Lies.keeps hq4 _ _ _ HY42.out.2⟩
  have HX43 : Hid (Bx (w4.alloc (.cells #[.int .i64 s.kind, .int .i64 s.num, .string s.text, .slice a4 s.items.length c4] 24)) w3.heap.size s (.slice a3 s.items.length c3) ∧ Lies (d + 1) (w4.alloc (.cells #[.int .i64 s.kind, .int .i64 s.num, .string s.text, .slice a4 s.items.length c4] 24)) s.items (.slice a3 s.items.length c3)) := ⟨HY43.out.1.keeps hq4, Lies.keeps hq4 _ _ _ HY43.out.2⟩
  have HX44 : Hid (Bx (w4.alloc (.cells #[.int .i64 s.kind, .int .i64 s.num, .string s.text, .slice a4 s.items.length c4] 24)) w4.heap.size s (.slice a4 s.items.length c4) ∧ Lies (d + 1) (w4.alloc (.cells #[.int .i64 s.kind, .int .i64 s.num, .string s.text, .slice a4 s.items.length c4] 24)) s.items (.slice a4 s.items.length c4)) := ⟨bx_alloc w4 s _, Lies.keeps hq4 _ _ _ hL4⟩
  have hr4 : Below w.heap.size w (w4.alloc (.cells #[.int .i64 s.kind, .int .i64 s.num, .string s.text, .slice a4 s.items.length c4] 24)) := hb4.trans (hq4.mono hb4.size)
  clear hL4 HY41 HY42 HY43
  go_wp2_with fail
  refine (H5.out _ (Lies.keeps hr4 _ _ _ HL.out)).mono ?_
  rintro e w5 ⟨v5, rfl, hL5, hg5⟩
  have hb5 : Below w.heap.size w w5 := hr4.trans (hg5.mono hr4.size)
  have HY51 : Hid (Bx w5 w1.heap.size t (.slice a1 t.items.length c1) ∧ Lies (d + 1) w5 t.items (.slice a1 t.items.length c1)) := ⟨HX41.out.1.keeps hg5, Lies.keeps hg5 _ _ _ HX41.out.2⟩
  have HY52 : Hid (Bx w5 w2.heap.size t (.slice a2 t.items.length c2) ∧ Lies (d + 1) w5 t.items (.slice a2 t.items.length c2)) := ⟨HX42.out.1.keeps hg5, Lies.keeps hg5 _ _ _ HX42.out.2⟩
  have HY53 : Hid (Bx w5 w3.heap.size s (.slice a3 s.items.length c3) ∧ Lies (d + 1) w5 s.items (.slice a3 s.items.length c3)) := ⟨HX43.out.1.keeps hg5, Lies.keeps hg5 _ _ _ HX43.out.2⟩
  have HY54 : Hid (Bx w5 w4.heap.size s (.slice a4 s.items.length c4) ∧ Lies (d + 1) w5 s.items (.slice a4 s.items.length c4)) := ⟨HX44.out.1.keeps hg5, Lies.keeps hg5 _ _ _ HX44.out.2⟩
  clear hg5 hq4 hr4 HX41 HX42 HX43 HX44
  obtain ⟨a5, c5, rfl, _⟩ := Lies.slice hL5
  have HL5 : Hid (Lies (d + 1) w5 ss (.slice a5 ss.length c5)) := hL5
  clear hL5
  go_wp2_with fail
  refine (H6.out _ (Lies.keeps hb5 _ _ _ HL.out)).mono ?_
  rintro e w6 ⟨v6, rfl, hL6, hg6⟩
  obtain ⟨a6, c6, rfl, _⟩ := Lies.slice hL6
  have hb6 : Below w.heap.size w w6 := hb5.trans (hg6.mono hb5.size)
  have HL56 : Hid (Lies (d + 1) w6 ss (.slice a5 ss.length c5)) := Lies.keeps hg6 _ _ _ HL5.out
  have HL66 : Hid (Lies (d + 1) w6 ss (.slice a6 ss.length c6)) := hL6
  have HZ1 : Hid (Bx w6 w1.heap.size t (.slice a1 t.items.length c1) ∧ Lies (d + 1) w6 t.items (.slice a1 t.items.length c1)) := ⟨HY51.out.1.keeps hg6, Lies.keeps hg6 _ _ _ HY51.out.2⟩
  have HZ2 : Hid (Bx w6 w2.heap.size t (.slice a2 t.items.length c2) ∧ Lies (d + 1) w6 t.items (.slice a2 t.items.length c2)) := ⟨HY52.out.1.keeps hg6, Lies.keeps hg6 _ _ _ HY52.out.2⟩
  have HZ3 : Hid (Bx w6 w3.heap.size s (.slice a3 s.items.length c3) ∧ Lies (d + 1) w6 s.items (.slice a3 s.items.length c3)) := ⟨HY53.out.1.keeps hg6, Lies.keeps hg6 _ _ _ HY53.out.2⟩
  have HZ4 : Hid (Bx w6 w4.heap.size s (.slice a4 s.items.length c4) ∧ Lies (d + 1) w6 s.items (.slice a4 s.items.length c4)) := ⟨HY54.out.1.keeps hg6, Lies.keeps hg6 _ _ _ HY54.out.2⟩
  clear hL6 hg6 HL5 HY51 HY52 HY53 HY54 H1 H2 H3 H4 H5 H6
  obtain ⟨x0, x1, x2, x3, _, _, _, _⟩ := HZ1.out.1
  obtain ⟨y0, y1, y2, y3, _, _, _, _⟩ := HZ2.out.1
  go_wp2_with fail
  refine (HSm.out t _ _ _ HZ1.out.2 HZ2.out.2).mono ?_
  rintro e w7 ⟨rfl, hg7⟩
  have hb7 : Below w.heap.size w w7 := hb6.trans (hg7.mono hb6.size)
  have HV3 : Hid _ := HZ3.out.1.keeps hg7
  have HV4 : Hid _ := HZ4.out.1.keeps hg7
  have HW3 : Hid _ := Lies.keeps hg7 _ _ _ HZ3.out.2
  have HW4 : Hid _ := Lies.keeps hg7 _ _ _ HZ4.out.2
  have HL57 : Hid _ := Lies.keeps hg7 _ _ _ HL56.out
  have HL67 : Hid _ := Lies.keeps hg7 _ _ _ HL66.out
  clear x0 x1 x2 x3 y0 y1 y2 y3 HZ1 HZ2 HZ3 HZ4 HL56 HL66 hg7
  obtain ⟨x0, x1, x2, x3, _, _, _, _⟩ := HV3.out
  obtain ⟨y0, y1, y2, y3, _, _, _, _⟩ := HV4.out
  go_wp2_with fail
  refine (HSm.out s _ _ _ HW3.out HW4.out).mono ?_
  rintro e w8 ⟨rfl, hg8⟩
  have hb8 : Below w.heap.size w w8 := hb7.trans (hg8.mono hb7.size)
  have HL58 : Hid _ := Lies.keeps hg8 _ _ _ HL57.out
  have HL68 : Hid _ := Lies.keeps hg8 _ _ _ HL67.out
  clear x0 x1 x2 x3 y0 y1 y2 y3 HV3 HV4 HW3 HW4 HL57 HL67 hg8
  go_wp2_with fail
  refine (HVs.out ss _ _ _ HL58.out HL68.out Hsl.out).mono ?_
  rintro e w9 ⟨rfl, hg9⟩
  have hb9 : Below w.heap.size w w9 := hb8.trans (hg9.mono hb8.size)
  clear hg9 HL58 HL68
  go_wp2_with fail
  refine (hsp.out _).mono ?_
  rintro e w10 ⟨rfl, hg10⟩
  have hb10 : Below w.heap.size w w10 := hb9.trans (hg10.mono hb9.size)
  go_wp2_with fail
  go_ret
  exact ⟨rfl, hb10⟩

end Go.Proofs.Ytajjkkfegcmkkaa

