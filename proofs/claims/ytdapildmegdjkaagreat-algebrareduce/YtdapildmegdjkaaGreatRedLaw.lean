/-
  The walk of AlgebraReduce.
-/
import Derived.Test.YtdapildmegdjkaaGreatSpeaks25
import Derived.Test.YtdapildmegdjkaaGreatRRedM
import Derived.Test.YtdapildmegdjkaaGreatVals
import Derived.Test.YtdapildmegdjkaaGreatEq
namespace Go.Proofs.YtdapildmegdjkaaGreat
open Go.RowKit

theorem stpL_len (d : Nat) (q : Int) (t : VT) (l : List VT) : (stpL d q t l).length ≤ 100000 := by
  unfold stpL
  split
  · rename_i h
    have h1 := redS_len q.toNat l t
    have h2 := (listErr_zero (redE_zero h).2.2).1
    simp only [List.length_cons]
    omega
  · simp

set_option maxRecDepth 100000 in
set_option maxHeartbeats 8000000 in
theorem redLaw_core (d : Nat) (q : Int) (t : VT) (u : Value) (l : List VT) (v : Value) (w : World) (hu : Lies d w t.items u) (hs : t.text.size ≤ 9223372036854775807) (hv : Lies (d + 1) w l v) :
    Calls Tryz.prog 3 #[.int .i64 q, .agg #[.int .i64 t.kind, .int .i64 t.num, .string t.text, u], v] w fun e w' => e = .returned (.bool true) ∧ Below w.heap.size w w' := by
  obtain ⟨a, c, rfl, _⟩ := Lies.slice hu
  obtain ⟨a2, c2, rfl, _⟩ := Lies.slice hv
  have H1 : Hid (∀ W, Below w.heap.size w W → Calls Tryz.prog 8 #[.int .i64 q, .agg #[.int .i64 t.kind, .int .i64 t.num, .string t.text, .slice a t.items.length c], .slice a2 l.length c2] W (RedPost (redT d q t l) (redN d q t l) (redE d q t l) W)) := fun W hW => reduceF_any d q t _ l _ W (Lies.keeps hW _ _ _ hu) hs (Lies.keeps hW _ _ _ hv)
  have H2 : Hid (∀ W, Below w.heap.size w W → Calls Tryz.prog 9 #[.int .i64 q, .agg #[.int .i64 t.kind, .int .i64 t.num, .string t.text, .slice a t.items.length c], .slice a2 l.length c2] W (RedPost (redT d q t l) (redN d q t l) (redE d q t l) W)) := fun W hW => rreduce_any d q t _ l _ W (Lies.keeps hW _ _ _ hu) (Lies.keeps hW _ _ _ hv)
  have H3 : Hid (∀ W, Below w.heap.size w W → Calls Tryz.prog 10 #[.int .i64 q, .agg #[.int .i64 t.kind, .int .i64 t.num, .string t.text, .slice a t.items.length c], .slice a2 l.length c2] W (StPost (stpL d q t l) (redE d q t l) W)) := fun W hW => stepsF_any d q t _ l _ W (Lies.keeps hW _ _ _ hu) hs (Lies.keeps hW _ _ _ hv)
  have H4 : Hid (∀ W, Below w.heap.size w W → Calls Tryz.prog 11 #[.int .i64 q, .agg #[.int .i64 t.kind, .int .i64 t.num, .string t.text, .slice a t.items.length c], .slice a2 l.length c2] W (StPost (stpL d q t l) (redE d q t l) W)) := fun W hW => Calls.mono (rsteps_any d q t _ l _ W W (Below.refl _ _) (Lies.keeps hW _ _ _ hu) (Lies.keeps hW _ _ _ hv)) (fun e w' ⟨v, h1, h2, h3⟩ => ⟨v, h1, h2.lies, h3⟩)
  have HX0 : Hid (Bx (w.alloc (.cells #[.int .i64 t.kind, .int .i64 t.num, .string t.text, .slice a t.items.length c] 24)) w.heap.size t (.slice a t.items.length c)) := bx_alloc w t _
  have hal : Below w.heap.size w (w.alloc (.cells #[.int .i64 t.kind, .int .i64 t.num, .string t.text, .slice a t.items.length c] 24)) := ((Grew.refl w).alloc _).below
  have hlen := stpL_len d q t l
  have HV : Hid (∀ W x y, Lies 17 W (stpL d q t l) x → Lies 17 W (stpL d q t l) y → Calls Tryz.prog 13 #[x, y] W fun e w' => e = .returned (.bool true) ∧ Below W.heap.size W w') := fun W x y hx hy => values_more 16 (stpL d q t l) x y W hx hy hlen
  have HE : Hid (∀ W x y, Lies 16 W (redT d q t l).items x → Lies 16 W (redT d q t l).items y → Calls Tryz.prog 12 #[.agg #[.int .i64 (redT d q t l).kind, .int .i64 (redT d q t l).num, .string (redT d q t l).text, x], .agg #[.int .i64 (redT d q t l).kind, .int .i64 (redT d q t l).num, .string (redT d q t l).text, y]] W fun e w' => e = .returned (.bool true) ∧ Below W.heap.size W w') := fun W x y hx hy => Calls.mono (same_any 16 (redT d q t l) (redT d q t l) x y W hx hy) (fun e w' h => ⟨by rw [h.1, sameV_self], h.2.below⟩)
  have HSp : Hid (∀ W, Calls Tryz.prog 14 #[] W fun e w' => e = .returned (.bool true) ∧ Below W.heap.size W w') := fun W => speaks25_any W
  clear hu hv hs hlen
  generalize t.items.length = lt at *
  generalize l.length = ll at *
  generalize redT d q t l = R at *
  generalize redN d q t l = N at *
  generalize redE d q t l = E at *
  generalize stpL d q t l = SL at *
  go_enter Tryz.func3, Tryz.ntmps3
  go_wp2_with fail
  refine Calls.mono (H1.out _ hal) ?_
  rintro e w1 ⟨u1, rfl, hl1, hb1⟩
  obtain ⟨a1, c1, rfl, _⟩ := Lies.slice hl1
  have hb1 : Below (w.alloc (.cells #[.int .i64 t.kind, .int .i64 t.num, .string t.text, .slice a lt c] 24)).heap.size (w.alloc (.cells #[.int .i64 t.kind, .int .i64 t.num, .string t.text, .slice a lt c] 24)) w1 := hb1
  have HX1 : Hid (Bx w1 w.heap.size t (.slice a lt c)) := HX0.out.keeps hb1
  have hw1 : Below w.heap.size w w1 := hal.trans (hb1.mono hal.size)
  have HL1 : Hid (Lies 16 w1 R.items (.slice a1 R.items.length c1)) := hl1
  clear hb1 hal HX0 hl1 H1
  obtain ⟨W1, hW1⟩ : ∃ W1, W1 = w1.alloc (.cells #[.int .i64 R.kind, .int .i64 R.num, .string R.text, .slice a1 R.items.length c1] 24) := ⟨_, rfl⟩
  have HW1 : Hid (W1 = w1.alloc (.cells #[.int .i64 R.kind, .int .i64 R.num, .string R.text, .slice a1 R.items.length c1] 24)) := hW1
  have hx1 : Below w1.heap.size w1 W1 := by rw [hW1]; exact ((Grew.refl w1).alloc _).below
  have HA1 : Hid (Bx W1 w1.heap.size R (.slice a1 R.items.length c1)) := by rw [hW1]; exact bx_alloc w1 R _
  have HXW1 : Hid (Bx W1 w.heap.size t (.slice a lt c)) := HX1.out.keeps hx1
  have HLW1 : Hid (Lies 16 W1 R.items (.slice a1 R.items.length c1)) := Lies.keeps hx1 _ _ _ HL1.out
  have hwW1 : Below w.heap.size w W1 := hw1.trans (hx1.mono hw1.size)
  clear hW1 hx1 HX1 HL1 hw1
  go_upto_region 2 with fail
  rw [← HW1.out]
  clear HW1
  obtain ⟨x0, x1, x2, x3, _, _, _, _⟩ := HXW1.out
  go_wp2_with fail
  refine Calls.mono (H2.out _ hwW1) ?_
  rintro e w2 ⟨u2, rfl, hl2, hb2⟩
  obtain ⟨a3, c3, rfl, _⟩ := Lies.slice hl2
  have HX2 : Hid (Bx w2 w.heap.size t (.slice a lt c)) := HXW1.out.keeps hb2
  have HA2 : Hid (Bx w2 w1.heap.size R (.slice a1 R.items.length c1)) := HA1.out.keeps hb2
  have HL2 : Hid (Lies 16 w2 R.items (.slice a1 R.items.length c1) ∧ Lies 16 w2 R.items (.slice a3 R.items.length c3)) := ⟨Lies.keeps hb2 _ _ _ HLW1.out, hl2⟩
  have hw2 : Below w.heap.size w w2 := hwW1.trans (hb2.mono hwW1.size)
  clear hb2 hl2 H2 x0 x1 x2 x3 HXW1 HA1 HLW1 hwW1
  obtain ⟨W2, hW2⟩ : ∃ W2, W2 = w2.alloc (.cells #[.int .i64 R.kind, .int .i64 R.num, .string R.text, .slice a3 R.items.length c3] 24) := ⟨_, rfl⟩
  have HW2 : Hid (W2 = w2.alloc (.cells #[.int .i64 R.kind, .int .i64 R.num, .string R.text, .slice a3 R.items.length c3] 24)) := hW2
  have hx2 : Below w2.heap.size w2 W2 := by rw [hW2]; exact ((Grew.refl w2).alloc _).below
  have HB2 : Hid (Bx W2 w2.heap.size R (.slice a3 R.items.length c3)) := by rw [hW2]; exact bx_alloc w2 R _
  have HAW2 : Hid (Bx W2 w1.heap.size R (.slice a1 R.items.length c1)) := HA2.out.keeps hx2
  have HXW2 : Hid (Bx W2 w.heap.size t (.slice a lt c)) := HX2.out.keeps hx2
  have HLW2 : Hid (Lies 16 W2 R.items (.slice a1 R.items.length c1) ∧ Lies 16 W2 R.items (.slice a3 R.items.length c3)) := ⟨Lies.keeps hx2 _ _ _ HL2.out.1, Lies.keeps hx2 _ _ _ HL2.out.2⟩
  have hwW2 : Below w.heap.size w W2 := hw2.trans (hx2.mono hw2.size)
  clear hW2 hx2 HX2 HL2 hw2 HA2
  go_upto_region 3 with fail
  rw [← HW2.out]
  clear HW2
  obtain ⟨x0, x1, x2, x3, _, _, _, _⟩ := HXW2.out
  go_wp2_with fail
  refine Calls.mono (H3.out _ hwW2) ?_
  rintro e w3 ⟨u3, rfl, hl3, hb3⟩
  obtain ⟨a5, c5, rfl, _⟩ := Lies.slice hl3
  have HX3 : Hid (Bx w3 w.heap.size t (.slice a lt c)) := HXW2.out.keeps hb3
  have HA3 : Hid (Bx w3 w1.heap.size R (.slice a1 R.items.length c1)) := HAW2.out.keeps hb3
  have HB3 : Hid (Bx w3 w2.heap.size R (.slice a3 R.items.length c3)) := HB2.out.keeps hb3
  have HL3 : Hid (Lies 16 w3 R.items (.slice a1 R.items.length c1) ∧ Lies 16 w3 R.items (.slice a3 R.items.length c3)) := ⟨Lies.keeps hb3 _ _ _ HLW2.out.1, Lies.keeps hb3 _ _ _ HLW2.out.2⟩
  have HS3 : Hid (Lies 17 w3 SL (.slice a5 SL.length c5)) := hl3
  have hw3 : Below w.heap.size w w3 := hwW2.trans (hb3.mono hwW2.size)
  clear hb3 hl3 H3 x0 x1 x2 x3 HXW2 HAW2 HB2 HLW2 hwW2
  obtain ⟨x0, x1, x2, x3, _, _, _, _⟩ := HX3.out
  go_wp2_with fail
  refine Calls.mono (H4.out _ hw3) ?_
  rintro e w4 ⟨u4, rfl, hl4, hb4⟩
  obtain ⟨a6, c6, rfl, _⟩ := Lies.slice hl4
  have HA4 : Hid (Bx w4 w1.heap.size R (.slice a1 R.items.length c1)) := HA3.out.keeps hb4
  have HB4 : Hid (Bx w4 w2.heap.size R (.slice a3 R.items.length c3)) := HB3.out.keeps hb4
  have HV4 : Hid (Calls Tryz.prog 12 #[.agg #[.int .i64 R.kind, .int .i64 R.num, .string R.text, .slice a1 R.items.length c1], .agg #[.int .i64 R.kind, .int .i64 R.num, .string R.text, .slice a3 R.items.length c3]] w4 fun e w' => e = .returned (.bool true) ∧ Below w4.heap.size w4 w') := HE.out w4 _ _ (Lies.keeps hb4 _ _ _ HL3.out.1) (Lies.keeps hb4 _ _ _ HL3.out.2)
  have HS4 : Hid (Lies 17 w4 SL (.slice a5 SL.length c5) ∧ Lies 17 w4 SL (.slice a6 SL.length c6)) := ⟨Lies.keeps hb4 _ _ _ HS3.out, hl4⟩
  have hw4 : Below w.heap.size w w4 := hw3.trans (hb4.mono hw3.size)
  clear hb4 hl4 H4 x0 x1 x2 x3 HX3 HA3 HB3 HL3 HS3 hw3 HE
  obtain ⟨x0, x1, x2, x3, _, _, _, _⟩ := HA4.out
  obtain ⟨y0, y1, y2, y3, _, _, _, _⟩ := HB4.out
  go_wp2_with fail
  refine Calls.mono HV4.out ?_
  rintro e w5 ⟨rfl, hb5⟩
  have hw5 : Below w.heap.size w w5 := hw4.trans (hb5.mono hw4.size)
  have HV5 : Hid (Calls Tryz.prog 13 #[.slice a5 SL.length c5, .slice a6 SL.length c6] w5 fun e w' => e = .returned (.bool true) ∧ Below w5.heap.size w5 w') := HV.out w5 _ _ (Lies.keeps hb5 _ _ _ HS4.out.1) (Lies.keeps hb5 _ _ _ HS4.out.2)
  clear hb5 HV4 x0 x1 x2 x3 y0 y1 y2 y3 HA4 HB4 HS4 HV hw4
  generalize SL.length = sl at *
  generalize R.items.length = rl at *
  go_wp2_with fail
  refine Calls.mono HV5.out ?_
  rintro e w6 ⟨rfl, hb6⟩
  have hw6 : Below w.heap.size w w6 := hw5.trans (hb6.mono hw5.size)
  clear hb6 HV5 hw5
  go_wp2_with fail
  refine Calls.mono (HSp.out _) ?_
  rintro e w7 ⟨rfl, hb7⟩
  have hw7 : Below w.heap.size w w7 := hw6.trans (hb7.mono hw6.size)
  clear hb7 hw6 HSp
  go_wp2_with fail
  go_ret
  exact ⟨rfl, hw7⟩

theorem redLaw_walk (q : Int) (d1 d2 : Nat) (t : VT) (u : Value) (l : List VT) (v : Value) (w : World) (hu : Lies d1 w t.items u) (hs : t.text.size ≤ 9223372036854775807) (hv : Lies (d2 + 1) w l v) :
    Calls Tryz.prog 3 #[.int .i64 q, .agg #[.int .i64 t.kind, .int .i64 t.num, .string t.text, u], v] w fun e w' => e = .returned (.bool true) ∧ Below w.heap.size w w' :=
  redLaw_core (max d1 d2) q t u l v w (hu.atLeast _ (by omega)) hs (hv.atLeast _ (by omega))

end Go.Proofs.YtdapildmegdjkaaGreat

