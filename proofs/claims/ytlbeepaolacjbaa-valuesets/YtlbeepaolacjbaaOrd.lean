/-
  The walk of ValueOrder.
-/
import Derived.Test.YtlbeepaolacjbaaRef
namespace Go.Proofs.Ytlbeepaolacjbaa
open Go.RowKit

set_option maxHeartbeats 1000000 in
theorem equal_any (d : Nat) (t s : VT) (x y : Value) (w : World) (hx : Lies d w t.items x) (hy : Lies d w s.items y) :
    Calls Try.prog 18 #[.agg #[.int .i64 t.kind, .int .i64 t.num, .string t.text, x], .agg #[.int .i64 s.kind, .int .i64 s.num, .string s.text, y]] w fun e w' => e = .returned (.bool (cmpV d t s == 0)) ∧ Grew w w' := by
  obtain ⟨ax, cx, rfl, _⟩ := Lies.slice hx
  obtain ⟨ay, cy, rfl, _⟩ := Lies.slice hy
  have hx : Hid _ := hx
  have hy : Hid _ := hy
  go_enter Try.func18, Try.ntmps18
  go_wp2_with fail
  refine (compare_any d t s _ _ _ (Lies.keeps (Grew.two _ _ _).below _ _ _ hx.out) (Lies.keeps (Grew.two _ _ _).below _ _ _ hy.out)).mono ?_
  rintro e w1 ⟨rfl, hb⟩
  go_wp2_with fail
  go_ret
  exact ⟨rfl, (Grew.two _ _ _).trans hb⟩

set_option maxHeartbeats 1000000 in
theorem valueOrder_any (hsp : Hid (∀ W : World, Calls Try.prog 15 #[] W fun e W' => e = .returned (.bool true) ∧ Below W.heap.size W W'))
    (d : Nat) (t s : VT) (x y : Value) (w : World) (hx : Lies d w t.items x) (hy : Lies d w s.items y) :
    Calls Try.prog 4 #[.agg #[.int .i64 t.kind, .int .i64 t.num, .string t.text, x], .agg #[.int .i64 s.kind, .int .i64 s.num, .string s.text, y]] w fun e w' => e = .returned (.bool true) ∧ Below w.heap.size w w' := by
  obtain ⟨ax, cx, rfl, _⟩ := Lies.slice hx
  obtain ⟨ay, cy, rfl, _⟩ := Lies.slice hy
  have hx : Hid _ := hx
  have hy : Hid _ := hy
  obtain ⟨hc1, hc2⟩ := cmpV_range d t s
  have Ht : Hid _ := cmpV_turn d t s
  go_enter Try.func4, Try.ntmps4
  go_wp2_with fail
  refine (ref_any d t s _ _ _ (Lies.keeps (Grew.two _ _ _).below _ _ _ hx.out) (Lies.keeps (Grew.two _ _ _).below _ _ _ hy.out)).mono ?_
  rintro e w1 ⟨rfl, hb⟩
  have hb1 : Below w.heap.size w w1 := (Grew.two w _ _).below.trans (hb.mono (by simp; omega))
  have K1 : Hid _ := (((boxed_alloc w t.kind t.num t.text (.slice ax t.items.length cx) 24).keeps ((Grew.refl _).alloc (.cells #[.int .i64 s.kind, .int .i64 s.num, .string s.text, .slice ay s.items.length cy] 24)).below)).keeps hb
  have K2 : Hid _ := (boxed_alloc (w.alloc (.cells #[.int .i64 t.kind, .int .i64 t.num, .string t.text, .slice ax t.items.length cx] 24)) s.kind s.num s.text (.slice ay s.items.length cy) 24).keeps hb
  have hs1 : w.heap.size + 2 ≤ w1.heap.size := by have := hb.size; simp at this; omega
  clear hb
  obtain ⟨c0, c1, c2, c3⟩ := K1.out
  obtain ⟨e0, e1, e2, e3⟩ := K2.out
  simp only [World.size_alloc] at e0 e1 e2 e3
  go_wp2_with fail
  refine (compare_any d t s _ _ _ (Lies.keeps hb1 _ _ _ hx.out) (Lies.keeps hb1 _ _ _ hy.out)).mono ?_
  rintro e w2 ⟨rfl, hb⟩
  have hb2 : Below w.heap.size w w2 := hb1.trans (hb.below.mono hb1.size)
  have c0 := cell_keeps hb.below c0; have c1 := cell_keeps hb.below c1; have c2 := cell_keeps hb.below c2; have c3 := cell_keeps hb.below c3
  have e0 := cell_keeps hb.below e0; have e1 := cell_keeps hb.below e1; have e2 := cell_keeps hb.below e2; have e3 := cell_keeps hb.below e3
  clear hb
  go_wp2_with fail
  refine (equal_any d t s _ _ _ (Lies.keeps hb2 _ _ _ hx.out) (Lies.keeps hb2 _ _ _ hy.out)).mono ?_
  rintro e w3 ⟨rfl, hb⟩
  have hb3 : Below w.heap.size w w3 := hb2.trans (hb.below.mono hb2.size)
  have c0 := cell_keeps hb.below c0; have c1 := cell_keeps hb.below c1; have c2 := cell_keeps hb.below c2; have c3 := cell_keeps hb.below c3
  have e0 := cell_keeps hb.below e0; have e1 := cell_keeps hb.below e1; have e2 := cell_keeps hb.below e2; have e3 := cell_keeps hb.below e3
  clear hb
  go_wp2_with fail
  refine (compare_any d s t _ _ _ (Lies.keeps hb3 _ _ _ hy.out) (Lies.keeps hb3 _ _ _ hx.out)).mono ?_
  rintro e w4 ⟨rfl, hb⟩
  have hb4 : Below w.heap.size w w4 := hb3.trans (hb.below.mono hb3.size)
  clear hb
  rw [Ht.out]
  go_wp2_with fail
  refine (hsp.out _).mono ?_
  rintro e w5 ⟨rfl, hb⟩
  go_wp2_with fail
  go_ret
  exact ⟨rfl, hb4.trans (hb.mono hb4.size)⟩

end Go.Proofs.Ytlbeepaolacjbaa
