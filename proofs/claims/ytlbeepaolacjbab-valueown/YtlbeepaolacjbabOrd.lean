/-
  The walk of ValueOrder.
-/
import Derived.Test.YtlbeepaolacjbabRef
namespace Go.Proofs.Ytlbeepaolacjbab
open Go.RowKit

set_option maxHeartbeats 1000000 in
theorem equal_any (d : Nat) (t s : VT) (x y : Value) (w : World) (hx : Lies d w t.items x) (hy : Lies d w s.items y) :
    Calls Try.prog 16 #[.agg #[.int .i64 t.kind, .int .i64 t.num, .string t.text, x], .agg #[.int .i64 s.kind, .int .i64 s.num, .string s.text, y]] w fun e w' => e = .returned (.bool (cmpV d t s == 0)) ∧ Grew w w' := by
  obtain ⟨ax, cx, rfl, _⟩ := Lies.slice hx
  obtain ⟨ay, cy, rfl, _⟩ := Lies.slice hy
  have hx : Hid _ := hx
  have hy : Hid _ := hy
  go_enter Try.func16, Try.ntmps16
  go_wp2_with fail
  refine (compare_any d t s _ _ _ (Lies.keeps (Grew.two _ _ _).below _ _ _ hx.out) (Lies.keeps (Grew.two _ _ _).below _ _ _ hy.out)).mono ?_
  rintro e w1 ⟨rfl, hb⟩
  go_wp2_with fail
  go_ret
  exact ⟨rfl, (Grew.two _ _ _).trans hb⟩

end Go.Proofs.Ytlbeepaolacjbab
