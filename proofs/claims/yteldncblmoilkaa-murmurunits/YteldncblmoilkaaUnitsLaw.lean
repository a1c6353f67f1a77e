/-
  The walk of MurmurUnits: it answers true.
-/
import Derived.Test.YteldncblmoilkaaUnits
namespace Go.Proofs.Yteldncblmoilkaa
open Go.RowKit

set_option maxHeartbeats 2000000 in
theorem units_walk (l : List Int) (v : Value) (w : World) (hl : Hid (IntsAt .u16 w l v)) : Calls Try.prog 5 #[v] w fun e w' => e = .returned (.bool true) ∧ Grew w w' := by
  go_enter Try.func5, Try.ntmps5
  go_wp2_with fail
  refine (units_any l v _ hl.out).mono ?_
  rintro e w1 ⟨rfl, h⟩
  have hg1 : Grew w w1 := h.grew
  clear h
  go_wp2_with fail
  refine (runits_any l v _ (hl.out.keeps hg1.below)).mono ?_
  rintro e w2 ⟨rfl, h⟩
  have hg2 : Grew w w2 := hg1.trans h.grew
  clear h hg1
  go_wp2_with fail
  refine (java_any l v _ (hl.out.keeps hg2.below)).mono ?_
  rintro e w3 ⟨rfl, h⟩
  have hg3 : Grew w w3 := hg2.trans h.grew
  clear h hg2
  go_wp2_with fail
  refine (rjava_any l v _ (hl.out.keeps hg3.below)).mono ?_
  rintro e w4 ⟨rfl, h⟩
  have hg4 : Grew w w4 := hg3.trans h.grew
  clear h hg3
  go_wp2_with fail
  refine (speaks_any _).mono ?_
  rintro e w5 ⟨rfl, h⟩
  have hg5 : Grew w w5 := hg4.trans h
  clear h hg4
  go_wp2_with fail
  go_ret
  exact ⟨rfl, hg5⟩

end Go.Proofs.Yteldncblmoilkaa
