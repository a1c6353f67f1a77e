/-
  The walks of MurmurMixes, MurmurNumbers and MurmurColls: each answers true.
-/
import Derived.Test.YteldncblmoilkaaSpeaks
namespace Go.Proofs.Yteldncblmoilkaa
open Go.RowKit

set_option maxHeartbeats 2000000 in
theorem mixes_walk (a b : Int) (w : World) : Calls Try.prog 3 #[.int .u32 a, .int .u32 b] w fun e w' => e = .returned (.bool true) ∧ Grew w w' := by
  go_enter Try.func3, Try.ntmps3
  go_wp2_with fail
  refine (mixK_any _ _).mono ?_
  rintro e w1 ⟨rfl, h⟩
  have hg1 : Grew w w1 := h.grew
  clear h
  go_wp2_with fail
  refine (rmixK_any _ _).mono ?_
  rintro e w2 ⟨rfl, h⟩
  have hg2 : Grew w w2 := hg1.trans h.grew
  clear h hg1
  go_wp2_with fail
  refine (mixH_any _ _ _).mono ?_
  rintro e w3 ⟨rfl, h⟩
  have hg3 : Grew w w3 := hg2.trans h.grew
  clear h hg2
  go_wp2_with fail
  refine (rmixH_any _ _ _).mono ?_
  rintro e w4 ⟨rfl, h⟩
  have hg4 : Grew w w4 := hg3.trans h.grew
  clear h hg3
  go_wp2_with fail
  refine (fin_any _ _ _).mono ?_
  rintro e w5 ⟨rfl, h⟩
  have hg5 : Grew w w5 := hg4.trans h.grew
  clear h hg4
  go_wp2_with fail
  refine (rfin_any _ _ _).mono ?_
  rintro e w6 ⟨rfl, h⟩
  have hg6 : Grew w w6 := hg5.trans h.grew
  clear h hg5
  go_wp2_with fail
  refine (speaks_any _).mono ?_
  rintro e w7 ⟨rfl, h⟩
  have hg7 : Grew w w7 := hg6.trans h
  clear h hg6
  go_wp2_with fail
  go_ret
  exact ⟨rfl, hg7⟩

set_option maxHeartbeats 2000000 in
theorem numbers_walk (a b : Int) (w : World) : Calls Try.prog 4 #[.int .i32 a, .int .i64 b] w fun e w' => e = .returned (.bool true) ∧ Grew w w' := by
  go_enter Try.func4, Try.ntmps4
  go_wp2_with fail
  refine (int_any _ _).mono ?_
  rintro e w1 ⟨rfl, h⟩
  have hg1 : Grew w w1 := h.grew
  clear h
  go_wp2_with fail
  refine (rint_any _ _).mono ?_
  rintro e w2 ⟨rfl, h⟩
  have hg2 : Grew w w2 := hg1.trans h.grew
  clear h hg1
  go_wp2_with fail
  refine (long_any _ _).mono ?_
  rintro e w3 ⟨rfl, h⟩
  have hg3 : Grew w w3 := hg2.trans h.grew
  clear h hg2
  go_wp2_with fail
  refine (rlong_any _ _).mono ?_
  rintro e w4 ⟨rfl, h⟩
  have hg4 : Grew w w4 := hg3.trans h.grew
  clear h hg3
  go_wp2_with fail
  refine (speaks_any _).mono ?_
  rintro e w5 ⟨rfl, h⟩
  have hg5 : Grew w w5 := hg4.trans h
  clear h hg4
  go_wp2_with fail
  go_ret
  exact ⟨rfl, hg5⟩

set_option maxHeartbeats 2000000 in
theorem colls_walk (h n : Int) (l : List Int) (v : Value) (w : World) (hl : Hid (IntsAt .u32 w l v)) : Calls Try.prog 6 #[.int .u32 h, .int .i64 n, v] w fun e w' => e = .returned (.bool true) ∧ Grew w w' := by
  go_enter Try.func6, Try.ntmps6
  go_wp2_with fail
  refine (coll_any _ _ _).mono ?_
  rintro e w1 ⟨rfl, h⟩
  have hg1 : Grew w w1 := h.grew
  clear h
  go_wp2_with fail
  refine (rcoll_any _ _ _).mono ?_
  rintro e w2 ⟨rfl, h⟩
  have hg2 : Grew w w2 := hg1.trans h.grew
  clear h hg1
  go_wp2_with fail
  refine (ordered_any l v _ (hl.out.keeps hg2.below)).mono ?_
  rintro e w3 ⟨rfl, h⟩
  have hg3 : Grew w w3 := hg2.trans h.grew
  clear h hg2
  go_wp2_with fail
  refine (rordered_any l v _ (hl.out.keeps hg3.below)).mono ?_
  rintro e w4 ⟨rfl, h⟩
  have hg4 : Grew w w4 := hg3.trans h.grew
  clear h hg3
  go_wp2_with fail
  refine (unordered_any l v _ (hl.out.keeps hg4.below)).mono ?_
  rintro e w5 ⟨rfl, h⟩
  have hg5 : Grew w w5 := hg4.trans h.grew
  clear h hg4
  go_wp2_with fail
  refine (runordered_any l v _ (hl.out.keeps hg5.below)).mono ?_
  rintro e w6 ⟨rfl, h⟩
  have hg6 : Grew w w6 := hg5.trans h.grew
  clear h hg5
  go_wp2_with fail
  refine (speaks_any _).mono ?_
  rintro e w7 ⟨rfl, h⟩
  have hg7 : Grew w w7 := hg6.trans h
  clear h hg6
  go_wp2_with fail
  go_ret
  exact ⟨rfl, hg7⟩

end Go.Proofs.Yteldncblmoilkaa
