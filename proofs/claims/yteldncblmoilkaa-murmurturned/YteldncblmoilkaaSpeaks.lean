/-
  The contract of speaks: it answers true.
-/
import Derived.Test.YteldncblmoilkaaFold
namespace Go.Proofs.Yteldncblmoilkaa
open Go.RowKit

theorem long_1 : longZ 1 = 1392991556 := by kernel_rfl
theorem int_97 : intZ 97 = 1455541201 := by kernel_rfl
theorem ord_nil : ordZ [] = 2277397642 := by kernel_rfl
theorem uno_nil : unoZ [] = 4279838538 := by kernel_rfl
theorem java_ab : javaZ [97, 98] = 3105 := by kernel_rfl

set_option maxHeartbeats 1000000 in
theorem speaks_any (w : World) : Calls Try.prog 15 #[] w fun e w' => e = .returned (.bool true) ∧ Grew w w' := by
  go_enter Try.func15, Try.ntmps15
  go_wp2_with fail
  have h0 := long_any 1 w
  rw [long_1] at h0
  refine Calls.mono h0 ?_
  rintro e w1 ⟨rfl, h1⟩
  clear h0
  go_wp2_with fail
  have h0 := int_any 97 w1
  rw [int_97] at h0
  refine Calls.mono h0 ?_
  rintro e w2 ⟨rfl, h2⟩
  clear h0
  go_wp2_with fail
  have h0 := ordered_any [] _ w2 (IntsAt.nil .u32 w2)
  rw [ord_nil] at h0
  refine Calls.mono h0 ?_
  rintro e w3 ⟨rfl, h3⟩
  clear h0
  go_wp2_with fail
  have h0 := unordered_any [] _ w3 (IntsAt.nil .u32 w3)
  rw [uno_nil] at h0
  refine Calls.mono h0 ?_
  rintro e w4 ⟨rfl, h4⟩
  clear h0
  have hg : Grew w w4 := (((h1.trans h2).trans h3).trans h4).grew
  clear h1 h2 h3 h4
  go_wp2_with fail
  have h0 := java_any [97, 98] (.slice (some ⟨w4.heap.size, 0, none⟩) 2 2) (w4.alloc (.cells #[.int .u16 97, .int .u16 98] 42)) ⟨_, _, rfl, by simp, by simp, fun _ => ⟨_, _, rfl, fun i hi => by
    match i, hi with
    | 0, _ => simp
    | 1, _ => simp⟩⟩
  rw [java_ab] at h0
  refine Calls.mono h0 ?_
  rintro e w5 ⟨rfl, h5⟩
  clear h0
  have hg5 : Grew w w5 := (hg.alloc _).trans h5.grew
  clear hg h5
  go_wp2_with fail
  go_ret
  exact ⟨rfl, hg5⟩

end Go.Proofs.Yteldncblmoilkaa
