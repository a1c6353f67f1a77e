/-
  The contract of speaks: it answers true. The walk of HashParts.
-/
import Derived.Test.YteldncblmoilkabGroup
namespace Go.Proofs.Yteldncblmoilkab
open Go.RowKit

theorem right_of {k n : Int} (h : rightV 0 ⟨k, n, ⟨#[]⟩, []⟩ = true) : errOf (rightV 0 ⟨k, n, ⟨#[]⟩, []⟩) = 0 := by rw [h]; rfl
theorem fullA_of {k n z : Int} (h : rightV 0 ⟨k, n, ⟨#[]⟩, []⟩ = true) (hz : fullN (fun _ => 0) ⟨k, n, ⟨#[]⟩, []⟩ = z) : fullA 0 ⟨k, n, ⟨#[]⟩, []⟩ = z := by
  unfold fullA
  rw [h]
  exact hz

theorem r00 : rightV 0 ⟨0, 0, ⟨#[]⟩, []⟩ = true := by simp [rightV, fw, rpV, ownV, okNum, okText, okItems]
theorem r11 : rightV 0 ⟨1, 1, ⟨#[]⟩, []⟩ = true := by simp [rightV, fw, rpV, ownV, okNum, okText, okItems]
theorem r21 : rightV 0 ⟨2, 1, ⟨#[]⟩, []⟩ = true := by simp [rightV, fw, rpV, ownV, okNum, okText, okItems]
theorem r40 : rightV 0 ⟨4, 0, ⟨#[]⟩, []⟩ = true := by simp [rightV, fw, rpV, ownV, okNum, okText, okItems]
theorem r60 : rightV 0 ⟨6, 0, ⟨#[]⟩, []⟩ = true := by simp [rightV, fw, rpV, ownV, okNum, okText, okItems, risF]

theorem full_fixed (k n z : Int) (w : World) (h : rightV 0 ⟨k, n, ⟨#[]⟩, []⟩ = true) (hz : fullN (fun _ => 0) ⟨k, n, ⟨#[]⟩, []⟩ = z) :
    Calls Try.prog 9 #[.agg #[.int .i64 k, .int .i64 n, .string ⟨#[]⟩, .slice none 0 0]] w fun e w' => e = .returned (.tuple #[.int .u32 z, .int .i64 0]) ∧ Below w.heap.size w w' := by
  have h0 := pfull_any 0 ⟨k, n, ⟨#[]⟩, []⟩ (.slice none 0 0) w ⟨rfl, none, 0, rfl⟩ (by show 0 ≤ 9223372036854775807; omega)
  rw [right_of h, fullA_of h hz] at h0
  exact h0

theorem long_1 : longZ 1 = 1392991556 := by kernel_rfl
theorem ord_nil : ordZ [] = 2277397642 := by kernel_rfl
theorem uno_nil : unoZ [] = 4279838538 := by kernel_rfl

theorem plainInt_any (n : Int) (w : World) : Calls Try.prog 29 #[.int .i64 n] w fun e w' => e = .returned (.agg #[.int .i64 2, .int .i64 n, .string ⟨#[]⟩, .slice none 0 0]) ∧ Grew w w' := by
  go_enter Try.func29, Try.ntmps29
  go_wp2_with fail
  exact bodyPost_ret (v := .agg #[.int .i64 2, .int .i64 n, .string ⟨#[]⟩, .slice none 0 0]) (by simp [results, Try.results29, go_sem]) rfl ⟨rfl, by first | exact Grew.refl _ | exact (Grew.refl _).alloc _⟩

set_option maxHeartbeats 2000000 in
theorem speaks_any (w : World) : Calls Try.prog 13 #[] w fun e w' => e = .returned (.bool true) ∧ Below w.heap.size w w' := by
  go_enter Try.func13, Try.ntmps13
  go_wp2_with fail
  refine (full_fixed 0 0 0 _ r00 rfl).mono ?_
  rintro e w1 ⟨rfl, hb⟩
  have hb1 : Below w.heap.size w w1 := by first | exact hb | exact ((Grew.refl w).alloc _).below.trans (hb.mono (by simp))
  clear hb
  go_wp2_with fail
  refine (full_fixed 1 1 1231 _ r11 rfl).mono ?_
  rintro e w2 ⟨rfl, hb⟩
  have hb2 : Below w.heap.size w w2 := by first | exact hb1.trans (hb.mono hb1.size) | exact (hb1.alloc hb1.size _).trans (hb.mono (by have := hb1.size; simp; omega))
  clear hb hb1
  go_wp2_with fail
  refine (plainInt_any 1 _).mono ?_
  rintro e w3 ⟨rfl, hg⟩
  have hb3 : Below w.heap.size w w3 := hb2.trans (hg.below.mono hb2.size)
  clear hg hb2
  go_wp2_with fail
  refine (full_fixed 2 1 1392991556 _ r21 long_1).mono ?_
  rintro e w4 ⟨rfl, hb⟩
  have hb4 : Below w.heap.size w w4 := hb3.trans (hb.mono hb3.size)
  clear hb hb3
  go_wp2_with fail
  refine (full_fixed 4 0 2277397642 _ r40 ord_nil).mono ?_
  rintro e w5 ⟨rfl, hb⟩
  have hb5 : Below w.heap.size w w5 := by first | exact hb4.trans (hb.mono hb4.size) | exact (hb4.alloc hb4.size _).trans (hb.mono (by have := hb4.size; simp; omega))
  clear hb hb4
  go_wp2_with fail
  refine (full_fixed 6 0 4279838538 _ r60 uno_nil).mono ?_
  rintro e w6 ⟨rfl, hb⟩
  have hb6 : Below w.heap.size w w6 := by first | exact hb5.trans (hb.mono hb5.size) | exact (hb5.alloc hb5.size _).trans (hb.mono (by have := hb5.size; simp; omega))
  clear hb hb5
  go_wp2_with fail
  go_ret
  exact ⟨rfl, hb6⟩

set_option maxHeartbeats 2000000 in
theorem parts_core (h i k a e : Int) (w : World)
    (H1 : Hid (∀ w, Calls Try.prog 18 #[.int .u32 h, .int .i64 i] w fun r w' => r = .returned (.tuple #[.int .i64 a, .int .i64 e]) ∧ w' = w))
    (H2 : Hid (∀ w, Calls Try.prog 19 #[.int .u32 h, .int .i64 i] w fun r w' => r = .returned (.tuple #[.int .i64 a, .int .i64 e]) ∧ w' = w)) :
    Calls Try.prog 5 #[.int .u32 h, .int .i64 i, .int .u32 k] w fun e w' => e = .returned (.bool true) ∧ Below w.heap.size w w' := by
  go_enter Try.func5, Try.ntmps5
  go_wp2_with fail
  refine Calls.mono (H1.out _) ?_
  rintro r w1 ⟨rfl, rfl⟩
  go_wp2_with fail
  refine Calls.mono (H2.out _) ?_
  rintro r w2 ⟨rfl, rfl⟩
  go_wp2_with fail
  refine (entry_any _ _ _).mono ?_
  rintro r w3 ⟨rfl, hg3⟩
  go_wp2_with fail
  refine (rentry_any _ _ _).mono ?_
  rintro r w4 ⟨rfl, hg4⟩
  have hb : Below w2.heap.size w2 w4 := (hg3.trans hg4).below
  clear hg3 hg4
  go_wp2_with fail
  refine (speaks_any _).mono ?_
  rintro r w5 ⟨rfl, hb5⟩
  have hb6 : Below w2.heap.size w2 w5 := hb.trans (hb5.mono hb.size)
  go_wp2_with fail
  go_ret
  exact ⟨rfl, hb6⟩

theorem parts_walk (h i k : Int) (w : World) (hw : Word h) : Calls Try.prog 5 #[.int .u32 h, .int .i64 i, .int .u32 k] w fun e w' => e = .returned (.bool true) ∧ Below w.heap.size w w' := by
  by_cases hi : 0 ≤ i ∧ i ≤ 6
  · exact parts_core h i k (grpZ i.toNat h) 0 w (fun w => by have := pgroup_any h i w hw; rw [if_pos hi] at this; exact this) (fun w => by have := rgroup_any h i w hw; rw [if_pos hi] at this; exact this)
  · exact parts_core h i k 0 1 w (fun w => by have := pgroup_any h i w hw; rw [if_neg hi] at this; exact this) (fun w => by have := rgroup_any h i w hw; rw [if_neg hi] at this; exact this)

end Go.Proofs.Yteldncblmoilkab
