/-
  The walk of MurmurApart: it answers true.
-/
import Derived.Test.YteldncblmoilkaaApart
namespace Go.Proofs.Yteldncblmoilkaa
open Go.RowKit

set_option maxHeartbeats 2000000 in
theorem apart_core (a b n x y p q : Int) (w : World) (hx : Hid (mixK a = x)) (hy : Hid (mixK b = y)) (hp : Hid (finZ a n = p)) (hq : Hid (finZ b n = q)) (h : (a = b ∧ x = y ∧ p = q) ∨ (a ≠ b ∧ x ≠ y ∧ p ≠ q)) :
    Calls Try.prog 8 #[.int .u32 a, .int .u32 b, .int .u32 n] w fun e w' => e = .returned (.bool true) ∧ Grew w w' := by
  have hxy : ∃ t : Bool, (a == b) = t ∧ (x == y) = t ∧ (p == q) = t := by
    rcases h with ⟨rfl, rfl, rfl⟩ | ⟨h1, h2, h3⟩
    · exact ⟨true, by simp, by simp, by simp⟩
    · exact ⟨false, by simp [h1], by simp [h2], by simp [h3]⟩
  obtain ⟨t, e1, e2, e3⟩ := hxy
  clear h
  have hm1 : ∀ w, Calls Try.prog 9 #[.int .u32 a] w fun e w' => e = .returned (.int .u32 x) ∧ Drawn w w' := fun w => by rw [← hx.out]; exact mixK_any a w
  have hm2 : ∀ w, Calls Try.prog 9 #[.int .u32 b] w fun e w' => e = .returned (.int .u32 y) ∧ Drawn w w' := fun w => by rw [← hy.out]; exact mixK_any b w
  have hf1 : ∀ w, Calls Try.prog 13 #[.int .u32 a, .int .u32 n] w fun e w' => e = .returned (.int .u32 p) ∧ Drawn w w' := fun w => by rw [← hp.out]; exact fin_any a n w
  have hf2 : ∀ w, Calls Try.prog 13 #[.int .u32 b, .int .u32 n] w fun e w' => e = .returned (.int .u32 q) ∧ Drawn w w' := fun w => by rw [← hq.out]; exact fin_any b n w
  have H1 : Hid (∀ w, Calls Try.prog 9 #[.int .u32 a] w fun e w' => e = .returned (.int .u32 x) ∧ Drawn w w') := hm1
  have H2 : Hid (∀ w, Calls Try.prog 9 #[.int .u32 b] w fun e w' => e = .returned (.int .u32 y) ∧ Drawn w w') := hm2
  have H3 : Hid (∀ w, Calls Try.prog 13 #[.int .u32 a, .int .u32 n] w fun e w' => e = .returned (.int .u32 p) ∧ Drawn w w') := hf1
  have H4 : Hid (∀ w, Calls Try.prog 13 #[.int .u32 b, .int .u32 n] w fun e w' => e = .returned (.int .u32 q) ∧ Drawn w w') := hf2
  clear hm1 hm2 hf1 hf2
  go_enter Try.func8, Try.ntmps8
  go_wp2_with fail
  refine Calls.mono (H1.out _) ?_
  rintro e w1 ⟨rfl, h⟩
  have hg1 : Grew w w1 := h.grew
  clear h
  go_wp2_with fail
  refine Calls.mono (H2.out _) ?_
  rintro e w2 ⟨rfl, h⟩
  have hg2 : Grew w w2 := hg1.trans h.grew
  clear h hg1
  go_wp2_with fail
  refine Calls.mono (H3.out _) ?_
  rintro e w3 ⟨rfl, h⟩
  have hg3 : Grew w w3 := hg2.trans h.grew
  clear h hg2
  go_wp2_with fail
  refine Calls.mono (H4.out _) ?_
  rintro e w4 ⟨rfl, h⟩
  have hg4 : Grew w w4 := hg3.trans h.grew
  clear h hg3
  go_wp2_with fail
  refine (speaks_any _).mono ?_
  rintro e w5 ⟨rfl, h⟩
  have hg5 : Grew w w5 := hg4.trans h
  clear h hg4
  go_wp2_with fail
  go_ret
  exact ⟨rfl, hg5⟩

theorem apart_walk (a b n : Int) (w : World) (ha : 0 ≤ a ∧ a ≤ 4294967295) (hb : 0 ≤ b ∧ b ≤ 4294967295) :
    Calls Try.prog 8 #[.int .u32 a, .int .u32 b, .int .u32 n] w fun e w' => e = .returned (.bool true) ∧ Grew w w' := by
  refine apart_core a b n _ _ _ _ w rfl rfl rfl rfl ?_
  by_cases h : a = b
  · subst h; exact .inl ⟨rfl, rfl, rfl⟩
  · exact .inr ⟨h, fun e => h (mixK_inj ha hb e), fun e => h (fin_inj ha hb e)⟩

end Go.Proofs.Yteldncblmoilkaa
