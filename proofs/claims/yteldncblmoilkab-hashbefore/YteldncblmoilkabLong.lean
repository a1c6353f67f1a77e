/-
  The contracts of Long, the program's and the document's: one and the same plain number.
-/
import Derived.Test.YteldncblmoilkabNum
import Derived.Laws.BitsAllLaws
namespace Go.Proofs.Yteldncblmoilkab
open Go.RowKit

theorem upper_eq (x : Int) : (IntKind.u64.wrap x / 4294967296) % 4294967296 = x / 4294967296 % 4294967296 := by
  have h : IntKind.u64.wrap x = x % 18446744073709551616 := by simp [IntKind.wrap, IntKind.bits, IntKind.signed]
  rw [h]; omega

set_option maxHeartbeats 400000 in
theorem long_any (x : Int) (w : World) : Calls Try.prog 44 #[.int .i64 x] w fun e w' => e = .returned (.int .u32 (longZ x)) ∧ Drawn w w' := by
  go_enter Try.func44, Try.ntmps44
  by_cases hx : x = 0
  · subst hx
    go_wp2_with fail
    go_ret
    exact ⟨rfl, Drawn.refl _⟩
  · have hi : longZ x = finZ (mixH (mixH 0 (mixK (x % 4294967296))) (mixK (x / 4294967296 % 4294967296))) 8 := by
      unfold longZ
      rw [if_neg hx, IntKind.wrap_u32', IntKind.wrap_u32']
    have Hi : Hid (longZ x = finZ (mixH (mixH 0 (mixK (x % 4294967296))) (mixK (x / 4294967296 % 4294967296))) 8) := hi
    clear hi
    go_wp2_with fail
    refine (mixK_any _ _).mono ?_
    rintro e w1 ⟨rfl, h1⟩
    go_wp2_with fail
    refine (mixH_any _ _ _).mono ?_
    rintro e w2 ⟨rfl, h2⟩
    go_wp2_with fail
    refine (mixK_any _ _).mono ?_
    rintro e w3 ⟨rfl, h3⟩
    go_wp2_with fail
    refine (mixH_any _ _ _).mono ?_
    rintro e w4 ⟨rfl, h4⟩
    go_wp2_with fail
    refine (fin_any _ _ _).mono ?_
    rintro e w5 ⟨rfl, h5⟩
    go_wp2_with fail
    go_ret
    refine ⟨?_, ((((h1.trans h2).trans h3).trans h4).trans h5)⟩
    rw [Hi.out]
    rw [show x / 4294967296 % 4294967296 = IntKind.u64.wrap x / 4294967296 % 4294967296 from (upper_eq x).symm]
    rfl

set_option maxHeartbeats 400000 in
theorem rlong_any (x : Int) (w : World) : Calls Try.prog 52 #[.int .i64 x] w fun e w' => e = .returned (.int .u32 (longZ x)) ∧ Drawn w w' := by
  go_enter Try.func52, Try.ntmps52
  by_cases hx : x = 0
  · subst hx
    go_wp2_with fail
    go_ret
    exact ⟨rfl, Drawn.refl _⟩
  · have hi : longZ x = finZ (mixH (mixH 0 (mixK (x % 4294967296))) (mixK (x / 4294967296 % 4294967296))) 8 := by
      unfold longZ
      rw [if_neg hx, IntKind.wrap_u32', IntKind.wrap_u32']
    have Hi : Hid (longZ x = finZ (mixH (mixH 0 (mixK (x % 4294967296))) (mixK (x / 4294967296 % 4294967296))) 8) := hi
    clear hi
    go_wp2_with fail
    refine (rmixK_any _ _).mono ?_
    rintro e w1 ⟨rfl, h1⟩
    go_wp2_with fail
    refine (rmixH_any _ _ _).mono ?_
    rintro e w2 ⟨rfl, h2⟩
    go_wp2_with fail
    refine (rmixK_any _ _).mono ?_
    rintro e w3 ⟨rfl, h3⟩
    go_wp2_with fail
    refine (rmixH_any _ _ _).mono ?_
    rintro e w4 ⟨rfl, h4⟩
    go_wp2_with fail
    refine (rfin_any _ _ _).mono ?_
    rintro e w5 ⟨rfl, h5⟩
    go_wp2_with fail
    go_ret
    refine ⟨?_, ((((h1.trans h2).trans h3).trans h4).trans h5)⟩
    rw [Hi.out]
    rfl

end Go.Proofs.Yteldncblmoilkab
