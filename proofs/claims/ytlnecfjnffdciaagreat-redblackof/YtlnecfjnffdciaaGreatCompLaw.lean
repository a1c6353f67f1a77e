import Derived.Test.YtlnecfjnffdciaaGreatROrd
import Derived.Test.YtlnecfjnffdciaaGreatCopies
import Derived.Test.YtlnecfjnffdciaaGreatLevel
import Derived.Deep.RegionHeld3
import Derived.Test.YtlnecfjnffdciaaGreatRunesP
import Derived.Test.YtlnecfjnffdciaaGreatRotate
namespace Go.Proofs.YtlnecfjnffdciaaGreat
open Go.RowKit

def kindO (o : Int) : Bool := decide (0 ≤ o ∧ o ≤ 5)

theorem rkind6_any (o : Int) (w : World) : Calls Tryz.prog 49 #[.int .i64 o] w fun e w' => e = .returned (.bool (kindO o)) ∧ w' = w := by
 unfold kindO
 by_cases h1 : 0 ≤ o
 ·by_cases h2 : o ≤ 5
  ·rw [decide_eq_true (show 0 ≤ o ∧ o ≤ 5 from ⟨h1, h2⟩)]
   go_enter Tryz.func49, Tryz.ntmps49
   go_wp2
   go_ret
   exact ⟨rfl, rfl⟩
  ·rw [decide_eq_false (show ¬ (0 ≤ o ∧ o ≤ 5) from fun h => h2 h.2)]
   go_enter Tryz.func49, Tryz.ntmps49
   go_wp2
   go_ret
   exact ⟨rfl, rfl⟩
 ·rw [decide_eq_false (show ¬ (0 ≤ o ∧ o ≤ 5) from fun h => h1 h.1)]
  go_enter Tryz.func49, Tryz.ntmps49
  go_wp2
  go_ret
  exact ⟨rfl, rfl⟩

end Go.Proofs.YtlnecfjnffdciaaGreat

