/-
  The contract of Int: a number as a value.
-/
import Derived.Test.YtlmnkjnplaebgaaGreatCmp
namespace Go.Proofs.YtlmnkjnplaebgaaGreat
open Go.RowKit

set_option maxHeartbeats 400000 in
theorem int_any (n : Int) (w : World) : Calls Tryz.prog 30 #[.int .i64 n] w fun e w' => e = .returned (.agg #[.int .i64 2, .int .i64 n, .string ⟨#[]⟩, .slice none 0 0]) ∧ Grew w w' := by
  go_enter Tryz.func30, Tryz.ntmps30
  go_wp2_with fail
  exact bodyPost_ret (v := .agg #[.int .i64 2, .int .i64 n, .string ⟨#[]⟩, .slice none 0 0]) (by simp [results, Tryz.results30, go_sem]) rfl ⟨rfl, (Grew.refl _).alloc _⟩

end Go.Proofs.YtlmnkjnplaebgaaGreat
