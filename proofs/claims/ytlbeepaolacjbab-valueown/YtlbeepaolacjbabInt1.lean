/-
  The contract of Int: a number as a value.
-/
import Derived.Test.YtlbeepaolacjbabCmp
namespace Go.Proofs.Ytlbeepaolacjbab
open Go.RowKit

set_option maxRecDepth 100000 in
theorem info24 : ∃ i0, Try.prog.info? 25 = some i0 ∧ i0.zero = some (.agg #[.int .i64 0, .int .i64 0, .string ⟨#[]⟩, .slice none 0 0]) ∧ i0.size = 4 ∧ i0.bytes = 56 := by
  refine ⟨_, rfl, ?_, ?_, ?_⟩
  all_goals kernel_rfl

theorem own_keeps {w w' : World} {base : Nat} {e : TypeId} {size : Nat} {v : Value} {n : Nat} {xs : List Value} (h : w.ownsRow base e size v n xs) (hb : Below w.heap.size w w') : w'.ownsRow base e size v n xs := by
  refine ⟨h.1, ?_⟩
  rcases h.2 with hn | ⟨g, cap, cur, hv, hbs, hg, rest⟩
  · exact .inl hn
  · refine .inr ⟨g, cap, cur, hv, hbs, ?_, rest⟩
    have hlt : g < w.heap.size := by
      by_cases hl : g < w.heap.size
      · exact hl
      · rw [Array.getElem?_eq_none (by omega)] at hg; cases hg
    rw [hb.block g hlt]; exact hg

end Go.Proofs.Ytlbeepaolacjbab

namespace Go.Proofs.Ytlbeepaolacjbab
open Go.RowKit

set_option maxHeartbeats 400000 in
theorem int_any (n : Int) (w : World) : Calls Try.prog 23 #[.int .i64 n] w fun e w' => e = .returned (.agg #[.int .i64 2, .int .i64 n, .string ⟨#[]⟩, .slice none 0 0]) ∧ Grew w w' := by
  go_enter Try.func23, Try.ntmps23
  go_wp2_with fail
  exact bodyPost_ret (v := .agg #[.int .i64 2, .int .i64 n, .string ⟨#[]⟩, .slice none 0 0]) (by simp [results, Try.results23, go_sem]) rfl ⟨rfl, (Grew.refl _).alloc _⟩

end Go.Proofs.Ytlbeepaolacjbab

