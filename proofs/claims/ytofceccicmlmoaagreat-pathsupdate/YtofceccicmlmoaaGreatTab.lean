/-
  The tables of the package fns, and the row that a number picks.
-/
import Derived.Test.YtofceccicmlmoaaGreatLevel
import Derived.Laws.EntriesVeiled
import Derived.Shelf.Abstract
namespace Go.Proofs.YtofceccicmlmoaaGreat
open Go.RowKit Go.Shelf

/-- A function of the program as a value. -/
abbrev fv (n : Nat) : Value := .func (.func n) #[] #[]

set_option maxHeartbeats 400000 in
theorem functions_any (w : World) : Calls Tryz.prog 55 #[] w fun e w' => e = .returned (.slice (some ⟨w.heap.size, 0, none⟩) 8 8) ∧
    w' = w.alloc (.cells #[fv 75, fv 76, fv 77, fv 78, fv 79, fv 80, fv 81, fv 82] 75) := by
  go_enter Tryz.func55, Tryz.ntmps55
  go_wp2_with fail
  go_ret
  exact ⟨rfl, rfl⟩

set_option maxHeartbeats 400000 in
theorem rowF_no (b : Nat) (q : Int) (w : World) (h : q < 0 ∨ 8 ≤ q) : Calls Tryz.prog 54 #[.slice (some ⟨b, 0, none⟩) 8 8, .int .i64 q] w fun e w' => e = .returned (.tuple #[.agg #[.nilFunc], .int .i64 4]) ∧ Below w.heap.size w w' := by
  rcases h with h | h
  · go_enter Tryz.func54, Tryz.ntmps54
    go_wp2_with fail
    exact bodyPost_ret (v := .tuple #[.agg #[.nilFunc], .int .i64 4]) (by simp [results, Tryz.results54, go_sem]) rfl ⟨rfl, (Grew.two _ _ _).below⟩
  · have h' : ¬ q < 0 := by omega
    go_enter Tryz.func54, Tryz.ntmps54
    go_wp2_with fail
    exact bodyPost_ret (v := .tuple #[.agg #[.nilFunc], .int .i64 4]) (by simp [results, Tryz.results54, go_sem]) rfl ⟨rfl, (Grew.two _ _ _).below⟩

set_option maxHeartbeats 400000 in
theorem rowF_yes (b q : Nat) (f0 : Nat) (w : World) (h : q < 8) (hc0 : w.cell? ⟨b, q, none⟩ = some (fv f0)) : Calls Tryz.prog 54 #[.slice (some ⟨b, 0, none⟩) 8 8, .int .i64 q] w fun e w' => e = .returned (.tuple #[.agg #[fv f0], .int .i64 0]) ∧ Below w.heap.size w w' := by
  have hb : b < w.heap.size := cell_lt hc0
  have h1 : ¬ (q : Int) < 0 := by omega
  have h2 : (q : Int) < 8 := by omega
  go_enter Tryz.func54, Tryz.ntmps54
  go_wp2_with fail
  exact bodyPost_ret (v := .tuple #[.agg #[fv f0], .int .i64 0]) (by simp [results, Tryz.results54, go_sem]) rfl ⟨rfl, ((Grew.refl _).alloc _).below⟩

/-- The number of the function in row q. -/
def oneF : Nat → Nat
  | 0 => 75
  | 1 => 76
  | 2 => 77
  | 3 => 78
  | 4 => 79
  | 5 => 80
  | 6 => 81
  | _ => 82

theorem oneF_cell (w : World) (q : Nat) (h : q < 8) : (w.alloc (.cells #[fv 75, fv 76, fv 77, fv 78, fv 79, fv 80, fv 81, fv 82] 75)).cell? ⟨w.heap.size, q, none⟩ = some (fv (oneF q)) := by
  match q, h with
  | 0, _ => simp [oneF]
  | 1, _ => simp [oneF]
  | 2, _ => simp [oneF]
  | 3, _ => simp [oneF]
  | 4, _ => simp [oneF]
  | 5, _ => simp [oneF]
  | 6, _ => simp [oneF]
  | 7, _ => simp [oneF]

theorem oneF_enters (q : Nat) (h : q < 8) : ∀ args w, (callFunc (oneF q) args).run Tryz.prog w = .ok (.enter (oneF q) args) w := by
  match q, h with
  | 0, _ => exact enters_of Tryz.func75 (by kernel_rfl) rfl
  | 1, _ => exact enters_of Tryz.func76 (by kernel_rfl) rfl
  | 2, _ => exact enters_of Tryz.func77 (by kernel_rfl) rfl
  | 3, _ => exact enters_of Tryz.func78 (by kernel_rfl) rfl
  | 4, _ => exact enters_of Tryz.func79 (by kernel_rfl) rfl
  | 5, _ => exact enters_of Tryz.func80 (by kernel_rfl) rfl
  | 6, _ => exact enters_of Tryz.func81 (by kernel_rfl) rfl
  | 7, _ => exact enters_of Tryz.func82 (by kernel_rfl) rfl

end Go.Proofs.YtofceccicmlmoaaGreat

