/-
  The tables of the package fns, and the row that a number picks.
-/
import Derived.Test.YtbhfbjbigafnpaaGreatLevel
import Derived.Laws.EntriesVeiled
import Derived.Shelf.Abstract
namespace Go.Proofs.YtbhfbjbigafnpaaGreat
open Go.RowKit Go.Shelf

/-- A function of the program as a value. -/
abbrev fv (n : Nat) : Value := .func (.func n) #[] #[]

set_option maxHeartbeats 400000 in
theorem functions_any (w : World) : Calls Tryz.prog 107 #[] w fun e w' => e = .returned (.slice (some ⟨w.heap.size, 0, none⟩) 8 8) ∧
    w' = w.alloc (.cells #[fv 141, fv 142, fv 143, fv 144, fv 145, fv 146, fv 147, fv 148] 170) := by
  go_enter Tryz.func107, Tryz.ntmps107
  go_wp2_with fail
  go_ret
  exact ⟨rfl, rfl⟩

set_option maxHeartbeats 400000 in
theorem rowF_no (b : Nat) (q : Int) (w : World) (h : q < 0 ∨ 8 ≤ q) : Calls Tryz.prog 106 #[.slice (some ⟨b, 0, none⟩) 8 8, .int .i64 q] w fun e w' => e = .returned (.tuple #[.agg #[.nilFunc], .int .i64 4]) ∧ Below w.heap.size w w' := by
  rcases h with h | h
  · go_enter Tryz.func106, Tryz.ntmps106
    go_wp2_with fail
    exact bodyPost_ret (v := .tuple #[.agg #[.nilFunc], .int .i64 4]) (by simp [results, Tryz.results106, go_sem]) rfl ⟨rfl, (Grew.two _ _ _).below⟩
  · have h' : ¬ q < 0 := by omega
    go_enter Tryz.func106, Tryz.ntmps106
    go_wp2_with fail
    exact bodyPost_ret (v := .tuple #[.agg #[.nilFunc], .int .i64 4]) (by simp [results, Tryz.results106, go_sem]) rfl ⟨rfl, (Grew.two _ _ _).below⟩

set_option maxHeartbeats 400000 in
theorem rowF_yes (b q : Nat) (f0 : Nat) (w : World) (h : q < 8) (hc0 : w.cell? ⟨b, q, none⟩ = some (fv f0)) : Calls Tryz.prog 106 #[.slice (some ⟨b, 0, none⟩) 8 8, .int .i64 q] w fun e w' => e = .returned (.tuple #[.agg #[fv f0], .int .i64 0]) ∧ Below w.heap.size w w' := by
  have hb : b < w.heap.size := cell_lt hc0
  have h1 : ¬ (q : Int) < 0 := by omega
  have h2 : (q : Int) < 8 := by omega
  go_enter Tryz.func106, Tryz.ntmps106
  go_wp2_with fail
  exact bodyPost_ret (v := .tuple #[.agg #[fv f0], .int .i64 0]) (by simp [results, Tryz.results106, go_sem]) rfl ⟨rfl, ((Grew.refl _).alloc _).below⟩

/-- The number of the function in row q. -/
def oneF : Nat → Nat
  | 0 => 141
  | 1 => 142
  | 2 => 143
  | 3 => 144
  | 4 => 145
  | 5 => 146
  | 6 => 147
  | _ => 148

theorem oneF_cell (w : World) (q : Nat) (h : q < 8) : (w.alloc (.cells #[fv 141, fv 142, fv 143, fv 144, fv 145, fv 146, fv 147, fv 148] 170)).cell? ⟨w.heap.size, q, none⟩ = some (fv (oneF q)) := by
  match q, h with
  | 0, _ => simp [oneF]
  | 1, _ => simp [oneF]
  | 2, _ => simp [oneF]
  | 3, _ => simp [oneF]
  | 4, _ => simp [oneF]
  | 5, _ => simp [oneF]
  | 6, _ => simp [oneF]
  | 7, _ => simp [oneF]

theorem oneF_enters (q : Nat) (h : q < 8) : ∀ args w, (callFunc (oneF q) args).run Tryz.prog w = .ok (.enter (oneF q) args) w := by
  match q, h with
  | 0, _ => exact enters_of Tryz.func141 (by kernel_rfl) rfl
  | 1, _ => exact enters_of Tryz.func142 (by kernel_rfl) rfl
  | 2, _ => exact enters_of Tryz.func143 (by kernel_rfl) rfl
  | 3, _ => exact enters_of Tryz.func144 (by kernel_rfl) rfl
  | 4, _ => exact enters_of Tryz.func145 (by kernel_rfl) rfl
  | 5, _ => exact enters_of Tryz.func146 (by kernel_rfl) rfl
  | 6, _ => exact enters_of Tryz.func147 (by kernel_rfl) rfl
  | 7, _ => exact enters_of Tryz.func148 (by kernel_rfl) rfl

end Go.Proofs.YtbhfbjbigafnpaaGreat

