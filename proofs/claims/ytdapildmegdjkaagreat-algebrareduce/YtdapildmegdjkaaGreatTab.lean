/-
  The tables of the package fns, and the row that a number picks.
-/
import Derived.Test.YtdapildmegdjkaaGreatVals
import Derived.Laws.EntriesVeiled
import Derived.Shelf.Abstract
namespace Go.Proofs.YtdapildmegdjkaaGreat
open Go.RowKit Go.Shelf

/-- A function of the program as a value. -/
abbrev fv (n : Nat) : Value := .func (.func n) #[] #[]

set_option maxHeartbeats 400000 in
theorem twos_any (w : World) : Calls Tryz.prog 109 #[] w fun e w' => e = .returned (.slice (some ⟨w.heap.size, 0, none⟩) 8 8) ∧
    w' = w.alloc (.cells #[fv 151, fv 142, fv 152, fv 142, fv 153, fv 142, fv 154, fv 142, fv 155, fv 142, fv 156, fv 142, fv 151, fv 157, fv 158, fv 142] 134) := by
  go_enter Tryz.func109, Tryz.ntmps109
  go_wp2_with fail
  go_ret
  exact ⟨rfl, rfl⟩

set_option maxHeartbeats 400000 in
theorem rowT_no (b : Nat) (q : Int) (w : World) (h : q < 0 ∨ 8 ≤ q) : Calls Tryz.prog 108 #[.slice (some ⟨b, 0, none⟩) 8 8, .int .i64 q] w fun e w' => e = .returned (.tuple #[.agg #[.nilFunc, .nilFunc], .int .i64 4]) ∧ Below w.heap.size w w' := by
  rcases h with h | h
  · go_enter Tryz.func108, Tryz.ntmps108
    go_wp2_with fail
    exact bodyPost_ret (v := .tuple #[.agg #[.nilFunc, .nilFunc], .int .i64 4]) (by simp [results, Tryz.results108, go_sem]) rfl ⟨rfl, (Grew.two _ _ _).below⟩
  · have h' : ¬ q < 0 := by omega
    go_enter Tryz.func108, Tryz.ntmps108
    go_wp2_with fail
    exact bodyPost_ret (v := .tuple #[.agg #[.nilFunc, .nilFunc], .int .i64 4]) (by simp [results, Tryz.results108, go_sem]) rfl ⟨rfl, (Grew.two _ _ _).below⟩

set_option maxHeartbeats 400000 in
theorem rowT_yes (b q : Nat) (f0 : Nat) (f1 : Nat) (w : World) (h : q < 8) (hc0 : w.cell? ⟨b, q * 2, none⟩ = some (fv f0)) (hc1 : w.cell? ⟨b, q * 2 + 1, none⟩ = some (fv f1)) : Calls Tryz.prog 108 #[.slice (some ⟨b, 0, none⟩) 8 8, .int .i64 q] w fun e w' => e = .returned (.tuple #[.agg #[fv f0, fv f1], .int .i64 0]) ∧ Below w.heap.size w w' := by
  have hb : b < w.heap.size := cell_lt hc0
  have h1 : ¬ (q : Int) < 0 := by omega
  have h2 : (q : Int) < 8 := by omega
  go_enter Tryz.func108, Tryz.ntmps108
  go_wp2_with fail
  exact bodyPost_ret (v := .tuple #[.agg #[fv f0, fv f1], .int .i64 0]) (by simp [results, Tryz.results108, go_sem]) rfl ⟨rfl, ((Grew.refl _).alloc _).below⟩

/-- The number of the function in row q. -/
def twoF : Nat → Nat
  | 0 => 151
  | 1 => 152
  | 2 => 153
  | 3 => 154
  | 4 => 155
  | 5 => 156
  | 6 => 151
  | _ => 158

/-- The number of the function in row q. -/
def stopF : Nat → Nat
  | 0 => 142
  | 1 => 142
  | 2 => 142
  | 3 => 142
  | 4 => 142
  | 5 => 142
  | 6 => 157
  | _ => 142

theorem twoF_cell (w : World) (q : Nat) (h : q < 8) : (w.alloc (.cells #[fv 151, fv 142, fv 152, fv 142, fv 153, fv 142, fv 154, fv 142, fv 155, fv 142, fv 156, fv 142, fv 151, fv 157, fv 158, fv 142] 134)).cell? ⟨w.heap.size, q * 2, none⟩ = some (fv (twoF q)) := by
  match q, h with
  | 0, _ => simp [twoF]
  | 1, _ => simp [twoF]
  | 2, _ => simp [twoF]
  | 3, _ => simp [twoF]
  | 4, _ => simp [twoF]
  | 5, _ => simp [twoF]
  | 6, _ => simp [twoF]
  | 7, _ => simp [twoF]

theorem stopF_cell (w : World) (q : Nat) (h : q < 8) : (w.alloc (.cells #[fv 151, fv 142, fv 152, fv 142, fv 153, fv 142, fv 154, fv 142, fv 155, fv 142, fv 156, fv 142, fv 151, fv 157, fv 158, fv 142] 134)).cell? ⟨w.heap.size, q * 2 + 1, none⟩ = some (fv (stopF q)) := by
  match q, h with
  | 0, _ => simp [stopF]
  | 1, _ => simp [stopF]
  | 2, _ => simp [stopF]
  | 3, _ => simp [stopF]
  | 4, _ => simp [stopF]
  | 5, _ => simp [stopF]
  | 6, _ => simp [stopF]
  | 7, _ => simp [stopF]

theorem twoF_enters (q : Nat) (h : q < 8) : ∀ args w, (callFunc (twoF q) args).run Tryz.prog w = .ok (.enter (twoF q) args) w := by
  match q, h with
  | 0, _ => exact enters_of Tryz.func151 (by kernel_rfl) rfl
  | 1, _ => exact enters_of Tryz.func152 (by kernel_rfl) rfl
  | 2, _ => exact enters_of Tryz.func153 (by kernel_rfl) rfl
  | 3, _ => exact enters_of Tryz.func154 (by kernel_rfl) rfl
  | 4, _ => exact enters_of Tryz.func155 (by kernel_rfl) rfl
  | 5, _ => exact enters_of Tryz.func156 (by kernel_rfl) rfl
  | 6, _ => exact enters_of Tryz.func151 (by kernel_rfl) rfl
  | 7, _ => exact enters_of Tryz.func158 (by kernel_rfl) rfl

theorem stopF_enters (q : Nat) (h : q < 8) : ∀ args w, (callFunc (stopF q) args).run Tryz.prog w = .ok (.enter (stopF q) args) w := by
  match q, h with
  | 0, _ => exact enters_of Tryz.func142 (by kernel_rfl) rfl
  | 1, _ => exact enters_of Tryz.func142 (by kernel_rfl) rfl
  | 2, _ => exact enters_of Tryz.func142 (by kernel_rfl) rfl
  | 3, _ => exact enters_of Tryz.func142 (by kernel_rfl) rfl
  | 4, _ => exact enters_of Tryz.func142 (by kernel_rfl) rfl
  | 5, _ => exact enters_of Tryz.func142 (by kernel_rfl) rfl
  | 6, _ => exact enters_of Tryz.func157 (by kernel_rfl) rfl
  | 7, _ => exact enters_of Tryz.func142 (by kernel_rfl) rfl

end Go.Proofs.YtdapildmegdjkaaGreat

