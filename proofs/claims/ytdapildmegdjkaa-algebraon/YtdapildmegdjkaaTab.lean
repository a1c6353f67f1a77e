/-
  The tables of the package fns, and the row that a number picks.
-/
import Derived.Test.YtdapildmegdjkaaLevel
import Derived.Laws.EntriesVeiled
import Derived.Shelf.Abstract
namespace Go.Proofs.Ytdapildmegdjkaa
open Go.RowKit Go.Shelf

/-- A function of the program as a value. -/
abbrev fv (n : Nat) : Value := .func (.func n) #[] #[]

set_option maxHeartbeats 400000 in
theorem twos_any (w : World) : Calls Try.prog 33 #[] w fun e w' => e = .returned (.slice (some ⟨w.heap.size, 0, none⟩) 8 8) ∧
    w' = w.alloc (.cells #[fv 47, fv 48, fv 49, fv 48, fv 50, fv 48, fv 51, fv 48, fv 52, fv 48, fv 53, fv 48, fv 47, fv 54, fv 55, fv 48] 65) := by
  go_enter Try.func33, Try.ntmps33
  go_wp2_with fail
  go_ret
  exact ⟨rfl, rfl⟩

set_option maxHeartbeats 400000 in
theorem rowT_no (b : Nat) (q : Int) (w : World) (h : q < 0 ∨ 8 ≤ q) : Calls Try.prog 32 #[.slice (some ⟨b, 0, none⟩) 8 8, .int .i64 q] w fun e w' => e = .returned (.tuple #[.agg #[.nilFunc, .nilFunc], .int .i64 4]) ∧ Below w.heap.size w w' := by
  rcases h with h | h
  · go_enter Try.func32, Try.ntmps32
    go_wp2_with fail
    exact bodyPost_ret (v := .tuple #[.agg #[.nilFunc, .nilFunc], .int .i64 4]) (by simp [results, Try.results32, go_sem]) rfl ⟨rfl, (Grew.two _ _ _).below⟩
  · have h' : ¬ q < 0 := by omega
    go_enter Try.func32, Try.ntmps32
    go_wp2_with fail
    exact bodyPost_ret (v := .tuple #[.agg #[.nilFunc, .nilFunc], .int .i64 4]) (by simp [results, Try.results32, go_sem]) rfl ⟨rfl, (Grew.two _ _ _).below⟩

set_option maxHeartbeats 400000 in
theorem rowT_yes (b q : Nat) (f0 : Nat) (f1 : Nat) (w : World) (h : q < 8) (hc0 : w.cell? ⟨b, q * 2, none⟩ = some (fv f0)) (hc1 : w.cell? ⟨b, q * 2 + 1, none⟩ = some (fv f1)) : Calls Try.prog 32 #[.slice (some ⟨b, 0, none⟩) 8 8, .int .i64 q] w fun e w' => e = .returned (.tuple #[.agg #[fv f0, fv f1], .int .i64 0]) ∧ Below w.heap.size w w' := by
  have hb : b < w.heap.size := cell_lt hc0
  have h1 : ¬ (q : Int) < 0 := by omega
  have h2 : (q : Int) < 8 := by omega
  go_enter Try.func32, Try.ntmps32
  go_wp2_with fail
  exact bodyPost_ret (v := .tuple #[.agg #[fv f0, fv f1], .int .i64 0]) (by simp [results, Try.results32, go_sem]) rfl ⟨rfl, ((Grew.refl _).alloc _).below⟩

/-- The number of the function in row q. -/
def twoF : Nat → Nat
  | 0 => 47
  | 1 => 49
  | 2 => 50
  | 3 => 51
  | 4 => 52
  | 5 => 53
  | 6 => 47
  | _ => 55

/-- The number of the function in row q. -/
def stopF : Nat → Nat
  | 0 => 48
  | 1 => 48
  | 2 => 48
  | 3 => 48
  | 4 => 48
  | 5 => 48
  | 6 => 54
  | _ => 48

theorem twoF_cell (w : World) (q : Nat) (h : q < 8) : (w.alloc (.cells #[fv 47, fv 48, fv 49, fv 48, fv 50, fv 48, fv 51, fv 48, fv 52, fv 48, fv 53, fv 48, fv 47, fv 54, fv 55, fv 48] 65)).cell? ⟨w.heap.size, q * 2, none⟩ = some (fv (twoF q)) := by
  match q, h with
  | 0, _ => simp [twoF]
  | 1, _ => simp [twoF]
  | 2, _ => simp [twoF]
  | 3, _ => simp [twoF]
  | 4, _ => simp [twoF]
  | 5, _ => simp [twoF]
  | 6, _ => simp [twoF]
  | 7, _ => simp [twoF]

theorem stopF_cell (w : World) (q : Nat) (h : q < 8) : (w.alloc (.cells #[fv 47, fv 48, fv 49, fv 48, fv 50, fv 48, fv 51, fv 48, fv 52, fv 48, fv 53, fv 48, fv 47, fv 54, fv 55, fv 48] 65)).cell? ⟨w.heap.size, q * 2 + 1, none⟩ = some (fv (stopF q)) := by
  match q, h with
  | 0, _ => simp [stopF]
  | 1, _ => simp [stopF]
  | 2, _ => simp [stopF]
  | 3, _ => simp [stopF]
  | 4, _ => simp [stopF]
  | 5, _ => simp [stopF]
  | 6, _ => simp [stopF]
  | 7, _ => simp [stopF]

theorem twoF_enters (q : Nat) (h : q < 8) : ∀ args w, (callFunc (twoF q) args).run Try.prog w = .ok (.enter (twoF q) args) w := by
  match q, h with
  | 0, _ => exact enters_of Try.func47 (by kernel_rfl) rfl
  | 1, _ => exact enters_of Try.func49 (by kernel_rfl) rfl
  | 2, _ => exact enters_of Try.func50 (by kernel_rfl) rfl
  | 3, _ => exact enters_of Try.func51 (by kernel_rfl) rfl
  | 4, _ => exact enters_of Try.func52 (by kernel_rfl) rfl
  | 5, _ => exact enters_of Try.func53 (by kernel_rfl) rfl
  | 6, _ => exact enters_of Try.func47 (by kernel_rfl) rfl
  | 7, _ => exact enters_of Try.func55 (by kernel_rfl) rfl

theorem stopF_enters (q : Nat) (h : q < 8) : ∀ args w, (callFunc (stopF q) args).run Try.prog w = .ok (.enter (stopF q) args) w := by
  match q, h with
  | 0, _ => exact enters_of Try.func48 (by kernel_rfl) rfl
  | 1, _ => exact enters_of Try.func48 (by kernel_rfl) rfl
  | 2, _ => exact enters_of Try.func48 (by kernel_rfl) rfl
  | 3, _ => exact enters_of Try.func48 (by kernel_rfl) rfl
  | 4, _ => exact enters_of Try.func48 (by kernel_rfl) rfl
  | 5, _ => exact enters_of Try.func48 (by kernel_rfl) rfl
  | 6, _ => exact enters_of Try.func54 (by kernel_rfl) rfl
  | 7, _ => exact enters_of Try.func48 (by kernel_rfl) rfl

end Go.Proofs.Ytdapildmegdjkaa

