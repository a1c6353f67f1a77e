/-
  The tables of the package fns, and the row that a number picks.
-/
import Derived.Test.YtacnfmamjbmhcaaLevel
import Derived.Laws.EntriesVeiled
import Derived.Shelf.Abstract
namespace Go.Proofs.Ytacnfmamjbmhcaa
open Go.RowKit Go.Shelf

/-- A function of the program as a value. -/
abbrev fv (n : Nat) : Value := .func (.func n) #[] #[]

set_option maxHeartbeats 400000 in
theorem functions_any (w : World) : Calls Try.prog 23 #[] w fun e w' => e = .returned (.slice (some ⟨w.heap.size, 0, none⟩) 8 8) ∧
    w' = w.alloc (.cells #[fv 39, fv 40, fv 41, fv 42, fv 43, fv 44, fv 45, fv 46] 54) := by
  go_enter Try.func23, Try.ntmps23
  go_wp2_with fail
  go_ret
  exact ⟨rfl, rfl⟩

set_option maxHeartbeats 400000 in
theorem questions_any (w : World) : Calls Try.prog 28 #[] w fun e w' => e = .returned (.slice (some ⟨w.heap.size, 0, none⟩) 8 8) ∧
    w' = w.alloc (.cells #[fv 49, fv 50, fv 51, fv 52, fv 53, fv 54, fv 55, fv 56] 62) := by
  go_enter Try.func28, Try.ntmps28
  go_wp2_with fail
  go_ret
  exact ⟨rfl, rfl⟩

set_option maxHeartbeats 400000 in
theorem twos_any (w : World) : Calls Try.prog 31 #[] w fun e w' => e = .returned (.slice (some ⟨w.heap.size, 0, none⟩) 8 8) ∧
    w' = w.alloc (.cells #[fv 57, fv 50, fv 58, fv 50, fv 59, fv 50, fv 60, fv 50, fv 61, fv 50, fv 62, fv 50, fv 57, fv 63, fv 64, fv 50] 69) := by
  go_enter Try.func31, Try.ntmps31
  go_wp2_with fail
  go_ret
  exact ⟨rfl, rfl⟩

set_option maxHeartbeats 400000 in
theorem rowF_no (b : Nat) (q : Int) (w : World) (h : q < 0 ∨ 8 ≤ q) : Calls Try.prog 22 #[.slice (some ⟨b, 0, none⟩) 8 8, .int .i64 q] w fun e w' => e = .returned (.tuple #[.agg #[.nilFunc], .int .i64 4]) ∧ Below w.heap.size w w' := by
  rcases h with h | h
  · go_enter Try.func22, Try.ntmps22
    go_wp2_with fail
    exact bodyPost_ret (v := .tuple #[.agg #[.nilFunc], .int .i64 4]) (by simp [results, Try.results22, go_sem]) rfl ⟨rfl, (Grew.two _ _ _).below⟩
  · have h' : ¬ q < 0 := by omega
    go_enter Try.func22, Try.ntmps22
    go_wp2_with fail
    exact bodyPost_ret (v := .tuple #[.agg #[.nilFunc], .int .i64 4]) (by simp [results, Try.results22, go_sem]) rfl ⟨rfl, (Grew.two _ _ _).below⟩

set_option maxHeartbeats 400000 in
theorem rowF_yes (b q : Nat) (f0 : Nat) (w : World) (h : q < 8) (hc0 : w.cell? ⟨b, q, none⟩ = some (fv f0)) : Calls Try.prog 22 #[.slice (some ⟨b, 0, none⟩) 8 8, .int .i64 q] w fun e w' => e = .returned (.tuple #[.agg #[fv f0], .int .i64 0]) ∧ Below w.heap.size w w' := by
  have hb : b < w.heap.size := cell_lt hc0
  have h1 : ¬ (q : Int) < 0 := by omega
  have h2 : (q : Int) < 8 := by omega
  go_enter Try.func22, Try.ntmps22
  go_wp2_with fail
  exact bodyPost_ret (v := .tuple #[.agg #[fv f0], .int .i64 0]) (by simp [results, Try.results22, go_sem]) rfl ⟨rfl, ((Grew.refl _).alloc _).below⟩

set_option maxHeartbeats 400000 in
theorem rowQ_no (b : Nat) (q : Int) (w : World) (h : q < 0 ∨ 8 ≤ q) : Calls Try.prog 27 #[.slice (some ⟨b, 0, none⟩) 8 8, .int .i64 q] w fun e w' => e = .returned (.tuple #[.agg #[.nilFunc], .int .i64 4]) ∧ Below w.heap.size w w' := by
  rcases h with h | h
  · go_enter Try.func27, Try.ntmps27
    go_wp2_with fail
    exact bodyPost_ret (v := .tuple #[.agg #[.nilFunc], .int .i64 4]) (by simp [results, Try.results27, go_sem]) rfl ⟨rfl, (Grew.two _ _ _).below⟩
  · have h' : ¬ q < 0 := by omega
    go_enter Try.func27, Try.ntmps27
    go_wp2_with fail
    exact bodyPost_ret (v := .tuple #[.agg #[.nilFunc], .int .i64 4]) (by simp [results, Try.results27, go_sem]) rfl ⟨rfl, (Grew.two _ _ _).below⟩

set_option maxHeartbeats 400000 in
theorem rowQ_yes (b q : Nat) (f0 : Nat) (w : World) (h : q < 8) (hc0 : w.cell? ⟨b, q, none⟩ = some (fv f0)) : Calls Try.prog 27 #[.slice (some ⟨b, 0, none⟩) 8 8, .int .i64 q] w fun e w' => e = .returned (.tuple #[.agg #[fv f0], .int .i64 0]) ∧ Below w.heap.size w w' := by
  have hb : b < w.heap.size := cell_lt hc0
  have h1 : ¬ (q : Int) < 0 := by omega
  have h2 : (q : Int) < 8 := by omega
  go_enter Try.func27, Try.ntmps27
  go_wp2_with fail
  exact bodyPost_ret (v := .tuple #[.agg #[fv f0], .int .i64 0]) (by simp [results, Try.results27, go_sem]) rfl ⟨rfl, ((Grew.refl _).alloc _).below⟩

set_option maxHeartbeats 400000 in
theorem rowT_no (b : Nat) (q : Int) (w : World) (h : q < 0 ∨ 8 ≤ q) : Calls Try.prog 30 #[.slice (some ⟨b, 0, none⟩) 8 8, .int .i64 q] w fun e w' => e = .returned (.tuple #[.agg #[.nilFunc, .nilFunc], .int .i64 4]) ∧ Below w.heap.size w w' := by
  rcases h with h | h
  · go_enter Try.func30, Try.ntmps30
    go_wp2_with fail
    exact bodyPost_ret (v := .tuple #[.agg #[.nilFunc, .nilFunc], .int .i64 4]) (by simp [results, Try.results30, go_sem]) rfl ⟨rfl, (Grew.two _ _ _).below⟩
  · have h' : ¬ q < 0 := by omega
    go_enter Try.func30, Try.ntmps30
    go_wp2_with fail
    exact bodyPost_ret (v := .tuple #[.agg #[.nilFunc, .nilFunc], .int .i64 4]) (by simp [results, Try.results30, go_sem]) rfl ⟨rfl, (Grew.two _ _ _).below⟩

set_option maxHeartbeats 400000 in
theorem rowT_yes (b q : Nat) (f0 : Nat) (f1 : Nat) (w : World) (h : q < 8) (hc0 : w.cell? ⟨b, q * 2, none⟩ = some (fv f0)) (hc1 : w.cell? ⟨b, q * 2 + 1, none⟩ = some (fv f1)) : Calls Try.prog 30 #[.slice (some ⟨b, 0, none⟩) 8 8, .int .i64 q] w fun e w' => e = .returned (.tuple #[.agg #[fv f0, fv f1], .int .i64 0]) ∧ Below w.heap.size w w' := by
  have hb : b < w.heap.size := cell_lt hc0
  have h1 : ¬ (q : Int) < 0 := by omega
  have h2 : (q : Int) < 8 := by omega
  go_enter Try.func30, Try.ntmps30
  go_wp2_with fail
  exact bodyPost_ret (v := .tuple #[.agg #[fv f0, fv f1], .int .i64 0]) (by simp [results, Try.results30, go_sem]) rfl ⟨rfl, ((Grew.refl _).alloc _).below⟩

/-- The number of the function in row q. -/
def oneF : Nat → Nat
  | 0 => 39
  | 1 => 40
  | 2 => 41
  | 3 => 42
  | 4 => 43
  | 5 => 44
  | 6 => 45
  | _ => 46

/-- The number of the function in row q. -/
def isF : Nat → Nat
  | 0 => 49
  | 1 => 50
  | 2 => 51
  | 3 => 52
  | 4 => 53
  | 5 => 54
  | 6 => 55
  | _ => 56

/-- The number of the function in row q. -/
def twoF : Nat → Nat
  | 0 => 57
  | 1 => 58
  | 2 => 59
  | 3 => 60
  | 4 => 61
  | 5 => 62
  | 6 => 57
  | _ => 64

/-- The number of the function in row q. -/
def stopF : Nat → Nat
  | 0 => 50
  | 1 => 50
  | 2 => 50
  | 3 => 50
  | 4 => 50
  | 5 => 50
  | 6 => 63
  | _ => 50

theorem oneF_cell (w : World) (q : Nat) (h : q < 8) : (w.alloc (.cells #[fv 39, fv 40, fv 41, fv 42, fv 43, fv 44, fv 45, fv 46] 54)).cell? ⟨w.heap.size, q, none⟩ = some (fv (oneF q)) := by
  match q, h with
  | 0, _ => simp [oneF]
  | 1, _ => simp [oneF]
  | 2, _ => simp [oneF]
  | 3, _ => simp [oneF]
  | 4, _ => simp [oneF]
  | 5, _ => simp [oneF]
  | 6, _ => simp [oneF]
  | 7, _ => simp [oneF]

theorem isF_cell (w : World) (q : Nat) (h : q < 8) : (w.alloc (.cells #[fv 49, fv 50, fv 51, fv 52, fv 53, fv 54, fv 55, fv 56] 62)).cell? ⟨w.heap.size, q, none⟩ = some (fv (isF q)) := by
  match q, h with
  | 0, _ => simp [isF]
  | 1, _ => simp [isF]
  | 2, _ => simp [isF]
  | 3, _ => simp [isF]
  | 4, _ => simp [isF]
  | 5, _ => simp [isF]
  | 6, _ => simp [isF]
  | 7, _ => simp [isF]

theorem twoF_cell (w : World) (q : Nat) (h : q < 8) : (w.alloc (.cells #[fv 57, fv 50, fv 58, fv 50, fv 59, fv 50, fv 60, fv 50, fv 61, fv 50, fv 62, fv 50, fv 57, fv 63, fv 64, fv 50] 69)).cell? ⟨w.heap.size, q * 2, none⟩ = some (fv (twoF q)) := by
  match q, h with
  | 0, _ => simp [twoF]
  | 1, _ => simp [twoF]
  | 2, _ => simp [twoF]
  | 3, _ => simp [twoF]
  | 4, _ => simp [twoF]
  | 5, _ => simp [twoF]
  | 6, _ => simp [twoF]
  | 7, _ => simp [twoF]

theorem stopF_cell (w : World) (q : Nat) (h : q < 8) : (w.alloc (.cells #[fv 57, fv 50, fv 58, fv 50, fv 59, fv 50, fv 60, fv 50, fv 61, fv 50, fv 62, fv 50, fv 57, fv 63, fv 64, fv 50] 69)).cell? ⟨w.heap.size, q * 2 + 1, none⟩ = some (fv (stopF q)) := by
  match q, h with
  | 0, _ => simp [stopF]
  | 1, _ => simp [stopF]
  | 2, _ => simp [stopF]
  | 3, _ => simp [stopF]
  | 4, _ => simp [stopF]
  | 5, _ => simp [stopF]
  | 6, _ => simp [stopF]
  | 7, _ => simp [stopF]

theorem oneF_enters (q : Nat) (h : q < 8) : ∀ args w, (callFunc (oneF q) args).run Try.prog w = .ok (.enter (oneF q) args) w := by
  match q, h with
  | 0, _ => exact enters_of Try.func39 (by kernel_rfl) rfl
  | 1, _ => exact enters_of Try.func40 (by kernel_rfl) rfl
  | 2, _ => exact enters_of Try.func41 (by kernel_rfl) rfl
  | 3, _ => exact enters_of Try.func42 (by kernel_rfl) rfl
  | 4, _ => exact enters_of Try.func43 (by kernel_rfl) rfl
  | 5, _ => exact enters_of Try.func44 (by kernel_rfl) rfl
  | 6, _ => exact enters_of Try.func45 (by kernel_rfl) rfl
  | 7, _ => exact enters_of Try.func46 (by kernel_rfl) rfl

theorem isF_enters (q : Nat) (h : q < 8) : ∀ args w, (callFunc (isF q) args).run Try.prog w = .ok (.enter (isF q) args) w := by
  match q, h with
  | 0, _ => exact enters_of Try.func49 (by kernel_rfl) rfl
  | 1, _ => exact enters_of Try.func50 (by kernel_rfl) rfl
  | 2, _ => exact enters_of Try.func51 (by kernel_rfl) rfl
  | 3, _ => exact enters_of Try.func52 (by kernel_rfl) rfl
  | 4, _ => exact enters_of Try.func53 (by kernel_rfl) rfl
  | 5, _ => exact enters_of Try.func54 (by kernel_rfl) rfl
  | 6, _ => exact enters_of Try.func55 (by kernel_rfl) rfl
  | 7, _ => exact enters_of Try.func56 (by kernel_rfl) rfl

theorem twoF_enters (q : Nat) (h : q < 8) : ∀ args w, (callFunc (twoF q) args).run Try.prog w = .ok (.enter (twoF q) args) w := by
  match q, h with
  | 0, _ => exact enters_of Try.func57 (by kernel_rfl) rfl
  | 1, _ => exact enters_of Try.func58 (by kernel_rfl) rfl
  | 2, _ => exact enters_of Try.func59 (by kernel_rfl) rfl
  | 3, _ => exact enters_of Try.func60 (by kernel_rfl) rfl
  | 4, _ => exact enters_of Try.func61 (by kernel_rfl) rfl
  | 5, _ => exact enters_of Try.func62 (by kernel_rfl) rfl
  | 6, _ => exact enters_of Try.func57 (by kernel_rfl) rfl
  | 7, _ => exact enters_of Try.func64 (by kernel_rfl) rfl

theorem stopF_enters (q : Nat) (h : q < 8) : ∀ args w, (callFunc (stopF q) args).run Try.prog w = .ok (.enter (stopF q) args) w := by
  match q, h with
  | 0, _ => exact enters_of Try.func50 (by kernel_rfl) rfl
  | 1, _ => exact enters_of Try.func50 (by kernel_rfl) rfl
  | 2, _ => exact enters_of Try.func50 (by kernel_rfl) rfl
  | 3, _ => exact enters_of Try.func50 (by kernel_rfl) rfl
  | 4, _ => exact enters_of Try.func50 (by kernel_rfl) rfl
  | 5, _ => exact enters_of Try.func50 (by kernel_rfl) rfl
  | 6, _ => exact enters_of Try.func63 (by kernel_rfl) rfl
  | 7, _ => exact enters_of Try.func50 (by kernel_rfl) rfl

end Go.Proofs.Ytacnfmamjbmhcaa

