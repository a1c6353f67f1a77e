/-
  The contract of the document's own: is a part right, but for its items' own?
-/
import Derived.Test.YtfedbbicolbngaaLetters
import Derived.Test.YtfedbbicolbngaaFit
import Derived.Test.YtfedbbicolbngaaRef
import Derived.Deep.RegionHeld3
namespace Go.Proofs.Ytfedbbicolbngaa
open Go.RowKit

theorem isColl_any (k : Int) (w : World) : Calls Try.prog 81 #[.int .i64 k] w fun e w' => e = .returned (.bool (k == 4 || (k == 5 || k == 6))) ∧ w' = w := by
  cases h4 : (k == 4)
  · cases h5 : (k == 5)
    · cases h6 : (k == 6)
      · go_enter Try.func81, Try.ntmps81
        go_wp2_with fail
        go_ret
        exact ⟨rfl, rfl⟩
      · go_enter Try.func81, Try.ntmps81
        go_wp2_with fail
        go_ret
        exact ⟨rfl, rfl⟩
    · go_enter Try.func81, Try.ntmps81
      go_wp2_with fail
      go_ret
      exact ⟨rfl, rfl⟩
  · go_enter Try.func81, Try.ntmps81
    go_wp2_with fail
    go_ret
    exact ⟨rfl, rfl⟩

set_option maxHeartbeats 1000000 in
theorem own_out (t : VT) (a : Option Addr) (l c : Nat) (w : World) (h : t.kind < 0 ∨ 6 < t.kind) :
    Calls Try.prog 63 #[.agg #[.int .i64 t.kind, .int .i64 t.num, .string t.text, .slice a l c]] w fun e w' => e = .returned (.bool false) ∧ Below w.heap.size w w' := by
  by_cases h0 : t.kind < 0
  · clear h
    go_enter Try.func63, Try.ntmps63
    go_wp2_with fail
    go_ret
    exact ⟨rfl, ((Grew.refl _).alloc _).below⟩
  · have h1 : 6 < t.kind := by omega
    clear h
    go_enter Try.func63, Try.ntmps63
    go_wp2_with fail
    go_ret
    exact ⟨rfl, ((Grew.refl _).alloc _).below⟩

set_option maxHeartbeats 1000000 in
theorem own_num (t : VT) (a : Option Addr) (l c : Nat) (w : World) (h0 : 0 ≤ t.kind) (h6 : t.kind ≤ 6) (hn : okNum t = false) :
    Calls Try.prog 63 #[.agg #[.int .i64 t.kind, .int .i64 t.num, .string t.text, .slice a l c]] w fun e w' => e = .returned (.bool false) ∧ Below w.heap.size w w' := by
  have h2 : (t.kind == 2) = false := by
    cases e : (t.kind == 2)
    · rfl
    · simp [okNum, e] at hn
  have h2' : (t.kind != 2) = true := by simp [bne, h2]
  have hz : (t.num == 0) = false := by
    cases e : (t.num == 0)
    · rfl
    · exfalso; simp only [okNum, h2, e] at hn; revert hn; cases (t.kind == 1) <;> simp
  have hz' : (t.num != 0) = true := by simp [bne, hz]
  cases h1 : (t.kind == 1)
  · clear hn
    go_enter Try.func63, Try.ntmps63
    go_wp2_with fail
    go_ret
    exact ⟨rfl, ((Grew.refl _).alloc _).below⟩
  · have hz1 : (t.num == 1) = false := by
      cases e : (t.num == 1)
      · rfl
      · simp [okNum, h2, h1, e] at hn
    clear hn
    go_enter Try.func63, Try.ntmps63
    go_wp2_with fail
    go_ret
    exact ⟨rfl, ((Grew.refl _).alloc _).below⟩

/-- The tests on a number, decided where it is right. -/
theorem num_tests {t : VT} (hn : okNum t = true) : (t.kind != 2) = false ∨ ((t.kind != 2) = true ∧ (t.num != 0) = false) ∨ ((t.kind != 2) = true ∧ (t.num != 0) = true ∧ (t.kind == 1) = true ∧ (t.num == 1) = true) := by
  cases h2 : (t.kind == 2)
  · cases hz : (t.num == 0)
    · cases h1 : (t.kind == 1)
      · simp [okNum, h2, h1, hz] at hn
      · have : (t.num == 1) = true := by simpa [okNum, h2, h1, hz] using hn
        exact .inr (.inr ⟨by simp [bne, h2], by simp [bne, hz], rfl, this⟩)
    · exact .inr (.inl ⟨by simp [bne, h2], by simp [bne, hz]⟩)
  · exact .inl (by simp [bne, h2])

set_option maxHeartbeats 2000000 in
theorem own_text3 (t : VT) (a : Option Addr) (c : Nat) (w : World) (hk : t.kind = 3) (hz : t.num = 0) :
    Calls Try.prog 63 #[.agg #[.int .i64 t.kind, .int .i64 t.num, .string t.text, .slice a t.items.length c]] w fun e w' => e = .returned (.bool (decide (t.text.size ≤ 256) && (utfB t.text && decide (t.items.length = 0)))) ∧ Below w.heap.size w w' := by
  have hal := ((Grew.refl w).alloc (.cells #[.int .i64 3, .int .i64 0, .string t.text, .slice a t.items.length c] 24)).below
  have HR : Hid (decide (0 ≤ lettersZ t.text) = utfB t.text) := letters_right t.text
  rw [hk, hz]
  clear hk hz
  by_cases hs : t.text.size ≤ 256
  · have hs' : (t.text.size : Int) ≤ 256 := by omega
    have hbx := boxed_alloc w 3 0 t.text (.slice a t.items.length c) 24
    obtain ⟨x0, x1, x2, x3⟩ := hbx
    by_cases hl : 0 ≤ lettersZ t.text
    · have hu : Hid (utfB t.text = true) := by show _ = _; rw [← HR.out]; simpa using hl
      go_enter Try.func63, Try.ntmps63
      go_wp2_with fail
      refine (letters_any t.text _ (by omega)).mono ?_
      rintro e w1 ⟨rfl, rfl⟩
      go_wp2_with fail
      go_ret
      refine ⟨?_, hal⟩
      rw [hu.out]
      by_cases h0 : t.items.length = 0
      · simp [hs, h0]
      · simp [hs, h0]
    · have hl2 : lettersZ t.text < 0 := by omega
      have hu : Hid (utfB t.text = false) := by show _ = _; rw [← HR.out]; simpa using hl2
      clear hl
      go_enter Try.func63, Try.ntmps63
      go_wp2_with fail
      refine (letters_any t.text _ (by omega)).mono ?_
      rintro e w1 ⟨rfl, rfl⟩
      go_wp2_with fail
      go_ret
      refine ⟨?_, hal⟩
      rw [hu.out]
      simp
  · have hs' : ¬ (t.text.size : Int) ≤ 256 := by omega
    go_enter Try.func63, Try.ntmps63
    go_wp2_with fail
    go_ret
    refine ⟨?_, hal⟩
    simp

end Go.Proofs.Ytfedbbicolbngaa
