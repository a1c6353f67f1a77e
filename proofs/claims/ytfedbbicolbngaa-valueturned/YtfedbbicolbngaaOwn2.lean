/-
  The contract of the document's own: the kinds that are no texts and no sets.
-/
import Derived.Test.YtfedbbicolbngaaOwn1
namespace Go.Proofs.Ytfedbbicolbngaa
open Go.RowKit

set_option maxHeartbeats 2000000 in
theorem own_txt (t : VT) (a : Option Addr) (l c : Nat) (w : World) (h0 : 0 ≤ t.kind) (h6 : t.kind ≤ 6) (hn : okNum t = true) (h3 : (t.kind == 3) = false) (ht : t.text.toList.isEmpty = false) :
    Calls Try.prog 63 #[.agg #[.int .i64 t.kind, .int .i64 t.num, .string t.text, .slice a l c]] w fun e w' => e = .returned (.bool false) ∧ Below w.heap.size w w' := by
  rcases num_tests hn with e | ⟨e1, e2⟩ | ⟨e1, e2, e3, e4⟩
  · clear hn
    go_enter Try.func63, Try.ntmps63
    go_wp2_with fail
    go_ret
    exact ⟨rfl, ((Grew.refl _).alloc _).below⟩
  · clear hn
    go_enter Try.func63, Try.ntmps63
    go_wp2_with fail
    go_ret
    exact ⟨rfl, ((Grew.refl _).alloc _).below⟩
  · clear hn
    go_enter Try.func63, Try.ntmps63
    go_wp2_with fail
    go_ret
    exact ⟨rfl, ((Grew.refl _).alloc _).below⟩

set_option maxHeartbeats 2000000 in
theorem own_k0_0 (tx : ByteArray) (a : Option Addr) (l c : Nat) (w : World) (ht : tx.toList.isEmpty = true) :
    Calls Try.prog 63 #[.agg #[.int .i64 0, .int .i64 0, .string tx, .slice a l c]] w fun e w' => e = .returned (.bool (decide (l = 0))) ∧ Below w.heap.size w w' := by
  have hal := ((Grew.refl w).alloc (.cells #[.int .i64 0, .int .i64 0, .string tx, .slice a l c] 24)).below
  by_cases h0 : l = 0
  · subst h0
    go_enter Try.func63, Try.ntmps63
    go_wp2_with fail
    refine (isColl_any _ _).mono ?_
    rintro e w1 ⟨rfl, rfl⟩
    go_wp2_with fail
    go_loopg [4] 0 (fun k i wr => i = .int .i64 1 ∧ k = 0 ∧ wr = w.alloc (.cells #[.int .i64 0, .int .i64 0, .string tx, .slice a 0 c] 24))
    case atStart => exact ⟨rfl, rfl, rfl⟩
    case round =>
      obtain ⟨rfl, hk, rfl⟩ := hrel
      go_wp2_with fail
      go_ret
      exact ⟨rfl, hal⟩
  · have hpos : 0 < l := by omega
    have h0i : (0 : Int) < (l : Nat) := by omega
    go_enter Try.func63, Try.ntmps63
    go_wp2_with fail
    refine (isColl_any _ _).mono ?_
    rintro e w1 ⟨rfl, rfl⟩
    go_wp2_with fail
    go_ret
    exact ⟨by simp [h0], hal⟩

set_option maxHeartbeats 2000000 in
theorem own_k1_0 (tx : ByteArray) (a : Option Addr) (l c : Nat) (w : World) (ht : tx.toList.isEmpty = true) :
    Calls Try.prog 63 #[.agg #[.int .i64 1, .int .i64 0, .string tx, .slice a l c]] w fun e w' => e = .returned (.bool (decide (l = 0))) ∧ Below w.heap.size w w' := by
  have hal := ((Grew.refl w).alloc (.cells #[.int .i64 1, .int .i64 0, .string tx, .slice a l c] 24)).below
  by_cases h0 : l = 0
  · subst h0
    go_enter Try.func63, Try.ntmps63
    go_wp2_with fail
    refine (isColl_any _ _).mono ?_
    rintro e w1 ⟨rfl, rfl⟩
    go_wp2_with fail
    go_loopg [4] 0 (fun k i wr => i = .int .i64 1 ∧ k = 0 ∧ wr = w.alloc (.cells #[.int .i64 1, .int .i64 0, .string tx, .slice a 0 c] 24))
    case atStart => exact ⟨rfl, rfl, rfl⟩
    case round =>
      obtain ⟨rfl, hk, rfl⟩ := hrel
      go_wp2_with fail
      go_ret
      exact ⟨rfl, hal⟩
  · have hpos : 0 < l := by omega
    have h0i : (0 : Int) < (l : Nat) := by omega
    go_enter Try.func63, Try.ntmps63
    go_wp2_with fail
    refine (isColl_any _ _).mono ?_
    rintro e w1 ⟨rfl, rfl⟩
    go_wp2_with fail
    go_ret
    exact ⟨by simp [h0], hal⟩

set_option maxHeartbeats 2000000 in
theorem own_k1_1 (tx : ByteArray) (a : Option Addr) (l c : Nat) (w : World) (ht : tx.toList.isEmpty = true) :
    Calls Try.prog 63 #[.agg #[.int .i64 1, .int .i64 1, .string tx, .slice a l c]] w fun e w' => e = .returned (.bool (decide (l = 0))) ∧ Below w.heap.size w w' := by
  have hal := ((Grew.refl w).alloc (.cells #[.int .i64 1, .int .i64 1, .string tx, .slice a l c] 24)).below
  by_cases h0 : l = 0
  · subst h0
    go_enter Try.func63, Try.ntmps63
    go_wp2_with fail
    refine (isColl_any _ _).mono ?_
    rintro e w1 ⟨rfl, rfl⟩
    go_wp2_with fail
    go_loopg [4] 0 (fun k i wr => i = .int .i64 1 ∧ k = 0 ∧ wr = w.alloc (.cells #[.int .i64 1, .int .i64 1, .string tx, .slice a 0 c] 24))
    case atStart => exact ⟨rfl, rfl, rfl⟩
    case round =>
      obtain ⟨rfl, hk, rfl⟩ := hrel
      go_wp2_with fail
      go_ret
      exact ⟨rfl, hal⟩
  · have hpos : 0 < l := by omega
    have h0i : (0 : Int) < (l : Nat) := by omega
    go_enter Try.func63, Try.ntmps63
    go_wp2_with fail
    refine (isColl_any _ _).mono ?_
    rintro e w1 ⟨rfl, rfl⟩
    go_wp2_with fail
    go_ret
    exact ⟨by simp [h0], hal⟩

set_option maxHeartbeats 2000000 in
theorem own_k2_n (n : Int) (tx : ByteArray) (a : Option Addr) (l c : Nat) (w : World) (ht : tx.toList.isEmpty = true) :
    Calls Try.prog 63 #[.agg #[.int .i64 2, .int .i64 n, .string tx, .slice a l c]] w fun e w' => e = .returned (.bool (decide (l = 0))) ∧ Below w.heap.size w w' := by
  have hal := ((Grew.refl w).alloc (.cells #[.int .i64 2, .int .i64 n, .string tx, .slice a l c] 24)).below
  by_cases h0 : l = 0
  · subst h0
    go_enter Try.func63, Try.ntmps63
    go_wp2_with fail
    refine (isColl_any _ _).mono ?_
    rintro e w1 ⟨rfl, rfl⟩
    go_wp2_with fail
    go_loopg [4] 0 (fun k i wr => i = .int .i64 1 ∧ k = 0 ∧ wr = w.alloc (.cells #[.int .i64 2, .int .i64 n, .string tx, .slice a 0 c] 24))
    case atStart => exact ⟨rfl, rfl, rfl⟩
    case round =>
      obtain ⟨rfl, hk, rfl⟩ := hrel
      go_wp2_with fail
      go_ret
      exact ⟨rfl, hal⟩
  · have hpos : 0 < l := by omega
    have h0i : (0 : Int) < (l : Nat) := by omega
    go_enter Try.func63, Try.ntmps63
    go_wp2_with fail
    refine (isColl_any _ _).mono ?_
    rintro e w1 ⟨rfl, rfl⟩
    go_wp2_with fail
    go_ret
    exact ⟨by simp [h0], hal⟩

set_option maxHeartbeats 2000000 in
theorem own_k4_0 (tx : ByteArray) (a : Option Addr) (l c : Nat) (w : World) (ht : tx.toList.isEmpty = true) :
    Calls Try.prog 63 #[.agg #[.int .i64 4, .int .i64 0, .string tx, .slice a l c]] w fun e w' => e = .returned (.bool true) ∧ Below w.heap.size w w' := by
  have hal := ((Grew.refl w).alloc (.cells #[.int .i64 4, .int .i64 0, .string tx, .slice a l c] 24)).below
  go_enter Try.func63, Try.ntmps63
  go_wp2_with fail
  refine (isColl_any _ _).mono ?_
  rintro e w1 ⟨rfl, rfl⟩
  go_wp2_with fail
  go_ret
  exact ⟨rfl, hal⟩

end Go.Proofs.Ytfedbbicolbngaa
