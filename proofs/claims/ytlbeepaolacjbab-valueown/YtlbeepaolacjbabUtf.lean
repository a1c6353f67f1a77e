/-
  The contracts of HasPrefix and isUTF8.
-/
import Derived.Test.YtlbeepaolacjbabCmp
namespace Go.Proofs.Ytlbeepaolacjbab
open Go.RowKit

def preB (s : ByteArray) : Bool := decide (3 ≤ s.size) && ((s.extract 0 3).toList == [239, 191, 189])

set_option maxHeartbeats 400000 in
theorem hasPrefix_any (s : ByteArray) (w : World) (hs : s.size ≤ 9223372036854775807) : Calls Try.prog 64 #[.string s, .string { data := #[239, 191, 189] }] w fun e w' => e = .returned (.bool (preB s)) ∧ w' = w := by
  by_cases h : 3 ≤ s.size
  · go_enter Try.func64, Try.ntmps64
    go_wp2
    go_ret
    exact ⟨by simp [preB, h], rfl⟩
  · go_enter Try.func64, Try.ntmps64
    go_wp2
    go_ret
    exact ⟨by simp [preB]; omega, rfl⟩

def utfF (s : ByteArray) : Nat → Nat → Bool
  | 0, _ => true
  | b + 1, pos => if pos < s.size then (if (((Utf8.decode s pos).1 : Int) == 65533) = true ∧ preB (s.extract pos s.size) = false then false else utfF s b (pos + (Utf8.decode s pos).2)) else true

/-- Is a text UTF-8, as the program asks? -/
def utfB (s : ByteArray) : Bool := utfF s s.size 0

theorem width_pos (s : ByteArray) (pos : Nat) (h : pos < s.size) : 1 ≤ (Utf8.decode s pos).2 := by
  by_cases ha : (s[pos]'h).toNat < 128
  · rw [decode_ascii s pos h ha]
    exact Nat.le_refl _
  · exact (decode_high s pos h (by omega)).2

theorem utfF_end (s : ByteArray) (b pos : Nat) (h : ¬ pos < s.size) : utfF s b pos = true := by
  cases b with
  | zero => rfl
  | succ b => simp [utfF, h]

set_option maxHeartbeats 1000000 in
theorem isUTF8_any (s : ByteArray) (w : World) (hs : s.size ≤ 9223372036854775807) : Calls Try.prog 57 #[.string s] w fun e w' => e = .returned (.bool (utfB s)) ∧ Grew w w' := by
  go_enter Try.func57, Try.ntmps57
  go_wp2_with fail
  go_loopg [] s.size (fun k w' => ∃ (pos b : Nat), w' = w.iter s pos ∧ k = s.size - pos ∧ Hid (utfF s b pos = utfB s) ∧ s.size ≤ pos + b)
  case atStart => exact ⟨0, s.size, rfl, rfl, rfl, by omega⟩
  case round =>
    obtain ⟨pos, b, rfl, hk, Hc, hb⟩ := hrel
    have Hk : Hid _ := hk
    clear hk
    by_cases hp : pos < s.size
    · have hnx : ∀ ty, (Instr.next (.pointer (some ⟨w.heap.size, 0, none⟩)) true ty).run Try.prog (w.iter s pos) = _ := fun ty => run_next_any w s pos ty hp
      have hwd := width_pos s pos hp
      obtain ⟨b, rfl⟩ : ∃ c, b = c + 1 := ⟨b - 1, by omega⟩
      have He : Hid (utfF s (b + 1) pos = if (((Utf8.decode s pos).1 : Int) == 65533) = true ∧ preB (s.extract pos s.size) = false then false else utfF s b (pos + (Utf8.decode s pos).2)) := by
        show _ = _
        simp only [utfF, hp, if_true]
      cases hr : (((Utf8.decode s pos).1 : Int) == 65533)
      · go_wp2_with fail
        go_roundg (s.size - (pos + (Utf8.decode s pos).2))
        case measure => have := Hk.out; omega
        case rel =>
          refine ⟨pos + (Utf8.decode s pos).2, b, rfl, rfl, ?_, by omega⟩
          show _ = _
          rw [← Hc.out, He.out, if_neg (by simp [hr])]
      · have hsz2 : (s.extract pos s.size).size ≤ 9223372036854775807 := by simp; omega
        cases hq : preB (s.extract pos s.size)
        · go_wp2_with fail
          refine (hasPrefix_any _ _ hsz2).mono ?_
          rintro e w' ⟨rfl, rfl⟩
          go_wp2_with fail
          go_ret
          exact ⟨by rw [← Hc.out, He.out, if_pos ⟨hr, hq⟩]; rfl, (Grew.refl _).alloc _⟩
        · go_wp2_with fail
          refine (hasPrefix_any _ _ hsz2).mono ?_
          rintro e w' ⟨rfl, rfl⟩
          go_wp2_with fail
          go_roundg (s.size - (pos + (Utf8.decode s pos).2))
          case measure => have := Hk.out; omega
          case rel =>
            refine ⟨pos + (Utf8.decode s pos).2, b, rfl, rfl, ?_, by omega⟩
            show _ = _
            rw [← Hc.out, He.out, if_neg (by simp [hq])]
    · have hnx : ∀ ty, (Instr.next (.pointer (some ⟨w.heap.size, 0, none⟩)) true ty).run Try.prog (w.iter s pos) = _ := fun ty => run_next_end w s pos ty hp
      go_wp2_with fail
      go_ret
      exact ⟨by rw [← Hc.out, utfF_end s b pos hp]; rfl, (Grew.refl _).alloc _⟩

end Go.Proofs.Ytlbeepaolacjbab
