/-
  The contracts of the measures.
-/
import Derived.Test.YtlmnkjnplaebgaaCmps
namespace Go.Proofs.Ytlmnkjnplaebgaa
open Go.RowKit

/-- What a measure tells. -/
def MeasPost (z : Int) (w : World) (e : Ending) (w' : World) : Prop := e = .returned (.int .u64 z) ∧ Below w.heap.size w w'

theorem nothing_any (t : VT) (a : Option Addr) (l c : Nat) (w : World) : Calls Try.prog 25 #[.agg #[.int .i64 t.kind, .int .i64 t.num, .string t.text, .slice a l c]] w (MeasPost 0 w) := by
  go_enter Try.func25, Try.ntmps25
  go_wp2_with fail
  go_ret
  exact ⟨rfl, ((Grew.refl _).alloc _).below⟩

theorem fullHash_any (t : VT) (u : Value) (w : World) (hu : Lies 16 w t.items u) (hr : rightV 16 t = true) (hs : t.text.size ≤ 9223372036854775807) : Calls Try.prog 28 #[.agg #[.int .i64 t.kind, .int .i64 t.num, .string t.text, u]] w (MeasPost (IntKind.u64.wrap (fullZ 16 t)) w) := by
  obtain ⟨a, c, rfl, _⟩ := Lies.slice hu
  have HL : Hid (Lies 16 w t.items (.slice a t.items.length c)) := hu
  clear hu
  have hz : fullA 16 t = fullZ 16 t := by unfold fullA; rw [hr]; rfl
  rw [← hz]
  clear hz hr
  go_enter Try.func28, Try.ntmps28
  go_wp2_with fail
  refine (pfull_any 16 t _ _ (Lies.keeps ((Grew.refl w).alloc _).below _ _ _ HL.out) hs).mono ?_
  rintro e w1 ⟨rfl, hb⟩
  have hb1 : Below w.heap.size w w1 := ((Grew.refl w).alloc _).below.trans (hb.mono (by simp))
  clear hb
  generalize errOf (rightV 16 t) = E
  go_wp2_with fail
  go_ret
  exact ⟨rfl, hb1⟩

theorem parts1_any (t : VT) (u : Value) (w : World) (hu : Lies 16 w t.items u) (hr : rightV 16 t = true) (hs : t.text.size ≤ 9223372036854775807) : Calls Try.prog 30 #[.agg #[.int .i64 t.kind, .int .i64 t.num, .string t.text, u]] w (MeasPost (IntKind.u64.wrap (cpV 16 t)) w) := by
  obtain ⟨a, c, rfl, _⟩ := Lies.slice hu
  have HL : Hid (Lies 16 w t.items (.slice a t.items.length c)) := hu
  clear hu
  have hp := fun W h1 => parts_any 16 t (.slice a t.items.length c) W h1 hs
  rw [hr, if_pos rfl] at hp
  have Hp : Hid _ := hp
  clear hp hr
  generalize cpV 16 t = z at *
  go_enter Try.func30, Try.ntmps30
  go_wp2_with fail
  refine (Hp.out _ (Lies.keeps ((Grew.refl w).alloc _).below _ _ _ HL.out)).mono ?_
  rintro e w1 ⟨rfl, hb⟩
  have hb1 : Below w.heap.size w w1 := ((Grew.refl w).alloc _).below.trans (hb.mono (by simp))
  clear hb
  generalize errOf true = E
  go_wp2_with fail
  go_ret
  exact ⟨rfl, hb1⟩

set_option maxHeartbeats 1000000 in
theorem runes_any (t : VT) (a : Option Addr) (l c : Nat) (w : World) (hs : t.text.size ≤ 4294967296) : Calls Try.prog 31 #[.agg #[.int .i64 t.kind, .int .i64 t.num, .string t.text, .slice a l c]] w (MeasPost (runesZ t.text) w) := by
  generalize hs' : t.text = s at *
  have Hb1 : Hid (∀ pos, Below w.heap.size w ((w.alloc (.cells #[.int .i64 t.kind, .int .i64 t.num, .string s, .slice a l c] 24)).iter s pos)) := fun pos => (((Grew.refl w).alloc _).alloc _).below
  go_enter Try.func31, Try.ntmps31
  go_wp2_with fail
  go_loopg [3] s.size (fun k n w' => ∃ (pos b c' : Nat), w' = (w.alloc (.cells #[.int .i64 t.kind, .int .i64 t.num, .string s, .slice a l c] 24)).iter s pos ∧ n = .int .u64 (c' : Int) ∧ k = s.size - pos ∧ Hid (rnF s b pos c' = runesZ s) ∧ s.size ≤ pos + b ∧ c' ≤ pos)
  case atStart => exact ⟨0, s.size, 0, rfl, rfl, rfl, rfl, by omega, by omega⟩
  case round =>
    obtain ⟨pos, b, c', rfl, rfl, hk, Hc, hb, hcp⟩ := hrel
    have Hk : Hid _ := hk
    clear hk
    by_cases hp : pos < s.size
    · have hnx : ∀ ty, (Instr.next (.pointer (some ⟨(w.alloc (.cells #[.int .i64 t.kind, .int .i64 t.num, .string s, .slice a l c] 24)).heap.size, 0, none⟩)) true ty).run Try.prog ((w.alloc (.cells #[.int .i64 t.kind, .int .i64 t.num, .string s, .slice a l c] 24)).iter s pos) = _ := fun ty => run_next_any (w.alloc (.cells #[.int .i64 t.kind, .int .i64 t.num, .string s, .slice a l c] 24)) s pos ty hp
      simp only [World.size_alloc] at hnx
      have hwd := width_pos s pos hp
      obtain ⟨b, rfl⟩ : ∃ c, b = c + 1 := ⟨b - 1, by omega⟩
      have He : Hid (rnF s (b + 1) pos c' = rnF s b (pos + (Utf8.decode s pos).2) (c' + 1)) := by
        show _ = _
        simp only [rnF, hp, if_true]
      go_wp2_with fail
      go_roundg (s.size - (pos + (Utf8.decode s pos).2))
      case measure => have := Hk.out; omega
      case rel =>
        refine ⟨pos + (Utf8.decode s pos).2, b, c' + 1, rfl, by go_num, rfl, ?_, by omega, by omega⟩
        show _ = _
        rw [← Hc.out, He.out]; rfl
    · have hnx : ∀ ty, (Instr.next (.pointer (some ⟨(w.alloc (.cells #[.int .i64 t.kind, .int .i64 t.num, .string s, .slice a l c] 24)).heap.size, 0, none⟩)) true ty).run Try.prog ((w.alloc (.cells #[.int .i64 t.kind, .int .i64 t.num, .string s, .slice a l c] 24)).iter s pos) = _ := fun ty => run_next_end (w.alloc (.cells #[.int .i64 t.kind, .int .i64 t.num, .string s, .slice a l c] 24)) s pos ty hp
      simp only [World.size_alloc] at hnx
      go_wp2_with fail
      go_ret
      exact ⟨ret_int (by rw [← Hc.out, rnF_end s b pos c' hp]), Hb1.out pos⟩

theorem distance_any (t : VT) (a : Option Addr) (l c : Nat) (w : World) : Calls Try.prog 33 #[.agg #[.int .i64 t.kind, .int .i64 t.num, .string t.text, .slice a l c]] w (MeasPost (if t.kind = 2 then farZ t.num else 0) w) := by
  by_cases hk : t.kind = 2
  · rw [if_pos hk]
    have hk' : (t.kind == 2) = true := by simpa using hk
    clear hk
    unfold farZ
    by_cases hn : t.num < 0
    · rw [if_pos hn]
      go_enter Try.func33, Try.ntmps33
      go_wp2_with fail
      go_ret
      exact ⟨rfl, ((Grew.refl _).alloc _).below⟩
    · rw [if_neg hn]
      go_enter Try.func33, Try.ntmps33
      go_wp2_with fail
      go_ret
      exact ⟨rfl, ((Grew.refl _).alloc _).below⟩
  · rw [if_neg hk]
    have hk' : (t.kind == 2) = false := by simpa using hk
    clear hk
    go_enter Try.func33, Try.ntmps33
    go_wp2_with fail
    go_ret
    exact ⟨rfl, ((Grew.refl _).alloc _).below⟩

end Go.Proofs.Ytlmnkjnplaebgaa
