/-
  The contracts of Of and Cut, and the reading of three values and a kind.
-/
import Derived.Test.YtaghmgeamhojbabSpeaks
namespace Go.Proofs.Ytaghmgeamhojbab
open Go.RowKit

def kindB (k : Int) : Bool := decide (0 ≤ k ∧ k ≤ 63)
def ofE (d : Nat) (k : Int) (t : VT) : Int := if kindB k then errOf (rightV d t) else 4
def ofZ (d : Nat) (k : Int) (t : VT) : Int := if kindB k && rightV d t then cutZ k.toNat (fullZ d t) else 0

set_option maxHeartbeats 1000000 in
theorem of_any (d : Nat) (k : Int) (t : VT) (u : Value) (w : World) (hu : Lies d w t.items u) (hs : t.text.size ≤ 9223372036854775807) :
    Calls Try.prog 14 #[.int .i64 k, .agg #[.int .i64 t.kind, .int .i64 t.num, .string t.text, u]] w fun e w' => e = .returned (.tuple #[.int .u32 (ofZ d k t), .int .i64 (ofE d k t)]) ∧ Below w.heap.size w w' := by
  obtain ⟨a, c, rfl, _⟩ := Lies.slice hu
  have HL : Hid (Lies d w t.items (.slice a t.items.length c)) := hu
  clear hu
  have hk0 := isKind_any k
  have Hk : Hid (∀ w, Calls Try.prog 30 #[.int .i64 k] w fun e w' => e = .returned (.bool (kindB k)) ∧ w' = w) := hk0
  clear hk0
  have hbx := boxed_alloc w t.kind t.num t.text (.slice a t.items.length c) 24
  have hal : Below w.heap.size w (w.alloc (.cells #[.int .i64 t.kind, .int .i64 t.num, .string t.text, .slice a t.items.length c] 24)) := ((Grew.refl w).alloc _).below
  cases hkb : kindB k
  · have hz : Hid (ofZ d k t = 0) := by show _ = _; unfold ofZ; rw [hkb]; rfl
    have hz2 : Hid (ofE d k t = 4) := by show _ = _; unfold ofE; rw [hkb]; rfl
    rw [hkb] at Hk
    go_enter Try.func14, Try.ntmps14
    go_wp2_with fail
    refine Calls.mono (Hk.out _) ?_
    rintro e w1 ⟨rfl, rfl⟩
    go_wp2_with fail
    go_ret2
    rw [hz.out, hz2.out]
    exact ⟨rfl, hal⟩
  · rw [hkb] at Hk
    have HK : Hid (kindB k = true) := hkb
    clear hkb
    obtain ⟨K, hK, hK3⟩ : ∃ K : Nat, k = K ∧ K ≤ 63 := by
      have := HK.out
      unfold kindB at this
      simp only [decide_eq_true_eq] at this
      exact ⟨k.toNat, by omega, by omega⟩
    subst hK
    have HB : Hid (Boxed (w.alloc (.cells #[.int .i64 t.kind, .int .i64 t.num, .string t.text, .slice a t.items.length c] 24)) w.heap.size t.kind t.num t.text (.slice a t.items.length c)) := hbx
    clear hbx
    go_enter Try.func14, Try.ntmps14
    go_wp2_with fail
    refine Calls.mono (Hk.out _) ?_
    rintro e w1 ⟨rfl, rfl⟩
    go_wp2_with fail
    refine (pfull_any d t _ _ (Lies.keeps hal _ _ _ HL.out) hs).mono ?_
    rintro e w2 ⟨rfl, hb⟩
    have hb2 : Below w.heap.size w w2 := hal.trans (hb.mono hal.size)
    clear hb HB Hk
    cases hr : rightV d t
    · have he : errOf false = 3 := rfl
      have hf0 : fullA d t = 0 := by unfold fullA; rw [hr]; rfl
      have hz : Hid (ofZ d K t = 0) := by show _ = _; unfold ofZ; rw [HK.out, hr]; rfl
      have hz2 : Hid (ofE d K t = 3) := by show _ = _; unfold ofE; rw [HK.out, hr]; rfl
      rw [he, hf0]
      clear hf0 hr
      go_wp2_with fail
      go_ret2
      rw [hz.out, hz2.out]
      exact ⟨rfl, hb2⟩
    · have he : errOf true = 0 := rfl
      have hf0 : fullA d t = fullZ d t := by unfold fullA; rw [hr]; rfl
      have hz : Hid (ofZ d K t = cutZ K (fullZ d t)) := by show _ = _; unfold ofZ; rw [HK.out, hr]; rfl
      have hz2 : Hid (ofE d K t = 0) := by show _ = _; unfold ofE; rw [HK.out, hr]; rfl
      rw [he, hf0]
      clear hf0 hr
      go_wp2_with fail
      refine (cut_any K _ _ hK3 (word_full d t)).mono ?_
      rintro e w3 ⟨rfl, rfl⟩
      go_wp2_with fail
      go_ret2
      rw [hz.out, hz2.out]
      exact ⟨rfl, hb2⟩

end Go.Proofs.Ytaghmgeamhojbab

