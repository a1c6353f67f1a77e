/-
  The contracts of the document's Full, Of, Cut, Text, and of the program's Cut and Text.
-/
import Derived.Test.YteldncblmoilkabRWhole
import Derived.Test.YteldncblmoilkabFits
import Derived.Test.YteldncblmoilkabOf
namespace Go.Proofs.Yteldncblmoilkab
open Go.RowKit

set_option maxHeartbeats 1000000 in
theorem rfull_any (d : Nat) (t : VT) (u : Value) (w : World) (hu : Lies d w t.items u) :
    Calls Try.prog 10 #[.agg #[.int .i64 t.kind, .int .i64 t.num, .string t.text, u]] w fun e w' => e = .returned (.tuple #[.int .u32 (fullA d t), .int .i64 (errOf (rightV d t))]) ∧ Below w.heap.size w w' := by
  obtain ⟨a, c, rfl, _⟩ := Lies.slice hu
  have HL : Hid (Lies d w t.items (.slice a t.items.length c)) := hu
  clear hu
  go_enter Try.func10, Try.ntmps10
  go_wp2_with fail
  refine (right_any d t _ _ (Lies.keeps ((Grew.refl w).alloc _).below _ _ _ HL.out)).mono ?_
  rintro e w1 ⟨rfl, hb⟩
  have hb1 : Below w.heap.size w w1 := ((Grew.refl w).alloc _).below.trans (hb.mono (by simp))
  obtain ⟨c0, c1, c2, c3⟩ := (boxed_alloc w t.kind t.num t.text (.slice a t.items.length c) 24).keeps hb
  clear hb
  cases hr : rightV d t
  · have hz : Hid (fullA d t = 0) := by show _ = _; unfold fullA; rw [hr]; rfl
    have hz2 : Hid (errOf (rightV d t) = 3) := by show _ = _; rw [hr]; rfl
    clear hr
    go_wp2_with fail
    go_ret2
    rw [hz.out, hz2.out]
    exact ⟨rfl, hb1⟩
  · have hz : Hid (fullA d t = fullZ d t) := by show _ = _; unfold fullA; rw [hr]; rfl
    have hz2 : Hid (errOf (rightV d t) = 0) := by show _ = _; rw [hr]; rfl
    have ht : Hid (Rex d t) := rex_right hr
    clear hr
    go_wp2_with fail
    refine (whole_any d t _ _ (Lies.keeps hb1 _ _ _ HL.out) ht.out).mono ?_
    rintro e w2 ⟨rfl, hb⟩
    have hb2 : Below w.heap.size w w2 := hb1.trans (hb.mono hb1.size)
    clear hb hb1 c0 c1 c2 c3
    go_wp2_with fail
    go_ret2
    rw [hz.out, hz2.out]
    exact ⟨rfl, hb2⟩

theorem kinded_any (d : Nat) (K : Nat) (t : VT) (u : Value) (w : World) (hu : Lies d w t.items u) (hK : K ≤ 63) (ht : Rex d t) :
    Calls Try.prog 33 #[.int .i64 K, .agg #[.int .i64 t.kind, .int .i64 t.num, .string t.text, u]] w fun e w' => e = .returned (.int .u32 (cutZ K (fullZ d t))) ∧ Below w.heap.size w w' := by
  obtain ⟨a, c, rfl, _⟩ := Lies.slice hu
  have HL : Hid (Lies d w t.items (.slice a t.items.length c)) := hu
  have HT : Hid (Rex d t) := ht
  clear hu ht
  go_enter Try.func33, Try.ntmps33
  go_wp2_with fail
  refine (whole_any d t _ _ (Lies.keeps ((Grew.refl w).alloc _).below _ _ _ HL.out) HT.out).mono ?_
  rintro e w1 ⟨rfl, hb⟩
  have hb1 : Below w.heap.size w w1 := ((Grew.refl w).alloc _).below.trans (hb.mono (by simp))
  clear hb
  go_wp2_with fail
  refine (left_any K _ _ hK (word_full d t)).mono ?_
  rintro e w2 ⟨rfl, rfl⟩
  go_wp2_with fail
  go_ret
  exact ⟨rfl, hb1⟩

set_option maxHeartbeats 1000000 in
theorem rof_any (d : Nat) (k : Int) (t : VT) (u : Value) (w : World) (hu : Lies d w t.items u) :
    Calls Try.prog 15 #[.int .i64 k, .agg #[.int .i64 t.kind, .int .i64 t.num, .string t.text, u]] w fun e w' => e = .returned (.tuple #[.int .u32 (ofZ d k t), .int .i64 (ofE d k t)]) ∧ Below w.heap.size w w' := by
  obtain ⟨a, c, rfl, _⟩ := Lies.slice hu
  have HL : Hid (Lies d w t.items (.slice a t.items.length c)) := hu
  clear hu
  have Hk : Hid (∀ w, Calls Try.prog 32 #[.int .i64 k] w fun e w' => e = .returned (.bool (kindB k)) ∧ w' = w) := rkind_any k
  have hal : Below w.heap.size w (w.alloc (.cells #[.int .i64 t.kind, .int .i64 t.num, .string t.text, .slice a t.items.length c] 24)) := ((Grew.refl w).alloc _).below
  cases hkb : kindB k
  · have hz : Hid (ofZ d k t = 0) := by show _ = _; unfold ofZ; rw [hkb]; rfl
    have hz2 : Hid (ofE d k t = 4) := by show _ = _; unfold ofE; rw [hkb]; rfl
    rw [hkb] at Hk
    go_enter Try.func15, Try.ntmps15
    go_wp2_with fail
    refine Calls.mono (Hk.out _) ?_
    rintro e w1 ⟨rfl, rfl⟩
    go_wp2_with fail
    go_ret2
    rw [hz.out, hz2.out]
    exact ⟨rfl, hal⟩
  · rw [hkb] at Hk
    have HK : Hid (kindB k = true) := hkb
    clear hkb
    obtain ⟨K, hK, hK3⟩ : ∃ K : Nat, k = K ∧ K ≤ 63 := by
      have := HK.out
      unfold kindB at this
      simp only [decide_eq_true_eq] at this
      exact ⟨k.toNat, by omega, by omega⟩
    subst hK
    have HB : Hid (Boxed (w.alloc (.cells #[.int .i64 t.kind, .int .i64 t.num, .string t.text, .slice a t.items.length c] 24)) w.heap.size t.kind t.num t.text (.slice a t.items.length c)) := boxed_alloc w _ _ _ _ 24
    go_enter Try.func15, Try.ntmps15
    go_wp2_with fail
    refine Calls.mono (Hk.out _) ?_
    rintro e w1 ⟨rfl, rfl⟩
    go_wp2_with fail
    refine (right_any d t _ _ (Lies.keeps hal _ _ _ HL.out)).mono ?_
    rintro e w2 ⟨rfl, hb⟩
    have hb2 : Below w.heap.size w w2 := hal.trans (hb.mono hal.size)
    obtain ⟨c0, c1, c2, c3⟩ := HB.out.keeps hb
    clear hb HB Hk
    cases hr : rightV d t
    · have hz : Hid (ofZ d K t = 0) := by show _ = _; unfold ofZ; rw [HK.out, hr]; rfl
      have hz2 : Hid (ofE d K t = 3) := by show _ = _; unfold ofE; rw [HK.out, hr]; rfl
      clear hr
      go_wp2_with fail
      go_ret2
      rw [hz.out, hz2.out]
      exact ⟨rfl, hb2⟩
    · have hz : Hid (ofZ d K t = cutZ K (fullZ d t)) := by show _ = _; unfold ofZ; rw [HK.out, hr]; rfl
      have hz2 : Hid (ofE d K t = 0) := by show _ = _; unfold ofE; rw [HK.out, hr]; rfl
      have ht : Hid (Rex d t) := rex_right hr
      clear hr
      go_wp2_with fail
      refine (kinded_any d K t _ _ (Lies.keeps hb2 _ _ _ HL.out) hK3 ht.out).mono ?_
      rintro e w3 ⟨rfl, hb⟩
      have hb3 : Below w.heap.size w w3 := hb2.trans (hb.mono hb2.size)
      clear hb hb2 c0 c1 c2 c3
      go_wp2_with fail
      go_ret2
      rw [hz.out, hz2.out]
      exact ⟨rfl, hb3⟩

theorem pcut_any (k h : Int) (w : World) (hw : Word h) : Calls Try.prog 16 #[.int .i64 k, .int .u32 h] w fun e w' => e = .returned (.tuple #[.int .u32 (if kindB k then cutZ k.toNat h else 0), .int .i64 (if kindB k then 0 else 4)]) ∧ w' = w := by
  have Hk : Hid (∀ w, Calls Try.prog 30 #[.int .i64 k] w fun e w' => e = .returned (.bool (kindB k)) ∧ w' = w) := isKind_any k
  have HW : Hid (Word h) := hw
  clear hw
  cases hkb : kindB k
  · rw [hkb] at Hk
    clear hkb
    go_enter Try.func16, Try.ntmps16
    go_wp2_with fail
    refine Calls.mono (Hk.out _) ?_
    rintro e w1 ⟨rfl, rfl⟩
    go_wp2_with fail
    go_ret2
    exact ⟨rfl, rfl⟩
  · rw [hkb] at Hk
    obtain ⟨K, hK, hK3⟩ : ∃ K : Nat, k = K ∧ K ≤ 63 := by
      have := hkb
      unfold kindB at this
      simp only [decide_eq_true_eq] at this
      exact ⟨k.toNat, by omega, by omega⟩
    subst hK
    clear hkb
    go_enter Try.func16, Try.ntmps16
    go_wp2_with fail
    refine Calls.mono (Hk.out _) ?_
    rintro e w1 ⟨rfl, rfl⟩
    go_wp2_with fail
    refine (cut_any K _ _ hK3 HW.out).mono ?_
    rintro e w1 ⟨rfl, rfl⟩
    go_wp2_with fail
    go_ret2
    exact ⟨rfl, rfl⟩

theorem rcut_any (k h : Int) (w : World) (hw : Word h) : Calls Try.prog 17 #[.int .i64 k, .int .u32 h] w fun e w' => e = .returned (.tuple #[.int .u32 (if kindB k then cutZ k.toNat h else 0), .int .i64 (if kindB k then 0 else 4)]) ∧ w' = w := by
  have Hk : Hid (∀ w, Calls Try.prog 32 #[.int .i64 k] w fun e w' => e = .returned (.bool (kindB k)) ∧ w' = w) := rkind_any k
  have HW : Hid (Word h) := hw
  clear hw
  cases hkb : kindB k
  · rw [hkb] at Hk
    clear hkb
    go_enter Try.func17, Try.ntmps17
    go_wp2_with fail
    refine Calls.mono (Hk.out _) ?_
    rintro e w1 ⟨rfl, rfl⟩
    go_wp2_with fail
    go_ret2
    exact ⟨rfl, rfl⟩
  · rw [hkb] at Hk
    obtain ⟨K, hK, hK3⟩ : ∃ K : Nat, k = K ∧ K ≤ 63 := by
      have := hkb
      unfold kindB at this
      simp only [decide_eq_true_eq] at this
      exact ⟨k.toNat, by omega, by omega⟩
    subst hK
    clear hkb
    go_enter Try.func17, Try.ntmps17
    go_wp2_with fail
    refine Calls.mono (Hk.out _) ?_
    rintro e w1 ⟨rfl, rfl⟩
    go_wp2_with fail
    refine (left_any K _ _ hK3 HW.out).mono ?_
    rintro e w1 ⟨rfl, rfl⟩
    go_wp2_with fail
    go_ret2
    exact ⟨rfl, rfl⟩

/-- A text as a tree. -/
def txT (s : ByteArray) : VT := ⟨3, 0, s, []⟩

theorem ptext_any (s : ByteArray) (w : World) (hs : s.size ≤ 9223372036854775807) : Calls Try.prog 11 #[.string s] w fun e w' => e = .returned (.tuple #[.int .u32 (fullA 0 (txT s)), .int .i64 (errOf (rightV 0 (txT s)))]) ∧ Below w.heap.size w w' := by
  go_enter Try.func11, Try.ntmps11
  go_wp2_with fail
  refine (pfull_any 0 (txT s) (.slice none 0 0) _ ⟨rfl, none, 0, rfl⟩ hs).mono ?_
  rintro e w1 ⟨rfl, hb⟩
  have hb1 : Below w.heap.size w w1 := by first | exact hb | exact ((Grew.refl w).alloc _).below.trans (hb.mono (by simp))
  clear hb
  go_wp2_with fail
  go_ret2
  exact ⟨rfl, hb1⟩

theorem rtext_any (s : ByteArray) (w : World) : Calls Try.prog 12 #[.string s] w fun e w' => e = .returned (.tuple #[.int .u32 (fullA 0 (txT s)), .int .i64 (errOf (rightV 0 (txT s)))]) ∧ Below w.heap.size w w' := by
  go_enter Try.func12, Try.ntmps12
  go_wp2_with fail
  refine (rfull_any 0 (txT s) (.slice none 0 0) _ ⟨rfl, none, 0, rfl⟩).mono ?_
  rintro e w1 ⟨rfl, hb⟩
  have hb1 : Below w.heap.size w w1 := by first | exact hb | exact ((Grew.refl w).alloc _).below.trans (hb.mono (by simp))
  clear hb
  go_wp2_with fail
  go_ret2
  exact ⟨rfl, hb1⟩

end Go.Proofs.Yteldncblmoilkab
