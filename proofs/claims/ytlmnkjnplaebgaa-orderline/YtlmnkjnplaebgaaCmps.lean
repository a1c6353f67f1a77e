/-
  The contracts of the comparisons of members, and of the measures.
-/
import Derived.Test.YtlmnkjnplaebgaaOrdP
import Derived.Test.YtlmnkjnplaebgaaGroup
import Derived.Test.YtlmnkjnplaebgaaLevel
namespace Go.Proofs.Ytlmnkjnplaebgaa
open Go.RowKit

set_option maxHeartbeats 400000 in
theorem cmp_u64 (a b : Int) (w : World) : Calls Try.prog 45 #[.int .u64 a, .int .u64 b] w fun e w' => e = .returned (.int .i64 (cmpI a b)) ∧ w' = w := by
  by_cases h1 : a < b
  · go_enter Try.func45, Try.ntmps45
    go_wp2
    go_ret
    exact ⟨by simp [cmpI, h1], rfl⟩
  · by_cases h2 : b < a
    · go_enter Try.func45, Try.ntmps45
      go_wp2
      go_ret
      exact ⟨ret_int (by unfold cmpI; rw [if_neg (by omega), if_pos (by omega)]), rfl⟩
    · go_enter Try.func45, Try.ntmps45
      go_wp2
      go_ret
      exact ⟨ret_int (by unfold cmpI; rw [if_neg (by omega), if_neg (by omega)]), rfl⟩

abbrev memV (t : VT) (x : Value) (m : Int) : Value := .agg #[.int .i64 t.kind, .int .i64 t.num, .string t.text, x, .int .u64 m]

set_option maxHeartbeats 1000000 in
theorem natural_any (t s : VT) (x y : Value) (m n : Int) (w : World) (hx : Lies 16 w t.items x) (hy : Lies 16 w s.items y) :
    Calls Try.prog 26 #[.agg #[.int .i64 t.kind, .int .i64 t.num, .string t.text, x, .int .u64 m], .agg #[.int .i64 s.kind, .int .i64 s.num, .string s.text, y, .int .u64 n]] w fun e w' => e = .returned (.int .i64 (cmpV 16 t s)) ∧ Grew w w' := by
  obtain ⟨ax, cx, rfl, _⟩ := Lies.slice hx
  obtain ⟨ay, cy, rfl, _⟩ := Lies.slice hy
  have HX : Hid (Lies 16 w t.items (.slice ax t.items.length cx)) := hx
  have HY : Hid (Lies 16 w s.items (.slice ay s.items.length cy)) := hy
  clear hx hy
  go_enter Try.func26, Try.ntmps26
  go_wp2_with fail
  refine (compare_any 16 t s _ _ _ (Lies.keeps (Grew.two _ _ _).below _ _ _ HX.out) (Lies.keeps (Grew.two _ _ _).below _ _ _ HY.out)).mono ?_
  rintro e w1 ⟨rfl, hb⟩
  go_wp2_with fail
  go_ret
  exact ⟨rfl, (Grew.two _ _ _).trans hb⟩

set_option maxHeartbeats 1000000 in
theorem turned_any (t s : VT) (x y : Value) (m n : Int) (w : World) (hx : Lies 16 w t.items x) (hy : Lies 16 w s.items y) :
    Calls Try.prog 27 #[.agg #[.int .i64 t.kind, .int .i64 t.num, .string t.text, x, .int .u64 m], .agg #[.int .i64 s.kind, .int .i64 s.num, .string s.text, y, .int .u64 n]] w fun e w' => e = .returned (.int .i64 (cmpV 16 s t)) ∧ Grew w w' := by
  obtain ⟨ax, cx, rfl, _⟩ := Lies.slice hx
  obtain ⟨ay, cy, rfl, _⟩ := Lies.slice hy
  have HX : Hid (Lies 16 w t.items (.slice ax t.items.length cx)) := hx
  have HY : Hid (Lies 16 w s.items (.slice ay s.items.length cy)) := hy
  clear hx hy
  go_enter Try.func27, Try.ntmps27
  go_wp2_with fail
  refine (natural_any s t _ _ _ _ _ (Lies.keeps (Grew.two _ _ _).below _ _ _ HY.out) (Lies.keeps (Grew.two _ _ _).below _ _ _ HX.out)).mono ?_
  rintro e w1 ⟨rfl, hb⟩
  go_wp2_with fail
  go_ret
  exact ⟨rfl, (Grew.two _ _ _).trans hb⟩

set_option maxHeartbeats 1000000 in
theorem byMeasure_any (t s : VT) (x y : Value) (m n : Int) (w : World) (hx : Lies 16 w t.items x) (hy : Lies 16 w s.items y) :
    Calls Try.prog 29 #[.agg #[.int .i64 t.kind, .int .i64 t.num, .string t.text, x, .int .u64 m], .agg #[.int .i64 s.kind, .int .i64 s.num, .string s.text, y, .int .u64 n]] w fun e w' => e = .returned (.int .i64 (if cmpI m n ≠ 0 then cmpI m n else cmpV 16 t s)) ∧ Grew w w' := by
  obtain ⟨ax, cx, rfl, _⟩ := Lies.slice hx
  obtain ⟨ay, cy, rfl, _⟩ := Lies.slice hy
  have HX : Hid (Lies 16 w t.items (.slice ax t.items.length cx)) := hx
  have HY : Hid (Lies 16 w s.items (.slice ay s.items.length cy)) := hy
  clear hx hy
  by_cases hz : cmpI m n ≠ 0
  · rw [if_pos hz]
    have hz' : ¬ cmpI m n = 0 := hz
    go_enter Try.func29, Try.ntmps29
    go_wp2_with (go_at_call 45; refine (cmp_u64 _ _ _).mono ?_; rintro e w' ⟨rfl, rfl⟩)
    go_ret
    exact ⟨rfl, Grew.two _ _ _⟩
  · rw [if_neg hz]
    have hz' : cmpI m n = 0 := by omega
    go_enter Try.func29, Try.ntmps29
    go_wp2_with (go_at_call 45; refine (cmp_u64 _ _ _).mono ?_; rintro e w' ⟨rfl, rfl⟩)
    refine (natural_any t s _ _ _ _ _ (Lies.keeps (Grew.two _ _ _).below _ _ _ HX.out) (Lies.keeps (Grew.two _ _ _).below _ _ _ HY.out)).mono ?_
    rintro e w1 ⟨rfl, hb⟩
    go_wp2_with fail
    go_ret
    exact ⟨rfl, (Grew.two _ _ _).trans hb⟩

set_option maxHeartbeats 1000000 in
theorem byKind_any (t s : VT) (x y : Value) (m n : Int) (w : World) (hx : Lies 16 w t.items x) (hy : Lies 16 w s.items y) :
    Calls Try.prog 32 #[.agg #[.int .i64 t.kind, .int .i64 t.num, .string t.text, x, .int .u64 m], .agg #[.int .i64 s.kind, .int .i64 s.num, .string s.text, y, .int .u64 n]] w fun e w' => e = .returned (.int .i64 (if t.kind ≠ s.kind then cmpV 16 t s else if cmpI m n ≠ 0 then cmpI m n else cmpV 16 t s)) ∧ Grew w w' := by
  obtain ⟨ax, cx, rfl, _⟩ := Lies.slice hx
  obtain ⟨ay, cy, rfl, _⟩ := Lies.slice hy
  have HX : Hid (Lies 16 w t.items (.slice ax t.items.length cx)) := hx
  have HY : Hid (Lies 16 w s.items (.slice ay s.items.length cy)) := hy
  clear hx hy
  by_cases hk : t.kind ≠ s.kind
  · rw [if_pos hk]
    have hk' : (t.kind == s.kind) = false := by simpa using hk
    clear hk
    go_enter Try.func32, Try.ntmps32
    go_wp2_with fail
    refine (natural_any t s _ _ _ _ _ (Lies.keeps (Grew.two _ _ _).below _ _ _ HX.out) (Lies.keeps (Grew.two _ _ _).below _ _ _ HY.out)).mono ?_
    rintro e w1 ⟨rfl, hb⟩
    go_wp2_with fail
    go_ret
    exact ⟨rfl, (Grew.two _ _ _).trans hb⟩
  · rw [if_neg hk]
    have hk' : (t.kind == s.kind) = true := by simpa using hk
    clear hk
    have hbm := fun W h1 h2 => byMeasure_any t s (.slice ax t.items.length cx) (.slice ay s.items.length cy) m n W h1 h2
    generalize (if cmpI m n ≠ 0 then cmpI m n else cmpV 16 t s) = z at hbm ⊢
    have Hbm : Hid _ := hbm
    clear hbm
    go_enter Try.func32, Try.ntmps32
    go_wp2_with fail
    refine (Hbm.out _ (Lies.keeps (Grew.two _ _ _).below _ _ _ HX.out) (Lies.keeps (Grew.two _ _ _).below _ _ _ HY.out)).mono ?_
    rintro e w1 ⟨rfl, hb⟩
    go_wp2_with fail
    go_ret
    exact ⟨rfl, (Grew.two _ _ _).trans hb⟩

end Go.Proofs.Ytlmnkjnplaebgaa
