/-
  The contracts of Before and Equal.
-/
import Derived.Test.YteldncblmoilkabTrie
namespace Go.Proofs.Yteldncblmoilkab
open Go.RowKit

def befE (d : Nat) (k : Int) (A B : VT) : Int := if ofE d k A = 0 then ofE d k B else ofE d k A
def befB (d : Nat) (k : Int) (A B : VT) : Bool := decide (ofE d k A = 0) && (decide (ofE d k B = 0) && decide (trieZ d k A B < 0))

theorem word_of (d : Nat) (k : Int) (t : VT) : Word (ofZ d k t) := by
  have h0 : Word 0 := by unfold Word; omega
  unfold ofZ
  split
  · have hw := word_full d t
    unfold cutZ
    split
    · exact hw
    · split
      · obtain ⟨_, p2, p3⟩ := pow_small k.toNat (by assumption)
        have := Int.emod_nonneg (fullZ d t) (show (2 : Int) ^ k.toNat ≠ 0 by omega)
        have := Int.emod_lt_of_pos (fullZ d t) p2
        unfold Word; omega
      · split
        · exact h0
        · have h1 : 0 < (2 : Int) ^ (64 - k.toNat) := by rw [← pow_nat]; have : 0 < 2 ^ (64 - k.toNat) := Nat.pow_pos (by omega); omega
          have h2 : 0 ≤ fullZ d t / 2 ^ (64 - k.toNat) := Int.ediv_nonneg hw.1 (by omega)
          have h3 : fullZ d t / 2 ^ (64 - k.toNat) * 2 ^ (64 - k.toNat) ≤ fullZ d t := Int.ediv_mul_le _ (by omega)
          have h4 : 0 ≤ fullZ d t / 2 ^ (64 - k.toNat) * 2 ^ (64 - k.toNat) := Int.mul_nonneg h2 (by omega)
          have := hw.2
          exact ⟨h4, by omega⟩
  · exact h0

theorem tup_eq {a b : Bool} {c d : Int} (h : a = b) (k : c = d) : Ending.returned (.tuple #[.bool a, .int .i64 c]) = .returned (.tuple #[.bool b, .int .i64 d]) := by rw [h, k]

set_option maxHeartbeats 2000000 in
theorem before_any (d : Nat) (k : Int) (A B : VT) (x y : Value) (w : World) (hx : Lies d w A.items x) (hy : Lies d w B.items y) (sA : A.text.size ≤ 9223372036854775807) (sB : B.text.size ≤ 9223372036854775807) :
    Calls Try.prog 22 #[.int .i64 k, .agg #[.int .i64 A.kind, .int .i64 A.num, .string A.text, x], .agg #[.int .i64 B.kind, .int .i64 B.num, .string B.text, y]] w fun e w' => e = .returned (.tuple #[.bool (befB d k A B), .int .i64 (befE d k A B)]) ∧ Below w.heap.size w w' := by
  obtain ⟨ax, cx, rfl, _⟩ := Lies.slice hx
  obtain ⟨ay, cy, rfl, _⟩ := Lies.slice hy
  have HX : Hid (Lies d w A.items (.slice ax A.items.length cx)) := hx
  have HY : Hid (Lies d w B.items (.slice ay B.items.length cy)) := hy
  clear hx hy
  have hal : Below w.heap.size w ((w.alloc (.cells #[.int .i64 A.kind, .int .i64 A.num, .string A.text, .slice ax A.items.length cx] 24)).alloc (.cells #[.int .i64 B.kind, .int .i64 B.num, .string B.text, .slice ay B.items.length cy] 24)) := (Grew.two w _ _).below
  have K1 : Hid (Boxed ((w.alloc (.cells #[.int .i64 A.kind, .int .i64 A.num, .string A.text, .slice ax A.items.length cx] 24)).alloc (.cells #[.int .i64 B.kind, .int .i64 B.num, .string B.text, .slice ay B.items.length cy] 24)) w.heap.size A.kind A.num A.text (.slice ax A.items.length cx)) := (boxed_alloc w _ _ _ _ 24).keeps ((Grew.refl _).alloc _).below
  have K2 : Hid (Boxed ((w.alloc (.cells #[.int .i64 A.kind, .int .i64 A.num, .string A.text, .slice ax A.items.length cx] 24)).alloc (.cells #[.int .i64 B.kind, .int .i64 B.num, .string B.text, .slice ay B.items.length cy] 24)) (w.heap.size + 1) B.kind B.num B.text (.slice ay B.items.length cy)) := by
    have := boxed_alloc (w.alloc (.cells #[.int .i64 A.kind, .int .i64 A.num, .string A.text, .slice ax A.items.length cx] 24)) B.kind B.num B.text (.slice ay B.items.length cy) 24
    show Boxed _ _ _ _ _ _
    simpa using this
  go_enter Try.func22, Try.ntmps22
  go_wp2_with fail
  refine (of_any d k A _ _ (Lies.keeps hal _ _ _ HX.out) sA).mono ?_
  rintro e w1 ⟨rfl, hg⟩
  have hb1 : Below w.heap.size w w1 := hal.trans (hg.mono hal.size)
  have J1 : Hid (Boxed w1 w.heap.size A.kind A.num A.text (.slice ax A.items.length cx)) := K1.out.keeps hg
  have J2 : Hid (Boxed w1 (w.heap.size + 1) B.kind B.num B.text (.slice ay B.items.length cy)) := K2.out.keeps hg
  clear hg K1 K2
  obtain ⟨x0, x1, x2, x3⟩ := J1.out
  obtain ⟨y0, y1, y2, y3⟩ := J2.out
  by_cases hea : ofE d k A = 0
  · have hbe : Hid (befE d k A B = ofE d k B) := by show _ = _; unfold befE; rw [if_pos hea]
    have hbb : Hid (befB d k A B = (decide (ofE d k B = 0) && decide (trieZ d k A B < 0))) := by show _ = _; unfold befB; rw [hea]; rfl
    rw [hea]
    clear hea
    go_wp2_with fail
    clear x0 x1 x2 x3 y0 y1 y2 y3
    refine (of_any d k B _ _ (Lies.keeps hb1 _ _ _ HY.out) sB).mono ?_
    rintro e w2 ⟨rfl, hg⟩
    have hb2 : Below w.heap.size w w2 := hb1.trans (hg.mono hb1.size)
    have I1 : Hid (Boxed w2 w.heap.size A.kind A.num A.text (.slice ax A.items.length cx)) := J1.out.keeps hg
    have I2 : Hid (Boxed w2 (w.heap.size + 1) B.kind B.num B.text (.slice ay B.items.length cy)) := J2.out.keeps hg
    clear hg J1 J2 hb1
    obtain ⟨x0, x1, x2, x3⟩ := I1.out
    obtain ⟨y0, y1, y2, y3⟩ := I2.out
    by_cases heb : ofE d k B = 0
    · have hbe2 : Hid (befE d k A B = 0) := hbe.out.trans heb
      have hbb2 : Hid (befB d k A B = decide (trieZ d k A B < 0)) := by show _ = _; rw [hbb.out, heb]; rfl
      rw [heb]
      clear heb hbe hbb
      go_wp2_with fail
      refine (cmpH_any _ _ _ (word_of d k A) (word_of d k B)).mono ?_
      rintro e w3 ⟨rfl, rfl⟩
      by_cases hz : cmpH (ofZ d k A) (ofZ d k B) = 0
      · have hT : Hid (trieZ d k A B = cmpV d A B) := by show _ = _; unfold trieZ; rw [if_pos hz]
        rw [hz]
        clear hz
        go_wp2_with fail
        clear x0 x1 x2 x3 y0 y1 y2 y3
        refine (compare_any d A B _ _ _ (Lies.keeps hb2 _ _ _ HX.out) (Lies.keeps hb2 _ _ _ HY.out)).mono ?_
        rintro e w4 ⟨rfl, hg⟩
        have hb4 : Below w.heap.size w w4 := hb2.trans (hg.below.mono hb2.size)
        clear hg hb2
        go_wp2_with fail
        go_ret2
        exact ⟨tup_eq (by rw [hbb2.out, hT.out]) hbe2.out.symm, hb4⟩
      · have hT : Hid (trieZ d k A B = cmpH (ofZ d k A) (ofZ d k B)) := by show _ = _; unfold trieZ; rw [if_neg hz]
        generalize cmpH (ofZ d k A) (ofZ d k B) = c at *
        have hz2 : (c != 0) = true := by simp [bne, hz]
        have hz3 : (c == 0) = false := by simp [hz]
        go_wp2_with fail
        go_ret2
        exact ⟨tup_eq (by rw [hbb2.out, hT.out]) hbe2.out.symm, hb2⟩
    · have hbb2 : Hid (befB d k A B = false) := by show _ = _; rw [hbb.out]; simp [heb]
      generalize ofE d k B = c at *
      have hz2 : (c != 0) = true := by simp [bne, heb]
      have hz3 : (c == 0) = false := by simp [heb]
      go_wp2_with fail
      go_ret2
      exact ⟨tup_eq hbb2.out.symm hbe.out.symm, hb2⟩
  · have hbe : Hid (befE d k A B = ofE d k A) := by show _ = _; unfold befE; rw [if_neg hea]
    have hbb : Hid (befB d k A B = false) := by show _ = _; unfold befB; simp [hea]
    generalize ofE d k A = c at *
    have hz2 : (c != 0) = true := by simp [bne, hea]
    have hz3 : (c == 0) = false := by simp [hea]
    go_wp2_with fail
    go_ret2
    exact ⟨tup_eq hbb.out.symm hbe.out.symm, hb1⟩

set_option maxHeartbeats 1000000 in
theorem equal_any (d : Nat) (t s : VT) (x y : Value) (w : World) (hx : Lies d w t.items x) (hy : Lies d w s.items y) :
    Calls Try.prog 24 #[.agg #[.int .i64 t.kind, .int .i64 t.num, .string t.text, x], .agg #[.int .i64 s.kind, .int .i64 s.num, .string s.text, y]] w fun e w' => e = .returned (.bool (cmpV d t s == 0)) ∧ Grew w w' := by
  obtain ⟨ax, cx, rfl, _⟩ := Lies.slice hx
  obtain ⟨ay, cy, rfl, _⟩ := Lies.slice hy
  have hx : Hid _ := hx
  have hy : Hid _ := hy
  go_enter Try.func24, Try.ntmps24
  go_wp2_with fail
  refine (compare_any d t s _ _ _ (Lies.keeps (Grew.two _ _ _).below _ _ _ hx.out) (Lies.keeps (Grew.two _ _ _).below _ _ _ hy.out)).mono ?_
  rintro e w1 ⟨rfl, hb⟩
  go_wp2_with fail
  go_ret
  exact ⟨rfl, (Grew.two _ _ _).trans hb⟩

end Go.Proofs.Yteldncblmoilkab
