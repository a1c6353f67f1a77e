/-
  The contracts of the groups, of Full, Of and Cut.
-/
import Derived.Test.YtlmnkjnplaebgaaGreatCut
namespace Go.Proofs.YtlmnkjnplaebgaaGreat
open Go.RowKit

def grpZ (i : Nat) (h : Int) : Int := h / 2 ^ (5 * i) % 32

theorem and31 (x : Int) (hx : Word x) : bits .and .u32 x 31 = x % 32 := by
  have h2 := hx.2
  rw [u32_and x 31 hx.1 (by omega) (by omega) (by omega)]
  obtain ⟨X, rfl⟩ := Int.eq_ofNat_of_zero_le hx.1
  have h : X &&& 31 = X % 32 := Nat.and_two_pow_sub_one_eq_mod X 5
  show ((X &&& 31 : Nat) : Int) = _
  rw [h]
  rfl

theorem word_div (h : Int) (n : Nat) (hw : Word h) : Word (h / 2 ^ n) := by
  have h1 : 0 < (2 : Int) ^ n := by rw [← pow_nat]; have : 0 < 2 ^ n := Nat.pow_pos (by omega); omega
  refine ⟨Int.ediv_nonneg hw.1 (by omega), ?_⟩
  have := Int.ediv_le_self (2 ^ n) hw.1
  have := hw.2
  omega

theorem ret_i64 {a b : Int} (h : a = b) : Ending.returned (.int .i64 a) = .returned (.int .i64 b) := by rw [h]

theorem mod32_wrap (x : Int) : wrap64 (x % 32) = x % 32 := by unfold wrap64; omega

theorem pair_eq {a b : Int} {c d : Value} (h : a = b) (k : c = d) : Ending.returned (.tuple #[.int .i64 a, c]) = .returned (.tuple #[.int .i64 b, d]) := by rw [h, k]
theorem pair_eq32 {a b : Int} {c d : Value} (h : a = b) (k : c = d) : Ending.returned (.tuple #[.int .u32 a, c]) = .returned (.tuple #[.int .u32 b, d]) := by rw [h, k]

theorem word_bits (op : BinOp) (a b : Int) : Word (bits op .u32 a b) := by
  have h : ∀ n : Int, Word (IntKind.u32.wrap n) := by
    intro n
    have h : IntKind.u32.wrap n = n % 4294967296 := by simp [IntKind.wrap, IntKind.bits, IntKind.signed]
    rw [h]; unfold Word; omega
  exact h _
theorem word_fin (h n : Int) : Word (finZ h n) := by unfold finZ xs16; exact word_bits _ _ _
theorem word_full : ∀ (d : Nat) (t : VT), Word (fullZ d t) := by
  have h0 : Word 0 := by unfold Word; omega
  have h : ∀ f t, Word (fullN f t) := by
    intro f t
    unfold fullN
    split
    · split <;> (unfold Word; omega)
    · split
      · unfold longZ; split
        · exact h0
        · exact word_fin _ _
      · split
        · unfold intZ; split
          · exact h0
          · exact word_fin _ _
        · split
          · exact word_fin _ _
          · split
            · exact word_fin _ _
            · split
              · exact word_fin _ _
              · exact h0
  intro d t
  cases d with
  | zero => exact h _ _
  | succ d => exact h _ _

/-- What Full tells of a tree. -/
def fullA (d : Nat) (t : VT) : Int := if rightV d t then fullZ d t else 0
theorem word_fullA (d : Nat) (t : VT) : Word (fullA d t) := by
  unfold fullA
  split
  · exact word_full d t
  · unfold Word; omega

set_option maxHeartbeats 1000000 in
theorem pfull_any (d : Nat) (t : VT) (u : Value) (w : World) (hu : Lies d w t.items u) (hs : t.text.size ≤ 9223372036854775807) :
    Calls Tryz.prog 64 #[.agg #[.int .i64 t.kind, .int .i64 t.num, .string t.text, u]] w fun e w' => e = .returned (.tuple #[.int .u32 (fullA d t), .int .i64 (errOf (rightV d t))]) ∧ Below w.heap.size w w' := by
  obtain ⟨a, c, rfl, _⟩ := Lies.slice hu
  have HL : Hid (Lies d w t.items (.slice a t.items.length c)) := hu
  clear hu
  go_enter Tryz.func64, Tryz.ntmps64
  go_wp2_with fail
  refine (check_any d t _ _ (Lies.keeps ((Grew.refl w).alloc _).below _ _ _ HL.out) hs).mono ?_
  rintro e w1 ⟨rfl, hb⟩
  have hb1 : Below w.heap.size w w1 := ((Grew.refl w).alloc _).below.trans (hb.mono (by simp))
  obtain ⟨c0, c1, c2, c3⟩ := (boxed_alloc w t.kind t.num t.text (.slice a t.items.length c) 24).keeps hb
  clear hb
  cases hr : rightV d t
  · have he : errOf false = 3 := rfl
    have hz : Hid (fullA d t = 0) := by show _ = _; unfold fullA; rw [hr]; rfl
    have hz2 : Hid (errOf (rightV d t) = 3) := by show _ = _; rw [hr]; rfl
    rw [he]
    go_wp2_with fail
    go_ret2
    rw [hz.out, hz2.out]
    exact ⟨rfl, hb1⟩
  · have he : errOf true = 0 := rfl
    have hz : Hid (fullA d t = fullZ d t) := by show _ = _; unfold fullA; rw [hr]; rfl
    have hz2 : Hid (errOf (rightV d t) = 0) := by show _ = _; rw [hr]; rfl
    have ht : Hid (Tex d t) := tex_right hr
    rw [he]
    clear hr
    go_wp2_with fail
    refine (full_any d t _ _ (Lies.keeps hb1 _ _ _ HL.out) ht.out).mono ?_
    rintro e w2 ⟨rfl, hb⟩
    have hb2 : Below w.heap.size w w2 := hb1.trans (hb.mono hb1.size)
    clear hb hb1 c0 c1 c2 c3
    go_wp2_with fail
    go_ret2
    rw [hz.out, hz2.out]
    exact ⟨rfl, hb2⟩

end Go.Proofs.YtlmnkjnplaebgaaGreat
