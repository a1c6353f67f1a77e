/-
  MixK and Fin are one to one: plain mathematics of words.
-/
import Derived.Test.YteldncblmoilkaaSpeaks
namespace Go.Proofs.Yteldncblmoilkaa
open Go.RowKit

theorem u32_nat (a : Nat) (ha : a < 4294967296) : (BitVec.ofInt 32 (a : Int)).toNat = a := by
  rw [BitVec.ofInt_natCast, BitVec.toNat_ofNat]; exact Nat.mod_eq_of_lt (by omega)

/-- A word as 32 bits. -/
def bv (x : Int) : BitVec 32 := BitVec.ofInt 32 x

theorem bv_inj {a b : Int} (ha : 0 ≤ a ∧ a ≤ 4294967295) (hb : 0 ≤ b ∧ b ≤ 4294967295) (h : bv a = bv b) : a = b := by
  have h2 := congrArg BitVec.toNat h
  unfold bv at h2
  obtain ⟨A, rfl⟩ := Int.eq_ofNat_of_zero_le ha.1
  obtain ⟨B, rfl⟩ := Int.eq_ofNat_of_zero_le hb.1
  rw [u32_nat A (by omega), u32_nat B (by omega)] at h2
  rw [h2]

theorem bv_mod (x : Int) : bv (x % 4294967296) = bv x := by
  unfold bv
  apply BitVec.eq_of_toInt_eq
  rw [BitVec.toInt_ofInt, BitVec.toInt_ofInt]
  show Int.bmod (x % ((2 : Nat) ^ 32 : Nat)) _ = _
  exact Int.emod_bmod ..

theorem bv_mul (x y : Int) : bv (x * y) = bv x * bv y := BitVec.ofInt_mul ..

theorem bv_toNat (b : BitVec 32) : bv (IntKind.u32.wrap (b.toNat : Int)) = b := by
  have h : IntKind.u32.wrap (b.toNat : Int) = (b.toNat : Int) % 4294967296 := by simp [IntKind.wrap, IntKind.bits, IntKind.signed]
  rw [h, bv_mod]
  unfold bv
  apply BitVec.eq_of_toNat_eq
  rw [u32_nat _ b.isLt]

theorem bv_xor (a b : Int) : bv (bits .xor .u32 a b) = bv a ^^^ bv b := bv_toNat _
theorem bv_or (a b : Int) : bv (bits .or .u32 a b) = bv a ||| bv b := bv_toNat _

theorem bv_div (a : Int) (k : Nat) (ha : 0 ≤ a ∧ a ≤ 4294967295) : bv (a / ((2 ^ k : Nat) : Int)) = bv a >>> k := by
  obtain ⟨A, rfl⟩ := Int.eq_ofNat_of_zero_le ha.1
  unfold bv
  apply BitVec.eq_of_toNat_eq
  rw [BitVec.toNat_ushiftRight, u32_nat A (by omega), show ((A : Int) / ((2 ^ k : Nat) : Int)) = ((A / 2 ^ k : Nat) : Int) from rfl, u32_nat _ (Nat.lt_of_le_of_lt (Nat.div_le_self _ _) (by omega)), Nat.shiftRight_eq_div_pow]

theorem bv_shl (a : Int) (k : Nat) : bv (a * ((2 ^ k : Nat) : Int)) = bv a <<< k := by
  rw [bv_mul, BitVec.shiftLeft_eq_mul_twoPow]
  congr 1
  unfold bv
  rw [BitVec.ofInt_natCast]
  apply BitVec.eq_of_toNat_eq
  simp [BitVec.toNat_twoPow]

theorem bits_range (op : BinOp) (a b : Int) : 0 ≤ bits op .u32 a b ∧ bits op .u32 a b ≤ 4294967295 := by
  have h : ∀ n : Int, 0 ≤ IntKind.u32.wrap n ∧ IntKind.u32.wrap n ≤ 4294967295 := by
    intro n
    have h : IntKind.u32.wrap n = n % 4294967296 := by simp [IntKind.wrap, IntKind.bits, IntKind.signed]
    rw [h]; omega
  exact h _

theorem mod_range (x : Int) : 0 ≤ x % 4294967296 ∧ x % 4294967296 ≤ 4294967295 := by omega

def rot (x : BitVec 32) : BitVec 32 := x <<< 15 ||| x >>> 17
def tor (x : BitVec 32) : BitVec 32 := x >>> 15 ||| x <<< 17
theorem tor_rot (x : BitVec 32) : tor (rot x) = x := by
  apply BitVec.eq_of_getLsbD_eq
  intro i hi
  simp only [tor, rot, BitVec.getLsbD_or, BitVec.getLsbD_ushiftRight, BitVec.getLsbD_shiftLeft]
  by_cases h : i < 17
  · have e1 : 15 + i < 32 := by omega
    have e2 : ¬ 15 + i < 15 := by omega
    have e3 : 15 + i - 15 = i := by omega
    have e4 : x.getLsbD (17 + (15 + i)) = false := BitVec.getLsbD_of_ge _ _ (by omega)
    simp [h, e1, e2, e3, e4]
  · have e1 : ¬ 15 + i < 32 := by omega
    have e2 : i - 17 < 15 := by omega
    have e3 : 17 + (i - 17) = i := by omega
    have e4 : x.getLsbD (17 + (15 + i)) = false := BitVec.getLsbD_of_ge _ _ (by omega)
    simp [h, hi, e1, e2, e3, e4]

def s16 (x : BitVec 32) : BitVec 32 := x ^^^ x >>> 16
def s13 (x : BitVec 32) : BitVec 32 := x ^^^ x >>> 13
theorem s16_s16 (x : BitVec 32) : s16 (s16 x) = x := by
  apply BitVec.eq_of_getLsbD_eq
  intro i hi
  simp only [s16, BitVec.getLsbD_xor, BitVec.getLsbD_ushiftRight]
  have e : x.getLsbD (16 + (16 + i)) = false := BitVec.getLsbD_of_ge _ _ (by omega)
  rw [e]
  cases x.getLsbD i <;> cases x.getLsbD (16 + i) <;> rfl
theorem s13_back (x : BitVec 32) : s13 x ^^^ s13 x >>> 13 ^^^ s13 x >>> 26 = x := by
  apply BitVec.eq_of_getLsbD_eq
  intro i hi
  simp only [s13, BitVec.getLsbD_xor, BitVec.getLsbD_ushiftRight]
  have e : x.getLsbD (13 + (26 + i)) = false := BitVec.getLsbD_of_ge _ _ (by omega)
  have e1 : 13 + (13 + i) = 26 + i := by omega
  rw [e, e1]
  cases x.getLsbD i <;> cases x.getLsbD (13 + i) <;> cases x.getLsbD (26 + i) <;> rfl
theorem s13_inj {x y : BitVec 32} (h : s13 x = s13 y) : x = y := by rw [← s13_back x, ← s13_back y, h]
theorem s16_inj {x y : BitVec 32} (h : s16 x = s16 y) : x = y := by rw [← s16_s16 x, ← s16_s16 y, h]
theorem rot_inj {x y : BitVec 32} (h : rot x = rot y) : x = y := by rw [← tor_rot x, ← tor_rot y, h]

theorem mul_inj {c d x y : BitVec 32} (hc : c * d = 1#32) (h : x * c = y * c) : x = y := by
  have h1 : x * c * d = y * c * d := by rw [h]
  rw [BitVec.mul_assoc, BitVec.mul_assoc, hc, BitVec.mul_one, BitVec.mul_one] at h1
  exact h1

theorem bv_t15 (x : Int) (hx : 0 ≤ x ∧ x ≤ 4294967295) : bv (t15 x) = rot (bv x) := by
  unfold t15 rot
  rw [bv_or, bv_mod, show (32768 : Int) = ((2 ^ 15 : Nat) : Int) from by decide, show (131072 : Int) = ((2 ^ 17 : Nat) : Int) from by decide, bv_shl, bv_div x 17 hx]
theorem bv_xs16 (x : Int) (hx : 0 ≤ x ∧ x ≤ 4294967295) : bv (xs16 x) = s16 (bv x) := by
  unfold xs16 s16
  rw [bv_xor, show (65536 : Int) = ((2 ^ 16 : Nat) : Int) from by decide, bv_div x 16 hx]
theorem bv_xs13 (x : Int) (hx : 0 ≤ x ∧ x ≤ 4294967295) : bv (xs13 x) = s13 (bv x) := by
  unfold xs13 s13
  rw [bv_xor, show (8192 : Int) = ((2 ^ 13 : Nat) : Int) from by decide, bv_div x 13 hx]

theorem bv_mixK (k : Int) : bv (mixK k) = rot (bv k * 3432918353) * 461845907 := by
  unfold mixK
  rw [bv_mod, bv_mul, bv_t15 _ (mod_range _), bv_mod, bv_mul]
  rfl

theorem bv_fin (h n : Int) : bv (finZ h n) = s16 (s13 (s16 (bv h ^^^ bv n) * 2246822507) * 3266489909) := by
  unfold finZ
  rw [bv_xs16 _ (mod_range _), bv_mod, bv_mul, bv_xs13 _ (mod_range _), bv_mod, bv_mul, bv_xs16 _ (bits_range _ _ _), bv_xor]
  rfl

theorem mixK_inj {a b : Int} (ha : 0 ≤ a ∧ a ≤ 4294967295) (hb : 0 ≤ b ∧ b ≤ 4294967295) (h : mixK a = mixK b) : a = b := by
  refine bv_inj ha hb ?_
  have h1 := congrArg bv h
  rw [bv_mixK, bv_mixK] at h1
  exact mul_inj (d := 3739302833) (by decide) (rot_inj (mul_inj (d := 1458385051) (by decide) h1))

theorem fin_inj {a b n : Int} (ha : 0 ≤ a ∧ a ≤ 4294967295) (hb : 0 ≤ b ∧ b ≤ 4294967295) (h : finZ a n = finZ b n) : a = b := by
  refine bv_inj ha hb ?_
  have h1 := congrArg bv h
  rw [bv_fin, bv_fin] at h1
  have h2 := s16_inj (mul_inj (d := 2781581891) (by decide) (s13_inj (mul_inj (d := 2127672349) (by decide) (s16_inj h1))))
  have h3 := congrArg (· ^^^ bv n) h2
  simpa [BitVec.xor_assoc] using h3

end Go.Proofs.Yteldncblmoilkaa
