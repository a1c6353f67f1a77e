/-
  The contracts of the kinds of hash and of the groups, the program's and the document's.
-/
import Derived.Test.YtlmnkjnplaebgaaGreatWhole
import Derived.Laws.BitsAllLaws
namespace Go.Proofs.YtlmnkjnplaebgaaGreat
open Go.RowKit

def Word (h : Int) : Prop := 0 ≤ h ∧ h ≤ 4294967295

/-- What kind k leaves of h. -/
def cutZ (k : Nat) (h : Int) : Int := if k = 0 then h else if k ≤ 31 then h % 2 ^ k else if k = 32 then 0 else h / 2 ^ (64 - k) * 2 ^ (64 - k)

theorem pow_nat (k : Nat) : ((2 ^ k : Nat) : Int) = (2 : Int) ^ k := by simp

theorem pow_small (k : Nat) (h : k ≤ 31) : (2 : Int) ^ k % 4294967296 = 2 ^ k ∧ 0 < (2 : Int) ^ k ∧ (2 : Int) ^ k ≤ 2147483648 := by
  have h1 : 2 ^ k ≤ 2 ^ 31 := Nat.pow_le_pow_right (by omega) h
  have h2 : 0 < 2 ^ k := Nat.pow_pos (by omega)
  rw [← pow_nat]
  have h3 : (2 : Nat) ^ 31 = 2147483648 := by decide
  omega

theorem and_mask (k : Nat) (h : Int) (hk : k ≤ 31) (hw : Word h) : bits .and .u32 h ((2 ^ k - 1) % 4294967296) = h % 2 ^ k := by
  obtain ⟨p1, p2, p3⟩ := pow_small k hk
  obtain ⟨H, rfl⟩ := Int.eq_ofNat_of_zero_le hw.1
  have e : ((2 : Int) ^ k - 1) % 4294967296 = ((2 ^ k - 1 : Nat) : Int) := by
    have : 0 < 2 ^ k := Nat.pow_pos (by omega)
    rw [Int.natCast_sub (by omega), pow_nat]
    omega
  have hw2 := hw.2
  rw [e, u32_and _ _ hw.1 (by omega) (by omega) (by omega)]
  simp only [Int.toNat_natCast]
  rw [Nat.and_two_pow_sub_one_eq_mod, ← pow_nat]
  rfl

theorem high_keep (n : Nat) (h : Int) (hw : Word h) : h / 2 ^ n * 2 ^ n % 4294967296 = h / 2 ^ n * 2 ^ n := by
  have h1 : 0 < (2 : Int) ^ n := by rw [← pow_nat]; have : 0 < 2 ^ n := Nat.pow_pos (by omega); omega
  have h2 : 0 ≤ h / 2 ^ n := Int.ediv_nonneg hw.1 (by omega)
  have h3 : h / 2 ^ n * 2 ^ n ≤ h := Int.ediv_mul_le h (by omega)
  have h4 : 0 ≤ h / 2 ^ n * 2 ^ n := Int.mul_nonneg h2 (by omega)
  have := hw.2
  exact Int.emod_eq_of_lt h4 (by omega)

theorem ret_u32 {a b : Int} (h : a = b) : Ending.returned (.int .u32 a) = .returned (.int .u32 b) := by rw [h]

end Go.Proofs.YtlmnkjnplaebgaaGreat
