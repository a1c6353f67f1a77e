/-
  A letter that was read is written as it stood. Plain mathematics.
-/
import Derived.Test.YtofceccicmlmoaaGreatLetters
import Derived.Lib.MapLaws
namespace Go.Proofs.YtofceccicmlmoaaGreat
open Go.RowKit Go.PlainAid

theorem byte_nat (n : Nat) : ((n : Int)).toNat.toUInt8 = UInt8.ofNat n := by simp

theorem enc_rune (c : Nat) : Utf8.encode (c : Int) = ⟨(Lib.encodeRune (c : Int)).toArray⟩ := by
  unfold Lib.encodeRune Utf8.encode
  by_cases hv : Utf8.valid (c : Int) = true
  · have hv' := (valid_iff c).1 hv
    simp only [hv, if_true, Int.toNat_natCast]
    by_cases h1 : c < 128
    · rw [if_pos h1, Lib.encodeRuneZ_one (by omega) (by omega)]
      simp
    · rw [if_neg h1]
      by_cases h2 : c < 2048
      · rw [if_pos h2, Lib.encodeRuneZ_two (by omega) (by omega)]
        have e1 : (192 + (c : Int) / 64) = ((192 + c / 64 : Nat) : Int) := by omega
        have e2 : (128 + (c : Int) % 64) = ((128 + c % 64 : Nat) : Int) := by omega
        rw [e1, e2]
        simp only [List.map_cons, List.map_nil, byte_nat]
      · rw [if_neg h2]
        by_cases h3 : c < 65536
        · rw [if_pos h3, Lib.encodeRuneZ_three (by omega)]
          have e1 : (224 + (c : Int) / 4096) = ((224 + c / 4096 : Nat) : Int) := by omega
          have e2 : (128 + (c : Int) / 64 % 64) = ((128 + c / 64 % 64 : Nat) : Int) := by omega
          have e3 : (128 + (c : Int) % 64) = ((128 + c % 64 : Nat) : Int) := by omega
          rw [e1, e2, e3]
          simp only [List.map_cons, List.map_nil, byte_nat]
        · rw [if_neg h3, Lib.encodeRuneZ_four (by omega) (by omega)]
          have e1 : (240 + (c : Int) / 262144) = ((240 + c / 262144 : Nat) : Int) := by omega
          have e2 : (128 + (c : Int) / 4096 % 64) = ((128 + c / 4096 % 64 : Nat) : Int) := by omega
          have e3 : (128 + (c : Int) / 64 % 64) = ((128 + c / 64 % 64 : Nat) : Int) := by omega
          have e4 : (128 + (c : Int) % 64) = ((128 + c % 64 : Nat) : Int) := by omega
          rw [e1, e2, e3, e4]
          simp only [List.map_cons, List.map_nil, byte_nat]
  · have hv' : ¬ (c < 55296 ∨ (57344 ≤ c ∧ c ≤ 1114111)) := fun h => hv ((valid_iff c).2 h)
    rw [Lib.encodeRuneZ_bad (by omega)]
    simp only [hv, Bool.false_eq_true, if_false, Utf8.runeError]
    decide

theorem pre_three (s : ByteArray) (h : preB (s.extract 0 s.size) = true) : (codeP s 0).2 = 3 := by
  obtain ⟨_, h1, _, _⟩ := (pre_iff s 0).1 h
  unfold codeP
  rw [h1]
  rfl

theorem encode_first (s : ByteArray) (h : 0 < s.size) (hz : utfW s 0 ≠ 0) : Utf8.encode ((Utf8.decode s 0).1 : Int) = s.extract 0 (utfW s 0).toNat := by
  obtain ⟨_, a2⟩ := dec_utf s 0 h
  obtain ⟨c1, c2, c3⟩ := a2 hz
  have hd : Lib.decodeL s.data.toList = Utf8.decode s 0 := by
    have := Lib.decodeL_drop s 0
    rwa [List.drop_zero] at this
  have he := Lib.encode_decode s.data.toList (by
    intro e
    have h2 : s.size = s.data.toList.length := by rw [Array.length_toList]; rfl
    rw [e] at h2
    simp only [List.length_nil] at h2
    omega) (by
    rw [hd]
    rintro ⟨k1, k2⟩
    have := pre_three s (c2 k1)
    rw [← c3] at this
    omega)
  rw [hd] at he
  rw [enc_rune, he, show (utfW s 0).toNat = (Utf8.decode s 0).2 by omega]
  apply ByteArray.ext
  apply Array.ext'
  simp
end Go.Proofs.YtofceccicmlmoaaGreat

