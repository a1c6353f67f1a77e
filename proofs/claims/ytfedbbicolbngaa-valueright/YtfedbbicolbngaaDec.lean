/-
  A letter by the language's own reading, class by class. Plain mathematics.
-/
import Derived.Test.YtfedbbicolbngaaUtf8
import Derived.Laws.Strings
namespace Go.Proofs.Ytfedbbicolbngaa
open Go.RowKit Go.PlainAid

def c2Z (b0 b1 : Nat) : Nat := (b0 % 32) * 64 + b1 % 64
def c3Z (b0 b1 b2 : Nat) : Nat := (b0 % 16) * 4096 + (b1 % 64) * 64 + b2 % 64
def c4Z (b0 b1 b2 b3 : Nat) : Nat := (b0 % 8) * 262144 + (b1 % 64) * 4096 + (b2 % 64) * 64 + b3 % 64

/-- The language's reading of a letter, of its first bytes and what follows. -/
def decQ (b0 b1 b2 b3 : Nat) (k1 k2 k3 : Bool) : Nat × Nat :=
  if b0 < 0x80 then (b0, 1)
  else if b0 / 32 == 6 && k1 then (if c2Z b0 b1 ≥ 0x80 then (c2Z b0 b1, 2) else (Utf8.runeError, 1))
  else if b0 / 16 == 14 && k1 && k2 then (if c3Z b0 b1 b2 ≥ 0x800 && Utf8.valid (c3Z b0 b1 b2 : Nat) then (c3Z b0 b1 b2, 3) else (Utf8.runeError, 1))
  else if b0 / 8 == 30 && k1 && k2 && k3 then (if c4Z b0 b1 b2 b3 ≥ 0x10000 && Utf8.valid (c4Z b0 b1 b2 b3 : Nat) then (c4Z b0 b1 b2 b3, 4) else (Utf8.runeError, 1))
  else (Utf8.runeError, 1)

theorem dec_q (s : ByteArray) (pos : Nat) : Utf8.decode s pos = decQ (s.get! (pos + 0)).toNat (s.get! (pos + 1)).toNat (s.get! (pos + 2)).toNat (s.get! (pos + 3)).toNat
    (decide (pos + 1 < s.size) && (s.get! (pos + 1)).toNat / 64 == 2) (decide (pos + 2 < s.size) && (s.get! (pos + 2)).toNat / 64 == 2) (decide (pos + 3 < s.size) && (s.get! (pos + 3)).toNat / 64 == 2) := by
  unfold decQ c2Z c3Z c4Z
  exact Utf8.decode.eq_1 s pos

theorem valid_iff (c : Nat) : Utf8.valid (c : Int) = true ↔ (c < 55296 ∨ (57344 ≤ c ∧ c ≤ 1114111)) := by
  simp only [Utf8.valid, Bool.and_eq_true, Bool.or_eq_true, decide_eq_true_eq]
  omega

theorem decQ_one (b0 b1 b2 b3 : Nat) (k1 k2 k3 : Bool) (h : b0 < 128) : decQ b0 b1 b2 b3 k1 k2 k3 = (b0, 1) := by
  unfold decQ
  rw [if_pos h]

theorem decQ_two (b0 b1 b2 b3 : Nat) (k2 k3 : Bool) (h1 : 194 ≤ b0) (h2 : b0 ≤ 223) : decQ b0 b1 b2 b3 true k2 k3 = (c2Z b0 b1, 2) := by
  unfold decQ
  rw [if_neg (by omega), if_pos (by rw [Bool.and_true, beq_iff_eq]; omega), if_pos (by unfold c2Z; omega)]

theorem decQ_three (b0 b1 b2 b3 : Nat) (k3 : Bool) (h1 : 224 ≤ b0) (h2 : b0 ≤ 239) (h3 : 2048 ≤ c3Z b0 b1 b2) (h4 : c3Z b0 b1 b2 < 55296 ∨ 57344 ≤ c3Z b0 b1 b2) : decQ b0 b1 b2 b3 true true k3 = (c3Z b0 b1 b2, 3) := by
  have hc : c3Z b0 b1 b2 ≤ 65535 := by unfold c3Z; omega
  unfold decQ
  rw [if_neg (by omega), if_neg (by rw [Bool.and_true, beq_iff_eq]; omega), if_pos (by rw [Bool.and_true, Bool.and_true, beq_iff_eq]; omega), if_pos (by rw [Bool.and_eq_true, decide_eq_true_eq, valid_iff]; omega)]

theorem decQ_four (b0 b1 b2 b3 : Nat) (h1 : 240 ≤ b0) (h2 : b0 ≤ 244) (h3 : 65536 ≤ c4Z b0 b1 b2 b3) (h4 : c4Z b0 b1 b2 b3 ≤ 1114111) : decQ b0 b1 b2 b3 true true true = (c4Z b0 b1 b2 b3, 4) := by
  unfold decQ
  rw [if_neg (by omega), if_neg (by rw [Bool.and_true, beq_iff_eq]; omega), if_neg (by rw [Bool.and_true, Bool.and_true, beq_iff_eq]; omega), if_pos (by rw [Bool.and_true, Bool.and_true, Bool.and_true, beq_iff_eq]; omega), if_pos (by rw [Bool.and_eq_true, decide_eq_true_eq, valid_iff]; omega)]

theorem decQ_bad (b0 b1 b2 b3 : Nat) (k1 k2 k3 : Bool) (h1 : 128 ≤ b0) (h2 : ¬ (194 ≤ b0 ∧ b0 ≤ 223 ∧ k1 = true)) (h3 : ¬ (224 ≤ b0 ∧ b0 ≤ 239 ∧ k1 = true ∧ k2 = true ∧ 2048 ≤ c3Z b0 b1 b2 ∧ (c3Z b0 b1 b2 < 55296 ∨ 57344 ≤ c3Z b0 b1 b2)))
    (h4 : ¬ (240 ≤ b0 ∧ b0 ≤ 247 ∧ k1 = true ∧ k2 = true ∧ k3 = true ∧ 65536 ≤ c4Z b0 b1 b2 b3 ∧ c4Z b0 b1 b2 b3 ≤ 1114111)) : decQ b0 b1 b2 b3 k1 k2 k3 = (65533, 1) := by
  unfold decQ
  rw [if_neg (by omega)]
  by_cases e1 : (b0 / 32 == 6 && k1) = true
  · rw [if_pos e1]
    rw [Bool.and_eq_true, beq_iff_eq] at e1
    rw [if_neg (by intro h; apply h2; unfold c2Z at h; exact ⟨by omega, by omega, e1.2⟩)]
    rfl
  · rw [if_neg e1]
    by_cases e2 : (b0 / 16 == 14 && k1 && k2) = true
    · rw [if_pos e2]
      rw [Bool.and_eq_true, Bool.and_eq_true, beq_iff_eq] at e2
      rw [if_neg (by
        intro h
        rw [Bool.and_eq_true, decide_eq_true_eq, valid_iff] at h
        exact h3 ⟨by omega, by omega, e2.1.2, e2.2, h.1, by omega⟩)]
      rfl
    · rw [if_neg e2]
      by_cases e3 : (b0 / 8 == 30 && k1 && k2 && k3) = true
      · rw [if_pos e3]
        rw [Bool.and_eq_true, Bool.and_eq_true, Bool.and_eq_true, beq_iff_eq] at e3
        rw [if_neg (by
          intro h
          rw [Bool.and_eq_true, decide_eq_true_eq, valid_iff] at h
          exact h4 ⟨by omega, by omega, e3.1.1.2, e3.1.2, e3.2, h.1, by omega⟩)]
        rfl
      · rw [if_neg e3]
        rfl

theorem drop3 {α : Type} (L : List α) (p n : Nat) (h : p + 3 ≤ L.length) (hn : 3 ≤ n) : ((L.drop p).take n).take 3 = [L[p]'(by omega), L[p + 1]'(by omega), L[p + 2]'(by omega)] := by
  rw [List.take_take, Nat.min_eq_left hn, List.drop_eq_getElem_cons (by omega : p < L.length), List.drop_eq_getElem_cons (by omega : p + 1 < L.length), List.drop_eq_getElem_cons (by omega : p + 1 + 1 < L.length)]
  rfl

theorem take3 (s : ByteArray) (pos : Nat) (h : pos + 3 ≤ s.size) : ((s.extract pos s.size).extract 0 3).toList = [s[pos]'(by omega), s[pos + 1]'(by omega), s[pos + 2]'(by omega)] := by
  rw [ByteArray.toList_eq, ByteArray.data_extract, ByteArray.data_extract, Array.toList_extract, Array.toList_extract]
  unfold List.extract
  rw [List.drop_zero, Nat.sub_zero]
  exact drop3 s.data.toList pos (s.size - pos) h (by omega)

theorem get_is (s : ByteArray) (k : Nat) (h : k < s.size) : s.get! k = s[k]'h := by
  simp [ByteArray.get!, getElem!_pos, h]
  rfl

theorem bt_get (s : ByteArray) (k : Nat) (h : k < s.size) : bt s k = ((s.get! k).toNat : Int) := by
  unfold bt
  rw [dif_pos h, get_is s k h]

/-- The three bytes of the sign that stands for what is no letter. -/
theorem pre_iff (s : ByteArray) (pos : Nat) : preB (s.extract pos s.size) = true ↔ (pos + 3 ≤ s.size ∧ (s.get! (pos + 0)).toNat = 239 ∧ (s.get! (pos + 1)).toNat = 191 ∧ (s.get! (pos + 2)).toNat = 189) := by
  have hz : (s.extract pos s.size).size = s.size - pos := by simp
  unfold preB
  rw [Bool.and_eq_true, decide_eq_true_eq, hz]
  constructor
  · rintro ⟨h1, h2⟩
    have h3 : pos + 3 ≤ s.size := by omega
    rw [take3 s pos h3, beq_iff_eq] at h2
    simp only [List.cons.injEq, and_true] at h2
    rw [get_is s (pos + 0) (by omega), get_is s (pos + 1) (by omega), get_is s (pos + 2) (by omega)]
    exact ⟨h3, by simp [h2.1], by simp [h2.2.1], by simp [h2.2.2]⟩
  · rintro ⟨h3, a, b, c⟩
    rw [get_is s (pos + 0) (by omega)] at a
    rw [get_is s (pos + 1) (by omega)] at b
    rw [get_is s (pos + 2) (by omega)] at c
    refine ⟨by omega, ?_⟩
    rw [take3 s pos h3, beq_iff_eq]
    have a' : s[pos]'(by omega) = (239 : UInt8) := UInt8.toNat_inj.1 (by simpa using a)
    have b' : s[pos + 1]'(by omega) = (191 : UInt8) := UInt8.toNat_inj.1 (by simpa using b)
    have c' : s[pos + 2]'(by omega) = (189 : UInt8) := UInt8.toNat_inj.1 (by simpa using c)
    rw [a', b', c']

end Go.Proofs.Ytfedbbicolbngaa
