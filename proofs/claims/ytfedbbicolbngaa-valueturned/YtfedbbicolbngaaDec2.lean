/-
  A letter by the document's words and by the language's own reading: the same letters. Plain mathematics.
-/
import Derived.Test.YtfedbbicolbngaaDec
namespace Go.Proofs.Ytfedbbicolbngaa
open Go.RowKit Go.PlainAid

/-- A letter's number and its bytes, where it is one. -/
def codeP (s : ByteArray) (pos : Nat) : Nat × Nat :=
  if (s.get! (pos + 0)).toNat < 128 then ((s.get! (pos + 0)).toNat, 1)
  else if (s.get! (pos + 0)).toNat < 224 then (c2Z (s.get! (pos + 0)).toNat (s.get! (pos + 1)).toNat, 2)
  else if (s.get! (pos + 0)).toNat < 240 then (c3Z (s.get! (pos + 0)).toNat (s.get! (pos + 1)).toNat (s.get! (pos + 2)).toNat, 3)
  else (c4Z (s.get! (pos + 0)).toNat (s.get! (pos + 1)).toNat (s.get! (pos + 2)).toNat (s.get! (pos + 3)).toNat, 4)

theorem gen_two (s : ByteArray) (pos : Nat) (lo hi : Int) : genV s pos 2 lo hi = if pos + 2 ≤ s.size ∧ lo ≤ bt s (pos + 1) ∧ bt s (pos + 1) ≤ hi then 2 else 0 := by
  unfold genV
  by_cases h : pos + 2 ≤ s.size ∧ lo ≤ bt s (pos + 1) ∧ bt s (pos + 1) ≤ hi
  · rw [if_pos h, if_pos ⟨h.1, h.2.1, h.2.2, fun m h1 h2 => by omega⟩]; rfl
  · rw [if_neg h, if_neg (fun k => h ⟨k.1, k.2.1, k.2.2.1⟩)]
theorem gen_three (s : ByteArray) (pos : Nat) (lo hi : Int) : genV s pos 3 lo hi = if pos + 3 ≤ s.size ∧ lo ≤ bt s (pos + 1) ∧ bt s (pos + 1) ≤ hi ∧ 128 ≤ bt s (pos + 2) ∧ bt s (pos + 2) ≤ 191 then 3 else 0 := by
  unfold genV
  by_cases h : pos + 3 ≤ s.size ∧ lo ≤ bt s (pos + 1) ∧ bt s (pos + 1) ≤ hi ∧ 128 ≤ bt s (pos + 2) ∧ bt s (pos + 2) ≤ 191
  · rw [if_pos h, if_pos ⟨h.1, h.2.1, h.2.2.1, fun m h1 h2 => by obtain rfl : m = 2 := by omega
                                                                 exact h.2.2.2⟩]; rfl
  · rw [if_neg h, if_neg (fun k => h ⟨k.1, k.2.1, k.2.2.1, k.2.2.2 2 (by omega) (by omega)⟩)]
theorem gen_four (s : ByteArray) (pos : Nat) (lo hi : Int) : genV s pos 4 lo hi = if pos + 4 ≤ s.size ∧ lo ≤ bt s (pos + 1) ∧ bt s (pos + 1) ≤ hi ∧ (128 ≤ bt s (pos + 2) ∧ bt s (pos + 2) ≤ 191) ∧ (128 ≤ bt s (pos + 3) ∧ bt s (pos + 3) ≤ 191) then 4 else 0 := by
  unfold genV
  by_cases h : pos + 4 ≤ s.size ∧ lo ≤ bt s (pos + 1) ∧ bt s (pos + 1) ≤ hi ∧ (128 ≤ bt s (pos + 2) ∧ bt s (pos + 2) ≤ 191) ∧ (128 ≤ bt s (pos + 3) ∧ bt s (pos + 3) ≤ 191)
  · rw [if_pos h, if_pos ⟨h.1, h.2.1, h.2.2.1, fun m h1 h2 => by
      by_cases e : m = 2
      · subst e; exact h.2.2.2.1
      · obtain rfl : m = 3 := by omega
        exact h.2.2.2.2⟩]; rfl
  · rw [if_neg h, if_neg (fun k => h ⟨k.1, k.2.1, k.2.2.1, k.2.2.2 2 (by omega) (by omega), k.2.2.2 3 (by omega) (by omega)⟩)]

/-- What is to be shown of a letter: by the document's count W, of its bytes. -/
def Agree (s : ByteArray) (pos : Nat) (W : Int) : Prop :=
  (W = 0 → (Utf8.decode s pos).1 = 65533 ∧ preB (s.extract pos s.size) = false) ∧
  (W ≠ 0 → ((Utf8.decode s pos).2 : Int) = W ∧ ((Utf8.decode s pos).1 = 65533 → preB (s.extract pos s.size) = true) ∧ Utf8.decode s pos = codeP s pos)

theorem pre_false {s : ByteArray} {pos : Nat} (h : ¬ (pos + 3 ≤ s.size ∧ (s.get! (pos + 0)).toNat = 239 ∧ (s.get! (pos + 1)).toNat = 191 ∧ (s.get! (pos + 2)).toNat = 189)) : preB (s.extract pos s.size) = false := by
  cases e : preB (s.extract pos s.size)
  · rfl
  · exact absurd ((pre_iff s pos).1 e) h

theorem dec_utf (s : ByteArray) (pos : Nat) (hp : pos < s.size) : Agree s pos (utfW s pos) := by
  have e0 : bt s pos = ((s.get! (pos + 0)).toNat : Int) := bt_get s pos hp
  have e1 : pos + 1 < s.size → bt s (pos + 1) = ((s.get! (pos + 1)).toNat : Int) := fun h => bt_get s _ h
  have e2 : pos + 2 < s.size → bt s (pos + 2) = ((s.get! (pos + 2)).toNat : Int) := fun h => bt_get s _ h
  have e3 : pos + 3 < s.size → bt s (pos + 3) = ((s.get! (pos + 3)).toNat : Int) := fun h => bt_get s _ h
  have l0 : (s.get! (pos + 0)).toNat < 256 := (s.get! (pos + 0)).toNat_lt
  have l1 : (s.get! (pos + 1)).toNat < 256 := (s.get! (pos + 1)).toNat_lt
  have l2 : (s.get! (pos + 2)).toNat < 256 := (s.get! (pos + 2)).toNat_lt
  have l3 : (s.get! (pos + 3)).toNat < 256 := (s.get! (pos + 3)).toNat_lt
  have hpre := pre_iff s pos
  have hpf := pre_false (s := s) (pos := pos)
  have hd := dec_q s pos
  unfold Agree codeP
  rw [hd]
  unfold utfW
  rw [gen_two, gen_three, gen_three, gen_three, gen_four, gen_four, gen_four]
  generalize (s.get! (pos + 0)).toNat = b0 at *
  generalize (s.get! (pos + 1)).toNat = b1 at *
  generalize (s.get! (pos + 2)).toNat = b2 at *
  generalize (s.get! (pos + 3)).toNat = b3 at *
  generalize preB (s.extract pos s.size) = pb at *
  generalize bt s (pos + 1) = t1 at *
  generalize bt s (pos + 2) = t2 at *
  generalize bt s (pos + 3) = t3 at *
  rw [e0]
  clear hd e0
  have hk1 : ((decide (pos + 1 < s.size) && b1 / 64 == 2) = true) ↔ (pos + 1 < s.size ∧ 128 ≤ b1 ∧ b1 ≤ 191) := by
    simp only [Bool.and_eq_true, beq_iff_eq, decide_eq_true_eq]; omega
  have hk2 : ((decide (pos + 2 < s.size) && b2 / 64 == 2) = true) ↔ (pos + 2 < s.size ∧ 128 ≤ b2 ∧ b2 ≤ 191) := by
    simp only [Bool.and_eq_true, beq_iff_eq, decide_eq_true_eq]; omega
  have hk3 : ((decide (pos + 3 < s.size) && b3 / 64 == 2) = true) ↔ (pos + 3 < s.size ∧ 128 ≤ b3 ∧ b3 ≤ 191) := by
    simp only [Bool.and_eq_true, beq_iff_eq, decide_eq_true_eq]; omega
  generalize (decide (pos + 1 < s.size) && b1 / 64 == 2) = k1 at *
  generalize (decide (pos + 2 < s.size) && b2 / 64 == 2) = k2 at *
  generalize (decide (pos + 3 < s.size) && b3 / 64 == 2) = k3 at *
  have bad : ∀ (W : Int), W = 0 → 128 ≤ b0 → ¬ (194 ≤ b0 ∧ b0 ≤ 223 ∧ k1 = true) → ¬ (224 ≤ b0 ∧ b0 ≤ 239 ∧ k1 = true ∧ k2 = true ∧ 2048 ≤ c3Z b0 b1 b2 ∧ (c3Z b0 b1 b2 < 55296 ∨ 57344 ≤ c3Z b0 b1 b2)) →
      ¬ (240 ≤ b0 ∧ b0 ≤ 247 ∧ k1 = true ∧ k2 = true ∧ k3 = true ∧ 65536 ≤ c4Z b0 b1 b2 b3 ∧ c4Z b0 b1 b2 b3 ≤ 1114111) → ¬ (pos + 3 ≤ s.size ∧ b0 = 239 ∧ b1 = 191 ∧ b2 = 189) →
      (W = 0 → (decQ b0 b1 b2 b3 k1 k2 k3).1 = 65533 ∧ pb = false) ∧ (W ≠ 0 → ((decQ b0 b1 b2 b3 k1 k2 k3).2 : Int) = W ∧ ((decQ b0 b1 b2 b3 k1 k2 k3).1 = 65533 → pb = true) ∧
        decQ b0 b1 b2 b3 k1 k2 k3 = if b0 < 128 then (b0, 1) else if b0 < 224 then (c2Z b0 b1, 2) else if b0 < 240 then (c3Z b0 b1 b2, 3) else (c4Z b0 b1 b2 b3, 4)) := by
    intro W hW g1 g2 g3 g4 g5
    refine ⟨fun _ => ?_, fun h => absurd hW h⟩
    rw [decQ_bad b0 b1 b2 b3 k1 k2 k3 g1 g2 g3 g4]
    exact ⟨rfl, hpf g5⟩
  by_cases a0 : b0 < 128
  · rw [if_pos (by omega : (b0 : Int) < 128), if_pos a0, decQ_one _ _ _ _ _ _ _ a0]
    exact ⟨fun h => absurd h (by decide), fun _ => ⟨rfl, fun h => absurd h (by show ¬ b0 = 65533; omega), rfl⟩⟩
  · rw [if_neg (by omega : ¬ (b0 : Int) < 128)]
    by_cases a1 : 194 ≤ b0 ∧ b0 ≤ 223
    · rw [if_pos (by omega : (194 : Int) ≤ b0 ∧ (b0 : Int) ≤ 223)]
      by_cases g : pos + 2 ≤ s.size ∧ (128 : Int) ≤ t1 ∧ t1 ≤ 191
      · have := e1 (by omega)
        obtain rfl : k1 = true := hk1.2 ⟨by omega, by omega, by omega⟩
        rw [if_pos g, if_neg a0, if_pos (by omega), decQ_two _ _ _ _ _ _ a1.1 a1.2]
        exact ⟨fun h => absurd h (by decide), fun _ => ⟨rfl, fun h => absurd h (by show ¬ c2Z b0 b1 = 65533; unfold c2Z; omega), rfl⟩⟩
      · rw [if_neg g]
        refine bad 0 rfl (by omega) (fun h => g ?_) (by omega) (by omega) (by omega)
        have hk := hk1.1 h.2.2
        have := e1 hk.1
        omega
    · rw [if_neg (by omega : ¬ ((194 : Int) ≤ b0 ∧ (b0 : Int) ≤ 223))]
      by_cases a2 : b0 = 224
      · rw [if_pos (by omega : (b0 : Int) = 224)]
        by_cases g : pos + 3 ≤ s.size ∧ (160 : Int) ≤ t1 ∧ t1 ≤ 191 ∧ 128 ≤ t2 ∧ t2 ≤ 191
        · have := e1 (by omega); have := e2 (by omega)
          obtain rfl : k1 = true := hk1.2 ⟨by omega, by omega, by omega⟩
          obtain rfl : k2 = true := hk2.2 ⟨by omega, by omega, by omega⟩
          rw [if_pos g, if_neg a0, if_neg (by omega), if_pos (by omega), decQ_three _ _ _ _ _ (by omega) (by omega) (by unfold c3Z; omega) (by unfold c3Z; omega)]
          exact ⟨fun h => absurd h (by decide), fun _ => ⟨rfl, fun h => absurd h (by show ¬ c3Z b0 b1 b2 = 65533; unfold c3Z; omega), rfl⟩⟩
        · rw [if_neg g]
          refine bad 0 rfl (by omega) (by omega) (fun h => g ?_) (by omega) (by omega)
          have hk := hk1.1 h.2.2.1; have hkk := hk2.1 h.2.2.2.1
          have := e1 hk.1; have := e2 hkk.1
          have hc := h.2.2.2.2.1
          unfold c3Z at hc
          omega
      · rw [if_neg (by omega : ¬ (b0 : Int) = 224)]
        by_cases a3 : b0 = 237
        · rw [if_pos (by omega : (b0 : Int) = 237)]
          by_cases g : pos + 3 ≤ s.size ∧ (128 : Int) ≤ t1 ∧ t1 ≤ 159 ∧ 128 ≤ t2 ∧ t2 ≤ 191
          · have := e1 (by omega); have := e2 (by omega)
            obtain rfl : k1 = true := hk1.2 ⟨by omega, by omega, by omega⟩
            obtain rfl : k2 = true := hk2.2 ⟨by omega, by omega, by omega⟩
            rw [if_pos g, if_neg a0, if_neg (by omega), if_pos (by omega), decQ_three _ _ _ _ _ (by omega) (by omega) (by unfold c3Z; omega) (by unfold c3Z; omega)]
            exact ⟨fun h => absurd h (by decide), fun _ => ⟨rfl, fun h => absurd h (by show ¬ c3Z b0 b1 b2 = 65533; unfold c3Z; omega), rfl⟩⟩
          · rw [if_neg g]
            refine bad 0 rfl (by omega) (by omega) (fun h => g ?_) (by omega) (by omega)
            have hk := hk1.1 h.2.2.1; have hkk := hk2.1 h.2.2.2.1
            have := e1 hk.1; have := e2 hkk.1
            have hc := h.2.2.2.2.2
            unfold c3Z at hc
            omega
        · rw [if_neg (by omega : ¬ (b0 : Int) = 237)]
          by_cases a4 : 225 ≤ b0 ∧ b0 ≤ 239
          · rw [if_pos (by omega : (225 : Int) ≤ b0 ∧ (b0 : Int) ≤ 239)]
            by_cases g : pos + 3 ≤ s.size ∧ (128 : Int) ≤ t1 ∧ t1 ≤ 191 ∧ 128 ≤ t2 ∧ t2 ≤ 191
            · have := e1 (by omega); have := e2 (by omega)
              obtain rfl : k1 = true := hk1.2 ⟨by omega, by omega, by omega⟩
              obtain rfl : k2 = true := hk2.2 ⟨by omega, by omega, by omega⟩
              rw [if_pos g, if_neg a0, if_neg (by omega), if_pos (by omega), decQ_three _ _ _ _ _ (by omega) (by omega) (by unfold c3Z; omega) (by unfold c3Z; omega)]
              refine ⟨fun h => absurd h (by decide), fun _ => ⟨rfl, fun h => hpre.2 ?_, rfl⟩⟩
              have h' : c3Z b0 b1 b2 = 65533 := h
              unfold c3Z at h'
              omega
            · rw [if_neg g]
              refine bad 0 rfl (by omega) (by omega) (fun h => g ?_) (by omega) (fun h => g ?_)
              · have hk := hk1.1 h.2.2.1; have hkk := hk2.1 h.2.2.2.1
                have := e1 hk.1; have := e2 hkk.1
                omega
              · have := e1 (by omega); have := e2 (by omega)
                omega
          · rw [if_neg (by omega : ¬ ((225 : Int) ≤ b0 ∧ (b0 : Int) ≤ 239))]
            by_cases a5 : b0 = 240
            · rw [if_pos (by omega : (b0 : Int) = 240)]
              by_cases g : pos + 4 ≤ s.size ∧ (144 : Int) ≤ t1 ∧ t1 ≤ 191 ∧ (128 ≤ t2 ∧ t2 ≤ 191) ∧ (128 ≤ t3 ∧ t3 ≤ 191)
              · have := e1 (by omega); have := e2 (by omega); have := e3 (by omega)
                obtain rfl : k1 = true := hk1.2 ⟨by omega, by omega, by omega⟩
                obtain rfl : k2 = true := hk2.2 ⟨by omega, by omega, by omega⟩
                obtain rfl : k3 = true := hk3.2 ⟨by omega, by omega, by omega⟩
                rw [if_pos g, if_neg a0, if_neg (by omega), if_neg (by omega), decQ_four _ _ _ _ (by omega) (by omega) (by unfold c4Z; omega) (by unfold c4Z; omega)]
                exact ⟨fun h => absurd h (by decide), fun _ => ⟨rfl, fun h => absurd h (by show ¬ c4Z b0 b1 b2 b3 = 65533; unfold c4Z; omega), rfl⟩⟩
              · rw [if_neg g]
                refine bad 0 rfl (by omega) (by omega) (by omega) (fun h => g ?_) (by omega)
                have hk := hk1.1 h.2.2.1; have hkk := hk2.1 h.2.2.2.1; have hkkk := hk3.1 h.2.2.2.2.1
                have := e1 hk.1; have := e2 hkk.1; have := e3 hkkk.1
                have hc := h.2.2.2.2.2.1
                unfold c4Z at hc
                omega
            · rw [if_neg (by omega : ¬ (b0 : Int) = 240)]
              by_cases a6 : b0 = 244
              · rw [if_pos (by omega : (b0 : Int) = 244)]
                by_cases g : pos + 4 ≤ s.size ∧ (128 : Int) ≤ t1 ∧ t1 ≤ 143 ∧ (128 ≤ t2 ∧ t2 ≤ 191) ∧ (128 ≤ t3 ∧ t3 ≤ 191)
                · have := e1 (by omega); have := e2 (by omega); have := e3 (by omega)
                  obtain rfl : k1 = true := hk1.2 ⟨by omega, by omega, by omega⟩
                  obtain rfl : k2 = true := hk2.2 ⟨by omega, by omega, by omega⟩
                  obtain rfl : k3 = true := hk3.2 ⟨by omega, by omega, by omega⟩
                  rw [if_pos g, if_neg a0, if_neg (by omega), if_neg (by omega), decQ_four _ _ _ _ (by omega) (by omega) (by unfold c4Z; omega) (by unfold c4Z; omega)]
                  exact ⟨fun h => absurd h (by decide), fun _ => ⟨rfl, fun h => absurd h (by show ¬ c4Z b0 b1 b2 b3 = 65533; unfold c4Z; omega), rfl⟩⟩
                · rw [if_neg g]
                  refine bad 0 rfl (by omega) (by omega) (by omega) (fun h => g ?_) (by omega)
                  have hk := hk1.1 h.2.2.1; have hkk := hk2.1 h.2.2.2.1; have hkkk := hk3.1 h.2.2.2.2.1
                  have := e1 hk.1; have := e2 hkk.1; have := e3 hkkk.1
                  have hc := h.2.2.2.2.2.2
                  unfold c4Z at hc
                  omega
              · rw [if_neg (by omega : ¬ (b0 : Int) = 244)]
                by_cases a7 : 241 ≤ b0 ∧ b0 ≤ 243
                · rw [if_pos (by omega : (241 : Int) ≤ b0 ∧ (b0 : Int) ≤ 243)]
                  by_cases g : pos + 4 ≤ s.size ∧ (128 : Int) ≤ t1 ∧ t1 ≤ 191 ∧ (128 ≤ t2 ∧ t2 ≤ 191) ∧ (128 ≤ t3 ∧ t3 ≤ 191)
                  · have := e1 (by omega); have := e2 (by omega); have := e3 (by omega)
                    obtain rfl : k1 = true := hk1.2 ⟨by omega, by omega, by omega⟩
                    obtain rfl : k2 = true := hk2.2 ⟨by omega, by omega, by omega⟩
                    obtain rfl : k3 = true := hk3.2 ⟨by omega, by omega, by omega⟩
                    rw [if_pos g, if_neg a0, if_neg (by omega), if_neg (by omega), decQ_four _ _ _ _ (by omega) (by omega) (by unfold c4Z; omega) (by unfold c4Z; omega)]
                    exact ⟨fun h => absurd h (by decide), fun _ => ⟨rfl, fun h => absurd h (by show ¬ c4Z b0 b1 b2 b3 = 65533; unfold c4Z; omega), rfl⟩⟩
                  · rw [if_neg g]
                    refine bad 0 rfl (by omega) (by omega) (by omega) (fun h => g ?_) (by omega)
                    have hk := hk1.1 h.2.2.1; have hkk := hk2.1 h.2.2.2.1; have hkkk := hk3.1 h.2.2.2.2.1
                    have := e1 hk.1; have := e2 hkk.1; have := e3 hkkk.1
                    omega
                · rw [if_neg (by omega : ¬ ((241 : Int) ≤ b0 ∧ (b0 : Int) ≤ 243))]
                  refine bad 0 rfl (by omega) (by omega) (by omega) (fun h => ?_) (by omega)
                  have hc := h.2.2.2.2.2.2
                  unfold c4Z at hc
                  omega

end Go.Proofs.Ytfedbbicolbngaa
