/-
  The contract of the document's Letters, and that it finds a text right just if the program does.
-/
import Derived.Test.YtofceccicmlmoaaGreatDec2
import Derived.Deep.LoopGhost
namespace Go.Proofs.YtofceccicmlmoaaGreat
open Go.RowKit Go.PlainAid

def ltF (s : ByteArray) : Nat → Nat → Int → Int
  | 0, _, n => n
  | b + 1, pos, n => if pos < s.size then (if utfW s pos = 0 then -1 else ltF s b (pos + (utfW s pos).toNat) (n + 1)) else n

/-- How many letters a text has; below 0: it is no UTF-8. -/
def lettersZ (s : ByteArray) : Int := ltF s s.size 0 0

theorem ltF_end (s : ByteArray) (b pos : Nat) (n : Int) (h : ¬ pos < s.size) : ltF s b pos n = n := by
  cases b with
  | zero => rfl
  | succ b => simp [ltF, h]

theorem genV_range (s : ByteArray) (pos n : Nat) (lo hi : Int) : genV s pos n lo hi = 0 ∨ (genV s pos n lo hi = n ∧ pos + n ≤ s.size) := by
  unfold genV
  split
  · rename_i h; exact .inr ⟨rfl, h.1⟩
  · exact .inl rfl

theorem utfW_range (s : ByteArray) (pos : Nat) (hp : pos < s.size) : utfW s pos = 0 ∨ (1 ≤ utfW s pos ∧ utfW s pos ≤ 4 ∧ pos + utfW s pos ≤ s.size) := by
  have g2 := genV_range s pos 2; have g3 := genV_range s pos 3; have g4 := genV_range s pos 4
  unfold utfW
  split
  · exact .inr ⟨by omega, by omega, by omega⟩
  · split
    · rcases g2 128 191 with h | h
      · exact .inl h
      · exact .inr ⟨by omega, by omega, by omega⟩
    · split
      · rcases g3 160 191 with h | h
        · exact .inl h
        · exact .inr ⟨by omega, by omega, by omega⟩
      · split
        · rcases g3 128 159 with h | h
          · exact .inl h
          · exact .inr ⟨by omega, by omega, by omega⟩
        · split
          · rcases g3 128 191 with h | h
            · exact .inl h
            · exact .inr ⟨by omega, by omega, by omega⟩
          · split
            · rcases g4 144 191 with h | h
              · exact .inl h
              · exact .inr ⟨by omega, by omega, by omega⟩
            · split
              · rcases g4 128 143 with h | h
                · exact .inl h
                · exact .inr ⟨by omega, by omega, by omega⟩
              · split
                · rcases g4 128 191 with h | h
                  · exact .inl h
                  · exact .inr ⟨by omega, by omega, by omega⟩
                · exact .inl rfl

theorem lt_utf (s : ByteArray) : ∀ (b pos : Nat) (n : Int), 0 ≤ n → (0 ≤ ltF s b pos n ↔ utfF s b pos = true) := by
  intro b
  induction b with
  | zero => intro pos n hn; simp [ltF, utfF, hn]
  | succ b ih =>
    intro pos n hn
    by_cases hp : pos < s.size
    · obtain ⟨a1, a2⟩ := dec_utf s pos hp
      unfold ltF utfF
      rw [if_pos hp, if_pos hp]
      by_cases hz : utfW s pos = 0
      · obtain ⟨c1, c2⟩ := a1 hz
        rw [if_pos hz, if_pos ⟨by rw [c1]; rfl, c2⟩]
        simp
      · obtain ⟨c1, c2, _⟩ := a2 hz
        rw [if_neg hz, if_neg (by
          rintro ⟨h1, h2⟩
          have h3 : (Utf8.decode s pos).1 = 65533 := by
            have : ((Utf8.decode s pos).1 : Int) = 65533 := by simpa using h1
            omega
          rw [c2 h3] at h2; cases h2)]
        rw [show (utfW s pos).toNat = (Utf8.decode s pos).2 by omega]
        exact ih _ _ (by omega)
    · rw [ltF_end s _ pos n hp, utfF_end s _ pos hp]
      simp [hn]

theorem letters_right (s : ByteArray) : decide (0 ≤ lettersZ s) = utfB s := by
  have h := lt_utf s s.size 0 0 (by omega)
  unfold lettersZ utfB
  cases e : utfF s s.size 0
  · rw [e] at h; simp at h ⊢; omega
  · rw [e] at h; simp at h ⊢; omega

set_option maxHeartbeats 1000000 in
theorem letters_any (s : ByteArray) (w : World) (hs : s.size ≤ 4294967296) : Calls Tryz.prog 65 #[.string s] w fun e w' => e = .returned (.int .i64 (lettersZ s)) ∧ w' = w := by
  go_enter Tryz.func65, Tryz.ntmps65
  go_wp2_with fail
  go_loopg [3, 4] s.size (fun k n i wr => ∃ (pos b c : Nat), i = .int .i64 pos ∧ n = .int .i64 c ∧ c ≤ pos ∧ pos ≤ s.size ∧ k = s.size - pos ∧ Hid (ltF s b pos c = lettersZ s) ∧ s.size ≤ pos + b ∧ wr = w)
  case atStart => exact ⟨0, s.size, 0, rfl, rfl, by omega, by omega, by omega, rfl, by omega, rfl⟩
  case round =>
    obtain ⟨pos, b, c, rfl, rfl, hcp, hps, hk, HC, hb, rfl⟩ := hrel
    have Hk : Hid _ := hk
    clear hk
    by_cases hp : pos < s.size
    · obtain ⟨b, rfl⟩ : ∃ c, b = c + 1 := ⟨b - 1, by omega⟩
      have He : Hid (ltF s (b + 1) pos c = if utfW s pos = 0 then -1 else ltF s b (pos + (utfW s pos).toNat) (c + 1)) := by
        show _ = _
        conv => lhs; unfold ltF
        rw [if_pos hp]
      have hrg := utfW_range s pos hp
      go_wp2_with fail
      refine (utf_any s pos _ hs hp).mono ?_
      rintro e w1 ⟨rfl, rfl⟩
      by_cases hz : utfW s pos = 0
      · have h1 := He.out
        rw [if_pos hz] at h1
        have H1 : Hid (-1 = lettersZ s) := h1.symm.trans HC.out
        rw [hz]
        clear h1 hz hrg He HC
        go_wp2_with fail
        go_ret
        rw [← H1.out]
        exact ⟨rfl, rfl⟩
      · have h1 := He.out
        rw [if_neg hz] at h1
        obtain ⟨U, hU⟩ : ∃ U : Nat, utfW s pos = U := ⟨(utfW s pos).toNat, by omega⟩
        rw [hU] at h1 hrg hz ⊢
        have H1 : Hid (ltF s b (pos + U) (c + 1) = lettersZ s) := h1.symm.trans HC.out
        have hz2 : ((U : Int) == 0) = false := by simpa using hz
        have hU1 : 1 ≤ U := by omega
        have hU2 : pos + U ≤ s.size := by omega
        clear h1 hz hrg He HC hU
        go_wp2_with fail
        go_roundg (s.size - (pos + U))
        case measure => have := Hk.out; omega
        case rel => exact ⟨pos + U, b, c + 1, by go_num, by go_num, by omega, by omega, rfl, by show _ = _; have := H1.out; simpa using this, by omega, rfl⟩
    · have H1 : Hid ((c : Int) = lettersZ s) := by
        have := HC.out
        rw [ltF_end s b pos c hp] at this
        exact this
      clear HC
      go_wp2_with fail
      go_ret
      rw [← H1.out]
      exact ⟨rfl, rfl⟩

end Go.Proofs.YtofceccicmlmoaaGreat

