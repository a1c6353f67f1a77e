/-
  The contract of the document's utf: how many bytes the letter at a place has.
-/
import Derived.Test.YtfedbbicolbngaaUtf
import Derived.PlainAid
namespace Go.Proofs.Ytfedbbicolbngaa
open Go.RowKit Go.PlainAid

def genV (s : ByteArray) (pos n : Nat) (lo hi : Int) : Int :=
  if pos + n ≤ s.size ∧ lo ≤ bt s (pos + 1) ∧ bt s (pos + 1) ≤ hi ∧ (∀ m, m < n → 2 ≤ m → 128 ≤ bt s (pos + m) ∧ bt s (pos + m) ≤ 191) then n else 0

/-- How many bytes the letter at a place has; 0: it is none. -/
def utfW (s : ByteArray) (pos : Nat) : Int :=
  if bt s pos < 128 then 1 else if 194 ≤ bt s pos ∧ bt s pos ≤ 223 then genV s pos 2 128 191
  else if bt s pos = 224 then genV s pos 3 160 191 else if bt s pos = 237 then genV s pos 3 128 159
  else if 225 ≤ bt s pos ∧ bt s pos ≤ 239 then genV s pos 3 128 191
  else if bt s pos = 240 then genV s pos 4 144 191 else if bt s pos = 244 then genV s pos 4 128 143
  else if 241 ≤ bt s pos ∧ bt s pos ≤ 243 then genV s pos 4 128 191 else 0

theorem ret_i {a b : Int} (h : a = b) : Ending.returned (.int .i64 a) = .returned (.int .i64 b) := by rw [h]

set_option maxHeartbeats 2000000 in
theorem utf_two (s : ByteArray) (pos : Nat) (w : World) (hs : s.size ≤ 4294967296) (hp : pos < s.size) (hc1 : 194 ≤ bt s pos) (hc2 : bt s pos ≤ 223) :
    Calls Try.prog 88 #[.string s, .int .i64 pos] w fun e w' => e = .returned (.int .i64 (genV s pos 2 128 191)) ∧ w' = w := by
  have hb := get_bt s
  have n224 : (bt s pos == 224) = false := by rw [beq_eq_false_iff_ne]; omega
  have n237 : (bt s pos == 237) = false := by rw [beq_eq_false_iff_ne]; omega
  have n240 : (bt s pos == 240) = false := by rw [beq_eq_false_iff_ne]; omega
  have n244 : (bt s pos == 244) = false := by rw [beq_eq_false_iff_ne]; omega
  by_cases h3 : pos + 2 ≤ s.size
  · have h3' : ¬ ((s.size : Int) < (pos : Int) + 2) := by omega
    have h3i : (pos : Int) + 1 < (s.size : Nat) := by omega
    by_cases hlo : 128 ≤ bt s (pos + 1)
    · have hlo' : ¬ (bt s (pos + 1) < 128) := by omega
      by_cases hhi : bt s (pos + 1) ≤ 191
      · have hhi' : ¬ (191 < bt s (pos + 1)) := by omega
        go_enter Try.func88, Try.ntmps88
        go_wp2_with fail
        go_loopg [9] 0 (fun k i wr => ∃ j : Nat, i = .int .i64 j ∧ 2 ≤ j ∧ j ≤ 2 ∧ k = 2 - j ∧ Hid (∀ m, m < j → 2 ≤ m → 128 ≤ bt s (pos + m) ∧ bt s (pos + m) ≤ 191) ∧ wr = w)
        case atStart => exact ⟨2, rfl, by omega, by omega, by omega, fun m h1 h2 => by omega, rfl⟩
        case round =>
          obtain ⟨j, rfl, hj2, hj, hk, HC, rfl⟩ := hrel
          have Hk : Hid _ := hk
          clear hk
          by_cases hlt : j < 2
          · exfalso; omega
          · have hjn : j = 2 := by omega
            subst hjn
            go_wp2_with fail
            go_ret
            refine ⟨ret_i ?_, rfl⟩
            unfold genV
            rw [if_pos ⟨h3, hlo, hhi, HC.out⟩]
            rfl
      · have hhi' : 191 < bt s (pos + 1) := by omega
        go_enter Try.func88, Try.ntmps88
        go_wp2_with fail
        go_ret
        refine ⟨ret_i ?_, rfl⟩
        unfold genV
        rw [if_neg (fun h => by omega)]
    · have hlo' : bt s (pos + 1) < 128 := by omega
      go_enter Try.func88, Try.ntmps88
      go_wp2_with fail
      go_ret
      refine ⟨ret_i ?_, rfl⟩
      unfold genV
      rw [if_neg (fun h => by omega)]
  · have h3' : (s.size : Int) < (pos : Int) + 2 := by omega
    go_enter Try.func88, Try.ntmps88
    go_wp2_with fail
    go_ret
    refine ⟨ret_i ?_, rfl⟩
    unfold genV
    rw [if_neg (fun h => by omega)]

set_option maxHeartbeats 2000000 in
theorem utf_e0 (s : ByteArray) (pos : Nat) (w : World) (hs : s.size ≤ 4294967296) (hp : pos < s.size) (hc : bt s pos = 224) :
    Calls Try.prog 88 #[.string s, .int .i64 pos] w fun e w' => e = .returned (.int .i64 (genV s pos 3 160 191)) ∧ w' = w := by
  have hb := get_bt s
  by_cases h3 : pos + 3 ≤ s.size
  · have h3' : ¬ ((s.size : Int) < (pos : Int) + 3) := by omega
    have h3i : (pos : Int) + 1 < (s.size : Nat) := by omega
    by_cases hlo : 160 ≤ bt s (pos + 1)
    · have hlo' : ¬ (bt s (pos + 1) < 160) := by omega
      by_cases hhi : bt s (pos + 1) ≤ 191
      · have hhi' : ¬ (191 < bt s (pos + 1)) := by omega
        go_enter Try.func88, Try.ntmps88
        go_wp2_with fail
        go_loopg [9] 1 (fun k i wr => ∃ j : Nat, i = .int .i64 j ∧ 2 ≤ j ∧ j ≤ 3 ∧ k = 3 - j ∧ Hid (∀ m, m < j → 2 ≤ m → 128 ≤ bt s (pos + m) ∧ bt s (pos + m) ≤ 191) ∧ wr = w)
        case atStart => exact ⟨2, rfl, by omega, by omega, by omega, fun m h1 h2 => by omega, rfl⟩
        case round =>
          obtain ⟨j, rfl, hj2, hj, hk, HC, rfl⟩ := hrel
          have Hk : Hid _ := hk
          clear hk
          by_cases hlt : j < 3
          · have hji : (pos : Int) + (j : Int) < (s.size : Nat) := by omega
            have hjn : pos + j < s.size := by omega
            by_cases ha : 128 ≤ bt s (pos + j)
            · by_cases hz : bt s (pos + j) ≤ 191
              · have HC2 : Hid (∀ m, m < j + 1 → 2 ≤ m → 128 ≤ bt s (pos + m) ∧ bt s (pos + m) ≤ 191) := fun m h1 h2 => by
                  by_cases e : m = j
                  · subst e; exact ⟨ha, hz⟩
                  · exact HC.out m (by omega) h2
                clear HC
                go_wp2_with fail
                go_roundg (3 - (j + 1))
                case measure => have := Hk.out; omega
                case rel => exact ⟨j + 1, by go_num, by omega, by omega, rfl, HC2, rfl⟩
              · have hz' : 191 < bt s (pos + j) := by omega
                clear HC
                go_wp2_with fail
                go_ret
                refine ⟨ret_i ?_, rfl⟩
                unfold genV
                rw [if_neg (fun h => by have := h.2.2.2 j hlt hj2; omega)]
            · have ha' : bt s (pos + j) < 128 := by omega
              clear HC
              go_wp2_with fail
              go_ret
              refine ⟨ret_i ?_, rfl⟩
              unfold genV
              rw [if_neg (fun h => by have := h.2.2.2 j hlt hj2; omega)]
          · have hjn : j = 3 := by omega
            subst hjn
            go_wp2_with fail
            go_ret
            refine ⟨ret_i ?_, rfl⟩
            unfold genV
            rw [if_pos ⟨h3, hlo, hhi, HC.out⟩]
            rfl
      · have hhi' : 191 < bt s (pos + 1) := by omega
        go_enter Try.func88, Try.ntmps88
        go_wp2_with fail
        go_ret
        refine ⟨ret_i ?_, rfl⟩
        unfold genV
        rw [if_neg (fun h => by omega)]
    · have hlo' : bt s (pos + 1) < 160 := by omega
      go_enter Try.func88, Try.ntmps88
      go_wp2_with fail
      go_ret
      refine ⟨ret_i ?_, rfl⟩
      unfold genV
      rw [if_neg (fun h => by omega)]
  · have h3' : (s.size : Int) < (pos : Int) + 3 := by omega
    go_enter Try.func88, Try.ntmps88
    go_wp2_with fail
    go_ret
    refine ⟨ret_i ?_, rfl⟩
    unfold genV
    rw [if_neg (fun h => by omega)]

set_option maxHeartbeats 2000000 in
theorem utf_ed (s : ByteArray) (pos : Nat) (w : World) (hs : s.size ≤ 4294967296) (hp : pos < s.size) (hc : bt s pos = 237) :
    Calls Try.prog 88 #[.string s, .int .i64 pos] w fun e w' => e = .returned (.int .i64 (genV s pos 3 128 159)) ∧ w' = w := by
  have hb := get_bt s
  by_cases h3 : pos + 3 ≤ s.size
  · have h3' : ¬ ((s.size : Int) < (pos : Int) + 3) := by omega
    have h3i : (pos : Int) + 1 < (s.size : Nat) := by omega
    by_cases hlo : 128 ≤ bt s (pos + 1)
    · have hlo' : ¬ (bt s (pos + 1) < 128) := by omega
      by_cases hhi : bt s (pos + 1) ≤ 159
      · have hhi' : ¬ (159 < bt s (pos + 1)) := by omega
        go_enter Try.func88, Try.ntmps88
        go_wp2_with fail
        go_loopg [9] 1 (fun k i wr => ∃ j : Nat, i = .int .i64 j ∧ 2 ≤ j ∧ j ≤ 3 ∧ k = 3 - j ∧ Hid (∀ m, m < j → 2 ≤ m → 128 ≤ bt s (pos + m) ∧ bt s (pos + m) ≤ 191) ∧ wr = w)
        case atStart => exact ⟨2, rfl, by omega, by omega, by omega, fun m h1 h2 => by omega, rfl⟩
        case round =>
          obtain ⟨j, rfl, hj2, hj, hk, HC, rfl⟩ := hrel
          have Hk : Hid _ := hk
          clear hk
          by_cases hlt : j < 3
          · have hji : (pos : Int) + (j : Int) < (s.size : Nat) := by omega
            have hjn : pos + j < s.size := by omega
            by_cases ha : 128 ≤ bt s (pos + j)
            · by_cases hz : bt s (pos + j) ≤ 191
              · have HC2 : Hid (∀ m, m < j + 1 → 2 ≤ m → 128 ≤ bt s (pos + m) ∧ bt s (pos + m) ≤ 191) := fun m h1 h2 => by
                  by_cases e : m = j
                  · subst e; exact ⟨ha, hz⟩
                  · exact HC.out m (by omega) h2
                clear HC
                go_wp2_with fail
                go_roundg (3 - (j + 1))
                case measure => have := Hk.out; omega
                case rel => exact ⟨j + 1, by go_num, by omega, by omega, rfl, HC2, rfl⟩
              · have hz' : 191 < bt s (pos + j) := by omega
                clear HC
                go_wp2_with fail
                go_ret
                refine ⟨ret_i ?_, rfl⟩
                unfold genV
                rw [if_neg (fun h => by have := h.2.2.2 j hlt hj2; omega)]
            · have ha' : bt s (pos + j) < 128 := by omega
              clear HC
              go_wp2_with fail
              go_ret
              refine ⟨ret_i ?_, rfl⟩
              unfold genV
              rw [if_neg (fun h => by have := h.2.2.2 j hlt hj2; omega)]
          · have hjn : j = 3 := by omega
            subst hjn
            go_wp2_with fail
            go_ret
            refine ⟨ret_i ?_, rfl⟩
            unfold genV
            rw [if_pos ⟨h3, hlo, hhi, HC.out⟩]
            rfl
      · have hhi' : 159 < bt s (pos + 1) := by omega
        go_enter Try.func88, Try.ntmps88
        go_wp2_with fail
        go_ret
        refine ⟨ret_i ?_, rfl⟩
        unfold genV
        rw [if_neg (fun h => by omega)]
    · have hlo' : bt s (pos + 1) < 128 := by omega
      go_enter Try.func88, Try.ntmps88
      go_wp2_with fail
      go_ret
      refine ⟨ret_i ?_, rfl⟩
      unfold genV
      rw [if_neg (fun h => by omega)]
  · have h3' : (s.size : Int) < (pos : Int) + 3 := by omega
    go_enter Try.func88, Try.ntmps88
    go_wp2_with fail
    go_ret
    refine ⟨ret_i ?_, rfl⟩
    unfold genV
    rw [if_neg (fun h => by omega)]

set_option maxHeartbeats 2000000 in
theorem utf_three1 (s : ByteArray) (pos : Nat) (w : World) (hs : s.size ≤ 4294967296) (hp : pos < s.size) (hc1 : 225 ≤ bt s pos) (hc2 : bt s pos ≤ 236) :
    Calls Try.prog 88 #[.string s, .int .i64 pos] w fun e w' => e = .returned (.int .i64 (genV s pos 3 128 191)) ∧ w' = w := by
  have hb := get_bt s
  have n224 : (bt s pos == 224) = false := by rw [beq_eq_false_iff_ne]; omega
  have n237 : (bt s pos == 237) = false := by rw [beq_eq_false_iff_ne]; omega
  have n240 : (bt s pos == 240) = false := by rw [beq_eq_false_iff_ne]; omega
  have n244 : (bt s pos == 244) = false := by rw [beq_eq_false_iff_ne]; omega
  by_cases h3 : pos + 3 ≤ s.size
  · have h3' : ¬ ((s.size : Int) < (pos : Int) + 3) := by omega
    have h3i : (pos : Int) + 1 < (s.size : Nat) := by omega
    by_cases hlo : 128 ≤ bt s (pos + 1)
    · have hlo' : ¬ (bt s (pos + 1) < 128) := by omega
      by_cases hhi : bt s (pos + 1) ≤ 191
      · have hhi' : ¬ (191 < bt s (pos + 1)) := by omega
        go_enter Try.func88, Try.ntmps88
        go_wp2_with fail
        go_loopg [9] 1 (fun k i wr => ∃ j : Nat, i = .int .i64 j ∧ 2 ≤ j ∧ j ≤ 3 ∧ k = 3 - j ∧ Hid (∀ m, m < j → 2 ≤ m → 128 ≤ bt s (pos + m) ∧ bt s (pos + m) ≤ 191) ∧ wr = w)
        case atStart => exact ⟨2, rfl, by omega, by omega, by omega, fun m h1 h2 => by omega, rfl⟩
        case round =>
          obtain ⟨j, rfl, hj2, hj, hk, HC, rfl⟩ := hrel
          have Hk : Hid _ := hk
          clear hk
          by_cases hlt : j < 3
          · have hji : (pos : Int) + (j : Int) < (s.size : Nat) := by omega
            have hjn : pos + j < s.size := by omega
            by_cases ha : 128 ≤ bt s (pos + j)
            · by_cases hz : bt s (pos + j) ≤ 191
              · have HC2 : Hid (∀ m, m < j + 1 → 2 ≤ m → 128 ≤ bt s (pos + m) ∧ bt s (pos + m) ≤ 191) := fun m h1 h2 => by
                  by_cases e : m = j
                  · subst e; exact ⟨ha, hz⟩
                  · exact HC.out m (by omega) h2
                clear HC
                go_wp2_with fail
                go_roundg (3 - (j + 1))
                case measure => have := Hk.out; omega
                case rel => exact ⟨j + 1, by go_num, by omega, by omega, rfl, HC2, rfl⟩
              · have hz' : 191 < bt s (pos + j) := by omega
                clear HC
                go_wp2_with fail
                go_ret
                refine ⟨ret_i ?_, rfl⟩
                unfold genV
                rw [if_neg (fun h => by have := h.2.2.2 j hlt hj2; omega)]
            · have ha' : bt s (pos + j) < 128 := by omega
              clear HC
              go_wp2_with fail
              go_ret
              refine ⟨ret_i ?_, rfl⟩
              unfold genV
              rw [if_neg (fun h => by have := h.2.2.2 j hlt hj2; omega)]
          · have hjn : j = 3 := by omega
            subst hjn
            go_wp2_with fail
            go_ret
            refine ⟨ret_i ?_, rfl⟩
            unfold genV
            rw [if_pos ⟨h3, hlo, hhi, HC.out⟩]
            rfl
      · have hhi' : 191 < bt s (pos + 1) := by omega
        go_enter Try.func88, Try.ntmps88
        go_wp2_with fail
        go_ret
        refine ⟨ret_i ?_, rfl⟩
        unfold genV
        rw [if_neg (fun h => by omega)]
    · have hlo' : bt s (pos + 1) < 128 := by omega
      go_enter Try.func88, Try.ntmps88
      go_wp2_with fail
      go_ret
      refine ⟨ret_i ?_, rfl⟩
      unfold genV
      rw [if_neg (fun h => by omega)]
  · have h3' : (s.size : Int) < (pos : Int) + 3 := by omega
    go_enter Try.func88, Try.ntmps88
    go_wp2_with fail
    go_ret
    refine ⟨ret_i ?_, rfl⟩
    unfold genV
    rw [if_neg (fun h => by omega)]

set_option maxHeartbeats 2000000 in
theorem utf_three2 (s : ByteArray) (pos : Nat) (w : World) (hs : s.size ≤ 4294967296) (hp : pos < s.size) (hc1 : 238 ≤ bt s pos) (hc2 : bt s pos ≤ 239) :
    Calls Try.prog 88 #[.string s, .int .i64 pos] w fun e w' => e = .returned (.int .i64 (genV s pos 3 128 191)) ∧ w' = w := by
  have hb := get_bt s
  have n224 : (bt s pos == 224) = false := by rw [beq_eq_false_iff_ne]; omega
  have n237 : (bt s pos == 237) = false := by rw [beq_eq_false_iff_ne]; omega
  have n240 : (bt s pos == 240) = false := by rw [beq_eq_false_iff_ne]; omega
  have n244 : (bt s pos == 244) = false := by rw [beq_eq_false_iff_ne]; omega
  by_cases h3 : pos + 3 ≤ s.size
  · have h3' : ¬ ((s.size : Int) < (pos : Int) + 3) := by omega
    have h3i : (pos : Int) + 1 < (s.size : Nat) := by omega
    by_cases hlo : 128 ≤ bt s (pos + 1)
    · have hlo' : ¬ (bt s (pos + 1) < 128) := by omega
      by_cases hhi : bt s (pos + 1) ≤ 191
      · have hhi' : ¬ (191 < bt s (pos + 1)) := by omega
        go_enter Try.func88, Try.ntmps88
        go_wp2_with fail
        go_loopg [9] 1 (fun k i wr => ∃ j : Nat, i = .int .i64 j ∧ 2 ≤ j ∧ j ≤ 3 ∧ k = 3 - j ∧ Hid (∀ m, m < j → 2 ≤ m → 128 ≤ bt s (pos + m) ∧ bt s (pos + m) ≤ 191) ∧ wr = w)
        case atStart => exact ⟨2, rfl, by omega, by omega, by omega, fun m h1 h2 => by omega, rfl⟩
        case round =>
          obtain ⟨j, rfl, hj2, hj, hk, HC, rfl⟩ := hrel
          have Hk : Hid _ := hk
          clear hk
          by_cases hlt : j < 3
          · have hji : (pos : Int) + (j : Int) < (s.size : Nat) := by omega
            have hjn : pos + j < s.size := by omega
            by_cases ha : 128 ≤ bt s (pos + j)
            · by_cases hz : bt s (pos + j) ≤ 191
              · have HC2 : Hid (∀ m, m < j + 1 → 2 ≤ m → 128 ≤ bt s (pos + m) ∧ bt s (pos + m) ≤ 191) := fun m h1 h2 => by
                  by_cases e : m = j
                  · subst e; exact ⟨ha, hz⟩
                  · exact HC.out m (by omega) h2
                clear HC
                go_wp2_with fail
                go_roundg (3 - (j + 1))
                case measure => have := Hk.out; omega
                case rel => exact ⟨j + 1, by go_num, by omega, by omega, rfl, HC2, rfl⟩
              · have hz' : 191 < bt s (pos + j) := by omega
                clear HC
                go_wp2_with fail
                go_ret
                refine ⟨ret_i ?_, rfl⟩
                unfold genV
                rw [if_neg (fun h => by have := h.2.2.2 j hlt hj2; omega)]
            · have ha' : bt s (pos + j) < 128 := by omega
              clear HC
              go_wp2_with fail
              go_ret
              refine ⟨ret_i ?_, rfl⟩
              unfold genV
              rw [if_neg (fun h => by have := h.2.2.2 j hlt hj2; omega)]
          · have hjn : j = 3 := by omega
            subst hjn
            go_wp2_with fail
            go_ret
            refine ⟨ret_i ?_, rfl⟩
            unfold genV
            rw [if_pos ⟨h3, hlo, hhi, HC.out⟩]
            rfl
      · have hhi' : 191 < bt s (pos + 1) := by omega
        go_enter Try.func88, Try.ntmps88
        go_wp2_with fail
        go_ret
        refine ⟨ret_i ?_, rfl⟩
        unfold genV
        rw [if_neg (fun h => by omega)]
    · have hlo' : bt s (pos + 1) < 128 := by omega
      go_enter Try.func88, Try.ntmps88
      go_wp2_with fail
      go_ret
      refine ⟨ret_i ?_, rfl⟩
      unfold genV
      rw [if_neg (fun h => by omega)]
  · have h3' : (s.size : Int) < (pos : Int) + 3 := by omega
    go_enter Try.func88, Try.ntmps88
    go_wp2_with fail
    go_ret
    refine ⟨ret_i ?_, rfl⟩
    unfold genV
    rw [if_neg (fun h => by omega)]

set_option maxHeartbeats 2000000 in
theorem utf_f0 (s : ByteArray) (pos : Nat) (w : World) (hs : s.size ≤ 4294967296) (hp : pos < s.size) (hc : bt s pos = 240) :
    Calls Try.prog 88 #[.string s, .int .i64 pos] w fun e w' => e = .returned (.int .i64 (genV s pos 4 144 191)) ∧ w' = w := by
  have hb := get_bt s
  by_cases h3 : pos + 4 ≤ s.size
  · have h3' : ¬ ((s.size : Int) < (pos : Int) + 4) := by omega
    have h3i : (pos : Int) + 1 < (s.size : Nat) := by omega
    by_cases hlo : 144 ≤ bt s (pos + 1)
    · have hlo' : ¬ (bt s (pos + 1) < 144) := by omega
      by_cases hhi : bt s (pos + 1) ≤ 191
      · have hhi' : ¬ (191 < bt s (pos + 1)) := by omega
        go_enter Try.func88, Try.ntmps88
        go_wp2_with fail
        go_loopg [9] 2 (fun k i wr => ∃ j : Nat, i = .int .i64 j ∧ 2 ≤ j ∧ j ≤ 4 ∧ k = 4 - j ∧ Hid (∀ m, m < j → 2 ≤ m → 128 ≤ bt s (pos + m) ∧ bt s (pos + m) ≤ 191) ∧ wr = w)
        case atStart => exact ⟨2, rfl, by omega, by omega, by omega, fun m h1 h2 => by omega, rfl⟩
        case round =>
          obtain ⟨j, rfl, hj2, hj, hk, HC, rfl⟩ := hrel
          have Hk : Hid _ := hk
          clear hk
          by_cases hlt : j < 4
          · have hji : (pos : Int) + (j : Int) < (s.size : Nat) := by omega
            have hjn : pos + j < s.size := by omega
            by_cases ha : 128 ≤ bt s (pos + j)
            · by_cases hz : bt s (pos + j) ≤ 191
              · have HC2 : Hid (∀ m, m < j + 1 → 2 ≤ m → 128 ≤ bt s (pos + m) ∧ bt s (pos + m) ≤ 191) := fun m h1 h2 => by
                  by_cases e : m = j
                  · subst e; exact ⟨ha, hz⟩
                  · exact HC.out m (by omega) h2
                clear HC
                go_wp2_with fail
                go_roundg (4 - (j + 1))
                case measure => have := Hk.out; omega
                case rel => exact ⟨j + 1, by go_num, by omega, by omega, rfl, HC2, rfl⟩
              · have hz' : 191 < bt s (pos + j) := by omega
                clear HC
                go_wp2_with fail
                go_ret
                refine ⟨ret_i ?_, rfl⟩
                unfold genV
                rw [if_neg (fun h => by have := h.2.2.2 j hlt hj2; omega)]
            · have ha' : bt s (pos + j) < 128 := by omega
              clear HC
              go_wp2_with fail
              go_ret
              refine ⟨ret_i ?_, rfl⟩
              unfold genV
              rw [if_neg (fun h => by have := h.2.2.2 j hlt hj2; omega)]
          · have hjn : j = 4 := by omega
            subst hjn
            go_wp2_with fail
            go_ret
            refine ⟨ret_i ?_, rfl⟩
            unfold genV
            rw [if_pos ⟨h3, hlo, hhi, HC.out⟩]
            rfl
      · have hhi' : 191 < bt s (pos + 1) := by omega
        go_enter Try.func88, Try.ntmps88
        go_wp2_with fail
        go_ret
        refine ⟨ret_i ?_, rfl⟩
        unfold genV
        rw [if_neg (fun h => by omega)]
    · have hlo' : bt s (pos + 1) < 144 := by omega
      go_enter Try.func88, Try.ntmps88
      go_wp2_with fail
      go_ret
      refine ⟨ret_i ?_, rfl⟩
      unfold genV
      rw [if_neg (fun h => by omega)]
  · have h3' : (s.size : Int) < (pos : Int) + 4 := by omega
    go_enter Try.func88, Try.ntmps88
    go_wp2_with fail
    go_ret
    refine ⟨ret_i ?_, rfl⟩
    unfold genV
    rw [if_neg (fun h => by omega)]

set_option maxHeartbeats 2000000 in
theorem utf_f4 (s : ByteArray) (pos : Nat) (w : World) (hs : s.size ≤ 4294967296) (hp : pos < s.size) (hc : bt s pos = 244) :
    Calls Try.prog 88 #[.string s, .int .i64 pos] w fun e w' => e = .returned (.int .i64 (genV s pos 4 128 143)) ∧ w' = w := by
  have hb := get_bt s
  by_cases h3 : pos + 4 ≤ s.size
  · have h3' : ¬ ((s.size : Int) < (pos : Int) + 4) := by omega
    have h3i : (pos : Int) + 1 < (s.size : Nat) := by omega
    by_cases hlo : 128 ≤ bt s (pos + 1)
    · have hlo' : ¬ (bt s (pos + 1) < 128) := by omega
      by_cases hhi : bt s (pos + 1) ≤ 143
      · have hhi' : ¬ (143 < bt s (pos + 1)) := by omega
        go_enter Try.func88, Try.ntmps88
        go_wp2_with fail
        go_loopg [9] 2 (fun k i wr => ∃ j : Nat, i = .int .i64 j ∧ 2 ≤ j ∧ j ≤ 4 ∧ k = 4 - j ∧ Hid (∀ m, m < j → 2 ≤ m → 128 ≤ bt s (pos + m) ∧ bt s (pos + m) ≤ 191) ∧ wr = w)
        case atStart => exact ⟨2, rfl, by omega, by omega, by omega, fun m h1 h2 => by omega, rfl⟩
        case round =>
          obtain ⟨j, rfl, hj2, hj, hk, HC, rfl⟩ := hrel
          have Hk : Hid _ := hk
          clear hk
          by_cases hlt : j < 4
          · have hji : (pos : Int) + (j : Int) < (s.size : Nat) := by omega
            have hjn : pos + j < s.size := by omega
            by_cases ha : 128 ≤ bt s (pos + j)
            · by_cases hz : bt s (pos + j) ≤ 191
              · have HC2 : Hid (∀ m, m < j + 1 → 2 ≤ m → 128 ≤ bt s (pos + m) ∧ bt s (pos + m) ≤ 191) := fun m h1 h2 => by
                  by_cases e : m = j
                  · subst e; exact ⟨ha, hz⟩
                  · exact HC.out m (by omega) h2
                clear HC
                go_wp2_with fail
                go_roundg (4 - (j + 1))
                case measure => have := Hk.out; omega
                case rel => exact ⟨j + 1, by go_num, by omega, by omega, rfl, HC2, rfl⟩
              · have hz' : 191 < bt s (pos + j) := by omega
                clear HC
                go_wp2_with fail
                go_ret
                refine ⟨ret_i ?_, rfl⟩
                unfold genV
                rw [if_neg (fun h => by have := h.2.2.2 j hlt hj2; omega)]
            · have ha' : bt s (pos + j) < 128 := by omega
              clear HC
              go_wp2_with fail
              go_ret
              refine ⟨ret_i ?_, rfl⟩
              unfold genV
              rw [if_neg (fun h => by have := h.2.2.2 j hlt hj2; omega)]
          · have hjn : j = 4 := by omega
            subst hjn
            go_wp2_with fail
            go_ret
            refine ⟨ret_i ?_, rfl⟩
            unfold genV
            rw [if_pos ⟨h3, hlo, hhi, HC.out⟩]
            rfl
      · have hhi' : 143 < bt s (pos + 1) := by omega
        go_enter Try.func88, Try.ntmps88
        go_wp2_with fail
        go_ret
        refine ⟨ret_i ?_, rfl⟩
        unfold genV
        rw [if_neg (fun h => by omega)]
    · have hlo' : bt s (pos + 1) < 128 := by omega
      go_enter Try.func88, Try.ntmps88
      go_wp2_with fail
      go_ret
      refine ⟨ret_i ?_, rfl⟩
      unfold genV
      rw [if_neg (fun h => by omega)]
  · have h3' : (s.size : Int) < (pos : Int) + 4 := by omega
    go_enter Try.func88, Try.ntmps88
    go_wp2_with fail
    go_ret
    refine ⟨ret_i ?_, rfl⟩
    unfold genV
    rw [if_neg (fun h => by omega)]

set_option maxHeartbeats 2000000 in
theorem utf_four (s : ByteArray) (pos : Nat) (w : World) (hs : s.size ≤ 4294967296) (hp : pos < s.size) (hc1 : 241 ≤ bt s pos) (hc2 : bt s pos ≤ 243) :
    Calls Try.prog 88 #[.string s, .int .i64 pos] w fun e w' => e = .returned (.int .i64 (genV s pos 4 128 191)) ∧ w' = w := by
  have hb := get_bt s
  have n224 : (bt s pos == 224) = false := by rw [beq_eq_false_iff_ne]; omega
  have n237 : (bt s pos == 237) = false := by rw [beq_eq_false_iff_ne]; omega
  have n240 : (bt s pos == 240) = false := by rw [beq_eq_false_iff_ne]; omega
  have n244 : (bt s pos == 244) = false := by rw [beq_eq_false_iff_ne]; omega
  by_cases h3 : pos + 4 ≤ s.size
  · have h3' : ¬ ((s.size : Int) < (pos : Int) + 4) := by omega
    have h3i : (pos : Int) + 1 < (s.size : Nat) := by omega
    by_cases hlo : 128 ≤ bt s (pos + 1)
    · have hlo' : ¬ (bt s (pos + 1) < 128) := by omega
      by_cases hhi : bt s (pos + 1) ≤ 191
      · have hhi' : ¬ (191 < bt s (pos + 1)) := by omega
        go_enter Try.func88, Try.ntmps88
        go_wp2_with fail
        go_loopg [9] 2 (fun k i wr => ∃ j : Nat, i = .int .i64 j ∧ 2 ≤ j ∧ j ≤ 4 ∧ k = 4 - j ∧ Hid (∀ m, m < j → 2 ≤ m → 128 ≤ bt s (pos + m) ∧ bt s (pos + m) ≤ 191) ∧ wr = w)
        case atStart => exact ⟨2, rfl, by omega, by omega, by omega, fun m h1 h2 => by omega, rfl⟩
        case round =>
          obtain ⟨j, rfl, hj2, hj, hk, HC, rfl⟩ := hrel
          have Hk : Hid _ := hk
          clear hk
          by_cases hlt : j < 4
          · have hji : (pos : Int) + (j : Int) < (s.size : Nat) := by omega
            have hjn : pos + j < s.size := by omega
            by_cases ha : 128 ≤ bt s (pos + j)
            · by_cases hz : bt s (pos + j) ≤ 191
              · have HC2 : Hid (∀ m, m < j + 1 → 2 ≤ m → 128 ≤ bt s (pos + m) ∧ bt s (pos + m) ≤ 191) := fun m h1 h2 => by
                  by_cases e : m = j
                  · subst e; exact ⟨ha, hz⟩
                  · exact HC.out m (by omega) h2
                clear HC
                go_wp2_with fail
                go_roundg (4 - (j + 1))
                case measure => have := Hk.out; omega
                case rel => exact ⟨j + 1, by go_num, by omega, by omega, rfl, HC2, rfl⟩
              · have hz' : 191 < bt s (pos + j) := by omega
                clear HC
                go_wp2_with fail
                go_ret
                refine ⟨ret_i ?_, rfl⟩
                unfold genV
                rw [if_neg (fun h => by have := h.2.2.2 j hlt hj2; omega)]
            · have ha' : bt s (pos + j) < 128 := by omega
              clear HC
              go_wp2_with fail
              go_ret
              refine ⟨ret_i ?_, rfl⟩
              unfold genV
              rw [if_neg (fun h => by have := h.2.2.2 j hlt hj2; omega)]
          · have hjn : j = 4 := by omega
            subst hjn
            go_wp2_with fail
            go_ret
            refine ⟨ret_i ?_, rfl⟩
            unfold genV
            rw [if_pos ⟨h3, hlo, hhi, HC.out⟩]
            rfl
      · have hhi' : 191 < bt s (pos + 1) := by omega
        go_enter Try.func88, Try.ntmps88
        go_wp2_with fail
        go_ret
        refine ⟨ret_i ?_, rfl⟩
        unfold genV
        rw [if_neg (fun h => by omega)]
    · have hlo' : bt s (pos + 1) < 128 := by omega
      go_enter Try.func88, Try.ntmps88
      go_wp2_with fail
      go_ret
      refine ⟨ret_i ?_, rfl⟩
      unfold genV
      rw [if_neg (fun h => by omega)]
  · have h3' : (s.size : Int) < (pos : Int) + 4 := by omega
    go_enter Try.func88, Try.ntmps88
    go_wp2_with fail
    go_ret
    refine ⟨ret_i ?_, rfl⟩
    unfold genV
    rw [if_neg (fun h => by omega)]

theorem utf_one (s : ByteArray) (pos : Nat) (w : World) (hp : pos < s.size) (hc : bt s pos < 128) :
    Calls Try.prog 88 #[.string s, .int .i64 pos] w fun e w' => e = .returned (.int .i64 1) ∧ w' = w := by
  have hb := get_bt s
  go_enter Try.func88, Try.ntmps88
  go_wp2_with fail
  go_ret
  exact ⟨rfl, rfl⟩

theorem utf_low (s : ByteArray) (pos : Nat) (w : World) (hp : pos < s.size) (hc1 : 128 ≤ bt s pos) (hc2 : bt s pos < 194) :
    Calls Try.prog 88 #[.string s, .int .i64 pos] w fun e w' => e = .returned (.int .i64 0) ∧ w' = w := by
  have hb := get_bt s
  have a1 : ¬ (194 ≤ bt s pos) := by omega
  have a2 : ¬ (224 ≤ bt s pos) := by omega
  have a3 : ¬ (240 ≤ bt s pos) := by omega
  go_enter Try.func88, Try.ntmps88
  go_wp2_with fail
  go_ret
  exact ⟨rfl, rfl⟩

theorem utf_high (s : ByteArray) (pos : Nat) (w : World) (hp : pos < s.size) (hc1 : 244 < bt s pos) :
    Calls Try.prog 88 #[.string s, .int .i64 pos] w fun e w' => e = .returned (.int .i64 0) ∧ w' = w := by
  have hb := get_bt s
  have a0 : ¬ (bt s pos < 128) := by omega
  have a1 : ¬ (bt s pos ≤ 223) := by omega
  have a2 : ¬ (bt s pos ≤ 239) := by omega
  have a3 : ¬ (bt s pos ≤ 244) := by omega
  go_enter Try.func88, Try.ntmps88
  go_wp2_with fail
  go_ret
  exact ⟨rfl, rfl⟩

theorem utf_any (s : ByteArray) (pos : Nat) (w : World) (hs : s.size ≤ 4294967296) (hp : pos < s.size) :
    Calls Try.prog 88 #[.string s, .int .i64 pos] w fun e w' => e = .returned (.int .i64 (utfW s pos)) ∧ w' = w := by
  unfold utfW
  by_cases h0 : bt s pos < 128
  · rw [if_pos h0]; exact utf_one s pos w hp h0
  · rw [if_neg h0]
    by_cases h1 : 194 ≤ bt s pos ∧ bt s pos ≤ 223
    · rw [if_pos h1]; exact utf_two s pos w hs hp h1.1 h1.2
    · rw [if_neg h1]
      by_cases h2 : bt s pos = 224
      · rw [if_pos h2]; exact utf_e0 s pos w hs hp h2
      · rw [if_neg h2]
        by_cases h3 : bt s pos = 237
        · rw [if_pos h3]; exact utf_ed s pos w hs hp h3
        · rw [if_neg h3]
          by_cases h4 : 225 ≤ bt s pos ∧ bt s pos ≤ 239
          · rw [if_pos h4]
            by_cases h5 : bt s pos ≤ 236
            · exact utf_three1 s pos w hs hp h4.1 h5
            · exact utf_three2 s pos w hs hp (by omega) h4.2
          · rw [if_neg h4]
            by_cases h6 : bt s pos = 240
            · rw [if_pos h6]; exact utf_f0 s pos w hs hp h6
            · rw [if_neg h6]
              by_cases h7 : bt s pos = 244
              · rw [if_pos h7]; exact utf_f4 s pos w hs hp h7
              · rw [if_neg h7]
                by_cases h8 : 241 ≤ bt s pos ∧ bt s pos ≤ 243
                · rw [if_pos h8]; exact utf_four s pos w hs hp h8.1 h8.2
                · rw [if_neg h8]
                  by_cases h9 : bt s pos < 194
                  · exact utf_low s pos w hp (by omega) h9
                  · exact utf_high s pos w hp (by omega)

end Go.Proofs.Ytfedbbicolbngaa
