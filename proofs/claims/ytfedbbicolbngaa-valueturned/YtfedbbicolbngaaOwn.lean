/-
  The contract of the document's own at every value: it is the program's.
-/
import Derived.Test.YtfedbbicolbngaaOwn3
namespace Go.Proofs.Ytfedbbicolbngaa
open Go.RowKit

theorem ret_b {a b : Bool} (h : a = b) : Ending.returned (.bool a) = .returned (.bool b) := by rw [h]

theorem len_beq (n : Nat) : ((n : Int) == 0) = decide (n = 0) := by
  by_cases h : n = 0
  · subst h; rfl
  · rw [decide_eq_false h, beq_eq_false_iff_ne]; omega

theorem items_none {d : Nat} {t : VT} (h4 : t.kind ≠ 4) (h5 : t.kind ≠ 5) (h6 : t.kind ≠ 6) : okItems d t = decide (t.items.length = 0) := by
  unfold okItems
  rw [if_neg (by simpa using h4), if_neg (by simpa using h5), if_neg (by simpa using h6), len_beq]

theorem own_any (d : Nat) (t : VT) (u : Value) (w : World) (hu : Lies (d + 1) w t.items u) (hlen : t.items.length ≤ 1024) :
    Calls Try.prog 63 #[.agg #[.int .i64 t.kind, .int .i64 t.num, .string t.text, u]] w fun e w' => e = .returned (.bool (ownV d t)) ∧ Below w.heap.size w w' := by
  have hu0 := hu
  obtain ⟨a, c, rfl, _⟩ := Lies.slice hu
  by_cases hr : t.kind < 0 ∨ 6 < t.kind
  · refine (own_out t a t.items.length c w hr).mono fun e w' ⟨he, hb⟩ => ⟨he.trans (ret_b ?_), hb⟩
    unfold ownV
    by_cases h0 : 0 ≤ t.kind
    · simp [show ¬ t.kind ≤ 6 by omega]
    · simp [h0]
  · have h0 : 0 ≤ t.kind := by omega
    have h6 : t.kind ≤ 6 := by omega
    have hov : ownV d t = (okNum t && (okText t && okItems d t)) := by unfold ownV; simp [h0, h6]
    rw [hov]
    cases hn : okNum t
    · exact own_num t a t.items.length c w h0 h6 hn
    · rw [Bool.true_and]
      cases h3 : (t.kind == 3)
      · have hot : okText t = t.text.toList.isEmpty := by unfold okText; rw [h3]; rfl
        rw [hot]
        cases ht : t.text.toList.isEmpty
        · exact own_txt t a t.items.length c w h0 h6 hn h3 ht
        · rw [Bool.true_and]
          have k3 : t.kind ≠ 3 := by simpa using h3
          have hk : t.kind = 0 ∨ t.kind = 1 ∨ t.kind = 2 ∨ t.kind = 4 ∨ t.kind = 5 ∨ t.kind = 6 := by omega
          rcases hk with hk | hk | hk | hk | hk | hk
          · have hz : t.num = 0 := by simpa [okNum, hk] using hn
            rw [hk, hz]
            exact (own_k0_0 t.text a t.items.length c w ht).mono fun e w' ⟨he, hb⟩ => ⟨he.trans (ret_b (items_none (by omega) (by omega) (by omega)).symm), hb⟩
          · have hz : t.num = 0 ∨ t.num = 1 := by simpa [okNum, hk] using hn
            rcases hz with hz | hz
            · rw [hk, hz]
              exact (own_k1_0 t.text a t.items.length c w ht).mono fun e w' ⟨he, hb⟩ => ⟨he.trans (ret_b (items_none (by omega) (by omega) (by omega)).symm), hb⟩
            · rw [hk, hz]
              exact (own_k1_1 t.text a t.items.length c w ht).mono fun e w' ⟨he, hb⟩ => ⟨he.trans (ret_b (items_none (by omega) (by omega) (by omega)).symm), hb⟩
          · rw [hk]
            exact (own_k2_n t.num t.text a t.items.length c w ht).mono fun e w' ⟨he, hb⟩ => ⟨he.trans (ret_b (items_none (by omega) (by omega) (by omega)).symm), hb⟩
          · have hz : t.num = 0 := by simpa [okNum, hk] using hn
            rw [hk, hz]
            refine (own_k4_0 t.text a t.items.length c w ht).mono fun e w' ⟨he, hb⟩ => ⟨he.trans (ret_b ?_), hb⟩
            simp [okItems, hk]
          · have hz : t.num = 0 := by simpa [okNum, hk] using hn
            rw [hk, hz]
            refine (own_k5 d t.items t.text _ w hu0 hlen ht).mono fun e w' ⟨he, hb⟩ => ⟨he.trans (ret_b ?_), hb⟩
            simp [okItems, hk]
          · have hz : t.num = 0 := by simpa [okNum, hk] using hn
            rw [hk, hz]
            by_cases hev : t.items.length % 2 = 0
            · refine (own_k6 d t.items t.text _ w hu0 hlen ht hev).mono fun e w' ⟨he, hb⟩ => ⟨he.trans (ret_b ?_), hb⟩
              have : ((t.items.length : Int) % 2 == 0) = true := by rw [beq_iff_eq]; omega
              simp [okItems, hk, this]
            · refine (own_odd t.items.length t.text a c w ht (by omega)).mono fun e w' ⟨he, hb⟩ => ⟨he.trans (ret_b ?_), hb⟩
              have : ((t.items.length : Int) % 2 == 0) = false := by rw [beq_eq_false_iff_ne]; omega
              simp [okItems, hk, this]
      · have k3 : t.kind = 3 := by simpa using h3
        have hz : t.num = 0 := by simpa [okNum, k3] using hn
        refine (own_text3 t a c w k3 hz).mono fun e w' ⟨he, hb⟩ => ⟨he.trans (ret_b ?_), hb⟩
        rw [items_none (by omega) (by omega) (by omega)]
        simp [okText, k3, Bool.and_assoc]

end Go.Proofs.Ytfedbbicolbngaa
