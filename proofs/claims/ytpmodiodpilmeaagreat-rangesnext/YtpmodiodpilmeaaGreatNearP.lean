/-
  Places, plain: what stands at a rank.
-/
import Derived.Test.YtpmodiodpilmeaaGreatRankLaw
namespace Go.Proofs.YtpmodiodpilmeaaGreat
open Go.RowKit Go.Shelf

theorem upTo_len {w : World} {q b : Nat} {t : RT PT} (y : VT) (c : Bool) (h : MC w q t b) : RT.upTo (atK q y) c t = (t.items.filter (RT.ahead (atK q y) c)).length :=
  RT.upTo_items (atK q y) c t (RT.Rises.falls (byK_cmp q) h.rises (y, y))

theorem upTo_is {w : World} {q b : Nat} {t : RT PT} (y : VT) (c : Bool) (h : MC w q t b) (i : Nat) (x : PT) (hx : t.items[i]? = some x) : RT.ahead (atK q y) c x = true ↔ i < RT.upTo (atK q y) c t := by
  rw [upTo_len y c h]
  exact (filter_ahead (atK q y) c t.items (RT.Rises.falls (byK_cmp q) h.rises (y, y))).2 i x hx

theorem upTo_lel {w : World} {q b : Nat} {t : RT PT} (y : VT) (c : Bool) (h : MC w q t b) : RT.upTo (atK q y) c t ≤ t.items.length := by
  rw [upTo_len y c h]
  exact List.length_filter_le _ _

theorem falls_next {w : World} {q b : Nat} {t : RT PT} (y : VT) (h : MC w q t b) {i j : Nat} {x z : PT} (hx : t.items[i]? = some x) (hz : t.items[j]? = some z) (hij : i < j) (h0 : atK q y x ≤ 0) : atK q y z < 0 := by
  have hf : RT.Falls (atK q y) t.items := RT.Rises.falls (byK_cmp q) h.rises (y, y)
  obtain ⟨hi, e1⟩ := List.getElem?_eq_some_iff.1 hx
  obtain ⟨hj, e2⟩ := List.getElem?_eq_some_iff.1 hz
  have h9 := List.pairwise_iff_getElem.1 hf i j hi hj hij
  rw [e1, e2] at h9
  exact h9 h0

theorem upTo_there {w : World} {q b : Nat} {t : RT PT} {y : VT} (h : MC w q t b) (hy : Good 16 y) : RT.upTo (atK q y) true t = RT.upTo (atK q y) false t + (if thereR q t.items y then 1 else 0) := by
  obtain ⟨n, hn⟩ : ∃ n, n = RT.upTo (atK q y) false t := ⟨_, rfl⟩
  obtain ⟨m, hm⟩ : ∃ m, m = RT.upTo (atK q y) true t := ⟨_, rfl⟩
  have A := fun i x hx => upTo_is y false h i x hx
  have B := fun i x hx => upTo_is y true h i x hx
  have hnl := upTo_lel y false h
  have hml := upTo_lel y true h
  have hth : thereR q t.items y = (match t.items[n]? with | some x => cmpV 16 x.1 y == 0 | none => false) := by unfold thereR; rw [rank_up h, ← hn]; try rfl
  rw [← hn] at A hnl; rw [← hm] at B hml
  rw [← hn, ← hm, hth]
  have hge : n ≤ m := by
    by_cases hlt : m < n
    · have hl : m < t.items.length := by omega
      have e := List.getElem?_eq_getElem hl
      have h1 := (A m _ e).2 hlt
      have h2 : RT.ahead (atK q y) true t.items[m] = true := by
        simp only [RT.ahead, Bool.and_false, Bool.or_false, Bool.and_true, decide_eq_true_eq, Bool.or_eq_true] at h1 ⊢
        exact .inl h1
      exact absurd ((B m _ e).1 h2) (Nat.lt_irrefl _)
    · omega
  cases hx : t.items[n]? with
  | none =>
    have h9 := List.getElem?_eq_none_iff.1 hx
    simp
    omega
  | some x =>
    simp only
    have hl : n < t.items.length := (List.getElem?_eq_some_iff.1 hx).1
    have hxm : x ∈ t.items := List.mem_of_getElem? hx
    have gx := (h.right x hxm).1
    have hz : (cmpV 16 x.1 y == 0) = decide (atK q y x = 0) := by
      have h8 := ordV_zero q gx hy
      have h7 := ordV_turn q x.1 y
      have h6 : atK q y x = ordV q y x.1 := rfl
      rw [h6, h7]
      by_cases e : cmpV 16 x.1 y = 0
      · rw [e, h8.2 e]; rfl
      · have e2 := mt h8.1 e
        have e3 : ¬ (- ordV q x.1 y = 0) := by omega
        simp [e, e2]
    simp only [hz]
    have hnot : ¬ 0 < atK q y x := fun hp => by
      have h9 := (A n x hx).1 (by simp [RT.ahead, hp])
      omega
    by_cases e : atK q y x = 0
    · simp only [e, decide_true, if_true]
      have h1 := (B n x hx).1 (by simp [RT.ahead, e])
      by_cases hlt : n + 1 < m
      · have hl2 : n + 1 < t.items.length := by omega
        have e2 := List.getElem?_eq_getElem hl2
        have h2 := (B (n + 1) _ e2).2 hlt
        have h3 := falls_next y h hx e2 (Nat.lt_succ_self n) (by omega)
        simp only [RT.ahead, Bool.and_true, decide_eq_true_eq, Bool.or_eq_true] at h2
        omega
      · omega
    · simp only [e, decide_false, Bool.false_eq_true, if_false]
      by_cases hlt : n < m
      · have h2 := (B n x hx).2 hlt
        simp only [RT.ahead, Bool.and_true, decide_eq_true_eq, Bool.or_eq_true] at h2
        omega
      · omega

theorem upTo_at {w : World} {q b : Nat} {t : RT PT} (h : MC w q t b) {i : Nat} {x : PT} (hx : t.items[i]? = some x) (c : Bool) : RT.upTo (atK q x.1) c t = i + (if c then 1 else 0) := by
  have A := fun j z hz => upTo_is x.1 c h j z hz
  have hl := upTo_lel x.1 c h
  generalize RT.upTo (atK q x.1) c t = n at *
  have hil : i < t.items.length := (List.getElem?_eq_some_iff.1 hx).1
  have h0 : atK q x.1 x = 0 := ordV_self q x.1
  have hge : i ≤ n := by
    by_cases hlt : n < i
    · have hnl : n < t.items.length := by omega
      have e := List.getElem?_eq_getElem hnl
      have h9 := List.pairwise_iff_getElem.1 h.rises n i hnl hil hlt
      have ex : t.items[i] = x := (List.getElem?_eq_some_iff.1 hx).2
      rw [ex] at h9
      have h8 : atK q x.1 t.items[n] > 0 := by
        have h7 : byK q t.items[n] x = ordV q t.items[n].1 x.1 := rfl
        have h6 : atK q x.1 t.items[n] = ordV q x.1 t.items[n].1 := rfl
        have h5 := ordV_turn q t.items[n].1 x.1
        rw [h6, h5]
        rw [h7] at h9
        omega
      exact absurd ((A n _ e).1 (by simp only [RT.ahead, Bool.or_eq_true, decide_eq_true_eq]; exact .inl h8)) (Nat.lt_irrefl _)
    · omega
  cases c with
  | false =>
    simp only [Bool.false_eq_true, if_false]
    by_cases hlt : i < n
    · have h9 := (A i x hx).2 hlt
      simp only [RT.ahead, Bool.and_false, Bool.or_false, decide_eq_true_eq] at h9
      omega
    · omega
  | true =>
    simp only [if_true]
    have h1 := (A i x hx).1 (by simp [RT.ahead, h0])
    by_cases hlt : i + 1 < n
    · have hl2 : i + 1 < t.items.length := by omega
      have e2 := List.getElem?_eq_getElem hl2
      have h2 := (A (i + 1) _ e2).2 hlt
      have h3 := falls_next x.1 h hx e2 (Nat.lt_succ_self i) (by omega)
      simp only [RT.ahead, Bool.and_true, decide_eq_true_eq, Bool.or_eq_true] at h2
      omega
    · omega

end Go.Proofs.YtpmodiodpilmeaaGreat

