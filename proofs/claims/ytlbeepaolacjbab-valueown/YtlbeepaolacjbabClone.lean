/-
  A list of values as a row of pairs, and the contract of slices.Clone.
-/
import Derived.Test.YtlbeepaolacjbabFit
import Derived.Test.YtlbeepaolacjbabInt1
import Derived.Deep.Slices
namespace Go.Proofs.Ytlbeepaolacjbab
open Go.RowKit

/-- A tree and the slice of its items: what one element holds. -/
def encP (p : VT × Value) : List Value := [.int .i64 p.1.kind, .int .i64 p.1.num, .string p.1.text, p.2]

/-- The element is sound in w. -/
def Sound (d : Nat) (w : World) (p : VT × Value) : Prop := Lies d w p.1.items p.2 ∧ p.1.text.size ≤ 9223372036854775807

theorem Sound.keeps {d : Nat} {w w' : World} {p : VT × Value} (h : Sound d w p) (hb : Below w.heap.size w w') : Sound d w' p := ⟨Lies.keeps hb _ _ _ h.1, h.2⟩

theorem encP_one {d : Nat} {w : World} {p : VT × Value} (h : Sound d w p) : ∀ v ∈ encP p, v.oneCell' = true := by
  obtain ⟨a, c, e, _⟩ := Lies.slice h.1
  intro v hv
  simp [encP] at hv
  rcases hv with rfl | rfl | rfl | rfl
  · rfl
  · rfl
  · rfl
  · rw [e]; rfl

theorem flat_len (ps : List (VT × Value)) : (ps.flatMap encP).length = ps.length * 4 := by
  induction ps with
  | nil => rfl
  | cons p ps ih => rw [List.flatMap_cons, List.length_append, ih, List.length_cons]; simp [encP]; omega

theorem flat_at : ∀ (ps : List (VT × Value)) (i r : Nat) (h : i < ps.length), r < 4 → (ps.flatMap encP)[i * 4 + r]? = (encP ps[i])[r]? := by
  intro ps
  induction ps with
  | nil => intro i r h; cases h
  | cons p ps ih =>
    intro i r h hr
    rw [List.flatMap_cons]
    cases i with
    | zero =>
      rw [List.getElem?_append_left (by simp [encP]; omega)]; simp
    | succ i =>
      rw [List.getElem?_append_right (by simp [encP]; omega)]
      have e : (i + 1) * 4 + r - (encP p).length = i * 4 + r := by simp [encP]; omega
      rw [e, ih i r (by simpa using h) hr]; rfl

/-- The row of a slice: its elements lie one behind the other from place o of block b on. -/
def RowAt (w : World) (b o : Nat) (ps : List (VT × Value)) : Prop := ∀ (i : Nat) (h : i < ps.length),
  w.cell? ⟨b, o + i * 4, none⟩ = some (.int .i64 (ps[i]'h).1.kind) ∧ w.cell? ⟨b, o + i * 4 + 1, none⟩ = some (.int .i64 (ps[i]'h).1.num) ∧
  w.cell? ⟨b, o + i * 4 + 2, none⟩ = some (.string (ps[i]'h).1.text) ∧ w.cell? ⟨b, o + i * 4 + 3, none⟩ = some (ps[i]'h).2

theorem RowAt.keeps {w w' : World} {b o : Nat} {ps : List (VT × Value)} (h : RowAt w b o ps) (hb : Below w.heap.size w w') : RowAt w' b o ps := fun i hi =>
  ⟨cell_keeps hb (h i hi).1, cell_keeps hb (h i hi).2.1, cell_keeps hb (h i hi).2.2.1, cell_keeps hb (h i hi).2.2.2⟩

theorem RowAt.flat {w : World} {b o : Nat} {ps : List (VT × Value)} (h : RowAt w b o ps) : ∀ j u, (ps.flatMap encP)[j]? = some u → w.cell? ⟨b, o + j, none⟩ = some u := by
  intro j u hj
  have hlt : j < (ps.flatMap encP).length := by
    by_cases hl : j < (ps.flatMap encP).length
    · exact hl
    · rw [List.getElem?_eq_none (by omega)] at hj; cases hj
  rw [flat_len] at hlt
  have hi : j / 4 < ps.length := by omega
  have hr : j % 4 < 4 := by omega
  have hjj : j = j / 4 * 4 + j % 4 := by omega
  rw [hjj, flat_at ps (j / 4) (j % 4) hi hr] at hj
  obtain ⟨k0, k1, k2, k3⟩ := h (j / 4) hi
  generalize hq : j / 4 = q at *
  generalize hm : j % 4 = m at *
  rw [hjj]
  clear hjj hlt
  match m, hr with
  | 0, _ => simp [encP] at hj; subst hj; rw [Nat.add_zero]; exact k0
  | 1, _ => simp [encP] at hj; subst hj; rw [← Nat.add_assoc]; exact k1
  | 2, _ => simp [encP] at hj; subst hj; rw [← Nat.add_assoc]; exact k2
  | 3, _ => simp [encP] at hj; subst hj; rw [← Nat.add_assoc]; exact k3

theorem RowAt.of_flat {w : World} {b o : Nat} {ps : List (VT × Value)} (h : ∀ j u, (ps.flatMap encP)[j]? = some u → w.cell? ⟨b, o + j, none⟩ = some u) : RowAt w b o ps := by
  intro i hi
  refine ⟨h (i * 4 + 0) _ ?_, h (i * 4 + 1) _ ?_, h (i * 4 + 2) _ ?_, h (i * 4 + 3) _ ?_⟩
  all_goals (rw [flat_at ps i _ hi (by omega)]; rfl)

/-- A list that lies in memory, as a row. -/
theorem Lies.row {d : Nat} {w : World} {l : List VT} {v : Value} (h : Lies (d + 1) w l v) :
    ∃ a c, v = .slice a l.length c ∧ l.length ≤ 9223372036854775807 ∧ ∃ ps : List (VT × Value), ps.map (·.1) = l ∧ (∀ p ∈ ps, Sound d w p) ∧ (l ≠ [] → ∃ b o, a = some ⟨b, o, none⟩ ∧ RowAt w b o ps) := by
  obtain ⟨a, c, hv, hb, hr⟩ := h
  refine ⟨a, c, hv, hb.2, ?_⟩
  by_cases hne : l = []
  · subst hne; exact ⟨[], rfl, (fun p hp => by cases hp), fun h => absurd rfl h⟩
  · obtain ⟨b, o, ha, hall⟩ := hr hne
    have hinh : Inhabited Value := ⟨.bool false⟩
    have hh : ∀ i, i < l.length → ∃ u : Value, ∀ h : i < l.length, w.cell? ⟨b, o + i * 4, none⟩ = some (.int .i64 (l[i]'h).kind) ∧ w.cell? ⟨b, o + i * 4 + 1, none⟩ = some (.int .i64 (l[i]'h).num) ∧
        w.cell? ⟨b, o + i * 4 + 2, none⟩ = some (.string (l[i]'h).text) ∧ w.cell? ⟨b, o + i * 4 + 3, none⟩ = some u ∧ Lies d w (l[i]'h).items u ∧ (l[i]'h).text.size ≤ 9223372036854775807 := fun i hi => by
      obtain ⟨u, hu⟩ := hall i hi
      exact ⟨u, fun _ => hu⟩
    obtain ⟨f, hf⟩ := Go.Deep.choose_lt hh
    refine ⟨l.zipIdx.map (fun q => (q.1, f q.2)), ?_, ?_, fun _ => ⟨b, o, ha, ?_⟩⟩
    · rw [List.map_map]
      show l.zipIdx.map (fun q => q.1) = l
      rw [List.zipIdx_map_fst]
    · intro p hp
      obtain ⟨q, hq, rfl⟩ := List.mem_map.1 hp
      obtain ⟨i, hi, hqe⟩ := List.getElem_of_mem hq
      rw [List.getElem_zipIdx] at hqe
      have hi' : i < l.length := by simpa using hi
      subst hqe
      have := hf i hi' hi'
      simp only [Nat.zero_add]
      exact ⟨this.2.2.2.2.1, this.2.2.2.2.2⟩
    · intro i hi
      have hi' : i < l.length := by simpa using hi
      have := hf i hi' hi'
      simp only [List.getElem_map, List.getElem_zipIdx, Nat.zero_add]
      exact ⟨this.1, this.2.1, this.2.2.1, this.2.2.2.1⟩

/-- Back: a row as a list that lies in memory. -/
theorem lies_of_row {d : Nat} {w : World} {b o c : Nat} {ps : List (VT × Value)} (h : RowAt w b o ps) (hs : ∀ p ∈ ps, Sound d w p) (hl : ps.length ≤ 9223372036854775807) (hc : ps.length ≤ c) :
    Lies (d + 1) w (ps.map (·.1)) (.slice (some ⟨b, o, none⟩) ps.length c) := by
  refine ⟨some ⟨b, o, none⟩, c, by simp, by simp; omega, fun _ => ⟨b, o, rfl, fun i hi => ?_⟩⟩
  have hi' : i < ps.length := by simpa using hi
  obtain ⟨k0, k1, k2, k3⟩ := h i hi'
  have hsd := hs ps[i] (List.getElem_mem hi')
  simp only [List.getElem_map]
  exact ⟨_, k0, k1, k2, k3, hsd.1, hsd.2⟩

end Go.Proofs.Ytlbeepaolacjbab
