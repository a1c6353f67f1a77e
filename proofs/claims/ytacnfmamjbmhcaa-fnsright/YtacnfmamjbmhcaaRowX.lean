/-
  Rows of values that lie in blocks that X holds of.
-/
import Derived.Test.YtacnfmamjbmhcaaLiesX
import Derived.Test.YtacnfmamjbmhcaaOwnRow
namespace Go.Proofs.Ytacnfmamjbmhcaa
open Go.RowKit

theorem LiesX.row {X : Nat → Prop} {d : Nat} {w : World} {l : List VT} {v : Value} (h : LiesX X (d + 1) w l v) :
    ∃ a c, v = .slice a l.length c ∧ ∃ ps : List (VT × Value), ps.map (·.1) = l ∧ (∀ p ∈ ps, LiesX X d w p.1.items p.2 ∧ p.1.text.size ≤ 9223372036854775807) ∧ (l ≠ [] → ∃ b o, a = some ⟨b, o, none⟩ ∧ X b ∧ RowAt w b o ps) := by
  obtain ⟨a, c, hv, hb, hr⟩ := h
  refine ⟨a, c, hv, ?_⟩
  by_cases hne : l = []
  · subst hne; exact ⟨[], rfl, (fun p hp => by cases hp), fun h => absurd rfl h⟩
  · obtain ⟨b, o, ha, hX, hall⟩ := hr hne
    have hinh : Inhabited Value := ⟨.bool false⟩
    have hh : ∀ i, i < l.length → ∃ u : Value, ∀ h : i < l.length, w.cell? ⟨b, o + i * 4, none⟩ = some (.int .i64 (l[i]'h).kind) ∧ w.cell? ⟨b, o + i * 4 + 1, none⟩ = some (.int .i64 (l[i]'h).num) ∧
        w.cell? ⟨b, o + i * 4 + 2, none⟩ = some (.string (l[i]'h).text) ∧ w.cell? ⟨b, o + i * 4 + 3, none⟩ = some u ∧ LiesX X d w (l[i]'h).items u ∧ (l[i]'h).text.size ≤ 9223372036854775807 := fun i hi => by
      obtain ⟨u, hu⟩ := hall i hi
      exact ⟨u, fun _ => hu⟩
    obtain ⟨f, hf⟩ := Go.Deep.choose_lt hh
    refine ⟨l.zipIdx.map (fun q => (q.1, f q.2)), ?_, ?_, fun _ => ⟨b, o, ha, hX, ?_⟩⟩
    · rw [List.map_map]
      show l.zipIdx.map (fun q => q.1) = l
      rw [List.zipIdx_map_fst]
    · intro p hp
      obtain ⟨q, hq, rfl⟩ := List.mem_map.1 hp
      obtain ⟨i, hi, hqe⟩ := List.getElem_of_mem hq
      rw [List.getElem_zipIdx] at hqe
      have hi' : i < l.length := by simpa using hi
      subst hqe
      have := hf i hi' hi'
      simp only [Nat.zero_add]
      exact ⟨this.2.2.2.2.1, this.2.2.2.2.2⟩
    · intro i hi
      have hi' : i < l.length := by simpa using hi
      have := hf i hi' hi'
      simp only [List.getElem_map, List.getElem_zipIdx, Nat.zero_add]
      exact ⟨this.1, this.2.1, this.2.2.1, this.2.2.2.1⟩

theorem liesX_row {X : Nat → Prop} {d : Nat} {w : World} {b o c : Nat} {ps : List (VT × Value)} (h : RowAt w b o ps) (hX : X b) (hs : ∀ p ∈ ps, LiesX X d w p.1.items p.2 ∧ p.1.text.size ≤ 9223372036854775807) (hl : ps.length ≤ 9223372036854775807) (hc : ps.length ≤ c) :
    LiesX X (d + 1) w (ps.map (·.1)) (.slice (some ⟨b, o, none⟩) ps.length c) := by
  refine ⟨some ⟨b, o, none⟩, c, by simp, by simp; omega, fun _ => ⟨b, o, rfl, hX, fun i hi => ?_⟩⟩
  have hi' : i < ps.length := by simpa using hi
  obtain ⟨k0, k1, k2, k3⟩ := h i hi'
  have hsd := hs ps[i] (List.getElem_mem hi')
  simp only [List.getElem_map]
  exact ⟨_, k0, k1, k2, k3, hsd.1, hsd.2⟩

end Go.Proofs.Ytacnfmamjbmhcaa

