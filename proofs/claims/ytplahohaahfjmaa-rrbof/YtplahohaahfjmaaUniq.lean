/-
  Rows without what stands twice in a row: plain mathematics, and what a store does to a row.
-/
import Derived.Test.YtplahohaahfjmaaSorted
import Derived.Test.YtplahohaahfjmaaRis
import Derived.Laws.IdiomCopy
namespace Go.Proofs.Ytplahohaahfjmaa
open Go.RowKit

abbrev PR : Type := VT × Value

/-- Behind 'prev': those that are not equal to the one ahead. -/
def uniqFrom (g : PR → PR → Bool) : PR → List PR → List PR
  | _, [] => []
  | prev, y :: ys => if g y prev then uniqFrom g y ys else y :: uniqFrom g y ys

def uniq (g : PR → PR → Bool) : List PR → List PR
  | [] => []
  | x :: xs => x :: uniqFrom g x xs

theorem uniqFrom_step (g : PR → PR → Bool) (ps : List PR) (k : Nat) (h0 : 0 < k) (h : k < ps.length) :
    uniqFrom g (ps[k - 1]'(by omega)) (ps.drop k) = if g ps[k] (ps[k - 1]'(by omega)) then uniqFrom g ps[k] (ps.drop (k + 1)) else ps[k] :: uniqFrom g ps[k] (ps.drop (k + 1)) := by
  rw [List.drop_eq_getElem_cons h]; rfl

theorem uniq_start (g : PR → PR → Bool) (ps : List PR) (h : 0 < ps.length) : uniq g ps = ps.take 1 ++ uniqFrom g ps[0] (ps.drop 1) := by
  cases ps with
  | nil => simp at h
  | cons x xs => rfl

theorem late_get (out ps : List PR) (i : Nat) (h1 : out.length ≤ i) (h2 : i < ps.length) (h3 : i < (out ++ ps.drop out.length).length) : (out ++ ps.drop out.length)[i] = ps[i] := by
  rw [List.getElem_append_right h1, List.getElem_drop]
  congr 1
  omega

theorem late_len (out ps : List PR) (h : out.length ≤ ps.length) : (out ++ ps.drop out.length).length = ps.length := by
  rw [List.length_append, List.length_drop]; omega

theorem late_set (out ps : List PR) (p : PR) (h : out.length < ps.length) : (out ++ ps.drop out.length).set out.length p = (out ++ [p]) ++ ps.drop (out ++ [p]).length := by
  rw [List.set_append_right _ _ (Nat.le_refl _), Nat.sub_self, List.drop_eq_getElem_cons h, List.append_assoc]
  simp only [List.length_append, List.length_singleton, List.set_cons_zero, List.singleton_append]

/-- The frozen marks of a row. -/
def Soft (w : World) (b n : Nat) : Prop := ∀ k, k < n * 4 → w.frozen? ⟨b, k, none⟩ = false

theorem Soft.keeps {w w' : World} {b n : Nat} (h : Soft w b n) (hl : b < w.heap.size) (hb : Below w.heap.size w w') : Soft w' b n := fun k hk => (hb.frozen (p := ⟨b, k, none⟩) hl).trans (h k hk)

theorem Soft.put {w : World} {b n : Nat} (h : Soft w b n) (o : Nat) (vs : List Value) : Soft (w.setCells b o vs) b n := fun k hk => by rw [World.frozen?_setCells]; exact h k hk

/-- One element of a row written over. -/
theorem RowAt.put {w : World} {b : Nat} {ps : List PR} (h : RowAt w b 0 ps) (k : Nat) (hk : k < ps.length) (p : PR) : RowAt (w.setCells b (k * 4) (encP p)) b 0 (ps.set k p) := by
  have hin : ∀ j (hj : j < (encP p).length), (w.setCells b (k * 4) (encP p)).cell? ⟨b, k * 4 + j, none⟩ = some ((encP p)[j]) := World.cell?_setCells_in b (encP p) (k * 4) w (fun j hj => by
    obtain ⟨k0, k1, k2, k3⟩ := h k hk
    simp only [Nat.zero_add] at k0 k1 k2 k3
    match j, hj with
    | 0, _ => rw [Nat.add_zero, k0]; rfl
    | 1, _ => rw [k1]; rfl
    | 2, _ => rw [k2]; rfl
    | 3, _ => rw [k3]; rfl)
  intro i hi
  have hi' : i < ps.length := by simpa using hi
  by_cases hik : i = k
  · subst hik
    rw [List.getElem_set_self]
    simp only [Nat.zero_add]
    exact ⟨hin 0 (by simp [encP]), hin 1 (by simp [encP]), hin 2 (by simp [encP]), hin 3 (by simp [encP])⟩
  · rw [List.getElem_set_ne (Ne.symm hik)]
    obtain ⟨k0, k1, k2, k3⟩ := h i hi'
    have out : ∀ r, r < 4 → (w.setCells b (k * 4) (encP p)).cell? ⟨b, 0 + i * 4 + r, none⟩ = w.cell? ⟨b, 0 + i * 4 + r, none⟩ := fun r hr => World.cell?_setCells_out b (encP p) _ w _ (fun _ _ => by simp [encP]; omega)
    exact ⟨(out 0 (by omega)).trans k0, (out 1 (by omega)).trans k1, (out 2 (by omega)).trans k2, (out 3 (by omega)).trans k3⟩

theorem RowAt.take {w : World} {b o : Nat} {ps : List PR} (h : RowAt w b o ps) (k : Nat) : RowAt w b o (ps.take k) := by
  intro i hi
  have hi' : i < ps.length := by simp at hi; omega
  rw [List.getElem_take]
  exact h i hi'

theorem below_setCellsB (b B : Nat) (hB : B ≤ b) : ∀ (vs : List Value) (o : Nat) (w0 w : World), Below B w0 w → Below B w0 (w.setCells b o vs) := by
  intro vs
  induction vs with
  | nil => intro o w0 w h; exact h
  | cons v vs ih => intro o w0 w h; exact ih (o + 1) w0 _ (h.setCell (p := ⟨b, o, none⟩) hB v)

/-- What is left when m elements are cleared. -/
def zeros : Nat → List Value
  | 0 => []
  | m + 1 => [.int .i64 0, .int .i64 0, .string ⟨#[]⟩, .slice none 0 0] ++ zeros m

theorem zeros_len (m : Nat) : (zeros m).length = m * 4 := by
  induction m with
  | zero => rfl
  | succ m ih => simp only [zeros, List.length_append, ih]; simp; omega

theorem zeros_cells (m : Nat) : (Builtin.zeroCells (Value.agg #[.int .i64 0, .int .i64 0, .string ⟨#[]⟩, .slice none 0 0]).cells m).toList = zeros m := by
  apply List.ext_getElem?
  intro i
  have hz : ∀ (m i : Nat), i < m * 4 → (zeros m)[i]? = ([.int .i64 0, .int .i64 0, .string ⟨#[]⟩, .slice none 0 0] : List Value)[i % 4]? := by
    intro m
    induction m with
    | zero => intro i h; omega
    | succ m ih =>
      intro i h
      simp only [zeros]
      by_cases hi : i < 4
      · rw [List.getElem?_append_left (by simpa using hi), Nat.mod_eq_of_lt hi]
      · rw [List.getElem?_append_right (by simp; omega)]
        rw [show i - ([Value.int .i64 0, Value.int .i64 0, Value.string ⟨#[]⟩, Value.slice none 0 0] : List Value).length = i - 4 from rfl, ih (i - 4) (by omega)]
        congr 1
        omega
  by_cases hi : i < m * 4
  · rw [hz m i hi]
    have e : (Value.agg #[.int .i64 0, .int .i64 0, .string ⟨#[]⟩, .slice none 0 0]).cells = #[.int .i64 0, .int .i64 0, .string ⟨#[]⟩, .slice none 0 0] := rfl
    simp only [Builtin.zeroCells, e]
    have hlt : i < m * 4 := hi
    rw [Array.getElem?_toList, Array.getElem?_map]
    have hr : (Array.range (m * (#[Value.int .i64 0, Value.int .i64 0, Value.string ⟨#[]⟩, Value.slice none 0 0] : Array Value).size))[i]? = some i := by
      rw [Array.getElem?_range]
      exact if_pos hlt
    rw [hr]
    simp only [Option.map_some]
    have h4 : i % 4 < 4 := by omega
    show some ((#[Value.int .i64 0, Value.int .i64 0, Value.string ⟨#[]⟩, Value.slice none 0 0] : Array Value)[i % 4]!) = _
    generalize i % 4 = q at h4
    match q, h4 with
    | 0, _ => rfl
    | 1, _ => rfl
    | 2, _ => rfl
    | 3, _ => rfl
  · have h1 : (Builtin.zeroCells (Value.agg #[.int .i64 0, .int .i64 0, .string ⟨#[]⟩, .slice none 0 0]).cells m).toList.length = m * 4 := by
      unfold Builtin.zeroCells
      rw [Array.length_toList, Array.size_map, Array.size_range]
      rfl
    rw [List.getElem?_eq_none (by rw [h1]; omega), List.getElem?_eq_none (by rw [zeros_len]; omega)]

theorem zeros_one (m : Nat) : ∀ v ∈ zeros m, v.oneCell' = true := by
  induction m with
  | zero => intro v h; cases h
  | succ m ih =>
    intro v h
    simp only [zeros, List.mem_append, List.mem_cons, List.not_mem_nil, or_false] at h
    rcases h with (rfl | rfl | rfl | rfl) | h
    · rfl
    · rfl
    · rfl
    · rfl
    · exact ih v h

theorem clear_many (w : World) (ty : TypeId) (b o m c : Nat) (hm : 0 < m) (hc : ∀ j, j < m * 4 → (w.cell? ⟨b, o + j, none⟩).isSome = true) (hf : ∀ j, j < m * 4 → w.frozen? ⟨b, o + j, none⟩ = false) :
    (Builtin.clear_ #[22] ty #[.slice (some ⟨b, o, none⟩) m c]).run Try.prog w = .ok (.tuple #[]) (w.setCells b o (zeros m)) := by
  have hzc := zeros_cells m
  have hst := run_storeCells_cells (P := Try.prog) b o (zeros m) 0 w (by simpa [zeros_len] using hc) (by simpa [zeros_len] using hf) (zeros_one m)
  simp only [Nat.add_zero] at hst
  obtain ⟨k, rfl⟩ : ∃ k, m = k + 1 := ⟨m - 1, by omega⟩
  simp [Builtin.clear_, run_underlying Try.underlying22, hzc, hst]

end Go.Proofs.Ytplahohaahfjmaa
