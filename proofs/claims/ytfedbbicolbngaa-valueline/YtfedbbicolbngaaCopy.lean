/-
  The contracts of copyAll and copyOf.
-/
import Derived.Test.YtfedbbicolbngaaClone
import Derived.Deep.RegionHeld3
import Derived.Laws.MakeOwn
import Derived.Laws.IdiomCopy
namespace Go.Proofs.Ytfedbbicolbngaa
open Go.RowKit

/-- As 'Lies', and all of it from block 'base' on. -/
def LiesB (base : Nat) : Nat → World → List VT → Value → Prop
  | 0, _, l, v => l = [] ∧ ∃ a c, v = .slice a 0 c
  | d + 1, w, l, v => ∃ a c, v = .slice a l.length c ∧ (l.length ≤ c ∧ l.length ≤ 9223372036854775807) ∧
      (l ≠ [] → ∃ b o, a = some ⟨b, o, none⟩ ∧ base ≤ b ∧ ∀ (i : Nat) (h : i < l.length), ∃ u,
        w.cell? ⟨b, o + i * 4, none⟩ = some (.int .i64 (l[i]'h).kind) ∧ w.cell? ⟨b, o + i * 4 + 1, none⟩ = some (.int .i64 (l[i]'h).num) ∧
        w.cell? ⟨b, o + i * 4 + 2, none⟩ = some (.string (l[i]'h).text) ∧ w.cell? ⟨b, o + i * 4 + 3, none⟩ = some u ∧ LiesB base d w (l[i]'h).items u ∧ (l[i]'h).text.size ≤ 9223372036854775807)

theorem LiesB.lies {base : Nat} {w : World} : ∀ (d : Nat) (l : List VT) (v : Value), LiesB base d w l v → Lies d w l v := by
  intro d
  induction d with
  | zero => intro l v h; exact h
  | succ d ih =>
    intro l v hl
    obtain ⟨a, c, hv, hb, hr⟩ := hl
    refine ⟨a, c, hv, hb, fun hne => ?_⟩
    obtain ⟨b, o, ha, _, hall⟩ := hr hne
    refine ⟨b, o, ha, fun i hi => ?_⟩
    obtain ⟨u, h0, h1, h2, h3, h4, h5⟩ := hall i hi
    exact ⟨u, h0, h1, h2, h3, ih _ _ h4, h5⟩

/-- It stays while what is there from 'base' on stays. -/
theorem LiesB.stays {base : Nat} {w w' : World} (h : ∀ a v, base ≤ a.block → w.cell? a = some v → w'.cell? a = some v) : ∀ (d : Nat) (l : List VT) (v : Value), LiesB base d w l v → LiesB base d w' l v := by
  intro d
  induction d with
  | zero => intro l v hl; exact hl
  | succ d ih =>
    intro l v hl
    obtain ⟨a, c, hv, hb, hr⟩ := hl
    refine ⟨a, c, hv, hb, fun hne => ?_⟩
    obtain ⟨b, o, ha, hbb, hall⟩ := hr hne
    refine ⟨b, o, ha, hbb, fun i hi => ?_⟩
    obtain ⟨u, h0, h1, h2, h3, h4, h5⟩ := hall i hi
    exact ⟨u, h _ _ hbb h0, h _ _ hbb h1, h _ _ hbb h2, h _ _ hbb h3, ih _ _ h4, h5⟩

theorem LiesB.lower {base base' : Nat} (hb' : base' ≤ base) {w : World} : ∀ (d : Nat) (l : List VT) (v : Value), LiesB base d w l v → LiesB base' d w l v := by
  intro d
  induction d with
  | zero => intro l v hl; exact hl
  | succ d ih =>
    intro l v hl
    obtain ⟨a, c, hv, hb, hr⟩ := hl
    refine ⟨a, c, hv, hb, fun hne => ?_⟩
    obtain ⟨b, o, ha, hbb, hall⟩ := hr hne
    refine ⟨b, o, ha, by omega, fun i hi => ?_⟩
    obtain ⟨u, h0, h1, h2, h3, h4, h5⟩ := hall i hi
    exact ⟨u, h0, h1, h2, h3, ih _ _ h4, h5⟩

theorem LiesB.slice {base d : Nat} {w : World} {l : List VT} {v : Value} (h : LiesB base d w l v) : ∃ a c, v = .slice a l.length c ∧ l.length ≤ 9223372036854775807 := Lies.slice (LiesB.lies _ _ _ h)

/-- All that a copy leaves: the elements so far in block G, the rest of it there to be written. -/
structure Copied (G n d : Nat) (wr : World) (ps : List (VT × Value)) : Prop where
  row : RowAt wr G 0 ps
  deep : ∀ p ∈ ps, LiesB (G + 1) d wr p.1.items p.2 ∧ p.1.text.size ≤ 9223372036854775807
  there : ∀ k, k < n * 4 → (wr.cell? ⟨G, k, none⟩).isSome = true ∧ wr.frozen? ⟨G, k, none⟩ = false
  lt : G < wr.heap.size

theorem Copied.keeps {G n d : Nat} {w w' : World} {ps : List (VT × Value)} (h : Copied G n d w ps) (hb : Below w.heap.size w w') : Copied G n d w' ps := by
  refine ⟨h.row.keeps hb, fun p hp => ⟨LiesB.stays (fun a v _ hv => cell_keeps hb hv) _ _ _ (h.deep p hp).1, (h.deep p hp).2⟩, fun k hk => ?_, Nat.lt_of_lt_of_le h.lt hb.size⟩
  obtain ⟨h1, h2⟩ := h.there k hk
  rw [hb.cell (p := ⟨G, k, none⟩) h.lt, hb.frozen (p := ⟨G, k, none⟩) h.lt]
  exact ⟨h1, h2⟩

theorem size_setCells (b : Nat) : ∀ (vs : List Value) (o : Nat) (w : World), (w.setCells b o vs).heap.size = w.heap.size := by
  intro vs
  induction vs with
  | nil => intro o w; rfl
  | cons v vs ih => intro o w; rw [World.setCells, ih]; simp [World.setCell]

/-- One element more. -/
theorem Copied.put {G n d : Nat} {w : World} {ps : List (VT × Value)} (h : Copied G n d w ps) (p : VT × Value) (hp : LiesB (G + 1) d w p.1.items p.2 ∧ p.1.text.size ≤ 9223372036854775807) (hn : ps.length < n) :
    Copied G n d (w.setCells G (ps.length * 4) (encP p)) (ps ++ [p]) := by
  have hother : ∀ a v, a.block ≠ G → w.cell? a = some v → (w.setCells G (ps.length * 4) (encP p)).cell? a = some v := fun a v ha hv => by
    rw [World.cell?_setCells_out G (encP p) _ w a (fun e _ => absurd e ha)]; exact hv
  have hin : ∀ j (hj : j < (encP p).length), (w.setCells G (ps.length * 4) (encP p)).cell? ⟨G, ps.length * 4 + j, none⟩ = some ((encP p)[j]) := World.cell?_setCells_in G (encP p) (ps.length * 4) w (fun j hj => (h.there _ (by simp [encP] at hj; omega)).1)
  have hout : ∀ k, k < ps.length * 4 → (w.setCells G (ps.length * 4) (encP p)).cell? ⟨G, k, none⟩ = w.cell? ⟨G, k, none⟩ := fun k hk => World.cell?_setCells_out G (encP p) _ w ⟨G, k, none⟩ (fun _ _ => .inl hk)
  refine ⟨?_, ?_, ?_, by rw [size_setCells]; exact h.lt⟩
  · intro i hi
    by_cases hl : i < ps.length
    · obtain ⟨k0, k1, k2, k3⟩ := h.row i hl
      rw [List.getElem_append_left hl]
      simp only [Nat.zero_add] at k0 k1 k2 k3 ⊢
      exact ⟨(hout _ (by omega)).trans k0, (hout _ (by omega)).trans k1, (hout _ (by omega)).trans k2, (hout _ (by omega)).trans k3⟩
    · have hie : i = ps.length := by simp at hi; omega
      subst hie
      rw [List.getElem_append_right (Nat.le_refl _)]
      simp only [Nat.zero_add, Nat.sub_self, List.getElem_cons_zero]
      exact ⟨hin 0 (by simp [encP]), hin 1 (by simp [encP]), hin 2 (by simp [encP]), hin 3 (by simp [encP])⟩
  · intro q hq
    rcases List.mem_append.1 hq with hq | hq
    · exact ⟨LiesB.stays (fun a v ha hv => hother a v (by omega) hv) _ _ _ (h.deep q hq).1, (h.deep q hq).2⟩
    · rw [List.mem_singleton] at hq
      subst hq
      exact ⟨LiesB.stays (fun a v ha hv => hother a v (by omega) hv) _ _ _ hp.1, hp.2⟩
  · intro k hk
    obtain ⟨h1, h2⟩ := h.there k hk
    refine ⟨?_, by rw [World.frozen?_setCells]; exact h2⟩
    by_cases hl : ps.length * 4 ≤ k ∧ k < ps.length * 4 + 4
    · have := hin (k - ps.length * 4) (by simp [encP]; omega)
      rw [show ps.length * 4 + (k - ps.length * 4) = k by omega] at this
      rw [this]; rfl
    · rw [World.cell?_setCells_out G (encP p) _ w ⟨G, k, none⟩ (fun _ _ => by simp [encP]; omega)]
      exact h1

theorem Copied.done {G n d : Nat} {w : World} {ps : List (VT × Value)} (h : Copied G n d w ps) (hn : ps.length ≤ 9223372036854775807) (c : Nat) (hc : ps.length ≤ c) : LiesB G (d + 1) w (ps.map (·.1)) (.slice (some ⟨G, 0, none⟩) ps.length c) := by
  refine ⟨some ⟨G, 0, none⟩, c, by simp, by simp; omega, fun _ => ⟨G, 0, rfl, Nat.le_refl _, fun i hi => ?_⟩⟩
  have hi' : i < ps.length := by simpa using hi
  obtain ⟨k0, k1, k2, k3⟩ := h.row i hi'
  have hsd := h.deep ps[i] (List.getElem_mem hi')
  simp only [List.getElem_map]
  exact ⟨_, k0, k1, k2, k3, LiesB.lower (by omega) _ _ _ hsd.1, hsd.2⟩

end Go.Proofs.Ytfedbbicolbngaa
