/-
  The reading of a list of values, and the reach of its lists.
-/
import Derived.Test.YtgihglodekoddabReadS
import Derived.Test.YtgihglodekoddabOwnLaw
import Derived.SizedLaws
namespace Go.Proofs.Ytgihglodekoddab
open Go.ChangeShapes Go.WideShapes Go.ChangeAt Go.RowKit Go.Deep Go.Joins

theorem bytes24 : Try.prog.bytesOf 25 = 56 := by kernel_rfl

theorem weights_all {H : Type} {P : Program} {e : TypeId} : ∀ {ds : List (DataW H)} {d : DataW H}, d ∈ ds → ∀ {n : Nat}, n ∈ d.weights P e → n ∈ DataW.weightsAll P e ds := by
  intro ds
  induction ds with
  | nil => intro d h; cases h
  | cons x r ih =>
    intro d h n hn
    simp only [DataW.weightsAll, List.mem_append]
    rcases List.mem_cons.1 h with rfl | h
    · exact .inl hn
    · exact .inr (ih h hn)

set_option maxRecDepth 100000 in
theorem read_itemsZ {H : Type} {enc : TypeId × Value → H} {w : World} {spare : Nat → Bool} {held : Bool} : ∀ (F m : Nat), m ≤ F → ∀ (cs : List Value) (x : DataW H × List MemPlace),
    DataW.trod enc Try.prog w 0 spare held m 22 cs = some x → (∀ q ∈ x.1.weights Try.prog 22, q ≤ reachBytes) → ∃ l u, cs = [u] ∧ Lies m w l u ∧ l.length * 56 ≤ 140737488355328 ∧ ∀ y ∈ l, ∀ e, Room e y := by
  intro F
  induction F with
  | zero => intro m hm cs x h _; have : m = 0 := by omega
            subst this; simp [DataW.trod] at h
  | succ F ih =>
    intro m hm cs x h hwt
    rcases DataW.trod_slice Try.underlying22 h with ⟨rfl, _⟩ | ⟨a, len, cap, elems, rest, n, rfl, rfl, hx, _, hlc, hcm, hel, hall, _, _⟩
    · exact ⟨[], _, rfl, Lies.atLeast (d := 0) ⟨rfl, none, 0, rfl⟩ m (Nat.zero_le _), by simp, fun y hy => by cases hy⟩
    · subst hx
      have hw0 : (elems.map (·.1)).length * 56 ≤ reachBytes := by
        have h1 := hwt (((elems.map (·.1)).length + (rest.map (·.1)).length) * Try.prog.bytesOf 25) (by simp [DataW.weights, Try.underlying22])
        rw [bytes24] at h1
        omega
      have hwe : ∀ i (hi : i < elems.length), ∀ q ∈ (elems[i]).1.weights Try.prog 25, q ≤ reachBytes := fun i hi q hq => by
        refine hwt q ?_
        simp only [DataW.weights, Try.underlying22, List.mem_cons, List.mem_append]
        exact .inr (.inl (weights_all (List.mem_map.2 ⟨elems[i], List.getElem_mem hi, rfl⟩) hq))
      have hone : ∀ i, i < len → ∃ t : VT, ∃ u, w.cell? (a.add (i * 4)) = some (.int .i64 t.kind) ∧ w.cell? (a.add (i * 4 + 1)) = some (.int .i64 t.num) ∧ w.cell? (a.add (i * 4 + 2)) = some (.string t.text) ∧ w.cell? (a.add (i * 4 + 3)) = some u ∧ Lies n w t.items u ∧ t.text.size ≤ 9223372036854775807 ∧ ∀ e, Room e t := by
        intro i hi
        have h1 := hall i hi
        rw [Try.cells24] at h1
        have hlt : i < elems.length := by omega
        rw [List.getElem?_eq_getElem hlt, Option.bind_eq_some_iff] at h1
        obtain ⟨cs, hcs, htr⟩ := h1
        obtain ⟨c0, c1, c2, c3, rfl, k0, k1, k2, k3⟩ := cells_four hcs
        have hwi := hwe i hlt
        obtain ⟨xs, n', rfl, hxe, _, _, hf⟩ := DataW.trod_struct Try.underlying25 htr
        rw [hxe] at hwi
        obtain ⟨y0, y1, y2, y3, rfl⟩ := list_four (show xs.length = 4 by simpa using ‹xs.length = _›)
        have f0 : DataW.trod enc Try.prog w 0 spare held n' 3 [c0] = some y0 := by simpa [Try.cells3] using hf 0 _ rfl
        have f1 : DataW.trod enc Try.prog w 0 spare held n' 2 [c1] = some y1 := by simpa [Try.cells2] using hf 1 _ rfl
        have f2 : DataW.trod enc Try.prog w 0 spare held n' 9 [c2] = some y2 := by simpa [Try.cells9] using hf 2 _ rfl
        have f3 : DataW.trod enc Try.prog w 0 spare held n' 22 [c3] = some y3 := by simpa [Try.cells22] using hf 3 _ rfl
        obtain ⟨kd, e0, _, _⟩ := DataW.trod_int Try.underlying3 f0
        obtain ⟨nm, e1, _, _⟩ := DataW.trod_int Try.underlying2 f1
        obtain ⟨tx, e2, _, hs⟩ := DataW.trod_string Try.underlying9 f2
        obtain ⟨l, u, e3, hL, hl1, hl2⟩ := ih n' (by omega) _ _ f3 (fun q hq => hwi q (by
          simp only [DataW.weights, Try.underlying25, DataW.weightsEach, List.map_cons, List.map_nil, List.mem_append]
          exact .inr (.inr (.inr (.inl hq)))))
        simp only [List.cons.injEq, and_true] at e0 e1 e2 e3
        subst e0 e1 e2 e3
        simp only [add_add, Nat.add_zero] at k0 k1 k2 k3
        refine ⟨⟨kd, nm, tx, l⟩, c3, k0, k1, k2, k3, hL.atLeast _ (by omega), by unfold maxLen at hs; omega, fun e => ?_⟩
        cases e with
        | zero => trivial
        | succ e => exact ⟨hl1, fun z hz => hl2 z hz e⟩
      have hinh : Inhabited VT := ⟨⟨0, 0, ByteArray.empty, []⟩⟩
      obtain ⟨f, hf⟩ := choose_lt hone
      refine ⟨(List.range len).map f, _, rfl, ?_, by have := reachBytes_lt; simp only [List.length_map, List.length_range] at hw0 ⊢; omega, fun y hy => by
        obtain ⟨i, hi, rfl⟩ := List.mem_map.1 hy
        obtain ⟨u, _, _, _, _, _, _, hr⟩ := hf i (by simpa using hi)
        exact hr⟩
      refine ⟨some a, cap, by simp, by unfold maxLen at hcm; simp; omega, fun hne => ?_⟩
      obtain ⟨b, o, sp⟩ := a
      have hl0 : 0 < len := by
        rcases Nat.eq_zero_or_pos len with h0 | h0
        · subst h0; simp at hne
        · exact h0
      obtain ⟨_, z0, _⟩ := hf 0 hl0
      have hspot : sp = none := by simpa [Addr.add] using World.cell?_spot z0
      subst hspot
      refine ⟨b, o, rfl, fun i hi => ?_⟩
      have hi' : i < len := by simpa using hi
      obtain ⟨u, q0, q1, q2, q3, q4, q5, _⟩ := hf i hi'
      have hadd : ∀ k, (⟨b, o, none⟩ : Addr).add k = ⟨b, o + k, none⟩ := by
        intro k
        unfold Addr.add
        by_cases hk : k = 0
        · subst hk; rfl
        · rw [if_neg hk]
      rw [hadd] at q0 q1 q2 q3
      simp only [List.getElem_map, List.getElem_range]
      exact ⟨u, q0, by rw [Nat.add_assoc]; exact q1, by rw [Nat.add_assoc]; exact q2, by rw [Nat.add_assoc]; exact q3, q4, q5⟩

set_option maxRecDepth 100000 in
theorem read_listZ {H : Type} {enc : TypeId × Value → H} {w : World} {spare : Nat → Bool} {held : Bool} {r : Reach} {b0 : Nat} {v : Value} {d : DataW H} {p : List MemPlace}
    (hv : Value.okWide Try.prog w r b0 22 v) (h : DataW.Trod enc Try.prog w 0 spare held 22 v d p) (hw : (DataW.weightsEach Try.prog [22] [d]).all (· ≤ reachBytes) = true) :
    ∃ (n : Nat) (l : List VT) (a : Option Addr) (c : Nat), v = .slice a l.length c ∧ Lies (n + 1) w l v ∧ l.length * 56 ≤ 140737488355328 ∧ ∀ y ∈ l, ∀ e, Room e y := by
  obtain ⟨a0, len, cap, rfl⟩ := okWide_slice Try.underlying22 hv
  obtain ⟨fuel, hf⟩ := h
  obtain ⟨l, u, e, hL, h1, h2⟩ := read_itemsZ fuel fuel (Nat.le_refl _) _ _ hf (fun q hq => by
    have := List.all_eq_true.1 hw q (by simp only [DataW.weightsEach, List.mem_append]; exact .inl hq)
    simpa using this)
  have e' : (Value.slice a0 len cap) = u := by simpa [Value.cells] using e
  subst e'
  obtain ⟨a, c, hs, hb⟩ := Lies.slice hL
  exact ⟨fuel, l, a, c, hs, Lies.deeper _ _ _ hL, h1, h2⟩

end Go.Proofs.Ytgihglodekoddab

