/-
  The reading of an argument that holds a kind and three values; the walk of HashMore for whatever was read.
-/
import Derived.Test.YtaghmgeamhojbabReadH
import Derived.Test.YtaghmgeamhojbabMore
namespace Go.Proofs.Ytaghmgeamhojbab
open Go.ChangeShapes Go.WideShapes Go.ChangeAt Go.RowKit Go.Deep Go.Joins

theorem list13 {α : Type} {l : List α} (h : l.length = 13) : ∃ c0 c1 c2 c3 c4 c5 c6 c7 c8 c9 c10 c11 c12, l = [c0, c1, c2, c3, c4, c5, c6, c7, c8, c9, c10, c11, c12] := by
  match l, h with
  | [c0, c1, c2, c3, c4, c5, c6, c7, c8, c9, c10, c11, c12], _ => exact ⟨c0, c1, c2, c3, c4, c5, c6, c7, c8, c9, c10, c11, c12, rfl⟩

/-- Four cells that are read as a value. -/
theorem read_four {H : Type} {enc : TypeId × Value → H} {w : World} {spare : Nat → Bool} {held : Bool} {m : Nat} {c0 c1 c2 c3 : Value} {x : DataW H × List MemPlace}
    (h : DataW.trod enc Try.prog w 0 spare held m 24 [c0, c1, c2, c3] = some x) : ∃ (n : Nat) (t : VT), c0 = .int .i64 t.kind ∧ c1 = .int .i64 t.num ∧ c2 = .string t.text ∧ Lies n w t.items c3 ∧ t.text.size ≤ 9223372036854775807 := by
  obtain ⟨xs, n', rfl, _, _, _, hf⟩ := DataW.trod_struct Try.underlying24 h
  obtain ⟨y0, y1, y2, y3, rfl⟩ := list_four (show xs.length = 4 by simpa using ‹xs.length = _›)
  have f0 : DataW.trod enc Try.prog w 0 spare held n' 3 [c0] = some y0 := by simpa [Try.cells3] using hf 0 _ rfl
  have f1 : DataW.trod enc Try.prog w 0 spare held n' 2 [c1] = some y1 := by simpa [Try.cells2] using hf 1 _ rfl
  have f2 : DataW.trod enc Try.prog w 0 spare held n' 9 [c2] = some y2 := by simpa [Try.cells9] using hf 2 _ rfl
  have f3 : DataW.trod enc Try.prog w 0 spare held n' 22 [c3] = some y3 := by simpa [Try.cells22] using hf 3 _ rfl
  obtain ⟨kd, e0, _, _⟩ := DataW.trod_int Try.underlying3 f0
  obtain ⟨nm, e1, _, _⟩ := DataW.trod_int Try.underlying2 f1
  obtain ⟨tx, e2, _, hs⟩ := DataW.trod_string Try.underlying9 f2
  obtain ⟨l, u, e3, hL⟩ := read_items n' n' (Nat.le_refl _) _ _ f3
  simp only [List.cons.injEq, and_true] at e0 e1 e2 e3
  subst e0 e1 e2 e3
  exact ⟨n', ⟨kd, nm, tx, l⟩, rfl, rfl, rfl, hL, by unfold maxLen at hs; show tx.size ≤ _; omega⟩

theorem Try.cells52 : Try.prog.cellsOf 52 = 13 := by kernel_rfl

set_option maxRecDepth 100000 in
theorem read_three {H : Type} {enc : TypeId × Value → H} {w : World} {spare : Nat → Bool} {held : Bool} {r : Reach} {b0 : Nat} {v : Value} {d : DataW H} {p : List MemPlace}
    (hv : Value.okWide Try.prog w r b0 52 v) (h : DataW.Trod enc Try.prog w 0 spare held 52 v d p) :
    ∃ (n : Nat) (kd : Int) (A B C : VT) (x y z : Value), v = flat3 kd A B C x y z ∧ Lies n w A.items x ∧ Lies n w B.items y ∧ Lies n w C.items z ∧ A.text.size ≤ 9223372036854775807 ∧ B.text.size ≤ 9223372036854775807 ∧ C.text.size ≤ 9223372036854775807 := by
  obtain ⟨cs, rfl, hsz⟩ := okWide_struct Try.underlying52 hv
  rw [Try.cells52] at hsz
  obtain ⟨cl⟩ := cs
  obtain ⟨c0, c1, c2, c3, c4, c5, c6, c7, c8, c9, c10, c11, c12, rfl⟩ := list13 (show cl.length = 13 from hsz)
  obtain ⟨fuel, hf⟩ := h
  obtain ⟨xs, n', _, _, _, _, hf⟩ := DataW.trod_struct Try.underlying52 hf
  obtain ⟨y0, y1, y2, y3, rfl⟩ := list_four (show xs.length = 4 by simpa using ‹xs.length = _›)
  have f0 : DataW.trod enc Try.prog w 0 spare held n' 3 [c0] = some y0 := by simpa [Try.cells3, Value.cells] using hf 0 _ rfl
  have f1 : DataW.trod enc Try.prog w 0 spare held n' 24 [c1, c2, c3, c4] = some y1 := by simpa [Try.cells24, Value.cells] using hf 1 _ rfl
  have f2 : DataW.trod enc Try.prog w 0 spare held n' 24 [c5, c6, c7, c8] = some y2 := by simpa [Try.cells24, Value.cells] using hf 2 _ rfl
  have f3 : DataW.trod enc Try.prog w 0 spare held n' 24 [c9, c10, c11, c12] = some y3 := by simpa [Try.cells24, Value.cells] using hf 3 _ rfl
  obtain ⟨kd, e0, _, _⟩ := DataW.trod_int Try.underlying3 f0
  simp only [List.cons.injEq, and_true] at e0
  subst e0
  obtain ⟨nA, A, rfl, rfl, rfl, LA, sA⟩ := read_four f1
  obtain ⟨nB, B, rfl, rfl, rfl, LB, sB⟩ := read_four f2
  obtain ⟨nC, C, rfl, rfl, rfl, LC, sC⟩ := read_four f3
  exact ⟨max nA (max nB nC), kd, A, B, C, c4, c8, c12, rfl, LA.atLeast _ (by omega), LB.atLeast _ (by omega), LC.atLeast _ (by omega), sA, sB, sC⟩

theorem ofC_of {d : Nat} {k : Int} {t : VT} {x : Value} {w : World} (hl : Lies d w t.items x) (hs : t.text.size ≤ 9223372036854775807) : OfC k t x w (ofZ d k t) (ofE d k t) :=
  fun W hW => of_any d k t x W (Lies.keeps hW _ _ _ hl) hs

theorem ofZ_low (d : Nat) (k : Int) (t : VT) (h1 : 1 ≤ k) (h2 : k ≤ 31) : ofZ d k t = fullA d t % 2 ^ k.toNat := by
  unfold ofZ fullA
  have hk : kindB k = true := by unfold kindB; simp; omega
  rw [hk, Bool.true_and]
  by_cases hr : rightV d t = true
  · rw [if_pos hr, if_pos hr]
    unfold cutZ
    rw [if_neg (by omega), if_pos (by omega)]
  · rw [if_neg hr, if_neg hr]
    simp

theorem ofE_low (d : Nat) (k : Int) (t : VT) (h1 : 1 ≤ k) (h2 : k ≤ 31) : ofE d k t = errOf (rightV d t) := by
  unfold ofE
  rw [if_pos (by unfold kindB; simp; omega)]

theorem more_walk (k j : Int) (n : Nat) (kd : Int) (A B C : VT) (x y z : Value) (w : World) (LA : Lies n w A.items x) (LB : Lies n w B.items y) (LC : Lies n w C.items z) (sA : A.text.size ≤ 9223372036854775807) (sB : B.text.size ≤ 9223372036854775807) :
    Calls Try.prog 8 #[.int .i64 k, .int .i64 j, flat3 kd A B C x y z] w fun e w' => e = .returned (.bool true) ∧ Below w.heap.size w w' := by
  obtain ⟨ax, cx, rfl, _⟩ := Lies.slice LA
  obtain ⟨ay, cy, rfl, _⟩ := Lies.slice LB
  obtain ⟨az, cz, rfl, _⟩ := Lies.slice LC
  by_cases h : k < 1 ∨ 31 < j ∨ j < k
  · exact more_out k j kd A B C _ _ _ _ _ _ _ _ _ w h
  · have h1 := ofC_of (k := k) LA sA
    have h2 := ofC_of (k := k) LB sB
    have h3 := ofC_of (k := j) LA sA
    have h4 := ofC_of (k := j) LB sB
    rw [ofZ_low n k A (by omega) (by omega), ofE_low n k A (by omega) (by omega)] at h1
    rw [ofZ_low n k B (by omega) (by omega), ofE_low n k B (by omega) (by omega)] at h2
    rw [ofZ_low n j A (by omega) (by omega), ofE_low n j A (by omega) (by omega)] at h3
    rw [ofZ_low n j B (by omega) (by omega), ofE_low n j B (by omega) (by omega)] at h4
    exact more_in k j kd A B C _ _ _ _ _ _ _ _ _ w (by omega) (by omega) (by omega) _ _ _ _ _ _ h1 h2 h3 h4 (fun e => mod_more _ _ _ _ (by omega) e)

end Go.Proofs.Ytaghmgeamhojbab

