/-
  The reading of two lists.
-/
import Derived.Test.YtpnfmcmhcjekfabReadL
namespace Go.Proofs.Ytpnfmcmhcjekfab
open Go.ChangeShapes Go.WideShapes Go.ChangeAt Go.RowKit Go.Deep Go.Joins

theorem Try.cellsTwo : Try.prog.cellsOf 48 = 2 := by kernel_rfl

set_option maxRecDepth 100000 in
theorem read_two {H : Type} {enc : TypeId × Value → H} {w : World} {spare : Nat → Bool} {held : Bool} {r : Reach} {b0 : Nat} {v : Value} {d : DataW H} {p : List MemPlace}
    (hv : Value.okWide Try.prog w r b0 48 v) (h : DataW.Trod enc Try.prog w 0 spare held 48 v d p) :
    ∃ (n : Nat) (l m : List VT) (u1 u2 : Value), v = .agg #[u1, u2] ∧ Lies (n + 1) w l u1 ∧ Lies (n + 1) w m u2 := by
  obtain ⟨cs, rfl, hsz⟩ := okWide_struct Try.underlying48 hv
  rw [Try.cellsTwo] at hsz
  obtain ⟨cl⟩ := cs
  obtain ⟨c0, c1, rfl⟩ : ∃ c0 c1, cl = [c0, c1] := by
    match cl, hsz with
    | [c0, c1], _ => exact ⟨c0, c1, rfl⟩
  obtain ⟨fuel, hf⟩ := h
  obtain ⟨xs, n', _, _, _, hxl, hff⟩ := DataW.trod_struct Try.underlying48 hf
  obtain ⟨y0, y1, rfl⟩ : ∃ y0 y1, xs = [y0, y1] := by
    match xs, hxl with
    | [y0, y1], _ => exact ⟨y0, y1, rfl⟩
  have f0 : DataW.trod enc Try.prog w 0 spare held n' 22 [c0] = some y0 := by simpa [Try.cells22, Value.cells] using hff 0 _ rfl
  have f1 : DataW.trod enc Try.prog w 0 spare held n' 22 [c1] = some y1 := by simpa [Try.cells22, Value.cells] using hff 1 _ rfl
  obtain ⟨l, u, e0, L0⟩ := read_items n' n' (Nat.le_refl _) _ _ f0
  obtain ⟨m, v, e1, L1⟩ := read_items n' n' (Nat.le_refl _) _ _ f1
  simp only [List.cons.injEq, and_true] at e0 e1
  subst e0 e1
  exact ⟨n', l, m, c0, c1, rfl, Lies.deeper _ _ _ L0, Lies.deeper _ _ _ L1⟩

end Go.Proofs.Ytpnfmcmhcjekfab

