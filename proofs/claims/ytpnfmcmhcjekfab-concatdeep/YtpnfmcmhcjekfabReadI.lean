/-
  From the reading of an argument that is a slice of numbers to the numbers that lie in memory; and two closed facts of the program.
-/
import Derived.Test.YtpnfmcmhcjekfabRows
import Derived.Test.YtpnfmcmhcjekfabFold
import Derived.ProofKit
import Derived.OpenShut
import Derived.ChangeOld
import Derived.Below
namespace Go.Proofs.Ytpnfmcmhcjekfab
open Go.ChangeShapes Go.WideShapes Go.ChangeAt Go.RowKit

theorem own : ownKnob Try.prog.godebug = none := by kernel_rfl
theorem laidOut : laidOutB Try.prog = true := by kernel_rfl

set_option maxRecDepth 100000 in
theorem read_ints {H : Type} {enc : TypeId × Value → H} {w : World} {spare : Nat → Bool} {held : Bool} {r : Reach} {b0 : Nat} {v : Value} {d : DataW H} {p : List MemPlace} {t e : TypeId} {k : IntKind}
    (ht : Try.prog.underlying t = some (.slice e)) (he : Try.prog.underlying e = some (.int k)) (hc : Try.prog.cellsOf e = 1)
    (hv : Value.okWide Try.prog w r b0 t v) (h : DataW.Trod enc Try.prog w 0 spare held t v d p) : ∃ l : List Int, IntsAt k w l v ∧ ∀ x ∈ l, (Lit.int k x).wf = true := by
  obtain ⟨a0, len, cap, rfl⟩ := okWide_slice ht hv
  obtain ⟨fuel, hf⟩ := h
  rcases open_ints ht he hc hf with ⟨h0, _⟩ | ⟨a, len', cap', zs, h0, _, hlc, hcm, hzl, _, hcell, hwf⟩
  · have e' : (Value.slice a0 len cap) = .slice none 0 0 := by simpa [Value.cells] using h0
    rw [e']
    exact ⟨[], IntsAt.nil _ _, fun x hx => by cases hx⟩
  · have e' : (Value.slice a0 len cap) = .slice (some a) len' cap' := by simpa [Value.cells] using h0
    rw [e']
    have hle : len' ≤ zs.length := by rw [hzl]; split <;> omega
    have hlen : (zs.take len').length = len' := by rw [List.length_take]; omega
    refine ⟨zs.take len', ⟨some a, cap', by rw [hlen], by rw [hlen]; unfold maxLen at hcm; omega, by rw [hlen]; exact hlc, fun hne => ?_⟩, fun x hx => hwf x (List.mem_of_mem_take hx)⟩
    have hpos : 0 < len' := by
      rcases Nat.eq_zero_or_pos len' with h1 | h1
      · subst h1; simp at hne
      · exact h1
    have z0 := hcell 0 (by omega)
    obtain ⟨b, o, sp⟩ := a
    have hspot : sp = none := by simpa [Addr.add] using World.cell?_spot z0
    subst hspot
    refine ⟨b, o, rfl, fun i hi => ?_⟩
    have hi' : i < zs.length := by omega
    have hq := hcell i hi'
    have hadd : (⟨b, o, none⟩ : Addr).add i = ⟨b, o + i, none⟩ := by
      unfold Addr.add
      by_cases hk : i = 0
      · subst hk; rfl
      · rw [if_neg hk]
    rw [hadd] at hq
    rw [hq, List.getElem_take, List.getD_eq_getElem?_getD, List.getElem?_eq_getElem hi', Option.getD_some]

end Go.Proofs.Ytpnfmcmhcjekfab

