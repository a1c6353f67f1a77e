/-
  Lists of numbers in memory, and the contracts of Ordered, Unordered and Java, the program's and the document's.
-/
import Derived.Test.YtpnfmcmhcjekfabProg
import Derived.Test.YtpnfmcmhcjekfabGrow
import Derived.Deep.QuietTactic
import Derived.BigQuiet
import Derived.Laws.BitsAllLaws
import Derived.Deep.LoopGhost
namespace Go.Proofs.Ytpnfmcmhcjekfab
open Go.RowKit

/-- The slice v holds the numbers l, of kind k. -/
def IntsAt (k : IntKind) (w : World) (l : List Int) (v : Value) : Prop :=
  ∃ a c, v = .slice a l.length c ∧ l.length ≤ 9223372036854775807 ∧ l.length ≤ c ∧ (l ≠ [] → ∃ b o, a = some ⟨b, o, none⟩ ∧ ∀ (i : Nat) (h : i < l.length), w.cell? ⟨b, o + i, none⟩ = some (.int k (l[i]'h)))

theorem IntsAt.keeps {k : IntKind} {w w' : World} {l : List Int} {v : Value} (h : IntsAt k w l v) (hb : Below w.heap.size w w') : IntsAt k w' l v := by
  obtain ⟨a, c, hv, hl, hcap, hr⟩ := h
  refine ⟨a, c, hv, hl, hcap, fun hne => ?_⟩
  obtain ⟨b, o, ha, hall⟩ := hr hne
  exact ⟨b, o, ha, fun i hi => cell_keeps hb (hall i hi)⟩

theorem IntsAt.nil (k : IntKind) (w : World) : IntsAt k w [] (.slice none 0 0) := ⟨none, 0, rfl, by simp, by simp, fun h => absurd rfl h⟩

end Go.Proofs.Ytpnfmcmhcjekfab

