/-
  The contract of the document's fits and Right: they find right what the program does.
-/
import Derived.Test.YtmbolemcpobbgaaUtf
import Derived.PlainAid
import Derived.Laws.Strings
import Derived.Deep.LoopGhost
import Derived.Test.YtmbolemcpobbgaaList
import Derived.Deep.RegionWith
import Derived.Deep.RegionHeld3
namespace Go.Proofs.Ytmbolemcpobbgaa
open Go.RowKit

/-- No deeper than d. -/
def Dp : Nat → VT → Prop
  | 0, t => t.items = []
  | d + 1, t => ∀ x ∈ t.items, Dp d x

theorem Dp.of_lies : ∀ (d : Nat) (w : World) (t : VT) (u : Value), Lies d w t.items u → Dp d t := by
  intro d
  induction d with
  | zero => intro w t u h; exact h.1
  | succ d ih =>
    intro w t u h x hx
    obtain ⟨a, c, _, _, hr⟩ := h
    obtain ⟨b, o, _, hall⟩ := hr (fun e => by rw [e] at hx; cases hx)
    obtain ⟨i, hi, rfl⟩ := List.getElem_of_mem hx
    obtain ⟨v, _, _, _, _, hl, _⟩ := hall i hi
    exact ih w _ v hl

theorem fw_neg (d : Nat) (t : VT) (lv n : Int) (h : lv < 0) : fw d t lv n = (false, n) := by
  cases d with
  | zero => unfold fw; rw [if_pos (Or.inl h)]
  | succ d => unfold fw; rw [if_pos (Or.inl h)]

end Go.Proofs.Ytmbolemcpobbgaa

