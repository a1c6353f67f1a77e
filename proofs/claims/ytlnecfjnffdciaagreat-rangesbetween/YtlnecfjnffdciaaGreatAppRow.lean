import Derived.Test.YtlnecfjnffdciaaGreatRotate
import Derived.Lib.AppendZeros
namespace Go.Proofs.YtlnecfjnffdciaaGreat
open Go.RowKit

theorem add_addr5 (b o j : Nat) : (⟨b, o, none⟩ : Addr).add j = ⟨b, o + j, none⟩ := by
 unfold Addr.add
 by_cases hk : j = 0
 ·subst hk; rfl
 ·rw [if_neg hk]

theorem own_growM {w wr w2 : World} {M : Nat} {ty sz : Nat} {v : Value} {n : Nat} {xs : List Value} (hb : Below M w wr) (hM : M ≤ wr.heap.size) (hown : wr.ownsRow M ty sz v n xs) (hgrow : wr.grownBy w2 v.ownBlock) : Below M w w2 :=
 hb.grown hgrow hM (by
  intro k hk
  rcases hown.2 with ⟨hv, _⟩ | ⟨g, cap', cur, hv, hbs, _⟩
  ·rw [hv] at hk; cases hk
  ·rw [hv] at hk
   simp only [Value.ownBlock, Option.some.injEq] at hk
   omega)

theorem own_lies {w : World} {base d : Nat} {v : Value} {n : Nat} {ps : List (VT × Value)} (hn : n = ps.length) (h : w.ownsRow base 34 4 v n (ps.flatMap encP)) (hs : ∀ p ∈ ps, Sound d w p) (hl : ps.length ≤ 9223372036854775807) : Lies (d + 1) w (ps.map (·.1)) v := by
 subst hn
 by_cases hne : ps = []
 ·subst hne
  rcases h.2 with ⟨rfl, _⟩ | ⟨g, cap, cur, rfl, _⟩
  ·exact ⟨none, 0, rfl, by simp, fun h => absurd rfl h⟩
  ·exact ⟨_, cap, rfl, by simp, fun h => absurd rfl h⟩
 ·obtain ⟨g, cap, rfl, _, hcap, _, hrow, _⟩ := own_row h hne
  exact lies_of_row hrow hs hl hcap

end Go.Proofs.YtlnecfjnffdciaaGreat

