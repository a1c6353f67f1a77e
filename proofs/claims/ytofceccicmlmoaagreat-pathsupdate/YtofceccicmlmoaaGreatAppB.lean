/-
  Rows of one's own while other cells are written.
-/
import Derived.Test.YtofceccicmlmoaaGreatRowX
import Derived.Test.YtofceccicmlmoaaGreatUtf
import Derived.Test.YtofceccicmlmoaaGreatRotate
import Derived.Laws.OwnMore
import Derived.Deep.AppendLies
import Derived.Deep.RegionLaw
namespace Go.Proofs.YtofceccicmlmoaaGreat
open Go.RowKit

theorem KC.alloc {B : Nat → Prop} {w w1 : World} (k : KC B w w1) (o : Obj) : KC B w (w1.alloc o) :=
  k.trans2 (KC.of_below (B := fun _ => False) ((Grew.refl w1).alloc o).below) (fun _ _ h => h.elim)

theorem own_liesX {X : Nat → Prop} {w : World} {base d n : Nat} {v : Value} {ps : List (VT × Value)} (h : w.ownsRow base 24 4 v n (ps.flatMap encP)) (hn : n = ps.length) (hX : ∀ g, v.ownBlock = some g → X g) (hp : ∀ p ∈ ps, LiesX X d w p.1.items p.2 ∧ p.1.text.size ≤ 9223372036854775807) (hl : ps.length ≤ 9223372036854775807) : LiesX X (d + 1) w (ps.map (·.1)) v := by
  subst hn
  by_cases hne : ps = []
  · subst hne
    rcases h.2 with ⟨rfl, _⟩ | ⟨g, cap, cur, rfl, _⟩
    · exact ⟨none, 0, rfl, by simp, fun h => absurd rfl h⟩
    · exact ⟨_, cap, rfl, by simp, fun h => absurd rfl h⟩
  · obtain ⟨g, cap, rfl, _, hcap, _, hrow, _⟩ := own_row h hne
    refine ⟨_, cap, by rw [List.length_map], by rw [List.length_map]; exact ⟨hcap, hl⟩, fun _ => ⟨g, 0, rfl, hX g rfl, fun i hi => ?_⟩⟩
    rw [List.length_map] at hi
    obtain ⟨p0, p1, p2, p3⟩ := hrow i hi
    refine ⟨ps[i].2, ?_⟩
    rw [List.getElem_map]
    exact ⟨p0, p1, p2, p3, (hp _ (List.getElem_mem hi)).1, (hp _ (List.getElem_mem hi)).2⟩

end Go.Proofs.YtofceccicmlmoaaGreat

