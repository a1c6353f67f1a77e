/-
  The walk of MurmurTurned where both places are there.
-/
import Derived.Test.YteldncblmoilkaaTurned
import Derived.Deep.RegionHeld
namespace Go.Proofs.Yteldncblmoilkaa
open Go.RowKit

theorem addr_ne {g i k : Nat} (h : i ≠ k) : (⟨g, i, none⟩ : Addr) ≠ ⟨g, k, none⟩ := fun e => h (by injection e)

theorem cell_put {w : World} {g i j : Nat} {x z : Value} (hi : (w.cell? ⟨g, i, none⟩).isSome = true) (hj : w.cell? ⟨g, j, none⟩ = some z) : (w.setCell ⟨g, i, none⟩ x).cell? ⟨g, j, none⟩ = some (if i = j then x else z) := by
  by_cases h : i = j
  · subst h
    rw [if_pos rfl]
    exact World.cell?_setCell_same' w _ _ hi
  · rw [if_neg h, World.cell?_setCell_other _ _ _ _ (addr_ne h)]
    exact hj

theorem swap_ints {w : World} {g cap : Nat} {l : List Int} (i k : Nat) (hi : i < l.length) (hk : k < l.length) (hlen : l.length ≤ 9223372036854775807) (hcap : l.length ≤ cap)
    (h : ∀ (j : Nat) (hj : j < l.length), w.cell? ⟨g, j, none⟩ = some (.int .u32 l[j])) :
    IntsAt .u32 ((w.setCell ⟨g, i, none⟩ (.int .u32 l[k])).setCell ⟨g, k, none⟩ (.int .u32 l[i])) (swapped l i k hi hk) (.slice (some ⟨g, 0, none⟩) l.length cap) := by
  have hls : (swapped l i k hi hk).length = l.length := by simp [swapped]
  refine ⟨some ⟨g, 0, none⟩, cap, by rw [hls], by omega, by omega, fun _ => ⟨g, 0, rfl, fun j hj => ?_⟩⟩
  have hj' : j < l.length := by omega
  rw [Nat.zero_add]
  have h1 : ∀ (j : Nat) (hj : j < l.length), (w.setCell ⟨g, i, none⟩ (.int .u32 l[k])).cell? ⟨g, j, none⟩ = some (if i = j then .int .u32 l[k] else .int .u32 l[j]) := fun j hj => cell_put (by rw [h i hi]; rfl) (h j hj)
  rw [cell_put (by rw [h1 k hk]; rfl) (h1 j hj')]
  congr 1
  simp only [swapped, List.getElem_set]
  by_cases e1 : k = j
  · simp [e1]
  · by_cases e2 : i = j
    · simp [e1, e2]
    · simp [e1, e2]

set_option maxHeartbeats 2000000 in
theorem turned_in (l : List Int) (i k : Nat) (v : Value) (w : World) (hl : IntsAt .u32 w l v) (hi : i < l.length) (hk : k < l.length) (hreach : l.length * 4 ≤ 140737488351232) :
    Calls Try.prog 7 #[v, .int .i64 i, .int .i64 k] w fun e w' => e = .returned (.bool true) ∧ Below w.heap.size w w' := by
  have HL : Hid (IntsAt .u32 w l v) := hl
  obtain ⟨a, c, rfl, hlen, hcap, hr⟩ := hl
  obtain ⟨b, o, rfl, hcs⟩ := hr (fun e => by subst e; cases hi)
  obtain ⟨i0, hi0, hz0, hz1, hz2⟩ := infoU
  have hsw : Hid (unoZ (swapped l i k hi hk) = unoZ l) := swapped_uno l i k hi hk
  have HC : Hid (∀ (i : Nat) (h : i < l.length), w.cell? ⟨b, o + i, none⟩ = some (.int .u32 (l[i]'h))) := hcs
  have Hi : Hid _ := hi0; have Hz0 : Hid _ := hz0; have Hz1 : Hid _ := hz1; have Hz2 : Hid _ := hz2
  clear hcs hi0 hz0 hz1 hz2
  have a0 : ¬ ((i : Int) < 0) := by omega
  have a1 : ¬ ((k : Int) < 0) := by omega
  have a2 : ¬ ((l.length : Int) ≤ i) := by omega
  have a3 : ¬ ((l.length : Int) ≤ k) := by omega
  go_enter Try.func7, Try.ntmps7
  go_wp2_with (first
    | (at_builtin; refine wpList_append_own _ rfl _ _ 34 rfl w.heap.size 22 i0 (.int .u32 0) 1 4 Try.underlying34 Hi.out Hz0.out Hz1.out Hz2.out rfl (by decide) (.slice none 0 0) 0 [] rfl (World.ownsRow_nil _ _ _ _) ⟨b, o, none⟩ l.length c (l.map (Value.int .u32)) rfl (by simp) ?c1 ?c2 ?c3 ?c4 ?c5 ?_))
  case c1 =>
    intro q u hq
    obtain ⟨hq', rfl⟩ := List.getElem?_eq_some_iff.1 hq
    exact HC.out q hq'
  case c2 => intro u _; rfl
  case c3 => unfold maxLen; omega
  case c4 => omega
  intro v' w2 hown hgrow _
  have hg2 : Below w.heap.size w w2 := (Below.refl _ _).grown hgrow (by omega) (by intro k hk; cases hk)
  obtain ⟨g, cap, rfl, hbs, hcp, hlt, hcell, hfz⟩ := own_ints hown (fun e => by subst e; cases hi)
  clear hown hgrow
  have Hcell : Hid (∀ (i : Nat) (hi : i < l.length), w2.cell? ⟨g, i, none⟩ = some (.int .u32 l[i])) := hcell
  have Hfz : Hid (∀ k, w2.frozen? ⟨g, k, none⟩ = false) := hfz
  clear hcell hfz
  have e1 := cell_keeps hg2 (HC.out k hk)
  have e2 := cell_keeps hg2 (HC.out i hi)
  have e3 := Hcell.out i hi
  have e4 := Hcell.out k hk
  have f1 := Hfz.out i
  have f2 := Hfz.out k
  have hne : b ≠ g := by have := cell_lt (HC.out i hi); simp at this; omega
  have e5 : (w2.setCell ⟨g, i, none⟩ (.int .u32 l[k])).cell? ⟨g, k, none⟩ = some (if i = k then .int .u32 l[k] else .int .u32 l[k]) := cell_put (by rw [e3]; rfl) e4
  rw [ite_self] at e5
  have f5 : (w2.setCell ⟨g, i, none⟩ (.int .u32 l[k])).frozen? ⟨g, k, none⟩ = false := by simp [f2]
  have e6 : (w2.setCell ⟨g, i, none⟩ (.int .u32 l[k])).cell? ⟨b, o + i, none⟩ = some (.int .u32 l[i]) := by
    rw [World.cell?_setCell_far _ _ _ _ (fun e => hne e.symm)]; exact e2
  have HS : Hid (IntsAt .u32 ((w2.setCell ⟨g, i, none⟩ (.int .u32 l[k])).setCell ⟨g, k, none⟩ (.int .u32 l[i])) (swapped l i k hi hk) (.slice (some ⟨g, 0, none⟩) l.length cap)) := swap_ints i k hi hk hlen hcp Hcell.out
  have hg4 : Below w.heap.size w ((w2.setCell ⟨g, i, none⟩ (.int .u32 l[k])).setCell ⟨g, k, none⟩ (.int .u32 l[i])) := (hg2.setCell (p := ⟨g, i, none⟩) hbs _).setCell (p := ⟨g, k, none⟩) hbs _
  clear Hcell Hfz
  generalize hx : l[k] = x at *
  generalize hy : l[i] = y at *
  generalize hw3 : w2.setCell ⟨g, i, none⟩ (.int .u32 x) = w3 at *
  clear hx hy
  go_wp2_with fail
  generalize hw4 : w3.setCell ⟨g, k, none⟩ (.int .u32 y) = w4 at *
  clear hw3 hw4 e1 e2 e3 e4 e5 e6 f1 f2 f5
  refine (unordered_any _ _ _ HS.out).mono ?_
  rintro e w5 ⟨rfl, h5⟩
  rw [hsw.out]
  have hg5 : Below w.heap.size w w5 := hg4.trans (h5.grew.below.mono hg4.size)
  clear HS h5 hg4
  go_wp2_with fail
  refine (unordered_any l _ _ (HL.out.keeps hg5)).mono ?_
  rintro e w6 ⟨rfl, h6⟩
  have hg6 : Below w.heap.size w w6 := hg5.trans (h6.grew.below.mono hg5.size)
  clear h6 hg5
  go_wp2_with fail
  refine (speaks_any _).mono ?_
  rintro e w7 ⟨rfl, h7⟩
  have hg7 : Below w.heap.size w w7 := hg6.trans (h7.below.mono hg6.size)
  clear h7 hg6
  go_wp2_with fail
  go_ret
  exact ⟨rfl, hg7⟩

theorem turned_walk (l : List Int) (i k : Int) (v : Value) (w : World) (hl : IntsAt .u32 w l v) (hreach : l.length * 4 ≤ 140737488351232) :
    Calls Try.prog 7 #[v, .int .i64 i, .int .i64 k] w fun e w' => e = .returned (.bool true) ∧ Below w.heap.size w w' := by
  by_cases h : i < 0 ∨ k < 0 ∨ (l.length : Int) ≤ i ∨ (l.length : Int) ≤ k
  · exact (turned_out l i k v w hl h).mono fun e w' ⟨he, hg⟩ => ⟨he, hg.below⟩
  · obtain ⟨I, rfl⟩ := Int.eq_ofNat_of_zero_le (show 0 ≤ i by omega)
    obtain ⟨K, rfl⟩ := Int.eq_ofNat_of_zero_le (show 0 ≤ k by omega)
    exact turned_in l I K v w hl (by omega) (by omega) hreach

end Go.Proofs.Yteldncblmoilkaa
