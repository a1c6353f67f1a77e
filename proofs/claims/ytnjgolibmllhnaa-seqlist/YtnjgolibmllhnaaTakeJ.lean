/-
  What the walks of Take, Nth, Drop and Count keep.
-/
import Derived.Test.YtnjgolibmllhnaaWalkM
import Derived.Test.YtnjgolibmllhnaaRNthM
namespace Go.Proofs.Ytnjgolibmllhnaa
open Go.RowKit Go.Shelf

/-- The walk of Take: the list lies in a row of its own, in the box b0. -/
def JT (b0 : Nat) (Y : Nat → Prop) (w0 : World) (P0 : Nat → Nat) (k0 : Nat) (bar : Nat → Prop) (s : SS) (p : Nat) (l : List VT) (o : Option (VT × Value)) (w : World) : Prop :=
  ∃ a c ps, ps.map (·.1) = l ∧ w.ownsRow w0.heap.size 38 4 (.slice a l.length c) l.length (ps.flatMap encP) ∧ w.cell? ⟨b0, 0, none⟩ = some (.slice a l.length c) ∧ w.frozen? ⟨b0, 0, none⟩ = false ∧ ¬ bar b0 ∧ (∀ g, (Value.slice a l.length c).ownBlock = some g → ¬ bar g ∧ g ≠ b0) ∧ Tk pCK True Y (fun n => bar n ∨ n = b0 ∨ (Value.slice a l.length c).ownBlock = some n) w0 P0 k0 s p w (ps ++ o.toList)

theorem own_kc {B : Nat → Prop} {w w' : World} {base : Nat} {v : Value} {n : Nat} {xs : List Value} (h : w.ownsRow base 38 4 v n xs) (k : KC B w w') (hB : ∀ g, v.ownBlock = some g → ¬ B g) : w'.ownsRow base 38 4 v n xs := by
  refine ⟨h.1, ?_⟩
  rcases h.2 with h2 | ⟨g, cap, cur, rfl, h3, h4, h5⟩
  · exact .inl h2
  · have hlt : g < w.heap.size := by
      rcases Nat.lt_or_ge g w.heap.size with h | h
      · exact h
      · rw [Array.getElem?_eq_none h] at h4; cases h4
    exact .inr ⟨g, cap, cur, rfl, h3, (k.block g hlt (hB g rfl)).trans h4, h5⟩

theorem jt_wkr (b0 : Nat) (Y : Nat → Prop) (w0 : World) (P0 : Nat → Nat) (k0 : Nat) : Wkr frcC (JT b0 Y w0 P0 k0) where
  k1 := by
    rintro bar s p l o w w' ⟨a, c, ps, h1, h2, h3, h4, h5, h6, h7⟩ k
    exact ⟨a, c, ps, h1, own_kc h2 k (fun g hg => (h6 g hg).1), k.cell h5 h3, k.frozen h5 h3 h4, h5, h6, h7.k1 (k.mono (fun _ _ h => .inl h))⟩
  k2 := by
    rintro bar s p l o w w' ⟨a, c, ps, h1, h2, h3, h4, h5, h6, h7⟩ hb
    have hbl : b0 < w.heap.size := cell_lt h3
    refine ⟨a, c, ps, h1, own_kc h2 (KC.of_below (B := fun _ => False) hb) (fun _ _ h => h), cell_keeps hb h3, (hb.frozen (p := ⟨b0, 0, none⟩) hbl).trans h4, ?_, fun g hg => ⟨?_, (h6 g hg).2⟩, (h7.k2 hb).k3 (fun n hn => ?_)⟩
    · rintro (h | h)
      · exact h5 h
      · omega
    · rintro (h | h)
      · exact (h6 g hg).1 h
      · have := (h2.lt g hg).2; omega
    · rcases hn with (h | h) | h
      · exact .inl (.inl h)
      · exact .inr h
      · exact .inl (.inr h)
  k3 := by
    rintro bar bar' s p l o w ⟨a, c, ps, h1, h2, h3, h4, h5, h6, h7⟩ hb
    exact ⟨a, c, ps, h1, h2, h3, h4, fun h => h5 (hb _ h), fun g hg => ⟨fun h => (h6 g hg).1 (hb _ h), (h6 g hg).2⟩, h7.k3 (fun n hn => hn.imp (hb n) id)⟩

theorem jt_force (b0 : Nat) (Y : Nat → Prop) (w0 : World) (P0 : Nat → Nat) (k0 : Nat) (bar : Nat → Prop) (s : SS) (p : Nat) (l : List VT) (f : Nat) (w : World) (hf : f ≤ 1073741824) (h : JT b0 Y w0 P0 k0 bar s p l none w) :
    Calls Try.prog 39 #[.pointer (some ⟨p, 0, none⟩), .int .i64 (f : Int)] w (FJ (JT b0 Y w0 P0 k0) bar p l (frcC s f) w) := by
  obtain ⟨a, c, ps, h1, h2, h3, h4, h5, h6, h7⟩ := h
  refine Calls.mono (h7.force 39 pForce f hf) ?_
  rintro e w' ⟨hk, hp⟩
  have g2 := own_kc h2 hk (fun g hg h => h (.inr (.inr hg)))
  have g3 := hk.cell (a := ⟨b0, 0, none⟩) (fun h => h (.inr (.inl rfl))) h3
  have g4 := hk.frozen (a := ⟨b0, 0, none⟩) (fun h => h (.inr (.inl rfl))) h3 h4
  refine ⟨hk.mono (fun _ _ h hb => h (.inl hb)), ?_⟩
  cases hr : frcC s f with
  | err e0 s' => rw [hr] at hp; exact ⟨hp.1, a, c, ps, h1, g2, g3, g4, h5, h6, by simpa using hp.2⟩
  | emp left s' => rw [hr] at hp; exact ⟨hp.1, hp.2.1, a, c, ps, h1, g2, g3, g4, h5, h6, by simpa using hp.2.2⟩
  | item x left s' => rw [hr] at hp; obtain ⟨p', a', c', k1, k2, k3⟩ := hp; exact ⟨p', a', c', k1, k2, a, c, ps, h1, g2, g3, g4, h5, h6, by simpa using k3⟩

theorem jt_found (b0 : Nat) (Y : Nat → Prop) (w0 : World) (P0 : Nat → Nat) (k0 : Nat) (bar : Nat → Prop) (s : SS) (p : Nat) (l : List VT) (x : VT) (u : Value) (w : World) (hl : l.length ≤ 65536) (h : JT b0 Y w0 P0 k0 bar s p l (some (x, u)) w) :
    Calls Try.prog 25 (#[.agg #[.int .i64 x.kind, .int .i64 x.num, .string x.text, u]] ++ #[.pointer (some ⟨b0, 0, none⟩)]) w fun e w' => e = .returned (.tuple #[]) ∧ KC (fun n => ¬ bar n) w w' ∧ JT b0 Y w0 P0 k0 bar s p (l ++ [x]) none w' := by
  obtain ⟨a, c, ps, h1, h2, h3, h4, h5, h6, h7⟩ := h
  obtain ⟨P, Yc, _, _, _, _, _, _, _, h8⟩ := h7.ex
  obtain ⟨_, au, cu, hu, _⟩ := h8 (x, u) (by simp)
  simp only at hu
  subst hu
  refine Calls.mono (take1_any w0.heap.size b0 l.length x au x.items.length cu a c (ps.flatMap encP) w hl h3 h4 h2 h7.kc.size (fun e => (h6 b0 e).2 rfl)) ?_
  rintro e w' ⟨rfl, g, cap, k1, k2, k3, k4, k5, k6⟩
  have hlen : (l ++ [x]).length = l.length + 1 := by simp
  have hgb : ¬ bar g := by
    rcases k5 with h | h
    · exact (h6 g h).1
    · exact fun hb => by have := (h7.barw g (.inl hb)).2; omega
  have hglt : g < w'.heap.size := (k3.lt g rfl).2
  refine ⟨rfl, k4.mono (fun j _ hj hb => ?_), some ⟨g, 0, none⟩, cap, ps ++ [(x, .slice au x.items.length cu)], by simp [h1], ?_, ?_, k2, h5, fun g' hg' => ?_, ?_⟩
  · rcases hj with rfl | hj
    · exact h5 hb
    · exact (h6 j hj).1 hb
  · rw [hlen, List.flatMap_append]; simpa using k3
  · rw [hlen]; exact k1
  · have : g = g' := by simpa [Value.ownBlock] using hg'
    subst this
    exact ⟨hgb, k6⟩
  · have h9 := h7.k1 (k4.mono (fun j _ hj => by rcases hj with h | h; exact .inr (.inl h); exact .inr (.inr h)))
    rcases k5 with hh | hh
    · refine (h9.k3 (fun n hn => ?_)).part (fun y hy => by simpa using hy)
      rcases hn with h | h | h
      · exact .inl h
      · exact .inr (.inl h)
      · have : g = n := by simpa [Value.ownBlock] using h
        subst this
        exact .inr (.inr hh)
    · refine ((h7.k4 (k4.mono (fun j _ hj => by rcases hj with h | h; exact .inr (.inl h); exact .inr (.inr h)))).k3 (fun n hn => ?_)).part (fun y hy => by simpa using hy)
      rcases hn with h | h | h
      · exact .inl (.inl h)
      · exact .inl (.inr (.inl h))
      · have : g = n := by simpa [Value.ownBlock] using h
        subst this
        exact .inr ⟨hh, hglt⟩

end Go.Proofs.Ytnjgolibmllhnaa

