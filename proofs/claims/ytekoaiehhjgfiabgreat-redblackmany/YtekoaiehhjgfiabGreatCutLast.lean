/-
  The contract of cutLast.
-/
import Derived.Test.YtekoaiehhjgfiabGreatHungN
import Derived.Test.YtekoaiehhjgfiabGreatHungO
import Derived.Test.YtekoaiehhjgfiabGreatRowQ
import Derived.BigRegion
namespace Go.Proofs.YtekoaiehhjgfiabGreat
open Go.RowKit

theorem hungR_node {α : Type} (x : α) (r : RT α) : ∀ (l : RT α), ∃ c a b e, RT.hungR l x r = .node c a b e
  | .nil => ⟨_, _, _, _, rfl⟩
  | .node c l y rr => by
    unfold RT.hungR
    split
    · exact ⟨_, _, _, _, rfl⟩
    · unfold RT.turnR
      split <;> exact ⟨_, _, _, _, rfl⟩

theorem hungR_size {α : Type} (l : RT α) (x : α) (r : RT α) : (RT.hungR l x r).size = l.size + 1 + r.size := by
  rw [RT.size_items, RT.hungR_items, RT.size_items l, RT.size_items r]; simp; omega

theorem hungR_any (X : Nat → Prop) (d : Nat) (s : RT PT) (x : PT) (q : Option Addr) (ku vu : Value) : ∀ (t : RT PT) (p : Option Addr) (m k : Nat) (w : World), RT.BH t m → RT.BH s k → k ≤ m → NM X d w t p → NM X d w s q → (LiesX X d w x.1.items ku ∧ x.1.text.size ≤ 9223372036854775807) → (LiesX X d w x.2.items vu ∧ x.2.text.size ≤ 9223372036854775807) → t.size + 1 + s.size < 4611686018427387904 →
    Calls Tryz.prog 135 #[.pointer p, .agg #[.int .i64 x.1.kind, .int .i64 x.1.num, .string x.1.text, ku, .int .i64 x.2.kind, .int .i64 x.2.num, .string x.2.text, vu], .pointer q] w (TreePost X d (RT.hungR t x s) w)
  | .nil, p, m, k, w, hm, hk, hkm, ht, hs, hx1, hx2, hz => by
    have hm0 : m = 0 := hm
    have e : RT.blacks s = 0 := by rw [hk.blacks]; omega
    have h9 := hungR_here X d w RT.nil s x p q ku vu ht hs hx1 hx2 (by simpa [RT.size] using hz) rfl (by rw [e]; rfl)
    exact h9
    
  | .node c l0 y rr, p, m, k, w, hm, hk, hkm, ht, hs, hx1, hx2, hz => by
    by_cases hc : c = false ∧ RT.blacks (.node c l0 y rr) = RT.blacks s
    · have e9 : RT.hungR (.node c l0 y rr) x s = .node true (.node c l0 y rr) x s := by
        show (if _ then _ else _) = _
        rw [if_pos hc]
      rw [e9]
      exact hungR_here X d w (.node c l0 y rr) s x p q ku vu ht hs hx1 hx2 (hz) hc.1 hc.2
    · obtain ⟨m', hm', hl, hr⟩ := hm
      have hb : RT.blacks (.node c l0 y rr) = m := RT.BH.blacks (t := .node c l0 y rr) ⟨m', hm', hl, hr⟩
      have hbs := hk.blacks
      have hkm' : k ≤ m' := by
        cases c with
        | true => simp at hm'; omega
        | false =>
          have : ¬ RT.blacks (.node false l0 y rr) = RT.blacks s := fun e => hc ⟨rfl, e⟩
          simp at hm'
          omega
      have hzz : (RT.node c l0 y rr).size = l0.size + 1 + rr.size := rfl
      have hsz : (RT.hungR rr x s).size = rr.size + 1 + s.size := hungR_size _ _ _
      have e9 : RT.hungR (.node c l0 y rr) x s = RT.turnR c l0 y (RT.hungR rr x s) := by
        show (if _ then _ else _) = _
        rw [if_neg hc]
      rw [e9]
      obtain ⟨b, pl0, pr0, ku2, vu2, rfl, hn, hy1, hy2, hnl, hnr⟩ := ht
      have hi : ∀ V, Below w.heap.size w V → Calls Tryz.prog 135 #[.pointer pr0, .agg #[.int .i64 x.1.kind, .int .i64 x.1.num, .string x.1.text, ku, .int .i64 x.2.kind, .int .i64 x.2.num, .string x.2.text, vu], .pointer q] V (TreePost X d (RT.hungR rr x s) V) := fun V hV => hungR_any X d s x q ku vu rr pr0 m' k V hr hk hkm' (hnr.keeps hV) (hs.keeps hV) ⟨LiesX.keeps hV hx1.1, hx1.2⟩ ⟨LiesX.keeps hV hx2.1, hx2.2⟩ (by omega)
      have ho : NM X d w l0 pl0 := hnl
      have htt : NM X d w (.node c l0 y rr) (some ⟨b, 0, none⟩) := ⟨b, pl0, pr0, ku2, vu2, rfl, hn, hy1, hy2, hnl, hnr⟩
      obtain ⟨ec, el, ex, er, hEe⟩ := hungR_node x s rr
      obtain ⟨E, hE0⟩ : ∃ E, E = RT.hungR rr x s := ⟨_, rfl⟩
      rw [← hE0] at hsz hi hEe ⊢
      have hmade : ∀ c V pe, Below w.heap.size w V → NM X d V E pe → Calls Tryz.prog 124 #[.bool c, .pointer pl0, .agg #[.int .i64 y.1.kind, .int .i64 y.1.num, .string y.1.text, ku2, .int .i64 y.2.kind, .int .i64 y.2.num, .string y.2.text, vu2], .pointer pe] V (TreePost X d (.node c l0 y E) V) := fun c V pe hV hE => made_14 X d V c l0 E y pl0 pe ku2 vu2 (ho.keeps hV) hE ⟨LiesX.keeps hV hy1.1, hy1.2⟩ ⟨LiesX.keeps hV hy2.1, hy2.2⟩ (by omega)
      cases c with
      | true =>
        subst hEe
        exact hungR_red X d w l0 el er x y ex b pl0 pr0 q ku vu ku2 vu2 _ _ _ ec hn hi (hmade true)
      | false =>
        have hne : ¬ ((RT.blacks (.node false l0 y rr) : Int) = (RT.blacks s : Int)) := fun e => hc ⟨rfl, by omega⟩
        have g1 := fun V (hV : Below w.heap.size w V) => measured_14 (htt.keeps hV)
        have g2 := fun V (hV : Below w.heap.size w V) => measured_14 (hs.keeps hV)
        cases ec with
        | false =>
          subst hEe
          exact hungR_A X d w l0 el er x y ex b pl0 pr0 q ku vu ku2 vu2 _ _ _ hn hi _ _ _ _ _ _ g1 g2 hne (hmade false)
        | true =>
          cases hred : RT.isRed er with
          | false =>
            subst hEe
            have e8 : RT.turnR false l0 y (.node true el ex er) = .node false l0 y (.node true el ex er) := by
              cases er with
              | nil => rfl
              | node c9 a9 b9 d9 =>
                cases c9 with
                | false => rfl
                | true => cases hred
            rw [e8]
            exact hungR_B X d w l0 el er x y ex b pl0 pr0 q ku vu ku2 vu2 _ _ _ hn hi _ _ _ _ _ _ g1 g2 hne (hmade false) (fun V p hp => by rw [← hred]; exact isRed_14 hp)
          | true =>
            subst hEe
            have e8 : RT.turnR false l0 y (.node true el ex er) = .node true (.node false l0 y el) ex er.black := by
              cases er with
              | nil => cases hred
              | node c9 a9 b9 d9 =>
                cases c9 with
                | false => cases hred
                | true => rfl
            have hsz' : el.size + 1 + er.size = rr.size + 1 + s.size := hsz
            have hbs9 : (er).black.size = (er).size := by rw [RT.size_items, RT.black_items, ← RT.size_items]
            rw [e8]
            exact hungR_C X d w l0 el er x y ex b pl0 pr0 q ku vu ku2 vu2 _ _ _ hn hi _ _ _ _ _ _ g1 g2 hne (fun V p hp => by rw [← hred]; exact isRed_14 hp)
              (fun V p hV hp => made_14 X d V false l0 el y pl0 p ku2 vu2 (ho.keeps hV) hp ⟨LiesX.keeps hV hy1.1, hy1.2⟩ ⟨LiesX.keeps hV hy2.1, hy2.2⟩ (by omega))
              (fun V p hp => black_14 hp (by omega))
              (fun V p1 p2 k3 v3 h1 h2 h3 h4 => made_14 X d V true _ _ ex p1 p2 k3 v3 h1 h2 h3 h4 (by
                show (l0.size + 1 + el.size) + 1 + er.black.size < _
                omega))

theorem hungL_node {α : Type} (x : α) (l : RT α) : ∀ (r : RT α), ∃ c a b e, RT.hungL l x r = .node c a b e
  | .nil => by cases l <;> exact ⟨_, _, _, _, rfl⟩
  | .node c ll y r => by
    unfold RT.hungL
    split
    · exact ⟨_, _, _, _, rfl⟩
    · unfold RT.turnL
      split <;> exact ⟨_, _, _, _, rfl⟩

theorem hungL_size {α : Type} (l : RT α) (x : α) (r : RT α) : (RT.hungL l x r).size = l.size + 1 + r.size := by
  rw [RT.size_items, RT.hungL_items, RT.size_items l, RT.size_items r]; simp; omega

theorem hungL_any (X : Nat → Prop) (d : Nat) (s : RT PT) (x : PT) (q : Option Addr) (ku vu : Value) : ∀ (t : RT PT) (p : Option Addr) (m k : Nat) (w : World), RT.BH t m → RT.BH s k → k ≤ m → NM X d w t p → NM X d w s q → (LiesX X d w x.1.items ku ∧ x.1.text.size ≤ 9223372036854775807) → (LiesX X d w x.2.items vu ∧ x.2.text.size ≤ 9223372036854775807) → t.size + 1 + s.size < 4611686018427387904 →
    Calls Tryz.prog 136 #[.pointer q, .agg #[.int .i64 x.1.kind, .int .i64 x.1.num, .string x.1.text, ku, .int .i64 x.2.kind, .int .i64 x.2.num, .string x.2.text, vu], .pointer p] w (TreePost X d (RT.hungL s x t) w)
  | .nil, p, m, k, w, hm, hk, hkm, ht, hs, hx1, hx2, hz => by
    have hm0 : m = 0 := hm
    have e : RT.blacks s = 0 := by rw [hk.blacks]; omega
    have h9 := hungL_here X d w s RT.nil x q p ku vu hs ht hx1 hx2 (by simpa [RT.size, Nat.add_comm] using hz) rfl (by rw [e]; rfl)
    have e9 : RT.hungL s x RT.nil = .node true s x .nil := by cases s <;> rfl
    rw [e9]; exact h9
  | .node c l0 y rr, p, m, k, w, hm, hk, hkm, ht, hs, hx1, hx2, hz => by
    by_cases hc : c = false ∧ RT.blacks s = RT.blacks (.node c l0 y rr)
    · have e9 : RT.hungL s x (.node c l0 y rr) = .node true s x (.node c l0 y rr) := by
        cases s <;> show (if _ then _ else _) = _
        all_goals rw [if_pos hc]
      rw [e9]
      exact hungL_here X d w s (.node c l0 y rr) x q p ku vu hs ht hx1 hx2 (by omega) hc.1 hc.2
    · obtain ⟨m', hm', hl, hr⟩ := hm
      have hb : RT.blacks (.node c l0 y rr) = m := RT.BH.blacks (t := .node c l0 y rr) ⟨m', hm', hl, hr⟩
      have hbs := hk.blacks
      have hkm' : k ≤ m' := by
        cases c with
        | true => simp at hm'; omega
        | false =>
          have : ¬ RT.blacks (.node false l0 y rr) = RT.blacks s := fun e => hc ⟨rfl, e.symm⟩
          simp at hm'
          omega
      have hzz : (RT.node c l0 y rr).size = l0.size + 1 + rr.size := rfl
      have hsz : (RT.hungL s x l0).size = s.size + 1 + l0.size := hungL_size _ _ _
      have e9 : RT.hungL s x (.node c l0 y rr) = RT.turnL c (RT.hungL s x l0) y rr := by
        cases s <;> show (if _ then _ else _) = _
        all_goals rw [if_neg hc]
      rw [e9]
      obtain ⟨b, pl0, pr0, ku2, vu2, rfl, hn, hy1, hy2, hnl, hnr⟩ := ht
      have hi : ∀ V, Below w.heap.size w V → Calls Tryz.prog 136 #[.pointer q, .agg #[.int .i64 x.1.kind, .int .i64 x.1.num, .string x.1.text, ku, .int .i64 x.2.kind, .int .i64 x.2.num, .string x.2.text, vu], .pointer pl0] V (TreePost X d (RT.hungL s x l0) V) := fun V hV => hungL_any X d s x q ku vu l0 pl0 m' k V hl hk hkm' (hnl.keeps hV) (hs.keeps hV) ⟨LiesX.keeps hV hx1.1, hx1.2⟩ ⟨LiesX.keeps hV hx2.1, hx2.2⟩ (by omega)
      have ho : NM X d w rr pr0 := hnr
      have htt : NM X d w (.node c l0 y rr) (some ⟨b, 0, none⟩) := ⟨b, pl0, pr0, ku2, vu2, rfl, hn, hy1, hy2, hnl, hnr⟩
      obtain ⟨ec, el, ex, er, hEe⟩ := hungL_node x s l0
      obtain ⟨E, hE0⟩ : ∃ E, E = RT.hungL s x l0 := ⟨_, rfl⟩
      rw [← hE0] at hsz hi hEe ⊢
      have hmade : ∀ c V pe, Below w.heap.size w V → NM X d V E pe → Calls Tryz.prog 124 #[.bool c, .pointer pe, .agg #[.int .i64 y.1.kind, .int .i64 y.1.num, .string y.1.text, ku2, .int .i64 y.2.kind, .int .i64 y.2.num, .string y.2.text, vu2], .pointer pr0] V (TreePost X d (.node c E y rr) V) := fun c V pe hV hE => made_14 X d V c E rr y pe pr0 ku2 vu2 hE (ho.keeps hV) ⟨LiesX.keeps hV hy1.1, hy1.2⟩ ⟨LiesX.keeps hV hy2.1, hy2.2⟩ (by omega)
      cases c with
      | true =>
        subst hEe
        exact hungL_red X d w rr el er x y ex b pr0 pl0 q ku vu ku2 vu2 _ _ _ ec hn hi (hmade true)
      | false =>
        have hne : ¬ ((RT.blacks s : Int) = (RT.blacks (.node false l0 y rr) : Int)) := fun e => hc ⟨rfl, by omega⟩
        have g1 := fun V (hV : Below w.heap.size w V) => measured_14 (htt.keeps hV)
        have g2 := fun V (hV : Below w.heap.size w V) => measured_14 (hs.keeps hV)
        cases ec with
        | false =>
          subst hEe
          exact hungL_A X d w rr el er x y ex b pr0 pl0 q ku vu ku2 vu2 _ _ _ hn hi _ _ _ _ _ _ g2 g1 hne (hmade false)
        | true =>
          cases hred : RT.isRed el with
          | false =>
            subst hEe
            have e8 : RT.turnL false (.node true el ex er) y rr = .node false (.node true el ex er) y rr := by
              cases el with
              | nil => rfl
              | node c9 a9 b9 d9 =>
                cases c9 with
                | false => rfl
                | true => cases hred
            rw [e8]
            exact hungL_B X d w rr el er x y ex b pr0 pl0 q ku vu ku2 vu2 _ _ _ hn hi _ _ _ _ _ _ g2 g1 hne (hmade false) (fun V p hp => by rw [← hred]; exact isRed_14 hp)
          | true =>
            subst hEe
            have e8 : RT.turnL false (.node true el ex er) y rr = .node true el.black ex (.node false er y rr) := by
              cases el with
              | nil => cases hred
              | node c9 a9 b9 d9 =>
                cases c9 with
                | false => cases hred
                | true => rfl
            have hsz' : el.size + 1 + er.size = s.size + 1 + l0.size := hsz
            have hbs9 : (el).black.size = (el).size := by rw [RT.size_items, RT.black_items, ← RT.size_items]
            rw [e8]
            exact hungL_C X d w rr el er x y ex b pr0 pl0 q ku vu ku2 vu2 _ _ _ hn hi _ _ _ _ _ _ g2 g1 hne (fun V p hp => by rw [← hred]; exact isRed_14 hp)
              (fun V p hV hp => made_14 X d V false er rr y p pr0 ku2 vu2 hp (ho.keeps hV) ⟨LiesX.keeps hV hy1.1, hy1.2⟩ ⟨LiesX.keeps hV hy2.1, hy2.2⟩ (by omega))
              (fun V p hp => black_14 hp (by omega))
              (fun V p1 p2 k3 v3 h1 h2 h3 h4 => made_14 X d V true _ _ ex p1 p2 k3 v3 h1 h2 h3 h4 (by
                show el.black.size + 1 + (er.size + 1 + rr.size) < _
                omega))

end Go.Proofs.YtekoaiehhjgfiabGreat

namespace Go.Proofs.YtekoaiehhjgfiabGreat
open Go.RowKit

theorem join_size {α : Type} (l : RT α) (x : α) (r : RT α) : (RT.join l x r).size = l.size + 1 + r.size := by
  rw [RT.size_items, RT.join_items, RT.size_items l, RT.size_items r]; simp; omega

set_option maxRecDepth 100000 in
set_option maxHeartbeats 16000000 in
theorem join_core (X : Nat → Prop) (d : Nat) (w : World) (l r T : RT PT) (x : PT) (pl pr : Option Addr) (ku vu : Value) (c : Nat)
    (h1 : ∀ V, Below w.heap.size w V → Calls Tryz.prog 85 #[.pointer pl] V (TreePost X d l.black V)) (h2 : ∀ V, Below w.heap.size w V → Calls Tryz.prog 85 #[.pointer pr] V (TreePost X d r.black V))
    (hlt : c = 0 → ¬ ((r.black.blacks : Int) < (l.black.blacks : Int)) ∧ ¬ ((l.black.blacks : Int) < (r.black.blacks : Int)) ∧ ∀ V p q, Below w.heap.size w V → NM X d V l.black p → NM X d V r.black q → Calls Tryz.prog 124 #[.bool true, .pointer p, .agg #[.int .i64 x.1.kind, .int .i64 x.1.num, .string x.1.text, ku, .int .i64 x.2.kind, .int .i64 x.2.num, .string x.2.text, vu], .pointer q] V (TreePost X d T V))
    (hgt : c = 1 → ((r.black.blacks : Int) < (l.black.blacks : Int)) ∧ ∀ V p q, Below w.heap.size w V → NM X d V l.black p → NM X d V r.black q → Calls Tryz.prog 135 #[.pointer p, .agg #[.int .i64 x.1.kind, .int .i64 x.1.num, .string x.1.text, ku, .int .i64 x.2.kind, .int .i64 x.2.num, .string x.2.text, vu], .pointer q] V (TreePost X d T V))
    (hls : c = 2 → ¬ ((r.black.blacks : Int) < (l.black.blacks : Int)) ∧ ((l.black.blacks : Int) < (r.black.blacks : Int)) ∧ ∀ V p q, Below w.heap.size w V → NM X d V l.black p → NM X d V r.black q → Calls Tryz.prog 136 #[.pointer p, .agg #[.int .i64 x.1.kind, .int .i64 x.1.num, .string x.1.text, ku, .int .i64 x.2.kind, .int .i64 x.2.num, .string x.2.text, vu], .pointer q] V (TreePost X d T V))
    (hc : c = 0 ∨ c = 1 ∨ c = 2) :
    Calls Tryz.prog 88 #[.pointer pl, .agg #[.int .i64 x.1.kind, .int .i64 x.1.num, .string x.1.text, ku, .int .i64 x.2.kind, .int .i64 x.2.num, .string x.2.text, vu], .pointer pr] w (TreePost X d T w) := by
  have H1 : Hid _ := h1
  have H2 : Hid _ := h2
  have HL : Hid _ := hlt
  have HG : Hid _ := hgt
  have HS : Hid _ := hls
  have HC : Hid _ := hc
  clear h1 h2 hlt hgt hls hc
  go_enter Tryz.func88, Tryz.ntmps88
  go_wp2_with fail
  obtain ⟨W0, hW0⟩ : ∃ W0, W0 = w.alloc (.cells #[.int .i64 x.1.kind, .int .i64 x.1.num, .string x.1.text, ku, .int .i64 x.2.kind, .int .i64 x.2.num, .string x.2.text, vu] 52) := ⟨_, rfl⟩
  rw [← hW0]
  have hb0 : Below w.heap.size w W0 := by rw [hW0]; exact ((Grew.refl w).alloc _).below
  have x0 : W0.cell? ⟨w.heap.size, 0, none⟩ = some (.int .i64 x.1.kind) := by rw [hW0]; simp
  have x1 : W0.cell? ⟨w.heap.size, 1, none⟩ = some (.int .i64 x.1.num) := by rw [hW0]; simp
  have x2 : W0.cell? ⟨w.heap.size, 2, none⟩ = some (.string x.1.text) := by rw [hW0]; simp
  have x3 : W0.cell? ⟨w.heap.size, 3, none⟩ = some ku := by rw [hW0]; simp
  have x4 : W0.cell? ⟨w.heap.size, 4, none⟩ = some (.int .i64 x.2.kind) := by rw [hW0]; simp
  have x5 : W0.cell? ⟨w.heap.size, 5, none⟩ = some (.int .i64 x.2.num) := by rw [hW0]; simp
  have x6 : W0.cell? ⟨w.heap.size, 6, none⟩ = some (.string x.2.text) := by rw [hW0]; simp
  have x7 : W0.cell? ⟨w.heap.size, 7, none⟩ = some vu := by rw [hW0]; simp
  clear hW0
  refine (H1.out _ hb0).mono ?_
  rintro e w1 ⟨hg1, p1, rfl, ht1⟩
  have hb1 : Below w.heap.size w w1 := hb0.trans (hg1.mono hb0.size)
  go_wp2_with fail
  refine (H2.out _ hb1).mono ?_
  rintro e w2 ⟨hg2, p2, rfl, ht2⟩
  have hb2 : Below w.heap.size w w2 := hb1.trans (hg2.mono hb1.size)
  have HT1 : Hid (NM X d w2 l.black p1) := ht1.keeps hg2
  have HT2 : Hid (NM X d w2 r.black p2) := ht2
  have hg : Below W0.heap.size W0 w2 := hg1.trans (hg2.mono hg1.size)
  have x0 := cell_keeps hg x0
  have x1 := cell_keeps hg x1
  have x2 := cell_keeps hg x2
  have x3 := cell_keeps hg x3
  have x4 := cell_keeps hg x4
  have x5 := cell_keeps hg x5
  have x6 := cell_keeps hg x6
  have x7 := cell_keeps hg x7
  clear ht1 ht2 hg1 hg2 hg hb0 hb1 H1 H2
  go_wp2_with fail
  refine (measured_14 HT1.out).mono ?_
  rintro e w3 ⟨hg3, rfl⟩
  have hb3 : Below w.heap.size w w3 := hb2.trans (hg3.mono hb2.size)
  have HT1 : Hid (NM X d w3 l.black p1) := HT1.out.keeps hg3
  have HT2 : Hid (NM X d w3 r.black p2) := HT2.out.keeps hg3
  have x0 := cell_keeps hg3 x0
  have x1 := cell_keeps hg3 x1
  have x2 := cell_keeps hg3 x2
  have x3 := cell_keeps hg3 x3
  have x4 := cell_keeps hg3 x4
  have x5 := cell_keeps hg3 x5
  have x6 := cell_keeps hg3 x6
  have x7 := cell_keeps hg3 x7
  have hf1 : ∀ W : World, (Instr.field 96 (.agg #[.int .i64 l.black.size, .int .i64 l.black.high, .int .i64 l.black.blacks]) 2).run Tryz.prog W = .ok (.int .i64 l.black.blacks) W := fun W => field_blacks _ _ _ W
  have hf2 : ∀ W : World, (Instr.field 96 (.agg #[.int .i64 r.black.size, .int .i64 r.black.high, .int .i64 r.black.blacks]) 2).run Tryz.prog W = .ok (.int .i64 r.black.blacks) W := fun W => field_blacks _ _ _ W
  clear hg3 hb2
  go_wp2_with fail
  refine (measured_14 HT2.out).mono ?_
  rintro e w4 ⟨hg4, rfl⟩
  have hb4 : Below w.heap.size w w4 := hb3.trans (hg4.mono hb3.size)
  have HT1 : Hid (NM X d w4 l.black p1) := HT1.out.keeps hg4
  have HT2 : Hid (NM X d w4 r.black p2) := HT2.out.keeps hg4
  have x0 := cell_keeps hg4 x0
  have x1 := cell_keeps hg4 x1
  have x2 := cell_keeps hg4 x2
  have x3 := cell_keeps hg4 x3
  have x4 := cell_keeps hg4 x4
  have x5 := cell_keeps hg4 x5
  have x6 := cell_keeps hg4 x6
  have x7 := cell_keeps hg4 x7
  clear hg4 hb3
  rcases HC.out with rfl | rfl | rfl
  · obtain ⟨hn1, hn2, hmd⟩ := HL.out rfl
    have HD : Hid _ := hmd
    clear hmd HL HG HS HC
    go_wp2_with fail
    refine (HD.out _ _ _ hb4 HT1.out HT2.out).mono ?_
    rintro e w5 ⟨hg5, p5, rfl, ht5⟩
    have HE : Hid (TreePost X d T w (.returned (.pointer p5)) w5) := ⟨hb4.trans (hg5.mono hb4.size), p5, rfl, ht5⟩
    clear hg5 ht5 HD
    go_wp2_with fail
    go_ret
    exact HE.out
  · obtain ⟨hn1, hmd⟩ := HG.out rfl
    have HD : Hid _ := hmd
    clear hmd HL HG HS HC
    go_wp2_with fail
    refine (HD.out _ _ _ hb4 HT1.out HT2.out).mono ?_
    rintro e w5 ⟨hg5, p5, rfl, ht5⟩
    have HE : Hid (TreePost X d T w (.returned (.pointer p5)) w5) := ⟨hb4.trans (hg5.mono hb4.size), p5, rfl, ht5⟩
    clear hg5 ht5 HD
    go_wp2_with fail
    go_ret
    exact HE.out
  · obtain ⟨hn1, hn2, hmd⟩ := HS.out rfl
    have HD : Hid _ := hmd
    clear hmd HL HG HS HC
    go_wp2_with fail
    refine (HD.out _ _ _ hb4 HT1.out HT2.out).mono ?_
    rintro e w5 ⟨hg5, p5, rfl, ht5⟩
    have HE : Hid (TreePost X d T w (.returned (.pointer p5)) w5) := ⟨hb4.trans (hg5.mono hb4.size), p5, rfl, ht5⟩
    clear hg5 ht5 HD
    go_wp2_with fail
    go_ret
    exact HE.out

theorem join_14 (X : Nat → Prop) (d : Nat) (w : World) (l r : RT PT) (x : PT) (pl pr : Option Addr) (ku vu : Value) (hl : NM X d w l pl) (hr : NM X d w r pr) (wl : RT.Well l) (wr : RT.Well r) (hk : LiesX X d w x.1.items ku ∧ x.1.text.size ≤ 9223372036854775807) (hv : LiesX X d w x.2.items vu ∧ x.2.text.size ≤ 9223372036854775807) (hs : l.size + 1 + r.size < 4611686018427387904) :
    Calls Tryz.prog 88 #[.pointer pl, .agg #[.int .i64 x.1.kind, .int .i64 x.1.num, .string x.1.text, ku, .int .i64 x.2.kind, .int .i64 x.2.num, .string x.2.text, vu], .pointer pr] w (TreePost X d (RT.join l x r) w) := by
  obtain ⟨n1, _, b1⟩ := wl
  obtain ⟨n2, _, b2⟩ := wr
  obtain ⟨m1, b1⟩ := b1.black
  obtain ⟨m2, b2⟩ := b2.black
  have e1 := b1.blacks
  have e2 := b2.blacks
  have z1 : l.black.size = l.size := by rw [RT.size_items, RT.black_items, ← RT.size_items]
  have z2 : r.black.size = r.size := by rw [RT.size_items, RT.black_items, ← RT.size_items]
  have kk := fun V (hV : Below w.heap.size w V) => (⟨LiesX.keeps hV hk.1, hk.2⟩ : LiesX X d V x.1.items ku ∧ x.1.text.size ≤ 9223372036854775807)
  have vv := fun V (hV : Below w.heap.size w V) => (⟨LiesX.keeps hV hv.1, hv.2⟩ : LiesX X d V x.2.items vu ∧ x.2.text.size ≤ 9223372036854775807)
  refine join_core X d w l r _ x pl pr ku vu (if m1 = m2 then 0 else if m2 < m1 then 1 else 2) (fun V hV => black_14 (hl.keeps hV) (by omega)) (fun V hV => black_14 (hr.keeps hV) (by omega)) ?_ ?_ ?_ ?_
  · intro hc
    have hm : m1 = m2 := by
      by_cases h : m1 = m2
      · exact h
      · rw [if_neg h] at hc; split at hc <;> cases hc
    refine ⟨by omega, by omega, fun V p q hV h1 h2 => ?_⟩
    have e9 : RT.join l x r = .node true l.black x r.black := by
      unfold RT.join
      rw [if_neg (by omega), if_neg (by omega)]
    rw [e9]
    exact made_14 X d V true _ _ x p q ku vu h1 h2 (kk V hV) (vv V hV) (by omega)
  · intro hc
    have hm : m2 < m1 := by
      by_cases h : m1 = m2
      · rw [if_pos h] at hc; cases hc
      · rw [if_neg h] at hc
        by_cases h' : m2 < m1
        · exact h'
        · rw [if_neg h'] at hc; cases hc
    refine ⟨by omega, fun V p q hV h1 h2 => ?_⟩
    have e9 : RT.join l x r = RT.hungR l.black x r.black := by
      unfold RT.join
      rw [if_pos (by omega)]
    rw [e9]
    exact hungR_any X d r.black x q ku vu l.black p m1 m2 V b1 b2 (by omega) h1 h2 (kk V hV) (vv V hV) (by omega)
  · intro hc
    have hm : m1 < m2 := by
      by_cases h : m1 = m2
      · rw [if_pos h] at hc; cases hc
      · rw [if_neg h] at hc
        by_cases h' : m2 < m1
        · rw [if_pos h'] at hc; cases hc
        · omega
    refine ⟨by omega, by omega, fun V p q hV h1 h2 => ?_⟩
    have e9 : RT.join l x r = RT.hungL l.black x r.black := by
      unfold RT.join
      rw [if_neg (by omega), if_pos (by omega)]
    rw [e9]
    exact hungL_any X d l.black x p ku vu r.black q m2 m1 V b2 b1 (by omega) h2 h1 (kk V hV) (vv V hV) (by omega)
  · split
    · exact .inl rfl
    · split
      · exact .inr (.inl rfl)
      · exact .inr (.inr rfl)

end Go.Proofs.YtekoaiehhjgfiabGreat

namespace Go.Proofs.YtekoaiehhjgfiabGreat
open Go.RowKit

structure Bx8 (W : World) (n : Nat) (v0 v1 v2 v3 v4 v5 v6 v7 : Value) : Prop where
  c0 : W.cell? ⟨n, 0, none⟩ = some v0
  c1 : W.cell? ⟨n, 1, none⟩ = some v1
  c2 : W.cell? ⟨n, 2, none⟩ = some v2
  c3 : W.cell? ⟨n, 3, none⟩ = some v3
  c4 : W.cell? ⟨n, 4, none⟩ = some v4
  c5 : W.cell? ⟨n, 5, none⟩ = some v5
  c6 : W.cell? ⟨n, 6, none⟩ = some v6
  c7 : W.cell? ⟨n, 7, none⟩ = some v7
  f0 : W.frozen? ⟨n, 0, none⟩ = false
  f1 : W.frozen? ⟨n, 1, none⟩ = false
  f2 : W.frozen? ⟨n, 2, none⟩ = false
  f3 : W.frozen? ⟨n, 3, none⟩ = false
  f4 : W.frozen? ⟨n, 4, none⟩ = false
  f5 : W.frozen? ⟨n, 5, none⟩ = false
  f6 : W.frozen? ⟨n, 6, none⟩ = false
  f7 : W.frozen? ⟨n, 7, none⟩ = false
  top : W.cell? ⟨n, 13, none⟩ = none

theorem cell_none {w w' : World} (hb : Below w.heap.size w w') {a : Addr} (ha : a.block < w.heap.size) (h : w.cell? a = none) : w'.cell? a = none := by
  have e := hb.block a.block ha
  unfold World.cell? at h ⊢
  rw [e]
  exact h

theorem Bx8.keeps {W W' : World} {n : Nat} {v0 v1 v2 v3 v4 v5 v6 v7 : Value} (h : Bx8 W n v0 v1 v2 v3 v4 v5 v6 v7) (hb : Below W.heap.size W W') : Bx8 W' n v0 v1 v2 v3 v4 v5 v6 v7 := by
  have hl : n < W.heap.size := cell_lt h.c0
  exact ⟨cell_keeps hb h.c0, cell_keeps hb h.c1, cell_keeps hb h.c2, cell_keeps hb h.c3, cell_keeps hb h.c4, cell_keeps hb h.c5, cell_keeps hb h.c6, cell_keeps hb h.c7, (hb.frozen (p := ⟨n, 0, none⟩) hl).trans h.f0, (hb.frozen (p := ⟨n, 1, none⟩) hl).trans h.f1, (hb.frozen (p := ⟨n, 2, none⟩) hl).trans h.f2, (hb.frozen (p := ⟨n, 3, none⟩) hl).trans h.f3, (hb.frozen (p := ⟨n, 4, none⟩) hl).trans h.f4, (hb.frozen (p := ⟨n, 5, none⟩) hl).trans h.f5, (hb.frozen (p := ⟨n, 6, none⟩) hl).trans h.f6, (hb.frozen (p := ⟨n, 7, none⟩) hl).trans h.f7, cell_none hb hl h.top⟩

theorem bx8_alloc (w : World) (T : Nat) (v0 v1 v2 v3 v4 v5 v6 v7 : Value) : Bx8 (w.alloc (.cells #[v0, v1, v2, v3, v4, v5, v6, v7] T)) w.heap.size v0 v1 v2 v3 v4 v5 v6 v7 := by
  refine ⟨?_, ?_, ?_, ?_, ?_, ?_, ?_, ?_, ?_, ?_, ?_, ?_, ?_, ?_, ?_, ?_, ?_⟩ <;> simp

theorem put8_in {W : World} {n : Nat} {v0 v1 v2 v3 v4 v5 v6 v7 : Value} (h : Bx8 W n v0 v1 v2 v3 v4 v5 v6 v7) (u0 u1 u2 u3 u4 u5 u6 u7 : Value) : (W.setCells n 0 [u0, u1, u2, u3, u4, u5, u6, u7]).cell? ⟨n, 0, none⟩ = some u0 ∧ (W.setCells n 0 [u0, u1, u2, u3, u4, u5, u6, u7]).cell? ⟨n, 1, none⟩ = some u1 ∧ (W.setCells n 0 [u0, u1, u2, u3, u4, u5, u6, u7]).cell? ⟨n, 2, none⟩ = some u2 ∧ (W.setCells n 0 [u0, u1, u2, u3, u4, u5, u6, u7]).cell? ⟨n, 3, none⟩ = some u3 ∧ (W.setCells n 0 [u0, u1, u2, u3, u4, u5, u6, u7]).cell? ⟨n, 4, none⟩ = some u4 ∧ (W.setCells n 0 [u0, u1, u2, u3, u4, u5, u6, u7]).cell? ⟨n, 5, none⟩ = some u5 ∧ (W.setCells n 0 [u0, u1, u2, u3, u4, u5, u6, u7]).cell? ⟨n, 6, none⟩ = some u6 ∧ (W.setCells n 0 [u0, u1, u2, u3, u4, u5, u6, u7]).cell? ⟨n, 7, none⟩ = some u7 := by
  have hin : ∀ j (hj : j < [u0, u1, u2, u3, u4, u5, u6, u7].length), (W.setCells n 0 [u0, u1, u2, u3, u4, u5, u6, u7]).cell? ⟨n, 0 + j, none⟩ = some ([u0, u1, u2, u3, u4, u5, u6, u7][j]) :=
    World.cell?_setCells_in n _ 0 W (fun j hj => by
      match j, hj with
      | 0, _ => rw [h.c0]; rfl
      | 1, _ => rw [h.c1]; rfl
      | 2, _ => rw [h.c2]; rfl
      | 3, _ => rw [h.c3]; rfl
      | 4, _ => rw [h.c4]; rfl
      | 5, _ => rw [h.c5]; rfl
      | 6, _ => rw [h.c6]; rfl
      | 7, _ => rw [h.c7]; rfl)
  refine ⟨?_, ?_, ?_, ?_, ?_, ?_, ?_, ?_⟩
  · have q := hin 0 (by simp); simpa using q
  · have q := hin 1 (by simp); simpa using q
  · have q := hin 2 (by simp); simpa using q
  · have q := hin 3 (by simp); simpa using q
  · have q := hin 4 (by simp); simpa using q
  · have q := hin 5 (by simp); simpa using q
  · have q := hin 6 (by simp); simpa using q
  · have q := hin 7 (by simp); simpa using q

theorem NM.put8 {X : Nat → Prop} {d : Nat} {W : World} {n : Nat} {v0 v1 v2 v3 v4 v5 v6 v7 : Value} (hx : ¬ X n) (h : Bx8 W n v0 v1 v2 v3 v4 v5 v6 v7) (vs : List Value) {t : RT PT} {p : Option Addr} (hn : NM X d W t p) : NM X d (W.setCells n 0 vs) t p :=
  NM.stays (fun _ h => h) (fun a v ha hv => cell_other (g := n) (fun e => hx (by rw [← e]; exact ha)) hv) (fun b k u _ h13 hc => cell_other (g := n) (fun e => by simp only at e; rw [e] at h13; exact h13 h.top) hc) hn

theorem set8_keep {W : World} {n : Nat} {v0 v1 v2 v3 v4 v5 v6 v7 : Value} {a : Addr} {v : Value} (hn : a.block ≠ n) (h : W.cell? a = some v) : ((((((((W.setCell ⟨n, 0, none⟩ v0).setCell ⟨n, 1, none⟩ v1).setCell ⟨n, 2, none⟩ v2).setCell ⟨n, 3, none⟩ v3).setCell ⟨n, 4, none⟩ v4).setCell ⟨n, 5, none⟩ v5).setCell ⟨n, 6, none⟩ v6).setCell ⟨n, 7, none⟩ v7).cell? a = some v :=
  cell_other (g := n) (o := 0) (vs := [v0, v1, v2, v3, v4, v5, v6, v7]) hn h

theorem below_put8 {n0 : Nat} {w W : World} (h : Below n0 w W) {g : Nat} (hg : n0 ≤ g) (v0 v1 v2 v3 v4 v5 v6 v7 : Value) : Below n0 w (W.setCells g 0 [v0, v1, v2, v3, v4, v5, v6, v7]) :=
  (((((((h.setCell (p := ⟨g, 0, none⟩) hg _).setCell (p := ⟨g, 0 + 1, none⟩) hg _).setCell (p := ⟨g, 0 + 1 + 1, none⟩) hg _).setCell (p := ⟨g, 0 + 1 + 1 + 1, none⟩) hg _).setCell (p := ⟨g, 0 + 1 + 1 + 1 + 1, none⟩) hg _).setCell (p := ⟨g, 0 + 1 + 1 + 1 + 1 + 1, none⟩) hg _).setCell (p := ⟨g, 0 + 1 + 1 + 1 + 1 + 1 + 1, none⟩) hg _).setCell (p := ⟨g, 0 + 1 + 1 + 1 + 1 + 1 + 1 + 1, none⟩) hg _

end Go.Proofs.YtekoaiehhjgfiabGreat

namespace Go.Proofs.YtekoaiehhjgfiabGreat
open Go.RowKit

/-- What cutLast tells. -/
def CutPost14 (X : Nat → Prop) (d : Nat) (t : RT PT) (x : PT) (w : World) (e : Ending) (w' : World) : Prop :=
  Below w.heap.size w w' ∧ ∃ p ku vu, e = .returned (.tuple #[.pointer p, .agg #[.int .i64 x.1.kind, .int .i64 x.1.num, .string x.1.text, ku, .int .i64 x.2.kind, .int .i64 x.2.num, .string x.2.text, vu]]) ∧ NM X d w' t p ∧ (LiesX X d w' x.1.items ku ∧ x.1.text.size ≤ 9223372036854775807) ∧ (LiesX X d w' x.2.items vu ∧ x.2.text.size ≤ 9223372036854775807)

set_option maxRecDepth 100000 in
set_option maxHeartbeats 16000000 in
theorem cutLast_here (X : Nat → Prop) (d : Nat) (w : World) (l : RT PT) (x : PT) (b : Nat) (pl : Option Addr) (ku vu : Value) (c : Bool) (S H K : Nat) (hn : NCells w b pl none x ku vu c S H K) (hl : NM X d w l pl) (hk : (LiesX X d w x.1.items ku ∧ x.1.text.size ≤ 9223372036854775807) ∧ (LiesX X d w x.2.items vu ∧ x.2.text.size ≤ 9223372036854775807)) :
    Calls Tryz.prog 152 #[.pointer (some ⟨b, 0, none⟩)] w (CutPost14 X d l x w) := by
  obtain ⟨ak, ck, rfl, _⟩ := hk.1.1.slice
  obtain ⟨av, cv, rfl, _⟩ := hk.2.1.slice
  obtain ⟨c0, c1, c2, c3, c4, c5, c6, c7, c8, c9, _, _, _, _⟩ := hn
  have HK : Hid _ := hk
  have HL : Hid _ := hl
  clear hk hl
  have hbl := cell_lt c0
  simp only at hbl
  have hbne : ¬ b = w.heap.size := by omega
  go_enter Tryz.func152, Tryz.ntmps152
  go_wp2_with fail
  go_region
  go_wp2_with fail
  have hbb : Below w.heap.size w (w.alloc (.cells #[.int .i64 x.1.kind, .int .i64 x.1.num, .string x.1.text, .slice ak x.1.items.length ck, .int .i64 x.2.kind, .int .i64 x.2.num, .string x.2.text, .slice av x.2.items.length cv] 52)).drew := ((Grew.refl w).alloc _).below.drew
  refine bodyPost_ret (v := .tuple #[.pointer pl, .agg #[.int .i64 x.1.kind, .int .i64 x.1.num, .string x.1.text, .slice ak x.1.items.length ck, .int .i64 x.2.kind, .int .i64 x.2.num, .string x.2.text, .slice av x.2.items.length cv]]) ?_ rfl ⟨hbb, _, _, _, rfl, HL.out.keeps hbb, ⟨LiesX.keeps hbb HK.out.1.1, HK.out.1.2⟩, ⟨LiesX.keeps hbb HK.out.2.1, HK.out.2.2⟩⟩
  simp [results, Tryz.results152, go_sem]

set_option maxRecDepth 100000 in
set_option maxHeartbeats 16000000 in
theorem cutLast_step (X : Nat → Prop) (d : Nat) (w : World) (r0 T : RT PT) (x z : PT) (b : Nat) (pl : Option Addr) (q : Addr) (ku vu : Value) (c : Bool) (S H K : Nat) (hn : NCells w b pl (some q) x ku vu c S H K) (hk : (LiesX X d w x.1.items ku ∧ x.1.text.size ≤ 9223372036854775807) ∧ (LiesX X d w x.2.items vu ∧ x.2.text.size ≤ 9223372036854775807))
    (hi : ∀ V, Below w.heap.size w V → Calls Tryz.prog 152 #[.pointer (some q)] V (CutPost14 X d r0 z V))
    (hj : ∀ V p, Below w.heap.size w V → NM X d V r0 p → Calls Tryz.prog 88 #[.pointer pl, .agg #[.int .i64 x.1.kind, .int .i64 x.1.num, .string x.1.text, ku, .int .i64 x.2.kind, .int .i64 x.2.num, .string x.2.text, vu], .pointer p] V (TreePost X d T V)) (hX : ¬ X w.heap.size) :
    Calls Tryz.prog 152 #[.pointer (some ⟨b, 0, none⟩)] w (CutPost14 X d T z w) := by
  obtain ⟨ak, ck, rfl, _⟩ := hk.1.1.slice
  obtain ⟨av, cv, rfl, _⟩ := hk.2.1.slice
  obtain ⟨c0, c1, c2, c3, c4, c5, c6, c7, c8, c9, _, _, _, _⟩ := hn
  have HI : Hid _ := hi
  have HJ : Hid _ := hj
  have HK : Hid _ := hk
  clear hk hi hj
  have hbl := cell_lt c0
  simp only at hbl
  have hbne : ¬ b = w.heap.size := by omega
  go_enter Tryz.func152, Tryz.ntmps152
  go_wp2_with fail
  obtain ⟨W0, hW0⟩ : ∃ W0, W0 = w.alloc (.cells #[.int .i64 0, .int .i64 0, .string ⟨#[]⟩, .slice none 0 0, .int .i64 0, .int .i64 0, .string ⟨#[]⟩, .slice none 0 0] 52) := ⟨_, rfl⟩
  rw [← hW0]
  have hb0 : Below w.heap.size w W0 := by rw [hW0]; exact ((Grew.refl w).alloc _).below
  have HZ0 : Hid (Bx8 W0 w.heap.size (.int .i64 0) (.int .i64 0) (.string ⟨#[]⟩) (.slice none 0 0) (.int .i64 0) (.int .i64 0) (.string ⟨#[]⟩) (.slice none 0 0)) := by rw [hW0]; exact bx8_alloc w _ _ _ _ _ _ _ _ _
  have hz0 : w.heap.size < W0.heap.size := by rw [hW0]; simp
  clear hW0
  refine (HI.out _ hb0).mono ?_
  rintro e w1 ⟨hg1, p1, kz, vz, rfl, ht1, hkz, hvz⟩
  obtain ⟨akz, ckz, rfl, _⟩ := hkz.1.slice
  obtain ⟨avz, cvz, rfl, _⟩ := hvz.1.slice
  have hb1 : Below w.heap.size w w1 := hb0.trans (hg1.mono hb0.size)
  obtain ⟨W1, hW1⟩ : ∃ W1, W1 = w1.alloc (.cells #[.int .i64 z.1.kind, .int .i64 z.1.num, .string z.1.text, .slice akz z.1.items.length ckz, .int .i64 z.2.kind, .int .i64 z.2.num, .string z.2.text, .slice avz z.2.items.length cvz] 52) := ⟨_, rfl⟩
  have hbA : Below w1.heap.size w1 W1 := by rw [hW1]; exact ((Grew.refl w1).alloc _).below
  have HT1 : Hid (NM X d W1 r0 p1) := ht1.keeps hbA
  have HKZ : Hid (LiesX X d W1 z.1.items (.slice akz z.1.items.length ckz) ∧ z.1.text.size ≤ 9223372036854775807) := ⟨LiesX.keeps hbA hkz.1, hkz.2⟩
  have HVZ : Hid (LiesX X d W1 z.2.items (.slice avz z.2.items.length cvz) ∧ z.2.text.size ≤ 9223372036854775807) := ⟨LiesX.keeps hbA hvz.1, hvz.2⟩
  have hb2 : Below w.heap.size w W1 := hb1.trans (hbA.mono hb1.size)
  have HZ1 : Hid (Bx8 W1 w.heap.size (.int .i64 0) (.int .i64 0) (.string ⟨#[]⟩) (.slice none 0 0) (.int .i64 0) (.int .i64 0) (.string ⟨#[]⟩) (.slice none 0 0)) := (HZ0.out.keeps hg1).keeps hbA
  have hn2 : w1.heap.size ≠ w.heap.size := by have := hg1.size; omega
  clear ht1 hkz hvz HZ0
  go_wp2_with fail
  rw [← hW1]
  have z0 : W1.cell? ⟨w1.heap.size, 0, none⟩ = some (.int .i64 z.1.kind) := by rw [hW1]; simp
  have z1 : W1.cell? ⟨w1.heap.size, 1, none⟩ = some (.int .i64 z.1.num) := by rw [hW1]; simp
  have z2 : W1.cell? ⟨w1.heap.size, 2, none⟩ = some (.string z.1.text) := by rw [hW1]; simp
  have z3 : W1.cell? ⟨w1.heap.size, 3, none⟩ = some (.slice akz z.1.items.length ckz) := by rw [hW1]; simp
  have z4 : W1.cell? ⟨w1.heap.size, 4, none⟩ = some (.int .i64 z.2.kind) := by rw [hW1]; simp
  have z5 : W1.cell? ⟨w1.heap.size, 5, none⟩ = some (.int .i64 z.2.num) := by rw [hW1]; simp
  have z6 : W1.cell? ⟨w1.heap.size, 6, none⟩ = some (.string z.2.text) := by rw [hW1]; simp
  have z7 : W1.cell? ⟨w1.heap.size, 7, none⟩ = some (.slice avz z.2.items.length cvz) := by rw [hW1]; simp
  have c0 := cell_keeps hb2 c0; have c1 := cell_keeps hb2 c1; have c2 := cell_keeps hb2 c2; have c3 := cell_keeps hb2 c3; have c4 := cell_keeps hb2 c4; have c5 := cell_keeps hb2 c5; have c6 := cell_keeps hb2 c6; have c7 := cell_keeps hb2 c7; have c8 := cell_keeps hb2 c8; have c9 := cell_keeps hb2 c9
  clear hW1 hg1 hbA hb0 hb1 HI hbl hz0
  generalize w1.heap.size = B2 at *
  obtain ⟨y0, y1, y2, y3, y4, y5, y6, y7, f0, f1, f2, f3, f4, f5, f6, f7, _⟩ := HZ1.out
  have hb6 : b ≠ w.heap.size := hbne
  go_region_held3 (fun w' => w'.cell? ⟨b, 0, none⟩ = some (.pointer pl) ∧ w'.cell? ⟨b, 2, none⟩ = some (.int .i64 x.1.kind) ∧ w'.cell? ⟨b, 3, none⟩ = some (.int .i64 x.1.num) ∧ w'.cell? ⟨b, 4, none⟩ = some (.string x.1.text) ∧ w'.cell? ⟨b, 5, none⟩ = some (.slice ak x.1.items.length ck) ∧ w'.cell? ⟨b, 6, none⟩ = some (.int .i64 x.2.kind) ∧ w'.cell? ⟨b, 7, none⟩ = some (.int .i64 x.2.num) ∧ w'.cell? ⟨b, 8, none⟩ = some (.string x.2.text) ∧ w'.cell? ⟨b, 9, none⟩ = some (.slice av x.2.items.length cv) ∧ w'.cell? ⟨B2, 0, none⟩ = some (.int .i64 z.1.kind) ∧ w'.cell? ⟨B2, 1, none⟩ = some (.int .i64 z.1.num) ∧ w'.cell? ⟨B2, 2, none⟩ = some (.string z.1.text) ∧ w'.cell? ⟨B2, 3, none⟩ = some (.slice akz z.1.items.length ckz) ∧ w'.cell? ⟨B2, 4, none⟩ = some (.int .i64 z.2.kind) ∧ w'.cell? ⟨B2, 5, none⟩ = some (.int .i64 z.2.num) ∧ w'.cell? ⟨B2, 6, none⟩ = some (.string z.2.text) ∧ w'.cell? ⟨B2, 7, none⟩ = some (.slice avz z.2.items.length cvz)) (first | go_keep | exact ⟨set8_keep hb6 c0, set8_keep hb6 c2, set8_keep hb6 c3, set8_keep hb6 c4, set8_keep hb6 c5, set8_keep hb6 c6, set8_keep hb6 c7, set8_keep hb6 c8, set8_keep hb6 c9, set8_keep hn2 z0, set8_keep hn2 z1, set8_keep hn2 z2, set8_keep hn2 z3, set8_keep hn2 z4, set8_keep hn2 z5, set8_keep hn2 z6, set8_keep hn2 z7⟩)
    (first | (go_at_call 88; refine (HJ.out _ _ hb2.drew (HT1.out.keeps (Below.refl _ _).drew)).mono ?_; rintro e w5 ⟨hg5, p5, rfl, ht5⟩; have hbc : Below W1.heap.size W1 w5 := (Below.refl _ _).drew.trans hg5; have c0 := cell_keeps hbc c0; have c1 := cell_keeps hbc c1; have c2 := cell_keeps hbc c2; have c3 := cell_keeps hbc c3; have c4 := cell_keeps hbc c4; have c5 := cell_keeps hbc c5; have c6 := cell_keeps hbc c6; have c7 := cell_keeps hbc c7; have c8 := cell_keeps hbc c8; have c9 := cell_keeps hbc c9; have z0 := cell_keeps hbc z0; have z1 := cell_keeps hbc z1; have z2 := cell_keeps hbc z2; have z3 := cell_keeps hbc z3; have z4 := cell_keeps hbc z4; have z5 := cell_keeps hbc z5; have z6 := cell_keeps hbc z6; have z7 := cell_keeps hbc z7; have HT5 : Hid (NM X d w5 T p5) := ht5; have HZ5 : Hid (Bx8 w5 w.heap.size (.int .i64 0) (.int .i64 0) (.string ⟨#[]⟩) (.slice none 0 0) (.int .i64 0) (.int .i64 0) (.string ⟨#[]⟩) (.slice none 0 0)) := HZ1.out.keeps hbc; obtain ⟨y0, y1, y2, y3, y4, y5, y6, y7, f0, f1, f2, f3, f4, f5, f6, f7, _⟩ := HZ5.out; clear ht5 hg5))
  have Hq : Hid _ := put8_in HZ5.out (.int .i64 z.1.kind) (.int .i64 z.1.num) (.string z.1.text) (.slice akz z.1.items.length ckz) (.int .i64 z.2.kind) (.int .i64 z.2.num) (.string z.2.text) (.slice avz z.2.items.length cvz)
  have hbz : Below w.heap.size w w5 := hb2.trans (hbc.mono hb2.size)
  have HBz : Hid (Below w.heap.size w (w5.setCells w.heap.size 0 [.int .i64 z.1.kind, .int .i64 z.1.num, .string z.1.text, .slice akz z.1.items.length ckz, .int .i64 z.2.kind, .int .i64 z.2.num, .string z.2.text, .slice avz z.2.items.length cvz])) := below_put8 hbz (Nat.le_refl _) _ _ _ _ _ _ _ _
  have HTz : Hid (NM X d (w5.setCells w.heap.size 0 [.int .i64 z.1.kind, .int .i64 z.1.num, .string z.1.text, .slice akz z.1.items.length ckz, .int .i64 z.2.kind, .int .i64 z.2.num, .string z.2.text, .slice avz z.2.items.length cvz]) T p5) := HT5.out.put8 hX HZ5.out _
  have HKz : Hid (LiesX X d (w5.setCells w.heap.size 0 [.int .i64 z.1.kind, .int .i64 z.1.num, .string z.1.text, .slice akz z.1.items.length ckz, .int .i64 z.2.kind, .int .i64 z.2.num, .string z.2.text, .slice avz z.2.items.length cvz]) z.1.items (.slice akz z.1.items.length ckz)) := (HKZ.out.1.keeps hbc).set hX
  have HVz : Hid (LiesX X d (w5.setCells w.heap.size 0 [.int .i64 z.1.kind, .int .i64 z.1.num, .string z.1.text, .slice akz z.1.items.length ckz, .int .i64 z.2.kind, .int .i64 z.2.num, .string z.2.text, .slice avz z.2.items.length cvz]) z.2.items (.slice avz z.2.items.length cvz)) := (HVZ.out.1.keeps hbc).set hX
  go_wp2_with fail
  refine bodyPost_ret (v := .tuple #[.pointer p5, .agg #[.int .i64 z.1.kind, .int .i64 z.1.num, .string z.1.text, .slice akz z.1.items.length ckz, .int .i64 z.2.kind, .int .i64 z.2.num, .string z.2.text, .slice avz z.2.items.length cvz]]) ?_ rfl ⟨HBz.out, _, _, _, rfl, HTz.out, ⟨HKz.out, HKZ.out.2⟩, ⟨HVz.out, HVZ.out.2⟩⟩
  obtain ⟨q0, q1, q2, q3, q4, q5, q6, q7⟩ := Hq.out
  simp only [World.setCells, Nat.zero_add, Nat.reduceAdd] at q0 q1 q2 q3 q4 q5 q6 q7
  simp [results, Tryz.results152, go_sem, q0, q1, q2, q3, q4, q5, q6, q7]

theorem cutLast_core (X : Nat → Prop) (d : Nat) : ∀ (r l : RT PT) (c : Bool) (x : PT) (p : Option Addr) (w : World), NM X d w (.node c l x r) p → RT.Well l → RT.Well r → l.size + 1 + r.size < 4611686018427387904 → Calls Tryz.prog 152 #[.pointer p] w (CutPost14 X d (RT.cutLast l x r).1 (RT.cutLast l x r).2 w)
  | .nil, l, c, x, p, w, h, wl, wr, hs => by
    obtain ⟨b, pl, pr, ku, vu, rfl, hn, hk, hv, hl, hr⟩ := h
    have hr' : pr = none := hr
    subst hr'
    exact cutLast_here X d w l x b pl ku vu c _ _ _ hn hl ⟨hk, hv⟩
  | .node c2 l2 y r2, l, c, x, p, w, h, wl, wr, hs => by
    have h0 := h
    obtain ⟨b, pl, pr, ku, vu, rfl, hn, hk, hv, hl, hr⟩ := NM.both h
    obtain ⟨q, hq⟩ : ∃ q, pr = some q := by
      obtain ⟨b2, _, _, _, _, e, _⟩ := hr
      exact ⟨_, e⟩
    subst hq
    have hsz : (RT.node c2 l2 y r2).size = l2.size + 1 + r2.size := rfl
    have hw2 := RT.cutLast_well r2 l2 y wr.left wr.right
    have hz2 : (RT.cutLast l2 y r2).1.size + 1 = l2.size + 1 + r2.size := by
      have h9 := congrArg List.length (RT.cutLast_items r2 l2 y)
      rw [RT.size_items, RT.size_items l2, RT.size_items r2]
      simp at h9
      omega
    refine Calls.mono (cutLast_step (fun b => X b ∧ b < w.heap.size) d w (RT.cutLast l2 y r2).1 _ x (RT.cutLast l2 y r2).2 b pl q ku vu c _ _ _ hn ⟨hk, hv⟩ (fun V hV => cutLast_core (fun b => X b ∧ b < w.heap.size) d r2 l2 c2 y (some q) V (hr.keeps hV) wr.left wr.right (by omega)) (fun V p9 hV h9 => join_14 (fun b => X b ∧ b < w.heap.size) d V l _ x pl p9 ku vu (hl.keeps hV) h9 wl hw2 ⟨LiesX.keeps hV hk.1, hk.2⟩ ⟨LiesX.keeps hV hv.1, hv.2⟩ (by omega)) (fun e => Nat.lt_irrefl _ e.2)) ?_
    rintro e w' ⟨hb, p', ku', vu', rfl, ht, h1, h2⟩
    exact ⟨hb, p', ku', vu', rfl, ht.mono (fun _ h => h.1), ⟨h1.1.mono (fun _ h => h.1), h1.2⟩, ⟨h2.1.mono (fun _ h => h.1), h2.2⟩⟩

end Go.Proofs.YtekoaiehhjgfiabGreat

