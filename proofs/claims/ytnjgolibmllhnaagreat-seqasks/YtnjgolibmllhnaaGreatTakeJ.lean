/-
  What the walks of Take, Nth, Drop and Count keep.
-/
import Derived.Test.YtnjgolibmllhnaaGreatRDropM
import Derived.Test.YtnjgolibmllhnaaGreatWalkM
namespace Go.Proofs.YtnjgolibmllhnaaGreat
open Go.RowKit Go.Shelf

theorem Aft.from_ {C : CK} {Y Z : Nat → Prop} {w w1 : World} {P0 : Nat → Nat} {k0 : Nat} {s : SS} {P : Nat → Nat} {w' : World} (h : Aft C Y w1 P0 k0 s P w') (hb : Below w.heap.size w w1) (hYZ : ∀ n, Y n → Z n) : Aft C Z w P0 k0 s P w' :=
  ⟨h.old, fun j h1 h2 => Nat.le_trans hb.size (h.new j h1 h2), h.more, h.at_, h.chn.monoY (fun n _ hn => hYZ n hn), (KC.of_below hb).trans2 h.kc (fun _ _ h => h)⟩

theorem Aft.put {C : CK} {Y : Nat → Prop} {w : World} {P0 : Nat → Nat} {k0 : Nat} {s : SS} {P : Nat → Nat} {V Z : World} {b : Nat} (h : Aft C Y w P0 k0 s P V) (hZ : KC (fun m => m = b) V Z) (hY : ¬ Y b) (hb : w.heap.size ≤ b) : Aft C Y w P0 k0 s P Z :=
  ⟨h.old, h.new, h.more, h.at_, h.chn.kc hZ (fun n _ hn e => hY (e ▸ hn)), h.kc.trans2 hZ (fun j hj e => by omega)⟩

/-- What Nth tells behind Drop and Force. -/
theorem rnth_end {Y : Nat → Prop} {w w1 w2 w3 : World} {P0 P : Nat → Nat} {k0 n : Nat} {s : SS} {f : Nat} {b : Nat} {u : Value} (hx : Bx w2 b zeroT u) (hb : Below w.heap.size w w1) (hA : Aft dCK (fun n => Y n ∧ n ≠ b) w1 P0 k0 (wlk frcC n s f).s P w2) (he : (wlk frcC n s f).err = 0) {e : Ending} (hF : FcP dCK False (fun n => Y n ∧ n ≠ b) (wlk frcC n s f).s P (frcC (wlk frcC n s f).s (wlk frcC n s f).left) w2 e w3) (hbw : w.heap.size ≤ b) :
    ∃ (x : VT) (a : Option Addr) (c : Nat) (p : Option Addr) (t : Bool) (l E : Nat), e = itemR x (.slice a x.items.length c) p t l E ∧ Bx w3 b zeroT u ∧ ∀ Z, KC (fun m => m = b) w3 Z → NthPost dCK False Y w P0 k0 n (wlk frcC (n + 1) s f) (.returned (.tuple #[.agg #[.int .i64 x.kind, .int .i64 x.num, .string x.text, .slice a x.items.length c], .bool t, .int .i64 (l : Int), .int .i64 (E : Int)])) Z := by
  have hle := (wlk_le n s f).1
  have hws := hb.size
  have hw2 := hA.kc.size
  rw [wlk_more n s f he]
  have hYY : ∀ n, (Y n ∧ n ≠ b) → Y n := fun n h => h.1
  have hA1 : Aft dCK (fun n => Y n ∧ n ≠ b) w P0 k0 (wlk frcC n s f).s P w2 := hA.from_ hb (fun _ h => h)
  cases hr : frcC (wlk frcC n s f).s (wlk frcC n s f).left with
  | err e0 s' =>
    rw [hr] at hF
    obtain ⟨⟨a, c, rfl⟩, hbl⟩ := hF
    refine ⟨zeroT, a, c, none, false, 0, e0, rfl, hx.keeps hbl, fun Z hZ => ⟨P, ?_, .inl ⟨by simpa [pre, wnx] using hle, a, c, rfl⟩⟩⟩
    rw [show (pre (wlk frcC n s f).items (wnx frcC 0 (FR.err e0 s'))).s = (wlk frcC n s f).s from frcC_err hr]
    exact ((hA1.below hbl).put hZ (fun h => h.2 rfl) hbw).from_ (Below.refl _ _) hYY
  | emp left s' =>
    rw [hr] at hF
    obtain ⟨⟨a, c, rfl⟩, hbl⟩ := hF
    refine ⟨zeroT, a, c, none, false, left, 0, rfl, hx.keeps hbl, fun Z hZ => ⟨P, ?_, .inl ⟨by simpa [pre, wnx] using hle, a, c, rfl⟩⟩⟩
    rw [show (pre (wlk frcC n s f).items (wnx frcC 0 (FR.emp left s'))).s = (wlk frcC n s f).s from (frcC_emp hr).1]
    exact ((hA1.below hbl).put hZ (fun h => h.2 rfl) hbw).from_ (Below.refl _ _) hYY
  | item x left s' =>
    obtain ⟨i1, i2, i3⟩ := frcC_item hA.at_ hr
    have hfull : ¬ (wlk frcC n s f).items.length < n := fun hs => by
      obtain ⟨h1, h2⟩ := wlk_short n s f he hs
      rw [frcC_at_end h1 h2] at hr
      cases hr
    rw [hr] at hF
    obtain ⟨P', a, c, g1, g2, g3, hC, hk, rfl, hrx, hl⟩ := hF
    have hA2 : Aft dCK (fun n => Y n ∧ n ≠ b) w P0 k0 s' P' w3 := hA1.trans ⟨g1, g2, g3, i3, hC, hk⟩
    refine ⟨x, a, c, _, true, left, 0, rfl, hk.bx (fun hh => by obtain ⟨j, hj, e⟩ := hh; exact (hA.chn.inY j hj).2 e.symm) hx, fun Z hZ => ⟨P', (hA2.put hZ (fun h => h.2 rfl) hbw).from_ (Below.refl _ _) hYY, .inr ⟨?_, rfl, x, a, c, ?_, rfl, ?_, hrx⟩⟩⟩
    · simp [pre, wnx, wlk]; omega
    · simp [pre, wnx, wlk]
    · exact LiesX.mono (fun m hm => ⟨False.elim, fun _ => hm.1.1, hm.2.2⟩) (hZ.liesX (fun m hm e => hm.1.2 e) hl)

set_option maxRecDepth 100000 in
set_option maxHeartbeats 8000000 in
theorem rnth_any (Y : Nat → Prop) (vs : List VT) (T : Tl) (P : Nat → Nat) (n f : Nat) (hn : n ≤ 65536) (hf : f ≤ 1073741824) (w : World) (h : Chn dCK Y w vs T P) (hY : ∀ n, w.heap.size ≤ n → Y n) :
    Calls Tryz.prog 37 #[.pointer (some ⟨P 0, 0, none⟩), .int .i64 (n : Int), .int .i64 (f : Int)] w (NthPost dCK False Y w P vs.length n (wlk frcC (n + 1) ⟨vs, T, 0⟩ f)) := by
  have hzb := zbox_below w
  have hzs := zbox_size w
  have hc1 : Chn dCK (fun n => Y n ∧ n ≠ w.heap.size) (zbox w) vs T P := (h.monoY (fun n hn hy => ⟨hy, by omega⟩)).keeps hzb
  have hY1 : ∀ n, (zbox w).heap.size ≤ n → Y n ∧ n ≠ w.heap.size := fun n hn => ⟨hY n (by omega), by omega⟩
  have HD : Hid (Calls Tryz.prog 12 #[.pointer (some ⟨P 0, 0, none⟩), .int .i64 (n : Int), .int .i64 (f : Int)] (w.alloc (.cells #[.int .i64 0, .int .i64 0, .string ⟨#[]⟩, .slice none 0 0] 24)) (DropPost dCK (fun n => Y n ∧ n ≠ w.heap.size) (zbox w) P vs.length (wlk frcC n ⟨vs, T, 0⟩ f))) := rdrop_any _ vs T P n f hn hf (zbox w) hc1 hY1
  have HX : Hid (Bx (zbox w) w.heap.size zeroT (.slice none 0 0)) := zbox_bx w
  have HY : Hid (∀ n, w.heap.size ≤ n → Y n) := hY
  have Hlt : Hid (∀ i, i ≤ vs.length → P i ≠ w.heap.size) := fun i hi e => by have := h.lt i hi; omega
  have Hle : Hid ((wlk frcC n ⟨vs, T, 0⟩ f).left ≤ 1073741824 ∧ (wlk frcC n ⟨vs, T, 0⟩ f).items.length ≤ n ∧ ((wlk frcC n ⟨vs, T, 0⟩ f).err = 0 ∨ ((wlk frcC n ⟨vs, T, 0⟩ f).err = 220 ∧ (wlk frcC n ⟨vs, T, 0⟩ f).left = 0))) := ⟨Nat.le_trans (wlk_le n _ f).2 hf, (wlk_le n _ f).1, wlk_errs n _ f⟩
  clear hc1 hY1 h hn hf hY hzb hzs
  go_enter Tryz.func37, Tryz.ntmps37
  go_wp2_with fail
  refine Calls.mono HD.out ?_
  rintro e w2 ⟨P1, hA, ⟨he, rfl⟩ | ⟨he, P2, rfl, hC2, hP2, _⟩⟩
  · have hx2 := hA.kc.bx (fun hh => by obtain ⟨i, hi, e⟩ := hh; exact Hlt.out i hi e.symm) HX.out
    have he2 := Hle.out.2.2.resolve_left he
    have HZ : Hid (∀ Z, KC (fun m => m = w.heap.size) w2 Z → NthPost dCK False Y w P vs.length n (wlk frcC (n + 1) ⟨vs, T, 0⟩ f) (.returned (.tuple #[.agg #[.int .i64 0, .int .i64 0, .string ⟨#[]⟩, .slice none 0 0], .bool false, .int .i64 0, .int .i64 220])) Z) := fun Z hZ => by
      rw [wlk_snoc, if_pos (.inl he)]
      refine ⟨P1, ((hA.from_ (zbox_below w) (fun _ h => h)).put hZ (fun h => h.2 rfl) (Nat.le_refl _)).from_ (Below.refl _ _) (fun _ h => h.1), .inl ⟨Hle.out.2.1, none, 0, ?_⟩⟩
      rw [he2.1, he2.2]
      rfl
    rw [he2.1]
    have HX2 : Hid (Bx w2 w.heap.size zeroT (.slice none 0 0)) := hx2
    obtain ⟨k0, k1, k2, k3, g0, g1, g2, g3⟩ := hx2
    clear hA he he2 Hle HD HX Hlt
    go_wp2_with fail
    refine bodyPost_ret (v := .tuple #[.agg #[.int .i64 0, .int .i64 0, .string ⟨#[]⟩, .slice none 0 0], .bool false, .int .i64 0, .int .i64 220]) ?_ rfl (HZ.out _ (KC.put4 (B := fun m => m = w.heap.size) (o := 0) (KC.refl _ w2) (.inl rfl) zeroT (.slice none 0 0)))
    obtain ⟨q0, q1, q2, q3⟩ := rm4_put (V := w2) (b := w.heap.size) ⟨⟨_, k0⟩, ⟨_, k1⟩, ⟨_, k2⟩, ⟨_, k3⟩, g0, g1, g2, g3⟩ (.int .i64 0) (.int .i64 0) (.string ⟨#[]⟩) (.slice none 0 0)
    simp [results, Tryz.results37, go_sem, q0, q1, q2, q3]
  · have hx2 := hA.kc.bx (fun hh => by obtain ⟨i, hi, e⟩ := hh; exact Hlt.out i hi e.symm) HX.out
    have hs2 := hA.kc.size
    have hzs := zbox_size w
    have HFo : Hid (Calls Tryz.prog 45 #[.pointer (some ⟨P2 0, 0, none⟩), .int .i64 ((wlk frcC n ⟨vs, T, 0⟩ f).left : Int)] w2 fun e w3 => ∃ (x : VT) (a : Option Addr) (c : Nat) (p : Option Addr) (t : Bool) (l E : Nat), e = itemR x (.slice a x.items.length c) p t l E ∧ Bx w3 w.heap.size zeroT (.slice none 0 0) ∧ ∀ Z, KC (fun m => m = w.heap.size) w3 Z → NthPost dCK False Y w P vs.length n (wlk frcC (n + 1) ⟨vs, T, 0⟩ f) (.returned (.tuple #[.agg #[.int .i64 x.kind, .int .i64 x.num, .string x.text, .slice a x.items.length c], .bool t, .int .i64 (l : Int), .int .i64 (E : Int)])) Z) := by
      have hY2 : ∀ n, w2.heap.size ≤ n → Y n ∧ n ≠ w.heap.size := fun n hn => ⟨HY.out n (by omega), by omega⟩
      rcases hP2 with hP2 | ⟨ht, hi⟩
      · rw [hP2]
        exact Calls.mono (dForce _ (wlk frcC n ⟨vs, T, 0⟩ f).s P1 _ Hle.out.1 w2 hA.chn hA.at_ hY2) fun e w3 hF => rnth_end hx2 (zbox_below w) hA he hF (Nat.le_refl _)
      · have hC3 : Chn dCK (fun n => Y n ∧ n ≠ w.heap.size) w2 [] none P2 := by
          rw [List.drop_eq_nil_of_le (by omega), ht] at hC2
          exact hC2
        refine Calls.mono (dForce _ ⟨[], none, 0⟩ P2 _ Hle.out.1 w2 hC3 (Nat.le_refl _) hY2) fun e w3 hF => rnth_end hx2 (zbox_below w) hA he ?_ (Nat.le_refl _)
        rw [frcC_at_end (by omega) ht]
        exact hF
    generalize (wlk frcC n ⟨vs, T, 0⟩ f).left = L at *
    clear hA hC2 hP2 hx2 Hle HD HX Hlt he hs2 hzs
    go_wp2_with fail
    refine Calls.mono HFo.out ?_
    rintro e w3 ⟨x, a, c, p, t, l, E, rfl, hx3, hZ3⟩
    have HZ : Hid _ := hZ3
    obtain ⟨k0, k1, k2, k3, g0, g1, g2, g3⟩ := hx3
    have h6 : w.heap.size < w3.heap.size := cell_lt k0
    clear hZ3 HFo
    go_wp2_with fail
    refine bodyPost_ret (v := .tuple #[.agg #[.int .i64 x.kind, .int .i64 x.num, .string x.text, .slice a x.items.length c], .bool t, .int .i64 (l : Int), .int .i64 (E : Int)]) ?_ rfl (HZ.out _ ((KC.put4 (B := fun m => m = w.heap.size) (o := 0) (KC.refl _ w3) (.inl rfl) x (.slice a x.items.length c)).alloc _))
    obtain ⟨q0, q1, q2, q3⟩ := rm4_alloc (V := w3) (b := w.heap.size) ⟨⟨_, k0⟩, ⟨_, k1⟩, ⟨_, k2⟩, ⟨_, k3⟩, g0, g1, g2, g3⟩ (.int .i64 x.kind) (.int .i64 x.num) (.string x.text) (.slice a x.items.length c) (.cells #[.int .i64 x.kind, .int .i64 x.num, .string x.text, .slice a x.items.length c] 24)
    simp [results, Tryz.results37, go_sem, q0, q1, q2, q3]

end Go.Proofs.YtnjgolibmllhnaaGreat

namespace Go.Proofs.YtnjgolibmllhnaaGreat
open Go.RowKit Go.Shelf

/-- The walk of Drop and Count. -/
def JD (Y : Nat → Prop) (w0 : World) (P0 : Nat → Nat) (k0 : Nat) (bar : Nat → Prop) (s : SS) (p : Nat) (_l : List VT) (_o : Option (VT × Value)) (w : World) : Prop := ∃ ps, Tk pCK True Y bar w0 P0 k0 s p w ps

/-- The walk of Take: the list lies in a row of its own, in the box b0. -/
def JT (b0 : Nat) (Y : Nat → Prop) (w0 : World) (P0 : Nat → Nat) (k0 : Nat) (bar : Nat → Prop) (s : SS) (p : Nat) (l : List VT) (o : Option (VT × Value)) (w : World) : Prop :=
  ∃ a c ps, ps.map (·.1) = l ∧ w.ownsRow w0.heap.size 24 4 (.slice a l.length c) l.length (ps.flatMap encP) ∧ w.cell? ⟨b0, 0, none⟩ = some (.slice a l.length c) ∧ w.frozen? ⟨b0, 0, none⟩ = false ∧ ¬ bar b0 ∧ (∀ g, (Value.slice a l.length c).ownBlock = some g → ¬ bar g ∧ g ≠ b0) ∧ Tk pCK True Y (fun n => bar n ∨ n = b0 ∨ (Value.slice a l.length c).ownBlock = some n) w0 P0 k0 s p w (ps ++ o.toList)

/-- The walk of Nth: the last item lies in the box b0. -/
def JN (b0 : Nat) (Y : Nat → Prop) (w0 : World) (P0 : Nat → Nat) (k0 : Nat) (bar : Nat → Prop) (s : SS) (p : Nat) (l : List VT) (o : Option (VT × Value)) (w : World) : Prop :=
  ∃ x u ps, Bx w b0 x u ∧ (l = [] ∨ (l.getLast? = some x ∧ (x, u) ∈ ps)) ∧ ¬ bar b0 ∧ Tk pCK True Y (fun n => bar n ∨ n = b0) w0 P0 k0 s p w (ps ++ o.toList)

theorem jd_wkr (Y : Nat → Prop) (w0 : World) (P0 : Nat → Nat) (k0 : Nat) : Wkr frcC (JD Y w0 P0 k0) where
  k1 := fun ⟨ps, h⟩ k => ⟨ps, h.k1 k⟩
  k2 := fun ⟨ps, h⟩ k => ⟨ps, h.k2 k⟩
  k3 := fun ⟨ps, h⟩ k => ⟨ps, h.k3 k⟩

theorem own_kc {B : Nat → Prop} {w w' : World} {base : Nat} {v : Value} {n : Nat} {xs : List Value} (h : w.ownsRow base 24 4 v n xs) (k : KC B w w') (hB : ∀ g, v.ownBlock = some g → ¬ B g) : w'.ownsRow base 24 4 v n xs := by
  refine ⟨h.1, ?_⟩
  rcases h.2 with h2 | ⟨g, cap, cur, rfl, h3, h4, h5⟩
  · exact .inl h2
  · have hlt : g < w.heap.size := by
      rcases Nat.lt_or_ge g w.heap.size with h | h
      · exact h
      · rw [Array.getElem?_eq_none h] at h4; cases h4
    exact .inr ⟨g, cap, cur, rfl, h3, (k.block g hlt (hB g rfl)).trans h4, h5⟩

theorem jt_wkr (b0 : Nat) (Y : Nat → Prop) (w0 : World) (P0 : Nat → Nat) (k0 : Nat) : Wkr frcC (JT b0 Y w0 P0 k0) where
  k1 := by
    rintro bar s p l o w w' ⟨a, c, ps, h1, h2, h3, h4, h5, h6, h7⟩ k
    exact ⟨a, c, ps, h1, own_kc h2 k (fun g hg => (h6 g hg).1), k.cell h5 h3, k.frozen h5 h3 h4, h5, h6, h7.k1 (k.mono (fun _ _ h => .inl h))⟩
  k2 := by
    rintro bar s p l o w w' ⟨a, c, ps, h1, h2, h3, h4, h5, h6, h7⟩ hb
    have hbl : b0 < w.heap.size := cell_lt h3
    refine ⟨a, c, ps, h1, own_kc h2 (KC.of_below (B := fun _ => False) hb) (fun _ _ h => h), cell_keeps hb h3, (hb.frozen (p := ⟨b0, 0, none⟩) hbl).trans h4, ?_, fun g hg => ⟨?_, (h6 g hg).2⟩, (h7.k2 hb).k3 (fun n hn => ?_)⟩
    · rintro (h | h)
      · exact h5 h
      · omega
    · rintro (h | h)
      · exact (h6 g hg).1 h
      · have := (h2.lt g hg).2; omega
    · rcases hn with (h | h) | h
      · exact .inl (.inl h)
      · exact .inr h
      · exact .inl (.inr h)
  k3 := by
    rintro bar bar' s p l o w ⟨a, c, ps, h1, h2, h3, h4, h5, h6, h7⟩ hb
    exact ⟨a, c, ps, h1, h2, h3, h4, fun h => h5 (hb _ h), fun g hg => ⟨fun h => (h6 g hg).1 (hb _ h), (h6 g hg).2⟩, h7.k3 (fun n hn => hn.imp (hb n) id)⟩

theorem jn_wkr (b0 : Nat) (Y : Nat → Prop) (w0 : World) (P0 : Nat → Nat) (k0 : Nat) : Wkr frcC (JN b0 Y w0 P0 k0) where
  k1 := by
    rintro bar s p l o w w' ⟨x, u, ps, h1, h2, h5, h7⟩ k
    exact ⟨x, u, ps, k.bx h5 h1, h2, h5, h7.k1 (k.mono (fun _ _ h => .inl h))⟩
  k2 := by
    rintro bar s p l o w w' ⟨x, u, ps, h1, h2, h5, h7⟩ hb
    have hbl : b0 < w.heap.size := cell_lt h1.c0
    refine ⟨x, u, ps, h1.keeps hb, h2, ?_, (h7.k2 hb).k3 (fun n hn => ?_)⟩
    · rintro (h | h)
      · exact h5 h
      · omega
    · rcases hn with (h | h) | h
      · exact .inl (.inl h)
      · exact .inr h
      · exact .inl (.inr h)
  k3 := by
    rintro bar bar' s p l o w ⟨x, u, ps, h1, h2, h5, h7⟩ hb
    exact ⟨x, u, ps, h1, h2, fun h => h5 (hb _ h), h7.k3 (fun n hn => hn.imp (hb n) id)⟩

theorem jd_force (Y : Nat → Prop) (w0 : World) (P0 : Nat → Nat) (k0 : Nat) (bar : Nat → Prop) (s : SS) (p : Nat) (l : List VT) (f : Nat) (w : World) (hf : f ≤ 1073741824) (h : JD Y w0 P0 k0 bar s p l none w) :
    Calls Tryz.prog 47 #[.pointer (some ⟨p, 0, none⟩), .int .i64 (f : Int)] w (FJ (JD Y w0 P0 k0) bar p l (frcC s f) w) := by
  obtain ⟨ps, h⟩ := h
  refine Calls.mono (h.force 47 pForce f hf) ?_
  rintro e w' ⟨hk, hp⟩
  refine ⟨hk, ?_⟩
  cases hr : frcC s f with
  | err e0 s' => rw [hr] at hp; exact ⟨hp.1, ps, hp.2⟩
  | emp left s' => rw [hr] at hp; exact ⟨hp.1, hp.2.1, ps, hp.2.2⟩
  | item x left s' => rw [hr] at hp; obtain ⟨p', a, c, h1, h2, h3⟩ := hp; exact ⟨p', a, c, h1, h2, _, h3⟩

theorem jt_force (b0 : Nat) (Y : Nat → Prop) (w0 : World) (P0 : Nat → Nat) (k0 : Nat) (bar : Nat → Prop) (s : SS) (p : Nat) (l : List VT) (f : Nat) (w : World) (hf : f ≤ 1073741824) (h : JT b0 Y w0 P0 k0 bar s p l none w) :
    Calls Tryz.prog 47 #[.pointer (some ⟨p, 0, none⟩), .int .i64 (f : Int)] w (FJ (JT b0 Y w0 P0 k0) bar p l (frcC s f) w) := by
  obtain ⟨a, c, ps, h1, h2, h3, h4, h5, h6, h7⟩ := h
  refine Calls.mono (h7.force 47 pForce f hf) ?_
  rintro e w' ⟨hk, hp⟩
  have g2 := own_kc h2 hk (fun g hg h => h (.inr (.inr hg)))
  have g3 := hk.cell (a := ⟨b0, 0, none⟩) (fun h => h (.inr (.inl rfl))) h3
  have g4 := hk.frozen (a := ⟨b0, 0, none⟩) (fun h => h (.inr (.inl rfl))) h3 h4
  refine ⟨hk.mono (fun _ _ h hb => h (.inl hb)), ?_⟩
  cases hr : frcC s f with
  | err e0 s' => rw [hr] at hp; exact ⟨hp.1, a, c, ps, h1, g2, g3, g4, h5, h6, by simpa using hp.2⟩
  | emp left s' => rw [hr] at hp; exact ⟨hp.1, hp.2.1, a, c, ps, h1, g2, g3, g4, h5, h6, by simpa using hp.2.2⟩
  | item x left s' => rw [hr] at hp; obtain ⟨p', a', c', k1, k2, k3⟩ := hp; exact ⟨p', a', c', k1, k2, a, c, ps, h1, g2, g3, g4, h5, h6, by simpa using k3⟩

theorem jn_force (b0 : Nat) (Y : Nat → Prop) (w0 : World) (P0 : Nat → Nat) (k0 : Nat) (bar : Nat → Prop) (s : SS) (p : Nat) (l : List VT) (f : Nat) (w : World) (hf : f ≤ 1073741824) (h : JN b0 Y w0 P0 k0 bar s p l none w) :
    Calls Tryz.prog 47 #[.pointer (some ⟨p, 0, none⟩), .int .i64 (f : Int)] w (FJ (JN b0 Y w0 P0 k0) bar p l (frcC s f) w) := by
  obtain ⟨x, u, ps, h1, h2, h5, h7⟩ := h
  refine Calls.mono (h7.force 47 pForce f hf) ?_
  rintro e w' ⟨hk, hp⟩
  have g1 := hk.bx (fun h => h (.inr rfl)) h1
  refine ⟨hk.mono (fun _ _ h hb => h (.inl hb)), ?_⟩
  cases hr : frcC s f with
  | err e0 s' => rw [hr] at hp; exact ⟨hp.1, x, u, ps, g1, h2, h5, by simpa using hp.2⟩
  | emp left s' => rw [hr] at hp; exact ⟨hp.1, hp.2.1, x, u, ps, g1, h2, h5, by simpa using hp.2.2⟩
  | item y left s' => rw [hr] at hp; obtain ⟨p', a', c', k1, k2, k3⟩ := hp; exact ⟨p', a', c', k1, k2, x, u, ps, g1, h2, h5, by simpa using k3⟩

theorem jd_found {g : Nat} (hg : ∀ (x : VT) (u : Value) (w : World), Calls Tryz.prog g #[.agg #[.int .i64 x.kind, .int .i64 x.num, .string x.text, u]] w fun e w' => e = .returned (.tuple #[]) ∧ Below w.heap.size w w') (Y : Nat → Prop) (w0 : World) (P0 : Nat → Nat) (k0 : Nat) (bar : Nat → Prop) (s : SS) (p : Nat) (l : List VT) (x : VT) (u : Value) (w : World) (h : JD Y w0 P0 k0 bar s p l (some (x, u)) w) :
    Calls Tryz.prog g (#[.agg #[.int .i64 x.kind, .int .i64 x.num, .string x.text, u]] ++ #[]) w fun e w' => e = .returned (.tuple #[]) ∧ KC (fun n => ¬ bar n) w w' ∧ JD Y w0 P0 k0 bar s p (l ++ [x]) none w' := by
  obtain ⟨ps, h⟩ := h
  refine Calls.mono (hg x u w) ?_
  rintro e w' ⟨rfl, hb⟩
  exact ⟨rfl, KC.of_below hb, ps, h.below hb⟩

theorem jt_found (b0 : Nat) (Y : Nat → Prop) (w0 : World) (P0 : Nat → Nat) (k0 : Nat) (bar : Nat → Prop) (s : SS) (p : Nat) (l : List VT) (x : VT) (u : Value) (w : World) (hl : l.length ≤ 65536) (h : JT b0 Y w0 P0 k0 bar s p l (some (x, u)) w) :
    Calls Tryz.prog 71 (#[.agg #[.int .i64 x.kind, .int .i64 x.num, .string x.text, u]] ++ #[.pointer (some ⟨b0, 0, none⟩)]) w fun e w' => e = .returned (.tuple #[]) ∧ KC (fun n => ¬ bar n) w w' ∧ JT b0 Y w0 P0 k0 bar s p (l ++ [x]) none w' := by
  obtain ⟨a, c, ps, h1, h2, h3, h4, h5, h6, h7⟩ := h
  obtain ⟨P, Yc, _, _, _, _, _, _, _, h8⟩ := h7.ex
  obtain ⟨_, au, cu, hu, _⟩ := h8 (x, u) (by simp)
  simp only at hu
  subst hu
  refine Calls.mono (take1_any w0.heap.size b0 l.length x au x.items.length cu a c (ps.flatMap encP) w hl h3 h4 h2 h7.kc.size (fun e => (h6 b0 e).2 rfl)) ?_
  rintro e w' ⟨rfl, g, cap, k1, k2, k3, k4, k5, k6⟩
  have hlen : (l ++ [x]).length = l.length + 1 := by simp
  have hgb : ¬ bar g := by
    rcases k5 with h | h
    · exact (h6 g h).1
    · exact fun hb => by have := (h7.barw g (.inl hb)).2; omega
  have hglt : g < w'.heap.size := (k3.lt g rfl).2
  refine ⟨rfl, k4.mono (fun j _ hj hb => ?_), some ⟨g, 0, none⟩, cap, ps ++ [(x, .slice au x.items.length cu)], by simp [h1], ?_, ?_, k2, h5, fun g' hg' => ?_, ?_⟩
  · rcases hj with rfl | hj
    · exact h5 hb
    · exact (h6 j hj).1 hb
  · rw [hlen, List.flatMap_append]; simpa using k3
  · rw [hlen]; exact k1
  · have : g = g' := by simpa [Value.ownBlock] using hg'
    subst this
    exact ⟨hgb, k6⟩
  · have h9 := h7.k1 (k4.mono (fun j _ hj => by rcases hj with h | h; exact .inr (.inl h); exact .inr (.inr h)))
    rcases k5 with hh | hh
    · refine (h9.k3 (fun n hn => ?_)).part (fun y hy => by simpa using hy)
      rcases hn with h | h | h
      · exact .inl h
      · exact .inr (.inl h)
      · have : g = n := by simpa [Value.ownBlock] using h
        subst this
        exact .inr (.inr hh)
    · refine ((h7.k4 (k4.mono (fun j _ hj => by rcases hj with h | h; exact .inr (.inl h); exact .inr (.inr h)))).k3 (fun n hn => ?_)).part (fun y hy => by simpa using hy)
      rcases hn with h | h | h
      · exact .inl (.inl h)
      · exact .inl (.inr (.inl h))
      · have : g = n := by simpa [Value.ownBlock] using h
        subst this
        exact .inr ⟨hh, hglt⟩

theorem jn_found (b0 : Nat) (Y : Nat → Prop) (w0 : World) (P0 : Nat → Nat) (k0 : Nat) (bar : Nat → Prop) (s : SS) (p : Nat) (l : List VT) (x : VT) (u : Value) (w : World) (h : JN b0 Y w0 P0 k0 bar s p l (some (x, u)) w) :
    Calls Tryz.prog 72 (#[.agg #[.int .i64 x.kind, .int .i64 x.num, .string x.text, u]] ++ #[.pointer (some ⟨b0, 0, none⟩)]) w fun e w' => e = .returned (.tuple #[]) ∧ KC (fun n => ¬ bar n) w w' ∧ JN b0 Y w0 P0 k0 bar s p (l ++ [x]) none w' := by
  obtain ⟨y, v, ps, h1, h2, h5, h7⟩ := h
  obtain ⟨P, Yc, _, _, _, _, _, _, _, h8⟩ := h7.ex
  obtain ⟨_, au, cu, hu, _⟩ := h8 (x, u) (by simp)
  simp only at hu
  subst hu
  refine Calls.mono (nth1_any b0 x y au x.items.length cu v w h1) ?_
  rintro e w' ⟨rfl, k1, k2⟩
  refine ⟨rfl, k2.mono (fun j _ (hj : j = b0) hb => h5 (by rw [← hj]; exact hb)), x, _, ps ++ [(x, .slice au x.items.length cu)], k1, .inr ⟨by simp, by simp⟩, h5, ?_⟩
  simpa using h7.k1 (k2.mono (fun j _ hj => .inr hj))

end Go.Proofs.YtnjgolibmllhnaaGreat

