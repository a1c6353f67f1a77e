/-
  walk: cells are forced one behind the other, and each item is handed on.
-/
import Derived.Test.YtnjgolibmllhnaaGreatTakeP
import Derived.Test.YtnjgolibmllhnaaGreatOwnRow
import Derived.WalkMore
namespace Go.Proofs.YtnjgolibmllhnaaGreat
open Go.RowKit Go.Shelf

theorem own_liesX {X : Nat → Prop} {w : World} {base d n : Nat} {v : Value} {ps : List (VT × Value)} (h : w.ownsRow base 24 4 v n (ps.flatMap encP)) (hn : n = ps.length) (hX : ∀ g, v.ownBlock = some g → X g) (hp : ∀ p ∈ ps, LiesX X d w p.1.items p.2 ∧ p.1.text.size ≤ 9223372036854775807) (hl : ps.length ≤ 9223372036854775807) : LiesX X (d + 1) w (ps.map (·.1)) v := by
  subst hn
  by_cases hne : ps = []
  · subst hne
    rcases h.2 with ⟨rfl, _⟩ | ⟨g, cap, cur, rfl, _⟩
    · exact ⟨none, 0, rfl, by simp, fun h => absurd rfl h⟩
    · exact ⟨_, cap, rfl, by simp, fun h => absurd rfl h⟩
  · obtain ⟨g, cap, rfl, _, hcap, _, hrow, _⟩ := own_row h hne
    refine ⟨_, cap, by rw [List.length_map], by rw [List.length_map]; exact ⟨hcap, hl⟩, fun _ => ⟨g, 0, rfl, hX g rfl, fun i hi => ?_⟩⟩
    rw [List.length_map] at hi
    obtain ⟨p0, p1, p2, p3⟩ := hrow i hi
    refine ⟨ps[i].2, ?_⟩
    rw [List.getElem_map]
    exact ⟨p0, p1, p2, p3, (hp _ (List.getElem_mem hi)).1, (hp _ (List.getElem_mem hi)).2⟩

/-- An empty seq. -/
theorem chn_nil {C : CK} {Y : Nat → Prop} {w : World} {b : Nat} (hY : Y b) (h : C.en w b) : Chn C Y w [] none (fun _ => b) :=
  ⟨(fun x hx => by cases hx), (fun i j hi hj _ => by simp at hi hj; omega), (fun _ _ => hY), (fun i x hx => by simp at hx), (fun _ => h), (fun q x e => by cases e)⟩

/-- What is left of a seq that had the cells P0 0 .. P0 k0 in the world w0. -/
structure Aft (C : CK) (Y : Nat → Prop) (w0 : World) (P0 : Nat → Nat) (k0 : Nat) (s : SS) (P : Nat → Nat) (w' : World) : Prop where
  old : ∀ j, j ≤ k0 → P j = P0 j
  new : ∀ j, k0 < j → j ≤ s.vs.length → w0.heap.size ≤ P j
  more : k0 ≤ s.vs.length
  at_ : s.i ≤ s.vs.length
  chn : Chn C Y w' s.vs s.T P
  kc : KC (fun j => ∃ i, i ≤ k0 ∧ j = P0 i) w0 w'

theorem Aft.below {C : CK} {Y : Nat → Prop} {w0 : World} {P0 : Nat → Nat} {k0 : Nat} {s : SS} {P : Nat → Nat} {w w' : World} (h : Aft C Y w0 P0 k0 s P w) (hb : Below w.heap.size w w') : Aft C Y w0 P0 k0 s P w' :=
  ⟨h.old, h.new, h.more, h.at_, h.chn.keeps hb, h.kc.trans2 (KC.of_below (B := fun _ => False) hb) (fun _ _ h => h.elim)⟩

theorem Aft.trans {C : CK} {Y : Nat → Prop} {w0 w2 w3 : World} {P0 P P' : Nat → Nat} {k0 : Nat} {s s' : SS} (h : Aft C Y w0 P0 k0 s P w2) (h' : Aft C Y w2 P s.vs.length s' P' w3) : Aft C Y w0 P0 k0 s' P' w3 := by
  have hs := h.kc.size
  have hm := h.more
  refine ⟨fun j hj => by rw [h'.old j (by omega)]; exact h.old j hj, fun j h1 h2 => ?_, by have := h'.more; omega, h'.at_, h'.chn, h.kc.trans2 h'.kc (fun j hj hh => ?_)⟩
  · by_cases hj : j ≤ s.vs.length
    · rw [h'.old j hj]; exact h.new j h1 hj
    · have := h'.new j (by omega) h2; omega
  · obtain ⟨i, hi, rfl⟩ := hh
    by_cases hik : i ≤ k0
    · exact ⟨i, hik, h.old i hik⟩
    · have := h.new i (by omega) hi; omega

/-- In which blocks items lie that were told. -/
abbrev XA (Fr : Prop) (Y : Nat → Prop) (w0 : World) (k : Nat) (P : Nat → Nat) : Nat → Prop := fun n => (Fr → w0.heap.size ≤ n) ∧ (n < w0.heap.size → Y n) ∧ ∀ j, j ≤ k → n ≠ P j

theorem Tk.aft {C : CK} {Fr : Prop} {Y bar : Nat → Prop} {w0 : World} {P0 : Nat → Nat} {k0 : Nat} {s : SS} {p : Nat} {w : World} {ps : List (VT × Value)} (h : Tk C Fr Y bar w0 P0 k0 s p w ps) (hY : ∀ n, w0.heap.size ≤ n → Y n) :
    ∃ P, Aft C Y w0 P0 k0 s P w ∧ p = P s.i ∧ (∀ g, bar g → XA Fr Y w0 s.vs.length P g) ∧ ∀ x ∈ ps, rightV 16 x.1 = true ∧ ∃ a c, x.2 = .slice a x.1.items.length c ∧ LiesX (XA Fr Y w0 s.vs.length P) 16 w x.1.items x.2 := by
  obtain ⟨P, Yc, h1, h2, h3, h4, h5, h6, h7, h8⟩ := h.ex
  refine ⟨P, ⟨h1, h2, h3, h4, h6.monoY (fun n _ hn => ?_), h.kc⟩, h5, fun g hg => ⟨fun _ => (h.barw g hg).1, fun _ => absurd (h.barw g hg).1 (by omega), fun j hj e => ?_⟩, fun x hx => ?_⟩
  · by_cases hh : n < w0.heap.size
    · exact (h7 n hn).2 hh
    · exact hY n (by omega)
  · exact (h7 _ (h6.inY j hj)).1 (e ▸ hg)
  · obtain ⟨g1, a, c, g2, g3⟩ := h8 x hx
    exact ⟨g1, a, c, g2, LiesX.mono (fun n hn => hn.2) g3⟩

/-- Take, of the program or of the document. -/
def TakePost (C : CK) (Fr : Prop) (Y : Nat → Prop) (w0 : World) (P0 : Nat → Nat) (k0 : Nat) (r : WS SS) (e : Ending) (w' : World) : Prop :=
  ∃ P, Aft C Y w0 P0 k0 r.s P w' ∧ ((r.err ≠ 0 ∧ e = .returned (.tuple #[.slice none 0 0, .int .i64 0, .int .i64 (r.err : Int)])) ∨
    (r.err = 0 ∧ ∃ a c, e = .returned (.tuple #[.slice a r.items.length c, .int .i64 (r.left : Int), .int .i64 0]) ∧ LiesX (XA Fr Y w0 r.s.vs.length P) 17 w' r.items (.slice a r.items.length c) ∧ ∀ x ∈ r.items, rightV 16 x = true))

/-- Drop: what is behind is a seq of its own. -/
def DropPost (C : CK) (Y : Nat → Prop) (w0 : World) (P0 : Nat → Nat) (k0 : Nat) (r : WS SS) (e : Ending) (w' : World) : Prop :=
  ∃ P, Aft C Y w0 P0 k0 r.s P w' ∧ ((r.err ≠ 0 ∧ e = .returned (.tuple #[.pointer none, .int .i64 0, .int .i64 (r.err : Int)])) ∨
    (r.err = 0 ∧ ∃ P', e = .returned (.tuple #[.pointer (some ⟨P' 0, 0, none⟩), .int .i64 (r.left : Int), .int .i64 0]) ∧ Chn C Y w' (r.s.vs.drop r.s.i) r.s.T P' ∧ (P' 0 = P r.s.i ∨ (r.s.T = none ∧ r.s.i = r.s.vs.length)) ∧ ∀ j, j ≤ (r.s.vs.drop r.s.i).length → (∃ i, i ≤ r.s.vs.length ∧ P' j = P i) ∨ w0.heap.size ≤ P' j))

/-- Behind the first cell. -/
def wnx {S : Type} (frc : S → Nat → FR S) (n : Nat) : FR S → WS S
  | .err e s' => ⟨[], 0, e, s'⟩
  | .emp left s' => ⟨[], left, 0, s'⟩
  | .item x left s' => pre [x] (wlk frc n s' left)

theorem wlk_succ {S : Type} (frc : S → Nat → FR S) (n : Nat) (s : S) (f : Nat) : wlk frc (n + 1) s f = wnx frc n (frc s f) := by
  rw [wlk]
  cases frc s f <;> rfl

theorem wlk_le : ∀ (n : Nat) (s : SS) (f : Nat), (wlk frcC n s f).items.length ≤ n ∧ (wlk frcC n s f).left ≤ f
  | 0, _, _ => ⟨Nat.le_refl _, Nat.le_refl _⟩
  | n + 1, s, f => by
    unfold wlk
    cases hr : frcC s f with
    | err e s' => simp
    | emp left s' => obtain ⟨_, e2⟩ := frcC_emp hr; simp [e2]
    | item x left s' =>
      have h1 := wlk_le n s' left
      have h2 : left ≤ f := by
        unfold frcC at hr
        split at hr
        · cases hr; exact Nat.le_refl _
        · split at hr
          · cases hr
          · split at hr
            · cases hr
            · cases hr; omega
      simp only [pre, List.length_append, List.length_cons, List.length_nil]
      omega

theorem frcC_end {s s' : SS} {f left : Nat} (h : frcC s f = .emp left s') : s.vs.length ≤ s.i ∧ s.T = none := by
  unfold frcC at h
  split at h
  · cases h
  · next hx =>
    split at h
    · next ht => exact ⟨List.getElem?_eq_none_iff.1 hx, ht⟩
    · split at h <;> cases h

end Go.Proofs.YtnjgolibmllhnaaGreat

namespace Go.Proofs.YtnjgolibmllhnaaGreat
open Go.RowKit Go.Shelf

set_option maxHeartbeats 1000000 in
theorem equal23_any (d : Nat) (t s : VT) (x y : Value) (w : World) (hx : Lies d w t.items x) (hy : Lies d w s.items y) :
    Calls Tryz.prog 48 #[.agg #[.int .i64 t.kind, .int .i64 t.num, .string t.text, x], .agg #[.int .i64 s.kind, .int .i64 s.num, .string s.text, y]] w fun e w' => e = .returned (.bool (cmpV d t s == 0)) ∧ Grew w w' := by
  obtain ⟨ax, cx, rfl, _⟩ := Lies.slice hx
  obtain ⟨ay, cy, rfl, _⟩ := Lies.slice hy
  have hx : Hid _ := hx
  have hy : Hid _ := hy
  go_enter Tryz.func48, Tryz.ntmps48
  go_wp2_with fail
  refine (compare_any d t s _ _ _ (Lies.keeps (Grew.two _ _ _).below _ _ _ hx.out) (Lies.keeps (Grew.two _ _ _).below _ _ _ hy.out)).mono ?_
  rintro e w1 ⟨rfl, hb⟩
  go_wp2_with fail
  go_ret
  exact ⟨rfl, (Grew.two _ _ _).trans hb⟩

theorem rsame23_any (t s : VT) (x y : Value) (w : World) (hx : Lies 16 w t.items x) (hy : Lies 16 w s.items y) : Calls Tryz.prog 49 #[.agg #[.int .i64 t.kind, .int .i64 t.num, .string t.text, x], .agg #[.int .i64 s.kind, .int .i64 s.num, .string s.text, y]] w fun e w' => e = .returned (.bool (cmpV 16 t s == 0)) ∧ Below w.heap.size w w' := by
  obtain ⟨ax, cx, rfl, _⟩ := Lies.slice hx
  obtain ⟨ay, cy, rfl, _⟩ := Lies.slice hy
  have HX : Hid (Lies 16 w t.items (.slice ax t.items.length cx)) := hx
  have HY : Hid (Lies 16 w s.items (.slice ay s.items.length cy)) := hy
  clear hx hy
  go_enter Tryz.func49, Tryz.ntmps49
  go_wp2_with fail
  refine (ref_any 16 t s _ _ _ (Lies.keeps (Grew.two _ _ _).below _ _ _ HX.out) (Lies.keeps (Grew.two _ _ _).below _ _ _ HY.out)).mono ?_
  rintro e w1 ⟨rfl, hb⟩
  have hb1 : Below w.heap.size w w1 := (Grew.two w _ _).below.trans (hb.mono (by simp; omega))
  clear hb
  go_wp2_with fail
  go_ret
  exact ⟨rfl, hb1⟩

/-- Two seqs under way, from the world w0 on; what was found of the first (xs) lies in none of its cells. -/
structure Sm2 (C : CK) (Y1 Y2 : Nat → Prop) (w0 : World) (P0 Q0 : Nat → Nat) (k1 k2 : Nat) (s t : SS) (p q : Nat) (xs : List (VT × Value)) (w : World) : Prop where
  ex : ∃ (P Q : Nat → Nat) (Z1 Z2 : Nat → Prop), (∀ j, j ≤ k1 → P j = P0 j) ∧ (∀ j, k1 < j → j ≤ s.vs.length → w0.heap.size ≤ P j) ∧ k1 ≤ s.vs.length ∧ s.i ≤ s.vs.length ∧ p = P s.i ∧ (∀ j, j ≤ k2 → Q j = Q0 j) ∧ (∀ j, k2 < j → j ≤ t.vs.length → w0.heap.size ≤ Q j) ∧ k2 ≤ t.vs.length ∧ t.i ≤ t.vs.length ∧ q = Q t.i ∧ Chn C Z1 w s.vs s.T P ∧ Chn C Z2 w t.vs t.T Q ∧ ((∀ j, j ≤ s.vs.length → ¬ Z2 (P j)) ∧ ∀ j, j ≤ t.vs.length → ¬ Z1 (Q j)) ∧ (∀ n, n < w0.heap.size → Z1 n → Y1 n) ∧ (∀ n, n < w0.heap.size → Z2 n → Y2 n) ∧ ∀ x ∈ xs, LiesX (fun n => Z1 n ∧ ∀ j, j ≤ s.vs.length → n ≠ P j) 16 w x.1.items x.2
  kc : KC (fun j => (∃ i, i ≤ k1 ∧ j = P0 i) ∨ (∃ i, i ≤ k2 ∧ j = Q0 i)) w0 w

section
variable {C : CK} {Y1 Y2 : Nat → Prop} {w0 : World} {P0 Q0 : Nat → Nat} {k1 k2 : Nat} {s t : SS} {p q : Nat} {xs : List (VT × Value)} {w : World}

theorem Sm2.keeps (h : Sm2 C Y1 Y2 w0 P0 Q0 k1 k2 s t p q xs w) {w' : World} (hb : Below w.heap.size w w') : Sm2 C Y1 Y2 w0 P0 Q0 k1 k2 s t p q xs w' := by
  obtain ⟨P, Q, Z1, Z2, a1, a2, a3, a4, a5, b1, b2, b3, b4, b5, c1, c2, c3, c4, c5, c6⟩ := h.ex
  exact ⟨⟨P, Q, Z1, Z2, a1, a2, a3, a4, a5, b1, b2, b3, b4, b5, c1.keeps hb, c2.keeps hb, c3, c4, c5, fun x hx => (c6 x hx).keeps hb⟩, h.kc.trans2 (KC.of_below (B := fun _ => False) hb) (fun _ _ h => h.elim)⟩

theorem Sm2.bare (h : Sm2 C Y1 Y2 w0 P0 Q0 k1 k2 s t p q xs w) : Sm2 C Y1 Y2 w0 P0 Q0 k1 k2 s t p q [] w := by
  obtain ⟨P, Q, Z1, Z2, a1, a2, a3, a4, a5, b1, b2, b3, b4, b5, c1, c2, c3, c4, c5, c6⟩ := h.ex
  exact ⟨⟨P, Q, Z1, Z2, a1, a2, a3, a4, a5, b1, b2, b3, b4, b5, c1, c2, c3, c4, c5, fun x hx => by cases hx⟩, h.kc⟩

end

/-- Behind Force of the first. -/
def Sf1 (C : CK) (Y1 Y2 : Nat → Prop) (w0 : World) (P0 Q0 : Nat → Nat) (k1 k2 : Nat) (t : SS) (p q : Nat) (r : FR SS) (w : World) (e : Ending) (w' : World) : Prop :=
  KC (fun n => n < w.heap.size) w w' ∧ match r with
  | .err e0 s' => (∃ a c, e = noneR a c 0 e0) ∧ Sm2 C Y1 Y2 w0 P0 Q0 k1 k2 s' t p q [] w'
  | .emp left s' => (∃ a c, e = noneR a c left 0) ∧ left ≤ 1073741824 ∧ Sm2 C Y1 Y2 w0 P0 Q0 k1 k2 s' t p q [] w'
  | .item x left s' => ∃ p' a c, e = itemR x (.slice a x.items.length c) (some ⟨p', 0, none⟩) true left 0 ∧ left ≤ 1073741824 ∧ rightV 16 x = true ∧ Sm2 C Y1 Y2 w0 P0 Q0 k1 k2 s' t p' q [(x, .slice a x.items.length c)] w'

theorem Sm2.force {C : CK} {Fr : Prop} {Y1 Y2 : Nat → Prop} {w0 : World} {P0 Q0 : Nat → Nat} {k1 k2 : Nat} {s t : SS} {p q : Nat} {w : World} (F : Nat)
    (hF : ∀ (Y : Nat → Prop) (s : SS) (P : Nat → Nat) (f : Nat), f ≤ 1073741824 → ∀ w, Chn C Y w s.vs s.T P → s.i ≤ s.vs.length → (∀ n, w.heap.size ≤ n → Y n) → Calls Tryz.prog F #[.pointer (some ⟨P s.i, 0, none⟩), .int .i64 (f : Int)] w (FcP C Fr Y s P (frcC s f) w))
    (h : Sm2 C Y1 Y2 w0 P0 Q0 k1 k2 s t p q [] w) (f : Nat) (hf : f ≤ 1073741824) :
    Calls Tryz.prog F #[.pointer (some ⟨p, 0, none⟩), .int .i64 (f : Int)] w (Sf1 C Y1 Y2 w0 P0 Q0 k1 k2 t p q (frcC s f) w) := by
  obtain ⟨P, Q, Z1, Z2, a1, a2, a3, a4, a5, b1, b2, b3, b4, b5, c1, c2, c3, c4, c5, _⟩ := h.ex
  have hc := c1.monoY (Z := fun n => (Z1 n ∧ n < w.heap.size) ∨ w.heap.size ≤ n) (fun n hn hy => .inl ⟨hy, hn⟩)
  have hws := h.kc.size
  subst a5
  refine Calls.mono (hF _ s P f hf w hc a4 (fun n hn => .inr hn)) ?_
  intro e w' hp
  cases hr : frcC s f with
  | err e0 s' =>
    rw [hr] at hp
    obtain ⟨he, hb⟩ := hp
    rw [frcC_err hr]
    exact ⟨KC.of_below hb, he, h.keeps hb⟩
  | emp left s' =>
    rw [hr] at hp
    obtain ⟨he, hb⟩ := hp
    obtain ⟨e1, e2⟩ := frcC_emp hr
    rw [e1]
    exact ⟨KC.of_below hb, he, by omega, h.keeps hb⟩
  | item x left s' =>
    rw [hr] at hp
    obtain ⟨P', a, c, g1, g2, g3, hC, hk, rfl, hrx, hl⟩ := hp
    obtain ⟨i1, i2, i3⟩ := frcC_item a4 hr
    refine ⟨hk.mono (fun j _ hj => by obtain ⟨i, hi, rfl⟩ := hj; exact c1.lt i hi), P' (s.i + 1), a, c, rfl, by omega, hrx, ⟨P', Q, _, fun n => Z2 n ∧ n < w.heap.size, fun j hj => ?_, fun j j1 j2 => ?_, by omega, i3, by rw [i2], b1, b2, b3, b4, b5, hC, (c2.monoY (fun n hn hy => ⟨hy, hn⟩)).kc hk (fun n _ hn hh => by obtain ⟨i, hi, rfl⟩ := hh; exact c3.1 i hi hn.1), ⟨fun j hj hz => ?_, fun j hj hz => ?_⟩, ?_, fun n hn hz => c5 n hn hz.1, fun y hy => ?_⟩, ?_⟩
    · rw [g1 j (by omega)]; exact a1 j hj
    · by_cases hj : j ≤ s.vs.length
      · rw [g1 j hj]; exact a2 j j1 hj
      · have := g2 j (by omega) j2; omega
    · by_cases hjs : j ≤ s.vs.length
      · rw [g1 j hjs] at hz; exact c3.1 j hjs hz.1
      · have := g2 j (by omega) hj; have := hz.2; omega
    · have hq := c2.lt j hj
      rcases hz with hz | hz
      · exact c3.2 j hj hz.1
      · omega
    · rintro n hn (hz | hz)
      · exact c4 n hn hz.1
      · omega
    · rw [List.mem_singleton.1 hy]
      exact LiesX.mono (fun n hn => ⟨hn.1, hn.2.2⟩) hl
    · refine h.kc.trans2 hk (fun j hj hh => ?_)
      obtain ⟨i, hi, rfl⟩ := hh
      left
      by_cases hik : i ≤ k1
      · exact ⟨i, hik, a1 i hik⟩
      · have := a2 i (by omega) hi; omega

/-- Behind Force of the second. -/
def Sf2 (C : CK) (Y1 Y2 : Nat → Prop) (w0 : World) (P0 Q0 : Nat → Nat) (k1 k2 : Nat) (s : SS) (p q : Nat) (xs : List (VT × Value)) (r : FR SS) (N : Nat) (w : World) (e : Ending) (w' : World) : Prop :=
  KC (fun n => n < N) w w' ∧ match r with
  | .err e0 t' => (∃ a c, e = noneR a c 0 e0) ∧ Sm2 C Y1 Y2 w0 P0 Q0 k1 k2 s t' p q [] w'
  | .emp left t' => (∃ a c, e = noneR a c left 0) ∧ left ≤ 1073741824 ∧ Sm2 C Y1 Y2 w0 P0 Q0 k1 k2 s t' p q [] w'
  | .item y left t' => ∃ q' a c, e = itemR y (.slice a y.items.length c) (some ⟨q', 0, none⟩) true left 0 ∧ left ≤ 1073741824 ∧ rightV 16 y = true ∧ Lies 16 w' y.items (.slice a y.items.length c) ∧ Sm2 C Y1 Y2 w0 P0 Q0 k1 k2 s t' p q' [] w' ∧ ∀ x ∈ xs, Lies 16 w' x.1.items x.2

theorem Sm2.force2 {C : CK} {Fr : Prop} {Y1 Y2 : Nat → Prop} {w0 : World} {P0 Q0 : Nat → Nat} {k1 k2 : Nat} {s t : SS} {p q : Nat} {xs : List (VT × Value)} {wq w : World} (F : Nat)
    (hF : ∀ (Y : Nat → Prop) (s : SS) (P : Nat → Nat) (f : Nat), f ≤ 1073741824 → ∀ w, Chn C Y w s.vs s.T P → s.i ≤ s.vs.length → (∀ n, w.heap.size ≤ n → Y n) → Calls Tryz.prog F #[.pointer (some ⟨P s.i, 0, none⟩), .int .i64 (f : Int)] w (FcP C Fr Y s P (frcC s f) w))
    (h0 : Sm2 C Y1 Y2 w0 P0 Q0 k1 k2 s t p q xs wq) (hV : Below wq.heap.size wq w) (f : Nat) (hf : f ≤ 1073741824) :
    Calls Tryz.prog F #[.pointer (some ⟨q, 0, none⟩), .int .i64 (f : Int)] w (Sf2 C Y1 Y2 w0 P0 Q0 k1 k2 s p q xs (frcC t f) wq.heap.size w) := by
  have h := h0.keeps hV
  obtain ⟨P, Q, Z1, Z2, a1, a2, a3, a4, a5, b1, b2, b3, b4, b5, c10, c20, c3, c4, c5, c60⟩ := h0.ex
  have c1 := c10.keeps hV
  have c2 := c20.keeps hV
  have c6 := fun x hx => (c60 x hx).keeps hV
  have hc := c2.monoY (Z := fun n => (Z2 n ∧ n < w.heap.size) ∨ w.heap.size ≤ n) (fun n hn hy => .inl ⟨hy, hn⟩)
  have hws := h.kc.size
  subst b5
  refine Calls.mono (hF _ t Q f hf w hc b4 (fun n hn => .inr hn)) ?_
  intro e w' hp
  cases hr : frcC t f with
  | err e0 t' =>
    rw [hr] at hp
    obtain ⟨he, hb⟩ := hp
    rw [frcC_err hr]
    exact ⟨KC.of_below hb, he, h.bare.keeps hb⟩
  | emp left t' =>
    rw [hr] at hp
    obtain ⟨he, hb⟩ := hp
    obtain ⟨e1, e2⟩ := frcC_emp hr
    rw [e1]
    exact ⟨KC.of_below hb, he, by omega, h.bare.keeps hb⟩
  | item y left t' =>
    rw [hr] at hp
    obtain ⟨Q', a, c, g1, g2, g3, hC, hk, rfl, hrx, hl⟩ := hp
    obtain ⟨i1, i2, i3⟩ := frcC_item b4 hr
    have hk1 : ∀ n, Z1 n → ¬ ∃ j, j ≤ t.vs.length ∧ n = Q j := fun n hn hh => by obtain ⟨i, hi, rfl⟩ := hh; exact c3.2 i hi hn
    refine ⟨hk.mono (fun j _ hj => by obtain ⟨i, hi, rfl⟩ := hj; exact c20.lt i hi), Q' (t.i + 1), a, c, rfl, by omega, hrx, hl.lies, ⟨⟨P, Q', fun n => Z1 n ∧ n < w.heap.size, _, a1, a2, a3, a4, a5, fun j hj => ?_, fun j j1 j2 => ?_, by omega, i3, by rw [i2], (c1.monoY (fun n hn hy => ⟨hy, hn⟩)).kc hk (fun n _ hn => hk1 n hn.1), hC, ⟨fun j hj hz => ?_, fun j hj hz => ?_⟩, fun n hn hz => c4 n hn hz.1, ?_, fun x hx => by cases hx⟩, ?_⟩, fun x hx => ?_⟩
    · rw [g1 j (by omega)]; exact b1 j hj
    · by_cases hj : j ≤ t.vs.length
      · rw [g1 j hj]; exact b2 j j1 hj
      · have := g2 j (by omega) j2; omega
    · have hq := c1.lt j hj
      rcases hz with hz | hz
      · exact c3.1 j hj hz.1
      · omega
    · by_cases hjs : j ≤ t.vs.length
      · rw [g1 j hjs] at hz; exact c3.2 j hjs hz.1
      · have := g2 j (by omega) hj; have := hz.2; omega
    · rintro n hn (hz | hz)
      · exact c5 n hn hz.1
      · omega
    · refine h.kc.trans2 hk (fun j hj hh => ?_)
      obtain ⟨i, hi, rfl⟩ := hh
      right
      by_cases hik : i ≤ k2
      · exact ⟨i, hik, b1 i hik⟩
      · have := b2 i (by omega) hi; omega
    · exact (hk.liesX (fun n hn => hk1 n hn.1) (c6 x hx)).lies

/-- What Same comes by. -/
structure SR where
  ok : Bool
  left : Nat
  err : Nat
  s : SS
  t : SS

def smW : Nat → SS → SS → Nat → SR
  | 0, s, t, f => ⟨true, f, 0, s, t⟩
  | n + 1, s, t, f => match frcC s f with
    | .err e s' => ⟨false, 0, e, s', t⟩
    | .emp l s' => match frcC t l with
      | .err e t' => ⟨false, 0, e, s', t'⟩
      | .emp l2 t' => ⟨true, l2, 0, s', t'⟩
      | .item _ l2 t' => ⟨false, l2, 0, s', t'⟩
    | .item x l s' => match frcC t l with
      | .err e t' => ⟨false, 0, e, s', t'⟩
      | .emp l2 t' => ⟨false, l2, 0, s', t'⟩
      | .item y l2 t' => if (cmpV 16 x y == 0) = true then smW n s' t' l2 else ⟨false, l2, 0, s', t'⟩

/-- What Same tells. -/
def SamePost (C : CK) (Y1 Y2 : Nat → Prop) (w0 : World) (P0 Q0 : Nat → Nat) (k1 k2 : Nat) (r : SR) (e : Ending) (w' : World) : Prop :=
  (∃ p q, Sm2 C Y1 Y2 w0 P0 Q0 k1 k2 r.s r.t p q [] w') ∧ e = .returned (.tuple #[.bool r.ok, .int .i64 (r.left : Int), .int .i64 (r.err : Int)])

end Go.Proofs.YtnjgolibmllhnaaGreat

namespace Go.Proofs.YtnjgolibmllhnaaGreat
open Go.RowKit Go.Shelf

/-- What walk leaves. -/
def WkPost {S : Type} (JJ : (Nat → Prop) → S → Nat → List VT → Option (VT × Value) → World → Prop) (bar : Nat → Prop) (r : WS S) (w : World) (e : Ending) (w' : World) : Prop :=
  ∃ p', e = .returned (.agg #[.int .i64 (r.items.length : Int), .pointer (some ⟨p', 0, none⟩), .int .i64 (r.left : Int), .int .i64 (r.err : Int)]) ∧ KC (fun n => ¬ bar n) w w' ∧ JJ bar r.s p' r.items none w'

set_option maxRecDepth 100000 in
set_option maxHeartbeats 8000000 in
theorem walk_any {S : Type} (frc : S → Nat → FR S) (JJ : (Nat → Prop) → S → Nat → List VT → Option (VT × Value) → World → Prop) (hw : Wkr frc JJ) (g : Nat) (cap : Array Value)
    (eg : ∀ args w, (callFunc g args).run Tryz.prog w = .ok (.enter g args) w)
    (hf : ∀ (bar : Nat → Prop) s p l (f : Nat) w, f ≤ 1073741824 → JJ bar s p l none w → Calls Tryz.prog 47 #[.pointer (some ⟨p, 0, none⟩), .int .i64 (f : Int)] w (FJ JJ bar p l (frc s f) w))
    (hg : ∀ (bar : Nat → Prop) s p l x u w, l.length ≤ 65536 → JJ bar s p l (some (x, u)) w → Calls Tryz.prog g (#[.agg #[.int .i64 x.kind, .int .i64 x.num, .string x.text, u]] ++ cap) w fun e w' => e = .returned (.tuple #[]) ∧ KC (fun n => ¬ bar n) w w' ∧ JJ bar s p (l ++ [x]) none w')
    (bar : Nat → Prop) (s : S) (p n f : Nat) (hn : n ≤ 65537) (hf0 : f ≤ 1073741824) (w : World) (h : JJ bar s p [] none w) :
    Calls Tryz.prog 42 #[.pointer (some ⟨p, 0, none⟩), .int .i64 (n : Int), .int .i64 (f : Int), .func (.func g) #[] cap] w (WkPost JJ bar (wlk frc n s f) w) := by
  have HW : Hid _ := hw
  have HF : Hid _ := hf
  have HG : Hid _ := hg
  have Hn : Hid (n ≤ 65537 ∧ f ≤ 1073741824) := ⟨hn, hf0⟩
  obtain ⟨W, hW⟩ : ∃ W, W = ((w.alloc (.cells #[.int .i64 0, .pointer none, .int .i64 0, .int .i64 0] 88)).alloc (.cells #[.int .i64 0, .pointer (some ⟨p, 0, none⟩), .int .i64 (f : Int), .int .i64 0] 88)) := ⟨_, rfl⟩
  have HWe : Hid (W = ((w.alloc (.cells #[.int .i64 0, .pointer none, .int .i64 0, .int .i64 0] 88)).alloc (.cells #[.int .i64 0, .pointer (some ⟨p, 0, none⟩), .int .i64 (f : Int), .int .i64 0] 88))) := hW
  have hwb : Below w.heap.size w W := by rw [hW]; exact (((Grew.refl w).alloc _).alloc _).below
  have hws : W.heap.size = w.heap.size + 2 := by rw [hW]; simp
  have HPl : Hid (Pl W (w.heap.size + 1) 0 p f 0) := by rw [hW]; constructor <;> simp
  have HR8 : Hid (Rm4 W w.heap.size) := by rw [hW]; constructor <;> simp
  have HJ : Hid (JJ (fun m => bar m ∨ (w.heap.size ≤ m ∧ m < W.heap.size)) s p [] none W) := hw.k2 h hwb
  clear hw hf hg h hn hf0 hW
  go_enter Tryz.func42, Tryz.ntmps42
  go_wp2_with fail
  go_step3
  go_wp2_with fail
  go_step3
  go_wp2_with fail
  rw [← HWe.out]
  go_loopg [] n (fun z wr => ∃ (j p' fl : Nat) (l : List VT) (s' : S), z = n - j ∧ j ≤ n ∧ Hid (Pl wr (w.heap.size + 1) j p' fl 0 ∧ Rm4 wr w.heap.size) ∧ Hid (l.length = j ∧ fl ≤ 1073741824 ∧ wlk frc n s f = pre l (wlk frc (n - j) s' fl) ∧ KC (fun m => ¬ bar m) w wr) ∧ Hid (JJ (fun m => bar m ∨ (w.heap.size ≤ m ∧ m < W.heap.size)) s' p' l none wr))
  case atStart => exact ⟨0, p, f, [], s, by omega, by omega, ⟨HPl.out, HR8.out⟩, ⟨rfl, Hn.out.2, rfl, KC.of_below hwb⟩, HJ⟩
  case round =>
    obtain ⟨j, p', fl, l, s', hg, hj, HP, HI, HJ2⟩ := hrel
    have Hg : Hid (gk = n - j) := hg
    clear hg HPl HR8 HJ HWe
    have h8 : w.heap.size < wr.heap.size := by have := HP.out.1.lt; omega
    have h9 : w.heap.size + 1 < wr.heap.size := HP.out.1.lt
    obtain ⟨c0, c1, c2, c3, g0, g1, g2, g3⟩ := HP.out.1
    have HB8 : Hid ((fun m => bar m ∨ (w.heap.size ≤ m ∧ m < W.heap.size)) w.heap.size ∧ (fun m => bar m ∨ (w.heap.size ≤ m ∧ m < W.heap.size)) (w.heap.size + 1)) := ⟨.inr ⟨by omega, by omega⟩, .inr ⟨by omega, by omega⟩⟩
    generalize hbar : (fun m => bar m ∨ (w.heap.size ≤ m ∧ m < W.heap.size)) = bar2 at *
    have Hbar : Hid (∀ m, bar m → bar2 m) := fun m hm => by rw [← hbar]; exact .inl hm
    clear hbar
    by_cases hlt : j < n
    · have hji : (j : Int) < (n : Int) := by omega
      obtain ⟨k, hk⟩ : ∃ k, n - j = k + 1 := ⟨n - j - 1, by omega⟩
      have HFo : Hid (Calls Tryz.prog 47 #[.pointer (some ⟨p', 0, none⟩), .int .i64 (fl : Int)] wr (FJ JJ bar2 p' l (frc s' fl) wr)) := HF.out bar2 s' p' l fl wr HI.out.2.1 HJ2.out
      have HE : Hid (wlk frc n s f = pre l (match frc s' fl with | .err e s' => ⟨[], 0, e, s'⟩ | .emp left s' => ⟨[], left, 0, s'⟩ | .item x left s' => pre [x] (wlk frc k s' left))) := by
        have h := HI.out.2.2.1
        rw [hk] at h
        exact h
      cases hr : frc s' fl with
      | err e0 s2 =>
        rw [hr] at HFo HE
        go_wp2_with fail
        refine Calls.mono HFo.out ?_
        rintro e w3 ⟨hk3, ⟨a, c, rfl⟩, hJ3⟩
        have HP3 : Hid (Pl w3 (w.heap.size + 1) j p' fl 0) := HP.out.1.kc hk3 (fun h => h HB8.out.2)
        have HR3 : Hid (Rm4 w3 w.heap.size) := HP.out.2.kc hk3 (fun h => h HB8.out.1)
        have HZ : Hid (∀ Z, KC (fun m => m = w.heap.size ∨ m = w.heap.size + 1) w3 Z → WkPost JJ bar (wlk frc n s f) w (.returned (.agg #[.int .i64 (j : Int), .pointer (some ⟨p', 0, none⟩), .int .i64 0, .int .i64 (e0 : Int)])) Z) := fun Z hZ => by
          rw [HE.out]
          refine ⟨p', ?_, (HI.out.2.2.2.trans (hk3.mono (fun _ _ h hb => h (Hbar.out _ hb)))).trans2 hZ (fun m hm h => by omega), ?_⟩
          · rw [← HI.out.1]; simp [pre]
          · have h9 := HW.out.k3 (HW.out.k1 hJ3 (hZ.mono (fun m _ h => by rcases h with rfl | rfl; exact HB8.out.1; exact HB8.out.2))) Hbar.out
            simpa [pre] using h9
        clear hk3 hJ3 HE HI HJ2 HFo c0 c1 c2 c3 g0 g1 g2 g3 HP
        obtain ⟨c0, c1, c2, c3, g0, g1, g2, g3⟩ := HP3.out
        obtain ⟨⟨v0, d0⟩, ⟨v1, d1⟩, ⟨v2, d2⟩, ⟨v3, d3⟩, e0', e1', e2', e3'⟩ := HR3.out
        have h8 : w.heap.size < w3.heap.size := cell_lt d0
        have h9 : w.heap.size + 1 < w3.heap.size := cell_lt c0
        go_wp2_with fail
        rw [Exit.noGoto_ret]
        refine bodyPost_ret (v := .agg #[.int .i64 (j : Int), .pointer (some ⟨p', 0, none⟩), .int .i64 0, .int .i64 (e0 : Int)]) ?_ rfl (HZ.out _ (KC.alloc (KC.set (KC.set (KC.set (KC.set (KC.set (KC.set (KC.refl _ _) (.inl (.inr rfl)) _) (.inl (.inr rfl)) _) (.inl (.inl rfl)) _) (.inl (.inl rfl)) _) (.inl (.inl rfl)) _) (.inl (.inl rfl)) _) _))
        obtain ⟨q0, q1, q2, q3⟩ := rm4_alloc (V := (w3.setCell ⟨w.heap.size + 1, 2, none⟩ (.int .i64 0)).setCell ⟨w.heap.size + 1, 3, none⟩ (.int .i64 (e0 : Int))) (HR3.out.kc (B := fun m => m = w.heap.size + 1) (kc_two _ _ _ _ _ _) (by omega)) (.int .i64 (j : Int)) (.pointer (some ⟨p', 0, none⟩)) (.int .i64 0) (.int .i64 (e0 : Int)) (.cells #[.int .i64 0, .int .i64 0, .string ⟨#[]⟩, .slice a 0 c] 24)
        simp [results, Tryz.results42, go_sem, q0, q1, q2, q3]
      | emp left s2 =>
        rw [hr] at HFo HE
        go_wp2_with fail
        refine Calls.mono HFo.out ?_
        rintro e w3 ⟨hk3, ⟨a, c, rfl⟩, hle, hJ3⟩
        have HP3 : Hid (Pl w3 (w.heap.size + 1) j p' fl 0) := HP.out.1.kc hk3 (fun h => h HB8.out.2)
        have HR3 : Hid (Rm4 w3 w.heap.size) := HP.out.2.kc hk3 (fun h => h HB8.out.1)
        have HZ : Hid (∀ Z, KC (fun m => m = w.heap.size ∨ m = w.heap.size + 1) w3 Z → WkPost JJ bar (wlk frc n s f) w (.returned (.agg #[.int .i64 (j : Int), .pointer (some ⟨p', 0, none⟩), .int .i64 (left : Int), .int .i64 0])) Z) := fun Z hZ => by
          rw [HE.out]
          refine ⟨p', ?_, (HI.out.2.2.2.trans (hk3.mono (fun _ _ h hb => h (Hbar.out _ hb)))).trans2 hZ (fun m hm h => by omega), ?_⟩
          · rw [← HI.out.1]; simp [pre]
          · have h9 := HW.out.k3 (HW.out.k1 hJ3 (hZ.mono (fun m _ h => by rcases h with rfl | rfl; exact HB8.out.1; exact HB8.out.2))) Hbar.out
            simpa [pre] using h9
        clear hk3 hJ3 HE HI HJ2 HFo c0 c1 c2 c3 g0 g1 g2 g3 HP
        obtain ⟨c0, c1, c2, c3, g0, g1, g2, g3⟩ := HP3.out
        obtain ⟨⟨v0, d0⟩, ⟨v1, d1⟩, ⟨v2, d2⟩, ⟨v3, d3⟩, e0', e1', e2', e3'⟩ := HR3.out
        have h8 : w.heap.size < w3.heap.size := cell_lt d0
        have h9 : w.heap.size + 1 < w3.heap.size := cell_lt c0
        go_wp2_with fail
        rw [Exit.noGoto_ret]
        refine bodyPost_ret (v := .agg #[.int .i64 (j : Int), .pointer (some ⟨p', 0, none⟩), .int .i64 (left : Int), .int .i64 0]) ?_ rfl (HZ.out _ (KC.alloc (KC.set (KC.set (KC.set (KC.set (KC.set (KC.set (KC.refl _ _) (.inl (.inr rfl)) _) (.inl (.inr rfl)) _) (.inl (.inl rfl)) _) (.inl (.inl rfl)) _) (.inl (.inl rfl)) _) (.inl (.inl rfl)) _) _))
        obtain ⟨q0, q1, q2, q3⟩ := rm4_alloc (V := (w3.setCell ⟨w.heap.size + 1, 2, none⟩ (.int .i64 (left : Int))).setCell ⟨w.heap.size + 1, 3, none⟩ (.int .i64 0)) (HR3.out.kc (B := fun m => m = w.heap.size + 1) (kc_two _ _ _ _ _ _) (by omega)) (.int .i64 (j : Int)) (.pointer (some ⟨p', 0, none⟩)) (.int .i64 (left : Int)) (.int .i64 0) (.cells #[.int .i64 0, .int .i64 0, .string ⟨#[]⟩, .slice a 0 c] 24)
        simp [results, Tryz.results42, go_sem, q0, q1, q2, q3]
      | item x left s2 =>
        rw [hr] at HFo HE
        go_wp2_with fail
        refine Calls.mono HFo.out ?_
        rintro e w3 ⟨hk3, p2, a, c, rfl, hle, hJ3⟩
        have HP3 : Hid (Pl w3 (w.heap.size + 1) j p' fl 0) := HP.out.1.kc hk3 (fun h => h HB8.out.2)
        have HR3 : Hid (Rm4 w3 w.heap.size) := HP.out.2.kc hk3 (fun h => h HB8.out.1)
        have hkV : KC (fun m => m = w.heap.size ∨ m = w.heap.size + 1) w3 (((w3.setCell ⟨w.heap.size + 1, 2, none⟩ (.int .i64 (left : Int))).setCell ⟨w.heap.size + 1, 3, none⟩ (.int .i64 0)).alloc (.cells #[.int .i64 x.kind, .int .i64 x.num, .string x.text, .slice a x.items.length c] 24)) := KC.alloc (KC.set (KC.set (KC.refl _ _) (.inl (.inr rfl)) _) (.inl (.inr rfl)) _) _
        have HJ4 : Hid (JJ bar2 s2 p2 l (some (x, .slice a x.items.length c)) (((w3.setCell ⟨w.heap.size + 1, 2, none⟩ (.int .i64 (left : Int))).setCell ⟨w.heap.size + 1, 3, none⟩ (.int .i64 0)).alloc (.cells #[.int .i64 x.kind, .int .i64 x.num, .string x.text, .slice a x.items.length c] 24))) := HW.out.k1 hJ3 (hkV.mono (fun m _ h => by rcases h with rfl | rfl; exact HB8.out.1; exact HB8.out.2))
        have HG4 : Hid (Calls Tryz.prog g (#[.agg #[.int .i64 x.kind, .int .i64 x.num, .string x.text, .slice a x.items.length c]] ++ cap) (((w3.setCell ⟨w.heap.size + 1, 2, none⟩ (.int .i64 (left : Int))).setCell ⟨w.heap.size + 1, 3, none⟩ (.int .i64 0)).alloc (.cells #[.int .i64 x.kind, .int .i64 x.num, .string x.text, .slice a x.items.length c] 24)) fun e w' => e = .returned (.tuple #[]) ∧ KC (fun n => ¬ bar2 n) (((w3.setCell ⟨w.heap.size + 1, 2, none⟩ (.int .i64 (left : Int))).setCell ⟨w.heap.size + 1, 3, none⟩ (.int .i64 0)).alloc (.cells #[.int .i64 x.kind, .int .i64 x.num, .string x.text, .slice a x.items.length c] 24)) w' ∧ JJ bar2 s2 p2 (l ++ [x]) none w') := HG.out bar2 s2 p2 l x _ _ (by have := HI.out.1; have := Hn.out; omega) HJ4.out
        have HR4 : Hid (Rm4 (((w3.setCell ⟨w.heap.size + 1, 2, none⟩ (.int .i64 (left : Int))).setCell ⟨w.heap.size + 1, 3, none⟩ (.int .i64 0)).alloc (.cells #[.int .i64 x.kind, .int .i64 x.num, .string x.text, .slice a x.items.length c] 24)) w.heap.size) := HR3.out.kc (B := fun m => m = w.heap.size + 1) ((kc_two _ _ _ _ _ _).alloc _) (by omega)
        have HP4 : Hid (Pl (((w3.setCell ⟨w.heap.size + 1, 2, none⟩ (.int .i64 (left : Int))).setCell ⟨w.heap.size + 1, 3, none⟩ (.int .i64 0)).alloc (.cells #[.int .i64 x.kind, .int .i64 x.num, .string x.text, .slice a x.items.length c] 24)) (w.heap.size + 1) j p' left 0) := (HP3.out.left2 left 0).kc (B := fun _ => False) (KC.of_below ((Grew.refl _).alloc _).below) (fun h => h)
        have HK4 : Hid (KC (fun m => ¬ bar m) w (((w3.setCell ⟨w.heap.size + 1, 2, none⟩ (.int .i64 (left : Int))).setCell ⟨w.heap.size + 1, 3, none⟩ (.int .i64 0)).alloc (.cells #[.int .i64 x.kind, .int .i64 x.num, .string x.text, .slice a x.items.length c] 24))) := (HI.out.2.2.2.trans (hk3.mono (fun _ _ h hb => h (Hbar.out _ hb)))).trans2 hkV (fun m hm h => by omega)
        clear hk3 hJ3 hkV HJ4 HFo c0 c1 c2 c3 g0 g1 g2 g3 HP HJ2
        obtain ⟨c0, c1, c2, c3, g0, g1, g2, g3⟩ := HP3.out
        have h9 : w.heap.size + 1 < w3.heap.size := cell_lt c0
        have e1 : IntKind.i64.wrap ((j : Int) + 1) = ((j + 1 : Nat) : Int) := by have := Hn.out; rw [IntKind.wrap_i64]; omega
        go_wp2_with fail
        refine Calls.mono HG4.out ?_
        rintro e w5 ⟨rfl, hk5, hJ5⟩
        have HP5 : Hid (Pl w5 (w.heap.size + 1) j p' left 0) := HP4.out.kc hk5 (fun h => h HB8.out.2)
        have HR5 : Hid (Rm4 w5 w.heap.size) := HR4.out.kc hk5 (fun h => h HB8.out.1)
        have HJ5 : Hid (JJ bar2 s2 p2 (l ++ [x]) none w5) := hJ5
        have HK5 : Hid (KC (fun m => ¬ bar m) w w5) := HK4.out.trans (hk5.mono (fun _ _ h hb => h (Hbar.out _ hb)))
        clear hk5 hJ5 HP4 HR4 HG4 HK4 c0 c1 c2 c3 g0 g1 g2 g3 h9
        obtain ⟨c0, c1, c2, c3, g0, g1, g2, g3⟩ := HP5.out
        have h9 : w.heap.size + 1 < w5.heap.size := cell_lt c0
        go_wp2_with fail
        go_roundg (n - (j + 1))
        case measure => have := Hg.out; omega
        case rel =>
          refine ⟨j + 1, p2, left, l ++ [x], s2, rfl, by omega, ⟨HP5.out.next (j + 1) p2, HR5.out.kc (kc_two _ _ _ _ _ _) (by omega)⟩, ⟨by have := HI.out.1; simp; omega, hle, ?_, HK5.out.trans2 (kc_two _ _ _ _ _ _) (fun m hm h => by omega)⟩, HW.out.k1 HJ5.out ((kc_two _ _ _ _ _ _).mono (fun m _ h => by rw [h]; exact HB8.out.2))⟩
          rw [HE.out, show n - (j + 1) = k by omega]
          exact pre_pre l x _
    · have hji : ¬ (j : Int) < (n : Int) := by omega
      have HZ : Hid (∀ Z, KC (fun m => m = w.heap.size ∨ m = w.heap.size + 1) wr Z → WkPost JJ bar (wlk frc n s f) w (.returned (.agg #[.int .i64 (j : Int), .pointer (some ⟨p', 0, none⟩), .int .i64 (fl : Int), .int .i64 0])) Z) := fun Z hZ => by
        have hE := HI.out.2.2.1
        rw [show n - j = 0 by omega] at hE
        rw [hE]
        refine ⟨p', ?_, HI.out.2.2.2.trans2 hZ (fun m hm h => by omega), ?_⟩
        · rw [← HI.out.1]; simp [pre, wlk]
        · have h9 := HW.out.k3 (HW.out.k1 HJ2.out (hZ.mono (fun m _ h => by rcases h with rfl | rfl; exact HB8.out.1; exact HB8.out.2))) Hbar.out
          simpa [pre, wlk] using h9
      have HR3 : Hid (Rm4 wr w.heap.size) := HP.out.2
      clear HI HJ2 HP
      obtain ⟨⟨v0, d0⟩, ⟨v1, d1⟩, ⟨v2, d2⟩, ⟨v3, d3⟩, e0', e1', e2', e3'⟩ := HR3.out
      go_wp2_with fail
      refine bodyPost_ret (v := .agg #[.int .i64 (j : Int), .pointer (some ⟨p', 0, none⟩), .int .i64 (fl : Int), .int .i64 0]) ?_ rfl (HZ.out _ (KC.set (KC.set (KC.set (KC.set (KC.refl _ _) (.inl (.inl rfl)) _) (.inl (.inl rfl)) _) (.inl (.inl rfl)) _) (.inl (.inl rfl)) _))
      obtain ⟨q0, q1, q2, q3⟩ := rm4_put (V := wr) HR3.out (.int .i64 (j : Int)) (.pointer (some ⟨p', 0, none⟩)) (.int .i64 (fl : Int)) (.int .i64 0)
      simp [results, Tryz.results42, go_sem, q0, q1, q2, q3]

end Go.Proofs.YtnjgolibmllhnaaGreat

