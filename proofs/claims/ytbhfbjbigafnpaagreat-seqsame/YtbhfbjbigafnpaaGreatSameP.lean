/-
  Two seqs at once: what stays when one of them is forced. Equal, and the document's Same of values.
-/
import Derived.Test.YtbhfbjbigafnpaaGreatForceC
import Derived.Test.YtbhfbjbigafnpaaGreatRTakeM
namespace Go.Proofs.YtbhfbjbigafnpaaGreat
open Go.RowKit Go.Shelf

set_option maxHeartbeats 1000000 in
theorem equal23_any (d : Nat) (t s : VT) (x y : Value) (w : World) (hx : Lies d w t.items x) (hy : Lies d w s.items y) :
    Calls Tryz.prog 48 #[.agg #[.int .i64 t.kind, .int .i64 t.num, .string t.text, x], .agg #[.int .i64 s.kind, .int .i64 s.num, .string s.text, y]] w fun e w' => e = .returned (.bool (cmpV d t s == 0)) ∧ Grew w w' := by
  obtain ⟨ax, cx, rfl, _⟩ := Lies.slice hx
  obtain ⟨ay, cy, rfl, _⟩ := Lies.slice hy
  have hx : Hid _ := hx
  have hy : Hid _ := hy
  go_enter Tryz.func48, Tryz.ntmps48
  go_wp2_with fail
  refine (compare_any d t s _ _ _ (Lies.keeps (Grew.two _ _ _).below _ _ _ hx.out) (Lies.keeps (Grew.two _ _ _).below _ _ _ hy.out)).mono ?_
  rintro e w1 ⟨rfl, hb⟩
  go_wp2_with fail
  go_ret
  exact ⟨rfl, (Grew.two _ _ _).trans hb⟩

theorem rsame23_any (t s : VT) (x y : Value) (w : World) (hx : Lies 16 w t.items x) (hy : Lies 16 w s.items y) : Calls Tryz.prog 49 #[.agg #[.int .i64 t.kind, .int .i64 t.num, .string t.text, x], .agg #[.int .i64 s.kind, .int .i64 s.num, .string s.text, y]] w fun e w' => e = .returned (.bool (cmpV 16 t s == 0)) ∧ Below w.heap.size w w' := by
  obtain ⟨ax, cx, rfl, _⟩ := Lies.slice hx
  obtain ⟨ay, cy, rfl, _⟩ := Lies.slice hy
  have HX : Hid (Lies 16 w t.items (.slice ax t.items.length cx)) := hx
  have HY : Hid (Lies 16 w s.items (.slice ay s.items.length cy)) := hy
  clear hx hy
  go_enter Tryz.func49, Tryz.ntmps49
  go_wp2_with fail
  refine (ref_any 16 t s _ _ _ (Lies.keeps (Grew.two _ _ _).below _ _ _ HX.out) (Lies.keeps (Grew.two _ _ _).below _ _ _ HY.out)).mono ?_
  rintro e w1 ⟨rfl, hb⟩
  have hb1 : Below w.heap.size w w1 := (Grew.two w _ _).below.trans (hb.mono (by simp; omega))
  clear hb
  go_wp2_with fail
  go_ret
  exact ⟨rfl, hb1⟩

/-- Two seqs under way, from the world w0 on; what was found of the first (xs) lies in none of its cells. -/
structure Sm2 (C : CK) (Y1 Y2 : Nat → Prop) (w0 : World) (P0 Q0 : Nat → Nat) (k1 k2 : Nat) (s t : SS) (p q : Nat) (xs : List (VT × Value)) (w : World) : Prop where
  ex : ∃ (P Q : Nat → Nat) (Z1 Z2 : Nat → Prop), (∀ j, j ≤ k1 → P j = P0 j) ∧ (∀ j, k1 < j → j ≤ s.vs.length → w0.heap.size ≤ P j) ∧ k1 ≤ s.vs.length ∧ s.i ≤ s.vs.length ∧ p = P s.i ∧ (∀ j, j ≤ k2 → Q j = Q0 j) ∧ (∀ j, k2 < j → j ≤ t.vs.length → w0.heap.size ≤ Q j) ∧ k2 ≤ t.vs.length ∧ t.i ≤ t.vs.length ∧ q = Q t.i ∧ Chn C Z1 w s.vs s.T P ∧ Chn C Z2 w t.vs t.T Q ∧ ((∀ j, j ≤ s.vs.length → ¬ Z2 (P j)) ∧ ∀ j, j ≤ t.vs.length → ¬ Z1 (Q j)) ∧ (∀ n, n < w0.heap.size → Z1 n → Y1 n) ∧ (∀ n, n < w0.heap.size → Z2 n → Y2 n) ∧ ∀ x ∈ xs, LiesX (fun n => Z1 n ∧ ∀ j, j ≤ s.vs.length → n ≠ P j) 16 w x.1.items x.2
  kc : KC (fun j => (∃ i, i ≤ k1 ∧ j = P0 i) ∨ (∃ i, i ≤ k2 ∧ j = Q0 i)) w0 w

section
variable {C : CK} {Y1 Y2 : Nat → Prop} {w0 : World} {P0 Q0 : Nat → Nat} {k1 k2 : Nat} {s t : SS} {p q : Nat} {xs : List (VT × Value)} {w : World}

theorem Sm2.keeps (h : Sm2 C Y1 Y2 w0 P0 Q0 k1 k2 s t p q xs w) {w' : World} (hb : Below w.heap.size w w') : Sm2 C Y1 Y2 w0 P0 Q0 k1 k2 s t p q xs w' := by
  obtain ⟨P, Q, Z1, Z2, a1, a2, a3, a4, a5, b1, b2, b3, b4, b5, c1, c2, c3, c4, c5, c6⟩ := h.ex
  exact ⟨⟨P, Q, Z1, Z2, a1, a2, a3, a4, a5, b1, b2, b3, b4, b5, c1.keeps hb, c2.keeps hb, c3, c4, c5, fun x hx => (c6 x hx).keeps hb⟩, h.kc.trans2 (KC.of_below (B := fun _ => False) hb) (fun _ _ h => h.elim)⟩

theorem Sm2.bare (h : Sm2 C Y1 Y2 w0 P0 Q0 k1 k2 s t p q xs w) : Sm2 C Y1 Y2 w0 P0 Q0 k1 k2 s t p q [] w := by
  obtain ⟨P, Q, Z1, Z2, a1, a2, a3, a4, a5, b1, b2, b3, b4, b5, c1, c2, c3, c4, c5, c6⟩ := h.ex
  exact ⟨⟨P, Q, Z1, Z2, a1, a2, a3, a4, a5, b1, b2, b3, b4, b5, c1, c2, c3, c4, c5, fun x hx => by cases hx⟩, h.kc⟩

end

/-- Behind Force of the first. -/
def Sf1 (C : CK) (Y1 Y2 : Nat → Prop) (w0 : World) (P0 Q0 : Nat → Nat) (k1 k2 : Nat) (t : SS) (p q : Nat) (r : FR SS) (w : World) (e : Ending) (w' : World) : Prop :=
  KC (fun n => n < w.heap.size) w w' ∧ match r with
  | .err e0 s' => (∃ a c, e = noneR a c 0 e0) ∧ Sm2 C Y1 Y2 w0 P0 Q0 k1 k2 s' t p q [] w'
  | .emp left s' => (∃ a c, e = noneR a c left 0) ∧ left ≤ 1073741824 ∧ Sm2 C Y1 Y2 w0 P0 Q0 k1 k2 s' t p q [] w'
  | .item x left s' => ∃ p' a c, e = itemR x (.slice a x.items.length c) (some ⟨p', 0, none⟩) true left 0 ∧ left ≤ 1073741824 ∧ rightV 16 x = true ∧ Sm2 C Y1 Y2 w0 P0 Q0 k1 k2 s' t p' q [(x, .slice a x.items.length c)] w'

theorem Sm2.force {C : CK} {Fr : Prop} {Y1 Y2 : Nat → Prop} {w0 : World} {P0 Q0 : Nat → Nat} {k1 k2 : Nat} {s t : SS} {p q : Nat} {w : World} (F : Nat)
    (hF : ∀ (Y : Nat → Prop) (s : SS) (P : Nat → Nat) (f : Nat), f ≤ 1073741824 → ∀ w, Chn C Y w s.vs s.T P → s.i ≤ s.vs.length → (∀ n, w.heap.size ≤ n → Y n) → Calls Tryz.prog F #[.pointer (some ⟨P s.i, 0, none⟩), .int .i64 (f : Int)] w (FcP C Fr Y s P (frcC s f) w))
    (h : Sm2 C Y1 Y2 w0 P0 Q0 k1 k2 s t p q [] w) (f : Nat) (hf : f ≤ 1073741824) :
    Calls Tryz.prog F #[.pointer (some ⟨p, 0, none⟩), .int .i64 (f : Int)] w (Sf1 C Y1 Y2 w0 P0 Q0 k1 k2 t p q (frcC s f) w) := by
  obtain ⟨P, Q, Z1, Z2, a1, a2, a3, a4, a5, b1, b2, b3, b4, b5, c1, c2, c3, c4, c5, _⟩ := h.ex
  have hc := c1.monoY (Z := fun n => (Z1 n ∧ n < w.heap.size) ∨ w.heap.size ≤ n) (fun n hn hy => .inl ⟨hy, hn⟩)
  have hws := h.kc.size
  subst a5
  refine Calls.mono (hF _ s P f hf w hc a4 (fun n hn => .inr hn)) ?_
  intro e w' hp
  cases hr : frcC s f with
  | err e0 s' =>
    rw [hr] at hp
    obtain ⟨he, hb⟩ := hp
    rw [frcC_err hr]
    exact ⟨KC.of_below hb, he, h.keeps hb⟩
  | emp left s' =>
    rw [hr] at hp
    obtain ⟨he, hb⟩ := hp
    obtain ⟨e1, e2⟩ := frcC_emp hr
    rw [e1]
    exact ⟨KC.of_below hb, he, by omega, h.keeps hb⟩
  | item x left s' =>
    rw [hr] at hp
    obtain ⟨P', a, c, g1, g2, g3, hC, hk, rfl, hrx, hl⟩ := hp
    obtain ⟨i1, i2, i3⟩ := frcC_item a4 hr
    refine ⟨hk.mono (fun j _ hj => by obtain ⟨i, hi, rfl⟩ := hj; exact c1.lt i hi), P' (s.i + 1), a, c, rfl, by omega, hrx, ⟨P', Q, _, fun n => Z2 n ∧ n < w.heap.size, fun j hj => ?_, fun j j1 j2 => ?_, by omega, i3, by rw [i2], b1, b2, b3, b4, b5, hC, (c2.monoY (fun n hn hy => ⟨hy, hn⟩)).kc hk (fun n _ hn hh => by obtain ⟨i, hi, rfl⟩ := hh; exact c3.1 i hi hn.1), ⟨fun j hj hz => ?_, fun j hj hz => ?_⟩, ?_, fun n hn hz => c5 n hn hz.1, fun y hy => ?_⟩, ?_⟩
    · rw [g1 j (by omega)]; exact a1 j hj
    · by_cases hj : j ≤ s.vs.length
      · rw [g1 j hj]; exact a2 j j1 hj
      · have := g2 j (by omega) j2; omega
    · by_cases hjs : j ≤ s.vs.length
      · rw [g1 j hjs] at hz; exact c3.1 j hjs hz.1
      · have := g2 j (by omega) hj; have := hz.2; omega
    · have hq := c2.lt j hj
      rcases hz with hz | hz
      · exact c3.2 j hj hz.1
      · omega
    · rintro n hn (hz | hz)
      · exact c4 n hn hz.1
      · omega
    · rw [List.mem_singleton.1 hy]
      exact LiesX.mono (fun n hn => ⟨hn.1, hn.2.2⟩) hl
    · refine h.kc.trans2 hk (fun j hj hh => ?_)
      obtain ⟨i, hi, rfl⟩ := hh
      left
      by_cases hik : i ≤ k1
      · exact ⟨i, hik, a1 i hik⟩
      · have := a2 i (by omega) hi; omega

/-- Behind Force of the second. -/
def Sf2 (C : CK) (Y1 Y2 : Nat → Prop) (w0 : World) (P0 Q0 : Nat → Nat) (k1 k2 : Nat) (s : SS) (p q : Nat) (xs : List (VT × Value)) (r : FR SS) (N : Nat) (w : World) (e : Ending) (w' : World) : Prop :=
  KC (fun n => n < N) w w' ∧ match r with
  | .err e0 t' => (∃ a c, e = noneR a c 0 e0) ∧ Sm2 C Y1 Y2 w0 P0 Q0 k1 k2 s t' p q [] w'
  | .emp left t' => (∃ a c, e = noneR a c left 0) ∧ left ≤ 1073741824 ∧ Sm2 C Y1 Y2 w0 P0 Q0 k1 k2 s t' p q [] w'
  | .item y left t' => ∃ q' a c, e = itemR y (.slice a y.items.length c) (some ⟨q', 0, none⟩) true left 0 ∧ left ≤ 1073741824 ∧ rightV 16 y = true ∧ Lies 16 w' y.items (.slice a y.items.length c) ∧ Sm2 C Y1 Y2 w0 P0 Q0 k1 k2 s t' p q' [] w' ∧ ∀ x ∈ xs, Lies 16 w' x.1.items x.2

theorem Sm2.force2 {C : CK} {Fr : Prop} {Y1 Y2 : Nat → Prop} {w0 : World} {P0 Q0 : Nat → Nat} {k1 k2 : Nat} {s t : SS} {p q : Nat} {xs : List (VT × Value)} {wq w : World} (F : Nat)
    (hF : ∀ (Y : Nat → Prop) (s : SS) (P : Nat → Nat) (f : Nat), f ≤ 1073741824 → ∀ w, Chn C Y w s.vs s.T P → s.i ≤ s.vs.length → (∀ n, w.heap.size ≤ n → Y n) → Calls Tryz.prog F #[.pointer (some ⟨P s.i, 0, none⟩), .int .i64 (f : Int)] w (FcP C Fr Y s P (frcC s f) w))
    (h0 : Sm2 C Y1 Y2 w0 P0 Q0 k1 k2 s t p q xs wq) (hV : Below wq.heap.size wq w) (f : Nat) (hf : f ≤ 1073741824) :
    Calls Tryz.prog F #[.pointer (some ⟨q, 0, none⟩), .int .i64 (f : Int)] w (Sf2 C Y1 Y2 w0 P0 Q0 k1 k2 s p q xs (frcC t f) wq.heap.size w) := by
  have h := h0.keeps hV
  obtain ⟨P, Q, Z1, Z2, a1, a2, a3, a4, a5, b1, b2, b3, b4, b5, c10, c20, c3, c4, c5, c60⟩ := h0.ex
  have c1 := c10.keeps hV
  have c2 := c20.keeps hV
  have c6 := fun x hx => (c60 x hx).keeps hV
  have hc := c2.monoY (Z := fun n => (Z2 n ∧ n < w.heap.size) ∨ w.heap.size ≤ n) (fun n hn hy => .inl ⟨hy, hn⟩)
  have hws := h.kc.size
  subst b5
  refine Calls.mono (hF _ t Q f hf w hc b4 (fun n hn => .inr hn)) ?_
  intro e w' hp
  cases hr : frcC t f with
  | err e0 t' =>
    rw [hr] at hp
    obtain ⟨he, hb⟩ := hp
    rw [frcC_err hr]
    exact ⟨KC.of_below hb, he, h.bare.keeps hb⟩
  | emp left t' =>
    rw [hr] at hp
    obtain ⟨he, hb⟩ := hp
    obtain ⟨e1, e2⟩ := frcC_emp hr
    rw [e1]
    exact ⟨KC.of_below hb, he, by omega, h.bare.keeps hb⟩
  | item y left t' =>
    rw [hr] at hp
    obtain ⟨Q', a, c, g1, g2, g3, hC, hk, rfl, hrx, hl⟩ := hp
    obtain ⟨i1, i2, i3⟩ := frcC_item b4 hr
    have hk1 : ∀ n, Z1 n → ¬ ∃ j, j ≤ t.vs.length ∧ n = Q j := fun n hn hh => by obtain ⟨i, hi, rfl⟩ := hh; exact c3.2 i hi hn
    refine ⟨hk.mono (fun j _ hj => by obtain ⟨i, hi, rfl⟩ := hj; exact c20.lt i hi), Q' (t.i + 1), a, c, rfl, by omega, hrx, hl.lies, ⟨⟨P, Q', fun n => Z1 n ∧ n < w.heap.size, _, a1, a2, a3, a4, a5, fun j hj => ?_, fun j j1 j2 => ?_, by omega, i3, by rw [i2], (c1.monoY (fun n hn hy => ⟨hy, hn⟩)).kc hk (fun n _ hn => hk1 n hn.1), hC, ⟨fun j hj hz => ?_, fun j hj hz => ?_⟩, fun n hn hz => c4 n hn hz.1, ?_, fun x hx => by cases hx⟩, ?_⟩, fun x hx => ?_⟩
    · rw [g1 j (by omega)]; exact b1 j hj
    · by_cases hj : j ≤ t.vs.length
      · rw [g1 j hj]; exact b2 j j1 hj
      · have := g2 j (by omega) j2; omega
    · have hq := c1.lt j hj
      rcases hz with hz | hz
      · exact c3.1 j hj hz.1
      · omega
    · by_cases hjs : j ≤ t.vs.length
      · rw [g1 j hjs] at hz; exact c3.2 j hjs hz.1
      · have := g2 j (by omega) hj; have := hz.2; omega
    · rintro n hn (hz | hz)
      · exact c5 n hn hz.1
      · omega
    · refine h.kc.trans2 hk (fun j hj hh => ?_)
      obtain ⟨i, hi, rfl⟩ := hh
      right
      by_cases hik : i ≤ k2
      · exact ⟨i, hik, b1 i hik⟩
      · have := b2 i (by omega) hi; omega
    · exact (hk.liesX (fun n hn => hk1 n hn.1) (c6 x hx)).lies

/-- What Same comes by. -/
structure SR where
  ok : Bool
  left : Nat
  err : Nat
  s : SS
  t : SS

def smW : Nat → SS → SS → Nat → SR
  | 0, s, t, f => ⟨true, f, 0, s, t⟩
  | n + 1, s, t, f => match frcC s f with
    | .err e s' => ⟨false, 0, e, s', t⟩
    | .emp l s' => match frcC t l with
      | .err e t' => ⟨false, 0, e, s', t'⟩
      | .emp l2 t' => ⟨true, l2, 0, s', t'⟩
      | .item _ l2 t' => ⟨false, l2, 0, s', t'⟩
    | .item x l s' => match frcC t l with
      | .err e t' => ⟨false, 0, e, s', t'⟩
      | .emp l2 t' => ⟨false, l2, 0, s', t'⟩
      | .item y l2 t' => if (cmpV 16 x y == 0) = true then smW n s' t' l2 else ⟨false, l2, 0, s', t'⟩

/-- What Same tells. -/
def SamePost (C : CK) (Y1 Y2 : Nat → Prop) (w0 : World) (P0 Q0 : Nat → Nat) (k1 k2 : Nat) (r : SR) (e : Ending) (w' : World) : Prop :=
  (∃ p q, Sm2 C Y1 Y2 w0 P0 Q0 k1 k2 r.s r.t p q [] w') ∧ e = .returned (.tuple #[.bool r.ok, .int .i64 (r.left : Int), .int .i64 (r.err : Int)])

end Go.Proofs.YtbhfbjbigafnpaaGreat

