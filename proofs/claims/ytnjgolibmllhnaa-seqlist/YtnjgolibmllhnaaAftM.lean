/-
  What a walk leaves, and what is told: in plain words.
-/
import Derived.Test.YtnjgolibmllhnaaChainM
import Derived.Test.YtnjgolibmllhnaaUniq
namespace Go.Proofs.Ytnjgolibmllhnaa
open Go.RowKit Go.Shelf

/-- What is told of a cell that is forced: an error, that it is empty, an item; and what is then. -/
inductive FR (S : Type) where
  | err (e : Nat) (s : S)
  | emp (left : Nat) (s : S)
  | item (x : VT) (left : Nat) (s : S)

/-- A seq, and a place in it. -/
structure SS where
  vs : List VT
  T : Tl
  i : Nat

def frcC (s : SS) (f : Nat) : FR SS :=
  match s.vs[s.i]? with
  | some x => .item x f ⟨s.vs, s.T, s.i + 1⟩
  | none => match s.T with
    | none => .emp f s
    | some (q, x) => match f with
      | 0 => .err 220 s
      | f + 1 => .item x f ⟨s.vs ++ [x], some (q, doneT q x), s.i + 1⟩

abbrev itemR (x : VT) (u : Value) (p : Option Addr) (ok : Bool) (left e : Int) : Ending := .returned (.tuple #[.agg #[.int .i64 x.kind, .int .i64 x.num, .string x.text, u], .pointer p, .bool ok, .int .i64 left, .int .i64 e])

abbrev noneR (a : Option Addr) (c : Nat) (left e : Int) : Ending := .returned (.tuple #[.agg #[.int .i64 0, .int .i64 0, .string ⟨#[]⟩, .slice a 0 c], .pointer none, .bool false, .int .i64 left, .int .i64 e])

/-- Behind Force of the cell in a place. -/
def FcP (C : CK) (Fr : Prop) (Y : Nat → Prop) (s : SS) (P : Nat → Nat) (r : FR SS) (w : World) (e : Ending) (w' : World) : Prop :=
  match r with
  | .err e0 _ => (∃ a c, e = noneR a c 0 e0) ∧ Below w.heap.size w w'
  | .emp left _ => (∃ a c, e = noneR a c left 0) ∧ Below w.heap.size w w'
  | .item x left s' => ∃ P' a c, (∀ j, j ≤ s.vs.length → P' j = P j) ∧ (∀ j, s.vs.length < j → j ≤ s'.vs.length → w.heap.size ≤ P' j) ∧ s.vs.length ≤ s'.vs.length ∧ Chn C Y w' s'.vs s'.T P' ∧ KC (fun n => ∃ j, j ≤ s.vs.length ∧ n = P j) w w' ∧ e = itemR x (.slice a x.items.length c) (some ⟨P' (s.i + 1), 0, none⟩) true left 0 ∧ rightV 16 x = true ∧ LiesX (fun n => Y n ∧ (Fr → w.heap.size ≤ n) ∧ ∀ j, j ≤ s'.vs.length → n ≠ P' j) 16 w' x.items (.slice a x.items.length c)

theorem list_lt {α : Type} {l : List α} {i : Nat} {x : α} (h : l[i]? = some x) : i < l.length := by
  rcases Nat.lt_or_ge i l.length with h2 | h2
  · exact h2
  · rw [List.getElem?_eq_none h2] at h; cases h

/-- The program's Force. -/
theorem pForce (Y : Nat → Prop) (s : SS) (P : Nat → Nat) (f : Nat) (hf : f ≤ 1073741824) (w : World) (h : Chn pCK Y w s.vs s.T P) (hi : s.i ≤ s.vs.length) (hY : ∀ n, w.heap.size ≤ n → Y n) :
    Calls Try.prog 39 #[.pointer (some ⟨P s.i, 0, none⟩), .int .i64 (f : Int)] w (FcP pCK True Y s P (frcC s f) w) := by
  obtain ⟨vs, T, i⟩ := s
  simp only at h hi
  unfold frcC
  simp only
  cases hx : vs[i]? with
  | some x =>
    have hil := list_lt hx
    obtain ⟨a, c, hc, hl⟩ := h.known i x hx
    refine Calls.mono (Force_known (P i) f hf x a c _ w hc hl.lies (h.rights x (List.mem_of_getElem? hx))) ?_
    rintro e w' ⟨a1, c1, rfl, hb, hl1⟩
    refine ⟨P, a1, c1, fun _ _ => rfl, fun j h1 h2 => absurd h1 (by simp only at h2 ⊢; omega), Nat.le_refl _, h.keeps hb, KC.of_below hb, rfl, h.rights x (List.mem_of_getElem? hx), LiesX.mono (fun n hn => ⟨hY n hn, fun _ => hn, fun j hj => ?_⟩) hl1⟩
    have := h.lt j hj; omega
  | none =>
    have hil : i = vs.length := by
      have := List.getElem?_eq_none_iff.1 hx
      omega
    subst hil
    match T, h with
    | none, h =>
      refine Calls.mono (Force_empty (P vs.length) f hf w (h.ende rfl)) ?_
      rintro e w' ⟨a, c, rfl, hb⟩
      exact ⟨⟨a, c, rfl⟩, hb⟩
    | some (q, x), h =>
      obtain ⟨g1, g2, g3, z, a, c, hz, hc, hl⟩ := h.lazy q x rfl
      obtain ⟨m, hm, hmz, hcb⟩ := hc
      cases f with
      | zero =>
        refine Calls.mono (Force_dry (P vs.length) _ _ w hcb.c0) ?_
        rintro e w' ⟨a, c, rfl, hb⟩
        exact ⟨⟨a, c, rfl⟩, hb⟩
      | succ f =>
        have h9 := Force_lazy q m f (P vs.length) g1 (by omega) (by omega) z a c w hcb (LiesX.mono (fun n hn => hn.2 _ (Nat.le_refl _)) hl) hz
        rw [hmz] at h9
        refine Calls.mono h9 ?_
        rintro e w' ⟨a3, c3, b', a1, c1, a2, c2, rfl, hk, hb', hc1, hc2, hl1, hl2, hl3⟩
        have s' := h.force hY hk hb' hc1 ⟨1, by omega, rfl, hc2⟩ (LiesX.mono (fun n hn => .inr hn) hl1) (LiesX.mono (fun n hn => .inr hn) hl2)
        have hlen : (vs ++ [x]).length = vs.length + 1 := by simp
        refine ⟨_, a3, c3, fun j hj => ?_, fun j h1 h2 => ?_, by simp only [hlen]; omega, s', hk.mono (fun j _ e => ⟨_, Nat.le_refl _, e⟩), ?_, g2, LiesX.mono (fun n hn => ⟨hY n hn.1, fun _ => hn.1, fun j hj => ?_⟩) hl3⟩
        · have : ¬ j = vs.length + 1 := by simp only at hj; omega
          simp only [if_neg this]
        · have : j = vs.length + 1 := by simp only [hlen] at h1 h2; omega
          simp only [if_pos this]; exact hb'
        · simp only [if_true]
        · by_cases e : j = vs.length + 1
          · simp only [if_pos e]; exact hn.2
          · simp only [if_neg e]; have := h.lt j (by simp only [hlen] at hj; omega); omega

/-- The document's Force. -/
theorem dForce (Y : Nat → Prop) (s : SS) (P : Nat → Nat) (f : Nat) (hf : f ≤ 1073741824) (w : World) (h : Chn dCK Y w s.vs s.T P) (hi : s.i ≤ s.vs.length) (hY : ∀ n, w.heap.size ≤ n → Y n) :
    Calls Try.prog 27 #[.pointer (some ⟨P s.i, 0, none⟩), .int .i64 (f : Int)] w (FcP dCK False Y s P (frcC s f) w) := by
  obtain ⟨vs, T, i⟩ := s
  simp only at h hi
  unfold frcC
  simp only
  cases hx : vs[i]? with
  | some x =>
    have hil := list_lt hx
    obtain ⟨a, c, ⟨kd, q, z, uz, hc⟩, hl⟩ := h.known i x hx
    refine Calls.mono (rForce_known (P i) f q kd hf x z uz a c _ w hc) ?_
    rintro e w' ⟨rfl, hb⟩
    exact ⟨P, a, c, fun _ _ => rfl, fun j h1 h2 => absurd h1 (by simp only at h2 ⊢; omega), Nat.le_refl _, h.keeps hb, KC.of_below hb, rfl, h.rights x (List.mem_of_getElem? hx), LiesX.mono (fun n hn => ⟨hn.1, False.elim, hn.2⟩) (hl.keeps hb)⟩
  | none =>
    have hil : i = vs.length := by
      have := List.getElem?_eq_none_iff.1 hx
      omega
    subst hil
    match T, h with
    | none, h =>
      refine Calls.mono (rForce_empty (P vs.length) f hf w (h.ende rfl)) ?_
      rintro e w' ⟨a, c, rfl, hb⟩
      exact ⟨⟨a, c, rfl⟩, hb⟩
    | some (q, x), h =>
      obtain ⟨g1, g2, g3, z, a, c, hz, ⟨kd, hkd, hdb⟩, hl⟩ := h.lazy q x rfl
      cases f with
      | zero =>
        refine Calls.mono (rForce_d (P vs.length) q kd z _ w hdb) ?_
        rintro e w' ⟨a, c, rfl, hb⟩
        exact ⟨⟨a, c, rfl⟩, hb⟩
      | succ f =>
        have hzb := zbox_below w
        have hzs := zbox_size w
        have hbl := hdb.lt
        have hbn : P vs.length ≠ w.heap.size := by omega
        have h1 := rforce_lazy (fun n => (Y n ∧ ∀ j, j ≤ vs.length → n ≠ P j) ∧ n < w.heap.size) q f (P vs.length) (by omega) kd x z _ (fun e => e.1.2 _ (Nat.le_refl _) rfl) (zbox w) (fun n hn => by omega) (hdb.keeps hzb) (fun V hV => by
          rcases hkd with ⟨rfl, rfl⟩ | ⟨rfl, rfl⟩
          · exact rstep1 _ q (P vs.length) f _ a c V ((hdb.keeps hzb).keeps hV) ((hl.both.keeps hzb).keeps hV)
          · exact rstep13 _ q (P vs.length) g1 f z a c V ((hdb.keeps hzb).keeps hV) ((hl.both.keeps hzb).keeps hV) hz)
        have h2 := rForce_of (P vs.length) (f + 1) hf (fun x1 a1 c1 p t l E w2 => x1 = x ∧ t = true ∧ l = (f : Int) ∧ E = 0 ∧ ∃ b', p = some ⟨b', 0, none⟩ ∧ KC (fun j => j = P vs.length) (zbox w) w2 ∧ (zbox w).heap.size ≤ b' ∧ DB w2 (P vs.length) true true x (.slice a1 x.items.length c1) (some ⟨b', 0, none⟩) kd q z (.slice a z.items.length c) ∧ DB w2 b' false false zeroT (.slice none 0 0) none 13 q x (.slice a1 x.items.length c1) ∧ LiesX (fun n => (((Y n ∧ ∀ j, j ≤ vs.length → n ≠ P j) ∧ n < w.heap.size) ∧ n < (zbox w).heap.size) ∨ ((zbox w).heap.size ≤ n ∧ n ≠ b')) 16 w2 x.items (.slice a1 x.items.length c1)) w (Calls.mono h1 fun e w2 hp => by
          obtain ⟨hk, a1, c1, b', he, hb', hd, hd', hx⟩ := hp
          exact ⟨x, a1, c1, some ⟨b', 0, none⟩, true, f, 0, he, ⟨rfl, rfl, rfl, rfl, b', rfl, hk, hb', hd, hd', hx⟩, hk.bx (fun e => hbn e.symm) (zbox_bx w)⟩)
        refine Calls.mono h2 ?_
        rintro e w' ⟨x1, a1, c1, p, t, l, E, rfl, w2, ⟨rfl, rfl, rfl, rfl, b', rfl, hk, hb', hd, hd', hx⟩, hk2⟩
        have hs2 := hk.size
        have hbb := hd'.lt
        have hkk : KC (fun j => j = P vs.length) w w' := ((KC.of_below hzb).trans2 hk (fun _ _ h => h)).trans2 hk2 (fun j hj h => by omega)
        have hlx : LiesX (fun n => ((Y n ∧ ∀ j, j ≤ vs.length → n ≠ P j) ∧ n < w.heap.size) ∨ (w.heap.size ≤ n ∧ n ≠ b')) 16 w' x1.items (.slice a1 x1.items.length c1) := by
          refine LiesX.mono (fun n hn => ?_) (hk2.liesX (fun n hn => ?_) hx)
          · rcases hn with h | h
            · exact .inl h.1
            · exact .inr ⟨by omega, h.2⟩
          · rcases hn with h | h
            · have := h.1.2; omega
            · omega
        have s' := h.force hY hkk (by omega) ⟨kd, q, z, _, hk2.db hbn hd⟩ ⟨13, .inr ⟨rfl, rfl⟩, hk2.db (by omega) hd'⟩ hlx hlx
        have hlen : (vs ++ [x1]).length = vs.length + 1 := by simp
        refine ⟨_, a1, c1, fun j hj => ?_, fun j h1 h2 => ?_, by simp only [hlen]; omega, s', hkk.mono (fun j _ e => ⟨_, Nat.le_refl _, e⟩), ?_, g2, LiesX.mono (fun n hn => ⟨?_, False.elim, fun j hj => ?_⟩) hlx⟩
        · have : ¬ j = vs.length + 1 := by simp only at hj; omega
          simp only [if_neg this]
        · have : j = vs.length + 1 := by simp only [hlen] at h1 h2; omega
          simp only [if_pos this]; omega
        · simp only [if_true]
        · rcases hn with h | h
          · exact h.1.1
          · exact hY n h.1
        · by_cases e : j = vs.length + 1
          · simp only [if_pos e]
            rcases hn with h | h
            · omega
            · exact h.2
          · simp only [if_neg e]
            rcases hn with h' | h'
            · exact h'.1.2 j (by simp only [hlen] at hj; omega)
            · have := h.lt j (by simp only [hlen] at hj; omega); omega

end Go.Proofs.Ytnjgolibmllhnaa

namespace Go.Proofs.Ytnjgolibmllhnaa
open Go.RowKit Go.Shelf

/-- What a walk finds. -/
structure WS (S : Type) where
  items : List VT
  left : Nat
  err : Nat
  s : S

def pre {S : Type} (l : List VT) (r : WS S) : WS S := ⟨l ++ r.items, r.left, r.err, r.s⟩

/-- So many cells are forced, or until one is empty. -/
def wlk {S : Type} (frc : S → Nat → FR S) : Nat → S → Nat → WS S
  | 0, s, f => ⟨[], f, 0, s⟩
  | n + 1, s, f => match frc s f with
    | .err e s' => ⟨[], 0, e, s'⟩
    | .emp left s' => ⟨[], left, 0, s'⟩
    | .item x left s' => pre [x] (wlk frc n s' left)

theorem pre_pre {S : Type} (l : List VT) (x : VT) (r : WS S) : pre l (pre [x] r) = pre (l ++ [x]) r := by
  unfold pre; simp

/-- Behind Force, for a walk: what it keeps (JJ), and that barred blocks stay. -/
def FJ {S : Type} (JJ : (Nat → Prop) → S → Nat → List VT → Option (VT × Value) → World → Prop) (bar : Nat → Prop) (p : Nat) (l : List VT) (r : FR S) (w : World) (e : Ending) (w' : World) : Prop :=
  KC (fun n => ¬ bar n) w w' ∧ match r with
  | .err e0 s' => (∃ a c, e = noneR a c 0 e0) ∧ JJ bar s' p l none w'
  | .emp left s' => (∃ a c, e = noneR a c left 0) ∧ left ≤ 1073741824 ∧ JJ bar s' p l none w'
  | .item x left s' => ∃ p' a c, e = itemR x (.slice a x.items.length c) (some ⟨p', 0, none⟩) true left 0 ∧ left ≤ 1073741824 ∧ JJ bar s' p' l (some (x, .slice a x.items.length c)) w'

/-- What a walk keeps, and that it may. -/
structure Wkr {S : Type} (frc : S → Nat → FR S) (JJ : (Nat → Prop) → S → Nat → List VT → Option (VT × Value) → World → Prop) : Prop where
  k1 : ∀ {bar s p l o w w'}, JJ bar s p l o w → KC bar w w' → JJ bar s p l o w'
  k2 : ∀ {bar s p l o w w'}, JJ bar s p l o w → Below w.heap.size w w' → JJ (fun n => bar n ∨ (w.heap.size ≤ n ∧ n < w'.heap.size)) s p l o w'
  k3 : ∀ {bar bar' : Nat → Prop} {s p l o w}, JJ bar s p l o w → (∀ n, bar' n → bar n) → JJ bar' s p l o w

/-- The four cells of a walk's place. -/
structure Pl (w : World) (b : Nat) (n p left e : Nat) : Prop where
  c0 : w.cell? ⟨b, 0, none⟩ = some (.int .i64 (n : Int))
  c1 : w.cell? ⟨b, 1, none⟩ = some (.pointer (some ⟨p, 0, none⟩))
  c2 : w.cell? ⟨b, 2, none⟩ = some (.int .i64 (left : Int))
  c3 : w.cell? ⟨b, 3, none⟩ = some (.int .i64 (e : Int))
  f0 : w.frozen? ⟨b, 0, none⟩ = false
  f1 : w.frozen? ⟨b, 1, none⟩ = false
  f2 : w.frozen? ⟨b, 2, none⟩ = false
  f3 : w.frozen? ⟨b, 3, none⟩ = false

theorem Pl.lt {w : World} {b n p left e : Nat} (h : Pl w b n p left e) : b < w.heap.size := cell_lt h.c0

theorem Pl.kc {w w' : World} {b n p left e : Nat} {B : Nat → Prop} (h : Pl w b n p left e) (k : KC B w w') (hb : ¬ B b) : Pl w' b n p left e :=
  ⟨k.cell hb h.c0, k.cell hb h.c1, k.cell hb h.c2, k.cell hb h.c3, k.frozen hb h.c0 h.f0, k.frozen hb h.c1 h.f1, k.frozen hb h.c2 h.f2, k.frozen hb h.c3 h.f3⟩

theorem KC.alloc {B : Nat → Prop} {w w1 : World} (k : KC B w w1) (o : Obj) : KC B w (w1.alloc o) :=
  k.trans2 (KC.of_below (B := fun _ => False) ((Grew.refl w1).alloc o).below) (fun _ _ h => h.elim)

/-- Four cells that are to be written. -/
structure Rm4 (w : World) (b : Nat) : Prop where
  c0 : ∃ v, w.cell? ⟨b, 0, none⟩ = some v
  c1 : ∃ v, w.cell? ⟨b, 1, none⟩ = some v
  c2 : ∃ v, w.cell? ⟨b, 2, none⟩ = some v
  c3 : ∃ v, w.cell? ⟨b, 3, none⟩ = some v
  f0 : w.frozen? ⟨b, 0, none⟩ = false
  f1 : w.frozen? ⟨b, 1, none⟩ = false
  f2 : w.frozen? ⟨b, 2, none⟩ = false
  f3 : w.frozen? ⟨b, 3, none⟩ = false

theorem Rm4.kc {w w' : World} {b : Nat} {B : Nat → Prop} (h : Rm4 w b) (k : KC B w w') (hb : ¬ B b) : Rm4 w' b := by
  obtain ⟨⟨v0, h0⟩, ⟨v1, h1⟩, ⟨v2, h2⟩, ⟨v3, h3⟩, g0, g1, g2, g3⟩ := h
  exact ⟨⟨v0, k.cell hb h0⟩, ⟨v1, k.cell hb h1⟩, ⟨v2, k.cell hb h2⟩, ⟨v3, k.cell hb h3⟩, k.frozen hb h0 g0, k.frozen hb h1 g1, k.frozen hb h2 g2, k.frozen hb h3 g3⟩

theorem Pl.left2 {w : World} {b n p left e : Nat} (h : Pl w b n p left e) (l2 : Nat) (e2 : Nat) : Pl ((w.setCell ⟨b, 2, none⟩ (.int .i64 (l2 : Int))).setCell ⟨b, 3, none⟩ (.int .i64 (e2 : Int))) b n p l2 e2 := by
  refine ⟨setc_ne (by omega) (setc_ne (by omega) h.c0), setc_ne (by omega) (setc_ne (by omega) h.c1), setc_ne (by omega) (World.cell?_setCell_same _ _ _ h.c2), World.cell?_setCell_same _ _ _ (setc_ne (by omega) h.c3), ?_, ?_, ?_, ?_⟩
  · rw [World.frozen?_setCell, World.frozen?_setCell]; exact h.f0
  · rw [World.frozen?_setCell, World.frozen?_setCell]; exact h.f1
  · rw [World.frozen?_setCell, World.frozen?_setCell]; exact h.f2
  · rw [World.frozen?_setCell, World.frozen?_setCell]; exact h.f3

theorem Pl.next {w : World} {b n p left e : Nat} (h : Pl w b n p left e) (n2 p2 : Nat) : Pl ((w.setCell ⟨b, 0, none⟩ (.int .i64 (n2 : Int))).setCell ⟨b, 1, none⟩ (.pointer (some ⟨p2, 0, none⟩))) b n2 p2 left e := by
  refine ⟨setc_ne (by omega) (World.cell?_setCell_same _ _ _ h.c0), World.cell?_setCell_same _ _ _ (setc_ne (by omega) h.c1), setc_ne (by omega) (setc_ne (by omega) h.c2), setc_ne (by omega) (setc_ne (by omega) h.c3), ?_, ?_, ?_, ?_⟩
  · rw [World.frozen?_setCell, World.frozen?_setCell]; exact h.f0
  · rw [World.frozen?_setCell, World.frozen?_setCell]; exact h.f1
  · rw [World.frozen?_setCell, World.frozen?_setCell]; exact h.f2
  · rw [World.frozen?_setCell, World.frozen?_setCell]; exact h.f3

theorem kc_two (w : World) (b i j : Nat) (x y : Value) : KC (fun m => m = b) w ((w.setCell ⟨b, i, none⟩ x).setCell ⟨b, j, none⟩ y) :=
  KC.set (B := fun m => m = b) (KC.set (B := fun m => m = b) (KC.refl _ w) (.inl rfl) x) (.inl rfl) y

theorem rm4_put {V : World} {b : Nat} (h : Rm4 V b) (x0 x1 x2 x3 : Value) : ((((V.setCell ⟨b, 0, none⟩ x0).setCell ⟨b, 1, none⟩ x1).setCell ⟨b, 2, none⟩ x2).setCell ⟨b, 3, none⟩ x3).cell? ⟨b, 0, none⟩ = some x0 ∧ ((((V.setCell ⟨b, 0, none⟩ x0).setCell ⟨b, 1, none⟩ x1).setCell ⟨b, 2, none⟩ x2).setCell ⟨b, 3, none⟩ x3).cell? ⟨b, 1, none⟩ = some x1 ∧ ((((V.setCell ⟨b, 0, none⟩ x0).setCell ⟨b, 1, none⟩ x1).setCell ⟨b, 2, none⟩ x2).setCell ⟨b, 3, none⟩ x3).cell? ⟨b, 2, none⟩ = some x2 ∧ ((((V.setCell ⟨b, 0, none⟩ x0).setCell ⟨b, 1, none⟩ x1).setCell ⟨b, 2, none⟩ x2).setCell ⟨b, 3, none⟩ x3).cell? ⟨b, 3, none⟩ = some x3 := by
  obtain ⟨⟨v0, h0⟩, ⟨v1, h1⟩, ⟨v2, h2⟩, ⟨v3, h3⟩, _, _, _, _⟩ := h
  refine ⟨?_, ?_, ?_, ?_⟩
  · exact setc_ne (by omega) (setc_ne (by omega) (setc_ne (by omega) (World.cell?_setCell_same _ _ _ h0)))
  · exact setc_ne (by omega) (setc_ne (by omega) (World.cell?_setCell_same _ _ _ (setc_ne (by omega) h1)))
  · exact setc_ne (by omega) (World.cell?_setCell_same _ _ _ (setc_ne (by omega) (setc_ne (by omega) h2)))
  · exact World.cell?_setCell_same _ _ _ (setc_ne (by omega) (setc_ne (by omega) (setc_ne (by omega) h3)))

theorem rm4_alloc {V : World} {b : Nat} (h : Rm4 V b) (x0 x1 x2 x3 : Value) (o : Obj) : (((((V.setCell ⟨b, 0, none⟩ x0).setCell ⟨b, 1, none⟩ x1).setCell ⟨b, 2, none⟩ x2).setCell ⟨b, 3, none⟩ x3).alloc o).cell? ⟨b, 0, none⟩ = some x0 ∧ (((((V.setCell ⟨b, 0, none⟩ x0).setCell ⟨b, 1, none⟩ x1).setCell ⟨b, 2, none⟩ x2).setCell ⟨b, 3, none⟩ x3).alloc o).cell? ⟨b, 1, none⟩ = some x1 ∧ (((((V.setCell ⟨b, 0, none⟩ x0).setCell ⟨b, 1, none⟩ x1).setCell ⟨b, 2, none⟩ x2).setCell ⟨b, 3, none⟩ x3).alloc o).cell? ⟨b, 2, none⟩ = some x2 ∧ (((((V.setCell ⟨b, 0, none⟩ x0).setCell ⟨b, 1, none⟩ x1).setCell ⟨b, 2, none⟩ x2).setCell ⟨b, 3, none⟩ x3).alloc o).cell? ⟨b, 3, none⟩ = some x3 := by
  obtain ⟨q0, q1, q2, q3⟩ := rm4_put h x0 x1 x2 x3
  exact ⟨cell_keeps ((Grew.refl _).alloc _).below q0, cell_keeps ((Grew.refl _).alloc _).below q1, cell_keeps ((Grew.refl _).alloc _).below q2, cell_keeps ((Grew.refl _).alloc _).below q3⟩

end Go.Proofs.Ytnjgolibmllhnaa

namespace Go.Proofs.Ytnjgolibmllhnaa
open Go.RowKit Go.Shelf

/-- From the world w0 on, in which the seq had the cells P0 0 .. P0 k0, it has come to the place p; the items ps that were found lie in none of its cells and in no barred block. -/
structure Tk (C : CK) (Fr : Prop) (Y bar : Nat → Prop) (w0 : World) (P0 : Nat → Nat) (k0 : Nat) (s : SS) (p : Nat) (w : World) (ps : List (VT × Value)) : Prop where
  ex : ∃ (P : Nat → Nat) (Yc : Nat → Prop), (∀ j, j ≤ k0 → P j = P0 j) ∧ (∀ j, k0 < j → j ≤ s.vs.length → w0.heap.size ≤ P j) ∧ k0 ≤ s.vs.length ∧ s.i ≤ s.vs.length ∧ p = P s.i ∧ Chn C Yc w s.vs s.T P ∧ (∀ n, Yc n → ¬ bar n ∧ (n < w0.heap.size → Y n)) ∧ ∀ x ∈ ps, rightV 16 x.1 = true ∧ ∃ a c, x.2 = .slice a x.1.items.length c ∧ LiesX (fun n => ¬ bar n ∧ (Fr → w0.heap.size ≤ n) ∧ (n < w0.heap.size → Y n) ∧ ∀ j, j ≤ s.vs.length → n ≠ P j) 16 w x.1.items x.2
  kc : KC (fun j => ∃ i, i ≤ k0 ∧ j = P0 i) w0 w
  barw : ∀ n, bar n → w0.heap.size ≤ n ∧ n < w.heap.size

section
variable {C : CK} {Fr : Prop} {Y bar : Nat → Prop} {w0 : World} {P0 : Nat → Nat} {k0 : Nat} {s : SS} {p : Nat} {w : World} {ps : List (VT × Value)}

theorem Tk.start {vs : List VT} {T : Tl} (h : Chn C Y w0 vs T P0) (i : Nat) (hi : i ≤ vs.length) : Tk C Fr Y (fun _ => False) w0 P0 vs.length ⟨vs, T, i⟩ (P0 i) w0 [] :=
  ⟨⟨P0, Y, fun _ _ => rfl, fun j h1 h2 => absurd h1 (by simp only at h2; omega), Nat.le_refl _, hi, rfl, h, fun n hn => ⟨fun h => h, fun _ => hn⟩, fun x hx => by cases hx⟩, KC.refl _ _, fun n h => h.elim⟩

theorem Tk.k1 (h : Tk C Fr Y bar w0 P0 k0 s p w ps) {w' : World} (hk : KC bar w w') : Tk C Fr Y bar w0 P0 k0 s p w' ps := by
  obtain ⟨P, Yc, h1, h2, h3, h4, h5, h6, h7, h8⟩ := h.ex
  refine ⟨⟨P, Yc, h1, h2, h3, h4, h5, h6.kc hk (fun n _ hn => (h7 n hn).1), h7, fun x hx => ?_⟩, h.kc.trans2 hk (fun j hj hb => absurd (h.barw j hb).1 (by omega)), fun n hn => ⟨(h.barw n hn).1, Nat.lt_of_lt_of_le (h.barw n hn).2 hk.size⟩⟩
  obtain ⟨g1, a, c, g2, g3⟩ := h8 x hx
  exact ⟨g1, a, c, g2, hk.liesX (fun n hn => hn.1) g3⟩

theorem Tk.k2 (h : Tk C Fr Y bar w0 P0 k0 s p w ps) {w' : World} (hb : Below w.heap.size w w') : Tk C Fr Y (fun n => bar n ∨ (w.heap.size ≤ n ∧ n < w'.heap.size)) w0 P0 k0 s p w' ps := by
  obtain ⟨P, Yc, h1, h2, h3, h4, h5, h6, h7, h8⟩ := h.ex
  refine ⟨⟨P, fun n => Yc n ∧ n < w.heap.size, h1, h2, h3, h4, h5, (h6.monoY (fun n hn hy => ⟨hy, hn⟩)).keeps hb, fun n hn => ⟨fun hh => ?_, (h7 n hn.1).2⟩, fun x hx => ?_⟩, h.kc.trans2 (KC.of_below (B := fun _ => False) hb) (fun j _ hf => hf.elim), fun n hn => ?_⟩
  · rcases hh with hh | hh
    · exact (h7 n hn.1).1 hh
    · have := hn.2; omega
  · obtain ⟨g1, a, c, g2, g3⟩ := h8 x hx
    refine ⟨g1, a, c, g2, LiesX.mono (fun n hn => ⟨fun hh => ?_, hn.1.2⟩) (g3.both.keeps hb)⟩
    rcases hh with hh | hh
    · exact hn.1.1 hh
    · have := hn.2; omega
  · rcases hn with hn | hn
    · exact ⟨(h.barw n hn).1, Nat.lt_of_lt_of_le (h.barw n hn).2 hb.size⟩
    · exact ⟨Nat.le_trans h.kc.size hn.1, hn.2⟩

theorem Tk.k4 (h : Tk C Fr Y bar w0 P0 k0 s p w ps) {w' : World} (hb : KC bar w w') : Tk C Fr Y (fun n => bar n ∨ (w.heap.size ≤ n ∧ n < w'.heap.size)) w0 P0 k0 s p w' ps := by
  obtain ⟨P, Yc, h1, h2, h3, h4, h5, h6, h7, h8⟩ := h.ex
  refine ⟨⟨P, fun n => Yc n ∧ n < w.heap.size, h1, h2, h3, h4, h5, (h6.monoY (fun n hn hy => ⟨hy, hn⟩)).kc hb (fun n _ hn => (h7 n hn.1).1), fun n hn => ⟨fun hh => ?_, (h7 n hn.1).2⟩, fun x hx => ?_⟩, h.kc.trans2 hb (fun j hj hf => absurd (h.barw j hf).1 (by omega)), fun n hn => ?_⟩
  · rcases hh with hh | hh
    · exact (h7 n hn.1).1 hh
    · have := hn.2; omega
  · obtain ⟨g1, a, c, g2, g3⟩ := h8 x hx
    refine ⟨g1, a, c, g2, LiesX.mono (fun n hn => ⟨fun hh => ?_, hn.1.2⟩) (hb.liesX (fun n hn => hn.1.1) g3.both)⟩
    rcases hh with hh | hh
    · exact hn.1.1 hh
    · have := hn.2; omega
  · rcases hn with hn | hn
    · exact ⟨(h.barw n hn).1, Nat.lt_of_lt_of_le (h.barw n hn).2 hb.size⟩
    · exact ⟨Nat.le_trans h.kc.size hn.1, hn.2⟩

theorem Tk.k3 (h : Tk C Fr Y bar w0 P0 k0 s p w ps) {bar' : Nat → Prop} (hb : ∀ n, bar' n → bar n) : Tk C Fr Y bar' w0 P0 k0 s p w ps := by
  obtain ⟨P, Yc, h1, h2, h3, h4, h5, h6, h7, h8⟩ := h.ex
  refine ⟨⟨P, Yc, h1, h2, h3, h4, h5, h6, fun n hn => ⟨fun hh => (h7 n hn).1 (hb n hh), (h7 n hn).2⟩, fun x hx => ?_⟩, h.kc, fun n hn => h.barw n (hb n hn)⟩
  obtain ⟨g1, a, c, g2, g3⟩ := h8 x hx
  exact ⟨g1, a, c, g2, LiesX.mono (fun n hn => ⟨fun hh => hn.1 (hb n hh), hn.2⟩) g3⟩

theorem Tk.below (h : Tk C Fr Y bar w0 P0 k0 s p w ps) {w' : World} (hb : Below w.heap.size w w') : Tk C Fr Y bar w0 P0 k0 s p w' ps := h.k1 (KC.of_below hb)

/-- Some of the items alone. -/
theorem Tk.part (h : Tk C Fr Y bar w0 P0 k0 s p w ps) {qs : List (VT × Value)} (hq : ∀ x ∈ qs, x ∈ ps) : Tk C Fr Y bar w0 P0 k0 s p w qs := by
  obtain ⟨P, Yc, h1, h2, h3, h4, h5, h6, h7, h8⟩ := h.ex
  exact ⟨⟨P, Yc, h1, h2, h3, h4, h5, h6, h7, fun x hx => h8 x (hq x hx)⟩, h.kc, h.barw⟩

end

theorem frcC_err {s s' : SS} {f e : Nat} (h : frcC s f = .err e s') : s' = s := by
  unfold frcC at h
  split at h
  · cases h
  · split at h
    · cases h
    · split at h
      · cases h; rfl
      · cases h

theorem frcC_emp {s s' : SS} {f left : Nat} (h : frcC s f = .emp left s') : s' = s ∧ left = f := by
  unfold frcC at h
  split at h
  · cases h
  · split at h
    · cases h; exact ⟨rfl, rfl⟩
    · split at h
      · cases h
      · cases h

theorem frcC_item {s s' : SS} {f left : Nat} {x : VT} (hi : s.i ≤ s.vs.length) (h : frcC s f = .item x left s') : left ≤ f ∧ s'.i = s.i + 1 ∧ s'.i ≤ s'.vs.length := by
  unfold frcC at h
  split at h
  · next hx =>
    cases h
    have := list_lt hx
    exact ⟨Nat.le_refl _, rfl, by simp only; omega⟩
  · split at h
    · cases h
    · split at h
      · cases h
      · cases h
        exact ⟨by omega, rfl, by simp only [List.length_append, List.length_cons, List.length_nil]; omega⟩

/-- Behind Force. -/
def TkF (C : CK) (Fr : Prop) (Y bar : Nat → Prop) (w0 : World) (P0 : Nat → Nat) (k0 : Nat) (p : Nat) (ps : List (VT × Value)) (r : FR SS) (w : World) (e : Ending) (w' : World) : Prop :=
  KC (fun n => ¬ bar n) w w' ∧ match r with
  | .err e0 s' => (∃ a c, e = noneR a c 0 e0) ∧ Tk C Fr Y bar w0 P0 k0 s' p w' ps
  | .emp left s' => (∃ a c, e = noneR a c left 0) ∧ left ≤ 1073741824 ∧ Tk C Fr Y bar w0 P0 k0 s' p w' ps
  | .item x left s' => ∃ p' a c, e = itemR x (.slice a x.items.length c) (some ⟨p', 0, none⟩) true left 0 ∧ left ≤ 1073741824 ∧ Tk C Fr Y bar w0 P0 k0 s' p' w' (ps ++ [(x, .slice a x.items.length c)])

/-- Force, of the program or of the document. -/
theorem Tk.force {C : CK} {Fr : Prop} {Y bar : Nat → Prop} {w0 : World} {P0 : Nat → Nat} {k0 : Nat} {s : SS} {p : Nat} {w : World} {ps : List (VT × Value)} (F : Nat)
    (hF : ∀ (Y : Nat → Prop) (s : SS) (P : Nat → Nat) (f : Nat), f ≤ 1073741824 → ∀ w, Chn C Y w s.vs s.T P → s.i ≤ s.vs.length → (∀ n, w.heap.size ≤ n → Y n) → Calls Try.prog F #[.pointer (some ⟨P s.i, 0, none⟩), .int .i64 (f : Int)] w (FcP C Fr Y s P (frcC s f) w))
    (h : Tk C Fr Y bar w0 P0 k0 s p w ps) (f : Nat) (hf : f ≤ 1073741824) :
    Calls Try.prog F #[.pointer (some ⟨p, 0, none⟩), .int .i64 (f : Int)] w (TkF C Fr Y bar w0 P0 k0 p ps (frcC s f) w) := by
  obtain ⟨P, Yc, h1, h2, h3, h4, h5, h6, h7, h8⟩ := h.ex
  have hc := h6.monoY (Z := fun n => (Yc n ∧ n < w.heap.size) ∨ w.heap.size ≤ n) (fun n hn hy => .inl ⟨hy, hn⟩)
  subst h5
  refine Calls.mono (hF _ s P f hf w hc h4 (fun n hn => .inr hn)) ?_
  intro e w' hp
  have hbarP : ∀ j, j ≤ s.vs.length → ¬ bar (P j) := fun j hj => (h7 _ (h6.inY j hj)).1
  cases hr : frcC s f with
  | err e0 s' =>
    rw [hr] at hp
    obtain ⟨he, hb⟩ := hp
    rw [frcC_err hr]
    exact ⟨KC.of_below hb, he, h.below hb⟩
  | emp left s' =>
    rw [hr] at hp
    obtain ⟨he, hb⟩ := hp
    obtain ⟨e1, e2⟩ := frcC_emp hr
    rw [e1]
    exact ⟨KC.of_below hb, he, by omega, h.below hb⟩
  | item x left s' =>
    rw [hr] at hp
    obtain ⟨P', a, c, g1, g2, g3, hC, hk, rfl, hrx, hl⟩ := hp
    obtain ⟨i1, i2, i3⟩ := frcC_item h4 hr
    have hws := h.kc.size
    have hY1 : ∀ n, ((Yc n ∧ n < w.heap.size) ∨ w.heap.size ≤ n) → ¬ bar n ∧ (n < w0.heap.size → Y n) := fun n hn => by
      rcases hn with hn | hn
      · exact h7 n hn.1
      · exact ⟨fun hb => by have := (h.barw n hb).2; omega, fun hh => by omega⟩
    refine ⟨hk.mono (fun j _ hj => by obtain ⟨i, hi, rfl⟩ := hj; exact hbarP i hi), P' (s.i + 1), a, c, rfl, by omega, ⟨P', _, fun j hj => ?_, fun j j1 j2 => ?_, by omega, i3, by rw [i2], hC, hY1, fun y hy => ?_⟩, h.kc.trans2 hk (fun j hj hh => ?_), fun n hn => ⟨(h.barw n hn).1, Nat.lt_of_lt_of_le (h.barw n hn).2 hk.size⟩⟩
    · rw [g1 j (by omega)]; exact h1 j hj
    · by_cases hj : j ≤ s.vs.length
      · rw [g1 j hj]; exact h2 j j1 hj
      · have := g2 j (by omega) j2; omega
    · rcases List.mem_append.1 hy with hy | hy
      · obtain ⟨k1, a1, c1, k2, k3⟩ := h8 y hy
        refine ⟨k1, a1, c1, k2, LiesX.mono (fun n hn => ⟨hn.1.1, hn.1.2.1, hn.1.2.2.1, fun j hj => ?_⟩) (hk.liesX (fun n hn hh => by obtain ⟨i, hi, rfl⟩ := hh; exact hn.1.2.2.2 i hi rfl) k3.both)⟩
        by_cases hj2 : j ≤ s.vs.length
        · rw [g1 j hj2]; exact hn.1.2.2.2 j hj2
        · have := g2 j (by omega) hj; have := hn.2; omega
      · rw [List.mem_singleton.1 hy]
        refine ⟨hrx, a, c, rfl, LiesX.mono (fun n hn => ⟨(hY1 n hn.1).1, fun hf => ?_, (hY1 n hn.1).2, hn.2.2⟩) hl⟩
        have := hn.2.1 hf; omega
    · obtain ⟨i, hi, rfl⟩ := hh
      by_cases hik : i ≤ k0
      · exact ⟨i, hik, h1 i hik⟩
      · have := h2 i (by omega) hi; omega

end Go.Proofs.Ytnjgolibmllhnaa

namespace Go.Proofs.Ytnjgolibmllhnaa
open Go.RowKit Go.Shelf

theorem own_liesX {X : Nat → Prop} {w : World} {base d n : Nat} {v : Value} {ps : List (VT × Value)} (h : w.ownsRow base 38 4 v n (ps.flatMap encP)) (hn : n = ps.length) (hX : ∀ g, v.ownBlock = some g → X g) (hp : ∀ p ∈ ps, LiesX X d w p.1.items p.2 ∧ p.1.text.size ≤ 9223372036854775807) (hl : ps.length ≤ 9223372036854775807) : LiesX X (d + 1) w (ps.map (·.1)) v := by
  subst hn
  by_cases hne : ps = []
  · subst hne
    rcases h.2 with ⟨rfl, _⟩ | ⟨g, cap, cur, rfl, _⟩
    · exact ⟨none, 0, rfl, by simp, fun h => absurd rfl h⟩
    · exact ⟨_, cap, rfl, by simp, fun h => absurd rfl h⟩
  · obtain ⟨g, cap, rfl, _, hcap, _, hrow, _⟩ := own_row h hne
    refine ⟨_, cap, by rw [List.length_map], by rw [List.length_map]; exact ⟨hcap, hl⟩, fun _ => ⟨g, 0, rfl, hX g rfl, fun i hi => ?_⟩⟩
    rw [List.length_map] at hi
    obtain ⟨p0, p1, p2, p3⟩ := hrow i hi
    refine ⟨ps[i].2, ?_⟩
    rw [List.getElem_map]
    exact ⟨p0, p1, p2, p3, (hp _ (List.getElem_mem hi)).1, (hp _ (List.getElem_mem hi)).2⟩

/-- An empty seq. -/
theorem chn_nil {C : CK} {Y : Nat → Prop} {w : World} {b : Nat} (hY : Y b) (h : C.en w b) : Chn C Y w [] none (fun _ => b) :=
  ⟨(fun x hx => by cases hx), (fun i j hi hj _ => by simp at hi hj; omega), (fun _ _ => hY), (fun i x hx => by simp at hx), (fun _ => h), (fun q x e => by cases e)⟩

/-- What is left of a seq that had the cells P0 0 .. P0 k0 in the world w0. -/
structure Aft (C : CK) (Y : Nat → Prop) (w0 : World) (P0 : Nat → Nat) (k0 : Nat) (s : SS) (P : Nat → Nat) (w' : World) : Prop where
  old : ∀ j, j ≤ k0 → P j = P0 j
  new : ∀ j, k0 < j → j ≤ s.vs.length → w0.heap.size ≤ P j
  more : k0 ≤ s.vs.length
  at_ : s.i ≤ s.vs.length
  chn : Chn C Y w' s.vs s.T P
  kc : KC (fun j => ∃ i, i ≤ k0 ∧ j = P0 i) w0 w'

theorem Aft.below {C : CK} {Y : Nat → Prop} {w0 : World} {P0 : Nat → Nat} {k0 : Nat} {s : SS} {P : Nat → Nat} {w w' : World} (h : Aft C Y w0 P0 k0 s P w) (hb : Below w.heap.size w w') : Aft C Y w0 P0 k0 s P w' :=
  ⟨h.old, h.new, h.more, h.at_, h.chn.keeps hb, h.kc.trans2 (KC.of_below (B := fun _ => False) hb) (fun _ _ h => h.elim)⟩

theorem Aft.trans {C : CK} {Y : Nat → Prop} {w0 w2 w3 : World} {P0 P P' : Nat → Nat} {k0 : Nat} {s s' : SS} (h : Aft C Y w0 P0 k0 s P w2) (h' : Aft C Y w2 P s.vs.length s' P' w3) : Aft C Y w0 P0 k0 s' P' w3 := by
  have hs := h.kc.size
  have hm := h.more
  refine ⟨fun j hj => by rw [h'.old j (by omega)]; exact h.old j hj, fun j h1 h2 => ?_, by have := h'.more; omega, h'.at_, h'.chn, h.kc.trans2 h'.kc (fun j hj hh => ?_)⟩
  · by_cases hj : j ≤ s.vs.length
    · rw [h'.old j hj]; exact h.new j h1 hj
    · have := h'.new j (by omega) h2; omega
  · obtain ⟨i, hi, rfl⟩ := hh
    by_cases hik : i ≤ k0
    · exact ⟨i, hik, h.old i hik⟩
    · have := h.new i (by omega) hi; omega

/-- In which blocks items lie that were told. -/
abbrev XA (Fr : Prop) (Y : Nat → Prop) (w0 : World) (k : Nat) (P : Nat → Nat) : Nat → Prop := fun n => (Fr → w0.heap.size ≤ n) ∧ (n < w0.heap.size → Y n) ∧ ∀ j, j ≤ k → n ≠ P j

theorem Tk.aft {C : CK} {Fr : Prop} {Y bar : Nat → Prop} {w0 : World} {P0 : Nat → Nat} {k0 : Nat} {s : SS} {p : Nat} {w : World} {ps : List (VT × Value)} (h : Tk C Fr Y bar w0 P0 k0 s p w ps) (hY : ∀ n, w0.heap.size ≤ n → Y n) :
    ∃ P, Aft C Y w0 P0 k0 s P w ∧ p = P s.i ∧ (∀ g, bar g → XA Fr Y w0 s.vs.length P g) ∧ ∀ x ∈ ps, rightV 16 x.1 = true ∧ ∃ a c, x.2 = .slice a x.1.items.length c ∧ LiesX (XA Fr Y w0 s.vs.length P) 16 w x.1.items x.2 := by
  obtain ⟨P, Yc, h1, h2, h3, h4, h5, h6, h7, h8⟩ := h.ex
  refine ⟨P, ⟨h1, h2, h3, h4, h6.monoY (fun n _ hn => ?_), h.kc⟩, h5, fun g hg => ⟨fun _ => (h.barw g hg).1, fun _ => absurd (h.barw g hg).1 (by omega), fun j hj e => ?_⟩, fun x hx => ?_⟩
  · by_cases hh : n < w0.heap.size
    · exact (h7 n hn).2 hh
    · exact hY n (by omega)
  · exact (h7 _ (h6.inY j hj)).1 (e ▸ hg)
  · obtain ⟨g1, a, c, g2, g3⟩ := h8 x hx
    exact ⟨g1, a, c, g2, LiesX.mono (fun n hn => hn.2) g3⟩

/-- Take, of the program or of the document. -/
def TakePost (C : CK) (Fr : Prop) (Y : Nat → Prop) (w0 : World) (P0 : Nat → Nat) (k0 : Nat) (r : WS SS) (e : Ending) (w' : World) : Prop :=
  ∃ P, Aft C Y w0 P0 k0 r.s P w' ∧ ((r.err ≠ 0 ∧ e = .returned (.tuple #[.slice none 0 0, .int .i64 0, .int .i64 (r.err : Int)])) ∨
    (r.err = 0 ∧ ∃ a c, e = .returned (.tuple #[.slice a r.items.length c, .int .i64 (r.left : Int), .int .i64 0]) ∧ LiesX (XA Fr Y w0 r.s.vs.length P) 17 w' r.items (.slice a r.items.length c) ∧ ∀ x ∈ r.items, rightV 16 x = true))

/-- Behind the first cell. -/
def wnx {S : Type} (frc : S → Nat → FR S) (n : Nat) : FR S → WS S
  | .err e s' => ⟨[], 0, e, s'⟩
  | .emp left s' => ⟨[], left, 0, s'⟩
  | .item x left s' => pre [x] (wlk frc n s' left)

theorem wlk_succ {S : Type} (frc : S → Nat → FR S) (n : Nat) (s : S) (f : Nat) : wlk frc (n + 1) s f = wnx frc n (frc s f) := by
  rw [wlk]
  cases frc s f <;> rfl

theorem wlk_le : ∀ (n : Nat) (s : SS) (f : Nat), (wlk frcC n s f).items.length ≤ n ∧ (wlk frcC n s f).left ≤ f
  | 0, _, _ => ⟨Nat.le_refl _, Nat.le_refl _⟩
  | n + 1, s, f => by
    unfold wlk
    cases hr : frcC s f with
    | err e s' => simp
    | emp left s' => obtain ⟨_, e2⟩ := frcC_emp hr; simp [e2]
    | item x left s' =>
      have h1 := wlk_le n s' left
      have h2 : left ≤ f := by
        unfold frcC at hr
        split at hr
        · cases hr; exact Nat.le_refl _
        · split at hr
          · cases hr
          · split at hr
            · cases hr
            · cases hr; omega
      simp only [pre, List.length_append, List.length_cons, List.length_nil]
      omega

end Go.Proofs.Ytnjgolibmllhnaa

