/-
  Force of a seq's cells, the program's and the document's alike; walks over seqs.
-/
import Derived.Test.YtbhfbjbigafnpaaRCons
import Derived.Test.YtbhfbjbigafnpaaConsM
namespace Go.Proofs.Ytbhfbjbigafnpaa
open Go.RowKit Go.Shelf

/-- What is behind the known cells: nothing, or an item that a function goes on from. -/
abbrev Tl := Option (Nat × VT)

/-- How cells lie: known ones, empty ones, those of Iter. -/
structure CK where
  kn : World → Nat → VT → Value → Nat → Prop
  en : World → Nat → Prop
  lz : World → Nat → Nat → VT → VT → Value → Prop
  knl : ∀ {w b x u p}, kn w b x u p → b < w.heap.size
  enl : ∀ {w b}, en w b → b < w.heap.size
  lzl : ∀ {w b q x z u}, lz w b q x z u → b < w.heap.size
  knk : ∀ {B : Nat → Prop} {w w' b x u p}, KC B w w' → ¬ B b → kn w b x u p → kn w' b x u p
  enk : ∀ {B : Nat → Prop} {w w' b}, KC B w w' → ¬ B b → en w b → en w' b
  lzk : ∀ {B : Nat → Prop} {w w' b q x z u}, KC B w w' → ¬ B b → lz w b q x z u → lz w' b q x z u

/-- The program's cells. -/
def pCK : CK where
  kn := fun w b x u p => CB w b .nilIface 0 x u (some ⟨p, 0, none⟩)
  en := fun w b => CB w b .nilIface 0 zeroT (.slice none 0 0) none
  lz := fun w b q x z u => ∃ m, m ≤ 1 ∧ itT (doneT q) m z = x ∧ CB w b (stepV q m z u) 0 zeroT (.slice none 0 0) none
  knl := fun h => h.lt
  enl := fun h => h.lt
  lzl := fun h => by obtain ⟨_, _, _, h⟩ := h; exact h.lt
  knk := fun k n h => k.cb n h
  enk := fun k n h => k.cb n h
  lzk := fun k n h => by obtain ⟨m, h1, h2, h⟩ := h; exact ⟨m, h1, h2, k.cb n h⟩

/-- The document's cells. -/
def dCK : CK where
  kn := fun w b x u p => ∃ kd q z uz, DB w b true true x u (some ⟨p, 0, none⟩) kd q z uz
  en := fun w b => DB w b true false zeroT (.slice none 0 0) none 0 0 zeroT (.slice none 0 0)
  lz := fun w b q x z u => ∃ kd, ((kd = 1 ∧ z = x) ∨ (kd = 13 ∧ doneT q z = x)) ∧ DB w b false false zeroT (.slice none 0 0) none kd q z u
  knl := fun h => by obtain ⟨_, _, _, _, h⟩ := h; exact h.lt
  enl := fun h => h.lt
  lzl := fun h => by obtain ⟨_, _, h⟩ := h; exact h.lt
  knk := fun k n h => by obtain ⟨kd, q, z, uz, h⟩ := h; exact ⟨kd, q, z, uz, k.db n h⟩
  enk := fun k n h => k.db n h
  lzk := fun k n h => by obtain ⟨kd, h1, h⟩ := h; exact ⟨kd, h1, k.db n h⟩

/-- A seq: cells P 0 .. P n, n of them known; all in blocks that Y holds of, the items' lists in none of the cells'. -/
structure Chn (C : CK) (Y : Nat → Prop) (w : World) (vs : List VT) (T : Tl) (P : Nat → Nat) : Prop where
  rights : ∀ x ∈ vs, rightV 16 x = true
  inj : ∀ i j, i ≤ vs.length → j ≤ vs.length → P i = P j → i = j
  inY : ∀ i, i ≤ vs.length → Y (P i)
  known : ∀ i x, vs[i]? = some x → ∃ a c, C.kn w (P i) x (.slice a x.items.length c) (P (i + 1)) ∧ LiesX (fun n => Y n ∧ ∀ j, j ≤ vs.length → n ≠ P j) 16 w x.items (.slice a x.items.length c)
  ende : T = none → C.en w (P vs.length)
  lazy : ∀ q x, T = some (q, x) → q < 8 ∧ rightV 16 x = true ∧ Dp 16 x ∧ ∃ z a c, rightV 16 z = true ∧ C.lz w (P vs.length) q x z (.slice a z.items.length c) ∧ LiesX (fun n => Y n ∧ ∀ j, j ≤ vs.length → n ≠ P j) 16 w z.items (.slice a z.items.length c)

section
variable {C : CK} {Y : Nat → Prop} {w : World} {vs : List VT} {T : Tl} {P : Nat → Nat}

theorem Chn.lt (s : Chn C Y w vs T P) (i : Nat) (hi : i ≤ vs.length) : P i < w.heap.size := by
  by_cases h : i < vs.length
  · obtain ⟨a, c, hc, _⟩ := s.known i _ (List.getElem?_eq_getElem h)
    exact C.knl hc
  · obtain rfl : i = vs.length := by omega
    match T, s with
    | none, s => exact C.enl (s.ende rfl)
    | some (q, x), s =>
      obtain ⟨_, _, _, z, a, c, _, h, _⟩ := s.lazy q x rfl
      exact C.lzl h

theorem Chn.kc (s : Chn C Y w vs T P) {B : Nat → Prop} {w' : World} (hk : KC B w w') (hB : ∀ n, n < w.heap.size → Y n → ¬ B n) : Chn C Y w' vs T P := by
  have hp := fun i hi => hB (P i) (s.lt i hi) (s.inY i hi)
  refine ⟨s.rights, s.inj, s.inY, fun i x hx => ?_, fun e => C.enk hk (hp _ (Nat.le_refl _)) (s.ende e), fun q x e => ?_⟩
  · obtain ⟨a, c, hc, hl⟩ := s.known i x hx
    have hi : i < vs.length := by
      rcases Nat.lt_or_ge i vs.length with h | h
      · exact h
      · rw [List.getElem?_eq_none h] at hx; cases hx
    exact ⟨a, c, C.knk hk (hp i (by omega)) hc, LiesX.mono (fun n hn => hn.1) (hk.liesX (fun n hn => hB n hn.2 hn.1.1) hl.both)⟩
  · obtain ⟨h1, h2, h3, z, a, c, h4, h5, hl⟩ := s.lazy q x e
    exact ⟨h1, h2, h3, z, a, c, h4, C.lzk hk (hp _ (Nat.le_refl _)) h5, LiesX.mono (fun n hn => hn.1) (hk.liesX (fun n hn => hB n hn.2 hn.1.1) hl.both)⟩

theorem Chn.keeps (s : Chn C Y w vs T P) {w' : World} (hb : Below w.heap.size w w') : Chn C Y w' vs T P :=
  s.kc (B := fun _ => False) (KC.of_below hb) (fun _ _ _ h => h)

theorem Chn.monoY (s : Chn C Y w vs T P) {Z : Nat → Prop} (h : ∀ n, n < w.heap.size → Y n → Z n) : Chn C Z w vs T P := by
  refine ⟨s.rights, s.inj, fun i hi => h _ (s.lt i hi) (s.inY i hi), fun i x hx => ?_, s.ende, fun q x e => ?_⟩
  · obtain ⟨a, c, hc, hl⟩ := s.known i x hx
    exact ⟨a, c, hc, LiesX.mono (fun n hn => ⟨h n hn.2 hn.1.1, hn.1.2⟩) hl.both⟩
  · obtain ⟨h1, h2, h3, z, a, c, h4, h5, hl⟩ := s.lazy q x e
    exact ⟨h1, h2, h3, z, a, c, h4, h5, LiesX.mono (fun n hn => ⟨h n hn.2 hn.1.1, hn.1.2⟩) hl.both⟩

/-- What is behind the first of them. -/
theorem Chn.drop (s : Chn C Y w vs T P) (k : Nat) (hk : k ≤ vs.length) : Chn C Y w (vs.drop k) T (fun i => P (k + i)) := by
  have hlen : (vs.drop k).length = vs.length - k := List.length_drop ..
  refine ⟨fun x hx => s.rights x (List.mem_of_mem_drop hx), fun i j hi hj e => ?_, fun i hi => s.inY _ (by omega), fun i x hx => ?_, fun e => ?_, fun q x e => ?_⟩
  · have := s.inj (k + i) (k + j) (by omega) (by omega) e; omega
  · rw [List.getElem?_drop] at hx
    obtain ⟨a, c, hc, hl⟩ := s.known (k + i) x hx
    exact ⟨a, c, hc, LiesX.mono (fun n hn => ⟨hn.1, fun j hj => hn.2 (k + j) (by omega)⟩) hl⟩
  · have := s.ende e
    rw [hlen, show k + (vs.length - k) = vs.length by omega]; exact this
  · obtain ⟨h1, h2, h3, z, a, c, h4, h5, hl⟩ := s.lazy q x e
    exact ⟨h1, h2, h3, z, a, c, h4, by rw [hlen, show k + (vs.length - k) = vs.length by omega]; exact h5, LiesX.mono (fun n hn => ⟨hn.1, fun j hj => hn.2 (k + j) (by omega)⟩) hl⟩

/-- One more ahead. -/
theorem Chn.cons (s : Chn C Y w vs T P) (hY : ∀ n, w.heap.size ≤ n → Y n) {w' : World} (hb : Below w.heap.size w w') {d : Nat} (hd : w.heap.size ≤ d) {x : VT} (hr : rightV 16 x = true) {a : Option Addr} {c : Nat} (hc : C.kn w' d x (.slice a x.items.length c) (P 0)) (hl : LiesX (fun n => (Y n ∧ n ≠ d) ∧ ∀ j, j ≤ vs.length → n ≠ P j) 16 w' x.items (.slice a x.items.length c)) :
    Chn C Y w' (x :: vs) T (fun i => if i = 0 then d else P (i - 1)) := by
  have hlt := s.lt
  have s' := s.keeps hb
  refine ⟨fun y hy => ?_, fun i j hi hj e => ?_, fun i hi => ?_, fun i y hy => ?_, fun e => ?_, fun q y e => ?_⟩
  · rcases List.mem_cons.1 hy with rfl | hy
    · exact hr
    · exact s.rights y hy
  · simp only [List.length_cons] at hi hj
    by_cases e1 : i = 0
    · by_cases e2 : j = 0
      · omega
      · simp only [if_pos e1, if_neg e2] at e; have := hlt (j - 1) (by omega); omega
    · by_cases e2 : j = 0
      · simp only [if_neg e1, if_pos e2] at e; have := hlt (i - 1) (by omega); omega
      · simp only [if_neg e1, if_neg e2] at e; have := s.inj (i - 1) (j - 1) (by omega) (by omega) e; omega
  · simp only [List.length_cons] at hi
    by_cases e1 : i = 0
    · simp only [if_pos e1]; exact hY _ hd
    · simp only [if_neg e1]; exact s.inY _ (by omega)
  · cases i with
    | zero =>
      obtain rfl : x = y := by simpa using hy
      refine ⟨a, c, by simpa using hc, LiesX.mono (fun n hn => ⟨hn.1.1, fun j hj => ?_⟩) hl⟩
      by_cases e1 : j = 0
      · simp only [if_pos e1]; exact hn.1.2
      · simp only [if_neg e1]; exact hn.2 _ (by simp only [List.length_cons] at hj; omega)
    | succ i =>
      obtain ⟨a1, c1, hc1, hl1⟩ := s.known i y (by simpa using hy)
      refine ⟨a1, c1, ?_, ?_⟩
      · have h9 : C.kn w' (P i) y (.slice a1 y.items.length c1) (P (i + 1)) := C.knk (B := fun _ => False) (KC.of_below hb) (fun h => h) hc1
        have n1 : ¬ i + 1 = 0 := by omega
        have n2 : ¬ i + 1 + 1 = 0 := by omega
        simp only [if_neg n1, if_neg n2, Nat.add_sub_cancel]
        exact h9
      · refine LiesX.mono (fun n hn => ⟨hn.1.1, fun j hj => ?_⟩) (hl1.both.keeps hb)
        by_cases e1 : j = 0
        · simp only [if_pos e1]; omega
        · simp only [if_neg e1]; exact hn.1.2 _ (by simp only [List.length_cons] at hj; omega)
  · simp only [List.length_cons, Nat.add_sub_cancel]
    exact s'.ende e
  · obtain ⟨h1, h2, h3, z, a1, c1, h4, h5, hl1⟩ := s.lazy q y e
    refine ⟨h1, h2, h3, z, a1, c1, h4, ?_, ?_⟩
    · simp only [List.length_cons, Nat.add_sub_cancel]
      exact C.lzk (B := fun _ => False) (KC.of_below hb) (fun h => h) h5
    · refine LiesX.mono (fun n hn => ⟨hn.1.1, fun j hj => ?_⟩) (hl1.both.keeps hb)
      by_cases e1 : j = 0
      · simp only [if_pos e1]; omega
      · simp only [if_neg e1]; exact hn.1.2 _ (by simp only [List.length_cons] at hj; omega)

end

theorem doneT_right (q : Nat) {x : VT} (h : rightV 16 x = true) (hd : Dp 16 x) : rightV 16 (doneT q x) = true ∧ Dp 16 (doneT q x) := it_right q h hd 1

/-- The cell of Iter is forced: one more is known. -/
theorem Chn.force {C : CK} {Y : Nat → Prop} {w w' : World} {vs : List VT} {q : Nat} {x : VT} {P : Nat → Nat} (s : Chn C Y w vs (some (q, x)) P) (hY : ∀ n, w.heap.size ≤ n → Y n) {b' : Nat} {a1 a2 : Option Addr} {c1 c2 : Nat} (hk : KC (fun j => j = P vs.length) w w') (hb' : w.heap.size ≤ b') (hc : C.kn w' (P vs.length) x (.slice a1 x.items.length c1) b') (hc' : C.lz w' b' q (doneT q x) x (.slice a2 x.items.length c2))
    (h1 : LiesX (fun n => ((Y n ∧ ∀ j, j ≤ vs.length → n ≠ P j) ∧ n < w.heap.size) ∨ (w.heap.size ≤ n ∧ n ≠ b')) 16 w' x.items (.slice a1 x.items.length c1)) (h2 : LiesX (fun n => ((Y n ∧ ∀ j, j ≤ vs.length → n ≠ P j) ∧ n < w.heap.size) ∨ (w.heap.size ≤ n ∧ n ≠ b')) 16 w' x.items (.slice a2 x.items.length c2)) :
    Chn C Y w' (vs ++ [x]) (some (q, doneT q x)) (fun i => if i = vs.length + 1 then b' else P i) := by
  have hlt := s.lt
  have hlen : (vs ++ [x]).length = vs.length + 1 := by simp
  obtain ⟨g1, g2, g3, _⟩ := s.lazy q x rfl
  have hO : ∀ n, (Y n ∧ ∀ j, j ≤ vs.length → n ≠ P j) ∧ n < w.heap.size → Y n ∧ ∀ j, j ≤ (vs ++ [x]).length → n ≠ (if j = vs.length + 1 then b' else P j) := fun n hn => by
    refine ⟨hn.1.1, fun j hj => ?_⟩
    by_cases e : j = vs.length + 1
    · rw [if_pos e]; omega
    · rw [if_neg e]; exact hn.1.2 j (by omega)
  have hX : ∀ n, (((Y n ∧ ∀ j, j ≤ vs.length → n ≠ P j) ∧ n < w.heap.size) ∨ (w.heap.size ≤ n ∧ n ≠ b')) → Y n ∧ ∀ j, j ≤ (vs ++ [x]).length → n ≠ (if j = vs.length + 1 then b' else P j) := fun n hn => by
    rcases hn with hn | hn
    · exact hO n hn
    · refine ⟨hY n hn.1, fun j hj => ?_⟩
      by_cases e : j = vs.length + 1
      · rw [if_pos e]; exact hn.2
      · rw [if_neg e]; have := hlt j (by omega); omega
  refine ⟨fun y hy => ?_, fun i j hi hj e => ?_, fun i hi => ?_, fun i y hy => ?_, (fun e => by cases e), fun q' y e => ?_⟩
  · rcases List.mem_append.1 hy with hy | hy
    · exact s.rights y hy
    · rw [List.mem_singleton.1 hy]; exact g2
  · by_cases e1 : i = vs.length + 1
    · by_cases e2 : j = vs.length + 1
      · omega
      · simp only [if_pos e1, if_neg e2] at e; have := hlt j (by omega); omega
    · by_cases e2 : j = vs.length + 1
      · simp only [if_neg e1, if_pos e2] at e; have := hlt i (by omega); omega
      · simp only [if_neg e1, if_neg e2] at e; exact s.inj i j (by omega) (by omega) e
  · by_cases e1 : i = vs.length + 1
    · simp only [if_pos e1]; exact hY _ hb'
    · simp only [if_neg e1]; exact s.inY i (by omega)
  · have hi : i < (vs ++ [x]).length := by
      rcases Nat.lt_or_ge i (vs ++ [x]).length with h | h
      · exact h
      · rw [List.getElem?_eq_none h] at hy; cases hy
    by_cases e1 : i = vs.length
    · subst e1
      obtain rfl : x = y := by simpa using hy
      have n1 : ¬ vs.length = vs.length + 1 := by omega
      simp only [if_neg n1, if_true]
      exact ⟨a1, c1, hc, LiesX.mono hX h1⟩
    · have n1 : ¬ i = vs.length + 1 := by omega
      have n2 : ¬ i + 1 = vs.length + 1 := by omega
      simp only [if_neg n1, if_neg n2]
      rw [List.getElem?_append_left (by omega)] at hy
      obtain ⟨a, c, hc0, hl⟩ := s.known i y hy
      exact ⟨a, c, C.knk hk (fun e => e1 (s.inj i vs.length (by omega) (by omega) e)) hc0, LiesX.mono hO (hk.liesX (fun n hn => hn.1.2 vs.length (by omega)) hl.both)⟩
  · obtain ⟨rfl, rfl⟩ : q = q' ∧ doneT q x = y := by simpa using e
    obtain ⟨r1, r2⟩ := doneT_right q g2 g3
    refine ⟨g1, r1, r2, x, a2, c2, g2, ?_, LiesX.mono hX h2⟩
    rw [hlen]
    simp only [if_true]
    exact hc'

end Go.Proofs.Ytbhfbjbigafnpaa

namespace Go.Proofs.Ytbhfbjbigafnpaa
open Go.RowKit Go.Shelf

/-- What is told of a cell that is forced: an error, that it is empty, an item; and what is then. -/
inductive FR (S : Type) where
  | err (e : Nat) (s : S)
  | emp (left : Nat) (s : S)
  | item (x : VT) (left : Nat) (s : S)

/-- A seq, and a place in it. -/
structure SS where
  vs : List VT
  T : Tl
  i : Nat

def frcC (s : SS) (f : Nat) : FR SS :=
  match s.vs[s.i]? with
  | some x => .item x f ⟨s.vs, s.T, s.i + 1⟩
  | none => match s.T with
    | none => .emp f s
    | some (q, x) => match f with
      | 0 => .err 220 s
      | f + 1 => .item x f ⟨s.vs ++ [x], some (q, doneT q x), s.i + 1⟩

abbrev itemR (x : VT) (u : Value) (p : Option Addr) (ok : Bool) (left e : Int) : Ending := .returned (.tuple #[.agg #[.int .i64 x.kind, .int .i64 x.num, .string x.text, u], .pointer p, .bool ok, .int .i64 left, .int .i64 e])

abbrev noneR (a : Option Addr) (c : Nat) (left e : Int) : Ending := .returned (.tuple #[.agg #[.int .i64 0, .int .i64 0, .string ⟨#[]⟩, .slice a 0 c], .pointer none, .bool false, .int .i64 left, .int .i64 e])

/-- Behind Force of the cell in a place. -/
def FcP (C : CK) (Fr : Prop) (Y : Nat → Prop) (s : SS) (P : Nat → Nat) (r : FR SS) (w : World) (e : Ending) (w' : World) : Prop :=
  match r with
  | .err e0 _ => (∃ a c, e = noneR a c 0 e0) ∧ Below w.heap.size w w'
  | .emp left _ => (∃ a c, e = noneR a c left 0) ∧ Below w.heap.size w w'
  | .item x left s' => ∃ P' a c, (∀ j, j ≤ s.vs.length → P' j = P j) ∧ (∀ j, s.vs.length < j → j ≤ s'.vs.length → w.heap.size ≤ P' j) ∧ s.vs.length ≤ s'.vs.length ∧ Chn C Y w' s'.vs s'.T P' ∧ KC (fun n => ∃ j, j ≤ s.vs.length ∧ n = P j) w w' ∧ e = itemR x (.slice a x.items.length c) (some ⟨P' (s.i + 1), 0, none⟩) true left 0 ∧ rightV 16 x = true ∧ LiesX (fun n => Y n ∧ (Fr → w.heap.size ≤ n) ∧ ∀ j, j ≤ s'.vs.length → n ≠ P' j) 16 w' x.items (.slice a x.items.length c)

theorem list_lt {α : Type} {l : List α} {i : Nat} {x : α} (h : l[i]? = some x) : i < l.length := by
  rcases Nat.lt_or_ge i l.length with h2 | h2
  · exact h2
  · rw [List.getElem?_eq_none h2] at h; cases h

/-- The program's Force. -/
theorem pForce (Y : Nat → Prop) (s : SS) (P : Nat → Nat) (f : Nat) (hf : f ≤ 1073741824) (w : World) (h : Chn pCK Y w s.vs s.T P) (hi : s.i ≤ s.vs.length) (hY : ∀ n, w.heap.size ≤ n → Y n) :
    Calls Try.prog 39 #[.pointer (some ⟨P s.i, 0, none⟩), .int .i64 (f : Int)] w (FcP pCK True Y s P (frcC s f) w) := by
  obtain ⟨vs, T, i⟩ := s
  simp only at h hi
  unfold frcC
  simp only
  cases hx : vs[i]? with
  | some x =>
    have hil := list_lt hx
    obtain ⟨a, c, hc, hl⟩ := h.known i x hx
    refine Calls.mono (Force_known (P i) f hf x a c _ w hc hl.lies (h.rights x (List.mem_of_getElem? hx))) ?_
    rintro e w' ⟨a1, c1, rfl, hb, hl1⟩
    refine ⟨P, a1, c1, fun _ _ => rfl, fun j h1 h2 => absurd h1 (by simp only at h2 ⊢; omega), Nat.le_refl _, h.keeps hb, KC.of_below hb, rfl, h.rights x (List.mem_of_getElem? hx), LiesX.mono (fun n hn => ⟨hY n hn, fun _ => hn, fun j hj => ?_⟩) hl1⟩
    have := h.lt j hj; omega
  | none =>
    have hil : i = vs.length := by
      have := List.getElem?_eq_none_iff.1 hx
      omega
    subst hil
    match T, h with
    | none, h =>
      refine Calls.mono (Force_empty (P vs.length) f hf w (h.ende rfl)) ?_
      rintro e w' ⟨a, c, rfl, hb⟩
      exact ⟨⟨a, c, rfl⟩, hb⟩
    | some (q, x), h =>
      obtain ⟨g1, g2, g3, z, a, c, hz, hc, hl⟩ := h.lazy q x rfl
      obtain ⟨m, hm, hmz, hcb⟩ := hc
      cases f with
      | zero =>
        refine Calls.mono (Force_dry (P vs.length) _ _ w hcb.c0) ?_
        rintro e w' ⟨a, c, rfl, hb⟩
        exact ⟨⟨a, c, rfl⟩, hb⟩
      | succ f =>
        have h9 := Force_lazy q m f (P vs.length) g1 (by omega) (by omega) z a c w hcb (LiesX.mono (fun n hn => hn.2 _ (Nat.le_refl _)) hl) hz
        rw [hmz] at h9
        refine Calls.mono h9 ?_
        rintro e w' ⟨a3, c3, b', a1, c1, a2, c2, rfl, hk, hb', hc1, hc2, hl1, hl2, hl3⟩
        have s' := h.force hY hk hb' hc1 ⟨1, by omega, rfl, hc2⟩ (LiesX.mono (fun n hn => .inr hn) hl1) (LiesX.mono (fun n hn => .inr hn) hl2)
        have hlen : (vs ++ [x]).length = vs.length + 1 := by simp
        refine ⟨_, a3, c3, fun j hj => ?_, fun j h1 h2 => ?_, by simp only [hlen]; omega, s', hk.mono (fun j _ e => ⟨_, Nat.le_refl _, e⟩), ?_, g2, LiesX.mono (fun n hn => ⟨hY n hn.1, fun _ => hn.1, fun j hj => ?_⟩) hl3⟩
        · have : ¬ j = vs.length + 1 := by simp only at hj; omega
          simp only [if_neg this]
        · have : j = vs.length + 1 := by simp only [hlen] at h1 h2; omega
          simp only [if_pos this]; exact hb'
        · simp only [if_true]
        · by_cases e : j = vs.length + 1
          · simp only [if_pos e]; exact hn.2
          · simp only [if_neg e]; have := h.lt j (by simp only [hlen] at hj; omega); omega

/-- The document's Force. -/
theorem dForce (Y : Nat → Prop) (s : SS) (P : Nat → Nat) (f : Nat) (hf : f ≤ 1073741824) (w : World) (h : Chn dCK Y w s.vs s.T P) (hi : s.i ≤ s.vs.length) (hY : ∀ n, w.heap.size ≤ n → Y n) :
    Calls Try.prog 27 #[.pointer (some ⟨P s.i, 0, none⟩), .int .i64 (f : Int)] w (FcP dCK False Y s P (frcC s f) w) := by
  obtain ⟨vs, T, i⟩ := s
  simp only at h hi
  unfold frcC
  simp only
  cases hx : vs[i]? with
  | some x =>
    have hil := list_lt hx
    obtain ⟨a, c, ⟨kd, q, z, uz, hc⟩, hl⟩ := h.known i x hx
    refine Calls.mono (rForce_known (P i) f q kd hf x z uz a c _ w hc) ?_
    rintro e w' ⟨rfl, hb⟩
    exact ⟨P, a, c, fun _ _ => rfl, fun j h1 h2 => absurd h1 (by simp only at h2 ⊢; omega), Nat.le_refl _, h.keeps hb, KC.of_below hb, rfl, h.rights x (List.mem_of_getElem? hx), LiesX.mono (fun n hn => ⟨hn.1, False.elim, hn.2⟩) (hl.keeps hb)⟩
  | none =>
    have hil : i = vs.length := by
      have := List.getElem?_eq_none_iff.1 hx
      omega
    subst hil
    match T, h with
    | none, h =>
      refine Calls.mono (rForce_empty (P vs.length) f hf w (h.ende rfl)) ?_
      rintro e w' ⟨a, c, rfl, hb⟩
      exact ⟨⟨a, c, rfl⟩, hb⟩
    | some (q, x), h =>
      obtain ⟨g1, g2, g3, z, a, c, hz, ⟨kd, hkd, hdb⟩, hl⟩ := h.lazy q x rfl
      cases f with
      | zero =>
        refine Calls.mono (rForce_d (P vs.length) q kd z _ w hdb) ?_
        rintro e w' ⟨a, c, rfl, hb⟩
        exact ⟨⟨a, c, rfl⟩, hb⟩
      | succ f =>
        have hzb := zbox_below w
        have hzs := zbox_size w
        have hbl := hdb.lt
        have hbn : P vs.length ≠ w.heap.size := by omega
        have h1 := rforce_lazy (fun n => (Y n ∧ ∀ j, j ≤ vs.length → n ≠ P j) ∧ n < w.heap.size) q f (P vs.length) (by omega) kd x z _ (fun e => e.1.2 _ (Nat.le_refl _) rfl) (zbox w) (fun n hn => by omega) (hdb.keeps hzb) (fun V hV => by
          rcases hkd with ⟨rfl, rfl⟩ | ⟨rfl, rfl⟩
          · exact rstep1 _ q (P vs.length) f _ a c V ((hdb.keeps hzb).keeps hV) ((hl.both.keeps hzb).keeps hV)
          · exact rstep13 _ q (P vs.length) g1 f z a c V ((hdb.keeps hzb).keeps hV) ((hl.both.keeps hzb).keeps hV) hz)
        have h2 := rForce_of (P vs.length) (f + 1) hf (fun x1 a1 c1 p t l E w2 => x1 = x ∧ t = true ∧ l = (f : Int) ∧ E = 0 ∧ ∃ b', p = some ⟨b', 0, none⟩ ∧ KC (fun j => j = P vs.length) (zbox w) w2 ∧ (zbox w).heap.size ≤ b' ∧ DB w2 (P vs.length) true true x (.slice a1 x.items.length c1) (some ⟨b', 0, none⟩) kd q z (.slice a z.items.length c) ∧ DB w2 b' false false zeroT (.slice none 0 0) none 13 q x (.slice a1 x.items.length c1) ∧ LiesX (fun n => (((Y n ∧ ∀ j, j ≤ vs.length → n ≠ P j) ∧ n < w.heap.size) ∧ n < (zbox w).heap.size) ∨ ((zbox w).heap.size ≤ n ∧ n ≠ b')) 16 w2 x.items (.slice a1 x.items.length c1)) w (Calls.mono h1 fun e w2 hp => by
          obtain ⟨hk, a1, c1, b', he, hb', hd, hd', hx⟩ := hp
          exact ⟨x, a1, c1, some ⟨b', 0, none⟩, true, f, 0, he, ⟨rfl, rfl, rfl, rfl, b', rfl, hk, hb', hd, hd', hx⟩, hk.bx (fun e => hbn e.symm) (zbox_bx w)⟩)
        refine Calls.mono h2 ?_
        rintro e w' ⟨x1, a1, c1, p, t, l, E, rfl, w2, ⟨rfl, rfl, rfl, rfl, b', rfl, hk, hb', hd, hd', hx⟩, hk2⟩
        have hs2 := hk.size
        have hbb := hd'.lt
        have hkk : KC (fun j => j = P vs.length) w w' := ((KC.of_below hzb).trans2 hk (fun _ _ h => h)).trans2 hk2 (fun j hj h => by omega)
        have hlx : LiesX (fun n => ((Y n ∧ ∀ j, j ≤ vs.length → n ≠ P j) ∧ n < w.heap.size) ∨ (w.heap.size ≤ n ∧ n ≠ b')) 16 w' x1.items (.slice a1 x1.items.length c1) := by
          refine LiesX.mono (fun n hn => ?_) (hk2.liesX (fun n hn => ?_) hx)
          · rcases hn with h | h
            · exact .inl h.1
            · exact .inr ⟨by omega, h.2⟩
          · rcases hn with h | h
            · have := h.1.2; omega
            · omega
        have s' := h.force hY hkk (by omega) ⟨kd, q, z, _, hk2.db hbn hd⟩ ⟨13, .inr ⟨rfl, rfl⟩, hk2.db (by omega) hd'⟩ hlx hlx
        have hlen : (vs ++ [x1]).length = vs.length + 1 := by simp
        refine ⟨_, a1, c1, fun j hj => ?_, fun j h1 h2 => ?_, by simp only [hlen]; omega, s', hkk.mono (fun j _ e => ⟨_, Nat.le_refl _, e⟩), ?_, g2, LiesX.mono (fun n hn => ⟨?_, False.elim, fun j hj => ?_⟩) hlx⟩
        · have : ¬ j = vs.length + 1 := by simp only at hj; omega
          simp only [if_neg this]
        · have : j = vs.length + 1 := by simp only [hlen] at h1 h2; omega
          simp only [if_pos this]; omega
        · simp only [if_true]
        · rcases hn with h | h
          · exact h.1.1
          · exact hY n h.1
        · by_cases e : j = vs.length + 1
          · simp only [if_pos e]
            rcases hn with h | h
            · omega
            · exact h.2
          · simp only [if_neg e]
            rcases hn with h' | h'
            · exact h'.1.2 j (by simp only [hlen] at hj; omega)
            · have := h.lt j (by simp only [hlen] at hj; omega); omega

end Go.Proofs.Ytbhfbjbigafnpaa

