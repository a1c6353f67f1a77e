/-
  The program's seq and the document's beside each other.
-/
import Derived.Test.YtnjgolibmllhnaaGreatSameM
import Derived.Test.YtnjgolibmllhnaaGreatVals
import Derived.Test.YtnjgolibmllhnaaGreatEq
namespace Go.Proofs.YtnjgolibmllhnaaGreat
open Go.RowKit Go.Shelf

/-- Both seqs, of one content; their cells are newer than the world w0. -/
def St23 (w0 : World) (c d : Nat) (vs : List VT) (T : Tl) (w : World) : Prop :=
  Below w0.heap.size w0 w ∧ ∃ (YP YD : Nat → Prop) (P Q : Nat → Nat), P 0 = c ∧ Q 0 = d ∧ Chn pCK YP w vs T P ∧ Chn dCK YD w vs T Q ∧ (∀ n, YP n → YD n → False) ∧ (∀ j, j ≤ vs.length → w0.heap.size ≤ P j) ∧ (∀ j, j ≤ vs.length → w0.heap.size ≤ Q j)

theorem St23.keeps {w0 : World} {c d : Nat} {vs : List VT} {T : Tl} {w V : World} (s : St23 w0 c d vs T w) (hV : Below w.heap.size w V) : St23 w0 c d vs T V := by
  obtain ⟨hb, YP, YD, P, Q, h1, h2, h3, h4, h5, h6, h7⟩ := s
  exact ⟨hb.trans (hV.mono hb.size), YP, YD, P, Q, h1, h2, h3.keeps hV, h4.keeps hV, h5, h6, h7⟩

/-- Behind the program's call: only the document's seq is as it was. -/
structure Mid23 (w0 : World) (c d : Nat) (vs : List VT) (T : Tl) (vs' : List VT) (T' : Tl) (X : Nat → Prop) (w : World) : Prop where
  below : Below w0.heap.size w0 w
  ex : ∃ (YP YD : Nat → Prop) (P Q : Nat → Nat), P 0 = c ∧ Q 0 = d ∧ Chn pCK YP w vs' T' P ∧ Chn dCK YD w vs T Q ∧ (∀ n, YP n → YD n → False) ∧ (∀ j, j ≤ vs'.length → w0.heap.size ≤ P j) ∧ (∀ j, j ≤ vs.length → w0.heap.size ≤ Q j) ∧ (∀ n, X n → ∀ j, j ≤ vs.length → n ≠ Q j)

/-- The program's call. -/
theorem St23.prog {w0 : World} {c d : Nat} {vs : List VT} {T : Tl} {w V : World} (s : St23 w0 c d vs T w) (hV : Below w.heap.size w V) : ∃ (Y : Nat → Prop) (P : Nat → Nat), P 0 = c ∧ Chn pCK Y V vs T P ∧ (∀ n, V.heap.size ≤ n → Y n) ∧ (∀ j, j ≤ vs.length → P j < w.heap.size) ∧ ∀ (r : SS) (P' : Nat → Nat) (w' : World), Aft pCK Y V P vs.length r P' w' → Mid23 w0 c d vs T r.vs r.T (fun n => w.heap.size ≤ n) w' := by
  obtain ⟨hb0, YP, YD, P, Q, h1, h2, h30, h40, h5, h6, h7⟩ := s
  have hb := hb0.trans (hV.mono hb0.size)
  have h3 := h30.keeps hV
  have h4 := h40.keeps hV
  refine ⟨fun n => (YP n ∧ n < V.heap.size) ∨ V.heap.size ≤ n, P, h1, h3.monoY (fun n hn hy => .inl ⟨hy, hn⟩), fun n hn => .inr hn, fun j hj => h30.lt j hj, fun r P' w' hA => ⟨?_, fun n => (YP n ∧ n < V.heap.size) ∨ V.heap.size ≤ n, fun n => YD n ∧ n < V.heap.size, P', Q, ?_, h2, hA.chn, ?_, ?_, fun j hj => ?_, h7, fun n hn j hj => ?_⟩⟩
  · exact hb.trans (hA.kc.below (fun j hj hh => by obtain ⟨i, hi, rfl⟩ := hh; have := h6 i hi; omega) hb.size)
  · rw [hA.old 0 (by omega)]; exact h1
  · exact (h4.monoY (fun n hn hy => ⟨hy, hn⟩)).kc hA.kc (fun n _ hn hh => by obtain ⟨i, hi, rfl⟩ := hh; exact h5 _ (h3.inY i hi) hn.1)
  · rintro n (hn | hn) hd
    · exact h5 n hn.1 hd.1
    · have := hd.2; omega
  · by_cases hjl : j ≤ vs.length
    · rw [hA.old j hjl]; exact h6 j hjl
    · exact Nat.le_trans hb.size (hA.new j (by omega) hj)
  · have := h40.lt j hj; omega

/-- Nothing was done. -/
theorem St23.mid {w0 : World} {c d : Nat} {vs : List VT} {T : Tl} {w w' : World} (s : St23 w0 c d vs T w) (hb' : Below w.heap.size w w') : Mid23 w0 c d vs T vs T (fun n => w.heap.size ≤ n) w' := by
  obtain ⟨hb, YP, YD, P, Q, h1, h2, h3, h4, h5, h6, h7⟩ := s
  refine ⟨hb.trans (hb'.mono hb.size), YP, YD, P, Q, h1, h2, h3.keeps hb', h4.keeps hb', h5, h6, h7, fun n hn j hj => ?_⟩
  have := h4.lt j hj; omega

theorem Mid23.keeps {w0 : World} {c d : Nat} {vs : List VT} {T : Tl} {vs' : List VT} {T' : Tl} {X : Nat → Prop} {w V : World} (s : Mid23 w0 c d vs T vs' T' X w) (hV : Below w.heap.size w V) : Mid23 w0 c d vs T vs' T' X V := by
  obtain ⟨YP, YD, P, Q, h1, h2, h3, h4, h5, h6, h7, h8⟩ := s.ex
  exact ⟨s.below.trans (hV.mono s.below.size), YP, YD, P, Q, h1, h2, h3.keeps hV, h4.keeps hV, h5, h6, h7, h8⟩

/-- The document's call. -/
theorem Mid23.doc {w0 : World} {c d : Nat} {vs : List VT} {T : Tl} {vs' : List VT} {T' : Tl} {X : Nat → Prop} {w : World} (s : Mid23 w0 c d vs T vs' T' X w) : ∃ (Y : Nat → Prop) (Q : Nat → Nat), Q 0 = d ∧ Chn dCK Y w vs T Q ∧ (∀ n, w.heap.size ≤ n → Y n) ∧ (∀ n, X n → ∀ j, j ≤ vs.length → n ≠ Q j) ∧ ∀ (r : SS) (Q' : Nat → Nat) (w' : World), Aft dCK Y w Q vs.length r Q' w' → r.vs = vs' → r.T = T' → St23 w0 c d vs' T' w' := by
  obtain ⟨YP, YD, P, Q, h1, h2, h3, h4, h5, h6, h7, h8⟩ := s.ex
  refine ⟨fun n => (YD n ∧ n < w.heap.size) ∨ w.heap.size ≤ n, Q, h2, h4.monoY (fun n hn hy => .inl ⟨hy, hn⟩), fun n hn => .inr hn, h8, fun r Q' w' hA e1 e2 => ⟨?_, fun n => YP n ∧ n < w.heap.size, fun n => (YD n ∧ n < w.heap.size) ∨ w.heap.size ≤ n, P, Q', h1, ?_, ?_, ?_, ?_, h6, fun j hj => ?_⟩⟩
  · exact s.below.trans (hA.kc.below (fun j hj hh => by obtain ⟨i, hi, rfl⟩ := hh; have := h7 i hi; omega) s.below.size)
  · rw [hA.old 0 (by omega)]; exact h2
  · exact (h3.monoY (fun n hn hy => ⟨hy, hn⟩)).kc hA.kc (fun n _ hn hh => by obtain ⟨i, hi, rfl⟩ := hh; exact h5 _ hn.1 (h4.inY i hi))
  · rw [← e1, ← e2]; exact hA.chn
  · rintro n hn (hd | hd)
    · exact h5 n hn.1 hd.1
    · have := hn.2; omega
  · by_cases hjl : j ≤ vs.length
    · rw [hA.old j hjl]; exact h7 j hjl
    · exact Nat.le_trans s.below.size (hA.new j (by omega) (by rw [e1]; exact hj))

/-- The program's call that leaves another seq: what is behind. -/
theorem St23.prog2 {w0 : World} {c d : Nat} {vs : List VT} {T : Tl} {w V : World} (s : St23 w0 c d vs T w) (hV : Below w.heap.size w V) : ∃ (Y : Nat → Prop) (P : Nat → Nat), P 0 = c ∧ Chn pCK Y V vs T P ∧ (∀ n, V.heap.size ≤ n → Y n) ∧ (∀ j, j ≤ vs.length → P j < w.heap.size) ∧ ∀ (r : SS) (P' : Nat → Nat) (w' : World), Aft pCK Y V P vs.length r P' w' → (Mid23 w0 c d vs T r.vs r.T (fun n => w.heap.size ≤ n) w' ∧ ∀ (vs2 : List VT) (T2 : Tl) (P2 : Nat → Nat), Chn pCK Y w' vs2 T2 P2 → (∀ j, j ≤ vs2.length → (∃ i, i ≤ r.vs.length ∧ P2 j = P' i) ∨ V.heap.size ≤ P2 j) → Mid23 w0 (P2 0) d vs T vs2 T2 (fun n => w.heap.size ≤ n) w') := by
  obtain ⟨hb0, YP, YD, P, Q, h1, h2, h30, h40, h5, h6, h7⟩ := s
  have hb := hb0.trans (hV.mono hb0.size)
  have h3 := h30.keeps hV
  have h4 := h40.keeps hV
  have key : ∀ (r : SS) (P' : Nat → Nat) (w' : World), Aft pCK (fun n => (YP n ∧ n < V.heap.size) ∨ V.heap.size ≤ n) V P vs.length r P' w' → ∀ (vs2 : List VT) (T2 : Tl) (P2 : Nat → Nat), Chn pCK (fun n => (YP n ∧ n < V.heap.size) ∨ V.heap.size ≤ n) w' vs2 T2 P2 → (∀ j, j ≤ vs2.length → (∃ i, i ≤ r.vs.length ∧ P2 j = P' i) ∨ V.heap.size ≤ P2 j) → Mid23 w0 (P2 0) d vs T vs2 T2 (fun n => w.heap.size ≤ n) w' := fun r P' w' hA vs2 T2 P2 hC hj2 => by
    refine ⟨?_, fun n => (YP n ∧ n < V.heap.size) ∨ V.heap.size ≤ n, fun n => YD n ∧ n < V.heap.size, P2, Q, rfl, h2, hC, ?_, ?_, fun j hj => ?_, h7, fun n hn j hj => ?_⟩
    · exact hb.trans (hA.kc.below (fun j hj hh => by obtain ⟨i, hi, rfl⟩ := hh; have := h6 i hi; omega) hb.size)
    · exact (h4.monoY (fun n hn hy => ⟨hy, hn⟩)).kc hA.kc (fun n _ hn hh => by obtain ⟨i, hi, rfl⟩ := hh; exact h5 _ (h3.inY i hi) hn.1)
    · rintro n (hn | hn) hd
      · exact h5 n hn.1 hd.1
      · have := hd.2; omega
    · rcases hj2 j hj with ⟨i, hi, e⟩ | h
      · rw [e]
        by_cases hil : i ≤ vs.length
        · rw [hA.old i hil]; exact h6 i hil
        · exact Nat.le_trans hb.size (hA.new i (by omega) hi)
      · exact Nat.le_trans hb.size h
    · have := h40.lt j hj; omega
  refine ⟨fun n => (YP n ∧ n < V.heap.size) ∨ V.heap.size ≤ n, P, h1, h3.monoY (fun n hn hy => .inl ⟨hy, hn⟩), fun n hn => .inr hn, fun j hj => h30.lt j hj, fun r P' w' hA => ⟨?_, key r P' w' hA⟩⟩
  have h9 := key r P' w' hA r.vs r.T P' hA.chn (fun j hj => .inl ⟨j, hj, rfl⟩)
  rw [hA.old 0 (by omega), h1] at h9
  exact h9

/-- The document's call that leaves another seq. -/
theorem Mid23.doc2 {w0 : World} {c d : Nat} {vs : List VT} {T : Tl} {vs' : List VT} {T' : Tl} {X : Nat → Prop} {w : World} (s : Mid23 w0 c d vs T vs' T' X w) : ∃ (Y : Nat → Prop) (Q : Nat → Nat), Q 0 = d ∧ Chn dCK Y w vs T Q ∧ (∀ n, w.heap.size ≤ n → Y n) ∧ (∀ n, X n → ∀ j, j ≤ vs.length → n ≠ Q j) ∧ ∀ (r : SS) (Q' : Nat → Nat) (w' : World), Aft dCK Y w Q vs.length r Q' w' → ((r.vs = vs' → r.T = T' → St23 w0 c d vs' T' w') ∧ ∀ (Q2 : Nat → Nat), Chn dCK Y w' vs' T' Q2 → (∀ j, j ≤ vs'.length → (∃ i, i ≤ r.vs.length ∧ Q2 j = Q' i) ∨ w.heap.size ≤ Q2 j) → St23 w0 c (Q2 0) vs' T' w') := by
  obtain ⟨YP, YD, P, Q, h1, h2, h3, h4, h5, h6, h7, h8⟩ := s.ex
  have key : ∀ (r : SS) (Q' : Nat → Nat) (w' : World), Aft dCK (fun n => (YD n ∧ n < w.heap.size) ∨ w.heap.size ≤ n) w Q vs.length r Q' w' → ∀ (Q2 : Nat → Nat), Chn dCK (fun n => (YD n ∧ n < w.heap.size) ∨ w.heap.size ≤ n) w' vs' T' Q2 → (∀ j, j ≤ vs'.length → (∃ i, i ≤ r.vs.length ∧ Q2 j = Q' i) ∨ w.heap.size ≤ Q2 j) → St23 w0 c (Q2 0) vs' T' w' := fun r Q' w' hA Q2 hC hj2 => by
    refine ⟨?_, fun n => YP n ∧ n < w.heap.size, fun n => (YD n ∧ n < w.heap.size) ∨ w.heap.size ≤ n, P, Q2, h1, rfl, ?_, hC, ?_, h6, fun j hj => ?_⟩
    · exact s.below.trans (hA.kc.below (fun j hj hh => by obtain ⟨i, hi, rfl⟩ := hh; have := h7 i hi; omega) s.below.size)
    · exact (h3.monoY (fun n hn hy => ⟨hy, hn⟩)).kc hA.kc (fun n _ hn hh => by obtain ⟨i, hi, rfl⟩ := hh; exact h5 _ hn.1 (h4.inY i hi))
    · rintro n hn (hd | hd)
      · exact h5 n hn.1 hd.1
      · have := hn.2; omega
    · rcases hj2 j hj with ⟨i, hi, e⟩ | h
      · rw [e]
        by_cases hil : i ≤ vs.length
        · rw [hA.old i hil]; exact h7 i hil
        · exact Nat.le_trans s.below.size (hA.new i (by omega) hi)
      · exact Nat.le_trans s.below.size h
  refine ⟨fun n => (YD n ∧ n < w.heap.size) ∨ w.heap.size ≤ n, Q, h2, h4.monoY (fun n hn hy => .inl ⟨hy, hn⟩), fun n hn => .inr hn, h8, fun r Q' w' hA => ⟨fun e1 e2 => ?_, key r Q' w' hA⟩⟩
  have h9 := key r Q' w' hA Q' (by rw [← e1, ← e2]; exact hA.chn) (fun j hj => .inl ⟨j, by rw [e1]; exact hj, rfl⟩)
  rw [hA.old 0 (by omega), h2] at h9
  exact h9

/-- Numbers are right, or they are not. -/
theorem nums_or (n f : Int) : ((n < 0 ∨ 65536 < n) ∨ (f < 0 ∨ 1073741824 < f)) ∨ ∃ (n' f' : Nat), n = (n' : Int) ∧ f = (f' : Int) ∧ n' ≤ 65536 ∧ f' ≤ 1073741824 := by
  by_cases h : (n < 0 ∨ 65536 < n) ∨ (f < 0 ∨ 1073741824 < f)
  · exact .inl h
  · exact .inr ⟨n.toNat, f.toNat, by omega, by omega, by omega, by omega⟩

/-- What stays while the program's seq is asked: blocks that were made behind w. -/
abbrev Kp23 (w V w' : World) : Prop := KC (fun n => n < w.heap.size) V w'

theorem St23.take {w0 : World} {c d : Nat} {vs : List VT} {T : Tl} {w V : World} (s : St23 w0 c d vs T w) (hV : Below w.heap.size w V) (n f : Int) :
    Calls Tryz.prog 33 #[.pointer (some ⟨c, 0, none⟩), .int .i64 n, .int .i64 f] V fun e w' => Kp23 w V w' ∧ ∃ (a : Option Addr) (l k : Nat) (left E : Int), e = .returned (.tuple #[.slice a l k, .int .i64 left, .int .i64 E]) ∧ Calls Tryz.prog 35 #[.pointer (some ⟨d, 0, none⟩), .int .i64 n, .int .i64 f] w' fun e2 w2 => Kp23 w w' w2 ∧ ∃ (a2 : Option Addr) (l2 k2 : Nat) (vs' : List VT) (T' : Tl), e2 = .returned (.tuple #[.slice a2 l2 k2, .int .i64 left, .int .i64 E]) ∧ St23 w0 c d vs' T' w2 ∧ Calls Tryz.prog 21 #[.slice a l k, .slice a2 l2 k2] w2 fun e3 w3 => e3 = .returned (.bool true) ∧ Below w2.heap.size w2 w3 := by
  rcases nums_or n f with hbad | ⟨n', f', rfl, rfl, hn, hf⟩
  · refine Calls.mono (take_bad _ n f hbad V) ?_
    rintro e w' ⟨rfl, hb⟩
    have hm := (s.keeps hV).mid hb
    refine ⟨KC.of_below hb, none, 0, 0, 0, 1, rfl, Calls.mono (rtake_bad _ n f hbad w') ?_⟩
    rintro e2 w2 ⟨rfl, hb2⟩
    exact ⟨KC.of_below hb2, none, 0, 0, vs, T, rfl, ((s.keeps hV).keeps hb).keeps hb2, values_one 16 [] _ _ w2 ⟨none, 0, rfl, by simp, fun h => absurd rfl h⟩ ⟨none, 0, rfl, by simp, fun h => absurd rfl h⟩ (by simp)⟩
  · obtain ⟨Y, P, rfl, hC, hY, hlt0, hmid⟩ := s.prog hV
    refine Calls.mono (take_any Y vs T P n' f' hn hf V hC hY) ?_
    rintro e w' ⟨P', hA, hres⟩
    have hM := hmid _ P' w' hA
    have hkp : Kp23 w V w' := hA.kc.mono (fun j _ hh => by obtain ⟨i, hi, rfl⟩ := hh; exact hlt0 i hi)
    obtain ⟨YD, Q, rfl, hD, hYD, hXQ, hst⟩ := hM.doc
    have hkd : ∀ (a b : World), KC (fun j => ∃ i, i ≤ vs.length ∧ j = Q i) a b → Kp23 w a b := fun a b hk => hk.mono (fun j _ hh => by obtain ⟨i, hi, rfl⟩ := hh; exact Nat.lt_of_not_le (fun h => hXQ _ h i hi rfl))
    have hdoc := rtake_any YD vs T Q n' f' hn hf w' hD hYD
    generalize hr : wlk frcC n' ⟨vs, T, 0⟩ f' = r at *
    have hrl : r.items.length ≤ 65536 := by rw [← hr]; exact Nat.le_trans (wlk_le n' _ f').1 hn
    rcases hres with ⟨he, rfl⟩ | ⟨he, a, k, rfl, hl, _⟩
    · refine ⟨hkp, none, 0, 0, 0, r.err, rfl, Calls.mono hdoc ?_⟩
      rintro e2 w2 ⟨Q', hA2, ⟨_, rfl⟩ | ⟨he2, _⟩⟩
      · exact ⟨hkd _ _ hA2.kc, none, 0, 0, r.s.vs, r.s.T, rfl, hst _ Q' w2 hA2 rfl rfl, values_one 16 [] _ _ w2 ⟨none, 0, rfl, by simp, fun h => absurd rfl h⟩ ⟨none, 0, rfl, by simp, fun h => absurd rfl h⟩ (by simp)⟩
      · exact absurd he2 he
    · refine ⟨hkp, a, r.items.length, k, r.left, 0, rfl, Calls.mono hdoc ?_⟩
      rintro e2 w2 ⟨Q', hA2, ⟨he2, _⟩ | ⟨_, a2, k2, rfl, hl2, _⟩⟩
      · exact absurd he he2
      · refine ⟨hkd _ _ hA2.kc, a2, r.items.length, k2, r.s.vs, r.s.T, rfl, hst _ Q' w2 hA2 rfl rfl, values_one 16 r.items _ _ w2 (hA2.kc.liesX (fun n hn hh => ?_) hl).lies hl2.lies hrl⟩
        obtain ⟨i, hi, rfl⟩ := hh
        exact hXQ _ (Nat.le_trans hV.size (hn.1 trivial)) i hi rfl

theorem St23.drop {w0 : World} {c d : Nat} {vs : List VT} {T : Tl} {w V : World} (s : St23 w0 c d vs T w) (hV : Below w.heap.size w V) (n f : Int) :
    Calls Tryz.prog 11 #[.pointer (some ⟨c, 0, none⟩), .int .i64 n, .int .i64 f] V fun e w' => Kp23 w V w' ∧ ∃ (pd : Option Addr) (left E : Int), e = .returned (.tuple #[.pointer pd, .int .i64 left, .int .i64 E]) ∧ Calls Tryz.prog 12 #[.pointer (some ⟨d, 0, none⟩), .int .i64 n, .int .i64 f] w' fun e2 w2 => Kp23 w w' w2 ∧ ∃ (pd2 : Option Addr) (vs' : List VT) (T' : Tl), e2 = .returned (.tuple #[.pointer pd2, .int .i64 left, .int .i64 E]) ∧ ((E ≠ 0 ∧ pd = none ∧ pd2 = none ∧ St23 w0 c d vs' T' w2) ∨ (E = 0 ∧ ∃ c' d', pd = some ⟨c', 0, none⟩ ∧ pd2 = some ⟨d', 0, none⟩ ∧ St23 w0 c' d' vs' T' w2)) := by
  rcases nums_or n f with hbad | ⟨n', f', rfl, rfl, hn, hf⟩
  · refine Calls.mono (drop_bad _ n f hbad V) ?_
    rintro e w' ⟨rfl, hb⟩
    refine ⟨KC.of_below hb, none, 0, 1, rfl, Calls.mono (rdrop_bad _ n f hbad w') ?_⟩
    rintro e2 w2 ⟨rfl, hb2⟩
    exact ⟨KC.of_below hb2, none, vs, T, rfl, .inl ⟨by omega, rfl, rfl, ((s.keeps hV).keeps hb).keeps hb2⟩⟩
  · obtain ⟨Y, P, rfl, hC, hY, hlt0, hmid⟩ := s.prog2 hV
    refine Calls.mono (drop_any Y vs T P n' f' hn hf V hC hY) ?_
    rintro e w' ⟨P', hA, hres⟩
    have hkp : Kp23 w V w' := hA.kc.mono (fun j _ hh => by obtain ⟨i, hi, rfl⟩ := hh; exact hlt0 i hi)
    obtain ⟨hM, hM2⟩ := hmid _ P' w' hA
    generalize hr : wlk frcC n' ⟨vs, T, 0⟩ f' = r at *
    rcases hres with ⟨he, rfl⟩ | ⟨he, P2, rfl, hc2, _, hj2⟩
    · obtain ⟨YD, Q, rfl, hD, hYD, hXQ, hst⟩ := hM.doc2
      have hkd : ∀ (a b : World), KC (fun j => ∃ i, i ≤ vs.length ∧ j = Q i) a b → Kp23 w a b := fun a b hk => hk.mono (fun j _ hh => by obtain ⟨i, hi, rfl⟩ := hh; exact Nat.lt_of_not_le (fun h => hXQ _ h i hi rfl))
      have hdoc := rdrop_any YD vs T Q n' f' hn hf w' hD hYD
      rw [hr] at hdoc
      refine ⟨hkp, none, 0, r.err, rfl, Calls.mono hdoc ?_⟩
      rintro e2 w2 ⟨Q', hA2, ⟨_, rfl⟩ | ⟨he2, _⟩⟩
      · exact ⟨hkd _ _ hA2.kc, none, r.s.vs, r.s.T, rfl, .inl ⟨by omega, rfl, rfl, (hst _ Q' w2 hA2).1 rfl rfl⟩⟩
      · exact absurd he2 he
    · obtain ⟨YD, Q, rfl, hD, hYD, hXQ, hst⟩ := (hM2 _ _ P2 hc2 hj2).doc2
      have hkd : ∀ (a b : World), KC (fun j => ∃ i, i ≤ vs.length ∧ j = Q i) a b → Kp23 w a b := fun a b hk => hk.mono (fun j _ hh => by obtain ⟨i, hi, rfl⟩ := hh; exact Nat.lt_of_not_le (fun h => hXQ _ h i hi rfl))
      have hdoc := rdrop_any YD vs T Q n' f' hn hf w' hD hYD
      rw [hr] at hdoc
      refine ⟨hkp, _, r.left, 0, rfl, Calls.mono hdoc ?_⟩
      rintro e2 w2 ⟨Q', hA2, ⟨he2, _⟩ | ⟨_, Q2, rfl, hd2, _, hk2⟩⟩
      · exact absurd he he2
      · exact ⟨hkd _ _ hA2.kc, _, r.s.vs.drop r.s.i, r.s.T, rfl, .inr ⟨rfl, _, _, rfl, rfl, (hst _ Q' w2 hA2).2 Q2 hd2 hk2⟩⟩

end Go.Proofs.YtnjgolibmllhnaaGreat

