/-
  The document's cells in memory; its steps of Iter.
-/
import Derived.Test.YtnjgolibmllhnaaSpeaks22
import Derived.Test.YtnjgolibmllhnaaRTimes
import Derived.Test.YtnjgolibmllhnaaVals
namespace Go.Proofs.Ytnjgolibmllhnaa
open Go.RowKit Go.Shelf

/-- The i-th item. -/
abbrev itv (q i : Nat) (v : VT) : VT := itT (doneT q) i v

/-- A seq of Iter: cells P 0 .. P k, k of them known; all lists lie in blocks that Y holds of and that are none of the cells'. -/
structure Sq (Y : Nat → Prop) (w : World) (q : Nat) (v : VT) (k : Nat) (P : Nat → Nat) : Prop where
  q8 : q < 8
  right : rightV 16 v = true
  dp : Dp 16 v
  inj : ∀ i j, i ≤ k → j ≤ k → P i = P j → i = j
  inY : ∀ i, i ≤ k → Y (P i)
  known : ∀ i, i < k → ∃ a c, CB w (P i) .nilIface 0 (itv q i v) (.slice a (itv q i v).items.length c) (some ⟨P (i + 1), 0, none⟩) ∧ LiesX (fun n => Y n ∧ ∀ j, j ≤ k → n ≠ P j) 16 w (itv q i v).items (.slice a (itv q i v).items.length c)
  lazy : ∃ m z a c, m ≤ 1 ∧ itT (doneT q) m z = itv q k v ∧ rightV 16 z = true ∧ CB w (P k) (stepV q m z (.slice a z.items.length c)) 0 zeroT (.slice none 0 0) none ∧ LiesX (fun n => Y n ∧ ∀ j, j ≤ k → n ≠ P j) 16 w z.items (.slice a z.items.length c)

theorem Sq.lt {Y : Nat → Prop} {w : World} {q : Nat} {v : VT} {k : Nat} {P : Nat → Nat} (s : Sq Y w q v k P) (i : Nat) (hi : i ≤ k) : P i < w.heap.size := by
  by_cases h : i < k
  · obtain ⟨a, c, hc, _⟩ := s.known i h
    exact hc.lt
  · obtain rfl : i = k := by omega
    obtain ⟨m, z, a, c, _, _, _, hc, _⟩ := s.lazy
    exact hc.lt

theorem Sq.kc {Y B : Nat → Prop} {w w' : World} {q : Nat} {v : VT} {k : Nat} {P : Nat → Nat} (s : Sq Y w q v k P) (hk : KC B w w') (hB : ∀ n, n < w.heap.size → Y n → ¬ B n) : Sq Y w' q v k P := by
  have hp := fun i hi => hB (P i) (s.lt i hi) (s.inY i hi)
  refine ⟨s.q8, s.right, s.dp, s.inj, s.inY, fun i hi => ?_, ?_⟩
  · obtain ⟨a, c, hc, hl⟩ := s.known i hi
    exact ⟨a, c, hk.cb (hp i (by omega)) hc, LiesX.mono (fun n hn => hn.1) (hk.liesX (fun n hn => hB n hn.2 hn.1.1) hl.both)⟩
  · obtain ⟨m, z, a, c, h1, h2, h3, hc, hl⟩ := s.lazy
    exact ⟨m, z, a, c, h1, h2, h3, hk.cb (hp k (by omega)) hc, LiesX.mono (fun n hn => hn.1) (hk.liesX (fun n hn => hB n hn.2 hn.1.1) hl.both)⟩

theorem Sq.keeps {Y : Nat → Prop} {w w' : World} {q : Nat} {v : VT} {k : Nat} {P : Nat → Nat} (s : Sq Y w q v k P) (hb : Below w.heap.size w w') : Sq Y w' q v k P :=
  s.kc (B := fun _ => False) (KC.of_below hb) (fun _ _ _ h => h)

theorem Sq.monoY {Y Z : Nat → Prop} {w : World} {q : Nat} {v : VT} {k : Nat} {P : Nat → Nat} (s : Sq Y w q v k P) (h : ∀ n, n < w.heap.size → Y n → Z n) : Sq Z w q v k P := by
  refine ⟨s.q8, s.right, s.dp, s.inj, fun i hi => h _ (s.lt i hi) (s.inY i hi), fun i hi => ?_, ?_⟩
  · obtain ⟨a, c, hc, hl⟩ := s.known i hi
    exact ⟨a, c, hc, LiesX.mono (fun n hn => ⟨h n hn.2 hn.1.1, hn.1.2⟩) hl.both⟩
  · obtain ⟨m, z, a, c, h1, h2, h3, hc, hl⟩ := s.lazy
    exact ⟨m, z, a, c, h1, h2, h3, hc, LiesX.mono (fun n hn => ⟨h n hn.2 hn.1.1, hn.1.2⟩) hl.both⟩

/-- One more is known. -/
theorem Sq.force {Y : Nat → Prop} {w w' : World} {q : Nat} {v : VT} {k : Nat} {P : Nat → Nat} (s : Sq Y w q v k P) (hY : ∀ n, w.heap.size ≤ n → Y n) {b' : Nat} {a1 a2 : Option Addr} {c1 c2 : Nat} (hk : KC (fun j => j = P k) w w') (hb' : w.heap.size ≤ b') (hc : CB w' (P k) .nilIface 0 (itv q k v) (.slice a1 (itv q k v).items.length c1) (some ⟨b', 0, none⟩)) (hc' : CB w' b' (stepV q 1 (itv q k v) (.slice a2 (itv q k v).items.length c2)) 0 zeroT (.slice none 0 0) none) (h1 : LiesX (fun n => w.heap.size ≤ n ∧ n ≠ b') 16 w' (itv q k v).items (.slice a1 (itv q k v).items.length c1)) (h2 : LiesX (fun n => w.heap.size ≤ n ∧ n ≠ b') 16 w' (itv q k v).items (.slice a2 (itv q k v).items.length c2)) :
    Sq Y w' q v (k + 1) (fun i => if i = k + 1 then b' else P i) := by
  have hlt := s.lt
  have hX : ∀ n, w.heap.size ≤ n ∧ n ≠ b' → Y n ∧ ∀ j, j ≤ k + 1 → n ≠ (if j = k + 1 then b' else P j) := fun n hn => by
    refine ⟨hY n hn.1, fun j hj => ?_⟩
    by_cases e : j = k + 1
    · rw [if_pos e]; exact hn.2
    · rw [if_neg e]; have := hlt j (by omega); omega
  have hO : ∀ n, (Y n ∧ ∀ j, j ≤ k → n ≠ P j) ∧ n < w.heap.size → Y n ∧ ∀ j, j ≤ k + 1 → n ≠ (if j = k + 1 then b' else P j) := fun n hn => by
    refine ⟨hn.1.1, fun j hj => ?_⟩
    by_cases e : j = k + 1
    · rw [if_pos e]; omega
    · rw [if_neg e]; exact hn.1.2 j (by omega)
  refine ⟨s.q8, s.right, s.dp, fun i j hi hj e => ?_, fun i hi => ?_, fun i hi => ?_, ?_⟩
  · by_cases e1 : i = k + 1
    · by_cases e2 : j = k + 1
      · omega
      · simp only [if_pos e1, if_neg e2] at e; have := hlt j (by omega); omega
    · by_cases e2 : j = k + 1
      · simp only [if_neg e1, if_pos e2] at e; have := hlt i (by omega); omega
      · simp only [if_neg e1, if_neg e2] at e; exact s.inj i j (by omega) (by omega) e
  · by_cases e1 : i = k + 1
    · simp only [if_pos e1]; exact hY _ hb'
    · simp only [if_neg e1]; exact s.inY i (by omega)
  · by_cases e1 : i = k
    · subst e1
      have n1 : ¬ i = i + 1 := by omega
      simp only [if_neg n1, if_true]
      exact ⟨a1, c1, hc, LiesX.mono hX h1⟩
    · have n1 : ¬ i = k + 1 := by omega
      have n2 : ¬ i + 1 = k + 1 := by omega
      simp only [if_neg n1, if_neg n2]
      obtain ⟨a, c, hc0, hl⟩ := s.known i (by omega)
      exact ⟨a, c, hk.cb (fun e => e1 (s.inj i k (by omega) (by omega) e)) hc0, LiesX.mono hO (hk.liesX (fun n hn => hn.1.2 k (by omega)) hl.both)⟩
  · simp only [if_true]
    exact ⟨1, itv q k v, a2, c2, by omega, rfl, (it_right q s.right s.dp k).1, hc', LiesX.mono hX h2⟩

end Go.Proofs.Ytnjgolibmllhnaa

namespace Go.Proofs.Ytnjgolibmllhnaa
open Go.RowKit Go.Shelf

/-- What Cons tells of a right value. -/
def ConsPost (v : VT) (b : Nat) (w : World) (e : Ending) (w' : World) : Prop :=
  Below w.heap.size w w' ∧ ∃ d a c, e = .returned (.tuple #[.pointer (some ⟨d, 0, none⟩), .int .i64 0]) ∧ w.heap.size ≤ d ∧ CB w' d .nilIface 0 v (.slice a v.items.length c) (some ⟨b, 0, none⟩) ∧ LiesX (fun n => w.heap.size ≤ n ∧ n ≠ d) 16 w' v.items (.slice a v.items.length c)

set_option maxRecDepth 100000 in
set_option maxHeartbeats 8000000 in
theorem cons_ok (v : VT) (u : Value) (b : Nat) (w : World) (hu : Lies 16 w v.items u) (hr : rightV 16 v = true) :
    Calls Try.prog 17 #[.agg #[.int .i64 v.kind, .int .i64 v.num, .string v.text, u], .pointer (some ⟨b, 0, none⟩)] w (ConsPost v b w) := by
  obtain ⟨au, cu, rfl, _⟩ := Lies.slice hu
  have HC : Hid (∀ V, Below w.heap.size w V → Calls Try.prog 14 #[.agg #[.int .i64 v.kind, .int .i64 v.num, .string v.text, .slice au v.items.length cu]] V fun e w' => e = .returned (.int .i64 0) ∧ Below V.heap.size V w') := fun V hV => by
    have h9 := check_grew 16 v _ V (Lies.keeps hV _ _ _ hu) (Nat.le_trans (right_size hr) (by omega))
    rw [hr] at h9
    exact Calls.mono h9 fun e w' h => ⟨h.1, h.2.below⟩
  have HCp : Hid (∀ V, Below w.heap.size w V → Calls Try.prog 33 #[.agg #[.int .i64 v.kind, .int .i64 v.num, .string v.text, .slice au v.items.length cu]] V (CopyPost 16 v V)) := fun V hV => copy_right v _ V (Lies.keeps hV _ _ _ hu) hr
  have HOw : Hid (∀ V, Calls Try.prog 34 #[.pointer (some ⟨b, 0, none⟩)] V fun e w' => e = .returned (.pointer (some ⟨b, 0, none⟩)) ∧ w' = V) := own_some22 b
  obtain ⟨W0, hW0⟩ : ∃ W0, W0 = w.alloc (.cells #[.int .i64 v.kind, .int .i64 v.num, .string v.text, .slice au v.items.length cu] 38) := ⟨_, rfl⟩
  have HW0 : Hid (W0 = w.alloc (.cells #[.int .i64 v.kind, .int .i64 v.num, .string v.text, .slice au v.items.length cu] 38)) := hW0
  have hb0 : Below w.heap.size w W0 := by rw [hW0]; exact ((Grew.refl _).alloc _).below
  have HK : Hid (Bx W0 w.heap.size v (.slice au v.items.length cu)) := by rw [hW0]; exact bx_alloc _ _ _
  obtain ⟨k0, k1, k2, k3, _, _, _, _⟩ := HK.out
  clear hW0 hu hr HK
  go_enter Try.func17, Try.ntmps17
  go_upto_region 1 with fail
  rw [← HW0.out]
  clear HW0
  go_wp2_with fail
  refine Calls.mono (HC.out _ hb0) ?_
  rintro e w1 ⟨rfl, hg1⟩
  have hb1 : Below w.heap.size w w1 := hb0.trans (hg1.mono hb0.size)
  have k0 := cell_keeps hg1 k0; have k1 := cell_keeps hg1 k1; have k2 := cell_keeps hg1 k2; have k3 := cell_keeps hg1 k3
  clear hg1 HC hb0
  go_wp2_with fail
  refine Calls.mono (HCp.out _ hb1) ?_
  rintro e w2 ⟨u2, rfl, hl2, hg2⟩
  obtain ⟨a2, c2, rfl, _⟩ := LiesB.slice hl2
  have hb2 : Below w.heap.size w w2 := hb1.trans (hg2.mono hb1.size)
  have HL : Hid (LiesX (fun n => w.heap.size ≤ n ∧ n < w2.heap.size) 16 w2 v.items (.slice a2 v.items.length c2)) := by
    have hs := hb1.size
    exact LiesX.mono (fun n hn => ⟨by omega, hn.2⟩) (LiesX.of_b hl2).both
  clear hg2 HCp hb1 k0 k1 k2 k3 hl2
  go_wp2_with fail
  refine Calls.mono (HOw.out _) ?_
  rintro e w9 ⟨rfl, hw9⟩
  obtain rfl : w2 = w9 := hw9.symm
  clear hw9 HOw
  have HE : Hid (ConsPost v b w (.returned (.tuple #[.pointer (some ⟨w2.heap.size, 0, none⟩), .int .i64 0])) (w2.alloc (.cells #[.nilIface, .int .i64 0, .int .i64 v.kind, .int .i64 v.num, .string v.text, .slice a2 v.items.length c2, .pointer (some ⟨b, 0, none⟩)] 71))) := by
    have hal : Below w2.heap.size w2 (w2.alloc (.cells #[.nilIface, .int .i64 0, .int .i64 v.kind, .int .i64 v.num, .string v.text, .slice a2 v.items.length c2, .pointer (some ⟨b, 0, none⟩)] 71)) := ((Grew.refl _).alloc _).below
    exact ⟨hb2.trans (hal.mono hb2.size), _, a2, c2, rfl, hb2.size, cb_alloc w2 71 .nilIface 0 v (.slice a2 v.items.length c2) (some ⟨b, 0, none⟩), LiesX.mono (fun n hn => ⟨hn.1, by omega⟩) (HL.out.keeps hal)⟩
  clear hb2 HL
  go_wp2_with fail
  refine bodyPost_ret (v := .tuple #[.pointer (some ⟨w2.heap.size, 0, none⟩), .int .i64 0]) ?_ rfl HE.out
  simp [results, Try.results17, go_sem]

end Go.Proofs.Ytnjgolibmllhnaa

namespace Go.Proofs.Ytnjgolibmllhnaa
open Go.RowKit Go.Shelf

/-- The document's cell: sixteen cells; N is 0, List and Subs are none. -/
structure DB (w : World) (b : Nat) (kn ok : Bool) (x : VT) (u : Value) (p : Option Addr) (kd : Int) (q : Nat) (z : VT) (uz : Value) : Prop where
  c0 : w.cell? ⟨b, 0, none⟩ = some (.bool kn)
  c1 : w.cell? ⟨b, 1, none⟩ = some (.bool ok)
  c2 : w.cell? ⟨b, 2, none⟩ = some (.int .i64 x.kind)
  c3 : w.cell? ⟨b, 3, none⟩ = some (.int .i64 x.num)
  c4 : w.cell? ⟨b, 4, none⟩ = some (.string x.text)
  c5 : w.cell? ⟨b, 5, none⟩ = some (u)
  c6 : w.cell? ⟨b, 6, none⟩ = some (.pointer p)
  c7 : w.cell? ⟨b, 7, none⟩ = some (.int .i64 kd)
  c8 : w.cell? ⟨b, 8, none⟩ = some (.int .i64 (q : Int))
  c9 : w.cell? ⟨b, 9, none⟩ = some (.int .i64 0)
  c10 : w.cell? ⟨b, 10, none⟩ = some (.int .i64 z.kind)
  c11 : w.cell? ⟨b, 11, none⟩ = some (.int .i64 z.num)
  c12 : w.cell? ⟨b, 12, none⟩ = some (.string z.text)
  c13 : w.cell? ⟨b, 13, none⟩ = some (uz)
  c14 : w.cell? ⟨b, 14, none⟩ = some (.slice none 0 0)
  c15 : w.cell? ⟨b, 15, none⟩ = some (.slice none 0 0)
  f0 : w.frozen? ⟨b, 0, none⟩ = false
  f1 : w.frozen? ⟨b, 1, none⟩ = false
  f2 : w.frozen? ⟨b, 2, none⟩ = false
  f3 : w.frozen? ⟨b, 3, none⟩ = false
  f4 : w.frozen? ⟨b, 4, none⟩ = false
  f5 : w.frozen? ⟨b, 5, none⟩ = false
  f6 : w.frozen? ⟨b, 6, none⟩ = false

theorem DB.lt {w : World} {b : Nat} {kn ok : Bool} {x : VT} {u : Value} {p : Option Addr} {kd : Int} {q : Nat} {z : VT} {uz : Value} (h : DB w b kn ok x u p kd q z uz) : b < w.heap.size := cell_lt h.c0

theorem DB.keeps {w : World} {b : Nat} {kn ok : Bool} {x : VT} {u : Value} {p : Option Addr} {kd : Int} {q : Nat} {z : VT} {uz : Value} {w' : World} (h : DB w b kn ok x u p kd q z uz) (hb : Below w.heap.size w w') : DB w' b kn ok x u p kd q z uz := by
  have hl := h.lt
  exact ⟨cell_keeps hb h.c0, cell_keeps hb h.c1, cell_keeps hb h.c2, cell_keeps hb h.c3, cell_keeps hb h.c4, cell_keeps hb h.c5, cell_keeps hb h.c6, cell_keeps hb h.c7, cell_keeps hb h.c8, cell_keeps hb h.c9, cell_keeps hb h.c10, cell_keeps hb h.c11, cell_keeps hb h.c12, cell_keeps hb h.c13, cell_keeps hb h.c14, cell_keeps hb h.c15, (hb.frozen (p := ⟨b, 0, none⟩) hl).trans h.f0, (hb.frozen (p := ⟨b, 1, none⟩) hl).trans h.f1, (hb.frozen (p := ⟨b, 2, none⟩) hl).trans h.f2, (hb.frozen (p := ⟨b, 3, none⟩) hl).trans h.f3, (hb.frozen (p := ⟨b, 4, none⟩) hl).trans h.f4, (hb.frozen (p := ⟨b, 5, none⟩) hl).trans h.f5, (hb.frozen (p := ⟨b, 6, none⟩) hl).trans h.f6⟩

theorem KC.db {B : Nat → Prop} {w : World} {b : Nat} {kn ok : Bool} {x : VT} {u : Value} {p : Option Addr} {kd : Int} {q : Nat} {z : VT} {uz : Value} {w' : World} (k : KC B w w') (hn : ¬ B b) (h : DB w b kn ok x u p kd q z uz) : DB w' b kn ok x u p kd q z uz :=
  ⟨k.cell hn h.c0, k.cell hn h.c1, k.cell hn h.c2, k.cell hn h.c3, k.cell hn h.c4, k.cell hn h.c5, k.cell hn h.c6, k.cell hn h.c7, k.cell hn h.c8, k.cell hn h.c9, k.cell hn h.c10, k.cell hn h.c11, k.cell hn h.c12, k.cell hn h.c13, k.cell hn h.c14, k.cell hn h.c15, k.frozen hn h.c0 h.f0, k.frozen hn h.c1 h.f1, k.frozen hn h.c2 h.f2, k.frozen hn h.c3 h.f3, k.frozen hn h.c4 h.f4, k.frozen hn h.c5 h.f5, k.frozen hn h.c6 h.f6⟩

theorem DB.other {w : World} {b : Nat} {kn ok : Bool} {x : VT} {u : Value} {p : Option Addr} {kd : Int} {q : Nat} {z : VT} {uz : Value} (h : DB w b kn ok x u p kd q z uz) {g o : Nat} (hg : b ≠ g) (vs : List Value) : DB (w.setCells g o vs) b kn ok x u p kd q z uz :=
  ⟨cell_other hg h.c0, cell_other hg h.c1, cell_other hg h.c2, cell_other hg h.c3, cell_other hg h.c4, cell_other hg h.c5, cell_other hg h.c6, cell_other hg h.c7, cell_other hg h.c8, cell_other hg h.c9, cell_other hg h.c10, cell_other hg h.c11, cell_other hg h.c12, cell_other hg h.c13, cell_other hg h.c14, cell_other hg h.c15, by rw [World.frozen?_setCells]; exact h.f0, by rw [World.frozen?_setCells]; exact h.f1, by rw [World.frozen?_setCells]; exact h.f2, by rw [World.frozen?_setCells]; exact h.f3, by rw [World.frozen?_setCells]; exact h.f4, by rw [World.frozen?_setCells]; exact h.f5, by rw [World.frozen?_setCells]; exact h.f6⟩

theorem db_alloc (w : World) (T : Nat) (kn ok : Bool) (x : VT) (u : Value) (p : Option Addr) (kd : Int) (q : Nat) (z : VT) (uz : Value) : DB (w.alloc (.cells #[.bool kn, .bool ok, .int .i64 x.kind, .int .i64 x.num, .string x.text, u, .pointer p, .int .i64 kd, .int .i64 (q : Int), .int .i64 0, .int .i64 z.kind, .int .i64 z.num, .string z.text, uz, .slice none 0 0, .slice none 0 0] T)) w.heap.size kn ok x u p kd q z uz := by
  refine ⟨?_, ?_, ?_, ?_, ?_, ?_, ?_, ?_, ?_, ?_, ?_, ?_, ?_, ?_, ?_, ?_, ?_, ?_, ?_, ?_, ?_, ?_, ?_⟩ <;> simp

/-- What a step of the document's Iter tells. -/
def RStep (X : Nat → Prop) (q : Nat) (x : VT) (f : Int) (w : World) (e : Ending) (w' : World) : Prop :=
  Below w.heap.size w w' ∧ ∃ a c b', e = .returned (.tuple #[.agg #[.int .i64 x.kind, .int .i64 x.num, .string x.text, .slice a x.items.length c], .pointer (some ⟨b', 0, none⟩), .bool true, .int .i64 f, .int .i64 0]) ∧ w.heap.size ≤ b' ∧ DB w' b' false false zeroT (.slice none 0 0) none 13 q x (.slice a x.items.length c) ∧ LiesX (fun n => (X n ∧ n < w.heap.size) ∨ (w.heap.size ≤ n ∧ n ≠ b')) 16 w' x.items (.slice a x.items.length c)

set_option maxRecDepth 100000 in
set_option maxHeartbeats 8000000 in
theorem rstep1 (X : Nat → Prop) (q b : Nat) (f : Int) (z : VT) (a : Option Addr) (c : Nat) (w : World) (h : DB w b false false zeroT (.slice none 0 0) none 1 q z (.slice a z.items.length c)) (hl : LiesX X 16 w z.items (.slice a z.items.length c)) :
    Calls Try.prog 52 #[.pointer (some ⟨b, 0, none⟩), .int .i64 f] w (RStep X q z f w) := by
  obtain ⟨W0, hW0⟩ : ∃ W0, W0 = zbox w := ⟨_, rfl⟩
  have HW0 : Hid (W0 = w.alloc (.cells #[.int .i64 0, .int .i64 0, .string ⟨#[]⟩, .slice none 0 0] 38)) := hW0
  have hb0 : Below w.heap.size w W0 := by rw [hW0]; exact zbox_below w
  have HZ : Hid (Bx W0 w.heap.size zeroT (.slice none 0 0)) := by rw [hW0]; exact zbox_bx w
  have HS : Hid (W0.heap.size = w.heap.size + 1) := by rw [hW0]; exact zbox_size w
  have HD : Hid (DB W0 b false false zeroT (.slice none 0 0) none 1 q z (.slice a z.items.length c)) := h.keeps hb0
  have HL : Hid (LiesX (fun n => X n ∧ n < w.heap.size) 16 W0 z.items (.slice a z.items.length c)) := hl.both.keeps hb0
  obtain ⟨_, _, _, _, _, _, _, k7, k8, _, k10, k11, k12, k13, _, _, _, _, _, _, _, _, _⟩ := HD.out
  obtain ⟨z0, z1, z2, z3, g0, g1, g2, g3⟩ := HZ.out
  have hbl := h.lt
  have hbn : b ≠ w.heap.size := by omega
  have Hb0 : Hid (Below w.heap.size w W0) := hb0
  clear hW0 h hl hbl hb0
  go_enter Try.func52, Try.ntmps52
  go_upto_region 1 with fail
  rw [← HW0.out]
  clear HW0
  go_wp2_with fail
  have nb : b < W0.heap.size := cell_lt k10
  have nz : w.heap.size < W0.heap.size := by have h9 := cell_lt z0; simpa using h9
  go_region
  obtain ⟨WS, hWS⟩ : ∃ WS, WS = W0.setCells w.heap.size 0 (encP (z, .slice a z.items.length c)) := ⟨_, rfl⟩
  have hsz : WS.heap.size = W0.heap.size := by rw [hWS]; simp [World.setCells, encP, World.setCell]
  have hbx : Bx WS w.heap.size z (.slice a z.items.length c) := by rw [hWS]; exact HZ.out.put (z, .slice a z.items.length c)
  have hbS : Below w.heap.size w WS := by rw [hWS]; exact ((((Hb0.out.setCell (p := ⟨w.heap.size, 0, none⟩) (by simp) _).setCell (p := ⟨w.heap.size, 0 + 1, none⟩) (by simp) _).setCell (p := ⟨w.heap.size, 0 + 1 + 1, none⟩) (by simp) _).setCell (p := ⟨w.heap.size, 0 + 1 + 1 + 1, none⟩) (by simp) _)
  have hlS : LiesX (fun n => X n ∧ n < w.heap.size) 16 WS z.items (.slice a z.items.length c) := by rw [hWS]; exact LiesX.set (g := w.heap.size) (by omega) HL.out
  have hal : Below WS.heap.size WS (WS.alloc (.cells #[.bool false, .bool false, .int .i64 0, .int .i64 0, .string ⟨#[]⟩, .slice none 0 0, .pointer none, .int .i64 13, .int .i64 (q : Int), .int .i64 0, .int .i64 z.kind, .int .i64 z.num, .string z.text, .slice a z.items.length c, .slice none 0 0, .slice none 0 0] 77)).drew := ((Grew.refl WS).alloc _).below.drew
  have hdb : DB (WS.alloc (.cells #[.bool false, .bool false, .int .i64 0, .int .i64 0, .string ⟨#[]⟩, .slice none 0 0, .pointer none, .int .i64 13, .int .i64 (q : Int), .int .i64 0, .int .i64 z.kind, .int .i64 z.num, .string z.text, .slice a z.items.length c, .slice none 0 0, .slice none 0 0] 77)).drew WS.heap.size false false zeroT (.slice none 0 0) none 13 q z (.slice a z.items.length c) := (db_alloc WS 77 false false zeroT (.slice none 0 0) none 13 q z (.slice a z.items.length c)).keeps (Below.refl _ _).drew
  have HE : Hid (RStep X q z f w (.returned (.tuple #[.agg #[.int .i64 z.kind, .int .i64 z.num, .string z.text, .slice a z.items.length c], .pointer (some ⟨W0.heap.size, 0, none⟩), .bool true, .int .i64 f, .int .i64 0])) (WS.alloc (.cells #[.bool false, .bool false, .int .i64 0, .int .i64 0, .string ⟨#[]⟩, .slice none 0 0, .pointer none, .int .i64 13, .int .i64 (q : Int), .int .i64 0, .int .i64 z.kind, .int .i64 z.num, .string z.text, .slice a z.items.length c, .slice none 0 0, .slice none 0 0] 77)).drew) := by
    have hs := HS.out
    rw [hsz] at hdb
    exact ⟨hbS.trans (hal.mono hbS.size), a, c, W0.heap.size, rfl, by omega, hdb, LiesX.mono (fun n hn => .inl hn) (hlS.keeps hal)⟩
  have Hq : Hid (Bx (WS.alloc (.cells #[.bool false, .bool false, .int .i64 0, .int .i64 0, .string ⟨#[]⟩, .slice none 0 0, .pointer none, .int .i64 13, .int .i64 (q : Int), .int .i64 0, .int .i64 z.kind, .int .i64 z.num, .string z.text, .slice a z.items.length c, .slice none 0 0, .slice none 0 0] 77)).drew w.heap.size z (.slice a z.items.length c)) := hbx.keeps hal
  rw [hWS] at HE Hq
  clear hWS hsz hbx hbS hlS hal hdb nb nz z0 z1 z2 z3 g0 g1 g2 g3 k7 k8 k10 k11 k12 k13 HZ HD HL Hb0 HS
  go_wp2_with fail
  refine bodyPost_ret (v := .tuple #[.agg #[.int .i64 z.kind, .int .i64 z.num, .string z.text, .slice a z.items.length c], .pointer (some ⟨W0.heap.size, 0, none⟩), .bool true, .int .i64 f, .int .i64 0]) ?_ rfl HE.out
  obtain ⟨q0, q1, q2, q3, _, _, _, _⟩ := Hq.out
  simp only [World.setCells, encP, Nat.zero_add, Nat.reduceAdd] at q0 q1 q2 q3
  simp [results, Try.results52, go_sem, q0, q1, q2, q3]

set_option maxRecDepth 100000 in
set_option maxHeartbeats 8000000 in
theorem rwith_any (q b : Nat) (x z : VT) (u uz : Value) (p : Option Addr) (kn ok : Bool) (y : VT) (ay : Option Addr) (cy : Nat) (w : World) (h : DB w b kn ok x u p 13 q z uz) :
    Calls Try.prog 68 #[.pointer (some ⟨b, 0, none⟩), .int .i64 0, .agg #[.int .i64 y.kind, .int .i64 y.num, .string y.text, .slice ay y.items.length cy], .slice none 0 0] w fun e w' => e = .returned (.pointer (some ⟨w.heap.size + 1, 0, none⟩)) ∧ Below w.heap.size w w' ∧ DB w' (w.heap.size + 1) false false zeroT (.slice none 0 0) none 13 q y (.slice ay y.items.length cy) := by
  obtain ⟨W0, hW0⟩ : ∃ W0, W0 = w.alloc (.cells #[.int .i64 y.kind, .int .i64 y.num, .string y.text, .slice ay y.items.length cy] 38) := ⟨_, rfl⟩
  have HW0 : Hid (W0 = w.alloc (.cells #[.int .i64 y.kind, .int .i64 y.num, .string y.text, .slice ay y.items.length cy] 38)) := hW0
  have hb0 : Below w.heap.size w W0 := by rw [hW0]; exact ((Grew.refl _).alloc _).below
  have hs0 : W0.heap.size = w.heap.size + 1 := by rw [hW0]; exact World.size_alloc _ _
  have HB : Hid (Bx W0 w.heap.size y (.slice ay y.items.length cy)) := by rw [hW0]; exact bx_alloc _ _ _
  have HD : Hid (DB W0 b kn ok x u p 13 q z uz) := h.keeps hb0
  obtain ⟨_, _, _, _, _, _, _, k7, k8, _, _, _, _, _, k14, _, _, _, _, _, _, _, _⟩ := HD.out
  obtain ⟨z0, z1, z2, z3, _, _, _, _⟩ := HB.out
  have nb : b < W0.heap.size := cell_lt k7
  have nz : w.heap.size < W0.heap.size := by omega
  have HE : Hid (Below w.heap.size w (W0.alloc (.cells #[.bool false, .bool false, .int .i64 0, .int .i64 0, .string ⟨#[]⟩, .slice none 0 0, .pointer none, .int .i64 13, .int .i64 (q : Int), .int .i64 0, .int .i64 y.kind, .int .i64 y.num, .string y.text, .slice ay y.items.length cy, .slice none 0 0, .slice none 0 0] 77)).drew ∧ DB (W0.alloc (.cells #[.bool false, .bool false, .int .i64 0, .int .i64 0, .string ⟨#[]⟩, .slice none 0 0, .pointer none, .int .i64 13, .int .i64 (q : Int), .int .i64 0, .int .i64 y.kind, .int .i64 y.num, .string y.text, .slice ay y.items.length cy, .slice none 0 0, .slice none 0 0] 77)).drew (w.heap.size + 1) false false zeroT (.slice none 0 0) none 13 q y (.slice ay y.items.length cy)) := by
    have hal : Below W0.heap.size W0 (W0.alloc (.cells #[.bool false, .bool false, .int .i64 0, .int .i64 0, .string ⟨#[]⟩, .slice none 0 0, .pointer none, .int .i64 13, .int .i64 (q : Int), .int .i64 0, .int .i64 y.kind, .int .i64 y.num, .string y.text, .slice ay y.items.length cy, .slice none 0 0, .slice none 0 0] 77)).drew := ((Grew.refl W0).alloc _).below.drew
    have hdb := (db_alloc W0 77 false false zeroT (.slice none 0 0) none 13 q y (.slice ay y.items.length cy)).keeps (Below.refl _ _).drew
    rw [hs0] at hdb
    exact ⟨hb0.trans (hal.mono hb0.size), hdb⟩
  have Hs0 : Hid (W0.heap.size = w.heap.size + 1) := hs0
  clear hW0 hb0 hs0 HB HD h
  go_enter Try.func68, Try.ntmps68
  go_upto_region 1 with fail
  rw [← HW0.out]
  clear HW0
  go_wp2_with fail
  go_region
  rw [Hs0.out]
  go_wp2_with fail
  go_ret
  exact ⟨rfl, HE.out⟩

set_option maxRecDepth 100000 in
set_option maxHeartbeats 8000000 in
theorem rstep13 (X : Nat → Prop) (q b : Nat) (hq : q < 8) (f : Int) (z : VT) (a : Option Addr) (c : Nat) (w : World) (h : DB w b false false zeroT (.slice none 0 0) none 13 q z (.slice a z.items.length c)) (hl : LiesX X 16 w z.items (.slice a z.items.length c)) (hr : rightV 16 z = true) :
    Calls Try.prog 52 #[.pointer (some ⟨b, 0, none⟩), .int .i64 f] w (RStep X q (doneT q z) f w) := by
  obtain ⟨x, hx⟩ : ∃ x, x = doneT q z := ⟨_, rfl⟩
  rw [← hx]
  obtain ⟨W0, hW0⟩ : ∃ W0, W0 = zbox w := ⟨_, rfl⟩
  have HW0 : Hid (W0 = w.alloc (.cells #[.int .i64 0, .int .i64 0, .string ⟨#[]⟩, .slice none 0 0] 38)) := hW0
  have hb0 : Below w.heap.size w W0 := by rw [hW0]; exact zbox_below w
  have HZ : Hid (Bx W0 w.heap.size zeroT (.slice none 0 0)) := by rw [hW0]; exact zbox_bx w
  have HS : Hid (W0.heap.size = w.heap.size + 1) := by rw [hW0]; exact zbox_size w
  have HD : Hid (DB W0 b false false zeroT (.slice none 0 0) none 13 q z (.slice a z.items.length c)) := h.keeps hb0
  have HDn : Hid (∀ V, Below W0.heap.size W0 V → Calls Try.prog 67 #[.int .i64 (q : Int), .agg #[.int .i64 z.kind, .int .i64 z.num, .string z.text, .slice a z.items.length c]] V (FnPost (fun n => X n ∧ n < w.heap.size) x V)) := fun V hV => by
    rw [hx]
    exact rdone_any _ q hq z _ V ((hl.both.keeps hb0).keeps hV) hr
  obtain ⟨_, _, _, _, _, _, _, k7, k8, _, k10, k11, k12, k13, _, _, _, _, _, _, _, _, _⟩ := HD.out
  have Hb0 : Hid (Below w.heap.size w W0) := hb0
  have nb : b < W0.heap.size := cell_lt k10
  have nb2 : b ≠ W0.heap.size := Nat.ne_of_lt nb
  clear hW0 h hl hb0 hx hr
  go_enter Try.func52, Try.ntmps52
  go_upto_region 1 with fail
  rw [← HW0.out]
  clear HW0
  go_wp2_with fail
  go_upto_region 5 with fail
  go_cut [9] from 38 to 46 (fun s9 wx => ∃ n9 a1 c1, s9 = .pointer (some ⟨n9, 0, none⟩) ∧ Hid (Below W0.heap.size W0 wx ∧ Bx wx n9 x (.slice a1 x.items.length c1) ∧ LiesX (fun n => (X n ∧ n < w.heap.size) ∨ W0.heap.size ≤ n) 16 wx x.items (.slice a1 x.items.length c1) ∧ n9 ≠ w.heap.size))
  case first =>
    go_region_held3 (fun w' => w'.cell? ⟨b, 8, none⟩ = some (.int .i64 (q : Int)) ∧ w'.cell? ⟨b, 10, none⟩ = some (.int .i64 z.kind) ∧ w'.cell? ⟨b, 11, none⟩ = some (.int .i64 z.num) ∧ w'.cell? ⟨b, 12, none⟩ = some (.string z.text) ∧ w'.cell? ⟨b, 13, none⟩ = some (.slice a z.items.length c)) (first | (go_keep; done) | (with_reducible exact ⟨set4_k22 nb2 k8, set4_k22 nb2 k10, set4_k22 nb2 k11, set4_k22 nb2 k12, set4_k22 nb2 k13⟩))
      (first
        | (go_at_call 67; (with_reducible refine Calls.mono (HDn.out _ ?_) ?_); exact (Below.refl _ _).drew; rintro e w1 ⟨u1, rfl, hl1, hg1'⟩; obtain ⟨a1, c1, rfl, _⟩ := LiesX.slice hl1; have hg1 : Below W0.heap.size W0 w1 := (Below.refl _ _).drew.trans hg1'; have HL1 : Hid (LiesX (fun n => (X n ∧ n < w.heap.size) ∨ W0.heap.size ≤ n) 16 w1 x.items (.slice a1 x.items.length c1)) := hl1; clear hg1' hl1; have k8 := cell_keeps hg1 k8; have k10 := cell_keeps hg1 k10; have k11 := cell_keeps hg1 k11; have k12 := cell_keeps hg1 k12; have k13 := cell_keeps hg1 k13; have nb1 : b < w1.heap.size := Nat.lt_of_lt_of_le nb hg1.size)
        | (go_at_call 67; (with_reducible refine Calls.mono (HDn.out _ ?_) ?_); exact ((Grew.refl W0).alloc _).below.drew; rintro e w1 ⟨u1, rfl, hl1, hg1'⟩; obtain ⟨a1, c1, rfl, _⟩ := LiesX.slice hl1; have hg0 : Below W0.heap.size W0 (zbox W0).drew := ((Grew.refl W0).alloc _).below.drew; have hg1 : Below W0.heap.size W0 w1 := hg0.trans (hg1'.mono hg0.size); have HL1 : Hid (LiesX (fun n => (X n ∧ n < w.heap.size) ∨ (zbox W0).heap.size ≤ n) 16 w1 x.items (.slice a1 x.items.length c1)) := hl1; have hbz : Bx w1 W0.heap.size zeroT (.slice none 0 0) := ((zbox_bx W0).keeps (Below.refl _ _).drew).keeps hg1'; have HBZ : Hid _ := hbz; obtain ⟨z0, z1, z2, z3, g0, g1, g2, g3⟩ := hbz; clear hg1' hl1 hg0; have k8 := cell_keeps hg1 k8; have k10 := cell_keeps hg1 k10; have k11 := cell_keeps hg1 k11; have k12 := cell_keeps hg1 k12; have k13 := cell_keeps hg1 k13; have nb1 : b < w1.heap.size := Nat.lt_of_lt_of_le nb hg1.size))
    · go_wp2_with fail
      go_meet
      have hal : Below w1.heap.size w1 (w1.alloc (.cells #[.int .i64 x.kind, .int .i64 x.num, .string x.text, .slice a1 x.items.length c1] 38)) := ((Grew.refl _).alloc _).below
      exact ⟨_, a1, c1, rfl, hg1.trans (hal.mono hg1.size), bx_alloc _ _ _, HL1.out.keeps hal, by have := HS.out; have := hg1.size; omega⟩
    · go_wp2_with fail
      go_meet
      have hzs := zbox_size W0
      have hws := HS.out
      refine ⟨W0.heap.size, a1, c1, rfl, ?_, HBZ.out.put (x, .slice a1 x.items.length c1), ?_, by omega⟩
      · exact ((((hg1.setCell (p := ⟨W0.heap.size, 0, none⟩) (by simp) _).setCell (p := ⟨W0.heap.size, 0 + 1, none⟩) (by simp) _).setCell (p := ⟨W0.heap.size, 0 + 1 + 1, none⟩) (by simp) _).setCell (p := ⟨W0.heap.size, 0 + 1 + 1 + 1, none⟩) (by simp) _)
      · exact LiesX.mono (fun n hn => by rcases hn with h | h; exact .inl h; exact .inr (by omega)) (LiesX.set (g := W0.heap.size) (o := 0) (vs := encP (x, .slice a1 x.items.length c1)) (by rintro (h | h); have := h.2; omega; omega) HL1.out)
  case rest =>
    obtain ⟨n9, a1, c1, rfl, HR⟩ := hcut
    have HB4 : Hid (Bx wc w.heap.size zeroT (.slice none 0 0)) := HZ.out.keeps HR.out.1
    have HWi : Hid (∀ V, Below wc.heap.size wc V → Calls Try.prog 68 #[.pointer (some ⟨b, 0, none⟩), .int .i64 0, .agg #[.int .i64 x.kind, .int .i64 x.num, .string x.text, .slice a1 x.items.length c1], .slice none 0 0] V fun e w' => e = .returned (.pointer (some ⟨V.heap.size + 1, 0, none⟩)) ∧ Below V.heap.size V w' ∧ DB w' (V.heap.size + 1) false false zeroT (.slice none 0 0) none 13 q x (.slice a1 x.items.length c1)) := fun V hV => rwith_any q b zeroT z _ _ none false false x a1 c1 V ((HD.out.keeps HR.out.1).keeps hV)
    obtain ⟨y0, y1, y2, y3, _, _, _, _⟩ := HR.out.2.1
    obtain ⟨z0, z1, z2, z3, g0, g1, g2, g3⟩ := HB4.out
    have hlz : w.heap.size < wc.heap.size := by have h9 := cell_lt z0; simpa using h9
    have h9n : n9 ≠ w.heap.size := HR.out.2.2.2
    go_wp2_with fail
    go_region_held3 (fun w' => w'.cell? ⟨n9, 0, none⟩ = some (.int .i64 x.kind) ∧ w'.cell? ⟨n9, 1, none⟩ = some (.int .i64 x.num) ∧ w'.cell? ⟨n9, 2, none⟩ = some (.string x.text) ∧ w'.cell? ⟨n9, 3, none⟩ = some (.slice a1 x.items.length c1)) (first | (go_keep; done) | (with_reducible exact ⟨set4_k22 h9n y0, set4_k22 h9n y1, set4_k22 h9n y2, set4_k22 h9n y3⟩))
      (first | (go_at_call 68; (with_reducible refine Calls.mono (HWi.out _ ?_) ?_); exact (Below.refl _ _).drew; rintro e w2 ⟨rfl, hg2', hdb⟩; have hg2 : Below wc.heap.size wc w2 := (Below.refl _ _).drew.trans hg2'; have HDB : Hid (DB w2 (wc.heap.size + 1) false false zeroT (.slice none 0 0) none 13 q x (.slice a1 x.items.length c1)) := hdb; clear hg2' hdb; have y0 := cell_keeps hg2 y0; have y1 := cell_keeps hg2 y1; have y2 := cell_keeps hg2 y2; have y3 := cell_keeps hg2 y3; have z0 := cell_keeps hg2 z0; have z1 := cell_keeps hg2 z1; have z2 := cell_keeps hg2 z2; have z3 := cell_keeps hg2 z3; have g0 := (hg2.frozen (p := ⟨w.heap.size, 0, none⟩) hlz).trans g0; have g1 := (hg2.frozen (p := ⟨w.heap.size, 1, none⟩) hlz).trans g1; have g2 := (hg2.frozen (p := ⟨w.heap.size, 2, none⟩) hlz).trans g2; have g3 := (hg2.frozen (p := ⟨w.heap.size, 3, none⟩) hlz).trans g3))
    have hs0 := HS.out
    have hsc := HR.out.1.size
    have hbc : Below w.heap.size w wc := Hb0.out.trans (HR.out.1.mono Hb0.out.size)
    have hb2 : Below w.heap.size w w2 := hbc.trans (hg2.mono hbc.size)
    have HE : Hid (RStep X q x f w (.returned (.tuple #[.agg #[.int .i64 x.kind, .int .i64 x.num, .string x.text, .slice a1 x.items.length c1], .pointer (some ⟨wc.heap.size + 1, 0, none⟩), .bool true, .int .i64 f, .int .i64 0])) (w2.setCells w.heap.size 0 (encP (x, .slice a1 x.items.length c1)))) := by
      refine ⟨?_, a1, c1, wc.heap.size + 1, rfl, by omega, HDB.out.other (by omega) _, ?_⟩
      · exact ((((hb2.setCell (p := ⟨w.heap.size, 0, none⟩) (by simp) _).setCell (p := ⟨w.heap.size, 0 + 1, none⟩) (by simp) _).setCell (p := ⟨w.heap.size, 0 + 1 + 1, none⟩) (by simp) _).setCell (p := ⟨w.heap.size, 0 + 1 + 1 + 1, none⟩) (by simp) _)
      · refine LiesX.mono (fun n hn => ?_) (LiesX.set (g := w.heap.size) (o := 0) (vs := encP (x, .slice a1 x.items.length c1)) ?_ (HR.out.2.2.1.both.keeps hg2))
        · rcases hn with ⟨h | h, h2⟩
          · exact .inl h
          · exact .inr ⟨by omega, by omega⟩
        · rintro ⟨h | h, h2⟩
          · have := h.2; omega
          · omega
    have Hq : Hid (Bx (w2.setCells w.heap.size 0 (encP (x, .slice a1 x.items.length c1))) w.heap.size x (.slice a1 x.items.length c1)) := Bx.put (⟨z0, z1, z2, z3, g0, g1, g2, g3⟩ : Bx w2 w.heap.size zeroT (.slice none 0 0)) (x, .slice a1 x.items.length c1)
    clear hs0 hsc hbc hb2 hg2 HDB HR HB4 HWi HS Hb0 HZ HD y0 y1 y2 y3 z0 z1 z2 z3 g0 g1 g2 g3 k7 k8 k10 k11 k12 k13
    go_wp2_with fail
    refine bodyPost_ret (v := .tuple #[.agg #[.int .i64 x.kind, .int .i64 x.num, .string x.text, .slice a1 x.items.length c1], .pointer (some ⟨wc.heap.size + 1, 0, none⟩), .bool true, .int .i64 f, .int .i64 0]) ?_ rfl HE.out
    obtain ⟨q0, q1, q2, q3, _, _, _, _⟩ := Hq.out
    simp only [World.setCells, encP, Nat.zero_add, Nat.reduceAdd] at q0 q1 q2 q3
    simp [results, Try.results52, go_sem, q0, q1, q2, q3]

end Go.Proofs.Ytnjgolibmllhnaa

