/-
  Seqs in memory, the program's and the document's alike: known cells, and behind them an empty one or one of Iter.
-/
import Derived.Test.YtnjgolibmllhnaaRCell
import Derived.Test.YtnjgolibmllhnaaVals
import Derived.Test.YtnjgolibmllhnaaRTimes
namespace Go.Proofs.Ytnjgolibmllhnaa
open Go.RowKit Go.Shelf

theorem DB.put {w : World} {b : Nat} {kn ok : Bool} {x : VT} {u : Value} {p : Option Addr} {kd : Int} {q : Nat} {z : VT} {uz : Value} (h : DB w b kn ok x u p kd q z uz) (x' : VT) (u' : Value) (p' : Option Addr) : DB (w.setCells b 0 [.bool true, .bool true, .int .i64 x'.kind, .int .i64 x'.num, .string x'.text, u', .pointer p']) b true true x' u' p' kd q z uz := by
  have hin : ∀ j (hj : j < [.bool true, .bool true, .int .i64 x'.kind, .int .i64 x'.num, .string x'.text, u', .pointer p'].length), (w.setCells b 0 [.bool true, .bool true, .int .i64 x'.kind, .int .i64 x'.num, .string x'.text, u', .pointer p']).cell? ⟨b, 0 + j, none⟩ = some ([.bool true, .bool true, .int .i64 x'.kind, .int .i64 x'.num, .string x'.text, u', .pointer p'][j]) :=
    World.cell?_setCells_in b _ 0 w (fun j hj => by
      match j, hj with
      | 0, _ => rw [h.c0]; rfl
      | 1, _ => rw [h.c1]; rfl
      | 2, _ => rw [h.c2]; rfl
      | 3, _ => rw [h.c3]; rfl
      | 4, _ => rw [h.c4]; rfl
      | 5, _ => rw [h.c5]; rfl
      | 6, _ => rw [h.c6]; rfl)
  refine ⟨?_, ?_, ?_, ?_, ?_, ?_, ?_, (setc_ne (by omega) (setc_ne (by omega) (setc_ne (by omega) (setc_ne (by omega) (setc_ne (by omega) (setc_ne (by omega) (setc_ne (by omega) h.c7))))))), (setc_ne (by omega) (setc_ne (by omega) (setc_ne (by omega) (setc_ne (by omega) (setc_ne (by omega) (setc_ne (by omega) (setc_ne (by omega) h.c8))))))), (setc_ne (by omega) (setc_ne (by omega) (setc_ne (by omega) (setc_ne (by omega) (setc_ne (by omega) (setc_ne (by omega) (setc_ne (by omega) h.c9))))))), (setc_ne (by omega) (setc_ne (by omega) (setc_ne (by omega) (setc_ne (by omega) (setc_ne (by omega) (setc_ne (by omega) (setc_ne (by omega) h.c10))))))), (setc_ne (by omega) (setc_ne (by omega) (setc_ne (by omega) (setc_ne (by omega) (setc_ne (by omega) (setc_ne (by omega) (setc_ne (by omega) h.c11))))))), (setc_ne (by omega) (setc_ne (by omega) (setc_ne (by omega) (setc_ne (by omega) (setc_ne (by omega) (setc_ne (by omega) (setc_ne (by omega) h.c12))))))), (setc_ne (by omega) (setc_ne (by omega) (setc_ne (by omega) (setc_ne (by omega) (setc_ne (by omega) (setc_ne (by omega) (setc_ne (by omega) h.c13))))))), (setc_ne (by omega) (setc_ne (by omega) (setc_ne (by omega) (setc_ne (by omega) (setc_ne (by omega) (setc_ne (by omega) (setc_ne (by omega) h.c14))))))), (setc_ne (by omega) (setc_ne (by omega) (setc_ne (by omega) (setc_ne (by omega) (setc_ne (by omega) (setc_ne (by omega) (setc_ne (by omega) h.c15))))))), by rw [World.frozen?_setCells]; exact h.f0, by rw [World.frozen?_setCells]; exact h.f1, by rw [World.frozen?_setCells]; exact h.f2, by rw [World.frozen?_setCells]; exact h.f3, by rw [World.frozen?_setCells]; exact h.f4, by rw [World.frozen?_setCells]; exact h.f5, by rw [World.frozen?_setCells]; exact h.f6⟩
  · have q := hin 0 (by simp); simpa using q
  · have q := hin 1 (by simp); simpa using q
  · have q := hin 2 (by simp); simpa using q
  · have q := hin 3 (by simp); simpa using q
  · have q := hin 4 (by simp); simpa using q
  · have q := hin 5 (by simp); simpa using q
  · have q := hin 6 (by simp); simpa using q

/-- A known cell is told as it is. -/
def RK (x : VT) (a : Option Addr) (c : Nat) (p : Option Addr) (f : Int) (w : World) (e : Ending) (w' : World) : Prop := e = .returned (.tuple #[.agg #[.int .i64 x.kind, .int .i64 x.num, .string x.text, .slice a x.items.length c], .pointer p, .bool true, .int .i64 f, .int .i64 0]) ∧ Below w.heap.size w w'

set_option maxRecDepth 100000 in
set_option maxHeartbeats 8000000 in
theorem rforce_known (b q : Nat) (f kd : Int) (x z : VT) (uz : Value) (a : Option Addr) (c : Nat) (p : Option Addr) (w : World) (h : DB w b true true x (.slice a x.items.length c) p kd q z uz) :
    Calls Try.prog 40 #[.pointer (some ⟨b, 0, none⟩), .int .i64 f] w (RK x a c p f w) := by
  obtain ⟨W0, hW0⟩ : ∃ W0, W0 = zbox w := ⟨_, rfl⟩
  have HW0 : Hid (W0 = w.alloc (.cells #[.int .i64 0, .int .i64 0, .string ⟨#[]⟩, .slice none 0 0] 38)) := hW0
  have hb0 : Below w.heap.size w W0 := by rw [hW0]; exact zbox_below w
  have HZ : Hid (Bx W0 w.heap.size zeroT (.slice none 0 0)) := by rw [hW0]; exact zbox_bx w
  have HS : Hid (W0.heap.size = w.heap.size + 1) := by rw [hW0]; exact zbox_size w
  have HD : Hid (DB W0 b true true x (.slice a x.items.length c) p kd q z uz) := h.keeps hb0
  obtain ⟨k0, k1, k2, k3, k4, k5, k6, _, _, _, _, _, _, _, _, _, _, _, _, _, _, _, _⟩ := HD.out
  obtain ⟨z0, z1, z2, z3, g0, g1, g2, g3⟩ := HZ.out
  have HE : Hid (RK x a c p f w (.returned (.tuple #[.agg #[.int .i64 x.kind, .int .i64 x.num, .string x.text, .slice a x.items.length c], .pointer p, .bool true, .int .i64 f, .int .i64 0])) (W0.setCells w.heap.size 0 (encP (x, .slice a x.items.length c))).drew) := ⟨rfl, by
    have hB := hb0
    exact ((((hB.setCell (p := ⟨w.heap.size, 0, none⟩) (by simp) _).setCell (p := ⟨w.heap.size, 0 + 1, none⟩) (by simp) _).setCell (p := ⟨w.heap.size, 0 + 1 + 1, none⟩) (by simp) _).setCell (p := ⟨w.heap.size, 0 + 1 + 1 + 1, none⟩) (by simp) _).drew⟩
  have Hq : Hid (Bx (W0.setCells w.heap.size 0 (encP (x, .slice a x.items.length c))).drew w.heap.size x (.slice a x.items.length c)) := (HZ.out.put (x, .slice a x.items.length c)).keeps (Below.refl _ _).drew
  have hbn : b ≠ w.heap.size := by have := h.lt; omega
  clear hW0 h hb0 HS HD
  go_enter Try.func40, Try.ntmps40
  go_upto_region 1 with fail
  rw [← HW0.out]
  clear HW0
  go_wp2_with fail
  go_region
  go_wp2_with fail
  refine bodyPost_ret (v := .tuple #[.agg #[.int .i64 x.kind, .int .i64 x.num, .string x.text, .slice a x.items.length c], .pointer p, .bool true, .int .i64 f, .int .i64 0]) ?_ rfl HE.out
  obtain ⟨q0, q1, q2, q3, _, _, _, _⟩ := Hq.out
  simp only [World.setCells, encP, Nat.zero_add, Nat.reduceAdd] at q0 q1 q2 q3
  simp [results, Try.results40, go_sem, q0, q1, q2, q3]

set_option maxRecDepth 100000 in
set_option maxHeartbeats 8000000 in
theorem rforce_dry (b q : Nat) (kd : Int) (z : VT) (uz : Value) (w : World) (h : DB w b false false zeroT (.slice none 0 0) none kd q z uz) :
    Calls Try.prog 40 #[.pointer (some ⟨b, 0, none⟩), .int .i64 0] w (FNil 0 220 w) := by
  obtain ⟨W0, hW0⟩ : ∃ W0, W0 = zbox w := ⟨_, rfl⟩
  have HW0 : Hid (W0 = w.alloc (.cells #[.int .i64 0, .int .i64 0, .string ⟨#[]⟩, .slice none 0 0] 38)) := hW0
  have hb0 : Below w.heap.size w W0 := by rw [hW0]; exact zbox_below w
  have HZ : Hid (Bx W0 w.heap.size zeroT (.slice none 0 0)) := by rw [hW0]; exact zbox_bx w
  have HS : Hid (W0.heap.size = w.heap.size + 1) := by rw [hW0]; exact zbox_size w
  have HD : Hid (DB W0 b false false zeroT (.slice none 0 0) none kd q z uz) := h.keeps hb0
  obtain ⟨k0, _, _, _, _, _, _, _, _, _, _, _, _, _, _, _, _, _, _, _, _, _, _⟩ := HD.out
  obtain ⟨z0, z1, z2, z3, g0, g1, g2, g3⟩ := HZ.out
  have HE : Hid (FNil 0 220 w (.returned (.tuple #[.agg #[.int .i64 0, .int .i64 0, .string ⟨#[]⟩, .slice none 0 0], .pointer none, .bool false, .int .i64 0, .int .i64 220])) (W0.setCells w.heap.size 0 (encP (zeroT, .slice none 0 0)))) := ⟨none, 0, rfl, by
    have hB := hb0
    exact ((((hB.setCell (p := ⟨w.heap.size, 0, none⟩) (by simp) _).setCell (p := ⟨w.heap.size, 0 + 1, none⟩) (by simp) _).setCell (p := ⟨w.heap.size, 0 + 1 + 1, none⟩) (by simp) _).setCell (p := ⟨w.heap.size, 0 + 1 + 1 + 1, none⟩) (by simp) _)⟩
  have Hq : Hid (Bx (W0.setCells w.heap.size 0 (encP (zeroT, .slice none 0 0))) w.heap.size zeroT (.slice none 0 0)) := HZ.out.put (zeroT, .slice none 0 0)
  clear hW0 h hb0 HS HD
  go_enter Try.func40, Try.ntmps40
  go_upto_region 1 with fail
  rw [← HW0.out]
  clear HW0
  go_wp2_with fail
  refine bodyPost_ret (v := .tuple #[.agg #[.int .i64 0, .int .i64 0, .string ⟨#[]⟩, .slice none 0 0], .pointer none, .bool false, .int .i64 0, .int .i64 220]) ?_ rfl HE.out
  obtain ⟨q0, q1, q2, q3, _, _, _, _⟩ := Hq.out
  simp only [World.setCells, encP, Nat.zero_add, Nat.reduceAdd] at q0 q1 q2 q3
  simp [results, Try.results40, go_sem, q0, q1, q2, q3]

/-- Behind the document's force of a cell of Iter. -/
def RForce (X : Nat → Prop) (q : Nat) (x : VT) (f b : Nat) (kd : Int) (z : VT) (uz : Value) (w : World) (e : Ending) (w' : World) : Prop :=
  KC (fun j => j = b) w w' ∧ ∃ a1 c1 b', e = .returned (.tuple #[.agg #[.int .i64 x.kind, .int .i64 x.num, .string x.text, .slice a1 x.items.length c1], .pointer (some ⟨b', 0, none⟩), .bool true, .int .i64 (f : Int), .int .i64 0]) ∧ w.heap.size ≤ b' ∧ DB w' b true true x (.slice a1 x.items.length c1) (some ⟨b', 0, none⟩) kd q z uz ∧ DB w' b' false false zeroT (.slice none 0 0) none 13 q x (.slice a1 x.items.length c1) ∧ LiesX (fun n => (X n ∧ n < w.heap.size) ∨ (w.heap.size ≤ n ∧ n ≠ b')) 16 w' x.items (.slice a1 x.items.length c1)

set_option maxRecDepth 100000 in
set_option maxHeartbeats 8000000 in
theorem rforce_lazy (X : Nat → Prop) (q f b : Nat) (hf : f < 1073741824) (kd : Int) (x z : VT) (uz : Value) (hX : ¬ X b) (w : World) (hXw : ∀ n, X n → n < w.heap.size) (h : DB w b false false zeroT (.slice none 0 0) none kd q z uz)
    (hs : ∀ V, Below w.heap.size w V → Calls Try.prog 52 #[.pointer (some ⟨b, 0, none⟩), .int .i64 (f : Int)] V (RStep X q x f V)) :
    Calls Try.prog 40 #[.pointer (some ⟨b, 0, none⟩), .int .i64 ((f + 1 : Nat) : Int)] w (RForce X q x f b kd z uz w) := by
  obtain ⟨W0, hW0⟩ : ∃ W0, W0 = zbox w := ⟨_, rfl⟩
  have HW0 : Hid (W0 = w.alloc (.cells #[.int .i64 0, .int .i64 0, .string ⟨#[]⟩, .slice none 0 0] 38)) := hW0
  have hb0 : Below w.heap.size w W0 := by rw [hW0]; exact zbox_below w
  have HZ : Hid (Bx W0 w.heap.size zeroT (.slice none 0 0)) := by rw [hW0]; exact zbox_bx w
  have HS : Hid (W0.heap.size = w.heap.size + 1) := by rw [hW0]; exact zbox_size w
  have HD : Hid (DB W0 b false false zeroT (.slice none 0 0) none kd q z uz) := h.keeps hb0
  have HSt : Hid (Calls Try.prog 52 #[.pointer (some ⟨b, 0, none⟩), .int .i64 (f : Int)] W0 (RStep X q x f W0)) := hs W0 hb0
  obtain ⟨k0, _, _, _, _, _, _, _, _, _, _, _, _, _, _, _, _, _, _, _, _, _, _⟩ := HD.out
  have e1 : IntKind.i64.wrap (((f + 1 : Nat) : Int) - 1) = (f : Int) := by rw [IntKind.wrap_i64]; omega
  have e0 : ¬ ((f + 1 : Nat) : Int) < 1 := by omega
  have hbl := h.lt
  have HX : Hid (¬ X b ∧ ∀ n, X n → n < w.heap.size) := ⟨hX, hXw⟩
  have Hb0 : Hid (Below w.heap.size w W0 ∧ b < w.heap.size) := ⟨hb0, hbl⟩
  obtain ⟨F, hF⟩ : ∃ F : Int, F = ((f + 1 : Nat) : Int) := ⟨_, rfl⟩
  rw [← hF] at e1 e0 ⊢
  clear hF hW0 h hb0 hs hbl hX hXw
  go_enter Try.func40, Try.ntmps40
  go_upto_region 1 with fail
  rw [← HW0.out]
  clear HW0
  go_wp2_with fail
  refine Calls.mono HSt.out ?_
  rintro e w1 ⟨hg1, a1, c1, b', rfl, hb', hdb', hlx⟩
  have hsz := HS.out
  have hbb := Hb0.out
  obtain ⟨n9, hn9⟩ : ∃ n9, n9 = w1.heap.size := ⟨_, rfl⟩
  obtain ⟨W2, hW2⟩ : ∃ W2, W2 = w1.alloc (.cells #[.int .i64 x.kind, .int .i64 x.num, .string x.text, .slice a1 x.items.length c1] 38) := ⟨_, rfl⟩
  have HW2 : Hid (W2 = w1.alloc (.cells #[.int .i64 x.kind, .int .i64 x.num, .string x.text, .slice a1 x.items.length c1] 38)) := hW2
  have hal : Below w1.heap.size w1 W2 := by rw [hW2]; exact ((Grew.refl _).alloc _).below
  have hg2 : Below W0.heap.size W0 W2 := hg1.trans (hal.mono hg1.size)
  have hs1 := hg1.size
  have HB9 : Hid (Bx W2 n9 x (.slice a1 x.items.length c1)) := by rw [hW2, hn9]; exact bx_alloc _ _ _
  have HD2 : Hid (DB W2 b false false zeroT (.slice none 0 0) none kd q z uz) := HD.out.keeps hg2
  have HN2 : Hid (DB W2 b' false false zeroT (.slice none 0 0) none 13 q x (.slice a1 x.items.length c1)) := hdb'.keeps hal
  have HL2 : Hid (LiesX (fun n => X n ∨ (W0.heap.size ≤ n ∧ n ≠ b')) 16 W2 x.items (.slice a1 x.items.length c1)) := LiesX.mono (fun n hn => by rcases hn with ⟨h1, _⟩ | h1; exact .inl h1; exact .inr h1) (hlx.keeps hal)
  have HZ2 : Hid (Bx W2 w.heap.size zeroT (.slice none 0 0)) := HZ.out.keeps hg2
  have hb9 : n9 ≠ b := by omega
  have hbw : b ≠ w.heap.size := by omega
  have hbb' : b' ≠ b := by omega
  obtain ⟨W3, hW3⟩ : ∃ W3, W3 = W2.setCells b 0 [.bool true, .bool true, .int .i64 x.kind, .int .i64 x.num, .string x.text, .slice a1 x.items.length c1, .pointer (some ⟨b', 0, none⟩)] := ⟨_, rfl⟩
  have HW3 : Hid (W3 = ((((((W2.setCell ⟨b, 0, none⟩ (.bool true)).setCell ⟨b, 1, none⟩ (.bool true)).setCell ⟨b, 2, none⟩ (.int .i64 x.kind)).setCell ⟨b, 3, none⟩ (.int .i64 x.num)).setCell ⟨b, 4, none⟩ (.string x.text)).setCell ⟨b, 5, none⟩ (.slice a1 x.items.length c1)).setCell ⟨b, 6, none⟩ (.pointer (some ⟨b', 0, none⟩))) := hW3
  have HD3 : Hid (DB W3 b true true x (.slice a1 x.items.length c1) (some ⟨b', 0, none⟩) kd q z uz) := by rw [hW3]; exact HD2.out.put x (.slice a1 x.items.length c1) (some ⟨b', 0, none⟩)
  have HN3 : Hid (DB W3 b' false false zeroT (.slice none 0 0) none 13 q x (.slice a1 x.items.length c1)) := by rw [hW3]; exact HN2.out.other hbb' _
  have HL3 : Hid (LiesX (fun n => X n ∨ (W0.heap.size ≤ n ∧ n ≠ b')) 16 W3 x.items (.slice a1 x.items.length c1)) := by
    rw [hW3]
    refine LiesX.set (g := b) (o := 0) ?_ HL2.out
    rintro (h | h)
    · exact HX.out.1 h
    · omega
  have HZ3 : Hid (Bx W3 w.heap.size zeroT (.slice none 0 0)) := by rw [hW3]; exact HZ2.out.other (fun e => hbw e.symm) _
  have HK3 : Hid (KC (fun j => j = b) w W3) := by
    rw [hW3]
    exact (KC.set (B := fun j => j = b) (o := 0 + 1 + 1 + 1 + 1 + 1 + 1) (KC.set (B := fun j => j = b) (o := 0 + 1 + 1 + 1 + 1 + 1) (KC.set (B := fun j => j = b) (o := 0 + 1 + 1 + 1 + 1) (KC.set (B := fun j => j = b) (o := 0 + 1 + 1 + 1) (KC.set (B := fun j => j = b) (o := 0 + 1 + 1) (KC.set (B := fun j => j = b) (o := 0 + 1) (KC.set (B := fun j => j = b) (o := 0) ((KC.of_below hbb.1).trans (KC.of_below hg2)) (.inl rfl) _) (.inl rfl) _) (.inl rfl) _) (.inl rfl) _) (.inl rfl) _) (.inl rfl) _) (.inl rfl) _)
  have Hbb : Hid (w.heap.size ≤ b' ∧ b' ≠ w.heap.size ∧ b < w.heap.size) := ⟨by omega, by omega, hbb.2⟩
  obtain ⟨y0, y1, y2, y3, _, _, _, _⟩ := HB9.out
  obtain ⟨k0, k1, k2, k3, k4, k5, k6, _, _, _, _, _, _, _, _, _, f0, f1, f2, f3, f4, f5, f6⟩ := HD2.out
  clear hg1 hb' hdb' hlx hsz hbb hal hg2 hs1 hW2 hW3 HSt HD HZ
  go_upto_region 7 with fail
  rw [← HW2.out, ← hn9]
  clear HW2 hn9
  go_upto_region 14 with fail
  rw [← HW3.out]
  clear HW3 k0 k1 k2 k3 k4 k5 k6 f0 f1 f2 f3 f4 f5 f6 y0 y1 y2 y3 HD2 HN2 HL2 HZ2 HB9
  obtain ⟨k0, k1, k2, k3, k4, k5, k6, _, _, _, _, _, _, _, _, _, _, _, _, _, _, _, _⟩ := HD3.out
  obtain ⟨z0, z1, z2, z3, g0, g1, g2, g3⟩ := HZ3.out
  have HE : Hid (RForce X q x f b kd z uz w (.returned (.tuple #[.agg #[.int .i64 x.kind, .int .i64 x.num, .string x.text, .slice a1 x.items.length c1], .pointer (some ⟨b', 0, none⟩), .bool true, .int .i64 (f : Int), .int .i64 0])) (W3.setCells w.heap.size 0 (encP (x, .slice a1 x.items.length c1))).drew) := by
    have hh := Hbb.out
    have hws := HS.out
    refine ⟨KC.drew (KC.set (B := fun j => j = b) (o := 0 + 1 + 1 + 1) (KC.set (B := fun j => j = b) (o := 0 + 1 + 1) (KC.set (B := fun j => j = b) (o := 0 + 1) (KC.set (B := fun j => j = b) (o := 0) HK3.out (.inr (Nat.le_refl _)) _) (.inr (Nat.le_refl _)) _) (.inr (Nat.le_refl _)) _) (.inr (Nat.le_refl _)) _), a1, c1, b', rfl, hh.1, (HD3.out.other hbw _).keeps (Below.refl _ _).drew, (HN3.out.other hh.2.1 _).keeps (Below.refl _ _).drew, ?_⟩
    refine LiesX.keeps (Below.refl _ _).drew (LiesX.mono (fun n hn => ?_) (LiesX.set (g := w.heap.size) (o := 0) (vs := encP (x, .slice a1 x.items.length c1)) ?_ HL3.out))
    · rcases hn with h | h
      · exact .inl ⟨h, HX.out.2 n h⟩
      · exact .inr ⟨by omega, h.2⟩
    · rintro (h | h)
      · have := HX.out.2 _ h; omega
      · omega
  have Hq : Hid (Bx (W3.setCells w.heap.size 0 (encP (x, .slice a1 x.items.length c1))).drew w.heap.size x (.slice a1 x.items.length c1)) := (HZ3.out.put (x, .slice a1 x.items.length c1)).keeps (Below.refl _ _).drew
  clear HD3 HN3 HL3 HZ3 HK3 Hbb HX HS Hb0
  go_wp2_with fail
  go_region
  go_wp2_with fail
  refine bodyPost_ret (v := .tuple #[.agg #[.int .i64 x.kind, .int .i64 x.num, .string x.text, .slice a1 x.items.length c1], .pointer (some ⟨b', 0, none⟩), .bool true, .int .i64 (f : Int), .int .i64 0]) ?_ rfl HE.out
  obtain ⟨q0, q1, q2, q3, _, _, _, _⟩ := Hq.out
  simp only [World.setCells, encP, Nat.zero_add, Nat.reduceAdd] at q0 q1 q2 q3
  simp [results, Try.results40, go_sem, q0, q1, q2, q3]

end Go.Proofs.Ytnjgolibmllhnaa

namespace Go.Proofs.Ytnjgolibmllhnaa
open Go.RowKit Go.Shelf

/-- The wrapper tells what force tells. -/
def RF (B : Nat → Prop) (P2 : World → Prop) (x : VT) (a : Option Addr) (c : Nat) (p : Option Addr) (t : Bool) (l E : Int) (_w : World) (e : Ending) (w' : World) : Prop :=
  e = .returned (.tuple #[.agg #[.int .i64 x.kind, .int .i64 x.num, .string x.text, .slice a x.items.length c], .pointer p, .bool t, .int .i64 l, .int .i64 E]) ∧ ∃ w2, P2 w2 ∧ KC B w2 w'

set_option maxRecDepth 100000 in
set_option maxHeartbeats 8000000 in
theorem rForce_of (b : Nat) (f : Nat) (hf : f ≤ 1073741824) (P : VT → Option Addr → Nat → Option Addr → Bool → Int → Int → World → Prop) (w : World)
    (h : Calls Try.prog 40 #[.pointer (some ⟨b, 0, none⟩), .int .i64 (f : Int)] (zbox w) fun e w2 => ∃ x a c p t l E, e = .returned (.tuple #[.agg #[.int .i64 x.kind, .int .i64 x.num, .string x.text, .slice a x.items.length c], .pointer p, .bool t, .int .i64 l, .int .i64 E]) ∧ P x a c p t l E w2 ∧ Bx w2 w.heap.size zeroT (.slice none 0 0)) :
    Calls Try.prog 27 #[.pointer (some ⟨b, 0, none⟩), .int .i64 (f : Int)] w fun e w' => ∃ x a c p t l E, RF (fun j => j = w.heap.size) (P x a c p t l E) x a c p t l E w e w' := by
  obtain ⟨W0, hW0⟩ : ∃ W0, W0 = zbox w := ⟨_, rfl⟩
  have HW0 : Hid (W0 = w.alloc (.cells #[.int .i64 0, .int .i64 0, .string ⟨#[]⟩, .slice none 0 0] 38)) := hW0
  have HF : Hid _ := h
  rw [← hW0] at HF
  have h0 : ¬ (f : Int) < 0 := by omega
  have h1 : ¬ (1073741824 : Int) < (f : Int) := by omega
  clear hW0 h hf
  go_enter Try.func27, Try.ntmps27
  go_upto_region 1 with fail
  rw [← HW0.out]
  clear HW0
  go_wp2_with fail
  refine Calls.mono HF.out ?_
  rintro e w2 ⟨x, a, c, p, t, l, E, rfl, hP, hbx⟩
  have HE : Hid (∃ x' a' c' p' t' l' E', RF (fun j => j = w.heap.size) (P x' a' c' p' t' l' E') x' a' c' p' t' l' E' w (.returned (.tuple #[.agg #[.int .i64 x.kind, .int .i64 x.num, .string x.text, .slice a x.items.length c], .pointer p, .bool t, .int .i64 l, .int .i64 E])) (w2.setCells w.heap.size 0 (encP (x, .slice a x.items.length c)))) := ⟨x, a, c, p, t, l, E, rfl, w2, hP, (KC.set (B := fun j => j = w.heap.size) (o := 0 + 1 + 1 + 1) (KC.set (B := fun j => j = w.heap.size) (o := 0 + 1 + 1) (KC.set (B := fun j => j = w.heap.size) (o := 0 + 1) (KC.set (B := fun j => j = w.heap.size) (o := 0) (KC.refl _ w2) (.inl rfl) _) (.inl rfl) _) (.inl rfl) _) (.inl rfl) _)⟩
  have Hq : Hid (Bx (w2.setCells w.heap.size 0 (encP (x, .slice a x.items.length c))) w.heap.size x (.slice a x.items.length c)) := hbx.put (x, .slice a x.items.length c)
  obtain ⟨z0, z1, z2, z3, g0, g1, g2, g3⟩ := hbx
  clear hP HF
  go_wp2_with fail
  refine bodyPost_ret (v := .tuple #[.agg #[.int .i64 x.kind, .int .i64 x.num, .string x.text, .slice a x.items.length c], .pointer p, .bool t, .int .i64 l, .int .i64 E]) ?_ rfl HE.out
  obtain ⟨q0, q1, q2, q3, _, _, _, _⟩ := Hq.out
  simp only [World.setCells, encP, Nat.zero_add, Nat.reduceAdd] at q0 q1 q2 q3
  simp [results, Try.results27, go_sem, q0, q1, q2, q3]

end Go.Proofs.Ytnjgolibmllhnaa

namespace Go.Proofs.Ytnjgolibmllhnaa
open Go.RowKit Go.Shelf

theorem rForce_d (b q : Nat) (kd : Int) (z : VT) (uz : Value) (w : World) (h : DB w b false false zeroT (.slice none 0 0) none kd q z uz) :
    Calls Try.prog 27 #[.pointer (some ⟨b, 0, none⟩), .int .i64 0] w (FNil 0 220 w) := by
  have h1 := rforce_dry b q kd z uz (zbox w) (h.keeps (zbox_below w))
  have h2 := rForce_of b 0 (by omega) (fun x a c p t l E w2 => x = zeroT ∧ p = none ∧ t = false ∧ l = 0 ∧ E = 220 ∧ Below (zbox w).heap.size (zbox w) w2) w (Calls.mono h1 fun e w2 hp => by
    obtain ⟨a, c, he, hb⟩ := hp
    exact ⟨zeroT, a, c, none, false, 0, 220, he, ⟨rfl, rfl, rfl, rfl, rfl, hb⟩, (zbox_bx w).keeps hb⟩)
  refine Calls.mono h2 ?_
  rintro e w' ⟨x, a, c, p, t, l, E, rfl, w2, ⟨rfl, rfl, rfl, rfl, rfl, hb⟩, hk⟩
  have hb2 : Below w.heap.size w w2 := (zbox_below w).trans (hb.mono (zbox_below w).size)
  exact ⟨a, c, rfl, hb2.trans (hk.below (fun j hj => by omega) hb2.size)⟩

end Go.Proofs.Ytnjgolibmllhnaa

namespace Go.Proofs.Ytnjgolibmllhnaa
open Go.RowKit Go.Shelf

set_option maxRecDepth 100000 in
set_option maxHeartbeats 4000000 in
theorem rempty_any (w : World) : Calls Try.prog 36 #[] w fun e w' => e = .returned (.pointer (some ⟨w.heap.size, 0, none⟩)) ∧ Below w.heap.size w w' ∧ DB w' w.heap.size true false zeroT (.slice none 0 0) none 0 0 zeroT (.slice none 0 0) := by
  have HE : Hid (Below w.heap.size w (w.alloc (.cells #[.bool true, .bool false, .int .i64 0, .int .i64 0, .string ⟨#[]⟩, .slice none 0 0, .pointer none, .int .i64 0, .int .i64 0, .int .i64 0, .int .i64 0, .int .i64 0, .string ⟨#[]⟩, .slice none 0 0, .slice none 0 0, .slice none 0 0] 77)) ∧ DB (w.alloc (.cells #[.bool true, .bool false, .int .i64 0, .int .i64 0, .string ⟨#[]⟩, .slice none 0 0, .pointer none, .int .i64 0, .int .i64 0, .int .i64 0, .int .i64 0, .int .i64 0, .string ⟨#[]⟩, .slice none 0 0, .slice none 0 0, .slice none 0 0] 77)) w.heap.size true false zeroT (.slice none 0 0) none 0 0 zeroT (.slice none 0 0)) := ⟨((Grew.refl _).alloc _).below, db_alloc w 77 true false zeroT (.slice none 0 0) none 0 0 zeroT (.slice none 0 0)⟩
  go_enter Try.func36, Try.ntmps36
  go_wp2_with fail
  go_ret
  exact ⟨rfl, HE.out⟩

/-- The program's chain of known cells. -/
def ChP (w : World) : List VT → Nat → Prop
  | [], b => CB w b .nilIface 0 zeroT (.slice none 0 0) none
  | x :: xs, b => ∃ a c b', CB w b .nilIface 0 x (.slice a x.items.length c) (some ⟨b', 0, none⟩) ∧ Lies 16 w x.items (.slice a x.items.length c) ∧ rightV 16 x = true ∧ ChP w xs b'

/-- The document's. -/
def ChD (w : World) : List VT → Nat → Prop
  | [], b => DB w b true false zeroT (.slice none 0 0) none 0 0 zeroT (.slice none 0 0)
  | x :: xs, b => ∃ a c b', DB w b true true x (.slice a x.items.length c) (some ⟨b', 0, none⟩) 0 0 zeroT (.slice none 0 0) ∧ Lies 16 w x.items (.slice a x.items.length c) ∧ ChD w xs b'

theorem ChP.keeps {w w' : World} (hb : Below w.heap.size w w') : ∀ (xs : List VT) (b : Nat), ChP w xs b → ChP w' xs b
  | [], _, h => CB.keeps h hb
  | _ :: xs, _, ⟨a, c, b', h1, h2, h3, h4⟩ => ⟨a, c, b', h1.keeps hb, Lies.keeps hb _ _ _ h2, h3, ChP.keeps hb xs b' h4⟩

theorem ChD.keeps {w w' : World} (hb : Below w.heap.size w w') : ∀ (xs : List VT) (b : Nat), ChD w xs b → ChD w' xs b
  | [], _, h => DB.keeps h hb
  | _ :: xs, _, ⟨a, c, b', h1, h2, h4⟩ => ⟨a, c, b', h1.keeps hb, Lies.keeps hb _ _ _ h2, ChD.keeps hb xs b' h4⟩

theorem ChP.c0 {w : World} : ∀ {xs : List VT} {b : Nat}, ChP w xs b → w.cell? ⟨b, 0, none⟩ = some .nilIface
  | [], _, h => CB.c0 h
  | _ :: _, _, ⟨_, _, _, h1, _⟩ => h1.c0

set_option maxRecDepth 100000 in
set_option maxHeartbeats 8000000 in
theorem rforce_empty (b : Nat) (f : Int) (w : World) (h : DB w b true false zeroT (.slice none 0 0) none 0 0 zeroT (.slice none 0 0)) :
    Calls Try.prog 40 #[.pointer (some ⟨b, 0, none⟩), .int .i64 f] w (FNil f 0 w) := by
  obtain ⟨W0, hW0⟩ : ∃ W0, W0 = zbox w := ⟨_, rfl⟩
  have HW0 : Hid (W0 = w.alloc (.cells #[.int .i64 0, .int .i64 0, .string ⟨#[]⟩, .slice none 0 0] 38)) := hW0
  have hb0 : Below w.heap.size w W0 := by rw [hW0]; exact zbox_below w
  have HZ : Hid (Bx W0 w.heap.size zeroT (.slice none 0 0)) := by rw [hW0]; exact zbox_bx w
  have k0 := (h.keeps hb0).c0
  have k1 := (h.keeps hb0).c1
  obtain ⟨z0, z1, z2, z3, g0, g1, g2, g3⟩ := HZ.out
  have HE : Hid (FNil f 0 w (.returned (.tuple #[.agg #[.int .i64 0, .int .i64 0, .string ⟨#[]⟩, .slice none 0 0], .pointer none, .bool false, .int .i64 f, .int .i64 0])) (W0.setCells w.heap.size 0 (encP (zeroT, .slice none 0 0)))) := ⟨none, 0, rfl, (((hb0.setCell (p := ⟨w.heap.size, 0, none⟩) (by simp) _).setCell (p := ⟨w.heap.size, 0 + 1, none⟩) (by simp) _).setCell (p := ⟨w.heap.size, 0 + 1 + 1, none⟩) (by simp) _).setCell (p := ⟨w.heap.size, 0 + 1 + 1 + 1, none⟩) (by simp) _⟩
  have Hq : Hid (Bx (W0.setCells w.heap.size 0 (encP (zeroT, .slice none 0 0))) w.heap.size zeroT (.slice none 0 0)) := HZ.out.put (zeroT, .slice none 0 0)
  clear hW0 h hb0
  go_enter Try.func40, Try.ntmps40
  go_upto_region 1 with fail
  rw [← HW0.out]
  clear HW0
  go_wp2_with fail
  refine bodyPost_ret (v := .tuple #[.agg #[.int .i64 0, .int .i64 0, .string ⟨#[]⟩, .slice none 0 0], .pointer none, .bool false, .int .i64 f, .int .i64 0]) ?_ rfl HE.out
  obtain ⟨q0, q1, q2, q3, _, _, _, _⟩ := Hq.out
  simp only [World.setCells, encP, Nat.zero_add, Nat.reduceAdd] at q0 q1 q2 q3
  simp [results, Try.results40, go_sem, q0, q1, q2, q3]

theorem rForce_empty (b f : Nat) (hf : f ≤ 1073741824) (w : World) (h : DB w b true false zeroT (.slice none 0 0) none 0 0 zeroT (.slice none 0 0)) :
    Calls Try.prog 27 #[.pointer (some ⟨b, 0, none⟩), .int .i64 (f : Int)] w (FNil f 0 w) := by
  have h1 := rforce_empty b f (zbox w) (h.keeps (zbox_below w))
  have h2 := rForce_of b f hf (fun x a c p t l E w2 => x = zeroT ∧ p = none ∧ t = false ∧ l = (f : Int) ∧ E = 0 ∧ Below (zbox w).heap.size (zbox w) w2) w (Calls.mono h1 fun e w2 hp => by
    obtain ⟨a, c, he, hb⟩ := hp
    exact ⟨zeroT, a, c, none, false, f, 0, he, ⟨rfl, rfl, rfl, rfl, rfl, hb⟩, (zbox_bx w).keeps hb⟩)
  refine Calls.mono h2 ?_
  rintro e w' ⟨x, a, c, p, t, l, E, rfl, w2, ⟨rfl, rfl, rfl, rfl, rfl, hb⟩, hk⟩
  have hb2 : Below w.heap.size w w2 := (zbox_below w).trans (hb.mono (zbox_below w).size)
  exact ⟨a, c, rfl, hb2.trans (hk.below (fun j hj => by omega) hb2.size)⟩

theorem rForce_known (b f q : Nat) (kd : Int) (hf : f ≤ 1073741824) (x z : VT) (uz : Value) (a : Option Addr) (c : Nat) (p : Option Addr) (w : World) (h : DB w b true true x (.slice a x.items.length c) p kd q z uz) :
    Calls Try.prog 27 #[.pointer (some ⟨b, 0, none⟩), .int .i64 (f : Int)] w (RK x a c p f w) := by
  have h1 := rforce_known b q f kd x z uz a c p (zbox w) (h.keeps (zbox_below w))
  have h2 := rForce_of b f hf (fun x' a' c' p' t l E w2 => x' = x ∧ a' = a ∧ c' = c ∧ p' = p ∧ t = true ∧ l = (f : Int) ∧ E = 0 ∧ Below (zbox w).heap.size (zbox w) w2) w (Calls.mono h1 fun e w2 hp => ⟨x, a, c, p, true, f, 0, hp.1, ⟨rfl, rfl, rfl, rfl, rfl, rfl, rfl, hp.2⟩, (zbox_bx w).keeps hp.2⟩)
  refine Calls.mono h2 ?_
  rintro e w' ⟨x', a', c', p', t, l, E, rfl, w2, ⟨rfl, rfl, rfl, rfl, rfl, rfl, rfl, hb⟩, hk⟩
  have hb2 : Below w.heap.size w w2 := (zbox_below w).trans (hb.mono (zbox_below w).size)
  exact ⟨rfl, hb2.trans (hk.below (fun j hj => by omega) hb2.size)⟩

end Go.Proofs.Ytnjgolibmllhnaa

namespace Go.Proofs.Ytnjgolibmllhnaa
open Go.RowKit Go.Shelf

/-- What is behind the known cells: nothing, or an item that a function goes on from. -/
abbrev Tl := Option (Nat × VT)

/-- How cells lie: known ones, empty ones, those of Iter. -/
structure CK where
  kn : World → Nat → VT → Value → Nat → Prop
  en : World → Nat → Prop
  lz : World → Nat → Nat → VT → VT → Value → Prop
  knl : ∀ {w b x u p}, kn w b x u p → b < w.heap.size
  enl : ∀ {w b}, en w b → b < w.heap.size
  lzl : ∀ {w b q x z u}, lz w b q x z u → b < w.heap.size
  knk : ∀ {B : Nat → Prop} {w w' b x u p}, KC B w w' → ¬ B b → kn w b x u p → kn w' b x u p
  enk : ∀ {B : Nat → Prop} {w w' b}, KC B w w' → ¬ B b → en w b → en w' b
  lzk : ∀ {B : Nat → Prop} {w w' b q x z u}, KC B w w' → ¬ B b → lz w b q x z u → lz w' b q x z u

/-- The program's cells. -/
def pCK : CK where
  kn := fun w b x u p => CB w b .nilIface 0 x u (some ⟨p, 0, none⟩)
  en := fun w b => CB w b .nilIface 0 zeroT (.slice none 0 0) none
  lz := fun w b q x z u => ∃ m, m ≤ 1 ∧ itT (doneT q) m z = x ∧ CB w b (stepV q m z u) 0 zeroT (.slice none 0 0) none
  knl := fun h => h.lt
  enl := fun h => h.lt
  lzl := fun h => by obtain ⟨_, _, _, h⟩ := h; exact h.lt
  knk := fun k n h => k.cb n h
  enk := fun k n h => k.cb n h
  lzk := fun k n h => by obtain ⟨m, h1, h2, h⟩ := h; exact ⟨m, h1, h2, k.cb n h⟩

/-- The document's cells. -/
def dCK : CK where
  kn := fun w b x u p => ∃ kd q z uz, DB w b true true x u (some ⟨p, 0, none⟩) kd q z uz
  en := fun w b => DB w b true false zeroT (.slice none 0 0) none 0 0 zeroT (.slice none 0 0)
  lz := fun w b q x z u => ∃ kd, ((kd = 1 ∧ z = x) ∨ (kd = 13 ∧ doneT q z = x)) ∧ DB w b false false zeroT (.slice none 0 0) none kd q z u
  knl := fun h => by obtain ⟨_, _, _, _, h⟩ := h; exact h.lt
  enl := fun h => h.lt
  lzl := fun h => by obtain ⟨_, _, h⟩ := h; exact h.lt
  knk := fun k n h => by obtain ⟨kd, q, z, uz, h⟩ := h; exact ⟨kd, q, z, uz, k.db n h⟩
  enk := fun k n h => k.db n h
  lzk := fun k n h => by obtain ⟨kd, h1, h⟩ := h; exact ⟨kd, h1, k.db n h⟩

/-- A seq: cells P 0 .. P n, n of them known; all in blocks that Y holds of, the items' lists in none of the cells'. -/
structure Chn (C : CK) (Y : Nat → Prop) (w : World) (vs : List VT) (T : Tl) (P : Nat → Nat) : Prop where
  rights : ∀ x ∈ vs, rightV 16 x = true
  inj : ∀ i j, i ≤ vs.length → j ≤ vs.length → P i = P j → i = j
  inY : ∀ i, i ≤ vs.length → Y (P i)
  known : ∀ i x, vs[i]? = some x → ∃ a c, C.kn w (P i) x (.slice a x.items.length c) (P (i + 1)) ∧ LiesX (fun n => Y n ∧ ∀ j, j ≤ vs.length → n ≠ P j) 16 w x.items (.slice a x.items.length c)
  ende : T = none → C.en w (P vs.length)
  lazy : ∀ q x, T = some (q, x) → q < 8 ∧ rightV 16 x = true ∧ Dp 16 x ∧ ∃ z a c, rightV 16 z = true ∧ C.lz w (P vs.length) q x z (.slice a z.items.length c) ∧ LiesX (fun n => Y n ∧ ∀ j, j ≤ vs.length → n ≠ P j) 16 w z.items (.slice a z.items.length c)

section
variable {C : CK} {Y : Nat → Prop} {w : World} {vs : List VT} {T : Tl} {P : Nat → Nat}

theorem Chn.lt (s : Chn C Y w vs T P) (i : Nat) (hi : i ≤ vs.length) : P i < w.heap.size := by
  by_cases h : i < vs.length
  · obtain ⟨a, c, hc, _⟩ := s.known i _ (List.getElem?_eq_getElem h)
    exact C.knl hc
  · obtain rfl : i = vs.length := by omega
    match T, s with
    | none, s => exact C.enl (s.ende rfl)
    | some (q, x), s =>
      obtain ⟨_, _, _, z, a, c, _, h, _⟩ := s.lazy q x rfl
      exact C.lzl h

theorem Chn.kc (s : Chn C Y w vs T P) {B : Nat → Prop} {w' : World} (hk : KC B w w') (hB : ∀ n, n < w.heap.size → Y n → ¬ B n) : Chn C Y w' vs T P := by
  have hp := fun i hi => hB (P i) (s.lt i hi) (s.inY i hi)
  refine ⟨s.rights, s.inj, s.inY, fun i x hx => ?_, fun e => C.enk hk (hp _ (Nat.le_refl _)) (s.ende e), fun q x e => ?_⟩
  · obtain ⟨a, c, hc, hl⟩ := s.known i x hx
    have hi : i < vs.length := by
      rcases Nat.lt_or_ge i vs.length with h | h
      · exact h
      · rw [List.getElem?_eq_none h] at hx; cases hx
    exact ⟨a, c, C.knk hk (hp i (by omega)) hc, LiesX.mono (fun n hn => hn.1) (hk.liesX (fun n hn => hB n hn.2 hn.1.1) hl.both)⟩
  · obtain ⟨h1, h2, h3, z, a, c, h4, h5, hl⟩ := s.lazy q x e
    exact ⟨h1, h2, h3, z, a, c, h4, C.lzk hk (hp _ (Nat.le_refl _)) h5, LiesX.mono (fun n hn => hn.1) (hk.liesX (fun n hn => hB n hn.2 hn.1.1) hl.both)⟩

theorem Chn.keeps (s : Chn C Y w vs T P) {w' : World} (hb : Below w.heap.size w w') : Chn C Y w' vs T P :=
  s.kc (B := fun _ => False) (KC.of_below hb) (fun _ _ _ h => h)

theorem Chn.monoY (s : Chn C Y w vs T P) {Z : Nat → Prop} (h : ∀ n, n < w.heap.size → Y n → Z n) : Chn C Z w vs T P := by
  refine ⟨s.rights, s.inj, fun i hi => h _ (s.lt i hi) (s.inY i hi), fun i x hx => ?_, s.ende, fun q x e => ?_⟩
  · obtain ⟨a, c, hc, hl⟩ := s.known i x hx
    exact ⟨a, c, hc, LiesX.mono (fun n hn => ⟨h n hn.2 hn.1.1, hn.1.2⟩) hl.both⟩
  · obtain ⟨h1, h2, h3, z, a, c, h4, h5, hl⟩ := s.lazy q x e
    exact ⟨h1, h2, h3, z, a, c, h4, h5, LiesX.mono (fun n hn => ⟨h n hn.2 hn.1.1, hn.1.2⟩) hl.both⟩

/-- What is behind the first of them. -/
theorem Chn.drop (s : Chn C Y w vs T P) (k : Nat) (hk : k ≤ vs.length) : Chn C Y w (vs.drop k) T (fun i => P (k + i)) := by
  have hlen : (vs.drop k).length = vs.length - k := List.length_drop ..
  refine ⟨fun x hx => s.rights x (List.mem_of_mem_drop hx), fun i j hi hj e => ?_, fun i hi => s.inY _ (by omega), fun i x hx => ?_, fun e => ?_, fun q x e => ?_⟩
  · have := s.inj (k + i) (k + j) (by omega) (by omega) e; omega
  · rw [List.getElem?_drop] at hx
    obtain ⟨a, c, hc, hl⟩ := s.known (k + i) x hx
    exact ⟨a, c, hc, LiesX.mono (fun n hn => ⟨hn.1, fun j hj => hn.2 (k + j) (by omega)⟩) hl⟩
  · have := s.ende e
    rw [hlen, show k + (vs.length - k) = vs.length by omega]; exact this
  · obtain ⟨h1, h2, h3, z, a, c, h4, h5, hl⟩ := s.lazy q x e
    exact ⟨h1, h2, h3, z, a, c, h4, by rw [hlen, show k + (vs.length - k) = vs.length by omega]; exact h5, LiesX.mono (fun n hn => ⟨hn.1, fun j hj => hn.2 (k + j) (by omega)⟩) hl⟩

/-- One more ahead. -/
theorem Chn.cons (s : Chn C Y w vs T P) (hY : ∀ n, w.heap.size ≤ n → Y n) {w' : World} (hb : Below w.heap.size w w') {d : Nat} (hd : w.heap.size ≤ d) {x : VT} (hr : rightV 16 x = true) {a : Option Addr} {c : Nat} (hc : C.kn w' d x (.slice a x.items.length c) (P 0)) (hl : LiesX (fun n => (Y n ∧ n ≠ d) ∧ ∀ j, j ≤ vs.length → n ≠ P j) 16 w' x.items (.slice a x.items.length c)) :
    Chn C Y w' (x :: vs) T (fun i => if i = 0 then d else P (i - 1)) := by
  have hlt := s.lt
  have s' := s.keeps hb
  refine ⟨fun y hy => ?_, fun i j hi hj e => ?_, fun i hi => ?_, fun i y hy => ?_, fun e => ?_, fun q y e => ?_⟩
  · rcases List.mem_cons.1 hy with rfl | hy
    · exact hr
    · exact s.rights y hy
  · simp only [List.length_cons] at hi hj
    by_cases e1 : i = 0
    · by_cases e2 : j = 0
      · omega
      · simp only [if_pos e1, if_neg e2] at e; have := hlt (j - 1) (by omega); omega
    · by_cases e2 : j = 0
      · simp only [if_neg e1, if_pos e2] at e; have := hlt (i - 1) (by omega); omega
      · simp only [if_neg e1, if_neg e2] at e; have := s.inj (i - 1) (j - 1) (by omega) (by omega) e; omega
  · simp only [List.length_cons] at hi
    by_cases e1 : i = 0
    · simp only [if_pos e1]; exact hY _ hd
    · simp only [if_neg e1]; exact s.inY _ (by omega)
  · cases i with
    | zero =>
      obtain rfl : x = y := by simpa using hy
      refine ⟨a, c, by simpa using hc, LiesX.mono (fun n hn => ⟨hn.1.1, fun j hj => ?_⟩) hl⟩
      by_cases e1 : j = 0
      · simp only [if_pos e1]; exact hn.1.2
      · simp only [if_neg e1]; exact hn.2 _ (by simp only [List.length_cons] at hj; omega)
    | succ i =>
      obtain ⟨a1, c1, hc1, hl1⟩ := s.known i y (by simpa using hy)
      refine ⟨a1, c1, ?_, ?_⟩
      · have h9 : C.kn w' (P i) y (.slice a1 y.items.length c1) (P (i + 1)) := C.knk (B := fun _ => False) (KC.of_below hb) (fun h => h) hc1
        have n1 : ¬ i + 1 = 0 := by omega
        have n2 : ¬ i + 1 + 1 = 0 := by omega
        simp only [if_neg n1, if_neg n2, Nat.add_sub_cancel]
        exact h9
      · refine LiesX.mono (fun n hn => ⟨hn.1.1, fun j hj => ?_⟩) (hl1.both.keeps hb)
        by_cases e1 : j = 0
        · simp only [if_pos e1]; omega
        · simp only [if_neg e1]; exact hn.1.2 _ (by simp only [List.length_cons] at hj; omega)
  · simp only [List.length_cons, Nat.add_sub_cancel]
    exact s'.ende e
  · obtain ⟨h1, h2, h3, z, a1, c1, h4, h5, hl1⟩ := s.lazy q y e
    refine ⟨h1, h2, h3, z, a1, c1, h4, ?_, ?_⟩
    · simp only [List.length_cons, Nat.add_sub_cancel]
      exact C.lzk (B := fun _ => False) (KC.of_below hb) (fun h => h) h5
    · refine LiesX.mono (fun n hn => ⟨hn.1.1, fun j hj => ?_⟩) (hl1.both.keeps hb)
      by_cases e1 : j = 0
      · simp only [if_pos e1]; omega
      · simp only [if_neg e1]; exact hn.1.2 _ (by simp only [List.length_cons] at hj; omega)

end

theorem doneT_right (q : Nat) {x : VT} (h : rightV 16 x = true) (hd : Dp 16 x) : rightV 16 (doneT q x) = true ∧ Dp 16 (doneT q x) := it_right q h hd 1

/-- The cell of Iter is forced: one more is known. -/
theorem Chn.force {C : CK} {Y : Nat → Prop} {w w' : World} {vs : List VT} {q : Nat} {x : VT} {P : Nat → Nat} (s : Chn C Y w vs (some (q, x)) P) (hY : ∀ n, w.heap.size ≤ n → Y n) {b' : Nat} {a1 a2 : Option Addr} {c1 c2 : Nat} (hk : KC (fun j => j = P vs.length) w w') (hb' : w.heap.size ≤ b') (hc : C.kn w' (P vs.length) x (.slice a1 x.items.length c1) b') (hc' : C.lz w' b' q (doneT q x) x (.slice a2 x.items.length c2))
    (h1 : LiesX (fun n => ((Y n ∧ ∀ j, j ≤ vs.length → n ≠ P j) ∧ n < w.heap.size) ∨ (w.heap.size ≤ n ∧ n ≠ b')) 16 w' x.items (.slice a1 x.items.length c1)) (h2 : LiesX (fun n => ((Y n ∧ ∀ j, j ≤ vs.length → n ≠ P j) ∧ n < w.heap.size) ∨ (w.heap.size ≤ n ∧ n ≠ b')) 16 w' x.items (.slice a2 x.items.length c2)) :
    Chn C Y w' (vs ++ [x]) (some (q, doneT q x)) (fun i => if i = vs.length + 1 then b' else P i) := by
  have hlt := s.lt
  have hlen : (vs ++ [x]).length = vs.length + 1 := by simp
  obtain ⟨g1, g2, g3, _⟩ := s.lazy q x rfl
  have hO : ∀ n, (Y n ∧ ∀ j, j ≤ vs.length → n ≠ P j) ∧ n < w.heap.size → Y n ∧ ∀ j, j ≤ (vs ++ [x]).length → n ≠ (if j = vs.length + 1 then b' else P j) := fun n hn => by
    refine ⟨hn.1.1, fun j hj => ?_⟩
    by_cases e : j = vs.length + 1
    · rw [if_pos e]; omega
    · rw [if_neg e]; exact hn.1.2 j (by omega)
  have hX : ∀ n, (((Y n ∧ ∀ j, j ≤ vs.length → n ≠ P j) ∧ n < w.heap.size) ∨ (w.heap.size ≤ n ∧ n ≠ b')) → Y n ∧ ∀ j, j ≤ (vs ++ [x]).length → n ≠ (if j = vs.length + 1 then b' else P j) := fun n hn => by
    rcases hn with hn | hn
    · exact hO n hn
    · refine ⟨hY n hn.1, fun j hj => ?_⟩
      by_cases e : j = vs.length + 1
      · rw [if_pos e]; exact hn.2
      · rw [if_neg e]; have := hlt j (by omega); omega
  refine ⟨fun y hy => ?_, fun i j hi hj e => ?_, fun i hi => ?_, fun i y hy => ?_, (fun e => by cases e), fun q' y e => ?_⟩
  · rcases List.mem_append.1 hy with hy | hy
    · exact s.rights y hy
    · rw [List.mem_singleton.1 hy]; exact g2
  · by_cases e1 : i = vs.length + 1
    · by_cases e2 : j = vs.length + 1
      · omega
      · simp only [if_pos e1, if_neg e2] at e; have := hlt j (by omega); omega
    · by_cases e2 : j = vs.length + 1
      · simp only [if_neg e1, if_pos e2] at e; have := hlt i (by omega); omega
      · simp only [if_neg e1, if_neg e2] at e; exact s.inj i j (by omega) (by omega) e
  · by_cases e1 : i = vs.length + 1
    · simp only [if_pos e1]; exact hY _ hb'
    · simp only [if_neg e1]; exact s.inY i (by omega)
  · have hi : i < (vs ++ [x]).length := by
      rcases Nat.lt_or_ge i (vs ++ [x]).length with h | h
      · exact h
      · rw [List.getElem?_eq_none h] at hy; cases hy
    by_cases e1 : i = vs.length
    · subst e1
      obtain rfl : x = y := by simpa using hy
      have n1 : ¬ vs.length = vs.length + 1 := by omega
      simp only [if_neg n1, if_true]
      exact ⟨a1, c1, hc, LiesX.mono hX h1⟩
    · have n1 : ¬ i = vs.length + 1 := by omega
      have n2 : ¬ i + 1 = vs.length + 1 := by omega
      simp only [if_neg n1, if_neg n2]
      rw [List.getElem?_append_left (by omega)] at hy
      obtain ⟨a, c, hc0, hl⟩ := s.known i y hy
      exact ⟨a, c, C.knk hk (fun e => e1 (s.inj i vs.length (by omega) (by omega) e)) hc0, LiesX.mono hO (hk.liesX (fun n hn => hn.1.2 vs.length (by omega)) hl.both)⟩
  · obtain ⟨rfl, rfl⟩ : q = q' ∧ doneT q x = y := by simpa using e
    obtain ⟨r1, r2⟩ := doneT_right q g2 g3
    refine ⟨g1, r1, r2, x, a2, c2, g2, ?_, LiesX.mono hX h2⟩
    rw [hlen]
    simp only [if_true]
    exact hc'

end Go.Proofs.Ytnjgolibmllhnaa

