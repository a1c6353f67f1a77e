/-
  The document's seq of Iter in memory, and its Ahead.
-/
import Derived.Test.YteibdkkmaalpbabRCell
import Derived.Test.YteibdkkmaalpbabLevel
import Derived.Test.YteibdkkmaalpbabRTimes
namespace Go.Proofs.Yteibdkkmaalpbab
open Go.RowKit Go.Shelf

theorem DB.put {w : World} {b : Nat} {kn ok : Bool} {x : VT} {u : Value} {p : Option Addr} {kd : Int} {q : Nat} {z : VT} {uz : Value} (h : DB w b kn ok x u p kd q z uz) (x' : VT) (u' : Value) (p' : Option Addr) : DB (w.setCells b 0 [.bool true, .bool true, .int .i64 x'.kind, .int .i64 x'.num, .string x'.text, u', .pointer p']) b true true x' u' p' kd q z uz := by
  have hin : ∀ j (hj : j < [.bool true, .bool true, .int .i64 x'.kind, .int .i64 x'.num, .string x'.text, u', .pointer p'].length), (w.setCells b 0 [.bool true, .bool true, .int .i64 x'.kind, .int .i64 x'.num, .string x'.text, u', .pointer p']).cell? ⟨b, 0 + j, none⟩ = some ([.bool true, .bool true, .int .i64 x'.kind, .int .i64 x'.num, .string x'.text, u', .pointer p'][j]) :=
    World.cell?_setCells_in b _ 0 w (fun j hj => by
      match j, hj with
      | 0, _ => rw [h.c0]; rfl
      | 1, _ => rw [h.c1]; rfl
      | 2, _ => rw [h.c2]; rfl
      | 3, _ => rw [h.c3]; rfl
      | 4, _ => rw [h.c4]; rfl
      | 5, _ => rw [h.c5]; rfl
      | 6, _ => rw [h.c6]; rfl)
  refine ⟨?_, ?_, ?_, ?_, ?_, ?_, ?_, (setc_ne (by omega) (setc_ne (by omega) (setc_ne (by omega) (setc_ne (by omega) (setc_ne (by omega) (setc_ne (by omega) (setc_ne (by omega) h.c7))))))), (setc_ne (by omega) (setc_ne (by omega) (setc_ne (by omega) (setc_ne (by omega) (setc_ne (by omega) (setc_ne (by omega) (setc_ne (by omega) h.c8))))))), (setc_ne (by omega) (setc_ne (by omega) (setc_ne (by omega) (setc_ne (by omega) (setc_ne (by omega) (setc_ne (by omega) (setc_ne (by omega) h.c9))))))), (setc_ne (by omega) (setc_ne (by omega) (setc_ne (by omega) (setc_ne (by omega) (setc_ne (by omega) (setc_ne (by omega) (setc_ne (by omega) h.c10))))))), (setc_ne (by omega) (setc_ne (by omega) (setc_ne (by omega) (setc_ne (by omega) (setc_ne (by omega) (setc_ne (by omega) (setc_ne (by omega) h.c11))))))), (setc_ne (by omega) (setc_ne (by omega) (setc_ne (by omega) (setc_ne (by omega) (setc_ne (by omega) (setc_ne (by omega) (setc_ne (by omega) h.c12))))))), (setc_ne (by omega) (setc_ne (by omega) (setc_ne (by omega) (setc_ne (by omega) (setc_ne (by omega) (setc_ne (by omega) (setc_ne (by omega) h.c13))))))), (setc_ne (by omega) (setc_ne (by omega) (setc_ne (by omega) (setc_ne (by omega) (setc_ne (by omega) (setc_ne (by omega) (setc_ne (by omega) h.c14))))))), (setc_ne (by omega) (setc_ne (by omega) (setc_ne (by omega) (setc_ne (by omega) (setc_ne (by omega) (setc_ne (by omega) (setc_ne (by omega) h.c15))))))), by rw [World.frozen?_setCells]; exact h.f0, by rw [World.frozen?_setCells]; exact h.f1, by rw [World.frozen?_setCells]; exact h.f2, by rw [World.frozen?_setCells]; exact h.f3, by rw [World.frozen?_setCells]; exact h.f4, by rw [World.frozen?_setCells]; exact h.f5, by rw [World.frozen?_setCells]; exact h.f6⟩
  · have q := hin 0 (by simp); simpa using q
  · have q := hin 1 (by simp); simpa using q
  · have q := hin 2 (by simp); simpa using q
  · have q := hin 3 (by simp); simpa using q
  · have q := hin 4 (by simp); simpa using q
  · have q := hin 5 (by simp); simpa using q
  · have q := hin 6 (by simp); simpa using q

/-- A known cell is told as it is. -/
def RK (x : VT) (a : Option Addr) (c : Nat) (p : Option Addr) (f : Int) (w : World) (e : Ending) (w' : World) : Prop := e = .returned (.tuple #[.agg #[.int .i64 x.kind, .int .i64 x.num, .string x.text, .slice a x.items.length c], .pointer p, .bool true, .int .i64 f, .int .i64 0]) ∧ Below w.heap.size w w'

set_option maxRecDepth 100000 in
set_option maxHeartbeats 8000000 in
theorem rforce_known (b q : Nat) (f kd : Int) (x z : VT) (uz : Value) (a : Option Addr) (c : Nat) (p : Option Addr) (w : World) (h : DB w b true true x (.slice a x.items.length c) p kd q z uz) :
    Calls Try.prog 31 #[.pointer (some ⟨b, 0, none⟩), .int .i64 f] w (RK x a c p f w) := by
  obtain ⟨W0, hW0⟩ : ∃ W0, W0 = zbox w := ⟨_, rfl⟩
  have HW0 : Hid (W0 = w.alloc (.cells #[.int .i64 0, .int .i64 0, .string ⟨#[]⟩, .slice none 0 0] 24)) := hW0
  have hb0 : Below w.heap.size w W0 := by rw [hW0]; exact zbox_below w
  have HZ : Hid (Bx W0 w.heap.size zeroT (.slice none 0 0)) := by rw [hW0]; exact zbox_bx w
  have HS : Hid (W0.heap.size = w.heap.size + 1) := by rw [hW0]; exact zbox_size w
  have HD : Hid (DB W0 b true true x (.slice a x.items.length c) p kd q z uz) := h.keeps hb0
  obtain ⟨k0, k1, k2, k3, k4, k5, k6, _, _, _, _, _, _, _, _, _, _, _, _, _, _, _, _⟩ := HD.out
  obtain ⟨z0, z1, z2, z3, g0, g1, g2, g3⟩ := HZ.out
  have HE : Hid (RK x a c p f w (.returned (.tuple #[.agg #[.int .i64 x.kind, .int .i64 x.num, .string x.text, .slice a x.items.length c], .pointer p, .bool true, .int .i64 f, .int .i64 0])) (W0.setCells w.heap.size 0 (encP (x, .slice a x.items.length c))).drew) := ⟨rfl, by
    have hB := hb0
    exact ((((hB.setCell (p := ⟨w.heap.size, 0, none⟩) (by simp) _).setCell (p := ⟨w.heap.size, 0 + 1, none⟩) (by simp) _).setCell (p := ⟨w.heap.size, 0 + 1 + 1, none⟩) (by simp) _).setCell (p := ⟨w.heap.size, 0 + 1 + 1 + 1, none⟩) (by simp) _).drew⟩
  have Hq : Hid (Bx (W0.setCells w.heap.size 0 (encP (x, .slice a x.items.length c))).drew w.heap.size x (.slice a x.items.length c)) := (HZ.out.put (x, .slice a x.items.length c)).keeps (Below.refl _ _).drew
  have hbn : b ≠ w.heap.size := by have := h.lt; omega
  clear hW0 h hb0 HS HD
  go_enter Try.func31, Try.ntmps31
  go_upto_region 1 with fail
  rw [← HW0.out]
  clear HW0
  go_wp2_with fail
  go_region
  go_wp2_with fail
  refine bodyPost_ret (v := .tuple #[.agg #[.int .i64 x.kind, .int .i64 x.num, .string x.text, .slice a x.items.length c], .pointer p, .bool true, .int .i64 f, .int .i64 0]) ?_ rfl HE.out
  obtain ⟨q0, q1, q2, q3, _, _, _, _⟩ := Hq.out
  simp only [World.setCells, encP, Nat.zero_add, Nat.reduceAdd] at q0 q1 q2 q3
  simp [results, Try.results31, go_sem, q0, q1, q2, q3]

set_option maxRecDepth 100000 in
set_option maxHeartbeats 8000000 in
theorem rforce_dry (b q : Nat) (kd : Int) (z : VT) (uz : Value) (w : World) (h : DB w b false false zeroT (.slice none 0 0) none kd q z uz) :
    Calls Try.prog 31 #[.pointer (some ⟨b, 0, none⟩), .int .i64 0] w (FNil 0 220 w) := by
  obtain ⟨W0, hW0⟩ : ∃ W0, W0 = zbox w := ⟨_, rfl⟩
  have HW0 : Hid (W0 = w.alloc (.cells #[.int .i64 0, .int .i64 0, .string ⟨#[]⟩, .slice none 0 0] 24)) := hW0
  have hb0 : Below w.heap.size w W0 := by rw [hW0]; exact zbox_below w
  have HZ : Hid (Bx W0 w.heap.size zeroT (.slice none 0 0)) := by rw [hW0]; exact zbox_bx w
  have HS : Hid (W0.heap.size = w.heap.size + 1) := by rw [hW0]; exact zbox_size w
  have HD : Hid (DB W0 b false false zeroT (.slice none 0 0) none kd q z uz) := h.keeps hb0
  obtain ⟨k0, _, _, _, _, _, _, _, _, _, _, _, _, _, _, _, _, _, _, _, _, _, _⟩ := HD.out
  obtain ⟨z0, z1, z2, z3, g0, g1, g2, g3⟩ := HZ.out
  have HE : Hid (FNil 0 220 w (.returned (.tuple #[.agg #[.int .i64 0, .int .i64 0, .string ⟨#[]⟩, .slice none 0 0], .pointer none, .bool false, .int .i64 0, .int .i64 220])) (W0.setCells w.heap.size 0 (encP (zeroT, .slice none 0 0)))) := ⟨none, 0, rfl, by
    have hB := hb0
    exact ((((hB.setCell (p := ⟨w.heap.size, 0, none⟩) (by simp) _).setCell (p := ⟨w.heap.size, 0 + 1, none⟩) (by simp) _).setCell (p := ⟨w.heap.size, 0 + 1 + 1, none⟩) (by simp) _).setCell (p := ⟨w.heap.size, 0 + 1 + 1 + 1, none⟩) (by simp) _)⟩
  have Hq : Hid (Bx (W0.setCells w.heap.size 0 (encP (zeroT, .slice none 0 0))) w.heap.size zeroT (.slice none 0 0)) := HZ.out.put (zeroT, .slice none 0 0)
  clear hW0 h hb0 HS HD
  go_enter Try.func31, Try.ntmps31
  go_upto_region 1 with fail
  rw [← HW0.out]
  clear HW0
  go_wp2_with fail
  refine bodyPost_ret (v := .tuple #[.agg #[.int .i64 0, .int .i64 0, .string ⟨#[]⟩, .slice none 0 0], .pointer none, .bool false, .int .i64 0, .int .i64 220]) ?_ rfl HE.out
  obtain ⟨q0, q1, q2, q3, _, _, _, _⟩ := Hq.out
  simp only [World.setCells, encP, Nat.zero_add, Nat.reduceAdd] at q0 q1 q2 q3
  simp [results, Try.results31, go_sem, q0, q1, q2, q3]

/-- Behind the document's force of a cell of Iter. -/
def RForce (X : Nat → Prop) (q : Nat) (x : VT) (f b : Nat) (kd : Int) (z : VT) (uz : Value) (w : World) (e : Ending) (w' : World) : Prop :=
  KC (fun j => j = b) w w' ∧ ∃ a1 c1 b', e = .returned (.tuple #[.agg #[.int .i64 x.kind, .int .i64 x.num, .string x.text, .slice a1 x.items.length c1], .pointer (some ⟨b', 0, none⟩), .bool true, .int .i64 (f : Int), .int .i64 0]) ∧ w.heap.size ≤ b' ∧ DB w' b true true x (.slice a1 x.items.length c1) (some ⟨b', 0, none⟩) kd q z uz ∧ DB w' b' false false zeroT (.slice none 0 0) none 13 q x (.slice a1 x.items.length c1) ∧ LiesX (fun n => (X n ∧ n < w.heap.size) ∨ (w.heap.size ≤ n ∧ n ≠ b')) 16 w' x.items (.slice a1 x.items.length c1)

set_option maxRecDepth 100000 in
set_option maxHeartbeats 8000000 in
theorem rforce_lazy (X : Nat → Prop) (q f b : Nat) (hf : f < 1073741824) (kd : Int) (x z : VT) (uz : Value) (hX : ¬ X b) (w : World) (hXw : ∀ n, X n → n < w.heap.size) (h : DB w b false false zeroT (.slice none 0 0) none kd q z uz)
    (hs : ∀ V, Below w.heap.size w V → Calls Try.prog 42 #[.pointer (some ⟨b, 0, none⟩), .int .i64 (f : Int)] V (RStep X q x f V)) :
    Calls Try.prog 31 #[.pointer (some ⟨b, 0, none⟩), .int .i64 ((f + 1 : Nat) : Int)] w (RForce X q x f b kd z uz w) := by
  obtain ⟨W0, hW0⟩ : ∃ W0, W0 = zbox w := ⟨_, rfl⟩
  have HW0 : Hid (W0 = w.alloc (.cells #[.int .i64 0, .int .i64 0, .string ⟨#[]⟩, .slice none 0 0] 24)) := hW0
  have hb0 : Below w.heap.size w W0 := by rw [hW0]; exact zbox_below w
  have HZ : Hid (Bx W0 w.heap.size zeroT (.slice none 0 0)) := by rw [hW0]; exact zbox_bx w
  have HS : Hid (W0.heap.size = w.heap.size + 1) := by rw [hW0]; exact zbox_size w
  have HD : Hid (DB W0 b false false zeroT (.slice none 0 0) none kd q z uz) := h.keeps hb0
  have HSt : Hid (Calls Try.prog 42 #[.pointer (some ⟨b, 0, none⟩), .int .i64 (f : Int)] W0 (RStep X q x f W0)) := hs W0 hb0
  obtain ⟨k0, _, _, _, _, _, _, _, _, _, _, _, _, _, _, _, _, _, _, _, _, _, _⟩ := HD.out
  have e1 : IntKind.i64.wrap (((f + 1 : Nat) : Int) - 1) = (f : Int) := by rw [IntKind.wrap_i64]; omega
  have e0 : ¬ ((f + 1 : Nat) : Int) < 1 := by omega
  have hbl := h.lt
  have HX : Hid (¬ X b ∧ ∀ n, X n → n < w.heap.size) := ⟨hX, hXw⟩
  have Hb0 : Hid (Below w.heap.size w W0 ∧ b < w.heap.size) := ⟨hb0, hbl⟩
  obtain ⟨F, hF⟩ : ∃ F : Int, F = ((f + 1 : Nat) : Int) := ⟨_, rfl⟩
  rw [← hF] at e1 e0 ⊢
  clear hF hW0 h hb0 hs hbl hX hXw
  go_enter Try.func31, Try.ntmps31
  go_upto_region 1 with fail
  rw [← HW0.out]
  clear HW0
  go_wp2_with fail
  refine Calls.mono HSt.out ?_
  rintro e w1 ⟨hg1, a1, c1, b', rfl, hb', hdb', hlx⟩
  have hsz := HS.out
  have hbb := Hb0.out
  obtain ⟨n9, hn9⟩ : ∃ n9, n9 = w1.heap.size := ⟨_, rfl⟩
  obtain ⟨W2, hW2⟩ : ∃ W2, W2 = w1.alloc (.cells #[.int .i64 x.kind, .int .i64 x.num, .string x.text, .slice a1 x.items.length c1] 24) := ⟨_, rfl⟩
  have HW2 : Hid (W2 = w1.alloc (.cells #[.int .i64 x.kind, .int .i64 x.num, .string x.text, .slice a1 x.items.length c1] 24)) := hW2
  have hal : Below w1.heap.size w1 W2 := by rw [hW2]; exact ((Grew.refl _).alloc _).below
  have hg2 : Below W0.heap.size W0 W2 := hg1.trans (hal.mono hg1.size)
  have hs1 := hg1.size
  have HB9 : Hid (Bx W2 n9 x (.slice a1 x.items.length c1)) := by rw [hW2, hn9]; exact bx_alloc _ _ _
  have HD2 : Hid (DB W2 b false false zeroT (.slice none 0 0) none kd q z uz) := HD.out.keeps hg2
  have HN2 : Hid (DB W2 b' false false zeroT (.slice none 0 0) none 13 q x (.slice a1 x.items.length c1)) := hdb'.keeps hal
  have HL2 : Hid (LiesX (fun n => X n ∨ (W0.heap.size ≤ n ∧ n ≠ b')) 16 W2 x.items (.slice a1 x.items.length c1)) := LiesX.mono (fun n hn => by rcases hn with ⟨h1, _⟩ | h1; exact .inl h1; exact .inr h1) (hlx.keeps hal)
  have HZ2 : Hid (Bx W2 w.heap.size zeroT (.slice none 0 0)) := HZ.out.keeps hg2
  have hb9 : n9 ≠ b := by omega
  have hbw : b ≠ w.heap.size := by omega
  have hbb' : b' ≠ b := by omega
  obtain ⟨W3, hW3⟩ : ∃ W3, W3 = W2.setCells b 0 [.bool true, .bool true, .int .i64 x.kind, .int .i64 x.num, .string x.text, .slice a1 x.items.length c1, .pointer (some ⟨b', 0, none⟩)] := ⟨_, rfl⟩
  have HW3 : Hid (W3 = ((((((W2.setCell ⟨b, 0, none⟩ (.bool true)).setCell ⟨b, 1, none⟩ (.bool true)).setCell ⟨b, 2, none⟩ (.int .i64 x.kind)).setCell ⟨b, 3, none⟩ (.int .i64 x.num)).setCell ⟨b, 4, none⟩ (.string x.text)).setCell ⟨b, 5, none⟩ (.slice a1 x.items.length c1)).setCell ⟨b, 6, none⟩ (.pointer (some ⟨b', 0, none⟩))) := hW3
  have HD3 : Hid (DB W3 b true true x (.slice a1 x.items.length c1) (some ⟨b', 0, none⟩) kd q z uz) := by rw [hW3]; exact HD2.out.put x (.slice a1 x.items.length c1) (some ⟨b', 0, none⟩)
  have HN3 : Hid (DB W3 b' false false zeroT (.slice none 0 0) none 13 q x (.slice a1 x.items.length c1)) := by rw [hW3]; exact HN2.out.other hbb' _
  have HL3 : Hid (LiesX (fun n => X n ∨ (W0.heap.size ≤ n ∧ n ≠ b')) 16 W3 x.items (.slice a1 x.items.length c1)) := by
    rw [hW3]
    refine LiesX.set (g := b) (o := 0) ?_ HL2.out
    rintro (h | h)
    · exact HX.out.1 h
    · omega
  have HZ3 : Hid (Bx W3 w.heap.size zeroT (.slice none 0 0)) := by rw [hW3]; exact HZ2.out.other (fun e => hbw e.symm) _
  have HK3 : Hid (KC (fun j => j = b) w W3) := by
    rw [hW3]
    exact (KC.set (B := fun j => j = b) (o := 0 + 1 + 1 + 1 + 1 + 1 + 1) (KC.set (B := fun j => j = b) (o := 0 + 1 + 1 + 1 + 1 + 1) (KC.set (B := fun j => j = b) (o := 0 + 1 + 1 + 1 + 1) (KC.set (B := fun j => j = b) (o := 0 + 1 + 1 + 1) (KC.set (B := fun j => j = b) (o := 0 + 1 + 1) (KC.set (B := fun j => j = b) (o := 0 + 1) (KC.set (B := fun j => j = b) (o := 0) ((KC.of_below hbb.1).trans (KC.of_below hg2)) (.inl rfl) _) (.inl rfl) _) (.inl rfl) _) (.inl rfl) _) (.inl rfl) _) (.inl rfl) _) (.inl rfl) _)
  have Hbb : Hid (w.heap.size ≤ b' ∧ b' ≠ w.heap.size ∧ b < w.heap.size) := ⟨by omega, by omega, hbb.2⟩
  obtain ⟨y0, y1, y2, y3, _, _, _, _⟩ := HB9.out
  obtain ⟨k0, k1, k2, k3, k4, k5, k6, _, _, _, _, _, _, _, _, _, f0, f1, f2, f3, f4, f5, f6⟩ := HD2.out
  clear hg1 hb' hdb' hlx hsz hbb hal hg2 hs1 hW2 hW3 HSt HD HZ
  go_upto_region 7 with fail
  rw [← HW2.out, ← hn9]
  clear HW2 hn9
  go_upto_region 14 with fail
  rw [← HW3.out]
  clear HW3 k0 k1 k2 k3 k4 k5 k6 f0 f1 f2 f3 f4 f5 f6 y0 y1 y2 y3 HD2 HN2 HL2 HZ2 HB9
  obtain ⟨k0, k1, k2, k3, k4, k5, k6, _, _, _, _, _, _, _, _, _, _, _, _, _, _, _, _⟩ := HD3.out
  obtain ⟨z0, z1, z2, z3, g0, g1, g2, g3⟩ := HZ3.out
  have HE : Hid (RForce X q x f b kd z uz w (.returned (.tuple #[.agg #[.int .i64 x.kind, .int .i64 x.num, .string x.text, .slice a1 x.items.length c1], .pointer (some ⟨b', 0, none⟩), .bool true, .int .i64 (f : Int), .int .i64 0])) (W3.setCells w.heap.size 0 (encP (x, .slice a1 x.items.length c1))).drew) := by
    have hh := Hbb.out
    have hws := HS.out
    refine ⟨KC.drew (KC.set (B := fun j => j = b) (o := 0 + 1 + 1 + 1) (KC.set (B := fun j => j = b) (o := 0 + 1 + 1) (KC.set (B := fun j => j = b) (o := 0 + 1) (KC.set (B := fun j => j = b) (o := 0) HK3.out (.inr (Nat.le_refl _)) _) (.inr (Nat.le_refl _)) _) (.inr (Nat.le_refl _)) _) (.inr (Nat.le_refl _)) _), a1, c1, b', rfl, hh.1, (HD3.out.other hbw _).keeps (Below.refl _ _).drew, (HN3.out.other hh.2.1 _).keeps (Below.refl _ _).drew, ?_⟩
    refine LiesX.keeps (Below.refl _ _).drew (LiesX.mono (fun n hn => ?_) (LiesX.set (g := w.heap.size) (o := 0) (vs := encP (x, .slice a1 x.items.length c1)) ?_ HL3.out))
    · rcases hn with h | h
      · exact .inl ⟨h, HX.out.2 n h⟩
      · exact .inr ⟨by omega, h.2⟩
    · rintro (h | h)
      · have := HX.out.2 _ h; omega
      · omega
  have Hq : Hid (Bx (W3.setCells w.heap.size 0 (encP (x, .slice a1 x.items.length c1))).drew w.heap.size x (.slice a1 x.items.length c1)) := (HZ3.out.put (x, .slice a1 x.items.length c1)).keeps (Below.refl _ _).drew
  clear HD3 HN3 HL3 HZ3 HK3 Hbb HX HS Hb0
  go_wp2_with fail
  go_region
  go_wp2_with fail
  refine bodyPost_ret (v := .tuple #[.agg #[.int .i64 x.kind, .int .i64 x.num, .string x.text, .slice a1 x.items.length c1], .pointer (some ⟨b', 0, none⟩), .bool true, .int .i64 (f : Int), .int .i64 0]) ?_ rfl HE.out
  obtain ⟨q0, q1, q2, q3, _, _, _, _⟩ := Hq.out
  simp only [World.setCells, encP, Nat.zero_add, Nat.reduceAdd] at q0 q1 q2 q3
  simp [results, Try.results31, go_sem, q0, q1, q2, q3]

end Go.Proofs.Yteibdkkmaalpbab

namespace Go.Proofs.Yteibdkkmaalpbab
open Go.RowKit Go.Shelf

/-- What Begin tells. -/
def BegPost (E : Int) (q : Nat) (v : VT) (a : Option Addr) (c : Nat) (w : World) (e : Ending) (w' : World) : Prop :=
  Below w.heap.size w w' ∧ ((E ≠ 0 ∧ e = .returned (.tuple #[.pointer none, .int .i64 E])) ∨ (E = 0 ∧ ∃ b, e = .returned (.tuple #[.pointer (some ⟨b, 0, none⟩), .int .i64 0]) ∧ w.heap.size ≤ b ∧ DB w' b false false zeroT (.slice none 0 0) none 1 q v (.slice a v.items.length c)))

set_option maxRecDepth 100000 in
set_option maxHeartbeats 8000000 in
theorem begin_any (d : Nat) (o : Int) (v : VT) (a : Option Addr) (c : Nat) (w : World) (hu : Lies d w v.items (.slice a v.items.length c)) :
    Calls Try.prog 9 #[.int .i64 o, .agg #[.int .i64 v.kind, .int .i64 v.num, .string v.text, .slice a v.items.length c]] w (BegPost (timesE d o 0 v) o.toNat v a c w) := by
  have HKi : Hid (∀ V, Calls Try.prog 26 #[.int .i64 o] V fun e w' => e = .returned (.bool (k5B o)) ∧ w' = V) := rkind5_any o
  obtain ⟨W0, hW0⟩ : ∃ W0, W0 = w.alloc (.cells #[.int .i64 v.kind, .int .i64 v.num, .string v.text, .slice a v.items.length c] 24) := ⟨_, rfl⟩
  have HW0 : Hid (W0 = w.alloc (.cells #[.int .i64 v.kind, .int .i64 v.num, .string v.text, .slice a v.items.length c] 24)) := hW0
  have hb0 : Below w.heap.size w W0 := by rw [hW0]; exact ((Grew.refl _).alloc _).below
  have HK : Hid (Bx W0 w.heap.size v (.slice a v.items.length c)) := by rw [hW0]; exact bx_alloc _ _ _
  have HRi : Hid (Calls Try.prog 27 #[.agg #[.int .i64 v.kind, .int .i64 v.num, .string v.text, .slice a v.items.length c]] W0 fun e w' => e = .returned (.bool (rightV d v)) ∧ Below W0.heap.size W0 w') := right_any d v _ W0 (Lies.keeps hb0 _ _ _ hu)
  obtain ⟨k0, k1, k2, k3, _, _, _, _⟩ := HK.out
  by_cases hq : o < 0 ∨ 8 ≤ o
  · have hkb : k5B o = false := by unfold k5B; rcases hq with h | h <;> simp <;> omega
    have hE : timesE d o 0 v = 4 := by unfold timesE; rw [if_pos hq]
    rw [hE]
    rw [hkb] at HKi
    clear hW0 hu hq hkb hE HRi HK
    go_enter Try.func9, Try.ntmps9
    go_upto_region 1 with fail
    rw [← HW0.out]
    clear HW0
    go_wp2_with fail
    refine Calls.mono (HKi.out _) ?_
    rintro e w9 ⟨rfl, hw9⟩
    obtain rfl : W0 = w9 := hw9.symm
    clear hw9 HKi
    go_wp2_with fail
    refine bodyPost_ret (v := .tuple #[.pointer none, .int .i64 4]) ?_ rfl ⟨hb0, .inl ⟨by decide, rfl⟩⟩
    simp [results, Try.results9, go_sem]
  · have hkb : k5B o = true := by unfold k5B; simp; omega
    rw [hkb] at HKi
    obtain ⟨q, rfl⟩ : ∃ q : Nat, o = (q : Int) := ⟨o.toNat, by omega⟩
    have hE : timesE d (q : Int) 0 v = (if rightV d v then 0 else 3) := by
      unfold timesE
      have h2 : ¬ ((0 : Int) < 0 ∨ (65536 : Int) < 0) := by omega
      rw [if_neg hq, if_neg h2]
    rw [hE]
    cases hr : rightV d v with
    | false =>
      rw [hr] at HRi
      simp only [Bool.false_eq_true, if_false]
      clear hW0 hu hq hkb hE HK hr
      go_enter Try.func9, Try.ntmps9
      go_upto_region 1 with fail
      rw [← HW0.out]
      clear HW0
      go_wp2_with fail
      refine Calls.mono (HKi.out _) ?_
      rintro e w9 ⟨rfl, hw9⟩
      obtain rfl : W0 = w9 := hw9.symm
      clear hw9 HKi
      go_wp2_with fail
      refine Calls.mono HRi.out ?_
      rintro e w1 ⟨rfl, hg1⟩
      have hb1 : Below w.heap.size w w1 := hb0.trans (hg1.mono hb0.size)
      clear hg1 HRi
      go_wp2_with fail
      refine bodyPost_ret (v := .tuple #[.pointer none, .int .i64 3]) ?_ rfl ⟨hb1, .inl ⟨by decide, rfl⟩⟩
      simp [results, Try.results9, go_sem]
    | true =>
      rw [hr] at HRi
      simp only [if_true, Int.toNat_natCast]
      clear hW0 hu hq hkb hE HK hr
      go_enter Try.func9, Try.ntmps9
      go_upto_region 1 with fail
      rw [← HW0.out]
      clear HW0
      go_wp2_with fail
      refine Calls.mono (HKi.out _) ?_
      rintro e w9 ⟨rfl, hw9⟩
      obtain rfl : W0 = w9 := hw9.symm
      clear hw9 HKi
      go_wp2_with fail
      refine Calls.mono HRi.out ?_
      rintro e w1 ⟨rfl, hg1⟩
      have hb1 : Below w.heap.size w w1 := hb0.trans (hg1.mono hb0.size)
      have k0 := cell_keeps hg1 k0; have k1 := cell_keeps hg1 k1; have k2 := cell_keeps hg1 k2; have k3 := cell_keeps hg1 k3
      have HE : Hid (BegPost 0 q v a c w (.returned (.tuple #[.pointer (some ⟨w1.heap.size, 0, none⟩), .int .i64 0])) (w1.alloc (.cells #[.bool false, .bool false, .int .i64 0, .int .i64 0, .string ⟨#[]⟩, .slice none 0 0, .pointer none, .int .i64 1, .int .i64 (q : Int), .int .i64 0, .int .i64 v.kind, .int .i64 v.num, .string v.text, .slice a v.items.length c, .slice none 0 0, .slice none 0 0] 66))) := ⟨hb1.trans (((Grew.refl w1).alloc _).below.mono hb1.size), .inr ⟨rfl, w1.heap.size, rfl, hb1.size, db_alloc w1 66 false false zeroT (.slice none 0 0) none 1 q v (.slice a v.items.length c)⟩⟩
      clear hg1 HRi hb1 hb0
      go_wp2_with fail
      refine bodyPost_ret (v := .tuple #[.pointer (some ⟨w1.heap.size, 0, none⟩), .int .i64 0]) ?_ rfl HE.out
      simp [results, Try.results9, go_sem]

set_option maxRecDepth 100000 in
set_option maxHeartbeats 4000000 in
theorem rknown_len (Q : Nat → Nat) (k : Nat) (w : World) (hk : ∀ i, i < k → w.cell? ⟨Q i, 0, none⟩ = some (.bool true) ∧ w.cell? ⟨Q i, 1, none⟩ = some (.bool true) ∧ w.cell? ⟨Q i, 6, none⟩ = some (.pointer (some ⟨Q (i + 1), 0, none⟩))) (hz : w.cell? ⟨Q k, 0, none⟩ = some (.bool false)) :
    Calls Try.prog 13 #[.pointer (some ⟨Q 0, 0, none⟩)] w fun e w' => e = .returned (.int .i64 ((min k 65536 : Nat) : Int)) ∧ w' = w := by
  have HR : Hid (∀ i, i < k → w.cell? ⟨Q i, 0, none⟩ = some (.bool true) ∧ w.cell? ⟨Q i, 1, none⟩ = some (.bool true) ∧ w.cell? ⟨Q i, 6, none⟩ = some (.pointer (some ⟨Q (i + 1), 0, none⟩))) := hk
  have HZ : Hid (w.cell? ⟨Q k, 0, none⟩ = some (.bool false)) := hz
  obtain ⟨M, hM⟩ : ∃ M, M = min k 65536 := ⟨_, rfl⟩
  have HM : Hid (M = min k 65536) := hM
  rw [← hM]
  clear hk hz hM
  go_enter Try.func13, Try.ntmps13
  go_wp2_with fail
  go_loopg [0, 3] k (fun g at_ n wr => ∃ j : Nat, n = .int .i64 (j : Int) ∧ at_ = .pointer (some ⟨Q j, 0, none⟩) ∧ j ≤ k ∧ j ≤ 65536 ∧ g = k - j ∧ wr = w)
  case atStart => exact ⟨0, rfl, rfl, by omega, by omega, by omega, rfl⟩
  case round =>
    obtain ⟨j, rfl, rfl, hj, hj2, hg, rfl⟩ := hrel
    have Hg : Hid _ := hg
    clear hg
    by_cases h65 : j < 65536
    · have hji : (j : Int) < 65536 := by omega
      by_cases hlt : j < k
      · obtain ⟨c0, c1, c6⟩ := HR.out j hlt
        have e1 : IntKind.i64.wrap ((j : Int) + 1) = ((j + 1 : Nat) : Int) := by rw [IntKind.wrap_i64]; omega
        go_wp2_with fail
        go_roundg (k - (j + 1))
        case measure => have := Hg.out; omega
        case rel => exact ⟨j + 1, rfl, rfl, by omega, by omega, rfl, rfl⟩
      · obtain rfl : j = k := by omega
        have c0 := HZ.out
        have hjM : M = j := by have := HM.out; omega
        subst hjM
        go_wp2_with fail
        go_ret
        exact ⟨rfl, rfl⟩
    · have hji : ¬ (j : Int) < 65536 := by omega
      have hjM : M = j := by have := HM.out; omega
      subst hjM
      go_wp2_with fail
      go_ret
      exact ⟨rfl, rfl⟩

end Go.Proofs.Yteibdkkmaalpbab

namespace Go.Proofs.Yteibdkkmaalpbab
open Go.RowKit Go.Shelf

/-- The document's seq of Iter: as Sq. -/
structure Dq (Y : Nat → Prop) (w : World) (q : Nat) (v : VT) (k : Nat) (P : Nat → Nat) : Prop where
  q8 : q < 8
  right : rightV 16 v = true
  dp : Dp 16 v
  inj : ∀ i j, i ≤ k → j ≤ k → P i = P j → i = j
  inY : ∀ i, i ≤ k → Y (P i)
  known : ∀ i, i < k → ∃ a c kd z uz, DB w (P i) true true (itv q i v) (.slice a (itv q i v).items.length c) (some ⟨P (i + 1), 0, none⟩) kd q z uz ∧ LiesX (fun n => Y n ∧ ∀ j, j ≤ k → n ≠ P j) 16 w (itv q i v).items (.slice a (itv q i v).items.length c)
  lazy : ∃ kd z a c, ((kd = 1 ∧ z = itv q k v) ∨ (kd = 13 ∧ doneT q z = itv q k v)) ∧ rightV 16 z = true ∧ DB w (P k) false false zeroT (.slice none 0 0) none kd q z (.slice a z.items.length c) ∧ LiesX (fun n => Y n ∧ ∀ j, j ≤ k → n ≠ P j) 16 w z.items (.slice a z.items.length c)

theorem Dq.lt {Y : Nat → Prop} {w : World} {q : Nat} {v : VT} {k : Nat} {P : Nat → Nat} (s : Dq Y w q v k P) (i : Nat) (hi : i ≤ k) : P i < w.heap.size := by
  by_cases h : i < k
  · obtain ⟨a, c, kd, z, uz, hc, _⟩ := s.known i h
    exact hc.lt
  · obtain rfl : i = k := by omega
    obtain ⟨kd, z, a, c, _, _, hc, _⟩ := s.lazy
    exact hc.lt

theorem Dq.kc {Y B : Nat → Prop} {w w' : World} {q : Nat} {v : VT} {k : Nat} {P : Nat → Nat} (s : Dq Y w q v k P) (hk : KC B w w') (hB : ∀ n, n < w.heap.size → Y n → ¬ B n) : Dq Y w' q v k P := by
  have hp := fun i hi => hB (P i) (s.lt i hi) (s.inY i hi)
  refine ⟨s.q8, s.right, s.dp, s.inj, s.inY, fun i hi => ?_, ?_⟩
  · obtain ⟨a, c, kd, z, uz, hc, hl⟩ := s.known i hi
    exact ⟨a, c, kd, z, uz, hk.db (hp i (by omega)) hc, LiesX.mono (fun n hn => hn.1) (hk.liesX (fun n hn => hB n hn.2 hn.1.1) hl.both)⟩
  · obtain ⟨kd, z, a, c, h1, h3, hc, hl⟩ := s.lazy
    exact ⟨kd, z, a, c, h1, h3, hk.db (hp k (by omega)) hc, LiesX.mono (fun n hn => hn.1) (hk.liesX (fun n hn => hB n hn.2 hn.1.1) hl.both)⟩

theorem Dq.keeps {Y : Nat → Prop} {w w' : World} {q : Nat} {v : VT} {k : Nat} {P : Nat → Nat} (s : Dq Y w q v k P) (hb : Below w.heap.size w w') : Dq Y w' q v k P :=
  s.kc (B := fun _ => False) (KC.of_below hb) (fun _ _ _ h => h)

theorem Dq.monoY {Y Z : Nat → Prop} {w : World} {q : Nat} {v : VT} {k : Nat} {P : Nat → Nat} (s : Dq Y w q v k P) (h : ∀ n, n < w.heap.size → Y n → Z n) : Dq Z w q v k P := by
  refine ⟨s.q8, s.right, s.dp, s.inj, fun i hi => h _ (s.lt i hi) (s.inY i hi), fun i hi => ?_, ?_⟩
  · obtain ⟨a, c, kd, z, uz, hc, hl⟩ := s.known i hi
    exact ⟨a, c, kd, z, uz, hc, LiesX.mono (fun n hn => ⟨h n hn.2 hn.1.1, hn.1.2⟩) hl.both⟩
  · obtain ⟨kd, z, a, c, h1, h3, hc, hl⟩ := s.lazy
    exact ⟨kd, z, a, c, h1, h3, hc, LiesX.mono (fun n hn => ⟨h n hn.2 hn.1.1, hn.1.2⟩) hl.both⟩

theorem Dq.force {Y : Nat → Prop} {w w' : World} {q : Nat} {v : VT} {k : Nat} {P : Nat → Nat} (s : Dq Y w q v k P) (hY : ∀ n, w.heap.size ≤ n → Y n) {b' : Nat} {a1 : Option Addr} {c1 : Nat} {kd : Int} {z : VT} {uz : Value} (hk : KC (fun j => j = P k) w w') (hb' : w.heap.size ≤ b') (hc : DB w' (P k) true true (itv q k v) (.slice a1 (itv q k v).items.length c1) (some ⟨b', 0, none⟩) kd q z uz) (hc' : DB w' b' false false zeroT (.slice none 0 0) none 13 q (itv q k v) (.slice a1 (itv q k v).items.length c1)) (h1 : LiesX (fun n => ((Y n ∧ ∀ j, j ≤ k → n ≠ P j) ∧ n < w.heap.size) ∨ (w.heap.size ≤ n ∧ n ≠ b')) 16 w' (itv q k v).items (.slice a1 (itv q k v).items.length c1)) :
    Dq Y w' q v (k + 1) (fun i => if i = k + 1 then b' else P i) := by
  have hlt := s.lt
  have hO : ∀ n, (Y n ∧ ∀ j, j ≤ k → n ≠ P j) ∧ n < w.heap.size → Y n ∧ ∀ j, j ≤ k + 1 → n ≠ (if j = k + 1 then b' else P j) := fun n hn => by
    refine ⟨hn.1.1, fun j hj => ?_⟩
    by_cases e : j = k + 1
    · rw [if_pos e]; omega
    · rw [if_neg e]; exact hn.1.2 j (by omega)
  have hX : ∀ n, (((Y n ∧ ∀ j, j ≤ k → n ≠ P j) ∧ n < w.heap.size) ∨ (w.heap.size ≤ n ∧ n ≠ b')) → Y n ∧ ∀ j, j ≤ k + 1 → n ≠ (if j = k + 1 then b' else P j) := fun n hn => by
    rcases hn with hn | hn
    · exact hO n hn
    · refine ⟨hY n hn.1, fun j hj => ?_⟩
      by_cases e : j = k + 1
      · rw [if_pos e]; exact hn.2
      · rw [if_neg e]; have := hlt j (by omega); omega
  refine ⟨s.q8, s.right, s.dp, fun i j hi hj e => ?_, fun i hi => ?_, fun i hi => ?_, ?_⟩
  · by_cases e1 : i = k + 1
    · by_cases e2 : j = k + 1
      · omega
      · simp only [if_pos e1, if_neg e2] at e; have := hlt j (by omega); omega
    · by_cases e2 : j = k + 1
      · simp only [if_neg e1, if_pos e2] at e; have := hlt i (by omega); omega
      · simp only [if_neg e1, if_neg e2] at e; exact s.inj i j (by omega) (by omega) e
  · by_cases e1 : i = k + 1
    · simp only [if_pos e1]; exact hY _ hb'
    · simp only [if_neg e1]; exact s.inY i (by omega)
  · by_cases e1 : i = k
    · subst e1
      have n1 : ¬ i = i + 1 := by omega
      simp only [if_neg n1, if_true]
      exact ⟨a1, c1, kd, z, uz, hc, LiesX.mono hX h1⟩
    · have n1 : ¬ i = k + 1 := by omega
      have n2 : ¬ i + 1 = k + 1 := by omega
      simp only [if_neg n1, if_neg n2]
      obtain ⟨a, c, kd0, z0, uz0, hc0, hl⟩ := s.known i (by omega)
      exact ⟨a, c, kd0, z0, uz0, hk.db (fun e => e1 (s.inj i k (by omega) (by omega) e)) hc0, LiesX.mono hO (hk.liesX (fun n hn => hn.1.2 k (by omega)) hl.both)⟩
  · simp only [if_true]
    exact ⟨13, itv q k v, a1, c1, .inr ⟨rfl, rfl⟩, (it_right q s.right s.dp k).1, hc', LiesX.mono hX h1⟩

/-- The document's force of the first that is not known. -/
theorem Dq.step {Y : Nat → Prop} {w : World} {q : Nat} {v : VT} {k : Nat} {P : Nat → Nat} (s : Dq Y w q v k P) (f : Nat) (hf : f < 1073741824) : ∃ kd z uz,
    Calls Try.prog 31 #[.pointer (some ⟨P k, 0, none⟩), .int .i64 ((f + 1 : Nat) : Int)] w (RForce (fun n => (Y n ∧ ∀ j, j ≤ k → n ≠ P j) ∧ n < w.heap.size) q (itv q k v) f (P k) kd z uz w) := by
  obtain ⟨kd, z, a, c, h1, h3, hc, hl⟩ := s.lazy
  refine ⟨kd, z, _, rforce_lazy _ q f (P k) hf kd (itv q k v) z _ (fun h => h.1.2 k (Nat.le_refl _) rfl) w (fun n hn => hn.2) hc (fun V hV => ?_)⟩
  rcases h1 with ⟨rfl, rfl⟩ | ⟨rfl, hz⟩
  · exact rstep1 _ q (P k) f _ a c V (hc.keeps hV) (hl.both.keeps hV)
  · rw [← hz]
    exact rstep13 _ q (P k) s.q8 f z a c V (hc.keeps hV) (hl.both.keeps hV) h3

/-- What the document's Ahead leaves. -/
def RAPost (Y : Nat → Prop) (q : Nat) (v : VT) (k : Nat) (P : Nat → Nat) (n f : Nat) (w : World) (e : Ending) (w' : World) : Prop :=
  ∃ K P', (∀ i, i ≤ k → P' i = P i) ∧ (∀ i, k < i → i ≤ K → w.heap.size ≤ P' i) ∧ Dq Y w' q v K P' ∧ KC (fun j => ∃ i, i ≤ k ∧ j = P i) w w' ∧
    ((max k n ≤ k + f ∧ K = max k n ∧ e = .returned (.tuple #[.int .i64 ((f + k - K : Nat) : Int), .int .i64 0])) ∨ (k + f < max k n ∧ K = k + f ∧ e = .returned (.tuple #[.int .i64 0, .int .i64 220])))

set_option maxRecDepth 100000 in
set_option maxHeartbeats 8000000 in
theorem rahead_any (Y : Nat → Prop) (q : Nat) (v : VT) (k : Nat) (P : Nat → Nat) (n f : Nat) (hn : n ≤ 65536) (hf : f ≤ 1073741824) (w : World) (s : Dq Y w q v k P) (hY : ∀ n, w.heap.size ≤ n → Y n) :
    Calls Try.prog 11 #[.pointer (some ⟨P 0, 0, none⟩), .int .i64 (n : Int), .int .i64 (f : Int)] w (RAPost Y q v k P n f w) := by
  have HS : Hid (Dq Y w q v k P) := s
  have HY : Hid (∀ n, w.heap.size ≤ n → Y n) := hY
  have h0 : ¬ (n : Int) < 0 := by omega
  have h1 : ¬ (65536 : Int) < (n : Int) := by omega
  have h2 : ¬ (f : Int) < 0 := by omega
  have h3 : ¬ (1073741824 : Int) < (f : Int) := by omega
  have Hf : Hid (f ≤ 1073741824 ∧ n ≤ 65536) := ⟨hf, hn⟩
  clear s hY hf hn
  go_enter Try.func11, Try.ntmps11
  go_upto_region 3 with fail
  clear h0 h1 h2 h3
  go_wp2_with fail
  go_loopg [0, 2, 8] n (fun g at_ fu i wr => ∃ (j fl b : Nat), i = .int .i64 (j : Int) ∧ at_ = .pointer (some ⟨b, 0, none⟩) ∧ fu = .int .i64 (fl : Int) ∧ j ≤ n ∧ g = n - j ∧ Hid (∃ (k' : Nat) (P' : Nat → Nat), b = P' j ∧ k' = max k j ∧ fl + k' = f + k ∧ Dq Y wr q v k' P' ∧ (∀ i, i ≤ k → P' i = P i) ∧ (∀ i, k < i → i ≤ k' → w.heap.size ≤ P' i) ∧ KC (fun j => ∃ i, i ≤ k ∧ j = P i) w wr))
  case atStart => exact ⟨0, f, P 0, rfl, rfl, rfl, by omega, by omega, k, P, rfl, by omega, rfl, HS.out, fun _ _ => rfl, fun i h1 h2 => by omega, KC.refl _ _⟩
  case round =>
    obtain ⟨j, fl, b, rfl, rfl, rfl, hj, hg, HI⟩ := hrel
    have Hg : Hid _ := hg
    clear hg
    by_cases hlt : j < n
    · have hji : (j : Int) < (n : Int) := by omega
      obtain ⟨k', P', hb, hk', hfl, hs, hP, hN, hkc⟩ := HI.out
      have e1 : IntKind.i64.wrap ((j : Int) + 1) = ((j + 1 : Nat) : Int) := by have := Hf.out; rw [IntKind.wrap_i64]; omega
      by_cases hjk : j < k'
      · obtain ⟨a, c, kd, z, uz, hc, _⟩ := hs.known j hjk
        generalize hx : itv q j v = x at hc
        have HFo : Hid (Calls Try.prog 31 #[.pointer (some ⟨b, 0, none⟩), .int .i64 (fl : Int)] wr (RK x a c (some ⟨P' (j + 1), 0, none⟩) fl wr)) := by rw [hb]; exact rforce_known _ q fl kd x z uz a c _ wr hc
        have HI2 : Hid (∀ V, Below wr.heap.size wr V → ∃ (k' : Nat) (P'' : Nat → Nat), P' (j + 1) = P'' (j + 1) ∧ k' = max k (j + 1) ∧ fl + k' = f + k ∧ Dq Y V q v k' P'' ∧ (∀ i, i ≤ k → P'' i = P i) ∧ (∀ i, k < i → i ≤ k' → w.heap.size ≤ P'' i) ∧ KC (fun j => ∃ i, i ≤ k ∧ j = P i) w V) := fun V hV => ⟨k', P', rfl, by omega, hfl, hs.keeps hV, hP, hN, hkc.trans (KC.of_below hV)⟩
        clear hb hk' hfl hs hP hN hkc hjk hc HI hx
        generalize P' (j + 1) = b2 at *
        go_wp2_with fail
        refine Calls.mono HFo.out ?_
        rintro e w2 ⟨rfl, hg2⟩
        have HI3 : Hid (∀ A, _) := fun A => HI2.out (w2.alloc A) (hg2.trans (((Grew.refl w2).alloc A).below.mono hg2.size))
        clear HFo HI2 hg2
        go_wp2_with fail
        go_roundg (n - (j + 1))
        case measure => have := Hg.out; omega
        case rel => exact ⟨j + 1, fl, b2, rfl, rfl, rfl, by omega, rfl, HI3.out _⟩
      · obtain rfl : j = k' := by omega
        by_cases hfz : fl = 0
        · subst hfz
          obtain ⟨kd, z, a, c, _, _, hc, _⟩ := hs.lazy
          have HFo : Hid (Calls Try.prog 31 #[.pointer (some ⟨b, 0, none⟩), .int .i64 0] wr (FNil 0 220 wr)) := by rw [hb]; exact rforce_dry _ q kd z _ wr hc
          have HE : Hid (∀ V, Below wr.heap.size wr V → RAPost Y q v k P n f w (.returned (.tuple #[.int .i64 0, .int .i64 220])) V) := fun V hV => ⟨j, P', hP, hN, hs.keeps hV, hkc.trans (KC.of_below hV), .inr ⟨by omega, by omega, rfl⟩⟩
          clear hb hk' hfl hs hP hN hkc hjk hc HI
          go_wp2_with fail
          refine Calls.mono HFo.out ?_
          rintro e w2 ⟨a2, c2, rfl, hg2⟩
          have HE3 : Hid (∀ A, _) := fun A => HE.out (w2.alloc A) (hg2.trans (((Grew.refl w2).alloc A).below.mono hg2.size))
          clear HFo HE hg2
          go_wp2_with fail
          refine bodyPost_ret (v := .tuple #[.int .i64 0, .int .i64 220]) ?_ rfl (HE3.out _)
          simp [results, Try.results11, go_sem]
        · obtain ⟨f1, rfl⟩ : ∃ f1, fl = f1 + 1 := ⟨fl - 1, by omega⟩
          obtain ⟨kd, z, uz, hst⟩ := hs.step f1 (by have := Hf.out; omega)
          rw [← hb] at hst
          generalize hx : itv q j v = x at hst
          have HFo : Hid _ := hst
          have HX : Hid (itv q j v = x) := hx
          have HS2 : Hid (Dq Y wr q v j P') := hs
          have HR : Hid (b = P' j ∧ j = max k j ∧ f1 + 1 + j = f + k ∧ (∀ i, i ≤ k → P' i = P i) ∧ (∀ i, k < i → i ≤ j → w.heap.size ≤ P' i) ∧ KC (fun j => ∃ i, i ≤ k ∧ j = P i) w wr) := ⟨hb, hk', hfl, hP, hN, hkc⟩
          clear hb hk' hfl hs hP hN hkc hjk HI hfz hst hx
          go_wp2_with fail
          refine Calls.mono HFo.out ?_
          rintro e w2 ⟨hk2, a1, c1, b', rfl, hb', hc, hc', h1⟩
          have HI2 : Hid (∀ V, Below w2.heap.size w2 V → ∃ (k' : Nat) (P'' : Nat → Nat), b' = P'' (j + 1) ∧ k' = max k (j + 1) ∧ f1 + k' = f + k ∧ Dq Y V q v k' P'' ∧ (∀ i, i ≤ k → P'' i = P i) ∧ (∀ i, k < i → i ≤ k' → w.heap.size ≤ P'' i) ∧ KC (fun j => ∃ i, i ≤ k ∧ j = P i) w V) := by
            intro V hV
            obtain ⟨hb, hk', hfl, hP, hN, hkc⟩ := HR.out
            have hx := HX.out
            subst hb hx
            refine ⟨j + 1, _, ?_, by omega, by omega, (HS2.out.force (fun n hn => HY.out n (Nat.le_trans hkc.size hn)) hk2 hb' hc hc' (LiesX.mono (fun n hn => by rcases hn with h | h; exact .inl h.1; exact .inr h) h1)).keeps hV, fun i hi => ?_, fun i h3 h4 => ?_, ?_⟩
            · simp
            · have : ¬ i = j + 1 := by omega
              simp only [if_neg this]
              exact hP i hi
            · by_cases e : i = j + 1
              · simp only [if_pos e]; exact Nat.le_trans hkc.size hb'
              · simp only [if_neg e]; exact hN i h3 (by omega)
            · refine (hkc.trans2 hk2 (fun i hi e => ?_)).trans (KC.of_below hV)
              by_cases hjk : j ≤ k
              · exact ⟨j, hjk, by rw [e]; exact hP j hjk⟩
              · exfalso
                have := hN j (by omega) (Nat.le_refl _)
                omega
          have HI3 : Hid (∀ A, _) := fun A => HI2.out (w2.alloc A) ((Grew.refl w2).alloc A).below
          clear hk2 hb' hc hc' h1 HFo HS2 HR HI2 HX
          go_wp2_with fail
          go_roundg (n - (j + 1))
          case measure => have := Hg.out; omega
          case rel => exact ⟨j + 1, f1, b', rfl, rfl, rfl, by omega, rfl, HI3.out _⟩
    · have hji : ¬ (j : Int) < (n : Int) := by omega
      have HE : Hid (RAPost Y q v k P n f w (.returned (.tuple #[.int .i64 (fl : Int), .int .i64 0])) wr) := by
        obtain ⟨k', P', hb, hk', hfl, hs, hP, hN, hkc⟩ := HI.out
        have hjn : j = n := by omega
        subst hjn
        exact ⟨k', P', hP, hN, hs, hkc, .inl ⟨by omega, hk', by rw [show f + k - k' = fl by omega]⟩⟩
      clear HI
      go_wp2_with fail
      refine bodyPost_ret (v := .tuple #[.int .i64 (fl : Int), .int .i64 0]) ?_ rfl HE.out
      simp [results, Try.results11, go_sem]

/-- As many as are known. -/
theorem Dq.len {Y : Nat → Prop} {w : World} {q : Nat} {v : VT} {k : Nat} {P : Nat → Nat} (s : Dq Y w q v k P) : Calls Try.prog 13 #[.pointer (some ⟨P 0, 0, none⟩)] w fun e w' => e = .returned (.int .i64 ((min k 65536 : Nat) : Int)) ∧ w' = w := by
  refine rknown_len P k w (fun i hi => ?_) ?_
  · obtain ⟨a, c, kd, z, uz, hc, _⟩ := s.known i hi
    exact ⟨hc.c0, hc.c1, hc.c6⟩
  · obtain ⟨kd, z, a, c, _, _, hc, _⟩ := s.lazy
    exact hc.c0

end Go.Proofs.Yteibdkkmaalpbab

