/-
  The document's Empty and Cons; chains of known cells on both sides.
-/
import Derived.Test.YtnjgolibmllhnaaGreatRCell
import Derived.Test.YtnjgolibmllhnaaGreatVals
import Derived.Test.YtnjgolibmllhnaaGreatRTimes
namespace Go.Proofs.YtnjgolibmllhnaaGreat
open Go.RowKit Go.Shelf

theorem DB.put {w : World} {b : Nat} {kn ok : Bool} {x : VT} {u : Value} {p : Option Addr} {kd : Int} {q : Nat} {z : VT} {uz : Value} (h : DB w b kn ok x u p kd q z uz) (x' : VT) (u' : Value) (p' : Option Addr) : DB (w.setCells b 0 [.bool true, .bool true, .int .i64 x'.kind, .int .i64 x'.num, .string x'.text, u', .pointer p']) b true true x' u' p' kd q z uz := by
  have hin : ∀ j (hj : j < [.bool true, .bool true, .int .i64 x'.kind, .int .i64 x'.num, .string x'.text, u', .pointer p'].length), (w.setCells b 0 [.bool true, .bool true, .int .i64 x'.kind, .int .i64 x'.num, .string x'.text, u', .pointer p']).cell? ⟨b, 0 + j, none⟩ = some ([.bool true, .bool true, .int .i64 x'.kind, .int .i64 x'.num, .string x'.text, u', .pointer p'][j]) :=
    World.cell?_setCells_in b _ 0 w (fun j hj => by
      match j, hj with
      | 0, _ => rw [h.c0]; rfl
      | 1, _ => rw [h.c1]; rfl
      | 2, _ => rw [h.c2]; rfl
      | 3, _ => rw [h.c3]; rfl
      | 4, _ => rw [h.c4]; rfl
      | 5, _ => rw [h.c5]; rfl
      | 6, _ => rw [h.c6]; rfl)
  refine ⟨?_, ?_, ?_, ?_, ?_, ?_, ?_, (setc_ne (by omega) (setc_ne (by omega) (setc_ne (by omega) (setc_ne (by omega) (setc_ne (by omega) (setc_ne (by omega) (setc_ne (by omega) h.c7))))))), (setc_ne (by omega) (setc_ne (by omega) (setc_ne (by omega) (setc_ne (by omega) (setc_ne (by omega) (setc_ne (by omega) (setc_ne (by omega) h.c8))))))), (setc_ne (by omega) (setc_ne (by omega) (setc_ne (by omega) (setc_ne (by omega) (setc_ne (by omega) (setc_ne (by omega) (setc_ne (by omega) h.c9))))))), (setc_ne (by omega) (setc_ne (by omega) (setc_ne (by omega) (setc_ne (by omega) (setc_ne (by omega) (setc_ne (by omega) (setc_ne (by omega) h.c10))))))), (setc_ne (by omega) (setc_ne (by omega) (setc_ne (by omega) (setc_ne (by omega) (setc_ne (by omega) (setc_ne (by omega) (setc_ne (by omega) h.c11))))))), (setc_ne (by omega) (setc_ne (by omega) (setc_ne (by omega) (setc_ne (by omega) (setc_ne (by omega) (setc_ne (by omega) (setc_ne (by omega) h.c12))))))), (setc_ne (by omega) (setc_ne (by omega) (setc_ne (by omega) (setc_ne (by omega) (setc_ne (by omega) (setc_ne (by omega) (setc_ne (by omega) h.c13))))))), (setc_ne (by omega) (setc_ne (by omega) (setc_ne (by omega) (setc_ne (by omega) (setc_ne (by omega) (setc_ne (by omega) (setc_ne (by omega) h.c14))))))), (setc_ne (by omega) (setc_ne (by omega) (setc_ne (by omega) (setc_ne (by omega) (setc_ne (by omega) (setc_ne (by omega) (setc_ne (by omega) h.c15))))))), by rw [World.frozen?_setCells]; exact h.f0, by rw [World.frozen?_setCells]; exact h.f1, by rw [World.frozen?_setCells]; exact h.f2, by rw [World.frozen?_setCells]; exact h.f3, by rw [World.frozen?_setCells]; exact h.f4, by rw [World.frozen?_setCells]; exact h.f5, by rw [World.frozen?_setCells]; exact h.f6⟩
  · have q := hin 0 (by simp); simpa using q
  · have q := hin 1 (by simp); simpa using q
  · have q := hin 2 (by simp); simpa using q
  · have q := hin 3 (by simp); simpa using q
  · have q := hin 4 (by simp); simpa using q
  · have q := hin 5 (by simp); simpa using q
  · have q := hin 6 (by simp); simpa using q

/-- A known cell is told as it is. -/
def RK (x : VT) (a : Option Addr) (c : Nat) (p : Option Addr) (f : Int) (w : World) (e : Ending) (w' : World) : Prop := e = .returned (.tuple #[.agg #[.int .i64 x.kind, .int .i64 x.num, .string x.text, .slice a x.items.length c], .pointer p, .bool true, .int .i64 f, .int .i64 0]) ∧ Below w.heap.size w w'

set_option maxRecDepth 100000 in
set_option maxHeartbeats 8000000 in
theorem rforce_known (b q : Nat) (f kd : Int) (x z : VT) (uz : Value) (a : Option Addr) (c : Nat) (p : Option Addr) (w : World) (h : DB w b true true x (.slice a x.items.length c) p kd q z uz) :
    Calls Tryz.prog 74 #[.pointer (some ⟨b, 0, none⟩), .int .i64 f] w (RK x a c p f w) := by
  obtain ⟨W0, hW0⟩ : ∃ W0, W0 = zbox w := ⟨_, rfl⟩
  have HW0 : Hid (W0 = w.alloc (.cells #[.int .i64 0, .int .i64 0, .string ⟨#[]⟩, .slice none 0 0] 24)) := hW0
  have hb0 : Below w.heap.size w W0 := by rw [hW0]; exact zbox_below w
  have HZ : Hid (Bx W0 w.heap.size zeroT (.slice none 0 0)) := by rw [hW0]; exact zbox_bx w
  have HS : Hid (W0.heap.size = w.heap.size + 1) := by rw [hW0]; exact zbox_size w
  have HD : Hid (DB W0 b true true x (.slice a x.items.length c) p kd q z uz) := h.keeps hb0
  obtain ⟨k0, k1, k2, k3, k4, k5, k6, _, _, _, _, _, _, _, _, _, _, _, _, _, _, _, _⟩ := HD.out
  obtain ⟨z0, z1, z2, z3, g0, g1, g2, g3⟩ := HZ.out
  have HE : Hid (RK x a c p f w (.returned (.tuple #[.agg #[.int .i64 x.kind, .int .i64 x.num, .string x.text, .slice a x.items.length c], .pointer p, .bool true, .int .i64 f, .int .i64 0])) (W0.setCells w.heap.size 0 (encP (x, .slice a x.items.length c))).drew) := ⟨rfl, by
    have hB := hb0
    exact ((((hB.setCell (p := ⟨w.heap.size, 0, none⟩) (by simp) _).setCell (p := ⟨w.heap.size, 0 + 1, none⟩) (by simp) _).setCell (p := ⟨w.heap.size, 0 + 1 + 1, none⟩) (by simp) _).setCell (p := ⟨w.heap.size, 0 + 1 + 1 + 1, none⟩) (by simp) _).drew⟩
  have Hq : Hid (Bx (W0.setCells w.heap.size 0 (encP (x, .slice a x.items.length c))).drew w.heap.size x (.slice a x.items.length c)) := (HZ.out.put (x, .slice a x.items.length c)).keeps (Below.refl _ _).drew
  have hbn : b ≠ w.heap.size := by have := h.lt; omega
  clear hW0 h hb0 HS HD
  go_enter Tryz.func74, Tryz.ntmps74
  go_upto_region 1 with fail
  rw [← HW0.out]
  clear HW0
  go_wp2_with fail
  go_region
  go_wp2_with fail
  refine bodyPost_ret (v := .tuple #[.agg #[.int .i64 x.kind, .int .i64 x.num, .string x.text, .slice a x.items.length c], .pointer p, .bool true, .int .i64 f, .int .i64 0]) ?_ rfl HE.out
  obtain ⟨q0, q1, q2, q3, _, _, _, _⟩ := Hq.out
  simp only [World.setCells, encP, Nat.zero_add, Nat.reduceAdd] at q0 q1 q2 q3
  simp [results, Tryz.results74, go_sem, q0, q1, q2, q3]

set_option maxRecDepth 100000 in
set_option maxHeartbeats 8000000 in
theorem rforce_dry (b q : Nat) (kd : Int) (z : VT) (uz : Value) (w : World) (h : DB w b false false zeroT (.slice none 0 0) none kd q z uz) :
    Calls Tryz.prog 74 #[.pointer (some ⟨b, 0, none⟩), .int .i64 0] w (FNil 0 220 w) := by
  obtain ⟨W0, hW0⟩ : ∃ W0, W0 = zbox w := ⟨_, rfl⟩
  have HW0 : Hid (W0 = w.alloc (.cells #[.int .i64 0, .int .i64 0, .string ⟨#[]⟩, .slice none 0 0] 24)) := hW0
  have hb0 : Below w.heap.size w W0 := by rw [hW0]; exact zbox_below w
  have HZ : Hid (Bx W0 w.heap.size zeroT (.slice none 0 0)) := by rw [hW0]; exact zbox_bx w
  have HS : Hid (W0.heap.size = w.heap.size + 1) := by rw [hW0]; exact zbox_size w
  have HD : Hid (DB W0 b false false zeroT (.slice none 0 0) none kd q z uz) := h.keeps hb0
  obtain ⟨k0, _, _, _, _, _, _, _, _, _, _, _, _, _, _, _, _, _, _, _, _, _, _⟩ := HD.out
  obtain ⟨z0, z1, z2, z3, g0, g1, g2, g3⟩ := HZ.out
  have HE : Hid (FNil 0 220 w (.returned (.tuple #[.agg #[.int .i64 0, .int .i64 0, .string ⟨#[]⟩, .slice none 0 0], .pointer none, .bool false, .int .i64 0, .int .i64 220])) (W0.setCells w.heap.size 0 (encP (zeroT, .slice none 0 0)))) := ⟨none, 0, rfl, by
    have hB := hb0
    exact ((((hB.setCell (p := ⟨w.heap.size, 0, none⟩) (by simp) _).setCell (p := ⟨w.heap.size, 0 + 1, none⟩) (by simp) _).setCell (p := ⟨w.heap.size, 0 + 1 + 1, none⟩) (by simp) _).setCell (p := ⟨w.heap.size, 0 + 1 + 1 + 1, none⟩) (by simp) _)⟩
  have Hq : Hid (Bx (W0.setCells w.heap.size 0 (encP (zeroT, .slice none 0 0))) w.heap.size zeroT (.slice none 0 0)) := HZ.out.put (zeroT, .slice none 0 0)
  clear hW0 h hb0 HS HD
  go_enter Tryz.func74, Tryz.ntmps74
  go_upto_region 1 with fail
  rw [← HW0.out]
  clear HW0
  go_wp2_with fail
  refine bodyPost_ret (v := .tuple #[.agg #[.int .i64 0, .int .i64 0, .string ⟨#[]⟩, .slice none 0 0], .pointer none, .bool false, .int .i64 0, .int .i64 220]) ?_ rfl HE.out
  obtain ⟨q0, q1, q2, q3, _, _, _, _⟩ := Hq.out
  simp only [World.setCells, encP, Nat.zero_add, Nat.reduceAdd] at q0 q1 q2 q3
  simp [results, Tryz.results74, go_sem, q0, q1, q2, q3]

/-- Behind the document's force of a cell of Iter. -/
def RForce (X : Nat → Prop) (q : Nat) (x : VT) (f b : Nat) (kd : Int) (z : VT) (uz : Value) (w : World) (e : Ending) (w' : World) : Prop :=
  KC (fun j => j = b) w w' ∧ ∃ a1 c1 b', e = .returned (.tuple #[.agg #[.int .i64 x.kind, .int .i64 x.num, .string x.text, .slice a1 x.items.length c1], .pointer (some ⟨b', 0, none⟩), .bool true, .int .i64 (f : Int), .int .i64 0]) ∧ w.heap.size ≤ b' ∧ DB w' b true true x (.slice a1 x.items.length c1) (some ⟨b', 0, none⟩) kd q z uz ∧ DB w' b' false false zeroT (.slice none 0 0) none 13 q x (.slice a1 x.items.length c1) ∧ LiesX (fun n => (X n ∧ n < w.heap.size) ∨ (w.heap.size ≤ n ∧ n ≠ b')) 16 w' x.items (.slice a1 x.items.length c1)

set_option maxRecDepth 100000 in
set_option maxHeartbeats 8000000 in
theorem rforce_lazy (X : Nat → Prop) (q f b : Nat) (hf : f < 1073741824) (kd : Int) (x z : VT) (uz : Value) (hX : ¬ X b) (w : World) (hXw : ∀ n, X n → n < w.heap.size) (h : DB w b false false zeroT (.slice none 0 0) none kd q z uz)
    (hs : ∀ V, Below w.heap.size w V → Calls Tryz.prog 112 #[.pointer (some ⟨b, 0, none⟩), .int .i64 (f : Int)] V (RStep X q x f V)) :
    Calls Tryz.prog 74 #[.pointer (some ⟨b, 0, none⟩), .int .i64 ((f + 1 : Nat) : Int)] w (RForce X q x f b kd z uz w) := by
  obtain ⟨W0, hW0⟩ : ∃ W0, W0 = zbox w := ⟨_, rfl⟩
  have HW0 : Hid (W0 = w.alloc (.cells #[.int .i64 0, .int .i64 0, .string ⟨#[]⟩, .slice none 0 0] 24)) := hW0
  have hb0 : Below w.heap.size w W0 := by rw [hW0]; exact zbox_below w
  have HZ : Hid (Bx W0 w.heap.size zeroT (.slice none 0 0)) := by rw [hW0]; exact zbox_bx w
  have HS : Hid (W0.heap.size = w.heap.size + 1) := by rw [hW0]; exact zbox_size w
  have HD : Hid (DB W0 b false false zeroT (.slice none 0 0) none kd q z uz) := h.keeps hb0
  have HSt : Hid (Calls Tryz.prog 112 #[.pointer (some ⟨b, 0, none⟩), .int .i64 (f : Int)] W0 (RStep X q x f W0)) := hs W0 hb0
  obtain ⟨k0, _, _, _, _, _, _, _, _, _, _, _, _, _, _, _, _, _, _, _, _, _, _⟩ := HD.out
  have e1 : IntKind.i64.wrap (((f + 1 : Nat) : Int) - 1) = (f : Int) := by rw [IntKind.wrap_i64]; omega
  have e0 : ¬ ((f + 1 : Nat) : Int) < 1 := by omega
  have hbl := h.lt
  have HX : Hid (¬ X b ∧ ∀ n, X n → n < w.heap.size) := ⟨hX, hXw⟩
  have Hb0 : Hid (Below w.heap.size w W0 ∧ b < w.heap.size) := ⟨hb0, hbl⟩
  obtain ⟨F, hF⟩ : ∃ F : Int, F = ((f + 1 : Nat) : Int) := ⟨_, rfl⟩
  rw [← hF] at e1 e0 ⊢
  clear hF hW0 h hb0 hs hbl hX hXw
  go_enter Tryz.func74, Tryz.ntmps74
  go_upto_region 1 with fail
  rw [← HW0.out]
  clear HW0
  go_wp2_with fail
  refine Calls.mono HSt.out ?_
  rintro e w1 ⟨hg1, a1, c1, b', rfl, hb', hdb', hlx⟩
  have hsz := HS.out
  have hbb := Hb0.out
  obtain ⟨n9, hn9⟩ : ∃ n9, n9 = w1.heap.size := ⟨_, rfl⟩
  obtain ⟨W2, hW2⟩ : ∃ W2, W2 = w1.alloc (.cells #[.int .i64 x.kind, .int .i64 x.num, .string x.text, .slice a1 x.items.length c1] 24) := ⟨_, rfl⟩
  have HW2 : Hid (W2 = w1.alloc (.cells #[.int .i64 x.kind, .int .i64 x.num, .string x.text, .slice a1 x.items.length c1] 24)) := hW2
  have hal : Below w1.heap.size w1 W2 := by rw [hW2]; exact ((Grew.refl _).alloc _).below
  have hg2 : Below W0.heap.size W0 W2 := hg1.trans (hal.mono hg1.size)
  have hs1 := hg1.size
  have HB9 : Hid (Bx W2 n9 x (.slice a1 x.items.length c1)) := by rw [hW2, hn9]; exact bx_alloc _ _ _
  have HD2 : Hid (DB W2 b false false zeroT (.slice none 0 0) none kd q z uz) := HD.out.keeps hg2
  have HN2 : Hid (DB W2 b' false false zeroT (.slice none 0 0) none 13 q x (.slice a1 x.items.length c1)) := hdb'.keeps hal
  have HL2 : Hid (LiesX (fun n => X n ∨ (W0.heap.size ≤ n ∧ n ≠ b')) 16 W2 x.items (.slice a1 x.items.length c1)) := LiesX.mono (fun n hn => by rcases hn with ⟨h1, _⟩ | h1; exact .inl h1; exact .inr h1) (hlx.keeps hal)
  have HZ2 : Hid (Bx W2 w.heap.size zeroT (.slice none 0 0)) := HZ.out.keeps hg2
  have hb9 : n9 ≠ b := by omega
  have hbw : b ≠ w.heap.size := by omega
  have hbb' : b' ≠ b := by omega
  obtain ⟨W3, hW3⟩ : ∃ W3, W3 = W2.setCells b 0 [.bool true, .bool true, .int .i64 x.kind, .int .i64 x.num, .string x.text, .slice a1 x.items.length c1, .pointer (some ⟨b', 0, none⟩)] := ⟨_, rfl⟩
  have HW3 : Hid (W3 = ((((((W2.setCell ⟨b, 0, none⟩ (.bool true)).setCell ⟨b, 1, none⟩ (.bool true)).setCell ⟨b, 2, none⟩ (.int .i64 x.kind)).setCell ⟨b, 3, none⟩ (.int .i64 x.num)).setCell ⟨b, 4, none⟩ (.string x.text)).setCell ⟨b, 5, none⟩ (.slice a1 x.items.length c1)).setCell ⟨b, 6, none⟩ (.pointer (some ⟨b', 0, none⟩))) := hW3
  have HD3 : Hid (DB W3 b true true x (.slice a1 x.items.length c1) (some ⟨b', 0, none⟩) kd q z uz) := by rw [hW3]; exact HD2.out.put x (.slice a1 x.items.length c1) (some ⟨b', 0, none⟩)
  have HN3 : Hid (DB W3 b' false false zeroT (.slice none 0 0) none 13 q x (.slice a1 x.items.length c1)) := by rw [hW3]; exact HN2.out.other hbb' _
  have HL3 : Hid (LiesX (fun n => X n ∨ (W0.heap.size ≤ n ∧ n ≠ b')) 16 W3 x.items (.slice a1 x.items.length c1)) := by
    rw [hW3]
    refine LiesX.set (g := b) (o := 0) ?_ HL2.out
    rintro (h | h)
    · exact HX.out.1 h
    · omega
  have HZ3 : Hid (Bx W3 w.heap.size zeroT (.slice none 0 0)) := by rw [hW3]; exact HZ2.out.other (fun e => hbw e.symm) _
  have HK3 : Hid (KC (fun j => j = b) w W3) := by
    rw [hW3]
    exact (KC.set (B := fun j => j = b) (o := 0 + 1 + 1 + 1 + 1 + 1 + 1) (KC.set (B := fun j => j = b) (o := 0 + 1 + 1 + 1 + 1 + 1) (KC.set (B := fun j => j = b) (o := 0 + 1 + 1 + 1 + 1) (KC.set (B := fun j => j = b) (o := 0 + 1 + 1 + 1) (KC.set (B := fun j => j = b) (o := 0 + 1 + 1) (KC.set (B := fun j => j = b) (o := 0 + 1) (KC.set (B := fun j => j = b) (o := 0) ((KC.of_below hbb.1).trans (KC.of_below hg2)) (.inl rfl) _) (.inl rfl) _) (.inl rfl) _) (.inl rfl) _) (.inl rfl) _) (.inl rfl) _) (.inl rfl) _)
  have Hbb : Hid (w.heap.size ≤ b' ∧ b' ≠ w.heap.size ∧ b < w.heap.size) := ⟨by omega, by omega, hbb.2⟩
  obtain ⟨y0, y1, y2, y3, _, _, _, _⟩ := HB9.out
  obtain ⟨k0, k1, k2, k3, k4, k5, k6, _, _, _, _, _, _, _, _, _, f0, f1, f2, f3, f4, f5, f6⟩ := HD2.out
  clear hg1 hb' hdb' hlx hsz hbb hal hg2 hs1 hW2 hW3 HSt HD HZ
  go_upto_region 7 with fail
  rw [← HW2.out, ← hn9]
  clear HW2 hn9
  go_upto_region 14 with fail
  rw [← HW3.out]
  clear HW3 k0 k1 k2 k3 k4 k5 k6 f0 f1 f2 f3 f4 f5 f6 y0 y1 y2 y3 HD2 HN2 HL2 HZ2 HB9
  obtain ⟨k0, k1, k2, k3, k4, k5, k6, _, _, _, _, _, _, _, _, _, _, _, _, _, _, _, _⟩ := HD3.out
  obtain ⟨z0, z1, z2, z3, g0, g1, g2, g3⟩ := HZ3.out
  have HE : Hid (RForce X q x f b kd z uz w (.returned (.tuple #[.agg #[.int .i64 x.kind, .int .i64 x.num, .string x.text, .slice a1 x.items.length c1], .pointer (some ⟨b', 0, none⟩), .bool true, .int .i64 (f : Int), .int .i64 0])) (W3.setCells w.heap.size 0 (encP (x, .slice a1 x.items.length c1))).drew) := by
    have hh := Hbb.out
    have hws := HS.out
    refine ⟨KC.drew (KC.set (B := fun j => j = b) (o := 0 + 1 + 1 + 1) (KC.set (B := fun j => j = b) (o := 0 + 1 + 1) (KC.set (B := fun j => j = b) (o := 0 + 1) (KC.set (B := fun j => j = b) (o := 0) HK3.out (.inr (Nat.le_refl _)) _) (.inr (Nat.le_refl _)) _) (.inr (Nat.le_refl _)) _) (.inr (Nat.le_refl _)) _), a1, c1, b', rfl, hh.1, (HD3.out.other hbw _).keeps (Below.refl _ _).drew, (HN3.out.other hh.2.1 _).keeps (Below.refl _ _).drew, ?_⟩
    refine LiesX.keeps (Below.refl _ _).drew (LiesX.mono (fun n hn => ?_) (LiesX.set (g := w.heap.size) (o := 0) (vs := encP (x, .slice a1 x.items.length c1)) ?_ HL3.out))
    · rcases hn with h | h
      · exact .inl ⟨h, HX.out.2 n h⟩
      · exact .inr ⟨by omega, h.2⟩
    · rintro (h | h)
      · have := HX.out.2 _ h; omega
      · omega
  have Hq : Hid (Bx (W3.setCells w.heap.size 0 (encP (x, .slice a1 x.items.length c1))).drew w.heap.size x (.slice a1 x.items.length c1)) := (HZ3.out.put (x, .slice a1 x.items.length c1)).keeps (Below.refl _ _).drew
  clear HD3 HN3 HL3 HZ3 HK3 Hbb HX HS Hb0
  go_wp2_with fail
  go_region
  go_wp2_with fail
  refine bodyPost_ret (v := .tuple #[.agg #[.int .i64 x.kind, .int .i64 x.num, .string x.text, .slice a1 x.items.length c1], .pointer (some ⟨b', 0, none⟩), .bool true, .int .i64 (f : Int), .int .i64 0]) ?_ rfl HE.out
  obtain ⟨q0, q1, q2, q3, _, _, _, _⟩ := Hq.out
  simp only [World.setCells, encP, Nat.zero_add, Nat.reduceAdd] at q0 q1 q2 q3
  simp [results, Tryz.results74, go_sem, q0, q1, q2, q3]

end Go.Proofs.YtnjgolibmllhnaaGreat

namespace Go.Proofs.YtnjgolibmllhnaaGreat
open Go.RowKit Go.Shelf

/-- What Begin tells. -/
def BegPost (E : Int) (q : Nat) (v : VT) (a : Option Addr) (c : Nat) (w : World) (e : Ending) (w' : World) : Prop :=
  Below w.heap.size w w' ∧ ((E ≠ 0 ∧ e = .returned (.tuple #[.pointer none, .int .i64 E])) ∨ (E = 0 ∧ ∃ b, e = .returned (.tuple #[.pointer (some ⟨b, 0, none⟩), .int .i64 0]) ∧ w.heap.size ≤ b ∧ DB w' b false false zeroT (.slice none 0 0) none 1 q v (.slice a v.items.length c)))

set_option maxRecDepth 100000 in
set_option maxHeartbeats 8000000 in
theorem begin_any (d : Nat) (o : Int) (v : VT) (a : Option Addr) (c : Nat) (w : World) (hu : Lies d w v.items (.slice a v.items.length c)) :
    Calls Tryz.prog 30 #[.int .i64 o, .agg #[.int .i64 v.kind, .int .i64 v.num, .string v.text, .slice a v.items.length c]] w (BegPost (timesE d o 0 v) o.toNat v a c w) := by
  have HKi : Hid (∀ V, Calls Tryz.prog 69 #[.int .i64 o] V fun e w' => e = .returned (.bool (k5B o)) ∧ w' = V) := rkind5_any o
  obtain ⟨W0, hW0⟩ : ∃ W0, W0 = w.alloc (.cells #[.int .i64 v.kind, .int .i64 v.num, .string v.text, .slice a v.items.length c] 24) := ⟨_, rfl⟩
  have HW0 : Hid (W0 = w.alloc (.cells #[.int .i64 v.kind, .int .i64 v.num, .string v.text, .slice a v.items.length c] 24)) := hW0
  have hb0 : Below w.heap.size w W0 := by rw [hW0]; exact ((Grew.refl _).alloc _).below
  have HK : Hid (Bx W0 w.heap.size v (.slice a v.items.length c)) := by rw [hW0]; exact bx_alloc _ _ _
  have HRi : Hid (Calls Tryz.prog 70 #[.agg #[.int .i64 v.kind, .int .i64 v.num, .string v.text, .slice a v.items.length c]] W0 fun e w' => e = .returned (.bool (rightV d v)) ∧ Below W0.heap.size W0 w') := right_any d v _ W0 (Lies.keeps hb0 _ _ _ hu)
  obtain ⟨k0, k1, k2, k3, _, _, _, _⟩ := HK.out
  by_cases hq : o < 0 ∨ 8 ≤ o
  · have hkb : k5B o = false := by unfold k5B; rcases hq with h | h <;> simp <;> omega
    have hE : timesE d o 0 v = 4 := by unfold timesE; rw [if_pos hq]
    rw [hE]
    rw [hkb] at HKi
    clear hW0 hu hq hkb hE HRi HK
    go_enter Tryz.func30, Tryz.ntmps30
    go_upto_region 1 with fail
    rw [← HW0.out]
    clear HW0
    go_wp2_with fail
    refine Calls.mono (HKi.out _) ?_
    rintro e w9 ⟨rfl, hw9⟩
    obtain rfl : W0 = w9 := hw9.symm
    clear hw9 HKi
    go_wp2_with fail
    refine bodyPost_ret (v := .tuple #[.pointer none, .int .i64 4]) ?_ rfl ⟨hb0, .inl ⟨by decide, rfl⟩⟩
    simp [results, Tryz.results30, go_sem]
  · have hkb : k5B o = true := by unfold k5B; simp; omega
    rw [hkb] at HKi
    obtain ⟨q, rfl⟩ : ∃ q : Nat, o = (q : Int) := ⟨o.toNat, by omega⟩
    have hE : timesE d (q : Int) 0 v = (if rightV d v then 0 else 3) := by
      unfold timesE
      have h2 : ¬ ((0 : Int) < 0 ∨ (65536 : Int) < 0) := by omega
      rw [if_neg hq, if_neg h2]
    rw [hE]
    cases hr : rightV d v with
    | false =>
      rw [hr] at HRi
      simp only [Bool.false_eq_true, if_false]
      clear hW0 hu hq hkb hE HK hr
      go_enter Tryz.func30, Tryz.ntmps30
      go_upto_region 1 with fail
      rw [← HW0.out]
      clear HW0
      go_wp2_with fail
      refine Calls.mono (HKi.out _) ?_
      rintro e w9 ⟨rfl, hw9⟩
      obtain rfl : W0 = w9 := hw9.symm
      clear hw9 HKi
      go_wp2_with fail
      refine Calls.mono HRi.out ?_
      rintro e w1 ⟨rfl, hg1⟩
      have hb1 : Below w.heap.size w w1 := hb0.trans (hg1.mono hb0.size)
      clear hg1 HRi
      go_wp2_with fail
      refine bodyPost_ret (v := .tuple #[.pointer none, .int .i64 3]) ?_ rfl ⟨hb1, .inl ⟨by decide, rfl⟩⟩
      simp [results, Tryz.results30, go_sem]
    | true =>
      rw [hr] at HRi
      simp only [if_true, Int.toNat_natCast]
      clear hW0 hu hq hkb hE HK hr
      go_enter Tryz.func30, Tryz.ntmps30
      go_upto_region 1 with fail
      rw [← HW0.out]
      clear HW0
      go_wp2_with fail
      refine Calls.mono (HKi.out _) ?_
      rintro e w9 ⟨rfl, hw9⟩
      obtain rfl : W0 = w9 := hw9.symm
      clear hw9 HKi
      go_wp2_with fail
      refine Calls.mono HRi.out ?_
      rintro e w1 ⟨rfl, hg1⟩
      have hb1 : Below w.heap.size w w1 := hb0.trans (hg1.mono hb0.size)
      have k0 := cell_keeps hg1 k0; have k1 := cell_keeps hg1 k1; have k2 := cell_keeps hg1 k2; have k3 := cell_keeps hg1 k3
      have HE : Hid (BegPost 0 q v a c w (.returned (.tuple #[.pointer (some ⟨w1.heap.size, 0, none⟩), .int .i64 0])) (w1.alloc (.cells #[.bool false, .bool false, .int .i64 0, .int .i64 0, .string ⟨#[]⟩, .slice none 0 0, .pointer none, .int .i64 1, .int .i64 (q : Int), .int .i64 0, .int .i64 v.kind, .int .i64 v.num, .string v.text, .slice a v.items.length c, .slice none 0 0, .slice none 0 0] 100))) := ⟨hb1.trans (((Grew.refl w1).alloc _).below.mono hb1.size), .inr ⟨rfl, w1.heap.size, rfl, hb1.size, db_alloc w1 100 false false zeroT (.slice none 0 0) none 1 q v (.slice a v.items.length c)⟩⟩
      clear hg1 HRi hb1 hb0
      go_wp2_with fail
      refine bodyPost_ret (v := .tuple #[.pointer (some ⟨w1.heap.size, 0, none⟩), .int .i64 0]) ?_ rfl HE.out
      simp [results, Tryz.results30, go_sem]

/-- The wrapper tells what force tells. -/
def RF (B : Nat → Prop) (P2 : World → Prop) (x : VT) (a : Option Addr) (c : Nat) (p : Option Addr) (t : Bool) (l E : Int) (_w : World) (e : Ending) (w' : World) : Prop :=
  e = .returned (.tuple #[.agg #[.int .i64 x.kind, .int .i64 x.num, .string x.text, .slice a x.items.length c], .pointer p, .bool t, .int .i64 l, .int .i64 E]) ∧ ∃ w2, P2 w2 ∧ KC B w2 w'

set_option maxRecDepth 100000 in
set_option maxHeartbeats 8000000 in
theorem rForce_of (b : Nat) (f : Nat) (hf : f ≤ 1073741824) (P : VT → Option Addr → Nat → Option Addr → Bool → Int → Int → World → Prop) (w : World)
    (h : Calls Tryz.prog 74 #[.pointer (some ⟨b, 0, none⟩), .int .i64 (f : Int)] (zbox w) fun e w2 => ∃ x a c p t l E, e = .returned (.tuple #[.agg #[.int .i64 x.kind, .int .i64 x.num, .string x.text, .slice a x.items.length c], .pointer p, .bool t, .int .i64 l, .int .i64 E]) ∧ P x a c p t l E w2 ∧ Bx w2 w.heap.size zeroT (.slice none 0 0)) :
    Calls Tryz.prog 45 #[.pointer (some ⟨b, 0, none⟩), .int .i64 (f : Int)] w fun e w' => ∃ x a c p t l E, RF (fun j => j = w.heap.size) (P x a c p t l E) x a c p t l E w e w' := by
  obtain ⟨W0, hW0⟩ : ∃ W0, W0 = zbox w := ⟨_, rfl⟩
  have HW0 : Hid (W0 = w.alloc (.cells #[.int .i64 0, .int .i64 0, .string ⟨#[]⟩, .slice none 0 0] 24)) := hW0
  have HF : Hid _ := h
  rw [← hW0] at HF
  have h0 : ¬ (f : Int) < 0 := by omega
  have h1 : ¬ (1073741824 : Int) < (f : Int) := by omega
  clear hW0 h hf
  go_enter Tryz.func45, Tryz.ntmps45
  go_upto_region 1 with fail
  rw [← HW0.out]
  clear HW0
  go_wp2_with fail
  refine Calls.mono HF.out ?_
  rintro e w2 ⟨x, a, c, p, t, l, E, rfl, hP, hbx⟩
  have HE : Hid (∃ x' a' c' p' t' l' E', RF (fun j => j = w.heap.size) (P x' a' c' p' t' l' E') x' a' c' p' t' l' E' w (.returned (.tuple #[.agg #[.int .i64 x.kind, .int .i64 x.num, .string x.text, .slice a x.items.length c], .pointer p, .bool t, .int .i64 l, .int .i64 E])) (w2.setCells w.heap.size 0 (encP (x, .slice a x.items.length c)))) := ⟨x, a, c, p, t, l, E, rfl, w2, hP, (KC.set (B := fun j => j = w.heap.size) (o := 0 + 1 + 1 + 1) (KC.set (B := fun j => j = w.heap.size) (o := 0 + 1 + 1) (KC.set (B := fun j => j = w.heap.size) (o := 0 + 1) (KC.set (B := fun j => j = w.heap.size) (o := 0) (KC.refl _ w2) (.inl rfl) _) (.inl rfl) _) (.inl rfl) _) (.inl rfl) _)⟩
  have Hq : Hid (Bx (w2.setCells w.heap.size 0 (encP (x, .slice a x.items.length c))) w.heap.size x (.slice a x.items.length c)) := hbx.put (x, .slice a x.items.length c)
  obtain ⟨z0, z1, z2, z3, g0, g1, g2, g3⟩ := hbx
  clear hP HF
  go_wp2_with fail
  refine bodyPost_ret (v := .tuple #[.agg #[.int .i64 x.kind, .int .i64 x.num, .string x.text, .slice a x.items.length c], .pointer p, .bool t, .int .i64 l, .int .i64 E]) ?_ rfl HE.out
  obtain ⟨q0, q1, q2, q3, _, _, _, _⟩ := Hq.out
  simp only [World.setCells, encP, Nat.zero_add, Nat.reduceAdd] at q0 q1 q2 q3
  simp [results, Tryz.results45, go_sem, q0, q1, q2, q3]

set_option maxRecDepth 100000 in
set_option maxHeartbeats 4000000 in
theorem rknown_len (Q : Nat → Nat) (k : Nat) (w : World) (hk : ∀ i, i < k → w.cell? ⟨Q i, 0, none⟩ = some (.bool true) ∧ w.cell? ⟨Q i, 1, none⟩ = some (.bool true) ∧ w.cell? ⟨Q i, 6, none⟩ = some (.pointer (some ⟨Q (i + 1), 0, none⟩))) (hz : w.cell? ⟨Q k, 0, none⟩ = some (.bool false)) :
    Calls Tryz.prog 14 #[.pointer (some ⟨Q 0, 0, none⟩)] w fun e w' => e = .returned (.int .i64 ((min k 65536 : Nat) : Int)) ∧ w' = w := by
  have HR : Hid (∀ i, i < k → w.cell? ⟨Q i, 0, none⟩ = some (.bool true) ∧ w.cell? ⟨Q i, 1, none⟩ = some (.bool true) ∧ w.cell? ⟨Q i, 6, none⟩ = some (.pointer (some ⟨Q (i + 1), 0, none⟩))) := hk
  have HZ : Hid (w.cell? ⟨Q k, 0, none⟩ = some (.bool false)) := hz
  obtain ⟨M, hM⟩ : ∃ M, M = min k 65536 := ⟨_, rfl⟩
  have HM : Hid (M = min k 65536) := hM
  rw [← hM]
  clear hk hz hM
  go_enter Tryz.func14, Tryz.ntmps14
  go_wp2_with fail
  go_loopg [0, 3] k (fun g at_ n wr => ∃ j : Nat, n = .int .i64 (j : Int) ∧ at_ = .pointer (some ⟨Q j, 0, none⟩) ∧ j ≤ k ∧ j ≤ 65536 ∧ g = k - j ∧ wr = w)
  case atStart => exact ⟨0, rfl, rfl, by omega, by omega, by omega, rfl⟩
  case round =>
    obtain ⟨j, rfl, rfl, hj, hj2, hg, rfl⟩ := hrel
    have Hg : Hid _ := hg
    clear hg
    by_cases h65 : j < 65536
    · have hji : (j : Int) < 65536 := by omega
      by_cases hlt : j < k
      · obtain ⟨c0, c1, c6⟩ := HR.out j hlt
        have e1 : IntKind.i64.wrap ((j : Int) + 1) = ((j + 1 : Nat) : Int) := by rw [IntKind.wrap_i64]; omega
        go_wp2_with fail
        go_roundg (k - (j + 1))
        case measure => have := Hg.out; omega
        case rel => exact ⟨j + 1, rfl, rfl, by omega, by omega, rfl, rfl⟩
      · obtain rfl : j = k := by omega
        have c0 := HZ.out
        have hjM : M = j := by have := HM.out; omega
        subst hjM
        go_wp2_with fail
        go_ret
        exact ⟨rfl, rfl⟩
    · have hji : ¬ (j : Int) < 65536 := by omega
      have hjM : M = j := by have := HM.out; omega
      subst hjM
      go_wp2_with fail
      go_ret
      exact ⟨rfl, rfl⟩

end Go.Proofs.YtnjgolibmllhnaaGreat

namespace Go.Proofs.YtnjgolibmllhnaaGreat
open Go.RowKit Go.Shelf

theorem rForce_d (b q : Nat) (kd : Int) (z : VT) (uz : Value) (w : World) (h : DB w b false false zeroT (.slice none 0 0) none kd q z uz) :
    Calls Tryz.prog 45 #[.pointer (some ⟨b, 0, none⟩), .int .i64 0] w (FNil 0 220 w) := by
  have h1 := rforce_dry b q kd z uz (zbox w) (h.keeps (zbox_below w))
  have h2 := rForce_of b 0 (by omega) (fun x a c p t l E w2 => x = zeroT ∧ p = none ∧ t = false ∧ l = 0 ∧ E = 220 ∧ Below (zbox w).heap.size (zbox w) w2) w (Calls.mono h1 fun e w2 hp => by
    obtain ⟨a, c, he, hb⟩ := hp
    exact ⟨zeroT, a, c, none, false, 0, 220, he, ⟨rfl, rfl, rfl, rfl, rfl, hb⟩, (zbox_bx w).keeps hb⟩)
  refine Calls.mono h2 ?_
  rintro e w' ⟨x, a, c, p, t, l, E, rfl, w2, ⟨rfl, rfl, rfl, rfl, rfl, hb⟩, hk⟩
  have hb2 : Below w.heap.size w w2 := (zbox_below w).trans (hb.mono (zbox_below w).size)
  exact ⟨a, c, rfl, hb2.trans (hk.below (fun j hj => by omega) hb2.size)⟩

end Go.Proofs.YtnjgolibmllhnaaGreat

namespace Go.Proofs.YtnjgolibmllhnaaGreat
open Go.RowKit Go.Shelf

set_option maxRecDepth 100000 in
set_option maxHeartbeats 4000000 in
theorem rempty_any (w : World) : Calls Tryz.prog 29 #[] w fun e w' => e = .returned (.pointer (some ⟨w.heap.size, 0, none⟩)) ∧ Below w.heap.size w w' ∧ DB w' w.heap.size true false zeroT (.slice none 0 0) none 0 0 zeroT (.slice none 0 0) := by
  have HE : Hid (Below w.heap.size w (w.alloc (.cells #[.bool true, .bool false, .int .i64 0, .int .i64 0, .string ⟨#[]⟩, .slice none 0 0, .pointer none, .int .i64 0, .int .i64 0, .int .i64 0, .int .i64 0, .int .i64 0, .string ⟨#[]⟩, .slice none 0 0, .slice none 0 0, .slice none 0 0] 100)) ∧ DB (w.alloc (.cells #[.bool true, .bool false, .int .i64 0, .int .i64 0, .string ⟨#[]⟩, .slice none 0 0, .pointer none, .int .i64 0, .int .i64 0, .int .i64 0, .int .i64 0, .int .i64 0, .string ⟨#[]⟩, .slice none 0 0, .slice none 0 0, .slice none 0 0] 100)) w.heap.size true false zeroT (.slice none 0 0) none 0 0 zeroT (.slice none 0 0)) := ⟨((Grew.refl _).alloc _).below, db_alloc w 100 true false zeroT (.slice none 0 0) none 0 0 zeroT (.slice none 0 0)⟩
  go_enter Tryz.func29, Tryz.ntmps29
  go_wp2_with fail
  go_ret
  exact ⟨rfl, HE.out⟩

set_option maxRecDepth 100000 in
set_option maxHeartbeats 8000000 in
theorem rcons_wrong (d : Nat) (v : VT) (a : Option Addr) (c : Nat) (p : Option Addr) (w : World) (hu : Lies d w v.items (.slice a v.items.length c)) (hr : rightV d v = false) :
    Calls Tryz.prog 31 #[.agg #[.int .i64 v.kind, .int .i64 v.num, .string v.text, .slice a v.items.length c], .pointer p] w fun e w' => e = .returned (.tuple #[.pointer none, .int .i64 3]) ∧ Below w.heap.size w w' := by
  obtain ⟨W0, hW0⟩ : ∃ W0, W0 = w.alloc (.cells #[.int .i64 v.kind, .int .i64 v.num, .string v.text, .slice a v.items.length c] 24) := ⟨_, rfl⟩
  have HW0 : Hid (W0 = w.alloc (.cells #[.int .i64 v.kind, .int .i64 v.num, .string v.text, .slice a v.items.length c] 24)) := hW0
  have hb0 : Below w.heap.size w W0 := by rw [hW0]; exact ((Grew.refl _).alloc _).below
  have HK : Hid (Bx W0 w.heap.size v (.slice a v.items.length c)) := by rw [hW0]; exact bx_alloc _ _ _
  have HRi : Hid (Calls Tryz.prog 70 #[.agg #[.int .i64 v.kind, .int .i64 v.num, .string v.text, .slice a v.items.length c]] W0 fun e w' => e = .returned (.bool false) ∧ Below W0.heap.size W0 w') := by
    have h9 := right_any d v _ W0 (Lies.keeps hb0 _ _ _ hu)
    rw [hr] at h9
    exact h9
  obtain ⟨k0, k1, k2, k3, _, _, _, _⟩ := HK.out
  clear hW0 hu hr HK
  go_enter Tryz.func31, Tryz.ntmps31
  go_upto_region 1 with fail
  rw [← HW0.out]
  clear HW0
  go_wp2_with fail
  refine Calls.mono HRi.out ?_
  rintro e w1 ⟨rfl, hg1⟩
  have hb1 : Below w.heap.size w w1 := hb0.trans (hg1.mono hb0.size)
  clear hg1 HRi hb0 k0 k1 k2 k3
  go_wp2_with fail
  refine bodyPost_ret (v := .tuple #[.pointer none, .int .i64 3]) ?_ rfl ⟨rfl, hb1⟩
  simp [results, Tryz.results31, go_sem]

/-- The program's chain of known cells. -/
def ChP (w : World) : List VT → Nat → Prop
  | [], b => CB w b .nilIface 0 zeroT (.slice none 0 0) none
  | x :: xs, b => ∃ a c b', CB w b .nilIface 0 x (.slice a x.items.length c) (some ⟨b', 0, none⟩) ∧ Lies 16 w x.items (.slice a x.items.length c) ∧ rightV 16 x = true ∧ ChP w xs b'

/-- The document's. -/
def ChD (w : World) : List VT → Nat → Prop
  | [], b => DB w b true false zeroT (.slice none 0 0) none 0 0 zeroT (.slice none 0 0)
  | x :: xs, b => ∃ a c b', DB w b true true x (.slice a x.items.length c) (some ⟨b', 0, none⟩) 0 0 zeroT (.slice none 0 0) ∧ Lies 16 w x.items (.slice a x.items.length c) ∧ ChD w xs b'

theorem ChP.keeps {w w' : World} (hb : Below w.heap.size w w') : ∀ (xs : List VT) (b : Nat), ChP w xs b → ChP w' xs b
  | [], _, h => CB.keeps h hb
  | _ :: xs, _, ⟨a, c, b', h1, h2, h3, h4⟩ => ⟨a, c, b', h1.keeps hb, Lies.keeps hb _ _ _ h2, h3, ChP.keeps hb xs b' h4⟩

theorem ChD.keeps {w w' : World} (hb : Below w.heap.size w w') : ∀ (xs : List VT) (b : Nat), ChD w xs b → ChD w' xs b
  | [], _, h => DB.keeps h hb
  | _ :: xs, _, ⟨a, c, b', h1, h2, h4⟩ => ⟨a, c, b', h1.keeps hb, Lies.keeps hb _ _ _ h2, ChD.keeps hb xs b' h4⟩

theorem ChP.c0 {w : World} : ∀ {xs : List VT} {b : Nat}, ChP w xs b → w.cell? ⟨b, 0, none⟩ = some .nilIface
  | [], _, h => CB.c0 h
  | _ :: _, _, ⟨_, _, _, h1, _⟩ => h1.c0

theorem ChP.way {w : World} : ∀ (xs : List VT) (b : Nat), ChP w xs b → ∃ P : Nat → Nat, P 0 = b ∧ (∀ i, i < xs.length → w.cell? ⟨P i, 6, none⟩ = some (.pointer (some ⟨P (i + 1), 0, none⟩))) ∧ w.cell? ⟨P xs.length, 6, none⟩ = some (.pointer none)
  | [], b, h => ⟨fun _ => b, rfl, fun i hi => absurd hi (by simp), CB.c6 h⟩
  | _ :: xs, b, ⟨a, c, b', h1, _, _, h4⟩ => by
    obtain ⟨P, hP, h5, h6⟩ := ChP.way xs b' h4
    refine ⟨fun i => match i with | 0 => b | i + 1 => P i, rfl, fun i hi => ?_, h6⟩
    cases i with
    | zero => simp only [hP]; exact h1.c6
    | succ i => exact h5 i (by simpa using hi)

theorem ChP.len {w : World} {xs : List VT} {b : Nat} (h : ChP w xs b) : Calls Tryz.prog 13 #[.pointer (some ⟨b, 0, none⟩)] w fun e w' => e = .returned (.int .i64 ((min xs.length 65536 : Nat) : Int)) ∧ w' = w := by
  obtain ⟨P, rfl, h1, h2⟩ := ChP.way xs b h
  exact known_len _ P xs.length w w (own_some22 _ w) h1 h2

theorem ChD.way {w : World} : ∀ (xs : List VT) (b : Nat), ChD w xs b → ∃ Q : Nat → Nat, Q 0 = b ∧ (∀ i, i < xs.length → w.cell? ⟨Q i, 0, none⟩ = some (.bool true) ∧ w.cell? ⟨Q i, 1, none⟩ = some (.bool true) ∧ w.cell? ⟨Q i, 6, none⟩ = some (.pointer (some ⟨Q (i + 1), 0, none⟩))) ∧ w.cell? ⟨Q xs.length, 0, none⟩ = some (.bool true) ∧ w.cell? ⟨Q xs.length, 1, none⟩ = some (.bool false)
  | [], b, h => ⟨fun _ => b, rfl, fun i hi => absurd hi (by simp), DB.c0 h, DB.c1 h⟩
  | _ :: xs, b, ⟨a, c, b', h1, _, h4⟩ => by
    obtain ⟨P, hP, h5, h6⟩ := ChD.way xs b' h4
    refine ⟨fun i => match i with | 0 => b | i + 1 => P i, rfl, fun i hi => ?_, h6⟩
    cases i with
    | zero => simp only [hP]; exact ⟨h1.c0, h1.c1, h1.c6⟩
    | succ i => exact h5 i (by simpa using hi)

set_option maxRecDepth 100000 in
set_option maxHeartbeats 4000000 in
theorem rknown_end (Q : Nat → Nat) (k : Nat) (w : World) (hk : ∀ i, i < k → w.cell? ⟨Q i, 0, none⟩ = some (.bool true) ∧ w.cell? ⟨Q i, 1, none⟩ = some (.bool true) ∧ w.cell? ⟨Q i, 6, none⟩ = some (.pointer (some ⟨Q (i + 1), 0, none⟩))) (hz : w.cell? ⟨Q k, 0, none⟩ = some (.bool true) ∧ w.cell? ⟨Q k, 1, none⟩ = some (.bool false)) :
    Calls Tryz.prog 14 #[.pointer (some ⟨Q 0, 0, none⟩)] w fun e w' => e = .returned (.int .i64 ((min k 65536 : Nat) : Int)) ∧ w' = w := by
  have HR : Hid (∀ i, i < k → w.cell? ⟨Q i, 0, none⟩ = some (.bool true) ∧ w.cell? ⟨Q i, 1, none⟩ = some (.bool true) ∧ w.cell? ⟨Q i, 6, none⟩ = some (.pointer (some ⟨Q (i + 1), 0, none⟩))) := hk
  have HZ : Hid (w.cell? ⟨Q k, 0, none⟩ = some (.bool true) ∧ w.cell? ⟨Q k, 1, none⟩ = some (.bool false)) := hz
  obtain ⟨M, hM⟩ : ∃ M, M = min k 65536 := ⟨_, rfl⟩
  have HM : Hid (M = min k 65536) := hM
  rw [← hM]
  clear hk hz hM
  go_enter Tryz.func14, Tryz.ntmps14
  go_wp2_with fail
  go_loopg [0, 3] k (fun g at_ n wr => ∃ j : Nat, n = .int .i64 (j : Int) ∧ at_ = .pointer (some ⟨Q j, 0, none⟩) ∧ j ≤ k ∧ j ≤ 65536 ∧ g = k - j ∧ wr = w)
  case atStart => exact ⟨0, rfl, rfl, by omega, by omega, by omega, rfl⟩
  case round =>
    obtain ⟨j, rfl, rfl, hj, hj2, hg, rfl⟩ := hrel
    have Hg : Hid _ := hg
    clear hg
    by_cases h65 : j < 65536
    · have hji : (j : Int) < 65536 := by omega
      by_cases hlt : j < k
      · obtain ⟨c0, c1, c6⟩ := HR.out j hlt
        have e1 : IntKind.i64.wrap ((j : Int) + 1) = ((j + 1 : Nat) : Int) := by rw [IntKind.wrap_i64]; omega
        go_wp2_with fail
        go_roundg (k - (j + 1))
        case measure => have := Hg.out; omega
        case rel => exact ⟨j + 1, rfl, rfl, by omega, by omega, rfl, rfl⟩
      · obtain rfl : j = k := by omega
        obtain ⟨c0, c1⟩ := HZ.out
        have hjM : M = j := by have := HM.out; omega
        subst hjM
        go_wp2_with fail
        go_ret
        exact ⟨rfl, rfl⟩
    · have hji : ¬ (j : Int) < 65536 := by omega
      have hjM : M = j := by have := HM.out; omega
      subst hjM
      go_wp2_with fail
      go_ret
      exact ⟨rfl, rfl⟩

theorem ChD.len {w : World} {xs : List VT} {b : Nat} (h : ChD w xs b) : Calls Tryz.prog 14 #[.pointer (some ⟨b, 0, none⟩)] w fun e w' => e = .returned (.int .i64 ((min xs.length 65536 : Nat) : Int)) ∧ w' = w := by
  obtain ⟨Q, rfl, h1, h2⟩ := ChD.way xs b h
  exact rknown_end Q xs.length w h1 h2

set_option maxRecDepth 100000 in
set_option maxHeartbeats 8000000 in
theorem rforce_empty (b : Nat) (f : Int) (w : World) (h : DB w b true false zeroT (.slice none 0 0) none 0 0 zeroT (.slice none 0 0)) :
    Calls Tryz.prog 74 #[.pointer (some ⟨b, 0, none⟩), .int .i64 f] w (FNil f 0 w) := by
  obtain ⟨W0, hW0⟩ : ∃ W0, W0 = zbox w := ⟨_, rfl⟩
  have HW0 : Hid (W0 = w.alloc (.cells #[.int .i64 0, .int .i64 0, .string ⟨#[]⟩, .slice none 0 0] 24)) := hW0
  have hb0 : Below w.heap.size w W0 := by rw [hW0]; exact zbox_below w
  have HZ : Hid (Bx W0 w.heap.size zeroT (.slice none 0 0)) := by rw [hW0]; exact zbox_bx w
  have k0 := (h.keeps hb0).c0
  have k1 := (h.keeps hb0).c1
  obtain ⟨z0, z1, z2, z3, g0, g1, g2, g3⟩ := HZ.out
  have HE : Hid (FNil f 0 w (.returned (.tuple #[.agg #[.int .i64 0, .int .i64 0, .string ⟨#[]⟩, .slice none 0 0], .pointer none, .bool false, .int .i64 f, .int .i64 0])) (W0.setCells w.heap.size 0 (encP (zeroT, .slice none 0 0)))) := ⟨none, 0, rfl, (((hb0.setCell (p := ⟨w.heap.size, 0, none⟩) (by simp) _).setCell (p := ⟨w.heap.size, 0 + 1, none⟩) (by simp) _).setCell (p := ⟨w.heap.size, 0 + 1 + 1, none⟩) (by simp) _).setCell (p := ⟨w.heap.size, 0 + 1 + 1 + 1, none⟩) (by simp) _⟩
  have Hq : Hid (Bx (W0.setCells w.heap.size 0 (encP (zeroT, .slice none 0 0))) w.heap.size zeroT (.slice none 0 0)) := HZ.out.put (zeroT, .slice none 0 0)
  clear hW0 h hb0
  go_enter Tryz.func74, Tryz.ntmps74
  go_upto_region 1 with fail
  rw [← HW0.out]
  clear HW0
  go_wp2_with fail
  refine bodyPost_ret (v := .tuple #[.agg #[.int .i64 0, .int .i64 0, .string ⟨#[]⟩, .slice none 0 0], .pointer none, .bool false, .int .i64 f, .int .i64 0]) ?_ rfl HE.out
  obtain ⟨q0, q1, q2, q3, _, _, _, _⟩ := Hq.out
  simp only [World.setCells, encP, Nat.zero_add, Nat.reduceAdd] at q0 q1 q2 q3
  simp [results, Tryz.results74, go_sem, q0, q1, q2, q3]

theorem rForce_empty (b f : Nat) (hf : f ≤ 1073741824) (w : World) (h : DB w b true false zeroT (.slice none 0 0) none 0 0 zeroT (.slice none 0 0)) :
    Calls Tryz.prog 45 #[.pointer (some ⟨b, 0, none⟩), .int .i64 (f : Int)] w (FNil f 0 w) := by
  have h1 := rforce_empty b f (zbox w) (h.keeps (zbox_below w))
  have h2 := rForce_of b f hf (fun x a c p t l E w2 => x = zeroT ∧ p = none ∧ t = false ∧ l = (f : Int) ∧ E = 0 ∧ Below (zbox w).heap.size (zbox w) w2) w (Calls.mono h1 fun e w2 hp => by
    obtain ⟨a, c, he, hb⟩ := hp
    exact ⟨zeroT, a, c, none, false, f, 0, he, ⟨rfl, rfl, rfl, rfl, rfl, hb⟩, (zbox_bx w).keeps hb⟩)
  refine Calls.mono h2 ?_
  rintro e w' ⟨x, a, c, p, t, l, E, rfl, w2, ⟨rfl, rfl, rfl, rfl, rfl, hb⟩, hk⟩
  have hb2 : Below w.heap.size w w2 := (zbox_below w).trans (hb.mono (zbox_below w).size)
  exact ⟨a, c, rfl, hb2.trans (hk.below (fun j hj => by omega) hb2.size)⟩

theorem rForce_known (b f q : Nat) (kd : Int) (hf : f ≤ 1073741824) (x z : VT) (uz : Value) (a : Option Addr) (c : Nat) (p : Option Addr) (w : World) (h : DB w b true true x (.slice a x.items.length c) p kd q z uz) :
    Calls Tryz.prog 45 #[.pointer (some ⟨b, 0, none⟩), .int .i64 (f : Int)] w (RK x a c p f w) := by
  have h1 := rforce_known b q f kd x z uz a c p (zbox w) (h.keeps (zbox_below w))
  have h2 := rForce_of b f hf (fun x' a' c' p' t l E w2 => x' = x ∧ a' = a ∧ c' = c ∧ p' = p ∧ t = true ∧ l = (f : Int) ∧ E = 0 ∧ Below (zbox w).heap.size (zbox w) w2) w (Calls.mono h1 fun e w2 hp => ⟨x, a, c, p, true, f, 0, hp.1, ⟨rfl, rfl, rfl, rfl, rfl, rfl, rfl, hp.2⟩, (zbox_bx w).keeps hp.2⟩)
  refine Calls.mono h2 ?_
  rintro e w' ⟨x', a', c', p', t, l, E, rfl, w2, ⟨rfl, rfl, rfl, rfl, rfl, rfl, rfl, hb⟩, hk⟩
  have hb2 : Below w.heap.size w w2 := (zbox_below w).trans (hb.mono (zbox_below w).size)
  exact ⟨rfl, hb2.trans (hk.below (fun j hj => by omega) hb2.size)⟩

end Go.Proofs.YtnjgolibmllhnaaGreat

