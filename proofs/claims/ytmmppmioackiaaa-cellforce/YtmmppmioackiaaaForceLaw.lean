/-
  CellForce.
-/
import Derived.Test.YtmmppmioackiaaaRCell
import Derived.Test.YtmmppmioackiaaaLevel
import Derived.Test.YtmmppmioackiaaaRTimes
namespace Go.Proofs.Ytmmppmioackiaaa
open Go.RowKit Go.Shelf

theorem DB.put {w : World} {b : Nat} {kn ok : Bool} {x : VT} {u : Value} {p : Option Addr} {kd : Int} {q : Nat} {z : VT} {uz : Value} (h : DB w b kn ok x u p kd q z uz) (x' : VT) (u' : Value) (p' : Option Addr) : DB (w.setCells b 0 [.bool true, .bool true, .int .i64 x'.kind, .int .i64 x'.num, .string x'.text, u', .pointer p']) b true true x' u' p' kd q z uz := by
  have hin : ∀ j (hj : j < [.bool true, .bool true, .int .i64 x'.kind, .int .i64 x'.num, .string x'.text, u', .pointer p'].length), (w.setCells b 0 [.bool true, .bool true, .int .i64 x'.kind, .int .i64 x'.num, .string x'.text, u', .pointer p']).cell? ⟨b, 0 + j, none⟩ = some ([.bool true, .bool true, .int .i64 x'.kind, .int .i64 x'.num, .string x'.text, u', .pointer p'][j]) :=
    World.cell?_setCells_in b _ 0 w (fun j hj => by
      match j, hj with
      | 0, _ => rw [h.c0]; rfl
      | 1, _ => rw [h.c1]; rfl
      | 2, _ => rw [h.c2]; rfl
      | 3, _ => rw [h.c3]; rfl
      | 4, _ => rw [h.c4]; rfl
      | 5, _ => rw [h.c5]; rfl
      | 6, _ => rw [h.c6]; rfl)
  refine ⟨?_, ?_, ?_, ?_, ?_, ?_, ?_, (setc_ne (by omega) (setc_ne (by omega) (setc_ne (by omega) (setc_ne (by omega) (setc_ne (by omega) (setc_ne (by omega) (setc_ne (by omega) h.c7))))))), (setc_ne (by omega) (setc_ne (by omega) (setc_ne (by omega) (setc_ne (by omega) (setc_ne (by omega) (setc_ne (by omega) (setc_ne (by omega) h.c8))))))), (setc_ne (by omega) (setc_ne (by omega) (setc_ne (by omega) (setc_ne (by omega) (setc_ne (by omega) (setc_ne (by omega) (setc_ne (by omega) h.c9))))))), (setc_ne (by omega) (setc_ne (by omega) (setc_ne (by omega) (setc_ne (by omega) (setc_ne (by omega) (setc_ne (by omega) (setc_ne (by omega) h.c10))))))), (setc_ne (by omega) (setc_ne (by omega) (setc_ne (by omega) (setc_ne (by omega) (setc_ne (by omega) (setc_ne (by omega) (setc_ne (by omega) h.c11))))))), (setc_ne (by omega) (setc_ne (by omega) (setc_ne (by omega) (setc_ne (by omega) (setc_ne (by omega) (setc_ne (by omega) (setc_ne (by omega) h.c12))))))), (setc_ne (by omega) (setc_ne (by omega) (setc_ne (by omega) (setc_ne (by omega) (setc_ne (by omega) (setc_ne (by omega) (setc_ne (by omega) h.c13))))))), (setc_ne (by omega) (setc_ne (by omega) (setc_ne (by omega) (setc_ne (by omega) (setc_ne (by omega) (setc_ne (by omega) (setc_ne (by omega) h.c14))))))), (setc_ne (by omega) (setc_ne (by omega) (setc_ne (by omega) (setc_ne (by omega) (setc_ne (by omega) (setc_ne (by omega) (setc_ne (by omega) h.c15))))))), by rw [World.frozen?_setCells]; exact h.f0, by rw [World.frozen?_setCells]; exact h.f1, by rw [World.frozen?_setCells]; exact h.f2, by rw [World.frozen?_setCells]; exact h.f3, by rw [World.frozen?_setCells]; exact h.f4, by rw [World.frozen?_setCells]; exact h.f5, by rw [World.frozen?_setCells]; exact h.f6⟩
  · have q := hin 0 (by simp); simpa using q
  · have q := hin 1 (by simp); simpa using q
  · have q := hin 2 (by simp); simpa using q
  · have q := hin 3 (by simp); simpa using q
  · have q := hin 4 (by simp); simpa using q
  · have q := hin 5 (by simp); simpa using q
  · have q := hin 6 (by simp); simpa using q

set_option maxRecDepth 100000 in
set_option maxHeartbeats 8000000 in
theorem rforce_dry (b q : Nat) (kd : Int) (z : VT) (uz : Value) (w : World) (h : DB w b false false zeroT (.slice none 0 0) none kd q z uz) :
    Calls Try.prog 23 #[.pointer (some ⟨b, 0, none⟩), .int .i64 0] w (FNil 0 220 w) := by
  obtain ⟨W0, hW0⟩ : ∃ W0, W0 = zbox w := ⟨_, rfl⟩
  have HW0 : Hid (W0 = w.alloc (.cells #[.int .i64 0, .int .i64 0, .string ⟨#[]⟩, .slice none 0 0] 24)) := hW0
  have hb0 : Below w.heap.size w W0 := by rw [hW0]; exact zbox_below w
  have HZ : Hid (Bx W0 w.heap.size zeroT (.slice none 0 0)) := by rw [hW0]; exact zbox_bx w
  have HS : Hid (W0.heap.size = w.heap.size + 1) := by rw [hW0]; exact zbox_size w
  have HD : Hid (DB W0 b false false zeroT (.slice none 0 0) none kd q z uz) := h.keeps hb0
  obtain ⟨k0, _, _, _, _, _, _, _, _, _, _, _, _, _, _, _, _, _, _, _, _, _, _⟩ := HD.out
  obtain ⟨z0, z1, z2, z3, g0, g1, g2, g3⟩ := HZ.out
  have HE : Hid (FNil 0 220 w (.returned (.tuple #[.agg #[.int .i64 0, .int .i64 0, .string ⟨#[]⟩, .slice none 0 0], .pointer none, .bool false, .int .i64 0, .int .i64 220])) (W0.setCells w.heap.size 0 (encP (zeroT, .slice none 0 0)))) := ⟨none, 0, rfl, by
    have hB := hb0
    exact ((((hB.setCell (p := ⟨w.heap.size, 0, none⟩) (by simp) _).setCell (p := ⟨w.heap.size, 0 + 1, none⟩) (by simp) _).setCell (p := ⟨w.heap.size, 0 + 1 + 1, none⟩) (by simp) _).setCell (p := ⟨w.heap.size, 0 + 1 + 1 + 1, none⟩) (by simp) _)⟩
  have Hq : Hid (Bx (W0.setCells w.heap.size 0 (encP (zeroT, .slice none 0 0))) w.heap.size zeroT (.slice none 0 0)) := HZ.out.put (zeroT, .slice none 0 0)
  clear hW0 h hb0 HS HD
  go_enter Try.func23, Try.ntmps23
  go_upto_region 1 with fail
  rw [← HW0.out]
  clear HW0
  go_wp2_with fail
  refine bodyPost_ret (v := .tuple #[.agg #[.int .i64 0, .int .i64 0, .string ⟨#[]⟩, .slice none 0 0], .pointer none, .bool false, .int .i64 0, .int .i64 220]) ?_ rfl HE.out
  obtain ⟨q0, q1, q2, q3, _, _, _, _⟩ := Hq.out
  simp only [World.setCells, encP, Nat.zero_add, Nat.reduceAdd] at q0 q1 q2 q3
  simp [results, Try.results23, go_sem, q0, q1, q2, q3]

/-- Behind the document's force of a cell of Iter. -/
def RForce (X : Nat → Prop) (q : Nat) (x : VT) (f b : Nat) (kd : Int) (z : VT) (uz : Value) (w : World) (e : Ending) (w' : World) : Prop :=
  KC (fun j => j = b) w w' ∧ ∃ a1 c1 b', e = .returned (.tuple #[.agg #[.int .i64 x.kind, .int .i64 x.num, .string x.text, .slice a1 x.items.length c1], .pointer (some ⟨b', 0, none⟩), .bool true, .int .i64 (f : Int), .int .i64 0]) ∧ w.heap.size ≤ b' ∧ DB w' b true true x (.slice a1 x.items.length c1) (some ⟨b', 0, none⟩) kd q z uz ∧ DB w' b' false false zeroT (.slice none 0 0) none 13 q x (.slice a1 x.items.length c1) ∧ LiesX (fun n => (X n ∧ n < w.heap.size) ∨ (w.heap.size ≤ n ∧ n ≠ b')) 16 w' x.items (.slice a1 x.items.length c1)

set_option maxRecDepth 100000 in
set_option maxHeartbeats 8000000 in
theorem rforce_lazy (X : Nat → Prop) (q f b : Nat) (hf : f < 1073741824) (kd : Int) (x z : VT) (uz : Value) (hX : ¬ X b) (w : World) (hXw : ∀ n, X n → n < w.heap.size) (h : DB w b false false zeroT (.slice none 0 0) none kd q z uz)
    (hs : ∀ V, Below w.heap.size w V → Calls Try.prog 33 #[.pointer (some ⟨b, 0, none⟩), .int .i64 (f : Int)] V (RStep X q x f V)) :
    Calls Try.prog 23 #[.pointer (some ⟨b, 0, none⟩), .int .i64 ((f + 1 : Nat) : Int)] w (RForce X q x f b kd z uz w) := by
  obtain ⟨W0, hW0⟩ : ∃ W0, W0 = zbox w := ⟨_, rfl⟩
  have HW0 : Hid (W0 = w.alloc (.cells #[.int .i64 0, .int .i64 0, .string ⟨#[]⟩, .slice none 0 0] 24)) := hW0
  have hb0 : Below w.heap.size w W0 := by rw [hW0]; exact zbox_below w
  have HZ : Hid (Bx W0 w.heap.size zeroT (.slice none 0 0)) := by rw [hW0]; exact zbox_bx w
  have HS : Hid (W0.heap.size = w.heap.size + 1) := by rw [hW0]; exact zbox_size w
  have HD : Hid (DB W0 b false false zeroT (.slice none 0 0) none kd q z uz) := h.keeps hb0
  have HSt : Hid (Calls Try.prog 33 #[.pointer (some ⟨b, 0, none⟩), .int .i64 (f : Int)] W0 (RStep X q x f W0)) := hs W0 hb0
  obtain ⟨k0, _, _, _, _, _, _, _, _, _, _, _, _, _, _, _, _, _, _, _, _, _, _⟩ := HD.out
  have e1 : IntKind.i64.wrap (((f + 1 : Nat) : Int) - 1) = (f : Int) := by rw [IntKind.wrap_i64]; omega
  have e0 : ¬ ((f + 1 : Nat) : Int) < 1 := by omega
  have hbl := h.lt
  have HX : Hid (¬ X b ∧ ∀ n, X n → n < w.heap.size) := ⟨hX, hXw⟩
  have Hb0 : Hid (Below w.heap.size w W0 ∧ b < w.heap.size) := ⟨hb0, hbl⟩
  obtain ⟨F, hF⟩ : ∃ F : Int, F = ((f + 1 : Nat) : Int) := ⟨_, rfl⟩
  rw [← hF] at e1 e0 ⊢
  clear hF hW0 h hb0 hs hbl hX hXw
  go_enter Try.func23, Try.ntmps23
  go_upto_region 1 with fail
  rw [← HW0.out]
  clear HW0
  go_wp2_with fail
  refine Calls.mono HSt.out ?_
  rintro e w1 ⟨hg1, a1, c1, b', rfl, hb', hdb', hlx⟩
  have hsz := HS.out
  have hbb := Hb0.out
  obtain ⟨n9, hn9⟩ : ∃ n9, n9 = w1.heap.size := ⟨_, rfl⟩
  obtain ⟨W2, hW2⟩ : ∃ W2, W2 = w1.alloc (.cells #[.int .i64 x.kind, .int .i64 x.num, .string x.text, .slice a1 x.items.length c1] 24) := ⟨_, rfl⟩
  have HW2 : Hid (W2 = w1.alloc (.cells #[.int .i64 x.kind, .int .i64 x.num, .string x.text, .slice a1 x.items.length c1] 24)) := hW2
  have hal : Below w1.heap.size w1 W2 := by rw [hW2]; exact ((Grew.refl _).alloc _).below
  have hg2 : Below W0.heap.size W0 W2 := hg1.trans (hal.mono hg1.size)
  have hs1 := hg1.size
  have HB9 : Hid (Bx W2 n9 x (.slice a1 x.items.length c1)) := by rw [hW2, hn9]; exact bx_alloc _ _ _
  have HD2 : Hid (DB W2 b false false zeroT (.slice none 0 0) none kd q z uz) := HD.out.keeps hg2
  have HN2 : Hid (DB W2 b' false false zeroT (.slice none 0 0) none 13 q x (.slice a1 x.items.length c1)) := hdb'.keeps hal
  have HL2 : Hid (LiesX (fun n => X n ∨ (W0.heap.size ≤ n ∧ n ≠ b')) 16 W2 x.items (.slice a1 x.items.length c1)) := LiesX.mono (fun n hn => by rcases hn with ⟨h1, _⟩ | h1; exact .inl h1; exact .inr h1) (hlx.keeps hal)
  have HZ2 : Hid (Bx W2 w.heap.size zeroT (.slice none 0 0)) := HZ.out.keeps hg2
  have hb9 : n9 ≠ b := by omega
  have hbw : b ≠ w.heap.size := by omega
  have hbb' : b' ≠ b := by omega
  obtain ⟨W3, hW3⟩ : ∃ W3, W3 = W2.setCells b 0 [.bool true, .bool true, .int .i64 x.kind, .int .i64 x.num, .string x.text, .slice a1 x.items.length c1, .pointer (some ⟨b', 0, none⟩)] := ⟨_, rfl⟩
  have HW3 : Hid (W3 = ((((((W2.setCell ⟨b, 0, none⟩ (.bool true)).setCell ⟨b, 1, none⟩ (.bool true)).setCell ⟨b, 2, none⟩ (.int .i64 x.kind)).setCell ⟨b, 3, none⟩ (.int .i64 x.num)).setCell ⟨b, 4, none⟩ (.string x.text)).setCell ⟨b, 5, none⟩ (.slice a1 x.items.length c1)).setCell ⟨b, 6, none⟩ (.pointer (some ⟨b', 0, none⟩))) := hW3
  have HD3 : Hid (DB W3 b true true x (.slice a1 x.items.length c1) (some ⟨b', 0, none⟩) kd q z uz) := by rw [hW3]; exact HD2.out.put x (.slice a1 x.items.length c1) (some ⟨b', 0, none⟩)
  have HN3 : Hid (DB W3 b' false false zeroT (.slice none 0 0) none 13 q x (.slice a1 x.items.length c1)) := by rw [hW3]; exact HN2.out.other hbb' _
  have HL3 : Hid (LiesX (fun n => X n ∨ (W0.heap.size ≤ n ∧ n ≠ b')) 16 W3 x.items (.slice a1 x.items.length c1)) := by
    rw [hW3]
    refine LiesX.set (g := b) (o := 0) ?_ HL2.out
    rintro (h | h)
    · exact HX.out.1 h
    · omega
  have HZ3 : Hid (Bx W3 w.heap.size zeroT (.slice none 0 0)) := by rw [hW3]; exact HZ2.out.other (fun e => hbw e.symm) _
  have HK3 : Hid (KC (fun j => j = b) w W3) := by
    rw [hW3]
    exact (KC.set (B := fun j => j = b) (o := 0 + 1 + 1 + 1 + 1 + 1 + 1) (KC.set (B := fun j => j = b) (o := 0 + 1 + 1 + 1 + 1 + 1) (KC.set (B := fun j => j = b) (o := 0 + 1 + 1 + 1 + 1) (KC.set (B := fun j => j = b) (o := 0 + 1 + 1 + 1) (KC.set (B := fun j => j = b) (o := 0 + 1 + 1) (KC.set (B := fun j => j = b) (o := 0 + 1) (KC.set (B := fun j => j = b) (o := 0) ((KC.of_below hbb.1).trans (KC.of_below hg2)) (.inl rfl) _) (.inl rfl) _) (.inl rfl) _) (.inl rfl) _) (.inl rfl) _) (.inl rfl) _) (.inl rfl) _)
  have Hbb : Hid (w.heap.size ≤ b' ∧ b' ≠ w.heap.size ∧ b < w.heap.size) := ⟨by omega, by omega, hbb.2⟩
  obtain ⟨y0, y1, y2, y3, _, _, _, _⟩ := HB9.out
  obtain ⟨k0, k1, k2, k3, k4, k5, k6, _, _, _, _, _, _, _, _, _, f0, f1, f2, f3, f4, f5, f6⟩ := HD2.out
  clear hg1 hb' hdb' hlx hsz hbb hal hg2 hs1 hW2 hW3 HSt HD HZ
  go_upto_region 7 with fail
  rw [← HW2.out, ← hn9]
  clear HW2 hn9
  go_upto_region 14 with fail
  rw [← HW3.out]
  clear HW3 k0 k1 k2 k3 k4 k5 k6 f0 f1 f2 f3 f4 f5 f6 y0 y1 y2 y3 HD2 HN2 HL2 HZ2 HB9
  obtain ⟨k0, k1, k2, k3, k4, k5, k6, _, _, _, _, _, _, _, _, _, _, _, _, _, _, _, _⟩ := HD3.out
  obtain ⟨z0, z1, z2, z3, g0, g1, g2, g3⟩ := HZ3.out
  have HE : Hid (RForce X q x f b kd z uz w (.returned (.tuple #[.agg #[.int .i64 x.kind, .int .i64 x.num, .string x.text, .slice a1 x.items.length c1], .pointer (some ⟨b', 0, none⟩), .bool true, .int .i64 (f : Int), .int .i64 0])) (W3.setCells w.heap.size 0 (encP (x, .slice a1 x.items.length c1))).drew) := by
    have hh := Hbb.out
    have hws := HS.out
    refine ⟨KC.drew (KC.set (B := fun j => j = b) (o := 0 + 1 + 1 + 1) (KC.set (B := fun j => j = b) (o := 0 + 1 + 1) (KC.set (B := fun j => j = b) (o := 0 + 1) (KC.set (B := fun j => j = b) (o := 0) HK3.out (.inr (Nat.le_refl _)) _) (.inr (Nat.le_refl _)) _) (.inr (Nat.le_refl _)) _) (.inr (Nat.le_refl _)) _), a1, c1, b', rfl, hh.1, (HD3.out.other hbw _).keeps (Below.refl _ _).drew, (HN3.out.other hh.2.1 _).keeps (Below.refl _ _).drew, ?_⟩
    refine LiesX.keeps (Below.refl _ _).drew (LiesX.mono (fun n hn => ?_) (LiesX.set (g := w.heap.size) (o := 0) (vs := encP (x, .slice a1 x.items.length c1)) ?_ HL3.out))
    · rcases hn with h | h
      · exact .inl ⟨h, HX.out.2 n h⟩
      · exact .inr ⟨by omega, h.2⟩
    · rintro (h | h)
      · have := HX.out.2 _ h; omega
      · omega
  have Hq : Hid (Bx (W3.setCells w.heap.size 0 (encP (x, .slice a1 x.items.length c1))).drew w.heap.size x (.slice a1 x.items.length c1)) := (HZ3.out.put (x, .slice a1 x.items.length c1)).keeps (Below.refl _ _).drew
  clear HD3 HN3 HL3 HZ3 HK3 Hbb HX HS Hb0
  go_wp2_with fail
  go_region
  go_wp2_with fail
  refine bodyPost_ret (v := .tuple #[.agg #[.int .i64 x.kind, .int .i64 x.num, .string x.text, .slice a1 x.items.length c1], .pointer (some ⟨b', 0, none⟩), .bool true, .int .i64 (f : Int), .int .i64 0]) ?_ rfl HE.out
  obtain ⟨q0, q1, q2, q3, _, _, _, _⟩ := Hq.out
  simp only [World.setCells, encP, Nat.zero_add, Nat.reduceAdd] at q0 q1 q2 q3
  simp [results, Try.results23, go_sem, q0, q1, q2, q3]

end Go.Proofs.Ytmmppmioackiaaa

namespace Go.Proofs.Ytmmppmioackiaaa
open Go.RowKit Go.Shelf

/-- What Begin tells. -/
def BegPost (E : Int) (q : Nat) (v : VT) (a : Option Addr) (c : Nat) (w : World) (e : Ending) (w' : World) : Prop :=
  Below w.heap.size w w' ∧ ((E ≠ 0 ∧ e = .returned (.tuple #[.pointer none, .int .i64 E])) ∨ (E = 0 ∧ ∃ b, e = .returned (.tuple #[.pointer (some ⟨b, 0, none⟩), .int .i64 0]) ∧ w.heap.size ≤ b ∧ DB w' b false false zeroT (.slice none 0 0) none 1 q v (.slice a v.items.length c)))

set_option maxRecDepth 100000 in
set_option maxHeartbeats 8000000 in
theorem begin_any (d : Nat) (o : Int) (v : VT) (a : Option Addr) (c : Nat) (w : World) (hu : Lies d w v.items (.slice a v.items.length c)) :
    Calls Try.prog 5 #[.int .i64 o, .agg #[.int .i64 v.kind, .int .i64 v.num, .string v.text, .slice a v.items.length c]] w (BegPost (timesE d o 0 v) o.toNat v a c w) := by
  have HKi : Hid (∀ V, Calls Try.prog 16 #[.int .i64 o] V fun e w' => e = .returned (.bool (k5B o)) ∧ w' = V) := rkind5_any o
  obtain ⟨W0, hW0⟩ : ∃ W0, W0 = w.alloc (.cells #[.int .i64 v.kind, .int .i64 v.num, .string v.text, .slice a v.items.length c] 24) := ⟨_, rfl⟩
  have HW0 : Hid (W0 = w.alloc (.cells #[.int .i64 v.kind, .int .i64 v.num, .string v.text, .slice a v.items.length c] 24)) := hW0
  have hb0 : Below w.heap.size w W0 := by rw [hW0]; exact ((Grew.refl _).alloc _).below
  have HK : Hid (Bx W0 w.heap.size v (.slice a v.items.length c)) := by rw [hW0]; exact bx_alloc _ _ _
  have HRi : Hid (Calls Try.prog 17 #[.agg #[.int .i64 v.kind, .int .i64 v.num, .string v.text, .slice a v.items.length c]] W0 fun e w' => e = .returned (.bool (rightV d v)) ∧ Below W0.heap.size W0 w') := right_any d v _ W0 (Lies.keeps hb0 _ _ _ hu)
  obtain ⟨k0, k1, k2, k3, _, _, _, _⟩ := HK.out
  by_cases hq : o < 0 ∨ 8 ≤ o
  · have hkb : k5B o = false := by unfold k5B; rcases hq with h | h <;> simp <;> omega
    have hE : timesE d o 0 v = 4 := by unfold timesE; rw [if_pos hq]
    rw [hE]
    rw [hkb] at HKi
    clear hW0 hu hq hkb hE HRi HK
    go_enter Try.func5, Try.ntmps5
    go_upto_region 1 with fail
    rw [← HW0.out]
    clear HW0
    go_wp2_with fail
    refine Calls.mono (HKi.out _) ?_
    rintro e w9 ⟨rfl, hw9⟩
    obtain rfl : W0 = w9 := hw9.symm
    clear hw9 HKi
    go_wp2_with fail
    refine bodyPost_ret (v := .tuple #[.pointer none, .int .i64 4]) ?_ rfl ⟨hb0, .inl ⟨by decide, rfl⟩⟩
    simp [results, Try.results5, go_sem]
  · have hkb : k5B o = true := by unfold k5B; simp; omega
    rw [hkb] at HKi
    obtain ⟨q, rfl⟩ : ∃ q : Nat, o = (q : Int) := ⟨o.toNat, by omega⟩
    have hE : timesE d (q : Int) 0 v = (if rightV d v then 0 else 3) := by
      unfold timesE
      have h2 : ¬ ((0 : Int) < 0 ∨ (65536 : Int) < 0) := by omega
      rw [if_neg hq, if_neg h2]
    rw [hE]
    cases hr : rightV d v with
    | false =>
      rw [hr] at HRi
      simp only [Bool.false_eq_true, if_false]
      clear hW0 hu hq hkb hE HK hr
      go_enter Try.func5, Try.ntmps5
      go_upto_region 1 with fail
      rw [← HW0.out]
      clear HW0
      go_wp2_with fail
      refine Calls.mono (HKi.out _) ?_
      rintro e w9 ⟨rfl, hw9⟩
      obtain rfl : W0 = w9 := hw9.symm
      clear hw9 HKi
      go_wp2_with fail
      refine Calls.mono HRi.out ?_
      rintro e w1 ⟨rfl, hg1⟩
      have hb1 : Below w.heap.size w w1 := hb0.trans (hg1.mono hb0.size)
      clear hg1 HRi
      go_wp2_with fail
      refine bodyPost_ret (v := .tuple #[.pointer none, .int .i64 3]) ?_ rfl ⟨hb1, .inl ⟨by decide, rfl⟩⟩
      simp [results, Try.results5, go_sem]
    | true =>
      rw [hr] at HRi
      simp only [if_true, Int.toNat_natCast]
      clear hW0 hu hq hkb hE HK hr
      go_enter Try.func5, Try.ntmps5
      go_upto_region 1 with fail
      rw [← HW0.out]
      clear HW0
      go_wp2_with fail
      refine Calls.mono (HKi.out _) ?_
      rintro e w9 ⟨rfl, hw9⟩
      obtain rfl : W0 = w9 := hw9.symm
      clear hw9 HKi
      go_wp2_with fail
      refine Calls.mono HRi.out ?_
      rintro e w1 ⟨rfl, hg1⟩
      have hb1 : Below w.heap.size w w1 := hb0.trans (hg1.mono hb0.size)
      have k0 := cell_keeps hg1 k0; have k1 := cell_keeps hg1 k1; have k2 := cell_keeps hg1 k2; have k3 := cell_keeps hg1 k3
      have HE : Hid (BegPost 0 q v a c w (.returned (.tuple #[.pointer (some ⟨w1.heap.size, 0, none⟩), .int .i64 0])) (w1.alloc (.cells #[.bool false, .bool false, .int .i64 0, .int .i64 0, .string ⟨#[]⟩, .slice none 0 0, .pointer none, .int .i64 1, .int .i64 (q : Int), .int .i64 0, .int .i64 v.kind, .int .i64 v.num, .string v.text, .slice a v.items.length c, .slice none 0 0, .slice none 0 0] 52))) := ⟨hb1.trans (((Grew.refl w1).alloc _).below.mono hb1.size), .inr ⟨rfl, w1.heap.size, rfl, hb1.size, db_alloc w1 52 false false zeroT (.slice none 0 0) none 1 q v (.slice a v.items.length c)⟩⟩
      clear hg1 HRi hb1 hb0
      go_wp2_with fail
      refine bodyPost_ret (v := .tuple #[.pointer (some ⟨w1.heap.size, 0, none⟩), .int .i64 0]) ?_ rfl HE.out
      simp [results, Try.results5, go_sem]

set_option maxRecDepth 100000 in
set_option maxHeartbeats 8000000 in
theorem rForce_bad (cv : Option Addr) (f : Int) (hf : f < 0 ∨ 1073741824 < f) (w : World) : Calls Try.prog 8 #[.pointer cv, .int .i64 f] w (FNil 0 1 w) := by
  obtain ⟨W0, hW0⟩ : ∃ W0, W0 = zbox w := ⟨_, rfl⟩
  have HW0 : Hid (W0 = w.alloc (.cells #[.int .i64 0, .int .i64 0, .string ⟨#[]⟩, .slice none 0 0] 24)) := hW0
  have HZ : Hid (Bx W0 w.heap.size zeroT (.slice none 0 0)) := by rw [hW0]; exact zbox_bx w
  have hb0 : Below w.heap.size w W0 := by rw [hW0]; exact zbox_below w
  have HE : Hid (FNil 0 1 w (.returned (.tuple #[.agg #[.int .i64 0, .int .i64 0, .string ⟨#[]⟩, .slice none 0 0], .pointer none, .bool false, .int .i64 0, .int .i64 1])) (W0.setCells w.heap.size 0 (encP (zeroT, .slice none 0 0)))) := ⟨none, 0, rfl, (((hb0.setCell (p := ⟨w.heap.size, 0, none⟩) (by simp) _).setCell (p := ⟨w.heap.size, 0 + 1, none⟩) (by simp) _).setCell (p := ⟨w.heap.size, 0 + 1 + 1, none⟩) (by simp) _).setCell (p := ⟨w.heap.size, 0 + 1 + 1 + 1, none⟩) (by simp) _⟩
  have Hq : Hid (Bx (W0.setCells w.heap.size 0 (encP (zeroT, .slice none 0 0))) w.heap.size zeroT (.slice none 0 0)) := HZ.out.put (zeroT, .slice none 0 0)
  obtain ⟨z0, z1, z2, z3, g0, g1, g2, g3⟩ := HZ.out
  clear hW0 hb0
  rcases hf with h | h
  · go_enter Try.func8, Try.ntmps8
    go_upto_region 1 with fail
    rw [← HW0.out]
    clear HW0
    go_wp2_with fail
    refine bodyPost_ret (v := .tuple #[.agg #[.int .i64 0, .int .i64 0, .string ⟨#[]⟩, .slice none 0 0], .pointer none, .bool false, .int .i64 0, .int .i64 1]) ?_ rfl HE.out
    obtain ⟨q0, q1, q2, q3, _, _, _, _⟩ := Hq.out
    simp only [World.setCells, encP, Nat.zero_add, Nat.reduceAdd] at q0 q1 q2 q3
    simp [results, Try.results8, go_sem, q0, q1, q2, q3]
  · have h0 : ¬ f < 0 := by omega
    go_enter Try.func8, Try.ntmps8
    go_upto_region 1 with fail
    rw [← HW0.out]
    clear HW0
    go_wp2_with fail
    refine bodyPost_ret (v := .tuple #[.agg #[.int .i64 0, .int .i64 0, .string ⟨#[]⟩, .slice none 0 0], .pointer none, .bool false, .int .i64 0, .int .i64 1]) ?_ rfl HE.out
    obtain ⟨q0, q1, q2, q3, _, _, _, _⟩ := Hq.out
    simp only [World.setCells, encP, Nat.zero_add, Nat.reduceAdd] at q0 q1 q2 q3
    simp [results, Try.results8, go_sem, q0, q1, q2, q3]

/-- The wrapper tells what force tells. -/
def RF (B : Nat → Prop) (P2 : World → Prop) (x : VT) (a : Option Addr) (c : Nat) (p : Option Addr) (t : Bool) (l E : Int) (_w : World) (e : Ending) (w' : World) : Prop :=
  e = .returned (.tuple #[.agg #[.int .i64 x.kind, .int .i64 x.num, .string x.text, .slice a x.items.length c], .pointer p, .bool t, .int .i64 l, .int .i64 E]) ∧ ∃ w2, P2 w2 ∧ KC B w2 w'

set_option maxRecDepth 100000 in
set_option maxHeartbeats 8000000 in
theorem rForce_of (b : Nat) (f : Nat) (hf : f ≤ 1073741824) (P : VT → Option Addr → Nat → Option Addr → Bool → Int → Int → World → Prop) (w : World)
    (h : Calls Try.prog 23 #[.pointer (some ⟨b, 0, none⟩), .int .i64 (f : Int)] (zbox w) fun e w2 => ∃ x a c p t l E, e = .returned (.tuple #[.agg #[.int .i64 x.kind, .int .i64 x.num, .string x.text, .slice a x.items.length c], .pointer p, .bool t, .int .i64 l, .int .i64 E]) ∧ P x a c p t l E w2 ∧ Bx w2 w.heap.size zeroT (.slice none 0 0)) :
    Calls Try.prog 8 #[.pointer (some ⟨b, 0, none⟩), .int .i64 (f : Int)] w fun e w' => ∃ x a c p t l E, RF (fun j => j = w.heap.size) (P x a c p t l E) x a c p t l E w e w' := by
  obtain ⟨W0, hW0⟩ : ∃ W0, W0 = zbox w := ⟨_, rfl⟩
  have HW0 : Hid (W0 = w.alloc (.cells #[.int .i64 0, .int .i64 0, .string ⟨#[]⟩, .slice none 0 0] 24)) := hW0
  have HF : Hid _ := h
  rw [← hW0] at HF
  have h0 : ¬ (f : Int) < 0 := by omega
  have h1 : ¬ (1073741824 : Int) < (f : Int) := by omega
  clear hW0 h hf
  go_enter Try.func8, Try.ntmps8
  go_upto_region 1 with fail
  rw [← HW0.out]
  clear HW0
  go_wp2_with fail
  refine Calls.mono HF.out ?_
  rintro e w2 ⟨x, a, c, p, t, l, E, rfl, hP, hbx⟩
  have HE : Hid (∃ x' a' c' p' t' l' E', RF (fun j => j = w.heap.size) (P x' a' c' p' t' l' E') x' a' c' p' t' l' E' w (.returned (.tuple #[.agg #[.int .i64 x.kind, .int .i64 x.num, .string x.text, .slice a x.items.length c], .pointer p, .bool t, .int .i64 l, .int .i64 E])) (w2.setCells w.heap.size 0 (encP (x, .slice a x.items.length c)))) := ⟨x, a, c, p, t, l, E, rfl, w2, hP, (KC.set (B := fun j => j = w.heap.size) (o := 0 + 1 + 1 + 1) (KC.set (B := fun j => j = w.heap.size) (o := 0 + 1 + 1) (KC.set (B := fun j => j = w.heap.size) (o := 0 + 1) (KC.set (B := fun j => j = w.heap.size) (o := 0) (KC.refl _ w2) (.inl rfl) _) (.inl rfl) _) (.inl rfl) _) (.inl rfl) _)⟩
  have Hq : Hid (Bx (w2.setCells w.heap.size 0 (encP (x, .slice a x.items.length c))) w.heap.size x (.slice a x.items.length c)) := hbx.put (x, .slice a x.items.length c)
  obtain ⟨z0, z1, z2, z3, g0, g1, g2, g3⟩ := hbx
  clear hP HF
  go_wp2_with fail
  refine bodyPost_ret (v := .tuple #[.agg #[.int .i64 x.kind, .int .i64 x.num, .string x.text, .slice a x.items.length c], .pointer p, .bool t, .int .i64 l, .int .i64 E]) ?_ rfl HE.out
  obtain ⟨q0, q1, q2, q3, _, _, _, _⟩ := Hq.out
  simp only [World.setCells, encP, Nat.zero_add, Nat.reduceAdd] at q0 q1 q2 q3
  simp [results, Try.results8, go_sem, q0, q1, q2, q3]

set_option maxRecDepth 100000 in
set_option maxHeartbeats 4000000 in
theorem rknown_len (Q : Nat → Nat) (k : Nat) (w : World) (hk : ∀ i, i < k → w.cell? ⟨Q i, 0, none⟩ = some (.bool true) ∧ w.cell? ⟨Q i, 1, none⟩ = some (.bool true) ∧ w.cell? ⟨Q i, 6, none⟩ = some (.pointer (some ⟨Q (i + 1), 0, none⟩))) (hz : w.cell? ⟨Q k, 0, none⟩ = some (.bool false)) :
    Calls Try.prog 13 #[.pointer (some ⟨Q 0, 0, none⟩)] w fun e w' => e = .returned (.int .i64 ((min k 65536 : Nat) : Int)) ∧ w' = w := by
  have HR : Hid (∀ i, i < k → w.cell? ⟨Q i, 0, none⟩ = some (.bool true) ∧ w.cell? ⟨Q i, 1, none⟩ = some (.bool true) ∧ w.cell? ⟨Q i, 6, none⟩ = some (.pointer (some ⟨Q (i + 1), 0, none⟩))) := hk
  have HZ : Hid (w.cell? ⟨Q k, 0, none⟩ = some (.bool false)) := hz
  obtain ⟨M, hM⟩ : ∃ M, M = min k 65536 := ⟨_, rfl⟩
  have HM : Hid (M = min k 65536) := hM
  rw [← hM]
  clear hk hz hM
  go_enter Try.func13, Try.ntmps13
  go_wp2_with fail
  go_loopg [0, 3] k (fun g at_ n wr => ∃ j : Nat, n = .int .i64 (j : Int) ∧ at_ = .pointer (some ⟨Q j, 0, none⟩) ∧ j ≤ k ∧ j ≤ 65536 ∧ g = k - j ∧ wr = w)
  case atStart => exact ⟨0, rfl, rfl, by omega, by omega, by omega, rfl⟩
  case round =>
    obtain ⟨j, rfl, rfl, hj, hj2, hg, rfl⟩ := hrel
    have Hg : Hid _ := hg
    clear hg
    by_cases h65 : j < 65536
    · have hji : (j : Int) < 65536 := by omega
      by_cases hlt : j < k
      · obtain ⟨c0, c1, c6⟩ := HR.out j hlt
        have e1 : IntKind.i64.wrap ((j : Int) + 1) = ((j + 1 : Nat) : Int) := by rw [IntKind.wrap_i64]; omega
        go_wp2_with fail
        go_roundg (k - (j + 1))
        case measure => have := Hg.out; omega
        case rel => exact ⟨j + 1, rfl, rfl, by omega, by omega, rfl, rfl⟩
      · obtain rfl : j = k := by omega
        have c0 := HZ.out
        have hjM : M = j := by have := HM.out; omega
        subst hjM
        go_wp2_with fail
        go_ret
        exact ⟨rfl, rfl⟩
    · have hji : ¬ (j : Int) < 65536 := by omega
      have hjM : M = j := by have := HM.out; omega
      subst hjM
      go_wp2_with fail
      go_ret
      exact ⟨rfl, rfl⟩

set_option maxRecDepth 100000 in
set_option maxHeartbeats 2000000 in
theorem rforced_any (b : Nat) (R : Bool) (w : World) (h : w.cell? ⟨b, 0, none⟩ = some (.bool R)) : Calls Try.prog 11 #[.pointer (some ⟨b, 0, none⟩)] w fun e w' => e = .returned (.bool R) ∧ w' = w := by
  go_enter Try.func11, Try.ntmps11
  go_wp2_with fail
  go_ret
  exact ⟨rfl, rfl⟩

end Go.Proofs.Ytmmppmioackiaaa

namespace Go.Proofs.Ytmmppmioackiaaa
open Go.RowKit Go.Shelf

theorem rForce_d (b q : Nat) (kd : Int) (z : VT) (uz : Value) (w : World) (h : DB w b false false zeroT (.slice none 0 0) none kd q z uz) :
    Calls Try.prog 8 #[.pointer (some ⟨b, 0, none⟩), .int .i64 0] w (FNil 0 220 w) := by
  have h1 := rforce_dry b q kd z uz (zbox w) (h.keeps (zbox_below w))
  have h2 := rForce_of b 0 (by omega) (fun x a c p t l E w2 => x = zeroT ∧ p = none ∧ t = false ∧ l = 0 ∧ E = 220 ∧ Below (zbox w).heap.size (zbox w) w2) w (Calls.mono h1 fun e w2 hp => by
    obtain ⟨a, c, he, hb⟩ := hp
    exact ⟨zeroT, a, c, none, false, 0, 220, he, ⟨rfl, rfl, rfl, rfl, rfl, hb⟩, (zbox_bx w).keeps hb⟩)
  refine Calls.mono h2 ?_
  rintro e w' ⟨x, a, c, p, t, l, E, rfl, w2, ⟨rfl, rfl, rfl, rfl, rfl, hb⟩, hk⟩
  have hb2 : Below w.heap.size w w2 := (zbox_below w).trans (hb.mono (zbox_below w).size)
  exact ⟨a, c, rfl, hb2.trans (hk.below (fun j hj => by omega) hb2.size)⟩

/-- Behind it, where there is fuel. -/
def RL (X : Nat → Prop) (q : Nat) (v : VT) (g b : Nat) (uz : Value) (w : World) (e : Ending) (w' : World) : Prop :=
  ∃ a1 c1 b', e = .returned (.tuple #[.agg #[.int .i64 v.kind, .int .i64 v.num, .string v.text, .slice a1 v.items.length c1], .pointer (some ⟨b', 0, none⟩), .bool true, .int .i64 (g : Int), .int .i64 0]) ∧ KC (fun j => j = b) w w' ∧ w.heap.size ≤ b' ∧ DB w' b true true v (.slice a1 v.items.length c1) (some ⟨b', 0, none⟩) 1 q v uz ∧ DB w' b' false false zeroT (.slice none 0 0) none 13 q v (.slice a1 v.items.length c1) ∧ LiesX (fun n => X n ∨ w.heap.size ≤ n) 16 w' v.items (.slice a1 v.items.length c1)

theorem rForce_l (X : Nat → Prop) (q g b : Nat) (hg : g < 1073741824) (v : VT) (a : Option Addr) (c : Nat) (hX : ¬ X b) (w : World) (hXw : ∀ n, X n → n < w.heap.size) (h : DB w b false false zeroT (.slice none 0 0) none 1 q v (.slice a v.items.length c)) (hl : LiesX X 16 w v.items (.slice a v.items.length c)) :
    Calls Try.prog 8 #[.pointer (some ⟨b, 0, none⟩), .int .i64 ((g + 1 : Nat) : Int)] w (RL X q v g b (.slice a v.items.length c) w) := by
  have hzb := zbox_below w
  have hzs := zbox_size w
  have hbl := h.lt
  have hbn : b ≠ w.heap.size := by omega
  have h1 := rforce_lazy X q g b hg 1 v v (.slice a v.items.length c) hX (zbox w) (fun n hn => by have := hXw n hn; omega) (h.keeps hzb) (fun V hV => rstep1 X q b g v a c V ((h.keeps hzb).keeps hV) ((hl.keeps hzb).keeps hV))
  have h2 := rForce_of b (g + 1) (by omega) (fun x a1 c1 p t l E w2 => x = v ∧ t = true ∧ l = (g : Int) ∧ E = 0 ∧ ∃ b', p = some ⟨b', 0, none⟩ ∧ KC (fun j => j = b) (zbox w) w2 ∧ (zbox w).heap.size ≤ b' ∧ DB w2 b true true v (.slice a1 v.items.length c1) (some ⟨b', 0, none⟩) 1 q v (.slice a v.items.length c) ∧ DB w2 b' false false zeroT (.slice none 0 0) none 13 q v (.slice a1 v.items.length c1) ∧ LiesX (fun n => (X n ∧ n < (zbox w).heap.size) ∨ ((zbox w).heap.size ≤ n ∧ n ≠ b')) 16 w2 v.items (.slice a1 v.items.length c1)) w (Calls.mono h1 fun e w2 hp => by
    obtain ⟨hk, a1, c1, b', he, hb', hd, hd', hx⟩ := hp
    exact ⟨v, a1, c1, some ⟨b', 0, none⟩, true, g, 0, he, ⟨rfl, rfl, rfl, rfl, b', rfl, hk, hb', hd, hd', hx⟩, hk.bx (fun e => hbn e.symm) (zbox_bx w)⟩)
  refine Calls.mono h2 ?_
  rintro e w' ⟨x, a1, c1, p, t, l, E, rfl, w2, ⟨rfl, rfl, rfl, rfl, b', rfl, hk, hb', hd, hd', hx⟩, hk2⟩
  have hs2 := hk.size
  have hbb := hd'.lt
  refine ⟨a1, c1, b', rfl, ((KC.of_below hzb).trans2 hk (fun _ _ h => h)).trans2 hk2 (fun j hj h => by omega), by omega, hk2.db hbn hd, hk2.db (by omega) hd', ?_⟩
  refine LiesX.mono (fun n hn => ?_) (hk2.liesX (fun n hn => ?_) hx)
  · rcases hn with h | h
    · exact .inl h.1
    · exact .inr (by omega)
  · rcases hn with h | h
    · have := hXw n h.1; omega
    · omega

end Go.Proofs.Ytmmppmioackiaaa

namespace Go.Proofs.Ytmmppmioackiaaa
open Go.RowKit Go.Shelf

set_option maxRecDepth 100000 in
set_option maxHeartbeats 16000000 in
theorem forces_walk (o f : Int) (d : Nat) (v : VT) (u : Value) (w : World) (hu : Lies d w v.items u) (ht : v.text.size ≤ 9223372036854775807) :
    Calls Try.prog 3 #[.int .i64 o, .int .i64 f, .agg #[.int .i64 v.kind, .int .i64 v.num, .string v.text, u]] w fun e w' => e = .returned (.bool true) ∧ Below w.heap.size w w' := by
  have HSp : Hid (∀ V, Calls Try.prog 6 #[] V fun e w' => e = .returned (.bool true) ∧ Below V.heap.size V w') := speaks22_any
  obtain ⟨au, cu, rfl, _⟩ := Lies.slice hu
  obtain ⟨E, hE⟩ : ∃ E, E = timesE d o 0 v := ⟨_, rfl⟩
  obtain ⟨q, hq⟩ : ∃ q, q = o.toNat := ⟨_, rfl⟩
  have HIt : Hid (∀ V, Below w.heap.size w V → Calls Try.prog 4 #[.int .i64 o, .agg #[.int .i64 v.kind, .int .i64 v.num, .string v.text, .slice au v.items.length cu]] V (IterPost E q v V)) := fun V hV => by rw [hE, hq]; exact iter_any d o v _ V (Lies.keeps hV _ _ _ hu) ht
  have HBe : Hid (∀ V, Below w.heap.size w V → Calls Try.prog 5 #[.int .i64 o, .agg #[.int .i64 v.kind, .int .i64 v.num, .string v.text, .slice au v.items.length cu]] V (BegPost E q v au cu V)) := fun V hV => by rw [hE, hq]; exact begin_any d o v au cu V (Lies.keeps hV _ _ _ hu)
  have HRt : Hid (E = 0 → q < 8 ∧ rightV 16 v = true ∧ Lies 16 w v.items (.slice au v.items.length cu)) := fun h => by
    rw [h] at hE
    unfold timesE at hE
    by_cases h1 : o < 0 ∨ 8 ≤ o
    · rw [if_pos h1] at hE; cases hE
    · rw [if_neg h1] at hE
      have h2 : ¬ ((0 : Int) < 0 ∨ (65536 : Int) < 0) := by omega
      rw [if_neg h2] at hE
      cases hr : rightV d v with
      | false => rw [hr] at hE; cases hE
      | true =>
        have hc := canon hu hr
        exact ⟨by omega, hc.2, hc.1⟩
  have HBk : Hid (Bx (w.alloc (.cells #[.int .i64 v.kind, .int .i64 v.num, .string v.text, .slice au v.items.length cu] 24)) w.heap.size v (.slice au v.items.length cu)) := bx_alloc _ _ _
  have hb0 : Below w.heap.size w (w.alloc (.cells #[.int .i64 v.kind, .int .i64 v.num, .string v.text, .slice au v.items.length cu] 24)) := ((Grew.refl w).alloc _).below
  obtain ⟨k0, k1, k2, k3, _, _, _, _⟩ := HBk.out
  clear hu ht hE hq
  go_enter Try.func3, Try.ntmps3
  go_wp2_with fail
  refine Calls.mono (HIt.out _ hb0) ?_
  rintro e w1 ⟨hg1, hcase⟩
  have hb1 : Below w.heap.size w w1 := hb0.trans (hg1.mono hb0.size)
  have k0 := cell_keeps hg1 k0; have k1 := cell_keeps hg1 k1; have k2 := cell_keeps hg1 k2; have k3 := cell_keeps hg1 k3
  have HB1 : Hid _ := HBe.out _ hb1
  clear HIt HBk HBe
  rcases hcase with ⟨hE, rfl⟩ | ⟨hE, a, c, b, rfl, hb, hcb, hlx⟩
  · have hne : (E != 0) = true := by simp [hE]
    have hee : (E != E) = false := by simp
    clear hg1 hb0
    go_wp2_with fail
    refine Calls.mono HB1.out ?_
    rintro e w2 ⟨hg2, ⟨_, rfl⟩ | ⟨h0, _⟩⟩
    · have hb2 : Below w.heap.size w w2 := hb1.trans (hg2.mono hb1.size)
      clear hg2 hb1 HB1 k0 k1 k2 k3
      go_wp2_with fail
      refine Calls.mono (HSp.out _) ?_
      rintro e wz ⟨rfl, hgz⟩
      have hbz : Below w.heap.size w wz := hb2.trans (hgz.mono hb2.size)
      clear hgz
      go_wp2_with fail
      go_ret
      exact ⟨rfl, hbz⟩
    · exact absurd h0 hE
  · obtain ⟨hq8, hr, hl16⟩ := HRt.out hE
    subst hE
    have HCB1 : Hid (CB w1 b (stepV q 0 v (.slice a v.items.length c)) 0 zeroT (.slice none 0 0) none) := hcb
    have HLX1 : Hid (LiesX (fun n => n ≠ b) 16 w1 v.items (.slice a v.items.length c)) := LiesX.mono (fun n hn => hn.2) hlx
    have HR : Hid (q < 8 ∧ rightV 16 v = true ∧ Lies 16 w v.items (.slice au v.items.length cu)) := ⟨hq8, hr, hl16⟩
    have hwb : w.heap.size ≤ b := Nat.le_trans hb0.size hb
    clear hg1 hb0 hb hcb hlx hq8 hr hl16 HRt
    go_wp2_with fail
    refine Calls.mono HB1.out ?_
    rintro e w2 ⟨hg2, ⟨h0, _⟩ | ⟨_, b2, rfl, hb2', hdb⟩⟩
    · exact absurd rfl h0
    have hb2 : Below w.heap.size w w2 := hb1.trans (hg2.mono hb1.size)
    have HCB : Hid (CB w2 b (stepV q 0 v (.slice a v.items.length c)) 0 zeroT (.slice none 0 0) none) := HCB1.out.keeps hg2
    have HLX : Hid (LiesX (fun n => n ≠ b) 16 w2 v.items (.slice a v.items.length c)) := HLX1.out.keeps hg2
    have HDB : Hid (DB w2 b2 false false zeroT (.slice none 0 0) none 1 q v (.slice au v.items.length cu)) := hdb
    have Hbb : Hid ((b < w2.heap.size ∧ b2 < w2.heap.size) ∧ b ≠ b2 ∧ w.heap.size ≤ b ∧ w.heap.size ≤ b2) := ⟨⟨HCB.out.lt, hdb.lt⟩, by have := HCB1.out.lt; omega, hwb, by have := hb1.size; omega⟩
    have HLw : Hid (LiesX (fun n => n < w.heap.size) 16 w2 v.items (.slice au v.items.length cu)) := (LiesX.of_lies HR.out.2.2).keeps hb2
    clear hg2 hb2' hdb hb1 hwb HB1 HCB1 HLX1 k0 k1 k2 k3
    by_cases hf : f < 0 ∨ 1073741824 < f
    · have HF1 : Hid (Calls Try.prog 7 #[.pointer (some ⟨b, 0, none⟩), .int .i64 f] w2 (FNil 0 1 w2)) := Force_bad _ f hf w2
      have HF2 : Hid (∀ V, Below w2.heap.size w2 V → Calls Try.prog 8 #[.pointer (some ⟨b2, 0, none⟩), .int .i64 f] V (FNil 0 1 V)) := fun V _ => rForce_bad _ f hf V
      clear hf HLX HLw Hbb HR
      go_wp2_with fail
      refine Calls.mono HF1.out ?_
      rintro e w3 ⟨a3, c3, rfl, hg3⟩
      obtain ⟨n1, hn1⟩ : ∃ n1, n1 = w3.heap.size := ⟨_, rfl⟩
      obtain ⟨W4, hW4⟩ : ∃ W4, W4 = w3.alloc (.cells #[.int .i64 0, .int .i64 0, .string ⟨#[]⟩, .slice a3 0 c3] 24) := ⟨_, rfl⟩
      have HW4 : Hid (W4 = w3.alloc (.cells #[.int .i64 0, .int .i64 0, .string ⟨#[]⟩, .slice a3 0 c3] 24)) := hW4
      have hal : Below w3.heap.size w3 W4 := by rw [hW4]; exact ((Grew.refl _).alloc _).below
      have hg4 : Below w2.heap.size w2 W4 := hg3.trans (hal.mono hg3.size)
      have HB1 : Hid (Bx W4 n1 zeroT (.slice a3 0 c3)) := by rw [hW4, hn1]; exact bx_alloc w3 zeroT (.slice a3 0 c3)
      have HF2' : Hid _ := HF2.out W4 hg4
      clear hal hg3 hW4 HF1
      go_upto_region 8 with fail
      rw [← HW4.out, ← hn1]
      clear HW4 hn1
      go_wp2_with fail
      refine Calls.mono HF2'.out ?_
      rintro e w5 ⟨a5, c5, rfl, hg5⟩
      obtain ⟨n2, hn2⟩ : ∃ n2, n2 = w5.heap.size := ⟨_, rfl⟩
      obtain ⟨W6, hW6⟩ : ∃ W6, W6 = w5.alloc (.cells #[.int .i64 0, .int .i64 0, .string ⟨#[]⟩, .slice a5 0 c5] 24) := ⟨_, rfl⟩
      have HW6 : Hid (W6 = w5.alloc (.cells #[.int .i64 0, .int .i64 0, .string ⟨#[]⟩, .slice a5 0 c5] 24)) := hW6
      have hal : Below w5.heap.size w5 W6 := by rw [hW6]; exact ((Grew.refl _).alloc _).below
      have hg6 : Below W4.heap.size W4 W6 := hg5.trans (hal.mono hg5.size)
      have HB2 : Hid (Bx W6 n2 zeroT (.slice a5 0 c5)) := by rw [hW6, hn2]; exact bx_alloc w5 zeroT (.slice a5 0 c5)
      have HB1' : Hid (Bx W6 n1 zeroT (.slice a3 0 c3)) := HB1.out.keeps hg6
      have hg26 : Below w2.heap.size w2 W6 := hg4.trans (hg6.mono hg4.size)
      have HSm : Hid (Calls Try.prog 9 #[.agg #[.int .i64 0, .int .i64 0, .string ⟨#[]⟩, .slice a3 0 c3], .agg #[.int .i64 0, .int .i64 0, .string ⟨#[]⟩, .slice a5 0 c5]] W6 fun e w' => e = .returned (.bool true) ∧ Below W6.heap.size W6 w') := (same_any 0 zeroT zeroT _ _ W6 ⟨rfl, a3, c3, rfl⟩ ⟨rfl, a5, c5, rfl⟩).mono fun e w' h => ⟨by rw [h.1, sameV_self], h.2.below⟩
      clear hal hg5 hg6 hW6 hg4 HF2' HF2
      go_upto_region 9 with fail
      rw [← HW6.out, ← hn2]
      clear HW6 hn2
      obtain ⟨y0, y1, y2, y3, _, _, _, _⟩ := HB1'.out
      obtain ⟨z0, z1, z2, z3, _, _, _, _⟩ := HB2.out
      go_wp2_with fail
      refine Calls.mono HSm.out ?_
      rintro e w7 ⟨rfl, hg7⟩
      have hg27 : Below w2.heap.size w2 w7 := hg26.trans (hg7.mono hg26.size)
      have hb7 : Below w.heap.size w w7 := hb2.trans (hg27.mono hb2.size)
      have HY1 : Hid (Calls Try.prog 10 #[.pointer (some ⟨b, 0, none⟩)] w7 fun e w' => e = .returned (.bool false) ∧ w' = w7) := forced_no b _ _ w7 (HCB.out.keeps hg27).c0
      have HY2 : Hid (Calls Try.prog 11 #[.pointer (some ⟨b2, 0, none⟩)] w7 fun e w' => e = .returned (.bool false) ∧ w' = w7) := rforced_any b2 false w7 (HDB.out.keeps hg27).c0
      have HY3 : Hid (Calls Try.prog 12 #[.pointer (some ⟨b, 0, none⟩)] w7 fun e w' => e = .returned (.int .i64 0) ∧ w' = w7) := known_len _ (fun _ => b) 0 w7 w7 (own_some22 b w7) (fun i h => absurd h (by omega)) (HCB.out.keeps hg27).c6
      have HY4 : Hid (Calls Try.prog 13 #[.pointer (some ⟨b2, 0, none⟩)] w7 fun e w' => e = .returned (.int .i64 0) ∧ w' = w7) := rknown_len (fun _ => b2) 0 w7 (fun i h => absurd h (by omega)) (HDB.out.keeps hg27).c0
      clear hg7 hg27 hg26 y0 y1 y2 y3 z0 z1 z2 z3 HSm HB1' HB1 HB2 HCB HDB hb2
      go_wp2_with fail
      refine Calls.mono HY1.out ?_
      rintro e w9 ⟨rfl, hw9⟩
      obtain rfl : w7 = w9 := hw9.symm
      clear hw9
      go_wp2_with fail
      refine Calls.mono HY2.out ?_
      rintro e w9 ⟨rfl, hw9⟩
      obtain rfl : w7 = w9 := hw9.symm
      clear hw9
      go_wp2_with fail
      refine Calls.mono HY3.out ?_
      rintro e w9 ⟨rfl, hw9⟩
      obtain rfl : w7 = w9 := hw9.symm
      clear hw9
      go_wp2_with fail
      refine Calls.mono HY4.out ?_
      rintro e w9 ⟨rfl, hw9⟩
      obtain rfl : w7 = w9 := hw9.symm
      clear hw9
      clear HY1 HY2 HY3 HY4
      go_wp2_with fail
      refine Calls.mono (HSp.out _) ?_
      rintro e wz ⟨rfl, hgz⟩
      have hbz : Below w.heap.size w wz := hb7.trans (hgz.mono hb7.size)
      clear hgz
      go_wp2_with fail
      go_ret
      exact ⟨rfl, hbz⟩
    · by_cases hz : f = 0
      · subst hz
        have HF1 : Hid (Calls Try.prog 7 #[.pointer (some ⟨b, 0, none⟩), .int .i64 0] w2 (FNil 0 220 w2)) := Force_dry b _ _ w2 HCB.out.c0
        have HF2 : Hid (∀ V, Below w2.heap.size w2 V → Calls Try.prog 8 #[.pointer (some ⟨b2, 0, none⟩), .int .i64 0] V (FNil 0 220 V)) := fun V hV => rForce_d b2 q 1 v _ V (HDB.out.keeps hV)
        clear hf HLX HLw Hbb HR
        go_wp2_with fail
        refine Calls.mono HF1.out ?_
        rintro e w3 ⟨a3, c3, rfl, hg3⟩
        obtain ⟨n1, hn1⟩ : ∃ n1, n1 = w3.heap.size := ⟨_, rfl⟩
        obtain ⟨W4, hW4⟩ : ∃ W4, W4 = w3.alloc (.cells #[.int .i64 0, .int .i64 0, .string ⟨#[]⟩, .slice a3 0 c3] 24) := ⟨_, rfl⟩
        have HW4 : Hid (W4 = w3.alloc (.cells #[.int .i64 0, .int .i64 0, .string ⟨#[]⟩, .slice a3 0 c3] 24)) := hW4
        have hal : Below w3.heap.size w3 W4 := by rw [hW4]; exact ((Grew.refl _).alloc _).below
        have hg4 : Below w2.heap.size w2 W4 := hg3.trans (hal.mono hg3.size)
        have HB1 : Hid (Bx W4 n1 zeroT (.slice a3 0 c3)) := by rw [hW4, hn1]; exact bx_alloc w3 zeroT (.slice a3 0 c3)
        have HF2' : Hid _ := HF2.out W4 hg4
        clear hal hg3 hW4 HF1
        go_upto_region 8 with fail
        rw [← HW4.out, ← hn1]
        clear HW4 hn1
        go_wp2_with fail
        refine Calls.mono HF2'.out ?_
        rintro e w5 ⟨a5, c5, rfl, hg5⟩
        obtain ⟨n2, hn2⟩ : ∃ n2, n2 = w5.heap.size := ⟨_, rfl⟩
        obtain ⟨W6, hW6⟩ : ∃ W6, W6 = w5.alloc (.cells #[.int .i64 0, .int .i64 0, .string ⟨#[]⟩, .slice a5 0 c5] 24) := ⟨_, rfl⟩
        have HW6 : Hid (W6 = w5.alloc (.cells #[.int .i64 0, .int .i64 0, .string ⟨#[]⟩, .slice a5 0 c5] 24)) := hW6
        have hal : Below w5.heap.size w5 W6 := by rw [hW6]; exact ((Grew.refl _).alloc _).below
        have hg6 : Below W4.heap.size W4 W6 := hg5.trans (hal.mono hg5.size)
        have HB2 : Hid (Bx W6 n2 zeroT (.slice a5 0 c5)) := by rw [hW6, hn2]; exact bx_alloc w5 zeroT (.slice a5 0 c5)
        have HB1' : Hid (Bx W6 n1 zeroT (.slice a3 0 c3)) := HB1.out.keeps hg6
        have hg26 : Below w2.heap.size w2 W6 := hg4.trans (hg6.mono hg4.size)
        have HSm : Hid (Calls Try.prog 9 #[.agg #[.int .i64 0, .int .i64 0, .string ⟨#[]⟩, .slice a3 0 c3], .agg #[.int .i64 0, .int .i64 0, .string ⟨#[]⟩, .slice a5 0 c5]] W6 fun e w' => e = .returned (.bool true) ∧ Below W6.heap.size W6 w') := (same_any 0 zeroT zeroT _ _ W6 ⟨rfl, a3, c3, rfl⟩ ⟨rfl, a5, c5, rfl⟩).mono fun e w' h => ⟨by rw [h.1, sameV_self], h.2.below⟩
        clear hal hg5 hg6 hW6 hg4 HF2' HF2
        go_upto_region 9 with fail
        rw [← HW6.out, ← hn2]
        clear HW6 hn2
        obtain ⟨y0, y1, y2, y3, _, _, _, _⟩ := HB1'.out
        obtain ⟨z0, z1, z2, z3, _, _, _, _⟩ := HB2.out
        go_wp2_with fail
        refine Calls.mono HSm.out ?_
        rintro e w7 ⟨rfl, hg7⟩
        have hg27 : Below w2.heap.size w2 w7 := hg26.trans (hg7.mono hg26.size)
        have hb7 : Below w.heap.size w w7 := hb2.trans (hg27.mono hb2.size)
        have HY1 : Hid (Calls Try.prog 10 #[.pointer (some ⟨b, 0, none⟩)] w7 fun e w' => e = .returned (.bool false) ∧ w' = w7) := forced_no b _ _ w7 (HCB.out.keeps hg27).c0
        have HY2 : Hid (Calls Try.prog 11 #[.pointer (some ⟨b2, 0, none⟩)] w7 fun e w' => e = .returned (.bool false) ∧ w' = w7) := rforced_any b2 false w7 (HDB.out.keeps hg27).c0
        have HY3 : Hid (Calls Try.prog 12 #[.pointer (some ⟨b, 0, none⟩)] w7 fun e w' => e = .returned (.int .i64 0) ∧ w' = w7) := known_len _ (fun _ => b) 0 w7 w7 (own_some22 b w7) (fun i h => absurd h (by omega)) (HCB.out.keeps hg27).c6
        have HY4 : Hid (Calls Try.prog 13 #[.pointer (some ⟨b2, 0, none⟩)] w7 fun e w' => e = .returned (.int .i64 0) ∧ w' = w7) := rknown_len (fun _ => b2) 0 w7 (fun i h => absurd h (by omega)) (HDB.out.keeps hg27).c0
        clear hg7 hg27 hg26 y0 y1 y2 y3 z0 z1 z2 z3 HSm HB1' HB1 HB2 HCB HDB hb2
        go_wp2_with fail
        refine Calls.mono HY1.out ?_
        rintro e w9 ⟨rfl, hw9⟩
        obtain rfl : w7 = w9 := hw9.symm
        clear hw9
        go_wp2_with fail
        refine Calls.mono HY2.out ?_
        rintro e w9 ⟨rfl, hw9⟩
        obtain rfl : w7 = w9 := hw9.symm
        clear hw9
        go_wp2_with fail
        refine Calls.mono HY3.out ?_
        rintro e w9 ⟨rfl, hw9⟩
        obtain rfl : w7 = w9 := hw9.symm
        clear hw9
        go_wp2_with fail
        refine Calls.mono HY4.out ?_
        rintro e w9 ⟨rfl, hw9⟩
        obtain rfl : w7 = w9 := hw9.symm
        clear hw9
        clear HY1 HY2 HY3 HY4
        go_wp2_with fail
        refine Calls.mono (HSp.out _) ?_
        rintro e wz ⟨rfl, hgz⟩
        have hbz : Below w.heap.size w wz := hb7.trans (hgz.mono hb7.size)
        clear hgz
        go_wp2_with fail
        go_ret
        exact ⟨rfl, hbz⟩
      · obtain ⟨g, rfl⟩ : ∃ g : Nat, f = ((g + 1 : Nat) : Int) := ⟨(f - 1).toNat, by omega⟩
        have HG : Hid (g < 1073741824) := by show g < 1073741824; omega
        have HF1 : Hid (Calls Try.prog 7 #[.pointer (some ⟨b, 0, none⟩), .int .i64 ((g + 1 : Nat) : Int)] w2 (LPost q v g b w2)) := Force_lazy q 0 g b HR.out.1 (by omega) HG.out v a c w2 HCB.out HLX.out HR.out.2.1
        clear hf hz HLX
        go_wp2_with fail
        refine Calls.mono HF1.out ?_
        rintro e w3 ⟨a3, c3, b', a4, c4, a5, c5, rfl, hk3, hb', hcb, hcb', _, _, hl3⟩
        obtain ⟨n1, hn1⟩ : ∃ n1, n1 = w3.heap.size := ⟨_, rfl⟩
        obtain ⟨W4, hW4⟩ : ∃ W4, W4 = w3.alloc (.cells #[.int .i64 v.kind, .int .i64 v.num, .string v.text, .slice a3 v.items.length c3] 24) := ⟨_, rfl⟩
        have HW4 : Hid (W4 = w3.alloc (.cells #[.int .i64 v.kind, .int .i64 v.num, .string v.text, .slice a3 v.items.length c3] 24)) := hW4
        have hal : Below w3.heap.size w3 W4 := by rw [hW4]; exact ((Grew.refl _).alloc _).below
        have hs3 := hk3.size
        have hs4 := hal.size
        obtain ⟨hbb, hb12, hwb⟩ := Hbb.out
        have HB1 : Hid (Bx W4 n1 v (.slice a3 v.items.length c3)) := by rw [hW4, hn1]; exact bx_alloc _ _ _
        have HC4 : Hid (CB W4 b .nilIface 0 v (.slice a4 v.items.length c4) (some ⟨b', 0, none⟩) ∧ CB W4 b' (stepV q 1 v (.slice a5 v.items.length c5)) 0 zeroT (.slice none 0 0) none) := ⟨hcb.keeps hal, hcb'.keeps hal⟩
        have HL4 : Hid (LiesX (fun n => w2.heap.size ≤ n ∧ n ≠ b') 16 W4 v.items (.slice a3 v.items.length c3)) := hl3.keeps hal
        have HD4 : Hid (DB W4 b2 false false zeroT (.slice none 0 0) none 1 q v (.slice au v.items.length cu)) := (hk3.db (fun e => hb12 e.symm) HDB.out).keeps hal
        have HLv : Hid (LiesX (fun n => n < w.heap.size) 16 W4 v.items (.slice au v.items.length cu)) := ((hk3.liesX (fun n hn => by omega) HLw.out)).keeps hal
        have HF2' : Hid (Calls Try.prog 8 #[.pointer (some ⟨b2, 0, none⟩), .int .i64 ((g + 1 : Nat) : Int)] W4 (RL (fun n => n < w.heap.size) q v g b2 (.slice au v.items.length cu) W4)) := rForce_l (fun n => n < w.heap.size) q g b2 HG.out v au cu (by omega) W4 (fun n hn => by omega) HD4.out HLv.out
        have hn1W : n1 < W4.heap.size := by have h9 := cell_lt HB1.out.c0; simpa using h9
        have HN1 : Hid (n1 = w3.heap.size ∧ n1 < W4.heap.size ∧ b' < w3.heap.size ∧ w2.heap.size ≤ w3.heap.size ∧ b < w2.heap.size ∧ b2 < w2.heap.size ∧ w2.heap.size ≤ b') := ⟨hn1, hn1W, hcb'.lt, hs3, hbb.1, hbb.2, hb'⟩
        have HK4 : Hid (KC (fun j => j = b) w2 W4) := hk3.trans2 (B := fun j => j = b) (C := fun _ => False) (KC.of_below hal) (fun _ _ h => h.elim)
        clear hcb hcb' hl3 hk3 hal hs3 hs4 hW4 hb' hbb hb12 hwb HF1 hn1W
        go_upto_region 8 with fail
        rw [← HW4.out, ← hn1]
        clear HW4 hn1
        go_wp2_with fail
        refine Calls.mono HF2'.out ?_
        rintro e w5 ⟨a6, c6, b'', rfl, hk5, hb'', hd, hd', hl5⟩
        obtain ⟨n2, hn2⟩ : ∃ n2, n2 = w5.heap.size := ⟨_, rfl⟩
        obtain ⟨W6, hW6⟩ : ∃ W6, W6 = w5.alloc (.cells #[.int .i64 v.kind, .int .i64 v.num, .string v.text, .slice a6 v.items.length c6] 24) := ⟨_, rfl⟩
        have HW6 : Hid (W6 = w5.alloc (.cells #[.int .i64 v.kind, .int .i64 v.num, .string v.text, .slice a6 v.items.length c6] 24)) := hW6
        have hal : Below w5.heap.size w5 W6 := by rw [hW6]; exact ((Grew.refl _).alloc _).below
        have hh := HN1.out
        obtain ⟨_, hb12, hwb⟩ := Hbb.out
        have hk6 : KC (fun j => j = b2) W4 W6 := hk5.trans2 (B := fun j => j = b2) (C := fun _ => False) (KC.of_below hal) (fun _ _ h => h.elim)
        have HB2 : Hid (Bx W6 n2 v (.slice a6 v.items.length c6)) := by rw [hW6, hn2]; exact bx_alloc _ _ _
        have HB1' : Hid (Bx W6 n1 v (.slice a3 v.items.length c3)) := hk6.bx (by omega) HB1.out
        have hl6 : Lies 16 W6 v.items (.slice a6 v.items.length c6) := (hl5.keeps hal).lies
        have hl4 : Lies 16 W6 v.items (.slice a3 v.items.length c3) := (hk6.liesX (fun n hn => by omega) HL4.out).lies
        have HSm : Hid (Calls Try.prog 9 #[.agg #[.int .i64 v.kind, .int .i64 v.num, .string v.text, .slice a3 v.items.length c3], .agg #[.int .i64 v.kind, .int .i64 v.num, .string v.text, .slice a6 v.items.length c6]] W6 fun e w' => e = .returned (.bool true) ∧ Below W6.heap.size W6 w') := (same_any 16 v v _ _ W6 hl4 hl6).mono fun e w' h => ⟨by rw [h.1, sameV_self], h.2.below⟩
        have HC6 : Hid (CB W6 b .nilIface 0 v (.slice a4 v.items.length c4) (some ⟨b', 0, none⟩) ∧ CB W6 b' (stepV q 1 v (.slice a5 v.items.length c5)) 0 zeroT (.slice none 0 0) none) := ⟨hk6.cb hb12 HC4.out.1, hk6.cb (by omega) HC4.out.2⟩
        have HD6 : Hid (DB W6 b2 true true v (.slice a6 v.items.length c6) (some ⟨b'', 0, none⟩) 1 q v (.slice au v.items.length cu) ∧ DB W6 b'' false false zeroT (.slice none 0 0) none 13 q v (.slice a6 v.items.length c6)) := ⟨hd.keeps hal, hd'.keeps hal⟩
        have hb6 : Below w.heap.size w W6 := (hb2.trans (HK4.out.below (fun j hj => by omega) hb2.size)).trans (hk6.below (fun j hj => by omega) (by have := hb2.size; have := HK4.out.size; omega))
        clear hk5 hk6 hb'' hd hd' hl5 hl6 hl4 hal hh hb12 hwb hW6 HF2' HK4 HN1 HLv HD4 HL4 HC4 HB1
        go_upto_region 9 with fail
        rw [← HW6.out, ← hn2]
        clear HW6 hn2
        obtain ⟨y0, y1, y2, y3, _, _, _, _⟩ := HB1'.out
        obtain ⟨z0, z1, z2, z3, _, _, _, _⟩ := HB2.out
        have e1 : ((g : Int) != (g : Int)) = false := by simp
        go_wp2_with fail
        refine Calls.mono HSm.out ?_
        rintro e w7 ⟨rfl, hg7⟩
        have hb7 : Below w.heap.size w w7 := hb6.trans (hg7.mono hb6.size)
        have HY1 : Hid (Calls Try.prog 10 #[.pointer (some ⟨b, 0, none⟩)] w7 fun e w' => e = .returned (.bool true) ∧ w' = w7) := forced_yes b w7 (HC6.out.1.keeps hg7).c0
        have HY2 : Hid (Calls Try.prog 11 #[.pointer (some ⟨b2, 0, none⟩)] w7 fun e w' => e = .returned (.bool true) ∧ w' = w7) := rforced_any b2 true w7 (HD6.out.1.keeps hg7).c0
        have HY3 : Hid (Calls Try.prog 12 #[.pointer (some ⟨b, 0, none⟩)] w7 fun e w' => e = .returned (.int .i64 1) ∧ w' = w7) := known_len _ (fun i => match i with | 0 => b | _ + 1 => b') 1 w7 w7 (own_some22 b w7) (fun i h => by obtain rfl : i = 0 := (by omega); exact (HC6.out.1.keeps hg7).c6) (HC6.out.2.keeps hg7).c6
        have HY4 : Hid (Calls Try.prog 13 #[.pointer (some ⟨b2, 0, none⟩)] w7 fun e w' => e = .returned (.int .i64 1) ∧ w' = w7) := rknown_len (fun i => match i with | 0 => b2 | _ + 1 => b'') 1 w7 (fun i h => by obtain rfl : i = 0 := (by omega); exact ⟨(HD6.out.1.keeps hg7).c0, (HD6.out.1.keeps hg7).c1, (HD6.out.1.keeps hg7).c6⟩) (HD6.out.2.keeps hg7).c0
        clear hg7 y0 y1 y2 y3 z0 z1 z2 z3 HSm HB1' HB2 HC6 HD6 HCB HDB hb2 hb6
        go_wp2_with fail
        refine Calls.mono HY1.out ?_
        rintro e w9 ⟨rfl, hw9⟩
        obtain rfl : w7 = w9 := hw9.symm
        clear hw9
        go_wp2_with fail
        refine Calls.mono HY2.out ?_
        rintro e w9 ⟨rfl, hw9⟩
        obtain rfl : w7 = w9 := hw9.symm
        clear hw9
        go_wp2_with fail
        refine Calls.mono HY3.out ?_
        rintro e w9 ⟨rfl, hw9⟩
        obtain rfl : w7 = w9 := hw9.symm
        clear hw9
        go_wp2_with fail
        refine Calls.mono HY4.out ?_
        rintro e w9 ⟨rfl, hw9⟩
        obtain rfl : w7 = w9 := hw9.symm
        clear hw9
        clear HY1 HY2 HY3 HY4
        go_wp2_with fail
        refine Calls.mono (HSp.out _) ?_
        rintro e wz ⟨rfl, hgz⟩
        have hbz : Below w.heap.size w wz := hb7.trans (hgz.mono hb7.size)
        clear hgz
        go_wp2_with fail
        go_ret
        exact ⟨rfl, hbz⟩

end Go.Proofs.Ytmmppmioackiaaa

