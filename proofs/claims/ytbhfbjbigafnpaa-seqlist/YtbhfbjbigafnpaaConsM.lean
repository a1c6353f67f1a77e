/-
  Cons; how many are known of a seq of Iter, and of one with an item ahead.
-/
import Derived.Test.YtbhfbjbigafnpaaForceM
import Derived.Test.YtbhfbjbigafnpaaUtf
namespace Go.Proofs.Ytbhfbjbigafnpaa
open Go.RowKit Go.Shelf

/-- The world in which the inner call is made. -/
abbrev zbox (w : World) : World := w.alloc (.cells #[.int .i64 0, .int .i64 0, .string ⟨#[]⟩, .slice none 0 0] 38)

/-- What Force tells of a known cell. -/
def FPost (b : Nat) (x : VT) (left : Int) (P2 : World → Prop) (w : World) (e : Ending) (w' : World) : Prop :=
  ∃ w2 a c p, P2 w2 ∧ w2.cell? ⟨b, 6, none⟩ = some (.pointer p) ∧ KC (fun j => j = w.heap.size) w2 w' ∧ e = .returned (.tuple #[.agg #[.int .i64 x.kind, .int .i64 x.num, .string x.text, .slice a x.items.length c], .pointer p, .bool p.isSome, .int .i64 left, .int .i64 0]) ∧ LiesX (fun n => w2.heap.size ≤ n) 16 w' x.items (.slice a x.items.length c)

set_option maxRecDepth 100000 in
set_option maxHeartbeats 8000000 in
theorem Force_any (cv : Option Addr) (W1 : World) (b f : Nat) (left : Int) (hf : f ≤ 1073741824) (x : VT) (P2 : World → Prop) (w : World)
    (ho : Calls Try.prog 34 #[.pointer cv] (zbox w) fun e w' => e = .returned (.pointer (some ⟨b, 0, none⟩)) ∧ w' = W1)
    (h : Calls Try.prog 51 #[.pointer (some ⟨b, 0, none⟩), .int .i64 (f : Int)] W1 fun e w2 => e = .returned (.tuple #[.int .i64 left, .int .i64 0]) ∧ P2 w2)
    (h2 : ∀ w2, P2 w2 → Bx w2 w.heap.size zeroT (.slice none 0 0) ∧ (∃ a c p, CB w2 b .nilIface 0 x (.slice a x.items.length c) p ∧ Lies 16 w2 x.items (.slice a x.items.length c)) ∧ b ≠ w.heap.size) (hr : rightV 16 x = true) :
    Calls Try.prog 39 #[.pointer cv, .int .i64 (f : Int)] w (FPost b x left P2 w) := by
  have HF : Hid (Calls Try.prog 51 #[.pointer (some ⟨b, 0, none⟩), .int .i64 (f : Int)] W1 fun e w2 => e = .returned (.tuple #[.int .i64 left, .int .i64 0]) ∧ P2 w2) := h
  have H2 : Hid _ := h2
  have HCf : Hid (∀ V, Calls Try.prog 50 #[.int .i64 (f : Int)] V fun e w' => e = .returned (.int .i64 0) ∧ w' = V) := fun V => checkFuel_ok f hf V
  have HOw : Hid (Calls Try.prog 34 #[.pointer cv] (zbox w) fun e w' => e = .returned (.pointer (some ⟨b, 0, none⟩)) ∧ w' = W1) := ho
  obtain ⟨W0, hW0⟩ : ∃ W0, W0 = zbox w := ⟨_, rfl⟩
  have HW0 : Hid (W0 = w.alloc (.cells #[.int .i64 0, .int .i64 0, .string ⟨#[]⟩, .slice none 0 0] 38)) := hW0
  rw [← hW0] at HOw
  clear hW0 h h2 hf ho
  go_enter Try.func39, Try.ntmps39
  go_upto_region 1 with fail
  rw [← HW0.out]
  clear HW0
  go_wp2_with fail
  refine Calls.mono (HCf.out _) ?_
  rintro e w9 ⟨rfl, hw9⟩
  obtain rfl : W0 = w9 := hw9.symm
  clear hw9 HCf
  go_wp2_with fail
  refine Calls.mono HOw.out ?_
  rintro e w9 ⟨rfl, hw9⟩
  obtain rfl : W1 = w9 := hw9.symm
  clear hw9 HOw
  go_wp2_with fail
  refine Calls.mono HF.out ?_
  rintro e w2 ⟨rfl, hP⟩
  obtain ⟨hbx, ⟨a, c, p, hcb, hl⟩, hbn⟩ := H2.out w2 hP
  have H6 : Hid (w2.cell? ⟨b, 6, none⟩ = some (.pointer p)) := hcb.c6
  have HP : Hid (P2 w2) := hP
  have HCp : Hid (∀ V, Below w2.heap.size w2 V → Calls Try.prog 33 #[.agg #[.int .i64 x.kind, .int .i64 x.num, .string x.text, .slice a x.items.length c]] V (CopyPost 16 x V)) := fun V hV => copy_right x _ V (Lies.keeps hV _ _ _ hl) hr
  have HB : Hid (Bx w2 w.heap.size zeroT (.slice none 0 0)) := hbx
  obtain ⟨_, _, k2, k3, k4, k5, k6, _, _, _, _, _, _, _⟩ := hcb
  obtain ⟨z0, z1, z2, z3, g0, g1, g2, g3⟩ := hbx
  have hlz : w.heap.size < w2.heap.size := by have h9 := cell_lt z0; simpa using h9
  clear HF H2 hP hl hr W0 W1
  cases p with
  | none =>
    go_wp2_with fail
    go_region_held3 (fun w' => w'.cell? ⟨b, 2, none⟩ = some (.int .i64 x.kind) ∧ w'.cell? ⟨b, 3, none⟩ = some (.int .i64 x.num) ∧ w'.cell? ⟨b, 4, none⟩ = some (.string x.text) ∧ w'.cell? ⟨b, 5, none⟩ = some (.slice a x.items.length c) ∧ w'.cell? ⟨b, 6, none⟩ = some (.pointer none)) (first | (go_keep; done) | (with_reducible exact ⟨set4_k22 hbn k2, set4_k22 hbn k3, set4_k22 hbn k4, set4_k22 hbn k5, set4_k22 hbn k6⟩))
      (first | (go_at_call 33; (with_reducible refine Calls.mono (HCp.out _ ?_) ?_); (first | exact Below.refl _ _ | exact (Below.refl _ _).drew); rintro e w3 ⟨u3, rfl, hl3, hg3'⟩; obtain ⟨a1, c1, rfl, _⟩ := LiesB.slice hl3; have hg3 : Below w2.heap.size w2 w3 := (by first | exact hg3' | exact (Below.refl _ _).drew.trans hg3'); have HL3 : Hid (LiesB w2.heap.size 16 w3 x.items (.slice a1 x.items.length c1)) := hl3; clear hg3' hl3; have k2 := cell_keeps hg3 k2; have k3 := cell_keeps hg3 k3; have k4 := cell_keeps hg3 k4; have k5 := cell_keeps hg3 k5; have k6 := cell_keeps hg3 k6; have z0 := cell_keeps hg3 z0; have z1 := cell_keeps hg3 z1; have z2 := cell_keeps hg3 z2; have z3 := cell_keeps hg3 z3; have g0 := (hg3.frozen (p := ⟨w.heap.size, 0, none⟩) hlz).trans g0; have g1 := (hg3.frozen (p := ⟨w.heap.size, 1, none⟩) hlz).trans g1; have g2 := (hg3.frozen (p := ⟨w.heap.size, 2, none⟩) hlz).trans g2; have g3 := (hg3.frozen (p := ⟨w.heap.size, 3, none⟩) hlz).trans g3))
    have HE : Hid (FPost b x left P2 w (.returned (.tuple #[.agg #[.int .i64 x.kind, .int .i64 x.num, .string x.text, .slice a1 x.items.length c1], .pointer none, .bool false, .int .i64 left, .int .i64 0])) (w3.setCells w.heap.size 0 (encP (x, .slice a1 x.items.length c1)))) := by
      refine ⟨w2, a1, c1, _, HP.out, H6.out, ?_, rfl, ?_⟩
      · exact KC.set (B := fun j => j = w.heap.size) (o := 0 + 1 + 1 + 1) (KC.set (B := fun j => j = w.heap.size) (o := 0 + 1 + 1) (KC.set (B := fun j => j = w.heap.size) (o := 0 + 1) (KC.set (B := fun j => j = w.heap.size) (o := 0) (KC.of_below hg3) (.inl rfl) _) (.inl rfl) _) (.inl rfl) _) (.inl rfl) _
      · exact LiesX.set (g := w.heap.size) (by omega) (LiesX.of_b HL3.out)
    have Hq : Hid (Bx (w3.setCells w.heap.size 0 (encP (x, .slice a1 x.items.length c1))) w.heap.size x (.slice a1 x.items.length c1)) := Bx.put (⟨z0, z1, z2, z3, g0, g1, g2, g3⟩ : Bx w3 w.heap.size zeroT (.slice none 0 0)) (x, .slice a1 x.items.length c1)
    clear HL3 HP HB HCp H6 hg3 k2 k3 k4 k5 k6 z0 z1 z2 z3 g0 g1 g2 g3
    go_wp2_with fail
    refine bodyPost_ret (v := .tuple #[.agg #[.int .i64 x.kind, .int .i64 x.num, .string x.text, .slice a1 x.items.length c1], .pointer none, .bool false, .int .i64 left, .int .i64 0]) ?_ rfl HE.out
    obtain ⟨q0, q1, q2, q3, _, _, _, _⟩ := Hq.out
    simp only [World.setCells, encP, Nat.zero_add, Nat.reduceAdd] at q0 q1 q2 q3
    simp [results, Try.results39, go_sem, q0, q1, q2, q3]
  | some pp =>
    go_wp2_with fail
    go_region_held3 (fun w' => w'.cell? ⟨b, 2, none⟩ = some (.int .i64 x.kind) ∧ w'.cell? ⟨b, 3, none⟩ = some (.int .i64 x.num) ∧ w'.cell? ⟨b, 4, none⟩ = some (.string x.text) ∧ w'.cell? ⟨b, 5, none⟩ = some (.slice a x.items.length c) ∧ w'.cell? ⟨b, 6, none⟩ = some (.pointer (some pp))) (first | (go_keep; done) | (with_reducible exact ⟨set4_k22 hbn k2, set4_k22 hbn k3, set4_k22 hbn k4, set4_k22 hbn k5, set4_k22 hbn k6⟩))
      (first | (go_at_call 33; (with_reducible refine Calls.mono (HCp.out _ ?_) ?_); (first | exact Below.refl _ _ | exact (Below.refl _ _).drew); rintro e w3 ⟨u3, rfl, hl3, hg3'⟩; obtain ⟨a1, c1, rfl, _⟩ := LiesB.slice hl3; have hg3 : Below w2.heap.size w2 w3 := (by first | exact hg3' | exact (Below.refl _ _).drew.trans hg3'); have HL3 : Hid (LiesB w2.heap.size 16 w3 x.items (.slice a1 x.items.length c1)) := hl3; clear hg3' hl3; have k2 := cell_keeps hg3 k2; have k3 := cell_keeps hg3 k3; have k4 := cell_keeps hg3 k4; have k5 := cell_keeps hg3 k5; have k6 := cell_keeps hg3 k6; have z0 := cell_keeps hg3 z0; have z1 := cell_keeps hg3 z1; have z2 := cell_keeps hg3 z2; have z3 := cell_keeps hg3 z3; have g0 := (hg3.frozen (p := ⟨w.heap.size, 0, none⟩) hlz).trans g0; have g1 := (hg3.frozen (p := ⟨w.heap.size, 1, none⟩) hlz).trans g1; have g2 := (hg3.frozen (p := ⟨w.heap.size, 2, none⟩) hlz).trans g2; have g3 := (hg3.frozen (p := ⟨w.heap.size, 3, none⟩) hlz).trans g3))
    have HE : Hid (FPost b x left P2 w (.returned (.tuple #[.agg #[.int .i64 x.kind, .int .i64 x.num, .string x.text, .slice a1 x.items.length c1], .pointer (some pp), .bool true, .int .i64 left, .int .i64 0])) (w3.setCells w.heap.size 0 (encP (x, .slice a1 x.items.length c1)))) := by
      refine ⟨w2, a1, c1, _, HP.out, H6.out, ?_, rfl, ?_⟩
      · exact KC.set (B := fun j => j = w.heap.size) (o := 0 + 1 + 1 + 1) (KC.set (B := fun j => j = w.heap.size) (o := 0 + 1 + 1) (KC.set (B := fun j => j = w.heap.size) (o := 0 + 1) (KC.set (B := fun j => j = w.heap.size) (o := 0) (KC.of_below hg3) (.inl rfl) _) (.inl rfl) _) (.inl rfl) _) (.inl rfl) _
      · exact LiesX.set (g := w.heap.size) (by omega) (LiesX.of_b HL3.out)
    have Hq : Hid (Bx (w3.setCells w.heap.size 0 (encP (x, .slice a1 x.items.length c1))) w.heap.size x (.slice a1 x.items.length c1)) := Bx.put (⟨z0, z1, z2, z3, g0, g1, g2, g3⟩ : Bx w3 w.heap.size zeroT (.slice none 0 0)) (x, .slice a1 x.items.length c1)
    clear HL3 HP HB HCp H6 hg3 k2 k3 k4 k5 k6 z0 z1 z2 z3 g0 g1 g2 g3
    go_wp2_with fail
    refine bodyPost_ret (v := .tuple #[.agg #[.int .i64 x.kind, .int .i64 x.num, .string x.text, .slice a1 x.items.length c1], .pointer (some pp), .bool true, .int .i64 left, .int .i64 0]) ?_ rfl HE.out
    obtain ⟨q0, q1, q2, q3, _, _, _, _⟩ := Hq.out
    simp only [World.setCells, encP, Nat.zero_add, Nat.reduceAdd] at q0 q1 q2 q3
    simp [results, Try.results39, go_sem, q0, q1, q2, q3]

theorem Force_core (b f : Nat) (left : Int) (hf : f ≤ 1073741824) (x : VT) (P2 : World → Prop) (w : World)
    (h : Calls Try.prog 51 #[.pointer (some ⟨b, 0, none⟩), .int .i64 (f : Int)] (zbox w) fun e w2 => e = .returned (.tuple #[.int .i64 left, .int .i64 0]) ∧ P2 w2)
    (h2 : ∀ w2, P2 w2 → Bx w2 w.heap.size zeroT (.slice none 0 0) ∧ (∃ a c p, CB w2 b .nilIface 0 x (.slice a x.items.length c) p ∧ Lies 16 w2 x.items (.slice a x.items.length c)) ∧ b ≠ w.heap.size) (hr : rightV 16 x = true) :
    Calls Try.prog 39 #[.pointer (some ⟨b, 0, none⟩), .int .i64 (f : Int)] w (FPost b x left P2 w) :=
  Force_any _ _ b f left hf x P2 w (own_some22 b _) h h2 hr

/-- Of nothing, Force tells nothing, and the fuel. -/
def FNil (left E : Int) (w : World) (e : Ending) (w' : World) : Prop := ∃ a c, e = .returned (.tuple #[.agg #[.int .i64 0, .int .i64 0, .string ⟨#[]⟩, .slice a 0 c], .pointer none, .bool false, .int .i64 left, .int .i64 E]) ∧ Below w.heap.size w w'

theorem lies_z22 (w : World) : Lies 16 w [] (.slice none 0 0) := ⟨none, 0, rfl, by simp, fun h => absurd rfl h⟩

theorem zbox_bx (w : World) : Bx (zbox w) w.heap.size zeroT (.slice none 0 0) := bx_alloc w zeroT (.slice none 0 0)
theorem zbox_below (w : World) : Below w.heap.size w (zbox w) := ((Grew.refl w).alloc _).below
theorem zbox_size (w : World) : (zbox w).heap.size = w.heap.size + 1 := World.size_alloc w _

/-- An empty cell, known. -/
theorem Force_empty (b f : Nat) (hf : f ≤ 1073741824) (w : World) (h : CB w b .nilIface 0 zeroT (.slice none 0 0) none) : Calls Try.prog 39 #[.pointer (some ⟨b, 0, none⟩), .int .i64 (f : Int)] w (FNil f 0 w) := by
  have hz := h.keeps (zbox_below w)
  have hbl := h.lt
  refine Calls.mono (Force_core b f f hf zeroT (fun w2 => w2 = zbox w) w (force_known b f (zbox w) hz.c0) ?_ nil_right) ?_
  · rintro w2 rfl
    exact ⟨zbox_bx w, ⟨none, 0, none, hz, lies_z22 _⟩, by omega⟩
  · rintro e w' ⟨w2, a, c, p, rfl, h6, hk, rfl, hl⟩
    obtain rfl : p = none := by rw [hz.c6] at h6; simpa using h6.symm
    have hb : Below w.heap.size w w' := (zbox_below w).trans (hk.below (fun j hj => by omega) (zbox_below w).size)
    exact ⟨a, c, rfl, hb⟩

set_option maxRecDepth 100000 in
set_option maxHeartbeats 8000000 in
theorem Force_dry (b T : Nat) (v : Value) (w : World) (h : w.cell? ⟨b, 0, none⟩ = some (.iface T v)) : Calls Try.prog 39 #[.pointer (some ⟨b, 0, none⟩), .int .i64 0] w (FNil 0 220 w) := by
  have HCf : Hid (∀ V, Calls Try.prog 50 #[.int .i64 0] V fun e w' => e = .returned (.int .i64 0) ∧ w' = V) := fun V => checkFuel_ok 0 (by omega) V
  have HOw : Hid (∀ V, Calls Try.prog 34 #[.pointer (some ⟨b, 0, none⟩)] V fun e w' => e = .returned (.pointer (some ⟨b, 0, none⟩)) ∧ w' = V) := own_some22 b
  obtain ⟨W0, hW0⟩ : ∃ W0, W0 = zbox w := ⟨_, rfl⟩
  have HW0 : Hid (W0 = w.alloc (.cells #[.int .i64 0, .int .i64 0, .string ⟨#[]⟩, .slice none 0 0] 38)) := hW0
  have hb0 : Below w.heap.size w W0 := by rw [hW0]; exact zbox_below w
  have HFo : Hid (Calls Try.prog 51 #[.pointer (some ⟨b, 0, none⟩), .int .i64 0] W0 fun e w' => e = .returned (.tuple #[.int .i64 0, .int .i64 220]) ∧ w' = W0) := force_dry b T v W0 (cell_keeps hb0 h)
  have HZ : Hid (Bx W0 w.heap.size zeroT (.slice none 0 0)) := by rw [hW0]; exact zbox_bx w
  have HE : Hid (FNil 0 220 w (.returned (.tuple #[.agg #[.int .i64 0, .int .i64 0, .string ⟨#[]⟩, .slice none 0 0], .pointer none, .bool false, .int .i64 0, .int .i64 220])) (W0.setCells w.heap.size 0 (encP (zeroT, .slice none 0 0)))) := ⟨none, 0, rfl, (((hb0.setCell (p := ⟨w.heap.size, 0, none⟩) (by simp) _).setCell (p := ⟨w.heap.size, 0 + 1, none⟩) (by simp) _).setCell (p := ⟨w.heap.size, 0 + 1 + 1, none⟩) (by simp) _).setCell (p := ⟨w.heap.size, 0 + 1 + 1 + 1, none⟩) (by simp) _⟩
  have Hq : Hid (Bx (W0.setCells w.heap.size 0 (encP (zeroT, .slice none 0 0))) w.heap.size zeroT (.slice none 0 0)) := HZ.out.put (zeroT, .slice none 0 0)
  obtain ⟨z0, z1, z2, z3, g0, g1, g2, g3⟩ := HZ.out
  clear hW0 hb0 h
  go_enter Try.func39, Try.ntmps39
  go_upto_region 1 with fail
  rw [← HW0.out]
  clear HW0
  go_wp2_with fail
  refine Calls.mono (HCf.out _) ?_
  rintro e w9 ⟨rfl, hw9⟩
  obtain rfl : W0 = w9 := hw9.symm
  clear hw9 HCf
  go_wp2_with fail
  refine Calls.mono (HOw.out _) ?_
  rintro e w9 ⟨rfl, hw9⟩
  obtain rfl : W0 = w9 := hw9.symm
  clear hw9 HOw
  go_wp2_with fail
  refine Calls.mono HFo.out ?_
  rintro e w9 ⟨rfl, hw9⟩
  obtain rfl : W0 = w9 := hw9.symm
  clear hw9 HFo
  go_wp2_with fail
  refine bodyPost_ret (v := .tuple #[.agg #[.int .i64 0, .int .i64 0, .string ⟨#[]⟩, .slice none 0 0], .pointer none, .bool false, .int .i64 0, .int .i64 220]) ?_ rfl HE.out
  obtain ⟨q0, q1, q2, q3, _, _, _, _⟩ := Hq.out
  simp only [World.setCells, encP, Nat.zero_add, Nat.reduceAdd] at q0 q1 q2 q3
  simp [results, Try.results39, go_sem, q0, q1, q2, q3]

end Go.Proofs.Ytbhfbjbigafnpaa

namespace Go.Proofs.Ytbhfbjbigafnpaa
open Go.RowKit Go.Shelf

/-- What Iter tells: an error, or a new cell that is not known. -/
def IterPost (E : Int) (q : Nat) (v : VT) (w : World) (e : Ending) (w' : World) : Prop :=
  Below w.heap.size w w' ∧ ((E ≠ 0 ∧ e = .returned (.tuple #[.pointer none, .int .i64 E])) ∨ (E = 0 ∧ ∃ a c b, e = .returned (.tuple #[.pointer (some ⟨b, 0, none⟩), .int .i64 0]) ∧ w.heap.size ≤ b ∧ CB w' b (stepV q 0 v (.slice a v.items.length c)) 0 zeroT (.slice none 0 0) none ∧ LiesX (fun n => w.heap.size ≤ n ∧ n ≠ b) 16 w' v.items (.slice a v.items.length c)))

set_option maxRecDepth 100000 in
set_option maxHeartbeats 8000000 in
theorem iter_any (d : Nat) (o : Int) (v : VT) (u : Value) (w : World) (hu : Lies d w v.items u) (hs : v.text.size ≤ 9223372036854775807) :
    Calls Try.prog 20 #[.int .i64 o, .agg #[.int .i64 v.kind, .int .i64 v.num, .string v.text, u]] w (IterPost (timesE d o 0 v) o.toNat v w) := by
  obtain ⟨au, cu, rfl, _⟩ := Lies.slice hu
  obtain ⟨E, hE⟩ : ∃ E, E = timesE d o 0 v := ⟨_, rfl⟩
  have HT : Hid (∀ V, Below w.heap.size w V → Calls Try.prog 37 #[.int .i64 o, .int .i64 0, .agg #[.int .i64 v.kind, .int .i64 v.num, .string v.text, .slice au v.items.length cu]] V (VPost (if E = 0 then v else nilT) E V)) := fun V hV => by
    have h9 := times_any d o 0 v _ V (Lies.keeps hV _ _ _ hu) hs
    rw [← hE] at h9
    have e9 : timesT d o 0 v = (if E = 0 then v else nilT) := by unfold timesT; rw [← hE]; rfl
    rw [e9] at h9
    exact h9
  have HO : Hid (E = 0 → o = ((o.toNat : Nat) : Int)) := fun h => by
    rw [h] at hE
    unfold timesE at hE
    by_cases hq : o < 0 ∨ 8 ≤ o
    · rw [if_pos hq] at hE; cases hE
    · omega
  have HLt : Hid (∀ (T : Nat) (v : Value) V, _) := later_any
  rw [← hE]
  obtain ⟨q, hq⟩ : ∃ q, q = o.toNat := ⟨_, rfl⟩
  rw [← hq] at HO ⊢
  have HK0 : Hid (Bx (w.alloc (.cells #[.int .i64 v.kind, .int .i64 v.num, .string v.text, .slice au v.items.length cu] 38)) w.heap.size v (.slice au v.items.length cu)) := bx_alloc _ _ _
  have hb0 : Below w.heap.size w (w.alloc (.cells #[.int .i64 v.kind, .int .i64 v.num, .string v.text, .slice au v.items.length cu] 38)) := ((Grew.refl w).alloc _).below
  clear hu hs hE hq
  go_enter Try.func20, Try.ntmps20
  go_wp2_with fail
  refine Calls.mono (HT.out _ hb0) ?_
  rintro e w1 ⟨u1, rfl, hlx, hg1⟩
  have hb1 : Below w.heap.size w w1 := hb0.trans (hg1.mono hb0.size)
  obtain ⟨N0, hN0⟩ : ∃ N0, N0 = (w.alloc (.cells #[.int .i64 v.kind, .int .i64 v.num, .string v.text, .slice au v.items.length cu] 38)).heap.size := ⟨_, rfl⟩
  have hN1 : w.heap.size ≤ N0 := by rw [hN0]; exact hb0.size
  rw [← hN0] at hlx
  by_cases h0 : E = 0
  · subst h0
    have hoq := HO.out rfl
    simp only [if_true] at hlx ⊢
    obtain ⟨a1, c1, rfl, _⟩ := LiesX.slice hlx
    obtain ⟨n6, hn6⟩ : ∃ n6, n6 = w1.heap.size := ⟨_, rfl⟩
    obtain ⟨W2, hW2⟩ : ∃ W2, W2 = w1.alloc (.cells #[.int .i64 v.kind, .int .i64 v.num, .string v.text, .slice a1 v.items.length c1] 38) := ⟨_, rfl⟩
    have HW2 : Hid (W2 = w1.alloc (.cells #[.int .i64 v.kind, .int .i64 v.num, .string v.text, .slice a1 v.items.length c1] 38)) := hW2
    have hal : Below w1.heap.size w1 W2 := by rw [hW2]; exact ((Grew.refl _).alloc _).below
    have HB6 : Hid (Bx W2 n6 v (.slice a1 v.items.length c1)) := by rw [hW2, hn6]; exact bx_alloc _ _ _
    obtain ⟨y0, y1, y2, y3, _, _, _, _⟩ := HB6.out
    have HLX : Hid (LiesX (fun n => N0 ≤ n ∧ n < W2.heap.size) 16 W2 v.items (.slice a1 v.items.length c1)) := (hlx.keeps hal).both
    have HH : Hid (Below w.heap.size w W2 ∧ w.heap.size ≤ N0) := ⟨hb1.trans (hal.mono hb1.size), hN1⟩
    subst hoq
    clear hN0 hN1 hlx hg1 hb1 hal hW2 hb0 HK0 HT HO
    go_upto_region 2 with fail
    rw [← HW2.out, ← hn6]
    clear HW2 hn6
    go_wp2_with fail
    refine Calls.mono (HLt.out _ _ _) ?_
    rintro e w3 ⟨rfl, hw3⟩
    have hcb : CB w3 W2.heap.size (stepV q 0 v (.slice a1 v.items.length c1)) 0 zeroT (.slice none 0 0) none := by rw [hw3]; exact cb_alloc W2 71 (stepV q 0 v (.slice a1 v.items.length c1)) 0 zeroT (.slice none 0 0) none
    have hg3 : Below W2.heap.size W2 w3 := by rw [hw3]; exact ((Grew.refl _).alloc _).below
    have HE : Hid (IterPost 0 q v w (.returned (.tuple #[.pointer (some ⟨W2.heap.size, 0, none⟩), .int .i64 0])) w3) := by
      have hh := HH.out
      exact ⟨hh.1.trans (hg3.mono hh.1.size), .inr ⟨rfl, a1, c1, W2.heap.size, rfl, hh.1.size, hcb, LiesX.mono (fun n hn => ⟨by omega, by omega⟩) (HLX.out.keeps hg3)⟩⟩
    clear hcb hg3 hw3 HLX HH HLt HB6 y0 y1 y2 y3
    go_wp2_with fail
    refine bodyPost_ret (v := .tuple #[.pointer (some ⟨W2.heap.size, 0, none⟩), .int .i64 0]) ?_ rfl HE.out
    simp [results, Try.results20, go_sem]
  · have hne : (E != 0) = true := by simp [h0]
    simp only [h0, if_false] at hlx ⊢
    obtain ⟨a1, c1, rfl, _⟩ := LiesX.slice hlx
    have HE : Hid (∀ A, IterPost E q v w (.returned (.tuple #[.pointer none, .int .i64 E])) (w1.alloc A)) := fun A => ⟨hb1.trans (((Grew.refl w1).alloc A).below.mono hb1.size), .inl ⟨h0, rfl⟩⟩
    clear hN0 hN1 hlx hg1 hb1 hb0 HK0 HT HO
    go_wp2_with fail
    refine bodyPost_ret (v := .tuple #[.pointer none, .int .i64 E]) ?_ rfl (HE.out _)
    simp [results, Try.results20, go_sem]

end Go.Proofs.Ytbhfbjbigafnpaa

namespace Go.Proofs.Ytbhfbjbigafnpaa
open Go.RowKit Go.Shelf

/-- Behind Force of a cell of Iter that was not known. -/
def LPost (q : Nat) (x : VT) (f b : Nat) (w : World) (e : Ending) (w' : World) : Prop :=
  ∃ a c b' a1 c1 a2 c2, e = .returned (.tuple #[.agg #[.int .i64 x.kind, .int .i64 x.num, .string x.text, .slice a x.items.length c], .pointer (some ⟨b', 0, none⟩), .bool true, .int .i64 (f : Int), .int .i64 0]) ∧ KC (fun j => j = b) w w' ∧ w.heap.size ≤ b' ∧ CB w' b .nilIface 0 x (.slice a1 x.items.length c1) (some ⟨b', 0, none⟩) ∧ CB w' b' (stepV q 1 x (.slice a2 x.items.length c2)) 0 zeroT (.slice none 0 0) none ∧ LiesX (fun n => w.heap.size ≤ n ∧ n ≠ b') 16 w' x.items (.slice a1 x.items.length c1) ∧ LiesX (fun n => w.heap.size ≤ n ∧ n ≠ b') 16 w' x.items (.slice a2 x.items.length c2) ∧ LiesX (fun n => w.heap.size ≤ n ∧ n ≠ b') 16 w' x.items (.slice a x.items.length c)

theorem Force_lazy (q m f b : Nat) (hq : q < 8) (hm : m ≤ 65536) (hf : f < 1073741824) (z : VT) (a : Option Addr) (c : Nat) (w : World) (h : CB w b (stepV q m z (.slice a z.items.length c)) 0 zeroT (.slice none 0 0) none) (hl : LiesX (fun n => n ≠ b) 16 w z.items (.slice a z.items.length c)) (hr : rightV 16 z = true) :
    Calls Try.prog 39 #[.pointer (some ⟨b, 0, none⟩), .int .i64 ((f + 1 : Nat) : Int)] w (LPost q (itT (doneT q) m z) f b w) := by
  have hzb := zbox_below w
  have hzs := zbox_size w
  have hbl := h.lt
  have hx := it_right q hr (Dp.of_lies 16 w z _ hl.lies) m
  generalize hxx : itT (doneT q) m z = x at hx ⊢
  have h1 := force_lazy q m f b hq hm hf z a c (zbox w) (h.keeps hzb) (hl.keeps hzb) hr
  rw [hxx] at h1
  have hb0 : b ≠ w.heap.size := by omega
  refine Calls.mono (Force_core b (f + 1) f (by omega) x (fun w2 => KC (fun j => j = b) (zbox w) w2 ∧ ∃ a1 c1 a2 c2 b', (zbox w).heap.size ≤ b' ∧ CB w2 b .nilIface 0 x (.slice a1 x.items.length c1) (some ⟨b', 0, none⟩) ∧ CB w2 b' (stepV q 1 x (.slice a2 x.items.length c2)) 0 zeroT (.slice none 0 0) none ∧ LiesX (fun n => (zbox w).heap.size ≤ n ∧ n ≠ b') 16 w2 x.items (.slice a1 x.items.length c1) ∧ LiesX (fun n => (zbox w).heap.size ≤ n ∧ n ≠ b') 16 w2 x.items (.slice a2 x.items.length c2)) w (Calls.mono h1 fun e w2 hp => ⟨hp.2.1, hp.1, hp.2.2⟩) ?_ hx.1) ?_
  · rintro w2 ⟨hk, a1, c1, a2, c2, b', hb', hcb, _, hx1, _⟩
    exact ⟨hk.bx (fun e => hb0 e.symm) (zbox_bx w), ⟨a1, c1, _, hcb, hx1.lies⟩, hb0⟩
  · rintro e w' ⟨w2, a3, c3, p, ⟨hk, a1, c1, a2, c2, b', hb', hcb, hcb', hx1, hx2⟩, h6, hk2, rfl, hx3⟩
    obtain rfl : p = some ⟨b', 0, none⟩ := by rw [hcb.c6] at h6; simpa using h6.symm
    have hs2 := hk.size
    have hbb := hcb'.lt
    have hkk : KC (fun j => j = b) w w' := ((KC.of_below hzb).trans2 hk (fun _ _ h => h)).trans2 hk2 (fun j hj h => by omega)
    refine ⟨a3, c3, b', a1, c1, a2, c2, rfl, hkk, by omega, hk2.cb hb0 hcb, hk2.cb (by omega) hcb', ?_, ?_, ?_⟩
    · exact LiesX.mono (fun n hn => ⟨by omega, hn.2⟩) (hk2.liesX (fun n hn => by omega) hx1)
    · exact LiesX.mono (fun n hn => ⟨by omega, hn.2⟩) (hk2.liesX (fun n hn => by omega) hx2)
    · exact LiesX.mono (fun n hn => ⟨by omega, by omega⟩) hx3

/-- A known cell that is not empty. -/
def KPost (x : VT) (p : Option Addr) (f : Int) (w : World) (e : Ending) (w' : World) : Prop :=
  ∃ a c, e = .returned (.tuple #[.agg #[.int .i64 x.kind, .int .i64 x.num, .string x.text, .slice a x.items.length c], .pointer p, .bool p.isSome, .int .i64 f, .int .i64 0]) ∧ Below w.heap.size w w' ∧ LiesX (fun n => w.heap.size ≤ n) 16 w' x.items (.slice a x.items.length c)

theorem Force_known (b f : Nat) (hf : f ≤ 1073741824) (x : VT) (a : Option Addr) (c : Nat) (p : Option Addr) (w : World) (h : CB w b .nilIface 0 x (.slice a x.items.length c) p) (hl : Lies 16 w x.items (.slice a x.items.length c)) (hr : rightV 16 x = true) :
    Calls Try.prog 39 #[.pointer (some ⟨b, 0, none⟩), .int .i64 (f : Int)] w (KPost x p f w) := by
  have hzb := zbox_below w
  have hzs := zbox_size w
  have hbl := h.lt
  refine Calls.mono (Force_core b f f hf x (fun w2 => w2 = zbox w) w (force_known b f (zbox w) (h.keeps hzb).c0) ?_ hr) ?_
  · rintro w2 rfl
    exact ⟨zbox_bx w, ⟨a, c, p, h.keeps hzb, Lies.keeps hzb _ _ _ hl⟩, by omega⟩
  · rintro e w' ⟨w2, a1, c1, p', rfl, h6, hk, rfl, hx⟩
    obtain rfl : p' = p := by rw [(h.keeps hzb).c6] at h6; simpa using h6.symm
    exact ⟨a1, c1, rfl, hzb.trans (hk.below (fun j hj => by omega) hzb.size), LiesX.mono (fun n hn => by omega) hx⟩

end Go.Proofs.Ytbhfbjbigafnpaa

namespace Go.Proofs.Ytbhfbjbigafnpaa
open Go.RowKit Go.Shelf

abbrev nil0 : VT := ⟨2, 0, ⟨#[]⟩, []⟩

theorem nil0_err : timesE 16 1 0 nil0 = 0 := by kernel_rfl
theorem nil0_right : rightV 16 nil0 = true := by kernel_rfl

end Go.Proofs.Ytbhfbjbigafnpaa

namespace Go.Proofs.Ytbhfbjbigafnpaa
open Go.RowKit Go.Shelf

/-- The i-th item. -/
abbrev itv (q i : Nat) (v : VT) : VT := itT (doneT q) i v

/-- A seq of Iter: cells P 0 .. P k, k of them known; all lists lie in blocks that Y holds of and that are none of the cells'. -/
structure Sq (Y : Nat → Prop) (w : World) (q : Nat) (v : VT) (k : Nat) (P : Nat → Nat) : Prop where
  q8 : q < 8
  right : rightV 16 v = true
  dp : Dp 16 v
  inj : ∀ i j, i ≤ k → j ≤ k → P i = P j → i = j
  inY : ∀ i, i ≤ k → Y (P i)
  known : ∀ i, i < k → ∃ a c, CB w (P i) .nilIface 0 (itv q i v) (.slice a (itv q i v).items.length c) (some ⟨P (i + 1), 0, none⟩) ∧ LiesX (fun n => Y n ∧ ∀ j, j ≤ k → n ≠ P j) 16 w (itv q i v).items (.slice a (itv q i v).items.length c)
  lazy : ∃ m z a c, m ≤ 1 ∧ itT (doneT q) m z = itv q k v ∧ rightV 16 z = true ∧ CB w (P k) (stepV q m z (.slice a z.items.length c)) 0 zeroT (.slice none 0 0) none ∧ LiesX (fun n => Y n ∧ ∀ j, j ≤ k → n ≠ P j) 16 w z.items (.slice a z.items.length c)

theorem Sq.lt {Y : Nat → Prop} {w : World} {q : Nat} {v : VT} {k : Nat} {P : Nat → Nat} (s : Sq Y w q v k P) (i : Nat) (hi : i ≤ k) : P i < w.heap.size := by
  by_cases h : i < k
  · obtain ⟨a, c, hc, _⟩ := s.known i h
    exact hc.lt
  · obtain rfl : i = k := by omega
    obtain ⟨m, z, a, c, _, _, _, hc, _⟩ := s.lazy
    exact hc.lt

theorem Sq.kc {Y B : Nat → Prop} {w w' : World} {q : Nat} {v : VT} {k : Nat} {P : Nat → Nat} (s : Sq Y w q v k P) (hk : KC B w w') (hB : ∀ n, n < w.heap.size → Y n → ¬ B n) : Sq Y w' q v k P := by
  have hp := fun i hi => hB (P i) (s.lt i hi) (s.inY i hi)
  refine ⟨s.q8, s.right, s.dp, s.inj, s.inY, fun i hi => ?_, ?_⟩
  · obtain ⟨a, c, hc, hl⟩ := s.known i hi
    exact ⟨a, c, hk.cb (hp i (by omega)) hc, LiesX.mono (fun n hn => hn.1) (hk.liesX (fun n hn => hB n hn.2 hn.1.1) hl.both)⟩
  · obtain ⟨m, z, a, c, h1, h2, h3, hc, hl⟩ := s.lazy
    exact ⟨m, z, a, c, h1, h2, h3, hk.cb (hp k (by omega)) hc, LiesX.mono (fun n hn => hn.1) (hk.liesX (fun n hn => hB n hn.2 hn.1.1) hl.both)⟩

theorem Sq.keeps {Y : Nat → Prop} {w w' : World} {q : Nat} {v : VT} {k : Nat} {P : Nat → Nat} (s : Sq Y w q v k P) (hb : Below w.heap.size w w') : Sq Y w' q v k P :=
  s.kc (B := fun _ => False) (KC.of_below hb) (fun _ _ _ h => h)

theorem Sq.monoY {Y Z : Nat → Prop} {w : World} {q : Nat} {v : VT} {k : Nat} {P : Nat → Nat} (s : Sq Y w q v k P) (h : ∀ n, n < w.heap.size → Y n → Z n) : Sq Z w q v k P := by
  refine ⟨s.q8, s.right, s.dp, s.inj, fun i hi => h _ (s.lt i hi) (s.inY i hi), fun i hi => ?_, ?_⟩
  · obtain ⟨a, c, hc, hl⟩ := s.known i hi
    exact ⟨a, c, hc, LiesX.mono (fun n hn => ⟨h n hn.2 hn.1.1, hn.1.2⟩) hl.both⟩
  · obtain ⟨m, z, a, c, h1, h2, h3, hc, hl⟩ := s.lazy
    exact ⟨m, z, a, c, h1, h2, h3, hc, LiesX.mono (fun n hn => ⟨h n hn.2 hn.1.1, hn.1.2⟩) hl.both⟩

/-- One more is known. -/
theorem Sq.force {Y : Nat → Prop} {w w' : World} {q : Nat} {v : VT} {k : Nat} {P : Nat → Nat} (s : Sq Y w q v k P) (hY : ∀ n, w.heap.size ≤ n → Y n) {b' : Nat} {a1 a2 : Option Addr} {c1 c2 : Nat} (hk : KC (fun j => j = P k) w w') (hb' : w.heap.size ≤ b') (hc : CB w' (P k) .nilIface 0 (itv q k v) (.slice a1 (itv q k v).items.length c1) (some ⟨b', 0, none⟩)) (hc' : CB w' b' (stepV q 1 (itv q k v) (.slice a2 (itv q k v).items.length c2)) 0 zeroT (.slice none 0 0) none) (h1 : LiesX (fun n => w.heap.size ≤ n ∧ n ≠ b') 16 w' (itv q k v).items (.slice a1 (itv q k v).items.length c1)) (h2 : LiesX (fun n => w.heap.size ≤ n ∧ n ≠ b') 16 w' (itv q k v).items (.slice a2 (itv q k v).items.length c2)) :
    Sq Y w' q v (k + 1) (fun i => if i = k + 1 then b' else P i) := by
  have hlt := s.lt
  have hX : ∀ n, w.heap.size ≤ n ∧ n ≠ b' → Y n ∧ ∀ j, j ≤ k + 1 → n ≠ (if j = k + 1 then b' else P j) := fun n hn => by
    refine ⟨hY n hn.1, fun j hj => ?_⟩
    by_cases e : j = k + 1
    · rw [if_pos e]; exact hn.2
    · rw [if_neg e]; have := hlt j (by omega); omega
  have hO : ∀ n, (Y n ∧ ∀ j, j ≤ k → n ≠ P j) ∧ n < w.heap.size → Y n ∧ ∀ j, j ≤ k + 1 → n ≠ (if j = k + 1 then b' else P j) := fun n hn => by
    refine ⟨hn.1.1, fun j hj => ?_⟩
    by_cases e : j = k + 1
    · rw [if_pos e]; omega
    · rw [if_neg e]; exact hn.1.2 j (by omega)
  refine ⟨s.q8, s.right, s.dp, fun i j hi hj e => ?_, fun i hi => ?_, fun i hi => ?_, ?_⟩
  · by_cases e1 : i = k + 1
    · by_cases e2 : j = k + 1
      · omega
      · simp only [if_pos e1, if_neg e2] at e; have := hlt j (by omega); omega
    · by_cases e2 : j = k + 1
      · simp only [if_neg e1, if_pos e2] at e; have := hlt i (by omega); omega
      · simp only [if_neg e1, if_neg e2] at e; exact s.inj i j (by omega) (by omega) e
  · by_cases e1 : i = k + 1
    · simp only [if_pos e1]; exact hY _ hb'
    · simp only [if_neg e1]; exact s.inY i (by omega)
  · by_cases e1 : i = k
    · subst e1
      have n1 : ¬ i = i + 1 := by omega
      simp only [if_neg n1, if_true]
      exact ⟨a1, c1, hc, LiesX.mono hX h1⟩
    · have n1 : ¬ i = k + 1 := by omega
      have n2 : ¬ i + 1 = k + 1 := by omega
      simp only [if_neg n1, if_neg n2]
      obtain ⟨a, c, hc0, hl⟩ := s.known i (by omega)
      exact ⟨a, c, hk.cb (fun e => e1 (s.inj i k (by omega) (by omega) e)) hc0, LiesX.mono hO (hk.liesX (fun n hn => hn.1.2 k (by omega)) hl.both)⟩
  · simp only [if_true]
    exact ⟨1, itv q k v, a2, c2, by omega, rfl, (it_right q s.right s.dp k).1, hc', LiesX.mono hX h2⟩

end Go.Proofs.Ytbhfbjbigafnpaa

namespace Go.Proofs.Ytbhfbjbigafnpaa
open Go.RowKit Go.Shelf

/-- What Cons tells of a right value. -/
def ConsPost (v : VT) (b : Nat) (w : World) (e : Ending) (w' : World) : Prop :=
  Below w.heap.size w w' ∧ ∃ d a c, e = .returned (.tuple #[.pointer (some ⟨d, 0, none⟩), .int .i64 0]) ∧ w.heap.size ≤ d ∧ CB w' d .nilIface 0 v (.slice a v.items.length c) (some ⟨b, 0, none⟩) ∧ LiesX (fun n => w.heap.size ≤ n ∧ n ≠ d) 16 w' v.items (.slice a v.items.length c)

set_option maxRecDepth 100000 in
set_option maxHeartbeats 8000000 in
theorem cons_ok (v : VT) (u : Value) (b : Nat) (w : World) (hu : Lies 16 w v.items u) (hr : rightV 16 v = true) :
    Calls Try.prog 17 #[.agg #[.int .i64 v.kind, .int .i64 v.num, .string v.text, u], .pointer (some ⟨b, 0, none⟩)] w (ConsPost v b w) := by
  obtain ⟨au, cu, rfl, _⟩ := Lies.slice hu
  have HC : Hid (∀ V, Below w.heap.size w V → Calls Try.prog 14 #[.agg #[.int .i64 v.kind, .int .i64 v.num, .string v.text, .slice au v.items.length cu]] V fun e w' => e = .returned (.int .i64 0) ∧ Below V.heap.size V w') := fun V hV => by
    have h9 := check_grew 16 v _ V (Lies.keeps hV _ _ _ hu) (Nat.le_trans (right_size hr) (by omega))
    rw [hr] at h9
    exact Calls.mono h9 fun e w' h => ⟨h.1, h.2.below⟩
  have HCp : Hid (∀ V, Below w.heap.size w V → Calls Try.prog 33 #[.agg #[.int .i64 v.kind, .int .i64 v.num, .string v.text, .slice au v.items.length cu]] V (CopyPost 16 v V)) := fun V hV => copy_right v _ V (Lies.keeps hV _ _ _ hu) hr
  have HOw : Hid (∀ V, Calls Try.prog 34 #[.pointer (some ⟨b, 0, none⟩)] V fun e w' => e = .returned (.pointer (some ⟨b, 0, none⟩)) ∧ w' = V) := own_some22 b
  obtain ⟨W0, hW0⟩ : ∃ W0, W0 = w.alloc (.cells #[.int .i64 v.kind, .int .i64 v.num, .string v.text, .slice au v.items.length cu] 38) := ⟨_, rfl⟩
  have HW0 : Hid (W0 = w.alloc (.cells #[.int .i64 v.kind, .int .i64 v.num, .string v.text, .slice au v.items.length cu] 38)) := hW0
  have hb0 : Below w.heap.size w W0 := by rw [hW0]; exact ((Grew.refl _).alloc _).below
  have HK : Hid (Bx W0 w.heap.size v (.slice au v.items.length cu)) := by rw [hW0]; exact bx_alloc _ _ _
  obtain ⟨k0, k1, k2, k3, _, _, _, _⟩ := HK.out
  clear hW0 hu hr HK
  go_enter Try.func17, Try.ntmps17
  go_upto_region 1 with fail
  rw [← HW0.out]
  clear HW0
  go_wp2_with fail
  refine Calls.mono (HC.out _ hb0) ?_
  rintro e w1 ⟨rfl, hg1⟩
  have hb1 : Below w.heap.size w w1 := hb0.trans (hg1.mono hb0.size)
  have k0 := cell_keeps hg1 k0; have k1 := cell_keeps hg1 k1; have k2 := cell_keeps hg1 k2; have k3 := cell_keeps hg1 k3
  clear hg1 HC hb0
  go_wp2_with fail
  refine Calls.mono (HCp.out _ hb1) ?_
  rintro e w2 ⟨u2, rfl, hl2, hg2⟩
  obtain ⟨a2, c2, rfl, _⟩ := LiesB.slice hl2
  have hb2 : Below w.heap.size w w2 := hb1.trans (hg2.mono hb1.size)
  have HL : Hid (LiesX (fun n => w.heap.size ≤ n ∧ n < w2.heap.size) 16 w2 v.items (.slice a2 v.items.length c2)) := by
    have hs := hb1.size
    exact LiesX.mono (fun n hn => ⟨by omega, hn.2⟩) (LiesX.of_b hl2).both
  clear hg2 HCp hb1 k0 k1 k2 k3 hl2
  go_wp2_with fail
  refine Calls.mono (HOw.out _) ?_
  rintro e w9 ⟨rfl, hw9⟩
  obtain rfl : w2 = w9 := hw9.symm
  clear hw9 HOw
  have HE : Hid (ConsPost v b w (.returned (.tuple #[.pointer (some ⟨w2.heap.size, 0, none⟩), .int .i64 0])) (w2.alloc (.cells #[.nilIface, .int .i64 0, .int .i64 v.kind, .int .i64 v.num, .string v.text, .slice a2 v.items.length c2, .pointer (some ⟨b, 0, none⟩)] 71))) := by
    have hal : Below w2.heap.size w2 (w2.alloc (.cells #[.nilIface, .int .i64 0, .int .i64 v.kind, .int .i64 v.num, .string v.text, .slice a2 v.items.length c2, .pointer (some ⟨b, 0, none⟩)] 71)) := ((Grew.refl _).alloc _).below
    exact ⟨hb2.trans (hal.mono hb2.size), _, a2, c2, rfl, hb2.size, cb_alloc w2 71 .nilIface 0 v (.slice a2 v.items.length c2) (some ⟨b, 0, none⟩), LiesX.mono (fun n hn => ⟨hn.1, by omega⟩) (HL.out.keeps hal)⟩
  clear hb2 HL
  go_wp2_with fail
  refine bodyPost_ret (v := .tuple #[.pointer (some ⟨w2.heap.size, 0, none⟩), .int .i64 0]) ?_ rfl HE.out
  simp [results, Try.results17, go_sem]

set_option maxRecDepth 100000 in
set_option maxHeartbeats 8000000 in
theorem cons_wrong (d : Nat) (v : VT) (u : Value) (p : Option Addr) (w : World) (hu : Lies d w v.items u) (hs : v.text.size ≤ 9223372036854775807) (hr : rightV d v = false) :
    Calls Try.prog 17 #[.agg #[.int .i64 v.kind, .int .i64 v.num, .string v.text, u], .pointer p] w fun e w' => e = .returned (.tuple #[.pointer none, .int .i64 3]) ∧ Below w.heap.size w w' := by
  obtain ⟨au, cu, rfl, _⟩ := Lies.slice hu
  have HC : Hid (∀ V, Below w.heap.size w V → Calls Try.prog 14 #[.agg #[.int .i64 v.kind, .int .i64 v.num, .string v.text, .slice au v.items.length cu]] V fun e w' => e = .returned (.int .i64 3) ∧ Below V.heap.size V w') := fun V hV => by
    have h9 := check_grew d v _ V (Lies.keeps hV _ _ _ hu) hs
    rw [hr] at h9
    exact Calls.mono h9 fun e w' h => ⟨h.1, h.2.below⟩
  obtain ⟨W0, hW0⟩ : ∃ W0, W0 = w.alloc (.cells #[.int .i64 v.kind, .int .i64 v.num, .string v.text, .slice au v.items.length cu] 38) := ⟨_, rfl⟩
  have HW0 : Hid (W0 = w.alloc (.cells #[.int .i64 v.kind, .int .i64 v.num, .string v.text, .slice au v.items.length cu] 38)) := hW0
  have hb0 : Below w.heap.size w W0 := by rw [hW0]; exact ((Grew.refl _).alloc _).below
  have HK : Hid (Bx W0 w.heap.size v (.slice au v.items.length cu)) := by rw [hW0]; exact bx_alloc _ _ _
  obtain ⟨k0, k1, k2, k3, _, _, _, _⟩ := HK.out
  clear hW0 hu hr hs HK
  go_enter Try.func17, Try.ntmps17
  go_upto_region 1 with fail
  rw [← HW0.out]
  clear HW0
  go_wp2_with fail
  refine Calls.mono (HC.out _ hb0) ?_
  rintro e w1 ⟨rfl, hg1⟩
  have hb1 : Below w.heap.size w w1 := hb0.trans (hg1.mono hb0.size)
  clear hg1 HC hb0 k0 k1 k2 k3
  go_wp2_with fail
  refine bodyPost_ret (v := .tuple #[.pointer none, .int .i64 3]) ?_ rfl ⟨rfl, hb1⟩
  simp [results, Try.results17, go_sem]

end Go.Proofs.Ytbhfbjbigafnpaa

