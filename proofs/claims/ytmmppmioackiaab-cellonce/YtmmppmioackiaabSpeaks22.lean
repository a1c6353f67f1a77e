/-
  The little program of chapter 22's statements.
-/
import Derived.Test.YtmmppmioackiaabForceM
import Derived.Test.YtmmppmioackiaabUtf
namespace Go.Proofs.Ytmmppmioackiaab
open Go.RowKit Go.Shelf

/-- The world in which the inner call is made. -/
abbrev zbox (w : World) : World := w.alloc (.cells #[.int .i64 0, .int .i64 0, .string ⟨#[]⟩, .slice none 0 0] 24)

/-- What Force tells of a known cell. -/
def FPost (b : Nat) (x : VT) (left : Int) (P2 : World → Prop) (w : World) (e : Ending) (w' : World) : Prop :=
  ∃ w2 a c p, P2 w2 ∧ w2.cell? ⟨b, 6, none⟩ = some (.pointer p) ∧ KC (fun j => j = w.heap.size) w2 w' ∧ e = .returned (.tuple #[.agg #[.int .i64 x.kind, .int .i64 x.num, .string x.text, .slice a x.items.length c], .pointer p, .bool p.isSome, .int .i64 left, .int .i64 0]) ∧ LiesX (fun n => w2.heap.size ≤ n) 16 w' x.items (.slice a x.items.length c)

set_option maxRecDepth 100000 in
set_option maxHeartbeats 8000000 in
theorem Force_any (cv : Option Addr) (W1 : World) (b f : Nat) (left : Int) (hf : f ≤ 1073741824) (x : VT) (P2 : World → Prop) (w : World)
    (ho : Calls Try.prog 29 #[.pointer cv] (zbox w) fun e w' => e = .returned (.pointer (some ⟨b, 0, none⟩)) ∧ w' = W1)
    (h : Calls Try.prog 30 #[.pointer (some ⟨b, 0, none⟩), .int .i64 (f : Int)] W1 fun e w2 => e = .returned (.tuple #[.int .i64 left, .int .i64 0]) ∧ P2 w2)
    (h2 : ∀ w2, P2 w2 → Bx w2 w.heap.size zeroT (.slice none 0 0) ∧ (∃ a c p, CB w2 b .nilIface 0 x (.slice a x.items.length c) p ∧ Lies 16 w2 x.items (.slice a x.items.length c)) ∧ b ≠ w.heap.size) (hr : rightV 16 x = true) :
    Calls Try.prog 19 #[.pointer cv, .int .i64 (f : Int)] w (FPost b x left P2 w) := by
  have HF : Hid (Calls Try.prog 30 #[.pointer (some ⟨b, 0, none⟩), .int .i64 (f : Int)] W1 fun e w2 => e = .returned (.tuple #[.int .i64 left, .int .i64 0]) ∧ P2 w2) := h
  have H2 : Hid _ := h2
  have HCf : Hid (∀ V, Calls Try.prog 28 #[.int .i64 (f : Int)] V fun e w' => e = .returned (.int .i64 0) ∧ w' = V) := fun V => checkFuel_ok f hf V
  have HOw : Hid (Calls Try.prog 29 #[.pointer cv] (zbox w) fun e w' => e = .returned (.pointer (some ⟨b, 0, none⟩)) ∧ w' = W1) := ho
  obtain ⟨W0, hW0⟩ : ∃ W0, W0 = zbox w := ⟨_, rfl⟩
  have HW0 : Hid (W0 = w.alloc (.cells #[.int .i64 0, .int .i64 0, .string ⟨#[]⟩, .slice none 0 0] 24)) := hW0
  rw [← hW0] at HOw
  clear hW0 h h2 hf ho
  go_enter Try.func19, Try.ntmps19
  go_upto_region 1 with fail
  rw [← HW0.out]
  clear HW0
  go_wp2_with fail
  refine Calls.mono (HCf.out _) ?_
  rintro e w9 ⟨rfl, hw9⟩
  obtain rfl : W0 = w9 := hw9.symm
  clear hw9 HCf
  go_wp2_with fail
  refine Calls.mono HOw.out ?_
  rintro e w9 ⟨rfl, hw9⟩
  obtain rfl : W1 = w9 := hw9.symm
  clear hw9 HOw
  go_wp2_with fail
  refine Calls.mono HF.out ?_
  rintro e w2 ⟨rfl, hP⟩
  obtain ⟨hbx, ⟨a, c, p, hcb, hl⟩, hbn⟩ := H2.out w2 hP
  have H6 : Hid (w2.cell? ⟨b, 6, none⟩ = some (.pointer p)) := hcb.c6
  have HP : Hid (P2 w2) := hP
  have HCp : Hid (∀ V, Below w2.heap.size w2 V → Calls Try.prog 33 #[.agg #[.int .i64 x.kind, .int .i64 x.num, .string x.text, .slice a x.items.length c]] V (CopyPost 16 x V)) := fun V hV => copy_right x _ V (Lies.keeps hV _ _ _ hl) hr
  have HB : Hid (Bx w2 w.heap.size zeroT (.slice none 0 0)) := hbx
  obtain ⟨_, _, k2, k3, k4, k5, k6, _, _, _, _, _, _, _⟩ := hcb
  obtain ⟨z0, z1, z2, z3, g0, g1, g2, g3⟩ := hbx
  have hlz : w.heap.size < w2.heap.size := by have h9 := cell_lt z0; simpa using h9
  clear HF H2 hP hl hr W0 W1
  cases p with
  | none =>
    go_wp2_with fail
    go_region_held3 (fun w' => w'.cell? ⟨b, 2, none⟩ = some (.int .i64 x.kind) ∧ w'.cell? ⟨b, 3, none⟩ = some (.int .i64 x.num) ∧ w'.cell? ⟨b, 4, none⟩ = some (.string x.text) ∧ w'.cell? ⟨b, 5, none⟩ = some (.slice a x.items.length c) ∧ w'.cell? ⟨b, 6, none⟩ = some (.pointer none)) (first | (go_keep; done) | (with_reducible exact ⟨set4_k22 hbn k2, set4_k22 hbn k3, set4_k22 hbn k4, set4_k22 hbn k5, set4_k22 hbn k6⟩))
      (first | (go_at_call 33; (with_reducible refine Calls.mono (HCp.out _ ?_) ?_); (first | exact Below.refl _ _ | exact (Below.refl _ _).drew); rintro e w3 ⟨u3, rfl, hl3, hg3'⟩; obtain ⟨a1, c1, rfl, _⟩ := LiesB.slice hl3; have hg3 : Below w2.heap.size w2 w3 := (by first | exact hg3' | exact (Below.refl _ _).drew.trans hg3'); have HL3 : Hid (LiesB w2.heap.size 16 w3 x.items (.slice a1 x.items.length c1)) := hl3; clear hg3' hl3; have k2 := cell_keeps hg3 k2; have k3 := cell_keeps hg3 k3; have k4 := cell_keeps hg3 k4; have k5 := cell_keeps hg3 k5; have k6 := cell_keeps hg3 k6; have z0 := cell_keeps hg3 z0; have z1 := cell_keeps hg3 z1; have z2 := cell_keeps hg3 z2; have z3 := cell_keeps hg3 z3; have g0 := (hg3.frozen (p := ⟨w.heap.size, 0, none⟩) hlz).trans g0; have g1 := (hg3.frozen (p := ⟨w.heap.size, 1, none⟩) hlz).trans g1; have g2 := (hg3.frozen (p := ⟨w.heap.size, 2, none⟩) hlz).trans g2; have g3 := (hg3.frozen (p := ⟨w.heap.size, 3, none⟩) hlz).trans g3))
    have HE : Hid (FPost b x left P2 w (.returned (.tuple #[.agg #[.int .i64 x.kind, .int .i64 x.num, .string x.text, .slice a1 x.items.length c1], .pointer none, .bool false, .int .i64 left, .int .i64 0])) (w3.setCells w.heap.size 0 (encP (x, .slice a1 x.items.length c1)))) := by
      refine ⟨w2, a1, c1, _, HP.out, H6.out, ?_, rfl, ?_⟩
      · exact KC.set (B := fun j => j = w.heap.size) (o := 0 + 1 + 1 + 1) (KC.set (B := fun j => j = w.heap.size) (o := 0 + 1 + 1) (KC.set (B := fun j => j = w.heap.size) (o := 0 + 1) (KC.set (B := fun j => j = w.heap.size) (o := 0) (KC.of_below hg3) (.inl rfl) _) (.inl rfl) _) (.inl rfl) _) (.inl rfl) _
      · exact LiesX.set (g := w.heap.size) (by omega) (LiesX.of_b HL3.out)
    have Hq : Hid (Bx (w3.setCells w.heap.size 0 (encP (x, .slice a1 x.items.length c1))) w.heap.size x (.slice a1 x.items.length c1)) := Bx.put (⟨z0, z1, z2, z3, g0, g1, g2, g3⟩ : Bx w3 w.heap.size zeroT (.slice none 0 0)) (x, .slice a1 x.items.length c1)
    clear HL3 HP HB HCp H6 hg3 k2 k3 k4 k5 k6 z0 z1 z2 z3 g0 g1 g2 g3
    go_wp2_with fail
    refine bodyPost_ret (v := .tuple #[.agg #[.int .i64 x.kind, .int .i64 x.num, .string x.text, .slice a1 x.items.length c1], .pointer none, .bool false, .int .i64 left, .int .i64 0]) ?_ rfl HE.out
    obtain ⟨q0, q1, q2, q3, _, _, _, _⟩ := Hq.out
    simp only [World.setCells, encP, Nat.zero_add, Nat.reduceAdd] at q0 q1 q2 q3
    simp [results, Try.results19, go_sem, q0, q1, q2, q3]
  | some pp =>
    go_wp2_with fail
    go_region_held3 (fun w' => w'.cell? ⟨b, 2, none⟩ = some (.int .i64 x.kind) ∧ w'.cell? ⟨b, 3, none⟩ = some (.int .i64 x.num) ∧ w'.cell? ⟨b, 4, none⟩ = some (.string x.text) ∧ w'.cell? ⟨b, 5, none⟩ = some (.slice a x.items.length c) ∧ w'.cell? ⟨b, 6, none⟩ = some (.pointer (some pp))) (first | (go_keep; done) | (with_reducible exact ⟨set4_k22 hbn k2, set4_k22 hbn k3, set4_k22 hbn k4, set4_k22 hbn k5, set4_k22 hbn k6⟩))
      (first | (go_at_call 33; (with_reducible refine Calls.mono (HCp.out _ ?_) ?_); (first | exact Below.refl _ _ | exact (Below.refl _ _).drew); rintro e w3 ⟨u3, rfl, hl3, hg3'⟩; obtain ⟨a1, c1, rfl, _⟩ := LiesB.slice hl3; have hg3 : Below w2.heap.size w2 w3 := (by first | exact hg3' | exact (Below.refl _ _).drew.trans hg3'); have HL3 : Hid (LiesB w2.heap.size 16 w3 x.items (.slice a1 x.items.length c1)) := hl3; clear hg3' hl3; have k2 := cell_keeps hg3 k2; have k3 := cell_keeps hg3 k3; have k4 := cell_keeps hg3 k4; have k5 := cell_keeps hg3 k5; have k6 := cell_keeps hg3 k6; have z0 := cell_keeps hg3 z0; have z1 := cell_keeps hg3 z1; have z2 := cell_keeps hg3 z2; have z3 := cell_keeps hg3 z3; have g0 := (hg3.frozen (p := ⟨w.heap.size, 0, none⟩) hlz).trans g0; have g1 := (hg3.frozen (p := ⟨w.heap.size, 1, none⟩) hlz).trans g1; have g2 := (hg3.frozen (p := ⟨w.heap.size, 2, none⟩) hlz).trans g2; have g3 := (hg3.frozen (p := ⟨w.heap.size, 3, none⟩) hlz).trans g3))
    have HE : Hid (FPost b x left P2 w (.returned (.tuple #[.agg #[.int .i64 x.kind, .int .i64 x.num, .string x.text, .slice a1 x.items.length c1], .pointer (some pp), .bool true, .int .i64 left, .int .i64 0])) (w3.setCells w.heap.size 0 (encP (x, .slice a1 x.items.length c1)))) := by
      refine ⟨w2, a1, c1, _, HP.out, H6.out, ?_, rfl, ?_⟩
      · exact KC.set (B := fun j => j = w.heap.size) (o := 0 + 1 + 1 + 1) (KC.set (B := fun j => j = w.heap.size) (o := 0 + 1 + 1) (KC.set (B := fun j => j = w.heap.size) (o := 0 + 1) (KC.set (B := fun j => j = w.heap.size) (o := 0) (KC.of_below hg3) (.inl rfl) _) (.inl rfl) _) (.inl rfl) _) (.inl rfl) _
      · exact LiesX.set (g := w.heap.size) (by omega) (LiesX.of_b HL3.out)
    have Hq : Hid (Bx (w3.setCells w.heap.size 0 (encP (x, .slice a1 x.items.length c1))) w.heap.size x (.slice a1 x.items.length c1)) := Bx.put (⟨z0, z1, z2, z3, g0, g1, g2, g3⟩ : Bx w3 w.heap.size zeroT (.slice none 0 0)) (x, .slice a1 x.items.length c1)
    clear HL3 HP HB HCp H6 hg3 k2 k3 k4 k5 k6 z0 z1 z2 z3 g0 g1 g2 g3
    go_wp2_with fail
    refine bodyPost_ret (v := .tuple #[.agg #[.int .i64 x.kind, .int .i64 x.num, .string x.text, .slice a1 x.items.length c1], .pointer (some pp), .bool true, .int .i64 left, .int .i64 0]) ?_ rfl HE.out
    obtain ⟨q0, q1, q2, q3, _, _, _, _⟩ := Hq.out
    simp only [World.setCells, encP, Nat.zero_add, Nat.reduceAdd] at q0 q1 q2 q3
    simp [results, Try.results19, go_sem, q0, q1, q2, q3]

theorem Force_core (b f : Nat) (left : Int) (hf : f ≤ 1073741824) (x : VT) (P2 : World → Prop) (w : World)
    (h : Calls Try.prog 30 #[.pointer (some ⟨b, 0, none⟩), .int .i64 (f : Int)] (zbox w) fun e w2 => e = .returned (.tuple #[.int .i64 left, .int .i64 0]) ∧ P2 w2)
    (h2 : ∀ w2, P2 w2 → Bx w2 w.heap.size zeroT (.slice none 0 0) ∧ (∃ a c p, CB w2 b .nilIface 0 x (.slice a x.items.length c) p ∧ Lies 16 w2 x.items (.slice a x.items.length c)) ∧ b ≠ w.heap.size) (hr : rightV 16 x = true) :
    Calls Try.prog 19 #[.pointer (some ⟨b, 0, none⟩), .int .i64 (f : Int)] w (FPost b x left P2 w) :=
  Force_any _ _ b f left hf x P2 w (own_some22 b _) h h2 hr

/-- Of nothing, Force tells nothing, and the fuel. -/
def FNil (left E : Int) (w : World) (e : Ending) (w' : World) : Prop := ∃ a c, e = .returned (.tuple #[.agg #[.int .i64 0, .int .i64 0, .string ⟨#[]⟩, .slice a 0 c], .pointer none, .bool false, .int .i64 left, .int .i64 E]) ∧ Below w.heap.size w w'

theorem lies_z22 (w : World) : Lies 16 w [] (.slice none 0 0) := ⟨none, 0, rfl, by simp, fun h => absurd rfl h⟩

theorem zbox_bx (w : World) : Bx (zbox w) w.heap.size zeroT (.slice none 0 0) := bx_alloc w zeroT (.slice none 0 0)
theorem zbox_below (w : World) : Below w.heap.size w (zbox w) := ((Grew.refl w).alloc _).below
theorem zbox_size (w : World) : (zbox w).heap.size = w.heap.size + 1 := World.size_alloc w _

/-- An empty cell, known. -/
theorem Force_empty (b f : Nat) (hf : f ≤ 1073741824) (w : World) (h : CB w b .nilIface 0 zeroT (.slice none 0 0) none) : Calls Try.prog 19 #[.pointer (some ⟨b, 0, none⟩), .int .i64 (f : Int)] w (FNil f 0 w) := by
  have hz := h.keeps (zbox_below w)
  have hbl := h.lt
  refine Calls.mono (Force_core b f f hf zeroT (fun w2 => w2 = zbox w) w (force_known b f (zbox w) hz.c0) ?_ nil_right) ?_
  · rintro w2 rfl
    exact ⟨zbox_bx w, ⟨none, 0, none, hz, lies_z22 _⟩, by omega⟩
  · rintro e w' ⟨w2, a, c, p, rfl, h6, hk, rfl, hl⟩
    obtain rfl : p = none := by rw [hz.c6] at h6; simpa using h6.symm
    have hb : Below w.heap.size w w' := (zbox_below w).trans (hk.below (fun j hj => by omega) (zbox_below w).size)
    exact ⟨a, c, rfl, hb⟩

theorem Force_nil (f : Nat) (hf : f ≤ 1073741824) (w : World) : Calls Try.prog 19 #[.pointer none, .int .i64 (f : Int)] w (FNil f 0 w) := by
  obtain ⟨W1, hW1⟩ : ∃ W1, W1 = (zbox w).alloc (.cells #[.nilIface, .int .i64 0, .int .i64 0, .int .i64 0, .string ⟨#[]⟩, .slice none 0 0, .pointer none] 72) := ⟨_, rfl⟩
  have hcb : CB W1 (zbox w).heap.size .nilIface 0 zeroT (.slice none 0 0) none := by rw [hW1]; exact cb_alloc (zbox w) 72 .nilIface 0 zeroT (.slice none 0 0) none
  have hg : Below (zbox w).heap.size (zbox w) W1 := by rw [hW1]; exact ((Grew.refl _).alloc _).below
  have hsz := zbox_size w
  refine Calls.mono (Force_any none W1 (zbox w).heap.size f f hf zeroT (fun w2 => w2 = W1) w (by rw [hW1]; exact own_none22 (zbox w)) (force_known _ f W1 hcb.c0) ?_ nil_right) ?_
  · rintro w2 rfl
    exact ⟨(zbox_bx w).keeps hg, ⟨none, 0, none, hcb, lies_z22 _⟩, by omega⟩
  · rintro e w' ⟨w2, a, c, p, rfl, h6, hk, rfl, _⟩
    obtain rfl : p = none := by rw [hcb.c6] at h6; simpa using h6.symm
    have hb2 : Below w.heap.size w w2 := (zbox_below w).trans (hg.mono (zbox_below w).size)
    exact ⟨a, c, rfl, hb2.trans (hk.below (fun j hj => by omega) hb2.size)⟩

set_option maxRecDepth 100000 in
set_option maxHeartbeats 8000000 in
theorem Force_bad (cv : Option Addr) (f : Int) (hf : f < 0 ∨ 1073741824 < f) (w : World) : Calls Try.prog 19 #[.pointer cv, .int .i64 f] w (FNil 0 1 w) := by
  have HCf : Hid (∀ V, Calls Try.prog 28 #[.int .i64 f] V fun e w' => e = .returned (.int .i64 1) ∧ w' = V) := fun V => checkFuel_bad f hf V
  obtain ⟨W0, hW0⟩ : ∃ W0, W0 = zbox w := ⟨_, rfl⟩
  have HW0 : Hid (W0 = w.alloc (.cells #[.int .i64 0, .int .i64 0, .string ⟨#[]⟩, .slice none 0 0] 24)) := hW0
  have HZ : Hid (Bx W0 w.heap.size zeroT (.slice none 0 0)) := by rw [hW0]; exact zbox_bx w
  have hb0 : Below w.heap.size w W0 := by rw [hW0]; exact zbox_below w
  have HE : Hid (FNil 0 1 w (.returned (.tuple #[.agg #[.int .i64 0, .int .i64 0, .string ⟨#[]⟩, .slice none 0 0], .pointer none, .bool false, .int .i64 0, .int .i64 1])) (W0.setCells w.heap.size 0 (encP (zeroT, .slice none 0 0)))) := ⟨none, 0, rfl, (((hb0.setCell (p := ⟨w.heap.size, 0, none⟩) (by simp) _).setCell (p := ⟨w.heap.size, 0 + 1, none⟩) (by simp) _).setCell (p := ⟨w.heap.size, 0 + 1 + 1, none⟩) (by simp) _).setCell (p := ⟨w.heap.size, 0 + 1 + 1 + 1, none⟩) (by simp) _⟩
  have Hq : Hid (Bx (W0.setCells w.heap.size 0 (encP (zeroT, .slice none 0 0))) w.heap.size zeroT (.slice none 0 0)) := HZ.out.put (zeroT, .slice none 0 0)
  obtain ⟨z0, z1, z2, z3, g0, g1, g2, g3⟩ := HZ.out
  clear hW0 hf hb0
  go_enter Try.func19, Try.ntmps19
  go_upto_region 1 with fail
  rw [← HW0.out]
  clear HW0
  go_wp2_with fail
  refine Calls.mono (HCf.out _) ?_
  rintro e w9 ⟨rfl, hw9⟩
  obtain rfl : W0 = w9 := hw9.symm
  clear hw9 HCf
  go_wp2_with fail
  refine bodyPost_ret (v := .tuple #[.agg #[.int .i64 0, .int .i64 0, .string ⟨#[]⟩, .slice none 0 0], .pointer none, .bool false, .int .i64 0, .int .i64 1]) ?_ rfl HE.out
  obtain ⟨q0, q1, q2, q3, _, _, _, _⟩ := Hq.out
  simp only [World.setCells, encP, Nat.zero_add, Nat.reduceAdd] at q0 q1 q2 q3
  simp [results, Try.results19, go_sem, q0, q1, q2, q3]

set_option maxRecDepth 100000 in
set_option maxHeartbeats 8000000 in
theorem Force_dry (b T : Nat) (v : Value) (w : World) (h : w.cell? ⟨b, 0, none⟩ = some (.iface T v)) : Calls Try.prog 19 #[.pointer (some ⟨b, 0, none⟩), .int .i64 0] w (FNil 0 220 w) := by
  have HCf : Hid (∀ V, Calls Try.prog 28 #[.int .i64 0] V fun e w' => e = .returned (.int .i64 0) ∧ w' = V) := fun V => checkFuel_ok 0 (by omega) V
  have HOw : Hid (∀ V, Calls Try.prog 29 #[.pointer (some ⟨b, 0, none⟩)] V fun e w' => e = .returned (.pointer (some ⟨b, 0, none⟩)) ∧ w' = V) := own_some22 b
  obtain ⟨W0, hW0⟩ : ∃ W0, W0 = zbox w := ⟨_, rfl⟩
  have HW0 : Hid (W0 = w.alloc (.cells #[.int .i64 0, .int .i64 0, .string ⟨#[]⟩, .slice none 0 0] 24)) := hW0
  have hb0 : Below w.heap.size w W0 := by rw [hW0]; exact zbox_below w
  have HFo : Hid (Calls Try.prog 30 #[.pointer (some ⟨b, 0, none⟩), .int .i64 0] W0 fun e w' => e = .returned (.tuple #[.int .i64 0, .int .i64 220]) ∧ w' = W0) := force_dry b T v W0 (cell_keeps hb0 h)
  have HZ : Hid (Bx W0 w.heap.size zeroT (.slice none 0 0)) := by rw [hW0]; exact zbox_bx w
  have HE : Hid (FNil 0 220 w (.returned (.tuple #[.agg #[.int .i64 0, .int .i64 0, .string ⟨#[]⟩, .slice none 0 0], .pointer none, .bool false, .int .i64 0, .int .i64 220])) (W0.setCells w.heap.size 0 (encP (zeroT, .slice none 0 0)))) := ⟨none, 0, rfl, (((hb0.setCell (p := ⟨w.heap.size, 0, none⟩) (by simp) _).setCell (p := ⟨w.heap.size, 0 + 1, none⟩) (by simp) _).setCell (p := ⟨w.heap.size, 0 + 1 + 1, none⟩) (by simp) _).setCell (p := ⟨w.heap.size, 0 + 1 + 1 + 1, none⟩) (by simp) _⟩
  have Hq : Hid (Bx (W0.setCells w.heap.size 0 (encP (zeroT, .slice none 0 0))) w.heap.size zeroT (.slice none 0 0)) := HZ.out.put (zeroT, .slice none 0 0)
  obtain ⟨z0, z1, z2, z3, g0, g1, g2, g3⟩ := HZ.out
  clear hW0 hb0 h
  go_enter Try.func19, Try.ntmps19
  go_upto_region 1 with fail
  rw [← HW0.out]
  clear HW0
  go_wp2_with fail
  refine Calls.mono (HCf.out _) ?_
  rintro e w9 ⟨rfl, hw9⟩
  obtain rfl : W0 = w9 := hw9.symm
  clear hw9 HCf
  go_wp2_with fail
  refine Calls.mono (HOw.out _) ?_
  rintro e w9 ⟨rfl, hw9⟩
  obtain rfl : W0 = w9 := hw9.symm
  clear hw9 HOw
  go_wp2_with fail
  refine Calls.mono HFo.out ?_
  rintro e w9 ⟨rfl, hw9⟩
  obtain rfl : W0 = w9 := hw9.symm
  clear hw9 HFo
  go_wp2_with fail
  refine bodyPost_ret (v := .tuple #[.agg #[.int .i64 0, .int .i64 0, .string ⟨#[]⟩, .slice none 0 0], .pointer none, .bool false, .int .i64 0, .int .i64 220]) ?_ rfl HE.out
  obtain ⟨q0, q1, q2, q3, _, _, _, _⟩ := Hq.out
  simp only [World.setCells, encP, Nat.zero_add, Nat.reduceAdd] at q0 q1 q2 q3
  simp [results, Try.results19, go_sem, q0, q1, q2, q3]

set_option maxRecDepth 100000 in
set_option maxHeartbeats 2000000 in
theorem forced_of (cv : Option Addr) (b : Nat) (R : Bool) (W1 w : World) (ho : Calls Try.prog 29 #[.pointer cv] w fun e w' => e = .returned (.pointer (some ⟨b, 0, none⟩)) ∧ w' = W1) (hk : Calls Try.prog 34 #[.pointer (some ⟨b, 0, none⟩)] W1 fun e w' => e = .returned (.bool R) ∧ w' = W1) :
    Calls Try.prog 18 #[.pointer cv] w fun e w' => e = .returned (.bool R) ∧ w' = W1 := by
  have HO : Hid _ := ho
  have HK : Hid _ := hk
  clear ho hk
  go_enter Try.func18, Try.ntmps18
  go_wp2_with fail
  refine Calls.mono HO.out ?_
  rintro e w9 ⟨rfl, hw9⟩
  obtain rfl : W1 = w9 := hw9.symm
  clear hw9 HO
  go_wp2_with fail
  refine Calls.mono HK.out ?_
  rintro e w9 ⟨rfl, hw9⟩
  obtain rfl : W1 = w9 := hw9.symm
  clear hw9 HK
  go_wp2_with fail
  go_ret
  exact ⟨rfl, rfl⟩

theorem forced_nil (w : World) : Calls Try.prog 18 #[.pointer none] w fun e w' => e = .returned (.bool true) ∧ Below w.heap.size w w' := by
  obtain ⟨W1, hW1⟩ : ∃ W1, W1 = w.alloc (.cells #[.nilIface, .int .i64 0, .int .i64 0, .int .i64 0, .string ⟨#[]⟩, .slice none 0 0, .pointer none] 72) := ⟨_, rfl⟩
  have hcb : CB W1 w.heap.size .nilIface 0 zeroT (.slice none 0 0) none := by rw [hW1]; exact cb_alloc w 72 .nilIface 0 zeroT (.slice none 0 0) none
  refine Calls.mono (forced_of none w.heap.size true W1 w (by rw [hW1]; exact own_none22 w) (known_yes _ _ hcb.c0)) ?_
  rintro e w' ⟨rfl, rfl⟩
  exact ⟨rfl, by rw [hW1]; exact ((Grew.refl _).alloc _).below⟩

theorem forced_yes (b : Nat) (w : World) (h : w.cell? ⟨b, 0, none⟩ = some .nilIface) : Calls Try.prog 18 #[.pointer (some ⟨b, 0, none⟩)] w fun e w' => e = .returned (.bool true) ∧ w' = w :=
  forced_of _ b true w w (own_some22 b w) (known_yes b w h)

theorem forced_no (b T : Nat) (v : Value) (w : World) (h : w.cell? ⟨b, 0, none⟩ = some (.iface T v)) : Calls Try.prog 18 #[.pointer (some ⟨b, 0, none⟩)] w fun e w' => e = .returned (.bool false) ∧ w' = w :=
  forced_of _ b false w w (own_some22 b w) (known_no b T v w h)

end Go.Proofs.Ytmmppmioackiaab

namespace Go.Proofs.Ytmmppmioackiaab
open Go.RowKit Go.Shelf

/-- What Iter tells: an error, or a new cell that is not known. -/
def IterPost (E : Int) (q : Nat) (v : VT) (w : World) (e : Ending) (w' : World) : Prop :=
  Below w.heap.size w w' ∧ ((E ≠ 0 ∧ e = .returned (.tuple #[.pointer none, .int .i64 E])) ∨ (E = 0 ∧ ∃ a c b, e = .returned (.tuple #[.pointer (some ⟨b, 0, none⟩), .int .i64 0]) ∧ w.heap.size ≤ b ∧ CB w' b (stepV q 0 v (.slice a v.items.length c)) 0 zeroT (.slice none 0 0) none ∧ LiesX (fun n => w.heap.size ≤ n ∧ n ≠ b) 16 w' v.items (.slice a v.items.length c)))

set_option maxRecDepth 100000 in
set_option maxHeartbeats 8000000 in
theorem iter_any (d : Nat) (o : Int) (v : VT) (u : Value) (w : World) (hu : Lies d w v.items u) (hs : v.text.size ≤ 9223372036854775807) :
    Calls Try.prog 7 #[.int .i64 o, .agg #[.int .i64 v.kind, .int .i64 v.num, .string v.text, u]] w (IterPost (timesE d o 0 v) o.toNat v w) := by
  obtain ⟨au, cu, rfl, _⟩ := Lies.slice hu
  obtain ⟨E, hE⟩ : ∃ E, E = timesE d o 0 v := ⟨_, rfl⟩
  have HT : Hid (∀ V, Below w.heap.size w V → Calls Try.prog 24 #[.int .i64 o, .int .i64 0, .agg #[.int .i64 v.kind, .int .i64 v.num, .string v.text, .slice au v.items.length cu]] V (VPost (if E = 0 then v else nilT) E V)) := fun V hV => by
    have h9 := times_any d o 0 v _ V (Lies.keeps hV _ _ _ hu) hs
    rw [← hE] at h9
    have e9 : timesT d o 0 v = (if E = 0 then v else nilT) := by unfold timesT; rw [← hE]; rfl
    rw [e9] at h9
    exact h9
  have HO : Hid (E = 0 → o = ((o.toNat : Nat) : Int)) := fun h => by
    rw [h] at hE
    unfold timesE at hE
    by_cases hq : o < 0 ∨ 8 ≤ o
    · rw [if_pos hq] at hE; cases hE
    · omega
  have HLt : Hid (∀ (T : Nat) (v : Value) V, _) := later_any
  rw [← hE]
  obtain ⟨q, hq⟩ : ∃ q, q = o.toNat := ⟨_, rfl⟩
  rw [← hq] at HO ⊢
  have HK0 : Hid (Bx (w.alloc (.cells #[.int .i64 v.kind, .int .i64 v.num, .string v.text, .slice au v.items.length cu] 24)) w.heap.size v (.slice au v.items.length cu)) := bx_alloc _ _ _
  have hb0 : Below w.heap.size w (w.alloc (.cells #[.int .i64 v.kind, .int .i64 v.num, .string v.text, .slice au v.items.length cu] 24)) := ((Grew.refl w).alloc _).below
  clear hu hs hE hq
  go_enter Try.func7, Try.ntmps7
  go_wp2_with fail
  refine Calls.mono (HT.out _ hb0) ?_
  rintro e w1 ⟨u1, rfl, hlx, hg1⟩
  have hb1 : Below w.heap.size w w1 := hb0.trans (hg1.mono hb0.size)
  obtain ⟨N0, hN0⟩ : ∃ N0, N0 = (w.alloc (.cells #[.int .i64 v.kind, .int .i64 v.num, .string v.text, .slice au v.items.length cu] 24)).heap.size := ⟨_, rfl⟩
  have hN1 : w.heap.size ≤ N0 := by rw [hN0]; exact hb0.size
  rw [← hN0] at hlx
  by_cases h0 : E = 0
  · subst h0
    have hoq := HO.out rfl
    simp only [if_true] at hlx ⊢
    obtain ⟨a1, c1, rfl, _⟩ := LiesX.slice hlx
    obtain ⟨n6, hn6⟩ : ∃ n6, n6 = w1.heap.size := ⟨_, rfl⟩
    obtain ⟨W2, hW2⟩ : ∃ W2, W2 = w1.alloc (.cells #[.int .i64 v.kind, .int .i64 v.num, .string v.text, .slice a1 v.items.length c1] 24) := ⟨_, rfl⟩
    have HW2 : Hid (W2 = w1.alloc (.cells #[.int .i64 v.kind, .int .i64 v.num, .string v.text, .slice a1 v.items.length c1] 24)) := hW2
    have hal : Below w1.heap.size w1 W2 := by rw [hW2]; exact ((Grew.refl _).alloc _).below
    have HB6 : Hid (Bx W2 n6 v (.slice a1 v.items.length c1)) := by rw [hW2, hn6]; exact bx_alloc _ _ _
    obtain ⟨y0, y1, y2, y3, _, _, _, _⟩ := HB6.out
    have HLX : Hid (LiesX (fun n => N0 ≤ n ∧ n < W2.heap.size) 16 W2 v.items (.slice a1 v.items.length c1)) := (hlx.keeps hal).both
    have HH : Hid (Below w.heap.size w W2 ∧ w.heap.size ≤ N0) := ⟨hb1.trans (hal.mono hb1.size), hN1⟩
    subst hoq
    clear hN0 hN1 hlx hg1 hb1 hal hW2 hb0 HK0 HT HO
    go_upto_region 2 with fail
    rw [← HW2.out, ← hn6]
    clear HW2 hn6
    go_wp2_with fail
    refine Calls.mono (HLt.out _ _ _) ?_
    rintro e w3 ⟨rfl, hw3⟩
    have hcb : CB w3 W2.heap.size (stepV q 0 v (.slice a1 v.items.length c1)) 0 zeroT (.slice none 0 0) none := by rw [hw3]; exact cb_alloc W2 72 (stepV q 0 v (.slice a1 v.items.length c1)) 0 zeroT (.slice none 0 0) none
    have hg3 : Below W2.heap.size W2 w3 := by rw [hw3]; exact ((Grew.refl _).alloc _).below
    have HE : Hid (IterPost 0 q v w (.returned (.tuple #[.pointer (some ⟨W2.heap.size, 0, none⟩), .int .i64 0])) w3) := by
      have hh := HH.out
      exact ⟨hh.1.trans (hg3.mono hh.1.size), .inr ⟨rfl, a1, c1, W2.heap.size, rfl, hh.1.size, hcb, LiesX.mono (fun n hn => ⟨by omega, by omega⟩) (HLX.out.keeps hg3)⟩⟩
    clear hcb hg3 hw3 HLX HH HLt HB6 y0 y1 y2 y3
    go_wp2_with fail
    refine bodyPost_ret (v := .tuple #[.pointer (some ⟨W2.heap.size, 0, none⟩), .int .i64 0]) ?_ rfl HE.out
    simp [results, Try.results7, go_sem]
  · have hne : (E != 0) = true := by simp [h0]
    simp only [h0, if_false] at hlx ⊢
    obtain ⟨a1, c1, rfl, _⟩ := LiesX.slice hlx
    have HE : Hid (∀ A, IterPost E q v w (.returned (.tuple #[.pointer none, .int .i64 E])) (w1.alloc A)) := fun A => ⟨hb1.trans (((Grew.refl w1).alloc A).below.mono hb1.size), .inl ⟨h0, rfl⟩⟩
    clear hN0 hN1 hlx hg1 hb1 hb0 HK0 HT HO
    go_wp2_with fail
    refine bodyPost_ret (v := .tuple #[.pointer none, .int .i64 E]) ?_ rfl (HE.out _)
    simp [results, Try.results7, go_sem]

end Go.Proofs.Ytmmppmioackiaab

namespace Go.Proofs.Ytmmppmioackiaab
open Go.RowKit Go.Shelf

set_option maxRecDepth 100000 in
set_option maxHeartbeats 4000000 in
theorem known_len (cv : Option Addr) (P : Nat → Nat) (k : Nat) (W1 w : World) (ho : Calls Try.prog 29 #[.pointer cv] w fun e w' => e = .returned (.pointer (some ⟨P 0, 0, none⟩)) ∧ w' = W1) (hr : ∀ i, i < k → W1.cell? ⟨P i, 6, none⟩ = some (.pointer (some ⟨P (i + 1), 0, none⟩))) (hz : W1.cell? ⟨P k, 6, none⟩ = some (.pointer none)) :
    Calls Try.prog 12 #[.pointer cv] w fun e w' => e = .returned (.int .i64 ((min k 65536 : Nat) : Int)) ∧ w' = W1 := by
  have HO : Hid _ := ho
  have HR : Hid (∀ i, i < k → W1.cell? ⟨P i, 6, none⟩ = some (.pointer (some ⟨P (i + 1), 0, none⟩))) := hr
  have HZ : Hid (W1.cell? ⟨P k, 6, none⟩ = some (.pointer none)) := hz
  obtain ⟨M, hM⟩ : ∃ M, M = min k 65536 := ⟨_, rfl⟩
  have HM : Hid (M = min k 65536) := hM
  rw [← hM]
  clear ho hr hz hM
  go_enter Try.func12, Try.ntmps12
  go_wp2_with fail
  refine Calls.mono HO.out ?_
  rintro e w9 ⟨rfl, hw9⟩
  obtain rfl : W1 = w9 := hw9.symm
  clear hw9 HO
  go_wp2_with fail
  go_loopg [3, 4] k (fun g n at_ wr => ∃ j : Nat, n = .int .i64 (j : Int) ∧ at_ = .pointer (some ⟨P j, 0, none⟩) ∧ j ≤ k ∧ j ≤ 65536 ∧ g = k - j ∧ wr = W1)
  case atStart => exact ⟨0, rfl, rfl, by omega, by omega, by omega, rfl⟩
  case round =>
    obtain ⟨j, rfl, rfl, hj, hj2, hg, rfl⟩ := hrel
    have Hg : Hid _ := hg
    clear hg
    by_cases hlt : j < k
    · have c6 := HR.out j hlt
      by_cases h65 : j < 65536
      · have hji : (j : Int) < 65536 := by omega
        have e1 : IntKind.i64.wrap ((j : Int) + 1) = ((j + 1 : Nat) : Int) := by rw [IntKind.wrap_i64]; omega
        go_wp2_with fail
        go_roundg (k - (j + 1))
        case measure => have := Hg.out; omega
        case rel => exact ⟨j + 1, rfl, rfl, by omega, by omega, rfl, rfl⟩
      · have hji : ¬ (j : Int) < 65536 := by omega
        have hjM : M = j := by have := HM.out; omega
        subst hjM
        go_wp2_with fail
        go_ret
        exact ⟨rfl, rfl⟩
    · obtain rfl : j = k := by omega
      have c6 := HZ.out
      have hjM : M = j := by have := HM.out; omega
      subst hjM
      go_wp2_with fail
      go_ret
      exact ⟨rfl, rfl⟩

theorem known_nil (w : World) : Calls Try.prog 12 #[.pointer none] w fun e w' => e = .returned (.int .i64 0) ∧ Below w.heap.size w w' := by
  obtain ⟨W1, hW1⟩ : ∃ W1, W1 = w.alloc (.cells #[.nilIface, .int .i64 0, .int .i64 0, .int .i64 0, .string ⟨#[]⟩, .slice none 0 0, .pointer none] 72) := ⟨_, rfl⟩
  have hcb : CB W1 w.heap.size .nilIface 0 zeroT (.slice none 0 0) none := by rw [hW1]; exact cb_alloc w 72 .nilIface 0 zeroT (.slice none 0 0) none
  refine Calls.mono (known_len none (fun _ => w.heap.size) 0 W1 w (by rw [hW1]; exact own_none22 w) (fun i h => absurd h (by omega)) hcb.c6) ?_
  rintro e w' ⟨rfl, rfl⟩
  exact ⟨rfl, by rw [hW1]; exact ((Grew.refl _).alloc _).below⟩

set_option maxRecDepth 100000 in
set_option maxHeartbeats 4000000 in
theorem ahead_bad (cv : Option Addr) (n f : Int) (h : (n < 0 ∨ 65536 < n) ∨ (f < 0 ∨ 1073741824 < f)) (w : World) : Calls Try.prog 10 #[.pointer cv, .int .i64 n, .int .i64 f] w fun e w' => e = .returned (.tuple #[.int .i64 0, .int .i64 1]) ∧ w' = w := by
  by_cases hn : n < 0 ∨ 65536 < n
  · clear h
    rcases hn with h1 | h1
    · go_enter Try.func10, Try.ntmps10
      go_wp2_with fail
      exact bodyPost_ret (v := .tuple #[.int .i64 0, .int .i64 1]) (by simp [results, Try.results10, go_sem]) rfl ⟨rfl, rfl⟩
    · have h0 : ¬ n < 0 := by omega
      go_enter Try.func10, Try.ntmps10
      go_wp2_with fail
      exact bodyPost_ret (v := .tuple #[.int .i64 0, .int .i64 1]) (by simp [results, Try.results10, go_sem]) rfl ⟨rfl, rfl⟩
  · have h0 : ¬ n < 0 := by omega
    have h1 : ¬ (65536 : Int) < n := by omega
    have HCf : Hid (∀ V, Calls Try.prog 28 #[.int .i64 f] V fun e w' => e = .returned (.int .i64 1) ∧ w' = V) := fun V => checkFuel_bad f (by omega) V
    clear h hn
    go_enter Try.func10, Try.ntmps10
    go_wp2_with fail
    refine Calls.mono (HCf.out _) ?_
    rintro e w9 ⟨rfl, rfl⟩
    go_wp2_with fail
    exact bodyPost_ret (v := .tuple #[.int .i64 0, .int .i64 1]) (by simp [results, Try.results10, go_sem]) rfl ⟨rfl, rfl⟩

set_option maxRecDepth 100000 in
set_option maxHeartbeats 4000000 in
theorem ahead_nil (f : Nat) (hf : f ≤ 1073741824) (w : World) : Calls Try.prog 10 #[.pointer none, .int .i64 3, .int .i64 (f : Int)] w fun e w' => e = .returned (.tuple #[.int .i64 (f : Int), .int .i64 0]) ∧ Below w.heap.size w w' := by
  obtain ⟨W1, hW1⟩ : ∃ W1, W1 = w.alloc (.cells #[.nilIface, .int .i64 0, .int .i64 0, .int .i64 0, .string ⟨#[]⟩, .slice none 0 0, .pointer none] 72) := ⟨_, rfl⟩
  have hcb : CB W1 w.heap.size .nilIface 0 zeroT (.slice none 0 0) none := by rw [hW1]; exact cb_alloc w 72 .nilIface 0 zeroT (.slice none 0 0) none
  have hg1 : Below w.heap.size w W1 := by rw [hW1]; exact ((Grew.refl _).alloc _).below
  have HCf : Hid (∀ V, Calls Try.prog 28 #[.int .i64 (f : Int)] V fun e w' => e = .returned (.int .i64 0) ∧ w' = V) := fun V => checkFuel_ok f hf V
  have HOw : Hid (Calls Try.prog 29 #[.pointer none] w fun e w' => e = .returned (.pointer (some ⟨w.heap.size, 0, none⟩)) ∧ w' = W1) := by rw [hW1]; exact own_none22 w
  have HFo : Hid (Calls Try.prog 30 #[.pointer (some ⟨w.heap.size, 0, none⟩), .int .i64 (f : Int)] W1 fun e w' => e = .returned (.tuple #[.int .i64 (f : Int), .int .i64 0]) ∧ w' = W1) := force_known _ _ W1 hcb.c0
  have c6 := hcb.c6
  clear hW1 hcb hf
  go_enter Try.func10, Try.ntmps10
  go_wp2_with fail
  refine Calls.mono (HCf.out _) ?_
  rintro e w9 ⟨rfl, hw9⟩
  obtain rfl : w = w9 := hw9.symm
  clear hw9 HCf
  go_wp2_with fail
  refine Calls.mono HOw.out ?_
  rintro e w9 ⟨rfl, hw9⟩
  obtain rfl : W1 = w9 := hw9.symm
  clear hw9 HOw
  go_wp2_with fail
  go_loopg [2, 9, 26] 1 (fun g fu at_ i wr => fu = .int .i64 (f : Int) ∧ at_ = .pointer (some ⟨w.heap.size, 0, none⟩) ∧ i = .int .i64 0 ∧ wr = W1 ∧ g = 1)
  case atStart => exact ⟨rfl, rfl, rfl, rfl, rfl⟩
  case round =>
    obtain ⟨rfl, rfl, rfl, rfl, rfl⟩ := hrel
    go_wp2_with fail
    refine Calls.mono HFo.out ?_
    rintro e w9 ⟨rfl, hw9⟩
    obtain rfl : wr = w9 := hw9.symm
    clear hw9 HFo
    go_wp2_with fail
    exact bodyPost_ret (v := .tuple #[.int .i64 (f : Int), .int .i64 0]) (by simp [results, Try.results10, go_sem]) rfl ⟨rfl, hg1⟩

end Go.Proofs.Ytmmppmioackiaab

namespace Go.Proofs.Ytmmppmioackiaab
open Go.RowKit Go.Shelf

/-- Behind Force of a cell of Iter that was not known. -/
def LPost (q : Nat) (x : VT) (f b : Nat) (w : World) (e : Ending) (w' : World) : Prop :=
  ∃ a c b' a1 c1 a2 c2, e = .returned (.tuple #[.agg #[.int .i64 x.kind, .int .i64 x.num, .string x.text, .slice a x.items.length c], .pointer (some ⟨b', 0, none⟩), .bool true, .int .i64 (f : Int), .int .i64 0]) ∧ KC (fun j => j = b) w w' ∧ w.heap.size ≤ b' ∧ CB w' b .nilIface 0 x (.slice a1 x.items.length c1) (some ⟨b', 0, none⟩) ∧ CB w' b' (stepV q 1 x (.slice a2 x.items.length c2)) 0 zeroT (.slice none 0 0) none ∧ LiesX (fun n => w.heap.size ≤ n ∧ n ≠ b') 16 w' x.items (.slice a1 x.items.length c1) ∧ LiesX (fun n => w.heap.size ≤ n ∧ n ≠ b') 16 w' x.items (.slice a2 x.items.length c2) ∧ LiesX (fun n => w.heap.size ≤ n ∧ n ≠ b') 16 w' x.items (.slice a x.items.length c)

theorem Force_lazy (q m f b : Nat) (hq : q < 8) (hm : m ≤ 65536) (hf : f < 1073741824) (z : VT) (a : Option Addr) (c : Nat) (w : World) (h : CB w b (stepV q m z (.slice a z.items.length c)) 0 zeroT (.slice none 0 0) none) (hl : LiesX (fun n => n ≠ b) 16 w z.items (.slice a z.items.length c)) (hr : rightV 16 z = true) :
    Calls Try.prog 19 #[.pointer (some ⟨b, 0, none⟩), .int .i64 ((f + 1 : Nat) : Int)] w (LPost q (itT (doneT q) m z) f b w) := by
  have hzb := zbox_below w
  have hzs := zbox_size w
  have hbl := h.lt
  have hx := it_right q hr (Dp.of_lies 16 w z _ hl.lies) m
  generalize hxx : itT (doneT q) m z = x at hx ⊢
  have h1 := force_lazy q m f b hq hm hf z a c (zbox w) (h.keeps hzb) (hl.keeps hzb) hr
  rw [hxx] at h1
  have hb0 : b ≠ w.heap.size := by omega
  refine Calls.mono (Force_core b (f + 1) f (by omega) x (fun w2 => KC (fun j => j = b) (zbox w) w2 ∧ ∃ a1 c1 a2 c2 b', (zbox w).heap.size ≤ b' ∧ CB w2 b .nilIface 0 x (.slice a1 x.items.length c1) (some ⟨b', 0, none⟩) ∧ CB w2 b' (stepV q 1 x (.slice a2 x.items.length c2)) 0 zeroT (.slice none 0 0) none ∧ LiesX (fun n => (zbox w).heap.size ≤ n ∧ n ≠ b') 16 w2 x.items (.slice a1 x.items.length c1) ∧ LiesX (fun n => (zbox w).heap.size ≤ n ∧ n ≠ b') 16 w2 x.items (.slice a2 x.items.length c2)) w (Calls.mono h1 fun e w2 hp => ⟨hp.2.1, hp.1, hp.2.2⟩) ?_ hx.1) ?_
  · rintro w2 ⟨hk, a1, c1, a2, c2, b', hb', hcb, _, hx1, _⟩
    exact ⟨hk.bx (fun e => hb0 e.symm) (zbox_bx w), ⟨a1, c1, _, hcb, hx1.lies⟩, hb0⟩
  · rintro e w' ⟨w2, a3, c3, p, ⟨hk, a1, c1, a2, c2, b', hb', hcb, hcb', hx1, hx2⟩, h6, hk2, rfl, hx3⟩
    obtain rfl : p = some ⟨b', 0, none⟩ := by rw [hcb.c6] at h6; simpa using h6.symm
    have hs2 := hk.size
    have hbb := hcb'.lt
    have hkk : KC (fun j => j = b) w w' := ((KC.of_below hzb).trans2 hk (fun _ _ h => h)).trans2 hk2 (fun j hj h => by omega)
    refine ⟨a3, c3, b', a1, c1, a2, c2, rfl, hkk, by omega, hk2.cb hb0 hcb, hk2.cb (by omega) hcb', ?_, ?_, ?_⟩
    · exact LiesX.mono (fun n hn => ⟨by omega, hn.2⟩) (hk2.liesX (fun n hn => by omega) hx1)
    · exact LiesX.mono (fun n hn => ⟨by omega, hn.2⟩) (hk2.liesX (fun n hn => by omega) hx2)
    · exact LiesX.mono (fun n hn => ⟨by omega, by omega⟩) hx3

/-- A known cell that is not empty. -/
def KPost (x : VT) (p : Option Addr) (f : Int) (w : World) (e : Ending) (w' : World) : Prop :=
  ∃ a c, e = .returned (.tuple #[.agg #[.int .i64 x.kind, .int .i64 x.num, .string x.text, .slice a x.items.length c], .pointer p, .bool p.isSome, .int .i64 f, .int .i64 0]) ∧ Below w.heap.size w w' ∧ LiesX (fun n => w.heap.size ≤ n) 16 w' x.items (.slice a x.items.length c)

theorem Force_known (b f : Nat) (hf : f ≤ 1073741824) (x : VT) (a : Option Addr) (c : Nat) (p : Option Addr) (w : World) (h : CB w b .nilIface 0 x (.slice a x.items.length c) p) (hl : Lies 16 w x.items (.slice a x.items.length c)) (hr : rightV 16 x = true) :
    Calls Try.prog 19 #[.pointer (some ⟨b, 0, none⟩), .int .i64 (f : Int)] w (KPost x p f w) := by
  have hzb := zbox_below w
  have hzs := zbox_size w
  have hbl := h.lt
  refine Calls.mono (Force_core b f f hf x (fun w2 => w2 = zbox w) w (force_known b f (zbox w) (h.keeps hzb).c0) ?_ hr) ?_
  · rintro w2 rfl
    exact ⟨zbox_bx w, ⟨a, c, p, h.keeps hzb, Lies.keeps hzb _ _ _ hl⟩, by omega⟩
  · rintro e w' ⟨w2, a1, c1, p', rfl, h6, hk, rfl, hx⟩
    obtain rfl : p' = p := by rw [(h.keeps hzb).c6] at h6; simpa using h6.symm
    exact ⟨a1, c1, rfl, hzb.trans (hk.below (fun j hj => by omega) hzb.size), LiesX.mono (fun n hn => by omega) hx⟩

end Go.Proofs.Ytmmppmioackiaab

namespace Go.Proofs.Ytmmppmioackiaab
open Go.RowKit Go.Shelf

abbrev nil0 : VT := ⟨2, 0, ⟨#[]⟩, []⟩

theorem nil0_err : timesE 16 1 0 nil0 = 0 := by kernel_rfl
theorem nil0_right : rightV 16 nil0 = true := by kernel_rfl

set_option maxRecDepth 100000 in
set_option maxHeartbeats 8000000 in
theorem speaks22_any (w : World) : Calls Try.prog 8 #[] w fun e w' => e = .returned (.bool true) ∧ Below w.heap.size w w' := by
  have HI : Hid (∀ V, Calls Try.prog 25 #[.int .i64 0] V fun e w' => e = .returned (.agg #[.int .i64 2, .int .i64 0, .string ⟨#[]⟩, .slice none 0 0]) ∧ Grew V w') := fun V => int_any 0 V
  have HIt : Hid (∀ V, Calls Try.prog 7 #[.int .i64 1, .agg #[.int .i64 2, .int .i64 0, .string ⟨#[]⟩, .slice none 0 0]] V (IterPost 0 1 nil0 V)) := fun V => by
    have h9 := iter_any 16 1 nil0 (.slice none 0 0) V (lies_z22 V) (by show (0 : Nat) ≤ _; omega)
    rw [nil0_err] at h9
    exact h9
  go_enter Try.func8, Try.ntmps8
  go_wp2_with fail
  refine Calls.mono (HI.out _) ?_
  rintro e w1 ⟨rfl, hg1⟩
  have hb1 : Below w.heap.size w w1 := hg1.below
  clear hg1 HI
  go_wp2_with fail
  refine Calls.mono (HIt.out _) ?_
  rintro e w2 ⟨hg2, ⟨h0, _⟩ | ⟨_, a, c, b, rfl, hb, hcb, hlx⟩⟩
  · exact absurd rfl h0
  have hb2 : Below w.heap.size w w2 := hb1.trans (hg2.mono hb1.size)
  have HF0 : Hid (Calls Try.prog 19 #[.pointer (some ⟨b, 0, none⟩), .int .i64 0] w2 (FNil 0 220 w2)) := Force_dry b _ _ w2 hcb.c0
  have HF1 : Hid (∀ V, Below w2.heap.size w2 V → Calls Try.prog 19 #[.pointer (some ⟨b, 0, none⟩), .int .i64 1] V (LPost 1 nil0 0 b V)) := fun V hV => Force_lazy 1 0 0 b (by omega) (by omega) (by omega) nil0 a c V (hcb.keeps hV) (LiesX.mono (fun n hn => hn.2) (hlx.keeps hV)) nil0_right
  have Hb : Hid (w.heap.size ≤ b ∧ b < w2.heap.size) := ⟨Nat.le_trans hb1.size hb, hcb.lt⟩
  clear hg2 hb hcb hlx hb1 HIt
  go_wp2_with fail
  refine Calls.mono HF0.out ?_
  rintro e w3 ⟨a3, c3, rfl, hg3⟩
  obtain ⟨W4, hW4⟩ : ∃ W4, W4 = w3.alloc (.cells #[.int .i64 0, .int .i64 0, .string ⟨#[]⟩, .slice a3 0 c3] 24) := ⟨_, rfl⟩
  have HW4 : Hid (W4 = w3.alloc (.cells #[.int .i64 0, .int .i64 0, .string ⟨#[]⟩, .slice a3 0 c3] 24)) := hW4
  have hal : Below w3.heap.size w3 W4 := by rw [hW4]; exact ((Grew.refl _).alloc _).below
  have hg4 : Below w2.heap.size w2 W4 := hg3.trans (hal.mono hg3.size)
  have hb4 : Below w.heap.size w W4 := hb2.trans (hg4.mono hb2.size)
  clear hW4 hal hg3 HF0 hb2
  go_upto_region 5 with fail
  rw [← HW4.out]
  clear HW4
  go_wp2_with fail
  refine Calls.mono (HF1.out _ hg4) ?_
  rintro e w5 ⟨a5, c5, b', a1, c1, a2, c2, rfl, hk, hb', hcb, hcb', _, _, _⟩
  have hbb := Hb.out
  have hb5 : Below w.heap.size w w5 := hb4.trans (hk.below (fun j hj => by omega) hb4.size)
  obtain ⟨n8, hn8⟩ : ∃ n8, n8 = w5.heap.size := ⟨_, rfl⟩
  obtain ⟨W6, hW6⟩ : ∃ W6, W6 = w5.alloc (.cells #[.int .i64 2, .int .i64 0, .string ⟨#[]⟩, .slice a5 0 c5] 24) := ⟨_, rfl⟩
  have HW6 : Hid (W6 = w5.alloc (.cells #[.int .i64 2, .int .i64 0, .string ⟨#[]⟩, .slice a5 0 c5] 24)) := hW6
  have hal : Below w5.heap.size w5 W6 := by rw [hW6]; exact ((Grew.refl _).alloc _).below
  have y1 : W6.cell? ⟨n8, 1, none⟩ = some (.int .i64 0) := by rw [hW6, hn8]; exact (bx_alloc w5 nil0 (.slice a5 0 c5)).c1
  have HY : Hid (Calls Try.prog 18 #[.pointer (some ⟨b, 0, none⟩)] W6 fun e w' => e = .returned (.bool true) ∧ w' = W6) := forced_yes b W6 (hcb.keeps hal).c0
  have HN : Hid (Calls Try.prog 18 #[.pointer (some ⟨b', 0, none⟩)] W6 fun e w' => e = .returned (.bool false) ∧ w' = W6) := forced_no b' _ _ W6 (hcb'.keeps hal).c0
  have hb6 : Below w.heap.size w W6 := hb5.trans (hal.mono hb5.size)
  clear hk hb' hcb hcb' hbb hb5 hal hW6 hb4 hg4 HF1 Hb
  go_upto_region 6 with fail
  rw [← HW6.out, ← hn8]
  clear HW6 hn8
  go_wp2_with fail
  refine Calls.mono HY.out ?_
  rintro e w9 ⟨rfl, hw9⟩
  obtain rfl : W6 = w9 := hw9.symm
  clear hw9 HY
  go_wp2_with fail
  refine Calls.mono HN.out ?_
  rintro e w9 ⟨rfl, hw9⟩
  obtain rfl : W6 = w9 := hw9.symm
  clear hw9 HN
  go_wp2_with fail
  go_ret
  exact ⟨rfl, hb6⟩

end Go.Proofs.Ytmmppmioackiaab

