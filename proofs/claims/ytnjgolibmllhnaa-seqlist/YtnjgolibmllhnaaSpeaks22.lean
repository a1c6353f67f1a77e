/-
  The little program of chapter 22's statements.
-/
import Derived.Test.YtnjgolibmllhnaaAskedM
import Derived.Test.YtnjgolibmllhnaaUtf
namespace Go.Proofs.Ytnjgolibmllhnaa
open Go.RowKit Go.Shelf

/-- All blocks that lay there stay, but some. -/
structure KC (B : Nat → Prop) (w w' : World) : Prop where
  os : w'.os = w.os
  tape : w'.tape = w.tape
  output : w'.output = w.output
  size : w.heap.size ≤ w'.heap.size
  block : ∀ j, j < w.heap.size → ¬ B j → w'.heap[j]? = w.heap[j]?

theorem KC.of_below {B : Nat → Prop} {w w' : World} (hb : Below w.heap.size w w') : KC B w w' := ⟨hb.os, hb.tape, hb.output, hb.size, fun j hj _ => hb.block j hj⟩

theorem KC.refl (B : Nat → Prop) (w : World) : KC B w w := KC.of_below (Below.refl _ _)

theorem KC.trans {B : Nat → Prop} {a b c : World} (k1 : KC B a b) (k2 : KC B b c) : KC B a c :=
  ⟨k2.os.trans k1.os, k2.tape.trans k1.tape, k2.output.trans k1.output, Nat.le_trans k1.size k2.size, fun j hj hn => (k2.block j (Nat.lt_of_lt_of_le hj k1.size) hn).trans (k1.block j hj hn)⟩

theorem KC.mono {B C : Nat → Prop} {w w' : World} (h : ∀ j, j < w.heap.size → B j → C j) (k : KC B w w') : KC C w w' := ⟨k.os, k.tape, k.output, k.size, fun j hj hn => k.block j hj (fun hB => hn (h j hj hB))⟩

theorem KC.set {B : Nat → Prop} {w w1 : World} (k : KC B w w1) {g o : Nat} (hg : B g ∨ w.heap.size ≤ g) (v : Value) : KC B w (w1.setCell ⟨g, o, none⟩ v) := by
  refine ⟨k.os, k.tape, k.output, ?_, fun j hj hn => ?_⟩
  · have h9 : (w1.setCell ⟨g, o, none⟩ v).heap.size = w1.heap.size := by simp [World.setCell]
    rw [h9]; exact k.size
  · have h9 : (w1.setCell ⟨g, o, none⟩ v).heap[j]? = w1.heap[j]? := by
      simp only [World.setCell, Array.getElem?_modify]
      rw [if_neg]
      rintro rfl
      rcases hg with h | h
      · exact hn h
      · omega
    rw [h9]
    exact k.block j hj hn

theorem KC.drew {B : Nat → Prop} {w w1 : World} (k : KC B w w1) : KC B w w1.drew := ⟨k.os, k.tape, k.output, k.size, k.block⟩

theorem KC.below {B : Nat → Prop} {N0 : Nat} {w w' : World} (k : KC B w w') (h1 : ∀ j, j < N0 → ¬ B j) (h2 : N0 ≤ w.heap.size) : Below N0 w w' := ⟨k.os, k.tape, k.output, k.size, fun j hj => k.block j (by omega) (h1 j hj)⟩

theorem KC.cell {B : Nat → Prop} {w w' : World} (k : KC B w w') {a : Addr} {u : Value} (hn : ¬ B a.block) (hu : w.cell? a = some u) : w'.cell? a = some u := by
  have e := k.block a.block (cell_lt hu) hn
  unfold World.cell? at hu ⊢
  rw [e]
  exact hu

theorem KC.frozen {B : Nat → Prop} {w w' : World} (k : KC B w w') {a : Addr} {u : Value} (hn : ¬ B a.block) (hu : w.cell? a = some u) (hf : w.frozen? a = false) : w'.frozen? a = false := by
  have e := k.block a.block (cell_lt hu) hn
  unfold World.frozen? at hf ⊢
  rw [e]
  exact hf

theorem KC.liesX {B X : Nat → Prop} {w w' : World} (k : KC B w w') (hX : ∀ n, X n → ¬ B n) {d : Nat} {l : List VT} {v : Value} (h : LiesX X d w l v) : LiesX X d w' l v :=
  LiesX.stays (fun _ h => h) (fun _ _ ha hv => k.cell (hX _ ha) hv) h

theorem KC.bx {B : Nat → Prop} {w w' : World} (k : KC B w w') {n : Nat} {t : VT} {u : Value} (hn : ¬ B n) (h : Bx w n t u) : Bx w' n t u :=
  ⟨k.cell hn h.c0, k.cell hn h.c1, k.cell hn h.c2, k.cell hn h.c3, k.frozen hn h.c0 h.f0, k.frozen hn h.c1 h.f1, k.frozen hn h.c2 h.f2, k.frozen hn h.c3 h.f3⟩

theorem KC.cb {B : Nat → Prop} {w w' : World} (k : KC B w w') {b : Nat} {st : Value} {n : Int} {x : VT} {u : Value} {p : Option Addr} (hn : ¬ B b) (h : CB w b st n x u p) : CB w' b st n x u p :=
  ⟨k.cell hn h.c0, k.cell hn h.c1, k.cell hn h.c2, k.cell hn h.c3, k.cell hn h.c4, k.cell hn h.c5, k.cell hn h.c6, k.frozen hn h.c0 h.f0, k.frozen hn h.c1 h.f1, k.frozen hn h.c2 h.f2, k.frozen hn h.c3 h.f3, k.frozen hn h.c4 h.f4, k.frozen hn h.c5 h.f5, k.frozen hn h.c6 h.f6⟩

set_option maxRecDepth 100000 in
set_option maxHeartbeats 2000000 in
theorem force_known (b : Nat) (f : Int) (w : World) (h : w.cell? ⟨b, 0, none⟩ = some .nilIface) : Calls Try.prog 51 #[.pointer (some ⟨b, 0, none⟩), .int .i64 f] w fun e w' => e = .returned (.tuple #[.int .i64 f, .int .i64 0]) ∧ w' = w := by
  have HK : Hid _ := known_yes b w h
  go_enter Try.func51, Try.ntmps51
  go_wp2_with fail
  refine Calls.mono HK.out ?_
  rintro e w1 ⟨rfl, rfl⟩
  go_wp2_with fail
  exact bodyPost_ret (v := .tuple #[.int .i64 f, .int .i64 0]) (by simp [results, Try.results51, go_sem]) rfl ⟨rfl, rfl⟩

set_option maxRecDepth 100000 in
set_option maxHeartbeats 2000000 in
theorem force_dry (b T : Nat) (v : Value) (w : World) (h : w.cell? ⟨b, 0, none⟩ = some (.iface T v)) : Calls Try.prog 51 #[.pointer (some ⟨b, 0, none⟩), .int .i64 0] w fun e w' => e = .returned (.tuple #[.int .i64 0, .int .i64 220]) ∧ w' = w := by
  have HK : Hid _ := known_no b T v w h
  go_enter Try.func51, Try.ntmps51
  go_wp2_with fail
  refine Calls.mono HK.out ?_
  rintro e w1 ⟨rfl, rfl⟩
  go_wp2_with fail
  exact bodyPost_ret (v := .tuple #[.int .i64 0, .int .i64 220]) (by simp [results, Try.results51, go_sem]) rfl ⟨rfl, rfl⟩

end Go.Proofs.Ytnjgolibmllhnaa

namespace Go.Proofs.Ytnjgolibmllhnaa
open Go.RowKit Go.Shelf

/-- Behind it: the cell is known, its rest is a new one that is not. -/
def ForcePost (q : Nat) (x : VT) (f b : Nat) (w : World) (e : Ending) (w' : World) : Prop :=
  KC (fun j => j = b) w w' ∧ e = .returned (.tuple #[.int .i64 (f : Int), .int .i64 0]) ∧ ∃ a1 c1 a2 c2 b', w.heap.size ≤ b' ∧ CB w' b .nilIface 0 x (.slice a1 x.items.length c1) (some ⟨b', 0, none⟩) ∧ CB w' b' (stepV q 1 x (.slice a2 x.items.length c2)) 0 zeroT (.slice none 0 0) none ∧ LiesX (fun n => w.heap.size ≤ n ∧ n ≠ b') 16 w' x.items (.slice a1 x.items.length c1) ∧ LiesX (fun n => w.heap.size ≤ n ∧ n ≠ b') 16 w' x.items (.slice a2 x.items.length c2)

set_option maxRecDepth 100000 in
set_option maxHeartbeats 8000000 in
theorem force_lazy (q m f b : Nat) (hq : q < 8) (hm : m ≤ 65536) (hf : f < 1073741824) (z : VT) (a : Option Addr) (c : Nat) (w : World) (h : CB w b (stepV q m z (.slice a z.items.length c)) 0 zeroT (.slice none 0 0) none) (hl : LiesX (fun n => n ≠ b) 16 w z.items (.slice a z.items.length c)) (hr : rightV 16 z = true) :
    Calls Try.prog 51 #[.pointer (some ⟨b, 0, none⟩), .int .i64 ((f + 1 : Nat) : Int)] w (ForcePost q (itT (doneT q) m z) f b w) := by
  obtain ⟨x, hx⟩ : ∃ x, x = itT (doneT q) m z := ⟨_, rfl⟩
  rw [← hx]
  have HKn : Hid (∀ V, V.cell? ⟨b, 0, none⟩ = some (stepV q m z (.slice a z.items.length c)) → Calls Try.prog 65 #[.pointer (some ⟨b, 0, none⟩)] V fun e w' => e = .returned (.bool false) ∧ w' = V) := fun V hV => known_no b _ _ V hV
  have hbw := h.lt
  have HCB : Hid (CB w b (stepV q m z (.slice a z.items.length c)) 0 zeroT (.slice none 0 0) none) := h
  obtain ⟨W1, hW1⟩ : ∃ W1, W1 = w.setCell ⟨b, 1, none⟩ (.int .i64 1) := ⟨_, rfl⟩
  have HW1 : Hid (W1 = w.setCell ⟨b, 1, none⟩ (.int .i64 1)) := hW1
  have hs1 : W1.heap.size = w.heap.size := by rw [hW1]; simp [World.setCell]
  have HC1 : Hid (CB W1 b (stepV q m z (.slice a z.items.length c)) 1 zeroT (.slice none 0 0) none) := by rw [hW1]; exact h.nest 1
  have HA : Hid (Calls Try.prog 66 #[stepV q m z (.slice a z.items.length c), .int .i64 (f : Int)] W1 (AskedPost q x f W1)) := by
    show Calls _ _ _ _ _
    rw [hx]
    refine asked_any q m f hq hm z a c W1 ?_ hr
    rw [hW1]
    exact (LiesX.set (g := b) (o := 1) (vs := [_]) (fun h => h rfl) hl).lies
  have Hs1 : Hid (W1.heap.size = w.heap.size ∧ b < w.heap.size) := ⟨hs1, hbw⟩
  have HKW : Hid (KC (fun j => j = b) w W1) := by rw [hW1]; exact KC.set (B := fun j => j = b) (KC.refl _ w) (.inl rfl) _
  have e1 : IntKind.i64.wrap (((f + 1 : Nat) : Int) - 1) = (f : Int) := by rw [IntKind.wrap_i64]; omega
  have e0 : (((f + 1 : Nat) : Int) == 0) = false := by simp; omega
  obtain ⟨k0, k1, k2, k3, k4, k5, k6, g0, g1, g2, g3, g4, g5, g6⟩ := h
  obtain ⟨F, hF⟩ : ∃ F : Int, F = ((f + 1 : Nat) : Int) := ⟨_, rfl⟩
  rw [← hF] at e1 e0 ⊢
  clear hF hl hr hx hs1 hbw hW1
  go_enter Try.func51, Try.ntmps51
  go_wp2_with fail
  refine Calls.mono (HKn.out _ k0) ?_
  rintro e w9 ⟨rfl, hw9⟩
  obtain rfl : w = w9 := hw9.symm
  clear hw9
  go_upto_region 6 with fail
  rw [← HW1.out]
  clear HW1 k0 k1 k2 k3 k4 k5 k6 g0 g1 g2 g3 g4 g5 g6
  obtain ⟨k0, k1, _, _, _, _, _, _, _, _, _, _, _, _⟩ := HC1.out
  go_wp2_with fail
  refine Calls.mono HA.out ?_
  rintro e w2 ⟨hg2, a1, c1, a2, c2, b', rfl, hb', hcb, hx1, hx2⟩
  have hs := Hs1.out
  obtain ⟨n6, hn6⟩ : ∃ n6, n6 = w2.heap.size := ⟨_, rfl⟩
  obtain ⟨W3, hW3⟩ : ∃ W3, W3 = w2.alloc (.cells #[.nilIface, .int .i64 0, .int .i64 x.kind, .int .i64 x.num, .string x.text, .slice a1 x.items.length c1, .pointer (some ⟨b', 0, none⟩)] 71) := ⟨_, rfl⟩
  have HW3 : Hid (W3 = w2.alloc (.cells #[.nilIface, .int .i64 0, .int .i64 x.kind, .int .i64 x.num, .string x.text, .slice a1 x.items.length c1, .pointer (some ⟨b', 0, none⟩)] 71)) := hW3
  have hal : Below w2.heap.size w2 W3 := by rw [hW3]; exact ((Grew.refl _).alloc _).below
  have hs3 := hal.size
  have hs12 := hg2.size
  have HF3 : Hid (CB W3 n6 .nilIface 0 x (.slice a1 x.items.length c1) (some ⟨b', 0, none⟩)) := by rw [hW3, hn6]; exact cb_alloc w2 71 .nilIface 0 x (.slice a1 x.items.length c1) (some ⟨b', 0, none⟩)
  have HC3 : Hid (CB W3 b (stepV q m z (.slice a z.items.length c)) 1 zeroT (.slice none 0 0) none) := (HC1.out.keeps hg2).keeps hal
  obtain ⟨W4, hW4⟩ : ∃ W4, W4 = W3.setCell ⟨b, 1, none⟩ (.int .i64 0) := ⟨_, rfl⟩
  have HW4 : Hid (W4 = W3.setCell ⟨b, 1, none⟩ (.int .i64 0)) := hW4
  have HC4 : Hid (CB W4 b (stepV q m z (.slice a z.items.length c)) 0 zeroT (.slice none 0 0) none) := by rw [hW4]; exact HC3.out.nest 0
  have hnb : n6 ≠ b := by omega
  have hbb : b' ≠ b := by omega
  have HF4 : Hid (CB W4 n6 .nilIface 0 x (.slice a1 x.items.length c1) (some ⟨b', 0, none⟩)) := by rw [hW4]; exact CB.other (g := b) (o := 1) HF3.out hnb [_]
  have HD4 : Hid (CB W4 b' (stepV q 1 x (.slice a2 x.items.length c2)) 0 zeroT (.slice none 0 0) none) := by rw [hW4]; exact CB.other (g := b) (o := 1) (hcb.keeps hal) hbb [_]
  have HX1 : Hid (LiesX (fun n => w.heap.size ≤ n ∧ n ≠ b') 16 W4 x.items (.slice a1 x.items.length c1)) := by
    rw [hW4]
    exact LiesX.mono (fun n hn => ⟨by omega, hn.2⟩) (LiesX.set (g := b) (o := 1) (vs := [_]) (by omega) (hx1.keeps hal))
  have HX2 : Hid (LiesX (fun n => w.heap.size ≤ n ∧ n ≠ b') 16 W4 x.items (.slice a2 x.items.length c2)) := by
    rw [hW4]
    exact LiesX.mono (fun n hn => ⟨by omega, hn.2⟩) (LiesX.set (g := b) (o := 1) (vs := [_]) (by omega) (hx2.keeps hal))
  have HK4 : Hid (KC (fun j => j = b) w W4) := by
    rw [hW4]
    exact KC.set (B := fun j => j = b) ((HKW.out.trans (KC.of_below hg2)).trans (KC.of_below hal)) (.inl rfl) _
  have HBB : Hid (w.heap.size ≤ b' ∧ b < w.heap.size ∧ b' ≠ b) := ⟨by omega, hs.2, hbb⟩
  clear hg2 hcb hx1 hx2 hal hs hs3 hs12 hb' HA HC1 hbb k0 k1 hW3 hW4
  obtain ⟨k0, k1, _, _, _, _, _, _, g1, _, _, _, _, _⟩ := HC3.out
  go_upto_region 7 with fail
  rw [← HW3.out, ← hn6]
  clear HW3 hn6
  go_upto_region 8 with fail
  rw [← HW4.out]
  clear HW4 k0 k1 g1 HC3 HF3
  obtain ⟨k0, k1, k2, k3, k4, k5, k6, g0, g1, g2, g3, g4, g5, g6⟩ := HC4.out
  obtain ⟨s0, s1, s2, s3, s4, s5, s6, _, _, _, _, _, _, _⟩ := HF4.out
  go_wp2_with fail
  refine Calls.mono (HKn.out _ k0) ?_
  rintro e w9 ⟨rfl, hw9⟩
  obtain rfl : W4 = w9 := hw9.symm
  clear hw9
  go_wp2_with fail
  go_region
  have hB := HBB.out
  have HE : Hid (ForcePost q x f b w (.returned (.tuple #[.int .i64 (f : Int), .int .i64 0])) ((((((W4.setCell ⟨b, 0, none⟩ .nilIface).setCell ⟨b, 2, none⟩ (.int .i64 x.kind)).setCell ⟨b, 3, none⟩ (.int .i64 x.num)).setCell ⟨b, 4, none⟩ (.string x.text)).setCell ⟨b, 5, none⟩ (.slice a1 x.items.length c1)).setCell ⟨b, 6, none⟩ (.pointer (some ⟨b', 0, none⟩))).drew) := by
    refine ⟨KC.drew (KC.set (B := fun j => j = b) (o := 6) (KC.set (B := fun j => j = b) (o := 5) (KC.set (B := fun j => j = b) (o := 4) (KC.set (B := fun j => j = b) (o := 3) (KC.set (B := fun j => j = b) (o := 2) (KC.set (B := fun j => j = b) (o := 0) HK4.out (.inl rfl) _) (.inl rfl) _) (.inl rfl) _) (.inl rfl) _) (.inl rfl) _) (.inl rfl) _), rfl, a1, c1, a2, c2, b', hB.1, ?_, ?_, ?_, ?_⟩
    · exact (HC4.out.turn x (.slice a1 x.items.length c1) (some ⟨b', 0, none⟩)).drew
    · exact CB.drew (CB.other (g := b) (o := 6) (CB.other (g := b) (o := 5) (CB.other (g := b) (o := 4) (CB.other (g := b) (o := 3) (CB.other (g := b) (o := 2) (CB.other (g := b) (o := 0) HD4.out hB.2.2 [_]) hB.2.2 [_]) hB.2.2 [_]) hB.2.2 [_]) hB.2.2 [_]) hB.2.2 [_])
    · exact LiesX.keeps (Below.refl _ _).drew (LiesX.set (g := b) (o := 6) (vs := [_]) (by omega) (LiesX.set (g := b) (o := 5) (vs := [_]) (by omega) (LiesX.set (g := b) (o := 4) (vs := [_]) (by omega) (LiesX.set (g := b) (o := 3) (vs := [_]) (by omega) (LiesX.set (g := b) (o := 2) (vs := [_]) (by omega) (LiesX.set (g := b) (o := 0) (vs := [_]) (by omega) HX1.out))))))
    · exact LiesX.keeps (Below.refl _ _).drew (LiesX.set (g := b) (o := 6) (vs := [_]) (by omega) (LiesX.set (g := b) (o := 5) (vs := [_]) (by omega) (LiesX.set (g := b) (o := 4) (vs := [_]) (by omega) (LiesX.set (g := b) (o := 3) (vs := [_]) (by omega) (LiesX.set (g := b) (o := 2) (vs := [_]) (by omega) (LiesX.set (g := b) (o := 0) (vs := [_]) (by omega) HX2.out))))))
  clear hB HBB HC4 HF4 HD4 HX1 HX2 HK4 HKn HKW Hs1 HCB k0 k1 k2 k3 k4 k5 k6 g0 g1 g2 g3 g4 g5 g6 s0 s1 s2 s3 s4 s5 s6
  go_wp2_with fail
  refine bodyPost_ret (v := .tuple #[.int .i64 (f : Int), .int .i64 0]) ?_ rfl HE.out
  simp [results, Try.results51, go_sem]

end Go.Proofs.Ytnjgolibmllhnaa

namespace Go.Proofs.Ytnjgolibmllhnaa
open Go.RowKit Go.Shelf

/-- The world in which the inner call is made. -/
abbrev zbox (w : World) : World := w.alloc (.cells #[.int .i64 0, .int .i64 0, .string ⟨#[]⟩, .slice none 0 0] 38)

theorem KC.trans2 {B C : Nat → Prop} {a b c : World} (k1 : KC B a b) (k2 : KC C b c) (h : ∀ j, j < a.heap.size → C j → B j) : KC B a c :=
  ⟨k2.os.trans k1.os, k2.tape.trans k1.tape, k2.output.trans k1.output, Nat.le_trans k1.size k2.size, fun j hj hn => (k2.block j (Nat.lt_of_lt_of_le hj k1.size) (fun hC => hn (h j hj hC))).trans (k1.block j hj hn)⟩

/-- What Force tells of a known cell. -/
def FPost (b : Nat) (x : VT) (left : Int) (P2 : World → Prop) (w : World) (e : Ending) (w' : World) : Prop :=
  ∃ w2 a c p, P2 w2 ∧ w2.cell? ⟨b, 6, none⟩ = some (.pointer p) ∧ KC (fun j => j = w.heap.size) w2 w' ∧ e = .returned (.tuple #[.agg #[.int .i64 x.kind, .int .i64 x.num, .string x.text, .slice a x.items.length c], .pointer p, .bool p.isSome, .int .i64 left, .int .i64 0]) ∧ LiesX (fun n => w2.heap.size ≤ n) 16 w' x.items (.slice a x.items.length c)

set_option maxRecDepth 100000 in
set_option maxHeartbeats 8000000 in
theorem Force_any (cv : Option Addr) (W1 : World) (b f : Nat) (left : Int) (hf : f ≤ 1073741824) (x : VT) (P2 : World → Prop) (w : World)
    (ho : Calls Try.prog 34 #[.pointer cv] (zbox w) fun e w' => e = .returned (.pointer (some ⟨b, 0, none⟩)) ∧ w' = W1)
    (h : Calls Try.prog 51 #[.pointer (some ⟨b, 0, none⟩), .int .i64 (f : Int)] W1 fun e w2 => e = .returned (.tuple #[.int .i64 left, .int .i64 0]) ∧ P2 w2)
    (h2 : ∀ w2, P2 w2 → Bx w2 w.heap.size zeroT (.slice none 0 0) ∧ (∃ a c p, CB w2 b .nilIface 0 x (.slice a x.items.length c) p ∧ Lies 16 w2 x.items (.slice a x.items.length c)) ∧ b ≠ w.heap.size) (hr : rightV 16 x = true) :
    Calls Try.prog 39 #[.pointer cv, .int .i64 (f : Int)] w (FPost b x left P2 w) := by
  have HF : Hid (Calls Try.prog 51 #[.pointer (some ⟨b, 0, none⟩), .int .i64 (f : Int)] W1 fun e w2 => e = .returned (.tuple #[.int .i64 left, .int .i64 0]) ∧ P2 w2) := h
  have H2 : Hid _ := h2
  have HCf : Hid (∀ V, Calls Try.prog 50 #[.int .i64 (f : Int)] V fun e w' => e = .returned (.int .i64 0) ∧ w' = V) := fun V => checkFuel_ok f hf V
  have HOw : Hid (Calls Try.prog 34 #[.pointer cv] (zbox w) fun e w' => e = .returned (.pointer (some ⟨b, 0, none⟩)) ∧ w' = W1) := ho
  obtain ⟨W0, hW0⟩ : ∃ W0, W0 = zbox w := ⟨_, rfl⟩
  have HW0 : Hid (W0 = w.alloc (.cells #[.int .i64 0, .int .i64 0, .string ⟨#[]⟩, .slice none 0 0] 38)) := hW0
  rw [← hW0] at HOw
  clear hW0 h h2 hf ho
  go_enter Try.func39, Try.ntmps39
  go_upto_region 1 with fail
  rw [← HW0.out]
  clear HW0
  go_wp2_with fail
  refine Calls.mono (HCf.out _) ?_
  rintro e w9 ⟨rfl, hw9⟩
  obtain rfl : W0 = w9 := hw9.symm
  clear hw9 HCf
  go_wp2_with fail
  refine Calls.mono HOw.out ?_
  rintro e w9 ⟨rfl, hw9⟩
  obtain rfl : W1 = w9 := hw9.symm
  clear hw9 HOw
  go_wp2_with fail
  refine Calls.mono HF.out ?_
  rintro e w2 ⟨rfl, hP⟩
  obtain ⟨hbx, ⟨a, c, p, hcb, hl⟩, hbn⟩ := H2.out w2 hP
  have H6 : Hid (w2.cell? ⟨b, 6, none⟩ = some (.pointer p)) := hcb.c6
  have HP : Hid (P2 w2) := hP
  have HCp : Hid (∀ V, Below w2.heap.size w2 V → Calls Try.prog 33 #[.agg #[.int .i64 x.kind, .int .i64 x.num, .string x.text, .slice a x.items.length c]] V (CopyPost 16 x V)) := fun V hV => copy_right x _ V (Lies.keeps hV _ _ _ hl) hr
  have HB : Hid (Bx w2 w.heap.size zeroT (.slice none 0 0)) := hbx
  obtain ⟨_, _, k2, k3, k4, k5, k6, _, _, _, _, _, _, _⟩ := hcb
  obtain ⟨z0, z1, z2, z3, g0, g1, g2, g3⟩ := hbx
  have hlz : w.heap.size < w2.heap.size := by have h9 := cell_lt z0; simpa using h9
  clear HF H2 hP hl hr W0 W1
  cases p with
  | none =>
    go_wp2_with fail
    go_region_held3 (fun w' => w'.cell? ⟨b, 2, none⟩ = some (.int .i64 x.kind) ∧ w'.cell? ⟨b, 3, none⟩ = some (.int .i64 x.num) ∧ w'.cell? ⟨b, 4, none⟩ = some (.string x.text) ∧ w'.cell? ⟨b, 5, none⟩ = some (.slice a x.items.length c) ∧ w'.cell? ⟨b, 6, none⟩ = some (.pointer none)) (first | (go_keep; done) | (with_reducible exact ⟨set4_k22 hbn k2, set4_k22 hbn k3, set4_k22 hbn k4, set4_k22 hbn k5, set4_k22 hbn k6⟩))
      (first | (go_at_call 33; (with_reducible refine Calls.mono (HCp.out _ ?_) ?_); (first | exact Below.refl _ _ | exact (Below.refl _ _).drew); rintro e w3 ⟨u3, rfl, hl3, hg3'⟩; obtain ⟨a1, c1, rfl, _⟩ := LiesB.slice hl3; have hg3 : Below w2.heap.size w2 w3 := (by first | exact hg3' | exact (Below.refl _ _).drew.trans hg3'); have HL3 : Hid (LiesB w2.heap.size 16 w3 x.items (.slice a1 x.items.length c1)) := hl3; clear hg3' hl3; have k2 := cell_keeps hg3 k2; have k3 := cell_keeps hg3 k3; have k4 := cell_keeps hg3 k4; have k5 := cell_keeps hg3 k5; have k6 := cell_keeps hg3 k6; have z0 := cell_keeps hg3 z0; have z1 := cell_keeps hg3 z1; have z2 := cell_keeps hg3 z2; have z3 := cell_keeps hg3 z3; have g0 := (hg3.frozen (p := ⟨w.heap.size, 0, none⟩) hlz).trans g0; have g1 := (hg3.frozen (p := ⟨w.heap.size, 1, none⟩) hlz).trans g1; have g2 := (hg3.frozen (p := ⟨w.heap.size, 2, none⟩) hlz).trans g2; have g3 := (hg3.frozen (p := ⟨w.heap.size, 3, none⟩) hlz).trans g3))
    have HE : Hid (FPost b x left P2 w (.returned (.tuple #[.agg #[.int .i64 x.kind, .int .i64 x.num, .string x.text, .slice a1 x.items.length c1], .pointer none, .bool false, .int .i64 left, .int .i64 0])) (w3.setCells w.heap.size 0 (encP (x, .slice a1 x.items.length c1)))) := by
      refine ⟨w2, a1, c1, _, HP.out, H6.out, ?_, rfl, ?_⟩
      · exact KC.set (B := fun j => j = w.heap.size) (o := 0 + 1 + 1 + 1) (KC.set (B := fun j => j = w.heap.size) (o := 0 + 1 + 1) (KC.set (B := fun j => j = w.heap.size) (o := 0 + 1) (KC.set (B := fun j => j = w.heap.size) (o := 0) (KC.of_below hg3) (.inl rfl) _) (.inl rfl) _) (.inl rfl) _) (.inl rfl) _
      · exact LiesX.set (g := w.heap.size) (by omega) (LiesX.of_b HL3.out)
    have Hq : Hid (Bx (w3.setCells w.heap.size 0 (encP (x, .slice a1 x.items.length c1))) w.heap.size x (.slice a1 x.items.length c1)) := Bx.put (⟨z0, z1, z2, z3, g0, g1, g2, g3⟩ : Bx w3 w.heap.size zeroT (.slice none 0 0)) (x, .slice a1 x.items.length c1)
    clear HL3 HP HB HCp H6 hg3 k2 k3 k4 k5 k6 z0 z1 z2 z3 g0 g1 g2 g3
    go_wp2_with fail
    refine bodyPost_ret (v := .tuple #[.agg #[.int .i64 x.kind, .int .i64 x.num, .string x.text, .slice a1 x.items.length c1], .pointer none, .bool false, .int .i64 left, .int .i64 0]) ?_ rfl HE.out
    obtain ⟨q0, q1, q2, q3, _, _, _, _⟩ := Hq.out
    simp only [World.setCells, encP, Nat.zero_add, Nat.reduceAdd] at q0 q1 q2 q3
    simp [results, Try.results39, go_sem, q0, q1, q2, q3]
  | some pp =>
    go_wp2_with fail
    go_region_held3 (fun w' => w'.cell? ⟨b, 2, none⟩ = some (.int .i64 x.kind) ∧ w'.cell? ⟨b, 3, none⟩ = some (.int .i64 x.num) ∧ w'.cell? ⟨b, 4, none⟩ = some (.string x.text) ∧ w'.cell? ⟨b, 5, none⟩ = some (.slice a x.items.length c) ∧ w'.cell? ⟨b, 6, none⟩ = some (.pointer (some pp))) (first | (go_keep; done) | (with_reducible exact ⟨set4_k22 hbn k2, set4_k22 hbn k3, set4_k22 hbn k4, set4_k22 hbn k5, set4_k22 hbn k6⟩))
      (first | (go_at_call 33; (with_reducible refine Calls.mono (HCp.out _ ?_) ?_); (first | exact Below.refl _ _ | exact (Below.refl _ _).drew); rintro e w3 ⟨u3, rfl, hl3, hg3'⟩; obtain ⟨a1, c1, rfl, _⟩ := LiesB.slice hl3; have hg3 : Below w2.heap.size w2 w3 := (by first | exact hg3' | exact (Below.refl _ _).drew.trans hg3'); have HL3 : Hid (LiesB w2.heap.size 16 w3 x.items (.slice a1 x.items.length c1)) := hl3; clear hg3' hl3; have k2 := cell_keeps hg3 k2; have k3 := cell_keeps hg3 k3; have k4 := cell_keeps hg3 k4; have k5 := cell_keeps hg3 k5; have k6 := cell_keeps hg3 k6; have z0 := cell_keeps hg3 z0; have z1 := cell_keeps hg3 z1; have z2 := cell_keeps hg3 z2; have z3 := cell_keeps hg3 z3; have g0 := (hg3.frozen (p := ⟨w.heap.size, 0, none⟩) hlz).trans g0; have g1 := (hg3.frozen (p := ⟨w.heap.size, 1, none⟩) hlz).trans g1; have g2 := (hg3.frozen (p := ⟨w.heap.size, 2, none⟩) hlz).trans g2; have g3 := (hg3.frozen (p := ⟨w.heap.size, 3, none⟩) hlz).trans g3))
    have HE : Hid (FPost b x left P2 w (.returned (.tuple #[.agg #[.int .i64 x.kind, .int .i64 x.num, .string x.text, .slice a1 x.items.length c1], .pointer (some pp), .bool true, .int .i64 left, .int .i64 0])) (w3.setCells w.heap.size 0 (encP (x, .slice a1 x.items.length c1)))) := by
      refine ⟨w2, a1, c1, _, HP.out, H6.out, ?_, rfl, ?_⟩
      · exact KC.set (B := fun j => j = w.heap.size) (o := 0 + 1 + 1 + 1) (KC.set (B := fun j => j = w.heap.size) (o := 0 + 1 + 1) (KC.set (B := fun j => j = w.heap.size) (o := 0 + 1) (KC.set (B := fun j => j = w.heap.size) (o := 0) (KC.of_below hg3) (.inl rfl) _) (.inl rfl) _) (.inl rfl) _) (.inl rfl) _
      · exact LiesX.set (g := w.heap.size) (by omega) (LiesX.of_b HL3.out)
    have Hq : Hid (Bx (w3.setCells w.heap.size 0 (encP (x, .slice a1 x.items.length c1))) w.heap.size x (.slice a1 x.items.length c1)) := Bx.put (⟨z0, z1, z2, z3, g0, g1, g2, g3⟩ : Bx w3 w.heap.size zeroT (.slice none 0 0)) (x, .slice a1 x.items.length c1)
    clear HL3 HP HB HCp H6 hg3 k2 k3 k4 k5 k6 z0 z1 z2 z3 g0 g1 g2 g3
    go_wp2_with fail
    refine bodyPost_ret (v := .tuple #[.agg #[.int .i64 x.kind, .int .i64 x.num, .string x.text, .slice a1 x.items.length c1], .pointer (some pp), .bool true, .int .i64 left, .int .i64 0]) ?_ rfl HE.out
    obtain ⟨q0, q1, q2, q3, _, _, _, _⟩ := Hq.out
    simp only [World.setCells, encP, Nat.zero_add, Nat.reduceAdd] at q0 q1 q2 q3
    simp [results, Try.results39, go_sem, q0, q1, q2, q3]

theorem Force_core (b f : Nat) (left : Int) (hf : f ≤ 1073741824) (x : VT) (P2 : World → Prop) (w : World)
    (h : Calls Try.prog 51 #[.pointer (some ⟨b, 0, none⟩), .int .i64 (f : Int)] (zbox w) fun e w2 => e = .returned (.tuple #[.int .i64 left, .int .i64 0]) ∧ P2 w2)
    (h2 : ∀ w2, P2 w2 → Bx w2 w.heap.size zeroT (.slice none 0 0) ∧ (∃ a c p, CB w2 b .nilIface 0 x (.slice a x.items.length c) p ∧ Lies 16 w2 x.items (.slice a x.items.length c)) ∧ b ≠ w.heap.size) (hr : rightV 16 x = true) :
    Calls Try.prog 39 #[.pointer (some ⟨b, 0, none⟩), .int .i64 (f : Int)] w (FPost b x left P2 w) :=
  Force_any _ _ b f left hf x P2 w (own_some22 b _) h h2 hr

/-- Of nothing, Force tells nothing, and the fuel. -/
def FNil (left E : Int) (w : World) (e : Ending) (w' : World) : Prop := ∃ a c, e = .returned (.tuple #[.agg #[.int .i64 0, .int .i64 0, .string ⟨#[]⟩, .slice a 0 c], .pointer none, .bool false, .int .i64 left, .int .i64 E]) ∧ Below w.heap.size w w'

theorem lies_z22 (w : World) : Lies 16 w [] (.slice none 0 0) := ⟨none, 0, rfl, by simp, fun h => absurd rfl h⟩

theorem zbox_bx (w : World) : Bx (zbox w) w.heap.size zeroT (.slice none 0 0) := bx_alloc w zeroT (.slice none 0 0)
theorem zbox_below (w : World) : Below w.heap.size w (zbox w) := ((Grew.refl w).alloc _).below
theorem zbox_size (w : World) : (zbox w).heap.size = w.heap.size + 1 := World.size_alloc w _

/-- An empty cell, known. -/
theorem Force_empty (b f : Nat) (hf : f ≤ 1073741824) (w : World) (h : CB w b .nilIface 0 zeroT (.slice none 0 0) none) : Calls Try.prog 39 #[.pointer (some ⟨b, 0, none⟩), .int .i64 (f : Int)] w (FNil f 0 w) := by
  have hz := h.keeps (zbox_below w)
  have hbl := h.lt
  refine Calls.mono (Force_core b f f hf zeroT (fun w2 => w2 = zbox w) w (force_known b f (zbox w) hz.c0) ?_ nil_right) ?_
  · rintro w2 rfl
    exact ⟨zbox_bx w, ⟨none, 0, none, hz, lies_z22 _⟩, by omega⟩
  · rintro e w' ⟨w2, a, c, p, rfl, h6, hk, rfl, hl⟩
    obtain rfl : p = none := by rw [hz.c6] at h6; simpa using h6.symm
    have hb : Below w.heap.size w w' := (zbox_below w).trans (hk.below (fun j hj => by omega) (zbox_below w).size)
    exact ⟨a, c, rfl, hb⟩

set_option maxRecDepth 100000 in
set_option maxHeartbeats 8000000 in
theorem Force_dry (b T : Nat) (v : Value) (w : World) (h : w.cell? ⟨b, 0, none⟩ = some (.iface T v)) : Calls Try.prog 39 #[.pointer (some ⟨b, 0, none⟩), .int .i64 0] w (FNil 0 220 w) := by
  have HCf : Hid (∀ V, Calls Try.prog 50 #[.int .i64 0] V fun e w' => e = .returned (.int .i64 0) ∧ w' = V) := fun V => checkFuel_ok 0 (by omega) V
  have HOw : Hid (∀ V, Calls Try.prog 34 #[.pointer (some ⟨b, 0, none⟩)] V fun e w' => e = .returned (.pointer (some ⟨b, 0, none⟩)) ∧ w' = V) := own_some22 b
  obtain ⟨W0, hW0⟩ : ∃ W0, W0 = zbox w := ⟨_, rfl⟩
  have HW0 : Hid (W0 = w.alloc (.cells #[.int .i64 0, .int .i64 0, .string ⟨#[]⟩, .slice none 0 0] 38)) := hW0
  have hb0 : Below w.heap.size w W0 := by rw [hW0]; exact zbox_below w
  have HFo : Hid (Calls Try.prog 51 #[.pointer (some ⟨b, 0, none⟩), .int .i64 0] W0 fun e w' => e = .returned (.tuple #[.int .i64 0, .int .i64 220]) ∧ w' = W0) := force_dry b T v W0 (cell_keeps hb0 h)
  have HZ : Hid (Bx W0 w.heap.size zeroT (.slice none 0 0)) := by rw [hW0]; exact zbox_bx w
  have HE : Hid (FNil 0 220 w (.returned (.tuple #[.agg #[.int .i64 0, .int .i64 0, .string ⟨#[]⟩, .slice none 0 0], .pointer none, .bool false, .int .i64 0, .int .i64 220])) (W0.setCells w.heap.size 0 (encP (zeroT, .slice none 0 0)))) := ⟨none, 0, rfl, (((hb0.setCell (p := ⟨w.heap.size, 0, none⟩) (by simp) _).setCell (p := ⟨w.heap.size, 0 + 1, none⟩) (by simp) _).setCell (p := ⟨w.heap.size, 0 + 1 + 1, none⟩) (by simp) _).setCell (p := ⟨w.heap.size, 0 + 1 + 1 + 1, none⟩) (by simp) _⟩
  have Hq : Hid (Bx (W0.setCells w.heap.size 0 (encP (zeroT, .slice none 0 0))) w.heap.size zeroT (.slice none 0 0)) := HZ.out.put (zeroT, .slice none 0 0)
  obtain ⟨z0, z1, z2, z3, g0, g1, g2, g3⟩ := HZ.out
  clear hW0 hb0 h
  go_enter Try.func39, Try.ntmps39
  go_upto_region 1 with fail
  rw [← HW0.out]
  clear HW0
  go_wp2_with fail
  refine Calls.mono (HCf.out _) ?_
  rintro e w9 ⟨rfl, hw9⟩
  obtain rfl : W0 = w9 := hw9.symm
  clear hw9 HCf
  go_wp2_with fail
  refine Calls.mono (HOw.out _) ?_
  rintro e w9 ⟨rfl, hw9⟩
  obtain rfl : W0 = w9 := hw9.symm
  clear hw9 HOw
  go_wp2_with fail
  refine Calls.mono HFo.out ?_
  rintro e w9 ⟨rfl, hw9⟩
  obtain rfl : W0 = w9 := hw9.symm
  clear hw9 HFo
  go_wp2_with fail
  refine bodyPost_ret (v := .tuple #[.agg #[.int .i64 0, .int .i64 0, .string ⟨#[]⟩, .slice none 0 0], .pointer none, .bool false, .int .i64 0, .int .i64 220]) ?_ rfl HE.out
  obtain ⟨q0, q1, q2, q3, _, _, _, _⟩ := Hq.out
  simp only [World.setCells, encP, Nat.zero_add, Nat.reduceAdd] at q0 q1 q2 q3
  simp [results, Try.results39, go_sem, q0, q1, q2, q3]

end Go.Proofs.Ytnjgolibmllhnaa

namespace Go.Proofs.Ytnjgolibmllhnaa
open Go.RowKit Go.Shelf

/-- What Iter tells: an error, or a new cell that is not known. -/
def IterPost (E : Int) (q : Nat) (v : VT) (w : World) (e : Ending) (w' : World) : Prop :=
  Below w.heap.size w w' ∧ ((E ≠ 0 ∧ e = .returned (.tuple #[.pointer none, .int .i64 E])) ∨ (E = 0 ∧ ∃ a c b, e = .returned (.tuple #[.pointer (some ⟨b, 0, none⟩), .int .i64 0]) ∧ w.heap.size ≤ b ∧ CB w' b (stepV q 0 v (.slice a v.items.length c)) 0 zeroT (.slice none 0 0) none ∧ LiesX (fun n => w.heap.size ≤ n ∧ n ≠ b) 16 w' v.items (.slice a v.items.length c)))

set_option maxRecDepth 100000 in
set_option maxHeartbeats 8000000 in
theorem iter_any (d : Nat) (o : Int) (v : VT) (u : Value) (w : World) (hu : Lies d w v.items u) (hs : v.text.size ≤ 9223372036854775807) :
    Calls Try.prog 20 #[.int .i64 o, .agg #[.int .i64 v.kind, .int .i64 v.num, .string v.text, u]] w (IterPost (timesE d o 0 v) o.toNat v w) := by
  obtain ⟨au, cu, rfl, _⟩ := Lies.slice hu
  obtain ⟨E, hE⟩ : ∃ E, E = timesE d o 0 v := ⟨_, rfl⟩
  have HT : Hid (∀ V, Below w.heap.size w V → Calls Try.prog 37 #[.int .i64 o, .int .i64 0, .agg #[.int .i64 v.kind, .int .i64 v.num, .string v.text, .slice au v.items.length cu]] V (VPost (if E = 0 then v else nilT) E V)) := fun V hV => by
    have h9 := times_any d o 0 v _ V (Lies.keeps hV _ _ _ hu) hs
    rw [← hE] at h9
    have e9 : timesT d o 0 v = (if E = 0 then v else nilT) := by unfold timesT; rw [← hE]; rfl
    rw [e9] at h9
    exact h9
  have HO : Hid (E = 0 → o = ((o.toNat : Nat) : Int)) := fun h => by
    rw [h] at hE
    unfold timesE at hE
    by_cases hq : o < 0 ∨ 8 ≤ o
    · rw [if_pos hq] at hE; cases hE
    · omega
  have HLt : Hid (∀ (T : Nat) (v : Value) V, _) := later_any
  rw [← hE]
  obtain ⟨q, hq⟩ : ∃ q, q = o.toNat := ⟨_, rfl⟩
  rw [← hq] at HO ⊢
  have HK0 : Hid (Bx (w.alloc (.cells #[.int .i64 v.kind, .int .i64 v.num, .string v.text, .slice au v.items.length cu] 38)) w.heap.size v (.slice au v.items.length cu)) := bx_alloc _ _ _
  have hb0 : Below w.heap.size w (w.alloc (.cells #[.int .i64 v.kind, .int .i64 v.num, .string v.text, .slice au v.items.length cu] 38)) := ((Grew.refl w).alloc _).below
  clear hu hs hE hq
  go_enter Try.func20, Try.ntmps20
  go_wp2_with fail
  refine Calls.mono (HT.out _ hb0) ?_
  rintro e w1 ⟨u1, rfl, hlx, hg1⟩
  have hb1 : Below w.heap.size w w1 := hb0.trans (hg1.mono hb0.size)
  obtain ⟨N0, hN0⟩ : ∃ N0, N0 = (w.alloc (.cells #[.int .i64 v.kind, .int .i64 v.num, .string v.text, .slice au v.items.length cu] 38)).heap.size := ⟨_, rfl⟩
  have hN1 : w.heap.size ≤ N0 := by rw [hN0]; exact hb0.size
  rw [← hN0] at hlx
  by_cases h0 : E = 0
  · subst h0
    have hoq := HO.out rfl
    simp only [if_true] at hlx ⊢
    obtain ⟨a1, c1, rfl, _⟩ := LiesX.slice hlx
    obtain ⟨n6, hn6⟩ : ∃ n6, n6 = w1.heap.size := ⟨_, rfl⟩
    obtain ⟨W2, hW2⟩ : ∃ W2, W2 = w1.alloc (.cells #[.int .i64 v.kind, .int .i64 v.num, .string v.text, .slice a1 v.items.length c1] 38) := ⟨_, rfl⟩
    have HW2 : Hid (W2 = w1.alloc (.cells #[.int .i64 v.kind, .int .i64 v.num, .string v.text, .slice a1 v.items.length c1] 38)) := hW2
    have hal : Below w1.heap.size w1 W2 := by rw [hW2]; exact ((Grew.refl _).alloc _).below
    have HB6 : Hid (Bx W2 n6 v (.slice a1 v.items.length c1)) := by rw [hW2, hn6]; exact bx_alloc _ _ _
    obtain ⟨y0, y1, y2, y3, _, _, _, _⟩ := HB6.out
    have HLX : Hid (LiesX (fun n => N0 ≤ n ∧ n < W2.heap.size) 16 W2 v.items (.slice a1 v.items.length c1)) := (hlx.keeps hal).both
    have HH : Hid (Below w.heap.size w W2 ∧ w.heap.size ≤ N0) := ⟨hb1.trans (hal.mono hb1.size), hN1⟩
    subst hoq
    clear hN0 hN1 hlx hg1 hb1 hal hW2 hb0 HK0 HT HO
    go_upto_region 2 with fail
    rw [← HW2.out, ← hn6]
    clear HW2 hn6
    go_wp2_with fail
    refine Calls.mono (HLt.out _ _ _) ?_
    rintro e w3 ⟨rfl, hw3⟩
    have hcb : CB w3 W2.heap.size (stepV q 0 v (.slice a1 v.items.length c1)) 0 zeroT (.slice none 0 0) none := by rw [hw3]; exact cb_alloc W2 71 (stepV q 0 v (.slice a1 v.items.length c1)) 0 zeroT (.slice none 0 0) none
    have hg3 : Below W2.heap.size W2 w3 := by rw [hw3]; exact ((Grew.refl _).alloc _).below
    have HE : Hid (IterPost 0 q v w (.returned (.tuple #[.pointer (some ⟨W2.heap.size, 0, none⟩), .int .i64 0])) w3) := by
      have hh := HH.out
      exact ⟨hh.1.trans (hg3.mono hh.1.size), .inr ⟨rfl, a1, c1, W2.heap.size, rfl, hh.1.size, hcb, LiesX.mono (fun n hn => ⟨by omega, by omega⟩) (HLX.out.keeps hg3)⟩⟩
    clear hcb hg3 hw3 HLX HH HLt HB6 y0 y1 y2 y3
    go_wp2_with fail
    refine bodyPost_ret (v := .tuple #[.pointer (some ⟨W2.heap.size, 0, none⟩), .int .i64 0]) ?_ rfl HE.out
    simp [results, Try.results20, go_sem]
  · have hne : (E != 0) = true := by simp [h0]
    simp only [h0, if_false] at hlx ⊢
    obtain ⟨a1, c1, rfl, _⟩ := LiesX.slice hlx
    have HE : Hid (∀ A, IterPost E q v w (.returned (.tuple #[.pointer none, .int .i64 E])) (w1.alloc A)) := fun A => ⟨hb1.trans (((Grew.refl w1).alloc A).below.mono hb1.size), .inl ⟨h0, rfl⟩⟩
    clear hN0 hN1 hlx hg1 hb1 hb0 HK0 HT HO
    go_wp2_with fail
    refine bodyPost_ret (v := .tuple #[.pointer none, .int .i64 E]) ?_ rfl (HE.out _)
    simp [results, Try.results20, go_sem]

end Go.Proofs.Ytnjgolibmllhnaa

namespace Go.Proofs.Ytnjgolibmllhnaa
open Go.RowKit Go.Shelf

/-- Behind Force of a cell of Iter that was not known. -/
def LPost (q : Nat) (x : VT) (f b : Nat) (w : World) (e : Ending) (w' : World) : Prop :=
  ∃ a c b' a1 c1 a2 c2, e = .returned (.tuple #[.agg #[.int .i64 x.kind, .int .i64 x.num, .string x.text, .slice a x.items.length c], .pointer (some ⟨b', 0, none⟩), .bool true, .int .i64 (f : Int), .int .i64 0]) ∧ KC (fun j => j = b) w w' ∧ w.heap.size ≤ b' ∧ CB w' b .nilIface 0 x (.slice a1 x.items.length c1) (some ⟨b', 0, none⟩) ∧ CB w' b' (stepV q 1 x (.slice a2 x.items.length c2)) 0 zeroT (.slice none 0 0) none ∧ LiesX (fun n => w.heap.size ≤ n ∧ n ≠ b') 16 w' x.items (.slice a1 x.items.length c1) ∧ LiesX (fun n => w.heap.size ≤ n ∧ n ≠ b') 16 w' x.items (.slice a2 x.items.length c2) ∧ LiesX (fun n => w.heap.size ≤ n ∧ n ≠ b') 16 w' x.items (.slice a x.items.length c)

theorem Force_lazy (q m f b : Nat) (hq : q < 8) (hm : m ≤ 65536) (hf : f < 1073741824) (z : VT) (a : Option Addr) (c : Nat) (w : World) (h : CB w b (stepV q m z (.slice a z.items.length c)) 0 zeroT (.slice none 0 0) none) (hl : LiesX (fun n => n ≠ b) 16 w z.items (.slice a z.items.length c)) (hr : rightV 16 z = true) :
    Calls Try.prog 39 #[.pointer (some ⟨b, 0, none⟩), .int .i64 ((f + 1 : Nat) : Int)] w (LPost q (itT (doneT q) m z) f b w) := by
  have hzb := zbox_below w
  have hzs := zbox_size w
  have hbl := h.lt
  have hx := it_right q hr (Dp.of_lies 16 w z _ hl.lies) m
  generalize hxx : itT (doneT q) m z = x at hx ⊢
  have h1 := force_lazy q m f b hq hm hf z a c (zbox w) (h.keeps hzb) (hl.keeps hzb) hr
  rw [hxx] at h1
  have hb0 : b ≠ w.heap.size := by omega
  refine Calls.mono (Force_core b (f + 1) f (by omega) x (fun w2 => KC (fun j => j = b) (zbox w) w2 ∧ ∃ a1 c1 a2 c2 b', (zbox w).heap.size ≤ b' ∧ CB w2 b .nilIface 0 x (.slice a1 x.items.length c1) (some ⟨b', 0, none⟩) ∧ CB w2 b' (stepV q 1 x (.slice a2 x.items.length c2)) 0 zeroT (.slice none 0 0) none ∧ LiesX (fun n => (zbox w).heap.size ≤ n ∧ n ≠ b') 16 w2 x.items (.slice a1 x.items.length c1) ∧ LiesX (fun n => (zbox w).heap.size ≤ n ∧ n ≠ b') 16 w2 x.items (.slice a2 x.items.length c2)) w (Calls.mono h1 fun e w2 hp => ⟨hp.2.1, hp.1, hp.2.2⟩) ?_ hx.1) ?_
  · rintro w2 ⟨hk, a1, c1, a2, c2, b', hb', hcb, _, hx1, _⟩
    exact ⟨hk.bx (fun e => hb0 e.symm) (zbox_bx w), ⟨a1, c1, _, hcb, hx1.lies⟩, hb0⟩
  · rintro e w' ⟨w2, a3, c3, p, ⟨hk, a1, c1, a2, c2, b', hb', hcb, hcb', hx1, hx2⟩, h6, hk2, rfl, hx3⟩
    obtain rfl : p = some ⟨b', 0, none⟩ := by rw [hcb.c6] at h6; simpa using h6.symm
    have hs2 := hk.size
    have hbb := hcb'.lt
    have hkk : KC (fun j => j = b) w w' := ((KC.of_below hzb).trans2 hk (fun _ _ h => h)).trans2 hk2 (fun j hj h => by omega)
    refine ⟨a3, c3, b', a1, c1, a2, c2, rfl, hkk, by omega, hk2.cb hb0 hcb, hk2.cb (by omega) hcb', ?_, ?_, ?_⟩
    · exact LiesX.mono (fun n hn => ⟨by omega, hn.2⟩) (hk2.liesX (fun n hn => by omega) hx1)
    · exact LiesX.mono (fun n hn => ⟨by omega, hn.2⟩) (hk2.liesX (fun n hn => by omega) hx2)
    · exact LiesX.mono (fun n hn => ⟨by omega, by omega⟩) hx3

/-- A known cell that is not empty. -/
def KPost (x : VT) (p : Option Addr) (f : Int) (w : World) (e : Ending) (w' : World) : Prop :=
  ∃ a c, e = .returned (.tuple #[.agg #[.int .i64 x.kind, .int .i64 x.num, .string x.text, .slice a x.items.length c], .pointer p, .bool p.isSome, .int .i64 f, .int .i64 0]) ∧ Below w.heap.size w w' ∧ LiesX (fun n => w.heap.size ≤ n) 16 w' x.items (.slice a x.items.length c)

theorem Force_known (b f : Nat) (hf : f ≤ 1073741824) (x : VT) (a : Option Addr) (c : Nat) (p : Option Addr) (w : World) (h : CB w b .nilIface 0 x (.slice a x.items.length c) p) (hl : Lies 16 w x.items (.slice a x.items.length c)) (hr : rightV 16 x = true) :
    Calls Try.prog 39 #[.pointer (some ⟨b, 0, none⟩), .int .i64 (f : Int)] w (KPost x p f w) := by
  have hzb := zbox_below w
  have hzs := zbox_size w
  have hbl := h.lt
  refine Calls.mono (Force_core b f f hf x (fun w2 => w2 = zbox w) w (force_known b f (zbox w) (h.keeps hzb).c0) ?_ hr) ?_
  · rintro w2 rfl
    exact ⟨zbox_bx w, ⟨a, c, p, h.keeps hzb, Lies.keeps hzb _ _ _ hl⟩, by omega⟩
  · rintro e w' ⟨w2, a1, c1, p', rfl, h6, hk, rfl, hx⟩
    obtain rfl : p' = p := by rw [(h.keeps hzb).c6] at h6; simpa using h6.symm
    exact ⟨a1, c1, rfl, hzb.trans (hk.below (fun j hj => by omega) hzb.size), LiesX.mono (fun n hn => by omega) hx⟩

end Go.Proofs.Ytnjgolibmllhnaa

namespace Go.Proofs.Ytnjgolibmllhnaa
open Go.RowKit Go.Shelf

abbrev nil0 : VT := ⟨2, 0, ⟨#[]⟩, []⟩

theorem nil0_err : timesE 16 1 0 nil0 = 0 := by kernel_rfl
theorem nil0_right : rightV 16 nil0 = true := by kernel_rfl

end Go.Proofs.Ytnjgolibmllhnaa

