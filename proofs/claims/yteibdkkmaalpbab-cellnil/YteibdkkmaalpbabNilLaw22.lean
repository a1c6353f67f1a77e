/-
  CellNil.
-/
import Derived.Test.YteibdkkmaalpbabKnownM
import Derived.Test.YteibdkkmaalpbabUtf
namespace Go.Proofs.Yteibdkkmaalpbab
open Go.RowKit Go.Shelf

/-- Behind Force of a cell of Iter that was not known. -/
def LPost (q : Nat) (x : VT) (f b : Nat) (w : World) (e : Ending) (w' : World) : Prop :=
  ∃ a c b' a1 c1 a2 c2, e = .returned (.tuple #[.agg #[.int .i64 x.kind, .int .i64 x.num, .string x.text, .slice a x.items.length c], .pointer (some ⟨b', 0, none⟩), .bool true, .int .i64 (f : Int), .int .i64 0]) ∧ KC (fun j => j = b) w w' ∧ w.heap.size ≤ b' ∧ CB w' b .nilIface 0 x (.slice a1 x.items.length c1) (some ⟨b', 0, none⟩) ∧ CB w' b' (stepV q 1 x (.slice a2 x.items.length c2)) 0 zeroT (.slice none 0 0) none ∧ LiesX (fun n => w.heap.size ≤ n ∧ n ≠ b') 16 w' x.items (.slice a1 x.items.length c1) ∧ LiesX (fun n => w.heap.size ≤ n ∧ n ≠ b') 16 w' x.items (.slice a2 x.items.length c2) ∧ LiesX (fun n => w.heap.size ≤ n ∧ n ≠ b') 16 w' x.items (.slice a x.items.length c)

theorem Force_lazy (q m f b : Nat) (hq : q < 8) (hm : m ≤ 65536) (hf : f < 1073741824) (z : VT) (a : Option Addr) (c : Nat) (w : World) (h : CB w b (stepV q m z (.slice a z.items.length c)) 0 zeroT (.slice none 0 0) none) (hl : LiesX (fun n => n ≠ b) 16 w z.items (.slice a z.items.length c)) (hr : rightV 16 z = true) :
    Calls Try.prog 19 #[.pointer (some ⟨b, 0, none⟩), .int .i64 ((f + 1 : Nat) : Int)] w (LPost q (itT (doneT q) m z) f b w) := by
  have hzb := zbox_below w
  have hzs := zbox_size w
  have hbl := h.lt
  have hx := it_right q hr (Dp.of_lies 16 w z _ hl.lies) m
  generalize hxx : itT (doneT q) m z = x at hx ⊢
  have h1 := force_lazy q m f b hq hm hf z a c (zbox w) (h.keeps hzb) (hl.keeps hzb) hr
  rw [hxx] at h1
  have hb0 : b ≠ w.heap.size := by omega
  refine Calls.mono (Force_core b (f + 1) f (by omega) x (fun w2 => KC (fun j => j = b) (zbox w) w2 ∧ ∃ a1 c1 a2 c2 b', (zbox w).heap.size ≤ b' ∧ CB w2 b .nilIface 0 x (.slice a1 x.items.length c1) (some ⟨b', 0, none⟩) ∧ CB w2 b' (stepV q 1 x (.slice a2 x.items.length c2)) 0 zeroT (.slice none 0 0) none ∧ LiesX (fun n => (zbox w).heap.size ≤ n ∧ n ≠ b') 16 w2 x.items (.slice a1 x.items.length c1) ∧ LiesX (fun n => (zbox w).heap.size ≤ n ∧ n ≠ b') 16 w2 x.items (.slice a2 x.items.length c2)) w (Calls.mono h1 fun e w2 hp => ⟨hp.2.1, hp.1, hp.2.2⟩) ?_ hx.1) ?_
  · rintro w2 ⟨hk, a1, c1, a2, c2, b', hb', hcb, _, hx1, _⟩
    exact ⟨hk.bx (fun e => hb0 e.symm) (zbox_bx w), ⟨a1, c1, _, hcb, hx1.lies⟩, hb0⟩
  · rintro e w' ⟨w2, a3, c3, p, ⟨hk, a1, c1, a2, c2, b', hb', hcb, hcb', hx1, hx2⟩, h6, hk2, rfl, hx3⟩
    obtain rfl : p = some ⟨b', 0, none⟩ := by rw [hcb.c6] at h6; simpa using h6.symm
    have hs2 := hk.size
    have hbb := hcb'.lt
    have hkk : KC (fun j => j = b) w w' := ((KC.of_below hzb).trans2 hk (fun _ _ h => h)).trans2 hk2 (fun j hj h => by omega)
    refine ⟨a3, c3, b', a1, c1, a2, c2, rfl, hkk, by omega, hk2.cb hb0 hcb, hk2.cb (by omega) hcb', ?_, ?_, ?_⟩
    · exact LiesX.mono (fun n hn => ⟨by omega, hn.2⟩) (hk2.liesX (fun n hn => by omega) hx1)
    · exact LiesX.mono (fun n hn => ⟨by omega, hn.2⟩) (hk2.liesX (fun n hn => by omega) hx2)
    · exact LiesX.mono (fun n hn => ⟨by omega, by omega⟩) hx3

end Go.Proofs.Yteibdkkmaalpbab

namespace Go.Proofs.Yteibdkkmaalpbab
open Go.RowKit Go.Shelf

abbrev nil0 : VT := ⟨2, 0, ⟨#[]⟩, []⟩

theorem nil0_err : timesE 16 1 0 nil0 = 0 := by kernel_rfl
theorem nil0_right : rightV 16 nil0 = true := by kernel_rfl

set_option maxRecDepth 100000 in
set_option maxHeartbeats 8000000 in
theorem speaks22_any (w : World) : Calls Try.prog 8 #[] w fun e w' => e = .returned (.bool true) ∧ Below w.heap.size w w' := by
  have HI : Hid (∀ V, Calls Try.prog 25 #[.int .i64 0] V fun e w' => e = .returned (.agg #[.int .i64 2, .int .i64 0, .string ⟨#[]⟩, .slice none 0 0]) ∧ Grew V w') := fun V => int_any 0 V
  have HIt : Hid (∀ V, Calls Try.prog 7 #[.int .i64 1, .agg #[.int .i64 2, .int .i64 0, .string ⟨#[]⟩, .slice none 0 0]] V (IterPost 0 1 nil0 V)) := fun V => by
    have h9 := iter_any 16 1 nil0 (.slice none 0 0) V (lies_z22 V) (by show (0 : Nat) ≤ _; omega)
    rw [nil0_err] at h9
    exact h9
  go_enter Try.func8, Try.ntmps8
  go_wp2_with fail
  refine Calls.mono (HI.out _) ?_
  rintro e w1 ⟨rfl, hg1⟩
  have hb1 : Below w.heap.size w w1 := hg1.below
  clear hg1 HI
  go_wp2_with fail
  refine Calls.mono (HIt.out _) ?_
  rintro e w2 ⟨hg2, ⟨h0, _⟩ | ⟨_, a, c, b, rfl, hb, hcb, hlx⟩⟩
  · exact absurd rfl h0
  have hb2 : Below w.heap.size w w2 := hb1.trans (hg2.mono hb1.size)
  have HF0 : Hid (Calls Try.prog 19 #[.pointer (some ⟨b, 0, none⟩), .int .i64 0] w2 (FNil 0 220 w2)) := Force_dry b _ _ w2 hcb.c0
  have HF1 : Hid (∀ V, Below w2.heap.size w2 V → Calls Try.prog 19 #[.pointer (some ⟨b, 0, none⟩), .int .i64 1] V (LPost 1 nil0 0 b V)) := fun V hV => Force_lazy 1 0 0 b (by omega) (by omega) (by omega) nil0 a c V (hcb.keeps hV) (LiesX.mono (fun n hn => hn.2) (hlx.keeps hV)) nil0_right
  have Hb : Hid (w.heap.size ≤ b ∧ b < w2.heap.size) := ⟨Nat.le_trans hb1.size hb, hcb.lt⟩
  clear hg2 hb hcb hlx hb1 HIt
  go_wp2_with fail
  refine Calls.mono HF0.out ?_
  rintro e w3 ⟨a3, c3, rfl, hg3⟩
  obtain ⟨W4, hW4⟩ : ∃ W4, W4 = w3.alloc (.cells #[.int .i64 0, .int .i64 0, .string ⟨#[]⟩, .slice a3 0 c3] 24) := ⟨_, rfl⟩
  have HW4 : Hid (W4 = w3.alloc (.cells #[.int .i64 0, .int .i64 0, .string ⟨#[]⟩, .slice a3 0 c3] 24)) := hW4
  have hal : Below w3.heap.size w3 W4 := by rw [hW4]; exact ((Grew.refl _).alloc _).below
  have hg4 : Below w2.heap.size w2 W4 := hg3.trans (hal.mono hg3.size)
  have hb4 : Below w.heap.size w W4 := hb2.trans (hg4.mono hb2.size)
  clear hW4 hal hg3 HF0 hb2
  go_upto_region 5 with fail
  rw [← HW4.out]
  clear HW4
  go_wp2_with fail
  refine Calls.mono (HF1.out _ hg4) ?_
  rintro e w5 ⟨a5, c5, b', a1, c1, a2, c2, rfl, hk, hb', hcb, hcb', _, _, _⟩
  have hbb := Hb.out
  have hb5 : Below w.heap.size w w5 := hb4.trans (hk.below (fun j hj => by omega) hb4.size)
  obtain ⟨n8, hn8⟩ : ∃ n8, n8 = w5.heap.size := ⟨_, rfl⟩
  obtain ⟨W6, hW6⟩ : ∃ W6, W6 = w5.alloc (.cells #[.int .i64 2, .int .i64 0, .string ⟨#[]⟩, .slice a5 0 c5] 24) := ⟨_, rfl⟩
  have HW6 : Hid (W6 = w5.alloc (.cells #[.int .i64 2, .int .i64 0, .string ⟨#[]⟩, .slice a5 0 c5] 24)) := hW6
  have hal : Below w5.heap.size w5 W6 := by rw [hW6]; exact ((Grew.refl _).alloc _).below
  have y1 : W6.cell? ⟨n8, 1, none⟩ = some (.int .i64 0) := by rw [hW6, hn8]; exact (bx_alloc w5 nil0 (.slice a5 0 c5)).c1
  have HY : Hid (Calls Try.prog 18 #[.pointer (some ⟨b, 0, none⟩)] W6 fun e w' => e = .returned (.bool true) ∧ w' = W6) := forced_yes b W6 (hcb.keeps hal).c0
  have HN : Hid (Calls Try.prog 18 #[.pointer (some ⟨b', 0, none⟩)] W6 fun e w' => e = .returned (.bool false) ∧ w' = W6) := forced_no b' _ _ W6 (hcb'.keeps hal).c0
  have hb6 : Below w.heap.size w W6 := hb5.trans (hal.mono hb5.size)
  clear hk hb' hcb hcb' hbb hb5 hal hW6 hb4 hg4 HF1 Hb
  go_upto_region 6 with fail
  rw [← HW6.out, ← hn8]
  clear HW6 hn8
  go_wp2_with fail
  refine Calls.mono HY.out ?_
  rintro e w9 ⟨rfl, hw9⟩
  obtain rfl : W6 = w9 := hw9.symm
  clear hw9 HY
  go_wp2_with fail
  refine Calls.mono HN.out ?_
  rintro e w9 ⟨rfl, hw9⟩
  obtain rfl : W6 = w9 := hw9.symm
  clear hw9 HN
  go_wp2_with fail
  go_ret
  exact ⟨rfl, hb6⟩

end Go.Proofs.Yteibdkkmaalpbab

namespace Go.Proofs.Yteibdkkmaalpbab
open Go.RowKit Go.Shelf

set_option maxRecDepth 100000 in
set_option maxHeartbeats 8000000 in
theorem nil22_walk (f : Int) (w : World) : Calls Try.prog 6 #[.int .i64 f] w fun e w' => e = .returned (.bool true) ∧ Below w.heap.size w w' := by
  have HSp : Hid (∀ V, Calls Try.prog 8 #[] V fun e w' => e = .returned (.bool true) ∧ Below V.heap.size V w') := speaks22_any
  by_cases hf : f < 0 ∨ 1073741824 < f
  · have HF : Hid (Calls Try.prog 19 #[.pointer none, .int .i64 f] w (FNil 0 1 w)) := Force_bad none f hf w
    go_enter Try.func6, Try.ntmps6
    go_wp2_with fail
    refine Calls.mono HF.out ?_
    rintro e w1 ⟨a1, c1, rfl, hb1⟩
    obtain ⟨W2, hW2⟩ : ∃ W2, W2 = w1.alloc (.cells #[.int .i64 0, .int .i64 0, .string ⟨#[]⟩, .slice a1 0 c1] 24) := ⟨_, rfl⟩
    have HW2 : Hid (W2 = w1.alloc (.cells #[.int .i64 0, .int .i64 0, .string ⟨#[]⟩, .slice a1 0 c1] 24)) := hW2
    have hb2 : Below w.heap.size w W2 := by rw [hW2]; exact hb1.trans (((Grew.refl w1).alloc _).below.mono hb1.size)
    clear hW2 hb1 HF
    go_upto_region 2 with fail
    rw [← HW2.out]
    clear HW2
    rcases hf with h | h
    · go_wp2_with fail
      refine Calls.mono (HSp.out _) ?_
      rintro e w3 ⟨rfl, hg3⟩
      have hb3 : Below w.heap.size w w3 := hb2.trans (hg3.mono hb2.size)
      clear hg3
      go_wp2_with fail
      go_ret
      exact ⟨rfl, hb3⟩
    · have h0 : ¬ f < 0 := by omega
      go_wp2_with fail
      refine Calls.mono (HSp.out _) ?_
      rintro e w3 ⟨rfl, hg3⟩
      have hb3 : Below w.heap.size w w3 := hb2.trans (hg3.mono hb2.size)
      clear hg3
      go_wp2_with fail
      go_ret
      exact ⟨rfl, hb3⟩
  · obtain ⟨g, rfl⟩ : ∃ g : Nat, f = (g : Int) := ⟨f.toNat, by omega⟩
    have hg : g ≤ 1073741824 := by omega
    have HF : Hid (Calls Try.prog 19 #[.pointer none, .int .i64 (g : Int)] w (FNil g 0 w)) := Force_nil g hg w
    have HL : Hid (∀ V, Calls Try.prog 23 #[.nilIface] V fun e w' => e = .returned (.pointer (some ⟨V.heap.size, 0, none⟩)) ∧ w' = V.alloc (.cells #[.nilIface, .int .i64 0, .int .i64 0, .int .i64 0, .string ⟨#[]⟩, .slice none 0 0, .pointer none] 72)) := later_nil
    have HE : Hid (∀ (b : Nat) V, CB V b .nilIface 0 zeroT (.slice none 0 0) none → Calls Try.prog 19 #[.pointer (some ⟨b, 0, none⟩), .int .i64 (g : Int)] V (FNil g 0 V)) := fun b V h => Force_empty b g hg V h
    have HA : Hid (∀ V, Calls Try.prog 10 #[.pointer none, .int .i64 3, .int .i64 (g : Int)] V fun e w' => e = .returned (.tuple #[.int .i64 (g : Int), .int .i64 0]) ∧ Below V.heap.size V w') := fun V => ahead_nil g hg V
    have HD : Hid (∀ V, Calls Try.prog 18 #[.pointer none] V fun e w' => e = .returned (.bool true) ∧ Below V.heap.size V w') := forced_nil
    have HK : Hid (∀ V, Calls Try.prog 12 #[.pointer none] V fun e w' => e = .returned (.int .i64 0) ∧ Below V.heap.size V w') := known_nil
    have h0 : ¬ (g : Int) < 0 := by omega
    have h1 : ¬ (1073741824 : Int) < (g : Int) := by omega
    have e9 : ((g : Int) == (g : Int)) = true := by simp
    clear hf hg
    go_enter Try.func6, Try.ntmps6
    go_wp2_with fail
    refine Calls.mono HF.out ?_
    rintro e w1 ⟨a1, c1, rfl, hb1⟩
    obtain ⟨W2, hW2⟩ : ∃ W2, W2 = w1.alloc (.cells #[.int .i64 0, .int .i64 0, .string ⟨#[]⟩, .slice a1 0 c1] 24) := ⟨_, rfl⟩
    have HW2 : Hid (W2 = w1.alloc (.cells #[.int .i64 0, .int .i64 0, .string ⟨#[]⟩, .slice a1 0 c1] 24)) := hW2
    have hb2 : Below w.heap.size w W2 := by rw [hW2]; exact hb1.trans (((Grew.refl w1).alloc _).below.mono hb1.size)
    clear hW2 hb1 HF
    go_upto_region 2 with fail
    rw [← HW2.out]
    clear HW2
    go_wp2_with fail
    refine Calls.mono (HL.out _) ?_
    rintro e w3 ⟨rfl, hw3⟩
    have hcb : CB w3 W2.heap.size .nilIface 0 zeroT (.slice none 0 0) none := by rw [hw3]; exact cb_alloc W2 72 .nilIface 0 zeroT (.slice none 0 0) none
    have hb3 : Below w.heap.size w w3 := by rw [hw3]; exact hb2.trans (((Grew.refl W2).alloc _).below.mono hb2.size)
    have HE3 : Hid _ := HE.out _ _ hcb
    clear hw3 hcb hb2 HE HL
    go_wp2_with fail
    refine Calls.mono HE3.out ?_
    rintro e w4 ⟨a4, c4, rfl, hg4⟩
    obtain ⟨W5, hW5⟩ : ∃ W5, W5 = w4.alloc (.cells #[.int .i64 0, .int .i64 0, .string ⟨#[]⟩, .slice a4 0 c4] 24) := ⟨_, rfl⟩
    have HW5 : Hid (W5 = w4.alloc (.cells #[.int .i64 0, .int .i64 0, .string ⟨#[]⟩, .slice a4 0 c4] 24)) := hW5
    have hb4 : Below w.heap.size w w4 := hb3.trans (hg4.mono hb3.size)
    have hb5 : Below w.heap.size w W5 := by rw [hW5]; exact hb4.trans (((Grew.refl w4).alloc _).below.mono hb4.size)
    clear hW5 hb3 hg4 hb4 HE3
    go_upto_region 5 with fail
    rw [← HW5.out]
    clear HW5
    go_wp2_with fail
    refine Calls.mono (HA.out _) ?_
    rintro e w6 ⟨rfl, hg6⟩
    have hb6 : Below w.heap.size w w6 := hb5.trans (hg6.mono hb5.size)
    clear hg6 hb5 HA
    go_wp2_with fail
    refine Calls.mono (HD.out _) ?_
    rintro e w7 ⟨rfl, hg7⟩
    have hb7 : Below w.heap.size w w7 := hb6.trans (hg7.mono hb6.size)
    clear hg7 hb6 HD
    go_wp2_with fail
    refine Calls.mono (HK.out _) ?_
    rintro e w8 ⟨rfl, hg8⟩
    have hb8 : Below w.heap.size w w8 := hb7.trans (hg8.mono hb7.size)
    clear hg8 hb7 HK
    go_wp2_with fail
    refine Calls.mono (HSp.out _) ?_
    rintro e w9 ⟨rfl, hg9⟩
    have hb9 : Below w.heap.size w w9 := hb8.trans (hg9.mono hb8.size)
    clear hg9
    go_wp2_with fail
    go_ret
    exact ⟨rfl, hb9⟩

end Go.Proofs.Yteibdkkmaalpbab

