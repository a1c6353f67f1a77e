/-
  PairingMelds: the statement's walk.
-/
import Derived.Test.YtgmmocbgeilpiaaGreatOfLaw19
namespace Go.Proofs.YtgmmocbgeilpiaaGreat
open Go.RowKit Go.Shelf

/-- The four fields in their box. -/
structure MelB (W : World) (n : Nat) (o p : Int) (ul um : Value) : Prop where
  c0 : W.cell? ⟨n, 0, none⟩ = some (.int .i64 o)
  c1 : W.cell? ⟨n, 1, none⟩ = some (.int .i64 p)
  c2 : W.cell? ⟨n, 2, none⟩ = some ul
  c3 : W.cell? ⟨n, 3, none⟩ = some um

theorem MelB.keeps {W W' : World} (hb : Below W.heap.size W W') {n : Nat} {o p : Int} {ul um : Value} (h : MelB W n o p ul um) : MelB W' n o p ul um := ⟨cell_keeps hb h.1, cell_keeps hb h.2, cell_keeps hb h.3, cell_keeps hb h.4⟩

/-- The four Ofs, in whatever worlds. -/
def OfC (f : Nat) (P : World → Option Addr → Prop) (o : Int) (u : Value) (E : Int) (w : World) : Prop :=
  ∀ V, Below w.heap.size w V → Calls Tryz.prog f #[.int .i64 o, u] V fun e w1 => ∃ p, e = .returned (.tuple #[.pointer p, .int .i64 E]) ∧ Below V.heap.size V w1 ∧ (E ≠ 0 → p = none) ∧ (E = 0 → P w1 p)

set_option maxRecDepth 100000 in
set_option maxHeartbeats 8000000 in
theorem melds_err1 (o p E F : Int) (al am : Option Addr) (nl nm cl cm : Nat) (l m : List VT) (w : World)
    (H1 : Hid (OfC 6 (fun W t => QM All W o.toNat l t) o (.slice al nl cl) E w)) (H2 : Hid (OfC 6 (fun W t => QM All W p.toNat m t) p (.slice am nm cm) F w))
    (H3 : Hid (OfC 7 (fun W t => ∃ b, t = some ⟨b, 0, none⟩ ∧ RQ W o.toNat (srtV o.toNat l) b) o (.slice al nl cl) E w)) (H4 : Hid (OfC 7 (fun W t => ∃ b, t = some ⟨b, 0, none⟩ ∧ RQ W p.toNat (srtV p.toNat m) b) p (.slice am nm cm) F w)) (hE : E ≠ 0) :
    Calls Tryz.prog 5 #[.agg #[.int .i64 o, .int .i64 p, .slice al nl cl, .slice am nm cm]] w fun e w' => e = .returned (.bool true) ∧ Below w.heap.size w w' := by
  have h0' : (E == 0) = false := by simpa using hE
  have h1' : ¬ E = 0 := hE
  have h2' : (E != E) = false := by simp
  have h5' : (F != F) = false := by simp
  obtain ⟨w0, hw0⟩ : ∃ w0, w0 = w.alloc (.cells #[.int .i64 o, .int .i64 p, .slice al nl cl, .slice am nm cm] 50) := ⟨_, rfl⟩
  have HX : Hid (MelB w0 w.heap.size o p (.slice al nl cl) (.slice am nm cm)) := by rw [hw0]; exact ⟨by simp, by simp, by simp, by simp⟩
  have HB0 : Hid (Below w.heap.size w w0) := by rw [hw0]; exact ((Grew.refl w).alloc _).below
  have Hw0 : Hid (w0 = _) := hw0
  obtain ⟨c0, c1, c2, c3⟩ := HX.out
  clear hw0
  go_enter Tryz.func5, Tryz.ntmps5
  go_upto_region 1 with fail
  rw [← Hw0.out]
  clear Hw0
  go_wp2_with fail
  refine Calls.mono (H1.out _ HB0.out) ?_
  rintro e w1 ⟨p1, rfl, hg1, hn1, hq1⟩
  have HB1 : Hid (Below w.heap.size w w1) := HB0.out.trans (hg1.mono HB0.out.size)
  have HX : Hid (MelB w1 w.heap.size o p (.slice al nl cl) (.slice am nm cm)) := HX.out.keeps hg1
  obtain rfl := hn1 hE
  clear hg1 hn1 hq1 HB0 H1 c0 c1 c2 c3
  obtain ⟨c0, c1, c2, c3⟩ := HX.out
  go_wp2_with fail
  refine Calls.mono (H2.out _ HB1.out) ?_
  rintro e w2 ⟨p2, rfl, hg2, hn2, hq2⟩
  have HB2 : Hid (Below w.heap.size w w2) := HB1.out.trans (hg2.mono HB1.out.size)
  have HX : Hid (MelB w2 w.heap.size o p (.slice al nl cl) (.slice am nm cm)) := HX.out.keeps hg2
  clear hg2 hn2 hq2 HB1 H2 c0 c1 c2 c3
  obtain ⟨c0, c1, c2, c3⟩ := HX.out
  go_wp2_with fail
  refine Calls.mono (H3.out _ HB2.out) ?_
  rintro e w3 ⟨p3, rfl, hg3, hn3, hq3⟩
  have HB3 : Hid (Below w.heap.size w w3) := HB2.out.trans (hg3.mono HB2.out.size)
  have HX : Hid (MelB w3 w.heap.size o p (.slice al nl cl) (.slice am nm cm)) := HX.out.keeps hg3
  obtain rfl := hn3 hE
  clear hg3 hn3 hq3 HB2 H3 c0 c1 c2 c3
  obtain ⟨c0, c1, c2, c3⟩ := HX.out
  go_wp2_with fail
  refine Calls.mono (H4.out _ HB3.out) ?_
  rintro e w4 ⟨p4, rfl, hg4, hn4, hq4⟩
  have HB4 : Hid (Below w.heap.size w w4) := HB3.out.trans (hg4.mono HB3.out.size)
  have HX : Hid (MelB w4 w.heap.size o p (.slice al nl cl) (.slice am nm cm)) := HX.out.keeps hg4
  clear hg4 hn4 hq4 HB3 H4 c0 c1 c2 c3
  obtain ⟨c0, c1, c2, c3⟩ := HX.out
  go_wp2_with fail
  refine Calls.mono (speaks19_any w4) ?_
  rintro e w5 ⟨rfl, hg5⟩
  have HB5 : Hid (Below w.heap.size w w5) := HB4.out.trans (hg5.mono HB4.out.size)
  clear hg5 HB4
  go_wp2_with fail
  go_ret
  exact ⟨rfl, HB5.out⟩

set_option maxRecDepth 100000 in
set_option maxHeartbeats 8000000 in
theorem melds_err2 (o p E F : Int) (al am : Option Addr) (nl nm cl cm : Nat) (l m : List VT) (w : World)
    (H1 : Hid (OfC 6 (fun W t => QM All W o.toNat l t) o (.slice al nl cl) E w)) (H2 : Hid (OfC 6 (fun W t => QM All W p.toNat m t) p (.slice am nm cm) F w))
    (H3 : Hid (OfC 7 (fun W t => ∃ b, t = some ⟨b, 0, none⟩ ∧ RQ W o.toNat (srtV o.toNat l) b) o (.slice al nl cl) E w)) (H4 : Hid (OfC 7 (fun W t => ∃ b, t = some ⟨b, 0, none⟩ ∧ RQ W p.toNat (srtV p.toNat m) b) p (.slice am nm cm) F w)) (hE : E = 0) (hF : F ≠ 0) :
    Calls Tryz.prog 5 #[.agg #[.int .i64 o, .int .i64 p, .slice al nl cl, .slice am nm cm]] w fun e w' => e = .returned (.bool true) ∧ Below w.heap.size w w' := by
  subst hE
  have h3' : (F == 0) = false := by simpa using hF
  have h4' : ¬ F = 0 := hF
  have h5' : (F != F) = false := by simp
  obtain ⟨w0, hw0⟩ : ∃ w0, w0 = w.alloc (.cells #[.int .i64 o, .int .i64 p, .slice al nl cl, .slice am nm cm] 50) := ⟨_, rfl⟩
  have HX : Hid (MelB w0 w.heap.size o p (.slice al nl cl) (.slice am nm cm)) := by rw [hw0]; exact ⟨by simp, by simp, by simp, by simp⟩
  have HB0 : Hid (Below w.heap.size w w0) := by rw [hw0]; exact ((Grew.refl w).alloc _).below
  have Hw0 : Hid (w0 = _) := hw0
  obtain ⟨c0, c1, c2, c3⟩ := HX.out
  clear hw0
  go_enter Tryz.func5, Tryz.ntmps5
  go_upto_region 1 with fail
  rw [← Hw0.out]
  clear Hw0
  go_wp2_with fail
  refine Calls.mono (H1.out _ HB0.out) ?_
  rintro e w1 ⟨p1, rfl, hg1, hn1, hq1⟩
  have HB1 : Hid (Below w.heap.size w w1) := HB0.out.trans (hg1.mono HB0.out.size)
  have HX : Hid (MelB w1 w.heap.size o p (.slice al nl cl) (.slice am nm cm)) := HX.out.keeps hg1
  clear hg1 hn1 hq1 HB0 H1 c0 c1 c2 c3
  obtain ⟨c0, c1, c2, c3⟩ := HX.out
  go_wp2_with fail
  refine Calls.mono (H2.out _ HB1.out) ?_
  rintro e w2 ⟨p2, rfl, hg2, hn2, hq2⟩
  have HB2 : Hid (Below w.heap.size w w2) := HB1.out.trans (hg2.mono HB1.out.size)
  have HX : Hid (MelB w2 w.heap.size o p (.slice al nl cl) (.slice am nm cm)) := HX.out.keeps hg2
  clear hg2 hn2 hq2 HB1 H2 c0 c1 c2 c3
  obtain ⟨c0, c1, c2, c3⟩ := HX.out
  go_wp2_with fail
  refine Calls.mono (H3.out _ HB2.out) ?_
  rintro e w3 ⟨p3, rfl, hg3, hn3, hq3⟩
  have HB3 : Hid (Below w.heap.size w w3) := HB2.out.trans (hg3.mono HB2.out.size)
  have HX : Hid (MelB w3 w.heap.size o p (.slice al nl cl) (.slice am nm cm)) := HX.out.keeps hg3
  clear hg3 hn3 hq3 HB2 H3 c0 c1 c2 c3
  obtain ⟨c0, c1, c2, c3⟩ := HX.out
  go_wp2_with fail
  refine Calls.mono (H4.out _ HB3.out) ?_
  rintro e w4 ⟨p4, rfl, hg4, hn4, hq4⟩
  have HB4 : Hid (Below w.heap.size w w4) := HB3.out.trans (hg4.mono HB3.out.size)
  have HX : Hid (MelB w4 w.heap.size o p (.slice al nl cl) (.slice am nm cm)) := HX.out.keeps hg4
  clear hg4 hn4 hq4 HB3 H4 c0 c1 c2 c3
  obtain ⟨c0, c1, c2, c3⟩ := HX.out
  go_wp2_with fail
  refine Calls.mono (speaks19_any w4) ?_
  rintro e w5 ⟨rfl, hg5⟩
  have HB5 : Hid (Below w.heap.size w w5) := HB4.out.trans (hg5.mono HB4.out.size)
  clear hg5 HB4
  go_wp2_with fail
  go_ret
  exact ⟨rfl, HB5.out⟩

set_option maxRecDepth 100000 in
set_option maxHeartbeats 8000000 in
theorem melds_ok19 (o p E F : Int) (al am : Option Addr) (nl nm cl cm : Nat) (l m : List VT) (w : World)
    (H1 : Hid (OfC 6 (fun W t => QM All W o.toNat l t) o (.slice al nl cl) E w)) (H2 : Hid (OfC 6 (fun W t => QM All W p.toNat m t) p (.slice am nm cm) F w))
    (H3 : Hid (OfC 7 (fun W t => ∃ b, t = some ⟨b, 0, none⟩ ∧ RQ W o.toNat (srtV o.toNat l) b) o (.slice al nl cl) E w)) (H4 : Hid (OfC 7 (fun W t => ∃ b, t = some ⟨b, 0, none⟩ ∧ RQ W p.toNat (srtV p.toNat m) b) p (.slice am nm cm) F w)) (hE : E = 0) (hF : F = 0) :
    Calls Tryz.prog 5 #[.agg #[.int .i64 o, .int .i64 p, .slice al nl cl, .slice am nm cm]] w fun e w' => e = .returned (.bool true) ∧ Below w.heap.size w w' := by
  subst hE
  subst hF
  obtain ⟨w0, hw0⟩ : ∃ w0, w0 = w.alloc (.cells #[.int .i64 o, .int .i64 p, .slice al nl cl, .slice am nm cm] 50) := ⟨_, rfl⟩
  have HX : Hid (MelB w0 w.heap.size o p (.slice al nl cl) (.slice am nm cm)) := by rw [hw0]; exact ⟨by simp, by simp, by simp, by simp⟩
  have HB0 : Hid (Below w.heap.size w w0) := by rw [hw0]; exact ((Grew.refl w).alloc _).below
  have Hw0 : Hid (w0 = _) := hw0
  obtain ⟨c0, c1, c2, c3⟩ := HX.out
  clear hw0
  go_enter Tryz.func5, Tryz.ntmps5
  go_upto_region 1 with fail
  rw [← Hw0.out]
  clear Hw0
  go_wp2_with fail
  refine Calls.mono (H1.out _ HB0.out) ?_
  rintro e w1 ⟨p1, rfl, hg1, hn1, hq1⟩
  have HB1 : Hid (Below w.heap.size w w1) := HB0.out.trans (hg1.mono HB0.out.size)
  have HX : Hid (MelB w1 w.heap.size o p (.slice al nl cl) (.slice am nm cm)) := HX.out.keeps hg1
  obtain ⟨b1, rfl, hc1⟩ := hq1 (by first | exact rfl | trivial)
  have HQ1 : Hid _ := hc1
  clear hc1
  clear hg1 hn1 hq1 HB0 H1 c0 c1 c2 c3
  obtain ⟨c0, c1, c2, c3⟩ := HX.out
  go_wp2_with fail
  refine Calls.mono (H2.out _ HB1.out) ?_
  rintro e w2 ⟨p2, rfl, hg2, hn2, hq2⟩
  have HB2 : Hid (Below w.heap.size w w2) := HB1.out.trans (hg2.mono HB1.out.size)
  have HX : Hid (MelB w2 w.heap.size o p (.slice al nl cl) (.slice am nm cm)) := HX.out.keeps hg2
  obtain ⟨b2, rfl, hc2⟩ := hq2 (by first | exact rfl | trivial)
  have HQ2 : Hid _ := hc2
  have HQ1 : Hid _ := HQ1.out.keeps hg2
  clear hc2
  clear hg2 hn2 hq2 HB1 H2 c0 c1 c2 c3
  obtain ⟨c0, c1, c2, c3⟩ := HX.out
  go_wp2_with fail
  refine Calls.mono (H3.out _ HB2.out) ?_
  rintro e w3 ⟨p3, rfl, hg3, hn3, hq3⟩
  have HB3 : Hid (Below w.heap.size w w3) := HB2.out.trans (hg3.mono HB2.out.size)
  have HX : Hid (MelB w3 w.heap.size o p (.slice al nl cl) (.slice am nm cm)) := HX.out.keeps hg3
  obtain ⟨b3, rfl, hc3⟩ := hq3 (by first | exact rfl | trivial)
  have HQ3 : Hid _ := hc3
  have HQ1 : Hid _ := HQ1.out.keeps hg3
  have HQ2 : Hid _ := HQ2.out.keeps hg3
  clear hc3
  clear hg3 hn3 hq3 HB2 H3 c0 c1 c2 c3
  obtain ⟨c0, c1, c2, c3⟩ := HX.out
  go_wp2_with fail
  refine Calls.mono (H4.out _ HB3.out) ?_
  rintro e w4 ⟨p4, rfl, hg4, hn4, hq4⟩
  have HB4 : Hid (Below w.heap.size w w4) := HB3.out.trans (hg4.mono HB3.out.size)
  have HX : Hid (MelB w4 w.heap.size o p (.slice al nl cl) (.slice am nm cm)) := HX.out.keeps hg4
  obtain ⟨b4, rfl, hc4⟩ := hq4 (by first | exact rfl | trivial)
  have HQ4 : Hid _ := hc4
  have HQ1 : Hid _ := HQ1.out.keeps hg4
  have HQ2 : Hid _ := HQ2.out.keeps hg4
  have HQ3 : Hid _ := HQ3.out.keeps hg4
  clear hc4
  clear hg4 hn4 hq4 HB3 H4 c0 c1 c2 c3
  obtain ⟨c0, c1, c2, c3⟩ := HX.out
  go_wp2_with fail
  have HM1 : Hid _ := meld_any (.inr ⟨b1, rfl, HQ1.out⟩) (.inr ⟨b2, rfl, HQ2.out⟩) HQ2.out.le
  refine Calls.mono HM1.out ?_
  rintro e w5 ⟨hg5, hm5⟩
  have HB5 : Hid (Below w.heap.size w w5) := HB4.out.trans (hg5.mono HB4.out.size)
  have HQ1 : Hid _ := HQ1.out.keeps hg5
  have HQ2 : Hid _ := HQ2.out.keeps hg5
  have HQ3 : Hid _ := HQ3.out.keeps hg5
  have HQ4 : Hid _ := HQ4.out.keeps hg5
  have HM2 : Hid _ := rmeld_any HQ3.out HQ4.out
  have hl3 : (srtV o.toNat l).length = l.length := srtV_len _ _
  have hl4 : (srtV p.toNat m).length = m.length := srtV_len _ _
  have HLs : Hid ((srtV o.toNat l).length + (srtV p.toNat m).length = l.length + m.length) := by show _ = _; omega
  have Hsrt : Hid (srtV o.toNat (srtV o.toNat l ++ srtV p.toNat m) = srtV o.toNat (l ++ m)) := by
    show _ = _
    have hpm : (srtV o.toNat l ++ srtV p.toNat m).Perm (l ++ m) := (srt_perm _ _ _ : (srtV o.toNat l).Perm l).append (srt_perm _ _ _ : (srtV p.toNat m).Perm m)
    refine srtV_perm _ hpm (fun x hx => ?_)
    rcases List.mem_append.1 (hpm.mem_iff.1 hx) with h | h
    · exact HQ1.out.good x h
    · exact HQ2.out.good x h
  clear HM1 hg5 hl3 hl4 HB4
  rcases hm5 with ⟨hbig, rfl⟩ | ⟨hsm, t5, rfl, hq5⟩
  · go_wp2_with fail
    refine Calls.mono HM2.out ?_
    rintro e w6 ⟨hg6, ⟨_, rfl⟩ | ⟨hsm, _⟩⟩
    · have HB6 : Hid (Below w.heap.size w w6) := HB5.out.trans (hg6.mono HB5.out.size)
      clear HM2 hg6 hbig
      go_wp2_with fail
      refine Calls.mono (speaks19_any w6) ?_
      rintro e w7 ⟨rfl, hg7⟩
      have HB7 : Hid (Below w.heap.size w w7) := HB6.out.trans (hg7.mono HB6.out.size)
      clear hg7 HB6
      go_wp2_with fail
      go_ret
      exact ⟨rfl, HB7.out⟩
    · have := HLs.out; exfalso; omega
  · obtain ⟨b5, rfl, hc5⟩ := hq5
    have HQ5 : Hid (QC All w5 o.toNat (l ++ m) b5) := hc5
    clear hc5
    go_wp2_with fail
    refine Calls.mono HM2.out ?_
    rintro e w6 ⟨hg6, ⟨hbig, _⟩ | ⟨_, b6, rfl, hq6⟩⟩
    · have := HLs.out; exfalso; omega
    · have HB6 : Hid (Below w.heap.size w w6) := HB5.out.trans (hg6.mono HB5.out.size)
      rw [Hsrt.out] at hq6
      have HS1 : Hid (∀ V, Below w6.heap.size w6 V → Calls Tryz.prog 9 #[.pointer (some ⟨b5, 0, none⟩), .pointer (some ⟨b6, 0, none⟩)] V fun e w' => e = .returned (.bool true) ∧ Below V.heap.size V w') := fun V hV => same_any19 ((HQ5.out.keeps hg6).keeps hV) (hq6.keeps hV)
      have HS2 : Hid (∀ V, Below w6.heap.size w6 V → Calls Tryz.prog 9 #[.pointer (some ⟨b1, 0, none⟩), .pointer (some ⟨b3, 0, none⟩)] V fun e w' => e = .returned (.bool true) ∧ Below V.heap.size V w') := fun V hV => same_any19 ((HQ1.out.keeps hg6).keeps hV) ((HQ3.out.keeps hg6).keeps hV)
      have HS3 : Hid (∀ V, Below w6.heap.size w6 V → Calls Tryz.prog 9 #[.pointer (some ⟨b2, 0, none⟩), .pointer (some ⟨b4, 0, none⟩)] V fun e w' => e = .returned (.bool true) ∧ Below V.heap.size V w') := fun V hV => same_any19 ((HQ2.out.keeps hg6).keeps hV) ((HQ4.out.keeps hg6).keeps hV)
      clear HM2 hg6 hq6 HQ1 HQ2 HQ3 HQ4 HQ5 hsm HLs Hsrt
      go_wp2_with fail
      refine Calls.mono (HS1.out w6 (Below.refl _ _)) ?_
      rintro e w7 ⟨rfl, hg7⟩
      have hv7 : Below w6.heap.size w6 w7 := hg7
      clear HS1 hg7
      go_wp2_with fail
      refine Calls.mono (HS2.out w7 hv7) ?_
      rintro e w8 ⟨rfl, hg8⟩
      have hv8 : Below w6.heap.size w6 w8 := hv7.trans (hg8.mono hv7.size)
      clear HS2 hg8 hv7
      go_wp2_with fail
      refine Calls.mono (HS3.out w8 hv8) ?_
      rintro e w9 ⟨rfl, hg9⟩
      have hv9 : Below w6.heap.size w6 w9 := hv8.trans (hg9.mono hv8.size)
      have HB9 : Hid (Below w.heap.size w w9) := HB6.out.trans (hv9.mono HB6.out.size)
      clear HS3 hg9 hv8 hv9
      go_wp2_with fail
      refine Calls.mono (speaks19_any w9) ?_
      rintro e w10 ⟨rfl, hg10⟩
      have HB10 : Hid (Below w.heap.size w w10) := HB9.out.trans (hg10.mono HB9.out.size)
      clear hg10 HB9
      go_wp2_with fail
      go_ret
      exact ⟨rfl, HB10.out⟩

theorem melds_walk19 (d : Nat) (o p : Int) (l m : List VT) (ul um : Value) (w : World) (hl : Lies (d + 1) w l ul) (hm : Lies (d + 1) w m um) :
    Calls Tryz.prog 5 #[.agg #[.int .i64 o, .int .i64 p, ul, um]] w fun e w' => e = .returned (.bool true) ∧ Below w.heap.size w w' := by
  obtain ⟨al, cl, rfl, _⟩ := Lies.slice hl
  obtain ⟨am, cm, rfl, _⟩ := Lies.slice hm
  have H1 : Hid (OfC 6 (fun W t => QM All W o.toNat l t) o (.slice al l.length cl) (lookE d o l) w) := fun V hV => ofs_any o d l _ V (Lies.keeps hV _ _ _ hl)
  have H2 : Hid (OfC 6 (fun W t => QM All W p.toNat m t) p (.slice am m.length cm) (lookE d p m) w) := fun V hV => ofs_any p d m _ V (Lies.keeps hV _ _ _ hm)
  have H3 : Hid (OfC 7 (fun W t => ∃ b, t = some ⟨b, 0, none⟩ ∧ RQ W o.toNat (srtV o.toNat l) b) o (.slice al l.length cl) (lookE d o l) w) := fun V hV => rofs_any o d l _ V (Lies.keeps hV _ _ _ hl)
  have H4 : Hid (OfC 7 (fun W t => ∃ b, t = some ⟨b, 0, none⟩ ∧ RQ W p.toNat (srtV p.toNat m) b) p (.slice am m.length cm) (lookE d p m) w) := fun V hV => rofs_any p d m _ V (Lies.keeps hV _ _ _ hm)
  by_cases hE : lookE d o l = 0
  · by_cases hF : lookE d p m = 0
    · exact melds_ok19 o p _ _ al am _ _ cl cm l m w H1 H2 H3 H4 hE hF
    · exact melds_err2 o p _ _ al am _ _ cl cm l m w H1 H2 H3 H4 hE hF
  · exact melds_err1 o p _ _ al am _ _ cl cm l m w H1 H2 H3 H4 hE

end Go.Proofs.YtgmmocbgeilpiaaGreat

