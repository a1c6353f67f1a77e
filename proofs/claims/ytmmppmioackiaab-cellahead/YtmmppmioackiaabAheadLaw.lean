/-
  CellAhead.
-/
import Derived.Test.YtmmppmioackiaabReadS
import Derived.Test.YtmmppmioackiaabReadL
import Derived.Test.YtmmppmioackiaabAheadS
namespace Go.Proofs.Ytmmppmioackiaab
open Go.ChangeShapes Go.WideShapes Go.ChangeAt Go.RowKit Go.Deep Go.Joins

/-- The slice holds these asks. -/
def SlA (w : World) (qs : List (Int × Int)) (v : Value) : Prop :=
  ∃ a c, v = .slice a qs.length c ∧ qs.length ≤ 9223372036854775807 ∧ (qs ≠ [] → ∃ b o, a = some ⟨b, o, none⟩ ∧ ∀ (i : Nat) (h : i < qs.length), w.cell? ⟨b, o + i * 2, none⟩ = some (.int .i64 (qs[i]'h).1) ∧ w.cell? ⟨b, o + i * 2 + 1, none⟩ = some (.int .i64 (qs[i]'h).2))

theorem add_addr22 (b o j : Nat) : (⟨b, o, none⟩ : Addr).add j = ⟨b, o + j, none⟩ := by
  unfold Addr.add
  by_cases hk : j = 0
  · subst hk; rfl
  · rw [if_neg hk]

theorem cells_two22 {w : World} {a : Addr} {cs : List Value} (h : w.cells? 0 a 2 = some cs) : ∃ c0 c1, cs = [c0, c1] ∧ w.cell? (a.add 0) = some c0 ∧ w.cell? (a.add 1) = some c1 := by
  unfold World.cells? at h
  rw [if_pos (Nat.zero_le _)] at h
  simp only [List.range, List.range.loop, List.mapM_cons, List.mapM_nil] at h
  simp only [Option.bind_eq_bind, Option.bind_eq_some_iff, Option.pure_def, Option.some.injEq] at h
  obtain ⟨c0, h0, _, ⟨c1, h1, _, rfl, rfl⟩, rfl⟩ := h
  exact ⟨c0, c1, rfl, h0, h1⟩

theorem cellsAsk22 : Try.prog.cellsOf 35 = 2 := by kernel_rfl

set_option maxRecDepth 100000 in
theorem read_asks {H : Type} {enc : TypeId × Value → H} {w : World} {spare : Nat → Bool} {held : Bool} {r : Reach} {b0 : Nat} {v : Value} {d : DataW H} {p : List MemPlace}
    (hv : Value.okWide Try.prog w r b0 25 v) (h : DataW.Trod enc Try.prog w 0 spare held 25 v d p) : ∃ qs : List (Int × Int), SlA w qs v := by
  obtain ⟨a0, len0, cap0, rfl⟩ := okWide_slice Try.underlying25 hv
  obtain ⟨fuel, hf⟩ := h
  rcases DataW.trod_slice Try.underlying25 hf with ⟨h0, _⟩ | ⟨a, len, cap, elems, rest, n, _, h0, _, _, hlc, hcm, hel, hall, _, _⟩
  · have e' : (Value.slice a0 len0 cap0) = .slice none 0 0 := by simpa [Value.cells] using h0
    rw [e']
    exact ⟨[], none, 0, rfl, by simp, fun h => absurd rfl h⟩
  · have e' : (Value.slice a0 len0 cap0) = .slice (some a) len cap := by simpa [Value.cells] using h0
    rw [e']
    have hone : ∀ i, i < len → ∃ t : Int × Int, w.cell? (a.add (i * 2)) = some (.int .i64 t.1) ∧ w.cell? (a.add (i * 2 + 1)) = some (.int .i64 t.2) := by
      intro i hi
      have h1 := hall i hi
      rw [cellsAsk22] at h1
      have hlt : i < elems.length := by omega
      rw [List.getElem?_eq_getElem hlt, Option.bind_eq_some_iff] at h1
      obtain ⟨cs, hcs, htr⟩ := h1
      obtain ⟨c0, c1, rfl, k0, k1⟩ := cells_two22 hcs
      obtain ⟨xs, n', rfl, _, _, hxl, hff⟩ := DataW.trod_struct Try.underlying35 htr
      obtain ⟨y0, y1, rfl⟩ : ∃ y0 y1, xs = [y0, y1] := by
        match xs, hxl with
        | [y0, y1], _ => exact ⟨y0, y1, rfl⟩
      have g0 : DataW.trod enc Try.prog w 0 spare held n' 3 [c0] = some y0 := by simpa [Try.cells3] using hff 0 _ rfl
      have g1 : DataW.trod enc Try.prog w 0 spare held n' 3 [c1] = some y1 := by simpa [Try.cells3] using hff 1 _ rfl
      obtain ⟨kd, e0, _, _⟩ := DataW.trod_int Try.underlying3 g0
      obtain ⟨nm, e1, _, _⟩ := DataW.trod_int Try.underlying3 g1
      simp only [List.cons.injEq, and_true] at e0 e1
      subst e0 e1
      simp only [add_add, Nat.add_zero] at k0 k1
      exact ⟨(kd, nm), k0, k1⟩
    have hinh : Inhabited (Int × Int) := ⟨(0, 0)⟩
    obtain ⟨f, hf⟩ := choose_lt hone
    refine ⟨(List.range len).map f, some a, cap, by simp, by unfold maxLen at hcm; simp; omega, fun hne => ?_⟩
    obtain ⟨b, o, sp⟩ := a
    have hl0 : 0 < len := by
      rcases Nat.eq_zero_or_pos len with h0 | h0
      · subst h0; simp at hne
      · exact h0
    have z0 := (hf 0 hl0).1
    have hspot : sp = none := by simpa [Addr.add] using World.cell?_spot z0
    subst hspot
    refine ⟨b, o, rfl, fun i hi => ?_⟩
    have hi' : i < len := by simpa using hi
    obtain ⟨q0, q1⟩ := hf i hi'
    rw [add_addr22] at q0 q1
    simp only [List.getElem_map, List.getElem_range]
    exact ⟨q0, by rw [Nat.add_assoc]; exact q1⟩

end Go.Proofs.Ytmmppmioackiaab

namespace Go.Proofs.Ytmmppmioackiaab
open Go.RowKit Go.Shelf

set_option maxRecDepth 100000 in
set_option maxHeartbeats 16000000 in
theorem aheads_walk (o : Int) (d : Nat) (v : VT) (u : Value) (qs : List (Int × Int)) (l : Value) (w : World) (hu : Lies d w v.items u) (ht : v.text.size ≤ 9223372036854775807) (hl : SlA w qs l) :
    Calls Try.prog 3 #[.int .i64 o, .agg #[.int .i64 v.kind, .int .i64 v.num, .string v.text, u], l] w fun e w' => e = .returned (.bool true) ∧ Below w.heap.size w w' := by
  have HSp : Hid (∀ V, Calls Try.prog 8 #[] V fun e w' => e = .returned (.bool true) ∧ Below V.heap.size V w') := speaks22_any
  obtain ⟨au, cu, rfl, _⟩ := Lies.slice hu
  obtain ⟨E, hE⟩ : ∃ E, E = timesE d o 0 v := ⟨_, rfl⟩
  obtain ⟨q, hq⟩ : ∃ q, q = o.toNat := ⟨_, rfl⟩
  have HIt : Hid (∀ V, Below w.heap.size w V → Calls Try.prog 7 #[.int .i64 o, .agg #[.int .i64 v.kind, .int .i64 v.num, .string v.text, .slice au v.items.length cu]] V (IterPost E q v V)) := fun V hV => by rw [hE, hq]; exact iter_any d o v _ V (Lies.keeps hV _ _ _ hu) ht
  have HBe : Hid (∀ V, Below w.heap.size w V → Calls Try.prog 9 #[.int .i64 o, .agg #[.int .i64 v.kind, .int .i64 v.num, .string v.text, .slice au v.items.length cu]] V (BegPost E q v au cu V)) := fun V hV => by rw [hE, hq]; exact begin_any d o v au cu V (Lies.keeps hV _ _ _ hu)
  have HRt : Hid (E = 0 → q < 8 ∧ rightV 16 v = true ∧ Lies 16 w v.items (.slice au v.items.length cu)) := fun h => by
    rw [h] at hE
    unfold timesE at hE
    by_cases h1 : o < 0 ∨ 8 ≤ o
    · rw [if_pos h1] at hE; cases hE
    · rw [if_neg h1] at hE
      have h2 : ¬ ((0 : Int) < 0 ∨ (65536 : Int) < 0) := by omega
      rw [if_neg h2] at hE
      cases hr : rightV d v with
      | false => rw [hr] at hE; cases hE
      | true =>
        have hc := canon hu hr
        exact ⟨by omega, hc.2, hc.1⟩
  obtain ⟨al, cl, rfl, _, hrow⟩ := hl
  have HRow : Hid (qs ≠ [] → ∃ b o, al = some ⟨b, o, none⟩ ∧ ∀ (i : Nat) (h : i < qs.length), w.cell? ⟨b, o + i * 2, none⟩ = some (.int .i64 (qs[i]'h).1) ∧ w.cell? ⟨b, o + i * 2 + 1, none⟩ = some (.int .i64 (qs[i]'h).2)) := hrow
  obtain ⟨LL, hLL⟩ : ∃ LL, LL = qs.length := ⟨_, rfl⟩
  have HLL : Hid (LL = qs.length) := hLL
  rw [← hLL]
  have HBk : Hid (Bx (w.alloc (.cells #[.int .i64 v.kind, .int .i64 v.num, .string v.text, .slice au v.items.length cu] 24)) w.heap.size v (.slice au v.items.length cu)) := bx_alloc _ _ _
  have hb0 : Below w.heap.size w (w.alloc (.cells #[.int .i64 v.kind, .int .i64 v.num, .string v.text, .slice au v.items.length cu] 24)) := ((Grew.refl w).alloc _).below
  obtain ⟨k0, k1, k2, k3, _, _, _, _⟩ := HBk.out
  clear hu ht hE hq hrow hLL
  go_enter Try.func3, Try.ntmps3
  go_wp2_with fail
  refine Calls.mono (HIt.out _ hb0) ?_
  rintro e w1 ⟨hg1, hcase⟩
  have hb1 : Below w.heap.size w w1 := hb0.trans (hg1.mono hb0.size)
  have k0 := cell_keeps hg1 k0; have k1 := cell_keeps hg1 k1; have k2 := cell_keeps hg1 k2; have k3 := cell_keeps hg1 k3
  have HB1 : Hid _ := HBe.out _ hb1
  clear HIt HBk HBe
  rcases hcase with ⟨hE, rfl⟩ | ⟨hE, a, c, b, rfl, hb, hcb, hlx⟩
  · have hne : (E != 0) = true := by simp [hE]
    clear hg1 hb0 k0 k1 k2 k3 HB1
    go_wp2_with fail
    refine Calls.mono (HSp.out _) ?_
    rintro e wz ⟨rfl, hgz⟩
    have hbz : Below w.heap.size w wz := hb1.trans (hgz.mono hb1.size)
    clear hgz
    go_wp2_with fail
    go_ret
    exact ⟨rfl, hbz⟩
  · obtain ⟨hq8, hr, hl16⟩ := HRt.out hE
    subst hE
    have hwb : w.heap.size ≤ b := Nat.le_trans hb0.size hb
    have HC1 : Hid (CB w1 b (stepV q 0 v (.slice a v.items.length c)) 0 zeroT (.slice none 0 0) none ∧ LiesX (fun n => w.heap.size ≤ n ∧ n ≠ b) 16 w1 v.items (.slice a v.items.length c)) := by
      have hs0 := hb0.size
      exact ⟨hcb, LiesX.mono (fun n hn => ⟨by omega, hn.2⟩) hlx⟩
    have HR : Hid (q < 8 ∧ rightV 16 v = true ∧ Dp 16 v ∧ Lies 16 w v.items (.slice au v.items.length cu) ∧ w.heap.size ≤ b) := ⟨hq8, hr, Dp.of_lies 16 w v _ hl16, hl16, hwb⟩
    clear hg1 hb0 hb hcb hlx hq8 hr hl16 hwb HRt
    go_wp2_with fail
    refine Calls.mono HB1.out ?_
    rintro e w2 ⟨hg2, ⟨h0, _⟩ | ⟨_, b2, rfl, hb2', hdb⟩⟩
    · exact absurd rfl h0
    have hst : St22 w b b2 q v w2 := by
      obtain ⟨h1, h2, h3, h4, h5⟩ := HR.out
      obtain ⟨hc1, hlx1⟩ := HC1.out
      have hbl := hc1.lt
      have hs1 := hb1.size
      have hb2 : Below w.heap.size w w2 := hb1.trans (hg2.mono hb1.size)
      have hlw := (LiesX.of_lies h4).keeps hb2
      refine ⟨hb2, 0, fun _ => b, fun _ => b2, rfl, rfl, fun i _ => (show w.heap.size ≤ b2 by omega), ?_, ?_⟩
      · refine ⟨h1, h2, h3, fun i j hi hj _ => by omega, fun i _ => ⟨h5, fun _ _ => (show b ≠ b2 by omega)⟩, fun i hi => by omega, 0, v, a, c, by omega, rfl, h2, hc1.keeps hg2, ?_⟩
        exact LiesX.mono (fun n hn => ⟨⟨hn.1.1, fun _ _ => (show n ≠ b2 by have := hn.2; omega)⟩, fun _ _ => hn.1.2⟩) (hlx1.both.keeps hg2)
      · refine ⟨h1, h2, h3, fun i j hi hj _ => by omega, fun i _ => fun _ _ => (show b2 ≠ b by omega), fun i hi => by omega, 1, v, au, cu, .inl ⟨rfl, rfl⟩, h2, hdb, ?_⟩
        exact LiesX.mono (fun n hn => ⟨fun _ _ => (show n ≠ b by omega), fun _ _ => (show n ≠ b2 by omega)⟩) hlw
    have HS0 : Hid (St22 w b b2 q v w2) := hst
    clear hg2 hb2' hdb hst hb1 HB1 HC1 HR k0 k1 k2 k3
    go_wp2_with fail
    go_loopg [11] 12 (fun g i wr => ∃ j : Nat, i = .int .i64 (j : Int) ∧ j ≤ 12 ∧ g = 12 - j ∧ Hid (St22 w b b2 q v wr))
    case atStart => exact ⟨0, rfl, by omega, by omega, HS0.out⟩
    case round =>
      obtain ⟨j, rfl, hj, hg, HSt⟩ := hrel
      have Hg : Hid _ := hg
      clear hg HS0
      by_cases hlt : j < LL
      · have hji : (j : Int) < (LL : Int) := by omega
        by_cases h12 : j < 12
        · have hj12 : (j : Int) < 12 := by omega
          have hjq : j < qs.length := by have := HLL.out; omega
          obtain ⟨br, orr, rfl, hall⟩ := HRow.out (by intro e; simp [e] at hjq)
          obtain ⟨r0, r1⟩ := hall j hjq
          have r0 := cell_keeps HSt.out.1 r0
          have r1 := cell_keeps HSt.out.1 r1
          clear hall
          generalize (qs[j]'hjq).1 = N at *
          generalize (qs[j]'hjq).2 = F at *
          have e9 : IntKind.i64.wrap ((j : Int) + 1) = ((j + 1 : Nat) : Int) := by rw [IntKind.wrap_i64]; omega
          obtain ⟨nb, hnb⟩ : ∃ nb, wr.heap.size = nb := ⟨_, rfl⟩
          have Hnb : Hid (wr.heap.size = nb) := hnb
          obtain ⟨W1, hW1⟩ : ∃ W1, W1 = wr.alloc (.cells #[.int .i64 N, .int .i64 F] 35) := ⟨_, rfl⟩
          have HW1 : Hid (W1 = wr.alloc (.cells #[.int .i64 N, .int .i64 F] 35)) := hW1
          have hbW : Below wr.heap.size wr W1 := by rw [hW1]; exact ((Grew.refl _).alloc _).below
          have y0 : W1.cell? ⟨nb, 0, none⟩ = some (.int .i64 N) := by rw [hW1, ← hnb]; simp
          have y1 : W1.cell? ⟨nb, 1, none⟩ = some (.int .i64 F) := by rw [hW1, ← hnb]; simp
          have g1 : W1.frozen? ⟨nb, 1, none⟩ = false := by rw [hW1, ← hnb]; simp
          clear hW1 hjq
          go_upto_region 9 with fail
          rw [← HW1.out]
          clear HW1 hnb r0 r1
          by_cases hN : (3000 : Int) < N
          · by_cases hF : (3000 : Int) < F
            · obtain ⟨W2, hW2⟩ : ∃ W2, W2 = W1.setCell ⟨nb, 1, none⟩ (.int .i64 3000) := ⟨_, rfl⟩
              have HW2 : Hid (W2 = W1.setCell ⟨nb, 1, none⟩ (.int .i64 3000)) := hW2
              have hbW : Below wr.heap.size wr W2 := by rw [hW2]; exact hbW.setCell (p := ⟨nb, 1, none⟩) (Nat.le_of_eq Hnb.out) _
              have u0 : W2.cell? ⟨nb, 0, none⟩ = some (.int .i64 N) := by rw [hW2]; exact setc_ne (by omega) y0
              have u1 : W2.cell? ⟨nb, 1, none⟩ = some (.int .i64 3000) := by rw [hW2]; exact World.cell?_setCell_same _ _ _ y1
              clear hW2
              go_upto_region 11 with fail
              rw [← HW2.out]
              clear HW2 y0 y1 g1
              have y0 := u0
              have y1 := u1
              clear u0 u1
              have HM : Hid (Calls Try.prog 10 #[.pointer (some ⟨b, 0, none⟩), .int .i64 N, .int .i64 3000] W2 (Mid22 w b b2 q v N 3000 wr W2)) := HSt.out.ahead hbW N 3000
              clear HSt
              go_wp2_with fail
              refine Calls.mono HM.out ?_
              rintro e w4 ⟨L, E2, rfl, hcell, hra⟩
              have y0 := hcell _ _ (Nat.le_of_eq Hnb.out) y0
              have y1 := hcell _ _ (Nat.le_of_eq Hnb.out) y1
              have HRA : Hid _ := hra
              clear hcell hra HM hbW
              go_wp2_with fail
              refine Calls.mono HRA.out ?_
              rintro e w5 ⟨rfl, hst⟩
              obtain ⟨M, hk1, hk2⟩ := hst.known
              have HK1 : Hid _ := hk1
              have HK2 : Hid _ := hk2
              have HSt : Hid (St22 w b b2 q v w5) := hst
              have q1 : (L != L) = false := by simp
              have q2 : (E2 != E2) = false := by simp
              have q3 : (M != M) = false := by simp
              clear hst hk1 hk2 HRA y0 y1
              go_wp2_with fail
              refine Calls.mono HK1.out ?_
              rintro e w9 ⟨rfl, hw9⟩
              obtain rfl : w5 = w9 := hw9.symm
              clear hw9 HK1
              go_wp2_with fail
              refine Calls.mono HK2.out ?_
              rintro e w9 ⟨rfl, hw9⟩
              obtain rfl : w5 = w9 := hw9.symm
              clear hw9 HK2
              go_wp2_with fail
              go_roundg (12 - (j + 1))
              case measure => have := Hg.out; omega
              case rel => exact ⟨j + 1, rfl, by omega, rfl, HSt.out⟩
            · clear g1
              have HM : Hid (Calls Try.prog 10 #[.pointer (some ⟨b, 0, none⟩), .int .i64 N, .int .i64 F] W1 (Mid22 w b b2 q v N F wr W1)) := HSt.out.ahead hbW N F
              clear HSt
              go_wp2_with fail
              refine Calls.mono HM.out ?_
              rintro e w4 ⟨L, E2, rfl, hcell, hra⟩
              have y0 := hcell _ _ (Nat.le_of_eq Hnb.out) y0
              have y1 := hcell _ _ (Nat.le_of_eq Hnb.out) y1
              have HRA : Hid _ := hra
              clear hcell hra HM hbW
              go_wp2_with fail
              refine Calls.mono HRA.out ?_
              rintro e w5 ⟨rfl, hst⟩
              obtain ⟨M, hk1, hk2⟩ := hst.known
              have HK1 : Hid _ := hk1
              have HK2 : Hid _ := hk2
              have HSt : Hid (St22 w b b2 q v w5) := hst
              have q1 : (L != L) = false := by simp
              have q2 : (E2 != E2) = false := by simp
              have q3 : (M != M) = false := by simp
              clear hst hk1 hk2 HRA y0 y1
              go_wp2_with fail
              refine Calls.mono HK1.out ?_
              rintro e w9 ⟨rfl, hw9⟩
              obtain rfl : w5 = w9 := hw9.symm
              clear hw9 HK1
              go_wp2_with fail
              refine Calls.mono HK2.out ?_
              rintro e w9 ⟨rfl, hw9⟩
              obtain rfl : w5 = w9 := hw9.symm
              clear hw9 HK2
              go_wp2_with fail
              go_roundg (12 - (j + 1))
              case measure => have := Hg.out; omega
              case rel => exact ⟨j + 1, rfl, by omega, rfl, HSt.out⟩
          · clear g1
            have HM : Hid (Calls Try.prog 10 #[.pointer (some ⟨b, 0, none⟩), .int .i64 N, .int .i64 F] W1 (Mid22 w b b2 q v N F wr W1)) := HSt.out.ahead hbW N F
            clear HSt
            go_wp2_with fail
            refine Calls.mono HM.out ?_
            rintro e w4 ⟨L, E2, rfl, hcell, hra⟩
            have y0 := hcell _ _ (Nat.le_of_eq Hnb.out) y0
            have y1 := hcell _ _ (Nat.le_of_eq Hnb.out) y1
            have HRA : Hid _ := hra
            clear hcell hra HM hbW
            go_wp2_with fail
            refine Calls.mono HRA.out ?_
            rintro e w5 ⟨rfl, hst⟩
            obtain ⟨M, hk1, hk2⟩ := hst.known
            have HK1 : Hid _ := hk1
            have HK2 : Hid _ := hk2
            have HSt : Hid (St22 w b b2 q v w5) := hst
            have q1 : (L != L) = false := by simp
            have q2 : (E2 != E2) = false := by simp
            have q3 : (M != M) = false := by simp
            clear hst hk1 hk2 HRA y0 y1
            go_wp2_with fail
            refine Calls.mono HK1.out ?_
            rintro e w9 ⟨rfl, hw9⟩
            obtain rfl : w5 = w9 := hw9.symm
            clear hw9 HK1
            go_wp2_with fail
            refine Calls.mono HK2.out ?_
            rintro e w9 ⟨rfl, hw9⟩
            obtain rfl : w5 = w9 := hw9.symm
            clear hw9 HK2
            go_wp2_with fail
            go_roundg (12 - (j + 1))
            case measure => have := Hg.out; omega
            case rel => exact ⟨j + 1, rfl, by omega, rfl, HSt.out⟩
        · have hj12 : ¬ (j : Int) < 12 := by omega
          have hbr : Below w.heap.size w wr := HSt.out.1
          go_wp2_with fail
          refine Calls.mono (HSp.out _) ?_
          rintro e wz ⟨rfl, hgz⟩
          have hbz : Below w.heap.size w wz := hbr.trans (hgz.mono hbr.size)
          clear hgz
          go_wp2_with fail
          go_ret
          exact ⟨rfl, hbz⟩
      · have hji : ¬ (j : Int) < (LL : Int) := by omega
        have hbr : Below w.heap.size w wr := HSt.out.1
        go_wp2_with fail
        refine Calls.mono (HSp.out _) ?_
        rintro e wz ⟨rfl, hgz⟩
        have hbz : Below w.heap.size w wz := hbr.trans (hgz.mono hbr.size)
        clear hgz
        go_wp2_with fail
        go_ret
        exact ⟨rfl, hbz⟩

end Go.Proofs.Ytmmppmioackiaab

