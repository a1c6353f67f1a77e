/-
  SeqAsks.
-/
import Derived.Test.YtbhfbjbigafnpaaGreatAskedS
namespace Go.Proofs.YtbhfbjbigafnpaaGreat
open Go.RowKit Go.Shelf

/-- The slice holds these questions: three numbers each. -/
def SlK (w : World) (qs : List (Int × Int × Int)) (v : Value) : Prop :=
  ∃ a c, v = .slice a qs.length c ∧ qs.length ≤ 9223372036854775807 ∧ (qs ≠ [] → ∃ b o, a = some ⟨b, o, none⟩ ∧ ∀ (i : Nat) (h : i < qs.length), w.cell? ⟨b, o + i * 3, none⟩ = some (.int .i64 (qs[i]'h).1) ∧ w.cell? ⟨b, o + i * 3 + 1, none⟩ = some (.int .i64 (qs[i]'h).2.1) ∧ w.cell? ⟨b, o + i * 3 + 2, none⟩ = some (.int .i64 (qs[i]'h).2.2))

/-- Both are known as far. -/
theorem St23.known {w0 : World} {c d : Nat} {vs : List VT} {T : Tl} {w : World} (s : St23 w0 c d vs T w) : ∃ M : Int, Calls Tryz.prog 13 #[.pointer (some ⟨c, 0, none⟩)] w (fun e w' => e = .returned (.int .i64 M) ∧ w' = w) ∧ Calls Tryz.prog 14 #[.pointer (some ⟨d, 0, none⟩)] w (fun e w' => e = .returned (.int .i64 M) ∧ w' = w) := by
  obtain ⟨_, YP, YD, P, Q, rfl, rfl, h3, h4, _, _, _⟩ := s
  refine ⟨((min vs.length 65536 : Nat) : Int), known_len _ P vs.length w w (own_some22 (P 0) w) (fun i hi => ?_) ?_, ?_⟩
  · obtain ⟨a, c, hc, _⟩ := h3.known i _ (List.getElem?_eq_getElem hi)
    exact hc.c6
  · match T, h3 with
    | none, h3 => exact (h3.ende rfl).c6
    | some (q, x), h3 =>
      obtain ⟨_, _, _, z, a, c, _, ⟨m, _, _, hc⟩, _⟩ := h3.lazy q x rfl
      exact hc.c6
  · have hk : ∀ i, i < vs.length → w.cell? ⟨Q i, 0, none⟩ = some (.bool true) ∧ w.cell? ⟨Q i, 1, none⟩ = some (.bool true) ∧ w.cell? ⟨Q i, 6, none⟩ = some (.pointer (some ⟨Q (i + 1), 0, none⟩)) := fun i hi => by
      obtain ⟨a, c, ⟨kd, q, z, uz, hc⟩, _⟩ := h4.known i _ (List.getElem?_eq_getElem hi)
      exact ⟨hc.c0, hc.c1, hc.c6⟩
    match T, h4 with
    | none, h4 => exact rknown_end Q vs.length w hk ⟨(h4.ende rfl).c0, (h4.ende rfl).c1⟩
    | some (q, x), h4 =>
      obtain ⟨_, _, _, z, a, c, _, ⟨kd, _, hc⟩, _⟩ := h4.lazy q x rfl
      exact rknown_len Q vs.length w hk hc.c0

set_option maxRecDepth 100000 in
set_option maxHeartbeats 16000000 in
theorem asks_walk (d : Nat) (L : List VT) (aL : Option Addr) (cL : Nat) (o : Int) (v : VT) (av : Option Addr) (cv : Nat) (E : Bool) (qs : List (Int × Int × Int)) (l : Value) (w : World) (hL : Lies (d + 1) w L (.slice aL L.length cL)) (hv : Lies d w v.items (.slice av v.items.length cv)) (hvt : v.text.size ≤ 9223372036854775807) (hl : SlK w qs l) :
    Calls Tryz.prog 3 #[fromV aL L.length cL o v (.slice av v.items.length cv) E, l] w fun e w' => e = .returned (.bool true) ∧ Below w.heap.size w w' := by
  have HSp : Hid (∀ V, Calls Tryz.prog 9 #[] V fun e w' => e = .returned (.bool true) ∧ Below V.heap.size V w') := speaks23_any
  obtain ⟨W, hW⟩ : ∃ W, W = w.alloc (.cells #[.slice aL L.length cL, .int .i64 o, .int .i64 v.kind, .int .i64 v.num, .string v.text, .slice av v.items.length cv, .bool E] 26) := ⟨_, rfl⟩
  have HW : Hid (W = w.alloc (.cells #[.slice aL L.length cL, .int .i64 o, .int .i64 v.kind, .int .i64 v.num, .string v.text, .slice av v.items.length cv, .bool E] 26)) := hW
  have hb0 : Below w.heap.size w W := by rw [hW]; exact ((Grew.refl w).alloc _).below
  have k0 : W.cell? ⟨w.heap.size, 0, none⟩ = some (.slice aL L.length cL) := by rw [hW]; simp
  have k1 : W.cell? ⟨w.heap.size, 1, none⟩ = some (.int .i64 o) := by rw [hW]; simp
  have k2 : W.cell? ⟨w.heap.size, 2, none⟩ = some (.int .i64 v.kind) := by rw [hW]; simp
  have k3 : W.cell? ⟨w.heap.size, 3, none⟩ = some (.int .i64 v.num) := by rw [hW]; simp
  have k4 : W.cell? ⟨w.heap.size, 4, none⟩ = some (.string v.text) := by rw [hW]; simp
  have k5 : W.cell? ⟨w.heap.size, 5, none⟩ = some (.slice av v.items.length cv) := by rw [hW]; simp
  have k6 : W.cell? ⟨w.heap.size, 6, none⟩ = some (.bool E) := by rw [hW]; simp
  have HMa : Hid (Calls Tryz.prog 7 #[fromV aL L.length cL o v (.slice av v.items.length cv) E] W (SmPost pCK (fun n => W.heap.size ≤ n) d L E o v W)) := smade_any d L aL cL o v av cv E W (Lies.keeps hb0 _ _ _ hL) (Lies.keeps hb0 _ _ _ hv) hvt
  have HMe : Hid (∀ V, Below W.heap.size W V → Calls Tryz.prog 8 #[fromV aL L.length cL o v (.slice av v.items.length cv) E] V (SmPost dCK (fun n => n < w.heap.size ∨ V.heap.size ≤ n) d L E o v V)) := fun V hV => by
    have hb : Below w.heap.size w V := hb0.trans (hV.mono hb0.size)
    exact smeant_any d L aL cL o v av cv E w.heap.size V hb.size ((LiesX.of_lies hL).keeps hb) ((LiesX.of_lies hv).keeps hb) hvt
  obtain ⟨al, cl, rfl, hql, hrow⟩ := hl
  have HRow : Hid _ := hrow
  obtain ⟨LL, hLL⟩ : ∃ LL, LL = qs.length := ⟨_, rfl⟩
  have HLL : Hid (LL = qs.length) := hLL
  have hLz : LL ≤ 9223372036854775807 := by omega
  rw [← hLL]
  have hws := hb0.size
  clear hL hv hvt hrow hLL hql hW
  go_enter Tryz.func3, Tryz.ntmps3
  go_upto_region 1 with fail
  rw [← HW.out]
  clear HW
  go_wp2_with fail
  refine Calls.mono HMa.out ?_
  rintro e w1 ⟨hg1, hres1⟩
  have HB2 : Hid _ := HMe.out _ hg1
  have k0 := cell_keeps hg1 k0; have k1 := cell_keeps hg1 k1; have k2 := cell_keeps hg1 k2; have k3 := cell_keeps hg1 k3; have k4 := cell_keeps hg1 k4; have k5 := cell_keeps hg1 k5; have k6 := cell_keeps hg1 k6
  have hb1 : Below w.heap.size w w1 := hb0.trans (hg1.mono hb0.size)
  have hs1 := hg1.size
  clear HMa HMe hb0
  rcases hres1 with ⟨hno, rfl⟩ | ⟨hok, P, rfl, hC1, hP1⟩
  · go_wp2_with fail
    refine Calls.mono HB2.out ?_
    rintro e w2 ⟨hg2, ⟨_, rfl⟩ | ⟨hok, _⟩⟩
    · have hb2 : Below w.heap.size w w2 := hb1.trans (hg2.mono hb1.size)
      clear hg2 HB2 hno hb1 hg1 k0 k1 k2 k3 k4 k5 k6 HRow
      go_wp2_with fail
      refine Calls.mono (HSp.out _) ?_
      rintro e wz ⟨rfl, hgz⟩
      have hbz : Below w.heap.size w wz := hb2.trans (hgz.mono hb2.size)
      clear hgz hb2
      go_wp2_with fail
      go_ret
      exact ⟨rfl, hbz⟩
    · exact absurd hok hno
  · generalize hc : P 0 = c
    go_wp2_with fail
    refine Calls.mono HB2.out ?_
    rintro e w2 ⟨hg2, ⟨hno, _⟩ | ⟨_, Q, rfl, hC2, hQ2⟩⟩
    · exact absurd hok hno
    have hb2 : Below w.heap.size w w2 := hb1.trans (hg2.mono hb1.size)
    have HS0 : Hid (St23 w c (Q 0) L (fromT E o v) w2) := by
      refine ⟨hb2, fun n => W.heap.size ≤ n ∧ n < w1.heap.size, fun n => n < w.heap.size ∨ w1.heap.size ≤ n, P, Q, hc, rfl, (hC1.monoY (fun n hn hy => ⟨hy, hn⟩)).keeps hg2, hC2, ?_, fun j hj => ?_, fun j hj => ?_⟩
      · rintro n h1 (h2 | h2)
        · have := h1.1; omega
        · have := h1.2; omega
      · have := hP1 j hj; omega
      · have := hQ2 j hj; have := hb1.size; omega
    generalize Q 0 = dd at *
    clear hg2 HB2 hok hb1 hg1 k0 k1 k2 k3 k4 k5 k6 hC1 hP1 hC2 hQ2 hc hb2 hs1 hws
    go_wp2_with fail
    go_loopg [5, 6, 7] 12 (fun g vc vd i wr => ∃ j c d : Nat, vc = .pointer (some ⟨c, 0, none⟩) ∧ vd = .pointer (some ⟨d, 0, none⟩) ∧ i = .int .i64 (j : Int) ∧ j ≤ 12 ∧ g = 12 - j ∧ Hid (∃ vs T, St23 w c d vs T wr))
    case atStart => exact ⟨0, c, dd, rfl, rfl, rfl, by omega, by omega, _, _, HS0.out⟩
    case round =>
      obtain ⟨j, c, d, rfl, rfl, rfl, hj, hg, HSt⟩ := hrel
      have Hg : Hid (gk = 12 - j) := hg
      clear hg HS0 k0 k1 k2 k3 k4 k5 k6
      by_cases hj1 : j < LL
      · have hji : (j : Int) < (LL : Int) := by omega
        by_cases hj2 : j < 12
        · have hj3 : (j : Int) < 12 := by omega
          have e1 : IntKind.i64.wrap ((j : Int) + 1) = ((j + 1 : Nat) : Int) := by rw [IntKind.wrap_i64]; omega
          have hq : j < qs.length := by have := HLL.out; omega
          have hne : qs ≠ [] := by intro h; rw [h] at hq; simp at hq
          obtain ⟨bb, oo, rfl, hall⟩ := HRow.out hne
          have hbr : Below w.heap.size w wr := by obtain ⟨vs, T, hst⟩ := HSt.out; exact hst.1
          obtain ⟨r0, r1, r2⟩ := hall j hq
          have r0 := cell_keeps hbr r0; have r1 := cell_keeps hbr r1; have r2 := cell_keeps hbr r2
          have i1 : (0 : Int) ≤ (j : Int) := by omega
          generalize qs[j].1 = k at *
          generalize qs[j].2.1 = n at *
          generalize qs[j].2.2 = f at *
          clear hall hne hbr HRow hq
          by_cases c1 : 3000 < n
          · by_cases c2 : 3000 < f
            · have hVb : Below wr.heap.size wr (wr.alloc (.cells #[.int .i64 k, .int .i64 n, .int .i64 3000] 34)) := ((Grew.refl wr).alloc _).below
              by_cases e2 : k = 2
              · subst e2
                have HA : Hid (Calls Tryz.prog 10 #[.pointer (some ⟨c, 0, none⟩), .pointer (some ⟨d, 0, none⟩), .agg #[.int .i64 2, .int .i64 n, .int .i64 3000]] (wr.alloc (.cells #[.int .i64 2, .int .i64 n, .int .i64 3000] 34)) fun e w' => e = .returned (.bool true) ∧ Below (wr.alloc (.cells #[.int .i64 2, .int .i64 n, .int .i64 3000] 34)).heap.size (wr.alloc (.cells #[.int .i64 2, .int .i64 n, .int .i64 3000] 34)) w') := sasked_other _ _ 2 n 3000 (by omega) (by omega) (by omega) _
                have HVb : Hid (Below wr.heap.size wr (wr.alloc (.cells #[.int .i64 2, .int .i64 n, .int .i64 3000] 34))) := hVb
                clear hVb
                go_wp2_with fail
                refine Calls.mono HA.out ?_
                rintro e w3 ⟨rfl, hg3⟩
                have y0 : w3.cell? ⟨wr.heap.size, 0, none⟩ = some (.int .i64 2) := cell_keeps hg3 (by simp)
                have y1 : w3.cell? ⟨wr.heap.size, 1, none⟩ = some (.int .i64 n) := cell_keeps hg3 (by simp)
                have y2 : w3.cell? ⟨wr.heap.size, 2, none⟩ = some (.int .i64 3000) := cell_keeps hg3 (by simp)
                have hb3 : Below wr.heap.size wr w3 := HVb.out.trans (hg3.mono HVb.out.size)
                obtain ⟨vs, T, hst⟩ := HSt.out
                have HD : Hid _ := hst.drop hb3 n 3000
                clear hg3 hb3 hst HA HVb HSt
                go_wp2_with fail
                refine Calls.mono HD.out ?_
                rintro e w4 ⟨hk4, pd, left, E4, rfl, hdoc⟩
                have hnB : ¬ wr.heap.size < wr.heap.size := by omega
                have y1 := hk4.cell (a := ⟨wr.heap.size, 1, none⟩) hnB y1
                have y2 := hk4.cell (a := ⟨wr.heap.size, 2, none⟩) hnB y2
                have HD2 : Hid _ := hdoc
                clear hk4 hdoc HD y0
                go_wp2_with fail
                refine Calls.mono HD2.out ?_
                rintro e w5 ⟨hk5, pd2, vs', T', rfl, ⟨hE, rfl, rfl, hst⟩ | ⟨rfl, c', d', rfl, rfl, hst⟩⟩
                · have HS5 : Hid (St23 w c d vs' T' w5) := hst
                  have e7 : (E4 != E4) = false := by simp
                  have e8 : (E4 != 0) = true := by simp [hE]
                  have e9 : (E4 == 0) = false := by simp [hE]
                  clear hst hk5 HD2 y1 y2
                  go_wp2_with fail
                  go_roundg (12 - (j + 1))
                  case measure => have := Hg.out; omega
                  case rel => exact ⟨j + 1, c, d, rfl, rfl, by go_num, by omega, rfl, vs', T', HS5.out⟩
                · have HS5 : Hid (St23 w c' d' vs' T' w5) := hst
                  clear hst hk5 HD2 y1 y2
                  go_wp2_with fail
                  go_roundg (12 - (j + 1))
                  case measure => have := Hg.out; omega
                  case rel => exact ⟨j + 1, c', d', rfl, rfl, by go_num, by omega, rfl, vs', T', HS5.out⟩
              · obtain ⟨vs, T, hst⟩ := HSt.out
                have HA : Hid (Calls Tryz.prog 10 #[.pointer (some ⟨c, 0, none⟩), .pointer (some ⟨d, 0, none⟩), .agg #[.int .i64 k, .int .i64 n, .int .i64 3000]] (wr.alloc (.cells #[.int .i64 k, .int .i64 n, .int .i64 3000] 34)) (AskPost w c d wr (wr.alloc (.cells #[.int .i64 k, .int .i64 n, .int .i64 3000] 34)))) := sasked_any hst hVb k n 3000
                clear hst hVb HSt
                go_wp2_with fail
                refine Calls.mono HA.out ?_
                rintro e w3 ⟨rfl, hk3, vs', T', hst⟩
                have hnB : ¬ wr.heap.size < wr.heap.size := by omega
                have y0 : w3.cell? ⟨wr.heap.size, 0, none⟩ = some (.int .i64 k) := hk3.cell (a := ⟨wr.heap.size, 0, none⟩) hnB (by simp)
                have HS3 : Hid (St23 w c d vs' T' w3) := hst
                clear hk3 hst HA
                go_wp2_with fail
                go_roundg (12 - (j + 1))
                case measure => have := Hg.out; omega
                case rel => exact ⟨j + 1, c, d, rfl, rfl, by go_num, by omega, rfl, vs', T', HS3.out⟩
            · have hVb : Below wr.heap.size wr (wr.alloc (.cells #[.int .i64 k, .int .i64 n, .int .i64 f] 34)) := ((Grew.refl wr).alloc _).below
              by_cases e2 : k = 2
              · subst e2
                have HA : Hid (Calls Tryz.prog 10 #[.pointer (some ⟨c, 0, none⟩), .pointer (some ⟨d, 0, none⟩), .agg #[.int .i64 2, .int .i64 n, .int .i64 f]] (wr.alloc (.cells #[.int .i64 2, .int .i64 n, .int .i64 f] 34)) fun e w' => e = .returned (.bool true) ∧ Below (wr.alloc (.cells #[.int .i64 2, .int .i64 n, .int .i64 f] 34)).heap.size (wr.alloc (.cells #[.int .i64 2, .int .i64 n, .int .i64 f] 34)) w') := sasked_other _ _ 2 n f (by omega) (by omega) (by omega) _
                have HVb : Hid (Below wr.heap.size wr (wr.alloc (.cells #[.int .i64 2, .int .i64 n, .int .i64 f] 34))) := hVb
                clear hVb
                go_wp2_with fail
                refine Calls.mono HA.out ?_
                rintro e w3 ⟨rfl, hg3⟩
                have y0 : w3.cell? ⟨wr.heap.size, 0, none⟩ = some (.int .i64 2) := cell_keeps hg3 (by simp)
                have y1 : w3.cell? ⟨wr.heap.size, 1, none⟩ = some (.int .i64 n) := cell_keeps hg3 (by simp)
                have y2 : w3.cell? ⟨wr.heap.size, 2, none⟩ = some (.int .i64 f) := cell_keeps hg3 (by simp)
                have hb3 : Below wr.heap.size wr w3 := HVb.out.trans (hg3.mono HVb.out.size)
                obtain ⟨vs, T, hst⟩ := HSt.out
                have HD : Hid _ := hst.drop hb3 n f
                clear hg3 hb3 hst HA HVb HSt
                go_wp2_with fail
                refine Calls.mono HD.out ?_
                rintro e w4 ⟨hk4, pd, left, E4, rfl, hdoc⟩
                have hnB : ¬ wr.heap.size < wr.heap.size := by omega
                have y1 := hk4.cell (a := ⟨wr.heap.size, 1, none⟩) hnB y1
                have y2 := hk4.cell (a := ⟨wr.heap.size, 2, none⟩) hnB y2
                have HD2 : Hid _ := hdoc
                clear hk4 hdoc HD y0
                go_wp2_with fail
                refine Calls.mono HD2.out ?_
                rintro e w5 ⟨hk5, pd2, vs', T', rfl, ⟨hE, rfl, rfl, hst⟩ | ⟨rfl, c', d', rfl, rfl, hst⟩⟩
                · have HS5 : Hid (St23 w c d vs' T' w5) := hst
                  have e7 : (E4 != E4) = false := by simp
                  have e8 : (E4 != 0) = true := by simp [hE]
                  have e9 : (E4 == 0) = false := by simp [hE]
                  clear hst hk5 HD2 y1 y2
                  go_wp2_with fail
                  go_roundg (12 - (j + 1))
                  case measure => have := Hg.out; omega
                  case rel => exact ⟨j + 1, c, d, rfl, rfl, by go_num, by omega, rfl, vs', T', HS5.out⟩
                · have HS5 : Hid (St23 w c' d' vs' T' w5) := hst
                  clear hst hk5 HD2 y1 y2
                  go_wp2_with fail
                  go_roundg (12 - (j + 1))
                  case measure => have := Hg.out; omega
                  case rel => exact ⟨j + 1, c', d', rfl, rfl, by go_num, by omega, rfl, vs', T', HS5.out⟩
              · obtain ⟨vs, T, hst⟩ := HSt.out
                have HA : Hid (Calls Tryz.prog 10 #[.pointer (some ⟨c, 0, none⟩), .pointer (some ⟨d, 0, none⟩), .agg #[.int .i64 k, .int .i64 n, .int .i64 f]] (wr.alloc (.cells #[.int .i64 k, .int .i64 n, .int .i64 f] 34)) (AskPost w c d wr (wr.alloc (.cells #[.int .i64 k, .int .i64 n, .int .i64 f] 34)))) := sasked_any hst hVb k n f
                clear hst hVb HSt
                go_wp2_with fail
                refine Calls.mono HA.out ?_
                rintro e w3 ⟨rfl, hk3, vs', T', hst⟩
                have hnB : ¬ wr.heap.size < wr.heap.size := by omega
                have y0 : w3.cell? ⟨wr.heap.size, 0, none⟩ = some (.int .i64 k) := hk3.cell (a := ⟨wr.heap.size, 0, none⟩) hnB (by simp)
                have HS3 : Hid (St23 w c d vs' T' w3) := hst
                clear hk3 hst HA
                go_wp2_with fail
                go_roundg (12 - (j + 1))
                case measure => have := Hg.out; omega
                case rel => exact ⟨j + 1, c, d, rfl, rfl, by go_num, by omega, rfl, vs', T', HS3.out⟩
          · have hVb : Below wr.heap.size wr (wr.alloc (.cells #[.int .i64 k, .int .i64 n, .int .i64 f] 34)) := ((Grew.refl wr).alloc _).below
            by_cases e2 : k = 2
            · subst e2
              have HA : Hid (Calls Tryz.prog 10 #[.pointer (some ⟨c, 0, none⟩), .pointer (some ⟨d, 0, none⟩), .agg #[.int .i64 2, .int .i64 n, .int .i64 f]] (wr.alloc (.cells #[.int .i64 2, .int .i64 n, .int .i64 f] 34)) fun e w' => e = .returned (.bool true) ∧ Below (wr.alloc (.cells #[.int .i64 2, .int .i64 n, .int .i64 f] 34)).heap.size (wr.alloc (.cells #[.int .i64 2, .int .i64 n, .int .i64 f] 34)) w') := sasked_other _ _ 2 n f (by omega) (by omega) (by omega) _
              have HVb : Hid (Below wr.heap.size wr (wr.alloc (.cells #[.int .i64 2, .int .i64 n, .int .i64 f] 34))) := hVb
              clear hVb
              go_wp2_with fail
              refine Calls.mono HA.out ?_
              rintro e w3 ⟨rfl, hg3⟩
              have y0 : w3.cell? ⟨wr.heap.size, 0, none⟩ = some (.int .i64 2) := cell_keeps hg3 (by simp)
              have y1 : w3.cell? ⟨wr.heap.size, 1, none⟩ = some (.int .i64 n) := cell_keeps hg3 (by simp)
              have y2 : w3.cell? ⟨wr.heap.size, 2, none⟩ = some (.int .i64 f) := cell_keeps hg3 (by simp)
              have hb3 : Below wr.heap.size wr w3 := HVb.out.trans (hg3.mono HVb.out.size)
              obtain ⟨vs, T, hst⟩ := HSt.out
              have HD : Hid _ := hst.drop hb3 n f
              clear hg3 hb3 hst HA HVb HSt
              go_wp2_with fail
              refine Calls.mono HD.out ?_
              rintro e w4 ⟨hk4, pd, left, E4, rfl, hdoc⟩
              have hnB : ¬ wr.heap.size < wr.heap.size := by omega
              have y1 := hk4.cell (a := ⟨wr.heap.size, 1, none⟩) hnB y1
              have y2 := hk4.cell (a := ⟨wr.heap.size, 2, none⟩) hnB y2
              have HD2 : Hid _ := hdoc
              clear hk4 hdoc HD y0
              go_wp2_with fail
              refine Calls.mono HD2.out ?_
              rintro e w5 ⟨hk5, pd2, vs', T', rfl, ⟨hE, rfl, rfl, hst⟩ | ⟨rfl, c', d', rfl, rfl, hst⟩⟩
              · have HS5 : Hid (St23 w c d vs' T' w5) := hst
                have e7 : (E4 != E4) = false := by simp
                have e8 : (E4 != 0) = true := by simp [hE]
                have e9 : (E4 == 0) = false := by simp [hE]
                clear hst hk5 HD2 y1 y2
                go_wp2_with fail
                go_roundg (12 - (j + 1))
                case measure => have := Hg.out; omega
                case rel => exact ⟨j + 1, c, d, rfl, rfl, by go_num, by omega, rfl, vs', T', HS5.out⟩
              · have HS5 : Hid (St23 w c' d' vs' T' w5) := hst
                clear hst hk5 HD2 y1 y2
                go_wp2_with fail
                go_roundg (12 - (j + 1))
                case measure => have := Hg.out; omega
                case rel => exact ⟨j + 1, c', d', rfl, rfl, by go_num, by omega, rfl, vs', T', HS5.out⟩
            · obtain ⟨vs, T, hst⟩ := HSt.out
              have HA : Hid (Calls Tryz.prog 10 #[.pointer (some ⟨c, 0, none⟩), .pointer (some ⟨d, 0, none⟩), .agg #[.int .i64 k, .int .i64 n, .int .i64 f]] (wr.alloc (.cells #[.int .i64 k, .int .i64 n, .int .i64 f] 34)) (AskPost w c d wr (wr.alloc (.cells #[.int .i64 k, .int .i64 n, .int .i64 f] 34)))) := sasked_any hst hVb k n f
              clear hst hVb HSt
              go_wp2_with fail
              refine Calls.mono HA.out ?_
              rintro e w3 ⟨rfl, hk3, vs', T', hst⟩
              have hnB : ¬ wr.heap.size < wr.heap.size := by omega
              have y0 : w3.cell? ⟨wr.heap.size, 0, none⟩ = some (.int .i64 k) := hk3.cell (a := ⟨wr.heap.size, 0, none⟩) hnB (by simp)
              have HS3 : Hid (St23 w c d vs' T' w3) := hst
              clear hk3 hst HA
              go_wp2_with fail
              go_roundg (12 - (j + 1))
              case measure => have := Hg.out; omega
              case rel => exact ⟨j + 1, c, d, rfl, rfl, by go_num, by omega, rfl, vs', T', HS3.out⟩
        · have hj3 : ¬ (j : Int) < 12 := by omega
          clear hj hj1 hj2 Hg
          have HKn : Hid (∃ M : Int, Calls Tryz.prog 13 #[.pointer (some ⟨c, 0, none⟩)] wr (fun e w' => e = .returned (.int .i64 M) ∧ w' = wr) ∧ Calls Tryz.prog 14 #[.pointer (some ⟨d, 0, none⟩)] wr (fun e w' => e = .returned (.int .i64 M) ∧ w' = wr)) := by
            obtain ⟨vs, T, hst⟩ := HSt.out
            exact hst.known
          obtain ⟨M, hm1, hm2⟩ := HKn.out
          have H1 : Hid _ := hm1
          have H2 : Hid _ := hm2
          have hbr : Below w.heap.size w wr := by obtain ⟨vs, T, hst⟩ := HSt.out; exact hst.1
          have e7 : (M == M) = true := by simp
          clear hm1 hm2 HKn HSt HRow
          go_wp2_with fail
          refine Calls.mono H1.out ?_
          rintro e w9 ⟨rfl, hw9⟩
          obtain rfl : wr = w9 := hw9.symm
          clear hw9
          go_wp2_with fail
          refine Calls.mono H2.out ?_
          rintro e w9 ⟨rfl, hw9⟩
          obtain rfl : wr = w9 := hw9.symm
          clear hw9 H1 H2
          go_wp2_with fail
          refine Calls.mono (HSp.out _) ?_
          rintro e wz ⟨rfl, hgz⟩
          have hbz : Below w.heap.size w wz := hbr.trans (hgz.mono hbr.size)
          clear hgz hbr
          go_wp2_with fail
          go_ret
          exact ⟨rfl, hbz⟩
      · have hji : ¬ (j : Int) < (LL : Int) := by omega
        clear hj hj1 Hg
        have HKn : Hid (∃ M : Int, Calls Tryz.prog 13 #[.pointer (some ⟨c, 0, none⟩)] wr (fun e w' => e = .returned (.int .i64 M) ∧ w' = wr) ∧ Calls Tryz.prog 14 #[.pointer (some ⟨d, 0, none⟩)] wr (fun e w' => e = .returned (.int .i64 M) ∧ w' = wr)) := by
          obtain ⟨vs, T, hst⟩ := HSt.out
          exact hst.known
        obtain ⟨M, hm1, hm2⟩ := HKn.out
        have H1 : Hid _ := hm1
        have H2 : Hid _ := hm2
        have hbr : Below w.heap.size w wr := by obtain ⟨vs, T, hst⟩ := HSt.out; exact hst.1
        have e7 : (M == M) = true := by simp
        clear hm1 hm2 HKn HSt HRow
        go_wp2_with fail
        refine Calls.mono H1.out ?_
        rintro e w9 ⟨rfl, hw9⟩
        obtain rfl : wr = w9 := hw9.symm
        clear hw9
        go_wp2_with fail
        refine Calls.mono H2.out ?_
        rintro e w9 ⟨rfl, hw9⟩
        obtain rfl : wr = w9 := hw9.symm
        clear hw9 H1 H2
        go_wp2_with fail
        refine Calls.mono (HSp.out _) ?_
        rintro e wz ⟨rfl, hgz⟩
        have hbz : Below w.heap.size w wz := hbr.trans (hgz.mono hbr.size)
        clear hgz hbr
        go_wp2_with fail
        go_ret
        exact ⟨rfl, hbz⟩

end Go.Proofs.YtbhfbjbigafnpaaGreat

