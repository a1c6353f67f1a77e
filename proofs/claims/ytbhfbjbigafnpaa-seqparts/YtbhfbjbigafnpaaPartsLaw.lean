/-
  SeqParts.
-/
import Derived.Test.YtbhfbjbigafnpaaPartsP
import Derived.Test.YtbhfbjbigafnpaaSpeaks23
import Derived.Test.YtbhfbjbigafnpaaAppRow
import Derived.Test.YtbhfbjbigafnpaaRNthM
namespace Go.Proofs.Ytbhfbjbigafnpaa
open Go.RowKit Go.Shelf

/-- What append asks of a list that is put behind. -/
structure Src23 (w : World) (a : Option Addr) (n : Nat) (cs : List Value) : Prop where
  none : a = Option.none → n = 0
  len : cs.length = n * 4
  at_ : ∀ ad, a = some ad → ∀ j u, cs[j]? = some u → w.cell? (ad.add j) = some u
  one : ∀ u ∈ cs, u.oneCell' = true

theorem src23_of {w : World} {l : List VT} {a : Option Addr} {c : Nat} (h : Lies 17 w l (.slice a l.length c)) : ∃ ps : List (VT × Value), ps.map (·.1) = l ∧ ps.length = l.length ∧ Src23 w a l.length (ps.flatMap encP) ∧ ∀ p ∈ ps, Sound 16 w p := by
  obtain ⟨ps, e1, e2, h3⟩ := SlP.of_lies h
  obtain ⟨a', c', hv, h1, h2, h3, h4⟩ := h3
  injection hv with q1 q2 q3
  subst q1 q3
  refine ⟨ps, e1, e2, ⟨fun e => ?_, by rw [flat_len, e2], fun ad e j u hj => ?_, fun u hu => ?_⟩, h4⟩
  · by_cases hne : ps = []
    · rw [← e2, hne]; rfl
    · obtain ⟨b, o, ha, _⟩ := h3 hne
      rw [ha] at e; cases e
  · by_cases hne : ps = []
    · rw [hne] at hj; simp at hj
    · obtain ⟨b, o, ha, _, hr⟩ := h3 hne
      rw [ha] at e
      injection e with e
      subst e
      rw [add_addr5]
      exact hr.flat j u hj
  · obtain ⟨p, hp, hu⟩ := List.mem_flatMap.1 hu
    exact encP_one (h4 p hp) u hu

/-- The four calls of the statement, one behind the other: what is told lies there at the end. -/
theorem parts_calls (L : List VT) (E : Bool) (o : Int) (v : VT) (n m : Nat) (hn : n ≤ 200) (hm : m ≤ 200) (w W w1 w2 : World) (hWw : w.heap.size ≤ W.heap.size) (h1 : W.heap.size ≤ w1.heap.size) (hb2 : Below w1.heap.size w1 w2) (hw2 : Below w.heap.size w w2) (P P2 : Nat → Nat) (hA : Chn pCK (fun n => W.heap.size ≤ n) w1 L (fromT E o v) P) (hB : Chn pCK (fun n => w1.heap.size ≤ n) w2 L (fromT E o v) P2) :
    Calls Try.prog 8 #[.pointer (some ⟨P 0, 0, none⟩), .int .i64 (n : Int), .int .i64 1000] w2 fun e w3 => ∃ (lp : List VT) (a3 : Option Addr) (c3 : Nat) (f3 : Int), e = .returned (.tuple #[.slice a3 lp.length c3, .int .i64 f3, .int .i64 0]) ∧ lp.length ≤ 200 ∧
    Calls Try.prog 12 #[.pointer (some ⟨P 0, 0, none⟩), .int .i64 (n : Int), .int .i64 1000] w3 fun e w4 => ∃ (b4 : Nat) (f4 : Int), e = .returned (.tuple #[.pointer (some ⟨b4, 0, none⟩), .int .i64 f4, .int .i64 0]) ∧
    Calls Try.prog 8 #[.pointer (some ⟨b4, 0, none⟩), .int .i64 (m : Int), .int .i64 1000] w4 fun e w5 => ∃ (lq : List VT) (a5 : Option Addr) (c5 : Nat) (f5 : Int), e = .returned (.tuple #[.slice a5 lq.length c5, .int .i64 f5, .int .i64 0]) ∧ lq.length ≤ 200 ∧
    Calls Try.prog 8 #[.pointer (some ⟨P2 0, 0, none⟩), .int .i64 ((n + m : Nat) : Int), .int .i64 1000] w5 fun e w6 => ∃ (a6 : Option Addr) (c6 : Nat) (f6 : Int), e = .returned (.tuple #[.slice a6 (lp ++ lq).length c6, .int .i64 f6, .int .i64 0]) ∧ Below w.heap.size w w6 ∧ Lies 17 w6 lp (.slice a3 lp.length c3) ∧ Lies 17 w6 lq (.slice a5 lq.length c5) ∧ Lies 17 w6 (lp ++ lq) (.slice a6 (lp ++ lq).length c6) := by
  have s12 := hb2.size
  let Y : Nat → Prop := fun k => (W.heap.size ≤ k ∧ k < w1.heap.size) ∨ w2.heap.size ≤ k
  have hA2 : Chn pCK Y w2 L (fromT E o v) P := (hA.monoY (fun k hk hy => .inl ⟨hy, hk⟩)).keeps hb2
  have hB2 : Chn pCK (fun k => w1.heap.size ≤ k ∧ k < w2.heap.size) w2 L (fromT E o v) P2 := hB.monoY (fun k hk hy => ⟨hy, hk⟩)
  refine Calls.mono (take_any Y L (fromT E o v) P n 1000 (by omega) (by omega) w2 hA2 (fun k hk => .inr hk)) ?_
  rintro e w3 ⟨P3, hA3, hres⟩
  generalize hr1 : wlk frcC n ⟨L, fromT E o v, 0⟩ 1000 = r1 at *
  have hP30 : P3 0 = P 0 := hA3.old 0 (Nat.zero_le _)
  have s23 := hA3.kc.size
  have he1 : r1.err = 0 := by rw [← hr1]; exact (wlk_firsts n _ 1000 (by omega) (Nat.zero_le _)).1
  have hl1 : r1.items.length ≤ 200 := by rw [← hr1]; exact Nat.le_trans (wlk_le n _ 1000).1 hn
  rcases hres with ⟨h0, _⟩ | ⟨_, a3, c3, rfl, hl3, _⟩
  · exact absurd he1 h0
  have hW3 : Below w.heap.size w w3 := hw2.trans (hA3.kc.below (fun j hj hh => by obtain ⟨i, hi, rfl⟩ := hh; rcases hA2.inY i hi with h | h <;> omega) hw2.size)
  have hB3 := hB2.kc hA3.kc (fun k _ hk hh => by obtain ⟨i, hi, rfl⟩ := hh; rcases hA2.inY i hi with h | h <;> omega)
  refine ⟨r1.items, a3, c3, r1.left, rfl, hl1, ?_⟩
  rw [← hP30]
  refine Calls.mono (drop_any Y r1.s.vs r1.s.T P3 n 1000 (by omega) (by omega) w3 hA3.chn (fun k hk => .inr (by omega))) ?_
  rintro e w4 ⟨P4, hA4, hres⟩
  generalize hr2 : wlk frcC n ⟨r1.s.vs, r1.s.T, 0⟩ 1000 = r2 at *
  have s34 := hA4.kc.size
  obtain ⟨_, he2, he3, he4, hit⟩ := parts_items L (fromT E o v) n m hn hm r1 r2 hr1.symm hr2.symm hA4.at_
  rcases hres with ⟨h0, _⟩ | ⟨_, P5, rfl, hC5, _, hj5⟩
  · exact absurd he2 h0
  have hW4 : Below w.heap.size w w4 := hW3.trans (hA4.kc.below (fun j hj hh => by obtain ⟨i, hi, rfl⟩ := hh; rcases hA3.chn.inY i hi with h | h <;> omega) hW3.size)
  have hB4 := hB3.kc hA4.kc (fun k _ hk hh => by obtain ⟨i, hi, rfl⟩ := hh; rcases hA3.chn.inY i hi with h | h <;> omega)
  have hL3 : LiesX (fun k => w2.heap.size ≤ k ∧ k < w3.heap.size ∧ ∀ j, j ≤ r1.s.vs.length → k ≠ P3 j) 17 w3 r1.items (.slice a3 r1.items.length c3) := LiesX.mono (fun k hk => ⟨hk.1.1 trivial, hk.2, hk.1.2.2⟩) hl3.both
  have hL4 := hA4.kc.liesX (fun k hk hh => by obtain ⟨i, hi, rfl⟩ := hh; exact hk.2.2 i hi rfl) hL3
  refine ⟨_, r2.left, rfl, ?_⟩
  have hc5 : ∀ j, j ≤ (r2.s.vs.drop r2.s.i).length → ∀ k, (w2.heap.size ≤ k ∧ k < w3.heap.size ∧ ∀ j, j ≤ r1.s.vs.length → k ≠ P3 j) → k ≠ P5 j := fun j hj k hk e => by
    rcases hj5 j hj with ⟨i, hi, e2⟩ | h
    · by_cases hir : i ≤ r1.s.vs.length
      · have := hA4.old i hir
        exact hk.2.2 i hir (by rw [e, e2, this])
      · have := hA4.new i (by omega) hi
        omega
    · omega
  refine Calls.mono (take_any Y (r2.s.vs.drop r2.s.i) r2.s.T P5 m 1000 (by omega) (by omega) w4 hC5 (fun k hk => .inr (by omega))) ?_
  rintro e w5 ⟨P6, hA6, hres⟩
  have hl2 : (wlk frcC m ⟨r2.s.vs.drop r2.s.i, r2.s.T, 0⟩ 1000).items.length ≤ 200 := Nat.le_trans (wlk_le m _ 1000).1 hm
  generalize hr3 : wlk frcC m ⟨r2.s.vs.drop r2.s.i, r2.s.T, 0⟩ 1000 = r3 at *
  have s45 := hA6.kc.size
  rcases hres with ⟨h0, _⟩ | ⟨_, a5, c5, rfl, hl5, _⟩
  · exact absurd he3 h0
  have hW5 : Below w.heap.size w w5 := hW4.trans (hA6.kc.below (fun j hj hh => by obtain ⟨i, hi, rfl⟩ := hh; rcases hC5.inY i hi with h | h <;> omega) hW4.size)
  have hB5 := hB4.kc hA6.kc (fun k _ hk hh => by obtain ⟨i, hi, rfl⟩ := hh; rcases hC5.inY i hi with h | h <;> omega)
  have hL5 := hA6.kc.liesX (fun k hk hh => by obtain ⟨i, hi, e⟩ := hh; exact hc5 i hi k hk e) hL4
  have hM5 : LiesX (fun k => w4.heap.size ≤ k) 17 w5 r3.items (.slice a5 r3.items.length c5) := LiesX.mono (fun k hk => hk.1 trivial) hl5
  refine ⟨r3.items, a5, c5, r3.left, rfl, hl2, ?_⟩
  have hB6 : Chn pCK (fun k => (w1.heap.size ≤ k ∧ k < w2.heap.size) ∨ w5.heap.size ≤ k) w5 L (fromT E o v) P2 := hB5.monoY (fun k _ hk => .inl hk)
  refine Calls.mono (take_any _ L (fromT E o v) P2 (n + m) 1000 (by omega) (by omega) w5 hB6 (fun k hk => .inr hk)) ?_
  rintro e w6 ⟨P7, hA7, ⟨h0, _⟩ | ⟨_, a6, c6, rfl, hl6, _⟩⟩
  · exact absurd he4 h0
  rw [hit] at hl6 ⊢
  refine ⟨a6, c6, _, rfl, hW5.trans (hA7.kc.below (fun j hj hh => by obtain ⟨i, hi, rfl⟩ := hh; have := (hB5.inY i hi).1; omega) hW5.size), ?_, ?_, hl6.lies⟩
  · exact (hA7.kc.liesX (fun k hk hh => by obtain ⟨i, hi, rfl⟩ := hh; have := (hB5.inY i hi).2; have := hk.1; omega) hL5).lies
  · exact (hA7.kc.liesX (fun k hk hh => by obtain ⟨i, hi, rfl⟩ := hh; have := (hB5.inY i hi).2; omega) hM5).lies

set_option maxRecDepth 100000 in
set_option maxHeartbeats 16000000 in
theorem parts_walk (d : Nat) (L : List VT) (aL : Option Addr) (cL : Nat) (o : Int) (v : VT) (av : Option Addr) (cv : Nat) (E : Bool) (n m : Int) (w : World) (hL : Lies (d + 1) w L (.slice aL L.length cL)) (hv : Lies d w v.items (.slice av v.items.length cv)) (hvt : v.text.size ≤ 9223372036854775807) :
    Calls Try.prog 4 #[fromV aL L.length cL o v (.slice av v.items.length cv) E, .int .i64 n, .int .i64 m] w fun e w' => e = .returned (.bool true) ∧ Below w.heap.size w w' := by
  have HSp : Hid (∀ V, Calls Try.prog 7 #[] V fun e w' => e = .returned (.bool true) ∧ Below V.heap.size V w') := speaks23_any
  obtain ⟨W, hW⟩ : ∃ W, W = w.alloc (.cells #[.slice aL L.length cL, .int .i64 o, .int .i64 v.kind, .int .i64 v.num, .string v.text, .slice av v.items.length cv, .bool E] 40) := ⟨_, rfl⟩
  have HW : Hid (W = w.alloc (.cells #[.slice aL L.length cL, .int .i64 o, .int .i64 v.kind, .int .i64 v.num, .string v.text, .slice av v.items.length cv, .bool E] 40)) := hW
  have hb0 : Below w.heap.size w W := by rw [hW]; exact ((Grew.refl w).alloc _).below
  have k0 : W.cell? ⟨w.heap.size, 0, none⟩ = some (.slice aL L.length cL) := by rw [hW]; simp
  have k1 : W.cell? ⟨w.heap.size, 1, none⟩ = some (.int .i64 o) := by rw [hW]; simp
  have k2 : W.cell? ⟨w.heap.size, 2, none⟩ = some (.int .i64 v.kind) := by rw [hW]; simp
  have k3 : W.cell? ⟨w.heap.size, 3, none⟩ = some (.int .i64 v.num) := by rw [hW]; simp
  have k4 : W.cell? ⟨w.heap.size, 4, none⟩ = some (.string v.text) := by rw [hW]; simp
  have k5 : W.cell? ⟨w.heap.size, 5, none⟩ = some (.slice av v.items.length cv) := by rw [hW]; simp
  have k6 : W.cell? ⟨w.heap.size, 6, none⟩ = some (.bool E) := by rw [hW]; simp
  have HMa : Hid (∀ V, Below w.heap.size w V → Calls Try.prog 11 #[fromV aL L.length cL o v (.slice av v.items.length cv) E] V (SmPost pCK (fun n => V.heap.size ≤ n) d L E o v V)) := fun V hV => smade_any d L aL cL o v av cv E V (Lies.keeps hV _ _ _ hL) (Lies.keeps hV _ _ _ hv) hvt
  obtain ⟨i0, hi, hz0, hz1, hz2⟩ := info24
  have Hi : Hid _ := hi; have Hz0 : Hid _ := hz0; have Hz1 : Hid _ := hz1; have Hz2 : Hid _ := hz2
  clear hi hz0 hz1 hz2 hL hv hvt hW
  by_cases hbad : (n < 0 ∨ m < 0) ∨ (200 < n ∨ 200 < m)
  · have HB0 : Hid (Below w.heap.size w W) := hb0
    clear HMa k0 k1 k2 k3 k4 k5 k6 hb0
    have fin : ∀ V, Below w.heap.size w V → Calls Try.prog 7 #[] V fun e w' => e = .returned (.bool true) ∧ Below w.heap.size w w' := fun V hV => Calls.mono (HSp.out V) fun e w' h => ⟨h.1, hV.trans (h.2.mono hV.size)⟩
    have HFin : Hid _ := fin W HB0.out
    clear fin HSp HB0
    by_cases c1 : n < 0
    · clear hbad
      go_enter Try.func4, Try.ntmps4
      go_upto_region 1 with fail
      rw [← HW.out]
      clear HW
      go_wp2_with fail
      refine Calls.mono HFin.out ?_
      rintro e wz ⟨rfl, hbz⟩
      clear HFin
      go_wp2_with fail
      go_ret
      exact ⟨rfl, hbz⟩
    · by_cases c2 : m < 0
      · clear hbad
        go_enter Try.func4, Try.ntmps4
        go_upto_region 1 with fail
        rw [← HW.out]
        clear HW
        go_wp2_with fail
        refine Calls.mono HFin.out ?_
        rintro e wz ⟨rfl, hbz⟩
        clear HFin
        go_wp2_with fail
        go_ret
        exact ⟨rfl, hbz⟩
      · by_cases c3 : 200 < n
        · clear hbad
          go_enter Try.func4, Try.ntmps4
          go_upto_region 1 with fail
          rw [← HW.out]
          clear HW
          go_wp2_with fail
          refine Calls.mono HFin.out ?_
          rintro e wz ⟨rfl, hbz⟩
          clear HFin
          go_wp2_with fail
          go_ret
          exact ⟨rfl, hbz⟩
        · have c4 : 200 < m := by omega
          clear hbad
          go_enter Try.func4, Try.ntmps4
          go_upto_region 1 with fail
          rw [← HW.out]
          clear HW
          go_wp2_with fail
          refine Calls.mono HFin.out ?_
          rintro e wz ⟨rfl, hbz⟩
          clear HFin
          go_wp2_with fail
          go_ret
          exact ⟨rfl, hbz⟩
  · obtain ⟨n', rfl⟩ : ∃ n' : Nat, n = (n' : Int) := ⟨n.toNat, by omega⟩
    obtain ⟨m', rfl⟩ : ∃ m' : Nat, m = (m' : Int) := ⟨m.toNat, by omega⟩
    have hn : n' ≤ 200 := by omega
    have hm : m' ≤ 200 := by omega
    have c1 : ¬ (n' : Int) < 0 := by omega
    have c2 : ¬ (m' : Int) < 0 := by omega
    have c3 : ¬ (200 : Int) < (n' : Int) := by omega
    have c4 : ¬ (200 : Int) < (m' : Int) := by omega
    have e1 : IntKind.i64.wrap ((n' : Int) + (m' : Int)) = ((n' + m' : Nat) : Int) := by rw [IntKind.wrap_i64]; omega
    have Hnm : Hid (n' ≤ 200 ∧ m' ≤ 200) := ⟨hn, hm⟩
    clear hbad hn hm
    go_enter Try.func4, Try.ntmps4
    go_upto_region 1 with fail
    rw [← HW.out]
    clear HW
    go_wp2_with fail
    refine Calls.mono (HMa.out _ hb0) ?_
    rintro e w1 ⟨hg1, hres1⟩
    have hb1 : Below w.heap.size w w1 := hb0.trans (hg1.mono hb0.size)
    have HB2 : Hid _ := HMa.out _ hb1
    have k0 := cell_keeps hg1 k0; have k1 := cell_keeps hg1 k1; have k2 := cell_keeps hg1 k2; have k3 := cell_keeps hg1 k3; have k4 := cell_keeps hg1 k4; have k5 := cell_keeps hg1 k5; have k6 := cell_keeps hg1 k6
    have hs0 := hb0.size
    have hs1 := hg1.size
    clear HMa
    rcases hres1 with ⟨hno, rfl⟩ | ⟨hok, P, rfl, hC1, _⟩
    · clear c1 c2 c3 c4 e1
      go_wp2_with fail
      refine Calls.mono HB2.out ?_
      rintro e w2 ⟨hg2, ⟨_, rfl⟩ | ⟨hok, _⟩⟩
      · have hb2 : Below w.heap.size w w2 := hb1.trans (hg2.mono hb1.size)
        clear hg2 HB2 hno hb1 hg1 k0 k1 k2 k3 k4 k5 k6 hb0 hs0 hs1
        go_wp2_with fail
        refine Calls.mono (HSp.out _) ?_
        rintro e wz ⟨rfl, hgz⟩
        have hbz : Below w.heap.size w wz := hb2.trans (hgz.mono hb2.size)
        clear hgz hb2
        go_wp2_with fail
        go_ret
        exact ⟨rfl, hbz⟩
      · exact absurd hok hno
    · generalize hcP : P 0 = b1
      clear c1 c2 c3 c4
      go_wp2_with fail
      refine Calls.mono HB2.out ?_
      rintro e w2 ⟨hg2, ⟨hno, _⟩ | ⟨_, P2, rfl, hC2, _⟩⟩
      · exact absurd hok hno
      have hb2 : Below w.heap.size w w2 := hb1.trans (hg2.mono hb1.size)
      have HCa : Hid _ := parts_calls L E o v n' m' Hnm.out.1 Hnm.out.2 w W w1 w2 hs0 hs1 hg2 hb2 P P2 hC1 hC2
      rw [hcP] at HCa
      generalize P2 0 = b2 at *
      clear hg2 HB2 hok hb1 hg1 k0 k1 k2 k3 k4 k5 k6 hC1 hC2 hb0 hs0 hs1 hb2 hcP
      go_wp2_with fail
      refine Calls.mono HCa.out ?_
      rintro e w3 ⟨lp, a3, c3, f3, rfl, hlp, hnext⟩
      have HC4 : Hid _ := hnext
      clear hnext HCa
      go_wp2_with fail
      refine Calls.mono HC4.out ?_
      rintro e w4 ⟨b4, f4, rfl, hnext⟩
      have HC5 : Hid _ := hnext
      clear hnext HC4
      go_wp2_with fail
      refine Calls.mono HC5.out ?_
      rintro e w5 ⟨lq, a5, c5, f5, rfl, hlq, hnext⟩
      have HC6 : Hid _ := hnext
      clear hnext HC5
      go_wp2_with fail
      refine Calls.mono HC6.out ?_
      rintro e w6 ⟨a6, c6, f6, rfl, hb6, hp6, hq6, hl6⟩
      obtain ⟨ps, p1, p2, p3, p4⟩ := src23_of hp6
      obtain ⟨qs, q1, q2, q3, q4⟩ := src23_of hq6
      have HP : Hid (Src23 w6 a3 lp.length (ps.flatMap encP) ∧ ps.map (·.1) = lp ∧ ∀ p ∈ ps, Sound 16 w6 p) := ⟨p3, p1, p4⟩
      have HQ : Hid (Src23 w6 a5 lq.length (qs.flatMap encP) ∧ qs.map (·.1) = lq ∧ ∀ p ∈ qs, Sound 16 w6 p) := ⟨q3, q1, q4⟩
      have Hlen : Hid (lp.length ≤ 200 ∧ lq.length ≤ 200 ∧ ps.length = lp.length ∧ qs.length = lq.length) := ⟨hlp, hlq, p2, q2⟩
      have HL6 : Hid (Lies 17 w6 (lp ++ lq) (.slice a6 (lp ++ lq).length c6)) := hl6
      have HB6 : Hid (Below w.heap.size w w6) := hb6
      clear p1 p2 p3 p4 q1 q2 q3 q4 hp6 hq6 hl6 hb6 HC6 hlp hlq
      generalize hNN : (lp ++ lq).length = NN at *
      have HNN : Hid (lp.length + lq.length = NN) := by have h9 := hNN; rw [List.length_append] at h9; exact h9
      clear hNN
      generalize hA1 : lp.length = n1 at *
      generalize hA2 : lq.length = n2 at *
      clear hA1 hA2
      go_wp2_with (first
        | (at_builtin; refine wpList_append_row rfl _ _ rfl w6.heap.size i0 Hi.out Hz0.out Hz1.out Hz2.out v7 (0 + n1) ([] ++ ps.flatMap encP) rfl Hown7.out a5 n2 c5 (qs.flatMap encP) rfl HQ.out.1.none HQ.out.1.len (fun ad e j u hj => cell_keeps hb7 (HQ.out.1.at_ ad e j u hj)) HQ.out.1.one (by have := Hlen.out; unfold maxLen; omega) (by have := Hlen.out; omega) hb7.size ?_; intro v8 w8 hown8 hg8)
        | (at_builtin; refine wpList_append_row rfl _ _ rfl w6.heap.size i0 Hi.out Hz0.out Hz1.out Hz2.out (.slice none 0 0) 0 [] rfl (World.ownsRow_nil _ _ _ _) a3 n1 c3 (ps.flatMap encP) rfl HP.out.1.none HP.out.1.len HP.out.1.at_ HP.out.1.one (by have := Hlen.out; unfold maxLen; omega) (by have := Hlen.out; omega) (Nat.le_refl _) ?_; intro v7 w7 hown7 hg7; have hb7 : Below w6.heap.size w6 w7 := KC.below (far23 (v := .slice none 0 0) (Below.refl _ _) hg7) (fun j _ h => by simp [Value.ownBlock] at h) (Nat.le_refl _); have Hown7 : Hid (w7.ownsRow w6.heap.size 38 4 v7 (0 + n1) ([] ++ ps.flatMap encP)) := hown7; clear hown7 hg7))
      have hb8 : Below w6.heap.size w6 w8 := hb7.trans (KC.below (far23 (Below.refl _ _) hg8) (fun j hj h => by have := (Hown7.out.lt j h).1; omega) hb7.size)
      have HV : Hid (Lies 17 w8 (lp ++ lq) v8) := by
        have hown9 : w8.ownsRow w6.heap.size 38 4 v8 (0 + n1 + n2) ((ps ++ qs).flatMap encP) := by rw [List.flatMap_append]; simpa using hown8
        have h9 := own_lies (d := 16) (ps := ps ++ qs) (by have := Hlen.out; rw [List.length_append]; omega) hown9 (fun p hp => ?_) (by have := Hlen.out; rw [List.length_append]; omega)
        · rw [List.map_append, HP.out.2.1, HQ.out.2.1] at h9
          exact h9
        · rcases List.mem_append.1 hp with h | h
          · exact (HP.out.2.2 p h).keeps hb8
          · exact (HQ.out.2.2 p h).keeps hb8
      obtain ⟨a8, c8, rfl, _⟩ := Lies.slice HV.out
      have HVal : Hid (Calls Try.prog 10 #[.slice a8 (lp ++ lq).length c8, .slice a6 NN c6] w8 fun e w' => e = .returned (.bool true) ∧ Below w8.heap.size w8 w') := values_one 16 (lp ++ lq) _ _ w8 HV.out (Lies.keeps hb8 _ _ _ HL6.out) (by
        have h1 := Hlen.out
        have h2 : lp.length = ps.length := by rw [← HP.out.2.1, List.length_map]
        have h3 : lq.length = qs.length := by rw [← HQ.out.2.1, List.length_map]
        rw [List.length_append]; omega)
      have hbw8 : Below w.heap.size w w8 := HB6.out.trans (hb8.mono HB6.out.size)
      clear hown8 hg8 hb8 hb7 Hown7 HP HQ HL6 HB6 HV Hlen
      go_wp2_with fail
      refine Calls.mono HVal.out ?_
      rintro e w9 ⟨rfl, hg9⟩
      have hbw9 : Below w.heap.size w w9 := hbw8.trans (hg9.mono hbw8.size)
      clear hg9 HVal hbw8
      go_wp2_with fail
      refine Calls.mono (HSp.out _) ?_
      rintro e wz ⟨rfl, hgz⟩
      have hbz : Below w.heap.size w wz := hbw9.trans (hgz.mono hbw9.size)
      clear hgz hbw9
      go_wp2_with fail
      go_ret
      exact ⟨rfl, hbz⟩

end Go.Proofs.Ytbhfbjbigafnpaa

