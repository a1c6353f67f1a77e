/-
  ConcatLaws.
-/
import Derived.Test.YtpnfmcmhcjekfabTurnsP
namespace Go.Proofs.Ytpnfmcmhcjekfab
open Go.RowKit

theorem eqL_self (l : List VT) : eqL (sameV 16) l l = true := by
  unfold eqL
  rw [all2_self l (fun x _ => sameV_self 16 x)]
  simp

/-- Two vectors of the same items are equal. -/
theorem same2_any (l m : List VT) (he : l = m) (p q : Value) (w : World) (h1 : VV w l p) (h2 : VV w m q) : Calls Try.prog 28 #[p, q] w fun e w' => e = .returned (.bool true) ∧ Below w.heap.size w w' := by
  subst he
  have h9 := equal12_any l l p q w h1 h2
  rw [eqL_self] at h9
  exact h9

/-- Two vectors joined, where they are not too long. -/
theorem cat2_any (l m : List VT) (p q : Value) (w : World) (h1 : VV w l p) (h2 : VV w m q) (hlen : (l ++ m).length ≤ 65536) : Calls Try.prog 27 #[p, q] w fun e w' => Below w.heap.size w w' ∧ ∃ b, e = .returned (.tuple #[.pointer (some ⟨b, 0, none⟩), .int .i64 0]) ∧ VV w' (l ++ m) (.pointer (some ⟨b, 0, none⟩)) := by
  have h9 := concat_any l m p q w h1 h2
  unfold catR at h9
  rw [if_pos hlen] at h9
  exact h9

end Go.Proofs.Ytpnfmcmhcjekfab

namespace Go.Proofs.Ytpnfmcmhcjekfab
open Go.RowKit

set_option maxRecDepth 100000 in
set_option maxHeartbeats 32000000 in
theorem laws_end (n : Nat) (l m : List VT) (ul um : Value) (i : Int) (w : World) (hl : Lies (n + 1) w l ul) (hm : Lies (n + 1) w m um) (hend0 : endB l i) : Calls Try.prog 6 #[.agg #[ul, um], .int .i64 i] w fun e w' => e = .returned (.bool true) ∧ Below w.heap.size w w' := by
  have Hend : Hid (endB l i) := hend0
  clear hend0
  obtain ⟨al, cl, rfl, _⟩ := Lies.slice hl
  obtain ⟨am, cm, rfl, _⟩ := Lies.slice hm
  obtain ⟨wA, hwA⟩ : ∃ wA, wA = w.alloc (.cells #[.slice al l.length cl, .slice am m.length cm] 48) := ⟨_, rfl⟩
  have hbA : Below w.heap.size w wA := by rw [hwA]; exact ((Grew.refl w).alloc _).below
  have hc0 : wA.cell? ⟨w.heap.size, 0, none⟩ = some (.slice al l.length cl) := by rw [hwA]; simp
  have hc1 : wA.cell? ⟨w.heap.size, 1, none⟩ = some (.slice am m.length cm) := by rw [hwA]; simp
  have HMa : Hid _ := made2_any n l m al am cl cm wA (Lies.keeps hbA _ _ _ hl) (Lies.keeps hbA _ _ _ hm)
  have HSp : Hid (∀ V, Calls Try.prog 9 #[] V fun e w' => e = .returned (.bool true) ∧ Below V.heap.size V w') := speaks12_any
  have HwA : Hid (wA = w.alloc (.cells #[.slice al l.length cl, .slice am m.length cm] 48)) := hwA
  rw [hwA] at HMa
  clear hl hm hwA
  go_enter Try.func6, Try.ntmps6
  go_wp2_with fail
  refine Calls.mono HMa.out ?_
  rintro e w1 ⟨hg1, hp1⟩
  rw [← HwA.out] at hg1
  have hb1 : Below w.heap.size w w1 := hbA.trans (hg1.mono hbA.size)
  have d0 : w1.cell? ⟨w.heap.size, 0, none⟩ = some (.slice al l.length cl) := cell_keeps hg1 hc0
  have d1 : w1.cell? ⟨w.heap.size, 1, none⟩ = some (.slice am m.length cm) := cell_keeps hg1 hc1
  clear HMa HwA hc0 hc1 hg1 hbA
  rcases hp1 with ⟨b1, b2, rfl, hv1, hv2, hl17, hm17⟩ | ⟨p, q, rfl⟩
  · have HVa : Hid (VV w1 l (.pointer (some ⟨b1, 0, none⟩))) := hv1
    have HVb : Hid (VV w1 m (.pointer (some ⟨b2, 0, none⟩))) := hv2
    have HLl : Hid (Lies 17 w1 l (.slice al l.length cl)) := hl17
    obtain ⟨LL, hLL⟩ : ∃ LL, LL = l.length := ⟨_, rfl⟩
    obtain ⟨ML, hML⟩ : ∃ ML, ML = m.length := ⟨_, rfl⟩
    rw [← hLL] at d0
    rw [← hML] at d1
    clear hv1 hv2 hl17 hm17
    by_cases hbig : 20000 < LL ∨ 20000 < ML
    · have hex : (20000 : Int) < (LL : Nat) ∨ (¬ (20000 : Int) < (LL : Nat) ∧ (20000 : Int) < (ML : Nat)) := by omega
      clear hbig hLL hML HLl HVa HVb
      rcases hex with h1 | ⟨h1, h2⟩
      · go_wp2_with fail
        refine Calls.mono (HSp.out _) ?_
        rintro e wz ⟨rfl, hbz⟩
        have HBz : Hid (Below w.heap.size w wz) := hb1.trans (hbz.mono hb1.size)
        clear hbz hb1
        go_wp2_with fail
        go_ret
        exact ⟨rfl, HBz.out⟩

      · go_wp2_with fail
        refine Calls.mono (HSp.out _) ?_
        rintro e wz ⟨rfl, hbz⟩
        have HBz : Hid (Below w.heap.size w wz) := hb1.trans (hbz.mono hb1.size)
        clear hbz hb1
        go_wp2_with fail
        go_ret
        exact ⟨rfl, HBz.out⟩

    · have h1 : ¬ (20000 : Int) < (LL : Nat) := by omega
      have h2 : ¬ (20000 : Int) < (ML : Nat) := by omega
      have hl2 : l.length ≤ 20000 := by omega
      have hm2 : m.length ≤ 20000 := by omega
      have HCu : Hid _ := cut_any l _ i w1 HVa.out
      have HLL : Hid (LL = l.length) := hLL
      have Hd0 : Hid _ := d0
      clear hbig hLL hML
      go_wp2_with fail
      refine Calls.mono HCu.out ?_
      rintro e w2 ⟨hb2, hp2⟩
      have hb12 : Below w.heap.size w w2 := hb1.trans (hb2.mono hb1.size)
      have HVa2 : Hid (VV w2 l (.pointer (some ⟨b1, 0, none⟩))) := HVa.out.keeps hb2
      have HVb2 : Hid (VV w2 m (.pointer (some ⟨b2, 0, none⟩))) := HVb.out.keeps hb2
      clear HCu d0 d1 HVa HVb
      rcases hp2 with ⟨hend, p1, p2, rfl, v1, v2⟩ | ⟨hend, rfl⟩
      · have HCx : Hid (Calls Try.prog 27 #[.pointer (some ⟨p1, 0, none⟩), .pointer (some ⟨p2, 0, none⟩)] w2 fun e w' => Below w2.heap.size w2 w' ∧ ∃ b, e = .returned (.tuple #[.pointer (some ⟨b, 0, none⟩), .int .i64 0]) ∧ VV w' l (.pointer (some ⟨b, 0, none⟩))) := by
          have h9 := cat2_any _ _ _ _ w2 v1 v2 (by rw [List.take_append_drop]; omega)
          rw [List.take_append_drop] at h9
          exact h9
        clear v1 v2 hend
        go_wp2_with fail
        refine Calls.mono HCx.out ?_
        rintro e w3 ⟨hb3, b3, rfl, hv3⟩
        have hb23 : Below w1.heap.size w1 w3 := hb2.trans (hb3.mono hb2.size)
        have d0 := cell_keeps hb23 Hd0.out
        have HIs : Hid (Calls Try.prog 14 #[.pointer (some ⟨b3, 0, none⟩), .int .i64 0, .slice al LL cl, .int .i64 0] w3 fun e w' => e = .returned (.bool true) ∧ Below w3.heap.size w3 w') := by
          rw [HLL.out]
          exact is_some l b3 _ w3 hv3 (Lies.keeps hb23 _ _ _ HLl.out)
        have HVa3 : Hid (VV w3 l (.pointer (some ⟨b1, 0, none⟩))) := HVa2.out.keeps hb3
        have HVb3 : Hid (VV w3 m (.pointer (some ⟨b2, 0, none⟩))) := HVb2.out.keeps hb3
        have hb13 : Below w.heap.size w w3 := hb12.trans (hb3.mono hb12.size)
        clear HCx hv3 hb23 hb2 hb3 hb12 HVa2 HVb2 hb1
        go_wp2_with fail
        refine Calls.mono HIs.out ?_
        rintro e wt ⟨rfl, hb4⟩
        have HVa : Hid (VV wt l (.pointer (some ⟨b1, 0, none⟩))) := HVa3.out.keeps hb4
        have HVb : Hid (VV wt m (.pointer (some ⟨b2, 0, none⟩))) := HVb3.out.keeps hb4
        have hB : Below w.heap.size w wt := hb13.trans (hb4.mono hb13.size)
        clear HIs d0 hb13 hb4 HVa3 HVb3 HLl Hd0
        have HC1 : Hid _ := cat2_any l m _ _ wt HVa.out HVb.out (by rw [List.length_append]; omega)
        go_wp2_with fail
        refine Calls.mono HC1.out ?_
        rintro e x1 ⟨g1, c1, rfl, v1⟩
        have HVab : Hid (VV x1 (l ++ m) (.pointer (some ⟨c1, 0, none⟩))) := v1
        have HVa1 : Hid (VV x1 l (.pointer (some ⟨b1, 0, none⟩))) := HVa.out.keeps g1
        have HVb1 : Hid (VV x1 m (.pointer (some ⟨b2, 0, none⟩))) := HVb.out.keeps g1
        have hB1 : Below w.heap.size w x1 := hB.trans (g1.mono hB.size)
        have HC2 : Hid _ := cat2_any m l _ _ x1 HVb1.out HVa1.out (by rw [List.length_append]; omega)
        clear HC1 v1 HVa HVb hB g1
        go_wp2_with fail
        refine Calls.mono HC2.out ?_
        rintro e x2 ⟨g2, c2, rfl, v2⟩
        have HVba : Hid (VV x2 (m ++ l) (.pointer (some ⟨c2, 0, none⟩))) := v2
        have HVab : Hid (VV x2 (l ++ m) (.pointer (some ⟨c1, 0, none⟩))) := HVab.out.keeps g2
        have HVa : Hid (VV x2 l (.pointer (some ⟨b1, 0, none⟩))) := HVa1.out.keeps g2
        have HVb : Hid (VV x2 m (.pointer (some ⟨b2, 0, none⟩))) := HVb1.out.keeps g2
        have hB2 : Below w.heap.size w x2 := hB1.trans (g2.mono hB1.size)
        have HC3 : Hid _ := cat2_any (l ++ m) l _ _ x2 HVab.out HVa.out (by rw [List.length_append, List.length_append]; omega)
        clear HC2 v2 HVa1 HVb1 hB1 g2
        go_wp2_with fail
        refine Calls.mono HC3.out ?_
        rintro e x3 ⟨g3, c3, rfl, v3⟩
        have HVl : Hid (VV x3 ((l ++ m) ++ l) (.pointer (some ⟨c3, 0, none⟩))) := v3
        have HVba : Hid (VV x3 (m ++ l) (.pointer (some ⟨c2, 0, none⟩))) := HVba.out.keeps g3
        have HVab : Hid (VV x3 (l ++ m) (.pointer (some ⟨c1, 0, none⟩))) := HVab.out.keeps g3
        have HVa : Hid (VV x3 l (.pointer (some ⟨b1, 0, none⟩))) := HVa.out.keeps g3
        have HVb : Hid (VV x3 m (.pointer (some ⟨b2, 0, none⟩))) := HVb.out.keeps g3
        have hB3 : Below w.heap.size w x3 := hB2.trans (g3.mono hB2.size)
        have HC4 : Hid _ := cat2_any l (m ++ l) _ _ x3 HVa.out HVba.out (by rw [List.length_append, List.length_append]; omega)
        clear HC3 v3 hB2 g3
        go_wp2_with fail
        refine Calls.mono HC4.out ?_
        rintro e x4 ⟨g4, c4, rfl, v4⟩
        have HVl : Hid (VV x4 ((l ++ m) ++ l) (.pointer (some ⟨c3, 0, none⟩))) := HVl.out.keeps g4
        have HVab : Hid (VV x4 (l ++ m) (.pointer (some ⟨c1, 0, none⟩))) := HVab.out.keeps g4
        have HVa : Hid (VV x4 l (.pointer (some ⟨b1, 0, none⟩))) := HVa.out.keeps g4
        have HVb : Hid (VV x4 m (.pointer (some ⟨b2, 0, none⟩))) := HVb.out.keeps g4
        have hB4 : Below w.heap.size w x4 := hB3.trans (g4.mono hB3.size)
        have HC5 : Hid _ := same2_any ((l ++ m) ++ l) (l ++ (m ++ l)) (List.append_assoc _ _ _) _ _ x4 HVl.out v4
        clear HC4 v4 hB3 g4 HVba
        go_wp2_with fail
        refine Calls.mono HC5.out ?_
        rintro e x5 ⟨rfl, g5⟩
        have HVl : Hid (VV x5 ((l ++ m) ++ l) (.pointer (some ⟨c3, 0, none⟩))) := HVl.out.keeps g5
        have HVab : Hid (VV x5 (l ++ m) (.pointer (some ⟨c1, 0, none⟩))) := HVab.out.keeps g5
        have HVa : Hid (VV x5 l (.pointer (some ⟨b1, 0, none⟩))) := HVa.out.keeps g5
        have HVb : Hid (VV x5 m (.pointer (some ⟨b2, 0, none⟩))) := HVb.out.keeps g5
        have hB5 : Below w.heap.size w x5 := hB4.trans (g5.mono hB4.size)
        obtain ⟨T, hT⟩ : ∃ T, T = (l ++ m) ++ l := ⟨_, rfl⟩
        rw [← hT] at HVl
        obtain ⟨TL, hTL⟩ : ∃ TL, TL = T.length := ⟨_, rfl⟩
        have HC6 : Hid (Calls Try.prog 29 #[.pointer (some ⟨c3, 0, none⟩)] x5 fun e w' => Below x5.heap.size x5 w' ∧ ∃ hN : Nat, e = .returned (.int .i64 (hN : Int)) ∧ ∀ V, Calls Try.prog 30 #[.int .i64 (TL : Int)] V fun e w' => ∃ g : Nat, e = .returned (.int .i64 (g : Int)) ∧ hN ≤ g ∧ w' = V) := by rw [hTL]; exact height_pair T _ x5 HVl.out
        have HC7' : Hid (∀ V, Below x5.heap.size x5 V → Calls Try.prog 31 #[.pointer (some ⟨c3, 0, none⟩)] V (NumPost TL V)) := fun V hV => by rw [hTL]; exact vlen_any 16 T _ V (HVl.out.keeps hV).vc
        clear hT hTL HVl
        clear HC5 hB4 g5
        go_wp2_with fail
        refine Calls.mono HC6.out ?_
        rintro e x6 ⟨g6, hN, rfl, hhi⟩
        have HHi : Hid _ := hhi
        have HC7 : Hid _ := HC7'.out x6 g6
        have HVab : Hid (VV x6 (l ++ m) (.pointer (some ⟨c1, 0, none⟩))) := HVab.out.keeps g6
        have HVa : Hid (VV x6 l (.pointer (some ⟨b1, 0, none⟩))) := HVa.out.keeps g6
        have HVb : Hid (VV x6 m (.pointer (some ⟨b2, 0, none⟩))) := HVb.out.keeps g6
        have hB6 : Below w.heap.size w x6 := hB5.trans (g6.mono hB5.size)
        clear HC6 hB5 g6 hhi HC7'
        go_wp2_with fail
        refine Calls.mono HC7.out ?_
        rintro e x7 ⟨rfl, g7⟩
        have HH7 : Hid _ := HHi.out x7
        have HVab : Hid (VV x7 (l ++ m) (.pointer (some ⟨c1, 0, none⟩))) := HVab.out.keeps g7
        have HVa : Hid (VV x7 l (.pointer (some ⟨b1, 0, none⟩))) := HVa.out.keeps g7
        have HVb : Hid (VV x7 m (.pointer (some ⟨b2, 0, none⟩))) := HVb.out.keeps g7
        have hB7 : Below w.heap.size w x7 := hB6.trans (g7.mono hB6.size)
        clear HC7 hB6 g7 HHi
        go_wp2_with fail
        refine Calls.mono HH7.out ?_
        rintro e x8 ⟨g, rfl, hle, hw8⟩
        obtain rfl : x7 = x8 := hw8.symm
        have hlei : ¬ ((g : Nat) : Int) < (hN : Nat) := by omega
        have HC9 : Hid _ := creverse_any m _ x7 HVb.out
        clear HH7
        go_wp2_with fail
        refine Calls.mono HC9.out ?_
        rintro e x9 ⟨g9, c9, rfl, v9⟩
        have HVr : Hid (VV x9 m.reverse (.pointer (some ⟨c9, 0, none⟩))) := v9
        have HVab : Hid (VV x9 (l ++ m) (.pointer (some ⟨c1, 0, none⟩))) := HVab.out.keeps g9
        have HVa : Hid (VV x9 l (.pointer (some ⟨b1, 0, none⟩))) := HVa.out.keeps g9
        have hB9 : Below w.heap.size w x9 := hB7.trans (g9.mono hB7.size)
        have HCa : Hid _ := creverse_any l _ x9 HVa.out
        clear HC9 v9 hB7 g9 HVb hlei hle
        go_wp2_with fail
        refine Calls.mono HCa.out ?_
        rintro e xa ⟨ga, ca, rfl, va⟩
        have HVab : Hid (VV xa (l ++ m) (.pointer (some ⟨c1, 0, none⟩))) := HVab.out.keeps ga
        have hBa : Below w.heap.size w xa := hB9.trans (ga.mono hB9.size)
        have HCb : Hid _ := cat2_any m.reverse l.reverse _ _ xa (HVr.out.keeps ga) va (by rw [List.length_append, List.length_reverse, List.length_reverse]; omega)
        clear HCa va hB9 ga HVa HVr
        go_wp2_with fail
        refine Calls.mono HCb.out ?_
        rintro e xb ⟨gb, cb, rfl, vb⟩
        have HVt : Hid (VV xb (m.reverse ++ l.reverse) (.pointer (some ⟨cb, 0, none⟩))) := vb
        have hBb : Below w.heap.size w xb := hBa.trans (gb.mono hBa.size)
        have HCc : Hid _ := creverse_any (l ++ m) _ xb (HVab.out.keeps gb)
        clear HCb vb hBa gb HVab
        go_wp2_with fail
        refine Calls.mono HCc.out ?_
        rintro e xc ⟨gc, cc, rfl, vc⟩
        have hBc : Below w.heap.size w xc := hBb.trans (gc.mono hBb.size)
        have HCd : Hid _ := same2_any (l ++ m).reverse (m.reverse ++ l.reverse) (List.reverse_append ..) _ _ xc vc (HVt.out.keeps gc)
        clear HCc vc hBb gc HVt
        go_wp2_with fail
        refine Calls.mono HCd.out ?_
        rintro e xd ⟨rfl, gd⟩
        have hBd : Below w.heap.size w xd := hBc.trans (gd.mono hBc.size)
        clear HCd hBc gd
        go_wp2_with fail
        refine Calls.mono (HSp.out _) ?_
        rintro e xe ⟨rfl, ge⟩
        have HBz : Hid (Below w.heap.size w xe) := hBd.trans (ge.mono hBd.size)
        clear ge hBd
        go_wp2_with fail
        go_ret
        exact ⟨rfl, HBz.out⟩
      · exact absurd Hend.out hend
  · go_wp2_with fail
    refine Calls.mono (HSp.out _) ?_
    rintro e wz ⟨rfl, hbz⟩
    have HBz : Hid (Below w.heap.size w wz) := hb1.trans (hbz.mono hb1.size)
    clear hbz hb1
    go_wp2_with fail
    go_ret
    exact ⟨rfl, HBz.out⟩

end Go.Proofs.Ytpnfmcmhcjekfab

namespace Go.Proofs.Ytpnfmcmhcjekfab
open Go.RowKit

set_option maxRecDepth 100000 in
set_option maxHeartbeats 32000000 in
theorem laws_not (n : Nat) (l m : List VT) (ul um : Value) (i : Int) (w : World) (hl : Lies (n + 1) w l ul) (hm : Lies (n + 1) w m um) (hend0 : ¬ endB l i) : Calls Try.prog 6 #[.agg #[ul, um], .int .i64 i] w fun e w' => e = .returned (.bool true) ∧ Below w.heap.size w w' := by
  have Hend : Hid (¬ endB l i) := hend0
  clear hend0
  obtain ⟨al, cl, rfl, _⟩ := Lies.slice hl
  obtain ⟨am, cm, rfl, _⟩ := Lies.slice hm
  obtain ⟨wA, hwA⟩ : ∃ wA, wA = w.alloc (.cells #[.slice al l.length cl, .slice am m.length cm] 48) := ⟨_, rfl⟩
  have hbA : Below w.heap.size w wA := by rw [hwA]; exact ((Grew.refl w).alloc _).below
  have hc0 : wA.cell? ⟨w.heap.size, 0, none⟩ = some (.slice al l.length cl) := by rw [hwA]; simp
  have hc1 : wA.cell? ⟨w.heap.size, 1, none⟩ = some (.slice am m.length cm) := by rw [hwA]; simp
  have HMa : Hid _ := made2_any n l m al am cl cm wA (Lies.keeps hbA _ _ _ hl) (Lies.keeps hbA _ _ _ hm)
  have HSp : Hid (∀ V, Calls Try.prog 9 #[] V fun e w' => e = .returned (.bool true) ∧ Below V.heap.size V w') := speaks12_any
  have HwA : Hid (wA = w.alloc (.cells #[.slice al l.length cl, .slice am m.length cm] 48)) := hwA
  rw [hwA] at HMa
  clear hl hm hwA
  go_enter Try.func6, Try.ntmps6
  go_wp2_with fail
  refine Calls.mono HMa.out ?_
  rintro e w1 ⟨hg1, hp1⟩
  rw [← HwA.out] at hg1
  have hb1 : Below w.heap.size w w1 := hbA.trans (hg1.mono hbA.size)
  have d0 : w1.cell? ⟨w.heap.size, 0, none⟩ = some (.slice al l.length cl) := cell_keeps hg1 hc0
  have d1 : w1.cell? ⟨w.heap.size, 1, none⟩ = some (.slice am m.length cm) := cell_keeps hg1 hc1
  clear HMa HwA hc0 hc1 hg1 hbA
  rcases hp1 with ⟨b1, b2, rfl, hv1, hv2, hl17, hm17⟩ | ⟨p, q, rfl⟩
  · have HVa : Hid (VV w1 l (.pointer (some ⟨b1, 0, none⟩))) := hv1
    have HVb : Hid (VV w1 m (.pointer (some ⟨b2, 0, none⟩))) := hv2
    have HLl : Hid (Lies 17 w1 l (.slice al l.length cl)) := hl17
    obtain ⟨LL, hLL⟩ : ∃ LL, LL = l.length := ⟨_, rfl⟩
    obtain ⟨ML, hML⟩ : ∃ ML, ML = m.length := ⟨_, rfl⟩
    rw [← hLL] at d0
    rw [← hML] at d1
    clear hv1 hv2 hl17 hm17
    by_cases hbig : 20000 < LL ∨ 20000 < ML
    · have hex : (20000 : Int) < (LL : Nat) ∨ (¬ (20000 : Int) < (LL : Nat) ∧ (20000 : Int) < (ML : Nat)) := by omega
      clear hbig hLL hML HLl HVa HVb
      rcases hex with h1 | ⟨h1, h2⟩
      · go_wp2_with fail
        refine Calls.mono (HSp.out _) ?_
        rintro e wz ⟨rfl, hbz⟩
        have HBz : Hid (Below w.heap.size w wz) := hb1.trans (hbz.mono hb1.size)
        clear hbz hb1
        go_wp2_with fail
        go_ret
        exact ⟨rfl, HBz.out⟩

      · go_wp2_with fail
        refine Calls.mono (HSp.out _) ?_
        rintro e wz ⟨rfl, hbz⟩
        have HBz : Hid (Below w.heap.size w wz) := hb1.trans (hbz.mono hb1.size)
        clear hbz hb1
        go_wp2_with fail
        go_ret
        exact ⟨rfl, HBz.out⟩

    · have h1 : ¬ (20000 : Int) < (LL : Nat) := by omega
      have h2 : ¬ (20000 : Int) < (ML : Nat) := by omega
      have hl2 : l.length ≤ 20000 := by omega
      have hm2 : m.length ≤ 20000 := by omega
      have HCu : Hid _ := cut_any l _ i w1 HVa.out
      have HLL : Hid (LL = l.length) := hLL
      have Hd0 : Hid _ := d0
      clear hbig hLL hML
      go_wp2_with fail
      refine Calls.mono HCu.out ?_
      rintro e w2 ⟨hb2, hp2⟩
      have hb12 : Below w.heap.size w w2 := hb1.trans (hb2.mono hb1.size)
      have HVa2 : Hid (VV w2 l (.pointer (some ⟨b1, 0, none⟩))) := HVa.out.keeps hb2
      have HVb2 : Hid (VV w2 m (.pointer (some ⟨b2, 0, none⟩))) := HVb.out.keeps hb2
      clear HCu d0 d1 HVa HVb
      rcases hp2 with ⟨hend, p1, p2, rfl, v1, v2⟩ | ⟨hend, rfl⟩
      · exact absurd hend Hend.out
      · obtain ⟨wt, hwt⟩ : ∃ wt, wt = w2 := ⟨_, rfl⟩
        subst hwt
        have HVa : Hid (VV wt l (.pointer (some ⟨b1, 0, none⟩))) := HVa2.out
        have HVb : Hid (VV wt m (.pointer (some ⟨b2, 0, none⟩))) := HVb2.out
        have hB : Below w.heap.size w wt := hb12
        clear hend hb12 hb2 HVa2 HVb2 HLl Hd0 hb1
        have HC1 : Hid _ := cat2_any l m _ _ wt HVa.out HVb.out (by rw [List.length_append]; omega)
        go_wp2_with fail
        refine Calls.mono HC1.out ?_
        rintro e x1 ⟨g1, c1, rfl, v1⟩
        have HVab : Hid (VV x1 (l ++ m) (.pointer (some ⟨c1, 0, none⟩))) := v1
        have HVa1 : Hid (VV x1 l (.pointer (some ⟨b1, 0, none⟩))) := HVa.out.keeps g1
        have HVb1 : Hid (VV x1 m (.pointer (some ⟨b2, 0, none⟩))) := HVb.out.keeps g1
        have hB1 : Below w.heap.size w x1 := hB.trans (g1.mono hB.size)
        have HC2 : Hid _ := cat2_any m l _ _ x1 HVb1.out HVa1.out (by rw [List.length_append]; omega)
        clear HC1 v1 HVa HVb hB g1
        go_wp2_with fail
        refine Calls.mono HC2.out ?_
        rintro e x2 ⟨g2, c2, rfl, v2⟩
        have HVba : Hid (VV x2 (m ++ l) (.pointer (some ⟨c2, 0, none⟩))) := v2
        have HVab : Hid (VV x2 (l ++ m) (.pointer (some ⟨c1, 0, none⟩))) := HVab.out.keeps g2
        have HVa : Hid (VV x2 l (.pointer (some ⟨b1, 0, none⟩))) := HVa1.out.keeps g2
        have HVb : Hid (VV x2 m (.pointer (some ⟨b2, 0, none⟩))) := HVb1.out.keeps g2
        have hB2 : Below w.heap.size w x2 := hB1.trans (g2.mono hB1.size)
        have HC3 : Hid _ := cat2_any (l ++ m) l _ _ x2 HVab.out HVa.out (by rw [List.length_append, List.length_append]; omega)
        clear HC2 v2 HVa1 HVb1 hB1 g2
        go_wp2_with fail
        refine Calls.mono HC3.out ?_
        rintro e x3 ⟨g3, c3, rfl, v3⟩
        have HVl : Hid (VV x3 ((l ++ m) ++ l) (.pointer (some ⟨c3, 0, none⟩))) := v3
        have HVba : Hid (VV x3 (m ++ l) (.pointer (some ⟨c2, 0, none⟩))) := HVba.out.keeps g3
        have HVab : Hid (VV x3 (l ++ m) (.pointer (some ⟨c1, 0, none⟩))) := HVab.out.keeps g3
        have HVa : Hid (VV x3 l (.pointer (some ⟨b1, 0, none⟩))) := HVa.out.keeps g3
        have HVb : Hid (VV x3 m (.pointer (some ⟨b2, 0, none⟩))) := HVb.out.keeps g3
        have hB3 : Below w.heap.size w x3 := hB2.trans (g3.mono hB2.size)
        have HC4 : Hid _ := cat2_any l (m ++ l) _ _ x3 HVa.out HVba.out (by rw [List.length_append, List.length_append]; omega)
        clear HC3 v3 hB2 g3
        go_wp2_with fail
        refine Calls.mono HC4.out ?_
        rintro e x4 ⟨g4, c4, rfl, v4⟩
        have HVl : Hid (VV x4 ((l ++ m) ++ l) (.pointer (some ⟨c3, 0, none⟩))) := HVl.out.keeps g4
        have HVab : Hid (VV x4 (l ++ m) (.pointer (some ⟨c1, 0, none⟩))) := HVab.out.keeps g4
        have HVa : Hid (VV x4 l (.pointer (some ⟨b1, 0, none⟩))) := HVa.out.keeps g4
        have HVb : Hid (VV x4 m (.pointer (some ⟨b2, 0, none⟩))) := HVb.out.keeps g4
        have hB4 : Below w.heap.size w x4 := hB3.trans (g4.mono hB3.size)
        have HC5 : Hid _ := same2_any ((l ++ m) ++ l) (l ++ (m ++ l)) (List.append_assoc _ _ _) _ _ x4 HVl.out v4
        clear HC4 v4 hB3 g4 HVba
        go_wp2_with fail
        refine Calls.mono HC5.out ?_
        rintro e x5 ⟨rfl, g5⟩
        have HVl : Hid (VV x5 ((l ++ m) ++ l) (.pointer (some ⟨c3, 0, none⟩))) := HVl.out.keeps g5
        have HVab : Hid (VV x5 (l ++ m) (.pointer (some ⟨c1, 0, none⟩))) := HVab.out.keeps g5
        have HVa : Hid (VV x5 l (.pointer (some ⟨b1, 0, none⟩))) := HVa.out.keeps g5
        have HVb : Hid (VV x5 m (.pointer (some ⟨b2, 0, none⟩))) := HVb.out.keeps g5
        have hB5 : Below w.heap.size w x5 := hB4.trans (g5.mono hB4.size)
        obtain ⟨T, hT⟩ : ∃ T, T = (l ++ m) ++ l := ⟨_, rfl⟩
        rw [← hT] at HVl
        obtain ⟨TL, hTL⟩ : ∃ TL, TL = T.length := ⟨_, rfl⟩
        have HC6 : Hid (Calls Try.prog 29 #[.pointer (some ⟨c3, 0, none⟩)] x5 fun e w' => Below x5.heap.size x5 w' ∧ ∃ hN : Nat, e = .returned (.int .i64 (hN : Int)) ∧ ∀ V, Calls Try.prog 30 #[.int .i64 (TL : Int)] V fun e w' => ∃ g : Nat, e = .returned (.int .i64 (g : Int)) ∧ hN ≤ g ∧ w' = V) := by rw [hTL]; exact height_pair T _ x5 HVl.out
        have HC7' : Hid (∀ V, Below x5.heap.size x5 V → Calls Try.prog 31 #[.pointer (some ⟨c3, 0, none⟩)] V (NumPost TL V)) := fun V hV => by rw [hTL]; exact vlen_any 16 T _ V (HVl.out.keeps hV).vc
        clear hT hTL HVl
        clear HC5 hB4 g5
        go_wp2_with fail
        refine Calls.mono HC6.out ?_
        rintro e x6 ⟨g6, hN, rfl, hhi⟩
        have HHi : Hid _ := hhi
        have HC7 : Hid _ := HC7'.out x6 g6
        have HVab : Hid (VV x6 (l ++ m) (.pointer (some ⟨c1, 0, none⟩))) := HVab.out.keeps g6
        have HVa : Hid (VV x6 l (.pointer (some ⟨b1, 0, none⟩))) := HVa.out.keeps g6
        have HVb : Hid (VV x6 m (.pointer (some ⟨b2, 0, none⟩))) := HVb.out.keeps g6
        have hB6 : Below w.heap.size w x6 := hB5.trans (g6.mono hB5.size)
        clear HC6 hB5 g6 hhi HC7'
        go_wp2_with fail
        refine Calls.mono HC7.out ?_
        rintro e x7 ⟨rfl, g7⟩
        have HH7 : Hid _ := HHi.out x7
        have HVab : Hid (VV x7 (l ++ m) (.pointer (some ⟨c1, 0, none⟩))) := HVab.out.keeps g7
        have HVa : Hid (VV x7 l (.pointer (some ⟨b1, 0, none⟩))) := HVa.out.keeps g7
        have HVb : Hid (VV x7 m (.pointer (some ⟨b2, 0, none⟩))) := HVb.out.keeps g7
        have hB7 : Below w.heap.size w x7 := hB6.trans (g7.mono hB6.size)
        clear HC7 hB6 g7 HHi
        go_wp2_with fail
        refine Calls.mono HH7.out ?_
        rintro e x8 ⟨g, rfl, hle, hw8⟩
        obtain rfl : x7 = x8 := hw8.symm
        have hlei : ¬ ((g : Nat) : Int) < (hN : Nat) := by omega
        have HC9 : Hid _ := creverse_any m _ x7 HVb.out
        clear HH7
        go_wp2_with fail
        refine Calls.mono HC9.out ?_
        rintro e x9 ⟨g9, c9, rfl, v9⟩
        have HVr : Hid (VV x9 m.reverse (.pointer (some ⟨c9, 0, none⟩))) := v9
        have HVab : Hid (VV x9 (l ++ m) (.pointer (some ⟨c1, 0, none⟩))) := HVab.out.keeps g9
        have HVa : Hid (VV x9 l (.pointer (some ⟨b1, 0, none⟩))) := HVa.out.keeps g9
        have hB9 : Below w.heap.size w x9 := hB7.trans (g9.mono hB7.size)
        have HCa : Hid _ := creverse_any l _ x9 HVa.out
        clear HC9 v9 hB7 g9 HVb hlei hle
        go_wp2_with fail
        refine Calls.mono HCa.out ?_
        rintro e xa ⟨ga, ca, rfl, va⟩
        have HVab : Hid (VV xa (l ++ m) (.pointer (some ⟨c1, 0, none⟩))) := HVab.out.keeps ga
        have hBa : Below w.heap.size w xa := hB9.trans (ga.mono hB9.size)
        have HCb : Hid _ := cat2_any m.reverse l.reverse _ _ xa (HVr.out.keeps ga) va (by rw [List.length_append, List.length_reverse, List.length_reverse]; omega)
        clear HCa va hB9 ga HVa HVr
        go_wp2_with fail
        refine Calls.mono HCb.out ?_
        rintro e xb ⟨gb, cb, rfl, vb⟩
        have HVt : Hid (VV xb (m.reverse ++ l.reverse) (.pointer (some ⟨cb, 0, none⟩))) := vb
        have hBb : Below w.heap.size w xb := hBa.trans (gb.mono hBa.size)
        have HCc : Hid _ := creverse_any (l ++ m) _ xb (HVab.out.keeps gb)
        clear HCb vb hBa gb HVab
        go_wp2_with fail
        refine Calls.mono HCc.out ?_
        rintro e xc ⟨gc, cc, rfl, vc⟩
        have hBc : Below w.heap.size w xc := hBb.trans (gc.mono hBb.size)
        have HCd : Hid _ := same2_any (l ++ m).reverse (m.reverse ++ l.reverse) (List.reverse_append ..) _ _ xc vc (HVt.out.keeps gc)
        clear HCc vc hBb gc HVt
        go_wp2_with fail
        refine Calls.mono HCd.out ?_
        rintro e xd ⟨rfl, gd⟩
        have hBd : Below w.heap.size w xd := hBc.trans (gd.mono hBc.size)
        clear HCd hBc gd
        go_wp2_with fail
        refine Calls.mono (HSp.out _) ?_
        rintro e xe ⟨rfl, ge⟩
        have HBz : Hid (Below w.heap.size w xe) := hBd.trans (ge.mono hBd.size)
        clear ge hBd
        go_wp2_with fail
        go_ret
        exact ⟨rfl, HBz.out⟩
  · go_wp2_with fail
    refine Calls.mono (HSp.out _) ?_
    rintro e wz ⟨rfl, hbz⟩
    have HBz : Hid (Below w.heap.size w wz) := hb1.trans (hbz.mono hb1.size)
    clear hbz hb1
    go_wp2_with fail
    go_ret
    exact ⟨rfl, HBz.out⟩

end Go.Proofs.Ytpnfmcmhcjekfab

namespace Go.Proofs.Ytpnfmcmhcjekfab
open Go.RowKit

theorem laws_walk (n : Nat) (l m : List VT) (ul um : Value) (i : Int) (w : World) (hl : Lies (n + 1) w l ul) (hm : Lies (n + 1) w m um) : Calls Try.prog 6 #[.agg #[ul, um], .int .i64 i] w fun e w' => e = .returned (.bool true) ∧ Below w.heap.size w w' := by
  by_cases h : endB l i
  · exact laws_end n l m ul um i w hl hm h
  · exact laws_not n l m ul um i w hl hm h

end Go.Proofs.Ytpnfmcmhcjekfab

