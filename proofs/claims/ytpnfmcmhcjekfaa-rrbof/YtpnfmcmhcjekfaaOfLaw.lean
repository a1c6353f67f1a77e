/-
  RrbOf.
-/
import Derived.Test.YtpnfmcmhcjekfaaGoneN
import Derived.Test.YtpnfmcmhcjekfaaGoneQ
import Derived.Test.YtpnfmcmhcjekfaaStepsP
import Derived.Test.YtpnfmcmhcjekfaaValueLaw
import Derived.Test.YtpnfmcmhcjekfaaListed
namespace Go.Proofs.Ytpnfmcmhcjekfaa
open Go.RowKit

/-- Nth on both sides. -/
theorem nth_pair (l : List VT) (b : Nat) (al : Option Addr) (L cl : Nat) (i : Int) (w0 w : World) (hb0 : Below w0.heap.size w0 w) (hV : VV w l (.pointer (some ⟨b, 0, none⟩))) (hL : Lies 17 w0 l (.slice al L cl)) (hLl : L = l.length) : Calls Try.prog 13 #[.pointer (some ⟨b, 0, none⟩), .int .i64 i] w fun e w2 => Below w.heap.size w w2 ∧ ∃ (y : VT) (va : Option Addr) (vc kk : Nat), e = .returned (.tuple #[.agg #[.int .i64 y.kind, .int .i64 y.num, .string y.text, .slice va y.items.length vc], .int .i64 (kk : Int)]) ∧ Lies 16 w2 y.items (.slice va y.items.length vc) ∧
    ∀ W2, Below w2.heap.size w2 W2 → Calls Try.prog 14 #[.slice al L cl, .int .i64 i] W2 fun e w3 => Below W2.heap.size W2 w3 ∧ ∃ (ua : Option Addr) (uc : Nat), e = .returned (.tuple #[.agg #[.int .i64 y.kind, .int .i64 y.num, .string y.text, .slice ua y.items.length uc], .int .i64 (kk : Int)]) ∧ Lies 16 w0 y.items (.slice ua y.items.length uc) := by
  subst hLl
  have hlen := hV.len
  have hdoc : ∀ w2 W2, Below w.heap.size w w2 → Below w2.heap.size w2 W2 → Calls Try.prog 14 #[.slice al l.length cl, .int .i64 i] W2 _ := fun w2 W2 h1 h2 => rnth_any l al cl i w0 W2 hL (hb0.trans ((h1.trans (h2.mono h1.size)).mono hb0.size)) hlen
  by_cases hs : 0 ≤ i ∧ i < (l.length : Int)
  · obtain ⟨I, rfl⟩ := Int.eq_ofNat_of_zero_le hs.1
    have hI : I < l.length := by have := hs.2; omega
    refine Calls.mono (vnth_some l _ I l[I] w hV.vc (List.getElem?_eq_getElem hI) (List.all_eq_true.1 hV.right _ (List.getElem_mem hI)) (by omega)) ?_
    rintro e w2 ⟨hb2, u, rfl, hu⟩
    obtain ⟨va, vc, rfl, _⟩ := LiesB.slice hu
    refine ⟨hb2, l[I], va, vc, 0, rfl, LiesB.lies _ _ _ hu, fun W2 h2 => Calls.mono (hdoc w2 W2 hb2 h2) ?_⟩
    rintro e w3 ⟨hb3, hp3⟩
    refine ⟨hb3, ?_⟩
    rcases hp3 with ⟨_, x', u', hx', rfl, hlx⟩ | ⟨hn, _⟩
    · rw [Int.toNat_natCast, List.getElem?_eq_getElem hI] at hx'
      injection hx' with hx'
      subst hx'
      obtain ⟨ua, uc, rfl, _⟩ := Lies.slice hlx
      exact ⟨ua, uc, rfl, hlx⟩
    · exact absurd hs hn
  · refine Calls.mono (vnth_none l _ i w hV.vc hs) ?_
    rintro e w2 ⟨hb2, he⟩
    have he' : e = _ := he
    subst he'
    refine ⟨hb2, zeroT, none, 0, 5, rfl, LiesB.lies _ _ _ (zero_liesB 0 _), fun W2 h2 => Calls.mono (hdoc w2 W2 hb2 h2) ?_⟩
    rintro e w3 ⟨hb3, hp3⟩
    refine ⟨hb3, ?_⟩
    rcases hp3 with ⟨hn, _⟩ | ⟨_, rfl⟩
    · exact absurd hn hs
    · exact ⟨none, 0, rfl, LiesB.lies _ _ _ (zero_liesB 0 _)⟩

end Go.Proofs.Ytpnfmcmhcjekfaa

namespace Go.Proofs.Ytpnfmcmhcjekfaa
open Go.RowKit

set_option maxRecDepth 100000 in
set_option maxHeartbeats 16000000 in
theorem of_neg_lt (n : Nat) (l : List VT) (al : Option Addr) (L cl : Nat) (i : Int) (hL : L = l.length) (w : World) (hl : Lies (n + 1) w l (.slice al L cl)) (hm1 : max i 0 = ((0 : Nat) : Int)) (hneg : i < 0) (hrel : 0 < L) : Calls Try.prog 3 #[.slice al L cl, .int .i64 i] w fun e w' => e = .returned (.bool true) ∧ Below w.heap.size w w' := by
  have hlc : L ≤ cl := by
    obtain ⟨_, _, e, h, _⟩ := hl
    injection e with _ _ e
    omega
  have HO : Hid _ := of_vv n l _ w hl
  have HLs : Hid (∀ V, Below w.heap.size w V → Calls Try.prog 10 #[.slice al L cl] V fun e w' => e = .returned (.int .i64 (listErr n l)) ∧ Below V.heap.size V w') := fun V hV => listed_any n l _ V (Lies.keeps hV _ _ _ hl)
  have HSp : Hid (∀ V, Calls Try.prog 11 #[] V fun e w' => e = .returned (.bool true) ∧ Below V.heap.size V w') := speaks11_any
  obtain ⟨M, hM⟩ : ∃ M, M = L + 1 := ⟨_, rfl⟩
  have HM : Hid (M = L + 1) := hM
  have HL : Hid (L = l.length) := hL
  have Hm1 : Hid (max i 0 = ((0 : Nat) : Int)) := hm1
  clear hl hM hL hm1
  go_enter Try.func3, Try.ntmps3
  go_wp2_with fail
  refine Calls.mono HO.out ?_
  rintro e w1 ⟨hb1, hp1⟩
  rcases hp1 with ⟨b, rfl, hv, hl17, hz⟩ | ⟨k, rfl, hk, hz⟩
  · have HL1 : Hid _ := HLs.out w1 hb1
    rw [hz] at HL1
    have HV1 : Hid (VV w1 l (.pointer (some ⟨b, 0, none⟩))) := hv
    have HLi : Hid (Lies 17 w1 l (.slice al L cl)) := hl17
    have hL16 : L ≤ 65536 := by rw [HL.out]; exact hv.len
    have hwM : IntKind.i64.wrap ((L : Int) + 1) = (M : Int) := by have := HM.out; rw [IntKind.wrap_i64]; omega
    clear HO HLs hv hl17 hz
    go_wp2_with fail
    refine Calls.mono HL1.out ?_
    rintro e w2 ⟨rfl, hg2⟩
    have HSm : Hid _ := same11_any l b _ w2 (HV1.out.keeps hg2) (Lies.keeps hg2 _ _ _ HLi.out)
    clear HL1
    go_wp2_with fail
    refine Calls.mono HSm.out ?_
    rintro e w3 ⟨rfl, hg3⟩
    have hb13 : Below w1.heap.size w1 w3 := hg2.trans (hg3.mono hg2.size)
    have HNt : Hid _ := nth_pair l b al L cl i w1 w3 hb13 (HV1.out.keeps hb13) HLi.out HL.out
    clear HSm hg2 hg3
    go_wp2_with fail
    refine Calls.mono HNt.out ?_
    rintro e w4 ⟨hg4, y, va, vc, kk, rfl, hly, hrn⟩
    obtain ⟨W4, hW4⟩ : ∃ W4, W4 = w4.alloc (.cells #[.int .i64 y.kind, .int .i64 y.num, .string y.text, .slice va y.items.length vc] 31) := ⟨_, rfl⟩
    have hg44 : Below w4.heap.size w4 W4 := by rw [hW4]; exact ((Grew.refl w4).alloc _).below
    have BP : Hid (Bx W4 w4.heap.size y (.slice va y.items.length vc)) := by rw [hW4]; exact bx_alloc w4 y _
    have hb14 : Below w1.heap.size w1 w4 := hb13.trans (hg4.mono hb13.size)
    have Hly : Hid (Lies 16 w4 y.items (.slice va y.items.length vc)) := hly
    have HRn : Hid _ := hrn W4 hg44
    have HW4 : Hid (W4 = w4.alloc (.cells #[.int .i64 y.kind, .int .i64 y.num, .string y.text, .slice va y.items.length vc] 31)) := hW4
    rw [hW4] at HRn
    clear HNt hW4 hrn hly hg4 hb13
    go_wp2_with fail
    refine Calls.mono HRn.out ?_
    rintro e w5 ⟨hg5, ua, uc, rfl, hlu⟩
    rw [← HW4.out] at hg5
    obtain ⟨W5, hW5⟩ : ∃ W5, W5 = w5.alloc (.cells #[.int .i64 y.kind, .int .i64 y.num, .string y.text, .slice ua y.items.length uc] 31) := ⟨_, rfl⟩
    have hg55 : Below w5.heap.size w5 W5 := by rw [hW5]; exact ((Grew.refl w5).alloc _).below
    have hb45 : Below W4.heap.size W4 W5 := hg5.trans (hg55.mono hg5.size)
    obtain ⟨u0, u1, u2, u3, _, _, _, _⟩ := BP.out.keeps hb45
    obtain ⟨r0, r1, r2, r3, _, _, _, _⟩ := (show Bx W5 w5.heap.size y (.slice ua y.items.length uc) by rw [hW5]; exact bx_alloc w5 y _)
    have hb4W : Below w4.heap.size w4 W5 := hg44.trans (hb45.mono hg44.size)
    have hb15 : Below w1.heap.size w1 W5 := hb14.trans (hb4W.mono hb14.size)
    have HSv : Hid (Calls Try.prog 15 #[.agg #[.int .i64 y.kind, .int .i64 y.num, .string y.text, .slice va y.items.length vc], .agg #[.int .i64 y.kind, .int .i64 y.num, .string y.text, .slice ua y.items.length uc]] W5 fun e W' => e = .returned (.bool true) ∧ Below W5.heap.size W5 W') := (same_any 16 y y _ _ W5 (Lies.keeps hb4W _ _ _ Hly.out) (Lies.keeps hb15 _ _ _ hlu)).mono fun e W' h => ⟨by rw [h.1, sameV_self], h.2.below⟩
    have HW5 : Hid (W5 = w5.alloc (.cells #[.int .i64 y.kind, .int .i64 y.num, .string y.text, .slice ua y.items.length uc] 31)) := hW5
    rw [hW5] at HSv u0 u1 u2 u3 r0 r1 r2 r3
    clear HRn hW5 hg5 hg55 hb45 BP Hly hlu hg44 hb4W HW4
    go_wp2_with fail
    refine Calls.mono HSv.out ?_
    rintro e w6 ⟨rfl, hg6⟩
    rw [← HW5.out] at hg6
    have hb16 : Below w1.heap.size w1 w6 := hb15.trans (hg6.mono hb15.size)
    have HGo : Hid _ := gone_neg l (some ⟨b, 0, none⟩) i 0 M Hm1.out (by rw [← HL.out]; exact HM.out) (by omega) w6 (HV1.out.keeps hb16)
    clear HSv hg6 hb15 hb14 u0 u1 u2 u3 r0 r1 r2 r3 HW5
    have hPLi : ¬ ((L : Nat) : Int) < ((0 : Nat) : Int) := by omega
    have hPLi2 : ((0 : Nat) : Int) ≤ (L : Nat) := by omega
    have hPc : ((0 : Nat) : Int) ≤ (cl : Nat) := by omega
    have hPLi3 : ((0 : Nat) : Int) < (L : Nat) := by omega
    have hPc3 : ¬ (cl = 0) := by omega
    have hPc4 : ¬ ((cl : Nat) : Int) = ((0 : Nat) : Int) := by omega
    go_wp2_with fail
    refine Calls.mono HGo.out ?_
    rintro e w7 ⟨hg7, ga, gn, gc, rfl, hgn, hgl⟩
    have hb17 : Below w1.heap.size w1 w7 := hb16.trans (hg7.mono hb16.size)
    have hB7 : Below w.heap.size w w7 := hb1.trans (hb17.mono hb1.size)
    have HGl : Hid (Lies 17 w7 (fromL l ((0 : Nat) : Int)) (.slice ga gn gc)) := hgl
    have HLw : Hid (Lies 17 w7 l (.slice al L cl)) := Lies.keeps hb17 _ _ _ HLi.out
    have hFl : (fromL l ((0 : Nat) : Int)).length ≤ 65536 := by
      unfold fromL
      have := HL.out
      split
      · rw [List.length_drop]; omega
      · simp
    clear HGo hgl hg7 hb16 hb17 hgn HV1 HLi
    have hfr : fromL l ((0 : Nat) : Int) = l.drop 0 := by
      unfold fromL
      have := HL.out
      rw [if_pos (by omega), Int.toNat_natCast]
    obtain ⟨g, o, hao, _⟩ := Lies.some_at HLw.out (by have := HL.out; omega)
    subst hao
    have HVs : Hid (Calls Try.prog 17 #[.slice ga gn gc, .slice (some ⟨g, o + 0, none⟩) (L - 0) (cl - 0)] w7 fun e w' => e = .returned (.bool true) ∧ Below w7.heap.size w7 w') := by
      have h9 := Lies.dropped (by have := HLw.out; rw [HL.out] at this; exact this) 0
      rw [← hfr, ← HL.out] at h9
      exact values_one 16 (fromL l ((0 : Nat) : Int)) _ _ w7 HGl.out h9 hFl
    clear hfr hFl HGl HLw
    go_wp2_with fail
    refine Calls.mono HVs.out ?_
    rintro e w8 ⟨rfl, hg8⟩
    have hB8 : Below w.heap.size w w8 := hB7.trans (hg8.mono hB7.size)
    clear HVs hg8
    go_wp2_with fail
    refine Calls.mono (HSp.out _) ?_
    rintro e w9 ⟨rfl, hg9⟩
    have HBz : Hid (Below w.heap.size w w9) := hB8.trans (hg9.mono hB8.size)
    clear hg9 hB8 hB7
    go_wp2_with fail
    go_ret
    exact ⟨rfl, HBz.out⟩
  · have hk0 : ¬ ((k : Nat) : Int) = 0 := by omega
    have HL1 : Hid _ := HLs.out w1 hb1
    rw [hz] at HL1
    clear HO HLs hk hz
    go_wp2_with fail
    refine Calls.mono HL1.out ?_
    rintro e w2 ⟨rfl, hg2⟩
    have hb2 : Below w.heap.size w w2 := hb1.trans (hg2.mono hb1.size)
    clear HL1 hg2
    go_wp2_with fail
    refine Calls.mono (HSp.out _) ?_
    rintro e wd ⟨rfl, hgd⟩
    have HBz : Hid (Below w.heap.size w wd) := hb2.trans (hgd.mono hb2.size)
    clear hgd
    go_wp2_with fail
    go_ret
    exact ⟨rfl, HBz.out⟩

end Go.Proofs.Ytpnfmcmhcjekfaa

namespace Go.Proofs.Ytpnfmcmhcjekfaa
open Go.RowKit

set_option maxRecDepth 100000 in
set_option maxHeartbeats 16000000 in
theorem of_neg_eq (n : Nat) (l : List VT) (al : Option Addr) (L cl : Nat) (i : Int) (hL : L = l.length) (w : World) (hl : Lies (n + 1) w l (.slice al L cl)) (hm1 : max i 0 = ((0 : Nat) : Int)) (hneg : i < 0) (hrel : L = 0) : Calls Try.prog 3 #[.slice al L cl, .int .i64 i] w fun e w' => e = .returned (.bool true) ∧ Below w.heap.size w w' := by
  have hlc : L ≤ cl := by
    obtain ⟨_, _, e, h, _⟩ := hl
    injection e with _ _ e
    omega
  have HL0 : Hid (L = 0) := hrel
  clear hrel
  have HO : Hid _ := of_vv n l _ w hl
  have HLs : Hid (∀ V, Below w.heap.size w V → Calls Try.prog 10 #[.slice al L cl] V fun e w' => e = .returned (.int .i64 (listErr n l)) ∧ Below V.heap.size V w') := fun V hV => listed_any n l _ V (Lies.keeps hV _ _ _ hl)
  have HSp : Hid (∀ V, Calls Try.prog 11 #[] V fun e w' => e = .returned (.bool true) ∧ Below V.heap.size V w') := speaks11_any
  obtain ⟨M, hM⟩ : ∃ M, M = L + 1 := ⟨_, rfl⟩
  have HM : Hid (M = L + 1) := hM
  have HL : Hid (L = l.length) := hL
  have Hm1 : Hid (max i 0 = ((0 : Nat) : Int)) := hm1
  clear hl hM hL hm1
  go_enter Try.func3, Try.ntmps3
  go_wp2_with fail
  refine Calls.mono HO.out ?_
  rintro e w1 ⟨hb1, hp1⟩
  rcases hp1 with ⟨b, rfl, hv, hl17, hz⟩ | ⟨k, rfl, hk, hz⟩
  · have HL1 : Hid _ := HLs.out w1 hb1
    rw [hz] at HL1
    have HV1 : Hid (VV w1 l (.pointer (some ⟨b, 0, none⟩))) := hv
    have HLi : Hid (Lies 17 w1 l (.slice al L cl)) := hl17
    have hL16 : L ≤ 65536 := by rw [HL.out]; exact hv.len
    have hwM : IntKind.i64.wrap ((L : Int) + 1) = (M : Int) := by have := HM.out; rw [IntKind.wrap_i64]; omega
    clear HO HLs hv hl17 hz
    go_wp2_with fail
    refine Calls.mono HL1.out ?_
    rintro e w2 ⟨rfl, hg2⟩
    have HSm : Hid _ := same11_any l b _ w2 (HV1.out.keeps hg2) (Lies.keeps hg2 _ _ _ HLi.out)
    clear HL1
    go_wp2_with fail
    refine Calls.mono HSm.out ?_
    rintro e w3 ⟨rfl, hg3⟩
    have hb13 : Below w1.heap.size w1 w3 := hg2.trans (hg3.mono hg2.size)
    have HNt : Hid _ := nth_pair l b al L cl i w1 w3 hb13 (HV1.out.keeps hb13) HLi.out HL.out
    clear HSm hg2 hg3
    go_wp2_with fail
    refine Calls.mono HNt.out ?_
    rintro e w4 ⟨hg4, y, va, vc, kk, rfl, hly, hrn⟩
    obtain ⟨W4, hW4⟩ : ∃ W4, W4 = w4.alloc (.cells #[.int .i64 y.kind, .int .i64 y.num, .string y.text, .slice va y.items.length vc] 31) := ⟨_, rfl⟩
    have hg44 : Below w4.heap.size w4 W4 := by rw [hW4]; exact ((Grew.refl w4).alloc _).below
    have BP : Hid (Bx W4 w4.heap.size y (.slice va y.items.length vc)) := by rw [hW4]; exact bx_alloc w4 y _
    have hb14 : Below w1.heap.size w1 w4 := hb13.trans (hg4.mono hb13.size)
    have Hly : Hid (Lies 16 w4 y.items (.slice va y.items.length vc)) := hly
    have HRn : Hid _ := hrn W4 hg44
    have HW4 : Hid (W4 = w4.alloc (.cells #[.int .i64 y.kind, .int .i64 y.num, .string y.text, .slice va y.items.length vc] 31)) := hW4
    rw [hW4] at HRn
    clear HNt hW4 hrn hly hg4 hb13
    go_wp2_with fail
    refine Calls.mono HRn.out ?_
    rintro e w5 ⟨hg5, ua, uc, rfl, hlu⟩
    rw [← HW4.out] at hg5
    obtain ⟨W5, hW5⟩ : ∃ W5, W5 = w5.alloc (.cells #[.int .i64 y.kind, .int .i64 y.num, .string y.text, .slice ua y.items.length uc] 31) := ⟨_, rfl⟩
    have hg55 : Below w5.heap.size w5 W5 := by rw [hW5]; exact ((Grew.refl w5).alloc _).below
    have hb45 : Below W4.heap.size W4 W5 := hg5.trans (hg55.mono hg5.size)
    obtain ⟨u0, u1, u2, u3, _, _, _, _⟩ := BP.out.keeps hb45
    obtain ⟨r0, r1, r2, r3, _, _, _, _⟩ := (show Bx W5 w5.heap.size y (.slice ua y.items.length uc) by rw [hW5]; exact bx_alloc w5 y _)
    have hb4W : Below w4.heap.size w4 W5 := hg44.trans (hb45.mono hg44.size)
    have hb15 : Below w1.heap.size w1 W5 := hb14.trans (hb4W.mono hb14.size)
    have HSv : Hid (Calls Try.prog 15 #[.agg #[.int .i64 y.kind, .int .i64 y.num, .string y.text, .slice va y.items.length vc], .agg #[.int .i64 y.kind, .int .i64 y.num, .string y.text, .slice ua y.items.length uc]] W5 fun e W' => e = .returned (.bool true) ∧ Below W5.heap.size W5 W') := (same_any 16 y y _ _ W5 (Lies.keeps hb4W _ _ _ Hly.out) (Lies.keeps hb15 _ _ _ hlu)).mono fun e W' h => ⟨by rw [h.1, sameV_self], h.2.below⟩
    have HW5 : Hid (W5 = w5.alloc (.cells #[.int .i64 y.kind, .int .i64 y.num, .string y.text, .slice ua y.items.length uc] 31)) := hW5
    rw [hW5] at HSv u0 u1 u2 u3 r0 r1 r2 r3
    clear HRn hW5 hg5 hg55 hb45 BP Hly hlu hg44 hb4W HW4
    go_wp2_with fail
    refine Calls.mono HSv.out ?_
    rintro e w6 ⟨rfl, hg6⟩
    rw [← HW5.out] at hg6
    have hb16 : Below w1.heap.size w1 w6 := hb15.trans (hg6.mono hb15.size)
    have HGo : Hid _ := gone_neg l (some ⟨b, 0, none⟩) i 0 M Hm1.out (by rw [← HL.out]; exact HM.out) (by omega) w6 (HV1.out.keeps hb16)
    clear HSv hg6 hb15 hb14 u0 u1 u2 u3 r0 r1 r2 r3 HW5
    have hPLi : ¬ ((L : Nat) : Int) < ((0 : Nat) : Int) := by omega
    have hPLj : ¬ ((L : Nat) : Int) < 0 := by omega
    clear hlc
    go_wp2_with fail
    refine Calls.mono HGo.out ?_
    rintro e w7 ⟨hg7, ga, gn, gc, rfl, hgn, hgl⟩
    have hb17 : Below w1.heap.size w1 w7 := hb16.trans (hg7.mono hb16.size)
    have hB7 : Below w.heap.size w w7 := hb1.trans (hb17.mono hb1.size)
    have HGl : Hid (Lies 17 w7 (fromL l ((0 : Nat) : Int)) (.slice ga gn gc)) := hgl
    have HLw : Hid (Lies 17 w7 l (.slice al L cl)) := Lies.keeps hb17 _ _ _ HLi.out
    have hFl : (fromL l ((0 : Nat) : Int)).length ≤ 65536 := by
      unfold fromL
      have := HL.out
      split
      · rw [List.length_drop]; omega
      · simp
    clear HGo hgl hg7 hb16 hb17 hgn HV1 HLi
    have hfr : fromL l ((0 : Nat) : Int) = [] := by
      unfold fromL
      have := HL.out
      have := HL0.out
      rw [if_neg (by omega)]
    have HVs' : Hid (∀ (a9 : Option Addr) (c9 : Nat), Calls Try.prog 17 #[.slice ga gn gc, .slice a9 L c9] w7 fun e w' => e = .returned (.bool true) ∧ Below w7.heap.size w7 w') := fun a9 c9 => values_one 16 (fromL l ((0 : Nat) : Int)) _ _ w7 HGl.out (by rw [hfr]; exact ⟨a9, c9, by rw [HL0.out]; rfl, by simp, fun h => absurd rfl h⟩) hFl
    clear hfr hFl HGl HLw
    by_cases hcn : cl = 0
    · subst hcn
      cases al with
      | none =>
        go_wp2_with fail
        refine Calls.mono (HVs'.out _ _) ?_
        rintro e w8 ⟨rfl, hg8⟩
        have hB8 : Below w.heap.size w w8 := hB7.trans (hg8.mono hB7.size)
        clear HVs' hg8
        go_wp2_with fail
        refine Calls.mono (HSp.out _) ?_
        rintro e w9 ⟨rfl, hg9⟩
        have HBz : Hid (Below w.heap.size w w9) := hB8.trans (hg9.mono hB8.size)
        clear hg9 hB8 hB7
        go_wp2_with fail
        go_ret
        exact ⟨rfl, HBz.out⟩
      | some ad =>
        go_wp2_with fail
        refine Calls.mono (HVs'.out _ _) ?_
        rintro e w8 ⟨rfl, hg8⟩
        have hB8 : Below w.heap.size w w8 := hB7.trans (hg8.mono hB7.size)
        clear HVs' hg8
        go_wp2_with fail
        refine Calls.mono (HSp.out _) ?_
        rintro e w9 ⟨rfl, hg9⟩
        have HBz : Hid (Below w.heap.size w w9) := hB8.trans (hg9.mono hB8.size)
        clear hg9 hB8 hB7
        go_wp2_with fail
        go_ret
        exact ⟨rfl, HBz.out⟩
    · have hcni : ¬ ((cl : Nat) : Int) = 0 := by omega
      have hcni2 : ¬ (cl = 0) := hcn
      cases al with
      | none =>
        go_wp2_with fail
        refine Calls.mono (HVs'.out _ _) ?_
        rintro e w8 ⟨rfl, hg8⟩
        have hB8 : Below w.heap.size w w8 := hB7.trans (hg8.mono hB7.size)
        clear HVs' hg8
        go_wp2_with fail
        refine Calls.mono (HSp.out _) ?_
        rintro e w9 ⟨rfl, hg9⟩
        have HBz : Hid (Below w.heap.size w w9) := hB8.trans (hg9.mono hB8.size)
        clear hg9 hB8 hB7
        go_wp2_with fail
        go_ret
        exact ⟨rfl, HBz.out⟩
      | some ad =>
        go_wp2_with fail
        refine Calls.mono (HVs'.out _ _) ?_
        rintro e w8 ⟨rfl, hg8⟩
        have hB8 : Below w.heap.size w w8 := hB7.trans (hg8.mono hB7.size)
        clear HVs' hg8
        go_wp2_with fail
        refine Calls.mono (HSp.out _) ?_
        rintro e w9 ⟨rfl, hg9⟩
        have HBz : Hid (Below w.heap.size w w9) := hB8.trans (hg9.mono hB8.size)
        clear hg9 hB8 hB7
        go_wp2_with fail
        go_ret
        exact ⟨rfl, HBz.out⟩
  · have hk0 : ¬ ((k : Nat) : Int) = 0 := by omega
    have HL1 : Hid _ := HLs.out w1 hb1
    rw [hz] at HL1
    clear HO HLs hk hz
    go_wp2_with fail
    refine Calls.mono HL1.out ?_
    rintro e w2 ⟨rfl, hg2⟩
    have hb2 : Below w.heap.size w w2 := hb1.trans (hg2.mono hb1.size)
    clear HL1 hg2
    go_wp2_with fail
    refine Calls.mono (HSp.out _) ?_
    rintro e wd ⟨rfl, hgd⟩
    have HBz : Hid (Below w.heap.size w wd) := hb2.trans (hgd.mono hb2.size)
    clear hgd
    go_wp2_with fail
    go_ret
    exact ⟨rfl, HBz.out⟩

end Go.Proofs.Ytpnfmcmhcjekfaa

namespace Go.Proofs.Ytpnfmcmhcjekfaa
open Go.RowKit

set_option maxRecDepth 100000 in
set_option maxHeartbeats 16000000 in
theorem of_pos_lt (n : Nat) (l : List VT) (al : Option Addr) (L cl : Nat) (i : Int) (P0 : Nat) (hL : L = l.length) (w : World) (hl : Lies (n + 1) w l (.slice al L cl)) (hm1 : max i 0 = (P0 : Int)) (hneg : ¬ i < 0) (hrel : P0 < L) : Calls Try.prog 3 #[.slice al L cl, .int .i64 i] w fun e w' => e = .returned (.bool true) ∧ Below w.heap.size w w' := by
  have hlc : L ≤ cl := by
    obtain ⟨_, _, e, h, _⟩ := hl
    injection e with _ _ e
    omega
  have HO : Hid _ := of_vv n l _ w hl
  have HLs : Hid (∀ V, Below w.heap.size w V → Calls Try.prog 10 #[.slice al L cl] V fun e w' => e = .returned (.int .i64 (listErr n l)) ∧ Below V.heap.size V w') := fun V hV => listed_any n l _ V (Lies.keeps hV _ _ _ hl)
  have HSp : Hid (∀ V, Calls Try.prog 11 #[] V fun e w' => e = .returned (.bool true) ∧ Below V.heap.size V w') := speaks11_any
  obtain ⟨M, hM⟩ : ∃ M, M = L + 1 := ⟨_, rfl⟩
  have HM : Hid (M = L + 1) := hM
  have HL : Hid (L = l.length) := hL
  have Hm1 : Hid (max i 0 = (P0 : Int)) := hm1
  clear hl hM hL hm1
  go_enter Try.func3, Try.ntmps3
  go_wp2_with fail
  refine Calls.mono HO.out ?_
  rintro e w1 ⟨hb1, hp1⟩
  rcases hp1 with ⟨b, rfl, hv, hl17, hz⟩ | ⟨k, rfl, hk, hz⟩
  · have HL1 : Hid _ := HLs.out w1 hb1
    rw [hz] at HL1
    have HV1 : Hid (VV w1 l (.pointer (some ⟨b, 0, none⟩))) := hv
    have HLi : Hid (Lies 17 w1 l (.slice al L cl)) := hl17
    have hL16 : L ≤ 65536 := by rw [HL.out]; exact hv.len
    have hwM : IntKind.i64.wrap ((L : Int) + 1) = (M : Int) := by have := HM.out; rw [IntKind.wrap_i64]; omega
    clear HO HLs hv hl17 hz
    go_wp2_with fail
    refine Calls.mono HL1.out ?_
    rintro e w2 ⟨rfl, hg2⟩
    have HSm : Hid _ := same11_any l b _ w2 (HV1.out.keeps hg2) (Lies.keeps hg2 _ _ _ HLi.out)
    clear HL1
    go_wp2_with fail
    refine Calls.mono HSm.out ?_
    rintro e w3 ⟨rfl, hg3⟩
    have hb13 : Below w1.heap.size w1 w3 := hg2.trans (hg3.mono hg2.size)
    have HNt : Hid _ := nth_pair l b al L cl i w1 w3 hb13 (HV1.out.keeps hb13) HLi.out HL.out
    clear HSm hg2 hg3
    go_wp2_with fail
    refine Calls.mono HNt.out ?_
    rintro e w4 ⟨hg4, y, va, vc, kk, rfl, hly, hrn⟩
    obtain ⟨W4, hW4⟩ : ∃ W4, W4 = w4.alloc (.cells #[.int .i64 y.kind, .int .i64 y.num, .string y.text, .slice va y.items.length vc] 31) := ⟨_, rfl⟩
    have hg44 : Below w4.heap.size w4 W4 := by rw [hW4]; exact ((Grew.refl w4).alloc _).below
    have BP : Hid (Bx W4 w4.heap.size y (.slice va y.items.length vc)) := by rw [hW4]; exact bx_alloc w4 y _
    have hb14 : Below w1.heap.size w1 w4 := hb13.trans (hg4.mono hb13.size)
    have Hly : Hid (Lies 16 w4 y.items (.slice va y.items.length vc)) := hly
    have HRn : Hid _ := hrn W4 hg44
    have HW4 : Hid (W4 = w4.alloc (.cells #[.int .i64 y.kind, .int .i64 y.num, .string y.text, .slice va y.items.length vc] 31)) := hW4
    rw [hW4] at HRn
    clear HNt hW4 hrn hly hg4 hb13
    go_wp2_with fail
    refine Calls.mono HRn.out ?_
    rintro e w5 ⟨hg5, ua, uc, rfl, hlu⟩
    rw [← HW4.out] at hg5
    obtain ⟨W5, hW5⟩ : ∃ W5, W5 = w5.alloc (.cells #[.int .i64 y.kind, .int .i64 y.num, .string y.text, .slice ua y.items.length uc] 31) := ⟨_, rfl⟩
    have hg55 : Below w5.heap.size w5 W5 := by rw [hW5]; exact ((Grew.refl w5).alloc _).below
    have hb45 : Below W4.heap.size W4 W5 := hg5.trans (hg55.mono hg5.size)
    obtain ⟨u0, u1, u2, u3, _, _, _, _⟩ := BP.out.keeps hb45
    obtain ⟨r0, r1, r2, r3, _, _, _, _⟩ := (show Bx W5 w5.heap.size y (.slice ua y.items.length uc) by rw [hW5]; exact bx_alloc w5 y _)
    have hb4W : Below w4.heap.size w4 W5 := hg44.trans (hb45.mono hg44.size)
    have hb15 : Below w1.heap.size w1 W5 := hb14.trans (hb4W.mono hb14.size)
    have HSv : Hid (Calls Try.prog 15 #[.agg #[.int .i64 y.kind, .int .i64 y.num, .string y.text, .slice va y.items.length vc], .agg #[.int .i64 y.kind, .int .i64 y.num, .string y.text, .slice ua y.items.length uc]] W5 fun e W' => e = .returned (.bool true) ∧ Below W5.heap.size W5 W') := (same_any 16 y y _ _ W5 (Lies.keeps hb4W _ _ _ Hly.out) (Lies.keeps hb15 _ _ _ hlu)).mono fun e W' h => ⟨by rw [h.1, sameV_self], h.2.below⟩
    have HW5 : Hid (W5 = w5.alloc (.cells #[.int .i64 y.kind, .int .i64 y.num, .string y.text, .slice ua y.items.length uc] 31)) := hW5
    rw [hW5] at HSv u0 u1 u2 u3 r0 r1 r2 r3
    clear HRn hW5 hg5 hg55 hb45 BP Hly hlu hg44 hb4W HW4
    go_wp2_with fail
    refine Calls.mono HSv.out ?_
    rintro e w6 ⟨rfl, hg6⟩
    rw [← HW5.out] at hg6
    have hb16 : Below w1.heap.size w1 w6 := hb15.trans (hg6.mono hb15.size)
    have HGo : Hid _ := gone_pos l (some ⟨b, 0, none⟩) i P0 M Hm1.out (by rw [← HL.out]; exact HM.out) (by omega) w6 (HV1.out.keeps hb16)
    clear HSv hg6 hb15 hb14 u0 u1 u2 u3 r0 r1 r2 r3 HW5
    obtain rfl : i = (P0 : Int) := by have := Hm1.out; omega
    have hPLi : ¬ ((L : Nat) : Int) < (P0 : Int) := by omega
    have hPLi2 : (P0 : Int) ≤ (L : Nat) := by omega
    have hPc : (P0 : Int) ≤ (cl : Nat) := by omega
    have hPLi3 : (P0 : Int) < (L : Nat) := by omega
    have hPc3 : ¬ (cl = P0) := by omega
    have hPc4 : ¬ ((cl : Nat) : Int) = (P0 : Int) := by omega
    go_wp2_with fail
    refine Calls.mono HGo.out ?_
    rintro e w7 ⟨hg7, ga, gn, gc, rfl, hgn, hgl⟩
    have hb17 : Below w1.heap.size w1 w7 := hb16.trans (hg7.mono hb16.size)
    have hB7 : Below w.heap.size w w7 := hb1.trans (hb17.mono hb1.size)
    have HGl : Hid (Lies 17 w7 (fromL l (P0 : Int)) (.slice ga gn gc)) := hgl
    have HLw : Hid (Lies 17 w7 l (.slice al L cl)) := Lies.keeps hb17 _ _ _ HLi.out
    have hFl : (fromL l (P0 : Int)).length ≤ 65536 := by
      unfold fromL
      have := HL.out
      split
      · rw [List.length_drop]; omega
      · simp
    clear HGo hgl hg7 hb16 hb17 hgn HV1 HLi
    have hfr : fromL l (P0 : Int) = l.drop P0 := by
      unfold fromL
      have := HL.out
      rw [if_pos (by omega), Int.toNat_natCast]
    obtain ⟨g, o, hao, _⟩ := Lies.some_at HLw.out (by have := HL.out; omega)
    subst hao
    have HVs : Hid (Calls Try.prog 17 #[.slice ga gn gc, .slice (some ⟨g, o + P0 * 4, none⟩) (L - P0) (cl - P0)] w7 fun e w' => e = .returned (.bool true) ∧ Below w7.heap.size w7 w') := by
      have h9 := Lies.dropped (by have := HLw.out; rw [HL.out] at this; exact this) P0
      rw [← hfr, ← HL.out] at h9
      exact values_one 16 (fromL l (P0 : Int)) _ _ w7 HGl.out h9 hFl
    clear hfr hFl HGl HLw
    go_wp2_with fail
    refine Calls.mono HVs.out ?_
    rintro e w8 ⟨rfl, hg8⟩
    have hB8 : Below w.heap.size w w8 := hB7.trans (hg8.mono hB7.size)
    clear HVs hg8
    go_wp2_with fail
    refine Calls.mono (HSp.out _) ?_
    rintro e w9 ⟨rfl, hg9⟩
    have HBz : Hid (Below w.heap.size w w9) := hB8.trans (hg9.mono hB8.size)
    clear hg9 hB8 hB7
    go_wp2_with fail
    go_ret
    exact ⟨rfl, HBz.out⟩
  · have hk0 : ¬ ((k : Nat) : Int) = 0 := by omega
    have HL1 : Hid _ := HLs.out w1 hb1
    rw [hz] at HL1
    clear HO HLs hk hz
    go_wp2_with fail
    refine Calls.mono HL1.out ?_
    rintro e w2 ⟨rfl, hg2⟩
    have hb2 : Below w.heap.size w w2 := hb1.trans (hg2.mono hb1.size)
    clear HL1 hg2
    go_wp2_with fail
    refine Calls.mono (HSp.out _) ?_
    rintro e wd ⟨rfl, hgd⟩
    have HBz : Hid (Below w.heap.size w wd) := hb2.trans (hgd.mono hb2.size)
    clear hgd
    go_wp2_with fail
    go_ret
    exact ⟨rfl, HBz.out⟩

end Go.Proofs.Ytpnfmcmhcjekfaa

namespace Go.Proofs.Ytpnfmcmhcjekfaa
open Go.RowKit

set_option maxRecDepth 100000 in
set_option maxHeartbeats 16000000 in
theorem of_pos_eq (n : Nat) (l : List VT) (al : Option Addr) (P0 cl : Nat) (i : Int) (hL : P0 = l.length) (w : World) (hl : Lies (n + 1) w l (.slice al P0 cl)) (hm1 : max i 0 = (P0 : Int)) (hneg : ¬ i < 0) : Calls Try.prog 3 #[.slice al P0 cl, .int .i64 i] w fun e w' => e = .returned (.bool true) ∧ Below w.heap.size w w' := by
  have hlc : P0 ≤ cl := by
    obtain ⟨_, _, e, h, _⟩ := hl
    injection e with _ _ e
    omega
  have HO : Hid _ := of_vv n l _ w hl
  have HLs : Hid (∀ V, Below w.heap.size w V → Calls Try.prog 10 #[.slice al P0 cl] V fun e w' => e = .returned (.int .i64 (listErr n l)) ∧ Below V.heap.size V w') := fun V hV => listed_any n l _ V (Lies.keeps hV _ _ _ hl)
  have HSp : Hid (∀ V, Calls Try.prog 11 #[] V fun e w' => e = .returned (.bool true) ∧ Below V.heap.size V w') := speaks11_any
  obtain ⟨M, hM⟩ : ∃ M, M = P0 + 1 := ⟨_, rfl⟩
  have HM : Hid (M = P0 + 1) := hM
  have HL : Hid (P0 = l.length) := hL
  have Hm1 : Hid (max i 0 = (P0 : Int)) := hm1
  clear hl hM hL hm1
  go_enter Try.func3, Try.ntmps3
  go_wp2_with fail
  refine Calls.mono HO.out ?_
  rintro e w1 ⟨hb1, hp1⟩
  rcases hp1 with ⟨b, rfl, hv, hl17, hz⟩ | ⟨k, rfl, hk, hz⟩
  · have HL1 : Hid _ := HLs.out w1 hb1
    rw [hz] at HL1
    have HV1 : Hid (VV w1 l (.pointer (some ⟨b, 0, none⟩))) := hv
    have HLi : Hid (Lies 17 w1 l (.slice al P0 cl)) := hl17
    have hL16 : P0 ≤ 65536 := by rw [HL.out]; exact hv.len
    have hwM : IntKind.i64.wrap ((P0 : Int) + 1) = (M : Int) := by have := HM.out; rw [IntKind.wrap_i64]; omega
    clear HO HLs hv hl17 hz
    go_wp2_with fail
    refine Calls.mono HL1.out ?_
    rintro e w2 ⟨rfl, hg2⟩
    have HSm : Hid _ := same11_any l b _ w2 (HV1.out.keeps hg2) (Lies.keeps hg2 _ _ _ HLi.out)
    clear HL1
    go_wp2_with fail
    refine Calls.mono HSm.out ?_
    rintro e w3 ⟨rfl, hg3⟩
    have hb13 : Below w1.heap.size w1 w3 := hg2.trans (hg3.mono hg2.size)
    have HNt : Hid _ := nth_pair l b al P0 cl i w1 w3 hb13 (HV1.out.keeps hb13) HLi.out HL.out
    clear HSm hg2 hg3
    go_wp2_with fail
    refine Calls.mono HNt.out ?_
    rintro e w4 ⟨hg4, y, va, vc, kk, rfl, hly, hrn⟩
    obtain ⟨W4, hW4⟩ : ∃ W4, W4 = w4.alloc (.cells #[.int .i64 y.kind, .int .i64 y.num, .string y.text, .slice va y.items.length vc] 31) := ⟨_, rfl⟩
    have hg44 : Below w4.heap.size w4 W4 := by rw [hW4]; exact ((Grew.refl w4).alloc _).below
    have BP : Hid (Bx W4 w4.heap.size y (.slice va y.items.length vc)) := by rw [hW4]; exact bx_alloc w4 y _
    have hb14 : Below w1.heap.size w1 w4 := hb13.trans (hg4.mono hb13.size)
    have Hly : Hid (Lies 16 w4 y.items (.slice va y.items.length vc)) := hly
    have HRn : Hid _ := hrn W4 hg44
    have HW4 : Hid (W4 = w4.alloc (.cells #[.int .i64 y.kind, .int .i64 y.num, .string y.text, .slice va y.items.length vc] 31)) := hW4
    rw [hW4] at HRn
    clear HNt hW4 hrn hly hg4 hb13
    go_wp2_with fail
    refine Calls.mono HRn.out ?_
    rintro e w5 ⟨hg5, ua, uc, rfl, hlu⟩
    rw [← HW4.out] at hg5
    obtain ⟨W5, hW5⟩ : ∃ W5, W5 = w5.alloc (.cells #[.int .i64 y.kind, .int .i64 y.num, .string y.text, .slice ua y.items.length uc] 31) := ⟨_, rfl⟩
    have hg55 : Below w5.heap.size w5 W5 := by rw [hW5]; exact ((Grew.refl w5).alloc _).below
    have hb45 : Below W4.heap.size W4 W5 := hg5.trans (hg55.mono hg5.size)
    obtain ⟨u0, u1, u2, u3, _, _, _, _⟩ := BP.out.keeps hb45
    obtain ⟨r0, r1, r2, r3, _, _, _, _⟩ := (show Bx W5 w5.heap.size y (.slice ua y.items.length uc) by rw [hW5]; exact bx_alloc w5 y _)
    have hb4W : Below w4.heap.size w4 W5 := hg44.trans (hb45.mono hg44.size)
    have hb15 : Below w1.heap.size w1 W5 := hb14.trans (hb4W.mono hb14.size)
    have HSv : Hid (Calls Try.prog 15 #[.agg #[.int .i64 y.kind, .int .i64 y.num, .string y.text, .slice va y.items.length vc], .agg #[.int .i64 y.kind, .int .i64 y.num, .string y.text, .slice ua y.items.length uc]] W5 fun e W' => e = .returned (.bool true) ∧ Below W5.heap.size W5 W') := (same_any 16 y y _ _ W5 (Lies.keeps hb4W _ _ _ Hly.out) (Lies.keeps hb15 _ _ _ hlu)).mono fun e W' h => ⟨by rw [h.1, sameV_self], h.2.below⟩
    have HW5 : Hid (W5 = w5.alloc (.cells #[.int .i64 y.kind, .int .i64 y.num, .string y.text, .slice ua y.items.length uc] 31)) := hW5
    rw [hW5] at HSv u0 u1 u2 u3 r0 r1 r2 r3
    clear HRn hW5 hg5 hg55 hb45 BP Hly hlu hg44 hb4W HW4
    go_wp2_with fail
    refine Calls.mono HSv.out ?_
    rintro e w6 ⟨rfl, hg6⟩
    rw [← HW5.out] at hg6
    have hb16 : Below w1.heap.size w1 w6 := hb15.trans (hg6.mono hb15.size)
    have HGo : Hid _ := gone_pos l (some ⟨b, 0, none⟩) i P0 M Hm1.out (by rw [← HL.out]; exact HM.out) (by omega) w6 (HV1.out.keeps hb16)
    clear HSv hg6 hb15 hb14 u0 u1 u2 u3 r0 r1 r2 r3 HW5
    obtain rfl : i = (P0 : Int) := by have := Hm1.out; omega
    have hself : ¬ ((P0 : Nat) : Int) < (P0 : Nat) := by omega
    have hPc : (P0 : Int) ≤ (cl : Nat) := by omega
    go_wp2_with fail
    refine Calls.mono HGo.out ?_
    rintro e w7 ⟨hg7, ga, gn, gc, rfl, hgn, hgl⟩
    have hb17 : Below w1.heap.size w1 w7 := hb16.trans (hg7.mono hb16.size)
    have hB7 : Below w.heap.size w w7 := hb1.trans (hb17.mono hb1.size)
    have HGl : Hid (Lies 17 w7 (fromL l (P0 : Int)) (.slice ga gn gc)) := hgl
    have HLw : Hid (Lies 17 w7 l (.slice al P0 cl)) := Lies.keeps hb17 _ _ _ HLi.out
    have hFl : (fromL l (P0 : Int)).length ≤ 65536 := by
      unfold fromL
      have := HL.out
      split
      · rw [List.length_drop]; omega
      · simp
    clear HGo hgl hg7 hb16 hb17 hgn HV1 HLi
    have hfr : fromL l (P0 : Int) = [] := by
      unfold fromL
      have := HL.out
      rw [if_neg (by omega)]
    have HVs' : Hid (∀ (a9 : Option Addr) (c9 : Nat), Calls Try.prog 17 #[.slice ga gn gc, .slice a9 0 c9] w7 fun e w' => e = .returned (.bool true) ∧ Below w7.heap.size w7 w') := fun a9 c9 => values_one 16 (fromL l (P0 : Int)) _ _ w7 HGl.out (by rw [hfr]; exact ⟨a9, c9, rfl, by simp, fun h => absurd rfl h⟩) hFl
    clear hfr hFl HGl HLw
    by_cases hcn : cl = P0
    · subst hcn
      cases al with
      | none =>
        go_wp2_with fail
        refine Calls.mono (HVs'.out _ _) ?_
        rintro e w8 ⟨rfl, hg8⟩
        have hB8 : Below w.heap.size w w8 := hB7.trans (hg8.mono hB7.size)
        clear HVs' hg8
        go_wp2_with fail
        refine Calls.mono (HSp.out _) ?_
        rintro e w9 ⟨rfl, hg9⟩
        have HBz : Hid (Below w.heap.size w w9) := hB8.trans (hg9.mono hB8.size)
        clear hg9 hB8 hB7
        go_wp2_with fail
        go_ret
        exact ⟨rfl, HBz.out⟩
      | some ad =>
        go_wp2_with fail
        refine Calls.mono (HVs'.out _ _) ?_
        rintro e w8 ⟨rfl, hg8⟩
        have hB8 : Below w.heap.size w w8 := hB7.trans (hg8.mono hB7.size)
        clear HVs' hg8
        go_wp2_with fail
        refine Calls.mono (HSp.out _) ?_
        rintro e w9 ⟨rfl, hg9⟩
        have HBz : Hid (Below w.heap.size w w9) := hB8.trans (hg9.mono hB8.size)
        clear hg9 hB8 hB7
        go_wp2_with fail
        go_ret
        exact ⟨rfl, HBz.out⟩
    · have hcni : ¬ ((cl : Nat) : Int) = (P0 : Nat) := by omega
      have hcni2 : ¬ (cl = P0) := hcn
      cases al with
      | none =>
        go_wp2_with fail
        refine Calls.mono (HVs'.out _ _) ?_
        rintro e w8 ⟨rfl, hg8⟩
        have hB8 : Below w.heap.size w w8 := hB7.trans (hg8.mono hB7.size)
        clear HVs' hg8
        go_wp2_with fail
        refine Calls.mono (HSp.out _) ?_
        rintro e w9 ⟨rfl, hg9⟩
        have HBz : Hid (Below w.heap.size w w9) := hB8.trans (hg9.mono hB8.size)
        clear hg9 hB8 hB7
        go_wp2_with fail
        go_ret
        exact ⟨rfl, HBz.out⟩
      | some ad =>
        go_wp2_with fail
        refine Calls.mono (HVs'.out _ _) ?_
        rintro e w8 ⟨rfl, hg8⟩
        have hB8 : Below w.heap.size w w8 := hB7.trans (hg8.mono hB7.size)
        clear HVs' hg8
        go_wp2_with fail
        refine Calls.mono (HSp.out _) ?_
        rintro e w9 ⟨rfl, hg9⟩
        have HBz : Hid (Below w.heap.size w w9) := hB8.trans (hg9.mono hB8.size)
        clear hg9 hB8 hB7
        go_wp2_with fail
        go_ret
        exact ⟨rfl, HBz.out⟩
  · have hk0 : ¬ ((k : Nat) : Int) = 0 := by omega
    have HL1 : Hid _ := HLs.out w1 hb1
    rw [hz] at HL1
    clear HO HLs hk hz
    go_wp2_with fail
    refine Calls.mono HL1.out ?_
    rintro e w2 ⟨rfl, hg2⟩
    have hb2 : Below w.heap.size w w2 := hb1.trans (hg2.mono hb1.size)
    clear HL1 hg2
    go_wp2_with fail
    refine Calls.mono (HSp.out _) ?_
    rintro e wd ⟨rfl, hgd⟩
    have HBz : Hid (Below w.heap.size w wd) := hb2.trans (hgd.mono hb2.size)
    clear hgd
    go_wp2_with fail
    go_ret
    exact ⟨rfl, HBz.out⟩

end Go.Proofs.Ytpnfmcmhcjekfaa

namespace Go.Proofs.Ytpnfmcmhcjekfaa
open Go.RowKit

set_option maxRecDepth 100000 in
set_option maxHeartbeats 16000000 in
theorem of_pos_gt (n : Nat) (l : List VT) (al : Option Addr) (L cl : Nat) (i : Int) (P0 : Nat) (hL : L = l.length) (w : World) (hl : Lies (n + 1) w l (.slice al L cl)) (hm1 : max i 0 = (P0 : Int)) (hneg : ¬ i < 0) (hrel : L < P0) : Calls Try.prog 3 #[.slice al L cl, .int .i64 i] w fun e w' => e = .returned (.bool true) ∧ Below w.heap.size w w' := by
  have hlc : L ≤ cl := by
    obtain ⟨_, _, e, h, _⟩ := hl
    injection e with _ _ e
    omega
  have HO : Hid _ := of_vv n l _ w hl
  have HLs : Hid (∀ V, Below w.heap.size w V → Calls Try.prog 10 #[.slice al L cl] V fun e w' => e = .returned (.int .i64 (listErr n l)) ∧ Below V.heap.size V w') := fun V hV => listed_any n l _ V (Lies.keeps hV _ _ _ hl)
  have HSp : Hid (∀ V, Calls Try.prog 11 #[] V fun e w' => e = .returned (.bool true) ∧ Below V.heap.size V w') := speaks11_any
  obtain ⟨M, hM⟩ : ∃ M, M = L + 1 := ⟨_, rfl⟩
  have HM : Hid (M = L + 1) := hM
  have HL : Hid (L = l.length) := hL
  have Hm1 : Hid (max i 0 = (P0 : Int)) := hm1
  clear hl hM hL hm1
  go_enter Try.func3, Try.ntmps3
  go_wp2_with fail
  refine Calls.mono HO.out ?_
  rintro e w1 ⟨hb1, hp1⟩
  rcases hp1 with ⟨b, rfl, hv, hl17, hz⟩ | ⟨k, rfl, hk, hz⟩
  · have HL1 : Hid _ := HLs.out w1 hb1
    rw [hz] at HL1
    have HV1 : Hid (VV w1 l (.pointer (some ⟨b, 0, none⟩))) := hv
    have HLi : Hid (Lies 17 w1 l (.slice al L cl)) := hl17
    have hL16 : L ≤ 65536 := by rw [HL.out]; exact hv.len
    have hwM : IntKind.i64.wrap ((L : Int) + 1) = (M : Int) := by have := HM.out; rw [IntKind.wrap_i64]; omega
    clear HO HLs hv hl17 hz
    go_wp2_with fail
    refine Calls.mono HL1.out ?_
    rintro e w2 ⟨rfl, hg2⟩
    have HSm : Hid _ := same11_any l b _ w2 (HV1.out.keeps hg2) (Lies.keeps hg2 _ _ _ HLi.out)
    clear HL1
    go_wp2_with fail
    refine Calls.mono HSm.out ?_
    rintro e w3 ⟨rfl, hg3⟩
    have hb13 : Below w1.heap.size w1 w3 := hg2.trans (hg3.mono hg2.size)
    have HNt : Hid _ := nth_pair l b al L cl i w1 w3 hb13 (HV1.out.keeps hb13) HLi.out HL.out
    clear HSm hg2 hg3
    go_wp2_with fail
    refine Calls.mono HNt.out ?_
    rintro e w4 ⟨hg4, y, va, vc, kk, rfl, hly, hrn⟩
    obtain ⟨W4, hW4⟩ : ∃ W4, W4 = w4.alloc (.cells #[.int .i64 y.kind, .int .i64 y.num, .string y.text, .slice va y.items.length vc] 31) := ⟨_, rfl⟩
    have hg44 : Below w4.heap.size w4 W4 := by rw [hW4]; exact ((Grew.refl w4).alloc _).below
    have BP : Hid (Bx W4 w4.heap.size y (.slice va y.items.length vc)) := by rw [hW4]; exact bx_alloc w4 y _
    have hb14 : Below w1.heap.size w1 w4 := hb13.trans (hg4.mono hb13.size)
    have Hly : Hid (Lies 16 w4 y.items (.slice va y.items.length vc)) := hly
    have HRn : Hid _ := hrn W4 hg44
    have HW4 : Hid (W4 = w4.alloc (.cells #[.int .i64 y.kind, .int .i64 y.num, .string y.text, .slice va y.items.length vc] 31)) := hW4
    rw [hW4] at HRn
    clear HNt hW4 hrn hly hg4 hb13
    go_wp2_with fail
    refine Calls.mono HRn.out ?_
    rintro e w5 ⟨hg5, ua, uc, rfl, hlu⟩
    rw [← HW4.out] at hg5
    obtain ⟨W5, hW5⟩ : ∃ W5, W5 = w5.alloc (.cells #[.int .i64 y.kind, .int .i64 y.num, .string y.text, .slice ua y.items.length uc] 31) := ⟨_, rfl⟩
    have hg55 : Below w5.heap.size w5 W5 := by rw [hW5]; exact ((Grew.refl w5).alloc _).below
    have hb45 : Below W4.heap.size W4 W5 := hg5.trans (hg55.mono hg5.size)
    obtain ⟨u0, u1, u2, u3, _, _, _, _⟩ := BP.out.keeps hb45
    obtain ⟨r0, r1, r2, r3, _, _, _, _⟩ := (show Bx W5 w5.heap.size y (.slice ua y.items.length uc) by rw [hW5]; exact bx_alloc w5 y _)
    have hb4W : Below w4.heap.size w4 W5 := hg44.trans (hb45.mono hg44.size)
    have hb15 : Below w1.heap.size w1 W5 := hb14.trans (hb4W.mono hb14.size)
    have HSv : Hid (Calls Try.prog 15 #[.agg #[.int .i64 y.kind, .int .i64 y.num, .string y.text, .slice va y.items.length vc], .agg #[.int .i64 y.kind, .int .i64 y.num, .string y.text, .slice ua y.items.length uc]] W5 fun e W' => e = .returned (.bool true) ∧ Below W5.heap.size W5 W') := (same_any 16 y y _ _ W5 (Lies.keeps hb4W _ _ _ Hly.out) (Lies.keeps hb15 _ _ _ hlu)).mono fun e W' h => ⟨by rw [h.1, sameV_self], h.2.below⟩
    have HW5 : Hid (W5 = w5.alloc (.cells #[.int .i64 y.kind, .int .i64 y.num, .string y.text, .slice ua y.items.length uc] 31)) := hW5
    rw [hW5] at HSv u0 u1 u2 u3 r0 r1 r2 r3
    clear HRn hW5 hg5 hg55 hb45 BP Hly hlu hg44 hb4W HW4
    go_wp2_with fail
    refine Calls.mono HSv.out ?_
    rintro e w6 ⟨rfl, hg6⟩
    rw [← HW5.out] at hg6
    have hb16 : Below w1.heap.size w1 w6 := hb15.trans (hg6.mono hb15.size)
    have HGo : Hid _ := gone_pos l (some ⟨b, 0, none⟩) i P0 M Hm1.out (by rw [← HL.out]; exact HM.out) (by omega) w6 (HV1.out.keeps hb16)
    clear HSv hg6 hb15 hb14 u0 u1 u2 u3 r0 r1 r2 r3 HW5
    obtain rfl : i = (P0 : Int) := by have := Hm1.out; omega
    have hPLi : ((L : Nat) : Int) < (P0 : Int) := by omega
    have hLc : ((L : Nat) : Int) ≤ (cl : Nat) := by omega
    go_wp2_with fail
    refine Calls.mono HGo.out ?_
    rintro e w7 ⟨hg7, ga, gn, gc, rfl, hgn, hgl⟩
    have hb17 : Below w1.heap.size w1 w7 := hb16.trans (hg7.mono hb16.size)
    have hB7 : Below w.heap.size w w7 := hb1.trans (hb17.mono hb1.size)
    have HGl : Hid (Lies 17 w7 (fromL l (P0 : Int)) (.slice ga gn gc)) := hgl
    have HLw : Hid (Lies 17 w7 l (.slice al L cl)) := Lies.keeps hb17 _ _ _ HLi.out
    have hFl : (fromL l (P0 : Int)).length ≤ 65536 := by
      unfold fromL
      have := HL.out
      split
      · rw [List.length_drop]; omega
      · simp
    clear HGo hgl hg7 hb16 hb17 hgn HV1 HLi
    have hfr : fromL l (P0 : Int) = [] := by
      unfold fromL
      have := HL.out
      rw [if_neg (by omega)]
    have HVs' : Hid (∀ (a9 : Option Addr) (c9 : Nat), Calls Try.prog 17 #[.slice ga gn gc, .slice a9 0 c9] w7 fun e w' => e = .returned (.bool true) ∧ Below w7.heap.size w7 w') := fun a9 c9 => values_one 16 (fromL l (P0 : Int)) _ _ w7 HGl.out (by rw [hfr]; exact ⟨a9, c9, rfl, by simp, fun h => absurd rfl h⟩) hFl
    clear hfr hFl HGl HLw
    by_cases hcn : cl = L
    · subst hcn
      cases al with
      | none =>
        go_wp2_with fail
        refine Calls.mono (HVs'.out _ _) ?_
        rintro e w8 ⟨rfl, hg8⟩
        have hB8 : Below w.heap.size w w8 := hB7.trans (hg8.mono hB7.size)
        clear HVs' hg8
        go_wp2_with fail
        refine Calls.mono (HSp.out _) ?_
        rintro e w9 ⟨rfl, hg9⟩
        have HBz : Hid (Below w.heap.size w w9) := hB8.trans (hg9.mono hB8.size)
        clear hg9 hB8 hB7
        go_wp2_with fail
        go_ret
        exact ⟨rfl, HBz.out⟩
      | some ad =>
        go_wp2_with fail
        refine Calls.mono (HVs'.out _ _) ?_
        rintro e w8 ⟨rfl, hg8⟩
        have hB8 : Below w.heap.size w w8 := hB7.trans (hg8.mono hB7.size)
        clear HVs' hg8
        go_wp2_with fail
        refine Calls.mono (HSp.out _) ?_
        rintro e w9 ⟨rfl, hg9⟩
        have HBz : Hid (Below w.heap.size w w9) := hB8.trans (hg9.mono hB8.size)
        clear hg9 hB8 hB7
        go_wp2_with fail
        go_ret
        exact ⟨rfl, HBz.out⟩
    · have hcni : ¬ ((cl : Nat) : Int) = (L : Nat) := by omega
      have hcni2 : ¬ (cl = L) := hcn
      cases al with
      | none =>
        go_wp2_with fail
        refine Calls.mono (HVs'.out _ _) ?_
        rintro e w8 ⟨rfl, hg8⟩
        have hB8 : Below w.heap.size w w8 := hB7.trans (hg8.mono hB7.size)
        clear HVs' hg8
        go_wp2_with fail
        refine Calls.mono (HSp.out _) ?_
        rintro e w9 ⟨rfl, hg9⟩
        have HBz : Hid (Below w.heap.size w w9) := hB8.trans (hg9.mono hB8.size)
        clear hg9 hB8 hB7
        go_wp2_with fail
        go_ret
        exact ⟨rfl, HBz.out⟩
      | some ad =>
        go_wp2_with fail
        refine Calls.mono (HVs'.out _ _) ?_
        rintro e w8 ⟨rfl, hg8⟩
        have hB8 : Below w.heap.size w w8 := hB7.trans (hg8.mono hB7.size)
        clear HVs' hg8
        go_wp2_with fail
        refine Calls.mono (HSp.out _) ?_
        rintro e w9 ⟨rfl, hg9⟩
        have HBz : Hid (Below w.heap.size w w9) := hB8.trans (hg9.mono hB8.size)
        clear hg9 hB8 hB7
        go_wp2_with fail
        go_ret
        exact ⟨rfl, HBz.out⟩
  · have hk0 : ¬ ((k : Nat) : Int) = 0 := by omega
    have HL1 : Hid _ := HLs.out w1 hb1
    rw [hz] at HL1
    clear HO HLs hk hz
    go_wp2_with fail
    refine Calls.mono HL1.out ?_
    rintro e w2 ⟨rfl, hg2⟩
    have hb2 : Below w.heap.size w w2 := hb1.trans (hg2.mono hb1.size)
    clear HL1 hg2
    go_wp2_with fail
    refine Calls.mono (HSp.out _) ?_
    rintro e wd ⟨rfl, hgd⟩
    have HBz : Hid (Below w.heap.size w wd) := hb2.trans (hgd.mono hb2.size)
    clear hgd
    go_wp2_with fail
    go_ret
    exact ⟨rfl, HBz.out⟩

end Go.Proofs.Ytpnfmcmhcjekfaa

namespace Go.Proofs.Ytpnfmcmhcjekfaa
open Go.RowKit

theorem of_walk (n : Nat) (l : List VT) (ul : Value) (i : Int) (w : World) (hl : Lies (n + 1) w l ul) : Calls Try.prog 3 #[ul, .int .i64 i] w fun e w' => e = .returned (.bool true) ∧ Below w.heap.size w w' := by
  obtain ⟨al, cl, rfl, _⟩ := Lies.slice hl
  by_cases hneg : i < 0
  · by_cases h0 : l.length = 0
    · exact of_neg_eq n l al _ cl i rfl w hl (by omega) hneg h0
    · exact of_neg_lt n l al _ cl i rfl w hl (by omega) hneg (by omega)
  · obtain ⟨P0, rfl⟩ := Int.eq_ofNat_of_zero_le (show 0 ≤ i by omega)
    rcases Nat.lt_trichotomy P0 l.length with h | h | h
    · exact of_pos_lt n l al _ cl _ P0 rfl w hl (by omega) hneg h
    · subst h; exact of_pos_eq n l al _ cl _ rfl w hl (by omega) hneg
    · exact of_pos_gt n l al _ cl _ P0 rfl w hl (by omega) hneg h

end Go.Proofs.Ytpnfmcmhcjekfaa

