import Derived.Test.YtlnecfjnffdciaaGreatRowP
import Derived.Test.YtlnecfjnffdciaaGreatMapP
import Derived.Test.YtlnecfjnffdciaaGreatEq
import Derived.Test.YtlnecfjnffdciaaGreatLastOf
import Derived.Test.YtlnecfjnffdciaaGreatSameEq
import Derived.Deep.RegionHeld3
namespace Go.Proofs.YtlnecfjnffdciaaGreat
open Go.RowKit

set_option maxRecDepth 100000 in
set_option maxHeartbeats 4000000 in
theorem checkPair_any (d : Nat) (t1 t2 : VT) (ta tb : Option Addr) (tc td bx : Nat) (w : World) (h1 : Lies d w t1.items (.slice ta t1.items.length tc)) (h2 : Lies d w t2.items (.slice tb t2.items.length td)) (hs1 : t1.text.size ≤ 9223372036854775807) (hs2 : t2.text.size ≤ 9223372036854775807) (hbx : w.cell? ⟨bx, 0, none⟩ = some (.func (.func 69) #[] #[])) :
 Calls Tryz.prog 132 #[.agg #[.int .i64 t1.kind, .int .i64 t1.num, .string t1.text, .slice ta t1.items.length tc, .int .i64 t2.kind, .int .i64 t2.num, .string t2.text, .slice tb t2.items.length td], .pointer (some ⟨bx, 0, none⟩)] w fun e w' => e = .returned (.int .i64 (errOf (okP d (t1, t2)))) ∧ Below w.heap.size w w' := by
 have H1 : Hid (Lies d w t1.items (.slice ta t1.items.length tc)) := h1
 have H2 : Hid (Lies d w t2.items (.slice tb t2.items.length td)) := h2
 have hlb : bx < w.heap.size := cell_lt hbx
 have hb0 : Below w.heap.size w (w.alloc (.cells #[.int .i64 t1.kind, .int .i64 t1.num, .string t1.text, .slice ta t1.items.length tc, .int .i64 t2.kind, .int .i64 t2.num, .string t2.text, .slice tb t2.items.length td] 69)) := ((Grew.refl w).alloc _).below
 clear h1 h2
 go_enter Tryz.func132, Tryz.ntmps132
 go_wp2_with fail
 refine (check_any d t1 _ _ (Lies.keeps hb0 _ _ _ H1.out) hs1).mono ?_
 rintro e w1 ⟨rfl, hg⟩
 have hb1 : Below w.heap.size w w1 := hb0.trans (hg.mono hb0.size)
 have hbx1 := cell_keeps hb1 hbx
 have c4 := cell_keeps hg (show (w.alloc (.cells #[.int .i64 t1.kind, .int .i64 t1.num, .string t1.text, .slice ta t1.items.length tc, .int .i64 t2.kind, .int .i64 t2.num, .string t2.text, .slice tb t2.items.length td] 69)).cell? ⟨w.heap.size, 4, none⟩ = some (.int .i64 t2.kind) by simp)
 have c5 := cell_keeps hg (show (w.alloc (.cells #[.int .i64 t1.kind, .int .i64 t1.num, .string t1.text, .slice ta t1.items.length tc, .int .i64 t2.kind, .int .i64 t2.num, .string t2.text, .slice tb t2.items.length td] 69)).cell? ⟨w.heap.size, 5, none⟩ = some (.int .i64 t2.num) by simp)
 have c6 := cell_keeps hg (show (w.alloc (.cells #[.int .i64 t1.kind, .int .i64 t1.num, .string t1.text, .slice ta t1.items.length tc, .int .i64 t2.kind, .int .i64 t2.num, .string t2.text, .slice tb t2.items.length td] 69)).cell? ⟨w.heap.size, 6, none⟩ = some (.string t2.text) by simp)
 have c7 := cell_keeps hg (show (w.alloc (.cells #[.int .i64 t1.kind, .int .i64 t1.num, .string t1.text, .slice ta t1.items.length tc, .int .i64 t2.kind, .int .i64 t2.num, .string t2.text, .slice tb t2.items.length td] 69)).cell? ⟨w.heap.size, 7, none⟩ = some (.slice tb t2.items.length td) by simp)
 clear hg hbx
 cases hx : rightV d t1
 ·have he : errOf false = 3 := rfl
  have hok : Hid (okP d (t1, t2) = false) := by show _ = _; unfold okP; simp only; rw [hx]; rfl
  rw [he]
  clear he
  go_wp2_with fail
  go_ret
  exact ⟨by rw [hok.out]; rfl, hb1⟩
 ·have he : errOf true = 0 := rfl
  have hok : Hid (okP d (t1, t2) = rightV d t2) := by show _ = _; unfold okP; simp only; rw [hx]; rfl
  rw [he]
  clear he
  go_wp2_with fail
  refine (check_any d t2 _ _ (Lies.keeps hb1 _ _ _ H2.out) hs2).mono ?_
  rintro e w2 ⟨rfl, hg⟩
  have hb2 : Below w.heap.size w w2 := hb1.trans (hg.mono hb1.size)
  clear hg c4 c5 c6 c7 hbx1
  go_wp2_with fail
  go_ret
  exact ⟨by rw [hok.out]; rfl, hb2⟩

set_option maxRecDepth 100000 in
set_option maxHeartbeats 4000000 in
theorem checkAllQ_any (d : Nat) (qs : List PP) (u : Value) (bx : Nat) (w : World) (hu : SlQ 0 d w qs u) (hbx : w.cell? ⟨bx, 0, none⟩ = some (.func (.func 69) #[] #[])) :
 Calls Tryz.prog 131 #[u, .func (.func 132) #[] #[.pointer (some ⟨bx, 0, none⟩)]] w fun e w' => e = .returned (.int .i64 (pErr d (qs.map trT))) ∧ Below w.heap.size w w' := by
 obtain ⟨a, c, rfl, hc0⟩ := hu.slice
 have HS : Hid (SlQ 0 d w qs (.slice a qs.length c)) := hu
 have hl63 : qs.length ≤ 9223372036854775807 := by obtain ⟨_, _, _, _, h, _⟩ := hu; exact h
 have Hbx : Hid (w.cell? ⟨bx, 0, none⟩ = some (.func (.func 69) #[] #[])) := hbx
 clear hu hbx
 obtain ⟨ts, hts⟩ : ∃ ts, ts = qs.map trT := ⟨_, rfl⟩
 have Hts : Hid (ts = qs.map trT) := hts
 have Hlen : Hid (ts.length = qs.length) := by show _ = _; rw [hts, List.length_map]
 rw [← hts]
 clear hts
 have HLL : Hid (qs.length = qs.length) := rfl
 generalize hL : qs.length = L at *
 have HqL : Hid (qs.length = L) := hL
 clear hL HLL
 by_cases hlong : 65536 < L
 ·have hlong' : (65536 : Int) < (L : Int) := by omega
  have Hfin : Hid (pErr d ts = 2) := if_pos (by rw [Hlen.out]; exact hlong)
  clear hlong
  go_enter Tryz.func131, Tryz.ntmps131
  go_wp2_with fail
  go_ret
  exact ⟨ret_int Hfin.out.symm, Below.refl _ _⟩
 ·have hlong' : ¬ (65536 : Int) < (L : Int) := by omega
  have Hfin : Hid (pErr d ts = if ts.all (okP d) then 0 else 3) := if_neg (by rw [Hlen.out]; exact hlong)
  go_enter Tryz.func131, Tryz.ntmps131
  go_wp2_with fail
  go_loopg [13] L (fun z vi wr => ∃ j : Nat, vi = .int .i64 (j : Int) ∧ j ≤ L ∧ z = L - j ∧ Hid (ts.all (okP d) = (ts.drop j).all (okP d)) ∧ Below w.heap.size w wr)
  case atStart => exact ⟨0, rfl, by omega, by omega, rfl, Below.refl _ _⟩
  case round =>
   obtain ⟨j, rfl, hj, hk, Hc, hbw⟩ := hrel
   have Hk : Hid _ := hk
   clear hk
   have hws : w.heap.size ≤ wr.heap.size := hbw.size
   by_cases hjl : j < L
   ·have hji : (j : Int) < (L : Nat) := by omega
    have hjR : j < qs.length := by have := HqL.out; omega
    have hjT : j < ts.length := by have := Hlen.out; omega
    have hg0 := HS.out
    rw [← HqL.out] at hg0
    obtain ⟨b1, o1, c1', hv1, _, hq, _⟩ := hg0.full (fun e => by rw [e] at hjR; cases hjR)
    have ha1 : a = some ⟨b1, o1, none⟩ := by injection hv1
    subst ha1
    obtain ⟨x, hxe⟩ : ∃ x, x = qs[j] := ⟨_, rfl⟩
    have Gx : GoodQ d w x := hg0.good x (by rw [hxe]; exact List.getElem_mem hjR)
    have Ex := hq.at j hjR
    rw [← hxe] at Ex
    have hte : ts[j] = trT x := by rw [hxe]; simp [Hts.out]
    obtain ⟨⟨t1, tv1⟩, ⟨t2, tv2⟩⟩ := x
    obtain ⟨ta, tc, et1, _⟩ := Lies.slice Gx.1.1
    obtain ⟨tb, td, et2, _⟩ := Lies.slice Gx.2.1
    simp only at et1 et2
    subst et1 et2
    have hte2 : ts[j] = (t1, t2) := hte
    have Hd : Hid (ts.drop j = (t1, t2) :: ts.drop (j + 1)) := by show _ = _; rw [List.drop_eq_getElem_cons hjT, hte2]
    obtain ⟨p0, p1, p2, p3, p4, p5, p6, p7⟩ := Ex.keeps hbw
    simp only at p0 p1 p2 p3 p4 p5 p6 p7
    have hgr : b1 < wr.heap.size := cell_lt p0
    have hbA : Below w.heap.size w (wr.alloc (.cells #[.int .i64 t1.kind, .int .i64 t1.num, .string t1.text, .slice ta t1.items.length tc, .int .i64 t2.kind, .int .i64 t2.num, .string t2.text, .slice tb t2.items.length td] 69)) := hbw.alloc hws _
    have HCk : Hid _ := checkPair_any d t1 t2 ta tb tc td bx (wr.alloc (.cells #[.int .i64 t1.kind, .int .i64 t1.num, .string t1.text, .slice ta t1.items.length tc, .int .i64 t2.kind, .int .i64 t2.num, .string t2.text, .slice tb t2.items.length td] 69)) (Lies.keeps hbA _ _ _ Gx.1.1) (Lies.keeps hbA _ _ _ Gx.2.1) Gx.1.2 Gx.2.2 (cell_keeps hbA Hbx.out)
    clear hte2
    clear Ex hxe Gx hq hv1 hg0
    clear hte
    clear hjR hjT
    go_wp2_with fail
    refine Calls.mono HCk.out ?_
    rintro e w1 ⟨rfl, hg⟩
    have hb2 : Below w.heap.size w w1 := hbA.trans (hg.mono hbA.size)
    clear hg p0 p1 p2 p3 p4 p5 p6 p7 HCk hbA
    cases hx : okP d (t1, t2)
    ·have he : errOf false = 3 := rfl
     rw [he]
     clear he
     go_wp2_with fail
     go_ret
     exact ⟨ret_int (by rw [Hfin.out, Hc.out, Hd.out, List.all_cons, hx]; rfl), hb2⟩
    ·have he : errOf true = 0 := rfl
     rw [he]
     clear he
     go_wp2_with fail
     go_roundg (L - (j + 1))
     case measure => have := Hk.out; omega
     case rel =>
      refine ⟨j + 1, by go_num, by omega, rfl, ?_, hb2⟩
      show _ = _
      rw [Hc.out, Hd.out, List.all_cons, hx]; rfl
   ·have hji : ¬ (j : Int) < (L : Nat) := by omega
    have Hd : Hid (ts.all (okP d) = true) := by
     show _ = _
     rw [Hc.out, List.drop_eq_nil_of_le (by rw [Hlen.out]; omega)]; rfl
    clear Hc
    go_wp2_with fail
    go_ret
    exact ⟨ret_int (by rw [Hfin.out, Hd.out]; rfl), hbw⟩

set_option maxRecDepth 100000 in
theorem checkPairs_any (d : Nat) (qs : List PP) (u : Value) (w : World) (hu : SlQ 0 d w qs u) :
 Calls Tryz.prog 89 #[u, .func (.func 69) #[] #[]] w fun e w' => e = .returned (.int .i64 (pErr d (qs.map trT))) ∧ Below w.heap.size w w' := by
 have hb0 : ∀ o, Below w.heap.size w (w.alloc o) := fun o => ((Grew.refl w).alloc o).below
 have HC : Hid (∀ W, Below w.heap.size w W → W.cell? ⟨w.heap.size, 0, none⟩ = some (.func (.func 69) #[] #[]) → Calls Tryz.prog 131 #[u, .func (.func 132) #[] #[.pointer (some ⟨w.heap.size, 0, none⟩)]] W fun e w' => e = .returned (.int .i64 (pErr d (qs.map trT))) ∧ Below W.heap.size W w') := fun W h1 h2 => checkAllQ_any d qs u w.heap.size W (hu.keeps h1) h2
 have Hb : Hid (∀ o, Below w.heap.size w (w.alloc o)) := hb0
 obtain ⟨a, c, rfl, hc0⟩ := hu.slice
 clear hu hb0
 generalize pErr d (qs.map trT) = E at *
 generalize qs.length = L at *
 go_enter Tryz.func89, Tryz.ntmps89
 go_wp2_with fail
 refine (HC.out _ (Hb.out _) (by simp)).mono ?_
 rintro e w1 ⟨rfl, hg⟩
 have hb1 : Below w.heap.size w w1 := (Hb.out _).trans (hg.mono (Hb.out _).size)
 clear hg
 go_wp2_with fail
 go_ret
 exact ⟨rfl, hb1⟩

end Go.Proofs.YtlnecfjnffdciaaGreat

namespace Go.Proofs.YtlnecfjnffdciaaGreat
open Go.RowKit

set_option maxRecDepth 100000 in
set_option maxHeartbeats 2000000 in
theorem lastOf_none (f : Nat) (a : Option Addr) (c : Nat) (w : World) :
 Calls Tryz.prog 92 #[.slice a 0 c, .func (.func f) #[] #[]] w fun e w' => e = .returned (.slice none 0 0) ∧ Below w.heap.size w w' := by
 go_enter Tryz.func92, Tryz.ntmps92
 go_wp2_with fail
 refine (cloneQ_none a c _).mono ?_
 rintro e w1 ⟨a', c', rfl, hb1⟩
 go_wp2_with fail
 refine (sortStable_none f a' c' _).mono ?_
 rintro e w2 ⟨rfl, rfl⟩
 go_wp2_with fail
 go_loopg [16, 6] 0 (fun z vj vo wr => vj = .int .i64 0 ∧ vo = .slice none 0 0 ∧ z = 0 ∧ wr = w2)
 case atStart => exact ⟨rfl, rfl, rfl, rfl⟩
 case round =>
  obtain ⟨rfl, rfl, rfl, rfl⟩ := hrel
  go_wp2_with fail
  go_ret
  exact ⟨rfl, hb1⟩

theorem lastOf_any (f d : Nat) (eg : ∀ args w, (callFunc f args).run Tryz.prog w = .ok (.enter f args) w) (cf : PP → PP → Int) (hc : CmpQ f (GoodQ d) cf) (h3 : Cmp3 cf) (qs : List PP) (u : Value) (w : World) (hu : SlQ 0 d w qs u) (hlen : qs.length ≤ 65536) :
 Calls Tryz.prog 92 #[u, .func (.func f) #[] #[]] w fun e w' => ∃ v, e = .returned v ∧ SlQ w.heap.size d w' (kyd cf (qs.length + 1) qs) v ∧ Below w.heap.size w w' := by
 by_cases hne : qs = []
 ·subst hne
  obtain ⟨a, c, rfl, _⟩ := hu.slice
  refine (lastOf_none f a c w).mono ?_
  rintro e w' ⟨rfl, hb⟩
  exact ⟨_, rfl, ⟨none, 0, rfl, by simp [kyd], by simp [kyd], (fun h => absurd rfl h), (fun p hp => by cases hp)⟩, hb⟩
 ·obtain ⟨b, o, c, rfl, _, hr, hg⟩ := hu.full hne
  exact lastOf_full f d eg cf hc h3 qs b o c w hr hg hlen hne

end Go.Proofs.YtlnecfjnffdciaaGreat

namespace Go.Proofs.YtlnecfjnffdciaaGreat
open Go.RowKit

set_option maxRecDepth 100000 in
set_option maxHeartbeats 4000000 in
theorem pair_same (d : Nat) (t1 t2 : VT) (ta tb sa sb : Option Addr) (tc td sc sd : Nat) (w : World) (h1 : Lies d w t1.items (.slice ta t1.items.length tc)) (h2 : Lies d w t2.items (.slice tb t2.items.length td)) (k1 : Lies d w t1.items (.slice sa t1.items.length sc)) (k2 : Lies d w t2.items (.slice sb t2.items.length sd)) :
 Calls Tryz.prog 82 #[.agg #[.int .i64 t1.kind, .int .i64 t1.num, .string t1.text, .slice ta t1.items.length tc, .int .i64 t2.kind, .int .i64 t2.num, .string t2.text, .slice tb t2.items.length td], .agg #[.int .i64 t1.kind, .int .i64 t1.num, .string t1.text, .slice sa t1.items.length sc, .int .i64 t2.kind, .int .i64 t2.num, .string t2.text, .slice sb t2.items.length sd]] w fun e w' => e = .returned (.bool true) ∧ Below w.heap.size w w' := by
 have hb0 : Below w.heap.size w ((w.alloc (.cells #[.int .i64 t1.kind, .int .i64 t1.num, .string t1.text, .slice ta t1.items.length tc, .int .i64 t2.kind, .int .i64 t2.num, .string t2.text, .slice tb t2.items.length td] 69)).alloc (.cells #[.int .i64 t1.kind, .int .i64 t1.num, .string t1.text, .slice sa t1.items.length sc, .int .i64 t2.kind, .int .i64 t2.num, .string t2.text, .slice sb t2.items.length sd] 69)) := (Grew.two _ _ _).below
 have HSm : Hid (∀ (t : VT) (x y : Value) (W : World), Lies d W t.items x → Lies d W t.items y → Calls Tryz.prog 17 #[.agg #[.int .i64 t.kind, .int .i64 t.num, .string t.text, x], .agg #[.int .i64 t.kind, .int .i64 t.num, .string t.text, y]] W fun e W' => e = .returned (.bool true) ∧ Below W.heap.size W W') := fun t x y W h1 h2 => (same_any d t t x y W h1 h2).mono fun e W' h => ⟨by rw [h.1, sameV_self], h.2.below⟩
 have H1 : Hid (Lies d w t1.items (.slice ta t1.items.length tc)) := h1
 have H2 : Hid (Lies d w t2.items (.slice tb t2.items.length td)) := h2
 have K1 : Hid (Lies d w t1.items (.slice sa t1.items.length sc)) := k1
 have K2 : Hid (Lies d w t2.items (.slice sb t2.items.length sd)) := k2
 clear h1 h2 k1 k2
 go_enter Tryz.func82, Tryz.ntmps82
 go_wp2_with fail
 refine (HSm.out t1 _ _ _ (Lies.keeps hb0 _ _ _ H1.out) (Lies.keeps hb0 _ _ _ K1.out)).mono ?_
 rintro e w1 ⟨rfl, hg⟩
 have hb1 : Below w.heap.size w w1 := hb0.trans (hg.mono hb0.size)
 have c4 := cell_keeps hg (show ((w.alloc (.cells #[.int .i64 t1.kind, .int .i64 t1.num, .string t1.text, .slice ta t1.items.length tc, .int .i64 t2.kind, .int .i64 t2.num, .string t2.text, .slice tb t2.items.length td] 69)).alloc (.cells #[.int .i64 t1.kind, .int .i64 t1.num, .string t1.text, .slice sa t1.items.length sc, .int .i64 t2.kind, .int .i64 t2.num, .string t2.text, .slice sb t2.items.length sd] 69)).cell? ⟨w.heap.size, 4, none⟩ = some (.int .i64 t2.kind) by simp)
 have c5 := cell_keeps hg (show ((w.alloc (.cells #[.int .i64 t1.kind, .int .i64 t1.num, .string t1.text, .slice ta t1.items.length tc, .int .i64 t2.kind, .int .i64 t2.num, .string t2.text, .slice tb t2.items.length td] 69)).alloc (.cells #[.int .i64 t1.kind, .int .i64 t1.num, .string t1.text, .slice sa t1.items.length sc, .int .i64 t2.kind, .int .i64 t2.num, .string t2.text, .slice sb t2.items.length sd] 69)).cell? ⟨w.heap.size, 5, none⟩ = some (.int .i64 t2.num) by simp)
 have c6 := cell_keeps hg (show ((w.alloc (.cells #[.int .i64 t1.kind, .int .i64 t1.num, .string t1.text, .slice ta t1.items.length tc, .int .i64 t2.kind, .int .i64 t2.num, .string t2.text, .slice tb t2.items.length td] 69)).alloc (.cells #[.int .i64 t1.kind, .int .i64 t1.num, .string t1.text, .slice sa t1.items.length sc, .int .i64 t2.kind, .int .i64 t2.num, .string t2.text, .slice sb t2.items.length sd] 69)).cell? ⟨w.heap.size, 6, none⟩ = some (.string t2.text) by simp)
 have c7 := cell_keeps hg (show ((w.alloc (.cells #[.int .i64 t1.kind, .int .i64 t1.num, .string t1.text, .slice ta t1.items.length tc, .int .i64 t2.kind, .int .i64 t2.num, .string t2.text, .slice tb t2.items.length td] 69)).alloc (.cells #[.int .i64 t1.kind, .int .i64 t1.num, .string t1.text, .slice sa t1.items.length sc, .int .i64 t2.kind, .int .i64 t2.num, .string t2.text, .slice sb t2.items.length sd] 69)).cell? ⟨w.heap.size, 7, none⟩ = some (.slice tb t2.items.length td) by simp)
 have e4 := cell_keeps hg (show ((w.alloc (.cells #[.int .i64 t1.kind, .int .i64 t1.num, .string t1.text, .slice ta t1.items.length tc, .int .i64 t2.kind, .int .i64 t2.num, .string t2.text, .slice tb t2.items.length td] 69)).alloc (.cells #[.int .i64 t1.kind, .int .i64 t1.num, .string t1.text, .slice sa t1.items.length sc, .int .i64 t2.kind, .int .i64 t2.num, .string t2.text, .slice sb t2.items.length sd] 69)).cell? ⟨w.heap.size + 1, 4, none⟩ = some (.int .i64 t2.kind) by simp)
 have e5 := cell_keeps hg (show ((w.alloc (.cells #[.int .i64 t1.kind, .int .i64 t1.num, .string t1.text, .slice ta t1.items.length tc, .int .i64 t2.kind, .int .i64 t2.num, .string t2.text, .slice tb t2.items.length td] 69)).alloc (.cells #[.int .i64 t1.kind, .int .i64 t1.num, .string t1.text, .slice sa t1.items.length sc, .int .i64 t2.kind, .int .i64 t2.num, .string t2.text, .slice sb t2.items.length sd] 69)).cell? ⟨w.heap.size + 1, 5, none⟩ = some (.int .i64 t2.num) by simp)
 have e6 := cell_keeps hg (show ((w.alloc (.cells #[.int .i64 t1.kind, .int .i64 t1.num, .string t1.text, .slice ta t1.items.length tc, .int .i64 t2.kind, .int .i64 t2.num, .string t2.text, .slice tb t2.items.length td] 69)).alloc (.cells #[.int .i64 t1.kind, .int .i64 t1.num, .string t1.text, .slice sa t1.items.length sc, .int .i64 t2.kind, .int .i64 t2.num, .string t2.text, .slice sb t2.items.length sd] 69)).cell? ⟨w.heap.size + 1, 6, none⟩ = some (.string t2.text) by simp)
 have e7 := cell_keeps hg (show ((w.alloc (.cells #[.int .i64 t1.kind, .int .i64 t1.num, .string t1.text, .slice ta t1.items.length tc, .int .i64 t2.kind, .int .i64 t2.num, .string t2.text, .slice tb t2.items.length td] 69)).alloc (.cells #[.int .i64 t1.kind, .int .i64 t1.num, .string t1.text, .slice sa t1.items.length sc, .int .i64 t2.kind, .int .i64 t2.num, .string t2.text, .slice sb t2.items.length sd] 69)).cell? ⟨w.heap.size + 1, 7, none⟩ = some (.slice sb t2.items.length sd) by simp)
 clear hg
 go_wp2_with fail
 refine (HSm.out t2 _ _ _ (Lies.keeps hb1 _ _ _ H2.out) (Lies.keeps hb1 _ _ _ K2.out)).mono ?_
 rintro e w2 ⟨rfl, hg⟩
 have hb2 : Below w.heap.size w w2 := hb1.trans (hg.mono hb1.size)
 clear hg c4 c5 c6 c7 e4 e5 e6 e7
 go_wp2_with fail
 go_ret
 exact ⟨rfl, hb2⟩

set_option maxRecDepth 100000 in
set_option maxHeartbeats 8000000 in
theorem pairs_same (d : Nat) (qs rs : List PP) (he : qs.map trT = rs.map trT) (u v : Value) (w : World) (hu : SlQ 0 d w qs u) (hv : SlQ 0 d w rs v) (hlen : qs.length ≤ 65536) :
 Calls Tryz.prog 37 #[u, v] w fun e w' => e = .returned (.bool true) ∧ Below w.heap.size w w' := by
 have hlq : rs.length = qs.length := by have := congrArg List.length he; simpa using this.symm
 obtain ⟨a, c, rfl, _⟩ := hu.slice
 obtain ⟨a', c', rfl, _⟩ := hv.slice
 rw [hlq] at hv ⊢
 have HU : Hid (SlQ 0 d w qs (.slice a qs.length c)) := hu
 have HV : Hid (SlQ 0 d w rs (.slice a' qs.length c')) := hv
 have Hlq : Hid (rs.length = qs.length) := hlq
 have He : Hid (qs.map trT = rs.map trT) := he
 clear hu hv hlq he
 generalize hL : qs.length = L at *
 have HL : Hid (qs.length = L) := hL
 clear hL
 go_enter Tryz.func37, Tryz.ntmps37
 go_wp2_with fail
 go_loopg [13] L (fun z vj wr => ∃ (j : Nat), vj = .int .i64 (j : Int) ∧ z = L - j ∧ j ≤ L ∧ Below w.heap.size w wr)
 case atStart => exact ⟨0, rfl, rfl, Nat.zero_le _, Below.refl _ _⟩
 case round =>
  obtain ⟨j, rfl, hk, hjL, hbw⟩ := hrel
  have Hk : Hid _ := hk
  clear hk
  by_cases hjl : j < L
  ·have hji : (j : Int) < (L : Nat) := by omega
   have hjq : j < qs.length := by have := HL.out; omega
   have hjr : j < rs.length := by have := HL.out; have := Hlq.out; omega
   have hu0 := HU.out
   rw [← HL.out] at hu0
   have hv0 := HV.out
   rw [← Hlq.out] at hv0
   obtain ⟨b1, o1, _, hv1, _, hq1, hg1⟩ := hu0.full (fun e => by rw [e] at hjq; cases hjq)
   obtain ⟨b2, o2, _, hv2, _, hq2, hg2⟩ := hv0.full (fun e => by rw [e] at hjr; cases hjr)
   have ha1 : a = some ⟨b1, o1, none⟩ := by injection hv1
   have ha2 : a' = some ⟨b2, o2, none⟩ := by injection hv2
   subst ha1 ha2
   have Ex := (hq1.at j hjq).keeps hbw
   have Ey := (hq2.at j hjr).keeps hbw
   have Gx := hg1 qs[j] (List.getElem_mem hjq)
   have Gy := hg2 rs[j] (List.getElem_mem hjr)
   have hxy : trT qs[j] = trT rs[j] := by
    have h1 : (qs.map trT)[j]? = (rs.map trT)[j]? := by rw [He.out]
    rw [List.getElem?_map, List.getElem?_map, List.getElem?_eq_getElem hjq, List.getElem?_eq_getElem hjr] at h1
    simpa using h1
   generalize qs[j] = x at *
   generalize rs[j] = y at *
   obtain ⟨⟨t1, tv1⟩, ⟨t2, tv2⟩⟩ := x
   obtain ⟨⟨s1, sv1⟩, ⟨s2, sv2⟩⟩ := y
   have e1 : t1 = s1 := congrArg Prod.fst hxy
   have e2 : t2 = s2 := congrArg Prod.snd hxy
   subst e1 e2
   obtain ⟨ta, tc, et1, _⟩ := Lies.slice Gx.1.1
   obtain ⟨tb, td, et2, _⟩ := Lies.slice Gx.2.1
   obtain ⟨sa, sc, es1, _⟩ := Lies.slice Gy.1.1
   obtain ⟨sb, sd, es2, _⟩ := Lies.slice Gy.2.1
   simp only at et1 et2 es1 es2
   subst et1 et2 es1 es2
   obtain ⟨p0, p1, p2, p3, p4, p5, p6, p7⟩ := Ex
   obtain ⟨r0, r1, r2, r3, r4, r5, r6, r7⟩ := Ey
   simp only at p0 p1 p2 p3 p4 p5 p6 p7 r0 r1 r2 r3 r4 r5 r6 r7
   have HP : Hid (∀ W, Below w.heap.size w W → Calls Tryz.prog 82 #[.agg #[.int .i64 t1.kind, .int .i64 t1.num, .string t1.text, .slice ta t1.items.length tc, .int .i64 t2.kind, .int .i64 t2.num, .string t2.text, .slice tb t2.items.length td], .agg #[.int .i64 t1.kind, .int .i64 t1.num, .string t1.text, .slice sa t1.items.length sc, .int .i64 t2.kind, .int .i64 t2.num, .string t2.text, .slice sb t2.items.length sd]] W fun e w' => e = .returned (.bool true) ∧ Below W.heap.size W w') := fun W h => pair_same d t1 t2 ta tb sa sb tc td sc sd W (Lies.keeps h _ _ _ Gx.1.1) (Lies.keeps h _ _ _ Gx.2.1) (Lies.keeps h _ _ _ Gy.1.1) (Lies.keeps h _ _ _ Gy.2.1)
   clear hq1 hq2 hg1 hg2 hu0 hv0 hv1 hv2 Gx Gy hjq hjr hxy
   go_wp2_with fail
   go_region_held3 (fun w' => (w'.cell? ⟨b1, o1 + j * 8, none⟩ = some (.int .i64 t1.kind) ∧ w'.cell? ⟨b1, o1 + j * 8 + 1, none⟩ = some (.int .i64 t1.num) ∧ w'.cell? ⟨b1, o1 + j * 8 + 2, none⟩ = some (.string t1.text) ∧ w'.cell? ⟨b1, o1 + j * 8 + 3, none⟩ = some (.slice ta t1.items.length tc) ∧ w'.cell? ⟨b1, o1 + j * 8 + 4, none⟩ = some (.int .i64 t2.kind) ∧ w'.cell? ⟨b1, o1 + j * 8 + 5, none⟩ = some (.int .i64 t2.num) ∧ w'.cell? ⟨b1, o1 + j * 8 + 6, none⟩ = some (.string t2.text) ∧ w'.cell? ⟨b1, o1 + j * 8 + 7, none⟩ = some (.slice tb t2.items.length td)) ∧ (w'.cell? ⟨b2, o2 + j * 8, none⟩ = some (.int .i64 t1.kind) ∧ w'.cell? ⟨b2, o2 + j * 8 + 1, none⟩ = some (.int .i64 t1.num) ∧ w'.cell? ⟨b2, o2 + j * 8 + 2, none⟩ = some (.string t1.text) ∧ w'.cell? ⟨b2, o2 + j * 8 + 3, none⟩ = some (.slice sa t1.items.length sc) ∧ w'.cell? ⟨b2, o2 + j * 8 + 4, none⟩ = some (.int .i64 t2.kind) ∧ w'.cell? ⟨b2, o2 + j * 8 + 5, none⟩ = some (.int .i64 t2.num) ∧ w'.cell? ⟨b2, o2 + j * 8 + 6, none⟩ = some (.string t2.text) ∧ w'.cell? ⟨b2, o2 + j * 8 + 7, none⟩ = some (.slice sb t2.items.length sd))) (go_keep)
    (first | (go_at_call 82; refine (HP.out _ hbw.drew).mono ?_; rintro e WW ⟨rfl, hg1⟩; have hb1' : Below wr.heap.size wr WW := (Below.refl _ _).drew.trans hg1; clear hg1; have p0 := cell_keeps hb1' p0; have r0 := cell_keeps hb1' r0; have p1 := cell_keeps hb1' p1; have r1 := cell_keeps hb1' r1; have p2 := cell_keeps hb1' p2; have r2 := cell_keeps hb1' r2; have p3 := cell_keeps hb1' p3; have r3 := cell_keeps hb1' r3; have p4 := cell_keeps hb1' p4; have r4 := cell_keeps hb1' r4; have p5 := cell_keeps hb1' p5; have r5 := cell_keeps hb1' r5; have p6 := cell_keeps hb1' p6; have r6 := cell_keeps hb1' r6; have p7 := cell_keeps hb1' p7; have r7 := cell_keeps hb1' r7))
   have hbW : Below w.heap.size w WW := hbw.trans (hb1'.mono hbw.size)
   clear p0 p1 p2 p3 p4 p5 p6 p7 r0 r1 r2 r3 r4 r5 r6 r7 hb1' HP
   go_wp2_with fail
   go_roundg (L - (j + 1))
   case measure => have := Hk.out; omega
   case rel => exact ⟨j + 1, by go_num, rfl, by omega, hbW⟩
  ·have hji : ¬ (j : Int) < (L : Nat) := by omega
   go_wp2_with fail
   go_ret
   exact ⟨rfl, hbw⟩

end Go.Proofs.YtlnecfjnffdciaaGreat

