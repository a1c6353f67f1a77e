import Derived.Test.YtlnecfjnffdciaaGreatRowP
import Derived.Test.YtlnecfjnffdciaaGreatMapP
import Derived.Test.YtlnecfjnffdciaaGreatEq
import Derived.Deep.RegionHeld3
import Derived.Test.YtlnecfjnffdciaaGreatRotate
import Derived.Test.YtlnecfjnffdciaaGreatClo
import Derived.Shelf.SlSortCmp.WholeK
import Derived.Ground.SlsfProg
import Derived.Test.YtlnecfjnffdciaaGreatProg
import Derived.Test.YtlnecfjnffdciaaGreatTreeS
import Derived.Maps.AppendAt
import Derived.Shelf.SlSortCmp.NoneTotal
import Derived.Test.YtlnecfjnffdciaaGreatSetM
import Derived.Test.YtlnecfjnffdciaaGreatSameEq
import Derived.Test.YtlnecfjnffdciaaGreatAppRow
import Derived.Test.YtlnecfjnffdciaaGreatLiesX
import Derived.Test.YtlnecfjnffdciaaGreatLevel
import Derived.Deep.AppendLies
import Derived.Test.YtlnecfjnffdciaaGreatPairsS
namespace Go.Proofs.YtlnecfjnffdciaaGreat
open Go.RowKit

set_option maxRecDepth 100000 in
set_option maxHeartbeats 4000000 in
theorem paired_any (d : Nat) (qs : List PP) (u : Value) (w : World) (hu : SlQ 0 d w qs u) :
 Calls Tryz.prog 50 #[u] w fun e w' => e = .returned (.int .i64 (pErr d (qs.map trT))) ∧ Below w.heap.size w w' := by
 obtain ⟨a, c, rfl, hc0⟩ := hu.slice
 have HS : Hid (SlQ 0 d w qs (.slice a qs.length c)) := hu
 have hl63 : qs.length ≤ 9223372036854775807 := by obtain ⟨_, _, _, _, h, _⟩ := hu; exact h
 clear hu
 obtain ⟨ts, hts⟩ : ∃ ts, ts = qs.map trT := ⟨_, rfl⟩
 have Hts : Hid (ts = qs.map trT) := hts
 have Hlen : Hid (ts.length = qs.length) := by show _ = _; rw [hts, List.length_map]
 rw [← hts]
 clear hts
 generalize hL : qs.length = L at *
 have HqL : Hid (qs.length = L) := hL
 clear hL
 by_cases hlong : 65536 < L
 ·have hlong' : (65536 : Int) < (L : Int) := by omega
  have Hfin : Hid (pErr d ts = 2) := if_pos (by rw [Hlen.out]; exact hlong)
  clear hlong
  go_enter Tryz.func50, Tryz.ntmps50
  go_wp2_with fail
  go_ret
  exact ⟨ret_int Hfin.out.symm, Below.refl _ _⟩
 ·have hlong' : ¬ (65536 : Int) < (L : Int) := by omega
  have Hfin : Hid (pErr d ts = if ts.all (okP d) then 0 else 3) := if_neg (by rw [Hlen.out]; exact hlong)
  go_enter Tryz.func50, Tryz.ntmps50
  go_wp2_with fail
  go_loopg [10] L (fun z vi wr => ∃ j : Nat, vi = .int .i64 (j : Int) ∧ j ≤ L ∧ z = L - j ∧ Hid (ts.all (okP d) = (ts.drop j).all (okP d)) ∧ Below w.heap.size w wr)
  case atStart => exact ⟨0, rfl, by omega, by omega, rfl, Below.refl _ _⟩
  case round =>
   obtain ⟨j, rfl, hj, hk, Hc, hbw⟩ := hrel
   have Hk : Hid _ := hk
   clear hk
   have hws : w.heap.size ≤ wr.heap.size := hbw.size
   by_cases hjl : j < L
   ·have hji : (j : Int) < (L : Nat) := by omega
    have hjR : j < qs.length := by have := HqL.out; omega
    have hjT : j < ts.length := by have := Hlen.out; omega
    have hg0 := HS.out
    rw [← HqL.out] at hg0
    obtain ⟨b1, o1, c1', hv1, _, hq, _⟩ := hg0.full (fun e => by rw [e] at hjR; cases hjR)
    have ha1 : a = some ⟨b1, o1, none⟩ := by injection hv1
    subst ha1
    obtain ⟨x, hxe⟩ : ∃ x, x = qs[j] := ⟨_, rfl⟩
    have Gx : GoodQ d w x := hg0.good x (by rw [hxe]; exact List.getElem_mem hjR)
    have Ex := hq.at j hjR
    rw [← hxe] at Ex
    have hte : ts[j] = trT x := by rw [hxe]; simp [Hts.out]
    obtain ⟨⟨t1, tv1⟩, ⟨t2, tv2⟩⟩ := x
    obtain ⟨ta, tc, et1, _⟩ := Lies.slice Gx.1.1
    obtain ⟨tb, td, et2, _⟩ := Lies.slice Gx.2.1
    simp only at et1 et2
    subst et1 et2
    have hte2 : ts[j] = (t1, t2) := hte
    have Hd : Hid (ts.drop j = (t1, t2) :: ts.drop (j + 1)) := by show _ = _; rw [List.drop_eq_getElem_cons hjT, hte2]
    obtain ⟨p0, p1, p2, p3, p4, p5, p6, p7⟩ := Ex.keeps hbw
    simp only at p0 p1 p2 p3 p4 p5 p6 p7
    have hgr : b1 < wr.heap.size := cell_lt p0
    have hbA : Below w.heap.size w (wr.alloc (.cells #[.int .i64 t1.kind, .int .i64 t1.num, .string t1.text, .slice ta t1.items.length tc, .int .i64 t2.kind, .int .i64 t2.num, .string t2.text, .slice tb t2.items.length td] 69)) := hbw.alloc hws _
    have HL1 : Hid (Lies d w t1.items (.slice ta t1.items.length tc)) := Gx.1.1
    have HL2 : Hid (Lies d w t2.items (.slice tb t2.items.length td)) := Gx.2.1
    have Hok : Hid (okP d (t1, t2) = (rightV d t1 && rightV d t2)) := rfl
    clear hte2
    clear Ex hxe Gx hq hv1 hg0
    clear hte
    clear hjR hjT
    go_wp2_with fail
    refine (right_any d t1 _ _ (Lies.keeps hbA _ _ _ HL1.out)).mono ?_
    rintro e w1 ⟨rfl, hg⟩
    have hb1 : Below w.heap.size w w1 := hbA.trans (hg.mono hbA.size)
    have c4 := cell_keeps hg (show (wr.alloc (.cells #[.int .i64 t1.kind, .int .i64 t1.num, .string t1.text, .slice ta t1.items.length tc, .int .i64 t2.kind, .int .i64 t2.num, .string t2.text, .slice tb t2.items.length td] 69)).cell? ⟨wr.heap.size, 4, none⟩ = some (.int .i64 t2.kind) by simp)
    have c5 := cell_keeps hg (show (wr.alloc (.cells #[.int .i64 t1.kind, .int .i64 t1.num, .string t1.text, .slice ta t1.items.length tc, .int .i64 t2.kind, .int .i64 t2.num, .string t2.text, .slice tb t2.items.length td] 69)).cell? ⟨wr.heap.size, 5, none⟩ = some (.int .i64 t2.num) by simp)
    have c6 := cell_keeps hg (show (wr.alloc (.cells #[.int .i64 t1.kind, .int .i64 t1.num, .string t1.text, .slice ta t1.items.length tc, .int .i64 t2.kind, .int .i64 t2.num, .string t2.text, .slice tb t2.items.length td] 69)).cell? ⟨wr.heap.size, 6, none⟩ = some (.string t2.text) by simp)
    have c7 := cell_keeps hg (show (wr.alloc (.cells #[.int .i64 t1.kind, .int .i64 t1.num, .string t1.text, .slice ta t1.items.length tc, .int .i64 t2.kind, .int .i64 t2.num, .string t2.text, .slice tb t2.items.length td] 69)).cell? ⟨wr.heap.size, 7, none⟩ = some (.slice tb t2.items.length td) by simp)
    clear hg p0 p1 p2 p3 p4 p5 p6 p7
    cases hx : rightV d t1
    ·have Hok2 : Hid (okP d (t1, t2) = false) := by show _ = _; rw [Hok.out, hx]; rfl
     go_wp2_with fail
     go_ret
     exact ⟨ret_int (by rw [Hfin.out, Hc.out, Hd.out, List.all_cons, Hok2.out]; rfl), hb1⟩
    ·go_wp2_with fail
     refine (right_any d t2 _ _ (Lies.keeps hb1 _ _ _ HL2.out)).mono ?_
     rintro e w2 ⟨rfl, hg⟩
     have hb2 : Below w.heap.size w w2 := hb1.trans (hg.mono hb1.size)
     clear hg c4 c5 c6 c7
     cases hy : rightV d t2
     ·have Hok2 : Hid (okP d (t1, t2) = false) := by show _ = _; rw [Hok.out, hx, hy]; rfl
      go_wp2_with fail
      go_ret
      exact ⟨ret_int (by rw [Hfin.out, Hc.out, Hd.out, List.all_cons, Hok2.out]; rfl), hb2⟩
     ·have Hok2 : Hid (okP d (t1, t2) = true) := by show _ = _; rw [Hok.out, hx, hy]; rfl
      go_wp2_with fail
      go_roundg (L - (j + 1))
      case measure => have := Hk.out; omega
      case rel =>
       refine ⟨j + 1, by go_num, by omega, rfl, ?_, hb2⟩
       show _ = _
       rw [Hc.out, Hd.out, List.all_cons, Hok2.out]; rfl
   ·have hji : ¬ (j : Int) < (L : Nat) := by omega
    have Hd : Hid (ts.all (okP d) = true) := by
     show _ = _
     rw [Hc.out, List.drop_eq_nil_of_le (by rw [Hlen.out]; omega)]; rfl
    clear Hc
    go_wp2_with fail
    go_ret
    exact ⟨ret_int (by rw [Hfin.out, Hd.out]; rfl), hbw⟩

end Go.Proofs.YtlnecfjnffdciaaGreat

