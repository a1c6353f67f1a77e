import Derived.Test.YtlnecfjnffdciaaGreatRowP
import Derived.Test.YtlnecfjnffdciaaGreatMapP
import Derived.Test.YtlnecfjnffdciaaGreatEq
import Derived.Test.YtlnecfjnffdciaaGreatLastOf
import Derived.Test.YtlnecfjnffdciaaGreatSameEq
import Derived.Deep.RegionHeld3
namespace Go.Proofs.YtlnecfjnffdciaaGreat
open Go.RowKit

set_option maxRecDepth 100000 in
set_option maxHeartbeats 4000000 in
theorem checkPair_any (d : Nat) (t1 t2 : VT) (ta tb : Option Addr) (tc td bx : Nat) (w : World) (h1 : Lies d w t1.items (.slice ta t1.items.length tc)) (h2 : Lies d w t2.items (.slice tb t2.items.length td)) (hs1 : t1.text.size ≤ 9223372036854775807) (hs2 : t2.text.size ≤ 9223372036854775807) (hbx : w.cell? ⟨bx, 0, none⟩ = some (.func (.func 69) #[] #[])) :
 Calls Tryz.prog 132 #[.agg #[.int .i64 t1.kind, .int .i64 t1.num, .string t1.text, .slice ta t1.items.length tc, .int .i64 t2.kind, .int .i64 t2.num, .string t2.text, .slice tb t2.items.length td], .pointer (some ⟨bx, 0, none⟩)] w fun e w' => e = .returned (.int .i64 (errOf (okP d (t1, t2)))) ∧ Below w.heap.size w w' := by
 have H1 : Hid (Lies d w t1.items (.slice ta t1.items.length tc)) := h1
 have H2 : Hid (Lies d w t2.items (.slice tb t2.items.length td)) := h2
 have hlb : bx < w.heap.size := cell_lt hbx
 have hb0 : Below w.heap.size w (w.alloc (.cells #[.int .i64 t1.kind, .int .i64 t1.num, .string t1.text, .slice ta t1.items.length tc, .int .i64 t2.kind, .int .i64 t2.num, .string t2.text, .slice tb t2.items.length td] 69)) := ((Grew.refl w).alloc _).below
 clear h1 h2
 go_enter Tryz.func132, Tryz.ntmps132
 go_wp2_with fail
 refine (check_any d t1 _ _ (Lies.keeps hb0 _ _ _ H1.out) hs1).mono ?_
 rintro e w1 ⟨rfl, hg⟩
 have hb1 : Below w.heap.size w w1 := hb0.trans (hg.mono hb0.size)
 have hbx1 := cell_keeps hb1 hbx
 have c4 := cell_keeps hg (show (w.alloc (.cells #[.int .i64 t1.kind, .int .i64 t1.num, .string t1.text, .slice ta t1.items.length tc, .int .i64 t2.kind, .int .i64 t2.num, .string t2.text, .slice tb t2.items.length td] 69)).cell? ⟨w.heap.size, 4, none⟩ = some (.int .i64 t2.kind) by simp)
 have c5 := cell_keeps hg (show (w.alloc (.cells #[.int .i64 t1.kind, .int .i64 t1.num, .string t1.text, .slice ta t1.items.length tc, .int .i64 t2.kind, .int .i64 t2.num, .string t2.text, .slice tb t2.items.length td] 69)).cell? ⟨w.heap.size, 5, none⟩ = some (.int .i64 t2.num) by simp)
 have c6 := cell_keeps hg (show (w.alloc (.cells #[.int .i64 t1.kind, .int .i64 t1.num, .string t1.text, .slice ta t1.items.length tc, .int .i64 t2.kind, .int .i64 t2.num, .string t2.text, .slice tb t2.items.length td] 69)).cell? ⟨w.heap.size, 6, none⟩ = some (.string t2.text) by simp)
 have c7 := cell_keeps hg (show (w.alloc (.cells #[.int .i64 t1.kind, .int .i64 t1.num, .string t1.text, .slice ta t1.items.length tc, .int .i64 t2.kind, .int .i64 t2.num, .string t2.text, .slice tb t2.items.length td] 69)).cell? ⟨w.heap.size, 7, none⟩ = some (.slice tb t2.items.length td) by simp)
 clear hg hbx
 cases hx : rightV d t1
 ·have he : errOf false = 3 := rfl
  have hok : Hid (okP d (t1, t2) = false) := by show _ = _; unfold okP; simp only; rw [hx]; rfl
  rw [he]
  clear he
  go_wp2_with fail
  go_ret
  exact ⟨by rw [hok.out]; rfl, hb1⟩
 ·have he : errOf true = 0 := rfl
  have hok : Hid (okP d (t1, t2) = rightV d t2) := by show _ = _; unfold okP; simp only; rw [hx]; rfl
  rw [he]
  clear he
  go_wp2_with fail
  refine (check_any d t2 _ _ (Lies.keeps hb1 _ _ _ H2.out) hs2).mono ?_
  rintro e w2 ⟨rfl, hg⟩
  have hb2 : Below w.heap.size w w2 := hb1.trans (hg.mono hb1.size)
  clear hg c4 c5 c6 c7 hbx1
  go_wp2_with fail
  go_ret
  exact ⟨by rw [hok.out]; rfl, hb2⟩

set_option maxRecDepth 100000 in
set_option maxHeartbeats 4000000 in
theorem checkAllQ_any (d : Nat) (qs : List PP) (u : Value) (bx : Nat) (w : World) (hu : SlQ 0 d w qs u) (hbx : w.cell? ⟨bx, 0, none⟩ = some (.func (.func 69) #[] #[])) :
 Calls Tryz.prog 131 #[u, .func (.func 132) #[] #[.pointer (some ⟨bx, 0, none⟩)]] w fun e w' => e = .returned (.int .i64 (pErr d (qs.map trT))) ∧ Below w.heap.size w w' := by
 obtain ⟨a, c, rfl, hc0⟩ := hu.slice
 have HS : Hid (SlQ 0 d w qs (.slice a qs.length c)) := hu
 have hl63 : qs.length ≤ 9223372036854775807 := by obtain ⟨_, _, _, _, h, _⟩ := hu; exact h
 have Hbx : Hid (w.cell? ⟨bx, 0, none⟩ = some (.func (.func 69) #[] #[])) := hbx
 clear hu hbx
 obtain ⟨ts, hts⟩ : ∃ ts, ts = qs.map trT := ⟨_, rfl⟩
 have Hts : Hid (ts = qs.map trT) := hts
 have Hlen : Hid (ts.length = qs.length) := by show _ = _; rw [hts, List.length_map]
 rw [← hts]
 clear hts
 have HLL : Hid (qs.length = qs.length) := rfl
 generalize hL : qs.length = L at *
 have HqL : Hid (qs.length = L) := hL
 clear hL HLL
 by_cases hlong : 65536 < L
 ·have hlong' : (65536 : Int) < (L : Int) := by omega
  have Hfin : Hid (pErr d ts = 2) := if_pos (by rw [Hlen.out]; exact hlong)
  clear hlong
  go_enter Tryz.func131, Tryz.ntmps131
  go_wp2_with fail
  go_ret
  exact ⟨ret_int Hfin.out.symm, Below.refl _ _⟩
 ·have hlong' : ¬ (65536 : Int) < (L : Int) := by omega
  have Hfin : Hid (pErr d ts = if ts.all (okP d) then 0 else 3) := if_neg (by rw [Hlen.out]; exact hlong)
  go_enter Tryz.func131, Tryz.ntmps131
  go_wp2_with fail
  go_loopg [13] L (fun z vi wr => ∃ j : Nat, vi = .int .i64 (j : Int) ∧ j ≤ L ∧ z = L - j ∧ Hid (ts.all (okP d) = (ts.drop j).all (okP d)) ∧ Below w.heap.size w wr)
  case atStart => exact ⟨0, rfl, by omega, by omega, rfl, Below.refl _ _⟩
  case round =>
   obtain ⟨j, rfl, hj, hk, Hc, hbw⟩ := hrel
   have Hk : Hid _ := hk
   clear hk
   have hws : w.heap.size ≤ wr.heap.size := hbw.size
   by_cases hjl : j < L
   ·have hji : (j : Int) < (L : Nat) := by omega
    have hjR : j < qs.length := by have := HqL.out; omega
    have hjT : j < ts.length := by have := Hlen.out; omega
    have hg0 := HS.out
    rw [← HqL.out] at hg0
    obtain ⟨b1, o1, c1', hv1, _, hq, _⟩ := hg0.full (fun e => by rw [e] at hjR; cases hjR)
    have ha1 : a = some ⟨b1, o1, none⟩ := by injection hv1
    subst ha1
    obtain ⟨x, hxe⟩ : ∃ x, x = qs[j] := ⟨_, rfl⟩
    have Gx : GoodQ d w x := hg0.good x (by rw [hxe]; exact List.getElem_mem hjR)
    have Ex := hq.at j hjR
    rw [← hxe] at Ex
    have hte : ts[j] = trT x := by rw [hxe]; simp [Hts.out]
    obtain ⟨⟨t1, tv1⟩, ⟨t2, tv2⟩⟩ := x
    obtain ⟨ta, tc, et1, _⟩ := Lies.slice Gx.1.1
    obtain ⟨tb, td, et2, _⟩ := Lies.slice Gx.2.1
    simp only at et1 et2
    subst et1 et2
    have hte2 : ts[j] = (t1, t2) := hte
    have Hd : Hid (ts.drop j = (t1, t2) :: ts.drop (j + 1)) := by show _ = _; rw [List.drop_eq_getElem_cons hjT, hte2]
    obtain ⟨p0, p1, p2, p3, p4, p5, p6, p7⟩ := Ex.keeps hbw
    simp only at p0 p1 p2 p3 p4 p5 p6 p7
    have hgr : b1 < wr.heap.size := cell_lt p0
    have hbA : Below w.heap.size w (wr.alloc (.cells #[.int .i64 t1.kind, .int .i64 t1.num, .string t1.text, .slice ta t1.items.length tc, .int .i64 t2.kind, .int .i64 t2.num, .string t2.text, .slice tb t2.items.length td] 69)) := hbw.alloc hws _
    have HCk : Hid _ := checkPair_any d t1 t2 ta tb tc td bx (wr.alloc (.cells #[.int .i64 t1.kind, .int .i64 t1.num, .string t1.text, .slice ta t1.items.length tc, .int .i64 t2.kind, .int .i64 t2.num, .string t2.text, .slice tb t2.items.length td] 69)) (Lies.keeps hbA _ _ _ Gx.1.1) (Lies.keeps hbA _ _ _ Gx.2.1) Gx.1.2 Gx.2.2 (cell_keeps hbA Hbx.out)
    clear hte2
    clear Ex hxe Gx hq hv1 hg0
    clear hte
    clear hjR hjT
    go_wp2_with fail
    refine Calls.mono HCk.out ?_
    rintro e w1 ⟨rfl, hg⟩
    have hb2 : Below w.heap.size w w1 := hbA.trans (hg.mono hbA.size)
    clear hg p0 p1 p2 p3 p4 p5 p6 p7 HCk hbA
    cases hx : okP d (t1, t2)
    ·have he : errOf false = 3 := rfl
     rw [he]
     clear he
     go_wp2_with fail
     go_ret
     exact ⟨ret_int (by rw [Hfin.out, Hc.out, Hd.out, List.all_cons, hx]; rfl), hb2⟩
    ·have he : errOf true = 0 := rfl
     rw [he]
     clear he
     go_wp2_with fail
     go_roundg (L - (j + 1))
     case measure => have := Hk.out; omega
     case rel =>
      refine ⟨j + 1, by go_num, by omega, rfl, ?_, hb2⟩
      show _ = _
      rw [Hc.out, Hd.out, List.all_cons, hx]; rfl
   ·have hji : ¬ (j : Int) < (L : Nat) := by omega
    have Hd : Hid (ts.all (okP d) = true) := by
     show _ = _
     rw [Hc.out, List.drop_eq_nil_of_le (by rw [Hlen.out]; omega)]; rfl
    clear Hc
    go_wp2_with fail
    go_ret
    exact ⟨ret_int (by rw [Hfin.out, Hd.out]; rfl), hbw⟩

set_option maxRecDepth 100000 in
theorem checkPairs_any (d : Nat) (qs : List PP) (u : Value) (w : World) (hu : SlQ 0 d w qs u) :
 Calls Tryz.prog 89 #[u, .func (.func 69) #[] #[]] w fun e w' => e = .returned (.int .i64 (pErr d (qs.map trT))) ∧ Below w.heap.size w w' := by
 have hb0 : ∀ o, Below w.heap.size w (w.alloc o) := fun o => ((Grew.refl w).alloc o).below
 have HC : Hid (∀ W, Below w.heap.size w W → W.cell? ⟨w.heap.size, 0, none⟩ = some (.func (.func 69) #[] #[]) → Calls Tryz.prog 131 #[u, .func (.func 132) #[] #[.pointer (some ⟨w.heap.size, 0, none⟩)]] W fun e w' => e = .returned (.int .i64 (pErr d (qs.map trT))) ∧ Below W.heap.size W w') := fun W h1 h2 => checkAllQ_any d qs u w.heap.size W (hu.keeps h1) h2
 have Hb : Hid (∀ o, Below w.heap.size w (w.alloc o)) := hb0
 obtain ⟨a, c, rfl, hc0⟩ := hu.slice
 clear hu hb0
 generalize pErr d (qs.map trT) = E at *
 generalize qs.length = L at *
 go_enter Tryz.func89, Tryz.ntmps89
 go_wp2_with fail
 refine (HC.out _ (Hb.out _) (by simp)).mono ?_
 rintro e w1 ⟨rfl, hg⟩
 have hb1 : Below w.heap.size w w1 := (Hb.out _).trans (hg.mono (Hb.out _).size)
 clear hg
 go_wp2_with fail
 go_ret
 exact ⟨rfl, hb1⟩

end Go.Proofs.YtlnecfjnffdciaaGreat

namespace Go.Proofs.YtlnecfjnffdciaaGreat
open Go.RowKit

set_option maxRecDepth 100000 in
set_option maxHeartbeats 2000000 in
theorem lastOf_none (f : Nat) (a : Option Addr) (c : Nat) (w : World) :
 Calls Tryz.prog 92 #[.slice a 0 c, .func (.func f) #[] #[]] w fun e w' => e = .returned (.slice none 0 0) ∧ Below w.heap.size w w' := by
 go_enter Tryz.func92, Tryz.ntmps92
 go_wp2_with fail
 refine (cloneQ_none a c _).mono ?_
 rintro e w1 ⟨a', c', rfl, hb1⟩
 go_wp2_with fail
 refine (sortStable_none f a' c' _).mono ?_
 rintro e w2 ⟨rfl, rfl⟩
 go_wp2_with fail
 go_loopg [16, 6] 0 (fun z vj vo wr => vj = .int .i64 0 ∧ vo = .slice none 0 0 ∧ z = 0 ∧ wr = w2)
 case atStart => exact ⟨rfl, rfl, rfl, rfl⟩
 case round =>
  obtain ⟨rfl, rfl, rfl, rfl⟩ := hrel
  go_wp2_with fail
  go_ret
  exact ⟨rfl, hb1⟩

theorem lastOf_any (f d : Nat) (eg : ∀ args w, (callFunc f args).run Tryz.prog w = .ok (.enter f args) w) (cf : PP → PP → Int) (hc : CmpQ f (GoodQ d) cf) (h3 : Cmp3 cf) (qs : List PP) (u : Value) (w : World) (hu : SlQ 0 d w qs u) (hlen : qs.length ≤ 65536) :
 Calls Tryz.prog 92 #[u, .func (.func f) #[] #[]] w fun e w' => ∃ v, e = .returned v ∧ SlQ w.heap.size d w' (kyd cf (qs.length + 1) qs) v ∧ Below w.heap.size w w' := by
 by_cases hne : qs = []
 ·subst hne
  obtain ⟨a, c, rfl, _⟩ := hu.slice
  refine (lastOf_none f a c w).mono ?_
  rintro e w' ⟨rfl, hb⟩
  exact ⟨_, rfl, ⟨none, 0, rfl, by simp [kyd], by simp [kyd], (fun h => absurd rfl h), (fun p hp => by cases hp)⟩, hb⟩
 ·obtain ⟨b, o, c, rfl, _, hr, hg⟩ := hu.full hne
  exact lastOf_full f d eg cf hc h3 qs b o c w hr hg hlen hne

def kvQ (qs : List PP) : List PR := qs.flatMap fun p => [p.1, p.2]

theorem kvQ_flat (qs : List PP) : (kvQ qs).flatMap encP = qs.flatMap encQ := by
 induction qs with
 | nil => rfl
 | cons p qs ih =>
  show (p.1 :: p.2 :: kvQ qs).flatMap encP = _
  rw [List.flatMap_cons, List.flatMap_cons, List.flatMap_cons, ih, ← List.append_assoc]; rfl

theorem kvQ_len (qs : List PP) : (kvQ qs).length = 2 * qs.length := by
 induction qs with
 | nil => rfl
 | cons p qs ih => show (_ :: _ :: kvQ qs).length = _; simp only [List.length_cons, ih]; omega

theorem kvQ_map (qs : List PP) : (kvQ qs).map (·.1) = kvT (qs.map trT) := by
 induction qs with
 | nil => rfl
 | cons p qs ih => show p.1.1 :: p.2.1 :: (kvQ qs).map (·.1) = p.1.1 :: p.2.1 :: kvT (qs.map trT); rw [ih]

theorem kvQ_mem {qs : List PP} {x : PR} (h : x ∈ kvQ qs) : ∃ p ∈ qs, x = p.1 ∨ x = p.2 := by
 obtain ⟨p, hp, hx⟩ := List.mem_flatMap.1 h
 refine ⟨p, hp, ?_⟩
 simpa using hx

set_option maxRecDepth 100000 in
set_option maxHeartbeats 8000000 in
theorem lastKey_any (d : Nat) (qs : List PP) (u : Value) (w : World) (hu : SlQ 0 d w qs u) (hlen : qs.length ≤ 65536) :
 Calls Tryz.prog 103 #[u] w fun e w' => ∃ v, e = .returned v ∧ SlP w.heap.size d w' (kvQ (kyd (cmpQ d) (qs.length + 1) qs)) v ∧ Below w.heap.size w w' := by
 obtain ⟨i0, hi, hz0, hz1, hz2⟩ := info24
 have Hi : Hid _ := hi; have Hz0 : Hid _ := hz0; have Hz1 : Hid _ := hz1; have Hz2 : Hid _ := hz2
 clear hi hz0 hz1 hz2
 have HL : Hid _ := lastOf_any 151 d eg_keys (cmpQ d) (compareKeys_any d) (cmp3Q d) qs u w hu hlen
 have HRl : Hid ((kyd (cmpQ d) (qs.length + 1) qs).length ≤ 65536) := by show _ ≤ _; have := kyd_len (cmpQ d) (qs.length + 1) qs; omega
 obtain ⟨a, c, rfl, _⟩ := hu.slice
 clear hu
 generalize kyd (cmpQ d) (qs.length + 1) qs = R at *
 generalize qs.length = L0 at *
 go_enter Tryz.func103, Tryz.ntmps103
 go_wp2_with fail
 refine Calls.mono HL.out ?_
 rintro e w1 ⟨v, rfl, hs, hb1⟩
 obtain ⟨a1, c1, rfl, hc1⟩ := hs.slice
 have HS : Hid (SlQ w.heap.size d w1 R (.slice a1 R.length c1)) := hs
 have hL := HRl.out
 have HGd : Hid (∀ p ∈ R, GoodQ d w1 p) := hs.good
 obtain ⟨B, hB⟩ : ∃ B, B = w1.heap.size := ⟨_, rfl⟩
 have HB : Hid (B = w1.heap.size) := hB
 clear hs HL hB
 generalize hLL : R.length = L at *
 have HLL : Hid (R.length = L) := hLL
 clear hLL
 go_wp2_with fail
 go_loopg [9, 3] L (fun z vj vo wr => ∃ (j : Nat), vj = .int .i64 (j : Int) ∧ z = L - j ∧ j ≤ L ∧ Hid (wr.ownsRow B 34 4 vo (2 * j) ((R.take j).flatMap encQ) ∧ Below B w1 wr))
 case atStart => exact ⟨0, rfl, rfl, Nat.zero_le _, by simp; exact World.ownsRow_nil _ _ _ _, Below.refl _ _⟩
 case round =>
  obtain ⟨j, rfl, hk, hjL, HM⟩ := hrel
  have Hk : Hid _ := hk
  clear hk
  have hbw1 : Below w1.heap.size w1 wr := by have := HM.out.2; rwa [HB.out] at this
  have hwl1 : w1.heap.size ≤ wr.heap.size := hbw1.size
  have hBs : B = w1.heap.size := HB.out
  by_cases hjl : j < L
  ·have hji : (j : Int) < (L : Nat) := by omega
   have hjR : j < R.length := by have := HLL.out; omega
   obtain ⟨b1, o1, c1', hv1, _, hq, _⟩ := HS.out.full (fun e => by rw [e] at hjR; cases hjR)
   have ha1 : a1 = some ⟨b1, o1, none⟩ := by injection hv1
   subst ha1
   obtain ⟨x, hxe⟩ : ∃ x, x = R[j] := ⟨_, rfl⟩
   have Gx : GoodQ d w1 x := HGd.out x (by rw [hxe]; exact List.getElem_mem hjR)
   have Ex := hq.at j hjR
   rw [← hxe] at Ex
   have Htk : Hid (R.take (j + 1) = R.take j ++ [x]) := by show _ = _; rw [hxe]; exact (List.take_append_getElem hjR).symm
   obtain ⟨⟨t1, tv1⟩, ⟨t2, tv2⟩⟩ := x
   obtain ⟨ta, tc, et1, _⟩ := Lies.slice Gx.1.1
   obtain ⟨tb, td, et2, _⟩ := Lies.slice Gx.2.1
   simp only at et1 et2
   subst et1 et2
   obtain ⟨p0, p1, p2, p3, p4, p5, p6, p7⟩ := Ex.keeps hbw1
   simp only at p0 p1 p2 p3 p4 p5 p6 p7
   have hgr : b1 < wr.heap.size := cell_lt p0
   have Hown : Hid ((wr.alloc (.cells #[.int .i64 t1.kind, .int .i64 t1.num, .string t1.text, .slice ta t1.items.length tc, .int .i64 t2.kind, .int .i64 t2.num, .string t2.text, .slice tb t2.items.length td] 69)).ownsRow B 34 4 u3 (2 * j) ((R.take j).flatMap encQ)) := HM.out.1.alloc _
   have HbW : Hid (Below B w1 (wr.alloc (.cells #[.int .i64 t1.kind, .int .i64 t1.num, .string t1.text, .slice ta t1.items.length tc, .int .i64 t2.kind, .int .i64 t2.num, .string t2.text, .slice tb t2.items.length td] 69))) := HM.out.2.alloc (by omega) _
   have HN : Hid (∀ (v' : Value) (W : World), W.ownsRow B 34 4 v' (2 * j + 2) ((R.take j).flatMap encQ ++ encQ (((t1, .slice ta t1.items.length tc), (t2, .slice tb t2.items.length td)) : PP)) → Below B w1 W → W.ownsRow B 34 4 v' (2 * (j + 1)) ((R.take (j + 1)).flatMap encQ) ∧ Below B w1 W) := fun v' W k1 k2 => by
    refine ⟨?_, k2⟩
    rw [Htk.out, List.flatMap_append, show 2 * (j + 1) = 2 * j + 2 by omega]
    simpa using k1
   clear Ex hxe Gx HM hq hv1 Htk hjR
   go_wp2_with (first
    | (at_builtin; refine wpList_append_own _ rfl _ _ 32 rfl B 34 i0 (.agg #[.int .i64 0, .int .i64 0, .string ⟨#[]⟩, .slice none 0 0]) 4 56 Tryz.underlying32 Hi.out Hz0.out Hz1.out Hz2.out rfl (by decide) _ _ _ rfl (Hown.out.alloc _) ⟨wr.heap.size + 1, 0, none⟩ 2 2 [.int .i64 t1.kind, .int .i64 t1.num, .string t1.text, .slice ta t1.items.length tc, .int .i64 t2.kind, .int .i64 t2.num, .string t2.text, .slice tb t2.items.length td] rfl rfl (fun q u hq => by match q, hq with | 0, hq => (simp at hq; subst hq; simp [Addr.add]) | 1, hq => (simp at hq; subst hq; simp [Addr.add]) | 2, hq => (simp at hq; subst hq; simp [Addr.add]) | 3, hq => (simp at hq; subst hq; simp [Addr.add]) | 4, hq => (simp at hq; subst hq; simp [Addr.add]) | 5, hq => (simp at hq; subst hq; simp [Addr.add]) | 6, hq => (simp at hq; subst hq; simp [Addr.add]) | 7, hq => (simp at hq; subst hq; simp [Addr.add]) | q + 8, hq => simp at hq) (fun u hu => by simp at hu; rcases hu with rfl | rfl | rfl | rfl | rfl | rfl | rfl | rfl <;> rfl) (by unfold maxLen; omega) (by omega) (by simp; omega) ?_; intro v' w9 hown' hgrow _))
   have hb9 : Below B w1 w9 := own_growM (HbW.out.alloc (by simp; omega) _) (by simp; omega) (Hown.out.alloc _) hgrow
   have HN3 : Hid _ := HN.out v' w9 (by simpa [encQ, encP] using hown') hb9
   clear hown' hgrow Hown HN HbW p0 p1 p2 p3 p4 p5 p6 p7
   go_wp2_with fail
   go_roundg (L - (j + 1))
   case measure => have := Hk.out; omega
   case rel => exact ⟨j + 1, by go_num, rfl, by omega, HN3⟩
  ·obtain rfl : j = L := by omega
   have hji : ¬ (j : Int) < (j : Nat) := by omega
   have HE : Hid (SlP w.heap.size d wr (kvQ R) u3 ∧ Below w.heap.size w wr) := by
    have hbr : Below w.heap.size w wr := hb1.trans (hbw1.mono hb1.size)
    refine ⟨?_, hbr⟩
    have hl := HLL.out
    have h1 := HM.out.1
    rw [List.take_of_length_le (by omega), ← kvQ_flat] at h1
    refine (SlP.of_own (d := d) (by rw [kvQ_len, hl]) h1 (fun p hp => ?_) (by rw [kvQ_len]; omega)).mono (by have := hb1.size; omega)
    obtain ⟨q, hq, rfl | rfl⟩ := kvQ_mem hp
    ·exact ((HGd.out q hq).keeps hbw1).1
    ·exact ((HGd.out q hq).keeps hbw1).2
   obtain ⟨a6, c6, rfl, _⟩ := SlP.slice HE.out.1
   clear HM
   go_wp2_with fail
   go_ret
   exact ⟨_, rfl, HE.out⟩

end Go.Proofs.YtlnecfjnffdciaaGreat

namespace Go.Proofs.YtlnecfjnffdciaaGreat
open Go.RowKit

set_option maxRecDepth 100000 in
set_option maxHeartbeats 4000000 in
theorem pair_same (d : Nat) (t1 t2 : VT) (ta tb sa sb : Option Addr) (tc td sc sd : Nat) (w : World) (h1 : Lies d w t1.items (.slice ta t1.items.length tc)) (h2 : Lies d w t2.items (.slice tb t2.items.length td)) (k1 : Lies d w t1.items (.slice sa t1.items.length sc)) (k2 : Lies d w t2.items (.slice sb t2.items.length sd)) :
 Calls Tryz.prog 82 #[.agg #[.int .i64 t1.kind, .int .i64 t1.num, .string t1.text, .slice ta t1.items.length tc, .int .i64 t2.kind, .int .i64 t2.num, .string t2.text, .slice tb t2.items.length td], .agg #[.int .i64 t1.kind, .int .i64 t1.num, .string t1.text, .slice sa t1.items.length sc, .int .i64 t2.kind, .int .i64 t2.num, .string t2.text, .slice sb t2.items.length sd]] w fun e w' => e = .returned (.bool true) ∧ Below w.heap.size w w' := by
 have hb0 : Below w.heap.size w ((w.alloc (.cells #[.int .i64 t1.kind, .int .i64 t1.num, .string t1.text, .slice ta t1.items.length tc, .int .i64 t2.kind, .int .i64 t2.num, .string t2.text, .slice tb t2.items.length td] 69)).alloc (.cells #[.int .i64 t1.kind, .int .i64 t1.num, .string t1.text, .slice sa t1.items.length sc, .int .i64 t2.kind, .int .i64 t2.num, .string t2.text, .slice sb t2.items.length sd] 69)) := (Grew.two _ _ _).below
 have HSm : Hid (∀ (t : VT) (x y : Value) (W : World), Lies d W t.items x → Lies d W t.items y → Calls Tryz.prog 17 #[.agg #[.int .i64 t.kind, .int .i64 t.num, .string t.text, x], .agg #[.int .i64 t.kind, .int .i64 t.num, .string t.text, y]] W fun e W' => e = .returned (.bool true) ∧ Below W.heap.size W W') := fun t x y W h1 h2 => (same_any d t t x y W h1 h2).mono fun e W' h => ⟨by rw [h.1, sameV_self], h.2.below⟩
 have H1 : Hid (Lies d w t1.items (.slice ta t1.items.length tc)) := h1
 have H2 : Hid (Lies d w t2.items (.slice tb t2.items.length td)) := h2
 have K1 : Hid (Lies d w t1.items (.slice sa t1.items.length sc)) := k1
 have K2 : Hid (Lies d w t2.items (.slice sb t2.items.length sd)) := k2
 clear h1 h2 k1 k2
 go_enter Tryz.func82, Tryz.ntmps82
 go_wp2_with fail
 refine (HSm.out t1 _ _ _ (Lies.keeps hb0 _ _ _ H1.out) (Lies.keeps hb0 _ _ _ K1.out)).mono ?_
 rintro e w1 ⟨rfl, hg⟩
 have hb1 : Below w.heap.size w w1 := hb0.trans (hg.mono hb0.size)
 have c4 := cell_keeps hg (show ((w.alloc (.cells #[.int .i64 t1.kind, .int .i64 t1.num, .string t1.text, .slice ta t1.items.length tc, .int .i64 t2.kind, .int .i64 t2.num, .string t2.text, .slice tb t2.items.length td] 69)).alloc (.cells #[.int .i64 t1.kind, .int .i64 t1.num, .string t1.text, .slice sa t1.items.length sc, .int .i64 t2.kind, .int .i64 t2.num, .string t2.text, .slice sb t2.items.length sd] 69)).cell? ⟨w.heap.size, 4, none⟩ = some (.int .i64 t2.kind) by simp)
 have c5 := cell_keeps hg (show ((w.alloc (.cells #[.int .i64 t1.kind, .int .i64 t1.num, .string t1.text, .slice ta t1.items.length tc, .int .i64 t2.kind, .int .i64 t2.num, .string t2.text, .slice tb t2.items.length td] 69)).alloc (.cells #[.int .i64 t1.kind, .int .i64 t1.num, .string t1.text, .slice sa t1.items.length sc, .int .i64 t2.kind, .int .i64 t2.num, .string t2.text, .slice sb t2.items.length sd] 69)).cell? ⟨w.heap.size, 5, none⟩ = some (.int .i64 t2.num) by simp)
 have c6 := cell_keeps hg (show ((w.alloc (.cells #[.int .i64 t1.kind, .int .i64 t1.num, .string t1.text, .slice ta t1.items.length tc, .int .i64 t2.kind, .int .i64 t2.num, .string t2.text, .slice tb t2.items.length td] 69)).alloc (.cells #[.int .i64 t1.kind, .int .i64 t1.num, .string t1.text, .slice sa t1.items.length sc, .int .i64 t2.kind, .int .i64 t2.num, .string t2.text, .slice sb t2.items.length sd] 69)).cell? ⟨w.heap.size, 6, none⟩ = some (.string t2.text) by simp)
 have c7 := cell_keeps hg (show ((w.alloc (.cells #[.int .i64 t1.kind, .int .i64 t1.num, .string t1.text, .slice ta t1.items.length tc, .int .i64 t2.kind, .int .i64 t2.num, .string t2.text, .slice tb t2.items.length td] 69)).alloc (.cells #[.int .i64 t1.kind, .int .i64 t1.num, .string t1.text, .slice sa t1.items.length sc, .int .i64 t2.kind, .int .i64 t2.num, .string t2.text, .slice sb t2.items.length sd] 69)).cell? ⟨w.heap.size, 7, none⟩ = some (.slice tb t2.items.length td) by simp)
 have e4 := cell_keeps hg (show ((w.alloc (.cells #[.int .i64 t1.kind, .int .i64 t1.num, .string t1.text, .slice ta t1.items.length tc, .int .i64 t2.kind, .int .i64 t2.num, .string t2.text, .slice tb t2.items.length td] 69)).alloc (.cells #[.int .i64 t1.kind, .int .i64 t1.num, .string t1.text, .slice sa t1.items.length sc, .int .i64 t2.kind, .int .i64 t2.num, .string t2.text, .slice sb t2.items.length sd] 69)).cell? ⟨w.heap.size + 1, 4, none⟩ = some (.int .i64 t2.kind) by simp)
 have e5 := cell_keeps hg (show ((w.alloc (.cells #[.int .i64 t1.kind, .int .i64 t1.num, .string t1.text, .slice ta t1.items.length tc, .int .i64 t2.kind, .int .i64 t2.num, .string t2.text, .slice tb t2.items.length td] 69)).alloc (.cells #[.int .i64 t1.kind, .int .i64 t1.num, .string t1.text, .slice sa t1.items.length sc, .int .i64 t2.kind, .int .i64 t2.num, .string t2.text, .slice sb t2.items.length sd] 69)).cell? ⟨w.heap.size + 1, 5, none⟩ = some (.int .i64 t2.num) by simp)
 have e6 := cell_keeps hg (show ((w.alloc (.cells #[.int .i64 t1.kind, .int .i64 t1.num, .string t1.text, .slice ta t1.items.length tc, .int .i64 t2.kind, .int .i64 t2.num, .string t2.text, .slice tb t2.items.length td] 69)).alloc (.cells #[.int .i64 t1.kind, .int .i64 t1.num, .string t1.text, .slice sa t1.items.length sc, .int .i64 t2.kind, .int .i64 t2.num, .string t2.text, .slice sb t2.items.length sd] 69)).cell? ⟨w.heap.size + 1, 6, none⟩ = some (.string t2.text) by simp)
 have e7 := cell_keeps hg (show ((w.alloc (.cells #[.int .i64 t1.kind, .int .i64 t1.num, .string t1.text, .slice ta t1.items.length tc, .int .i64 t2.kind, .int .i64 t2.num, .string t2.text, .slice tb t2.items.length td] 69)).alloc (.cells #[.int .i64 t1.kind, .int .i64 t1.num, .string t1.text, .slice sa t1.items.length sc, .int .i64 t2.kind, .int .i64 t2.num, .string t2.text, .slice sb t2.items.length sd] 69)).cell? ⟨w.heap.size + 1, 7, none⟩ = some (.slice sb t2.items.length sd) by simp)
 clear hg
 go_wp2_with fail
 refine (HSm.out t2 _ _ _ (Lies.keeps hb1 _ _ _ H2.out) (Lies.keeps hb1 _ _ _ K2.out)).mono ?_
 rintro e w2 ⟨rfl, hg⟩
 have hb2 : Below w.heap.size w w2 := hb1.trans (hg.mono hb1.size)
 clear hg c4 c5 c6 c7 e4 e5 e6 e7
 go_wp2_with fail
 go_ret
 exact ⟨rfl, hb2⟩

set_option maxRecDepth 100000 in
set_option maxHeartbeats 8000000 in
theorem pairs_same (d : Nat) (qs rs : List PP) (he : qs.map trT = rs.map trT) (u v : Value) (w : World) (hu : SlQ 0 d w qs u) (hv : SlQ 0 d w rs v) (hlen : qs.length ≤ 65536) :
 Calls Tryz.prog 37 #[u, v] w fun e w' => e = .returned (.bool true) ∧ Below w.heap.size w w' := by
 have hlq : rs.length = qs.length := by have := congrArg List.length he; simpa using this.symm
 obtain ⟨a, c, rfl, _⟩ := hu.slice
 obtain ⟨a', c', rfl, _⟩ := hv.slice
 rw [hlq] at hv ⊢
 have HU : Hid (SlQ 0 d w qs (.slice a qs.length c)) := hu
 have HV : Hid (SlQ 0 d w rs (.slice a' qs.length c')) := hv
 have Hlq : Hid (rs.length = qs.length) := hlq
 have He : Hid (qs.map trT = rs.map trT) := he
 clear hu hv hlq he
 generalize hL : qs.length = L at *
 have HL : Hid (qs.length = L) := hL
 clear hL
 go_enter Tryz.func37, Tryz.ntmps37
 go_wp2_with fail
 go_loopg [13] L (fun z vj wr => ∃ (j : Nat), vj = .int .i64 (j : Int) ∧ z = L - j ∧ j ≤ L ∧ Below w.heap.size w wr)
 case atStart => exact ⟨0, rfl, rfl, Nat.zero_le _, Below.refl _ _⟩
 case round =>
  obtain ⟨j, rfl, hk, hjL, hbw⟩ := hrel
  have Hk : Hid _ := hk
  clear hk
  by_cases hjl : j < L
  ·have hji : (j : Int) < (L : Nat) := by omega
   have hjq : j < qs.length := by have := HL.out; omega
   have hjr : j < rs.length := by have := HL.out; have := Hlq.out; omega
   have hu0 := HU.out
   rw [← HL.out] at hu0
   have hv0 := HV.out
   rw [← Hlq.out] at hv0
   obtain ⟨b1, o1, _, hv1, _, hq1, hg1⟩ := hu0.full (fun e => by rw [e] at hjq; cases hjq)
   obtain ⟨b2, o2, _, hv2, _, hq2, hg2⟩ := hv0.full (fun e => by rw [e] at hjr; cases hjr)
   have ha1 : a = some ⟨b1, o1, none⟩ := by injection hv1
   have ha2 : a' = some ⟨b2, o2, none⟩ := by injection hv2
   subst ha1 ha2
   have Ex := (hq1.at j hjq).keeps hbw
   have Ey := (hq2.at j hjr).keeps hbw
   have Gx := hg1 qs[j] (List.getElem_mem hjq)
   have Gy := hg2 rs[j] (List.getElem_mem hjr)
   have hxy : trT qs[j] = trT rs[j] := by
    have h1 : (qs.map trT)[j]? = (rs.map trT)[j]? := by rw [He.out]
    rw [List.getElem?_map, List.getElem?_map, List.getElem?_eq_getElem hjq, List.getElem?_eq_getElem hjr] at h1
    simpa using h1
   generalize qs[j] = x at *
   generalize rs[j] = y at *
   obtain ⟨⟨t1, tv1⟩, ⟨t2, tv2⟩⟩ := x
   obtain ⟨⟨s1, sv1⟩, ⟨s2, sv2⟩⟩ := y
   have e1 : t1 = s1 := congrArg Prod.fst hxy
   have e2 : t2 = s2 := congrArg Prod.snd hxy
   subst e1 e2
   obtain ⟨ta, tc, et1, _⟩ := Lies.slice Gx.1.1
   obtain ⟨tb, td, et2, _⟩ := Lies.slice Gx.2.1
   obtain ⟨sa, sc, es1, _⟩ := Lies.slice Gy.1.1
   obtain ⟨sb, sd, es2, _⟩ := Lies.slice Gy.2.1
   simp only at et1 et2 es1 es2
   subst et1 et2 es1 es2
   obtain ⟨p0, p1, p2, p3, p4, p5, p6, p7⟩ := Ex
   obtain ⟨r0, r1, r2, r3, r4, r5, r6, r7⟩ := Ey
   simp only at p0 p1 p2 p3 p4 p5 p6 p7 r0 r1 r2 r3 r4 r5 r6 r7
   have HP : Hid (∀ W, Below w.heap.size w W → Calls Tryz.prog 82 #[.agg #[.int .i64 t1.kind, .int .i64 t1.num, .string t1.text, .slice ta t1.items.length tc, .int .i64 t2.kind, .int .i64 t2.num, .string t2.text, .slice tb t2.items.length td], .agg #[.int .i64 t1.kind, .int .i64 t1.num, .string t1.text, .slice sa t1.items.length sc, .int .i64 t2.kind, .int .i64 t2.num, .string t2.text, .slice sb t2.items.length sd]] W fun e w' => e = .returned (.bool true) ∧ Below W.heap.size W w') := fun W h => pair_same d t1 t2 ta tb sa sb tc td sc sd W (Lies.keeps h _ _ _ Gx.1.1) (Lies.keeps h _ _ _ Gx.2.1) (Lies.keeps h _ _ _ Gy.1.1) (Lies.keeps h _ _ _ Gy.2.1)
   clear hq1 hq2 hg1 hg2 hu0 hv0 hv1 hv2 Gx Gy hjq hjr hxy
   go_wp2_with fail
   go_region_held3 (fun w' => (w'.cell? ⟨b1, o1 + j * 8, none⟩ = some (.int .i64 t1.kind) ∧ w'.cell? ⟨b1, o1 + j * 8 + 1, none⟩ = some (.int .i64 t1.num) ∧ w'.cell? ⟨b1, o1 + j * 8 + 2, none⟩ = some (.string t1.text) ∧ w'.cell? ⟨b1, o1 + j * 8 + 3, none⟩ = some (.slice ta t1.items.length tc) ∧ w'.cell? ⟨b1, o1 + j * 8 + 4, none⟩ = some (.int .i64 t2.kind) ∧ w'.cell? ⟨b1, o1 + j * 8 + 5, none⟩ = some (.int .i64 t2.num) ∧ w'.cell? ⟨b1, o1 + j * 8 + 6, none⟩ = some (.string t2.text) ∧ w'.cell? ⟨b1, o1 + j * 8 + 7, none⟩ = some (.slice tb t2.items.length td)) ∧ (w'.cell? ⟨b2, o2 + j * 8, none⟩ = some (.int .i64 t1.kind) ∧ w'.cell? ⟨b2, o2 + j * 8 + 1, none⟩ = some (.int .i64 t1.num) ∧ w'.cell? ⟨b2, o2 + j * 8 + 2, none⟩ = some (.string t1.text) ∧ w'.cell? ⟨b2, o2 + j * 8 + 3, none⟩ = some (.slice sa t1.items.length sc) ∧ w'.cell? ⟨b2, o2 + j * 8 + 4, none⟩ = some (.int .i64 t2.kind) ∧ w'.cell? ⟨b2, o2 + j * 8 + 5, none⟩ = some (.int .i64 t2.num) ∧ w'.cell? ⟨b2, o2 + j * 8 + 6, none⟩ = some (.string t2.text) ∧ w'.cell? ⟨b2, o2 + j * 8 + 7, none⟩ = some (.slice sb t2.items.length sd))) (go_keep)
    (first | (go_at_call 82; refine (HP.out _ hbw.drew).mono ?_; rintro e WW ⟨rfl, hg1⟩; have hb1' : Below wr.heap.size wr WW := (Below.refl _ _).drew.trans hg1; clear hg1; have p0 := cell_keeps hb1' p0; have r0 := cell_keeps hb1' r0; have p1 := cell_keeps hb1' p1; have r1 := cell_keeps hb1' r1; have p2 := cell_keeps hb1' p2; have r2 := cell_keeps hb1' r2; have p3 := cell_keeps hb1' p3; have r3 := cell_keeps hb1' r3; have p4 := cell_keeps hb1' p4; have r4 := cell_keeps hb1' r4; have p5 := cell_keeps hb1' p5; have r5 := cell_keeps hb1' r5; have p6 := cell_keeps hb1' p6; have r6 := cell_keeps hb1' r6; have p7 := cell_keeps hb1' p7; have r7 := cell_keeps hb1' r7))
   have hbW : Below w.heap.size w WW := hbw.trans (hb1'.mono hbw.size)
   clear p0 p1 p2 p3 p4 p5 p6 p7 r0 r1 r2 r3 r4 r5 r6 r7 hb1' HP
   go_wp2_with fail
   go_roundg (L - (j + 1))
   case measure => have := Hk.out; omega
   case rel => exact ⟨j + 1, by go_num, rfl, by omega, hbW⟩
  ·have hji : ¬ (j : Int) < (L : Nat) := by omega
   go_wp2_with fail
   go_ret
   exact ⟨rfl, hbw⟩

end Go.Proofs.YtlnecfjnffdciaaGreat

namespace Go.Proofs.YtlnecfjnffdciaaGreat
open Go.RowKit

theorem mrgK_ne {α : Type} (cf : α → α → Int) (xs ys : List α) (h : xs ≠ []) : mrgK cf xs ys ≠ [] := by
 cases xs with
 | nil => exact absurd rfl h
 | cons x xs =>
  cases ys with
  | nil => rw [mrgK_right]; exact h
  | cons y ys =>
   rw [mrgK_step]
   split
   ·exact fun q => by cases q
   ·split
    ·exact fun q => by cases q
    ·exact fun q => by cases q

theorem kyd_ne {α : Type} (cf : α → α → Int) : ∀ (n : Nat) (l : List α), l ≠ [] → kyd cf n l ≠ [] := by
 intro n
 induction n with
 | zero => intro l h; exact h
 | succ n ih =>
  intro l h
  by_cases h2 : l.length < 2
  ·show (if _ then _ else _) ≠ _
   rw [if_pos h2]; exact h
  ·rw [kyd_step cf n l h2]
   refine mrgK_ne cf _ _ (ih _ (fun e => ?_))
   have := congrArg List.length e
   rw [List.length_take, List.length_nil] at this
   omega

structure Msk (DD B : Nat) (w : World) (g : PP → PP → Int) (R : List PP) (wr : World) (nx ny no ba oa ca bb ob cb : Nat) (vo : Value) (xs ys ds : List PP) : Prop where
 ex : nx = xs.length
 ey : ny = ys.length
 eo : no = ds.length
 cx : nx ≤ ca
 cy : ny ≤ cb
 rx : QAt w ba oa xs
 ry : QAt w bb ob ys
 gx : ∀ p ∈ xs, GoodQ DD w p
 gy : ∀ p ∈ ys, GoodQ DD w p
 eq : ds ++ mrgK g xs ys = R
 own : wr.ownsRow B 69 8 vo no (ds.flatMap encQ)
 below : Below B w wr
 sum : nx + ny + no ≤ 65536

theorem rest_row8 {w : World} {b o o' n : Nat} {x : PP} {xs : List PP} (h : QAt w b o (x :: xs)) (e : n = (x :: xs).length) (ho : n = 1 ∨ o' = o + 8) : QAt w b o' xs := by
 rcases ho with ho | ho
 ·have : xs = [] := List.eq_nil_of_length_eq_zero (by simp at e; omega)
  subst this
  exact QAt.nil _ _ _
 ·subst ho
  have := h.drop 1
  simpa using this

theorem Msk.stepX {DD B : Nat} {w : World} {g : PP → PP → Int} {R : List PP} {wr : World} {nx ny no ba oa ca bb ob cb : Nat} {vo : Value} {x y : PP} {xs ys ds : List PP} (h : Msk DD B w g R wr nx ny no ba oa ca bb ob cb vo (x :: xs) (y :: ys) ds) {Z : Int} (hZ : g x y = Z) (hz : Z < 0) (o' : Nat) (ho : nx = 1 ∨ o' = oa + 8) {W : World} {v' : Value} (hown : W.ownsRow B 69 8 v' (no + 1) ((ds ++ [x]).flatMap encQ)) (hb : Below B w W) :
 Msk DD B w g R W (nx - 1) ny (no + 1) ba o' (ca - 1) bb ob cb v' xs (y :: ys) (ds ++ [x]) := by
 have h1 := h.ex
 have h2 := h.sum
 have h3 := h.cx
 simp at h1
 refine ⟨by omega, h.ey, by simp [h.eo], by omega, h.cy, rest_row8 h.rx h.ex ho, h.ry, fun p hp => h.gx p (List.mem_cons_of_mem _ hp), h.gy, ?_, hown, hb, by omega⟩
 have he := h.eq
 rw [mrgK_step, if_pos (by rw [hZ]; exact hz)] at he
 rw [← he]; simp

theorem Msk.stepY {DD B : Nat} {w : World} {g : PP → PP → Int} {R : List PP} {wr : World} {nx ny no ba oa ca bb ob cb : Nat} {vo : Value} {x y : PP} {xs ys ds : List PP} (h : Msk DD B w g R wr nx ny no ba oa ca bb ob cb vo (x :: xs) (y :: ys) ds) {Z : Int} (hZ : g x y = Z) (hz : 0 < Z) (o' : Nat) (ho : ny = 1 ∨ o' = ob + 8) {W : World} {v' : Value} (hown : W.ownsRow B 69 8 v' (no + 1) ((ds ++ [y]).flatMap encQ)) (hb : Below B w W) :
 Msk DD B w g R W nx (ny - 1) (no + 1) ba oa ca bb o' (cb - 1) v' (x :: xs) ys (ds ++ [y]) := by
 have h1 := h.ey
 have h2 := h.sum
 have h3 := h.cy
 simp at h1
 refine ⟨h.ex, by omega, by simp [h.eo], h.cx, by omega, h.rx, rest_row8 h.ry h.ey ho, h.gx, fun p hp => h.gy p (List.mem_cons_of_mem _ hp), ?_, hown, hb, by omega⟩
 have he := h.eq
 rw [mrgK_step, if_neg (by rw [hZ]; omega), if_neg (by rw [hZ]; omega)] at he
 rw [← he]; simp

theorem Msk.stepB {DD B : Nat} {w : World} {g : PP → PP → Int} {R : List PP} {wr : World} {nx ny no ba oa ca bb ob cb : Nat} {vo : Value} {x y : PP} {xs ys ds : List PP} (h : Msk DD B w g R wr nx ny no ba oa ca bb ob cb vo (x :: xs) (y :: ys) ds) {Z : Int} (hZ : g x y = Z) (hz : Z = 0) (o1 : Nat) (ho1 : nx = 1 ∨ o1 = oa + 8) (o' : Nat) (ho : ny = 1 ∨ o' = ob + 8) {W : World} {v' : Value} (hown : W.ownsRow B 69 8 v' (no + 1) ((ds ++ [y]).flatMap encQ)) (hb : Below B w W) :
 Msk DD B w g R W (nx - 1) (ny - 1) (no + 1) ba o1 (ca - 1) bb o' (cb - 1) v' xs ys (ds ++ [y]) := by
 have h1 := h.ey
 have h1' := h.ex
 have h2 := h.sum
 have h3 := h.cy
 have h3' := h.cx
 simp at h1 h1'
 refine ⟨by omega, by omega, by simp [h.eo], by omega, by omega, rest_row8 h.rx h.ex ho1, rest_row8 h.ry h.ey ho, fun p hp => h.gx p (List.mem_cons_of_mem _ hp), fun p hp => h.gy p (List.mem_cons_of_mem _ hp), ?_, hown, hb, by omega⟩
 have he := h.eq
 rw [mrgK_step, if_neg (by rw [hZ]; omega), if_pos (by rw [hZ]; omega)] at he
 rw [← he]; simp

set_option maxRecDepth 100000 in
set_option maxHeartbeats 16000000 in
theorem rkeyed_core (d k : Nat) (l : List PP) (u : Value) (w : World) (hu : SlQ 0 d w l u) (hlen : l.length ≤ 65536)
 (ih : Hid (2 ≤ l.length → ∀ (m : List PP) (v : Value) (W : World), m.length ≤ l.length - 1 → SlQ 0 d W m v → Calls Tryz.prog 107 #[v] W fun e W' => ∃ v, e = .returned v ∧ SlQ W.heap.size d W' (kyd (cmpQ d) k m) v ∧ Below W.heap.size W W')) :
 Calls Tryz.prog 107 #[u] w fun e w' => ∃ v, e = .returned v ∧ SlQ w.heap.size d w' (kyd (cmpQ d) (k + 1) l) v ∧ Below w.heap.size w w' := by
 obtain ⟨i0, hi, hz0, hz1, hz2⟩ := infoQ
 have Hi : Hid _ := hi; have Hz0 : Hid _ := hz0; have Hz1 : Hid _ := hz1; have Hz2 : Hid _ := hz2
 clear hi hz0 hz1 hz2
 by_cases h2 : l.length < 2
 ·have Hr : Hid (kyd (cmpQ d) (k + 1) l = l) := by show (if _ then _ else _) = _; rw [if_pos h2]
  generalize kyd (cmpQ d) (k + 1) l = R at *
  obtain ⟨aa, ca, rfl, _⟩ := hu.slice
  obtain ⟨s1, s2, s3⟩ := hu.src
  have HN : Hid (aa = none → l.length = 0) := s1
  have HF : Hid (∀ W, Below w.heap.size w W → ∀ ad, aa = some ad → ∀ j z, (l.flatMap encQ)[j]? = some z → W.cell? (ad.add j) = some z) := s2
  have HO : Hid (∀ z ∈ l.flatMap encQ, z.oneCell' = true) := s3
  have HL : Hid ((l.flatMap encQ).length = l.length * 8) := by show _ = _; rw [flat_lenQ]
  have HP : Hid (∀ p ∈ l, GoodQ d w p) := hu.good
  have h2' : (l.length : Int) < 2 := by omega
  have Hown0 : Hid ((w.alloc (.cells #[] 69)).ownsRow w.heap.size 69 8 (.slice (some ⟨w.heap.size, 0, none⟩) 0 0) 0 []) := World.ownsRow_made w #[] 0 (Nat.le_refl _) (by unfold maxLen; omega) rfl
  have hb0 : Below w.heap.size w (w.alloc (.cells #[] 69)) := ((Grew.refl w).alloc _).below
  clear ih hu s1 s2 s3
  go_enter Tryz.func107, Tryz.ntmps107
  go_wp2_with (at_builtin; refine wpList_append_rowQ rfl _ _ rfl w.heap.size i0 Hi.out Hz0.out Hz1.out Hz2.out _ _ _ rfl Hown0.out aa l.length ca (l.flatMap encQ) rfl HN.out HL.out (HF.out _ hb0) HO.out (by unfold maxLen; omega) (by omega) (by simp) ?_; intro v5 w5 hown5 hgrow5)
  have hb5 : Below w.heap.size w w5 := own_growM hb0 (by simp) Hown0.out hgrow5
  have hfin : SlQ w.heap.size d w5 l v5 := SlQ.of_own (n := 0 + l.length) (by omega) (by simpa using hown5) (fun p hp => (HP.out p hp).keeps hb5) (by omega)
  go_ret
  exact ⟨_, rfl, by rw [Hr.out]; exact hfin, hb5⟩
 ·have Hr : Hid (kyd (cmpQ d) (k + 1) l = mrgK (cmpQ d) (kyd (cmpQ d) k (l.take (l.length / 2))) (kyd (cmpQ d) k (l.drop (l.length / 2)))) := kyd_step _ _ _ h2
  have Ih : Hid _ := ih.out (by omega)
  obtain ⟨b, o, c, rfl, hb0, _, _⟩ := SlQ.full hu (fun e => by rw [e] at h2; simp at h2)
  obtain ⟨h, hh⟩ : ∃ h, h = l.length / 2 := ⟨_, rfl⟩
  rw [← hh] at Hr
  have hle : h ≤ l.length := by omega
  have HS1 : Hid (SlQ 0 d w (l.take h) (.slice (some ⟨b, o, none⟩) h c)) := SlQ.taken hu h hle
  have HS2 : Hid (SlQ 0 d w (l.drop h) (.slice (some ⟨b, o + h * 8, none⟩) (l.length - h) (c - h))) := SlQ.dropped hu h
  have Hl1 : Hid ((l.take h).length ≤ l.length - 1) := by show _ ≤ _; rw [List.length_take]; omega
  have Hl2 : Hid ((l.drop h).length ≤ l.length - 1) := by show _ ≤ _; rw [List.length_drop]; omega
  have Hn1 : Hid ((kyd (cmpQ d) k (l.take h)).length ≤ h) := by show _ ≤ _; have := kyd_len (cmpQ d) k (l.take h); rw [List.length_take] at this; omega
  have Hn2 : Hid ((kyd (cmpQ d) k (l.drop h)).length ≤ l.length - h) := by show _ ≤ _; have := kyd_len (cmpQ d) k (l.drop h); rw [List.length_drop] at this; omega
  have He1 : Hid (kyd (cmpQ d) k (l.take h) ≠ []) := kyd_ne _ _ _ (fun e => by have := congrArg List.length e; rw [List.length_take, List.length_nil] at this; omega)
  have He2 : Hid (kyd (cmpQ d) k (l.drop h) ≠ []) := kyd_ne _ _ _ (fun e => by have := congrArg List.length e; rw [List.length_drop, List.length_nil] at this; omega)
  generalize kyd (cmpQ d) (k + 1) l = R0 at *
  have h2' : ¬ (l.length : Int) < 2 := by omega
  have hq2 : ((l.length : Nat) : Int) / 2 = ((h : Nat) : Int) := by omega
  have hle' : ((h : Nat) : Int) ≤ (l.length : Nat) := by omega
  have hmc : l.length ≤ c := hb0
  have hcc : h ≤ c := by omega
  have hcc' : ((h : Nat) : Int) ≤ (c : Nat) := by omega
  have hcn : ¬ ((c : Nat) : Int) = (h : Nat) := by omega
  have hcn2 : ¬ c = h := by omega
  have hmc' : (l.length : Int) ≤ (c : Nat) := by omega
  clear hh ih h2 hb0 hu
  go_enter Tryz.func107, Tryz.ntmps107
  go_wp2_with fail
  refine (Ih.out (l.take h) _ _ Hl1.out HS1.out).mono ?_
  rintro e w1 ⟨v1, rfl, hs1, hb1⟩
  have HT1 : Hid (SlQ w.heap.size d w1 (kyd (cmpQ d) k (l.take h)) v1) := hs1
  clear hs1
  go_wp2_with fail
  refine (Ih.out (l.drop h) _ _ Hl2.out (HS2.out.keeps hb1)).mono ?_
  rintro e w2 ⟨v2, rfl, hs2, hg2⟩
  have hb2 : Below w.heap.size w w2 := hb1.trans (hg2.mono hb1.size)
  have HU1 : Hid (SlQ 0 d w2 (kyd (cmpQ d) k (l.take h)) v1) := (HT1.out.keeps hg2).mono (Nat.zero_le _)
  have HU2 : Hid (SlQ 0 d w2 (kyd (cmpQ d) k (l.drop h)) v2) := hs2.mono (Nat.zero_le _)
  clear hs2 hg2 HT1 HS1 HS2 Hl1 Hl2 Ih
  generalize kyd (cmpQ d) k (l.take h) = ps at *
  generalize kyd (cmpQ d) k (l.drop h) = qs at *
  obtain ⟨ba, oa, ca, rfl, hcA, hra, hsa⟩ := SlQ.full HU1.out He1.out
  obtain ⟨bb, ob, cb, rfl, hcC, hrb, hsb⟩ := SlQ.full HU2.out He2.out
  obtain ⟨B, hB⟩ : ∃ B, B = w2.heap.size := ⟨_, rfl⟩
  have HB : Hid (B = w2.heap.size) := hB
  have hBl : B ≤ w2.heap.size := by omega
  have HM0 : Hid (Msk d B w2 (cmpQ d) (mrgK (cmpQ d) ps qs) w2 ps.length qs.length 0 ba oa ca bb ob cb (.slice none 0 0) ps qs []) :=
   ⟨rfl, rfl, rfl, hcA, hcC, hra, hrb, hsa, hsb, rfl, World.ownsRow_nil _ _ _ _, Below.refl _ _, by have := Hn1.out; have := Hn2.out; omega⟩
  have HGR : Hid (∀ p ∈ mrgK (cmpQ d) ps qs, GoodQ d w2 p) := fun p hp => (mrgK_mem (cmpQ d) _ ps qs (Nat.le_refl _) p hp).elim (hsa p) (hsb p)
  have HRl : Hid ((mrgK (cmpQ d) ps qs).length ≤ 65536) := by show _ ≤ _; have := mrgK_len (cmpQ d) _ ps qs (Nat.le_refl _); have := Hn1.out; have := Hn2.out; omega
  have HZQ : Hid (∀ x y : PP, cmpQ d x y = cmpV d x.1.1 y.1.1) := fun _ _ => rfl
  have Hc : Hid _ := fun (t s : VT) (x y : Value) (W : World) h1 h2 => ref_any d t s x y W h1 h2
  clear hcA hcC hra hrb hsa hsb HU1 HU2 Hn1 Hn2 hB He1 He2
  generalize mrgK (cmpQ d) ps qs = R at *
  generalize cmpQ d = g at *
  generalize ps.length = nx0 at *
  generalize qs.length = ny0 at *
  go_wp2_with fail
  go_loopg [4, 5, 6] (nx0 + ny0) (fun k va vb vo wr => ∃ (nx ny no ba oa ca bb ob cb : Nat) (xs' ys' ds : List PP), va = .slice (some ⟨ba, oa, none⟩) nx ca ∧ vb = .slice (some ⟨bb, ob, none⟩) ny cb ∧ k = nx + ny ∧ Hid (Msk d B w2 g R wr nx ny no ba oa ca bb ob cb vo xs' ys' ds))
  case atStart => exact ⟨nx0, ny0, 0, ba, oa, ca, bb, ob, cb, ps, qs, [], rfl, rfl, rfl, HM0⟩
  case round =>
   clear HM0
   obtain ⟨nx, ny, no, ba, oa, ca, bb, ob, cb, xs', ys', ds, rfl, rfl, hk, HM⟩ := hrel
   have Hk : Hid _ := hk
   clear hk
   have hsum := HM.out.sum
   have hbw2 : Below w2.heap.size w2 wr := by have := HM.out.below; rwa [HB.out] at this
   have hwl2 : w2.heap.size ≤ wr.heap.size := hbw2.size
   by_cases hx : 0 < nx
   ·by_cases hy : 0 < ny
    ·obtain ⟨x, xs'', rfl⟩ : ∃ x l, xs' = x :: l := by
      cases xs' with
      | nil => have := HM.out.ex; simp at this; omega
      | cons x l => exact ⟨x, l, rfl⟩
     obtain ⟨y, ys'', rfl⟩ : ∃ x l, ys' = x :: l := by
      cases ys' with
      | nil => have := HM.out.ey; simp at this; omega
      | cons x l => exact ⟨x, l, rfl⟩
     have Gx := HM.out.gx x List.mem_cons_self
     have Gy := HM.out.gy y List.mem_cons_self
     have Ex := HM.out.rx.head.keeps hbw2
     have Ey := HM.out.ry.head.keeps hbw2
     obtain ⟨⟨t1, tv1⟩, ⟨t2, tv2⟩⟩ := x
     obtain ⟨⟨s1, sv1⟩, ⟨s2, sv2⟩⟩ := y
     obtain ⟨ta, tc, et1, _⟩ := Lies.slice Gx.1.1
     obtain ⟨tb, td, et2, _⟩ := Lies.slice Gx.2.1
     obtain ⟨sa, sc, es1, _⟩ := Lies.slice Gy.1.1
     obtain ⟨sb, sd, es2, _⟩ := Lies.slice Gy.2.1
     simp only at et1 et2 es1 es2
     subst et1 et2 es1 es2
     obtain ⟨p0, p1, p2, p3, p4, p5, p6, p7⟩ := Ex
     obtain ⟨r0, r1, r2, r3, r4, r5, r6, r7⟩ := Ey
     simp only at p0 p1 p2 p3 p4 p5 p6 p7 r0 r1 r2 r3 r4 r5 r6 r7
     have HX : Hid (Lies d w2 t1.items (.slice ta t1.items.length tc)) := Gx.1.1
     have HY : Hid (Lies d w2 s1.items (.slice sa s1.items.length sc)) := Gy.1.1
     have hla : ba < w2.heap.size := cell_lt HM.out.rx.head.1
     have hlb : bb < w2.heap.size := cell_lt HM.out.ry.head.1
     have hxi : (0 : Int) < (nx : Nat) := by omega
     have hyi : (0 : Int) < (ny : Nat) := by omega
     clear Gx Gy
     go_wp2_with fail
     go_region_held3 (fun w' => (w'.cell? ⟨ba, oa, none⟩ = some (.int .i64 t1.kind) ∧ w'.cell? ⟨ba, oa + 1, none⟩ = some (.int .i64 t1.num) ∧ w'.cell? ⟨ba, oa + 2, none⟩ = some (.string t1.text) ∧ w'.cell? ⟨ba, oa + 3, none⟩ = some (.slice ta t1.items.length tc)) ∧ (w'.cell? ⟨bb, ob, none⟩ = some (.int .i64 s1.kind) ∧ w'.cell? ⟨bb, ob + 1, none⟩ = some (.int .i64 s1.num) ∧ w'.cell? ⟨bb, ob + 2, none⟩ = some (.string s1.text) ∧ w'.cell? ⟨bb, ob + 3, none⟩ = some (.slice sa s1.items.length sc))) (go_keep)
      (first | (go_at_call 100; refine (Hc.out t1 s1 _ _ _ (Lies.keeps hbw2.drew _ _ _ HX.out) (Lies.keeps hbw2.drew _ _ _ HY.out)).mono ?_; rintro e WW ⟨rfl, hg1⟩; have hb1' : Below wr.heap.size wr WW := (Below.refl _ _).drew.trans hg1; have hbW2 : Below w2.heap.size w2 WW := hbw2.trans (hb1'.mono hwl2); clear hg1; have p0 := cell_keeps hb1' p0; have r0 := cell_keeps hb1' r0; have p1 := cell_keeps hb1' p1; have r1 := cell_keeps hb1' r1; have p2 := cell_keeps hb1' p2; have r2 := cell_keeps hb1' r2; have p3 := cell_keeps hb1' p3; have r3 := cell_keeps hb1' r3; have p4 := cell_keeps hb1' p4; have r4 := cell_keeps hb1' r4; have p5 := cell_keeps hb1' p5; have r5 := cell_keeps hb1' r5; have p6 := cell_keeps hb1' p6; have r6 := cell_keeps hb1' r6; have p7 := cell_keeps hb1' p7; have r7 := cell_keeps hb1' r7))
     have hbW : Below B w2 WW := by rw [HB.out]; exact hbW2
     have hwW : w2.heap.size ≤ WW.heap.size := hbW2.size
     have hwl : B ≤ WW.heap.size := by omega
     have hlaW : ba < WW.heap.size := by omega
     have hlbW : bb < WW.heap.size := by omega
     have Hown : Hid (WW.ownsRow B 69 8 u6 no (ds.flatMap encQ)) := own_keeps HM.out.own hb1'
     have hZ : g (((t1, .slice ta t1.items.length tc), (t2, .slice tb t2.items.length td)) : PP) (((s1, .slice sa s1.items.length sc), (s2, .slice sb s2.items.length sd)) : PP) = cmpV d t1 s1 := HZQ.out _ _
     generalize cmpV d t1 s1 = Z at *
     have HZ : Hid (g (((t1, .slice ta t1.items.length tc), (t2, .slice tb t2.items.length td)) : PP) (((s1, .slice sa s1.items.length sc), (s2, .slice sb s2.items.length sd)) : PP) = Z) := hZ
     clear hZ hb1'
     by_cases hlt : Z < 0
     ·have HZ1 : Hid (Z < 0) := hlt
      have h1ix : (1 : Int) ≤ (nx : Nat) := by omega
      have h1cx : ((1 : Nat) : Int) ≤ (ca : Nat) := by have := HM.out.cx; omega
      have h1nx : 1 ≤ nx := by omega
      have hncx : nx ≤ ca := HM.out.cx
      have hncix : (nx : Int) ≤ (ca : Nat) := by omega
      by_cases hcapx : ca = 1
      ·have hn1x : nx = 1 := by omega
       have HN : Hid (∀ (v' : Value) (W : World), W.ownsRow B 69 8 v' (no + 1) ((ds ++ [(((t1, .slice ta t1.items.length tc), (t2, .slice tb t2.items.length td)) : PP)]).flatMap encQ) → Below B w2 W → Msk d B w2 g R W (nx - 1) ny (no + 1) ba (oa) (ca - 1) bb (ob) cb v' xs'' ((((s1, .slice sa s1.items.length sc), (s2, .slice sb s2.items.length sd)) : PP) :: ys'') (ds ++ [(((t1, .slice ta t1.items.length tc), (t2, .slice tb t2.items.length td)) : PP)])) := fun v' W k1 k2 => Msk.stepX HM.out HZ.out HZ1.out (oa) (.inl hn1x) k1 k2
       subst hcapx hn1x
       go_wp2_with (first
        | (at_builtin; refine wpList_append_own _ rfl _ _ 22 rfl B 69 i0 (.agg #[.int .i64 0, .int .i64 0, .string ⟨#[]⟩, .slice none 0 0, .int .i64 0, .int .i64 0, .string ⟨#[]⟩, .slice none 0 0]) 8 112 Tryz.underlying22 Hi.out Hz0.out Hz1.out Hz2.out rfl (by decide) _ _ _ rfl (Hown.out.alloc _) ⟨WW.heap.size, 0, none⟩ 1 1 [.int .i64 t1.kind, .int .i64 t1.num, .string t1.text, .slice ta t1.items.length tc, .int .i64 t2.kind, .int .i64 t2.num, .string t2.text, .slice tb t2.items.length td] rfl rfl (fun q u hq => by match q, hq with | 0, hq => (simp at hq; subst hq; simp [Addr.add]) | 1, hq => (simp at hq; subst hq; simp [Addr.add]) | 2, hq => (simp at hq; subst hq; simp [Addr.add]) | 3, hq => (simp at hq; subst hq; simp [Addr.add]) | 4, hq => (simp at hq; subst hq; simp [Addr.add]) | 5, hq => (simp at hq; subst hq; simp [Addr.add]) | 6, hq => (simp at hq; subst hq; simp [Addr.add]) | 7, hq => (simp at hq; subst hq; simp [Addr.add]) | q + 8, hq => simp at hq) (fun u hu => by simp at hu; rcases hu with rfl | rfl | rfl | rfl | rfl | rfl | rfl | rfl <;> rfl) (by unfold maxLen; omega) (by omega) (by simp; omega) ?_; intro v' w9 hown' hgrow _))
       have hb9 : Below B w2 w9 := own_growM (hbW.alloc hwl _) (by simp; omega) (Hown.out.alloc _) hgrow
       have HN3 : Hid _ := HN.out v' w9 (by simpa [encQ, encP, List.flatMap_append] using hown') hb9
       clear hown' hgrow Hown HN
       go_wp2_with fail
       go_roundg ((1 - 1) + (ny))
       case measure => have := Hk.out; omega
       case rel => exact ⟨1 - 1, ny, no + 1, ba, oa, 1 - 1, bb, ob, cb, _, _, _, by go_num, rfl, by omega, HN3⟩
      ·have HN : Hid (∀ (v' : Value) (W : World), W.ownsRow B 69 8 v' (no + 1) ((ds ++ [(((t1, .slice ta t1.items.length tc), (t2, .slice tb t2.items.length td)) : PP)]).flatMap encQ) → Below B w2 W → Msk d B w2 g R W (nx - 1) ny (no + 1) ba (oa + 8) (ca - 1) bb (ob) cb v' xs'' ((((s1, .slice sa s1.items.length sc), (s2, .slice sb s2.items.length sd)) : PP) :: ys'') (ds ++ [(((t1, .slice ta t1.items.length tc), (t2, .slice tb t2.items.length td)) : PP)])) := fun v' W k1 k2 => Msk.stepX HM.out HZ.out HZ1.out (oa + 8) (.inr rfl) k1 k2
       have hcapx' : ¬ ((ca : Nat) : Int) = 1 := by omega
       go_wp2_with (first
        | (at_builtin; refine wpList_append_own _ rfl _ _ 22 rfl B 69 i0 (.agg #[.int .i64 0, .int .i64 0, .string ⟨#[]⟩, .slice none 0 0, .int .i64 0, .int .i64 0, .string ⟨#[]⟩, .slice none 0 0]) 8 112 Tryz.underlying22 Hi.out Hz0.out Hz1.out Hz2.out rfl (by decide) _ _ _ rfl (Hown.out.alloc _) ⟨WW.heap.size, 0, none⟩ 1 1 [.int .i64 t1.kind, .int .i64 t1.num, .string t1.text, .slice ta t1.items.length tc, .int .i64 t2.kind, .int .i64 t2.num, .string t2.text, .slice tb t2.items.length td] rfl rfl (fun q u hq => by match q, hq with | 0, hq => (simp at hq; subst hq; simp [Addr.add]) | 1, hq => (simp at hq; subst hq; simp [Addr.add]) | 2, hq => (simp at hq; subst hq; simp [Addr.add]) | 3, hq => (simp at hq; subst hq; simp [Addr.add]) | 4, hq => (simp at hq; subst hq; simp [Addr.add]) | 5, hq => (simp at hq; subst hq; simp [Addr.add]) | 6, hq => (simp at hq; subst hq; simp [Addr.add]) | 7, hq => (simp at hq; subst hq; simp [Addr.add]) | q + 8, hq => simp at hq) (fun u hu => by simp at hu; rcases hu with rfl | rfl | rfl | rfl | rfl | rfl | rfl | rfl <;> rfl) (by unfold maxLen; omega) (by omega) (by simp; omega) ?_; intro v' w9 hown' hgrow _))
       have hb9 : Below B w2 w9 := own_growM (hbW.alloc hwl _) (by simp; omega) (Hown.out.alloc _) hgrow
       have HN3 : Hid _ := HN.out v' w9 (by simpa [encQ, encP, List.flatMap_append] using hown') hb9
       clear hown' hgrow Hown HN
       go_wp2_with fail
       go_roundg ((nx - 1) + (ny))
       case measure => have := Hk.out; omega
       case rel => exact ⟨nx - 1, ny, no + 1, ba, oa + 8, ca - 1, bb, ob, cb, _, _, _, by go_num, rfl, by omega, HN3⟩
     ·by_cases heq : Z = 0
      ·have HZ1 : Hid (Z = 0) := heq
       subst heq
       have h1ix : (1 : Int) ≤ (nx : Nat) := by omega
       have h1cx : ((1 : Nat) : Int) ≤ (ca : Nat) := by have := HM.out.cx; omega
       have h1nx : 1 ≤ nx := by omega
       have hncx : nx ≤ ca := HM.out.cx
       have hncix : (nx : Int) ≤ (ca : Nat) := by omega
       have h1iy : (1 : Int) ≤ (ny : Nat) := by omega
       have h1cy : ((1 : Nat) : Int) ≤ (cb : Nat) := by have := HM.out.cy; omega
       have h1ny : 1 ≤ ny := by omega
       have hncy : ny ≤ cb := HM.out.cy
       have hnciy : (ny : Int) ≤ (cb : Nat) := by omega
       by_cases hcapx : ca = 1
       ·by_cases hcapy : cb = 1
        ·have hn1x : nx = 1 := by omega
         have hn1y : ny = 1 := by omega
         have HN : Hid (∀ (v' : Value) (W : World), W.ownsRow B 69 8 v' (no + 1) ((ds ++ [(((s1, .slice sa s1.items.length sc), (s2, .slice sb s2.items.length sd)) : PP)]).flatMap encQ) → Below B w2 W → Msk d B w2 g R W (nx - 1) (ny - 1) (no + 1) ba (oa) (ca - 1) bb (ob) (cb - 1) v' xs'' ys'' (ds ++ [(((s1, .slice sa s1.items.length sc), (s2, .slice sb s2.items.length sd)) : PP)])) := fun v' W k1 k2 => Msk.stepB HM.out HZ.out HZ1.out (oa) (.inl hn1x) (ob) (.inl hn1y) k1 k2
         subst hcapx hn1x hcapy hn1y
         go_wp2_with (first
          | (at_builtin; refine wpList_append_own _ rfl _ _ 22 rfl B 69 i0 (.agg #[.int .i64 0, .int .i64 0, .string ⟨#[]⟩, .slice none 0 0, .int .i64 0, .int .i64 0, .string ⟨#[]⟩, .slice none 0 0]) 8 112 Tryz.underlying22 Hi.out Hz0.out Hz1.out Hz2.out rfl (by decide) _ _ _ rfl (Hown.out.alloc _) ⟨WW.heap.size, 0, none⟩ 1 1 [.int .i64 s1.kind, .int .i64 s1.num, .string s1.text, .slice sa s1.items.length sc, .int .i64 s2.kind, .int .i64 s2.num, .string s2.text, .slice sb s2.items.length sd] rfl rfl (fun q u hq => by match q, hq with | 0, hq => (simp at hq; subst hq; simp [Addr.add]) | 1, hq => (simp at hq; subst hq; simp [Addr.add]) | 2, hq => (simp at hq; subst hq; simp [Addr.add]) | 3, hq => (simp at hq; subst hq; simp [Addr.add]) | 4, hq => (simp at hq; subst hq; simp [Addr.add]) | 5, hq => (simp at hq; subst hq; simp [Addr.add]) | 6, hq => (simp at hq; subst hq; simp [Addr.add]) | 7, hq => (simp at hq; subst hq; simp [Addr.add]) | q + 8, hq => simp at hq) (fun u hu => by simp at hu; rcases hu with rfl | rfl | rfl | rfl | rfl | rfl | rfl | rfl <;> rfl) (by unfold maxLen; omega) (by omega) (by simp; omega) ?_; intro v' w9 hown' hgrow _))
         have hb9 : Below B w2 w9 := own_growM (hbW.alloc hwl _) (by simp; omega) (Hown.out.alloc _) hgrow
         have HN3 : Hid _ := HN.out v' w9 (by simpa [encQ, encP, List.flatMap_append] using hown') hb9
         clear hown' hgrow Hown HN
         go_wp2_with fail
         go_roundg ((1 - 1) + (1 - 1))
         case measure => have := Hk.out; omega
         case rel => exact ⟨1 - 1, 1 - 1, no + 1, ba, oa, 1 - 1, bb, ob, 1 - 1, _, _, _, by go_num, by go_num, by omega, HN3⟩
        ·have hn1x : nx = 1 := by omega
         have HN : Hid (∀ (v' : Value) (W : World), W.ownsRow B 69 8 v' (no + 1) ((ds ++ [(((s1, .slice sa s1.items.length sc), (s2, .slice sb s2.items.length sd)) : PP)]).flatMap encQ) → Below B w2 W → Msk d B w2 g R W (nx - 1) (ny - 1) (no + 1) ba (oa) (ca - 1) bb (ob + 8) (cb - 1) v' xs'' ys'' (ds ++ [(((s1, .slice sa s1.items.length sc), (s2, .slice sb s2.items.length sd)) : PP)])) := fun v' W k1 k2 => Msk.stepB HM.out HZ.out HZ1.out (oa) (.inl hn1x) (ob + 8) (.inr rfl) k1 k2
         subst hcapx hn1x
         have hcapy' : ¬ ((cb : Nat) : Int) = 1 := by omega
         go_wp2_with (first
          | (at_builtin; refine wpList_append_own _ rfl _ _ 22 rfl B 69 i0 (.agg #[.int .i64 0, .int .i64 0, .string ⟨#[]⟩, .slice none 0 0, .int .i64 0, .int .i64 0, .string ⟨#[]⟩, .slice none 0 0]) 8 112 Tryz.underlying22 Hi.out Hz0.out Hz1.out Hz2.out rfl (by decide) _ _ _ rfl (Hown.out.alloc _) ⟨WW.heap.size, 0, none⟩ 1 1 [.int .i64 s1.kind, .int .i64 s1.num, .string s1.text, .slice sa s1.items.length sc, .int .i64 s2.kind, .int .i64 s2.num, .string s2.text, .slice sb s2.items.length sd] rfl rfl (fun q u hq => by match q, hq with | 0, hq => (simp at hq; subst hq; simp [Addr.add]) | 1, hq => (simp at hq; subst hq; simp [Addr.add]) | 2, hq => (simp at hq; subst hq; simp [Addr.add]) | 3, hq => (simp at hq; subst hq; simp [Addr.add]) | 4, hq => (simp at hq; subst hq; simp [Addr.add]) | 5, hq => (simp at hq; subst hq; simp [Addr.add]) | 6, hq => (simp at hq; subst hq; simp [Addr.add]) | 7, hq => (simp at hq; subst hq; simp [Addr.add]) | q + 8, hq => simp at hq) (fun u hu => by simp at hu; rcases hu with rfl | rfl | rfl | rfl | rfl | rfl | rfl | rfl <;> rfl) (by unfold maxLen; omega) (by omega) (by simp; omega) ?_; intro v' w9 hown' hgrow _))
         have hb9 : Below B w2 w9 := own_growM (hbW.alloc hwl _) (by simp; omega) (Hown.out.alloc _) hgrow
         have HN3 : Hid _ := HN.out v' w9 (by simpa [encQ, encP, List.flatMap_append] using hown') hb9
         clear hown' hgrow Hown HN
         go_wp2_with fail
         go_roundg ((1 - 1) + (ny - 1))
         case measure => have := Hk.out; omega
         case rel => exact ⟨1 - 1, ny - 1, no + 1, ba, oa, 1 - 1, bb, ob + 8, cb - 1, _, _, _, by go_num, by go_num, by omega, HN3⟩
       ·by_cases hcapy : cb = 1
        ·have hn1y : ny = 1 := by omega
         have HN : Hid (∀ (v' : Value) (W : World), W.ownsRow B 69 8 v' (no + 1) ((ds ++ [(((s1, .slice sa s1.items.length sc), (s2, .slice sb s2.items.length sd)) : PP)]).flatMap encQ) → Below B w2 W → Msk d B w2 g R W (nx - 1) (ny - 1) (no + 1) ba (oa + 8) (ca - 1) bb (ob) (cb - 1) v' xs'' ys'' (ds ++ [(((s1, .slice sa s1.items.length sc), (s2, .slice sb s2.items.length sd)) : PP)])) := fun v' W k1 k2 => Msk.stepB HM.out HZ.out HZ1.out (oa + 8) (.inr rfl) (ob) (.inl hn1y) k1 k2
         subst hcapy hn1y
         have hcapx' : ¬ ((ca : Nat) : Int) = 1 := by omega
         go_wp2_with (first
          | (at_builtin; refine wpList_append_own _ rfl _ _ 22 rfl B 69 i0 (.agg #[.int .i64 0, .int .i64 0, .string ⟨#[]⟩, .slice none 0 0, .int .i64 0, .int .i64 0, .string ⟨#[]⟩, .slice none 0 0]) 8 112 Tryz.underlying22 Hi.out Hz0.out Hz1.out Hz2.out rfl (by decide) _ _ _ rfl (Hown.out.alloc _) ⟨WW.heap.size, 0, none⟩ 1 1 [.int .i64 s1.kind, .int .i64 s1.num, .string s1.text, .slice sa s1.items.length sc, .int .i64 s2.kind, .int .i64 s2.num, .string s2.text, .slice sb s2.items.length sd] rfl rfl (fun q u hq => by match q, hq with | 0, hq => (simp at hq; subst hq; simp [Addr.add]) | 1, hq => (simp at hq; subst hq; simp [Addr.add]) | 2, hq => (simp at hq; subst hq; simp [Addr.add]) | 3, hq => (simp at hq; subst hq; simp [Addr.add]) | 4, hq => (simp at hq; subst hq; simp [Addr.add]) | 5, hq => (simp at hq; subst hq; simp [Addr.add]) | 6, hq => (simp at hq; subst hq; simp [Addr.add]) | 7, hq => (simp at hq; subst hq; simp [Addr.add]) | q + 8, hq => simp at hq) (fun u hu => by simp at hu; rcases hu with rfl | rfl | rfl | rfl | rfl | rfl | rfl | rfl <;> rfl) (by unfold maxLen; omega) (by omega) (by simp; omega) ?_; intro v' w9 hown' hgrow _))
         have hb9 : Below B w2 w9 := own_growM (hbW.alloc hwl _) (by simp; omega) (Hown.out.alloc _) hgrow
         have HN3 : Hid _ := HN.out v' w9 (by simpa [encQ, encP, List.flatMap_append] using hown') hb9
         clear hown' hgrow Hown HN
         go_wp2_with fail
         go_roundg ((nx - 1) + (1 - 1))
         case measure => have := Hk.out; omega
         case rel => exact ⟨nx - 1, 1 - 1, no + 1, ba, oa + 8, ca - 1, bb, ob, 1 - 1, _, _, _, by go_num, by go_num, by omega, HN3⟩
        ·have HN : Hid (∀ (v' : Value) (W : World), W.ownsRow B 69 8 v' (no + 1) ((ds ++ [(((s1, .slice sa s1.items.length sc), (s2, .slice sb s2.items.length sd)) : PP)]).flatMap encQ) → Below B w2 W → Msk d B w2 g R W (nx - 1) (ny - 1) (no + 1) ba (oa + 8) (ca - 1) bb (ob + 8) (cb - 1) v' xs'' ys'' (ds ++ [(((s1, .slice sa s1.items.length sc), (s2, .slice sb s2.items.length sd)) : PP)])) := fun v' W k1 k2 => Msk.stepB HM.out HZ.out HZ1.out (oa + 8) (.inr rfl) (ob + 8) (.inr rfl) k1 k2
         have hcapx' : ¬ ((ca : Nat) : Int) = 1 := by omega
         have hcapy' : ¬ ((cb : Nat) : Int) = 1 := by omega
         go_wp2_with (first
          | (at_builtin; refine wpList_append_own _ rfl _ _ 22 rfl B 69 i0 (.agg #[.int .i64 0, .int .i64 0, .string ⟨#[]⟩, .slice none 0 0, .int .i64 0, .int .i64 0, .string ⟨#[]⟩, .slice none 0 0]) 8 112 Tryz.underlying22 Hi.out Hz0.out Hz1.out Hz2.out rfl (by decide) _ _ _ rfl (Hown.out.alloc _) ⟨WW.heap.size, 0, none⟩ 1 1 [.int .i64 s1.kind, .int .i64 s1.num, .string s1.text, .slice sa s1.items.length sc, .int .i64 s2.kind, .int .i64 s2.num, .string s2.text, .slice sb s2.items.length sd] rfl rfl (fun q u hq => by match q, hq with | 0, hq => (simp at hq; subst hq; simp [Addr.add]) | 1, hq => (simp at hq; subst hq; simp [Addr.add]) | 2, hq => (simp at hq; subst hq; simp [Addr.add]) | 3, hq => (simp at hq; subst hq; simp [Addr.add]) | 4, hq => (simp at hq; subst hq; simp [Addr.add]) | 5, hq => (simp at hq; subst hq; simp [Addr.add]) | 6, hq => (simp at hq; subst hq; simp [Addr.add]) | 7, hq => (simp at hq; subst hq; simp [Addr.add]) | q + 8, hq => simp at hq) (fun u hu => by simp at hu; rcases hu with rfl | rfl | rfl | rfl | rfl | rfl | rfl | rfl <;> rfl) (by unfold maxLen; omega) (by omega) (by simp; omega) ?_; intro v' w9 hown' hgrow _))
         have hb9 : Below B w2 w9 := own_growM (hbW.alloc hwl _) (by simp; omega) (Hown.out.alloc _) hgrow
         have HN3 : Hid _ := HN.out v' w9 (by simpa [encQ, encP, List.flatMap_append] using hown') hb9
         clear hown' hgrow Hown HN
         go_wp2_with fail
         go_roundg ((nx - 1) + (ny - 1))
         case measure => have := Hk.out; omega
         case rel => exact ⟨nx - 1, ny - 1, no + 1, ba, oa + 8, ca - 1, bb, ob + 8, cb - 1, _, _, _, by go_num, by go_num, by omega, HN3⟩
      ·have HZ1 : Hid (0 < Z) := by show _ < _; omega
       have hzz : (Z == 0) = false := by simpa using heq
       have h1iy : (1 : Int) ≤ (ny : Nat) := by omega
       have h1cy : ((1 : Nat) : Int) ≤ (cb : Nat) := by have := HM.out.cy; omega
       have h1ny : 1 ≤ ny := by omega
       have hncy : ny ≤ cb := HM.out.cy
       have hnciy : (ny : Int) ≤ (cb : Nat) := by omega
       by_cases hcapy : cb = 1
       ·have hn1y : ny = 1 := by omega
        have HN : Hid (∀ (v' : Value) (W : World), W.ownsRow B 69 8 v' (no + 1) ((ds ++ [(((s1, .slice sa s1.items.length sc), (s2, .slice sb s2.items.length sd)) : PP)]).flatMap encQ) → Below B w2 W → Msk d B w2 g R W nx (ny - 1) (no + 1) ba (oa) ca bb (ob) (cb - 1) v' ((((t1, .slice ta t1.items.length tc), (t2, .slice tb t2.items.length td)) : PP) :: xs'') ys'' (ds ++ [(((s1, .slice sa s1.items.length sc), (s2, .slice sb s2.items.length sd)) : PP)])) := fun v' W k1 k2 => Msk.stepY HM.out HZ.out HZ1.out (ob) (.inl hn1y) k1 k2
        subst hcapy hn1y
        go_wp2_with (first
         | (at_builtin; refine wpList_append_own _ rfl _ _ 22 rfl B 69 i0 (.agg #[.int .i64 0, .int .i64 0, .string ⟨#[]⟩, .slice none 0 0, .int .i64 0, .int .i64 0, .string ⟨#[]⟩, .slice none 0 0]) 8 112 Tryz.underlying22 Hi.out Hz0.out Hz1.out Hz2.out rfl (by decide) _ _ _ rfl (Hown.out.alloc _) ⟨WW.heap.size, 0, none⟩ 1 1 [.int .i64 s1.kind, .int .i64 s1.num, .string s1.text, .slice sa s1.items.length sc, .int .i64 s2.kind, .int .i64 s2.num, .string s2.text, .slice sb s2.items.length sd] rfl rfl (fun q u hq => by match q, hq with | 0, hq => (simp at hq; subst hq; simp [Addr.add]) | 1, hq => (simp at hq; subst hq; simp [Addr.add]) | 2, hq => (simp at hq; subst hq; simp [Addr.add]) | 3, hq => (simp at hq; subst hq; simp [Addr.add]) | 4, hq => (simp at hq; subst hq; simp [Addr.add]) | 5, hq => (simp at hq; subst hq; simp [Addr.add]) | 6, hq => (simp at hq; subst hq; simp [Addr.add]) | 7, hq => (simp at hq; subst hq; simp [Addr.add]) | q + 8, hq => simp at hq) (fun u hu => by simp at hu; rcases hu with rfl | rfl | rfl | rfl | rfl | rfl | rfl | rfl <;> rfl) (by unfold maxLen; omega) (by omega) (by simp; omega) ?_; intro v' w9 hown' hgrow _))
        have hb9 : Below B w2 w9 := own_growM (hbW.alloc hwl _) (by simp; omega) (Hown.out.alloc _) hgrow
        have HN3 : Hid _ := HN.out v' w9 (by simpa [encQ, encP, List.flatMap_append] using hown') hb9
        clear hown' hgrow Hown HN
        go_wp2_with fail
        go_roundg ((nx) + (1 - 1))
        case measure => have := Hk.out; omega
        case rel => exact ⟨nx, 1 - 1, no + 1, ba, oa, ca, bb, ob, 1 - 1, _, _, _, rfl, by go_num, by omega, HN3⟩
       ·have HN : Hid (∀ (v' : Value) (W : World), W.ownsRow B 69 8 v' (no + 1) ((ds ++ [(((s1, .slice sa s1.items.length sc), (s2, .slice sb s2.items.length sd)) : PP)]).flatMap encQ) → Below B w2 W → Msk d B w2 g R W nx (ny - 1) (no + 1) ba (oa) ca bb (ob + 8) (cb - 1) v' ((((t1, .slice ta t1.items.length tc), (t2, .slice tb t2.items.length td)) : PP) :: xs'') ys'' (ds ++ [(((s1, .slice sa s1.items.length sc), (s2, .slice sb s2.items.length sd)) : PP)])) := fun v' W k1 k2 => Msk.stepY HM.out HZ.out HZ1.out (ob + 8) (.inr rfl) k1 k2
        have hcapy' : ¬ ((cb : Nat) : Int) = 1 := by omega
        go_wp2_with (first
         | (at_builtin; refine wpList_append_own _ rfl _ _ 22 rfl B 69 i0 (.agg #[.int .i64 0, .int .i64 0, .string ⟨#[]⟩, .slice none 0 0, .int .i64 0, .int .i64 0, .string ⟨#[]⟩, .slice none 0 0]) 8 112 Tryz.underlying22 Hi.out Hz0.out Hz1.out Hz2.out rfl (by decide) _ _ _ rfl (Hown.out.alloc _) ⟨WW.heap.size, 0, none⟩ 1 1 [.int .i64 s1.kind, .int .i64 s1.num, .string s1.text, .slice sa s1.items.length sc, .int .i64 s2.kind, .int .i64 s2.num, .string s2.text, .slice sb s2.items.length sd] rfl rfl (fun q u hq => by match q, hq with | 0, hq => (simp at hq; subst hq; simp [Addr.add]) | 1, hq => (simp at hq; subst hq; simp [Addr.add]) | 2, hq => (simp at hq; subst hq; simp [Addr.add]) | 3, hq => (simp at hq; subst hq; simp [Addr.add]) | 4, hq => (simp at hq; subst hq; simp [Addr.add]) | 5, hq => (simp at hq; subst hq; simp [Addr.add]) | 6, hq => (simp at hq; subst hq; simp [Addr.add]) | 7, hq => (simp at hq; subst hq; simp [Addr.add]) | q + 8, hq => simp at hq) (fun u hu => by simp at hu; rcases hu with rfl | rfl | rfl | rfl | rfl | rfl | rfl | rfl <;> rfl) (by unfold maxLen; omega) (by omega) (by simp; omega) ?_; intro v' w9 hown' hgrow _))
        have hb9 : Below B w2 w9 := own_growM (hbW.alloc hwl _) (by simp; omega) (Hown.out.alloc _) hgrow
        have HN3 : Hid _ := HN.out v' w9 (by simpa [encQ, encP, List.flatMap_append] using hown') hb9
        clear hown' hgrow Hown HN
        go_wp2_with fail
        go_roundg ((nx) + (ny - 1))
        case measure => have := Hk.out; omega
        case rel => exact ⟨nx, ny - 1, no + 1, ba, oa, ca, bb, ob + 8, cb - 1, _, _, _, rfl, by go_num, by omega, HN3⟩
    ·have Hown0 : Hid (wr.ownsRow B 69 8 u6 no (ds.flatMap encQ)) := HM.out.own
     have hbw := HM.out.below
     have HR2 : Hid (R = ds ++ (xs' ++ ys')) := by
      show _ = _
      have e0 : ys' = [] := List.eq_nil_of_length_eq_zero (by have := HM.out.ey; omega)
      rw [← HM.out.eq, e0, mrgK_right, List.append_nil]
     have HA : Hid (∀ j u, (xs'.flatMap encQ)[j]? = some u → wr.cell? ((⟨ba, oa, none⟩ : Addr).add j) = some u) := fun j u hj => by rw [add_addr5]; exact (HM.out.rx.keeps hbw2) j u hj
     have HA1 : Hid (∀ u ∈ xs'.flatMap encQ, u.oneCell' = true) := fun u hu => by
      obtain ⟨p, hp, hu⟩ := List.mem_flatMap.1 hu
      exact encQ_one (HM.out.gx p hp) u hu
     have HB1 : Hid (∀ u ∈ ys'.flatMap encQ, u.oneCell' = true) := fun u hu => by
      obtain ⟨p, hp, hu⟩ := List.mem_flatMap.1 hu
      exact encQ_one (HM.out.gy p hp) u hu
     have HAL : Hid ((xs'.flatMap encQ).length = nx * 8) := by show _ = _; rw [flat_lenQ, HM.out.ex]
     have HBL : Hid ((ys'.flatMap encQ).length = ny * 8) := by show _ = _; rw [flat_lenQ, HM.out.ey]
     have hwl := hbw.size
     have hxi : (0 : Int) < (nx : Nat) := by omega
     have hyi : ¬ (0 : Int) < (ny : Nat) := by omega
     go_wp2_with (first
      | (at_builtin; refine wpList_append_own _ rfl _ _ 22 rfl B 69 i0 (.agg #[.int .i64 0, .int .i64 0, .string ⟨#[]⟩, .slice none 0 0, .int .i64 0, .int .i64 0, .string ⟨#[]⟩, .slice none 0 0]) 8 112 Tryz.underlying22 Hi.out Hz0.out Hz1.out Hz2.out rfl (by decide) _ _ _ rfl Hown1.out ⟨bb, ob, none⟩ ny cb (ys'.flatMap encQ) rfl HBL.out (fun j u hj => by rw [add_addr5]; exact (HM.out.ry.keeps hb1) j u hj) HB1.out (by unfold maxLen; omega) (by omega) (by omega) ?_; intro v2 w5 hown2 hgrow2 hnil2)
      | (at_builtin; refine wpList_append_own _ rfl _ _ 22 rfl B 69 i0 (.agg #[.int .i64 0, .int .i64 0, .string ⟨#[]⟩, .slice none 0 0, .int .i64 0, .int .i64 0, .string ⟨#[]⟩, .slice none 0 0]) 8 112 Tryz.underlying22 Hi.out Hz0.out Hz1.out Hz2.out rfl (by decide) _ _ _ rfl Hown0.out ⟨ba, oa, none⟩ nx ca (xs'.flatMap encQ) rfl HAL.out HA.out HA1.out (by unfold maxLen; omega) (by omega) (by omega) ?_; intro v1 w4 hown1 hgrow1 hnil1; have hb1 : Below w2.heap.size w2 w4 := own_growM hbw2 (by omega) (HB.out ▸ Hown0.out) hgrow1; have Hown1 : Hid (w4.ownsRow B 69 8 v1 (no + nx) (ds.flatMap encQ ++ xs'.flatMap encQ)) := hown1; have hwl4 : w2.heap.size ≤ w4.heap.size := hb1.size; clear hown1 hgrow1 hnil1))
     go_ret
     have hb2' : Below w2.heap.size w2 w5 := own_growM hb1 (by omega) (HB.out ▸ Hown1.out) hgrow2
     have hfl : ds.flatMap encQ ++ xs'.flatMap encQ ++ ys'.flatMap encQ = R.flatMap encQ := by rw [HR2.out, List.flatMap_append, List.flatMap_append, List.append_assoc]
     rw [hfl] at hown2
     have hRl : no + nx + ny = R.length := by rw [HR2.out, List.length_append, List.length_append, ← HM.out.ex, ← HM.out.ey, ← HM.out.eo, Nat.add_assoc]
     rw [hRl] at hown2
     have hlies := SlQ.of_own (d := d) (qs := R) rfl hown2 (fun p hp => (HGR.out p hp).keeps hb2') (by have := HRl.out; omega)
     exact ⟨_, rfl, by rw [Hr.out]; exact hlies.mono (by rw [HB.out]; exact hb2.size), hb2.trans (hb2'.mono hb2.size)⟩
   ·have Hown0 : Hid (wr.ownsRow B 69 8 u6 no (ds.flatMap encQ)) := HM.out.own
    have hbw := HM.out.below
    have HR2 : Hid (R = ds ++ (xs' ++ ys')) := by
     show _ = _
     have e0 : xs' = [] := List.eq_nil_of_length_eq_zero (by have := HM.out.ex; omega)
     rw [← HM.out.eq, e0, mrgK_left, List.nil_append]
    have HA : Hid (∀ j u, (xs'.flatMap encQ)[j]? = some u → wr.cell? ((⟨ba, oa, none⟩ : Addr).add j) = some u) := fun j u hj => by rw [add_addr5]; exact (HM.out.rx.keeps hbw2) j u hj
    have HA1 : Hid (∀ u ∈ xs'.flatMap encQ, u.oneCell' = true) := fun u hu => by
     obtain ⟨p, hp, hu⟩ := List.mem_flatMap.1 hu
     exact encQ_one (HM.out.gx p hp) u hu
    have HB1 : Hid (∀ u ∈ ys'.flatMap encQ, u.oneCell' = true) := fun u hu => by
     obtain ⟨p, hp, hu⟩ := List.mem_flatMap.1 hu
     exact encQ_one (HM.out.gy p hp) u hu
    have HAL : Hid ((xs'.flatMap encQ).length = nx * 8) := by show _ = _; rw [flat_lenQ, HM.out.ex]
    have HBL : Hid ((ys'.flatMap encQ).length = ny * 8) := by show _ = _; rw [flat_lenQ, HM.out.ey]
    have hwl := hbw.size
    have hxi : ¬ (0 : Int) < (nx : Nat) := by omega
    go_wp2_with (first
     | (at_builtin; refine wpList_append_own _ rfl _ _ 22 rfl B 69 i0 (.agg #[.int .i64 0, .int .i64 0, .string ⟨#[]⟩, .slice none 0 0, .int .i64 0, .int .i64 0, .string ⟨#[]⟩, .slice none 0 0]) 8 112 Tryz.underlying22 Hi.out Hz0.out Hz1.out Hz2.out rfl (by decide) _ _ _ rfl Hown1.out ⟨bb, ob, none⟩ ny cb (ys'.flatMap encQ) rfl HBL.out (fun j u hj => by rw [add_addr5]; exact (HM.out.ry.keeps hb1) j u hj) HB1.out (by unfold maxLen; omega) (by omega) (by omega) ?_; intro v2 w5 hown2 hgrow2 hnil2)
     | (at_builtin; refine wpList_append_own _ rfl _ _ 22 rfl B 69 i0 (.agg #[.int .i64 0, .int .i64 0, .string ⟨#[]⟩, .slice none 0 0, .int .i64 0, .int .i64 0, .string ⟨#[]⟩, .slice none 0 0]) 8 112 Tryz.underlying22 Hi.out Hz0.out Hz1.out Hz2.out rfl (by decide) _ _ _ rfl Hown0.out ⟨ba, oa, none⟩ nx ca (xs'.flatMap encQ) rfl HAL.out HA.out HA1.out (by unfold maxLen; omega) (by omega) (by omega) ?_; intro v1 w4 hown1 hgrow1 hnil1; have hb1 : Below w2.heap.size w2 w4 := own_growM hbw2 (by omega) (HB.out ▸ Hown0.out) hgrow1; have Hown1 : Hid (w4.ownsRow B 69 8 v1 (no + nx) (ds.flatMap encQ ++ xs'.flatMap encQ)) := hown1; have hwl4 : w2.heap.size ≤ w4.heap.size := hb1.size; clear hown1 hgrow1 hnil1))
    go_ret
    have hb2' : Below w2.heap.size w2 w5 := own_growM hb1 (by omega) (HB.out ▸ Hown1.out) hgrow2
    have hfl : ds.flatMap encQ ++ xs'.flatMap encQ ++ ys'.flatMap encQ = R.flatMap encQ := by rw [HR2.out, List.flatMap_append, List.flatMap_append, List.append_assoc]
    rw [hfl] at hown2
    have hRl : no + nx + ny = R.length := by rw [HR2.out, List.length_append, List.length_append, ← HM.out.ex, ← HM.out.ey, ← HM.out.eo, Nat.add_assoc]
    rw [hRl] at hown2
    have hlies := SlQ.of_own (d := d) (qs := R) rfl hown2 (fun p hp => (HGR.out p hp).keeps hb2') (by have := HRl.out; omega)
    exact ⟨_, rfl, by rw [Hr.out]; exact hlies.mono (by rw [HB.out]; exact hb2.size), hb2.trans (hb2'.mono hb2.size)⟩

theorem rkeyed_any (d : Nat) : ∀ (k : Nat) (l : List PP) (u : Value) (w : World), SlQ 0 d w l u → l.length ≤ 65536 → l.length ≤ k + 1 →
 Calls Tryz.prog 107 #[u] w fun e w' => ∃ v, e = .returned v ∧ SlQ w.heap.size d w' (kyd (cmpQ d) (k + 1) l) v ∧ Below w.heap.size w w' := by
 intro k
 induction k with
 | zero => intro l u w hu hlen hk; exact rkeyed_core d 0 l u w hu hlen (fun h => by omega)
 | succ k ih => intro l u w hu hlen hk; exact rkeyed_core d (k + 1) l u w hu hlen (fun _ m v W hm hv => ih m v W hv (by omega) (by omega))

end Go.Proofs.YtlnecfjnffdciaaGreat

