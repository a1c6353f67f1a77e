import Derived.Test.YtlnecfjnffdciaaGreatRKeyed
import Derived.Test.YtlnecfjnffdciaaGreatVMap
import Derived.Deep.AppendLies
namespace Go.Proofs.YtlnecfjnffdciaaGreat
open Go.RowKit

set_option maxRecDepth 100000 in
set_option maxHeartbeats 4000000 in
theorem paired_any (d : Nat) (qs : List PP) (u : Value) (w : World) (hu : SlQ 0 d w qs u) :
 Calls Tryz.prog 50 #[u] w fun e w' => e = .returned (.int .i64 (pErr d (qs.map trT))) ∧ Below w.heap.size w w' := by
 obtain ⟨a, c, rfl, hc0⟩ := hu.slice
 have HS : Hid (SlQ 0 d w qs (.slice a qs.length c)) := hu
 have hl63 : qs.length ≤ 9223372036854775807 := by obtain ⟨_, _, _, _, h, _⟩ := hu; exact h
 clear hu
 obtain ⟨ts, hts⟩ : ∃ ts, ts = qs.map trT := ⟨_, rfl⟩
 have Hts : Hid (ts = qs.map trT) := hts
 have Hlen : Hid (ts.length = qs.length) := by show _ = _; rw [hts, List.length_map]
 rw [← hts]
 clear hts
 generalize hL : qs.length = L at *
 have HqL : Hid (qs.length = L) := hL
 clear hL
 by_cases hlong : 65536 < L
 ·have hlong' : (65536 : Int) < (L : Int) := by omega
  have Hfin : Hid (pErr d ts = 2) := if_pos (by rw [Hlen.out]; exact hlong)
  clear hlong
  go_enter Tryz.func50, Tryz.ntmps50
  go_wp2_with fail
  go_ret
  exact ⟨ret_int Hfin.out.symm, Below.refl _ _⟩
 ·have hlong' : ¬ (65536 : Int) < (L : Int) := by omega
  have Hfin : Hid (pErr d ts = if ts.all (okP d) then 0 else 3) := if_neg (by rw [Hlen.out]; exact hlong)
  go_enter Tryz.func50, Tryz.ntmps50
  go_wp2_with fail
  go_loopg [10] L (fun z vi wr => ∃ j : Nat, vi = .int .i64 (j : Int) ∧ j ≤ L ∧ z = L - j ∧ Hid (ts.all (okP d) = (ts.drop j).all (okP d)) ∧ Below w.heap.size w wr)
  case atStart => exact ⟨0, rfl, by omega, by omega, rfl, Below.refl _ _⟩
  case round =>
   obtain ⟨j, rfl, hj, hk, Hc, hbw⟩ := hrel
   have Hk : Hid _ := hk
   clear hk
   have hws : w.heap.size ≤ wr.heap.size := hbw.size
   by_cases hjl : j < L
   ·have hji : (j : Int) < (L : Nat) := by omega
    have hjR : j < qs.length := by have := HqL.out; omega
    have hjT : j < ts.length := by have := Hlen.out; omega
    have hg0 := HS.out
    rw [← HqL.out] at hg0
    obtain ⟨b1, o1, c1', hv1, _, hq, _⟩ := hg0.full (fun e => by rw [e] at hjR; cases hjR)
    have ha1 : a = some ⟨b1, o1, none⟩ := by injection hv1
    subst ha1
    obtain ⟨x, hxe⟩ : ∃ x, x = qs[j] := ⟨_, rfl⟩
    have Gx : GoodQ d w x := hg0.good x (by rw [hxe]; exact List.getElem_mem hjR)
    have Ex := hq.at j hjR
    rw [← hxe] at Ex
    have hte : ts[j] = trT x := by rw [hxe]; simp [Hts.out]
    obtain ⟨⟨t1, tv1⟩, ⟨t2, tv2⟩⟩ := x
    obtain ⟨ta, tc, et1, _⟩ := Lies.slice Gx.1.1
    obtain ⟨tb, td, et2, _⟩ := Lies.slice Gx.2.1
    simp only at et1 et2
    subst et1 et2
    have hte2 : ts[j] = (t1, t2) := hte
    have Hd : Hid (ts.drop j = (t1, t2) :: ts.drop (j + 1)) := by show _ = _; rw [List.drop_eq_getElem_cons hjT, hte2]
    obtain ⟨p0, p1, p2, p3, p4, p5, p6, p7⟩ := Ex.keeps hbw
    simp only at p0 p1 p2 p3 p4 p5 p6 p7
    have hgr : b1 < wr.heap.size := cell_lt p0
    have hbA : Below w.heap.size w (wr.alloc (.cells #[.int .i64 t1.kind, .int .i64 t1.num, .string t1.text, .slice ta t1.items.length tc, .int .i64 t2.kind, .int .i64 t2.num, .string t2.text, .slice tb t2.items.length td] 69)) := hbw.alloc hws _
    have HL1 : Hid (Lies d w t1.items (.slice ta t1.items.length tc)) := Gx.1.1
    have HL2 : Hid (Lies d w t2.items (.slice tb t2.items.length td)) := Gx.2.1
    have Hok : Hid (okP d (t1, t2) = (rightV d t1 && rightV d t2)) := rfl
    clear hte2
    clear Ex hxe Gx hq hv1 hg0
    clear hte
    clear hjR hjT
    go_wp2_with fail
    refine (right_any d t1 _ _ (Lies.keeps hbA _ _ _ HL1.out)).mono ?_
    rintro e w1 ⟨rfl, hg⟩
    have hb1 : Below w.heap.size w w1 := hbA.trans (hg.mono hbA.size)
    have c4 := cell_keeps hg (show (wr.alloc (.cells #[.int .i64 t1.kind, .int .i64 t1.num, .string t1.text, .slice ta t1.items.length tc, .int .i64 t2.kind, .int .i64 t2.num, .string t2.text, .slice tb t2.items.length td] 69)).cell? ⟨wr.heap.size, 4, none⟩ = some (.int .i64 t2.kind) by simp)
    have c5 := cell_keeps hg (show (wr.alloc (.cells #[.int .i64 t1.kind, .int .i64 t1.num, .string t1.text, .slice ta t1.items.length tc, .int .i64 t2.kind, .int .i64 t2.num, .string t2.text, .slice tb t2.items.length td] 69)).cell? ⟨wr.heap.size, 5, none⟩ = some (.int .i64 t2.num) by simp)
    have c6 := cell_keeps hg (show (wr.alloc (.cells #[.int .i64 t1.kind, .int .i64 t1.num, .string t1.text, .slice ta t1.items.length tc, .int .i64 t2.kind, .int .i64 t2.num, .string t2.text, .slice tb t2.items.length td] 69)).cell? ⟨wr.heap.size, 6, none⟩ = some (.string t2.text) by simp)
    have c7 := cell_keeps hg (show (wr.alloc (.cells #[.int .i64 t1.kind, .int .i64 t1.num, .string t1.text, .slice ta t1.items.length tc, .int .i64 t2.kind, .int .i64 t2.num, .string t2.text, .slice tb t2.items.length td] 69)).cell? ⟨wr.heap.size, 7, none⟩ = some (.slice tb t2.items.length td) by simp)
    clear hg p0 p1 p2 p3 p4 p5 p6 p7
    cases hx : rightV d t1
    ·have Hok2 : Hid (okP d (t1, t2) = false) := by show _ = _; rw [Hok.out, hx]; rfl
     go_wp2_with fail
     go_ret
     exact ⟨ret_int (by rw [Hfin.out, Hc.out, Hd.out, List.all_cons, Hok2.out]; rfl), hb1⟩
    ·go_wp2_with fail
     refine (right_any d t2 _ _ (Lies.keeps hb1 _ _ _ HL2.out)).mono ?_
     rintro e w2 ⟨rfl, hg⟩
     have hb2 : Below w.heap.size w w2 := hb1.trans (hg.mono hb1.size)
     clear hg c4 c5 c6 c7
     cases hy : rightV d t2
     ·have Hok2 : Hid (okP d (t1, t2) = false) := by show _ = _; rw [Hok.out, hx, hy]; rfl
      go_wp2_with fail
      go_ret
      exact ⟨ret_int (by rw [Hfin.out, Hc.out, Hd.out, List.all_cons, Hok2.out]; rfl), hb2⟩
     ·have Hok2 : Hid (okP d (t1, t2) = true) := by show _ = _; rw [Hok.out, hx, hy]; rfl
      go_wp2_with fail
      go_roundg (L - (j + 1))
      case measure => have := Hk.out; omega
      case rel =>
       refine ⟨j + 1, by go_num, by omega, rfl, ?_, hb2⟩
       show _ = _
       rw [Hc.out, Hd.out, List.all_cons, Hok2.out]; rfl
   ·have hji : ¬ (j : Int) < (L : Nat) := by omega
    have Hd : Hid (ts.all (okP d) = true) := by
     show _ = _
     rw [Hc.out, List.drop_eq_nil_of_le (by rw [Hlen.out]; omega)]; rfl
    clear Hc
    go_wp2_with fail
    go_ret
    exact ⟨ret_int (by rw [Hfin.out, Hd.out]; rfl), hbw⟩

abbrev sixT : VT := ⟨6, 0, ⟨#[]⟩, []⟩

structure MoO (n : Nat) (w : World) (R : List PP) (wr : World) (j : Nat) (vo : Value) : Prop where
 box : Bx wr (n + 1) sixT vo
 res : Bx wr n zeroT (.slice none 0 0)
 own : wr.ownsRow (n + 2) 34 4 vo (2 * j) ((R.take j).flatMap encQ)
 below : Below w.heap.size w wr

theorem own_some {w : World} {base : Nat} {v : Value} {n : Nat} {xs : List Value} (h : w.ownsRow base 34 4 v n xs) (hn : 0 < n) : ∃ g cap, v = .slice (some ⟨g, 0, none⟩) n cap := by
 rcases h.2 with ⟨_, h0⟩ | ⟨g, cap, cur, hv, _⟩
 ·omega
 ·exact ⟨g, cap, hv⟩

theorem own_blkM {W : World} {M : Nat} {x : Value} {n : Nat} {xs : List Value} (h : W.ownsRow M 34 4 x n xs) : ∀ k, x.ownBlock = some k → M ≤ k := by
 intro k hk
 rcases h.2 with ⟨hv, _⟩ | ⟨g, cap', cur, hv, hbs, _⟩
 ·rw [hv] at hk; cases hk
 ·rw [hv] at hk
  simp only [Value.ownBlock, Option.some.injEq] at hk
  omega

theorem own_setM {W : World} {M g : Nat} {x v : Value} {n : Nat} {xs : List Value} (h : W.ownsRow M 34 4 x n xs) (hg : g < M) : (W.setCell ⟨g, 3, none⟩ v).ownsRow M 34 4 x n xs := by
 refine ⟨h.1, ?_⟩
 rcases h.2 with hn | ⟨k, cap, cur, hv, hbs, hk, rest⟩
 ·exact .inl hn
 ·refine .inr ⟨k, cap, cur, hv, hbs, ?_, rest⟩
  unfold World.setCell
  simp only [Array.getElem?_modify]
  rw [if_neg (by show ¬ g = k; omega)]
  exact hk

theorem bx_put3M {W : World} {n : Nat} {t : VT} {u v : Value} (h : Bx W n t u) : Bx (W.setCell ⟨n, 3, none⟩ v) n t v := by
 have e0 := World.cell?_setCells_in n [v] 3 W (fun j hj => by
  have : j = 0 := by simp at hj; omega
  subst this
  show (W.cell? ⟨n, 3, none⟩).isSome = true
  rw [h.c3]; rfl) 0 (by simp)
 have ho : ∀ k, k < 3 → (W.setCell ⟨n, 3, none⟩ v).cell? ⟨n, k, none⟩ = W.cell? ⟨n, k, none⟩ := fun k hk => World.cell?_setCells_out n [v] 3 W ⟨n, k, none⟩ (fun _ _ => .inl hk)
 exact ⟨(ho 0 (by omega)).trans h.c0, (ho 1 (by omega)).trans h.c1, (ho 2 (by omega)).trans h.c2, by simpa [World.setCells] using e0, by simpa using h.f0, by simpa using h.f1, by simpa using h.f2, by simpa using h.f3⟩

theorem bx_grown {W w9 : World} {n M : Nat} {t : VT} {u vo : Value} (h : Bx W n t u) (hob : ∀ k, vo.ownBlock = some k → M ≤ k) (hn : n < M) (hgrow : W.grownBy w9 vo.ownBlock) : Bx w9 n t u := by
 have hl : n < W.heap.size := cell_lt h.c0
 have hne : some n ≠ vo.ownBlock := fun e => by have := hob n e.symm; omega
 exact ⟨hgrow.cell h.c0 hne, hgrow.cell h.c1 hne, hgrow.cell h.c2 hne, hgrow.cell h.c3 hne, (hgrow.frozen_far ⟨n, 0, none⟩ hl hne).trans h.f0, (hgrow.frozen_far ⟨n, 1, none⟩ hl hne).trans h.f1, (hgrow.frozen_far ⟨n, 2, none⟩ hl hne).trans h.f2, (hgrow.frozen_far ⟨n, 3, none⟩ hl hne).trans h.f3⟩

theorem MoO.step {n : Nat} {w : World} {R : List PP} {wr : World} {j : Nat} {vo : Value} (h : MoO n w R wr j vo) (hn : n = w.heap.size) {x : PP} (htake : R.take (j + 1) = R.take j ++ [x]) {WW w9 : World} {v' : Value} (hW : Below wr.heap.size wr WW)
 (hown : w9.ownsRow (n + 2) 34 4 v' (2 * j + 2) ((R.take j).flatMap encQ ++ encQ x)) (hgrow : WW.grownBy w9 vo.ownBlock) :
 MoO n w R (w9.setCell ⟨n + 1, 3, none⟩ v') (j + 1) v' := by
 have hob := own_blkM h.own
 have b1 := bx_grown (h.box.keeps hW) hob (by omega) hgrow
 have b2 := bx_grown (h.res.keeps hW) hob (by omega) hgrow
 have hb9 : Below w.heap.size w w9 := (h.below.trans (hW.mono h.below.size)).grown hgrow (by have := h.below.size; have := hW.size; omega) (fun k hk => by have := hob k hk; omega)
 refine ⟨bx_put3M b1, ?_, ?_, hb9.setCell (by simp; omega) _⟩
 ·have hc : ∀ {k : Nat} {v : Value}, w9.cell? ⟨n, k, none⟩ = some v → (w9.setCell ⟨n + 1, 3, none⟩ v').cell? ⟨n, k, none⟩ = some v := fun hv => cell_other (g := n + 1) (o := 3) (vs := [_]) (by simp) hv
  exact ⟨hc b2.c0, hc b2.c1, hc b2.c2, hc b2.c3, by simpa using b2.f0, by simpa using b2.f1, by simpa using b2.f2, by simpa using b2.f3⟩
 ·rw [htake, List.flatMap_append, show 2 * (j + 1) = 2 * j + 2 by omega]
  exact own_setM (by simpa using hown) (by omega)

theorem kvQ_liesX {X : Nat → Prop} {M d : Nat} {w wr : World} {R : List PP} {v : Value} (h : wr.ownsRow M 34 4 v (2 * R.length) (R.flatMap encQ)) (hb : Below w.heap.size w wr) (hg : ∀ p ∈ R, GoodQ d w p) (hX : ∀ p ∈ R, LiesX X d w p.1.1.items p.1.2 ∧ LiesX X d w p.2.1.items p.2.2) (hl : R.length ≤ 65536) :
 LiesX (fun b => X b ∨ M ≤ b) (d + 1) wr (kvT (R.map trT)) v := by
 rw [← kvQ_flat] at h
 have hs : SlP M d wr (kvQ R) v := SlP.of_own (by rw [kvQ_len]) h (fun p hp => by
  obtain ⟨q, hq, rfl | rfl⟩ := kvQ_mem hp
  ·exact ((hg q hq).keeps hb).1
  ·exact ((hg q hq).keeps hb).2) (by rw [kvQ_len]; omega)
 rw [← kvQ_map]
 refine SlP.liesX hs (fun b h1 _ => .inr h1) (fun p hp => ?_)
 obtain ⟨q, hq, rfl | rfl⟩ := kvQ_mem hp
 ·exact ((hX q hq).1.keeps hb).mono (fun b h => .inl h)
 ·exact ((hX q hq).2.keeps hb).mono (fun b h => .inl h)

set_option maxRecDepth 100000 in
set_option maxHeartbeats 8000000 in
theorem rmapOf_any (X : Nat → Prop) (d : Nat) (R : List PP) (u : Value) (w : World) (hu : SlQ 0 d w R u) (hX : ∀ p ∈ R, LiesX X d w p.1.1.items p.1.2 ∧ LiesX X d w p.2.1.items p.2.2) (hXl : ∀ b, X b → b < w.heap.size) (hlen : R.length ≤ 65536) :
 Calls Tryz.prog 106 #[u] w (TellsX (fun b => X b ∨ w.heap.size ≤ b) (d + 1) (if rightV (d + 1) ⟨6, 0, ⟨#[]⟩, kvT (R.map trT)⟩ = true then (⟨6, 0, ⟨#[]⟩, kvT (R.map trT)⟩, 0) else (zeroT, 2)) w) := by
 obtain ⟨i0, hi, hz0, hz1, hz2⟩ := info24
 have Hi : Hid _ := hi; have Hz0 : Hid _ := hz0; have Hz1 : Hid _ := hz1; have Hz2 : Hid _ := hz2
 clear hi hz0 hz1 hz2
 obtain ⟨A, hA⟩ : ∃ A, A = (if rightV (d + 1) ⟨6, 0, ⟨#[]⟩, kvT (R.map trT)⟩ = true then ((⟨6, 0, ⟨#[]⟩, kvT (R.map trT)⟩, 0) : VT × Int) else (zeroT, 2)) := ⟨_, rfl⟩
 rw [← hA]
 have HA : Hid (A = (if rightV (d + 1) ⟨6, 0, ⟨#[]⟩, kvT (R.map trT)⟩ = true then ((⟨6, 0, ⟨#[]⟩, kvT (R.map trT)⟩, 0) : VT × Int) else (zeroT, 2))) := hA
 clear hA
 obtain ⟨a, c, rfl, hc0⟩ := hu.slice
 have HS : Hid (SlQ 0 d w R (.slice a R.length c)) := hu
 have HGd : Hid (∀ p ∈ R, GoodQ d w p) := hu.good
 have HX : Hid (∀ p ∈ R, LiesX X d w p.1.1.items p.1.2 ∧ LiesX X d w p.2.1.items p.2.2) := hX
 have HXl : Hid (∀ b, X b → b < w.heap.size) := hXl
 clear hu hX hXl
 have HM0 : Hid (MoO w.heap.size w R ((w.alloc (.cells #[.int .i64 0, .int .i64 0, .string ⟨#[]⟩, .slice none 0 0] 34)).alloc (.cells #[.int .i64 6, .int .i64 0, .string ⟨#[]⟩, .slice none 0 0] 34)) 0 (.slice none 0 0)) := by
  refine ⟨?_, (bx_alloc w zeroT (.slice none 0 0)).keeps ((Grew.refl _).alloc _).below, ?_, (Grew.two _ _ _).below⟩
  ·have := bx_alloc (w.alloc (.cells #[.int .i64 0, .int .i64 0, .string ⟨#[]⟩, .slice none 0 0] 34)) sixT (.slice none 0 0)
   rwa [World.size_alloc] at this
  ·simp; exact World.ownsRow_nil _ _ _ _
 generalize hLL : R.length = L at *
 have HLL : Hid (R.length = L) := hLL
 clear hLL
 go_enter Tryz.func106, Tryz.ntmps106
 go_wp2_with fail
 go_loopg [10] L (fun z vj wr => ∃ (j : Nat) (vo : Value), vj = .int .i64 (j : Int) ∧ z = L - j ∧ j ≤ L ∧ Hid (MoO w.heap.size w R wr j vo))
 case atStart => exact ⟨0, _, rfl, rfl, Nat.zero_le _, HM0⟩
 case round =>
  obtain ⟨j, vo, rfl, hk, hjL, HM⟩ := hrel
  have Hk : Hid _ := hk
  clear hk HM0
  have hbw : Below w.heap.size w wr := HM.out.below
  have hwl : w.heap.size ≤ wr.heap.size := hbw.size
  obtain ⟨av, nv, cv, hvs⟩ : ∃ av nv cv, vo = .slice av nv cv := by
   rcases HM.out.own.2 with ⟨e, e2⟩ | ⟨g, cap, cur, e, _⟩
   ·exact ⟨_, _, _, e⟩
   ·exact ⟨_, _, cap, e⟩
  subst hvs
  by_cases hjl : j < L
  ·have hji : (j : Int) < (L : Nat) := by omega
   have hjR : j < R.length := by have := HLL.out; omega
   have hg0 := HS.out
   rw [← HLL.out] at hg0
   obtain ⟨b1, o1, c1', hv1, _, hq, _⟩ := hg0.full (fun e => by rw [e] at hjR; cases hjR)
   have ha1 : a = some ⟨b1, o1, none⟩ := by injection hv1
   subst ha1
   obtain ⟨x, hxe⟩ : ∃ x, x = R[j] := ⟨_, rfl⟩
   have Gx : GoodQ d w x := HGd.out x (by rw [hxe]; exact List.getElem_mem hjR)
   have Ex := hq.at j hjR
   rw [← hxe] at Ex
   have Htk : Hid (R.take (j + 1) = R.take j ++ [x]) := by show _ = _; rw [hxe]; exact (List.take_append_getElem hjR).symm
   obtain ⟨⟨t1, tv1⟩, ⟨t2, tv2⟩⟩ := x
   obtain ⟨ta, tc, et1, _⟩ := Lies.slice Gx.1.1
   obtain ⟨tb, td, et2, _⟩ := Lies.slice Gx.2.1
   simp only at et1 et2
   subst et1 et2
   obtain ⟨p0, p1, p2, p3, p4, p5, p6, p7⟩ := Ex.keeps hbw
   simp only at p0 p1 p2 p3 p4 p5 p6 p7
   have hgr : b1 < wr.heap.size := cell_lt p0
   obtain ⟨y0, y1, y2, y3, z0, z1, z2, z3⟩ := HM.out.box
   have hn1 : w.heap.size + 1 < wr.heap.size := cell_lt y0
   have Hown : Hid ((wr.alloc (.cells #[.int .i64 t1.kind, .int .i64 t1.num, .string t1.text, .slice ta t1.items.length tc, .int .i64 t2.kind, .int .i64 t2.num, .string t2.text, .slice tb t2.items.length td] 69)).ownsRow (w.heap.size + 2) 34 4 (.slice av nv cv) (2 * j) ((R.take j).flatMap encQ)) := HM.out.own.alloc _
   have Hob : Hid (∀ k, (Value.slice av nv cv).ownBlock = some k → w.heap.size + 2 ≤ k) := own_blkM HM.out.own
   have HWW : Hid (Below wr.heap.size wr ((wr.alloc (.cells #[.int .i64 t1.kind, .int .i64 t1.num, .string t1.text, .slice ta t1.items.length tc, .int .i64 t2.kind, .int .i64 t2.num, .string t2.text, .slice tb t2.items.length td] 69)).alloc (.cells #[.int .i64 t1.kind, .int .i64 t1.num, .string t1.text, .slice ta t1.items.length tc, .int .i64 t2.kind, .int .i64 t2.num, .string t2.text, .slice tb t2.items.length td] 34))) := (Grew.two _ _ _).below
   have Hbx2 : Hid (Bx ((wr.alloc (.cells #[.int .i64 t1.kind, .int .i64 t1.num, .string t1.text, .slice ta t1.items.length tc, .int .i64 t2.kind, .int .i64 t2.num, .string t2.text, .slice tb t2.items.length td] 69)).alloc (.cells #[.int .i64 t1.kind, .int .i64 t1.num, .string t1.text, .slice ta t1.items.length tc, .int .i64 t2.kind, .int .i64 t2.num, .string t2.text, .slice tb t2.items.length td] 34)) (w.heap.size + 1) sixT (.slice av nv cv)) := HM.out.box.keeps HWW.out
   clear Ex hxe Gx hq hv1 hjR hg0
   go_wp2_with (first
    | (at_builtin; refine wpList_append_own _ rfl _ _ 32 rfl (w.heap.size + 2) 34 i0 (.agg #[.int .i64 0, .int .i64 0, .string ⟨#[]⟩, .slice none 0 0]) 4 56 Tryz.underlying32 Hi.out Hz0.out Hz1.out Hz2.out rfl (by decide) _ _ _ rfl (Hown.out.alloc _) ⟨wr.heap.size + 1, 0, none⟩ 2 2 [.int .i64 t1.kind, .int .i64 t1.num, .string t1.text, .slice ta t1.items.length tc, .int .i64 t2.kind, .int .i64 t2.num, .string t2.text, .slice tb t2.items.length td] rfl rfl (fun q u hq => by match q, hq with | 0, hq => (simp at hq; subst hq; simp [Addr.add]) | 1, hq => (simp at hq; subst hq; simp [Addr.add]) | 2, hq => (simp at hq; subst hq; simp [Addr.add]) | 3, hq => (simp at hq; subst hq; simp [Addr.add]) | 4, hq => (simp at hq; subst hq; simp [Addr.add]) | 5, hq => (simp at hq; subst hq; simp [Addr.add]) | 6, hq => (simp at hq; subst hq; simp [Addr.add]) | 7, hq => (simp at hq; subst hq; simp [Addr.add]) | q + 8, hq => simp at hq) (fun u hu => by simp at hu; rcases hu with rfl | rfl | rfl | rfl | rfl | rfl | rfl | rfl <;> rfl) (by unfold maxLen; omega) (by omega) (by simp; omega) ?_; intro v' w9 hown' hgrow _; obtain ⟨G, K, hvv⟩ := own_some hown' (by omega); subst hvv; obtain ⟨k0, k1, k2, k3, f0, f1, f2, f3⟩ := bx_grown Hbx2.out Hob.out (by omega) hgrow))
   have HN3 : Hid _ := HM.out.step rfl Htk.out HWW.out (by simpa [encQ, encP] using hown') hgrow
   clear hown' hgrow Hown HM p0 p1 p2 p3 p4 p5 p6 p7 y0 y1 y2 y3 z0 z1 z2 z3 k0 k1 k2 k3 f0 f1 f2 f3 Hbx2
   go_wp2_with fail
   go_roundg (L - (j + 1))
   case measure => have := Hk.out; omega
   case rel => exact ⟨j + 1, _, by go_num, rfl, by omega, HN3⟩
  ·obtain rfl : j = L := by omega
   have hji : ¬ (j : Int) < (j : Nat) := by omega
   have HLX : Hid (LiesX (fun b => X b ∨ w.heap.size + 2 ≤ b) (d + 1) wr (kvT (R.map trT)) (.slice av nv cv)) := by
    refine kvQ_liesX ?_ hbw HGd.out HX.out (by have := HLL.out; omega)
    have := HM.out.own
    rw [List.take_of_length_le (by have := HLL.out; omega)] at this
    rwa [HLL.out]
   have hsz : w.heap.size + 1 < wr.heap.size := cell_lt HM.out.box.c0
   have HLX2 : Hid (LiesX (fun b => (X b ∨ w.heap.size + 2 ≤ b) ∧ b < wr.heap.size) (d + 1) wr (kvT (R.map trT)) (.slice av nv cv)) := HLX.out.both
   have HRe : Hid (Bx wr w.heap.size zeroT (.slice none 0 0)) := HM.out.res
   obtain ⟨x0, x1, x2, x3, _, _, _, _⟩ := HM.out.box
   clear HM
   go_wp2_with fail
   refine (rtold_any (fun b => (X b ∨ w.heap.size + 2 ≤ b) ∧ b < wr.heap.size) (d + 1) ⟨6, 0, ⟨#[]⟩, kvT (R.map trT)⟩ (.slice av nv cv) _ (fun b h => h.2) HLX2.out).mono ?_
   intro e w2 ht
   have ht := told_tells ht
   rw [← HA.out] at ht
   clear HA
   obtain ⟨t, n⟩ := A
   obtain ⟨v, rfl, hL2, hb2⟩ := ht
   have hbw2 : Below w.heap.size w w2 := hbw.trans (hb2.mono hbw.size)
   have HK2 : Hid (Bx w2 w.heap.size zeroT (.slice none 0 0)) := HRe.out.keeps hb2
   clear hb2 x0 x1 x2 x3
   obtain ⟨av2, cv2, rfl, _⟩ := LiesX.slice hL2
   obtain ⟨y0, y1, y2, y3, z0, z1, z2, z3⟩ := HK2.out
   have Hbx : Hid (Bx (w2.setCells w.heap.size 0 (encP (t, .slice av2 t.items.length cv2))) w.heap.size t (.slice av2 t.items.length cv2)) := HK2.out.put (t, .slice av2 t.items.length cv2)
   have Hbl : Hid (Below w.heap.size w (w2.setCells w.heap.size 0 (encP (t, .slice av2 t.items.length cv2)))) := below_put hbw2 (Nat.le_refl _) (t, .slice av2 t.items.length cv2)
   have Hfin : Hid (LiesX (fun b => X b ∨ w.heap.size ≤ b) (d + 1) (w2.setCells w.heap.size 0 (encP (t, .slice av2 t.items.length cv2))) t.items (.slice av2 t.items.length cv2)) := (hL2.set (g := w.heap.size) (fun h => by
    rcases h.1 with h | h
    ·have := HXl.out _ h; omega
    ·omega)).mono (fun b h => h.1.imp id (fun q => by omega))
   clear hL2
   go_wp2_with fail
   refine bodyPost_ret (v := .tuple #[.agg #[.int .i64 t.kind, .int .i64 t.num, .string t.text, .slice av2 t.items.length cv2], .int .i64 n]) ?_ rfl ⟨_, rfl, Hfin.out, Hbl.out⟩
   obtain ⟨q0, q1, q2, q3, _, _, _, _⟩ := Hbx.out
   simp only [encP, World.setCells, Nat.zero_add, Nat.reduceAdd] at q0 q1 q2 q3
   simp [results, Tryz.results106, go_sem, q0, q1, q2, q3]

end Go.Proofs.YtlnecfjnffdciaaGreat

namespace Go.Proofs.YtlnecfjnffdciaaGreat
open Go.RowKit

theorem tellsX_zero (X : Nat → Prop) (d : Nat) (n : Int) {w w' : World} (h : Below w.heap.size w w') : TellsX X d (zeroT, n) w (.returned (.tuple #[zeroAgg, .int .i64 n])) w' :=
 ⟨.slice none 0 0, rfl, liesX_nil _ _ _ _ _, h⟩

set_option maxRecDepth 100000 in
set_option maxHeartbeats 4000000 in
theorem rmap_tellsX (g d : Nat) (qs : List PP) (u : Value) (w : World) (hg : g < w.heap.size) (hu : SlQ 0 d w qs u) (hX : ∀ p ∈ qs, LiesX (fun b => b < w.heap.size ∧ b ≠ g) d w p.1.1.items p.1.2 ∧ LiesX (fun b => b < w.heap.size ∧ b ≠ g) d w p.2.1.items p.2.2) : Calls Tryz.prog 59 #[u] w (TellsX (fun b => b ≠ g) (d + 1) (mapA d (qs.map trT)) w) := by
 have HSl : Hid (SlQ 0 d w qs u) := hu
 have HK : Hid (Bx (w.alloc (.cells #[.int .i64 0, .int .i64 0, .string ⟨#[]⟩, .slice none 0 0] 34)) w.heap.size zeroT (.slice none 0 0)) := bx_alloc w zeroT _
 have hbz : Below w.heap.size w (w.alloc (.cells #[.int .i64 0, .int .i64 0, .string ⟨#[]⟩, .slice none 0 0] 34)) := ((Grew.refl w).alloc _).below
 have HCk : Hid (∀ W, Below w.heap.size w W → Calls Tryz.prog 50 #[u] W fun e w' => e = .returned (.int .i64 (pErr d (qs.map trT))) ∧ Below W.heap.size W w') := fun W h => paired_any d qs u W (HSl.out.keeps h)
 have HKy : Hid (∀ W, Below w.heap.size w W → qs.length ≤ 65536 → Calls Tryz.prog 107 #[u] W fun e w' => ∃ v, e = .returned v ∧ SlQ W.heap.size d w' (kyd (cmpQ d) (qs.length + 1) qs) v ∧ Below W.heap.size W w') := fun W h hl => rkeyed_any d qs.length qs u W (HSl.out.keeps h) hl (by omega)
 have HPX : Hid (∀ p ∈ kyd (cmpQ d) (qs.length + 1) qs, LiesX (fun b => b < w.heap.size ∧ b ≠ g) d w p.1.1.items p.1.2 ∧ LiesX (fun b => b < w.heap.size ∧ b ≠ g) d w p.2.1.items p.2.2) := fun p hp => hX p (kyd_mem _ _ _ p hp)
 have Hg : Hid (g < w.heap.size) := hg
 have HI : Hid (kvT ((kyd (cmpQ d) (qs.length + 1) qs).map trT) = mapI d (qs.map trT)) := by
  show _ = _
  unfold mapI
  rw [List.length_map, kyd_map trT (cmpQ d) (cmpTP d) (fun _ _ => rfl)]
 have Hkl : Hid ((kyd (cmpQ d) (qs.length + 1) qs).length ≤ qs.length) := kyd_len _ _ _
 have Hql : Hid ((qs.map trT).length = qs.length) := List.length_map ..
 obtain ⟨a, c, rfl, _⟩ := hu.slice
 clear hu HSl hX hg
 generalize qs.map trT = ts at *
 generalize hL : qs.length = L at *
 clear hL
 by_cases herr : pErr d ts = 0
 ·have Herr : Hid (pErr d ts = 0) := herr
  have Hlen : Hid (L ≤ 65536) := by show _ ≤ _; rw [← Hql.out]; exact (pErr_zero herr).1
  have Ha : Hid ((if rightV (d + 1) ⟨6, 0, ⟨#[]⟩, mapI d ts⟩ = true then ((⟨6, 0, ⟨#[]⟩, mapI d ts⟩, 0) : VT × Int) else (zeroT, 2)) = mapA d ts) := by
   show _ = _
   unfold mapA
   rw [mapI_right d ts herr, if_neg (show ¬ (pErr d ts ≠ 0) from fun h => h herr)]
  obtain ⟨A, hA⟩ : ∃ A, A = mapA d ts := ⟨_, rfl⟩
  rw [← hA] at Ha ⊢
  clear hA
  generalize kyd (cmpQ d) (L + 1) qs = R at *
  clear herr Hql
  go_enter Tryz.func59, Tryz.ntmps59
  go_wp2_with fail
  refine (HCk.out _ hbz).mono ?_
  rintro e w1 ⟨rfl, hb⟩
  rw [Herr.out]
  have hb1 : Below w.heap.size w w1 := hbz.trans (hb.mono (by simp))
  have HK1 : Hid (Bx w1 w.heap.size zeroT (.slice none 0 0)) := HK.out.keeps hb
  clear hb HK hbz
  go_wp2_with fail
  refine (HKy.out _ hb1 Hlen.out).mono ?_
  rintro e w3 ⟨v3, rfl, hL3, hb3⟩
  have HL3 : Hid (SlQ 0 d w3 R v3) := hL3.mono (Nat.zero_le _)
  have hbw3 : Below w.heap.size w w3 := hb1.trans (hb3.mono hb1.size)
  have hsz3 : w.heap.size < w3.heap.size := by have h1 : w.heap.size < w1.heap.size := cell_lt HK1.out.c0; have := hb3.size; omega
  have HK3 : Hid (Bx w3 w.heap.size zeroT (.slice none 0 0)) := HK1.out.keeps hb3
  clear hL3 hb3 HK1 hb1 HCk HKy
  go_wp2_with fail
  refine (rmapOf_any (fun b => b < w.heap.size ∧ b ≠ g) d R v3 _ HL3.out (fun p hp => ⟨(HPX.out p hp).1.keeps hbw3, (HPX.out p hp).2.keeps hbw3⟩) (fun b h => by have := hbw3.size; have := h.1; omega) (by have := Hkl.out; have := Hlen.out; omega)).mono ?_
  intro e w2 ht
  rw [HI.out, Ha.out] at ht
  obtain ⟨t, n⟩ := A
  obtain ⟨v, rfl, hL2, hb2⟩ := ht
  have hbw2 : Below w.heap.size w w2 := hbw3.trans (hb2.mono hbw3.size)
  have HK2 : Hid (Bx w2 w.heap.size zeroT (.slice none 0 0)) := HK3.out.keeps hb2
  clear hb2 HK3 Ha Herr
  obtain ⟨av, cv, rfl, _⟩ := LiesX.slice hL2
  obtain ⟨y0, y1, y2, y3, z0, z1, z2, z3⟩ := HK2.out
  have Hbx : Hid (Bx (w2.setCells w.heap.size 0 (encP (t, .slice av t.items.length cv))) w.heap.size t (.slice av t.items.length cv)) := HK2.out.put (t, .slice av t.items.length cv)
  have Hbl : Hid (Below w.heap.size w (w2.setCells w.heap.size 0 (encP (t, .slice av t.items.length cv)))) := below_put hbw2 (Nat.le_refl _) (t, .slice av t.items.length cv)
  have HLx : Hid (LiesX (fun b => b ≠ w.heap.size ∧ b ≠ g) (d + 1) w2 t.items (.slice av t.items.length cv)) := hL2.mono (fun b h => by
   have := Hg.out
   have := hbw3.size
   rcases h with ⟨h, h'⟩ | h
   ·exact ⟨by omega, h'⟩
   ·exact ⟨by omega, by omega⟩)
  have Hfin : Hid (LiesX (fun b => b ≠ g) (d + 1) (w2.setCells w.heap.size 0 (encP (t, .slice av t.items.length cv))) t.items (.slice av t.items.length cv)) := ((HLx.out.set (g := w.heap.size) (fun h => h.1 rfl)).mono fun b h => h.2)
  clear hL2
  go_wp2_with fail
  refine bodyPost_ret (v := .tuple #[.agg #[.int .i64 t.kind, .int .i64 t.num, .string t.text, .slice av t.items.length cv], .int .i64 n]) ?_ rfl ⟨_, rfl, Hfin.out, Hbl.out⟩
  obtain ⟨q0, q1, q2, q3, _, _, _, _⟩ := Hbx.out
  simp only [encP, World.setCells, Nat.zero_add, Nat.reduceAdd] at q0 q1 q2 q3
  simp [results, Tryz.results59, go_sem, q0, q1, q2, q3]
 ·have ha : mapA d ts = (zeroT, pErr d ts) := by unfold mapA; rw [if_pos herr]
  rw [ha]
  clear ha
  have hne : (pErr d ts != 0) = true := by simpa using herr
  go_enter Tryz.func59, Tryz.ntmps59
  go_wp2_with fail
  refine (HCk.out _ hbz).mono ?_
  rintro e w1 ⟨rfl, hb⟩
  have hb1 : Below w.heap.size w w1 := hbz.trans (hb.mono (by simp))
  have HK1 : Hid (Bx w1 w.heap.size zeroT (.slice none 0 0)) := HK.out.keeps hb
  clear hb HK hbz
  obtain ⟨y0, y1, y2, y3, z0, z1, z2, z3⟩ := HK1.out
  have Hbx : Hid (Bx (w1.setCells w.heap.size 0 (encP (zeroT, .slice none 0 0))) w.heap.size zeroT (.slice none 0 0)) := HK1.out.put (zeroT, .slice none 0 0)
  have Hbl : Hid (Below w.heap.size w (w1.setCells w.heap.size 0 (encP (zeroT, .slice none 0 0)))) := below_put hb1 (Nat.le_refl _) (zeroT, .slice none 0 0)
  go_wp2_with fail
  refine bodyPost_ret (v := .tuple #[.agg #[.int .i64 0, .int .i64 0, .string ⟨#[]⟩, .slice none 0 0], .int .i64 (pErr d ts)]) ?_ rfl (tellsX_zero _ _ _ Hbl.out)
  obtain ⟨q0, q1, q2, q3, _, _, _, _⟩ := Hbx.out
  simp only [encP, World.setCells, Nat.zero_add, Nat.reduceAdd] at q0 q1 q2 q3
  simp [results, Tryz.results59, go_sem, q0, q1, q2, q3]

end Go.Proofs.YtlnecfjnffdciaaGreat

