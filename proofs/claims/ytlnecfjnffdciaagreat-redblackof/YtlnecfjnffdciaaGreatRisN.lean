import Derived.Test.YtlnecfjnffdciaaGreatRisM
import Derived.Test.YtlnecfjnffdciaaGreatRMapX
import Derived.Test.YtlnecfjnffdciaaGreatTurnM
namespace Go.Proofs.YtlnecfjnffdciaaGreat
open Go.RowKit Go.Shelf

def ofK (q : Nat) (qs : List PP) : List PT := (kyd (cmpO q) (qs.length + 1) qs).map trT

theorem ofErr_zero {d : Nat} {o : Int} {l : List PT} (h : ofErr d o l = 0) : (0 ≤ o ∧ o < 6) ∧ pErr d l = 0 := by
 unfold ofErr ordErr at h
 by_cases ho : o < 0 ∨ 6 ≤ o
 ·rw [if_pos ho, if_pos (by decide)] at h; cases h
 ·rw [if_neg ho, if_neg (by decide)] at h; exact ⟨by omega, h⟩

set_option maxRecDepth 100000 in
set_option maxHeartbeats 8000000 in
theorem rof_14 (d : Nat) (o : Int) (qs : List PP) (u : Value) (w : World) (hu : SlQ 0 d w qs u) : Calls Tryz.prog 10 #[.int .i64 o, u] w (DoPost o.toNat (ofK o.toNat qs) (ofErr d o (qs.map trT)) w) := by
 have HK : Hid (∀ V, Calls Tryz.prog 49 #[.int .i64 o] V fun e w' => e = .returned (.bool (kindO o)) ∧ w' = V) := fun V => rkind6_any o V
 have HP : Hid (Calls Tryz.prog 50 #[u] w fun e w' => e = .returned (.int .i64 (pErr d (qs.map trT))) ∧ Below w.heap.size w w') := paired_any d qs u w hu
 by_cases ho : 0 ≤ o ∧ o ≤ 5
 ·have hk : kindO o = true := by unfold kindO; simpa using ho
  have he : ordErr o = 0 := by unfold ordErr; rw [if_neg (by omega)]
  have hoe : ofErr d o (qs.map trT) = pErr d (qs.map trT) := by unfold ofErr; rw [he, if_neg (by decide)]
  rw [hk] at HK
  rw [hoe]
  obtain ⟨q, rfl⟩ : ∃ q : Nat, o = (q : Int) := ⟨o.toNat, by omega⟩
  rw [show ((q : Int)).toNat = q by omega]
  by_cases hp : pErr d (qs.map trT) = 0
  ·obtain ⟨hl, hr⟩ := pErr_zero hp
   rw [List.length_map] at hl
   have hr' : ∀ p ∈ qs, rightV d p.1.1 = true ∧ rightV d p.2.1 = true := fun p hpq => hr (trT p) (List.mem_map_of_mem hpq)
   obtain ⟨h16, hr16⟩ := slq_canon hu hr'
   have hg16 : ∀ p ∈ qs, Good 16 p.1.1 ∧ Good 16 p.2.1 := fun p hpq => ⟨⟨(hr16 p hpq).1, Dp.of_lies 16 w p.1.1 p.1.2 (h16.good p hpq).1.1⟩, ⟨(hr16 p hpq).2, Dp.of_lies 16 w p.2.1 p.2.2 (h16.good p hpq).2.1⟩⟩
   have HB : Hid (∀ V, Below w.heap.size w V → Calls Tryz.prog 51 #[.int .i64 (q : Int), u] V fun e w' => Below V.heap.size V w' ∧ ∃ b, e = .returned (.pointer (some ⟨b, 0, none⟩)) ∧ DM w' q (ofK q qs) b) := fun V hV => (rbuild_any q (by omega) qs.length qs u V (h16.keeps hV) (fun p hpq => (hr16 p hpq).1) (by omega) (by omega)).mono fun e w' h => h.dm (by omega) (by omega) hg16 (by have := kyd_len (cmpO q) (qs.length + 1) qs; omega)
   rw [hp] at HP ⊢
   clear hu hr hr' h16 hr16 hg16 hoe he hk ho hp
   generalize ofK q qs = L at *
   go_enter Tryz.func10, Tryz.ntmps10
   go_wp2_with (go_at_call 49; refine Calls.mono (HK.out _) ?_; rintro e w1 ⟨rfl, hw⟩; subst w1)
   refine Calls.mono HP.out ?_
   rintro e w1 ⟨rfl, hb⟩
   have HB1 := show Hid _ from HB.out w1 hb
   clear HB HP HK
   go_wp2_with fail
   refine Calls.mono HB1.out ?_
   rintro e w2 ⟨hb2, b, rfl, hd⟩
   have HE : Hid (DoPost q L 0 w (.returned (.tuple #[.pointer (some ⟨b, 0, none⟩), .int .i64 0])) w2) := ⟨hb.trans (hb2.mono hb.size), .inr ⟨rfl, b, rfl, hd⟩⟩
   clear hd hb hb2 HB1
   go_wp2_with fail
   refine bodyPost_ret (v := .tuple #[.pointer (some ⟨b, 0, none⟩), .int .i64 0]) (by simp [results, Tryz.results10, go_sem]) rfl HE.out
  ·have HE : Hid (∀ V, Below w.heap.size w V → DoPost q (ofK q qs) (pErr d (qs.map trT)) w (.returned (.tuple #[.pointer none, .int .i64 (pErr d (qs.map trT))])) V) := fun V hV => ⟨hV, .inl ⟨hp, rfl⟩⟩
   have Hp : Hid (pErr d (qs.map trT) ≠ 0) := hp
   clear hu hoe he hk ho
   generalize pErr d (qs.map trT) = E at *
   generalize ofK q qs = L at *
   go_enter Tryz.func10, Tryz.ntmps10
   go_wp2_with (go_at_call 49; refine Calls.mono (HK.out _) ?_; rintro e w1 ⟨rfl, hw⟩; subst w1)
   refine Calls.mono HP.out ?_
   rintro e w1 ⟨rfl, hb⟩
   have HE1 : Hid (DoPost q L E w (.returned (.tuple #[.pointer none, .int .i64 E])) w1) := HE.out w1 hb
   clear HE HP HK
   go_wp2_with fail
   refine bodyPost_ret (v := .tuple #[.pointer none, .int .i64 E]) (by simp [results, Tryz.results10, go_sem]) rfl HE1.out
 ·have hk : kindO o = false := by unfold kindO; simp; omega
  have he : ordErr o = 4 := by unfold ordErr; rw [if_pos (by omega)]
  have hoe : ofErr d o (qs.map trT) = 4 := by unfold ofErr; rw [he, if_pos (by decide)]
  rw [hk] at HK
  rw [hoe]
  have HE : Hid (DoPost o.toNat (ofK o.toNat qs) 4 w (.returned (.tuple #[.pointer none, .int .i64 4])) w) := ⟨Below.refl _ _, .inl ⟨by decide, rfl⟩⟩
  clear ho hk he hoe hu HP
  go_enter Tryz.func10, Tryz.ntmps10
  go_wp2_with (go_at_call 49; refine Calls.mono (HK.out _) ?_; rintro e w1 ⟨rfl, hw⟩; subst w1)
  refine bodyPost_ret (v := .tuple #[.pointer none, .int .i64 4]) (by simp [results, Tryz.results10, go_sem]) rfl HE.out

end Go.Proofs.YtlnecfjnffdciaaGreat

namespace Go.Proofs.YtlnecfjnffdciaaGreat
open Go.RowKit Go.Shelf

set_option maxRecDepth 100000 in
set_option maxHeartbeats 16000000 in
theorem rrising_14 (d : Nat) (o : Int) (qs : List PP) (u : Value) (w : World) (hu : SlQ 0 d w qs u) : Calls Tryz.prog 12 #[.int .i64 o, u] w (DoPost o.toNat (ofK o.toNat qs) (risErr d o (qs.map trT)) w) := by
 have HC : Hid (Calls Tryz.prog 10 #[.int .i64 o, u] w (DoPost o.toNat (ofK o.toNat qs) (ofErr d o (qs.map trT)) w)) := rof_14 d o qs u w hu
 have H0 : Hid (ofErr d o (qs.map trT) = 0 → (0 ≤ o ∧ o < 6) ∧ qs.length ≤ 65536 ∧ ∀ p ∈ qs, rightV d p.1.1 = true ∧ rightV d p.2.1 = true) := fun h => by
  obtain ⟨ho, hp⟩ := ofErr_zero h
  obtain ⟨hl, hr⟩ := pErr_zero hp
  rw [List.length_map] at hl
  exact ⟨ho, hl, fun p hpq => hr (trT p) (List.mem_map_of_mem hpq)⟩
 have HEr : Hid (risErr d o (qs.map trT) = if ofErr d o (qs.map trT) ≠ 0 then ofErr d o (qs.map trT) else if risB (byK o.toNat) (qs.map trT) = true then 0 else 1) := rfl
 have HU0 : Hid (SlQ 0 d w qs u) := hu
 generalize risErr d o (qs.map trT) = ER at *
 generalize ofErr d o (qs.map trT) = E at *
 obtain ⟨a, c, rfl, _⟩ := hu.slice
 clear hu
 by_cases hE : E = 0
 ·subst hE
  obtain ⟨ho, hlen, hr⟩ := H0.out rfl
  obtain ⟨q, rfl⟩ : ∃ q : Nat, o = q := ⟨o.toNat, by omega⟩
  obtain ⟨hs16, hr16⟩ := slq_canon HU0.out hr
  have hq6 : q < 6 := by omega
  have HEr2 : Hid (ER = if risB (byK q) (qs.map trT) = true then 0 else 1) := by
   have h9 := HEr.out
   rw [if_neg (by simp), show ((q : Nat) : Int).toNat = q by omega] at h9
   exact h9
  rw [show ((q : Nat) : Int).toNat = q by omega] at HC ⊢
  obtain ⟨L, hL⟩ : ∃ L, L = qs.length := ⟨_, rfl⟩
  have HL : Hid (L = qs.length) := hL
  rw [← hL] at hs16 hlen HC ⊢
  have HS : Hid (SlQ 0 16 w qs (.slice a L c)) := hs16
  have HR : Hid (∀ p ∈ qs, rightV 16 p.1.1 = true) := fun p hp => (hr16 p hp).1
  have Ho : Hid (∀ (x y : VT) (xv tv : Value) (W : World), Lies 16 W x.items xv → Lies 16 W y.items tv → rightV 16 x = true → rightV 16 y = true → Calls Tryz.prog 54 #[.int .i64 (q : Int), .agg #[.int .i64 x.kind, .int .i64 x.num, .string x.text, xv], .agg #[.int .i64 y.kind, .int .i64 y.num, .string y.text, tv]] W fun e w' => e = .returned (.int .i64 (ordV q x y)) ∧ Below W.heap.size W w') := fun x y xv tv W k1 k2 k3 k4 => rordV_any q hq6 x y xv tv W k1 k2 k3 k4
  obtain ⟨ts, hts⟩ : ∃ ts, ts = qs.map trT := ⟨_, rfl⟩
  have Hts : Hid (ts = qs.map trT) := hts
  rw [← hts] at HEr2
  generalize ofK q qs = R0 at *
  clear hs16 hr16 hr H0 HU0 HEr hts hL
  go_enter Tryz.func12, Tryz.ntmps12
  go_wp2_with fail
  refine Calls.mono HC.out ?_
  rintro e w1 ⟨hb1, h9⟩
  obtain ⟨bm, rfl, hd1⟩ : ∃ bm, e = .returned (.tuple #[.pointer (some ⟨bm, 0, none⟩), .int .i64 0]) ∧ DM w1 q R0 bm := by
   rcases h9 with ⟨h, _⟩ | ⟨_, bm, he, hd⟩
   ·exact absurd rfl h
   ·exact ⟨bm, he, hd⟩
  have HD1 : Hid (DM w1 q R0 bm) := hd1
  have HB1 : Hid (Below w.heap.size w w1) := hb1
  clear h9 hd1 HC hb1
  go_wp2_with fail
  go_loopg [8] (L - 1) (fun z vi wr => ∃ j : Nat, vi = .int .i64 (j : Int) ∧ 1 ≤ j ∧ j ≤ 65537 ∧ z = L - j ∧ Hid (risB (byK q) ts = risB (byK q) (ts.drop (j - 1))) ∧ Below w1.heap.size w1 wr)
  case atStart => exact ⟨1, rfl, by omega, by omega, rfl, rfl, Below.refl _ _⟩
  case round =>
   obtain ⟨j, rfl, hj1, hj2, hk, HU, hbw1⟩ := hrel
   have hbw : Below w.heap.size w wr := HB1.out.trans (hbw1.mono HB1.out.size)
   have Hbw1 : Hid (Below w1.heap.size w1 wr) := hbw1
   have Hk : Hid _ := hk
   clear hk hbw1
   by_cases hjl : j < L
   ·have hji : (j : Int) < (L : Nat) := by omega
    obtain ⟨m, hm⟩ : ∃ m, j = m + 1 := ⟨j - 1, by omega⟩
    have hwj : IntKind.i64.wrap (((j : Nat) : Int) - 1) = ((m : Nat) : Int) := by rw [IntKind.wrap_i64]; omega
    have hmL : m < L := by omega
    have hmLi : ((m : Nat) : Int) < (L : Nat) := by omega
    have hm0i : (0 : Int) ≤ ((m : Nat) : Int) := by omega
    have hne : qs ≠ [] := by intro e; have := HL.out; rw [e] at this; simp at this; omega
    obtain ⟨hLq, hLc, b, o, rfl, hat⟩ := HS.out.pair_at hne
    obtain ⟨kx, akx, ckx, vx, avx, cvx, hx, Gx, u0, u1, u2, u3, u4, u5, u6, u7⟩ := hat m (by have := HL.out; omega)
    obtain ⟨ky, aky, cky, vy, avy, cvy, hy, Gy, s0, s1, s2, s3, s4, s5, s6, s7⟩ := hat j (by have := HL.out; omega)
    have hjc : j < c := by omega
    have hmc : m < c := by omega
    have HUd : Hid (risB (byK q) ts = (decide (ordV q kx ky < 0) && risB (byK q) (ts.drop (j + 1 - 1)))) := by
     show _ = _
     rw [HU.out, show j - 1 = m by omega, risB_drop (byK q) ts m (kx, vx) (ky, vy) (by rw [Hts.out, List.getElem?_map, hx]; rfl) (by rw [Hts.out, List.getElem?_map, ← hm, hy]; rfl), show j + 1 - 1 = m + 1 by omega]
     rfl
    have Rx := HR.out _ (List.mem_of_getElem? hx)
    have Ry := HR.out _ (List.mem_of_getElem? hy)
    have HC : Hid (∀ V, Below wr.heap.size wr V → Calls Tryz.prog 54 #[.int .i64 (q : Int), .agg #[.int .i64 kx.kind, .int .i64 kx.num, .string kx.text, .slice akx kx.items.length ckx], .agg #[.int .i64 ky.kind, .int .i64 ky.num, .string ky.text, .slice aky ky.items.length cky]] V fun e w' => e = .returned (.int .i64 (ordV q kx ky)) ∧ Below V.heap.size V w') := fun V hV => by
     have hbV : Below w.heap.size w V := hbw.trans (hV.mono hbw.size)
     exact Ho.out kx ky _ _ V (Gx.keeps hbV).1.1 (Gy.keeps hbV).1.1 Rx Ry
    have x0 := cell_keeps hbw u0; have x1 := cell_keeps hbw u1; have x2 := cell_keeps hbw u2; have x3 := cell_keeps hbw u3
    have z0 := cell_keeps hbw s0; have z1 := cell_keeps hbw s1; have z2 := cell_keeps hbw s2; have z3 := cell_keeps hbw s3
    clear u0 u1 u2 u3 u4 u5 u6 u7 s0 s1 s2 s3 s4 s5 s6 s7 hLq hat hx hy Gx Gy Rx Ry HU hm hne hbw
    obtain ⟨Z, hZ⟩ : ∃ Z, Z = ordV q kx ky := ⟨_, rfl⟩
    rw [← hZ] at HUd HC
    clear hZ
    go_wp2_with fail
    go_region_held3 (fun w' => w'.cell? ⟨b, o + m * 8, none⟩ = some (.int .i64 kx.kind) ∧ w'.cell? ⟨b, o + m * 8 + 1, none⟩ = some (.int .i64 kx.num) ∧ w'.cell? ⟨b, o + m * 8 + 2, none⟩ = some (.string kx.text) ∧ w'.cell? ⟨b, o + m * 8 + 3, none⟩ = some (.slice akx kx.items.length ckx) ∧ w'.cell? ⟨b, o + j * 8, none⟩ = some (.int .i64 ky.kind) ∧ w'.cell? ⟨b, o + j * 8 + 1, none⟩ = some (.int .i64 ky.num) ∧ w'.cell? ⟨b, o + j * 8 + 2, none⟩ = some (.string ky.text) ∧ w'.cell? ⟨b, o + j * 8 + 3, none⟩ = some (.slice aky ky.items.length cky)) (go_keep)
     (first | (go_at_call 54; (with_reducible refine Calls.mono (HC.out _ (Below.refl _ _).drew) ?_); rintro e w5 ⟨rfl, hg'⟩; have hg : Below wr.heap.size wr w5 := (Below.drew (Below.refl _ _)).trans hg'; have HW5 : Hid (Below w1.heap.size w1 w5) := Hbw1.out.trans (hg.mono Hbw1.out.size); have x0 := cell_keeps hg x0; have x1 := cell_keeps hg x1; have x2 := cell_keeps hg x2; have x3 := cell_keeps hg x3; have z0 := cell_keeps hg z0; have z1 := cell_keeps hg z1; have z2 := cell_keeps hg z2; have z3 := cell_keeps hg z3; clear hg hg'))
    clear x0 x1 x2 x3 z0 z1 z2 z3 HC
    by_cases hlt : Z < 0
    ·have hge : ¬ 0 ≤ Z := by omega
     go_wp2_with fail
     go_roundg (L - (j + 1))
     case measure => have := Hk.out; omega
     case rel =>
      refine ⟨j + 1, by go_num, by omega, by omega, rfl, ?_, HW5.out⟩
      show _ = _
      rw [HUd.out, decide_eq_true hlt]; rfl
    ·have hge : 0 ≤ Z := by omega
     have e1 : ER = 1 := by rw [HEr2.out, HUd.out, decide_eq_false hlt]; rfl
     subst e1
     have HE : Hid (DoPost q R0 1 w (.returned (.tuple #[.pointer none, .int .i64 1])) w5) := ⟨HB1.out.trans (HW5.out.mono HB1.out.size), .inl ⟨by decide, rfl⟩⟩
     go_wp2_with fail
     refine bodyPost_ret (v := .tuple #[.pointer none, .int .i64 1]) (by simp [results, Tryz.results12, go_sem]) rfl HE.out
   ·have hji : ¬ (j : Int) < (L : Nat) := by omega
    have e1 : ER = 0 := by
     rw [HEr2.out, HU.out, risB_short _ _ (by rw [List.length_drop, Hts.out, List.length_map, ← HL.out]; omega)]; rfl
    subst e1
    have HE : Hid (DoPost q R0 0 w (.returned (.tuple #[.pointer (some ⟨bm, 0, none⟩), .int .i64 0])) wr) := ⟨hbw, .inr ⟨rfl, bm, rfl, HD1.out.keeps Hbw1.out⟩⟩
    clear HU hbw
    go_wp2_with fail
    refine bodyPost_ret (v := .tuple #[.pointer (some ⟨bm, 0, none⟩), .int .i64 0]) (by simp [results, Tryz.results12, go_sem]) rfl HE.out
 ·have e1 : ER = E := by rw [HEr.out, if_pos hE]
  subst e1
  have HE0 : Hid (ER ≠ 0) := hE
  clear H0 HU0 HEr
  generalize ofK o.toNat qs = R0 at *
  generalize o.toNat = on at *
  go_enter Tryz.func12, Tryz.ntmps12
  go_wp2_with fail
  refine Calls.mono HC.out ?_
  rintro e w1 ⟨hb1, h9⟩
  obtain rfl : e = .returned (.tuple #[.pointer none, .int .i64 ER]) := by
   rcases h9 with ⟨_, h⟩ | ⟨h, _⟩
   ·exact h
   ·exact absurd h HE0.out
  have HE : Hid (DoPost on R0 ER w (.returned (.tuple #[.pointer none, .int .i64 ER])) w1) := ⟨hb1, .inl ⟨HE0.out, rfl⟩⟩
  clear h9 HC HE0 hb1
  go_wp2_with fail
  refine bodyPost_ret (v := .tuple #[.pointer none, .int .i64 ER]) (by simp [results, Tryz.results12, go_sem]) rfl HE.out

end Go.Proofs.YtlnecfjnffdciaaGreat

namespace Go.Proofs.YtlnecfjnffdciaaGreat
open Go.RowKit Go.Shelf

set_option maxRecDepth 100000 in
set_option maxHeartbeats 4000000 in
theorem rvalue_14 {w0 w : World} {q : Nat} {l : List PT} {c : Nat} (h : DM w0 q l c) (hw0 : Below w0.heap.size w0 w) : Calls Tryz.prog 16 #[.pointer (some ⟨c, 0, none⟩)] w (Tells 17 (mapA 16 l) w) := by
 obtain ⟨qs, v, hrow, hqt, hsl⟩ := (h.keeps hw0).row
 have hcl := cell_lt hrow
 simp only at hcl
 obtain ⟨W0, hW0⟩ : ∃ W0, W0 = w.alloc (.cells #[.int .i64 0, .int .i64 0, .string ⟨#[]⟩, .slice none 0 0] 34) := ⟨_, rfl⟩
 have hbz : Below w.heap.size w W0 := by rw [hW0]; exact ((Grew.refl w).alloc _).below
 have hsz : W0.heap.size = w.heap.size + 1 := by rw [hW0]; simp
 have HK0 : Hid (Bx W0 w.heap.size zeroT (.slice none 0 0)) := by rw [hW0]; exact bx_alloc w zeroT _
 have HB : Hid (Calls Tryz.prog 59 #[v] W0 (TellsX (fun b => b ≠ w.heap.size) 17 (mapA 16 l) W0)) := by
  rw [← hqt]
  refine rmap_tellsX w.heap.size 16 qs v W0 (by omega) (hsl.keeps hbz) fun p hp => ?_
  have g := hsl.good p hp
  exact ⟨((LiesX.of_lies g.1.1).keeps hbz).mono (fun b hb => ⟨by omega, by omega⟩), ((LiesX.of_lies g.2.1).keeps hbz).mono (fun b hb => ⟨by omega, by omega⟩)⟩
 have hrow' := cell_keeps hbz hrow
 have hcn : ¬ c = w.heap.size := by omega
 clear hsl hqt h
 generalize mapA 16 l = A at *
 obtain ⟨t, n⟩ := A
 go_enter Tryz.func16, Tryz.ntmps16
 go_wp2_with fail
 rw [← hW0]
 clear hW0
 refine Calls.mono HB.out ?_
 rintro e w2 ⟨v2, rfl, hL2, hg2⟩
 obtain ⟨a2, c2, rfl, _⟩ := LiesX.slice hL2
 have HB2 : Hid (Bx w2 w.heap.size zeroT (.slice none 0 0)) := HK0.out.keeps hg2
 have hb2 : Below w.heap.size w w2 := hbz.trans (hg2.mono hbz.size)
 obtain ⟨y0, y1, y2, y3, z0, z1, z2, z3⟩ := HB2.out
 have Hbx : Hid (Bx (w2.setCells w.heap.size 0 (encP (t, .slice a2 t.items.length c2))) w.heap.size t (.slice a2 t.items.length c2)) := HB2.out.put (t, .slice a2 t.items.length c2)
 have Hbl : Hid (Below w.heap.size w (w2.setCells w.heap.size 0 (encP (t, .slice a2 t.items.length c2)))) := below_put hb2 (Nat.le_refl _) (t, .slice a2 t.items.length c2)
 have Hfin : Hid (Lies 17 (w2.setCells w.heap.size 0 (encP (t, .slice a2 t.items.length c2))) t.items (.slice a2 t.items.length c2)) := (LiesX.set (g := w.heap.size) (fun h => h rfl) hL2).lies
 clear hL2 hg2 HK0 HB
 go_wp2_with fail
 refine bodyPost_ret (v := .tuple #[.agg #[.int .i64 t.kind, .int .i64 t.num, .string t.text, .slice a2 t.items.length c2], .int .i64 n]) ?_ rfl ⟨_, rfl, Hfin.out, Hbl.out⟩
 obtain ⟨q0, q1, q2, q3, _, _, _, _⟩ := Hbx.out
 simp only [encP, World.setCells, Nat.zero_add, Nat.reduceAdd] at q0 q1 q2 q3
 simp [results, Tryz.results16, go_sem, q0, q1, q2, q3]

end Go.Proofs.YtlnecfjnffdciaaGreat

namespace Go.Proofs.YtlnecfjnffdciaaGreat
open Go.RowKit Go.Shelf

set_option maxRecDepth 100000 in
set_option maxHeartbeats 16000000 in
theorem mrising_14 (d : Nat) (o : Int) (qs : List PP) (u : Value) (w : World) (hu : SlQ 0 d w qs u) : Calls Tryz.prog 11 #[.int .i64 o, u] w (OrPost o.toNat (qs.map trT) (risErr d o (qs.map trT)) w) := by
 have HC : Hid (Calls Tryz.prog 45 #[.int .i64 o, u] w fun e w' => e = .returned (.int .i64 (ofErr d o (qs.map trT))) ∧ Below w.heap.size w w') := check_14 d o qs u w hu
 have H0 : Hid (ofErr d o (qs.map trT) = 0 → (0 ≤ o ∧ o < 6) ∧ qs.length ≤ 65536 ∧ ∀ p ∈ qs, rightV d p.1.1 = true ∧ rightV d p.2.1 = true) := fun h => by
  obtain ⟨ho, hp⟩ := ofErr_zero h
  obtain ⟨hl, hr⟩ := pErr_zero hp
  rw [List.length_map] at hl
  exact ⟨ho, hl, fun p hpq => hr (trT p) (List.mem_map_of_mem hpq)⟩
 have HEr : Hid (risErr d o (qs.map trT) = if ofErr d o (qs.map trT) ≠ 0 then ofErr d o (qs.map trT) else if risB (byK o.toNat) (qs.map trT) = true then 0 else 1) := rfl
 have HU : Hid (SlQ 0 d w qs u) := hu
 generalize risErr d o (qs.map trT) = ER at *
 generalize ofErr d o (qs.map trT) = E at *
 obtain ⟨a, c, rfl, _⟩ := hu.slice
 clear hu
 by_cases hE : E = 0
 ·subst hE
  obtain ⟨ho, hlen, hr⟩ := H0.out rfl
  obtain ⟨q, rfl⟩ : ∃ q : Nat, o = q := ⟨o.toNat, by omega⟩
  obtain ⟨hs16, hr16⟩ := slq_canon HU.out hr
  have hq6 : q < 6 := by omega
  have HEr2 : Hid (ER = if risB (byK q) (qs.map trT) = true then 0 else 1) := by
   have h9 := HEr.out
   rw [if_neg (by simp), show ((q : Nat) : Int).toNat = q by omega] at h9
   exact h9
  rw [show ((q : Nat) : Int).toNat = q by omega]
  have HRs : Hid (∀ V bb, Below w.heap.size w V → V.cell? ⟨bb, 0, none⟩ = some (.int .i64 (q : Int)) → Calls Tryz.prog 52 #[.slice a qs.length c, .func (.func 97) #[] #[.pointer (some ⟨bb, 0, none⟩)]] V fun e w' => e = .returned (.bool (risB (byK q) (qs.map trT))) ∧ Below V.heap.size V w') := fun V bb hV hbb => rising_14 q hq6 bb qs _ V hbb (hs16.keeps hV) (fun p hp => (hr16 p hp).1) hlen
  have HCs : Hid (∀ V, Below w.heap.size w V → Calls Tryz.prog 47 #[.slice a qs.length c] V (CopiesPost (qs.map trT) V)) := fun V hV => copies_14 qs _ V (hs16.keeps hV) hlen (fun p hp => hr16 p hp)
  have HGd : Hid (∀ y ∈ qs.map trT, Good 16 y.1 ∧ Good 16 y.2) := fun y hy => by
   obtain ⟨p, hp, rfl⟩ := List.mem_map.1 hy
   exact ⟨⟨(hr16 p hp).1, Dp.of_lies 16 w p.1.1 p.1.2 (hs16.good p hp).1.1⟩, ⟨(hr16 p hp).2, Dp.of_lies 16 w p.2.1 p.2.2 (hs16.good p hp).2.1⟩⟩
  have HUp : Hid (risB (byK q) (qs.map trT) = true → RT.Rises (byK q) (qs.map trT)) := (risB_rises (byK_cmp q) _).1
  have HLn : Hid ((qs.map trT).length ≤ 65536) := by show _ ≤ _; rw [List.length_map]; exact hlen
  clear hs16 hr16 hr H0 HU HEr
  generalize qs.map trT = RL at *
  generalize qs.length = n1 at *
  generalize hUB : risB (byK q) RL = UB at *
  clear hUB
  go_enter Tryz.func11, Tryz.ntmps11
  go_wp2_with fail
  refine Calls.mono HC.out ?_
  rintro e w1 ⟨rfl, hb1⟩
  clear HC
  go_wp2_with fail
  refine (byKeys_14 _ _).mono ?_
  rintro e w2 ⟨rfl, hw2⟩
  have hg2 : Below w1.heap.size w1 w2 := by rw [hw2]; exact ((Grew.refl w1).alloc _).below
  have hb2 : Below w.heap.size w w2 := hb1.trans (hg2.mono hb1.size)
  have hbb : w2.cell? ⟨w1.heap.size, 0, none⟩ = some (.int .i64 (q : Int)) := by rw [hw2]; exact (Go.Boxed.new w1 3 (.int .i64 (q : Int))).cell
  have HR2 : Hid (Calls Tryz.prog 52 #[.slice a n1 c, .func (.func 97) #[] #[.pointer (some ⟨w1.heap.size, 0, none⟩)]] w2 fun e w' => e = .returned (.bool UB) ∧ Below w2.heap.size w2 w') := HRs.out w2 _ hb2 hbb
  clear hw2 hg2 hbb HRs
  go_wp2_with fail
  refine Calls.mono HR2.out ?_
  rintro e w3 ⟨rfl, hg3⟩
  have hb3 : Below w.heap.size w w3 := hb2.trans (hg3.mono hb2.size)
  have HC3 : Hid (Calls Tryz.prog 47 #[.slice a n1 c] w3 (CopiesPost RL w3)) := HCs.out w3 hb3
  clear hg3 HR2 HCs hb2
  cases UB
  ·have e1 : ER = 1 := by rw [HEr2.out]; rfl
   subst e1
   have HE : Hid (OrPost q RL 1 w (.returned (.tuple #[.pointer none, .int .i64 1])) w3) := ⟨hb3, .inl ⟨by decide, rfl⟩⟩
   clear HEr2 HC3 HUp
   go_wp2_with fail
   first | exact HE.out | (go_ret2; exact HE.out)
  ·have e1 : ER = 0 := by rw [HEr2.out]; rfl
   subst e1
   have HRi : Hid (RT.Rises (byK q) RL) := HUp.out rfl
   clear HEr2 HUp
   go_wp2_with fail
   refine Calls.mono HC3.out ?_
   rintro e w4 ⟨v4, ps, rfl, hps, hs4, hn4, hg4⟩
   have hb4 : Below w.heap.size w w4 := hb3.trans (hg4.mono hb3.size)
   obtain ⟨a4, c4, rfl, _⟩ := hs4.slice
   have hpl : ps.length = RL.length := by rw [← hps, List.length_map]
   have hG := grown_14 TT 16 ps _ w4 (hs4.mono (Nat.zero_le _)) (fun p hp => ⟨⟨(LiesX.of_b (hn4 p hp).1.1).mono (fun _ _ => trivial), (hn4 p hp).1.2⟩, ⟨(LiesX.of_b (hn4 p hp).2.1).mono (fun _ _ => trivial), (hn4 p hp).2.2⟩⟩) (by have := HLn.out; omega)
   rw [hps] at hG
   have HG : Hid (Calls Tryz.prog 46 #[.slice a4 ps.length c4] w4 (GrownPost TT 16 RL w4)) := hG
   clear hs4 hn4 hg4 HC3 hG hps hpl
   generalize ps.length = n4 at *
   go_wp2_with fail
   refine Calls.mono HG.out ?_
   rintro e w5 ⟨hg5, t, p5, rfl, hn5, hi5, hw5, hbl5⟩
   have hb5 : Below w.heap.size w w5 := hb4.trans (hg5.mono hb4.size)
   have hbA : Below w5.heap.size w5 (w5.alloc (.cells #[.int .i64 (q : Int), .pointer p5] 89)) := ((Grew.refl w5).alloc _).below
   have HE : Hid (OrPost q RL 0 w (.returned (.tuple #[.pointer (some ⟨w5.heap.size, 0, none⟩), .int .i64 0])) (w5.alloc (.cells #[.int .i64 (q : Int), .pointer p5] 89))) := by
    refine ⟨hb5.trans (hbA.mono hb5.size), .inr ⟨rfl, t, w5.heap.size, rfl, ⟨by simp, ⟨p5, by simp, hn5.keeps hbA⟩, hw5, hbl5, hq6, ?_, ?_, ?_⟩, hi5⟩⟩
    ·rw [hi5]; exact HGd.out
    ·rw [hi5]; exact HRi.out
    ·rw [RT.size_items, hi5]; exact HLn.out
   clear hn5 hi5 hw5 hbl5 hg5 HG
   go_wp2_with fail
   first | exact HE.out | (go_ret2; exact HE.out)
 ·have e1 : ER = E := by rw [HEr.out, if_pos hE]
  subst e1
  have HP : Hid (∀ w1, Below w.heap.size w w1 → OrPost o.toNat (qs.map trT) ER w (.returned (.tuple #[.pointer none, .int .i64 ER])) w1) := fun w1 hb => ⟨hb, .inl ⟨hE, rfl⟩⟩
  generalize OrPost o.toNat (qs.map trT) ER w = PO at *
  clear H0 HU HEr
  go_enter Tryz.func11, Tryz.ntmps11
  go_wp2_with fail
  refine Calls.mono HC.out ?_
  rintro e w1 ⟨rfl, hb1⟩
  have HE : Hid (PO (.returned (.tuple #[.pointer none, .int .i64 ER])) w1) := HP.out w1 hb1
  clear HC HP
  go_wp2_with fail
  first | exact HE.out | (go_ret2; exact HE.out)

end Go.Proofs.YtlnecfjnffdciaaGreat

