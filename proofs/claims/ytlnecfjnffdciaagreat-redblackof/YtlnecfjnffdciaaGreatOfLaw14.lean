import Derived.Test.YtlnecfjnffdciaaGreatStepP14
import Derived.Test.YtlnecfjnffdciaaGreatRisN
import Derived.Test.YtlnecfjnffdciaaGreatValueM
import Derived.Test.YtlnecfjnffdciaaGreatTurnM
namespace Go.Proofs.YtlnecfjnffdciaaGreat
open Go.RowKit Go.Shelf

theorem risErr_zero {d : Nat} {o : Int} {l : List PT} (h : risErr d o l = 0) : ofErr d o l = 0 ∧ risB (byK o.toNat) l = true := by
 unfold risErr at h
 split at h
 ·next h0 => exact absurd h h0
 ·next h0 =>
  split at h
  ·next h1 => exact ⟨Decidable.not_not.1 h0, h1⟩
  ·cases h

theorem of_good {d : Nat} {o : Int} {qs : List PP} {u : Value} {w : World} (hu : SlQ 0 d w qs u) (h : ofErr d o (qs.map trT) = 0) : ∀ p ∈ qs, Good 16 p.1.1 ∧ Good 16 p.2.1 := by
 obtain ⟨_, hp⟩ := ofErr_zero h
 obtain ⟨_, hr⟩ := pErr_zero hp
 obtain ⟨h16, hr16⟩ := slq_canon hu (fun p hpq => hr (trT p) (List.mem_map_of_mem hpq))
 exact fun p hpq => ⟨⟨(hr16 p hpq).1, Dp.of_lies 16 w p.1.1 p.1.2 (h16.good p hpq).1.1⟩, ⟨(hr16 p hpq).2, Dp.of_lies 16 w p.2.1 p.2.2 (h16.good p hpq).2.1⟩⟩

theorem mof_mp (d : Nat) (o : Int) (qs : List PP) (u : Value) (w : World) (hu : SlQ 0 d w qs u) : Calls Tryz.prog 9 #[.int .i64 o, u] w (MpPost o.toNat (ofK o.toNat qs) (ofErr d o (qs.map trT)) w) := by
 refine (mof_14 d o qs u w hu).mono fun e w' h => ?_
 obtain ⟨hb, ⟨h0, rfl⟩ | ⟨h0, t, b, rfl, hm, hi⟩⟩ := h
 ·exact ⟨hb, none, rfl, .inl ⟨h0, rfl⟩⟩
 ·rw [h0]
  exact ⟨hb, _, rfl, .inr ⟨rfl, t, b, rfl, hm, kydO_eq (fun p hp => (of_good hu h0 p hp).1) _ _ (by omega) (by omega) hm.rises hi⟩⟩

theorem ofK_up {q : Nat} {qs : List PP} (hg : ∀ p ∈ qs, Good 16 p.1.1) (h : RT.Rises (byK q) (qs.map trT)) : qs.map trT = ofK q qs := by
 refine kydO_eq hg (qs.length + 1) (qs.length + 1) (by omega) (by omega) h fun y => ?_
 have h9 := fun z => kyd_all (cmp3Q 16) (qs.length + 1) qs (by omega) (rises_apart hg h) z
 simp only [List.mem_map, h9]

theorem mris_mp (d : Nat) (o : Int) (qs : List PP) (u : Value) (w : World) (hu : SlQ 0 d w qs u) : Calls Tryz.prog 11 #[.int .i64 o, u] w (MpPost o.toNat (ofK o.toNat qs) (risErr d o (qs.map trT)) w) := by
 refine (mrising_14 d o qs u w hu).mono fun e w' h => ?_
 by_cases h0 : risErr d o (qs.map trT) = 0
 ·obtain ⟨h1, h2⟩ := risErr_zero h0
  rw [← ofK_up (fun p hp => (of_good hu h1 p hp).1) ((risB_rises (byK_cmp _) _).1 h2)]
  exact h.mp
 ·obtain ⟨hb, ⟨h1, rfl⟩ | ⟨h1, _⟩⟩ := h
  ·exact ⟨hb, none, rfl, .inl ⟨h1, rfl⟩⟩
  ·exact absurd h1 h0

set_option maxRecDepth 100000 in
set_option maxHeartbeats 32000000 in
theorem of14_walk (o : Int) (n1 : Nat) (qs : List PP) (u : Value) (w : World) (hu : SlQ 0 n1 w qs u) : Calls Tryz.prog 3 #[.int .i64 o, u] w fun e w' => e = .returned (.bool true) ∧ Below w.heap.size w w' := by
 have HSp : Hid (∀ V, Calls Tryz.prog 14 #[] V fun e w' => e = .returned (.bool true) ∧ Below V.heap.size V w') := speaks14_any
 have HM : Hid (Calls Tryz.prog 9 #[.int .i64 o, u] w (MpPost o.toNat (ofK o.toNat qs) (ofErr n1 o (qs.map trT)) w)) := mof_mp n1 o qs u w hu
 have HD : Hid (∀ V, Below w.heap.size w V → Calls Tryz.prog 10 #[.int .i64 o, u] V (DpPost o.toNat (ofK o.toNat qs) (ofErr n1 o (qs.map trT)) V)) := fun V hV => (rof_14 n1 o qs u V (hu.keeps hV)).mono fun e w' h => h.dp
 have HN : Hid (∀ V, Below w.heap.size w V → Calls Tryz.prog 11 #[.int .i64 o, u] V (MpPost o.toNat (ofK o.toNat qs) (risErr n1 o (qs.map trT)) V)) := fun V hV => mris_mp n1 o qs u V (hu.keeps hV)
 have HY : Hid (∀ V, Below w.heap.size w V → Calls Tryz.prog 12 #[.int .i64 o, u] V (DpPost o.toNat (ofK o.toNat qs) (risErr n1 o (qs.map trT)) V)) := fun V hV => (rrising_14 n1 o qs u V (hu.keeps hV)).mono fun e w' h => h.dp
 have HEE : Hid (risErr n1 o (qs.map trT) = 0 → ofErr n1 o (qs.map trT) = 0) := fun h => (risErr_zero h).1
 have HVm : Hid (∀ V (t : RT PT) b, MC V o.toNat t b → Calls Tryz.prog 15 #[.pointer (some ⟨b, 0, none⟩)] V fun e w' => ∃ v, e = .returned (.tuple #[.agg #[.int .i64 (mapA 16 t.items).1.kind, .int .i64 (mapA 16 t.items).1.num, .string (mapA 16 t.items).1.text, v], .int .i64 (mapA 16 t.items).2]) ∧ Lies 17 w' (mapA 16 t.items).1.items v ∧ Below V.heap.size V w') := fun V t b h => mvalue_14 h
 obtain ⟨a, c0, rfl, _⟩ := hu.slice
 clear hu
 generalize ofK o.toNat qs = RL at *
 generalize o.toNat = q at *
 generalize risErr n1 o (qs.map trT) = ER at *
 generalize ofErr n1 o (qs.map trT) = E at *
 generalize qs.length = n at *
 go_enter Tryz.func3, Tryz.ntmps3
 go_wp2_with fail
 refine Calls.mono HM.out ?_
 rintro e w1 ⟨hb1, p1, rfl, hp1⟩
 have Hp1 : Hid ((E ≠ 0 ∧ p1 = none) ∨ (E = 0 ∧ ∃ t b, p1 = some ⟨b, 0, none⟩ ∧ MC w1 q t b ∧ t.items = RL)) := hp1
 have HD1 := show Hid _ from HD.out w1 hb1
 clear hp1 HM HD
 go_wp2_with fail
 refine Calls.mono HD1.out ?_
 rintro e w2 ⟨hg2, p2, rfl, hp2⟩
 have hb2 : Below w.heap.size w w2 := hb1.trans (hg2.mono hb1.size)
 have Hp2 : Hid ((E ≠ 0 ∧ p2 = none) ∨ (E = 0 ∧ ∃ b, p2 = some ⟨b, 0, none⟩ ∧ DM w2 q RL b)) := hp2
 have HN2 := show Hid _ from HN.out w2 hb2
 have Hg2 : Hid (Below w1.heap.size w1 w2) := hg2
 clear hp2 HD1 HN hb1 hg2
 go_wp2_with fail
 refine Calls.mono HN2.out ?_
 rintro e w3 ⟨hg3, p3, rfl, hp3⟩
 have hb3 : Below w.heap.size w w3 := hb2.trans (hg3.mono hb2.size)
 have Hp3 : Hid ((ER ≠ 0 ∧ p3 = none) ∨ (ER = 0 ∧ ∃ t b, p3 = some ⟨b, 0, none⟩ ∧ MC w3 q t b ∧ t.items = RL)) := hp3
 have HY3 := show Hid _ from HY.out w3 hb3
 have Hg3 : Hid (Below w2.heap.size w2 w3) := hg3
 clear hp3 HN2 HY hb2 hg3
 go_wp2_with fail
 refine Calls.mono HY3.out ?_
 rintro e w4 ⟨hg4, p4, rfl, hp4⟩
 have hb4 : Below w.heap.size w w4 := hb3.trans (hg4.mono hb3.size)
 have Hp4 : Hid ((ER ≠ 0 ∧ p4 = none) ∨ (ER = 0 ∧ ∃ b, p4 = some ⟨b, 0, none⟩ ∧ DM w4 q RL b)) := hp4
 have Hg4 : Hid (Below w3.heap.size w3 w4) := hg4
 have HB4 : Hid (Below w.heap.size w w4) := hb4
 have HSp4 := show Hid _ from HSp.out w4
 clear hp4 HY3 hb3 hg4 hb4
 have hg34 : Below w2.heap.size w2 w4 := Hg3.out.trans (Hg4.out.mono Hg3.out.size)
 have hg14 : Below w1.heap.size w1 w4 := Hg2.out.trans (hg34.mono Hg2.out.size)
 rcases Hp1.out with ⟨h0, rfl⟩ | ⟨rfl, t, b, rfl, hm, hi⟩
 ·have hER : ER ≠ 0 := fun h => h0 (HEE.out h)
  have hne : (E != 0) = true := by simpa using h0
  have hnR : (ER == 0) = false := by simpa using hER
  have hnR2 : (ER != 0) = true := by simpa using hER
  obtain rfl : p2 = none := Hp2.out.elim (fun h => h.2) (fun h => absurd h.1 h0)
  obtain rfl : p3 = none := Hp3.out.elim (fun h => h.2) (fun h => absurd h.1 hER)
  obtain rfl : p4 = none := Hp4.out.elim (fun h => h.2) (fun h => absurd h.1 hER)
  clear Hp1 Hp2 Hp3 Hp4 hg34 hg14 Hg2 Hg3 Hg4
  go_wp2_with fail
  refine Calls.mono HSp4.out ?_
  rintro e w5 ⟨rfl, hg5⟩
  have HB5 : Hid (Below w.heap.size w w5) := HB4.out.trans (hg5.mono HB4.out.size)
  clear hg5
  go_wp2_with fail
  go_ret
  exact ⟨rfl, HB5.out⟩
 ·obtain ⟨c, rfl, hd⟩ : ∃ c, p2 = some ⟨c, 0, none⟩ ∧ DM w2 q RL c := Hp2.out.elim (fun h => absurd rfl h.1) (fun h => h.2)
  rw [← hi] at hd
  have HMC4 : Hid (MC w4 q t b) := hm.keeps hg14
  have HDC4 : Hid (DM w4 q t.items c) := hd.keeps hg34
  have Hi : Hid (t.items = RL) := hi
  clear hm hi hd hg14 hg34 Hp1 Hp2 Hg2 Hg3
  rcases Hp3.out with ⟨hER, rfl⟩ | ⟨rfl, t3, b3, rfl, hm3, hi3⟩
  ·have hnR : (ER == 0) = false := by simpa using hER
   have hnR2 : (ER != 0) = true := by simpa using hER
   obtain rfl : p4 = none := Hp4.out.elim (fun h => h.2) (fun h => absurd h.1 hER)
   clear Hp3 Hp4 Hg4
   have HBV : Hid (Below w.heap.size w w4) := HB4.out
   have HMC : Hid (MC w4 q t b) := HMC4.out
   have HDC : Hid (DM w4 q t.items c) := HDC4.out
   clear HB4 HMC4 HDC4 HSp4
   have HV5 := show Hid _ from HVm.out _ _ _ HMC.out
   go_wp2_with fail
   refine Calls.mono HV5.out ?_
   rintro e w5 ⟨v5, rfl, hl5, hg5⟩
   obtain ⟨a5, c5, rfl, _⟩ := Lies.slice hl5
   obtain ⟨A, hA⟩ : ∃ A, A = mapA 16 t.items := ⟨_, rfl⟩
   have HA : Hid (A = mapA 16 t.items) := hA
   rw [← hA] at hl5 ⊢
   clear hA
   obtain ⟨TV, TN⟩ := A
   obtain ⟨W5, hW5⟩ : ∃ W5, W5 = w5.alloc (.cells #[.int .i64 TV.kind, .int .i64 TV.num, .string TV.text, .slice a5 TV.items.length c5] 34) := ⟨_, rfl⟩
   have hb5 : Below w5.heap.size w5 W5 := by rw [hW5]; exact ((Grew.refl w5).alloc _).below
   have HX5 : Hid (Bx W5 w5.heap.size TV (.slice a5 TV.items.length c5)) := by rw [hW5]; exact bx_alloc _ _ _
   have HB5 : Hid (Below w.heap.size w W5) := HBV.out.trans ((hg5.trans (hb5.mono hg5.size)).mono HBV.out.size)
   have hgv : Below w4.heap.size w4 W5 := hg5.trans (hb5.mono hg5.size)
   have HL5 : Hid (Lies 17 W5 TV.items (.slice a5 TV.items.length c5)) := Lies.keeps hb5 _ _ _ hl5
   have HM5 : Hid (MC W5 q t b) := HMC.out.keeps hgv
   have HD5 : Hid (DM W5 q t.items c) := HDC.out.keeps hgv
   have HR5 : Hid (Calls Tryz.prog 16 #[.pointer (some ⟨c, 0, none⟩)] W5 (Tells 17 (TV, TN) W5)) := by
    show Calls _ _ _ _ (Tells 17 (TV, TN) W5)
    rw [HA.out]
    exact rvalue_14 HD5.out (Below.refl _ _)
   clear hl5 hg5 hb5 hgv HV5 HMC HDC HBV HVm HA
   go_wp2_with fail
   rw [← hW5]
   clear hW5
   refine Calls.mono HR5.out ?_
   rintro e w6 ⟨v6, rfl, hl6, hg6⟩
   obtain ⟨a6, c6, rfl, _⟩ := Lies.slice hl6
   obtain ⟨W6, hW6⟩ : ∃ W6, W6 = w6.alloc (.cells #[.int .i64 TV.kind, .int .i64 TV.num, .string TV.text, .slice a6 TV.items.length c6] 34) := ⟨_, rfl⟩
   have hb6 : Below w6.heap.size w6 W6 := by rw [hW6]; exact ((Grew.refl w6).alloc _).below
   have HX6 : Hid (Bx W6 w6.heap.size TV (.slice a6 TV.items.length c6)) := by rw [hW6]; exact bx_alloc _ _ _
   have hgv : Below W5.heap.size W5 W6 := hg6.trans (hb6.mono hg6.size)
   have HB6 : Hid (Below w.heap.size w W6) := HB5.out.trans (hgv.mono HB5.out.size)
   have HS6 : Hid (Calls Tryz.prog 13 #[.pointer (some ⟨b, 0, none⟩), .pointer (some ⟨c, 0, none⟩)] W6 fun e w' => e = .returned (.bool true) ∧ Below W6.heap.size W6 w') := same_14 (HM5.out.keeps hgv) (HD5.out.keeps hgv)
   have HX56 : Hid (Bx W6 w5.heap.size TV (.slice a5 TV.items.length c5)) := HX5.out.keeps hgv
   have HE6 : Hid (∀ W, Below W6.heap.size W6 W → Calls Tryz.prog 17 #[.agg #[.int .i64 TV.kind, .int .i64 TV.num, .string TV.text, .slice a5 TV.items.length c5], .agg #[.int .i64 TV.kind, .int .i64 TV.num, .string TV.text, .slice a6 TV.items.length c6]] W fun e w' => e = .returned (.bool true) ∧ Below W.heap.size W w') := fun W hW => (same_any 17 TV TV _ _ W (Lies.keeps (hgv.trans (hW.mono hgv.size)) _ _ _ HL5.out) (Lies.keeps (hb6.trans (hW.mono hb6.size)) _ _ _ hl6)).mono fun e w' h => ⟨by rw [h.1, sameV_self], h.2.below⟩
   clear hl6 hg6 hb6 hgv HR5 HX5 HL5 HM5 HD5 HB5
   go_wp2_with fail
   rw [← hW6]
   clear hW6
   refine Calls.mono HS6.out ?_
   rintro e w7 ⟨rfl, hg7⟩
   have HX57 : Hid (Bx w7 w5.heap.size TV (.slice a5 TV.items.length c5)) := HX56.out.keeps hg7
   have HX67 : Hid (Bx w7 w6.heap.size TV (.slice a6 TV.items.length c6)) := HX6.out.keeps hg7
   obtain ⟨x0, x1, x2, x3, _, _, _, _⟩ := HX57.out
   obtain ⟨y0, y1, y2, y3, _, _, _, _⟩ := HX67.out
   try simp only [encP] at x0 x1 x2 x3 y0 y1 y2 y3
   have HE7 := show Hid _ from HE6.out w7 hg7
   have HB7 : Hid (Below w.heap.size w w7) := HB6.out.trans (hg7.mono HB6.out.size)
   clear hg7 HE6 HS6 HX56 HX6
   go_wp2_with fail
   refine Calls.mono HE7.out ?_
   rintro e w8 ⟨rfl, hg8⟩
   have HB8 : Hid (Below w.heap.size w w8) := HB7.out.trans (hg8.mono HB7.out.size)
   have HS8 := show Hid _ from HSp.out w8
   clear hg8 HE7 x0 x1 x2 x3 y0 y1 y2 y3 HX57 HX67
   go_wp2_with fail
   refine Calls.mono HS8.out ?_
   rintro e w9 ⟨rfl, hg9⟩
   have HB9 : Hid (Below w.heap.size w w9) := HB8.out.trans (hg9.mono HB8.out.size)
   clear hg9
   go_wp2_with fail
   go_ret
   exact ⟨rfl, HB9.out⟩
  ·obtain ⟨c4, rfl, hd4⟩ : ∃ c4, p4 = some ⟨c4, 0, none⟩ ∧ DM w4 q RL c4 := Hp4.out.elim (fun h => absurd rfl h.1) (fun h => h.2)
   have HS4 : Hid (Calls Tryz.prog 13 #[.pointer (some ⟨b3, 0, none⟩), .pointer (some ⟨c4, 0, none⟩)] w4 fun e w' => e = .returned (.bool true) ∧ Below w4.heap.size w4 w') := same_14 (hm3.keeps Hg4.out) (by rw [hi3]; exact hd4)
   clear hm3 hi3 hd4 Hp3 Hp4 Hg4 HSp4
   go_wp2_with fail
   refine Calls.mono HS4.out ?_
   rintro e V ⟨rfl, hgV⟩
   have HBV : Hid (Below w.heap.size w V) := HB4.out.trans (hgV.mono HB4.out.size)
   have HMC : Hid (MC V q t b) := HMC4.out.keeps hgV
   have HDC : Hid (DM V q t.items c) := HDC4.out.keeps hgV
   clear hgV HS4 HB4 HMC4 HDC4
   have HV5 := show Hid _ from HVm.out _ _ _ HMC.out
   go_wp2_with fail
   refine Calls.mono HV5.out ?_
   rintro e w5 ⟨v5, rfl, hl5, hg5⟩
   obtain ⟨a5, c5, rfl, _⟩ := Lies.slice hl5
   obtain ⟨A, hA⟩ : ∃ A, A = mapA 16 t.items := ⟨_, rfl⟩
   have HA : Hid (A = mapA 16 t.items) := hA
   rw [← hA] at hl5 ⊢
   clear hA
   obtain ⟨TV, TN⟩ := A
   obtain ⟨W5, hW5⟩ : ∃ W5, W5 = w5.alloc (.cells #[.int .i64 TV.kind, .int .i64 TV.num, .string TV.text, .slice a5 TV.items.length c5] 34) := ⟨_, rfl⟩
   have hb5 : Below w5.heap.size w5 W5 := by rw [hW5]; exact ((Grew.refl w5).alloc _).below
   have HX5 : Hid (Bx W5 w5.heap.size TV (.slice a5 TV.items.length c5)) := by rw [hW5]; exact bx_alloc _ _ _
   have HB5 : Hid (Below w.heap.size w W5) := HBV.out.trans ((hg5.trans (hb5.mono hg5.size)).mono HBV.out.size)
   have hgv : Below V.heap.size V W5 := hg5.trans (hb5.mono hg5.size)
   have HL5 : Hid (Lies 17 W5 TV.items (.slice a5 TV.items.length c5)) := Lies.keeps hb5 _ _ _ hl5
   have HM5 : Hid (MC W5 q t b) := HMC.out.keeps hgv
   have HD5 : Hid (DM W5 q t.items c) := HDC.out.keeps hgv
   have HR5 : Hid (Calls Tryz.prog 16 #[.pointer (some ⟨c, 0, none⟩)] W5 (Tells 17 (TV, TN) W5)) := by
    show Calls _ _ _ _ (Tells 17 (TV, TN) W5)
    rw [HA.out]
    exact rvalue_14 HD5.out (Below.refl _ _)
   clear hl5 hg5 hb5 hgv HV5 HMC HDC HBV HVm HA
   go_wp2_with fail
   rw [← hW5]
   clear hW5
   refine Calls.mono HR5.out ?_
   rintro e w6 ⟨v6, rfl, hl6, hg6⟩
   obtain ⟨a6, c6, rfl, _⟩ := Lies.slice hl6
   obtain ⟨W6, hW6⟩ : ∃ W6, W6 = w6.alloc (.cells #[.int .i64 TV.kind, .int .i64 TV.num, .string TV.text, .slice a6 TV.items.length c6] 34) := ⟨_, rfl⟩
   have hb6 : Below w6.heap.size w6 W6 := by rw [hW6]; exact ((Grew.refl w6).alloc _).below
   have HX6 : Hid (Bx W6 w6.heap.size TV (.slice a6 TV.items.length c6)) := by rw [hW6]; exact bx_alloc _ _ _
   have hgv : Below W5.heap.size W5 W6 := hg6.trans (hb6.mono hg6.size)
   have HB6 : Hid (Below w.heap.size w W6) := HB5.out.trans (hgv.mono HB5.out.size)
   have HS6 : Hid (Calls Tryz.prog 13 #[.pointer (some ⟨b, 0, none⟩), .pointer (some ⟨c, 0, none⟩)] W6 fun e w' => e = .returned (.bool true) ∧ Below W6.heap.size W6 w') := same_14 (HM5.out.keeps hgv) (HD5.out.keeps hgv)
   have HX56 : Hid (Bx W6 w5.heap.size TV (.slice a5 TV.items.length c5)) := HX5.out.keeps hgv
   have HE6 : Hid (∀ W, Below W6.heap.size W6 W → Calls Tryz.prog 17 #[.agg #[.int .i64 TV.kind, .int .i64 TV.num, .string TV.text, .slice a5 TV.items.length c5], .agg #[.int .i64 TV.kind, .int .i64 TV.num, .string TV.text, .slice a6 TV.items.length c6]] W fun e w' => e = .returned (.bool true) ∧ Below W.heap.size W w') := fun W hW => (same_any 17 TV TV _ _ W (Lies.keeps (hgv.trans (hW.mono hgv.size)) _ _ _ HL5.out) (Lies.keeps (hb6.trans (hW.mono hb6.size)) _ _ _ hl6)).mono fun e w' h => ⟨by rw [h.1, sameV_self], h.2.below⟩
   clear hl6 hg6 hb6 hgv HR5 HX5 HL5 HM5 HD5 HB5
   go_wp2_with fail
   rw [← hW6]
   clear hW6
   refine Calls.mono HS6.out ?_
   rintro e w7 ⟨rfl, hg7⟩
   have HX57 : Hid (Bx w7 w5.heap.size TV (.slice a5 TV.items.length c5)) := HX56.out.keeps hg7
   have HX67 : Hid (Bx w7 w6.heap.size TV (.slice a6 TV.items.length c6)) := HX6.out.keeps hg7
   obtain ⟨x0, x1, x2, x3, _, _, _, _⟩ := HX57.out
   obtain ⟨y0, y1, y2, y3, _, _, _, _⟩ := HX67.out
   try simp only [encP] at x0 x1 x2 x3 y0 y1 y2 y3
   have HE7 := show Hid _ from HE6.out w7 hg7
   have HB7 : Hid (Below w.heap.size w w7) := HB6.out.trans (hg7.mono HB6.out.size)
   clear hg7 HE6 HS6 HX56 HX6
   go_wp2_with fail
   refine Calls.mono HE7.out ?_
   rintro e w8 ⟨rfl, hg8⟩
   have HB8 : Hid (Below w.heap.size w w8) := HB7.out.trans (hg8.mono HB7.out.size)
   have HS8 := show Hid _ from HSp.out w8
   clear hg8 HE7 x0 x1 x2 x3 y0 y1 y2 y3 HX57 HX67
   go_wp2_with fail
   refine Calls.mono HS8.out ?_
   rintro e w9 ⟨rfl, hg9⟩
   have HB9 : Hid (Below w.heap.size w w9) := HB8.out.trans (hg9.mono HB8.out.size)
   clear hg9
   go_wp2_with fail
   go_ret
   exact ⟨rfl, HB9.out⟩

end Go.Proofs.YtlnecfjnffdciaaGreat

