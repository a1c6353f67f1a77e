import Derived.Test.YtlnecfjnffdciaaGreatSortedQ
import Derived.Test.YtlnecfjnffdciaaGreatPairsS
import Derived.Test.YtlnecfjnffdciaaGreatFlatM14
import Derived.Deep.RegionHeld3
import Derived.Test.YtlnecfjnffdciaaGreatEq
import Derived.Test.YtlnecfjnffdciaaGreatSplitM
import Derived.Test.YtlnecfjnffdciaaGreatRunesP
namespace Go.Proofs.YtlnecfjnffdciaaGreat
open Go.RowKit Go.Shelf

def ordErr (o : Int) : Int := if o < 0 ∨ 6 ≤ o then 4 else 0

theorem zero_right : rightV 16 ⟨0, 0, ⟨#[]⟩, []⟩ = true := by kernel_rfl

theorem zero_lies (d : Nat) (w : World) : Lies d w [] (.slice none 0 0) := (liesX_nil TT d w none 0).lies

set_option maxRecDepth 100000 in
set_option maxHeartbeats 4000000 in
theorem checkOrder_14 (o : Int) (w : World) : Calls Tryz.prog 78 #[.int .i64 o] w fun e w' => e = .returned (.int .i64 (ordErr o)) ∧ Below w.heap.size w w' := by
 have h9 := compareO_any 16 o ⟨0, 0, ⟨#[]⟩, []⟩ ⟨0, 0, ⟨#[]⟩, []⟩ (.slice none 0 0) (.slice none 0 0) w (zero_lies 16 w) (zero_lies 16 w) (by decide) (by decide)
 have e9 : ordE 16 o ⟨0, 0, ⟨#[]⟩, []⟩ ⟨0, 0, ⟨#[]⟩, []⟩ = ordErr o := by
  unfold ordE ordErr
  split
  ·rfl
  ·rw [if_pos ⟨zero_right, zero_right⟩]
 rw [e9] at h9
 have HC : Hid (Calls Tryz.prog 98 #[.int .i64 o, .agg #[.int .i64 0, .int .i64 0, .string ⟨#[]⟩, .slice none 0 0], .agg #[.int .i64 0, .int .i64 0, .string ⟨#[]⟩, .slice none 0 0]] w fun e w' => e = .returned (.tuple #[.int .i64 (ordR 16 o ⟨0, 0, ⟨#[]⟩, []⟩ ⟨0, 0, ⟨#[]⟩, []⟩), .int .i64 (ordErr o)]) ∧ Below w.heap.size w w') := h9
 generalize ordR 16 o ⟨0, 0, ⟨#[]⟩, []⟩ ⟨0, 0, ⟨#[]⟩, []⟩ = R at *
 generalize ordErr o = E at *
 clear h9 e9
 go_enter Tryz.func78, Tryz.ntmps78
 go_wp2_with fail
 refine Calls.mono HC.out ?_
 rintro e w1 ⟨rfl, hb⟩
 go_wp2_with fail
 go_ret
 exact ⟨rfl, hb⟩

def ofErr (d : Nat) (o : Int) (l : List PT) : Int := if ordErr o ≠ 0 then ordErr o else pErr d l

set_option maxRecDepth 100000 in
set_option maxHeartbeats 4000000 in
theorem check_14 (d : Nat) (o : Int) (qs : List PP) (u : Value) (w : World) (hu : SlQ 0 d w qs u) : Calls Tryz.prog 45 #[.int .i64 o, u] w fun e w' => e = .returned (.int .i64 (ofErr d o (qs.map trT))) ∧ Below w.heap.size w w' := by
 have HO : Hid _ := checkOrder_14 o w
 have HP : Hid (∀ V, Below w.heap.size w V → Calls Tryz.prog 89 #[u, .func (.func 69) #[] #[]] V fun e w' => e = .returned (.int .i64 (pErr d (qs.map trT))) ∧ Below V.heap.size V w') := fun V hV => checkPairs_any d qs u V (hu.keeps hV)
 have HE : Hid (ofErr d o (qs.map trT) = if ordErr o ≠ 0 then ordErr o else pErr d (qs.map trT)) := rfl
 generalize ofErr d o (qs.map trT) = E at *
 generalize pErr d (qs.map trT) = Pe at *
 generalize ordErr o = Oe at *
 obtain ⟨a, c, rfl, _⟩ := hu.slice
 clear hu
 go_enter Tryz.func45, Tryz.ntmps45
 go_wp2_with fail
 refine Calls.mono HO.out ?_
 rintro e w1 ⟨rfl, hb⟩
 by_cases h0 : Oe = 0
 ·have e0 : E = Pe := by rw [HE.out, if_neg (by simp [h0])]
  subst e0
  subst h0
  clear HE
  go_wp2_with fail
  refine Calls.mono (HP.out _ hb) ?_
  rintro e w2 ⟨rfl, hg⟩
  have hb2 : Below w.heap.size w w2 := hb.trans (hg.mono hb.size)
  clear hg
  go_wp2_with fail
  go_ret
  exact ⟨rfl, hb2⟩
 ·have e0 : E = Oe := by rw [HE.out, if_pos h0]
  subst e0
  clear HE
  go_wp2_with fail
  go_ret
  exact ⟨rfl, hb⟩

end Go.Proofs.YtlnecfjnffdciaaGreat

namespace Go.Proofs.YtlnecfjnffdciaaGreat
open Go.RowKit Go.Shelf

def OfPost14 (d : Nat) (o : Int) (qs : List PP) (w : World) (e : Ending) (w' : World) : Prop :=
 Below w.heap.size w w' ∧ ((ofErr d o (qs.map trT) ≠ 0 ∧ e = .returned (.tuple #[.pointer none, .int .i64 (ofErr d o (qs.map trT))])) ∨
  (ofErr d o (qs.map trT) = 0 ∧ ∃ t b, e = .returned (.tuple #[.pointer (some ⟨b, 0, none⟩), .int .i64 0]) ∧ MC w' o.toNat t b ∧ ∀ y, y ∈ t.items ↔ y ∈ (kyd (cmpQ 16) (qs.length + 1) qs).map trT))

theorem slq_canon {d : Nat} {w : World} {qs : List PP} {u : Value} (hu : SlQ 0 d w qs u) (h : ∀ p ∈ qs, rightV d p.1.1 = true ∧ rightV d p.2.1 = true) : SlQ 0 16 w qs u ∧ ∀ p ∈ qs, rightV 16 p.1.1 = true ∧ rightV 16 p.2.1 = true := by
 obtain ⟨a, c, hv, h1, h2, h3, h4⟩ := hu
 refine ⟨⟨a, c, hv, h1, h2, h3, fun p hp => ?_⟩, fun p hp => ?_⟩
 ·have g := h4 p hp
  exact ⟨⟨(canon g.1.1 (h p hp).1).1, g.1.2⟩, ⟨(canon g.2.1 (h p hp).2).1, g.2.2⟩⟩
 ·have g := h4 p hp
  exact ⟨(canon g.1.1 (h p hp).1).2, (canon g.2.1 (h p hp).2).2⟩

set_option maxRecDepth 100000 in
set_option maxHeartbeats 8000000 in
theorem mof_14 (d : Nat) (o : Int) (qs : List PP) (u : Value) (w : World) (hu : SlQ 0 d w qs u) : Calls Tryz.prog 9 #[.int .i64 o, u] w (OfPost14 d o qs w) := by
 have HC : Hid _ := check_14 d o qs u w hu
 have HU : Hid (SlQ 0 d w qs u) := hu
 have HPe : Hid (ofErr d o (qs.map trT) ≠ 0 → ∀ w', Below w.heap.size w w' → OfPost14 d o qs w (.returned (.tuple #[.pointer none, .int .i64 (ofErr d o (qs.map trT))])) w') := fun h w' hb => ⟨hb, .inl ⟨h, rfl⟩⟩
 have HPk : Hid (ofErr d o (qs.map trT) = 0 → ∀ t b w', Below w.heap.size w w' → MC w' o.toNat t b → (∀ y, y ∈ t.items ↔ y ∈ (kyd (cmpQ 16) (qs.length + 1) qs).map trT) → OfPost14 d o qs w (.returned (.tuple #[.pointer (some ⟨b, 0, none⟩), .int .i64 0])) w') := fun h t b w' hb h1 h2 => ⟨hb, .inr ⟨h, t, b, rfl, h1, h2⟩⟩
 have H0 : Hid (ofErr d o (qs.map trT) = 0 → (0 ≤ o ∧ o < 6) ∧ qs.length ≤ 65536 ∧ ∀ p ∈ qs, rightV d p.1.1 = true ∧ rightV d p.2.1 = true) := fun h => by
  unfold ofErr ordErr at h
  by_cases ho : o < 0 ∨ 6 ≤ o
  ·rw [if_pos ho, if_pos (by decide)] at h; cases h
  ·rw [if_neg ho, if_neg (by simp)] at h
   unfold pErr at h
   split at h
   ·cases h
   ·next hl =>
    rw [List.length_map] at hl
    split at h
    ·next ha =>
     refine ⟨by omega, by omega, fun p hp => ?_⟩
     have h9 := List.all_eq_true.1 ha (trT p) (List.mem_map.2 ⟨p, hp, rfl⟩)
     simpa [okP, trT, Bool.and_eq_true] using h9
    ·cases h
 obtain ⟨a, c, rfl, _⟩ := hu.slice
 generalize OfPost14 d o qs w = PO at *
 generalize ofErr d o (qs.map trT) = E at *
 clear hu
 go_enter Tryz.func9, Tryz.ntmps9
 go_wp2_with fail
 refine Calls.mono HC.out ?_
 rintro e w1 ⟨rfl, hb1⟩
 by_cases hE : E = 0
 ·have HPk2 : Hid _ := HPk.out hE
  obtain ⟨ho, hlen, hr⟩ := H0.out hE
  subst hE
  clear HPk HPe
  obtain ⟨q, rfl⟩ : ∃ q : Nat, o = q := ⟨o.toNat, by omega⟩
  obtain ⟨hs16, hr16⟩ := slq_canon HU.out hr
  have HS : Hid _ := sorted_14 q (by omega) qs _ w1 (hs16.keeps hb1) hlen (fun p hp => (hr16 p hp).1)
  have HR : Hid (∀ p ∈ qs, Good 16 p.1.1 ∧ Good 16 p.2.1) := fun p hp => ⟨⟨(hr16 p hp).1, Dp.of_lies 16 w p.1.1 p.1.2 (hs16.good p hp).1.1⟩, ⟨(hr16 p hp).2, Dp.of_lies 16 w p.2.1 p.2.2 (hs16.good p hp).2.1⟩⟩
  have hq6 : q < 6 := by omega
  clear HC H0 HU hr hs16 hr16
  go_wp2_with fail
  refine Calls.mono HS.out ?_
  rintro e w2 ⟨v2, rs, rfl, hs2, hl2, hm2, hri2, hme2, hg2⟩
  have hb2 : Below w.heap.size w w2 := hb1.trans (hg2.mono hb1.size)
  obtain ⟨a2, c2, rfl, _⟩ := hs2.slice
  have HCs : Hid _ := copies_14 rs _ w2 (hs2.mono (Nat.zero_le _)) hl2 (fun p hp => ⟨(HR.out p (hm2 p hp)).1.1, (HR.out p (hm2 p hp)).2.1⟩)
  have HRi : Hid (RT.Rises (byK q) (rs.map trT) ∧ (∀ y, y ∈ rs.map trT ↔ y ∈ (kyd (cmpQ 16) (qs.length + 1) qs).map trT) ∧ rs.length ≤ 65536 ∧ ∀ y ∈ rs.map trT, Good 16 y.1 ∧ Good 16 y.2) := ⟨hri2, hme2, hl2, fun y hy => by
   obtain ⟨p, hp, rfl⟩ := List.mem_map.1 hy
   exact HR.out p (hm2 p hp)⟩
  obtain ⟨RL, hRL⟩ : ∃ RL, RL = rs.map trT := ⟨_, rfl⟩
  have HRLl : Hid (RL.length = rs.length) := by show _ = _; rw [hRL, List.length_map]
  rw [← hRL] at HCs HRi
  clear hs2 hm2 hri2 hme2 hg2 HS HR hRL
  generalize rs.length = n2 at *
  go_wp2_with fail
  refine Calls.mono HCs.out ?_
  rintro e w3 ⟨v3, ps, rfl, hps, hs3, hn3, hg3⟩
  have hb3 : Below w.heap.size w w3 := hb2.trans (hg3.mono hb2.size)
  obtain ⟨a3, c3, rfl, _⟩ := hs3.slice
  have Hpl : Hid (ps.length = RL.length) := by show _ = _; rw [← hps, List.length_map]
  have HG : Hid _ := grown_14 TT 16 ps _ w3 (hs3.mono (Nat.zero_le _)) (fun p hp => ⟨⟨(LiesX.of_b (hn3 p hp).1.1).mono (fun _ _ => trivial), (hn3 p hp).1.2⟩, ⟨(LiesX.of_b (hn3 p hp).2.1).mono (fun _ _ => trivial), (hn3 p hp).2.2⟩⟩) (by have := Hpl.out; have := HRLl.out; have := HRi.out.2.2.1; omega)
  have hG2 := HG.out
  rw [hps] at hG2
  have HG : Hid (Calls Tryz.prog 46 #[.slice a3 ps.length c3] w3 (GrownPost TT 16 RL w3)) := hG2
  clear hs3 hn3 hg3 HCs hG2 hps
  generalize ps.length = n3 at *
  go_wp2_with fail
  refine Calls.mono HG.out ?_
  rintro e w4 ⟨hg4, t, p4, rfl, hn4, hi4, hw4, hbl4⟩
  have hb4 : Below w.heap.size w w4 := hb3.trans (hg4.mono hb3.size)
  have hbA : Below w4.heap.size w4 (w4.alloc (.cells #[.int .i64 (q : Int), .pointer p4] 89)) := ((Grew.refl w4).alloc _).below
  have HE : Hid (PO (.returned (.tuple #[.pointer (some ⟨w4.heap.size, 0, none⟩), .int .i64 0])) (w4.alloc (.cells #[.int .i64 (q : Int), .pointer p4] 89))) := by
   refine HPk2.out t w4.heap.size _ (hb4.trans (hbA.mono hb4.size)) ⟨by simp, ⟨p4, by simp, hn4.keeps hbA⟩, hw4, hbl4, hq6, ?_, ?_, ?_⟩ ?_
   ·rw [hi4]; exact HRi.out.2.2.2
   ·rw [hi4]; exact HRi.out.1
   ·rw [RT.size_items, hi4, HRLl.out]; exact HRi.out.2.2.1
   ·rw [hi4]; exact HRi.out.2.1
  clear hn4 hi4 hw4 hbl4 hg4 HG
  go_wp2_with fail
  first | exact HE.out | (go_ret2; exact HE.out)
 ·have HE : Hid (PO (.returned (.tuple #[.pointer none, .int .i64 E])) w1) := HPe.out hE w1 hb1
  clear HC H0 HPe HPk
  go_wp2_with fail
  first | exact HE.out | (go_ret2; exact HE.out)

end Go.Proofs.YtlnecfjnffdciaaGreat

namespace Go.Proofs.YtlnecfjnffdciaaGreat
open Go.RowKit Go.Shelf

set_option maxRecDepth 100000 in
set_option maxHeartbeats 4000000 in
theorem mpairs_14 {w : World} {q : Nat} {t : RT PT} {b : Nat} (h : MC w q t b) : Calls Tryz.prog 34 #[.pointer (some ⟨b, 0, none⟩)] w (CopiesPost t.items w) := by
 have HK : Hid _ := kept_14 h
 have HR : Hid (∀ x ∈ t.items, Good 16 x.1 ∧ Good 16 x.2) := h.right
 have HZ : Hid (t.items.length ≤ 65536) := by show _ ≤ _; rw [← RT.size_items]; exact h.size
 clear h
 go_enter Tryz.func34, Tryz.ntmps34
 go_wp2_with fail
 refine Calls.mono HK.out ?_
 rintro e w1 ⟨v, rfl, ⟨qs, hq, ho, hg⟩, hb⟩
 have hl : qs.length = t.items.length := by rw [← hq, List.length_map]
 have hs : SlQ w.heap.size 16 w1 qs v := SlQ.of_own rfl ho (fun p hp => (hg p hp).keeps hb) (by have := HZ.out; omega)
 obtain ⟨a, c, rfl, _⟩ := hs.slice
 have hc := copies_14 qs _ w1 (hs.mono (Nat.zero_le _)) (by have := HZ.out; omega) (fun p hp => by
  have h9 := HR.out (trT p) (by rw [← hq]; exact List.mem_map.2 ⟨p, hp, rfl⟩)
  exact ⟨h9.1.1, h9.2.1⟩)
 rw [hq] at hc
 have HC : Hid _ := hc
 have HP : Hid (∀ e w', CopiesPost t.items w1 e w' → CopiesPost t.items w e w') := fun e w' ⟨v, rs, h1, h2, h3, h4, h5⟩ => ⟨v, rs, h1, h2, h3.mono hb.size, fun p hp => (h4 p hp).lower hb.size, hb.trans (h5.mono hb.size)⟩
 clear hc hs ho hg HK HR hq hl
 generalize t.items = TI at *
 generalize qs.length = n at *
 go_wp2_with fail
 refine Calls.mono HC.out ?_
 rintro e w2 hx
 obtain ⟨v2, e2⟩ : ∃ v, e = .returned v := by obtain ⟨v, _, h1, _⟩ := hx; exact ⟨v, h1⟩
 subst e2
 have HE : Hid (CopiesPost TI w (.returned v2) w2) := HP.out _ _ hx
 clear hx
 go_wp2_with fail
 first | (go_ret; exact HE.out) | exact HE.out

end Go.Proofs.YtlnecfjnffdciaaGreat

namespace Go.Proofs.YtlnecfjnffdciaaGreat
open Go.RowKit Go.Shelf

structure DM (w : World) (q : Nat) (l : List PT) (b : Nat) : Prop where
 ord : w.cell? ⟨b, 0, none⟩ = some (.int .i64 (q : Int))
 row : ∃ qs v, w.cell? ⟨b, 1, none⟩ = some v ∧ qs.map trT = l ∧ SlQ 0 16 w qs v
 q6 : q < 6
 right : ∀ x ∈ l, Good 16 x.1 ∧ Good 16 x.2
 rises : RT.Rises (byK q) l
 size : l.length ≤ 65536

theorem DM.keeps {w w' : World} {q : Nat} {l : List PT} {b : Nat} (h : DM w q l b) (hb : Below w.heap.size w w') : DM w' q l b := by
 obtain ⟨qs, v, h1, h2, h3⟩ := h.row
 exact ⟨cell_keeps hb h.ord, ⟨qs, v, cell_keeps hb h1, h2, h3.keeps hb⟩, h.q6, h.right, h.rises, h.size⟩

theorem mgone_14 {w : World} {q : Nat} {t : RT PT} {b : Nat} (h : MC w q t b) (M : Nat) (hM : M = t.items.length + 1) : Calls Tryz.prog 55 #[.pointer (some ⟨b, 0, none⟩), .int .i64 (M : Int)] w (GonePost t.items w) := by
 have hz : t.items.length ≤ 65536 := by have := h.size; rw [RT.size_items] at this; exact this
 have h9 := gone14 t.items (some ⟨b, 0, none⟩) M (by omega) (by omega) hz w (fun n Bm W h1 h2 h3 => mall1_14 h 22 (by decide) n Bm h1 W h2 h3)
 rwa [List.take_of_length_le (by omega)] at h9

set_option maxRecDepth 100000 in
set_option maxHeartbeats 32000000 in
theorem same_14 {w : World} {q : Nat} {t : RT PT} {b c : Nat} (h : MC w q t b) (hd : DM w q t.items c) : Calls Tryz.prog 13 #[.pointer (some ⟨b, 0, none⟩), .pointer (some ⟨c, 0, none⟩)] w fun e w' => e = .returned (.bool true) ∧ Below w.heap.size w w' := by
 obtain ⟨qs, v, hrow, hqt, hsl⟩ := hd.row
 obtain ⟨a, cp, rfl, _⟩ := hsl.slice
 have hz : t.items.length ≤ 65536 := hd.size
 have hzl : qs.length = t.items.length := by rw [← hqt, List.length_map]
 obtain ⟨N, hN⟩ : ∃ N, N = qs.length := ⟨_, rfl⟩
 have hts : t.size = N := by rw [RT.size_items, hN, hzl]
 have HO : Hid (∀ V, Below w.heap.size w V → Calls Tryz.prog 43 #[.pointer (some ⟨b, 0, none⟩)] V fun e w' => e = .returned (.int .i64 (q : Int)) ∧ w' = V) := fun V hV => morder_14 (h.keeps hV)
 have HL : Hid (∀ V, Below w.heap.size w V → Calls Tryz.prog 26 #[.pointer (some ⟨b, 0, none⟩)] V fun e w' => e = .returned (.int .i64 (N : Int)) ∧ Below V.heap.size V w') := fun V hV => by
  have := mlen_14 (h.keeps hV)
  rwa [hts] at this
 have HP : Hid (∀ V, Below w.heap.size w V → Calls Tryz.prog 34 #[.pointer (some ⟨b, 0, none⟩)] V (CopiesPost t.items V)) := fun V hV => mpairs_14 (h.keeps hV)
 have HG : Hid (∀ V, Below w.heap.size w V → Calls Tryz.prog 55 #[.pointer (some ⟨b, 0, none⟩), .int .i64 ((N : Int) + 1)] V (GonePost t.items V)) := fun V hV => by
  have := mgone_14 (h.keeps hV) (N + 1) (by omega)
  rwa [show ((N + 1 : Nat) : Int) = (N : Int) + 1 by omega] at this
 have HF : Hid (∀ V, Below w.heap.size w V → Calls Tryz.prog 27 #[.pointer (some ⟨b, 0, none⟩)] V fun e w' => e = .returned (.bool true) ∧ Below V.heap.size V w') := fun V hV => flat_14 (h.keeps hV)
 rw [← hN] at hrow hsl
 have HS : Hid (∀ V rs u, Below w.heap.size w V → rs.map trT = t.items → SlQ 0 16 V rs u → Calls Tryz.prog 37 #[u, .slice a N cp] V fun e w' => e = .returned (.bool true) ∧ Below V.heap.size V w') := fun V rs u hV h1 h2 => pairs_same 16 rs qs (h1.trans hqt.symm) u _ V h2 (hsl.keeps hV) (by have := congrArg List.length h1; rw [List.length_map] at this; omega)
 have k0 := hd.ord
 have k1 := hrow
 have hwr : IntKind.i64.wrap ((N : Int) + 1) = (N : Int) + 1 := by rw [IntKind.wrap_i64]; omega
 have hbc : Below w.heap.size w w := Below.refl _ _
 clear h hd hsl hrow hqt hz hzl hN hts
 go_enter Tryz.func13, Tryz.ntmps13
 go_wp2_with fail
 go_region_held3 (fun w' => w'.cell? ⟨c, 0, none⟩ = some (.int .i64 (q : Int)) ∧ w'.cell? ⟨c, 1, none⟩ = some (.slice a N cp)) (go_keep)
  (first
   | (go_at_call 43; (with_reducible refine Calls.mono (HO.out _ (hbc.trans ((Below.refl _ _).drew.mono hbc.size))) ?_); rintro e w3 ⟨rfl, hw⟩; subst hw)
   | (go_at_call 26; (with_reducible refine Calls.mono (HL.out _ (hbc.trans ((Below.refl _ _).drew.mono hbc.size))) ?_); rintro e w4 ⟨rfl, hg⟩; replace hbc := hbc.trans ((Below.drew (Below.refl _ _)).trans (hg.mono hbc.size)); have k0 := cell_keeps hg k0; have k1 := cell_keeps hg k1; clear hg)
   | (go_at_call 34; (with_reducible refine Calls.mono (HP.out _ hbc) ?_); rintro e w5 ⟨u5, qs5, rfl, hq5, hs5, _, hg⟩; obtain ⟨a5, c5, rfl, _⟩ := hs5.slice; replace hbc := hbc.trans (hg.mono hbc.size); have HS5 : Hid _ := HS.out _ qs5 _ hbc hq5 (hs5.mono (Nat.zero_le _)); clear hs5 hq5; have k0 := cell_keeps hg k0; have k1 := cell_keeps hg k1; clear hg)
   | (go_at_call 37; refine Calls.mono HS7.out ?_; rintro e w8 ⟨rfl, hg⟩; replace hbc := hbc.trans (hg.mono hbc.size); have k0 := cell_keeps hg k0; have k1 := cell_keeps hg k1; clear hg)
   | (go_at_call 37; refine Calls.mono HS5.out ?_; rintro e w6 ⟨rfl, hg⟩; replace hbc := hbc.trans (hg.mono hbc.size); have k0 := cell_keeps hg k0; have k1 := cell_keeps hg k1; clear hg)
   | (go_at_call 55; (with_reducible refine Calls.mono (HG.out _ hbc) ?_); rintro e w7 ⟨hg, qs7, u7, rfl, hq7, hs7⟩; obtain ⟨a7, c7, rfl, _⟩ := hs7.slice; replace hbc := hbc.trans (hg.mono hbc.size); have HS7 : Hid _ := HS.out _ qs7 _ hbc hq7 (hs7.mono (Nat.zero_le _)); clear hs7 hq7; have k0 := cell_keeps hg k0; have k1 := cell_keeps hg k1; clear hg)
   | (go_at_call 27; (with_reducible refine Calls.mono (HF.out _ hbc) ?_); rintro e w9 ⟨rfl, hg⟩; replace hbc := hbc.trans (hg.mono hbc.size); have k0 := cell_keeps hg k0; have k1 := cell_keeps hg k1; clear hg))
 go_wp2_with fail
 go_ret
 exact ⟨rfl, hbc⟩

end Go.Proofs.YtlnecfjnffdciaaGreat

namespace Go.Proofs.YtlnecfjnffdciaaGreat
open Go.RowKit Go.Shelf

set_option maxRecDepth 100000 in
set_option maxHeartbeats 4000000 in
theorem samePair_14 (d : Nat) (p r : PP) (w : World) (hp : GoodQ d w p) (hr : GoodQ d w r) : Calls Tryz.prog 80 #[.agg #[.int .i64 p.1.1.kind, .int .i64 p.1.1.num, .string p.1.1.text, p.1.2, .int .i64 p.2.1.kind, .int .i64 p.2.1.num, .string p.2.1.text, p.2.2], .agg #[.int .i64 r.1.1.kind, .int .i64 r.1.1.num, .string r.1.1.text, r.1.2, .int .i64 r.2.1.kind, .int .i64 r.2.1.num, .string r.2.1.text, r.2.2]] w fun e w' => e = .returned (.bool (cmpV d p.1.1 r.1.1 == 0 && cmpV d p.2.1 r.2.1 == 0)) ∧ Below w.heap.size w w' := by
 obtain ⟨⟨k, ku⟩, ⟨v, vu⟩⟩ := p
 obtain ⟨⟨k2, ku2⟩, ⟨v2, vu2⟩⟩ := r
 obtain ⟨⟨h1, _⟩, ⟨h2, _⟩⟩ := hp
 obtain ⟨⟨h3, _⟩, ⟨h4, _⟩⟩ := hr
 simp only at h1 h2 h3 h4 ⊢
 obtain ⟨a1, c1, rfl, _⟩ := Lies.slice h1
 obtain ⟨a2, c2, rfl, _⟩ := Lies.slice h2
 obtain ⟨a3, c3, rfl, _⟩ := Lies.slice h3
 obtain ⟨a4, c4, rfl, _⟩ := Lies.slice h4
 have HK : Hid (∀ V, Below w.heap.size w V → Calls Tryz.prog 70 #[.agg #[.int .i64 k.kind, .int .i64 k.num, .string k.text, .slice a1 k.items.length c1], .agg #[.int .i64 k2.kind, .int .i64 k2.num, .string k2.text, .slice a3 k2.items.length c3]] V fun e W' => e = .returned (.bool (cmpV d k k2 == 0)) ∧ Below V.heap.size V W') := fun V hV => (equal_any d k k2 _ _ V (Lies.keeps hV _ _ _ h1) (Lies.keeps hV _ _ _ h3)).mono fun e W' h => ⟨h.1, h.2.below⟩
 have HV : Hid (∀ V, Below w.heap.size w V → Calls Tryz.prog 70 #[.agg #[.int .i64 v.kind, .int .i64 v.num, .string v.text, .slice a2 v.items.length c2], .agg #[.int .i64 v2.kind, .int .i64 v2.num, .string v2.text, .slice a4 v2.items.length c4]] V fun e W' => e = .returned (.bool (cmpV d v v2 == 0)) ∧ Below V.heap.size V W') := fun V hV => (equal_any d v v2 _ _ V (Lies.keeps hV _ _ _ h2) (Lies.keeps hV _ _ _ h4)).mono fun e W' h => ⟨h.1, h.2.below⟩
 clear h1 h2 h3 h4
 generalize (cmpV d k k2 == 0) = B1 at *
 generalize (cmpV d v v2 == 0) = B2 at *
 obtain ⟨A1, hA1⟩ : ∃ A1, A1 = w.alloc (.cells #[.int .i64 k.kind, .int .i64 k.num, .string k.text, .slice a1 k.items.length c1, .int .i64 v.kind, .int .i64 v.num, .string v.text, .slice a2 v.items.length c2] 69) := ⟨_, rfl⟩
 obtain ⟨A2, hA2⟩ : ∃ A2, A2 = A1.alloc (.cells #[.int .i64 k2.kind, .int .i64 k2.num, .string k2.text, .slice a3 k2.items.length c3, .int .i64 v2.kind, .int .i64 v2.num, .string v2.text, .slice a4 v2.items.length c4] 69) := ⟨_, rfl⟩
 have hg1 : Below w.heap.size w A1 := by rw [hA1]; exact ((Grew.refl w).alloc _).below
 have hg2 : Below A1.heap.size A1 A2 := by rw [hA2]; exact ((Grew.refl A1).alloc _).below
 have hsz : A1.heap.size = w.heap.size + 1 := by rw [hA1]; simp
 have hb2 : Below w.heap.size w A2 := hg1.trans (hg2.mono hg1.size)
 have BX : Bx8 A2 w.heap.size (.int .i64 k.kind) (.int .i64 k.num) (.string k.text) (.slice a1 k.items.length c1) (.int .i64 v.kind) (.int .i64 v.num) (.string v.text) (.slice a2 v.items.length c2) := by
  have h9 : Bx8 A1 w.heap.size (.int .i64 k.kind) (.int .i64 k.num) (.string k.text) (.slice a1 k.items.length c1) (.int .i64 v.kind) (.int .i64 v.num) (.string v.text) (.slice a2 v.items.length c2) := by rw [hA1]; exact bx8_alloc w _ _ _ _ _ _ _ _ _
  exact h9.keeps hg2
 have BY : Bx8 A2 (w.heap.size + 1) (.int .i64 k2.kind) (.int .i64 k2.num) (.string k2.text) (.slice a3 k2.items.length c3) (.int .i64 v2.kind) (.int .i64 v2.num) (.string v2.text) (.slice a4 v2.items.length c4) := by rw [← hsz, hA2]; exact bx8_alloc A1 _ _ _ _ _ _ _ _ _
 have HK2 : Hid _ := HK.out A2 hb2
 have HB : Hid (∀ V, Below A2.heap.size A2 V → Below w.heap.size w V ∧ Bx8 V w.heap.size (.int .i64 k.kind) (.int .i64 k.num) (.string k.text) (.slice a1 k.items.length c1) (.int .i64 v.kind) (.int .i64 v.num) (.string v.text) (.slice a2 v.items.length c2) ∧ Bx8 V (w.heap.size + 1) (.int .i64 k2.kind) (.int .i64 k2.num) (.string k2.text) (.slice a3 k2.items.length c3) (.int .i64 v2.kind) (.int .i64 v2.num) (.string v2.text) (.slice a4 v2.items.length c4)) := fun V hV => ⟨hb2.trans (hV.mono hb2.size), BX.keeps hV, BY.keeps hV⟩
 rw [hA2, hA1] at HK2 HB
 clear BX BY hA1 hA2 hg1 hg2 hsz hb2 HK
 go_enter Tryz.func80, Tryz.ntmps80
 go_wp2_with fail
 refine Calls.mono HK2.out ?_
 rintro e w1 ⟨rfl, hb3⟩
 obtain ⟨hb4, BX, BY⟩ := HB.out w1 hb3
 have HV2 : Hid _ := HV.out w1 hb4
 obtain ⟨_, _, _, _, x4, x5, x6, x7⟩ := BX
 obtain ⟨_, _, _, _, y4, y5, y6, y7⟩ := BY
 clear HB HK2 HV hb3
 cases B1 with
 | false =>
  go_wp2_with fail
  go_ret
  exact ⟨rfl, hb4⟩
 | true =>
  go_wp2_with fail
  refine Calls.mono HV2.out ?_
  rintro e w2 ⟨rfl, hb5⟩
  have hb6 : Below w.heap.size w w2 := hb4.trans (hb5.mono hb4.size)
  clear x4 x5 x6 x7 y4 y5 y6 y7 HV2 hb5
  cases B2 with
  | false => go_wp2_with fail; go_ret; exact ⟨rfl, hb6⟩
  | true => go_wp2_with fail; go_ret; exact ⟨rfl, hb6⟩

end Go.Proofs.YtlnecfjnffdciaaGreat

namespace Go.Proofs.YtlnecfjnffdciaaGreat
open Go.RowKit Go.Shelf

def sameQ (d : Nat) (p r : PP) : Bool := cmpV d p.1.1 r.1.1 == 0 && cmpV d p.2.1 r.2.1 == 0

set_option maxRecDepth 100000 in
set_option maxHeartbeats 8000000 in
theorem eqf_14 (d : Nat) (l m : List PP) (u v : Value) (w : World) (hu : SlQ 0 d w l u) (hv : SlQ 0 d w m v) (hlen : l.length ≤ 65536) (R : Bool) (hT : l.length = m.length → (∀ (j : Nat) (h1 : j < l.length) (h2 : j < m.length), sameQ d l[j] m[j] = true) → R = true) (hN : l.length ≠ m.length → R = false) (hF : ∀ (j : Nat) (h1 : j < l.length) (h2 : j < m.length), sameQ d l[j] m[j] = false → R = false) :
 Calls Tryz.prog 79 #[u, v, .func (.func 80) #[] #[]] w fun e w' => e = .returned (.bool R) ∧ Below w.heap.size w w' := by
 have Hu : Hid (SlQ 0 d w l u) := hu; have Hv : Hid (SlQ 0 d w m v) := hv
 obtain ⟨a1, c1, rfl, _⟩ := hu.slice
 obtain ⟨a2, c2, rfl, _⟩ := hv.slice
 clear hu hv
 by_cases hlm : l.length = m.length
 ·have HT : Hid _ := hT hlm
  have HF : Hid _ := hF
  clear hT hF hN
  have hne : ((l.length : Int) != (l.length : Int)) = false := by simp
  have Hlm : Hid (l.length = m.length) := hlm
  rw [← hlm]
  rw [← hlm] at Hv
  clear hlm
  go_enter Tryz.func79, Tryz.ntmps79
  go_wp2_with fail
  go_loopg [17] l.length (fun g i wr => ∃ j : Nat, i = .int .i64 (j : Int) ∧ j ≤ l.length ∧ g = l.length - j ∧ Below w.heap.size w wr ∧ Hid (∀ (i : Nat) (h1 : i < l.length) (h2 : i < m.length), i < j → sameQ d l[i] m[i] = true))
  case atStart => exact ⟨0, rfl, by omega, by omega, Below.refl _ _, fun i _ _ h => absurd h (by omega)⟩
  case round =>
   obtain ⟨j, rfl, hj, hk, hbw, HI⟩ := hrel
   have Hk : Hid _ := hk
   clear hk hne
   by_cases hlt : j < l.length
   ·have hlt2 : j < m.length := by have := Hlm.out; omega
    obtain ⟨b1, o1, c1', he1, _, hq1, hg1⟩ := SlQ.full (v := .slice a1 l.length c1) (show SlQ 0 d w l _ from Hu.out) (by intro e; simp [e] at hlt)
    have hv9 : SlQ 0 d w m (.slice a2 m.length c2) := by rw [← Hlm.out]; exact Hv.out
    obtain ⟨b2, o2, c2', he2, _, hq2, hg2⟩ := hv9.full (by intro e; simp [e] at hlt2)
    injection he1 with ea1 _ ec1
    injection he2 with ea2 _ ec2
    subst ea1 ea2 ec1 ec2
    have e8 := (hq1.at j hlt).keeps hbw
    have f8 := (hq2.at j hlt2).keeps hbw
    have g1 : GoodQ d w l[j] := hg1 _ (List.getElem_mem hlt)
    have g2 : GoodQ d w m[j] := hg2 _ (List.getElem_mem hlt2)
    have HIn : Hid (sameQ d l[j] m[j] = true → ∀ (i : Nat) (h1 : i < l.length) (h2 : i < m.length), i < j + 1 → sameQ d l[i] m[i] = true) := fun hs i h1 h2 hi => by
     by_cases e : i = j
     ·subst e; exact hs
     ·exact HI.out i h1 h2 (by omega)
    have HFj : Hid (sameQ d l[j] m[j] = false → R = false) := HF.out j hlt hlt2
    clear HI hq1 hq2 hg1 hg2 hv9
    have hltm : (j : Int) < (l.length : Nat) := by omega
    generalize l[j] = X at *
    generalize m[j] = Y at *
    obtain ⟨⟨k1, ku1⟩, ⟨v1, vu1⟩⟩ := X
    obtain ⟨⟨k2, ku2⟩, ⟨v2, vu2⟩⟩ := Y
    obtain ⟨ak1, ck1, hz1, _⟩ := Lies.slice g1.1.1
    obtain ⟨av1, cv1, hz2, _⟩ := Lies.slice g1.2.1
    obtain ⟨ak2, ck2, hz3, _⟩ := Lies.slice g2.1.1
    obtain ⟨av2, cv2, hz4, _⟩ := Lies.slice g2.2.1
    simp only at hz1 hz2 hz3 hz4
    subst hz1 hz2 hz3 hz4
    obtain ⟨p0, p1, p2, p3, p4, p5, p6, p7⟩ := e8
    obtain ⟨q0, q1, q2, q3, q4, q5, q6, q7⟩ := f8
    simp only at p0 p1 p2 p3 p4 p5 p6 p7 q0 q1 q2 q3 q4 q5 q6 q7
    obtain ⟨A1, hA1⟩ : ∃ A1, A1 = wr.alloc (.cells #[.int .i64 k1.kind, .int .i64 k1.num, .string k1.text, .slice ak1 k1.items.length ck1, .int .i64 v1.kind, .int .i64 v1.num, .string v1.text, .slice av1 v1.items.length cv1] 69) := ⟨_, rfl⟩
    obtain ⟨A2, hA2⟩ : ∃ A2, A2 = A1.alloc (.cells #[.int .i64 k2.kind, .int .i64 k2.num, .string k2.text, .slice ak2 k2.items.length ck2, .int .i64 v2.kind, .int .i64 v2.num, .string v2.text, .slice av2 v2.items.length cv2] 69) := ⟨_, rfl⟩
    have hb1 : Below wr.heap.size wr A1 := by rw [hA1]; exact ((Grew.refl wr).alloc _).below
    have hb2 : Below A1.heap.size A1 A2 := by rw [hA2]; exact ((Grew.refl A1).alloc _).below
    have hsz : A1.heap.size = wr.heap.size + 1 := by rw [hA1]; simp
    have hb12 : Below wr.heap.size wr A2 := hb1.trans (hb2.mono hb1.size)
    have hbA : Below w.heap.size w A2 := hbw.trans (hb12.mono hbw.size)
    have BX : Bx8 A2 wr.heap.size (.int .i64 k1.kind) (.int .i64 k1.num) (.string k1.text) (.slice ak1 k1.items.length ck1) (.int .i64 v1.kind) (.int .i64 v1.num) (.string v1.text) (.slice av1 v1.items.length cv1) := by
     have h9 : Bx8 A1 wr.heap.size (.int .i64 k1.kind) (.int .i64 k1.num) (.string k1.text) (.slice ak1 k1.items.length ck1) (.int .i64 v1.kind) (.int .i64 v1.num) (.string v1.text) (.slice av1 v1.items.length cv1) := by rw [hA1]; exact bx8_alloc wr _ _ _ _ _ _ _ _ _
     exact h9.keeps hb2
    have BY : Bx8 A2 (wr.heap.size + 1) (.int .i64 k2.kind) (.int .i64 k2.num) (.string k2.text) (.slice ak2 k2.items.length ck2) (.int .i64 v2.kind) (.int .i64 v2.num) (.string v2.text) (.slice av2 v2.items.length cv2) := by rw [← hsz, hA2]; exact bx8_alloc A1 _ _ _ _ _ _ _ _ _
    have k0 := cell_keeps hb1 q0; have r1 := cell_keeps hb1 q1; have r2 := cell_keeps hb1 q2; have r3 := cell_keeps hb1 q3
    have r4 := cell_keeps hb1 q4; have r5 := cell_keeps hb1 q5; have r6 := cell_keeps hb1 q6; have r7 := cell_keeps hb1 q7
    obtain ⟨x0, x1, x2, x3, x4, x5, x6, x7, _, _, _, _, _, _, _, _, _⟩ := BX
    obtain ⟨y0, y1, y2, y3, y4, y5, y6, y7, _, _, _, _, _, _, _, _, _⟩ := BY
    have HEq : Hid (Calls Tryz.prog 80 #[.agg #[.int .i64 k1.kind, .int .i64 k1.num, .string k1.text, .slice ak1 k1.items.length ck1, .int .i64 v1.kind, .int .i64 v1.num, .string v1.text, .slice av1 v1.items.length cv1], .agg #[.int .i64 k2.kind, .int .i64 k2.num, .string k2.text, .slice ak2 k2.items.length ck2, .int .i64 v2.kind, .int .i64 v2.num, .string v2.text, .slice av2 v2.items.length cv2]] A2 fun e W' => e = .returned (.bool (sameQ d ((k1, .slice ak1 k1.items.length ck1), (v1, .slice av1 v1.items.length cv1)) ((k2, .slice ak2 k2.items.length ck2), (v2, .slice av2 v2.items.length cv2)))) ∧ Below w.heap.size w W') := (samePair_14 d ((k1, .slice ak1 k1.items.length ck1), (v1, .slice av1 v1.items.length cv1)) ((k2, .slice ak2 k2.items.length ck2), (v2, .slice av2 v2.items.length cv2)) A2 (g1.keeps hbA) (g2.keeps hbA)).mono fun e W' h => ⟨h.1, hbA.trans (h.2.mono hbA.size)⟩
    rw [hA2, hA1] at HEq x0 x1 x2 x3 x4 x5 x6 x7 y0 y1 y2 y3 y4 y5 y6 y7
    rw [hA1] at k0 r1 r2 r3 r4 r5 r6 r7
    clear hA1 hA2 hb1 hb2 hb12 hsz hbA g1 g2 q0 q1 q2 q3 q4 q5 q6 q7
    generalize sameQ d ((k1, .slice ak1 k1.items.length ck1), (v1, .slice av1 v1.items.length cv1)) ((k2, .slice ak2 k2.items.length ck2), (v2, .slice av2 v2.items.length cv2)) = S at *
    cases S with
    | true =>
     have HI2 : Hid _ := HIn.out rfl
     clear HIn HFj
     go_wp2_with fail
     refine Calls.mono HEq.out ?_
     rintro e w1 ⟨rfl, hb3⟩
     clear p0 p1 p2 p3 p4 p5 p6 p7 k0 r1 r2 r3 r4 r5 r6 r7 x0 x1 x2 x3 x4 x5 x6 x7 y0 y1 y2 y3 y4 y5 y6 y7 HEq
     go_wp2_with fail
     go_roundg (l.length - (j + 1))
     case measure => have := Hk.out; omega
     case rel => exact ⟨j + 1, by go_num, by omega, rfl, hb3, HI2.out⟩
    | false =>
     have HF2 : Hid (R = false) := HFj.out rfl
     clear HIn HFj
     go_wp2_with fail
     refine Calls.mono HEq.out ?_
     rintro e w1 ⟨rfl, hb3⟩
     clear p0 p1 p2 p3 p4 p5 p6 p7 k0 r1 r2 r3 r4 r5 r6 r7 x0 x1 x2 x3 x4 x5 x6 x7 y0 y1 y2 y3 y4 y5 y6 y7 HEq
     go_wp2_with fail
     go_ret
     exact ⟨by rw [HF2.out]; rfl, hb3⟩
   ·have HRt : Hid (R = true) := HT.out fun i h1 h2 => HI.out i h1 h2 (by omega)
    clear HT HF HI
    go_wp2_with fail
    go_ret
    exact ⟨by rw [HRt.out]; rfl, hbw⟩
 ·have hne : ((l.length : Int) != (m.length : Int)) = true := by simp; omega
  have HRf : Hid (R = false) := hN hlm
  clear Hu Hv hT hF hN
  go_enter Tryz.func79, Tryz.ntmps79
  go_wp2_with fail
  go_ret
  exact ⟨by rw [HRf.out]; rfl, Below.refl _ _⟩

end Go.Proofs.YtlnecfjnffdciaaGreat

namespace Go.Proofs.YtlnecfjnffdciaaGreat
open Go.RowKit Go.Shelf

abbrev numV (n : Int) : VT := ⟨2, n, ⟨#[]⟩, []⟩
abbrev txtV (s : ByteArray) : VT := ⟨3, 0, s, []⟩

theorem text_14 (s : ByteArray) (w : World) : Calls Tryz.prog 56 #[.string s] w fun e w' => e = .returned (.agg #[.int .i64 3, .int .i64 0, .string s, .slice none 0 0]) ∧ Below w.heap.size w w' := by
 go_enter Tryz.func56, Tryz.ntmps56
 go_wp2_with fail
 exact bodyPost_ret (v := .agg #[.int .i64 3, .int .i64 0, .string s, .slice none 0 0]) (by simp [results, Tryz.results56, go_sem]) rfl ⟨rfl, ((Grew.refl _).alloc _).below⟩

def twoQ : List PP := [((numV 1, .slice none 0 0), (txtV ⟨#[97]⟩, .slice none 0 0)), ((numV 2, .slice none 0 0), (txtV ⟨#[98]⟩, .slice none 0 0))]
def twoT : List PT := [(numV 2, txtV ⟨#[98]⟩), (numV 1, txtV ⟨#[97]⟩)]

theorem two_slq (w : World) (T : Nat) : SlQ 0 16 (w.alloc (.cells #[.int .i64 2, .int .i64 1, .string ⟨#[]⟩, .slice none 0 0, .int .i64 3, .int .i64 0, .string ⟨#[97]⟩, .slice none 0 0, .int .i64 2, .int .i64 2, .string ⟨#[]⟩, .slice none 0 0, .int .i64 3, .int .i64 0, .string ⟨#[98]⟩, .slice none 0 0] T)) twoQ (.slice (some ⟨w.heap.size, 0, none⟩) 2 2) := by
 refine ⟨_, 2, rfl, by decide, by decide, fun _ => ⟨w.heap.size, 0, rfl, Nat.zero_le _, fun j u hj => ?_⟩, fun p hp => ?_⟩
 ·have e : twoQ.flatMap encQ = [.int .i64 2, .int .i64 1, .string ⟨#[]⟩, .slice none 0 0, .int .i64 3, .int .i64 0, .string ⟨#[97]⟩, .slice none 0 0, .int .i64 2, .int .i64 2, .string ⟨#[]⟩, .slice none 0 0, .int .i64 3, .int .i64 0, .string ⟨#[98]⟩, .slice none 0 0] := rfl
  rw [e] at hj
  have h9 : (w.alloc (.cells #[.int .i64 2, .int .i64 1, .string ⟨#[]⟩, .slice none 0 0, .int .i64 3, .int .i64 0, .string ⟨#[97]⟩, .slice none 0 0, .int .i64 2, .int .i64 2, .string ⟨#[]⟩, .slice none 0 0, .int .i64 3, .int .i64 0, .string ⟨#[98]⟩, .slice none 0 0] T)).cell? ⟨w.heap.size, j, none⟩ = ([.int .i64 2, .int .i64 1, .string ⟨#[]⟩, .slice none 0 0, .int .i64 3, .int .i64 0, .string ⟨#[97]⟩, .slice none 0 0, .int .i64 2, .int .i64 2, .string ⟨#[]⟩, .slice none 0 0, .int .i64 3, .int .i64 0, .string ⟨#[98]⟩, .slice none 0 0] : List Value)[j]? := by simp
  rw [Nat.zero_add, h9]
  exact hj
 ·have hz : ∀ d W, Lies d W [] (.slice none 0 0) := zero_lies
  rcases List.mem_cons.1 hp with rfl | hp
  ·exact ⟨⟨hz _ _, by decide⟩, ⟨hz _ _, by decide⟩⟩
  ·rw [List.mem_singleton.1 hp]
   exact ⟨⟨hz _ _, by decide⟩, ⟨hz _ _, by decide⟩⟩

theorem two_err : ofErr 16 1 (twoQ.map trT) = 0 := by kernel_rfl
theorem two_kyd : (kyd (cmpQ 16) (twoQ.length + 1) twoQ).map trT = [(numV 1, txtV ⟨#[97]⟩), (numV 2, txtV ⟨#[98]⟩)] := by kernel_rfl
theorem two_rises : RT.Rises (byK 1) twoT := by
 have h : byK 1 (numV 2, txtV ⟨#[98]⟩) (numV 1, txtV ⟨#[97]⟩) = -1 := by kernel_rfl
 refine List.Pairwise.cons (fun y hy => ?_) (List.pairwise_singleton _ _)
 rw [List.mem_singleton.1 hy, h]
 decide
theorem two_find : twoT.find? (fun a => decide (atK 1 (numV 1) a = 0)) = some (numV 1, txtV ⟨#[97]⟩) := by kernel_rfl
theorem one_right14 : rightV 16 (numV 1) = true := by kernel_rfl

theorem two_items {w : World} {t : RT PT} {b : Nat} (h : MC w 1 t b) (hm : ∀ y, y ∈ t.items ↔ y ∈ (kyd (cmpQ 16) (twoQ.length + 1) twoQ).map trT) : t.items = twoT := by
 refine RT.rises_eq (byK_cmp 1) _ _ h.rises two_rises fun y => ?_
 rw [hm y, two_kyd]
 unfold twoT
 simp only [List.mem_cons, List.not_mem_nil, or_false]
 exact Or.comm

set_option maxRecDepth 100000 in
set_option maxHeartbeats 8000000 in
theorem speaks14_any (w : World) : Calls Tryz.prog 14 #[] w fun e w' => e = .returned (.bool true) ∧ Below w.heap.size w w' := by
 have HI : Hid (∀ n W, Calls Tryz.prog 38 #[.int .i64 n] W fun e w' => e = .returned (.agg #[.int .i64 2, .int .i64 n, .string ⟨#[]⟩, .slice none 0 0]) ∧ Below W.heap.size W w') := fun n W => Calls.mono (int_any n W) fun _ _ h => ⟨h.1, h.2.below⟩
 have HO : Hid (∀ W T, Calls Tryz.prog 9 #[.int .i64 1, .slice (some ⟨W.heap.size, 0, none⟩) 2 2] (W.alloc (.cells #[.int .i64 2, .int .i64 1, .string ⟨#[]⟩, .slice none 0 0, .int .i64 3, .int .i64 0, .string ⟨#[97]⟩, .slice none 0 0, .int .i64 2, .int .i64 2, .string ⟨#[]⟩, .slice none 0 0, .int .i64 3, .int .i64 0, .string ⟨#[98]⟩, .slice none 0 0] T)) fun e w' => ∃ t b, e = .returned (.tuple #[.pointer (some ⟨b, 0, none⟩), .int .i64 0]) ∧ MC w' 1 t b ∧ t.items = twoT ∧ Below W.heap.size W w') := fun W T => by
  refine Calls.mono (mof_14 16 1 twoQ _ _ (two_slq W T)) ?_
  rintro e w' ⟨hb, ⟨hne, _⟩ | ⟨_, t, b, rfl, hm, hme⟩⟩
  ·exact absurd two_err hne
  ·exact ⟨t, b, rfl, hm, two_items hm hme, ((Grew.refl W).alloc _).below.trans (hb.mono (by simp))⟩
 go_enter Tryz.func14, Tryz.ntmps14
 go_wp2_with fail
 refine Calls.mono (HI.out _ _) ?_
 rintro e w1 ⟨rfl, hb1⟩
 go_wp2_with fail
 refine (text_14 _ _).mono ?_
 rintro e w2 ⟨rfl, hg2⟩
 have hb2 : Below w.heap.size w w2 := hb1.trans (hg2.mono hb1.size)
 clear hg2
 go_wp2_with fail
 refine Calls.mono (HI.out _ _) ?_
 rintro e w3 ⟨rfl, hg3⟩
 have hb3 : Below w.heap.size w w3 := hb2.trans (hg3.mono hb2.size)
 clear hg3
 go_wp2_with fail
 refine (text_14 _ _).mono ?_
 rintro e w4 ⟨rfl, hg4⟩
 have hb4 : Below w.heap.size w w4 := hb3.trans (hg4.mono hb3.size)
 clear hg4 hb1 hb2 hb3
 go_wp2_with fail
 refine Calls.mono (HO.out _ _) ?_
 rintro e w5 ⟨t, b, rfl, hm, hti, hg5⟩
 have hb5 : Below w.heap.size w w5 := hb4.trans (hg5.mono hb4.size)
 have HM : Hid (MC w5 1 t b) := hm
 have HTI : Hid (t.items = twoT) := hti
 have HP : Hid (Calls Tryz.prog 34 #[.pointer (some ⟨b, 0, none⟩)] w5 (CopiesPost twoT w5)) := by have := mpairs_14 hm; rwa [hti] at this
 clear hm hti hg5 hb4 HO
 go_wp2_with fail
 refine Calls.mono HP.out ?_
 rintro e w6 ⟨v6, ps, rfl, hps, hs6, _, hg6⟩
 have hb6 : Below w.heap.size w w6 := hb5.trans (hg6.mono hb5.size)
 have hpl : ps.length = 2 := by have := congrArg List.length hps; rw [List.length_map] at this; exact this
 obtain ⟨pb, po, pc, rfl, hpc, hq6, _⟩ := hs6.full (fun e => by rw [e] at hpl; cases hpl)
 rw [hpl] at hpc ⊢
 have c6 : w6.cell? ⟨pb, po + 1, none⟩ = some (.int .i64 2) := by
  have h9 := (hq6.at 0 (by omega)).2.1
  have e0 : trT ps[0] = (numV 2, txtV ⟨#[98]⟩) := by
   have h8 : (ps.map trT)[0]? = some (numV 2, txtV ⟨#[98]⟩) := by rw [hps]; rfl
   rw [List.getElem?_map, List.getElem?_eq_getElem (by omega)] at h8
   simpa using h8
  have e1 : ps[0].1.1 = numV 2 := congrArg Prod.fst e0
  rw [e1] at h9
  simpa using h9
 have HM6 : Hid (MC w6 1 t b) := HM.out.keeps hg6
 clear hps hs6 hg6 hpl hq6 HP HM hb5
 go_wp2_with fail
 refine Calls.mono (HI.out _ _) ?_
 rintro e w7 ⟨rfl, hg7⟩
 have hb7 : Below w.heap.size w w7 := hb6.trans (hg7.mono hb6.size)
 have c7 := cell_keeps hg7 c6
 have HM7 : Hid (MC w7 1 t b) := HM6.out.keeps hg7
 have HG : Hid (Calls Tryz.prog 20 #[.pointer (some ⟨b, 0, none⟩), .agg #[.int .i64 2, .int .i64 1, .string ⟨#[]⟩, .slice none 0 0]] w7 (GetPost14 (some (numV 1, txtV ⟨#[97]⟩)) 0 w7)) := by
  have h9 := get_right 16 b 1 t (numV 1) (.slice none 0 0) w7 HM7.out (zero_lies 16 w7) (by decide) one_right14
  have e9 : RT.find (atK 1 (numV 1)) t = some (numV 1, txtV ⟨#[97]⟩) := by
   rw [RT.find_eq (atK 1 (numV 1)) t (RT.Rises.falls (byK_cmp 1) HM7.out.rises (numV 1, numV 1)), HTI.out]
   exact two_find
  rw [e9] at h9
  exact h9
 clear hg7 c6 HM6 hb6
 go_wp2_with fail
 refine Calls.mono HG.out ?_
 rintro e w8 ⟨hg8, hx | ⟨x, u, hx, rfl, hlu⟩⟩
 ·cases hx.1
 injection hx with hx
 subst hx
 obtain ⟨au, cu, hu, _⟩ := LiesB.slice hlu
 subst hu
 clear hlu
 have hb8 : Below w.heap.size w w8 := hb7.trans (hg8.mono hb7.size)
 have c8 := cell_keeps hg8 c7
 have HM8 : Hid (MC w8 1 t b) := HM7.out.keeps hg8
 have hh1 : 1 ≤ t.high := by
  have h9 := high_zero14 t
  have h8 : t.size = 2 := by rw [RT.size_items, HTI.out]; rfl
  omega
 have Hh1 : Hid (1 ≤ t.high) := hh1
 have HHt : Hid (∀ o, Calls Tryz.prog 35 #[.pointer (some ⟨b, 0, none⟩)] (w8.alloc o) fun e w' => e = .returned (.int .i64 (t.high : Nat)) ∧ Below (w8.alloc o).heap.size (w8.alloc o) w') := fun o => mheight_14 (HM8.out.keeps ((Grew.refl w8).alloc o).below)
 have hlt8 : pb < w8.heap.size := cell_lt c8
 have hne8 : ¬ pb = w8.heap.size := by omega
 have hhi : (1 : Int) ≤ (t.high : Nat) := by omega
 generalize t.high = H at *
 clear hg8 c7 HM7 hb7 HG HTI hh1
 go_wp2_with fail
 refine Calls.mono (HHt.out _) ?_
 rintro e w9 ⟨rfl, hg9⟩
 have hb9 : Below w.heap.size w w9 := (hb8.trans (((Grew.refl w8).alloc _).below.mono hb8.size)).trans (hg9.mono (hb8.trans (((Grew.refl w8).alloc _).below.mono hb8.size)).size)
 clear hg9
 go_wp2_with fail
 go_ret
 exact ⟨rfl, hb9⟩

end Go.Proofs.YtlnecfjnffdciaaGreat

namespace Go.Proofs.YtlnecfjnffdciaaGreat
open Go.RowKit Go.Shelf

theorem nil_slq (w : World) : SlQ 0 16 w [] (.slice none 0 0) := ⟨none, 0, rfl, by simp, by simp, (fun h => absurd rfl h), (fun p hp => by cases hp)⟩

end Go.Proofs.YtlnecfjnffdciaaGreat

