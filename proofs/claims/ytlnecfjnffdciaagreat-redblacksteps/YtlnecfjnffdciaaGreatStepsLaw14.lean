import Derived.Test.YtlnecfjnffdciaaGreatRAss14
import Derived.Test.YtlnecfjnffdciaaGreatWithP14
import Derived.Test.YtlnecfjnffdciaaGreatStepsK
import Derived.BigQuiet
import Derived.Deep.RegionHeld3
namespace Go.Proofs.YtlnecfjnffdciaaGreat
open Go.RowKit Go.Shelf

def GpPost (o : Option PT) (E : Int) (w : World) (e : Ending) (w' : World) : Prop := Below w.heap.size w w' ∧ ∃ a c, e = .returned (.tuple #[.agg #[.int .i64 (valO o).kind, .int .i64 (valO o).num, .string (valO o).text, .slice a (valO o).items.length c], .bool o.isSome, .int .i64 E]) ∧ Lies 16 w' (valO o).items (.slice a (valO o).items.length c)

def getO (d q : Nat) (k : VT) (l : List PT) : Option PT := if rightV d k = true then findK q k l else none

theorem GetPost14.gp {o : Option PT} {E : Int} {w : World} {e : Ending} {w' : World} (h : GetPost14 o E w e w') (hE : o ≠ none → E = 0) : GpPost o E w e w' := by
 obtain ⟨hb, ⟨rfl, rfl⟩ | ⟨x, u, rfl, rfl, hl⟩⟩ := h
 ·exact ⟨hb, none, 0, rfl, zero_lies _ _⟩
 ·obtain ⟨a, c, rfl, _⟩ := LiesB.slice hl
  rw [hE (by simp)]
  exact ⟨hb, a, c, rfl, (LiesX.of_b hl).lies⟩

theorem getm_14 (d b q : Nat) (t : RT PT) (k : VT) (ku : Value) (w : World) (hm : MC w q t b) (hk : Lies d w k.items ku) (ht : k.text.size ≤ 9223372036854775807) : Calls Tryz.prog 20 #[.pointer (some ⟨b, 0, none⟩), .agg #[.int .i64 k.kind, .int .i64 k.num, .string k.text, ku]] w (GpPost (getO d q k t.items) (errOf (rightV d k)) w) := by
 unfold getO
 cases hr : rightV d k with
 | false =>
  rw [if_neg (by simp)]
  exact (get_wrong d b k ku w hk ht hr).mono (fun e w' h => h.gp (fun h => absurd rfl h))
 | true =>
  rw [if_pos rfl, ← find_is hm.rises]
  exact (get_right d b q t k ku w hm hk ht hr).mono (fun e w' h => h.gp (fun _ => rfl))

theorem getr_14 {w0 w : World} {q : Nat} {l : List PT} {c : Nat} (h : DM w0 q l c) (hw0 : Below w0.heap.size w0 w) (d : Nat) (k : VT) (ku : Value) (hk : Lies d w k.items ku) : Calls Tryz.prog 21 #[.pointer (some ⟨c, 0, none⟩), .agg #[.int .i64 k.kind, .int .i64 k.num, .string k.text, ku]] w (GpPost (getO d q k l) (errOf (rightV d k)) w) := by
 unfold getO
 cases hr : rightV d k with
 | false =>
  rw [if_neg (by simp)]
  exact (rget_wrong14 d c k ku w hk hr).mono (fun e w' ⟨h1, a, c, h2, h3⟩ => ⟨h1, a, c, h2, h3.lies⟩)
 | true =>
  obtain ⟨h1, h2⟩ := canon hk hr
  rw [if_pos rfl]
  exact (rget_right14 h hw0 k ku h1 h2).mono (fun e w' ⟨h1, a, c, h2, h3⟩ => ⟨h1, a, c, h2, h3.lies⟩)

def MpPost (q : Nat) (l : List PT) (E : Int) (w : World) (e : Ending) (w' : World) : Prop := Below w.heap.size w w' ∧ ∃ p : Option Addr, e = .returned (.tuple #[.pointer p, .int .i64 E]) ∧ ((E ≠ 0 ∧ p = none) ∨ (E = 0 ∧ ∃ t b, p = some ⟨b, 0, none⟩ ∧ MC w' q t b ∧ t.items = l))
def DpPost (q : Nat) (l : List PT) (E : Int) (w : World) (e : Ending) (w' : World) : Prop := Below w.heap.size w w' ∧ ∃ p : Option Addr, e = .returned (.tuple #[.pointer p, .int .i64 E]) ∧ ((E ≠ 0 ∧ p = none) ∨ (E = 0 ∧ ∃ b, p = some ⟨b, 0, none⟩ ∧ DM w' q l b))

theorem OrPost.mp {q : Nat} {l : List PT} {E : Int} {w : World} {e : Ending} {w' : World} (h : OrPost q l E w e w') : MpPost q l E w e w' := by
 obtain ⟨hb, ⟨h0, rfl⟩ | ⟨rfl, t, b, rfl, hm⟩⟩ := h
 ·exact ⟨hb, none, rfl, .inl ⟨h0, rfl⟩⟩
 ·exact ⟨hb, _, rfl, .inr ⟨rfl, t, b, rfl, hm⟩⟩

theorem DoPost.dp {q : Nat} {l : List PT} {E : Int} {w : World} {e : Ending} {w' : World} (h : DoPost q l E w e w') : DpPost q l E w e w' := by
 obtain ⟨hb, ⟨h0, rfl⟩ | ⟨rfl, b, rfl, hm⟩⟩ := h
 ·exact ⟨hb, none, rfl, .inl ⟨h0, rfl⟩⟩
 ·exact ⟨hb, _, rfl, .inr ⟨rfl, b, rfl, hm⟩⟩

theorem mnew_14 (o : Int) (w : World) : Calls Tryz.prog 18 #[.int .i64 o] w (MpPost o.toNat [] (ordErr o) w) := by
 have he : ofErr 16 o ([] : List PT) = ordErr o := by
  unfold ofErr
  by_cases h : ordErr o ≠ 0
  ·rw [if_pos h]
  ·rw [if_neg h]
   have : ordErr o = 0 := by omega
   rw [this]; unfold pErr; simp
 have HO : Hid (Calls Tryz.prog 9 #[.int .i64 o, .slice none 0 0] w (MpPost o.toNat [] (ordErr o) w)) := by
  refine Calls.mono (mof_14 16 o [] _ w (nil_slq w)) ?_
  intro e w' ⟨hb, h⟩
  have e0 : (([] : List PP).map trT) = [] := rfl
  rw [e0, he] at h
  rcases h with ⟨hne, rfl⟩ | ⟨h0, t, b, rfl, hm, hme⟩
  ·exact ⟨hb, none, rfl, .inl ⟨hne, rfl⟩⟩
  ·refine ⟨hb, _, by rw [h0], .inr ⟨h0, t, b, rfl, hm, ?_⟩⟩
   refine List.eq_nil_iff_forall_not_mem.2 fun y hy => ?_
   have h9 := (hme y).1 hy
   have e9 : (kyd (cmpQ 16) (([] : List PP).length + 1) []).map trT = [] := by kernel_rfl
   rw [e9] at h9
   cases h9
 clear he
 go_enter Tryz.func18, Tryz.ntmps18
 go_wp2_with fail
 refine Calls.mono HO.out ?_
 rintro e w1 ⟨hb, p, rfl, hp⟩
 have HE : Hid (MpPost o.toNat [] (ordErr o) w (.returned (.tuple #[.pointer p, .int .i64 (ordErr o)])) w1) := ⟨hb, p, rfl, hp⟩
 clear hb hp HO
 go_wp2_with fail
 go_ret2
 exact HE.out

theorem same_val14 (x : VT) (u v : Value) (W : World) (h1 : Lies 16 W x.items u) (h2 : Lies 16 W x.items v) : Calls Tryz.prog 17 #[.agg #[.int .i64 x.kind, .int .i64 x.num, .string x.text, u], .agg #[.int .i64 x.kind, .int .i64 x.num, .string x.text, v]] W fun e W' => e = .returned (.bool true) ∧ Below W.heap.size W W' :=
 (same_any 16 x x _ _ W h1 h2).mono fun e W' h => ⟨by rw [h.1, sameV_self], h.2.below⟩

end Go.Proofs.YtlnecfjnffdciaaGreat

namespace Go.Proofs.YtlnecfjnffdciaaGreat
open Go.RowKit Go.Shelf

def BothM (w : World) (q : Nat) (pm pd : Option Addr) : Prop := ∃ t b c, pm = some ⟨b, 0, none⟩ ∧ pd = some ⟨c, 0, none⟩ ∧ MC w q t b ∧ DM w q t.items c

theorem BothM.keeps {w w' : World} {q : Nat} {pm pd : Option Addr} (h : BothM w q pm pd) (hb : Below w.heap.size w w') : BothM w' q pm pd := by
 obtain ⟨t, b, c, h1, h2, h3, h4⟩ := h
 exact ⟨t, b, c, h1, h2, h3.keeps hb, h4.keeps hb⟩

def StO (w : World) (q : Nat) (E : Int) (pm pd : Option Addr) : Prop := (E ≠ 0 ∧ pm = none ∧ pd = none) ∨ (E = 0 ∧ BothM w q pm pd)

set_option maxRecDepth 100000 in
set_option maxHeartbeats 32000000 in
theorem steps14_walk (o : Int) (n : Nat) (ss : List StK) (u : Value) (w : World) (hu : SlK n w ss u) : Calls Tryz.prog 4 #[.int .i64 o, u] w fun e w' => e = .returned (.bool true) ∧ Below w.heap.size w w' := by
 obtain ⟨a, cp, rfl, hcp, hmx, hrow, hgood⟩ := hu
 obtain ⟨N, hN⟩ : ∃ N, N = ss.length := ⟨_, rfl⟩
 rw [← hN] at hcp hmx ⊢
 have HN : Hid (N = ss.length) := hN
 have HRw : Hid (ss ≠ [] → ∃ b o, a = some ⟨b, o, none⟩ ∧ ∀ (i : Nat) (h : i < ss.length), NineAt w b (o + i * 9) (ss[i]'h)) := hrow
 have HGd : Hid (∀ s ∈ ss, Sound n w s.1 ∧ Sound n w s.2.1) := hgood
 have HNm : Hid (Calls Tryz.prog 18 #[.int .i64 o] w (MpPost o.toNat [] (ordErr o) w)) := mnew_14 o w
 have HNd : Hid (∀ V, Calls Tryz.prog 19 #[.int .i64 o] V (DpPost o.toNat [] (ordErr o) V)) := fun V => (rnew_14 o V).mono (fun e w' h => h.dp)
 have HSp : Hid (∀ V, Calls Tryz.prog 14 #[] V fun e w' => e = .returned (.bool true) ∧ Below V.heap.size V w') := speaks14_any
 obtain ⟨E0, hE0⟩ : ∃ E0, E0 = ordErr o := ⟨_, rfl⟩
 obtain ⟨q, hq⟩ : ∃ q, q = o.toNat := ⟨_, rfl⟩
 rw [← hE0, ← hq] at HNm HNd
 clear hrow hgood hN hE0 hq
 go_enter Tryz.func4, Tryz.ntmps4
 go_wp2_with fail
 refine Calls.mono HNm.out ?_
 rintro e w1 ⟨hb1, pm, rfl, hpm⟩
 have HNd1 := show Hid _ from HNd.out w1
 clear HNm HNd
 have Hpm : Hid _ := hpm
 clear hpm
 go_wp2_with fail
 refine Calls.mono HNd1.out ?_
 rintro e w2 ⟨hg2, pd, rfl, hpd⟩
 have hb2 : Below w.heap.size w w2 := hb1.trans (hg2.mono hb1.size)
 have HSt : Hid (StO w2 q E0 pm pd) := by
  rcases Hpm.out with ⟨h0, rfl⟩ | ⟨h0, t, b, rfl, hm, hi⟩
  ·rcases hpd with ⟨_, rfl⟩ | ⟨h1, _⟩
   ·exact .inl ⟨h0, rfl, rfl⟩
   ·exact absurd h1 h0
  ·rcases hpd with ⟨h1, _⟩ | ⟨_, c, rfl, hd⟩
   ·exact absurd h0 h1
   ·exact .inr ⟨h0, t, b, c, rfl, rfl, hm.keeps hg2, by rw [hi]; exact hd⟩
 clear Hpm hpd HNd1 hg2 hb1
 rcases HSt.out with ⟨h0, rfl, rfl⟩ | ⟨rfl, hbm⟩
 ·have HSp2 := show Hid _ from HSp.out w2
  have hne : (E0 != 0) = true := by simpa using h0
  clear HSt HSp
  go_wp2_with fail
  refine Calls.mono HSp2.out ?_
  rintro e w3 ⟨rfl, hg3⟩
  have hb3 := hb2.trans (hg3.mono hb2.size)
  clear HSp2 hg3
  go_wp2_with fail
  go_ret
  exact ⟨rfl, hb3⟩
 ·have HBm : Hid (BothM w2 q pm pd) := hbm
  have HB2 : Hid (Below w.heap.size w w2) := hb2
  obtain ⟨t0, b0, c0, rfl, rfl, _, _⟩ := hbm
  clear HSt hb2
  go_wp2_with fail
  go_loopg [5, 7, 9] (N + 1) (fun z vm vd vi wr => ∃ (k : Nat) (pm pd : Option Addr), vm = .pointer pm ∧ vd = .pointer pd ∧ vi = .int .i64 (k : Int) ∧ k ≤ N ∧ z = N + 1 - k ∧ Hid (BothM wr q pm pd) ∧ Hid (Below w.heap.size w wr))
  case atStart => exact ⟨0, _, _, rfl, rfl, rfl, by omega, by omega, HBm, HB2⟩
  case round =>
   obtain ⟨k, pm, pd, rfl, rfl, rfl, hkN, hz, HB, HW⟩ := hrel
   clear HBm HB2
   have Hz : Hid _ := hz
   clear hz
   obtain ⟨t, b, c, rfl, rfl, hm, hd⟩ := HB.out
   have Hm : Hid (MC wr q t b) := hm
   have Hd : Hid (DM wr q t.items c) := hd
   clear hm hd
   by_cases hlt : k < N ∧ k < 300
   ·obtain ⟨hlN, hl3⟩ := hlt
    have hlNI : (k : Int) < (N : Nat) := by omega
    have hl3I : (k : Int) < 300 := by omega
    have hlq : k < ss.length := by have := HN.out; omega
    obtain ⟨B, O, rfl, hall⟩ := HRw.out (fun e => by rw [e] at hlq; cases hlq)
    have hnine := hall k hlq
    have hsd := HGd.out ss[k] (List.getElem_mem hlq)
    obtain ⟨⟨⟨x, xu⟩, ⟨y, yu⟩, lb⟩, hs⟩ : ∃ s, s = ss[k] := ⟨_, rfl⟩
    rw [← hs] at hnine hsd
    obtain ⟨ax, cx, hxu, _⟩ := Lies.slice hsd.1.1
    obtain ⟨ay, cy, hyu, _⟩ := Lies.slice hsd.2.1
    simp only at hxu hyu
    subst hxu hyu
    have hkc : k < cp := by omega
    obtain ⟨n0, n1, n2, n3, n4, n5, n6, n7, n8⟩ := hnine.keeps HW.out
    simp only at n0 n1 n2 n3 n4 n5 n6 n7 n8
    have HNine : Hid (NineAt wr B (O + k * 9) ((x, .slice ax x.items.length cx), (y, .slice ay y.items.length cy), lb)) := hnine.keeps HW.out
    have HX : Hid (∀ V, Below wr.heap.size wr V → Lies n V x.items (.slice ax x.items.length cx) ∧ x.text.size ≤ 9223372036854775807) := fun V hV => ⟨Lies.keeps (HW.out.trans (hV.mono HW.out.size)) _ _ _ hsd.1.1, hsd.1.2⟩
    have HY : Hid (∀ V, Below wr.heap.size wr V → Lies n V y.items (.slice ay y.items.length cy) ∧ y.text.size ≤ 9223372036854775807) := fun V hV => ⟨Lies.keeps (HW.out.trans (hV.mono HW.out.size)) _ _ _ hsd.2.1, hsd.2.2⟩
    clear hall hnine hsd hs hlq
    obtain ⟨OO, hOO⟩ : ∃ OO, OO = getO n q x t.items := ⟨_, rfl⟩
    obtain ⟨EG, hEG⟩ : ∃ EG, EG = errOf (rightV n x) := ⟨_, rfl⟩
    have HGm : Hid (∀ V, Below wr.heap.size wr V → Calls Tryz.prog 20 #[.pointer (some ⟨b, 0, none⟩), .agg #[.int .i64 x.kind, .int .i64 x.num, .string x.text, .slice ax x.items.length cx]] V (GpPost OO EG V)) := fun V hV => by rw [hOO, hEG]; exact getm_14 n b q t x _ V (Hm.out.keeps hV) (HX.out V hV).1 (HX.out V hV).2
    have HGr : Hid (∀ V, Below wr.heap.size wr V → Calls Tryz.prog 21 #[.pointer (some ⟨c, 0, none⟩), .agg #[.int .i64 x.kind, .int .i64 x.num, .string x.text, .slice ax x.items.length cx]] V (GpPost OO EG V)) := fun V hV => by rw [hOO, hEG]; exact getr_14 Hd.out hV n x _ (HX.out V hV).1
    clear hOO hEG
    have HGm1 := show Hid _ from HGm.out wr (Below.refl _ _)
    go_wp2_with fail
    refine Calls.mono HGm1.out ?_
    rintro e w3 ⟨hg3, a3, c3, rfl, hl3'⟩
    have HL3 : Hid (Lies 16 w3 (valO OO).items (.slice a3 (valO OO).items.length c3)) := hl3'
    obtain ⟨TV, hTV⟩ : ∃ TV, TV = valO OO := ⟨_, rfl⟩
    rw [← hTV] at HL3
    obtain ⟨W3, hW3⟩ : ∃ W3, W3 = w3.alloc (.cells #[.int .i64 TV.kind, .int .i64 TV.num, .string TV.text, .slice a3 TV.items.length c3] 34) := ⟨_, rfl⟩
    have hb3 : Below w3.heap.size w3 W3 := by rw [hW3]; exact ((Grew.refl w3).alloc _).below
    have HX3 : Hid (Bx W3 w3.heap.size TV (.slice a3 TV.items.length c3)) := by rw [hW3]; exact bx_alloc _ _ _
    have HB3 : Hid (Below wr.heap.size wr W3) := hg3.trans (hb3.mono hg3.size)
    have HL3' : Hid (Lies 16 W3 TV.items (.slice a3 TV.items.length c3)) := Lies.keeps hb3 _ _ _ HL3.out
    have HGr1 := show Hid _ from HGr.out W3 HB3.out
    have hm0 := hg3
    clear n0 n1 n2 n3 n4 n5 n6 n7 n8 hl3' HL3 HGm HGm1 HGr hg3 hb3
    obtain ⟨n0, n1, n2, n3, n4, n5, n6, n7, n8⟩ := HNine.out.keeps hm0
    simp only at n0 n1 n2 n3 n4 n5 n6 n7 n8
    have hBl := cell_lt n0
    simp only at hBl
    clear hm0
    rw [← hTV]
    have HTV : Hid (TV = valO OO) := hTV
    clear hTV
    go_wp2_with fail
    rw [← hW3]
    clear hW3
    refine Calls.mono HGr1.out ?_
    rintro e w4 ⟨hg4, a4, c4, rfl, hl4⟩
    rw [← HTV.out] at hl4 ⊢
    obtain ⟨W4, hW4⟩ : ∃ W4, W4 = w4.alloc (.cells #[.int .i64 TV.kind, .int .i64 TV.num, .string TV.text, .slice a4 TV.items.length c4] 34) := ⟨_, rfl⟩
    have hb4 : Below w4.heap.size w4 W4 := by rw [hW4]; exact ((Grew.refl w4).alloc _).below
    have hb34 : Below W3.heap.size W3 W4 := hg4.trans (hb4.mono hg4.size)
    have HX4 : Hid (Bx W4 w4.heap.size TV (.slice a4 TV.items.length c4)) := by rw [hW4]; exact bx_alloc _ _ _
    have HX34 : Hid (Bx W4 w3.heap.size TV (.slice a3 TV.items.length c3)) := HX3.out.keeps hb34
    have HBA : Hid (Below wr.heap.size wr W4) := HB3.out.trans (hb34.mono HB3.out.size)
    have HVc : Hid (Calls Tryz.prog 17 #[.agg #[.int .i64 TV.kind, .int .i64 TV.num, .string TV.text, .slice a3 TV.items.length c3], .agg #[.int .i64 TV.kind, .int .i64 TV.num, .string TV.text, .slice a4 TV.items.length c4]] W4 fun e W' => e = .returned (.bool true) ∧ Below W4.heap.size W4 W') := same_val14 TV _ _ W4 (Lies.keeps hb34 _ _ _ HL3'.out) (Lies.keeps hb4 _ _ _ hl4)
    obtain ⟨r0, r1, r2, r3, _, _, _, _⟩ := HX34.out
    obtain ⟨s0, s1, s2, s3, _, _, _, _⟩ := HX4.out
    have hHl : w3.heap.size < w4.heap.size := by have := HX34.out.c0; have h8 := (HX3.out.keeps hg4).c0; exact cell_lt h8
    have hX4' := HX3.out.keeps hg4
    clear n0 n1 n2 n3 n4 n5 n6 n7 n8 hl4 HL3' HGr1 HX3 HB3 hb34 hg4 hb4 HTV hBl r0 r1 r2 r3
    obtain ⟨r0, r1, r2, r3, _, _, _, _⟩ := hX4'
    rw [hW4] at HVc
    go_wp2_with fail
    refine Calls.mono HVc.out ?_
    rw [← hW4]
    clear hW4 HVc
    rintro e w5 ⟨rfl, hg5⟩
    have hg5' := HBA.out.trans (hg5.mono HBA.out.size)
    have HB5 : Hid (Below wr.heap.size wr w5) := hg5'
    obtain ⟨n0, n1, n2, n3, n4, n5, n6, n7, n8⟩ := HNine.out.keeps hg5'
    simp only at n0 n1 n2 n3 n4 n5 n6 n7 n8
    clear hg5 hg5' HBA HX34 HX4 r0 r1 r2 r3 s0 s1 s2 s3 hHl
    cases lb with
    | true =>
     obtain ⟨E, hE⟩ : ∃ E, E = errOf (rightV n x) := ⟨_, rfl⟩
     have HMC : Hid (Calls Tryz.prog 22 #[.pointer (some ⟨b, 0, none⟩), .agg #[.int .i64 x.kind, .int .i64 x.num, .string x.text, .slice ax x.items.length cx]] w5 (MpPost q (lessK q x t.items) E w5)) := by rw [hE]; exact (dissoc_14 n b q t x _ w5 (Hm.out.keeps HB5.out) (HX.out w5 HB5.out).1 (HX.out w5 HB5.out).2).mono (fun e w' h => h.mp)
     have HDC : Hid (∀ V, Below wr.heap.size wr V → Calls Tryz.prog 23 #[.pointer (some ⟨c, 0, none⟩), .agg #[.int .i64 x.kind, .int .i64 x.num, .string x.text, .slice ax x.items.length cx]] V (DpPost q (lessK q x t.items) E V)) := fun V hV => by rw [hE]; exact (rdis_14 Hd.out hV n x _ (HX.out V hV).1).mono (fun e w' h => h.dp)
     clear hE
     go_wp2_with fail
     refine Calls.mono HMC.out ?_
     rintro e w6 ⟨hg6, pm, rfl, hpm⟩
     have HB6 : Hid (Below wr.heap.size wr w6) := HB5.out.trans (hg6.mono HB5.out.size)
     have Hpm : Hid _ := hpm
     have HCD := show Hid _ from HDC.out w6 HB6.out
     clear HDC HMC hpm n0 n1 n2 n3 n4 n5 n6 n7 n8 HB5 hg6
     obtain ⟨n0, n1, n2, n3, n4, n5, n6, n7, n8⟩ := HNine.out.keeps HB6.out
     simp only at n0 n1 n2 n3 n4 n5 n6 n7 n8
     go_wp2_with fail
     refine Calls.mono HCD.out ?_
     rintro e w7 ⟨hg7, pd, rfl, hpd⟩
     have HB7 : Hid (Below wr.heap.size wr w7) := HB6.out.trans (hg7.mono HB6.out.size)
     have HSt : Hid (StO w7 q E pm pd) := by
      rcases Hpm.out with ⟨h0, rfl⟩ | ⟨h0, t1, b1, rfl, hm1, hi1⟩
      ·rcases hpd with ⟨_, rfl⟩ | ⟨h1, _⟩
       ·exact .inl ⟨h0, rfl, rfl⟩
       ·exact absurd h1 h0
      ·rcases hpd with ⟨h1, _⟩ | ⟨_, c1, rfl, hd1⟩
       ·exact absurd h0 h1
       ·exact .inr ⟨h0, t1, b1, c1, rfl, rfl, hm1.keeps hg7, by rw [hi1]; exact hd1⟩
     clear Hpm hpd HCD hg7 HB6 n0 n1 n2 n3 n4 n5 n6 n7 n8
     have HBo : Hid (BothM w7 q (some ⟨b, 0, none⟩) (some ⟨c, 0, none⟩)) := HB.out.keeps HB7.out
     rcases HSt.out with ⟨h0, rfl, rfl⟩ | ⟨rfl, hbm⟩
     ·have hne : (E != 0) = true := by simpa using h0
      have hne2 : decide (E = 0) = false := decide_eq_false h0
      obtain ⟨t2, b2, c2, e1, e2, hm2, hd2⟩ := HBo.out
      simp only [Option.some.injEq, Addr.mk.injEq] at e1 e2
      obtain ⟨rfl, _⟩ := e1
      obtain ⟨rfl, _⟩ := e2
      obtain ⟨qs2, v2, hr2, hq2, hs2⟩ := hd2.row
      obtain ⟨a2, cp2, rfl, _⟩ := hs2.slice
      obtain ⟨N2, hN2⟩ : ∃ N2, N2 = qs2.length := ⟨_, rfl⟩
      have hts2 : t2.size = N2 := by rw [RT.size_items, hN2, ← hq2, List.length_map]
      rw [← hN2] at hr2
      have HLn : Hid (∀ V, Below w7.heap.size w7 V → Calls Tryz.prog 26 #[.pointer (some ⟨b, 0, none⟩)] V fun e w' => e = .returned (.int .i64 (N2 : Int)) ∧ Below V.heap.size V w') := fun V hV => by
       have := mlen_14 (hm2.keeps hV)
       rwa [hts2] at this
      have HFl : Hid (∀ V, Below w7.heap.size w7 V → Calls Tryz.prog 27 #[.pointer (some ⟨b, 0, none⟩)] V fun e w' => e = .returned (.bool true) ∧ Below V.heap.size V w') := fun V hV => flat_14 (hm2.keeps hV)
      have HBn : Hid (BothM w7 q (some ⟨b, 0, none⟩) (some ⟨c, 0, none⟩)) := ⟨t2, b, c, rfl, rfl, hm2, hd2⟩
      have k1 := hr2
      have hbc : Below w7.heap.size w7 w7 := Below.refl _ _
      clear HSt hm2 hd2 hr2 hq2 hs2 hN2 hts2 HBo HB
      go_wp2_with fail
      go_region_held3 (fun w' => w'.cell? ⟨c, 1, none⟩ = some (.slice a2 N2 cp2)) (go_keep)
       (first
        | (go_at_call 26; (with_reducible refine Calls.mono (HLn.out _ (hbc.trans ((Below.refl _ _).drew.mono hbc.size))) ?_); rintro e w8 ⟨rfl, hg⟩; replace hbc := hbc.trans ((Below.drew (Below.refl _ _)).trans (hg.mono hbc.size)); have k1 := cell_keeps hg k1; clear hg)
        | (go_at_call 27; (with_reducible refine Calls.mono (HFl.out _ hbc) ?_); rintro e w9 ⟨rfl, hg⟩; replace hbc := hbc.trans (hg.mono hbc.size); have k1 := cell_keeps hg k1; clear hg))
      have HBe : Hid (BothM w9 q (some ⟨b, 0, none⟩) (some ⟨c, 0, none⟩)) := HBn.out.keeps hbc
      have HBz : Hid (Below w.heap.size w w9) := HW.out.trans ((HB7.out.trans (hbc.mono HB7.out.size)).mono HW.out.size)
      clear k1 hbc HLn HFl HBn
      go_wp2_with fail
      go_roundg (N + 1 - (k + 1))
      case measure => have := Hz.out; omega
      case rel => exact ⟨k + 1, _, _, rfl, rfl, by go_num, by omega, rfl, HBe, HBz⟩
     ·obtain ⟨t2, b2, c2, rfl, rfl, hm2, hd2⟩ := hbm
      obtain ⟨qs2, v2, hr2, hq2, hs2⟩ := hd2.row
      obtain ⟨a2, cp2, rfl, _⟩ := hs2.slice
      obtain ⟨N2, hN2⟩ : ∃ N2, N2 = qs2.length := ⟨_, rfl⟩
      have hts2 : t2.size = N2 := by rw [RT.size_items, hN2, ← hq2, List.length_map]
      rw [← hN2] at hr2
      have HLn : Hid (∀ V, Below w7.heap.size w7 V → Calls Tryz.prog 26 #[.pointer (some ⟨b2, 0, none⟩)] V fun e w' => e = .returned (.int .i64 (N2 : Int)) ∧ Below V.heap.size V w') := fun V hV => by
       have := mlen_14 (hm2.keeps hV)
       rwa [hts2] at this
      have HFl : Hid (∀ V, Below w7.heap.size w7 V → Calls Tryz.prog 27 #[.pointer (some ⟨b2, 0, none⟩)] V fun e w' => e = .returned (.bool true) ∧ Below V.heap.size V w') := fun V hV => flat_14 (hm2.keeps hV)
      have HBn : Hid (BothM w7 q (some ⟨b2, 0, none⟩) (some ⟨c2, 0, none⟩)) := ⟨t2, b2, c2, rfl, rfl, hm2, hd2⟩
      have k1 := hr2
      have hbc : Below w7.heap.size w7 w7 := Below.refl _ _
      clear HSt hm2 hd2 hr2 hq2 hs2 hN2 hts2 HBo HB
      go_wp2_with fail
      go_region_held3 (fun w' => w'.cell? ⟨c2, 1, none⟩ = some (.slice a2 N2 cp2)) (go_keep)
       (first
        | (go_at_call 26; (with_reducible refine Calls.mono (HLn.out _ (hbc.trans ((Below.refl _ _).drew.mono hbc.size))) ?_); rintro e w8 ⟨rfl, hg⟩; replace hbc := hbc.trans ((Below.drew (Below.refl _ _)).trans (hg.mono hbc.size)); have k1 := cell_keeps hg k1; clear hg)
        | (go_at_call 27; (with_reducible refine Calls.mono (HFl.out _ hbc) ?_); rintro e w9 ⟨rfl, hg⟩; replace hbc := hbc.trans (hg.mono hbc.size); have k1 := cell_keeps hg k1; clear hg))
      have HBe : Hid (BothM w9 q (some ⟨b2, 0, none⟩) (some ⟨c2, 0, none⟩)) := HBn.out.keeps hbc
      have HBz : Hid (Below w.heap.size w w9) := HW.out.trans ((HB7.out.trans (hbc.mono HB7.out.size)).mono HW.out.size)
      clear k1 hbc HLn HFl HBn
      go_wp2_with fail
      go_roundg (N + 1 - (k + 1))
      case measure => have := Hz.out; omega
      case rel => exact ⟨k + 1, _, _, rfl, rfl, by go_num, by omega, rfl, HBe, HBz⟩
    | false =>
     obtain ⟨E, hE⟩ : ∃ E, E = assocL n q x y t.items := ⟨_, rfl⟩
     have HMC : Hid (∀ V, Below wr.heap.size wr V → Calls Tryz.prog 24 #[.pointer (some ⟨b, 0, none⟩), .agg #[.int .i64 x.kind, .int .i64 x.num, .string x.text, .slice ax x.items.length cx], .agg #[.int .i64 y.kind, .int .i64 y.num, .string y.text, .slice ay y.items.length cy]] V (MpPost q (withK q x y t.items) E V)) := fun V hV => by
      rw [hE, ← assocL_is Hm.out.rises, ← with_is Hm.out.rises]
      exact (assoc_14 n b q t x y _ _ V (Hm.out.keeps hV) (HX.out V hV).1 (HX.out V hV).2 (HY.out V hV).1 (HY.out V hV).2).mono (fun e w' h => h.mp)
     have HDC : Hid (∀ V, Below wr.heap.size wr V → Calls Tryz.prog 25 #[.pointer (some ⟨c, 0, none⟩), .agg #[.int .i64 x.kind, .int .i64 x.num, .string x.text, .slice ax x.items.length cx], .agg #[.int .i64 y.kind, .int .i64 y.num, .string y.text, .slice ay y.items.length cy]] V (DpPost q (withK q x y t.items) E V)) := fun V hV => by rw [hE]; exact (rass_14 Hd.out hV n x y _ _ (HX.out V hV).1 (HX.out V hV).2 (HY.out V hV).1 (HY.out V hV).2).mono (fun e w' h => h.dp)
     clear hE
     go_wp2_with fail
     go_region_held3 (fun w' => w'.cell? ⟨B, O + k * 9, none⟩ = some (.int .i64 x.kind) ∧ w'.cell? ⟨B, O + k * 9 + 1, none⟩ = some (.int .i64 x.num) ∧ w'.cell? ⟨B, O + k * 9 + 2, none⟩ = some (.string x.text) ∧ w'.cell? ⟨B, O + k * 9 + 3, none⟩ = some (.slice ax x.items.length cx) ∧ w'.cell? ⟨B, O + k * 9 + 4, none⟩ = some (.int .i64 y.kind) ∧ w'.cell? ⟨B, O + k * 9 + 5, none⟩ = some (.int .i64 y.num) ∧ w'.cell? ⟨B, O + k * 9 + 6, none⟩ = some (.string y.text) ∧ w'.cell? ⟨B, O + k * 9 + 7, none⟩ = some (.slice ay y.items.length cy)) (go_keep)
      (first | (go_at_call 24; (with_reducible refine Calls.mono (HMC.out _ (HB5.out.trans ((Below.refl _ _).drew.mono HB5.out.size))) ?_); rintro e w6 ⟨hg', pm, rfl, hpm⟩; have hg : Below w5.heap.size w5 w6 := (Below.drew (Below.refl _ _)).trans hg'; have HB6 : Hid (Below wr.heap.size wr w6) := HB5.out.trans (hg.mono HB5.out.size); have n0 := cell_keeps hg n0; have n1 := cell_keeps hg n1; have n2 := cell_keeps hg n2; have n3 := cell_keeps hg n3; have n4 := cell_keeps hg n4; have n5 := cell_keeps hg n5; have n6 := cell_keeps hg n6; have n7 := cell_keeps hg n7; clear hg hg'))
     have Hpm : Hid _ := hpm
     clear hpm n0 n1 n2 n3 n4 n5 n6 n7 n8 HB5 HMC
     obtain ⟨n0, n1, n2, n3, n4, n5, n6, n7, n8⟩ := HNine.out.keeps HB6.out
     simp only at n0 n1 n2 n3 n4 n5 n6 n7 n8
     go_wp2_with fail
     go_region_held3 (fun w' => w'.cell? ⟨B, O + k * 9, none⟩ = some (.int .i64 x.kind) ∧ w'.cell? ⟨B, O + k * 9 + 1, none⟩ = some (.int .i64 x.num) ∧ w'.cell? ⟨B, O + k * 9 + 2, none⟩ = some (.string x.text) ∧ w'.cell? ⟨B, O + k * 9 + 3, none⟩ = some (.slice ax x.items.length cx) ∧ w'.cell? ⟨B, O + k * 9 + 4, none⟩ = some (.int .i64 y.kind) ∧ w'.cell? ⟨B, O + k * 9 + 5, none⟩ = some (.int .i64 y.num) ∧ w'.cell? ⟨B, O + k * 9 + 6, none⟩ = some (.string y.text) ∧ w'.cell? ⟨B, O + k * 9 + 7, none⟩ = some (.slice ay y.items.length cy)) (go_keep)
      (first | (go_at_call 25; (with_reducible refine Calls.mono (HDC.out _ (HB6.out.trans ((Below.refl _ _).drew.mono HB6.out.size))) ?_); rintro e w7 ⟨hg', pd, rfl, hpd⟩; have hg : Below w6.heap.size w6 w7 := (Below.drew (Below.refl _ _)).trans hg'; have hg7 := hg; have n0 := cell_keeps hg n0; have n1 := cell_keeps hg n1; have n2 := cell_keeps hg n2; have n3 := cell_keeps hg n3; have n4 := cell_keeps hg n4; have n5 := cell_keeps hg n5; have n6 := cell_keeps hg n6; have n7 := cell_keeps hg n7; clear hg hg'))
     have HB7 : Hid (Below wr.heap.size wr w7) := HB6.out.trans (hg7.mono HB6.out.size)
     have HSt : Hid (StO w7 q E pm pd) := by
      rcases Hpm.out with ⟨h0, rfl⟩ | ⟨h0, t1, b1, rfl, hm1, hi1⟩
      ·rcases hpd with ⟨_, rfl⟩ | ⟨h1, _⟩
       ·exact .inl ⟨h0, rfl, rfl⟩
       ·exact absurd h1 h0
      ·rcases hpd with ⟨h1, _⟩ | ⟨_, c1, rfl, hd1⟩
       ·exact absurd h0 h1
       ·exact .inr ⟨h0, t1, b1, c1, rfl, rfl, hm1.keeps hg7, by rw [hi1]; exact hd1⟩
     clear Hpm hpd HDC hg7 HB6 n0 n1 n2 n3 n4 n5 n6 n7 n8
     have HBo : Hid (BothM w7 q (some ⟨b, 0, none⟩) (some ⟨c, 0, none⟩)) := HB.out.keeps HB7.out
     rcases HSt.out with ⟨h0, rfl, rfl⟩ | ⟨rfl, hbm⟩
     ·have hne : (E != 0) = true := by simpa using h0
      have hne2 : decide (E = 0) = false := decide_eq_false h0
      obtain ⟨t2, b2, c2, e1, e2, hm2, hd2⟩ := HBo.out
      simp only [Option.some.injEq, Addr.mk.injEq] at e1 e2
      obtain ⟨rfl, _⟩ := e1
      obtain ⟨rfl, _⟩ := e2
      obtain ⟨qs2, v2, hr2, hq2, hs2⟩ := hd2.row
      obtain ⟨a2, cp2, rfl, _⟩ := hs2.slice
      obtain ⟨N2, hN2⟩ : ∃ N2, N2 = qs2.length := ⟨_, rfl⟩
      have hts2 : t2.size = N2 := by rw [RT.size_items, hN2, ← hq2, List.length_map]
      rw [← hN2] at hr2
      have HLn : Hid (∀ V, Below w7.heap.size w7 V → Calls Tryz.prog 26 #[.pointer (some ⟨b, 0, none⟩)] V fun e w' => e = .returned (.int .i64 (N2 : Int)) ∧ Below V.heap.size V w') := fun V hV => by
       have := mlen_14 (hm2.keeps hV)
       rwa [hts2] at this
      have HFl : Hid (∀ V, Below w7.heap.size w7 V → Calls Tryz.prog 27 #[.pointer (some ⟨b, 0, none⟩)] V fun e w' => e = .returned (.bool true) ∧ Below V.heap.size V w') := fun V hV => flat_14 (hm2.keeps hV)
      have HBn : Hid (BothM w7 q (some ⟨b, 0, none⟩) (some ⟨c, 0, none⟩)) := ⟨t2, b, c, rfl, rfl, hm2, hd2⟩
      have k1 := hr2
      have hbc : Below w7.heap.size w7 w7 := Below.refl _ _
      clear HSt hm2 hd2 hr2 hq2 hs2 hN2 hts2 HBo HB
      go_wp2_with fail
      go_region_held3 (fun w' => w'.cell? ⟨c, 1, none⟩ = some (.slice a2 N2 cp2)) (go_keep)
       (first
        | (go_at_call 26; (with_reducible refine Calls.mono (HLn.out _ (hbc.trans ((Below.refl _ _).drew.mono hbc.size))) ?_); rintro e w8 ⟨rfl, hg⟩; replace hbc := hbc.trans ((Below.drew (Below.refl _ _)).trans (hg.mono hbc.size)); have k1 := cell_keeps hg k1; clear hg)
        | (go_at_call 27; (with_reducible refine Calls.mono (HFl.out _ hbc) ?_); rintro e w9 ⟨rfl, hg⟩; replace hbc := hbc.trans (hg.mono hbc.size); have k1 := cell_keeps hg k1; clear hg))
      have HBe : Hid (BothM w9 q (some ⟨b, 0, none⟩) (some ⟨c, 0, none⟩)) := HBn.out.keeps hbc
      have HBz : Hid (Below w.heap.size w w9) := HW.out.trans ((HB7.out.trans (hbc.mono HB7.out.size)).mono HW.out.size)
      clear k1 hbc HLn HFl HBn
      go_wp2_with fail
      go_roundg (N + 1 - (k + 1))
      case measure => have := Hz.out; omega
      case rel => exact ⟨k + 1, _, _, rfl, rfl, by go_num, by omega, rfl, HBe, HBz⟩
     ·obtain ⟨t2, b2, c2, rfl, rfl, hm2, hd2⟩ := hbm
      obtain ⟨qs2, v2, hr2, hq2, hs2⟩ := hd2.row
      obtain ⟨a2, cp2, rfl, _⟩ := hs2.slice
      obtain ⟨N2, hN2⟩ : ∃ N2, N2 = qs2.length := ⟨_, rfl⟩
      have hts2 : t2.size = N2 := by rw [RT.size_items, hN2, ← hq2, List.length_map]
      rw [← hN2] at hr2
      have HLn : Hid (∀ V, Below w7.heap.size w7 V → Calls Tryz.prog 26 #[.pointer (some ⟨b2, 0, none⟩)] V fun e w' => e = .returned (.int .i64 (N2 : Int)) ∧ Below V.heap.size V w') := fun V hV => by
       have := mlen_14 (hm2.keeps hV)
       rwa [hts2] at this
      have HFl : Hid (∀ V, Below w7.heap.size w7 V → Calls Tryz.prog 27 #[.pointer (some ⟨b2, 0, none⟩)] V fun e w' => e = .returned (.bool true) ∧ Below V.heap.size V w') := fun V hV => flat_14 (hm2.keeps hV)
      have HBn : Hid (BothM w7 q (some ⟨b2, 0, none⟩) (some ⟨c2, 0, none⟩)) := ⟨t2, b2, c2, rfl, rfl, hm2, hd2⟩
      have k1 := hr2
      have hbc : Below w7.heap.size w7 w7 := Below.refl _ _
      clear HSt hm2 hd2 hr2 hq2 hs2 hN2 hts2 HBo HB
      go_wp2_with fail
      go_region_held3 (fun w' => w'.cell? ⟨c2, 1, none⟩ = some (.slice a2 N2 cp2)) (go_keep)
       (first
        | (go_at_call 26; (with_reducible refine Calls.mono (HLn.out _ (hbc.trans ((Below.refl _ _).drew.mono hbc.size))) ?_); rintro e w8 ⟨rfl, hg⟩; replace hbc := hbc.trans ((Below.drew (Below.refl _ _)).trans (hg.mono hbc.size)); have k1 := cell_keeps hg k1; clear hg)
        | (go_at_call 27; (with_reducible refine Calls.mono (HFl.out _ hbc) ?_); rintro e w9 ⟨rfl, hg⟩; replace hbc := hbc.trans (hg.mono hbc.size); have k1 := cell_keeps hg k1; clear hg))
      have HBe : Hid (BothM w9 q (some ⟨b2, 0, none⟩) (some ⟨c2, 0, none⟩)) := HBn.out.keeps hbc
      have HBz : Hid (Below w.heap.size w w9) := HW.out.trans ((HB7.out.trans (hbc.mono HB7.out.size)).mono HW.out.size)
      clear k1 hbc HLn HFl HBn
      go_wp2_with fail
      go_roundg (N + 1 - (k + 1))
      case measure => have := Hz.out; omega
      case rel => exact ⟨k + 1, _, _, rfl, rfl, by go_num, by omega, rfl, HBe, HBz⟩
   ·have hcond : ¬ ((k : Int) < (N : Nat)) ∨ ¬ ((k : Int) < 300) := by omega
    have HSm := show Hid _ from same_14 Hm.out Hd.out
    have hfin : ∀ V, Below wr.heap.size wr V → Below w.heap.size w V := fun V hV => HW.out.trans (hV.mono HW.out.size)
    have HFn : Hid _ := hfin
    clear hfin hlt HRw HGd
    rcases hcond with hc | hc
    ·go_wp2_with (first | (go_at_call 13; refine Calls.mono HSm.out ?_; rintro e w3 ⟨rfl, hg3⟩; have HSp3 := show Hid _ from HSp.out w3; have HF3 := show Hid _ from HFn.out w3 hg3) | (go_at_call 14; refine Calls.mono HSp3.out ?_; rintro e w4 ⟨rfl, hg4⟩))
     go_ret
     exact ⟨rfl, HF3.out.trans (hg4.mono HF3.out.size)⟩
    ·by_cases hc2 : (k : Int) < (N : Nat)
     ·go_wp2_with (first | (go_at_call 13; refine Calls.mono HSm.out ?_; rintro e w3 ⟨rfl, hg3⟩; have HSp3 := show Hid _ from HSp.out w3; have HF3 := show Hid _ from HFn.out w3 hg3) | (go_at_call 14; refine Calls.mono HSp3.out ?_; rintro e w4 ⟨rfl, hg4⟩))
      go_ret
      exact ⟨rfl, HF3.out.trans (hg4.mono HF3.out.size)⟩
     ·go_wp2_with (first | (go_at_call 13; refine Calls.mono HSm.out ?_; rintro e w3 ⟨rfl, hg3⟩; have HSp3 := show Hid _ from HSp.out w3; have HF3 := show Hid _ from HFn.out w3 hg3) | (go_at_call 14; refine Calls.mono HSp3.out ?_; rintro e w4 ⟨rfl, hg4⟩))
      go_ret
      exact ⟨rfl, HF3.out.trans (hg4.mono HF3.out.size)⟩

end Go.Proofs.YtlnecfjnffdciaaGreat

