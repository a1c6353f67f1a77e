import Derived.Test.YtlnecfjnffdciaaGreatStepP14
import Derived.Test.YtlnecfjnffdciaaGreatRisP
import Derived.Test.YtlnecfjnffdciaaGreatEqualM
import Derived.Test.YtlnecfjnffdciaaGreatManyLaw
import Derived.Test.YtlnecfjnffdciaaGreatREq14
import Derived.Test.YtlnecfjnffdciaaGreatRMapD
import Derived.Test.YtlnecfjnffdciaaGreatPairsS
import Derived.Test.YtlnecfjnffdciaaGreatRotate
import Derived.Deep.RegionHeld3
import Derived.Test.YtlnecfjnffdciaaGreatClo
import Derived.Shelf.SlSortCmp.WholeK
import Derived.Ground.SlsfProg
import Derived.Test.YtlnecfjnffdciaaGreatProg
import Derived.Test.YtlnecfjnffdciaaGreatTreeS
import Derived.Maps.AppendAt
import Derived.Test.YtlnecfjnffdciaaGreatEq
import Derived.Shelf.SlSortCmp.NoneTotal
import Derived.Test.YtlnecfjnffdciaaGreatSetM
import Derived.Test.YtlnecfjnffdciaaGreatSameEq
import Derived.Test.YtlnecfjnffdciaaGreatAppRow
import Derived.Test.YtlnecfjnffdciaaGreatLiesX
import Derived.Test.YtlnecfjnffdciaaGreatRBuildA14
namespace Go.Proofs.YtlnecfjnffdciaaGreat
open Go.RowKit Go.Shelf

theorem of_good {d : Nat} {o : Int} {qs : List PP} {u : Value} {w : World} (hu : SlQ 0 d w qs u) (h : ofErr d o (qs.map trT) = 0) : ∀ p ∈ qs, Good 16 p.1.1 ∧ Good 16 p.2.1 := by
 obtain ⟨_, hp⟩ := ofErr_zero h
 obtain ⟨_, hr⟩ := pErr_zero hp
 obtain ⟨h16, hr16⟩ := slq_canon hu (fun p hpq => hr (trT p) (List.mem_map_of_mem hpq))
 exact fun p hpq => ⟨⟨(hr16 p hpq).1, Dp.of_lies 16 w p.1.1 p.1.2 (h16.good p hpq).1.1⟩, ⟨(hr16 p hpq).2, Dp.of_lies 16 w p.2.1 p.2.2 (h16.good p hpq).2.1⟩⟩

theorem mof_mp (d : Nat) (o : Int) (qs : List PP) (u : Value) (w : World) (hu : SlQ 0 d w qs u) : Calls Tryz.prog 9 #[.int .i64 o, u] w (MpPost o.toNat (ofK o.toNat qs) (ofErr d o (qs.map trT)) w) := by
 refine (mof_14 d o qs u w hu).mono fun e w' h => ?_
 obtain ⟨hb, ⟨h0, rfl⟩ | ⟨h0, t, b, rfl, hm, hi⟩⟩ := h
 ·exact ⟨hb, none, rfl, .inl ⟨h0, rfl⟩⟩
 ·rw [h0]
  exact ⟨hb, _, rfl, .inr ⟨rfl, t, b, rfl, hm, kydO_eq (fun p hp => (of_good hu h0 p hp).1) _ _ (by omega) (by omega) hm.rises hi⟩⟩

end Go.Proofs.YtlnecfjnffdciaaGreat

namespace Go.Proofs.YtlnecfjnffdciaaGreat
open Go.RowKit Go.Shelf

set_option maxRecDepth 100000 in
set_option maxHeartbeats 16000000 in
theorem runi_14 {w : World} {q r : Nat} {la lb : List PT} {c d : Nat} (hc : DM w q la c) (hd : DM w r lb d) : Calls Tryz.prog 29 #[.pointer (some ⟨c, 0, none⟩), .pointer (some ⟨d, 0, none⟩)] w (DpPost q (uniL q la lb) (uniE (uniL q la lb)) w) := by
 obtain ⟨qa, va, ha1, hqa, hsa⟩ := hc.row
 obtain ⟨qb, vb, hb1, hqb, hsb⟩ := hd.row
 have ha0 := hc.ord
 have hla : qa.length = la.length := by rw [← hqa, List.length_map]
 have hlb : qb.length = lb.length := by rw [← hqb, List.length_map]
 have hna : qa.length ≤ 65536 := by have := hc.size; omega
 have hnb : qb.length ≤ 65536 := by have := hd.size; omega
 have hga : ∀ p ∈ qa, Good 16 p.1.1 ∧ Good 16 p.2.1 := fun p hp => hc.right (trT p) (by rw [← hqa]; exact List.mem_map_of_mem hp)
 have hgb : ∀ p ∈ qb, Good 16 p.1.1 ∧ Good 16 p.2.1 := fun p hp => hd.right (trT p) (by rw [← hqb]; exact List.mem_map_of_mem hp)
 have hq6 := hc.q6
 have hK : (kyd (cmpO q) ((qa ++ qb).length + 1) (qa ++ qb)).map trT = uniL q la lb := by
  show _ = ofL q (la ++ lb)
  rw [← hqa, ← hqb, ← List.map_append]
  exact ofK_is q (qa ++ qb)
 have hKg : ∀ x ∈ uniL q la lb, Good 16 x.1 ∧ Good 16 x.2 := fun x hx => by
  rcases List.mem_append.1 (kyd_mem _ _ _ _ hx) with h | h
  ·exact hc.right x h
  ·exact hd.right x h
 have hKr : RT.Rises (byK q) (uniL q la lb) := ofL_rises q _
 have HB : Hid (∀ V v, SlQ 0 16 V (qa ++ qb) v → Calls Tryz.prog 51 #[.int .i64 (q : Int), v] V (fun e w' => Below V.heap.size V w' ∧ ∃ b a9 c9, e = .returned (.pointer (some ⟨b, 0, none⟩)) ∧ w'.cell? ⟨b, 1, none⟩ = some (.slice a9 (uniL q la lb).length c9) ∧ ((uniL q la lb).length ≤ 65536 → DM w' q (uniL q la lb) b))) := fun V v hv => by
  refine (rbuild_any q hq6 (qa ++ qb).length (qa ++ qb) v V hv (fun p hp => ?_) (by rw [List.length_append]; omega) (by omega)).mono fun e w' h => ?_
  ·rcases List.mem_append.1 hp with h | h
   ·exact (hga p h).1.1
   ·exact (hgb p h).1.1
  ·obtain ⟨hb, b, v, rfl, h0, h1, hs⟩ := h
   obtain ⟨a9, c9, rfl, _⟩ := hs.slice
   have hl : (kyd (cmpO q) ((qa ++ qb).length + 1) (qa ++ qb)).length = (uniL q la lb).length := by rw [← hK, List.length_map]
   rw [hl] at h1
   refine ⟨hb, b, a9, c9, rfl, h1, fun hz => ⟨h0, ⟨_, _, h1, hK, ?_⟩, hq6, hKg, hKr, hz⟩⟩
   rw [← hl]; exact hs
 obtain ⟨aa, ca, rfl, _⟩ := hsa.slice
 obtain ⟨ab, cb, rfl, _⟩ := hsb.slice
 have HSa : Hid (SlQ 0 16 w qa (.slice aa qa.length ca)) := hsa
 have HSb : Hid (SlQ 0 16 w qb (.slice ab qb.length cb)) := hsb
 have HUE : Hid (uniE (uniL q la lb) = if 65536 < (uniL q la lb).length then 2 else 0) := rfl
 generalize uniE (uniL q la lb) = E at *
 generalize uniL q la lb = UL at *
 obtain ⟨NA, hNA⟩ : ∃ NA, NA = qa.length := ⟨_, rfl⟩
 obtain ⟨NB, hNB⟩ : ∃ NB, NB = qb.length := ⟨_, rfl⟩
 have HNA : Hid (NA = qa.length) := hNA
 have HNB : Hid (NB = qb.length) := hNB
 rw [← hNA] at ha1 hna HSa
 rw [← hNB] at hb1 hnb HSb
 have hcn : ¬ c = w.heap.size := by have := cell_lt ha1; simp only at this; omega
 have hdn : ¬ d = w.heap.size := by have := cell_lt hb1; simp only at this; omega
 clear hc hd hsa hsb hqa hqb hla hlb hga hgb hK hKg hKr hNA hNB
 go_enter Tryz.func29, Tryz.ntmps29
 go_wp2_with fail
 go_cut [6] from 7 to 32 (fun s6 wx => ∃ b a9 c9, s6 = .pointer (some ⟨b, 0, none⟩) ∧ Hid (Below w.heap.size w wx) ∧ Hid (wx.cell? ⟨b, 1, none⟩ = some (.slice a9 UL.length c9)) ∧ Hid (UL.length ≤ 65536 → DM wx q UL b))
 case first =>
  have x0 : w.drew.cell? ⟨c, 0, none⟩ = some (.int .i64 (q : Int)) := cell_keeps (Below.refl _ _).drew ha0
  have x1 : w.drew.cell? ⟨c, 1, none⟩ = some (.slice aa NA ca) := cell_keeps (Below.refl _ _).drew ha1
  have x2 : w.drew.cell? ⟨d, 1, none⟩ = some (.slice ab NB cb) := cell_keeps (Below.refl _ _).drew hb1
  have hba : Below w.heap.size w (w.alloc (.cells #[] 69)) := ((Grew.refl w).alloc _).below
  have z0 : (w.alloc (.cells #[] 69)).cell? ⟨c, 0, none⟩ = some (.int .i64 (q : Int)) := cell_keeps hba ha0
  have z1 : (w.alloc (.cells #[] 69)).cell? ⟨c, 1, none⟩ = some (.slice aa NA ca) := cell_keeps hba ha1
  have z2 : (w.alloc (.cells #[] 69)).cell? ⟨d, 1, none⟩ = some (.slice ab NB cb) := cell_keeps hba hb1
  clear hba
  have Hown0 : Hid ((w.drew.alloc (.cells #[] 69)).ownsRow w.heap.size 69 8 (.slice (some ⟨w.heap.size, 0, none⟩) 0 0) 0 []) := World.ownsRow_made w.drew #[] 0 (Nat.le_refl _) (by unfold maxLen; omega) rfl
  have Hb0 : Hid (Below w.heap.size w (w.drew.alloc (.cells #[] 69))) := ((Below.refl w.heap.size w).drew).alloc (Nat.le_refl _) _
  have HSr : Hid (SrcR (w.drew.alloc (.cells #[] 69)) aa NA (qa.flatMap encQ)) := by
   have h9 := (HSa.out.keeps Hb0.out)
   rw [HNA.out] at h9 ⊢
   exact h9.srcR
  have Hsz0 : Hid (w.heap.size ≤ (w.drew.alloc (.cells #[] 69)).heap.size) := Hb0.out.size
  go_region_held3 (fun w' => w'.cell? ⟨c, 0, none⟩ = some (.int .i64 (q : Int)) ∧ w'.cell? ⟨c, 1, none⟩ = some (.slice aa NA ca) ∧ w'.cell? ⟨d, 1, none⟩ = some (.slice ab NB cb)) (go_keep)
   (first
    | (refine stepR_append rfl (.tmp 16) (.tmp 20) rfl (base := w.heap.size) (n := NA) (xs := qa.flatMap encQ) rfl Hown5.out rfl HSr5.out (by omega) Hsz5.out (NA + NB) rfl (qa.flatMap encQ ++ qb.flatMap encQ) rfl ?_; intro a6 c6 w6 hown6 hg6; have hb6 : Below w.heap.size w w6 := hb5.grown hg6 Hsz5.out (fun k hk => (Hown5.out.lt k hk).1); have x0 : w6.cell? ⟨c, 0, none⟩ = some (.int .i64 (q : Int)) := cell_keeps hb6 ha0; have x1 : w6.cell? ⟨c, 1, none⟩ = some (.slice aa NA ca) := cell_keeps hb6 ha1; have x2 : w6.cell? ⟨d, 1, none⟩ = some (.slice ab NB cb) := cell_keeps hb6 hb1; have Hown6 : Hid (w6.ownsRow w.heap.size 69 8 (.slice a6 (NA + NB) c6) (NA + NB) (qa.flatMap encQ ++ qb.flatMap encQ)) := hown6; have HS6 : Hid (SlQ 0 16 w6 (qa ++ qb) (.slice a6 (NA + NB) c6)) := (SlQ.of_own (n := NA + NB) (by rw [List.length_append, ← HNA.out, ← HNB.out]) (by rw [List.flatMap_append]; exact Hown6.out) (fun p hp => (List.mem_append.1 hp).elim (fun h => (HSa.out.good p h).keeps hb6) (fun h => (HSb.out.good p h).keeps hb6)) (by rw [List.length_append, ← HNA.out, ← HNB.out]; omega)).mono (Nat.zero_le _); clear hown6 hg6)
    | (refine stepR_append rfl (.tmp 11) (.tmp 15) rfl (base := w.heap.size) (n := 0) (xs := []) rfl Hown0.out rfl HSr.out (by omega) Hsz0.out NA (Nat.zero_add _) (qa.flatMap encQ) rfl ?_; intro a5 c5 w5 hown5 hg5; have hb5 : Below w.heap.size w w5 := Hb0.out.grown hg5 Hsz0.out (fun k hk => (Hown0.out.lt k hk).1); have x0 : w5.cell? ⟨c, 0, none⟩ = some (.int .i64 (q : Int)) := cell_keeps hb5 ha0; have x1 : w5.cell? ⟨c, 1, none⟩ = some (.slice aa NA ca) := cell_keeps hb5 ha1; have x2 : w5.cell? ⟨d, 1, none⟩ = some (.slice ab NB cb) := cell_keeps hb5 hb1; have Hown5 : Hid (w5.ownsRow w.heap.size 69 8 (.slice a5 NA c5) NA (qa.flatMap encQ)) := hown5; have HSr5 : Hid (SrcR w5 ab NB (qb.flatMap encQ)) := (by have h9 := (HSb.out.keeps hb5); rw [HNB.out] at h9 ⊢; exact h9.srcR); have Hsz5 : Hid (w.heap.size ≤ w5.heap.size) := hb5.size; clear hown5 hg5)
    | (go_at_call 51; (with_reducible refine Calls.mono (HB.out _ _ HS6.out) ?_); rintro e w7 ⟨hg7, b7, a7, c7, rfl, h71, hd7⟩; have H7 : Hid (w7.cell? ⟨b7, 1, none⟩ = some (.slice a7 UL.length c7)) := h71; have HD7 : Hid (UL.length ≤ 65536 → DM w7 q UL b7) := hd7; have Hb7 : Hid (Below w.heap.size w w7) := hb6.trans (hg7.mono hb6.size); have x0 := cell_keeps hg7 x0; have x1 := cell_keeps hg7 x1; have x2 := cell_keeps hg7 x2; clear hg7 h71 hd7))
  all_goals go_wp2_with fail
  all_goals go_meet
  all_goals exact ⟨_, _, _, rfl, Hb7, H7, HD7⟩
 case rest =>
  obtain ⟨b, a9, c9, rfl, Hb9, H9, HD9⟩ := hcut
  have h9 := H9.out
  by_cases hbig : 65536 < UL.length
  ·have e9 : E = 2 := by rw [HUE.out, if_pos hbig]
   subst e9
   have HE : Hid (DpPost q UL 2 w (.returned (.tuple #[.pointer none, .int .i64 2])) wc) := ⟨Hb9.out, none, rfl, .inl ⟨by decide, rfl⟩⟩
   have hbi : 65536 < (UL.length : Int) := by omega
   clear hbig
   go_wp2_with fail
   refine bodyPost_ret (v := .tuple #[.pointer none, .int .i64 2]) (by simp [results, Tryz.results29, go_sem]) rfl HE.out
  ·have e9 : E = 0 := by rw [HUE.out, if_neg hbig]
   subst e9
   have HE : Hid (DpPost q UL 0 w (.returned (.tuple #[.pointer (some ⟨b, 0, none⟩), .int .i64 0])) wc) := ⟨Hb9.out, _, rfl, .inr ⟨rfl, b, rfl, HD9.out (by omega)⟩⟩
   have hbi : ¬ 65536 < (UL.length : Int) := by omega
   clear hbig
   go_wp2_with fail
   refine bodyPost_ret (v := .tuple #[.pointer (some ⟨b, 0, none⟩), .int .i64 0]) (by simp [results, Tryz.results29, go_sem]) rfl HE.out

end Go.Proofs.YtlnecfjnffdciaaGreat

namespace Go.Proofs.YtlnecfjnffdciaaGreat
open Go.RowKit Go.Shelf

set_option maxRecDepth 100000 in
set_option maxHeartbeats 16000000 in
theorem muni_14 {w : World} {q r : Nat} {ta tb : RT PT} {a b : Nat} (ha : MC w q ta a) (hb : MC w r tb b) : Calls Tryz.prog 28 #[.pointer (some ⟨a, 0, none⟩), .pointer (some ⟨b, 0, none⟩)] w (MpPost q (uniL q ta.items tb.items) (uniE (uniL q ta.items tb.items)) w) := by
 have HT : Hid (Calls Tryz.prog 30 #[.pointer (some ⟨b, 0, none⟩), .int .i64 (q : Int)] w fun e w' => Below w.heap.size w w' ∧ ∃ s b2 pb, e = .returned (.tuple #[.pointer (some ⟨b2, 0, none⟩), .int .i64 0]) ∧ MC w' q s b2 ∧ w'.cell? ⟨b2, 1, none⟩ = some (.pointer pb) ∧ NM TT 16 w' s pb ∧ ∀ y, y ∈ s.items ↔ y ∈ tb.items) := by
  refine (turn_14 (q : Int) hb).mono fun e w' h => ?_
  have hq6 := ha.q6
  obtain ⟨hb, ⟨h0, _⟩ | ⟨_, s, b2, rfl, hm, hi⟩⟩ := h
  ·exact absurd (show ordErr (q : Int) = 0 by unfold ordErr; rw [if_neg (by omega)]) h0
  ·rw [show ((q : Nat) : Int).toNat = q by omega] at hm
   obtain ⟨pb, h1, h2⟩ := hm.top
   exact ⟨hb, s, b2, pb, rfl, hm, h1, h2, hi⟩
 obtain ⟨pa, hpa, na⟩ := ha.top
 have hoa := ha.ord
 have za := ha.size
 have HA : Hid (MC w q ta a) := ha
 have HNa : Hid (NM TT 16 w ta pa) := na
 have HEq : Hid (∀ s : RT PT, RT.Rises (byK q) s.items → (∀ y, y ∈ s.items ↔ y ∈ tb.items) → (RT.union (byK q) s ta).items = uniL q ta.items tb.items) := fun s h1 h2 => union_uniL h1 ha.rises h2 hb.rises (fun x hx => (ha.right x hx).1) (fun x hx => (hb.right x hx).1)
 have HP : Hid (∀ E l e w', MpPost q l E w e w' → MpPost q l E w e w') := fun _ _ _ _ h => h
 generalize uniL q ta.items tb.items = UL at *
 have HUE : Hid (uniE UL = if 65536 < UL.length then 2 else 0) := rfl
 generalize uniE UL = E at *
 clear ha hb na
 go_enter Tryz.func28, Tryz.ntmps28
 go_wp2_with fail
 refine (own_14 _ _).mono ?_
 rintro e w1 ⟨rfl, hw⟩
 obtain rfl : w = w1 := hw.symm
 go_wp2_with fail
 refine Calls.mono HT.out ?_
 rintro e w1 ⟨hb1, s, b2, pb, rfl, hms, hpb, nb, hsi⟩
 have hus := union_sizes (byK q) s ta
 have zs := hms.size
 have hae : (RT.union (byK q) s ta).items = UL := HEq.out s hms.rises hsi
 have HU : Hid (∀ V bb, Below w1.heap.size w1 V → V.cell? ⟨bb, 0, none⟩ = some (.int .i64 (q : Int)) → Calls Tryz.prog 77 #[.pointer pa, .pointer pb, .func (.func 97) #[] #[.pointer (some ⟨bb, 0, none⟩)]] V (TreePost TT 16 (RT.union (byK q) s ta) V)) := fun V bb hV hbb => union_14 TT 16 97 eg_byK1 _ (byK q) _ s ta pb pa V (byK_cmpC q bb hms.q6 V hbb) (nb.keeps hV) (HNa.out.keeps (hb1.trans (hV.mono hb1.size))) hms.well HA.out.well (fun x hx => (hms.right x hx).1.1) (fun x hx => (HA.out.right x hx).1.1) (by omega)
 have HO : Hid (∀ V p, Below w.heap.size w V → NM TT 16 V (RT.union (byK q) s ta) p → Calls Tryz.prog 65 #[.pointer (some ⟨a, 0, none⟩), .pointer p] V (RawPost q (RT.union (byK q) s ta).black V)) := fun V p hV hp => of_raw a q _ p V (cell_keeps hV HA.out.ord) hp (by omega)
 have hblk : (RT.union (byK q) s ta).black.items = (RT.union (byK q) s ta).items := RT.black_items _
 have hbsz : (RT.union (byK q) s ta).black.size = (RT.union (byK q) s ta).size := by rw [RT.size_items, hblk, ← RT.size_items]
 have hwell : RT.Well (RT.union (byK q) s ta) := RT.union_well (byK q) s ta hms.well HA.out.well
 have hwellb : RT.Well (RT.union (byK q) s ta).black := ⟨hwell.1.black, by obtain ⟨_, n, hB⟩ := hwell; obtain ⟨m, hm⟩ := hB.black; exact ⟨m, hm⟩⟩
 have HMC : Hid (∀ V b', RawM V q (RT.union (byK q) s ta).black b' → (RT.union (byK q) s ta).size ≤ 65536 → MC V q (RT.union (byK q) s ta).black b') := fun V b' h hz => by
  refine ⟨h.1, h.2, hwellb, RT.black_red14 _, hms.q6, ?_, ?_, by rw [hbsz]; exact hz⟩
  ·rw [hblk]
   intro x hx
   rcases (RT.mem_union (byK_cmp q) s ta hms.rises HA.out.rises x).1 hx with h1 | h1
   ·exact hms.right x h1
   ·exact HA.out.right x h1.1
  ·rw [hblk]; exact RT.union_rises (byK_cmp q) s ta hms.rises HA.out.rises
 have HLn : Hid (∀ V b', RawM V q (RT.union (byK q) s ta).black b' → Calls Tryz.prog 26 #[.pointer (some ⟨b', 0, none⟩)] V fun e w' => e = .returned (.int .i64 ((RT.union (byK q) s ta).size : Nat)) ∧ Below V.heap.size V w') := fun V b' h => by have h9 := len_raw h; rwa [hbsz] at h9
 have HBl : Hid ((RT.union (byK q) s ta).black.items = UL) := hblk.trans hae
 have HZs : Hid ((RT.union (byK q) s ta).size = UL.length) := by show _ = _; rw [RT.size_items, hae]
 have hzz : (RT.union (byK q) s ta).size ≤ 131072 := by omega
 generalize RT.union (byK q) s ta = T at *
 obtain ⟨Z, hZ⟩ : ∃ Z, Z = T.size := ⟨_, rfl⟩
 have HZ : Hid (Z = T.size) := hZ
 rw [← hZ] at HLn HMC hzz HZs
 have hpa := cell_keeps hb1 hpa; have hoa := cell_keeps hb1 hoa
 clear nb hblk hbsz hwell hwellb hus za zs hZ hms hsi hae HT HA HNa HEq HP
 go_wp2_with fail
 go_region_held3 (fun w' => w'.cell? ⟨a, 0, none⟩ = some (.int .i64 (q : Int)) ∧ w'.cell? ⟨a, 1, none⟩ = some (.pointer pa) ∧ w'.cell? ⟨b2, 1, none⟩ = some (.pointer pb)) (go_keep)
  (first
   | (go_at_call 53; refine (byKeys_14 _ _).mono ?_; rintro e w2 ⟨rfl, hw2⟩; have hg2 : Below w1.heap.size w1 w2 := (by rw [hw2]; exact (Below.refl w1.heap.size w1).drew.trans ((Grew.refl w1.drew).alloc _).below); have hb2 : Below w.heap.size w w2 := hb1.trans (hg2.mono hb1.size); have hbb : w2.cell? ⟨w1.heap.size, 0, none⟩ = some (.int .i64 (q : Int)) := (by rw [hw2]; exact (Go.Boxed.new w1.drew 3 (.int .i64 (q : Int))).cell); have hpa := cell_keeps hg2 hpa; have hpb := cell_keeps hg2 hpb; have hoa := cell_keeps hg2 hoa; clear hw2)
   | (go_at_call 77; (with_reducible refine Calls.mono (HU.out _ _ hg2 hbb) ?_); rintro e w3 ⟨hg3, p3, rfl, ht3⟩; have hb3 : Below w.heap.size w w3 := hb2.trans (hg3.mono hb2.size); have HT3 : Hid (NM TT 16 w3 T p3) := ht3; have hpa := cell_keeps hg3 hpa; have hpb := cell_keeps hg3 hpb; have hoa := cell_keeps hg3 hoa; clear ht3 hg3)
   | (go_at_call 65; (with_reducible refine Calls.mono (HO.out _ _ hb3 HT3.out) ?_); rintro e w4 ⟨hg4, b4, rfl, hr4⟩; have hb4 : Below w.heap.size w w4 := hb3.trans (hg4.mono hb3.size); have HR4 : Hid (RawM w4 q T.black b4) := hr4; have hpa := cell_keeps hg4 hpa; have hpb := cell_keeps hg4 hpb; have hoa := cell_keeps hg4 hoa; clear hr4 hg4))
 clear hpa hpb hoa
 go_wp2_with fail
 refine Calls.mono (HLn.out _ _ HR4.out) ?_
 rintro e w5 ⟨rfl, hg5⟩
 have hb5 : Below w.heap.size w w5 := hb4.trans (hg5.mono hb4.size)
 by_cases hbig : 65536 < Z
 ·have e9 : E = 2 := by rw [HUE.out, if_pos (by have := HZs.out; omega)]
  subst e9
  have HE : Hid (MpPost q UL 2 w (.returned (.tuple #[.pointer none, .int .i64 2])) w5) := ⟨hb5, none, rfl, .inl ⟨by decide, rfl⟩⟩
  have hbi : 65536 < (Z : Int) := by omega
  clear hbig
  go_wp2_with fail
  go_ret2
  exact HE.out
 ·have e9 : E = 0 := by rw [HUE.out, if_neg (by have := HZs.out; omega)]
  subst e9
  have HE : Hid (MpPost q UL 0 w (.returned (.tuple #[.pointer (some ⟨b4, 0, none⟩), .int .i64 0])) w5) := ⟨hb5, _, rfl, .inr ⟨rfl, T.black, b4, rfl, (HMC.out w4 b4 HR4.out (by omega)).keeps hg5, HBl.out⟩⟩
  have hbi : ¬ 65536 < (Z : Int) := by omega
  clear hbig
  go_wp2_with fail
  go_ret2
  exact HE.out

end Go.Proofs.YtlnecfjnffdciaaGreat

namespace Go.Proofs.YtlnecfjnffdciaaGreat
open Go.RowKit Go.Shelf

theorem ofL_mem {w : World} {q r : Nat} {t : RT PT} {b : Nat} (h : MC w q t b) (y : PT) : y ∈ ofL r t.items ↔ y ∈ t.items :=
 kyd_all (byK_3 r) (t.items.length + 1) t.items (by omega) (rises_apartT (fun x hx => (h.right x hx).1) h.rises) y

theorem turn_mp {w : World} {q r : Nat} {t : RT PT} {b : Nat} (h : MC w q t b) (hr : r < 6) : Calls Tryz.prog 30 #[.pointer (some ⟨b, 0, none⟩), .int .i64 (r : Int)] w (MpPost r (ofL r t.items) 0 w) := by
 refine (turn_14 (r : Int) h).mono fun e w' h9 => ?_
 have h0 : ordErr (r : Int) = 0 := by unfold ordErr; rw [if_neg (by omega)]
 obtain ⟨hb, ⟨h1, _⟩ | ⟨_, s, b2, rfl, hm, hi⟩⟩ := h9
 ·exact absurd h0 h1
 ·rw [show ((r : Nat) : Int).toNat = r by omega] at hm
  exact ⟨hb, _, rfl, .inr ⟨rfl, s, b2, rfl, hm, turn_ofL hm.rises hi h.rises (fun x hx => (h.right x hx).1)⟩⟩

theorem rturn_dp {w : World} {q r : Nat} {l : List PT} {c : Nat} (h : DM w q l c) (hr : r < 6) : Calls Tryz.prog 31 #[.pointer (some ⟨c, 0, none⟩), .int .i64 (r : Int)] w (DpPost r (ofL r l) 0 w) := by
 refine (rturn_14 (r : Int) h (Below.refl _ _)).mono fun e w' h9 => ?_
 have h0 : ordErr (r : Int) = 0 := by unfold ordErr; rw [if_neg (by omega)]
 rw [h0, show ((r : Nat) : Int).toNat = r by omega] at h9
 exact h9.dp

set_option maxRecDepth 100000 in
set_option maxHeartbeats 32000000 in
theorem both_walk (o p : Int) (n : Nat) (qa qb : List PP) (u1 u2 : Value) (w : World) (hu1 : SlQ 0 n w qa u1) (hu2 : SlQ 0 n w qb u2) : Calls Tryz.prog 5 #[.agg #[.int .i64 o, .int .i64 p, u1, u2]] w fun e w' => e = .returned (.bool true) ∧ Below w.heap.size w w' := by
 have HSp : Hid (∀ V, Calls Tryz.prog 14 #[] V fun e w' => e = .returned (.bool true) ∧ Below V.heap.size V w') := speaks14_any
 have HA : Hid (∀ V, Below w.heap.size w V → Calls Tryz.prog 9 #[.int .i64 o, u1] V (MpPost o.toNat (ofK o.toNat qa) (ofErr n o (qa.map trT)) V)) := fun V hV => mof_mp n o qa u1 V (hu1.keeps hV)
 have HB : Hid (∀ V, Below w.heap.size w V → Calls Tryz.prog 9 #[.int .i64 p, u2] V (MpPost p.toNat (ofK p.toNat qb) (ofErr n p (qb.map trT)) V)) := fun V hV => mof_mp n p qb u2 V (hu2.keeps hV)
 have HC : Hid (∀ V, Below w.heap.size w V → Calls Tryz.prog 10 #[.int .i64 o, u1] V (DpPost o.toNat (ofK o.toNat qa) (ofErr n o (qa.map trT)) V)) := fun V hV => (rof_14 n o qa u1 V (hu1.keeps hV)).mono fun e w' h => h.dp
 have HD : Hid (∀ V, Below w.heap.size w V → Calls Tryz.prog 10 #[.int .i64 p, u2] V (DpPost p.toNat (ofK p.toNat qb) (ofErr n p (qb.map trT)) V)) := fun V hV => (rof_14 n p qb u2 V (hu2.keeps hV)).mono fun e w' h => h.dp
 have HP : Hid (ofErr n p (qb.map trT) = 0 → p = ((p.toNat : Nat) : Int) ∧ p.toNat < 6) := fun h => by have := (ofErr_zero h).1; omega
 obtain ⟨a1, c1, rfl, _⟩ := hu1.slice
 obtain ⟨a2, c2, rfl, _⟩ := hu2.slice
 clear hu1 hu2
 generalize ofK o.toNat qa = la at *
 generalize ofK p.toNat qb = lb at *
 generalize o.toNat = q at *
 generalize p.toNat = r at *
 generalize ofErr n o (qa.map trT) = E1 at *
 generalize ofErr n p (qb.map trT) = E2 at *
 generalize qa.length = m1 at *
 generalize qb.length = m2 at *
 obtain ⟨W0, hW0⟩ : ∃ W0, W0 = w.alloc (.cells #[.int .i64 o, .int .i64 p, .slice a1 m1 c1, .slice a2 m2 c2] 60) := ⟨_, rfl⟩
 have hb0 : Below w.heap.size w W0 := by rw [hW0]; exact ((Grew.refl w).alloc _).below
 have HX0 : Hid (W0.cell? ⟨w.heap.size, 0, none⟩ = some (.int .i64 o) ∧ W0.cell? ⟨w.heap.size, 1, none⟩ = some (.int .i64 p) ∧ W0.cell? ⟨w.heap.size, 2, none⟩ = some (.slice a1 m1 c1) ∧ W0.cell? ⟨w.heap.size, 3, none⟩ = some (.slice a2 m2 c2)) := by rw [hW0]; exact ⟨by simp, by simp, by simp, by simp⟩
 have HA0 := show Hid _ from HA.out W0 hb0
 go_enter Tryz.func5, Tryz.ntmps5
 go_wp2_with fail
 rw [← hW0]
 clear hW0 HA
 obtain ⟨x0, x1, x2, x3⟩ := HX0.out
 go_wp2_with fail
 refine Calls.mono HA0.out ?_
 rintro e w1 ⟨hg1, p1, rfl, hp1⟩
 have hb1 : Below w.heap.size w w1 := hb0.trans (hg1.mono hb0.size)
 have Hp1 : Hid ((E1 ≠ 0 ∧ p1 = none) ∨ (E1 = 0 ∧ ∃ t b, p1 = some ⟨b, 0, none⟩ ∧ MC w1 q t b ∧ t.items = la)) := hp1
 have HB1 := show Hid _ from HB.out w1 hb1
 have HX1 : Hid (w1.cell? ⟨w.heap.size, 0, none⟩ = some (.int .i64 o) ∧ w1.cell? ⟨w.heap.size, 1, none⟩ = some (.int .i64 p) ∧ w1.cell? ⟨w.heap.size, 2, none⟩ = some (.slice a1 m1 c1) ∧ w1.cell? ⟨w.heap.size, 3, none⟩ = some (.slice a2 m2 c2)) := (fun H => ⟨cell_keeps hg1 H.1, cell_keeps hg1 H.2.1, cell_keeps hg1 H.2.2.1, cell_keeps hg1 H.2.2.2⟩) HX0.out
 clear x0 x1 x2 x3 hp1 HA0 HB HX0 hb0 hg1
 obtain ⟨x0, x1, x2, x3⟩ := HX1.out
 go_wp2_with fail
 refine Calls.mono HB1.out ?_
 rintro e w2 ⟨hg2, p2, rfl, hp2⟩
 have hb2 : Below w.heap.size w w2 := hb1.trans (hg2.mono hb1.size)
 have Hp2 : Hid ((E2 ≠ 0 ∧ p2 = none) ∨ (E2 = 0 ∧ ∃ t b, p2 = some ⟨b, 0, none⟩ ∧ MC w2 r t b ∧ t.items = lb)) := hp2
 have Hg12 : Hid (Below w1.heap.size w1 w2) := hg2
 have HC2 := show Hid _ from HC.out w2 hb2
 have HX2 : Hid (w2.cell? ⟨w.heap.size, 0, none⟩ = some (.int .i64 o) ∧ w2.cell? ⟨w.heap.size, 1, none⟩ = some (.int .i64 p) ∧ w2.cell? ⟨w.heap.size, 2, none⟩ = some (.slice a1 m1 c1) ∧ w2.cell? ⟨w.heap.size, 3, none⟩ = some (.slice a2 m2 c2)) := (fun H => ⟨cell_keeps hg2 H.1, cell_keeps hg2 H.2.1, cell_keeps hg2 H.2.2.1, cell_keeps hg2 H.2.2.2⟩) HX1.out
 clear x0 x1 x2 x3 hp2 HB1 HC HX1 hb1 hg2
 obtain ⟨x0, x1, x2, x3⟩ := HX2.out
 go_wp2_with fail
 refine Calls.mono HC2.out ?_
 rintro e w3 ⟨hg3, p3, rfl, hp3⟩
 have hb3 : Below w.heap.size w w3 := hb2.trans (hg3.mono hb2.size)
 have Hp3 : Hid ((E1 ≠ 0 ∧ p3 = none) ∨ (E1 = 0 ∧ ∃ b, p3 = some ⟨b, 0, none⟩ ∧ DM w3 q la b)) := hp3
 have Hg23 : Hid (Below w2.heap.size w2 w3) := hg3
 have HD3 := show Hid _ from HD.out w3 hb3
 have HX3 : Hid (w3.cell? ⟨w.heap.size, 0, none⟩ = some (.int .i64 o) ∧ w3.cell? ⟨w.heap.size, 1, none⟩ = some (.int .i64 p) ∧ w3.cell? ⟨w.heap.size, 2, none⟩ = some (.slice a1 m1 c1) ∧ w3.cell? ⟨w.heap.size, 3, none⟩ = some (.slice a2 m2 c2)) := (fun H => ⟨cell_keeps hg3 H.1, cell_keeps hg3 H.2.1, cell_keeps hg3 H.2.2.1, cell_keeps hg3 H.2.2.2⟩) HX2.out
 clear x0 x1 x2 x3 hp3 HC2 HD HX2 hb2 hg3
 obtain ⟨x0, x1, x2, x3⟩ := HX3.out
 go_wp2_with fail
 refine Calls.mono HD3.out ?_
 rintro e w4 ⟨hg4, p4, rfl, hp4⟩
 have hb4 : Below w.heap.size w w4 := hb3.trans (hg4.mono hb3.size)
 have Hp4 : Hid ((E2 ≠ 0 ∧ p4 = none) ∨ (E2 = 0 ∧ ∃ b, p4 = some ⟨b, 0, none⟩ ∧ DM w4 r lb b)) := hp4
 have HX4 : Hid (w4.cell? ⟨w.heap.size, 0, none⟩ = some (.int .i64 o) ∧ w4.cell? ⟨w.heap.size, 1, none⟩ = some (.int .i64 p) ∧ w4.cell? ⟨w.heap.size, 2, none⟩ = some (.slice a1 m1 c1) ∧ w4.cell? ⟨w.heap.size, 3, none⟩ = some (.slice a2 m2 c2)) := (fun H => ⟨cell_keeps hg4 H.1, cell_keeps hg4 H.2.1, cell_keeps hg4 H.2.2.1, cell_keeps hg4 H.2.2.2⟩) HX3.out
 have HB4 : Hid (Below w.heap.size w w4) := hb4
 have HSp4 := show Hid _ from HSp.out w4
 have hg24 : Below w2.heap.size w2 w4 := Hg23.out.trans (hg4.mono Hg23.out.size)
 have hg14 : Below w1.heap.size w1 w4 := Hg12.out.trans (hg24.mono Hg12.out.size)
 have Hg34 : Hid (Below w3.heap.size w3 w4) := hg4
 clear x0 x1 x2 x3 hp4 HD3 HX3 hb3 hb4 hg4 Hg12 Hg23
 rcases Hp1.out with ⟨h0, rfl⟩ | ⟨rfl, ta, a, rfl, hma, hia⟩
 ·have hne : (E1 != 0) = true := by simpa using h0
  clear Hp1 Hp2 Hp3 Hp4 hg24 hg14 Hg34 HX4 HP
  go_wp2_with fail
  refine Calls.mono HSp4.out ?_
  rintro e w5 ⟨rfl, hg5⟩
  have HB5 : Hid (Below w.heap.size w w5) := HB4.out.trans (hg5.mono HB4.out.size)
  clear hg5
  go_wp2_with fail
  go_ret
  exact ⟨rfl, HB5.out⟩
 ·rcases Hp2.out with ⟨h0, rfl⟩ | ⟨rfl, tb, b, rfl, hmb, hib⟩
  ·have hne : (E2 != 0) = true := by simpa using h0
   clear Hp1 Hp2 Hp3 Hp4 hg24 hg14 Hg34 HX4 HP hma hia
   go_wp2_with fail
   refine Calls.mono HSp4.out ?_
   rintro e w5 ⟨rfl, hg5⟩
   have HB5 : Hid (Below w.heap.size w w5) := HB4.out.trans (hg5.mono HB4.out.size)
   clear hg5
   go_wp2_with fail
   go_ret
   exact ⟨rfl, HB5.out⟩
  ·obtain ⟨c, rfl, hdc⟩ : ∃ c, p3 = some ⟨c, 0, none⟩ ∧ DM w3 q la c := Hp3.out.elim (fun h => absurd rfl h.1) (fun h => h.2)
   obtain ⟨d, rfl, hdd⟩ : ∃ d, p4 = some ⟨d, 0, none⟩ ∧ DM w4 r lb d := Hp4.out.elim (fun h => absurd rfl h.1) (fun h => h.2)
   obtain ⟨hpr, hr6⟩ := HP.out rfl
   subst hpr
   have HMa4 : Hid (MC w4 q ta a) := hma.keeps hg14
   have HMb4 : Hid (MC w4 r tb b) := hmb.keeps hg24
   have HDc4 : Hid (DM w4 q la c) := hdc.keeps Hg34.out
   have HDd4 : Hid (DM w4 r lb d) := hdd
   have Hta : Hid (ta.items = la) := hia
   have HEQ : Hid (eqS r la lb = true ↔ ∀ y, y ∈ ta.items ↔ y ∈ tb.items) := by
    show _ ↔ _
    rw [hia, hib]
    exact eqS_iff hdc.rises hdd.rises hdc.right hdd.right
   have HU : Hid (Calls Tryz.prog 28 #[.pointer (some ⟨a, 0, none⟩), .pointer (some ⟨b, 0, none⟩)] w4 (MpPost q (uniL q la lb) (uniE (uniL q la lb)) w4)) := by
    have h9 := muni_14 HMa4.out HMb4.out
    rw [hia, hib] at h9
    exact h9
   have HV : Hid (∀ V, Below w4.heap.size w4 V → Calls Tryz.prog 29 #[.pointer (some ⟨c, 0, none⟩), .pointer (some ⟨d, 0, none⟩)] V (DpPost q (uniL q la lb) (uniE (uniL q la lb)) V)) := fun V hV => runi_14 (HDc4.out.keeps hV) (HDd4.out.keeps hV)
   generalize uniE (uniL q la lb) = EU at *
   generalize uniL q la lb = UL at *
   clear hma hmb hdc hdd hia hib hg14 hg24 Hg34 Hp1 Hp2 Hp3 Hp4 HSp4 HP
   obtain ⟨x0, x1, x2, x3⟩ := HX4.out
   go_wp2_with fail
   refine Calls.mono HU.out ?_
   rintro e w5 ⟨hg5, p5, rfl, hp5⟩
   have Hp5 : Hid ((EU ≠ 0 ∧ p5 = none) ∨ (EU = 0 ∧ ∃ t b, p5 = some ⟨b, 0, none⟩ ∧ MC w5 q t b ∧ t.items = UL)) := hp5
   have HV5 := show Hid _ from HV.out w5 hg5
   have Hg45 : Hid (Below w4.heap.size w4 w5) := hg5
   clear x0 x1 x2 x3 hg5 hp5 HU HV
   go_wp2_with fail
   refine Calls.mono HV5.out ?_
   rintro e V0 ⟨hg6, p6, rfl, hp6⟩
   have Hp6 : Hid ((EU ≠ 0 ∧ p6 = none) ∨ (EU = 0 ∧ ∃ b, p6 = some ⟨b, 0, none⟩ ∧ DM V0 q UL b)) := hp6
   have Hg56 : Hid (Below w5.heap.size w5 V0) := hg6
   have Hg46 : Hid (Below w4.heap.size w4 V0) := Hg45.out.trans (hg6.mono Hg45.out.size)
   clear hg6 hp6 HV5
   rcases Hp5.out with ⟨h0, rfl⟩ | ⟨rfl, tu, bu, rfl, hmu, hiu⟩
   ·have hne : (EU == 0) = false := by simpa using h0
    obtain rfl : p6 = none := Hp6.out.elim (fun h => h.2) (fun h => absurd h.1 h0)
    have HBV : Hid (Below w.heap.size w V0) := HB4.out.trans (Hg46.out.mono HB4.out.size)
    have HMa : Hid (MC V0 q ta a) := HMa4.out.keeps Hg46.out
    have HMb : Hid (MC V0 r tb b) := HMb4.out.keeps Hg46.out
    have HDc : Hid (DM V0 q la c) := HDc4.out.keeps Hg46.out
    have HDd : Hid (DM V0 r lb d) := HDd4.out.keeps Hg46.out
    have HXB : Hid (V0.cell? ⟨w.heap.size, 0, none⟩ = some (.int .i64 o) ∧ V0.cell? ⟨w.heap.size, 1, none⟩ = some (.int .i64 (r : Int)) ∧ V0.cell? ⟨w.heap.size, 2, none⟩ = some (.slice a1 m1 c1) ∧ V0.cell? ⟨w.heap.size, 3, none⟩ = some (.slice a2 m2 c2)) := (fun H => ⟨cell_keeps Hg46.out H.1, cell_keeps Hg46.out H.2.1, cell_keeps Hg46.out H.2.2.1, cell_keeps Hg46.out H.2.2.2⟩) HX4.out
    clear HMa4 HMb4 HDc4 HDd4 HX4 Hp5 Hp6 Hg45 Hg56 Hg46 HB4
    have HXv : Hid (V0.cell? ⟨w.heap.size, 1, none⟩ = some (.int .i64 (r : Int))) := HXB.out.2.1
    have x1 := HXv.out
    have HT1 : Hid (Calls Tryz.prog 30 #[.pointer (some ⟨a, 0, none⟩), .int .i64 (r : Int)] V0 (MpPost r (ofL r ta.items) 0 V0)) := turn_mp HMa.out hr6
    have HE1 : Hid (∀ V', Below V0.heap.size V0 V' → Calls Tryz.prog 32 #[.pointer (some ⟨a, 0, none⟩), .pointer (some ⟨b, 0, none⟩)] V' fun e w' => e = .returned (.bool (eqS r la lb)) ∧ Below V'.heap.size V' w') := fun V' hV => equal_14 (HMa.out.keeps hV) (HMb.out.keeps hV) _ HEQ.out
    have HE2 : Hid (∀ V', Below V0.heap.size V0 V' → Calls Tryz.prog 33 #[.pointer (some ⟨c, 0, none⟩), .pointer (some ⟨d, 0, none⟩)] V' fun e w' => e = .returned (.bool (eqS r la lb)) ∧ Below V'.heap.size V' w') := fun V' hV => requal_14 (HDc.out.keeps hV) (HDd.out.keeps hV)
    have HTd : Hid (∀ V', Below V0.heap.size V0 V' → Calls Tryz.prog 31 #[.pointer (some ⟨c, 0, none⟩), .int .i64 (r : Int)] V' (DpPost r (ofL r la) 0 V')) := fun V' hV => rturn_dp (HDc.out.keeps hV) hr6
    clear HXB HMb HDc HDd HEQ
    generalize eqS r la lb = REQ at *
    go_wp2_with fail
    refine Calls.mono HT1.out ?_
    rintro e w7 ⟨hg7, pt, rfl, hpt⟩
    obtain ⟨s, bt, rfl, hms, his⟩ : ∃ s bt, pt = some ⟨bt, 0, none⟩ ∧ MC w7 r s bt ∧ s.items = ofL r ta.items := hpt.elim (fun h => absurd rfl h.1) (fun h => h.2)
    have HMs : Hid (MC w7 r s bt) := hms
    have His : Hid (s.items = ofL r ta.items) := his
    have Hg7 : Hid (Below V0.heap.size V0 w7) := hg7
    have x1 := cell_keeps hg7 HXv.out
    have HTd7 := show Hid _ from HTd.out w7 hg7
    clear hms his hpt hg7 HT1 HTd
    go_wp2_with fail
    refine Calls.mono HTd7.out ?_
    rintro e w8 ⟨hg8, py, rfl, hpy⟩
    obtain ⟨by8, rfl, hd8⟩ : ∃ by8, py = some ⟨by8, 0, none⟩ ∧ DM w8 r (ofL r la) by8 := hpy.elim (fun h => absurd rfl h.1) (fun h => h.2)
    have Hg8 : Hid (Below V0.heap.size V0 w8) := Hg7.out.trans (hg8.mono Hg7.out.size)
    have HS8 : Hid (Calls Tryz.prog 13 #[.pointer (some ⟨bt, 0, none⟩), .pointer (some ⟨by8, 0, none⟩)] w8 fun e w' => e = .returned (.bool true) ∧ Below w8.heap.size w8 w') := same_14 (HMs.out.keeps hg8) (by rw [His.out, Hta.out]; exact hd8)
    have HMs8 : Hid (MC w8 r s bt) := HMs.out.keeps hg8
    have HE3 : Hid (∀ V', Below w8.heap.size w8 V' → Calls Tryz.prog 32 #[.pointer (some ⟨a, 0, none⟩), .pointer (some ⟨bt, 0, none⟩)] V' fun e w' => e = .returned (.bool true) ∧ Below V'.heap.size V' w') := fun V' hV => equal_14 (HMa.out.keeps (Hg8.out.trans (hV.mono Hg8.out.size))) (HMs8.out.keeps hV) true ⟨fun _ y => by rw [His.out]; exact (ofL_mem HMa.out y).symm, fun _ => rfl⟩
    clear hd8 hpy hg8 HTd7 x1 HXv Hg7 HMs HMa HMs8
    go_wp2_with fail
    refine Calls.mono HS8.out ?_
    rintro e w9 ⟨rfl, hg9⟩
    have Hg9 : Hid (Below V0.heap.size V0 w9) := Hg8.out.trans (hg9.mono Hg8.out.size)
    have H89 : Hid (Below w8.heap.size w8 w9) := hg9
    have HE19 := show Hid _ from HE1.out w9 Hg9.out
    clear hg9 HS8 HE1
    go_wp2_with fail
    refine Calls.mono HE19.out ?_
    rintro e w10 ⟨rfl, hg10⟩
    have Hg10 : Hid (Below V0.heap.size V0 w10) := Hg9.out.trans (hg10.mono Hg9.out.size)
    have H810 : Hid (Below w8.heap.size w8 w10) := H89.out.trans (hg10.mono H89.out.size)
    have HE210 := show Hid _ from HE2.out w10 Hg10.out
    clear hg10 HE19 HE2 H89
    go_wp2_with fail
    refine Calls.mono HE210.out ?_
    rintro e w11 ⟨rfl, hg11⟩
    have Hg11 : Hid (Below V0.heap.size V0 w11) := Hg10.out.trans (hg11.mono Hg10.out.size)
    have H811 : Hid (Below w8.heap.size w8 w11) := H810.out.trans (hg11.mono H810.out.size)
    have HE311 := show Hid _ from HE3.out w11 H811.out
    have hbe : (REQ == REQ) = true := by simp
    clear hg11 HE210 HE3 H810
    go_wp2_with fail
    refine Calls.mono HE311.out ?_
    rintro e w12 ⟨rfl, hg12⟩
    have Hg12 : Hid (Below V0.heap.size V0 w12) := Hg11.out.trans (hg12.mono Hg11.out.size)
    have HSp12 := show Hid _ from HSp.out w12
    clear hg12 HE311 H811
    go_wp2_with fail
    refine Calls.mono HSp12.out ?_
    rintro e w13 ⟨rfl, hg13⟩
    have HF : Hid (Below w.heap.size w w13) := HBV.out.trans ((Hg12.out.trans (hg13.mono Hg12.out.size)).mono HBV.out.size)
    clear hg13
    go_wp2_with fail
    go_ret
    exact ⟨rfl, HF.out⟩
   ·obtain ⟨cu, rfl, hdu⟩ : ∃ cu, p6 = some ⟨cu, 0, none⟩ ∧ DM V0 q UL cu := Hp6.out.elim (fun h => absurd rfl h.1) (fun h => h.2)
    have HS6 : Hid (Calls Tryz.prog 13 #[.pointer (some ⟨bu, 0, none⟩), .pointer (some ⟨cu, 0, none⟩)] V0 fun e w' => e = .returned (.bool true) ∧ Below V0.heap.size V0 w') := same_14 (hmu.keeps Hg56.out) (by rw [hiu]; exact hdu)
    clear hmu hiu hdu Hp5 Hp6 Hg45 Hg56
    go_wp2_with fail
    refine Calls.mono HS6.out ?_
    rintro e V ⟨rfl, hgV⟩
    have Hg4V : Hid (Below w4.heap.size w4 V) := Hg46.out.trans (hgV.mono Hg46.out.size)
    have HBV : Hid (Below w.heap.size w V) := HB4.out.trans (Hg4V.out.mono HB4.out.size)
    have HMa : Hid (MC V q ta a) := HMa4.out.keeps Hg4V.out
    have HMb : Hid (MC V r tb b) := HMb4.out.keeps Hg4V.out
    have HDc : Hid (DM V q la c) := HDc4.out.keeps Hg4V.out
    have HDd : Hid (DM V r lb d) := HDd4.out.keeps Hg4V.out
    have HXB : Hid (V.cell? ⟨w.heap.size, 0, none⟩ = some (.int .i64 o) ∧ V.cell? ⟨w.heap.size, 1, none⟩ = some (.int .i64 (r : Int)) ∧ V.cell? ⟨w.heap.size, 2, none⟩ = some (.slice a1 m1 c1) ∧ V.cell? ⟨w.heap.size, 3, none⟩ = some (.slice a2 m2 c2)) := (fun H => ⟨cell_keeps Hg4V.out H.1, cell_keeps Hg4V.out H.2.1, cell_keeps Hg4V.out H.2.2.1, cell_keeps Hg4V.out H.2.2.2⟩) HX4.out
    clear HMa4 HMb4 HDc4 HDd4 HX4 Hg46 HB4 Hg4V hgV HS6
    have HXv : Hid (V.cell? ⟨w.heap.size, 1, none⟩ = some (.int .i64 (r : Int))) := HXB.out.2.1
    have x1 := HXv.out
    have HT1 : Hid (Calls Tryz.prog 30 #[.pointer (some ⟨a, 0, none⟩), .int .i64 (r : Int)] V (MpPost r (ofL r ta.items) 0 V)) := turn_mp HMa.out hr6
    have HE1 : Hid (∀ V', Below V.heap.size V V' → Calls Tryz.prog 32 #[.pointer (some ⟨a, 0, none⟩), .pointer (some ⟨b, 0, none⟩)] V' fun e w' => e = .returned (.bool (eqS r la lb)) ∧ Below V'.heap.size V' w') := fun V' hV => equal_14 (HMa.out.keeps hV) (HMb.out.keeps hV) _ HEQ.out
    have HE2 : Hid (∀ V', Below V.heap.size V V' → Calls Tryz.prog 33 #[.pointer (some ⟨c, 0, none⟩), .pointer (some ⟨d, 0, none⟩)] V' fun e w' => e = .returned (.bool (eqS r la lb)) ∧ Below V'.heap.size V' w') := fun V' hV => requal_14 (HDc.out.keeps hV) (HDd.out.keeps hV)
    have HTd : Hid (∀ V', Below V.heap.size V V' → Calls Tryz.prog 31 #[.pointer (some ⟨c, 0, none⟩), .int .i64 (r : Int)] V' (DpPost r (ofL r la) 0 V')) := fun V' hV => rturn_dp (HDc.out.keeps hV) hr6
    clear HXB HMb HDc HDd HEQ
    generalize eqS r la lb = REQ at *
    go_wp2_with fail
    refine Calls.mono HT1.out ?_
    rintro e w7 ⟨hg7, pt, rfl, hpt⟩
    obtain ⟨s, bt, rfl, hms, his⟩ : ∃ s bt, pt = some ⟨bt, 0, none⟩ ∧ MC w7 r s bt ∧ s.items = ofL r ta.items := hpt.elim (fun h => absurd rfl h.1) (fun h => h.2)
    have HMs : Hid (MC w7 r s bt) := hms
    have His : Hid (s.items = ofL r ta.items) := his
    have Hg7 : Hid (Below V.heap.size V w7) := hg7
    have x1 := cell_keeps hg7 HXv.out
    have HTd7 := show Hid _ from HTd.out w7 hg7
    clear hms his hpt hg7 HT1 HTd
    go_wp2_with fail
    refine Calls.mono HTd7.out ?_
    rintro e w8 ⟨hg8, py, rfl, hpy⟩
    obtain ⟨by8, rfl, hd8⟩ : ∃ by8, py = some ⟨by8, 0, none⟩ ∧ DM w8 r (ofL r la) by8 := hpy.elim (fun h => absurd rfl h.1) (fun h => h.2)
    have Hg8 : Hid (Below V.heap.size V w8) := Hg7.out.trans (hg8.mono Hg7.out.size)
    have HS8 : Hid (Calls Tryz.prog 13 #[.pointer (some ⟨bt, 0, none⟩), .pointer (some ⟨by8, 0, none⟩)] w8 fun e w' => e = .returned (.bool true) ∧ Below w8.heap.size w8 w') := same_14 (HMs.out.keeps hg8) (by rw [His.out, Hta.out]; exact hd8)
    have HMs8 : Hid (MC w8 r s bt) := HMs.out.keeps hg8
    have HE3 : Hid (∀ V', Below w8.heap.size w8 V' → Calls Tryz.prog 32 #[.pointer (some ⟨a, 0, none⟩), .pointer (some ⟨bt, 0, none⟩)] V' fun e w' => e = .returned (.bool true) ∧ Below V'.heap.size V' w') := fun V' hV => equal_14 (HMa.out.keeps (Hg8.out.trans (hV.mono Hg8.out.size))) (HMs8.out.keeps hV) true ⟨fun _ y => by rw [His.out]; exact (ofL_mem HMa.out y).symm, fun _ => rfl⟩
    clear hd8 hpy hg8 HTd7 x1 HXv Hg7 HMs HMa HMs8
    go_wp2_with fail
    refine Calls.mono HS8.out ?_
    rintro e w9 ⟨rfl, hg9⟩
    have Hg9 : Hid (Below V.heap.size V w9) := Hg8.out.trans (hg9.mono Hg8.out.size)
    have H89 : Hid (Below w8.heap.size w8 w9) := hg9
    have HE19 := show Hid _ from HE1.out w9 Hg9.out
    clear hg9 HS8 HE1
    go_wp2_with fail
    refine Calls.mono HE19.out ?_
    rintro e w10 ⟨rfl, hg10⟩
    have Hg10 : Hid (Below V.heap.size V w10) := Hg9.out.trans (hg10.mono Hg9.out.size)
    have H810 : Hid (Below w8.heap.size w8 w10) := H89.out.trans (hg10.mono H89.out.size)
    have HE210 := show Hid _ from HE2.out w10 Hg10.out
    clear hg10 HE19 HE2 H89
    go_wp2_with fail
    refine Calls.mono HE210.out ?_
    rintro e w11 ⟨rfl, hg11⟩
    have Hg11 : Hid (Below V.heap.size V w11) := Hg10.out.trans (hg11.mono Hg10.out.size)
    have H811 : Hid (Below w8.heap.size w8 w11) := H810.out.trans (hg11.mono H810.out.size)
    have HE311 := show Hid _ from HE3.out w11 H811.out
    have hbe : (REQ == REQ) = true := by simp
    clear hg11 HE210 HE3 H810
    go_wp2_with fail
    refine Calls.mono HE311.out ?_
    rintro e w12 ⟨rfl, hg12⟩
    have Hg12 : Hid (Below V.heap.size V w12) := Hg11.out.trans (hg12.mono Hg11.out.size)
    have HSp12 := show Hid _ from HSp.out w12
    clear hg12 HE311 H811
    go_wp2_with fail
    refine Calls.mono HSp12.out ?_
    rintro e w13 ⟨rfl, hg13⟩
    have HF : Hid (Below w.heap.size w w13) := HBV.out.trans ((Hg12.out.trans (hg13.mono Hg12.out.size)).mono HBV.out.size)
    clear hg13
    go_wp2_with fail
    go_ret
    exact ⟨rfl, HF.out⟩

end Go.Proofs.YtlnecfjnffdciaaGreat

