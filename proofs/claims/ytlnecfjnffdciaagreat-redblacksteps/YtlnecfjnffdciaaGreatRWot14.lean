import Derived.Test.YtlnecfjnffdciaaGreatRHave14
import Derived.Test.YtlnecfjnffdciaaGreatWithP14
import Derived.Test.YtlnecfjnffdciaaGreatAppR
import Derived.Deep.RegionLaw
import Derived.Deep.CutRange
import Derived.Deep.CutBlock
namespace Go.Proofs.YtlnecfjnffdciaaGreat
open Go.RowKit Go.Shelf

def DmPost (q : Nat) (l : List PT) (w : World) (e : Ending) (w' : World) : Prop := Below w.heap.size w w' ∧ ∃ b, e = .returned (.pointer (some ⟨b, 0, none⟩)) ∧ DM w' q l b

set_option maxRecDepth 100000 in
set_option maxHeartbeats 16000000 in
theorem rwith_14 {w0 w : World} {q : Nat} {l : List PT} {c : Nat} (h0 : DM w0 q l c) (hw0 : Below w0.heap.size w0 w) (y z : VT) (yu zu : Value) (hy : Lies 16 w y.items yu) (hyr : rightV 16 y = true) (hz : Lies 16 w z.items zu) (hzr : rightV 16 z = true) (hyt : y.text.size ≤ 9223372036854775807) (hzt : z.text.size ≤ 9223372036854775807) (hsz : findK q y l = none → l.length < 65536) :
 Calls Tryz.prog 74 #[.pointer (some ⟨c, 0, none⟩), .agg #[.int .i64 y.kind, .int .i64 y.num, .string y.text, yu], .agg #[.int .i64 z.kind, .int .i64 z.num, .string z.text, zu]] w (DmPost q (withK q y z l) w) := by
 have h := h0.keeps hw0
 obtain ⟨ay, cy, rfl, _⟩ := Lies.slice hy
 obtain ⟨az, cz, rfl, _⟩ := Lies.slice hz
 obtain ⟨qs, v, hrow, hqt, hsl⟩ := h.row
 obtain ⟨W0, hW0⟩ : ∃ W0, W0 = ((w.alloc (.cells #[.int .i64 y.kind, .int .i64 y.num, .string y.text, .slice ay y.items.length cy] 34)).alloc (.cells #[.int .i64 z.kind, .int .i64 z.num, .string z.text, .slice az z.items.length cz] 34)) := ⟨_, rfl⟩
 have hb0 : Below w.heap.size w W0 := by rw [hW0]; exact (((Grew.refl w).alloc _).alloc _).below
 have HY0 : Hid (Bx W0 w.heap.size y (.slice ay y.items.length cy)) := by rw [hW0]; exact (bx_alloc _ _ _).keeps ((Grew.refl _).alloc _).below
 have HZ0 : Hid (Bx W0 (w.heap.size + 1) z (.slice az z.items.length cz)) := by
  rw [hW0]
  have h9 := bx_alloc (w.alloc (.cells #[.int .i64 y.kind, .int .i64 y.num, .string y.text, .slice ay y.items.length cy] 34)) z (.slice az z.items.length cz)
  rwa [World.size_alloc] at h9
 have HPc : Hid (Calls Tryz.prog 73 #[.pointer (some ⟨c, 0, none⟩), .agg #[.int .i64 y.kind, .int .i64 y.num, .string y.text, .slice ay y.items.length cy]] W0 (PlPost q y l W0)) := rplc_14 (h.keeps hb0) y _ (Lies.keeps hb0 _ _ _ hy) hyr
 have hsW : W0.heap.size = w.heap.size + 1 + 1 := by rw [hW0]; simp
 have HsW : Hid (W0.heap.size = w.heap.size + 1 + 1) := hsW
 have HD : Hid (DM w q l c) := h
 have HYZ : Hid (GoodQ 16 w ((y, .slice ay y.items.length cy), (z, .slice az z.items.length cz)) ∧ (Good 16 y ∧ Good 16 z)) := ⟨⟨⟨hy, hyt⟩, ⟨hz, hzt⟩⟩, ⟨hyr, Dp.of_lies 16 w y _ hy⟩, ⟨hzr, Dp.of_lies 16 w z _ hz⟩⟩
 have HSz : Hid (findK q y l = none → l.length < 65536) := hsz
 have Hc0 : Hid (w.cell? ⟨c, 0, none⟩ = some (.int .i64 (q : Int))) := h.ord
 clear hsW h hy hyr hz hzr hyt hzt hsz h0
 go_enter Tryz.func74, Tryz.ntmps74
 obtain ⟨r0, r1, r2, r3, _, _, _, _⟩ := HY0.out
 go_wp2_with fail
 rw [← hW0]
 clear hW0
 go_wp2_with fail
 refine Calls.mono HPc.out ?_
 rintro e w1 ⟨hg1, r, F, rfl, hpl, hF1, hF2⟩
 have hb1 : Below w.heap.size w w1 := hb0.trans (hg1.mono hb0.size)
 have HY1 : Hid (Bx w1 w.heap.size y (.slice ay y.items.length cy)) := HY0.out.keeps hg1
 have HZ1 : Hid (Bx w1 (w.heap.size + 1) z (.slice az z.items.length cz)) := HZ0.out.keeps hg1
 have c0 := cell_keeps hb1 Hc0.out
 have hcw := cell_lt Hc0.out
 simp only at hcw
 have hl1 : w.heap.size + 1 < w1.heap.size := by have := hg1.size; have := HsW.out; omega
 clear r0 r1 r2 r3 HPc HY0 HZ0 hg1
 go_wp2_with fail
 obtain ⟨a, cp, rfl, _⟩ := hsl.slice
 obtain ⟨N, hN⟩ : ∃ N, N = qs.length := ⟨_, rfl⟩
 rw [← hN] at hrow hsl
 have hNl : N = l.length := by rw [hN, ← hqt, List.length_map]
 have hrN : r ≤ N := by rw [hNl]; exact hpl.le
 have hN5 : N ≤ 65536 := by rw [hNl]; exact HD.out.size
 have hNc : N ≤ cp := by have := hsl; obtain ⟨_, _, he, h1, _⟩ := this; simp only [Value.slice.injEq] at he; omega
 have hrc : r ≤ cp := by omega
 obtain ⟨WG, hWG⟩ : ∃ WG, WG = w1.alloc (.cells #[.int .i64 (q : Int), .slice none 0 0] 56) := ⟨_, rfl⟩
 rw [← hWG]
 have hbG : Below w1.heap.size w1 WG := by rw [hWG]; exact ((Grew.refl w1).alloc _).below
 have hbwG : Below w.heap.size w WG := hb1.trans (hbG.mono hb1.size)
 have HG : Hid (Box2 WG w1.heap.size 56 (.int .i64 (q : Int)) (.slice none 0 0)) := by rw [hWG]; exact Box2.new w1 _ _ _
 have hsG : w1.heap.size < WG.heap.size := by rw [hWG]; simp
 have HYG : Hid (Bx WG w.heap.size y (.slice ay y.items.length cy)) := HY1.out.keeps hbG
 have HZG : Hid (Bx WG (w.heap.size + 1) z (.slice az z.items.length cz)) := HZ1.out.keeps hbG
 have c1 := cell_keeps hbwG hrow
 obtain ⟨g0, g1, g2, g3⟩ := HG.out.cells
 clear c0 hWG
 have HL3 : Hid (SlQ 0 16 w qs (.slice a N cp)) := hsl
 have Hc1 : Hid (w.cell? ⟨c, 1, none⟩ = some (.slice a N cp)) := hrow
 have HbG : Hid (Below w1.heap.size w1 WG) := hbG
 have hw1 := hb1.size
 have hF : Hid ((F = true → ∃ hr : r < l.length, ordV q l[r].1 y = 0) ∧ (F = false → ∀ hr : r < l.length, ordV q l[r].1 y ≠ 0)) := ⟨hF1, hF2⟩
 have HPl : Hid (PlK q y l r) := hpl
 have HNq : Hid (N = qs.length) := hN
 have Hqt : Hid (qs.map trT = l) := hqt
 clear hsl hrow c1 hbG hF1 hF2 hpl hN hqt hNl
 go_cut [9] from 32 to 35 (fun s9 wx => ∃ (a5 : Option Addr) (c5 : Nat), s9 = .pointer (some ⟨w1.heap.size, 0, none⟩) ∧ Hid (Box2 wx w1.heap.size 56 (.int .i64 (q : Int)) (.slice a5 r c5)) ∧ Hid (wx.ownsRow w1.heap.size 69 8 (.slice a5 r c5) r ((qs.take r).flatMap encQ)) ∧ Hid (Below w1.heap.size w1 wx))
 case first =>
  have x0 : WG.drew.cell? ⟨c, 1, none⟩ = some (.slice a N cp) := cell_keeps hbwG Hc1.out
  have x1 : WG.drew.cell? ⟨w1.heap.size, 1, none⟩ = some (.slice none 0 0) := g1
  have x2 : WG.drew.frozen? ⟨w1.heap.size, 1, none⟩ = false := g3
  have HOw : Hid (WG.drew.ownsRow w1.heap.size 69 8 (.slice none 0 0) 0 []) := World.ownsRow_nil _ _ _ _
  have HSr : Hid (∀ V, Below w.heap.size w V → SrcR V a r ((qs.take r).flatMap encQ)) := fun V hV => (HL3.out.srcTake r hrN).keeps hV
  have Hbs : Hid (w1.heap.size ≤ WG.drew.heap.size) := HbG.out.size
  have HGd : Hid (Box2 WG.drew w1.heap.size 56 (.int .i64 (q : Int)) (.slice none 0 0)) := HG.out
  have HbD : Hid (Below w.heap.size w WG.drew) := hbwG.drew
  go_region_law (refine stepR_append rfl (.tmp 26) (.tmp 32) rfl (base := w1.heap.size) (n := 0) (xs := []) rfl HOw.out rfl (HSr.out _ HbD.out) (by omega) Hbs.out r (Nat.zero_add _) ((qs.take r).flatMap encQ) rfl ?_; intro a5 c5 w5 hown5 hg5; obtain ⟨hb5, hst⟩ := row2_step HGd.out (Nat.le_refl _) Hbs.out HOw.out hown5 hg5; obtain ⟨_, h51, _, h53⟩ := hb5.cells; have Hst : Hid _ := hst; clear hown5 hg5 hb5 hst)
  all_goals go_wp2_with fail
  all_goals go_meet
  all_goals exact ⟨_, _, rfl, Hst.out.1, Hst.out.2.1, HbG.out.trans ((Below.drew (Below.refl _ _)).trans Hst.out.2.2)⟩
 case rest =>
  obtain ⟨a5, c5, rfl, HG5, HO5, HB5⟩ := hcut
  generalize hV5 : wc = V5 at *
  clear hV5 HG hbwG HYG HZG g0 g1 g2 g3 hsG HbG
  have HY5 : Hid (Bx V5 w.heap.size y (.slice ay y.items.length cy)) := HY1.out.keeps HB5.out
  have HZ5 : Hid (Bx V5 (w.heap.size + 1) z (.slice az z.items.length cz)) := HZ1.out.keeps HB5.out
  obtain ⟨r0, r1, r2, r3, _, _, _, _⟩ := HY5.out
  obtain ⟨s0, s1, s2, s3, _, _, _, _⟩ := HZ5.out
  obtain ⟨g0, g1, g2, g3⟩ := HG5.out.cells
  have h5l : w1.heap.size ≤ V5.heap.size := HB5.out.size
  have h5g := HG5.out.lt
  go_upto_region 4 with fail
  go_cut [9] from 36 to 47 (fun s9 wx => ∃ (a7 : Option Addr) (c7 : Nat), s9 = .pointer (some ⟨w1.heap.size, 0, none⟩) ∧ Hid (Box2 wx w1.heap.size 56 (.int .i64 (q : Int)) (.slice a7 (r + 1) c7)) ∧ Hid (wx.ownsRow w1.heap.size 69 8 (.slice a7 (r + 1) c7) (r + 1) ((qs.take r).flatMap encQ ++ encQ ((y, .slice ay y.items.length cy), (z, .slice az z.items.length cz)))) ∧ Hid (Below w1.heap.size w1 wx))
  case first =>
   have Hone := encQ_one HYZ.out.1
   have HA : Hid (Below V5.heap.size V5 (V5.drew.alloc (.cells #[.int .i64 y.kind, .int .i64 y.num, .string y.text, .slice ay y.items.length cy, .int .i64 z.kind, .int .i64 z.num, .string z.text, .slice az z.items.length cz] 69))) := ((Below.refl V5.heap.size V5).drew).alloc (Nat.le_refl _) _
   have HOw : Hid ((V5.drew.alloc (.cells #[.int .i64 y.kind, .int .i64 y.num, .string y.text, .slice ay y.items.length cy, .int .i64 z.kind, .int .i64 z.num, .string z.text, .slice az z.items.length cz] 69)).ownsRow w1.heap.size 69 8 (.slice a5 r c5) r ((qs.take r).flatMap encQ)) := HO5.out.drew.alloc _
   have HSr : Hid (SrcR (V5.drew.alloc (.cells #[.int .i64 y.kind, .int .i64 y.num, .string y.text, .slice ay y.items.length cy, .int .i64 z.kind, .int .i64 z.num, .string z.text, .slice az z.items.length cz] 69)) (some ⟨V5.heap.size, 0, none⟩) 1 (encQ ((y, .slice ay y.items.length cy), (z, .slice az z.items.length cz)))) := litR V5.drew ((y, .slice ay y.items.length cy), (z, .slice az z.items.length cz)) Hone
   have Hbs : Hid (w1.heap.size ≤ (V5.drew.alloc (.cells #[.int .i64 y.kind, .int .i64 y.num, .string y.text, .slice ay y.items.length cy, .int .i64 z.kind, .int .i64 z.num, .string z.text, .slice az z.items.length cz] 69)).heap.size) := Nat.le_trans h5l HA.out.size
   have HGd : Hid (Box2 (V5.drew.alloc (.cells #[.int .i64 y.kind, .int .i64 y.num, .string y.text, .slice ay y.items.length cy, .int .i64 z.kind, .int .i64 z.num, .string z.text, .slice az z.items.length cz] 69)) w1.heap.size 56 (.int .i64 (q : Int)) (.slice a5 r c5)) := HG5.out.keeps HA.out
   clear Hone
   go_region_law (refine stepR_append rfl (.tmp 40) (.tmp 44) rfl (base := w1.heap.size) (n := r) (xs := (qs.take r).flatMap encQ) rfl HOw.out rfl HSr.out (by omega) Hbs.out (r + 1) rfl _ rfl ?_; intro a7 c7 w7 hown7 hg7; obtain ⟨hb7, hst⟩ := row2_step HGd.out (Nat.le_refl _) Hbs.out HOw.out hown7 hg7; obtain ⟨_, h71, _, h73⟩ := hb7.cells; have Hst : Hid _ := hst; clear hown7 hg7 hb7 hst)
   all_goals go_wp2_with fail
   all_goals go_meet
   all_goals exact ⟨_, _, rfl, Hst.out.1, Hst.out.2.1, HB5.out.trans ((HA.out.mono h5l).trans Hst.out.2.2)⟩
  case rest =>
   obtain ⟨a7, c7, rfl, HG7, HO7, HB7⟩ := hcut
   generalize hV7 : wc = V7 at *
   clear hV7 HG5 HO5 HB5 HY5 HZ5 r0 r1 r2 r3 s0 s1 s2 s3 g0 g1 g2 g3 h5l h5g
   obtain ⟨g0, g1, g2, g3⟩ := HG7.out.cells
   have h7l : w1.heap.size ≤ V7.heap.size := HB7.out.size
   have h7g := HG7.out.lt
   have HbV7 : Hid (Below w.heap.size w V7) := hb1.trans (HB7.out.mono hw1)
   have HFin : Hid (∀ (i : Nat), i ≤ N → l.drop i = l.filter (fun a => decide (atK q y a < 0)) → r + 1 + (N - i) ≤ 65536 → ∀ (a9 : Option Addr) (c9 : Nat) (W : World), Box2 W w1.heap.size 56 (.int .i64 (q : Int)) (.slice a9 (r + 1 + (N - i)) c9) → W.ownsRow w1.heap.size 69 8 (.slice a9 (r + 1 + (N - i)) c9) (r + 1 + (N - i)) (((qs.take r).flatMap encQ ++ encQ ((y, .slice ay y.items.length cy), (z, .slice az z.items.length cz))) ++ (qs.drop i).flatMap encQ) → Below w1.heap.size w1 W → DmPost q (withK q y z l) w (.returned (.pointer (some ⟨w1.heap.size, 0, none⟩))) W) := by
    intro i hi hdr hlen a9 c9 W h1 h2 h3
    have hbW : Below w.heap.size w W := hb1.trans (h3.mono hw1)
    have hfl : ((qs.take r).flatMap encQ ++ encQ ((y, .slice ay y.items.length cy), (z, .slice az z.items.length cz))) ++ (qs.drop i).flatMap encQ = (qs.take r ++ ((y, .slice ay y.items.length cy), (z, .slice az z.items.length cz)) :: qs.drop i).flatMap encQ := by simp
    have hmap : (qs.take r ++ ((y, .slice ay y.items.length cy), (z, .slice az z.items.length cz)) :: qs.drop i).map trT = withK q y z l := by
     rw [List.map_append, List.map_cons, List.map_take, List.map_drop, Hqt.out, HPl.out.take, hdr]
     rfl
    have hgood : ∀ p ∈ (qs.take r ++ ((y, .slice ay y.items.length cy), (z, .slice az z.items.length cz)) :: qs.drop i), GoodQ 16 W p := fun p hp => by
     rcases List.mem_append.1 hp with hp | hp
     ·exact (HL3.out.good p (List.mem_of_mem_take hp)).keeps hbW
     ·rcases List.mem_cons.1 hp with rfl | hp
      ·exact HYZ.out.1.keeps hbW
      ·exact (HL3.out.good p (List.mem_of_mem_drop hp)).keeps hbW
    have hll : (qs.take r ++ ((y, .slice ay y.items.length cy), (z, .slice az z.items.length cz)) :: qs.drop i).length = r + 1 + (N - i) := by
     rw [List.length_append, List.length_take, List.length_cons, List.length_drop, HNq.out]
     have := HNq.out
     omega
    refine ⟨hbW, _, rfl, ⟨h1.cells.1, ⟨_, _, h1.cells.2.1, hmap, ?_⟩, HD.out.q6, fun x hx => ?_, withK_rises HD.out.rises, ?_⟩⟩
    ·rw [hfl] at h2
     exact (SlQ.of_own hll.symm h2 hgood (by rw [hll]; omega)).mono (Nat.zero_le _)
    ·rcases withK_mem hx with rfl | hx
     ·exact HYZ.out.2
     ·exact HD.out.right x hx
    ·rw [← hmap, List.length_map, hll]; exact hlen
   have hNl : N = l.length := by rw [HNq.out, ← Hqt.out, List.length_map]
   cases F with
   | false =>
    obtain ⟨e1, e2⟩ := HPl.out.none_at HD.out.rises (hF.out.2 rfl)
    have HFi := show Hid _ from HFin.out r hrN e1 (by have := HSz.out e2; omega)
    clear HFin e1 e2 hNl hF HSz HYZ HD HPl
    by_cases hN0 : N = 0
    ·have hr0 : r = 0 := by omega
     have hz0 : ((qs.drop r).flatMap encQ) = [] := by rw [List.drop_eq_nil_of_le (by rw [← HNq.out]; omega)]; rfl
     subst hN0 hr0
     have x0 : V7.cell? ⟨c, 1, none⟩ = some (.slice a 0 cp) := cell_keeps HbV7.out Hc1.out
     have HOw : Hid (V7.drew.ownsRow w1.heap.size 69 8 (.slice a7 (0 + 1) c7) (0 + 1) ((qs.take 0).flatMap encQ ++ encQ ((y, .slice ay y.items.length cy), (z, .slice az z.items.length cz)))) := HO7.out.drew
     have Hbs : Hid (w1.heap.size ≤ V7.drew.heap.size) := h7l
     have HGd : Hid (Box2 V7.drew w1.heap.size 56 (.int .i64 (q : Int)) (.slice a7 (0 + 1) c7)) := HG7.out
     have HSr : Hid (SrcR V7.drew a (0 - 0) ((qs.drop 0).flatMap encQ)) := by rw [hz0]; exact SrcR.nil _ _
     clear hz0
     go_wp2_with fail
     go_region_law (refine stepR_append rfl (.tmp 55) (.tmp 61) rfl (base := w1.heap.size) (n := 0 + 1) (xs := (qs.take 0).flatMap encQ ++ encQ ((y, .slice ay y.items.length cy), (z, .slice az z.items.length cz))) rfl HOw.out rfl HSr.out (by omega) Hbs.out (0 + 1 + (0 - 0)) rfl _ rfl ?_; intro a9 c9 w9 hown9 hg9; obtain ⟨hb9, hst⟩ := row2_step HGd.out (Nat.le_refl _) Hbs.out HOw.out hown9 hg9; obtain ⟨_, h91, _, h93⟩ := hb9.cells; have Hst : Hid _ := HFi.out _ _ _ hst.1 hst.2.1 ((HB7.out.drew).trans hst.2.2); clear hown9 hg9 hb9 hst)
     all_goals go_wp2_with fail
     all_goals go_ret
     all_goals exact Hst.out
    ·obtain ⟨b, o, rfl⟩ : ∃ b o, a = some ⟨b, o, none⟩ := by
      obtain ⟨a2, c2, he, _, _, h3, _⟩ := HL3.out
      simp only [Value.slice.injEq] at he
      obtain ⟨b, o, e, _⟩ := h3 (fun e => by have := HNq.out; rw [e] at this; simp at this; omega)
      exact ⟨b, o, he.1.trans e⟩
     have hsd := (HL3.out.srcDrop r (by omega)).keeps (HbV7.out.drew)
     by_cases hci : cp = r
     ·have hz0 : ((qs.drop r).flatMap encQ) = [] := by rw [List.drop_eq_nil_of_le (by rw [← HNq.out]; omega)]; rfl
      have hz1 : N - r = 0 := by omega
      have hci := hci.symm
      subst hci
      have HFj := HFi.out
      rw [hz1] at HFj
      have HFi := show Hid _ from HFj
      have x0 : V7.cell? ⟨c, 1, none⟩ = some (.slice (some ⟨b, o, none⟩) N r) := cell_keeps HbV7.out Hc1.out
      have HOw : Hid (V7.drew.ownsRow w1.heap.size 69 8 (.slice a7 (r + 1) c7) (r + 1) ((qs.take r).flatMap encQ ++ encQ ((y, .slice ay y.items.length cy), (z, .slice az z.items.length cz)))) := HO7.out.drew
      have Hbs : Hid (w1.heap.size ≤ V7.drew.heap.size) := h7l
      have HGd : Hid (Box2 V7.drew w1.heap.size 56 (.int .i64 (q : Int)) (.slice a7 (r + 1) c7)) := HG7.out
      have HSr : Hid (SrcR V7.drew (some ⟨b, o, none⟩) 0 ((qs.drop r).flatMap encQ)) := by rw [hz0]; exact SrcR.nil _ _
      clear hz0 hz1 hsd HFj
      go_wp2_with fail
      go_region_law (refine stepR_append rfl (.tmp 55) (.tmp 61) rfl (base := w1.heap.size) (n := r + 1) (xs := (qs.take r).flatMap encQ ++ encQ ((y, .slice ay y.items.length cy), (z, .slice az z.items.length cz))) rfl HOw.out rfl HSr.out (by omega) Hbs.out (r + 1 + 0) rfl _ rfl ?_; intro a9 c9 w9 hown9 hg9; obtain ⟨hb9, hst⟩ := row2_step HGd.out (Nat.le_refl _) Hbs.out HOw.out hown9 hg9; obtain ⟨_, h91, _, h93⟩ := hb9.cells; have Hst : Hid _ := HFi.out _ _ _ hst.1 hst.2.1 ((HB7.out.drew).trans hst.2.2); clear hown9 hg9 hb9 hst)
      all_goals go_wp2_with fail
      all_goals go_ret
      all_goals exact Hst.out
     ·have hci2 : ¬ ((cp : Nat) : Int) = ((r : Nat) : Int) := by omega
      have x0 : V7.cell? ⟨c, 1, none⟩ = some (.slice (some ⟨b, o, none⟩) N cp) := cell_keeps HbV7.out Hc1.out
      have HOw : Hid (V7.drew.ownsRow w1.heap.size 69 8 (.slice a7 (r + 1) c7) (r + 1) ((qs.take r).flatMap encQ ++ encQ ((y, .slice ay y.items.length cy), (z, .slice az z.items.length cz)))) := HO7.out.drew
      have Hbs : Hid (w1.heap.size ≤ V7.drew.heap.size) := h7l
      have HGd : Hid (Box2 V7.drew w1.heap.size 56 (.int .i64 (q : Int)) (.slice a7 (r + 1) c7)) := HG7.out
      have HSr : Hid (SrcR V7.drew (some ⟨b, o + r * 8, none⟩) (N - r) ((qs.drop r).flatMap encQ)) := hsd
      clear hsd
      go_wp2_with fail
      go_region_law (refine stepR_append rfl (.tmp 55) (.tmp 61) rfl (base := w1.heap.size) (n := r + 1) (xs := (qs.take r).flatMap encQ ++ encQ ((y, .slice ay y.items.length cy), (z, .slice az z.items.length cz))) rfl HOw.out rfl HSr.out (by omega) Hbs.out (r + 1 + (N - r)) rfl _ rfl ?_; intro a9 c9 w9 hown9 hg9; obtain ⟨hb9, hst⟩ := row2_step HGd.out (Nat.le_refl _) Hbs.out HOw.out hown9 hg9; obtain ⟨_, h91, _, h93⟩ := hb9.cells; have Hst : Hid _ := HFi.out _ _ _ hst.1 hst.2.1 ((HB7.out.drew).trans hst.2.2); clear hown9 hg9 hb9 hst)
      all_goals go_wp2_with fail
      all_goals go_ret
      all_goals exact Hst.out
   | true =>
    obtain ⟨hrl, hrz⟩ := hF.out.1 rfl
    have e1 := (HPl.out.some_at HD.out.rises hrl hrz).1
    have hrl2 : r + 1 ≤ N := by omega
    have HFi := show Hid _ from HFin.out (r + 1) hrl2 e1 (by omega)
    clear HFin e1 hrz hrl hNl hF HSz HYZ HD HPl
    obtain ⟨b, o, rfl⟩ : ∃ b o, a = some ⟨b, o, none⟩ := by
     obtain ⟨a2, c2, he, _, _, h3, _⟩ := HL3.out
     simp only [Value.slice.injEq] at he
     obtain ⟨b, o, e, _⟩ := h3 (fun e => by have := HNq.out; rw [e] at this; simp at this; omega)
     exact ⟨b, o, he.1.trans e⟩
    have hsd := (HL3.out.srcDrop (r + 1) (by omega)).keeps (HbV7.out.drew)
    by_cases hci : cp = (r + 1)
    ·have hz0 : ((qs.drop (r + 1)).flatMap encQ) = [] := by rw [List.drop_eq_nil_of_le (by rw [← HNq.out]; omega)]; rfl
     have hz1 : N - (r + 1) = 0 := by omega
     have hri0 : (0 : Int) ≤ ((r : Nat) : Int) + 1 := by omega
     have hri : ((r : Nat) : Int) + 1 ≤ (N : Nat) := by omega
     subst hci
     have HFj := HFi.out
     rw [hz1] at HFj
     have HFi := show Hid _ from HFj
     have x0 : V7.cell? ⟨c, 1, none⟩ = some (.slice (some ⟨b, o, none⟩) N (r + 1)) := cell_keeps HbV7.out Hc1.out
     have HOw : Hid (V7.drew.ownsRow w1.heap.size 69 8 (.slice a7 (r + 1) c7) (r + 1) ((qs.take r).flatMap encQ ++ encQ ((y, .slice ay y.items.length cy), (z, .slice az z.items.length cz)))) := HO7.out.drew
     have Hbs : Hid (w1.heap.size ≤ V7.drew.heap.size) := h7l
     have HGd : Hid (Box2 V7.drew w1.heap.size 56 (.int .i64 (q : Int)) (.slice a7 (r + 1) c7)) := HG7.out
     have HSr : Hid (SrcR V7.drew (some ⟨b, o, none⟩) 0 ((qs.drop (r + 1)).flatMap encQ)) := by rw [hz0]; exact SrcR.nil _ _
     clear hz0 hz1 hsd HFj
     go_wp2_with fail
     go_region_law (refine stepR_append rfl (.tmp 55) (.tmp 61) rfl (base := w1.heap.size) (n := r + 1) (xs := (qs.take r).flatMap encQ ++ encQ ((y, .slice ay y.items.length cy), (z, .slice az z.items.length cz))) rfl HOw.out rfl HSr.out (by omega) Hbs.out (r + 1 + 0) rfl _ rfl ?_; intro a9 c9 w9 hown9 hg9; obtain ⟨hb9, hst⟩ := row2_step HGd.out (Nat.le_refl _) Hbs.out HOw.out hown9 hg9; obtain ⟨_, h91, _, h93⟩ := hb9.cells; have Hst : Hid _ := HFi.out _ _ _ hst.1 hst.2.1 ((HB7.out.drew).trans hst.2.2); clear hown9 hg9 hb9 hst)
     all_goals go_wp2_with fail
     all_goals go_ret
     all_goals exact Hst.out
    ·have hci2 : ¬ ((cp : Nat) : Int) = (((r + 1) : Nat) : Int) := by omega
     have hri0 : (0 : Int) ≤ ((r : Nat) : Int) + 1 := by omega
     have hri : ((r : Nat) : Int) + 1 ≤ (N : Nat) := by omega
     have hri2 : ¬ ((cp : Nat) : Int) = ((r : Nat) : Int) + 1 := by omega
     obtain ⟨K9, hK9⟩ : ∃ K9, K9 = r + 1 + (N - (r + 1)) := ⟨_, rfl⟩
     have HFj := HFi.out
     rw [← hK9] at HFj
     have HFi := show Hid _ from HFj
     have HK9 : Hid (r + 1 + (N - (r + 1)) = K9) := hK9.symm
     clear hK9 HFj
     have x0 : V7.cell? ⟨c, 1, none⟩ = some (.slice (some ⟨b, o, none⟩) N cp) := cell_keeps HbV7.out Hc1.out
     have HOw : Hid (V7.drew.ownsRow w1.heap.size 69 8 (.slice a7 (r + 1) c7) (r + 1) ((qs.take r).flatMap encQ ++ encQ ((y, .slice ay y.items.length cy), (z, .slice az z.items.length cz)))) := HO7.out.drew
     have Hbs : Hid (w1.heap.size ≤ V7.drew.heap.size) := h7l
     have HGd : Hid (Box2 V7.drew w1.heap.size 56 (.int .i64 (q : Int)) (.slice a7 (r + 1) c7)) := HG7.out
     have HSr : Hid (SrcR V7.drew (some ⟨b, o + (r + 1) * 8, none⟩) (N - (r + 1)) ((qs.drop (r + 1)).flatMap encQ)) := hsd
     clear hsd
     go_wp2_with fail
     go_region_law (refine stepR_append rfl (.tmp 55) (.tmp 61) rfl (base := w1.heap.size) (n := r + 1) (xs := (qs.take r).flatMap encQ ++ encQ ((y, .slice ay y.items.length cy), (z, .slice az z.items.length cz))) rfl HOw.out rfl HSr.out (by omega) Hbs.out K9 HK9.out _ rfl ?_; intro a9 c9 w9 hown9 hg9; obtain ⟨hb9, hst⟩ := row2_step HGd.out (Nat.le_refl _) Hbs.out HOw.out hown9 hg9; obtain ⟨_, h91, _, h93⟩ := hb9.cells; have Hst : Hid _ := HFi.out _ _ _ hst.1 hst.2.1 ((HB7.out.drew).trans hst.2.2); clear hown9 hg9 hb9 hst)
     all_goals go_wp2_with fail
     all_goals go_ret
     all_goals exact Hst.out

end Go.Proofs.YtlnecfjnffdciaaGreat

namespace Go.Proofs.YtlnecfjnffdciaaGreat
open Go.RowKit Go.Shelf

set_option maxRecDepth 100000 in
set_option maxHeartbeats 16000000 in
theorem rwot_14 {w0 w : World} {q : Nat} {l : List PT} {c : Nat} (h0 : DM w0 q l c) (hw0 : Below w0.heap.size w0 w) (y : VT) (yu : Value) (hy : Lies 16 w y.items yu) (hyr : rightV 16 y = true) :
 Calls Tryz.prog 68 #[.pointer (some ⟨c, 0, none⟩), .agg #[.int .i64 y.kind, .int .i64 y.num, .string y.text, yu]] w (DmPost q (lessK q y l) w) := by
 have h := h0.keeps hw0
 obtain ⟨ay, cy, rfl, _⟩ := Lies.slice hy
 obtain ⟨qs, v, hrow, hqt, hsl⟩ := h.row
 obtain ⟨W0, hW0⟩ : ∃ W0, W0 = (w.alloc (.cells #[.int .i64 y.kind, .int .i64 y.num, .string y.text, .slice ay y.items.length cy] 34)) := ⟨_, rfl⟩
 have hb0 : Below w.heap.size w W0 := by rw [hW0]; exact ((Grew.refl w).alloc _).below
 have HY0 : Hid (Bx W0 w.heap.size y (.slice ay y.items.length cy)) := by rw [hW0]; exact bx_alloc _ _ _
 have HPc : Hid (Calls Tryz.prog 73 #[.pointer (some ⟨c, 0, none⟩), .agg #[.int .i64 y.kind, .int .i64 y.num, .string y.text, .slice ay y.items.length cy]] W0 (PlPost q y l W0)) := rplc_14 (h.keeps hb0) y _ (Lies.keeps hb0 _ _ _ hy) hyr
 have HD : Hid (DM w q l c) := h
 have Hc0 : Hid (w.cell? ⟨c, 0, none⟩ = some (.int .i64 (q : Int))) := h.ord
 clear h hy hyr h0
 go_enter Tryz.func68, Tryz.ntmps68
 obtain ⟨r0, r1, r2, r3, _, _, _, _⟩ := HY0.out
 go_wp2_with fail
 rw [← hW0]
 clear hW0
 go_wp2_with fail
 refine Calls.mono HPc.out ?_
 rintro e w1 ⟨hg1, r, F, rfl, hpl, hF1, hF2⟩
 have hb1 : Below w.heap.size w w1 := hb0.trans (hg1.mono hb0.size)
 have c0 := cell_keeps hb1 Hc0.out
 have hcw := cell_lt Hc0.out
 simp only at hcw
 clear r0 r1 r2 r3 HPc HY0 hg1
 cases F with
 | false =>
  have HE : Hid (DmPost q (lessK q y l) w (.returned (.pointer (some ⟨c, 0, none⟩))) w1) := by
   have e2 := (hpl.none_at HD.out.rises (hF2 rfl)).2
   rw [less_none (fun x hx => by have := List.find?_eq_none.1 e2 x hx; simpa [atK] using this)]
   exact ⟨hb1, c, rfl, HD.out.keeps hb1⟩
  clear hpl hF1 hF2 hsl hrow hqt HD
  go_wp2_with fail
  go_ret
  exact HE.out
 | true =>
  obtain ⟨hrl, hrz⟩ := hF1 rfl
  have e3 := (hpl.some_at HD.out.rises hrl hrz).2.2
  go_wp2_with fail
  obtain ⟨a, cp, rfl, _⟩ := hsl.slice
  obtain ⟨N, hN⟩ : ∃ N, N = qs.length := ⟨_, rfl⟩
  rw [← hN] at hrow hsl
  have hNl : N = l.length := by rw [hN, ← hqt, List.length_map]
  have hrN : r ≤ N := by rw [hNl]; exact hpl.le
  have hN5 : N ≤ 65536 := by rw [hNl]; exact HD.out.size
  have hNc : N ≤ cp := by have := hsl; obtain ⟨_, _, he, h1, _⟩ := this; simp only [Value.slice.injEq] at he; omega
  have hrc : r ≤ cp := by omega
  obtain ⟨WG, hWG⟩ : ∃ WG, WG = w1.alloc (.cells #[.int .i64 (q : Int), .slice none 0 0] 56) := ⟨_, rfl⟩
  rw [← hWG]
  have hbG : Below w1.heap.size w1 WG := by rw [hWG]; exact ((Grew.refl w1).alloc _).below
  have hbwG : Below w.heap.size w WG := hb1.trans (hbG.mono hb1.size)
  have HG : Hid (Box2 WG w1.heap.size 56 (.int .i64 (q : Int)) (.slice none 0 0)) := by rw [hWG]; exact Box2.new w1 _ _ _
  have hsG : w1.heap.size < WG.heap.size := by rw [hWG]; simp
  have c1 := cell_keeps hbwG hrow
  obtain ⟨g0, g1, g2, g3⟩ := HG.out.cells
  clear c0 hWG
  have HL3 : Hid (SlQ 0 16 w qs (.slice a N cp)) := hsl
  have Hc1 : Hid (w.cell? ⟨c, 1, none⟩ = some (.slice a N cp)) := hrow
  have HbG : Hid (Below w1.heap.size w1 WG) := hbG
  have hw1 := hb1.size
  have HE3 : Hid (l.take r ++ l.drop (r + 1) = lessK q y l) := e3
  have HPl : Hid (PlK q y l r) := hpl
  have HNq : Hid (N = qs.length) := hN
  have Hqt : Hid (qs.map trT = l) := hqt
  have hrl2 : r + 1 ≤ N := by omega
  clear hsl hrow c1 hbG hF1 hF2 hpl hN hqt hNl e3 hrz hrl
  go_cut [7] from 23 to 36 (fun s9 wx => ∃ (a5 : Option Addr) (c5 : Nat), s9 = .pointer (some ⟨w1.heap.size, 0, none⟩) ∧ Hid (Box2 wx w1.heap.size 56 (.int .i64 (q : Int)) (.slice a5 r c5)) ∧ Hid (wx.ownsRow w1.heap.size 69 8 (.slice a5 r c5) r ((qs.take r).flatMap encQ)) ∧ Hid (Below w1.heap.size w1 wx))
  case first =>
   have x0 : WG.drew.cell? ⟨c, 1, none⟩ = some (.slice a N cp) := cell_keeps hbwG Hc1.out
   have x1 : WG.drew.cell? ⟨w1.heap.size, 1, none⟩ = some (.slice none 0 0) := g1
   have x2 : WG.drew.frozen? ⟨w1.heap.size, 1, none⟩ = false := g3
   have HOw : Hid (WG.drew.ownsRow w1.heap.size 69 8 (.slice none 0 0) 0 []) := World.ownsRow_nil _ _ _ _
   have HSr : Hid (∀ V, Below w.heap.size w V → SrcR V a r ((qs.take r).flatMap encQ)) := fun V hV => (HL3.out.srcTake r hrN).keeps hV
   have Hbs : Hid (w1.heap.size ≤ WG.drew.heap.size) := HbG.out.size
   have HGd : Hid (Box2 WG.drew w1.heap.size 56 (.int .i64 (q : Int)) (.slice none 0 0)) := HG.out
   have HbD : Hid (Below w.heap.size w WG.drew) := hbwG.drew
   go_region_law (refine stepR_append rfl (.tmp 27) (.tmp 33) rfl (base := w1.heap.size) (n := 0) (xs := []) rfl HOw.out rfl (HSr.out _ HbD.out) (by omega) Hbs.out r (Nat.zero_add _) ((qs.take r).flatMap encQ) rfl ?_; intro a5 c5 w5 hown5 hg5; obtain ⟨hb5, hst⟩ := row2_step HGd.out (Nat.le_refl _) Hbs.out HOw.out hown5 hg5; obtain ⟨_, h51, _, h53⟩ := hb5.cells; have Hst : Hid _ := hst; clear hown5 hg5 hb5 hst)
   all_goals go_wp2_with fail
   all_goals go_meet
   all_goals exact ⟨_, _, rfl, Hst.out.1, Hst.out.2.1, HbG.out.trans ((Below.drew (Below.refl _ _)).trans Hst.out.2.2)⟩
  case rest =>
   obtain ⟨a7, c7, rfl, HG7, HO7, HB7⟩ := hcut
   generalize hV7 : wc = V7 at *
   clear hV7 HG hbwG g0 g1 g2 g3 hsG HbG
   obtain ⟨g0, g1, g2, g3⟩ := HG7.out.cells
   have h7l : w1.heap.size ≤ V7.heap.size := HB7.out.size
   have h7g := HG7.out.lt
   have HbV7 : Hid (Below w.heap.size w V7) := hb1.trans (HB7.out.mono hw1)
   have HFi : Hid (∀ (a9 : Option Addr) (c9 : Nat) (W : World), Box2 W w1.heap.size 56 (.int .i64 (q : Int)) (.slice a9 (r + (N - (r + 1))) c9) → W.ownsRow w1.heap.size 69 8 (.slice a9 (r + (N - (r + 1))) c9) (r + (N - (r + 1))) ((qs.take r).flatMap encQ ++ (qs.drop (r + 1)).flatMap encQ) → Below w1.heap.size w1 W → DmPost q (lessK q y l) w (.returned (.pointer (some ⟨w1.heap.size, 0, none⟩))) W) := by
    intro a9 c9 W h1 h2 h3
    have hbW : Below w.heap.size w W := hb1.trans (h3.mono hw1)
    have hfl : (qs.take r).flatMap encQ ++ (qs.drop (r + 1)).flatMap encQ = (qs.take r ++ qs.drop (r + 1)).flatMap encQ := by simp
    have hmap : (qs.take r ++ qs.drop (r + 1)).map trT = lessK q y l := by
     rw [List.map_append, List.map_take, List.map_drop, Hqt.out, HE3.out]
    have hgood : ∀ p ∈ (qs.take r ++ qs.drop (r + 1)), GoodQ 16 W p := fun p hp => by
     rcases List.mem_append.1 hp with hp | hp
     ·exact (HL3.out.good p (List.mem_of_mem_take hp)).keeps hbW
     ·exact (HL3.out.good p (List.mem_of_mem_drop hp)).keeps hbW
    have hll : (qs.take r ++ qs.drop (r + 1)).length = r + (N - (r + 1)) := by
     rw [List.length_append, List.length_take, List.length_drop]
     have := HNq.out
     omega
    refine ⟨hbW, _, rfl, ⟨h1.cells.1, ⟨_, _, h1.cells.2.1, hmap, ?_⟩, HD.out.q6, fun x hx => HD.out.right x (List.mem_filter.1 hx).1, lessK_rises HD.out.rises, ?_⟩⟩
    ·rw [hfl] at h2
     exact (SlQ.of_own hll.symm h2 hgood (by rw [hll]; omega)).mono (Nat.zero_le _)
    ·rw [← hmap, List.length_map, hll]; omega
   clear HD HPl HE3
   obtain ⟨b, o, rfl⟩ : ∃ b o, a = some ⟨b, o, none⟩ := by
    obtain ⟨a2, c2, he, _, _, h3, _⟩ := HL3.out
    simp only [Value.slice.injEq] at he
    obtain ⟨b, o, e, _⟩ := h3 (fun e => by have := HNq.out; rw [e] at this; simp at this; omega)
    exact ⟨b, o, he.1.trans e⟩
   have hsd := (HL3.out.srcDrop (r + 1) (by omega)).keeps (HbV7.out.drew)
   have hri0 : (0 : Int) ≤ ((r : Nat) : Int) + 1 := by omega
   have hri : ((r : Nat) : Int) + 1 ≤ (N : Nat) := by omega
   have hwr1 : IntKind.i64.wrap (((r : Nat) : Int) + 1) = ((r : Nat) : Int) + 1 := by rw [IntKind.wrap_i64]; omega
   have htn1 : (((r : Nat) : Int) + 1).toNat = r + 1 := by omega
   by_cases hci : cp = (r + 1)
   ·have hz0 : ((qs.drop (r + 1)).flatMap encQ) = [] := by rw [List.drop_eq_nil_of_le (by rw [← HNq.out]; omega)]; rfl
    have hz1 : N - (r + 1) = 0 := by omega
    subst hci
    have HFj := HFi.out
    rw [hz1] at HFj
    have HFi := show Hid _ from HFj
    have x0 : V7.cell? ⟨c, 1, none⟩ = some (.slice (some ⟨b, o, none⟩) N (r + 1)) := cell_keeps HbV7.out Hc1.out
    have HOw : Hid (V7.drew.ownsRow w1.heap.size 69 8 (.slice a7 r c7) r ((qs.take r).flatMap encQ)) := HO7.out.drew
    have Hbs : Hid (w1.heap.size ≤ V7.drew.heap.size) := h7l
    have HGd : Hid (Box2 V7.drew w1.heap.size 56 (.int .i64 (q : Int)) (.slice a7 r c7)) := HG7.out
    have HSr : Hid (SrcR V7.drew (some ⟨b, o, none⟩) 0 ((qs.drop (r + 1)).flatMap encQ)) := by rw [hz0]; exact SrcR.nil _ _
    clear hz0 hz1 hsd HFj
    go_wp2_with fail
    go_region_law (refine stepR_append rfl (.tmp 41) (.tmp 48) rfl (base := w1.heap.size) (n := r) (xs := (qs.take r).flatMap encQ) rfl HOw.out rfl HSr.out (by omega) Hbs.out (r + 0) rfl _ rfl ?_; intro a9 c9 w9 hown9 hg9; obtain ⟨hb9, hst⟩ := row2_step HGd.out (Nat.le_refl _) Hbs.out HOw.out hown9 hg9; obtain ⟨_, h91, _, h93⟩ := hb9.cells; have Hst : Hid _ := HFi.out _ _ _ hst.1 hst.2.1 ((HB7.out.drew).trans hst.2.2); clear hown9 hg9 hb9 hst)
    all_goals go_wp2_with fail
    all_goals go_ret
    all_goals exact Hst.out
   ·have hri2 : ¬ ((cp : Nat) : Int) = ((r : Nat) : Int) + 1 := by omega
    obtain ⟨K9, hK9⟩ : ∃ K9, K9 = r + (N - (r + 1)) := ⟨_, rfl⟩
    have HFj := HFi.out
    rw [← hK9] at HFj
    have HFi := show Hid _ from HFj
    have HK9 : Hid (r + (N - (r + 1)) = K9) := hK9.symm
    clear hK9 HFj
    have x0 : V7.cell? ⟨c, 1, none⟩ = some (.slice (some ⟨b, o, none⟩) N cp) := cell_keeps HbV7.out Hc1.out
    have HOw : Hid (V7.drew.ownsRow w1.heap.size 69 8 (.slice a7 r c7) r ((qs.take r).flatMap encQ)) := HO7.out.drew
    have Hbs : Hid (w1.heap.size ≤ V7.drew.heap.size) := h7l
    have HGd : Hid (Box2 V7.drew w1.heap.size 56 (.int .i64 (q : Int)) (.slice a7 r c7)) := HG7.out
    have HSr : Hid (SrcR V7.drew (some ⟨b, o + (r + 1) * 8, none⟩) (N - (r + 1)) ((qs.drop (r + 1)).flatMap encQ)) := hsd
    clear hsd
    go_wp2_with fail
    go_region_law (refine stepR_append rfl (.tmp 41) (.tmp 48) rfl (base := w1.heap.size) (n := r) (xs := (qs.take r).flatMap encQ) rfl HOw.out rfl HSr.out (by omega) Hbs.out K9 HK9.out _ rfl ?_; intro a9 c9 w9 hown9 hg9; obtain ⟨hb9, hst⟩ := row2_step HGd.out (Nat.le_refl _) Hbs.out HOw.out hown9 hg9; obtain ⟨_, h91, _, h93⟩ := hb9.cells; have Hst : Hid _ := HFi.out _ _ _ hst.1 hst.2.1 ((HB7.out.drew).trans hst.2.2); clear hown9 hg9 hb9 hst)
    all_goals go_wp2_with fail
    all_goals go_ret
    all_goals exact Hst.out

end Go.Proofs.YtlnecfjnffdciaaGreat

