import Derived.Test.YtlnecfjnffdciaaGreatAppQ
import Derived.Test.YtlnecfjnffdciaaGreatFindM
import Derived.Test.YtlnecfjnffdciaaGreatSplitM
import Derived.Test.YtlnecfjnffdciaaGreatPlaceP
namespace Go.Proofs.YtlnecfjnffdciaaGreat
open Go.RowKit Go.Shelf

abbrev TT : Nat → Prop := fun _ => True

structure MC (w : World) (q : Nat) (t : RT PT) (b : Nat) : Prop where
 ord : w.cell? ⟨b, 0, none⟩ = some (.int .i64 (q : Int))
 top : ∃ p, w.cell? ⟨b, 1, none⟩ = some (.pointer p) ∧ NM TT 16 w t p
 well : RT.Well t
 black : t.isRed = false
 q6 : q < 6
 right : ∀ x ∈ t.items, Good 16 x.1 ∧ Good 16 x.2
 rises : RT.Rises (byK q) t.items
 size : t.size ≤ 65536

theorem MC.keeps {w w' : World} {q : Nat} {t : RT PT} {b : Nat} (h : MC w q t b) (hb : Below w.heap.size w w') : MC w' q t b := by
 obtain ⟨p, hp, hn⟩ := h.top
 exact ⟨cell_keeps hb h.ord, ⟨p, cell_keeps hb hp, hn.keeps hb⟩, h.well, h.black, h.q6, h.right, h.rises, h.size⟩

set_option maxRecDepth 100000 in
theorem own_14 (b : Addr) (w : World) : Calls Tryz.prog 60 #[.pointer (some b)] w fun e w' => e = .returned (.pointer (some b)) ∧ w' = w := by
 go_enter Tryz.func60, Tryz.ntmps60
 go_wp2_with fail
 go_ret
 exact ⟨rfl, rfl⟩

theorem field_size14 (s h k : Int) (W : World) : (Instr.field 106 (.agg #[.int .i64 s, .int .i64 h, .int .i64 k]) 0).run Tryz.prog W = .ok (.int .i64 s) W := by
 kernel_rfl

set_option maxRecDepth 100000 in
set_option maxHeartbeats 4000000 in
theorem mlen_14 {w : World} {q : Nat} {t : RT PT} {b : Nat} (h : MC w q t b) : Calls Tryz.prog 26 #[.pointer (some ⟨b, 0, none⟩)] w fun e w' => e = .returned (.int .i64 (t.size : Nat)) ∧ Below w.heap.size w w' := by
 obtain ⟨p, hp, hn⟩ := h.top
 have HM : Hid _ := measured_14 hn
 have hf1 : ∀ W : World, (Instr.field 106 (.agg #[.int .i64 t.size, .int .i64 t.high, .int .i64 t.blacks]) 0).run Tryz.prog W = .ok (.int .i64 (t.size : Nat)) W := fun W => field_size14 _ _ _ W
 clear hn
 go_enter Tryz.func26, Tryz.ntmps26
 go_wp2_with fail
 refine (own_14 _ _).mono ?_
 rintro e w1 ⟨rfl, rfl⟩
 go_wp2_with fail
 refine Calls.mono HM.out ?_
 rintro e w2 ⟨hb, rfl⟩
 go_wp2_with fail
 go_ret
 exact ⟨rfl, hb⟩

set_option maxRecDepth 100000 in
set_option maxHeartbeats 4000000 in
theorem morder_14 {w : World} {q : Nat} {t : RT PT} {b : Nat} (h : MC w q t b) : Calls Tryz.prog 43 #[.pointer (some ⟨b, 0, none⟩)] w fun e w' => e = .returned (.int .i64 (q : Int)) ∧ w' = w := by
 have ho := h.ord
 go_enter Tryz.func43, Tryz.ntmps43
 go_wp2_with fail
 refine (own_14 _ _).mono ?_
 rintro e w1 ⟨rfl, rfl⟩
 go_wp2_with fail
 go_ret
 exact ⟨rfl, rfl⟩

def KeptQ (l : List PT) (w : World) (e : Ending) (w' : World) : Prop := ∃ v, e = .returned v ∧ (∃ qs : List PP, qs.map trT = l ∧ w'.ownsRow w.heap.size 69 8 v qs.length (qs.flatMap encQ) ∧ ∀ p ∈ qs, GoodQ 16 w p) ∧ Below w.heap.size w w'

set_option maxRecDepth 100000 in
set_option maxHeartbeats 8000000 in
theorem kept_14 {w : World} {q : Nat} {t : RT PT} {b : Nat} (h : MC w q t b) : Calls Tryz.prog 58 #[.pointer (some ⟨b, 0, none⟩)] w (KeptQ t.items w) := by
 obtain ⟨po, hpo, hn⟩ := h.top
 obtain ⟨qs, hq1, hE⟩ := each14 TT 16 w t po hn
 have hq9 : qs.length = t.size := by
  have := congrArg List.length hq1
  rw [List.length_map] at this
  rw [this, ← RT.size_items]
 have hql : qs.length ≤ 65536 := by rw [hq9]; exact h.size
 obtain ⟨i0, hi, hz0, hz1, hz2⟩ := infoQ
 obtain ⟨L, hL⟩ : ∃ L, L = t.size := ⟨_, rfl⟩
 have hL6 : L ≤ 65536 := by rw [hL]; exact h.size
 obtain ⟨M, hM⟩ : ∃ M, M = madeCells (Value.agg #[.int .i64 0, .int .i64 0, .string ⟨#[]⟩, .slice none 0 0, .int .i64 0, .int .i64 0, .string ⟨#[]⟩, .slice none 0 0]).cells (((L : Nat) : Int).toNat * i0.size) := ⟨_, rfl⟩
 have hMs : M.size = L * 8 := by rw [hM, size_madeCells, hz1]; simp
 have hmk : ∀ W : World, (Instr.makeSlice 22 (.int .i64 0) (.int .i64 (L : Int))).run Tryz.prog W = .ok (.slice (some ⟨W.heap.size, 0, none⟩) 0 L) (W.alloc (.cells M 69)) := fun W => by
  have h := run_make (P := Tryz.prog) W 22 69 i0 _ Tryz.underlying22 hi hz0 .i64 .i64 0 (L : Int) (by omega) (by omega) (by rw [hz2]; omega) (by omega)
  rw [← hM] at h
  simpa using h
 have HLen : Hid (∀ V, Below w.heap.size w V → Calls Tryz.prog 26 #[.pointer (some ⟨b, 0, none⟩)] V fun e w' => e = .returned (.int .i64 (L : Int)) ∧ Below V.heap.size V w') := fun V hV => by
  rw [hL]; exact mlen_14 (h.keeps hV)
 have HApp : Hid (∀ (V : World) (g Bp : Nat), Below w.heap.size w V → V.ownsRow w.heap.size 69 8 (.slice (some ⟨g, 0, none⟩) 0 L) 0 [] → Bp < V.heap.size → V.cell? ⟨Bp, 0, none⟩ = some (.pointer po) →
  Calls Tryz.prog 104 #[.slice (some ⟨g, 0, none⟩) 0 L, .func (.func 152) #[] #[.pointer (some ⟨Bp, 0, none⟩)]] V (KeptQ t.items w)) := fun V g Bp hV hrow hlp hp => by
  refine (appendSeq_14 16 w qs hql _ _ V hV hrow (fun W hW => all1_stops 16 w po qs hE 5 Bp W (hV.trans (hW.mono hV.size)) (Nat.lt_of_lt_of_le hlp hW.size) (cell_keeps hW hp))).mono ?_
  rintro e w' ⟨v, rfl, ho, hb⟩
  refine ⟨v, rfl, ⟨qs.map (·.1), by rw [List.map_map]; exact hq1, by rw [List.length_map, List.flatMap_map]; exact ho, fun p hp => ?_⟩, hV.trans hb⟩
  obtain ⟨q, _, rfl⟩ := List.mem_map.1 hp
  exact q.2
 have HMd : Hid (∀ (V : World), Below w.heap.size w V → (V.alloc (.cells M 69)).ownsRow w.heap.size 69 8 (.slice (some ⟨V.heap.size, 0, none⟩) 0 L) 0 []) := fun V hV => World.ownsRow_made V M L hV.size (by unfold maxLen; omega) hMs
 have HA : Hid (∀ V, Below w.heap.size w V → Below w.heap.size w ((V.alloc (.cells M 69)).alloc (.cells #[.pointer po] 84)) ∧ ((V.alloc (.cells M 69)).alloc (.cells #[.pointer po] 84)).ownsRow w.heap.size 69 8 (.slice (some ⟨V.heap.size, 0, none⟩) 0 L) 0 [] ∧ V.heap.size + 1 < ((V.alloc (.cells M 69)).alloc (.cells #[.pointer po] 84)).heap.size ∧ ((V.alloc (.cells M 69)).alloc (.cells #[.pointer po] 84)).cell? ⟨V.heap.size + 1, 0, none⟩ = some (.pointer po)) := fun V hV => by
  refine ⟨(hV.alloc hV.size _).alloc (by simp; have := hV.size; omega) _, (HMd.out _ hV).alloc _, by simp, ?_⟩
  have h1 := (Go.Boxed.new (V.alloc (.cells M 69)) 84 (.pointer po)).cell
  rwa [World.size_alloc] at h1
 have HB : Hid (∀ V, Below w.heap.size w V → Below w.heap.size w ((V.alloc (.cells #[.pointer po] 84)).alloc (.cells M 69)) ∧ ((V.alloc (.cells #[.pointer po] 84)).alloc (.cells M 69)).ownsRow w.heap.size 69 8 (.slice (some ⟨V.heap.size + 1, 0, none⟩) 0 L) 0 [] ∧ V.heap.size < ((V.alloc (.cells #[.pointer po] 84)).alloc (.cells M 69)).heap.size ∧ ((V.alloc (.cells #[.pointer po] 84)).alloc (.cells M 69)).cell? ⟨V.heap.size, 0, none⟩ = some (.pointer po)) := fun V hV => by
  refine ⟨(hV.alloc hV.size _).alloc (by simp; have := hV.size; omega) _, ?_, (by first | (simp; done) | (simp; omega)), ?_⟩
  ·have h1 := HMd.out _ (hV.alloc hV.size (.cells #[.pointer po] 84))
   rwa [World.size_alloc] at h1
  ·exact ((Go.Boxed.new V 84 (.pointer po)).alloc _).cell
 clear hE hq1 hq9 hql hM hMs hi hz0 hz1 hz2 hL hn h
 have hmL : (0 : Int) ≤ (L : Nat) := by omega
 have Hpo : Hid (w.cell? ⟨b, 1, none⟩ = some (.pointer po)) := hpo
 go_enter Tryz.func58, Tryz.ntmps58
 go_wp2_with fail
 go_region_held3 (fun w' => w'.cell? ⟨b, 1, none⟩ = some (.pointer po)) (go_keep)
  (first
   | (go_at_call 105; refine (all_14 _ _).mono ?_; rintro e w3 ⟨rfl, rfl⟩)
   | (go_at_call 26; refine (HLen.out _ (Below.refl _ _).drew).mono ?_; rintro e w1 ⟨rfl, hb1'⟩; have hb1 : Below w.heap.size w w1 := (Below.refl _ _).drew.trans hb1'; have hpo := cell_keeps hb1 hpo; clear hb1')
   | (go_at_call 60; refine (own_14 _ _).mono ?_; rintro e w3 ⟨rfl, hw⟩; (first | (obtain rfl : w1 = w3 := hw.symm) | subst hw))
   | (go_at_call 104
      refine (HApp.out _ _ _ (by first | exact (HA.out w1 hb1).1 | exact (HB.out w1 hb1).1) (by first | exact (HA.out w1 hb1).2.1 | exact (HB.out w1 hb1).2.1) (by first | exact (HA.out w1 hb1).2.2.1 | exact (HB.out w1 hb1).2.2.1) (by first | exact (HA.out w1 hb1).2.2.2 | exact (HB.out w1 hb1).2.2.2)).mono ?_
      rintro e w4 ⟨v4, rfl, hx⟩
      have HE : Hid (KeptQ t.items w (.returned v4) w4) := ⟨v4, rfl, hx⟩
      have hpo := cell_keeps (show Below w.heap.size w w4 from hx.2) Hpo.out
      clear hx))
 all_goals (first | (go_ret; exact HE.out) | (go_wp2_with fail; go_ret; exact HE.out))

end Go.Proofs.YtlnecfjnffdciaaGreat

namespace Go.Proofs.YtlnecfjnffdciaaGreat
open Go.RowKit

set_option maxRecDepth 100000 in
set_option maxHeartbeats 4000000 in
theorem cut_nil14 (k : Int) (w : World) : Calls Tryz.prog 127 #[.pointer none, .int .i64 k] w fun e w' => e = .returned (.tuple #[.pointer none, .pointer none]) ∧ Below w.heap.size w w' := by
 have hf0 : ∀ W : World, (Instr.field 106 (.agg #[.int .i64 0, .int .i64 0, .int .i64 0]) 0).run Tryz.prog W = .ok (.int .i64 0) W := fun W => field_size14 _ _ _ W
 have HM : Hid (Calls Tryz.prog 75 #[.pointer none] w (MeasPost14 0 0 0 w)) := measured_nil w
 by_cases h0 : k ≤ 0
 ·go_enter Tryz.func127, Tryz.ntmps127
  go_wp2_with fail
  go_ret2
  exact ⟨rfl, Below.refl _ _⟩
 ·have h1 : 0 ≤ k := by omega
  go_enter Tryz.func127, Tryz.ntmps127
  go_wp2_with fail
  refine Calls.mono HM.out ?_
  rintro e w1 ⟨hg, rfl⟩
  clear HM
  go_wp2_with fail
  go_ret2
  exact ⟨rfl, hg⟩

set_option maxRecDepth 100000 in
set_option maxHeartbeats 4000000 in
theorem cut_none14 (X : Nat → Prop) (d : Nat) (k : Int) (hk : k ≤ 0) (t : RT PT) (p : Option Addr) (w : World) (ht : NM X d w t p) : Calls Tryz.prog 127 #[.pointer p, .int .i64 k] w (SplitPost X d .nil t w) := by
 have HN : Hid (NM X d w t p) := ht
 clear ht
 go_enter Tryz.func127, Tryz.ntmps127
 go_wp2_with fail
 go_ret2
 exact ⟨Below.refl _ _, none, p, rfl, rfl, HN.out⟩

set_option maxRecDepth 100000 in
set_option maxHeartbeats 4000000 in
theorem cut_all14 (X : Nat → Prop) (d : Nat) (k : Int) (hk : ¬ k ≤ 0) (t : RT PT) (hs : (t.size : Int) ≤ k) (p : Option Addr) (w : World) (ht : NM X d w t p) : Calls Tryz.prog 127 #[.pointer p, .int .i64 k] w (SplitPost X d t .nil w) := by
 have HN : Hid (NM X d w t p) := ht
 have HM : Hid _ := measured_14 ht
 have hf1 : ∀ W : World, (Instr.field 106 (.agg #[.int .i64 t.size, .int .i64 t.high, .int .i64 t.blacks]) 0).run Tryz.prog W = .ok (.int .i64 (t.size : Nat)) W := fun W => field_size14 _ _ _ W
 clear ht
 go_enter Tryz.func127, Tryz.ntmps127
 go_wp2_with fail
 refine Calls.mono HM.out ?_
 rintro e w1 ⟨hg, rfl⟩
 have HN : Hid (NM X d w1 t p) := HN.out.keeps hg
 clear HM
 go_wp2_with fail
 go_ret2
 exact ⟨hg, p, none, rfl, HN.out, rfl⟩

set_option maxRecDepth 100000 in
set_option maxHeartbeats 8000000 in
theorem cut_left14 (X : Nat → Prop) (d : Nat) (w : World) (x : PT) (b : Nat) (pl pr : Option Addr) (ku vu : Value) (c : Bool) (S H K SL HL BL : Nat) (hn : NCells w b pl pr x ku vu c S H K) (k : Int) (h1 : ¬ k ≤ 0) (h2 : ¬ (S : Int) ≤ k) (h3 : k ≤ (SL : Int))
 (hm : ∀ V, Below w.heap.size w V → Calls Tryz.prog 75 #[.pointer (some ⟨b, 0, none⟩)] V (MeasPost14 S H K V)) (hl : ∀ V, Below w.heap.size w V → Calls Tryz.prog 75 #[.pointer pl] V (MeasPost14 SL HL BL V))
 (a0 b0 T : RT PT) (hi : ∀ V, Below w.heap.size w V → Calls Tryz.prog 127 #[.pointer pl, .int .i64 k] V (SplitPost X d a0 b0 V)) (hj : ∀ V p, Below w.heap.size w V → NM X d V b0 p → Calls Tryz.prog 119 #[.pointer p, .agg #[.int .i64 x.1.kind, .int .i64 x.1.num, .string x.1.text, ku, .int .i64 x.2.kind, .int .i64 x.2.num, .string x.2.text, vu], .pointer pr] V (TreePost X d T V)) :
 Calls Tryz.prog 127 #[.pointer (some ⟨b, 0, none⟩), .int .i64 k] w (SplitPost X d a0 T w) := by
 obtain ⟨c0, c1, c2, c3, c4, c5, c6, c7, c8, c9, _, _, _, _⟩ := hn
 have HM : Hid _ := hm
 have HL2 : Hid _ := hl
 have HI : Hid _ := hi
 have HJ : Hid _ := hj
 have hf1 : ∀ W : World, (Instr.field 106 (.agg #[.int .i64 S, .int .i64 H, .int .i64 K]) 0).run Tryz.prog W = .ok (.int .i64 S) W := fun W => field_size14 _ _ _ W
 have hf2 : ∀ W : World, (Instr.field 106 (.agg #[.int .i64 SL, .int .i64 HL, .int .i64 BL]) 0).run Tryz.prog W = .ok (.int .i64 SL) W := fun W => field_size14 _ _ _ W
 clear hm hl hi hj
 go_enter Tryz.func127, Tryz.ntmps127
 go_wp2_with fail
 refine (HM.out _ (Below.refl _ _)).mono ?_
 rintro e w1 ⟨hg1, rfl⟩
 have c0 := cell_keeps hg1 c0; have c1 := cell_keeps hg1 c1; have c2 := cell_keeps hg1 c2; have c3 := cell_keeps hg1 c3; have c4 := cell_keeps hg1 c4; have c5 := cell_keeps hg1 c5; have c6 := cell_keeps hg1 c6; have c7 := cell_keeps hg1 c7; have c8 := cell_keeps hg1 c8; have c9 := cell_keeps hg1 c9
 clear HM
 go_wp2_with fail
 refine (HL2.out _ hg1).mono ?_
 rintro e w2 ⟨hg2, rfl⟩
 have hb2 : Below w.heap.size w w2 := hg1.trans (hg2.mono hg1.size)
 have c0 := cell_keeps hg2 c0; have c1 := cell_keeps hg2 c1; have c2 := cell_keeps hg2 c2; have c3 := cell_keeps hg2 c3; have c4 := cell_keeps hg2 c4; have c5 := cell_keeps hg2 c5; have c6 := cell_keeps hg2 c6; have c7 := cell_keeps hg2 c7; have c8 := cell_keeps hg2 c8; have c9 := cell_keeps hg2 c9
 clear HL2 hg1 hg2
 go_wp2_with fail
 refine (HI.out _ hb2).mono ?_
 rintro e w3 ⟨hg3, pa, pb, rfl, hta, htb⟩
 have hb3 : Below w.heap.size w w3 := hb2.trans (hg3.mono hb2.size)
 have c0 := cell_keeps hg3 c0; have c1 := cell_keeps hg3 c1; have c2 := cell_keeps hg3 c2; have c3 := cell_keeps hg3 c3; have c4 := cell_keeps hg3 c4; have c5 := cell_keeps hg3 c5; have c6 := cell_keeps hg3 c6; have c7 := cell_keeps hg3 c7; have c8 := cell_keeps hg3 c8; have c9 := cell_keeps hg3 c9
 have HTA : Hid (NM X d w3 a0 pa) := hta; have HTB : Hid (NM X d w3 b0 pb) := htb
 clear hta htb hg3 hb2 HI
 go_wp2_with fail
 go_region_held3 (fun w' => w'.cell? ⟨b, 1, none⟩ = some (.pointer pr) ∧ w'.cell? ⟨b, 2, none⟩ = some (.int .i64 x.1.kind) ∧ w'.cell? ⟨b, 3, none⟩ = some (.int .i64 x.1.num) ∧ w'.cell? ⟨b, 4, none⟩ = some (.string x.1.text) ∧ w'.cell? ⟨b, 5, none⟩ = some (ku) ∧ w'.cell? ⟨b, 6, none⟩ = some (.int .i64 x.2.kind) ∧ w'.cell? ⟨b, 7, none⟩ = some (.int .i64 x.2.num) ∧ w'.cell? ⟨b, 8, none⟩ = some (.string x.2.text) ∧ w'.cell? ⟨b, 9, none⟩ = some (vu)) (go_keep) (first | (go_at_call 119; refine (HJ.out _ _ hb3.drew (HTB.out.keeps (Below.refl _ _).drew)).mono ?_; rintro e w5 ⟨hg5, p5, rfl, ht5⟩; have hbc : Below w3.heap.size w3 w5 := (Below.refl _ _).drew.trans hg5; have hbz : Below w.heap.size w w5 := hb3.trans (hbc.mono hb3.size); have HE : Hid (SplitPost X d a0 T w (.returned (.tuple #[.pointer pa, .pointer p5])) w5) := ⟨hbz, pa, p5, rfl, HTA.out.keeps hbc, ht5⟩; have c1 := cell_keeps hbc c1; have c2 := cell_keeps hbc c2; have c3 := cell_keeps hbc c3; have c4 := cell_keeps hbc c4; have c5 := cell_keeps hbc c5; have c6 := cell_keeps hbc c6; have c7 := cell_keeps hbc c7; have c8 := cell_keeps hbc c8; have c9 := cell_keeps hbc c9; clear hg5 ht5 hbz hbc))
 all_goals (first | (go_ret2; exact HE.out) | (go_wp2_with fail; go_ret2; exact HE.out))

set_option maxRecDepth 100000 in
set_option maxHeartbeats 8000000 in
theorem cut_right14 (X : Nat → Prop) (d : Nat) (w : World) (x : PT) (b : Nat) (pl pr : Option Addr) (ku vu : Value) (c : Bool) (S H K SL HL BL : Nat) (hn : NCells w b pl pr x ku vu c S H K) (k : Int) (h1 : ¬ k ≤ 0) (h2 : ¬ (S : Int) ≤ k) (h3 : ¬ k ≤ (SL : Int)) (hw1 : IntKind.i64.wrap (k - SL) = k - SL) (hw2 : IntKind.i64.wrap (k - SL - 1) = k - SL - 1)
 (hm : ∀ V, Below w.heap.size w V → Calls Tryz.prog 75 #[.pointer (some ⟨b, 0, none⟩)] V (MeasPost14 S H K V)) (hl : ∀ V, Below w.heap.size w V → Calls Tryz.prog 75 #[.pointer pl] V (MeasPost14 SL HL BL V))
 (a0 b0 T : RT PT) (hi : ∀ V, Below w.heap.size w V → Calls Tryz.prog 127 #[.pointer pr, .int .i64 (k - SL - 1)] V (SplitPost X d a0 b0 V)) (hj : ∀ V p, Below w.heap.size w V → NM X d V a0 p → Calls Tryz.prog 119 #[.pointer pl, .agg #[.int .i64 x.1.kind, .int .i64 x.1.num, .string x.1.text, ku, .int .i64 x.2.kind, .int .i64 x.2.num, .string x.2.text, vu], .pointer p] V (TreePost X d T V)) :
 Calls Tryz.prog 127 #[.pointer (some ⟨b, 0, none⟩), .int .i64 k] w (SplitPost X d T b0 w) := by
 obtain ⟨c0, c1, c2, c3, c4, c5, c6, c7, c8, c9, _, _, _, _⟩ := hn
 have HM : Hid _ := hm
 have HL2 : Hid _ := hl
 have HI : Hid _ := hi
 have HJ : Hid _ := hj
 have hf1 : ∀ W : World, (Instr.field 106 (.agg #[.int .i64 S, .int .i64 H, .int .i64 K]) 0).run Tryz.prog W = .ok (.int .i64 S) W := fun W => field_size14 _ _ _ W
 have hf2 : ∀ W : World, (Instr.field 106 (.agg #[.int .i64 SL, .int .i64 HL, .int .i64 BL]) 0).run Tryz.prog W = .ok (.int .i64 SL) W := fun W => field_size14 _ _ _ W
 clear hm hl hi hj
 go_enter Tryz.func127, Tryz.ntmps127
 go_wp2_with fail
 refine (HM.out _ (Below.refl _ _)).mono ?_
 rintro e w1 ⟨hg1, rfl⟩
 have c0 := cell_keeps hg1 c0; have c1 := cell_keeps hg1 c1; have c2 := cell_keeps hg1 c2; have c3 := cell_keeps hg1 c3; have c4 := cell_keeps hg1 c4; have c5 := cell_keeps hg1 c5; have c6 := cell_keeps hg1 c6; have c7 := cell_keeps hg1 c7; have c8 := cell_keeps hg1 c8; have c9 := cell_keeps hg1 c9
 clear HM
 go_wp2_with fail
 refine (HL2.out _ hg1).mono ?_
 rintro e w2 ⟨hg2, rfl⟩
 have hb2 : Below w.heap.size w w2 := hg1.trans (hg2.mono hg1.size)
 have c0 := cell_keeps hg2 c0; have c1 := cell_keeps hg2 c1; have c2 := cell_keeps hg2 c2; have c3 := cell_keeps hg2 c3; have c4 := cell_keeps hg2 c4; have c5 := cell_keeps hg2 c5; have c6 := cell_keeps hg2 c6; have c7 := cell_keeps hg2 c7; have c8 := cell_keeps hg2 c8; have c9 := cell_keeps hg2 c9
 clear HL2 hg1 hg2
 go_wp2_with fail
 refine (HI.out _ hb2).mono ?_
 rintro e w3 ⟨hg3, pa, pb, rfl, hta, htb⟩
 have hb3 : Below w.heap.size w w3 := hb2.trans (hg3.mono hb2.size)
 have c0 := cell_keeps hg3 c0; have c1 := cell_keeps hg3 c1; have c2 := cell_keeps hg3 c2; have c3 := cell_keeps hg3 c3; have c4 := cell_keeps hg3 c4; have c5 := cell_keeps hg3 c5; have c6 := cell_keeps hg3 c6; have c7 := cell_keeps hg3 c7; have c8 := cell_keeps hg3 c8; have c9 := cell_keeps hg3 c9
 have HTA : Hid (NM X d w3 a0 pa) := hta; have HTB : Hid (NM X d w3 b0 pb) := htb
 clear hta htb hg3 hb2 HI
 go_wp2_with fail
 go_region_held3 (fun w' => w'.cell? ⟨b, 0, none⟩ = some (.pointer pl) ∧ w'.cell? ⟨b, 2, none⟩ = some (.int .i64 x.1.kind) ∧ w'.cell? ⟨b, 3, none⟩ = some (.int .i64 x.1.num) ∧ w'.cell? ⟨b, 4, none⟩ = some (.string x.1.text) ∧ w'.cell? ⟨b, 5, none⟩ = some (ku) ∧ w'.cell? ⟨b, 6, none⟩ = some (.int .i64 x.2.kind) ∧ w'.cell? ⟨b, 7, none⟩ = some (.int .i64 x.2.num) ∧ w'.cell? ⟨b, 8, none⟩ = some (.string x.2.text) ∧ w'.cell? ⟨b, 9, none⟩ = some (vu)) (go_keep) (first | (go_at_call 119; refine (HJ.out _ _ hb3.drew (HTA.out.keeps (Below.refl _ _).drew)).mono ?_; rintro e w5 ⟨hg5, p5, rfl, ht5⟩; have hbc : Below w3.heap.size w3 w5 := (Below.refl _ _).drew.trans hg5; have hbz : Below w.heap.size w w5 := hb3.trans (hbc.mono hb3.size); have HE : Hid (SplitPost X d T b0 w (.returned (.tuple #[.pointer p5, .pointer pb])) w5) := ⟨hbz, p5, pb, rfl, ht5, HTB.out.keeps hbc⟩; have c0 := cell_keeps hbc c0; have c2 := cell_keeps hbc c2; have c3 := cell_keeps hbc c3; have c4 := cell_keeps hbc c4; have c5 := cell_keeps hbc c5; have c6 := cell_keeps hbc c6; have c7 := cell_keeps hbc c7; have c8 := cell_keeps hbc c8; have c9 := cell_keeps hbc c9; clear hg5 ht5 hbz hbc))
 all_goals (first | (go_ret2; exact HE.out) | (go_wp2_with fail; go_ret2; exact HE.out))

theorem cut_sizes {α : Type} (t : RT α) (k : Int) : (RT.cut k t).1.size ≤ t.size ∧ (RT.cut k t).2.size ≤ t.size := by
 obtain ⟨h1, h2⟩ := RT.cut_items t k
 rw [RT.size_items, RT.size_items t, RT.size_items (RT.cut k t).2, h1, h2]
 simp only [List.length_take, List.length_drop]
 omega

theorem cut_14 (X : Nat → Prop) (d : Nat) : ∀ (t : RT PT) (k : Int) (p : Option Addr) (w : World), NM X d w t p → RT.Well t → t.size < 4611686018427387904 → k < 4611686018427387904 →
 Calls Tryz.prog 127 #[.pointer p, .int .i64 k] w (SplitPost X d (RT.cut k t).1 (RT.cut k t).2 w)
 | .nil, k, p, w, hn, _, _, _ => by
  have hp : p = none := hn
  subst hp
  refine Calls.mono (cut_nil14 k w) ?_
  rintro e w' ⟨rfl, h⟩
  exact ⟨h, none, none, rfl, rfl, rfl⟩
 | .node c l x r, k, p, w, hn, hw, hs, hk => by
  have hz : (RT.node c l x r).size = l.size + 1 + r.size := rfl
  by_cases h0 : k ≤ 0
  ·have e9 : RT.cut k (.node c l x r) = (.nil, .node c l x r) := by
    show (if _ then _ else _) = _
    rw [if_pos h0]
   rw [e9]
   exact cut_none14 X d k h0 _ p w hn
  ·by_cases h1 : (RT.size (.node c l x r) : Int) ≤ k
   ·have e9 : RT.cut k (.node c l x r) = (.node c l x r, .nil) := by
     show (if _ then _ else if _ then _ else _) = _
     rw [if_neg h0, if_pos h1]
    rw [e9]
    exact cut_all14 X d k h0 _ h1 p w hn
   ·have hmm := fun V (hV : Below w.heap.size w V) => measured_14 (hn.keeps hV)
    obtain ⟨b, pl, pr, ku, vu, rfl, hc, hku, hvu, hl, hr⟩ := hn
    have hll := fun V (hV : Below w.heap.size w V) => measured_14 (hl.keeps hV)
    have hw1 : IntKind.i64.wrap (k - l.size) = k - l.size := by rw [IntKind.wrap_i64]; omega
    have hw2 : IntKind.i64.wrap (k - l.size - 1) = k - l.size - 1 := by rw [IntKind.wrap_i64]; omega
    by_cases h2 : k ≤ l.size
    ·have e9 : RT.cut k (.node c l x r) = ((RT.cut k l).1, RT.join (RT.cut k l).2 x r) := by
      show (if _ then _ else if _ then _ else if _ then _ else _) = _
      rw [if_neg h0, if_neg h1, if_pos h2]
     rw [e9]
     have hsz := cut_sizes l k
     exact cut_left14 X d w x b pl pr ku vu c _ _ _ _ _ _ hc k h0 h1 h2 hmm hll _ _ _ (fun V hV => cut_14 X d l k pl V (hl.keeps hV) hw.left (by omega) hk) (fun V q hV hq => join_14 X d V _ r x q pr ku vu hq (hr.keeps hV) (RT.cut_well l k hw.left).2 hw.right ⟨LiesX.keeps hV hku.1, hku.2⟩ ⟨LiesX.keeps hV hvu.1, hvu.2⟩ (by omega))
    ·have e9 : RT.cut k (.node c l x r) = (RT.join l x (RT.cut (k - l.size - 1) r).1, (RT.cut (k - l.size - 1) r).2) := by
      show (if _ then _ else if _ then _ else if _ then _ else _) = _
      rw [if_neg h0, if_neg h1, if_neg h2]
     rw [e9]
     have hsz := cut_sizes r (k - l.size - 1)
     exact cut_right14 X d w x b pl pr ku vu c _ _ _ _ _ _ hc k h0 h1 h2 hw1 hw2 hmm hll _ _ _ (fun V hV => cut_14 X d r _ pr V (hr.keeps hV) hw.right (by omega) (by omega)) (fun V q hV hq => join_14 X d V l _ x pl q ku vu (hl.keeps hV) hq hw.left (RT.cut_well r _ hw.right).1 ⟨LiesX.keeps hV hku.1, hku.2⟩ ⟨LiesX.keeps hV hvu.1, hvu.2⟩ (by omega))

end Go.Proofs.YtlnecfjnffdciaaGreat

