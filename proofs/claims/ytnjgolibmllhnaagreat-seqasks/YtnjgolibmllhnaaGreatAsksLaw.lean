/-
  SeqAsks.
-/
import Derived.Test.YtnjgolibmllhnaaGreatMadeM
import Derived.Test.YtnjgolibmllhnaaGreatSpeaks22
import Derived.Test.YtnjgolibmllhnaaGreatUtf
namespace Go.Proofs.YtnjgolibmllhnaaGreat
open Go.RowKit Go.Shelf

abbrev iv (n : Int) : VT := ⟨2, n, ⟨#[]⟩, []⟩

theorem sp_one : wlk frcC 3 ⟨[], some (1, iv 0), 0⟩ 5 = ⟨[iv 0, iv 1, iv 2], 2, 0, ⟨[iv 0, iv 1, iv 2], some (1, iv 3), 3⟩⟩ := by kernel_rfl
theorem sp_two : wlk frcC 3 ⟨[iv 0, iv 1, iv 2], some (1, iv 3), 0⟩ 0 = ⟨[iv 0, iv 1, iv 2], 0, 0, ⟨[iv 0, iv 1, iv 2], some (1, iv 3), 3⟩⟩ := by kernel_rfl
theorem sp_three : wlk frcC 4 ⟨[iv 0, iv 1, iv 2], some (1, iv 3), 0⟩ 0 = ⟨[iv 0, iv 1, iv 2], 0, 220, ⟨[iv 0, iv 1, iv 2], some (1, iv 3), 3⟩⟩ := by kernel_rfl

theorem three_any (b cap : Nat) (w : World) (h0 : w.cell? ⟨b, 0, none⟩ = some (.int .i64 0)) (h1 : w.cell? ⟨b, 1, none⟩ = some (.int .i64 1)) (h2 : w.cell? ⟨b, 2, none⟩ = some (.int .i64 2)) :
    Calls Tryz.prog 34 #[.slice (some ⟨b, 0, none⟩) 3 cap] w fun e w' => ∃ a c, e = .returned (.slice a 3 c) ∧ Lies 17 w' [iv 0, iv 1, iv 2] (.slice a 3 c) ∧ Below w.heap.size w w' := by
  refine (ints_any b [0, 1, 2] cap w (by simp) (fun i hi => ?_)).mono ?_
  · match i, hi with
    | 0, _ => exact h0
    | 1, _ => exact h1
    | 2, _ => exact h2
  rintro e w' ⟨v, rfl, hown, hb⟩
  have hown2 : w'.ownsRow w.heap.size 24 4 v 3 ([(iv 0, Value.slice none 0 0), (iv 1, Value.slice none 0 0), (iv 2, Value.slice none 0 0)].flatMap encP) := hown
  have hl := own_liesX (X := fun _ => True) (d := 16) hown2 rfl (fun _ _ => trivial) (fun p hp => by
    simp only [List.mem_cons, List.not_mem_nil, or_false] at hp
    rcases hp with rfl | rfl | rfl <;> exact ⟨⟨none, 0, rfl, by simp, fun h => absurd rfl h⟩, by decide⟩) (by simp)
  obtain ⟨a, c, rfl, _⟩ := LiesX.slice hl
  exact ⟨a, c, rfl, hl.lies, hb⟩

set_option maxRecDepth 100000 in
set_option maxHeartbeats 8000000 in
theorem speaks23_any (w : World) : Calls Tryz.prog 9 #[] w fun e w' => e = .returned (.bool true) ∧ Below w.heap.size w w' := by
  have HI : Hid (∀ V, Calls Tryz.prog 32 #[.int .i64 0] V fun e w' => e = .returned (.agg #[.int .i64 2, .int .i64 0, .string ⟨#[]⟩, .slice none 0 0]) ∧ Grew V w') := fun V => int_any 0 V
  have HIt : Hid (∀ V, Calls Tryz.prog 27 #[.int .i64 1, .agg #[.int .i64 2, .int .i64 0, .string ⟨#[]⟩, .slice none 0 0]] V (IterPost 0 1 nil0 V)) := fun V => by
    have h9 := iter_any 16 1 nil0 (.slice none 0 0) V (lies_z22 V) (by show (0 : Nat) ≤ _; omega)
    rw [nil0_err] at h9
    exact h9
  go_enter Tryz.func9, Tryz.ntmps9
  go_wp2_with fail
  refine Calls.mono (HI.out _) ?_
  rintro e w1 ⟨rfl, hg1⟩
  have hb1 : Below w.heap.size w w1 := hg1.below
  clear hg1 HI
  go_wp2_with fail
  refine Calls.mono (HIt.out _) ?_
  rintro e w2 ⟨hg2, ⟨h0, _⟩ | ⟨_, a, c, b, rfl, hb, hcb, hlx⟩⟩
  · exact absurd rfl h0
  have hb2 : Below w.heap.size w w2 := hb1.trans (hg2.mono hb1.size)
  have hs1 := hb1.size
  have hs2 := hg2.size
  have hC2 : Chn pCK (fun n => w.heap.size ≤ n) w2 [] (some (1, iv 0)) (fun _ => b) := chn_iter (C := pCK) (a := a) (c := c) (show w.heap.size ≤ b by omega) (by omega) nil0_right (Dp.of_lies 16 w2 nil0 _ hlx.lies) ⟨0, by omega, rfl, hcb⟩ (LiesX.mono (fun n hn => ⟨by omega, hn.2⟩) hlx)
  have hbw : w.heap.size ≤ b := by omega
  have HT1 : Hid (Calls Tryz.prog 33 #[.pointer (some ⟨b, 0, none⟩), .int .i64 3, .int .i64 5] w2 (TakePost pCK True (fun n => w.heap.size ≤ n) w2 (fun _ => b) 0 ⟨[iv 0, iv 1, iv 2], 2, 0, ⟨[iv 0, iv 1, iv 2], some (1, iv 3), 3⟩⟩)) := by
    have h9 := take_any (fun n => w.heap.size ≤ n) [] (some (1, iv 0)) (fun _ => b) 3 5 (by omega) (by omega) w2 hC2 (fun n hn => by omega)
    rw [sp_one] at h9
    exact h9
  clear hg2 hb hcb hlx hb1 HIt hs1 hC2
  go_wp2_with fail
  refine Calls.mono HT1.out ?_
  rintro e w3 ⟨P3, hA3, ⟨h0, _⟩ | ⟨_, a3, c3, rfl, hl3, _⟩⟩
  · exact absurd rfl h0
  have hP30 : P3 0 = b := hA3.old 0 (Nat.le_refl _)
  have hP3 : ∀ j, j ≤ 3 → w.heap.size ≤ P3 j := fun j hj => by
    by_cases h : j ≤ 0
    · obtain rfl : j = 0 := by omega
      rw [hP30]; exact hbw
    · have := hA3.new j (by omega) hj; have := hb2.size; omega
  have hb3 : Below w.heap.size w w3 := hb2.trans (hA3.kc.below (fun j hj hh => by obtain ⟨i, hi, e⟩ := hh; have e : j = b := e; omega) hb2.size)
  have HT2 : Hid (Calls Tryz.prog 33 #[.pointer (some ⟨b, 0, none⟩), .int .i64 3, .int .i64 0] w3 (TakePost pCK True (fun n => w.heap.size ≤ n) w3 P3 3 ⟨[iv 0, iv 1, iv 2], 0, 0, ⟨[iv 0, iv 1, iv 2], some (1, iv 3), 3⟩⟩)) := by
    have h9 := take_any (fun n => w.heap.size ≤ n) [iv 0, iv 1, iv 2] (some (1, iv 3)) P3 3 0 (by omega) (by omega) w3 hA3.chn (fun n hn => by have := hb3.size; omega)
    rw [sp_two, hP30] at h9
    exact h9
  have HL3 : Hid (LiesX (fun n => w2.heap.size ≤ n ∧ ∀ j, j ≤ 3 → n ≠ P3 j) 17 w3 [iv 0, iv 1, iv 2] (.slice a3 3 c3)) := LiesX.mono (fun n hn => ⟨hn.1 trivial, hn.2.2⟩) hl3
  clear HT1 hA3 hl3 hb2 hs2 hbw
  go_wp2_with fail
  refine Calls.mono HT2.out ?_
  rintro e w4 ⟨P4, hA4, ⟨h0, _⟩ | ⟨_, a4, c4, rfl, hl4, _⟩⟩
  · exact absurd rfl h0
  have hP4 : ∀ j, j ≤ 3 → P4 j = P3 j := fun j hj => hA4.old j hj
  have hb4 : Below w.heap.size w w4 := hb3.trans (hA4.kc.below (fun j hj hh => by obtain ⟨i, hi, e⟩ := hh; have := hP3 i hi; omega) hb3.size)
  have HL4 : Hid (LiesX (fun n => w2.heap.size ≤ n ∧ ∀ j, j ≤ 3 → n ≠ P4 j) 17 w4 [iv 0, iv 1, iv 2] (.slice a3 3 c3)) := LiesX.mono (fun n hn => ⟨hn.1, fun j hj => by rw [hP4 j hj]; exact hn.2 j hj⟩) (hA4.kc.liesX (fun n hn hh => by obtain ⟨i, hi, rfl⟩ := hh; exact hn.2 i hi rfl) HL3.out)
  have HM4 : Hid (LiesX (fun n => ∀ j, j ≤ 3 → n ≠ P4 j) 17 w4 [iv 0, iv 1, iv 2] (.slice a4 3 c4)) := LiesX.mono (fun n hn => hn.2.2) hl4
  have Hq : Hid (∀ j, j ≤ 3 → w.heap.size ≤ P4 j) := fun j hj => by rw [hP4 j hj]; exact hP3 j hj
  have HT3 : Hid (Calls Tryz.prog 33 #[.pointer (some ⟨b, 0, none⟩), .int .i64 4, .int .i64 0] w4 (TakePost pCK True (fun n => w.heap.size ≤ n) w4 P4 3 ⟨[iv 0, iv 1, iv 2], 0, 220, ⟨[iv 0, iv 1, iv 2], some (1, iv 3), 3⟩⟩)) := by
    have h9 := take_any (fun n => w.heap.size ≤ n) [iv 0, iv 1, iv 2] (some (1, iv 3)) P4 4 0 (by omega) (by omega) w4 hA4.chn (fun n hn => by have := hb4.size; omega)
    have h8 : P4 0 = b := by rw [hP4 0 (by omega)]; exact hP30
    rw [sp_three, h8] at h9
    exact h9
  clear HT2 hA4 hl4 HL3 hP3 hb3 hP30
  go_wp2_with fail
  refine Calls.mono HT3.out ?_
  rintro e w5 ⟨P5, hA5, ⟨_, rfl⟩ | ⟨h0, _⟩⟩
  case inr => cases h0
  have hb5 : Below w.heap.size w w5 := hb4.trans (hA5.kc.below (fun j hj hh => by obtain ⟨i, hi, e⟩ := hh; have := Hq.out i hi; omega) hb4.size)
  have HL5 : Hid (LiesX (fun n => ∀ j, j ≤ 3 → n ≠ P4 j) 17 w5 [iv 0, iv 1, iv 2] (.slice a3 3 c3)) := hA5.kc.liesX (fun n hn hh => by obtain ⟨i, hi, rfl⟩ := hh; exact hn i hi rfl) (LiesX.mono (fun n hn => hn.2) HL4.out)
  have HM5 : Hid (LiesX (fun n => ∀ j, j ≤ 3 → n ≠ P4 j) 17 w5 [iv 0, iv 1, iv 2] (.slice a4 3 c4)) := hA5.kc.liesX (fun n hn hh => by obtain ⟨i, hi, rfl⟩ := hh; exact hn i hi rfl) HM4.out
  have HIn : Hid (∀ V (b cap : Nat), V.cell? ⟨b, 0, none⟩ = some (.int .i64 0) → V.cell? ⟨b, 1, none⟩ = some (.int .i64 1) → V.cell? ⟨b, 2, none⟩ = some (.int .i64 2) → Calls Tryz.prog 34 #[.slice (some ⟨b, 0, none⟩) 3 cap] V fun e w' => ∃ a c, e = .returned (.slice a 3 c) ∧ Lies 17 w' [iv 0, iv 1, iv 2] (.slice a 3 c) ∧ Below V.heap.size V w') := fun V b cap => three_any b cap V
  clear HT3 hA5 HL4 HM4 hb4 hP4
  go_wp2_with fail
  refine Calls.mono (HIn.out _ _ _ (by simp) (by simp) (by simp)) ?_
  rintro e w6 ⟨a6, c6, rfl, hl6, hg6⟩
  have hg65 : Below w5.heap.size w5 w6 := ((Grew.refl w5).alloc _).below.trans (hg6.mono (by simp))
  have hb6 : Below w.heap.size w w6 := hb5.trans (hg65.mono hb5.size)
  have HV1 : Hid (Calls Tryz.prog 21 #[.slice a3 3 c3, .slice a6 3 c6] w6 fun e w' => e = .returned (.bool true) ∧ Below w6.heap.size w6 w') := values_one 16 [iv 0, iv 1, iv 2] _ _ w6 (HL5.out.keeps hg65).lies hl6 (by simp)
  have HV2 : Hid (∀ V, Below w6.heap.size w6 V → Calls Tryz.prog 21 #[.slice a3 3 c3, .slice a4 3 c4] V fun e w' => e = .returned (.bool true) ∧ Below V.heap.size V w') := fun V hV => values_one 16 [iv 0, iv 1, iv 2] _ _ V ((HL5.out.keeps hg65).keeps hV).lies ((HM5.out.keeps hg65).keeps hV).lies (by simp)
  clear hg6 hg65 hl6 HIn HL5 HM5 hb5
  go_wp2_with fail
  refine Calls.mono HV1.out ?_
  rintro e w7 ⟨rfl, hg7⟩
  have hb7 : Below w.heap.size w w7 := hb6.trans (hg7.mono hb6.size)
  have HV3 : Hid _ := HV2.out _ hg7
  clear hg7 HV1 HV2 hb6
  go_wp2_with fail
  refine Calls.mono HV3.out ?_
  rintro e w8 ⟨rfl, hg8⟩
  have hb8 : Below w.heap.size w w8 := hb7.trans (hg8.mono hb7.size)
  clear hg8 HV3 hb7
  go_wp2_with fail
  go_ret
  exact ⟨rfl, hb8⟩

end Go.Proofs.YtnjgolibmllhnaaGreat

namespace Go.Proofs.YtnjgolibmllhnaaGreat
open Go.RowKit Go.Shelf

/-- A question as an argument. -/
abbrev askV (k n f : Int) : Value := .agg #[.int .i64 k, .int .i64 n, .int .i64 f]

/-- Behind a question: both tell the same. -/
def AskPost (w0 : World) (c d : Nat) (w V : World) (e : Ending) (w' : World) : Prop :=
  e = .returned (.bool true) ∧ Kp23 w V w' ∧ ∃ vs' T', St23 w0 c d vs' T' w'

set_option maxRecDepth 100000 in
set_option maxHeartbeats 16000000 in
theorem sasked_any {w0 : World} {c d : Nat} {vs : List VT} {T : Tl} {w V : World} (s : St23 w0 c d vs T w) (hV : Below w.heap.size w V) (k n f : Int) :
    Calls Tryz.prog 10 #[.pointer (some ⟨c, 0, none⟩), .pointer (some ⟨d, 0, none⟩), askV k n f] V (AskPost w0 c d w V) := by
  obtain ⟨W, hW⟩ : ∃ W, W = V.alloc (.cells #[.int .i64 k, .int .i64 n, .int .i64 f] 34) := ⟨_, rfl⟩
  have HW : Hid (W = V.alloc (.cells #[.int .i64 k, .int .i64 n, .int .i64 f] 34)) := hW
  have hbV : Below V.heap.size V W := by rw [hW]; exact ((Grew.refl V).alloc _).below
  have hbW : Below w.heap.size w W := hV.trans (hbV.mono hV.size)
  have hVs := hV.size
  have k0 : W.cell? ⟨V.heap.size, 0, none⟩ = some (.int .i64 k) := by rw [hW]; simp
  have k1 : W.cell? ⟨V.heap.size, 1, none⟩ = some (.int .i64 n) := by rw [hW]; simp
  have k2 : W.cell? ⟨V.heap.size, 2, none⟩ = some (.int .i64 f) := by rw [hW]; simp
  have HS : Hid (St23 w0 c d vs T w) := s
  have HbW : Hid (Below w.heap.size w W) := hbW
  have HK0 : Hid (Kp23 w V W) := KC.of_below hbV
  have HVs : Hid (w.heap.size ≤ V.heap.size) := hVs
  clear hW s hbW hbV hVs hV
  by_cases e0 : k = 0
  · subst e0
    have HT : Hid _ := HS.out.take HbW.out n f
    go_enter Tryz.func10, Tryz.ntmps10
    go_upto_region 1 with fail
    rw [← HW.out]
    clear HW
    go_wp2_with fail
    refine Calls.mono HT.out ?_
    rintro e w1 ⟨hk1, a, l, kk, left, E, rfl, hdoc⟩
    have HD : Hid _ := hdoc
    have HK1 : Hid (Kp23 w V w1) := HK0.out.trans hk1
    have hnB : ¬ V.heap.size < w.heap.size := by have := HVs.out; omega
    have k1 := hk1.cell (a := ⟨V.heap.size, 1, none⟩) hnB k1
    have k2 := hk1.cell (a := ⟨V.heap.size, 2, none⟩) hnB k2
    clear hk1 hdoc HT k0 HK0
    go_wp2_with fail
    refine Calls.mono HD.out ?_
    rintro e w2 ⟨hk2, a2, l2, kk2, vs', T', rfl, hst, hvals⟩
    have HVal : Hid _ := hvals
    have HS2 : Hid (St23 w0 c d vs' T' w2) := hst
    have HK2 : Hid (Kp23 w V w2) := HK1.out.trans hk2
    clear hk2 hst hvals HD HK1 k1 k2
    go_wp2_with fail
    refine Calls.mono HVal.out ?_
    rintro e w3 ⟨rfl, hg3⟩
    have HE : Hid (AskPost w0 c d w V (.returned (.bool true)) w3) := ⟨rfl, HK2.out.trans (KC.of_below hg3), vs', T', HS2.out.keeps hg3⟩
    have e7 : (left == left) = true := by simp
    have e8 : (E == E) = true := by simp
    clear hg3 HVal HS2 HK2 HS HbW HVs
    go_wp2_with fail
    refine bodyPost_ret (v := .bool true) ?_ rfl HE.out
    simp [results, Tryz.results10, go_sem]
  · by_cases e1 : k = 1
    · subst e1
      have HT : Hid _ := HS.out.nth HbW.out n f
      go_enter Tryz.func10, Tryz.ntmps10
      go_upto_region 1 with fail
      rw [← HW.out]
      clear HW
      go_wp2_with fail
      refine Calls.mono HT.out ?_
      rintro e w1 ⟨hk1, x, a, kk, t, left, E, rfl, hdoc⟩
      have HD : Hid _ := hdoc (w1.alloc (.cells #[.int .i64 x.kind, .int .i64 x.num, .string x.text, .slice a x.items.length kk] 24)) ((Grew.refl w1).alloc _).below
      have hs1 := hk1.size
      have HK1 : Hid (Kp23 w V (w1.alloc (.cells #[.int .i64 x.kind, .int .i64 x.num, .string x.text, .slice a x.items.length kk] 24))) := (HK0.out.trans hk1).alloc _
      have hnB : ¬ V.heap.size < w.heap.size := by have := HVs.out; omega
      have k1 := hk1.cell (a := ⟨V.heap.size, 1, none⟩) hnB k1
      have k2 := hk1.cell (a := ⟨V.heap.size, 2, none⟩) hnB k2
      have HX1 : Hid (Bx (w1.alloc (.cells #[.int .i64 x.kind, .int .i64 x.num, .string x.text, .slice a x.items.length kk] 24)) w1.heap.size x (.slice a x.items.length kk)) := bx_alloc w1 x _
      have Hn1 : Hid (¬ w1.heap.size < w.heap.size) := by have := HVs.out; have h9 := HbW.out.size; show ¬ _; omega
      have z1 : ∀ A, (w1.alloc A).cell? ⟨V.heap.size, 1, none⟩ = some (.int .i64 n) := fun A => cell_keeps ((Grew.refl w1).alloc A).below k1
      have z2 : ∀ A, (w1.alloc A).cell? ⟨V.heap.size, 2, none⟩ = some (.int .i64 f) := fun A => cell_keeps ((Grew.refl w1).alloc A).below k2
      clear hk1 hdoc HT k0 HK0 hs1
      go_wp2_with fail
      refine Calls.mono HD.out ?_
      rintro e w2 ⟨hk2, a2, kk2, vs', T', rfl, hst, hl1, hl2⟩
      obtain ⟨y0, y1, y2, y3, _, _, _, _⟩ := hk2.bx Hn1.out HX1.out
      have hy : w1.heap.size < w2.heap.size := cell_lt y0
      have HK2 : Hid (Kp23 w V w2) := HK1.out.trans hk2
      have HS2 : Hid (St23 w0 c d vs' T' w2) := hst
      have HVa : Hid (Calls Tryz.prog 38 #[.agg #[.int .i64 x.kind, .int .i64 x.num, .string x.text, .slice a x.items.length kk], .agg #[.int .i64 x.kind, .int .i64 x.num, .string x.text, .slice a2 x.items.length kk2]] (w2.alloc (.cells #[.int .i64 x.kind, .int .i64 x.num, .string x.text, .slice a2 x.items.length kk2] 24)) fun e w' => e = .returned (.bool true) ∧ Below (w2.alloc (.cells #[.int .i64 x.kind, .int .i64 x.num, .string x.text, .slice a2 x.items.length kk2] 24)).heap.size (w2.alloc (.cells #[.int .i64 x.kind, .int .i64 x.num, .string x.text, .slice a2 x.items.length kk2] 24)) w') := (same_any 16 x x _ _ _ (Lies.keeps ((Grew.refl w2).alloc _).below _ _ _ hl1) (Lies.keeps ((Grew.refl w2).alloc _).below _ _ _ hl2)).mono fun e w' h => ⟨by rw [h.1, sameV_self], h.2.below⟩
      have p0 : ∀ A, (w2.alloc A).cell? ⟨w1.heap.size, 0, none⟩ = some _ := fun A => cell_keeps ((Grew.refl w2).alloc A).below y0
      have p1 : ∀ A, (w2.alloc A).cell? ⟨w1.heap.size, 1, none⟩ = some _ := fun A => cell_keeps ((Grew.refl w2).alloc A).below y1
      have p2 : ∀ A, (w2.alloc A).cell? ⟨w1.heap.size, 2, none⟩ = some _ := fun A => cell_keeps ((Grew.refl w2).alloc A).below y2
      have p3 : ∀ A, (w2.alloc A).cell? ⟨w1.heap.size, 3, none⟩ = some _ := fun A => cell_keeps ((Grew.refl w2).alloc A).below y3
      clear hk2 hst hl1 hl2 HD HK1 k1 k2 z1 z2 HX1 Hn1
      go_wp2_with fail
      refine Calls.mono HVa.out ?_
      rintro e w3 ⟨rfl, hg3⟩
      have hg4 : Below w2.heap.size w2 w3 := ((Grew.refl w2).alloc _).below.trans (hg3.mono (by simp))
      have HE : Hid (AskPost w0 c d w V (.returned (.bool true)) w3) := ⟨rfl, HK2.out.trans (KC.of_below hg4), vs', T', HS2.out.keeps hg4⟩
      have e6 : (t == t) = true := by simp
      have e7 : (left == left) = true := by simp
      have e8 : (E == E) = true := by simp
      clear hg3 hg4 HVa HS2 HK2 HS HbW HVs y0 y1 y2 y3 p0 p1 p2 p3
      go_wp2_with fail
      refine bodyPost_ret (v := .bool true) ?_ rfl HE.out
      simp [results, Tryz.results10, go_sem]
    · by_cases e3 : k = 3
      · subst e3
        have HT : Hid _ := HS.out.count HbW.out n f
        go_enter Tryz.func10, Tryz.ntmps10
        go_upto_region 1 with fail
        rw [← HW.out]
        clear HW
        go_wp2_with fail
        refine Calls.mono HT.out ?_
        rintro e w1 ⟨hk1, l, left, E, rfl, hdoc⟩
        have HD : Hid _ := hdoc
        have HK1 : Hid (Kp23 w V w1) := HK0.out.trans hk1
        have hnB : ¬ V.heap.size < w.heap.size := by have := HVs.out; omega
        have k1 := hk1.cell (a := ⟨V.heap.size, 1, none⟩) hnB k1
        have k2 := hk1.cell (a := ⟨V.heap.size, 2, none⟩) hnB k2
        clear hk1 hdoc HT k0 HK0
        go_wp2_with fail
        refine Calls.mono HD.out ?_
        rintro e w2 ⟨hk2, vs', T', rfl, hst⟩
        have HE : Hid (AskPost w0 c d w V (.returned (.bool true)) w2) := ⟨rfl, HK1.out.trans hk2, vs', T', hst⟩
        have e6 : (l == l) = true := by simp
        have e7 : (left == left) = true := by simp
        have e8 : (E == E) = true := by simp
        clear hk2 hst HD HK1 k1 k2 HS HbW HVs
        go_wp2_with fail
        refine bodyPost_ret (v := .bool true) ?_ rfl HE.out
        simp [results, Tryz.results10, go_sem]
      · have HE : Hid (AskPost w0 c d w V (.returned (.bool true)) W) := ⟨rfl, HK0.out, vs, T, HS.out.keeps HbW.out⟩
        clear HS HbW HK0 HVs k1 k2
        go_enter Tryz.func10, Tryz.ntmps10
        go_upto_region 1 with fail
        rw [← HW.out]
        clear HW
        go_wp2_with fail
        refine bodyPost_ret (v := .bool true) ?_ rfl HE.out
        simp [results, Tryz.results10, go_sem]

set_option maxRecDepth 100000 in
theorem sasked_other (c d : Option Addr) (k n f : Int) (e0 : ¬ k = 0) (e1 : ¬ k = 1) (e3 : ¬ k = 3) (V : World) : Calls Tryz.prog 10 #[.pointer c, .pointer d, askV k n f] V fun e w' => e = .returned (.bool true) ∧ Below V.heap.size V w' := by
  have HB : Hid (Below V.heap.size V (V.alloc (.cells #[.int .i64 k, .int .i64 n, .int .i64 f] 34))) := ((Grew.refl V).alloc _).below
  go_enter Tryz.func10, Tryz.ntmps10
  go_wp2_with fail
  refine bodyPost_ret (v := .bool true) ?_ rfl ⟨rfl, HB.out⟩
  simp [results, Tryz.results10, go_sem]

end Go.Proofs.YtnjgolibmllhnaaGreat

namespace Go.Proofs.YtnjgolibmllhnaaGreat
open Go.RowKit Go.Shelf

/-- The slice holds these questions: three numbers each. -/
def SlK (w : World) (qs : List (Int × Int × Int)) (v : Value) : Prop :=
  ∃ a c, v = .slice a qs.length c ∧ qs.length ≤ 9223372036854775807 ∧ (qs ≠ [] → ∃ b o, a = some ⟨b, o, none⟩ ∧ ∀ (i : Nat) (h : i < qs.length), w.cell? ⟨b, o + i * 3, none⟩ = some (.int .i64 (qs[i]'h).1) ∧ w.cell? ⟨b, o + i * 3 + 1, none⟩ = some (.int .i64 (qs[i]'h).2.1) ∧ w.cell? ⟨b, o + i * 3 + 2, none⟩ = some (.int .i64 (qs[i]'h).2.2))

/-- Both are known as far. -/
theorem St23.known {w0 : World} {c d : Nat} {vs : List VT} {T : Tl} {w : World} (s : St23 w0 c d vs T w) : ∃ M : Int, Calls Tryz.prog 13 #[.pointer (some ⟨c, 0, none⟩)] w (fun e w' => e = .returned (.int .i64 M) ∧ w' = w) ∧ Calls Tryz.prog 14 #[.pointer (some ⟨d, 0, none⟩)] w (fun e w' => e = .returned (.int .i64 M) ∧ w' = w) := by
  obtain ⟨_, YP, YD, P, Q, rfl, rfl, h3, h4, _, _, _⟩ := s
  refine ⟨((min vs.length 65536 : Nat) : Int), known_len _ P vs.length w w (own_some22 (P 0) w) (fun i hi => ?_) ?_, ?_⟩
  · obtain ⟨a, c, hc, _⟩ := h3.known i _ (List.getElem?_eq_getElem hi)
    exact hc.c6
  · match T, h3 with
    | none, h3 => exact (h3.ende rfl).c6
    | some (q, x), h3 =>
      obtain ⟨_, _, _, z, a, c, _, ⟨m, _, _, hc⟩, _⟩ := h3.lazy q x rfl
      exact hc.c6
  · have hk : ∀ i, i < vs.length → w.cell? ⟨Q i, 0, none⟩ = some (.bool true) ∧ w.cell? ⟨Q i, 1, none⟩ = some (.bool true) ∧ w.cell? ⟨Q i, 6, none⟩ = some (.pointer (some ⟨Q (i + 1), 0, none⟩)) := fun i hi => by
      obtain ⟨a, c, ⟨kd, q, z, uz, hc⟩, _⟩ := h4.known i _ (List.getElem?_eq_getElem hi)
      exact ⟨hc.c0, hc.c1, hc.c6⟩
    match T, h4 with
    | none, h4 => exact rknown_end Q vs.length w hk ⟨(h4.ende rfl).c0, (h4.ende rfl).c1⟩
    | some (q, x), h4 =>
      obtain ⟨_, _, _, z, a, c, _, ⟨kd, _, hc⟩, _⟩ := h4.lazy q x rfl
      exact rknown_len Q vs.length w hk hc.c0

set_option maxRecDepth 100000 in
set_option maxHeartbeats 16000000 in
theorem asks_walk (d : Nat) (L : List VT) (aL : Option Addr) (cL : Nat) (o : Int) (v : VT) (av : Option Addr) (cv : Nat) (E : Bool) (qs : List (Int × Int × Int)) (l : Value) (w : World) (hL : Lies (d + 1) w L (.slice aL L.length cL)) (hv : Lies d w v.items (.slice av v.items.length cv)) (hvt : v.text.size ≤ 9223372036854775807) (hl : SlK w qs l) :
    Calls Tryz.prog 3 #[fromV aL L.length cL o v (.slice av v.items.length cv) E, l] w fun e w' => e = .returned (.bool true) ∧ Below w.heap.size w w' := by
  have HSp : Hid (∀ V, Calls Tryz.prog 9 #[] V fun e w' => e = .returned (.bool true) ∧ Below V.heap.size V w') := speaks23_any
  obtain ⟨W, hW⟩ : ∃ W, W = w.alloc (.cells #[.slice aL L.length cL, .int .i64 o, .int .i64 v.kind, .int .i64 v.num, .string v.text, .slice av v.items.length cv, .bool E] 26) := ⟨_, rfl⟩
  have HW : Hid (W = w.alloc (.cells #[.slice aL L.length cL, .int .i64 o, .int .i64 v.kind, .int .i64 v.num, .string v.text, .slice av v.items.length cv, .bool E] 26)) := hW
  have hb0 : Below w.heap.size w W := by rw [hW]; exact ((Grew.refl w).alloc _).below
  have k0 : W.cell? ⟨w.heap.size, 0, none⟩ = some (.slice aL L.length cL) := by rw [hW]; simp
  have k1 : W.cell? ⟨w.heap.size, 1, none⟩ = some (.int .i64 o) := by rw [hW]; simp
  have k2 : W.cell? ⟨w.heap.size, 2, none⟩ = some (.int .i64 v.kind) := by rw [hW]; simp
  have k3 : W.cell? ⟨w.heap.size, 3, none⟩ = some (.int .i64 v.num) := by rw [hW]; simp
  have k4 : W.cell? ⟨w.heap.size, 4, none⟩ = some (.string v.text) := by rw [hW]; simp
  have k5 : W.cell? ⟨w.heap.size, 5, none⟩ = some (.slice av v.items.length cv) := by rw [hW]; simp
  have k6 : W.cell? ⟨w.heap.size, 6, none⟩ = some (.bool E) := by rw [hW]; simp
  have HMa : Hid (Calls Tryz.prog 7 #[fromV aL L.length cL o v (.slice av v.items.length cv) E] W (SmPost pCK (fun n => W.heap.size ≤ n) d L E o v W)) := smade_any d L aL cL o v av cv E W (Lies.keeps hb0 _ _ _ hL) (Lies.keeps hb0 _ _ _ hv) hvt
  have HMe : Hid (∀ V, Below W.heap.size W V → Calls Tryz.prog 8 #[fromV aL L.length cL o v (.slice av v.items.length cv) E] V (SmPost dCK (fun n => n < w.heap.size ∨ V.heap.size ≤ n) d L E o v V)) := fun V hV => by
    have hb : Below w.heap.size w V := hb0.trans (hV.mono hb0.size)
    exact smeant_any d L aL cL o v av cv E w.heap.size V hb.size ((LiesX.of_lies hL).keeps hb) ((LiesX.of_lies hv).keeps hb) hvt
  obtain ⟨al, cl, rfl, hql, hrow⟩ := hl
  have HRow : Hid _ := hrow
  obtain ⟨LL, hLL⟩ : ∃ LL, LL = qs.length := ⟨_, rfl⟩
  have HLL : Hid (LL = qs.length) := hLL
  have hLz : LL ≤ 9223372036854775807 := by omega
  rw [← hLL]
  have hws := hb0.size
  clear hL hv hvt hrow hLL hql hW
  go_enter Tryz.func3, Tryz.ntmps3
  go_upto_region 1 with fail
  rw [← HW.out]
  clear HW
  go_wp2_with fail
  refine Calls.mono HMa.out ?_
  rintro e w1 ⟨hg1, hres1⟩
  have HB2 : Hid _ := HMe.out _ hg1
  have k0 := cell_keeps hg1 k0; have k1 := cell_keeps hg1 k1; have k2 := cell_keeps hg1 k2; have k3 := cell_keeps hg1 k3; have k4 := cell_keeps hg1 k4; have k5 := cell_keeps hg1 k5; have k6 := cell_keeps hg1 k6
  have hb1 : Below w.heap.size w w1 := hb0.trans (hg1.mono hb0.size)
  have hs1 := hg1.size
  clear HMa HMe hb0
  rcases hres1 with ⟨hno, rfl⟩ | ⟨hok, P, rfl, hC1, hP1⟩
  · go_wp2_with fail
    refine Calls.mono HB2.out ?_
    rintro e w2 ⟨hg2, ⟨_, rfl⟩ | ⟨hok, _⟩⟩
    · have hb2 : Below w.heap.size w w2 := hb1.trans (hg2.mono hb1.size)
      clear hg2 HB2 hno hb1 hg1 k0 k1 k2 k3 k4 k5 k6 HRow
      go_wp2_with fail
      refine Calls.mono (HSp.out _) ?_
      rintro e wz ⟨rfl, hgz⟩
      have hbz : Below w.heap.size w wz := hb2.trans (hgz.mono hb2.size)
      clear hgz hb2
      go_wp2_with fail
      go_ret
      exact ⟨rfl, hbz⟩
    · exact absurd hok hno
  · generalize hc : P 0 = c
    go_wp2_with fail
    refine Calls.mono HB2.out ?_
    rintro e w2 ⟨hg2, ⟨hno, _⟩ | ⟨_, Q, rfl, hC2, hQ2⟩⟩
    · exact absurd hok hno
    have hb2 : Below w.heap.size w w2 := hb1.trans (hg2.mono hb1.size)
    have HS0 : Hid (St23 w c (Q 0) L (fromT E o v) w2) := by
      refine ⟨hb2, fun n => W.heap.size ≤ n ∧ n < w1.heap.size, fun n => n < w.heap.size ∨ w1.heap.size ≤ n, P, Q, hc, rfl, (hC1.monoY (fun n hn hy => ⟨hy, hn⟩)).keeps hg2, hC2, ?_, fun j hj => ?_, fun j hj => ?_⟩
      · rintro n h1 (h2 | h2)
        · have := h1.1; omega
        · have := h1.2; omega
      · have := hP1 j hj; omega
      · have := hQ2 j hj; have := hb1.size; omega
    generalize Q 0 = dd at *
    clear hg2 HB2 hok hb1 hg1 k0 k1 k2 k3 k4 k5 k6 hC1 hP1 hC2 hQ2 hc hb2 hs1 hws
    go_wp2_with fail
    go_loopg [5, 6, 7] 12 (fun g vc vd i wr => ∃ j c d : Nat, vc = .pointer (some ⟨c, 0, none⟩) ∧ vd = .pointer (some ⟨d, 0, none⟩) ∧ i = .int .i64 (j : Int) ∧ j ≤ 12 ∧ g = 12 - j ∧ Hid (∃ vs T, St23 w c d vs T wr))
    case atStart => exact ⟨0, c, dd, rfl, rfl, rfl, by omega, by omega, _, _, HS0.out⟩
    case round =>
      obtain ⟨j, c, d, rfl, rfl, rfl, hj, hg, HSt⟩ := hrel
      have Hg : Hid (gk = 12 - j) := hg
      clear hg HS0 k0 k1 k2 k3 k4 k5 k6
      by_cases hj1 : j < LL
      · have hji : (j : Int) < (LL : Int) := by omega
        by_cases hj2 : j < 12
        · have hj3 : (j : Int) < 12 := by omega
          have e1 : IntKind.i64.wrap ((j : Int) + 1) = ((j + 1 : Nat) : Int) := by rw [IntKind.wrap_i64]; omega
          have hq : j < qs.length := by have := HLL.out; omega
          have hne : qs ≠ [] := by intro h; rw [h] at hq; simp at hq
          obtain ⟨bb, oo, rfl, hall⟩ := HRow.out hne
          have hbr : Below w.heap.size w wr := by obtain ⟨vs, T, hst⟩ := HSt.out; exact hst.1
          obtain ⟨r0, r1, r2⟩ := hall j hq
          have r0 := cell_keeps hbr r0; have r1 := cell_keeps hbr r1; have r2 := cell_keeps hbr r2
          have i1 : (0 : Int) ≤ (j : Int) := by omega
          generalize qs[j].1 = k at *
          generalize qs[j].2.1 = n at *
          generalize qs[j].2.2 = f at *
          clear hall hne hbr HRow hq
          by_cases c1 : 3000 < n
          · by_cases c2 : 3000 < f
            · have hVb : Below wr.heap.size wr (wr.alloc (.cells #[.int .i64 k, .int .i64 n, .int .i64 3000] 34)) := ((Grew.refl wr).alloc _).below
              by_cases e2 : k = 2
              · subst e2
                have HA : Hid (Calls Tryz.prog 10 #[.pointer (some ⟨c, 0, none⟩), .pointer (some ⟨d, 0, none⟩), .agg #[.int .i64 2, .int .i64 n, .int .i64 3000]] (wr.alloc (.cells #[.int .i64 2, .int .i64 n, .int .i64 3000] 34)) fun e w' => e = .returned (.bool true) ∧ Below (wr.alloc (.cells #[.int .i64 2, .int .i64 n, .int .i64 3000] 34)).heap.size (wr.alloc (.cells #[.int .i64 2, .int .i64 n, .int .i64 3000] 34)) w') := sasked_other _ _ 2 n 3000 (by omega) (by omega) (by omega) _
                have HVb : Hid (Below wr.heap.size wr (wr.alloc (.cells #[.int .i64 2, .int .i64 n, .int .i64 3000] 34))) := hVb
                clear hVb
                go_wp2_with fail
                refine Calls.mono HA.out ?_
                rintro e w3 ⟨rfl, hg3⟩
                have y0 : w3.cell? ⟨wr.heap.size, 0, none⟩ = some (.int .i64 2) := cell_keeps hg3 (by simp)
                have y1 : w3.cell? ⟨wr.heap.size, 1, none⟩ = some (.int .i64 n) := cell_keeps hg3 (by simp)
                have y2 : w3.cell? ⟨wr.heap.size, 2, none⟩ = some (.int .i64 3000) := cell_keeps hg3 (by simp)
                have hb3 : Below wr.heap.size wr w3 := HVb.out.trans (hg3.mono HVb.out.size)
                obtain ⟨vs, T, hst⟩ := HSt.out
                have HD : Hid _ := hst.drop hb3 n 3000
                clear hg3 hb3 hst HA HVb HSt
                go_wp2_with fail
                refine Calls.mono HD.out ?_
                rintro e w4 ⟨hk4, pd, left, E4, rfl, hdoc⟩
                have hnB : ¬ wr.heap.size < wr.heap.size := by omega
                have y1 := hk4.cell (a := ⟨wr.heap.size, 1, none⟩) hnB y1
                have y2 := hk4.cell (a := ⟨wr.heap.size, 2, none⟩) hnB y2
                have HD2 : Hid _ := hdoc
                clear hk4 hdoc HD y0
                go_wp2_with fail
                refine Calls.mono HD2.out ?_
                rintro e w5 ⟨hk5, pd2, vs', T', rfl, ⟨hE, rfl, rfl, hst⟩ | ⟨rfl, c', d', rfl, rfl, hst⟩⟩
                · have HS5 : Hid (St23 w c d vs' T' w5) := hst
                  have e7 : (E4 != E4) = false := by simp
                  have e8 : (E4 != 0) = true := by simp [hE]
                  have e9 : (E4 == 0) = false := by simp [hE]
                  clear hst hk5 HD2 y1 y2
                  go_wp2_with fail
                  go_roundg (12 - (j + 1))
                  case measure => have := Hg.out; omega
                  case rel => exact ⟨j + 1, c, d, rfl, rfl, by go_num, by omega, rfl, vs', T', HS5.out⟩
                · have HS5 : Hid (St23 w c' d' vs' T' w5) := hst
                  clear hst hk5 HD2 y1 y2
                  go_wp2_with fail
                  go_roundg (12 - (j + 1))
                  case measure => have := Hg.out; omega
                  case rel => exact ⟨j + 1, c', d', rfl, rfl, by go_num, by omega, rfl, vs', T', HS5.out⟩
              · obtain ⟨vs, T, hst⟩ := HSt.out
                have HA : Hid (Calls Tryz.prog 10 #[.pointer (some ⟨c, 0, none⟩), .pointer (some ⟨d, 0, none⟩), .agg #[.int .i64 k, .int .i64 n, .int .i64 3000]] (wr.alloc (.cells #[.int .i64 k, .int .i64 n, .int .i64 3000] 34)) (AskPost w c d wr (wr.alloc (.cells #[.int .i64 k, .int .i64 n, .int .i64 3000] 34)))) := sasked_any hst hVb k n 3000
                clear hst hVb HSt
                go_wp2_with fail
                refine Calls.mono HA.out ?_
                rintro e w3 ⟨rfl, hk3, vs', T', hst⟩
                have hnB : ¬ wr.heap.size < wr.heap.size := by omega
                have y0 : w3.cell? ⟨wr.heap.size, 0, none⟩ = some (.int .i64 k) := hk3.cell (a := ⟨wr.heap.size, 0, none⟩) hnB (by simp)
                have HS3 : Hid (St23 w c d vs' T' w3) := hst
                clear hk3 hst HA
                go_wp2_with fail
                go_roundg (12 - (j + 1))
                case measure => have := Hg.out; omega
                case rel => exact ⟨j + 1, c, d, rfl, rfl, by go_num, by omega, rfl, vs', T', HS3.out⟩
            · have hVb : Below wr.heap.size wr (wr.alloc (.cells #[.int .i64 k, .int .i64 n, .int .i64 f] 34)) := ((Grew.refl wr).alloc _).below
              by_cases e2 : k = 2
              · subst e2
                have HA : Hid (Calls Tryz.prog 10 #[.pointer (some ⟨c, 0, none⟩), .pointer (some ⟨d, 0, none⟩), .agg #[.int .i64 2, .int .i64 n, .int .i64 f]] (wr.alloc (.cells #[.int .i64 2, .int .i64 n, .int .i64 f] 34)) fun e w' => e = .returned (.bool true) ∧ Below (wr.alloc (.cells #[.int .i64 2, .int .i64 n, .int .i64 f] 34)).heap.size (wr.alloc (.cells #[.int .i64 2, .int .i64 n, .int .i64 f] 34)) w') := sasked_other _ _ 2 n f (by omega) (by omega) (by omega) _
                have HVb : Hid (Below wr.heap.size wr (wr.alloc (.cells #[.int .i64 2, .int .i64 n, .int .i64 f] 34))) := hVb
                clear hVb
                go_wp2_with fail
                refine Calls.mono HA.out ?_
                rintro e w3 ⟨rfl, hg3⟩
                have y0 : w3.cell? ⟨wr.heap.size, 0, none⟩ = some (.int .i64 2) := cell_keeps hg3 (by simp)
                have y1 : w3.cell? ⟨wr.heap.size, 1, none⟩ = some (.int .i64 n) := cell_keeps hg3 (by simp)
                have y2 : w3.cell? ⟨wr.heap.size, 2, none⟩ = some (.int .i64 f) := cell_keeps hg3 (by simp)
                have hb3 : Below wr.heap.size wr w3 := HVb.out.trans (hg3.mono HVb.out.size)
                obtain ⟨vs, T, hst⟩ := HSt.out
                have HD : Hid _ := hst.drop hb3 n f
                clear hg3 hb3 hst HA HVb HSt
                go_wp2_with fail
                refine Calls.mono HD.out ?_
                rintro e w4 ⟨hk4, pd, left, E4, rfl, hdoc⟩
                have hnB : ¬ wr.heap.size < wr.heap.size := by omega
                have y1 := hk4.cell (a := ⟨wr.heap.size, 1, none⟩) hnB y1
                have y2 := hk4.cell (a := ⟨wr.heap.size, 2, none⟩) hnB y2
                have HD2 : Hid _ := hdoc
                clear hk4 hdoc HD y0
                go_wp2_with fail
                refine Calls.mono HD2.out ?_
                rintro e w5 ⟨hk5, pd2, vs', T', rfl, ⟨hE, rfl, rfl, hst⟩ | ⟨rfl, c', d', rfl, rfl, hst⟩⟩
                · have HS5 : Hid (St23 w c d vs' T' w5) := hst
                  have e7 : (E4 != E4) = false := by simp
                  have e8 : (E4 != 0) = true := by simp [hE]
                  have e9 : (E4 == 0) = false := by simp [hE]
                  clear hst hk5 HD2 y1 y2
                  go_wp2_with fail
                  go_roundg (12 - (j + 1))
                  case measure => have := Hg.out; omega
                  case rel => exact ⟨j + 1, c, d, rfl, rfl, by go_num, by omega, rfl, vs', T', HS5.out⟩
                · have HS5 : Hid (St23 w c' d' vs' T' w5) := hst
                  clear hst hk5 HD2 y1 y2
                  go_wp2_with fail
                  go_roundg (12 - (j + 1))
                  case measure => have := Hg.out; omega
                  case rel => exact ⟨j + 1, c', d', rfl, rfl, by go_num, by omega, rfl, vs', T', HS5.out⟩
              · obtain ⟨vs, T, hst⟩ := HSt.out
                have HA : Hid (Calls Tryz.prog 10 #[.pointer (some ⟨c, 0, none⟩), .pointer (some ⟨d, 0, none⟩), .agg #[.int .i64 k, .int .i64 n, .int .i64 f]] (wr.alloc (.cells #[.int .i64 k, .int .i64 n, .int .i64 f] 34)) (AskPost w c d wr (wr.alloc (.cells #[.int .i64 k, .int .i64 n, .int .i64 f] 34)))) := sasked_any hst hVb k n f
                clear hst hVb HSt
                go_wp2_with fail
                refine Calls.mono HA.out ?_
                rintro e w3 ⟨rfl, hk3, vs', T', hst⟩
                have hnB : ¬ wr.heap.size < wr.heap.size := by omega
                have y0 : w3.cell? ⟨wr.heap.size, 0, none⟩ = some (.int .i64 k) := hk3.cell (a := ⟨wr.heap.size, 0, none⟩) hnB (by simp)
                have HS3 : Hid (St23 w c d vs' T' w3) := hst
                clear hk3 hst HA
                go_wp2_with fail
                go_roundg (12 - (j + 1))
                case measure => have := Hg.out; omega
                case rel => exact ⟨j + 1, c, d, rfl, rfl, by go_num, by omega, rfl, vs', T', HS3.out⟩
          · have hVb : Below wr.heap.size wr (wr.alloc (.cells #[.int .i64 k, .int .i64 n, .int .i64 f] 34)) := ((Grew.refl wr).alloc _).below
            by_cases e2 : k = 2
            · subst e2
              have HA : Hid (Calls Tryz.prog 10 #[.pointer (some ⟨c, 0, none⟩), .pointer (some ⟨d, 0, none⟩), .agg #[.int .i64 2, .int .i64 n, .int .i64 f]] (wr.alloc (.cells #[.int .i64 2, .int .i64 n, .int .i64 f] 34)) fun e w' => e = .returned (.bool true) ∧ Below (wr.alloc (.cells #[.int .i64 2, .int .i64 n, .int .i64 f] 34)).heap.size (wr.alloc (.cells #[.int .i64 2, .int .i64 n, .int .i64 f] 34)) w') := sasked_other _ _ 2 n f (by omega) (by omega) (by omega) _
              have HVb : Hid (Below wr.heap.size wr (wr.alloc (.cells #[.int .i64 2, .int .i64 n, .int .i64 f] 34))) := hVb
              clear hVb
              go_wp2_with fail
              refine Calls.mono HA.out ?_
              rintro e w3 ⟨rfl, hg3⟩
              have y0 : w3.cell? ⟨wr.heap.size, 0, none⟩ = some (.int .i64 2) := cell_keeps hg3 (by simp)
              have y1 : w3.cell? ⟨wr.heap.size, 1, none⟩ = some (.int .i64 n) := cell_keeps hg3 (by simp)
              have y2 : w3.cell? ⟨wr.heap.size, 2, none⟩ = some (.int .i64 f) := cell_keeps hg3 (by simp)
              have hb3 : Below wr.heap.size wr w3 := HVb.out.trans (hg3.mono HVb.out.size)
              obtain ⟨vs, T, hst⟩ := HSt.out
              have HD : Hid _ := hst.drop hb3 n f
              clear hg3 hb3 hst HA HVb HSt
              go_wp2_with fail
              refine Calls.mono HD.out ?_
              rintro e w4 ⟨hk4, pd, left, E4, rfl, hdoc⟩
              have hnB : ¬ wr.heap.size < wr.heap.size := by omega
              have y1 := hk4.cell (a := ⟨wr.heap.size, 1, none⟩) hnB y1
              have y2 := hk4.cell (a := ⟨wr.heap.size, 2, none⟩) hnB y2
              have HD2 : Hid _ := hdoc
              clear hk4 hdoc HD y0
              go_wp2_with fail
              refine Calls.mono HD2.out ?_
              rintro e w5 ⟨hk5, pd2, vs', T', rfl, ⟨hE, rfl, rfl, hst⟩ | ⟨rfl, c', d', rfl, rfl, hst⟩⟩
              · have HS5 : Hid (St23 w c d vs' T' w5) := hst
                have e7 : (E4 != E4) = false := by simp
                have e8 : (E4 != 0) = true := by simp [hE]
                have e9 : (E4 == 0) = false := by simp [hE]
                clear hst hk5 HD2 y1 y2
                go_wp2_with fail
                go_roundg (12 - (j + 1))
                case measure => have := Hg.out; omega
                case rel => exact ⟨j + 1, c, d, rfl, rfl, by go_num, by omega, rfl, vs', T', HS5.out⟩
              · have HS5 : Hid (St23 w c' d' vs' T' w5) := hst
                clear hst hk5 HD2 y1 y2
                go_wp2_with fail
                go_roundg (12 - (j + 1))
                case measure => have := Hg.out; omega
                case rel => exact ⟨j + 1, c', d', rfl, rfl, by go_num, by omega, rfl, vs', T', HS5.out⟩
            · obtain ⟨vs, T, hst⟩ := HSt.out
              have HA : Hid (Calls Tryz.prog 10 #[.pointer (some ⟨c, 0, none⟩), .pointer (some ⟨d, 0, none⟩), .agg #[.int .i64 k, .int .i64 n, .int .i64 f]] (wr.alloc (.cells #[.int .i64 k, .int .i64 n, .int .i64 f] 34)) (AskPost w c d wr (wr.alloc (.cells #[.int .i64 k, .int .i64 n, .int .i64 f] 34)))) := sasked_any hst hVb k n f
              clear hst hVb HSt
              go_wp2_with fail
              refine Calls.mono HA.out ?_
              rintro e w3 ⟨rfl, hk3, vs', T', hst⟩
              have hnB : ¬ wr.heap.size < wr.heap.size := by omega
              have y0 : w3.cell? ⟨wr.heap.size, 0, none⟩ = some (.int .i64 k) := hk3.cell (a := ⟨wr.heap.size, 0, none⟩) hnB (by simp)
              have HS3 : Hid (St23 w c d vs' T' w3) := hst
              clear hk3 hst HA
              go_wp2_with fail
              go_roundg (12 - (j + 1))
              case measure => have := Hg.out; omega
              case rel => exact ⟨j + 1, c, d, rfl, rfl, by go_num, by omega, rfl, vs', T', HS3.out⟩
        · have hj3 : ¬ (j : Int) < 12 := by omega
          clear hj hj1 hj2 Hg
          have HKn : Hid (∃ M : Int, Calls Tryz.prog 13 #[.pointer (some ⟨c, 0, none⟩)] wr (fun e w' => e = .returned (.int .i64 M) ∧ w' = wr) ∧ Calls Tryz.prog 14 #[.pointer (some ⟨d, 0, none⟩)] wr (fun e w' => e = .returned (.int .i64 M) ∧ w' = wr)) := by
            obtain ⟨vs, T, hst⟩ := HSt.out
            exact hst.known
          obtain ⟨M, hm1, hm2⟩ := HKn.out
          have H1 : Hid _ := hm1
          have H2 : Hid _ := hm2
          have hbr : Below w.heap.size w wr := by obtain ⟨vs, T, hst⟩ := HSt.out; exact hst.1
          have e7 : (M == M) = true := by simp
          clear hm1 hm2 HKn HSt HRow
          go_wp2_with fail
          refine Calls.mono H1.out ?_
          rintro e w9 ⟨rfl, hw9⟩
          obtain rfl : wr = w9 := hw9.symm
          clear hw9
          go_wp2_with fail
          refine Calls.mono H2.out ?_
          rintro e w9 ⟨rfl, hw9⟩
          obtain rfl : wr = w9 := hw9.symm
          clear hw9 H1 H2
          go_wp2_with fail
          refine Calls.mono (HSp.out _) ?_
          rintro e wz ⟨rfl, hgz⟩
          have hbz : Below w.heap.size w wz := hbr.trans (hgz.mono hbr.size)
          clear hgz hbr
          go_wp2_with fail
          go_ret
          exact ⟨rfl, hbz⟩
      · have hji : ¬ (j : Int) < (LL : Int) := by omega
        clear hj hj1 Hg
        have HKn : Hid (∃ M : Int, Calls Tryz.prog 13 #[.pointer (some ⟨c, 0, none⟩)] wr (fun e w' => e = .returned (.int .i64 M) ∧ w' = wr) ∧ Calls Tryz.prog 14 #[.pointer (some ⟨d, 0, none⟩)] wr (fun e w' => e = .returned (.int .i64 M) ∧ w' = wr)) := by
          obtain ⟨vs, T, hst⟩ := HSt.out
          exact hst.known
        obtain ⟨M, hm1, hm2⟩ := HKn.out
        have H1 : Hid _ := hm1
        have H2 : Hid _ := hm2
        have hbr : Below w.heap.size w wr := by obtain ⟨vs, T, hst⟩ := HSt.out; exact hst.1
        have e7 : (M == M) = true := by simp
        clear hm1 hm2 HKn HSt HRow
        go_wp2_with fail
        refine Calls.mono H1.out ?_
        rintro e w9 ⟨rfl, hw9⟩
        obtain rfl : wr = w9 := hw9.symm
        clear hw9
        go_wp2_with fail
        refine Calls.mono H2.out ?_
        rintro e w9 ⟨rfl, hw9⟩
        obtain rfl : wr = w9 := hw9.symm
        clear hw9 H1 H2
        go_wp2_with fail
        refine Calls.mono (HSp.out _) ?_
        rintro e wz ⟨rfl, hgz⟩
        have hbz : Below w.heap.size w wz := hbr.trans (hgz.mono hbr.size)
        clear hgz hbr
        go_wp2_with fail
        go_ret
        exact ⟨rfl, hbz⟩

end Go.Proofs.YtnjgolibmllhnaaGreat

