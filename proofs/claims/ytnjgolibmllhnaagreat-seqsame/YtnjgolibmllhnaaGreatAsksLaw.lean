/-
  SeqAsks.
-/
import Derived.Test.YtnjgolibmllhnaaGreatMadeM
import Derived.Test.YtnjgolibmllhnaaGreatSpeaks22
import Derived.Test.YtnjgolibmllhnaaGreatUtf
namespace Go.Proofs.YtnjgolibmllhnaaGreat
open Go.RowKit Go.Shelf

abbrev iv (n : Int) : VT := ⟨2, n, ⟨#[]⟩, []⟩

theorem sp_one : wlk frcC 3 ⟨[], some (1, iv 0), 0⟩ 5 = ⟨[iv 0, iv 1, iv 2], 2, 0, ⟨[iv 0, iv 1, iv 2], some (1, iv 3), 3⟩⟩ := by kernel_rfl
theorem sp_two : wlk frcC 3 ⟨[iv 0, iv 1, iv 2], some (1, iv 3), 0⟩ 0 = ⟨[iv 0, iv 1, iv 2], 0, 0, ⟨[iv 0, iv 1, iv 2], some (1, iv 3), 3⟩⟩ := by kernel_rfl
theorem sp_three : wlk frcC 4 ⟨[iv 0, iv 1, iv 2], some (1, iv 3), 0⟩ 0 = ⟨[iv 0, iv 1, iv 2], 0, 220, ⟨[iv 0, iv 1, iv 2], some (1, iv 3), 3⟩⟩ := by kernel_rfl

theorem three_any (b cap : Nat) (w : World) (h0 : w.cell? ⟨b, 0, none⟩ = some (.int .i64 0)) (h1 : w.cell? ⟨b, 1, none⟩ = some (.int .i64 1)) (h2 : w.cell? ⟨b, 2, none⟩ = some (.int .i64 2)) :
    Calls Tryz.prog 34 #[.slice (some ⟨b, 0, none⟩) 3 cap] w fun e w' => ∃ a c, e = .returned (.slice a 3 c) ∧ Lies 17 w' [iv 0, iv 1, iv 2] (.slice a 3 c) ∧ Below w.heap.size w w' := by
  refine (ints_any b [0, 1, 2] cap w (by simp) (fun i hi => ?_)).mono ?_
  · match i, hi with
    | 0, _ => exact h0
    | 1, _ => exact h1
    | 2, _ => exact h2
  rintro e w' ⟨v, rfl, hown, hb⟩
  have hown2 : w'.ownsRow w.heap.size 24 4 v 3 ([(iv 0, Value.slice none 0 0), (iv 1, Value.slice none 0 0), (iv 2, Value.slice none 0 0)].flatMap encP) := hown
  have hl := own_liesX (X := fun _ => True) (d := 16) hown2 rfl (fun _ _ => trivial) (fun p hp => by
    simp only [List.mem_cons, List.not_mem_nil, or_false] at hp
    rcases hp with rfl | rfl | rfl <;> exact ⟨⟨none, 0, rfl, by simp, fun h => absurd rfl h⟩, by decide⟩) (by simp)
  obtain ⟨a, c, rfl, _⟩ := LiesX.slice hl
  exact ⟨a, c, rfl, hl.lies, hb⟩

set_option maxRecDepth 100000 in
set_option maxHeartbeats 8000000 in
theorem speaks23_any (w : World) : Calls Tryz.prog 9 #[] w fun e w' => e = .returned (.bool true) ∧ Below w.heap.size w w' := by
  have HI : Hid (∀ V, Calls Tryz.prog 32 #[.int .i64 0] V fun e w' => e = .returned (.agg #[.int .i64 2, .int .i64 0, .string ⟨#[]⟩, .slice none 0 0]) ∧ Grew V w') := fun V => int_any 0 V
  have HIt : Hid (∀ V, Calls Tryz.prog 27 #[.int .i64 1, .agg #[.int .i64 2, .int .i64 0, .string ⟨#[]⟩, .slice none 0 0]] V (IterPost 0 1 nil0 V)) := fun V => by
    have h9 := iter_any 16 1 nil0 (.slice none 0 0) V (lies_z22 V) (by show (0 : Nat) ≤ _; omega)
    rw [nil0_err] at h9
    exact h9
  go_enter Tryz.func9, Tryz.ntmps9
  go_wp2_with fail
  refine Calls.mono (HI.out _) ?_
  rintro e w1 ⟨rfl, hg1⟩
  have hb1 : Below w.heap.size w w1 := hg1.below
  clear hg1 HI
  go_wp2_with fail
  refine Calls.mono (HIt.out _) ?_
  rintro e w2 ⟨hg2, ⟨h0, _⟩ | ⟨_, a, c, b, rfl, hb, hcb, hlx⟩⟩
  · exact absurd rfl h0
  have hb2 : Below w.heap.size w w2 := hb1.trans (hg2.mono hb1.size)
  have hs1 := hb1.size
  have hs2 := hg2.size
  have hC2 : Chn pCK (fun n => w.heap.size ≤ n) w2 [] (some (1, iv 0)) (fun _ => b) := chn_iter (C := pCK) (a := a) (c := c) (show w.heap.size ≤ b by omega) (by omega) nil0_right (Dp.of_lies 16 w2 nil0 _ hlx.lies) ⟨0, by omega, rfl, hcb⟩ (LiesX.mono (fun n hn => ⟨by omega, hn.2⟩) hlx)
  have hbw : w.heap.size ≤ b := by omega
  have HT1 : Hid (Calls Tryz.prog 33 #[.pointer (some ⟨b, 0, none⟩), .int .i64 3, .int .i64 5] w2 (TakePost pCK True (fun n => w.heap.size ≤ n) w2 (fun _ => b) 0 ⟨[iv 0, iv 1, iv 2], 2, 0, ⟨[iv 0, iv 1, iv 2], some (1, iv 3), 3⟩⟩)) := by
    have h9 := take_any (fun n => w.heap.size ≤ n) [] (some (1, iv 0)) (fun _ => b) 3 5 (by omega) (by omega) w2 hC2 (fun n hn => by omega)
    rw [sp_one] at h9
    exact h9
  clear hg2 hb hcb hlx hb1 HIt hs1 hC2
  go_wp2_with fail
  refine Calls.mono HT1.out ?_
  rintro e w3 ⟨P3, hA3, ⟨h0, _⟩ | ⟨_, a3, c3, rfl, hl3, _⟩⟩
  · exact absurd rfl h0
  have hP30 : P3 0 = b := hA3.old 0 (Nat.le_refl _)
  have hP3 : ∀ j, j ≤ 3 → w.heap.size ≤ P3 j := fun j hj => by
    by_cases h : j ≤ 0
    · obtain rfl : j = 0 := by omega
      rw [hP30]; exact hbw
    · have := hA3.new j (by omega) hj; have := hb2.size; omega
  have hb3 : Below w.heap.size w w3 := hb2.trans (hA3.kc.below (fun j hj hh => by obtain ⟨i, hi, e⟩ := hh; have e : j = b := e; omega) hb2.size)
  have HT2 : Hid (Calls Tryz.prog 33 #[.pointer (some ⟨b, 0, none⟩), .int .i64 3, .int .i64 0] w3 (TakePost pCK True (fun n => w.heap.size ≤ n) w3 P3 3 ⟨[iv 0, iv 1, iv 2], 0, 0, ⟨[iv 0, iv 1, iv 2], some (1, iv 3), 3⟩⟩)) := by
    have h9 := take_any (fun n => w.heap.size ≤ n) [iv 0, iv 1, iv 2] (some (1, iv 3)) P3 3 0 (by omega) (by omega) w3 hA3.chn (fun n hn => by have := hb3.size; omega)
    rw [sp_two, hP30] at h9
    exact h9
  have HL3 : Hid (LiesX (fun n => w2.heap.size ≤ n ∧ ∀ j, j ≤ 3 → n ≠ P3 j) 17 w3 [iv 0, iv 1, iv 2] (.slice a3 3 c3)) := LiesX.mono (fun n hn => ⟨hn.1 trivial, hn.2.2⟩) hl3
  clear HT1 hA3 hl3 hb2 hs2 hbw
  go_wp2_with fail
  refine Calls.mono HT2.out ?_
  rintro e w4 ⟨P4, hA4, ⟨h0, _⟩ | ⟨_, a4, c4, rfl, hl4, _⟩⟩
  · exact absurd rfl h0
  have hP4 : ∀ j, j ≤ 3 → P4 j = P3 j := fun j hj => hA4.old j hj
  have hb4 : Below w.heap.size w w4 := hb3.trans (hA4.kc.below (fun j hj hh => by obtain ⟨i, hi, e⟩ := hh; have := hP3 i hi; omega) hb3.size)
  have HL4 : Hid (LiesX (fun n => w2.heap.size ≤ n ∧ ∀ j, j ≤ 3 → n ≠ P4 j) 17 w4 [iv 0, iv 1, iv 2] (.slice a3 3 c3)) := LiesX.mono (fun n hn => ⟨hn.1, fun j hj => by rw [hP4 j hj]; exact hn.2 j hj⟩) (hA4.kc.liesX (fun n hn hh => by obtain ⟨i, hi, rfl⟩ := hh; exact hn.2 i hi rfl) HL3.out)
  have HM4 : Hid (LiesX (fun n => ∀ j, j ≤ 3 → n ≠ P4 j) 17 w4 [iv 0, iv 1, iv 2] (.slice a4 3 c4)) := LiesX.mono (fun n hn => hn.2.2) hl4
  have Hq : Hid (∀ j, j ≤ 3 → w.heap.size ≤ P4 j) := fun j hj => by rw [hP4 j hj]; exact hP3 j hj
  have HT3 : Hid (Calls Tryz.prog 33 #[.pointer (some ⟨b, 0, none⟩), .int .i64 4, .int .i64 0] w4 (TakePost pCK True (fun n => w.heap.size ≤ n) w4 P4 3 ⟨[iv 0, iv 1, iv 2], 0, 220, ⟨[iv 0, iv 1, iv 2], some (1, iv 3), 3⟩⟩)) := by
    have h9 := take_any (fun n => w.heap.size ≤ n) [iv 0, iv 1, iv 2] (some (1, iv 3)) P4 4 0 (by omega) (by omega) w4 hA4.chn (fun n hn => by have := hb4.size; omega)
    have h8 : P4 0 = b := by rw [hP4 0 (by omega)]; exact hP30
    rw [sp_three, h8] at h9
    exact h9
  clear HT2 hA4 hl4 HL3 hP3 hb3 hP30
  go_wp2_with fail
  refine Calls.mono HT3.out ?_
  rintro e w5 ⟨P5, hA5, ⟨_, rfl⟩ | ⟨h0, _⟩⟩
  case inr => cases h0
  have hb5 : Below w.heap.size w w5 := hb4.trans (hA5.kc.below (fun j hj hh => by obtain ⟨i, hi, e⟩ := hh; have := Hq.out i hi; omega) hb4.size)
  have HL5 : Hid (LiesX (fun n => ∀ j, j ≤ 3 → n ≠ P4 j) 17 w5 [iv 0, iv 1, iv 2] (.slice a3 3 c3)) := hA5.kc.liesX (fun n hn hh => by obtain ⟨i, hi, rfl⟩ := hh; exact hn i hi rfl) (LiesX.mono (fun n hn => hn.2) HL4.out)
  have HM5 : Hid (LiesX (fun n => ∀ j, j ≤ 3 → n ≠ P4 j) 17 w5 [iv 0, iv 1, iv 2] (.slice a4 3 c4)) := hA5.kc.liesX (fun n hn hh => by obtain ⟨i, hi, rfl⟩ := hh; exact hn i hi rfl) HM4.out
  have HIn : Hid (∀ V (b cap : Nat), V.cell? ⟨b, 0, none⟩ = some (.int .i64 0) → V.cell? ⟨b, 1, none⟩ = some (.int .i64 1) → V.cell? ⟨b, 2, none⟩ = some (.int .i64 2) → Calls Tryz.prog 34 #[.slice (some ⟨b, 0, none⟩) 3 cap] V fun e w' => ∃ a c, e = .returned (.slice a 3 c) ∧ Lies 17 w' [iv 0, iv 1, iv 2] (.slice a 3 c) ∧ Below V.heap.size V w') := fun V b cap => three_any b cap V
  clear HT3 hA5 HL4 HM4 hb4 hP4
  go_wp2_with fail
  refine Calls.mono (HIn.out _ _ _ (by simp) (by simp) (by simp)) ?_
  rintro e w6 ⟨a6, c6, rfl, hl6, hg6⟩
  have hg65 : Below w5.heap.size w5 w6 := ((Grew.refl w5).alloc _).below.trans (hg6.mono (by simp))
  have hb6 : Below w.heap.size w w6 := hb5.trans (hg65.mono hb5.size)
  have HV1 : Hid (Calls Tryz.prog 21 #[.slice a3 3 c3, .slice a6 3 c6] w6 fun e w' => e = .returned (.bool true) ∧ Below w6.heap.size w6 w') := values_one 16 [iv 0, iv 1, iv 2] _ _ w6 (HL5.out.keeps hg65).lies hl6 (by simp)
  have HV2 : Hid (∀ V, Below w6.heap.size w6 V → Calls Tryz.prog 21 #[.slice a3 3 c3, .slice a4 3 c4] V fun e w' => e = .returned (.bool true) ∧ Below V.heap.size V w') := fun V hV => values_one 16 [iv 0, iv 1, iv 2] _ _ V ((HL5.out.keeps hg65).keeps hV).lies ((HM5.out.keeps hg65).keeps hV).lies (by simp)
  clear hg6 hg65 hl6 HIn HL5 HM5 hb5
  go_wp2_with fail
  refine Calls.mono HV1.out ?_
  rintro e w7 ⟨rfl, hg7⟩
  have hb7 : Below w.heap.size w w7 := hb6.trans (hg7.mono hb6.size)
  have HV3 : Hid _ := HV2.out _ hg7
  clear hg7 HV1 HV2 hb6
  go_wp2_with fail
  refine Calls.mono HV3.out ?_
  rintro e w8 ⟨rfl, hg8⟩
  have hb8 : Below w.heap.size w w8 := hb7.trans (hg8.mono hb7.size)
  clear hg8 HV3 hb7
  go_wp2_with fail
  go_ret
  exact ⟨rfl, hb8⟩

end Go.Proofs.YtnjgolibmllhnaaGreat

namespace Go.Proofs.YtnjgolibmllhnaaGreat
open Go.RowKit Go.Shelf

/-- Both are known as far. -/
theorem St23.known {w0 : World} {c d : Nat} {vs : List VT} {T : Tl} {w : World} (s : St23 w0 c d vs T w) : ∃ M : Int, Calls Tryz.prog 13 #[.pointer (some ⟨c, 0, none⟩)] w (fun e w' => e = .returned (.int .i64 M) ∧ w' = w) ∧ Calls Tryz.prog 14 #[.pointer (some ⟨d, 0, none⟩)] w (fun e w' => e = .returned (.int .i64 M) ∧ w' = w) := by
  obtain ⟨_, YP, YD, P, Q, rfl, rfl, h3, h4, _, _, _⟩ := s
  refine ⟨((min vs.length 65536 : Nat) : Int), known_len _ P vs.length w w (own_some22 (P 0) w) (fun i hi => ?_) ?_, ?_⟩
  · obtain ⟨a, c, hc, _⟩ := h3.known i _ (List.getElem?_eq_getElem hi)
    exact hc.c6
  · match T, h3 with
    | none, h3 => exact (h3.ende rfl).c6
    | some (q, x), h3 =>
      obtain ⟨_, _, _, z, a, c, _, ⟨m, _, _, hc⟩, _⟩ := h3.lazy q x rfl
      exact hc.c6
  · have hk : ∀ i, i < vs.length → w.cell? ⟨Q i, 0, none⟩ = some (.bool true) ∧ w.cell? ⟨Q i, 1, none⟩ = some (.bool true) ∧ w.cell? ⟨Q i, 6, none⟩ = some (.pointer (some ⟨Q (i + 1), 0, none⟩)) := fun i hi => by
      obtain ⟨a, c, ⟨kd, q, z, uz, hc⟩, _⟩ := h4.known i _ (List.getElem?_eq_getElem hi)
      exact ⟨hc.c0, hc.c1, hc.c6⟩
    match T, h4 with
    | none, h4 => exact rknown_end Q vs.length w hk ⟨(h4.ende rfl).c0, (h4.ende rfl).c1⟩
    | some (q, x), h4 =>
      obtain ⟨_, _, _, z, a, c, _, ⟨kd, _, hc⟩, _⟩ := h4.lazy q x rfl
      exact rknown_len Q vs.length w hk hc.c0

end Go.Proofs.YtnjgolibmllhnaaGreat

