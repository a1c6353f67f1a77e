/-
  CellNil.
-/
import Derived.Test.YtmmppmioackiaabSpeaks22
namespace Go.Proofs.Ytmmppmioackiaab
open Go.RowKit Go.Shelf

set_option maxRecDepth 100000 in
set_option maxHeartbeats 8000000 in
theorem nil22_walk (f : Int) (w : World) : Calls Try.prog 6 #[.int .i64 f] w fun e w' => e = .returned (.bool true) ∧ Below w.heap.size w w' := by
  have HSp : Hid (∀ V, Calls Try.prog 8 #[] V fun e w' => e = .returned (.bool true) ∧ Below V.heap.size V w') := speaks22_any
  by_cases hf : f < 0 ∨ 1073741824 < f
  · have HF : Hid (Calls Try.prog 19 #[.pointer none, .int .i64 f] w (FNil 0 1 w)) := Force_bad none f hf w
    go_enter Try.func6, Try.ntmps6
    go_wp2_with fail
    refine Calls.mono HF.out ?_
    rintro e w1 ⟨a1, c1, rfl, hb1⟩
    obtain ⟨W2, hW2⟩ : ∃ W2, W2 = w1.alloc (.cells #[.int .i64 0, .int .i64 0, .string ⟨#[]⟩, .slice a1 0 c1] 24) := ⟨_, rfl⟩
    have HW2 : Hid (W2 = w1.alloc (.cells #[.int .i64 0, .int .i64 0, .string ⟨#[]⟩, .slice a1 0 c1] 24)) := hW2
    have hb2 : Below w.heap.size w W2 := by rw [hW2]; exact hb1.trans (((Grew.refl w1).alloc _).below.mono hb1.size)
    clear hW2 hb1 HF
    go_upto_region 2 with fail
    rw [← HW2.out]
    clear HW2
    rcases hf with h | h
    · go_wp2_with fail
      refine Calls.mono (HSp.out _) ?_
      rintro e w3 ⟨rfl, hg3⟩
      have hb3 : Below w.heap.size w w3 := hb2.trans (hg3.mono hb2.size)
      clear hg3
      go_wp2_with fail
      go_ret
      exact ⟨rfl, hb3⟩
    · have h0 : ¬ f < 0 := by omega
      go_wp2_with fail
      refine Calls.mono (HSp.out _) ?_
      rintro e w3 ⟨rfl, hg3⟩
      have hb3 : Below w.heap.size w w3 := hb2.trans (hg3.mono hb2.size)
      clear hg3
      go_wp2_with fail
      go_ret
      exact ⟨rfl, hb3⟩
  · obtain ⟨g, rfl⟩ : ∃ g : Nat, f = (g : Int) := ⟨f.toNat, by omega⟩
    have hg : g ≤ 1073741824 := by omega
    have HF : Hid (Calls Try.prog 19 #[.pointer none, .int .i64 (g : Int)] w (FNil g 0 w)) := Force_nil g hg w
    have HL : Hid (∀ V, Calls Try.prog 23 #[.nilIface] V fun e w' => e = .returned (.pointer (some ⟨V.heap.size, 0, none⟩)) ∧ w' = V.alloc (.cells #[.nilIface, .int .i64 0, .int .i64 0, .int .i64 0, .string ⟨#[]⟩, .slice none 0 0, .pointer none] 72)) := later_nil
    have HE : Hid (∀ (b : Nat) V, CB V b .nilIface 0 zeroT (.slice none 0 0) none → Calls Try.prog 19 #[.pointer (some ⟨b, 0, none⟩), .int .i64 (g : Int)] V (FNil g 0 V)) := fun b V h => Force_empty b g hg V h
    have HA : Hid (∀ V, Calls Try.prog 10 #[.pointer none, .int .i64 3, .int .i64 (g : Int)] V fun e w' => e = .returned (.tuple #[.int .i64 (g : Int), .int .i64 0]) ∧ Below V.heap.size V w') := fun V => ahead_nil g hg V
    have HD : Hid (∀ V, Calls Try.prog 18 #[.pointer none] V fun e w' => e = .returned (.bool true) ∧ Below V.heap.size V w') := forced_nil
    have HK : Hid (∀ V, Calls Try.prog 12 #[.pointer none] V fun e w' => e = .returned (.int .i64 0) ∧ Below V.heap.size V w') := known_nil
    have h0 : ¬ (g : Int) < 0 := by omega
    have h1 : ¬ (1073741824 : Int) < (g : Int) := by omega
    have e9 : ((g : Int) == (g : Int)) = true := by simp
    clear hf hg
    go_enter Try.func6, Try.ntmps6
    go_wp2_with fail
    refine Calls.mono HF.out ?_
    rintro e w1 ⟨a1, c1, rfl, hb1⟩
    obtain ⟨W2, hW2⟩ : ∃ W2, W2 = w1.alloc (.cells #[.int .i64 0, .int .i64 0, .string ⟨#[]⟩, .slice a1 0 c1] 24) := ⟨_, rfl⟩
    have HW2 : Hid (W2 = w1.alloc (.cells #[.int .i64 0, .int .i64 0, .string ⟨#[]⟩, .slice a1 0 c1] 24)) := hW2
    have hb2 : Below w.heap.size w W2 := by rw [hW2]; exact hb1.trans (((Grew.refl w1).alloc _).below.mono hb1.size)
    clear hW2 hb1 HF
    go_upto_region 2 with fail
    rw [← HW2.out]
    clear HW2
    go_wp2_with fail
    refine Calls.mono (HL.out _) ?_
    rintro e w3 ⟨rfl, hw3⟩
    have hcb : CB w3 W2.heap.size .nilIface 0 zeroT (.slice none 0 0) none := by rw [hw3]; exact cb_alloc W2 72 .nilIface 0 zeroT (.slice none 0 0) none
    have hb3 : Below w.heap.size w w3 := by rw [hw3]; exact hb2.trans (((Grew.refl W2).alloc _).below.mono hb2.size)
    have HE3 : Hid _ := HE.out _ _ hcb
    clear hw3 hcb hb2 HE HL
    go_wp2_with fail
    refine Calls.mono HE3.out ?_
    rintro e w4 ⟨a4, c4, rfl, hg4⟩
    obtain ⟨W5, hW5⟩ : ∃ W5, W5 = w4.alloc (.cells #[.int .i64 0, .int .i64 0, .string ⟨#[]⟩, .slice a4 0 c4] 24) := ⟨_, rfl⟩
    have HW5 : Hid (W5 = w4.alloc (.cells #[.int .i64 0, .int .i64 0, .string ⟨#[]⟩, .slice a4 0 c4] 24)) := hW5
    have hb4 : Below w.heap.size w w4 := hb3.trans (hg4.mono hb3.size)
    have hb5 : Below w.heap.size w W5 := by rw [hW5]; exact hb4.trans (((Grew.refl w4).alloc _).below.mono hb4.size)
    clear hW5 hb3 hg4 hb4 HE3
    go_upto_region 5 with fail
    rw [← HW5.out]
    clear HW5
    go_wp2_with fail
    refine Calls.mono (HA.out _) ?_
    rintro e w6 ⟨rfl, hg6⟩
    have hb6 : Below w.heap.size w w6 := hb5.trans (hg6.mono hb5.size)
    clear hg6 hb5 HA
    go_wp2_with fail
    refine Calls.mono (HD.out _) ?_
    rintro e w7 ⟨rfl, hg7⟩
    have hb7 : Below w.heap.size w w7 := hb6.trans (hg7.mono hb6.size)
    clear hg7 hb6 HD
    go_wp2_with fail
    refine Calls.mono (HK.out _) ?_
    rintro e w8 ⟨rfl, hg8⟩
    have hb8 : Below w.heap.size w w8 := hb7.trans (hg8.mono hb7.size)
    clear hg8 hb7 HK
    go_wp2_with fail
    refine Calls.mono (HSp.out _) ?_
    rintro e w9 ⟨rfl, hg9⟩
    have hb9 : Below w.heap.size w w9 := hb8.trans (hg9.mono hb8.size)
    clear hg9
    go_wp2_with fail
    go_ret
    exact ⟨rfl, hb9⟩

end Go.Proofs.Ytmmppmioackiaab

