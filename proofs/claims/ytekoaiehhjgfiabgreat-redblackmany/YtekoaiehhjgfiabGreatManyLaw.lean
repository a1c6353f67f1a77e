/-
  RedblackMany.
-/
import Derived.Test.YtekoaiehhjgfiabGreatSpeaks14
import Derived.Test.YtekoaiehhjgfiabGreatAssoc
namespace Go.Proofs.YtekoaiehhjgfiabGreat
open Go.RowKit Go.Shelf

theorem num_right14 (n : Int) : rightV 0 (numV n) = true := by
  simp [rightV, fw, rpV, ownV, okNum, okText, okItems]
theorem zero_right0 : rightV 0 ⟨0, 0, ⟨#[]⟩, []⟩ = true := by kernel_rfl

theorem nil_slq (w : World) : SlQ 0 16 w [] (.slice none 0 0) := ⟨none, 0, rfl, by simp, by simp, (fun h => absurd rfl h), (fun p hp => by cases hp)⟩

/-- A new map. -/
theorem new_zero (w : World) : Calls Tryz.prog 23 #[.int .i64 0] w fun e w' => ∃ t b, e = .returned (.tuple #[.pointer (some ⟨b, 0, none⟩), .int .i64 0]) ∧ MC w' 0 t b ∧ t.items = [] ∧ Below w.heap.size w w' := by
  have HO : Hid (Calls Tryz.prog 7 #[.int .i64 0, .slice none 0 0] w fun e w' => ∃ t b, e = .returned (.tuple #[.pointer (some ⟨b, 0, none⟩), .int .i64 0]) ∧ MC w' 0 t b ∧ t.items = [] ∧ Below w.heap.size w w') := by
    refine Calls.mono (mof_14 16 0 [] _ w (nil_slq w)) ?_
    rintro e w' ⟨hb, ⟨hne, _⟩ | ⟨_, t, b, rfl, hm, hme⟩⟩
    · exact absurd (by kernel_rfl) hne
    · refine ⟨t, b, rfl, hm, ?_, hb⟩
      refine List.eq_nil_iff_forall_not_mem.2 fun y hy => ?_
      have h9 := (hme y).1 hy
      have e9 : (kyd (cmpQ 16) (([] : List PP).length + 1) []).map trT = [] := by kernel_rfl
      rw [e9] at h9
      cases h9
  go_enter Tryz.func23, Tryz.ntmps23
  go_wp2_with fail
  refine Calls.mono HO.out ?_
  rintro e w1 ⟨t, b, rfl, hm, hi, hb⟩
  have HE : Hid (MC w1 0 t b ∧ t.items = [] ∧ Below w.heap.size w w1) := ⟨hm, hi, hb⟩
  clear hm hi hb HO
  go_wp2_with fail
  go_ret2
  exact ⟨t, b, rfl, HE.out⟩

/-- One more key, and one less. -/
theorem assoc_num (z : Int) (t : RT PT) (b n : Nat) (hn : n < 65536) (w : World) (h : MC w 0 t b) (hs : t.size ≤ n) : Calls Tryz.prog 19 #[.pointer (some ⟨b, 0, none⟩), .agg #[.int .i64 2, .int .i64 z, .string ⟨#[]⟩, .slice none 0 0], .agg #[.int .i64 0, .int .i64 0, .string ⟨#[]⟩, .slice none 0 0]] w fun e w' => ∃ t' b', e = .returned (.tuple #[.pointer (some ⟨b', 0, none⟩), .int .i64 0]) ∧ MC w' 0 t' b' ∧ t'.size ≤ n + 1 ∧ Below w.heap.size w w' := by
  refine Calls.mono (assoc_14 0 b 0 t (numV z) ⟨0, 0, ⟨#[]⟩, []⟩ (.slice none 0 0) (.slice none 0 0) w h (zero_lies 0 w) (show (0 : Nat) ≤ 9223372036854775807 by decide) (zero_lies 0 w) (show (0 : Nat) ≤ 9223372036854775807 by decide)) ?_
  have e0 : assocE 0 0 (numV z) ⟨0, 0, ⟨#[]⟩, []⟩ t = 0 := by
    unfold assocE
    rw [if_neg (by rw [num_right14]; simp), if_neg (by rw [zero_right0]; simp), if_neg (by omega)]
  rw [e0]
  rintro e w' ⟨hb, ⟨hne, _⟩ | ⟨_, t', b', rfl, hm, hi⟩⟩
  · exact absurd rfl hne
  · refine ⟨t', b', rfl, hm, ?_, hb⟩
    have h9 := (with_len (atK 0 (numV z)) (numV z, ⟨0, 0, ⟨#[]⟩, []⟩) t (RT.Rises.falls (byK_cmp 0) h.rises (numV z, ⟨0, 0, ⟨#[]⟩, []⟩))).1
    rw [RT.size_items, hi, ← RT.size_items]
    omega

theorem dissoc_num (z : Int) (t : RT PT) (b : Nat) (w : World) (h : MC w 0 t b) : Calls Tryz.prog 20 #[.pointer (some ⟨b, 0, none⟩), .agg #[.int .i64 2, .int .i64 z, .string ⟨#[]⟩, .slice none 0 0]] w fun e w' => ∃ t' b', e = .returned (.tuple #[.pointer (some ⟨b', 0, none⟩), .int .i64 0]) ∧ MC w' 0 t' b' ∧ Below w.heap.size w w' := by
  refine Calls.mono (dissoc_14 0 b 0 t (numV z) (.slice none 0 0) w h (zero_lies 0 w) (show (0 : Nat) ≤ 9223372036854775807 by decide)) ?_
  rw [num_right14]
  rintro e w' ⟨hb, ⟨hne, _⟩ | ⟨_, t', b', rfl, hm, _⟩⟩
  · exact absurd rfl hne
  · exact ⟨t', b', rfl, hm, hb⟩

set_option maxRecDepth 100000 in
set_option maxHeartbeats 16000000 in
theorem many_walk (n s : Int) (w : World) : Calls Tryz.prog 5 #[.int .i64 n, .int .i64 s] w fun e w' => e = .returned (.bool true) ∧ Below w.heap.size w w' := by
  have HSp : Hid (∀ V, Calls Tryz.prog 9 #[] V fun e w' => e = .returned (.bool true) ∧ Below V.heap.size V w') := speaks14_any
  have HI : Hid (∀ n W, Calls Tryz.prog 24 #[.int .i64 n] W fun e w' => e = .returned (.agg #[.int .i64 2, .int .i64 n, .string ⟨#[]⟩, .slice none 0 0]) ∧ Below W.heap.size W w') := fun n W => Calls.mono (int_any n W) fun _ _ h => ⟨h.1, h.2.below⟩
  by_cases hout : n < 0 ∨ 1500 < n
  · go_enter Tryz.func5, Tryz.ntmps5
    rcases hout with h0 | h0
    · go_wp2_with fail
      refine Calls.mono (HSp.out _) ?_
      rintro e w1 ⟨rfl, hb⟩
      go_wp2_with fail
      go_ret
      exact ⟨rfl, hb⟩
    · have h1 : ¬ n < 0 := by omega
      go_wp2_with fail
      refine Calls.mono (HSp.out _) ?_
      rintro e w1 ⟨rfl, hb⟩
      go_wp2_with fail
      go_ret
      exact ⟨rfl, hb⟩
  · obtain ⟨N, rfl⟩ : ∃ N : Nat, n = N := ⟨n.toNat, by omega⟩
    have h0 : ¬ (N : Int) < 0 := by omega
    have h1 : ¬ 1500 < (N : Int) := by omega
    have hN : N ≤ 1500 := by omega
    have HNe : Hid _ := new_zero w
    clear hout
    go_enter Tryz.func5, Tryz.ntmps5
    go_wp2_with fail
    refine Calls.mono HNe.out ?_
    rintro e w1 ⟨t, b, rfl, hm, hi, hb1⟩
    have HM0 : Hid (MC w1 0 t b ∧ t.size ≤ 0) := ⟨hm, by rw [RT.size_items, hi]; simp⟩
    clear hm hi HNe
    go_wp2_with fail
    go_loopg [7, 5, 6] N (fun z vi vm ve wr => ∃ (i b : Nat) (t : RT PT), vi = .int .i64 (i : Int) ∧ vm = .pointer (some ⟨b, 0, none⟩) ∧ ve = .int .i64 0 ∧ i ≤ N ∧ z = N - i ∧ Hid (MC wr 0 t b ∧ t.size ≤ i) ∧ Hid (Below w.heap.size w wr))
    case atStart => exact ⟨0, b, t, rfl, rfl, rfl, Nat.zero_le _, rfl, HM0, hb1⟩
    case round =>
      obtain ⟨i, b2, t2, rfl, rfl, rfl, hiN, hz, HM, HB⟩ := hrel
      have Hz : Hid _ := hz
      clear hz HM0
      by_cases hlt : i < N
      · have hli : (i : Int) < (N : Nat) := by omega
        have HA : Hid (∀ x V, Below wr.heap.size wr V → Calls Tryz.prog 19 #[.pointer (some ⟨b2, 0, none⟩), .agg #[.int .i64 2, .int .i64 x, .string ⟨#[]⟩, .slice none 0 0], .agg #[.int .i64 0, .int .i64 0, .string ⟨#[]⟩, .slice none 0 0]] V fun e w' => ∃ t' b', e = .returned (.tuple #[.pointer (some ⟨b', 0, none⟩), .int .i64 0]) ∧ MC w' 0 t' b' ∧ t'.size ≤ i + 1 ∧ Below V.heap.size V w') := fun x V hV => assoc_num x t2 b2 i (by omega) V (HM.out.1.keeps hV) HM.out.2
        go_wp2_with fail
        refine Calls.mono (HI.out _ _) ?_
        rintro e w2 ⟨rfl, hg2⟩
        go_wp2_with fail
        refine Calls.mono (HA.out _ _ hg2) ?_
        rintro e w3 ⟨t3, b3, rfl, hm3, hs3, hg3⟩
        have hb3 : Below w.heap.size w w3 := (HB.out.trans (hg2.mono HB.out.size)).trans (hg3.mono (HB.out.trans (hg2.mono HB.out.size)).size)
        have HF : Hid _ := flat_14 hm3
        have HM3 : Hid (MC w3 0 t3 b3 ∧ t3.size ≤ i + 1) := ⟨hm3, hs3⟩
        clear hg2 hg3 hm3 hs3 HA HM
        go_wp2_with fail
        refine Calls.mono HF.out ?_
        rintro e w4 ⟨rfl, hg4⟩
        have HB4 : Hid (Below w.heap.size w w4) := hb3.trans (hg4.mono hb3.size)
        have HM4 : Hid (MC w4 0 t3 b3 ∧ t3.size ≤ i + 1) := ⟨HM3.out.1.keeps hg4, HM3.out.2⟩
        clear hg4 HM3 HF hb3
        go_wp2_with fail
        go_roundg (N - (i + 1))
        case measure => have := Hz.out; omega
        case rel => exact ⟨i + 1, b3, t3, by go_num, rfl, rfl, by omega, rfl, HM4, HB4⟩
      · have hli : ¬ (i : Int) < (N : Nat) := by omega
        obtain ⟨M, hM⟩ : ∃ M, M = N / 2 := ⟨_, rfl⟩
        have hdv : ((N : Nat) : Int) / 2 = (M : Nat) := by omega
        have hMle : M ≤ 1500 := by omega
        have HM1 : Hid (MC wr 0 t2 b2) := HM.out.1
        clear hM HM
        go_wp2_with fail
        go_loopg [8, 5, 6] (M + 1) (fun z vi vm ve wr => ∃ (i b : Nat) (t : RT PT), vi = .int .i64 (i : Int) ∧ vm = .pointer (some ⟨b, 0, none⟩) ∧ ve = .int .i64 0 ∧ i ≤ M ∧ z = M + 1 - i ∧ Hid (MC wr 0 t b) ∧ Hid (Below w.heap.size w wr))
        case atStart => exact ⟨0, b2, t2, rfl, rfl, rfl, Nat.zero_le _, rfl, HM1, HB⟩
        case round =>
          obtain ⟨i, b2, t2, rfl, rfl, rfl, hiM, hz, HM, HB⟩ := hrel
          have Hz2 : Hid _ := hz
          clear hz HM1
          by_cases hlt2 : i < M
          · have hli2 : (i : Int) < (M : Nat) := by omega
            have HA : Hid (∀ x V, Below wr.heap.size wr V → Calls Tryz.prog 20 #[.pointer (some ⟨b2, 0, none⟩), .agg #[.int .i64 2, .int .i64 x, .string ⟨#[]⟩, .slice none 0 0]] V fun e w' => ∃ t' b', e = .returned (.tuple #[.pointer (some ⟨b', 0, none⟩), .int .i64 0]) ∧ MC w' 0 t' b' ∧ Below V.heap.size V w') := fun x V hV => dissoc_num x t2 b2 V (HM.out.keeps hV)
            go_wp2_with fail
            refine Calls.mono (HI.out _ _) ?_
            rintro e w2 ⟨rfl, hg2⟩
            go_wp2_with fail
            refine Calls.mono (HA.out _ _ hg2) ?_
            rintro e w3 ⟨t3, b3, rfl, hm3, hg3⟩
            have hb3 : Below w.heap.size w w3 := (HB.out.trans (hg2.mono HB.out.size)).trans (hg3.mono (HB.out.trans (hg2.mono HB.out.size)).size)
            have HF : Hid _ := flat_14 hm3
            have HM3 : Hid (MC w3 0 t3 b3) := hm3
            clear hg2 hg3 hm3 HA HM
            go_wp2_with fail
            refine Calls.mono HF.out ?_
            rintro e w4 ⟨rfl, hg4⟩
            have HB4 : Hid (Below w.heap.size w w4) := hb3.trans (hg4.mono hb3.size)
            have HM4 : Hid (MC w4 0 t3 b3) := HM3.out.keeps hg4
            clear hg4 HM3 HF hb3
            go_wp2_with fail
            go_roundg (M + 1 - (i + 1))
            case measure => have := Hz2.out; omega
            case rel => exact ⟨i + 1, b3, t3, by go_num, rfl, rfl, by omega, rfl, HM4, HB4⟩
          · have hli2 : ¬ (i : Int) < (M : Nat) := by omega
            have HSv : Hid _ := HSp.out wr
            go_wp2_with fail
            refine Calls.mono HSv.out ?_
            rintro e w5 ⟨rfl, hg5⟩
            have hb5 : Below w.heap.size w w5 := HB.out.trans (hg5.mono HB.out.size)
            clear hg5
            go_wp2_with fail
            go_ret
            exact ⟨rfl, hb5⟩

end Go.Proofs.YtekoaiehhjgfiabGreat

