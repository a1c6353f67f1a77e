/-
  The contract of speaks: it answers true.
-/
import Derived.Test.YtlmnkjnplaebgaaGreatMerge6
import Derived.Test.YtlmnkjnplaebgaaGreatVals
import Derived.Test.YtlmnkjnplaebgaaGreatInts
import Derived.Test.YtlmnkjnplaebgaaGreatOwnRow
namespace Go.Proofs.YtlmnkjnplaebgaaGreat
open Go.RowKit Go.Shelf

/-- A number as a value's tree. -/
def numT (n : Int) : VT := ⟨2, n, ⟨#[]⟩, []⟩
def numP (n : Int) : VT × Value := (numT n, .slice none 0 0)

theorem right_num (n : Int) : rightV 0 (numT n) = true := by
  simp [rightV, fw, rpV, ownV, okNum, okText, okItems, numT]

theorem nums_cells (zs : List Int) : zs.flatMap cellsInt = (zs.map numP).flatMap encP := by
  induction zs with
  | nil => rfl
  | cons z zs ih => rw [List.flatMap_cons, List.map_cons, List.flatMap_cons, ih]; rfl

theorem nums_lies {w : World} {b c : Nat} (zs : List Int) (h : RowAt w b 0 (zs.map numP)) (hl : zs.length ≤ 1000) (hc : zs.length ≤ c) : Lies 1 w (zs.map numT) (.slice (some ⟨b, 0, none⟩) zs.length c) := by
  have := lies_of_row (d := 0) (c := c) h (fun p hp => by
    obtain ⟨z, _, rfl⟩ := List.mem_map.1 hp
    exact ⟨⟨rfl, none, 0, rfl⟩, by show 0 ≤ 9223372036854775807; omega⟩) (by simp; omega) (by simpa using hc)
  simpa [List.map_map, Function.comp_def, numP] using this

theorem nums_err (zs : List Int) (h : zs.length ≤ 1000) : listErr 0 (zs.map numT) = 0 := by
  unfold listErr
  rw [if_neg (by simp; omega), if_pos (by
    rw [List.all_eq_true]
    intro x hx
    obtain ⟨z, _, rfl⟩ := List.mem_map.1 hx
    exact right_num z)]

set_option maxHeartbeats 1000000 in
/-- Numbers as values. -/
theorem nums_any (zs : List Int) (b cap : Nat) (w : World) (h0 : zs ≠ []) (hz : zs.length ≤ 1000) (hc : ∀ (i : Nat) (h : i < zs.length), w.cell? ⟨b, 0 + i, none⟩ = some (.int .i64 (zs[i]'h))) :
    Calls Tryz.prog 29 #[.slice (some ⟨b, 0, none⟩) zs.length cap] w fun e w' => ∃ g c, e = .returned (.slice (some ⟨g, 0, none⟩) zs.length c) ∧ Lies 1 w' (zs.map numT) (.slice (some ⟨g, 0, none⟩) zs.length c) ∧ Below w.heap.size w w' := by
  refine (ints_any b zs cap w hz hc).mono ?_
  rintro e w1 ⟨v, rfl, hown, hb⟩
  rw [nums_cells] at hown
  obtain ⟨g, c, rfl, _, hcp, _, hrow, _⟩ := own_row (ps := zs.map numP) (by simpa using hown) (by simpa using h0)
  refine ⟨g, c, by simp, nums_lies zs hrow hz (by simpa using hcp), hb⟩

theorem srt_four : srtV 5 ([-2, 1, -1, 0].map numT) = [0, -1, 1, -2].map numT := by kernel_rfl
theorem ahead_two : aheadN 0 ([1, 3].map numT) (numT 2) = 1 := by kernel_rfl
theorem found_two : foundB 0 ([1, 3].map numT) (numT 2) = false := by kernel_rfl
theorem up_two : upB (ordV 0) ([1, 3].map numT) = true := by kernel_rfl

theorem look_four : lookE 0 5 ([-2, 1, -1, 0].map numT) = 0 := by unfold lookE; rw [if_neg (by omega)]; exact nums_err _ (by simp)
theorem look_two : lookE 0 0 ([1, 3].map numT) = 0 := by unfold lookE; rw [if_neg (by omega)]; exact nums_err _ (by simp)
theorem placeE_two : placeE 0 0 ([1, 3].map numT) (numT 2) = 0 := by
  unfold placeE
  rw [if_neg (fun h => h look_two), if_pos (right_num 2)]
  exact if_pos up_two
theorem placeK_two : placeK 0 0 ([1, 3].map numT) (numT 2) = 1 := by
  unfold placeK
  rw [if_pos placeE_two]
  show ((aheadN 0 ([1, 3].map numT) (numT 2) : Nat) : Int) = 1
  rw [ahead_two]; rfl
theorem placeF_two : placeF 0 0 ([1, 3].map numT) (numT 2) = false := by
  unfold placeF
  rw [if_pos placeE_two]
  exact found_two

set_option maxHeartbeats 4000000 in
theorem speaks_any (w : World) : Calls Tryz.prog 9 #[] w fun e w' => e = .returned (.bool true) ∧ Below w.heap.size w w' := by
  go_enter Tryz.func9, Tryz.ntmps9
  go_wp2_with fail
  refine (nums_any [-2, 1, -1, 0] w.heap.size 4 _ (by simp) (by simp) ?_).mono ?_
  · intro i hi
    match i, hi with
    | 0, _ => simp
    | 1, _ => simp
    | 2, _ => simp
    | 3, _ => simp
  rintro e w1 ⟨g1, c1, rfl, hL1, hb⟩
  have hb1 : Below w.heap.size w w1 := ((Grew.refl w).alloc _).below.trans (hb.mono (by simp))
  have HL1 : Hid (Lies 1 w1 ([-2, 1, -1, 0].map numT) (.slice (some ⟨g1, 0, none⟩) 4 c1)) := hL1
  clear hL1 hb
  go_wp2_with fail
  refine (sort6_any 0 5 ([-2, 1, -1, 0].map numT) _ _ HL1.out).mono ?_
  rintro e w2 (⟨h0, _⟩ | ⟨_, v2, rfl, hL2, hb⟩)
  · exact absurd look_four h0
  have hb2 : Below w.heap.size w w2 := hb1.trans (hb.mono hb1.size)
  have hL2' := LiesB.lies _ _ _ hL2
  rw [show (5 : Int).toNat = 5 from rfl, srt_four] at hL2'
  obtain ⟨a2, c2, rfl, _⟩ := Lies.slice hL2'
  have HL2 : Hid (Lies 17 w2 ([0, -1, 1, -2].map numT) (.slice a2 4 c2)) := hL2'
  have hb2' : Below w.heap.size w (w2.alloc (.cells #[.int .i64 1, .int .i64 3] 2)) := hb2.alloc hb2.size _
  have HL2' : Hid (Lies 17 (w2.alloc (.cells #[.int .i64 1, .int .i64 3] 2)) ([0, -1, 1, -2].map numT) (.slice a2 4 c2)) := Lies.keeps ((Grew.refl _).alloc _).below _ _ _ HL2.out
  clear hL2' hL2 hb HL1 hb1 HL2
  go_wp2_with fail
  refine (nums_any [1, 3] w2.heap.size 2 _ (by simp) (by simp) ?_).mono ?_
  · intro i hi
    match i, hi with
    | 0, _ => simp
    | 1, _ => simp
  rintro e w3 ⟨g3, c3, rfl, hL3, hb⟩
  have hb3 : Below w.heap.size w w3 := hb2'.trans (hb.mono hb2'.size)
  have HL3 : Hid (Lies 1 w3 ([1, 3].map numT) (.slice (some ⟨g3, 0, none⟩) 2 c3)) := hL3
  have HV3 : Hid (Lies 17 w3 ([0, -1, 1, -2].map numT) (.slice a2 4 c2)) := Lies.keeps hb _ _ _ HL2'.out
  clear hL3 hb HL2' hb2' hb2
  go_wp2_with fail
  refine (int_any 2 _).mono ?_
  rintro e w4 ⟨rfl, hg⟩
  have hb4 : Below w.heap.size w w4 := hb3.trans (hg.below.mono hb3.size)
  have HL4 : Hid (Lies 1 w4 ([1, 3].map numT) (.slice (some ⟨g3, 0, none⟩) 2 c3)) := Lies.keeps hg.below _ _ _ HL3.out
  have HV4 : Hid (Lies 17 w4 ([0, -1, 1, -2].map numT) (.slice a2 4 c2)) := Lies.keeps hg.below _ _ _ HV3.out
  clear hg HL3 HV3 hb3
  go_wp2_with fail
  refine (place_any 0 0 ([1, 3].map numT) _ (numT 2) (.slice none 0 0) _ HL4.out ⟨rfl, none, 0, rfl⟩ (by show 0 ≤ 9223372036854775807; omega)).mono ?_
  rw [placeK_two, placeF_two, placeE_two]
  rintro e w5 ⟨rfl, hb⟩
  have hb5 : Below w.heap.size w w5 := hb4.trans (hb.mono hb4.size)
  have HV5 : Hid (Lies 17 w5 ([0, -1, 1, -2].map numT) (.slice a2 4 c2)) := Lies.keeps hb _ _ _ HV4.out
  clear hb HL4 HV4 hb4
  have hb5' : Below w.heap.size w (w5.alloc (.cells #[.int .i64 0, .int .i64 (-1), .int .i64 1, .int .i64 (-2)] 2)) := hb5.alloc hb5.size _
  have HV5' : Hid (Lies 17 (w5.alloc (.cells #[.int .i64 0, .int .i64 (-1), .int .i64 1, .int .i64 (-2)] 2)) ([0, -1, 1, -2].map numT) (.slice a2 4 c2)) := Lies.keeps ((Grew.refl _).alloc _).below _ _ _ HV5.out
  go_wp2_with fail
  refine (nums_any [0, -1, 1, -2] w5.heap.size 4 _ (by simp) (by simp) ?_).mono ?_
  · intro i hi
    match i, hi with
    | 0, _ => simp
    | 1, _ => simp
    | 2, _ => simp
    | 3, _ => simp
  rintro e w6 ⟨g6, c6, rfl, hL6, hb⟩
  have hb6 : Below w.heap.size w w6 := hb5'.trans (hb.mono hb5'.size)
  have HL6 : Hid (Lies 17 w6 ([0, -1, 1, -2].map numT) (.slice (some ⟨g6, 0, none⟩) 4 c6)) := hL6.atLeast 17 (by omega)
  have HV6 : Hid (Lies 17 w6 ([0, -1, 1, -2].map numT) (.slice a2 4 c2)) := Lies.keeps hb _ _ _ HV5'.out
  clear hL6 hb HV5 HV5' hb5 hb5'
  go_wp2_with fail
  refine (values_one 16 ([0, -1, 1, -2].map numT) _ _ _ HV6.out HL6.out (by simp)).mono ?_
  rintro e w7 ⟨rfl, hb⟩
  have hb7 : Below w.heap.size w w7 := hb6.trans (hb.mono hb6.size)
  clear hb HL6 HV6 hb6
  go_wp2_with fail
  go_ret
  exact ⟨rfl, hb7⟩

end Go.Proofs.YtlmnkjnplaebgaaGreat
