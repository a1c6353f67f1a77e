/-
  PairingSorts: the statement's walk.
-/
import Derived.Test.YtffjdpbobkdmfaaGreatPopQ
import Derived.Deep.RegionWith
import Derived.Test.YtffjdpbobkdmfaaGreatVals
import Derived.Test.YtffjdpbobkdmfaaGreatRunesP
import Derived.Test.YtffjdpbobkdmfaaGreatUniq
namespace Go.Proofs.YtffjdpbobkdmfaaGreat
open Go.RowKit Go.Shelf

/-- A number as a value's tree. -/
def num19 (n : Int) : VT := ⟨2, n, ⟨#[]⟩, []⟩
def pair19 (n : Int) : VT × Value := (num19 n, .slice none 0 0)

theorem right_num19 (n : Int) : rightV 0 (num19 n) = true := by
  simp [rightV, fw, rpV, ownV, okNum, okText, okItems, num19]

theorem nums_cells19 (zs : List Int) : zs.flatMap cellsInt = (zs.map pair19).flatMap encP := by
  induction zs with
  | nil => rfl
  | cons z zs ih => rw [List.flatMap_cons, List.map_cons, List.flatMap_cons, ih]; rfl

theorem nums_lies19 {w : World} {b c : Nat} (zs : List Int) (h : RowAt w b 0 (zs.map pair19)) (hl : zs.length ≤ 1000) (hc : zs.length ≤ c) : Lies 1 w (zs.map num19) (.slice (some ⟨b, 0, none⟩) zs.length c) := by
  have := lies_of_row (d := 0) (c := c) h (fun p hp => by
    obtain ⟨z, _, rfl⟩ := List.mem_map.1 hp
    exact ⟨⟨rfl, none, 0, rfl⟩, by show 0 ≤ 9223372036854775807; omega⟩) (by simp; omega) (by simpa using hc)
  simpa [List.map_map, Function.comp_def, pair19] using this

theorem nums_err19 (zs : List Int) (h : zs.length ≤ 1000) : listErr 0 (zs.map num19) = 0 := by
  unfold listErr
  rw [if_neg (by simp; omega), if_pos (by
    rw [List.all_eq_true]
    intro x hx
    obtain ⟨z, _, rfl⟩ := List.mem_map.1 hx
    exact right_num19 z)]

set_option maxHeartbeats 1000000 in
/-- Numbers as values. -/
theorem nums_any19 (zs : List Int) (b cap : Nat) (w : World) (h0 : zs ≠ []) (hz : zs.length ≤ 1000) (hc : ∀ (i : Nat) (h : i < zs.length), w.cell? ⟨b, 0 + i, none⟩ = some (.int .i64 (zs[i]'h))) :
    Calls Tryz.prog 28 #[.slice (some ⟨b, 0, none⟩) zs.length cap] w fun e w' => ∃ g c, e = .returned (.slice (some ⟨g, 0, none⟩) zs.length c) ∧ Lies 1 w' (zs.map num19) (.slice (some ⟨g, 0, none⟩) zs.length c) ∧ Below w.heap.size w w' := by
  refine (ints_any b zs cap w hz hc).mono ?_
  rintro e w1 ⟨v, rfl, hown, hb⟩
  rw [nums_cells19] at hown
  obtain ⟨g, c, rfl, _, hcp, _, hrow, _⟩ := own_row (ps := zs.map pair19) (by simpa using hown) (by simpa using h0)
  refine ⟨g, c, by simp, nums_lies19 zs hrow hz (by simpa using hcp), hb⟩

theorem srt_four19 : srtV 0 ([3, 1, 2, 1].map num19) = [1, 1, 2, 3].map num19 := by kernel_rfl

theorem look_four19 : lookE 0 0 ([3, 1, 2, 1].map num19) = 0 := by unfold lookE; rw [if_neg (by omega)]; exact nums_err19 _ (by simp)

set_option maxRecDepth 100000 in
set_option maxHeartbeats 4000000 in
theorem speaks19_any (w : World) : Calls Tryz.prog 8 #[] w fun e w' => e = .returned (.bool true) ∧ Below w.heap.size w w' := by
  go_enter Tryz.func8, Tryz.ntmps8
  go_wp2_with fail
  refine (nums_any19 [3, 1, 2, 1] w.heap.size 4 _ (by simp) (by simp) ?_).mono ?_
  · intro i hi
    match i, hi with
    | 0, _ => simp
    | 1, _ => simp
    | 2, _ => simp
    | 3, _ => simp
  rintro e w1 ⟨g1, c1, rfl, hL1, hb⟩
  have hb1 : Below w.heap.size w w1 := ((Grew.refl w).alloc _).below.trans (hb.mono (by simp))
  have HL1 : Hid (Lies 1 w1 ([3, 1, 2, 1].map num19) (.slice (some ⟨g1, 0, none⟩) 4 c1)) := hL1
  clear hL1 hb
  go_wp2_with fail
  refine (of_any19 (fun _ => True) 0 0 ([3, 1, 2, 1].map num19) _ _ HL1.out (fun _ _ => trivial)).mono ?_
  rintro e w2 ⟨hb, ⟨h0, _⟩ | ⟨_, p, rfl, hq⟩⟩
  · exact absurd look_four19 h0
  have hb2 : Below w.heap.size w w2 := hb1.trans (hb.mono hb1.size)
  obtain ⟨b, rfl, hc⟩ := hq
  have HQ : Hid (QC (fun _ => True) w2 0 ([3, 1, 2, 1].map num19) b) := hc
  clear hc hb HL1 hb1
  have HMin : Hid (Calls Tryz.prog 29 #[.pointer (some ⟨b, 0, none⟩)] w2 fun e w' => ∃ a c, e = .returned (.tuple #[.agg #[.int .i64 2, .int .i64 1, .string ⟨#[]⟩, .slice a 0 c], .int .i64 0]) ∧ Below w2.heap.size w2 w') := by
    refine Calls.mono (min_any19 (.inr ⟨b, rfl, HQ.out⟩)) ?_
    rintro e w' ⟨hb, ⟨h0, _⟩ | ⟨x, m, v, h0, rfl, hL, _⟩⟩
    · cases h0
    · rw [srt_four19] at h0
      injection h0 with h1 _
      subst h1
      obtain ⟨a, c, rfl, _⟩ := LiesB.slice hL
      exact ⟨a, c, rfl, hb⟩
  go_wp2_with fail
  refine Calls.mono HMin.out ?_
  rintro e w3 ⟨a3, c3, rfl, hb⟩
  have hg3 : Below w2.heap.size w2 (w3.alloc (.cells #[.int .i64 2, .int .i64 1, .string ⟨#[]⟩, .slice a3 0 c3] 37)) := hb.alloc hb.size _
  have hb3 : Below w.heap.size w (w3.alloc (.cells #[.int .i64 2, .int .i64 1, .string ⟨#[]⟩, .slice a3 0 c3] 37)) := hb2.trans (hg3.mono hb2.size)
  have HQ3 : Hid (QC (fun _ => True) (w3.alloc (.cells #[.int .i64 2, .int .i64 1, .string ⟨#[]⟩, .slice a3 0 c3] 37)) 0 ([3, 1, 2, 1].map num19) b) := HQ.out.keeps hg3
  clear HMin HQ hb hg3 hb2
  go_wp2_with fail
  refine Calls.mono (len_any19 (.inr ⟨b, rfl, HQ3.out⟩)) ?_
  rintro e w4 ⟨rfl, hg⟩
  have hb4 : Below w.heap.size w w4 := hb3.trans (hg.mono hb3.size)
  have HQ4 : Hid (QC (fun _ => True) w4 0 ([3, 1, 2, 1].map num19) b) := HQ3.out.keeps hg
  clear HQ3 hg hb3
  go_wp2_with fail
  refine Calls.mono (sorted_any19 (.inr ⟨b, rfl, HQ4.out⟩)) ?_
  rintro e w5 ⟨v5, rfl, hL5, hg⟩
  have hb5 : Below w.heap.size w w5 := hb4.trans (hg.mono hb4.size)
  have hL5' := LiesB.lies _ _ _ hL5
  rw [srt_four19] at hL5'
  obtain ⟨a5, c5, rfl, _⟩ := Lies.slice hL5'
  have hb5' : Below w.heap.size w (w5.alloc (.cells #[.int .i64 1, .int .i64 1, .int .i64 2, .int .i64 3] 2)) := hb5.alloc hb5.size _
  have HL5 : Hid (Lies 17 (w5.alloc (.cells #[.int .i64 1, .int .i64 1, .int .i64 2, .int .i64 3] 2)) ([1, 1, 2, 3].map num19) (.slice a5 4 c5)) := Lies.keeps ((Grew.refl _).alloc _).below _ _ _ hL5'
  clear HQ4 hg hL5 hL5' hb4 hb5
  go_wp2_with fail
  refine (nums_any19 [1, 1, 2, 3] w5.heap.size 4 _ (by simp) (by simp) ?_).mono ?_
  · intro i hi
    match i, hi with
    | 0, _ => simp
    | 1, _ => simp
    | 2, _ => simp
    | 3, _ => simp
  rintro e w6 ⟨g6, c6, rfl, hL6, hb⟩
  have hb6 : Below w.heap.size w w6 := hb5'.trans (hb.mono hb5'.size)
  have HL6 : Hid (Lies 17 w6 ([1, 1, 2, 3].map num19) (.slice (some ⟨g6, 0, none⟩) 4 c6)) := hL6.atLeast 17 (by omega)
  have HV6 : Hid (Lies 17 w6 ([1, 1, 2, 3].map num19) (.slice a5 4 c5)) := Lies.keeps hb _ _ _ HL5.out
  clear hL6 hb HL5 hb5'
  go_wp2_with fail
  refine (values_one 16 ([1, 1, 2, 3].map num19) _ _ _ HV6.out HL6.out (by simp)).mono ?_
  rintro e w7 ⟨rfl, hb⟩
  have hb7 : Below w.heap.size w w7 := hb6.trans (hb.mono hb6.size)
  clear hb HL6 HV6 hb6
  go_wp2_with fail
  go_ret
  exact ⟨rfl, hb7⟩

end Go.Proofs.YtffjdpbobkdmfaaGreat

namespace Go.Proofs.YtffjdpbobkdmfaaGreat
open Go.RowKit Go.Shelf

theorem value_self19 (x : VT) (u v : Value) (W : World) (h1 : Lies 16 W x.items u) (h2 : Lies 16 W x.items v) : Calls Tryz.prog 16 #[.agg #[.int .i64 x.kind, .int .i64 x.num, .string x.text, u], .agg #[.int .i64 x.kind, .int .i64 x.num, .string x.text, v]] W fun e W' => e = .returned (.bool true) ∧ Below W.heap.size W W' :=
  (same_any 16 x x _ _ W h1 h2).mono fun e W' h => ⟨by rw [h.1, sameV_self], h.2.below⟩

end Go.Proofs.YtffjdpbobkdmfaaGreat

