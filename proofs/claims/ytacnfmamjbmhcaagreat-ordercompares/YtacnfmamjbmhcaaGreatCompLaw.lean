/-
  The contract of the document's Compare, and the walk of OrderCompares.
-/
import Derived.Test.YtacnfmamjbmhcaaGreatPlace
import Derived.Test.YtacnfmamjbmhcaaGreatVals
import Derived.Test.YtacnfmamjbmhcaaGreatRunesP
import Derived.Test.YtacnfmamjbmhcaaGreatUniq
import Derived.Test.YtacnfmamjbmhcaaGreatROrd
namespace Go.Proofs.YtacnfmamjbmhcaaGreat
open Go.RowKit Go.Shelf

/-- A number as a value's tree. -/
def numT (n : Int) : VT := ⟨2, n, ⟨#[]⟩, []⟩
def numP (n : Int) : VT × Value := (numT n, .slice none 0 0)

theorem right_num (n : Int) : rightV 0 (numT n) = true := by
  simp [rightV, fw, rpV, ownV, okNum, okText, okItems, numT]

theorem nums_cells (zs : List Int) : zs.flatMap cellsInt = (zs.map numP).flatMap encP := by
  induction zs with
  | nil => rfl
  | cons z zs ih => rw [List.flatMap_cons, List.map_cons, List.flatMap_cons, ih]; rfl

theorem nums_lies {w : World} {b c : Nat} (zs : List Int) (h : RowAt w b 0 (zs.map numP)) (hl : zs.length ≤ 1000) (hc : zs.length ≤ c) : Lies 1 w (zs.map numT) (.slice (some ⟨b, 0, none⟩) zs.length c) := by
  have := lies_of_row (d := 0) (c := c) h (fun p hp => by
    obtain ⟨z, _, rfl⟩ := List.mem_map.1 hp
    exact ⟨⟨rfl, none, 0, rfl⟩, by show 0 ≤ 9223372036854775807; omega⟩) (by simp; omega) (by simpa using hc)
  simpa [List.map_map, Function.comp_def, numP] using this

theorem nums_err (zs : List Int) (h : zs.length ≤ 1000) : listErr 0 (zs.map numT) = 0 := by
  unfold listErr
  rw [if_neg (by simp; omega), if_pos (by
    rw [List.all_eq_true]
    intro x hx
    obtain ⟨z, _, rfl⟩ := List.mem_map.1 hx
    exact right_num z)]

set_option maxHeartbeats 1000000 in
/-- Numbers as values. -/
theorem nums_any (zs : List Int) (b cap : Nat) (w : World) (h0 : zs ≠ []) (hz : zs.length ≤ 1000) (hc : ∀ (i : Nat) (h : i < zs.length), w.cell? ⟨b, 0 + i, none⟩ = some (.int .i64 (zs[i]'h))) :
    Calls Tryz.prog 15 #[.slice (some ⟨b, 0, none⟩) zs.length cap] w fun e w' => ∃ g c, e = .returned (.slice (some ⟨g, 0, none⟩) zs.length c) ∧ Lies 1 w' (zs.map numT) (.slice (some ⟨g, 0, none⟩) zs.length c) ∧ Below w.heap.size w w' := by
  refine (ints_any b zs cap w hz hc).mono ?_
  rintro e w1 ⟨v, rfl, hown, hb⟩
  rw [nums_cells] at hown
  obtain ⟨g, c, rfl, _, hcp, _, hrow, _⟩ := own_row (ps := zs.map numP) (by simpa using hown) (by simpa using h0)
  refine ⟨g, c, by simp, nums_lies zs hrow hz (by simpa using hcp), hb⟩

theorem srt_four : srtV 5 ([-2, 1, -1, 0].map numT) = [0, -1, 1, -2].map numT := by kernel_rfl
theorem ahead_two : aheadN 0 ([1, 3].map numT) (numT 2) = 1 := by kernel_rfl
theorem found_two : foundB 0 ([1, 3].map numT) (numT 2) = false := by kernel_rfl
theorem up_two : upB (ordV 0) ([1, 3].map numT) = true := by kernel_rfl

theorem look_four : lookE 0 5 ([-2, 1, -1, 0].map numT) = 0 := by unfold lookE; rw [if_neg (by omega)]; exact nums_err _ (by simp)
theorem look_two : lookE 0 0 ([1, 3].map numT) = 0 := by unfold lookE; rw [if_neg (by omega)]; exact nums_err _ (by simp)
theorem placeE_two : placeE 0 0 ([1, 3].map numT) (numT 2) = 0 := by
  unfold placeE
  rw [if_neg (fun h => h look_two), if_pos (right_num 2)]
  exact if_pos up_two
theorem placeK_two : placeK 0 0 ([1, 3].map numT) (numT 2) = 1 := by
  unfold placeK
  rw [if_pos placeE_two]
  show ((aheadN 0 ([1, 3].map numT) (numT 2) : Nat) : Int) = 1
  rw [ahead_two]; rfl
theorem placeF_two : placeF 0 0 ([1, 3].map numT) (numT 2) = false := by
  unfold placeF
  rw [if_pos placeE_two]
  exact found_two

set_option maxHeartbeats 4000000 in
theorem speaks_any (w : World) : Calls Tryz.prog 6 #[] w fun e w' => e = .returned (.bool true) ∧ Below w.heap.size w w' := by
  go_enter Tryz.func6, Tryz.ntmps6
  go_wp2_with fail
  refine (nums_any [-2, 1, -1, 0] w.heap.size 4 _ (by simp) (by simp) ?_).mono ?_
  · intro i hi
    match i, hi with
    | 0, _ => simp
    | 1, _ => simp
    | 2, _ => simp
    | 3, _ => simp
  rintro e w1 ⟨g1, c1, rfl, hL1, hb⟩
  have hb1 : Below w.heap.size w w1 := ((Grew.refl w).alloc _).below.trans (hb.mono (by simp))
  have HL1 : Hid (Lies 1 w1 ([-2, 1, -1, 0].map numT) (.slice (some ⟨g1, 0, none⟩) 4 c1)) := hL1
  clear hL1 hb
  go_wp2_with fail
  refine (sort6_any 0 5 ([-2, 1, -1, 0].map numT) _ _ HL1.out).mono ?_
  rintro e w2 (⟨h0, _⟩ | ⟨_, v2, rfl, hL2, hb⟩)
  · exact absurd look_four h0
  have hb2 : Below w.heap.size w w2 := hb1.trans (hb.mono hb1.size)
  have hL2' := LiesB.lies _ _ _ hL2
  rw [show (5 : Int).toNat = 5 from rfl, srt_four] at hL2'
  obtain ⟨a2, c2, rfl, _⟩ := Lies.slice hL2'
  have HL2 : Hid (Lies 17 w2 ([0, -1, 1, -2].map numT) (.slice a2 4 c2)) := hL2'
  have hb2' : Below w.heap.size w (w2.alloc (.cells #[.int .i64 1, .int .i64 3] 2)) := hb2.alloc hb2.size _
  have HL2' : Hid (Lies 17 (w2.alloc (.cells #[.int .i64 1, .int .i64 3] 2)) ([0, -1, 1, -2].map numT) (.slice a2 4 c2)) := Lies.keeps ((Grew.refl _).alloc _).below _ _ _ HL2.out
  clear hL2' hL2 hb HL1 hb1 HL2
  go_wp2_with fail
  refine (nums_any [1, 3] w2.heap.size 2 _ (by simp) (by simp) ?_).mono ?_
  · intro i hi
    match i, hi with
    | 0, _ => simp
    | 1, _ => simp
  rintro e w3 ⟨g3, c3, rfl, hL3, hb⟩
  have hb3 : Below w.heap.size w w3 := hb2'.trans (hb.mono hb2'.size)
  have HL3 : Hid (Lies 1 w3 ([1, 3].map numT) (.slice (some ⟨g3, 0, none⟩) 2 c3)) := hL3
  have HV3 : Hid (Lies 17 w3 ([0, -1, 1, -2].map numT) (.slice a2 4 c2)) := Lies.keeps hb _ _ _ HL2'.out
  clear hL3 hb HL2' hb2' hb2
  go_wp2_with fail
  refine (int_any 2 _).mono ?_
  rintro e w4 ⟨rfl, hg⟩
  have hb4 : Below w.heap.size w w4 := hb3.trans (hg.below.mono hb3.size)
  have HL4 : Hid (Lies 1 w4 ([1, 3].map numT) (.slice (some ⟨g3, 0, none⟩) 2 c3)) := Lies.keeps hg.below _ _ _ HL3.out
  have HV4 : Hid (Lies 17 w4 ([0, -1, 1, -2].map numT) (.slice a2 4 c2)) := Lies.keeps hg.below _ _ _ HV3.out
  clear hg HL3 HV3 hb3
  go_wp2_with fail
  refine (place_any 0 0 ([1, 3].map numT) _ (numT 2) (.slice none 0 0) _ HL4.out ⟨rfl, none, 0, rfl⟩ (by show 0 ≤ 9223372036854775807; omega)).mono ?_
  rw [placeK_two, placeF_two, placeE_two]
  rintro e w5 ⟨rfl, hb⟩
  have hb5 : Below w.heap.size w w5 := hb4.trans (hb.mono hb4.size)
  have HV5 : Hid (Lies 17 w5 ([0, -1, 1, -2].map numT) (.slice a2 4 c2)) := Lies.keeps hb _ _ _ HV4.out
  clear hb HL4 HV4 hb4
  have hb5' : Below w.heap.size w (w5.alloc (.cells #[.int .i64 0, .int .i64 (-1), .int .i64 1, .int .i64 (-2)] 2)) := hb5.alloc hb5.size _
  have HV5' : Hid (Lies 17 (w5.alloc (.cells #[.int .i64 0, .int .i64 (-1), .int .i64 1, .int .i64 (-2)] 2)) ([0, -1, 1, -2].map numT) (.slice a2 4 c2)) := Lies.keeps ((Grew.refl _).alloc _).below _ _ _ HV5.out
  go_wp2_with fail
  refine (nums_any [0, -1, 1, -2] w5.heap.size 4 _ (by simp) (by simp) ?_).mono ?_
  · intro i hi
    match i, hi with
    | 0, _ => simp
    | 1, _ => simp
    | 2, _ => simp
    | 3, _ => simp
  rintro e w6 ⟨g6, c6, rfl, hL6, hb⟩
  have hb6 : Below w.heap.size w w6 := hb5'.trans (hb.mono hb5'.size)
  have HL6 : Hid (Lies 17 w6 ([0, -1, 1, -2].map numT) (.slice (some ⟨g6, 0, none⟩) 4 c6)) := hL6.atLeast 17 (by omega)
  have HV6 : Hid (Lies 17 w6 ([0, -1, 1, -2].map numT) (.slice a2 4 c2)) := Lies.keeps hb _ _ _ HV5'.out
  clear hL6 hb HV5 HV5' hb5 hb5'
  go_wp2_with fail
  refine (values_one 16 ([0, -1, 1, -2].map numT) _ _ _ HV6.out HL6.out (by simp)).mono ?_
  rintro e w7 ⟨rfl, hb⟩
  have hb7 : Below w.heap.size w w7 := hb6.trans (hb.mono hb6.size)
  clear hb HL6 HV6 hb6
  go_wp2_with fail
  go_ret
  exact ⟨rfl, hb7⟩

end Go.Proofs.YtacnfmamjbmhcaaGreat

namespace Go.Proofs.YtacnfmamjbmhcaaGreat
open Go.RowKit

/-- Is there such an order? -/
def kindO (o : Int) : Bool := decide (0 ≤ o ∧ o ≤ 5)

theorem rkind6_any (o : Int) (w : World) : Calls Tryz.prog 11 #[.int .i64 o] w fun e w' => e = .returned (.bool (kindO o)) ∧ w' = w := by
  unfold kindO
  by_cases h1 : 0 ≤ o
  · by_cases h2 : o ≤ 5
    · rw [decide_eq_true (show 0 ≤ o ∧ o ≤ 5 from ⟨h1, h2⟩)]
      go_enter Tryz.func11, Tryz.ntmps11
      go_wp2
      go_ret
      exact ⟨rfl, rfl⟩
    · rw [decide_eq_false (show ¬ (0 ≤ o ∧ o ≤ 5) from fun h => h2 h.2)]
      go_enter Tryz.func11, Tryz.ntmps11
      go_wp2
      go_ret
      exact ⟨rfl, rfl⟩
  · rw [decide_eq_false (show ¬ (0 ≤ o ∧ o ≤ 5) from fun h => h1 h.1)]
    go_enter Tryz.func11, Tryz.ntmps11
    go_wp2
    go_ret
    exact ⟨rfl, rfl⟩

set_option maxHeartbeats 2000000 in
theorem rcompare6_any (d : Nat) (o : Int) (t s : VT) (x y : Value) (w : World) (hx : Lies d w t.items x) (hy : Lies d w s.items y) :
    Calls Tryz.prog 5 #[.int .i64 o, .agg #[.int .i64 t.kind, .int .i64 t.num, .string t.text, x], .agg #[.int .i64 s.kind, .int .i64 s.num, .string s.text, y]] w fun e w' => e = .returned (.tuple #[.int .i64 (ordR d o t s), .int .i64 (ordE d o t s)]) ∧ Below w.heap.size w w' := by
  obtain ⟨ax, cx, rfl, _⟩ := Lies.slice hx
  obtain ⟨ay, cy, rfl, _⟩ := Lies.slice hy
  have HX : Hid (Lies d w t.items (.slice ax t.items.length cx)) := hx
  have HY : Hid (Lies d w s.items (.slice ay s.items.length cy)) := hy
  clear hx hy
  have HBx : Hid (Boxed (twoW w t s (.slice ax t.items.length cx) (.slice ay s.items.length cy)) w.heap.size t.kind t.num t.text (.slice ax t.items.length cx) ∧ Boxed (twoW w t s (.slice ax t.items.length cx) (.slice ay s.items.length cy)) (w.heap.size + 1) s.kind s.num s.text (.slice ay s.items.length cy)) := two_boxes w t s _ _
  have hb0 : Below w.heap.size w (twoW w t s (.slice ax t.items.length cx) (.slice ay s.items.length cy)) := (Grew.two w _ _).below
  by_cases ho : o < 0 ∨ 6 ≤ o
  · have hE : ordE d o t s = 4 := by unfold ordE; rw [if_pos ho]
    have hR : ordR d o t s = 0 := by unfold ordR; rw [if_neg (by omega)]
    rw [hE, hR]
    have hk : kindO o = false := decide_eq_false (by omega)
    clear hE hR ho HX HY
    go_enter Tryz.func5, Tryz.ntmps5
    go_wp2_with fail
    refine (rkind6_any o _).mono ?_
    rintro e w' ⟨rfl, rfl⟩
    rw [hk]
    go_wp2_with fail
    go_ret2
    exact ⟨rfl, hb0⟩
  · obtain ⟨q, rfl⟩ : ∃ q : Nat, o = q := ⟨o.toNat, by omega⟩
    have hq : q < 6 := by omega
    have hk : kindO q = true := decide_eq_true (by omega)
    have He : Hid (ordE d q t s = if rightV d t = true ∧ rightV d s = true then 0 else 3) := by
      show _ = _
      unfold ordE; rw [if_neg (by omega)]
    have Hr0 : Hid (ordE d q t s = 0 → ordR d q t s = ordV q t s) := fun h => by unfold ordR; rw [if_pos h]; simp
    have Hr1 : Hid (ordE d q t s = 3 → ordR d q t s = 0) := fun h => by unfold ordR; rw [if_neg (by omega)]
    generalize ordE d q t s = E at *
    generalize ordR d q t s = R at *
    have Hc : Hid (∀ W : World, Lies 16 W t.items (.slice ax t.items.length cx) → Lies 16 W s.items (.slice ay s.items.length cy) → rightV 16 t = true → rightV 16 s = true → Calls Tryz.prog 13 #[.int .i64 q, .agg #[.int .i64 t.kind, .int .i64 t.num, .string t.text, .slice ax t.items.length cx], .agg #[.int .i64 s.kind, .int .i64 s.num, .string s.text, .slice ay s.items.length cy]] W fun e w' => e = .returned (.int .i64 (ordV q t s)) ∧ Below W.heap.size W w') := fun W h1 h2 h3 h4 => rordV_any q hq t s _ _ W h1 h2 h3 h4
    generalize ordV q t s = Z at *
    clear ho
    go_enter Tryz.func5, Tryz.ntmps5
    go_wp2_with fail
    refine (rkind6_any q _).mono ?_
    rintro e w' ⟨rfl, rfl⟩
    rw [hk]
    go_wp2_with fail
    refine (right_any d t _ _ (Lies.keeps hb0 _ _ _ HX.out)).mono ?_
    rintro e w1 ⟨rfl, hb⟩
    have hb1 : Below w.heap.size w w1 := hb0.trans (hb.mono hb0.size)
    have HB1 : Hid (Boxed w1 w.heap.size t.kind t.num t.text (.slice ax t.items.length cx) ∧ Boxed w1 (w.heap.size + 1) s.kind s.num s.text (.slice ay s.items.length cy)) := ⟨HBx.out.1.keeps hb, HBx.out.2.keeps hb⟩
    clear hb HBx hb0 hk
    obtain ⟨⟨x0, x1, x2, x3⟩, ⟨y0, y1, y2, y3⟩⟩ := HB1.out
    cases hrt : rightV d t
    · have hE : E = 3 := by rw [He.out, hrt]; simp
      have hR : R = 0 := Hr1.out hE
      subst hE hR
      clear He Hr0 Hr1
      go_wp2_with fail
      go_ret2
      exact ⟨rfl, hb1⟩
    · go_wp2_with fail
      refine (right_any d s _ _ (Lies.keeps hb1 _ _ _ HY.out)).mono ?_
      rintro e w2 ⟨rfl, hb⟩
      have hb2 : Below w.heap.size w w2 := hb1.trans (hb.mono hb1.size)
      have HB2 : Hid (Boxed w2 w.heap.size t.kind t.num t.text (.slice ax t.items.length cx) ∧ Boxed w2 (w.heap.size + 1) s.kind s.num s.text (.slice ay s.items.length cy)) := ⟨HB1.out.1.keeps hb, HB1.out.2.keeps hb⟩
      clear hb HB1 hb1 x0 x1 x2 x3 y0 y1 y2 y3
      obtain ⟨⟨x0, x1, x2, x3⟩, ⟨y0, y1, y2, y3⟩⟩ := HB2.out
      cases hrs : rightV d s
      · have hE : E = 3 := by rw [He.out, hrs]; simp
        have hR : R = 0 := Hr1.out hE
        subst hE hR
        clear He Hr0 Hr1
        go_wp2_with fail
        go_ret2
        exact ⟨rfl, hb2⟩
      · have hE : E = 0 := by rw [He.out, hrt, hrs]; simp
        have hR : R = Z := Hr0.out hE
        subst hE hR
        have h1 := canon HX.out hrt
        have h2 := canon HY.out hrs
        have H1 : Hid (Lies 16 w t.items (.slice ax t.items.length cx) ∧ rightV 16 t = true) := h1
        have H2 : Hid (Lies 16 w s.items (.slice ay s.items.length cy) ∧ rightV 16 s = true) := h2
        clear h1 h2 He Hr0 Hr1 hrt hrs HX HY
        go_wp2_with fail
        refine (Hc.out _ (Lies.keeps hb2 _ _ _ H1.out.1) (Lies.keeps hb2 _ _ _ H2.out.1) H1.out.2 H2.out.2).mono ?_
        rintro e w3 ⟨rfl, hb⟩
        have hb3 : Below w.heap.size w w3 := hb2.trans (hb.mono hb2.size)
        clear hb x0 x1 x2 x3 y0 y1 y2 y3
        go_wp2_with fail
        go_ret2
        exact ⟨rfl, hb3⟩

set_option maxHeartbeats 2000000 in
theorem compLaw_core (o : Int) (t s : VT) (ax ay : Option Addr) (lx cx ly cy : Nat) (w : World) (R E : Int)
    (H1 : Hid (∀ W, Below w.heap.size w W → Calls Tryz.prog 4 #[.int .i64 o, .agg #[.int .i64 t.kind, .int .i64 t.num, .string t.text, .slice ax lx cx], .agg #[.int .i64 s.kind, .int .i64 s.num, .string s.text, .slice ay ly cy]] W fun e W' => e = .returned (.tuple #[.int .i64 R, .int .i64 E]) ∧ Below W.heap.size W W'))
    (H2 : Hid (∀ W, Below w.heap.size w W → Calls Tryz.prog 5 #[.int .i64 o, .agg #[.int .i64 t.kind, .int .i64 t.num, .string t.text, .slice ax lx cx], .agg #[.int .i64 s.kind, .int .i64 s.num, .string s.text, .slice ay ly cy]] W fun e W' => e = .returned (.tuple #[.int .i64 R, .int .i64 E]) ∧ Below W.heap.size W W')) :
    Calls Tryz.prog 3 #[.int .i64 o, .agg #[.int .i64 t.kind, .int .i64 t.num, .string t.text, .slice ax lx cx], .agg #[.int .i64 s.kind, .int .i64 s.num, .string s.text, .slice ay ly cy]] w fun e w' => e = .returned (.bool true) ∧ Below w.heap.size w w' := by
  have hsp : Hid (∀ w, Calls Tryz.prog 6 #[] w fun e w' => e = .returned (.bool true) ∧ Below w.heap.size w w') := speaks_any
  have HBx : Hid (Boxed (twoW w t s (.slice ax lx cx) (.slice ay ly cy)) w.heap.size t.kind t.num t.text (.slice ax lx cx) ∧ Boxed (twoW w t s (.slice ax lx cx) (.slice ay ly cy)) (w.heap.size + 1) s.kind s.num s.text (.slice ay ly cy)) := two_boxes w t s _ _
  have hb0 : Below w.heap.size w (twoW w t s (.slice ax lx cx) (.slice ay ly cy)) := (Grew.two w _ _).below
  go_enter Tryz.func3, Tryz.ntmps3
  go_wp2_with fail
  refine (H1.out _ hb0).mono ?_
  rintro e w1 ⟨rfl, hb⟩
  have hb1 : Below w.heap.size w w1 := hb0.trans (hb.mono hb0.size)
  obtain ⟨⟨x0, x1, x2, x3⟩, ⟨y0, y1, y2, y3⟩⟩ := (⟨HBx.out.1.keeps hb, HBx.out.2.keeps hb⟩ : Boxed w1 w.heap.size t.kind t.num t.text (.slice ax lx cx) ∧ Boxed w1 (w.heap.size + 1) s.kind s.num s.text (.slice ay ly cy))
  clear hb HBx hb0
  go_wp2_with fail
  refine (H2.out _ hb1).mono ?_
  rintro e w2 ⟨rfl, hb⟩
  have hb2 : Below w.heap.size w w2 := hb1.trans (hb.mono hb1.size)
  clear hb x0 x1 x2 x3 y0 y1 y2 y3
  go_wp2_with fail
  refine (hsp.out _).mono ?_
  rintro e w3 ⟨rfl, hb⟩
  have hb3 : Below w.heap.size w w3 := hb2.trans (hb.mono hb2.size)
  clear hb
  go_wp2_with fail
  go_ret
  exact ⟨rfl, hb3⟩

theorem compLaw_walk (o : Int) (n m : Nat) (t s : VT) (x y : Value) (w : World) (hx : Lies n w t.items x) (hy : Lies m w s.items y) (ht : t.text.size ≤ 9223372036854775807) (hs : s.text.size ≤ 9223372036854775807) :
    Calls Tryz.prog 3 #[.int .i64 o, .agg #[.int .i64 t.kind, .int .i64 t.num, .string t.text, x], .agg #[.int .i64 s.kind, .int .i64 s.num, .string s.text, y]] w fun e w' => e = .returned (.bool true) ∧ Below w.heap.size w w' := by
  have hx2 := hx.atLeast (max n m) (by omega)
  have hy2 := hy.atLeast (max n m) (by omega)
  obtain ⟨ax, cx, rfl, _⟩ := Lies.slice hx
  obtain ⟨ay, cy, rfl, _⟩ := Lies.slice hy
  exact compLaw_core o t s ax ay _ cx _ cy w _ _ (fun W hW => compareO_any (max n m) o t s _ _ W (Lies.keeps hW _ _ _ hx2) (Lies.keeps hW _ _ _ hy2) ht hs) (fun W hW => rcompare6_any (max n m) o t s _ _ W (Lies.keeps hW _ _ _ hx2) (Lies.keeps hW _ _ _ hy2))

end Go.Proofs.YtacnfmamjbmhcaaGreat

