/-
  The contracts of the document's Fit, In, Same and Place; the walk of OrderPlaces.
-/
import Derived.Test.YtacnfmamjbmhcabGreatAgainP
import Derived.Test.YtacnfmamjbmhcabGreatVals
import Derived.Test.YtacnfmamjbmhcabGreatRunesP
import Derived.Test.YtacnfmamjbmhcabGreatUniq
import Derived.Test.YtacnfmamjbmhcabGreatROrd
namespace Go.Proofs.YtacnfmamjbmhcabGreat
open Go.RowKit Go.Shelf

/-- A number as a value's tree. -/
def numT (n : Int) : VT := ⟨2, n, ⟨#[]⟩, []⟩
def numP (n : Int) : VT × Value := (numT n, .slice none 0 0)

theorem right_num (n : Int) : rightV 0 (numT n) = true := by
  simp [rightV, fw, rpV, ownV, okNum, okText, okItems, numT]

theorem nums_cells (zs : List Int) : zs.flatMap cellsInt = (zs.map numP).flatMap encP := by
  induction zs with
  | nil => rfl
  | cons z zs ih => rw [List.flatMap_cons, List.map_cons, List.flatMap_cons, ih]; rfl

theorem nums_lies {w : World} {b c : Nat} (zs : List Int) (h : RowAt w b 0 (zs.map numP)) (hl : zs.length ≤ 1000) (hc : zs.length ≤ c) : Lies 1 w (zs.map numT) (.slice (some ⟨b, 0, none⟩) zs.length c) := by
  have := lies_of_row (d := 0) (c := c) h (fun p hp => by
    obtain ⟨z, _, rfl⟩ := List.mem_map.1 hp
    exact ⟨⟨rfl, none, 0, rfl⟩, by show 0 ≤ 9223372036854775807; omega⟩) (by simp; omega) (by simpa using hc)
  simpa [List.map_map, Function.comp_def, numP] using this

theorem nums_err (zs : List Int) (h : zs.length ≤ 1000) : listErr 0 (zs.map numT) = 0 := by
  unfold listErr
  rw [if_neg (by simp; omega), if_pos (by
    rw [List.all_eq_true]
    intro x hx
    obtain ⟨z, _, rfl⟩ := List.mem_map.1 hx
    exact right_num z)]

set_option maxHeartbeats 1000000 in
/-- Numbers as values. -/
theorem nums_any (zs : List Int) (b cap : Nat) (w : World) (h0 : zs ≠ []) (hz : zs.length ≤ 1000) (hc : ∀ (i : Nat) (h : i < zs.length), w.cell? ⟨b, 0 + i, none⟩ = some (.int .i64 (zs[i]'h))) :
    Calls Tryz.prog 29 #[.slice (some ⟨b, 0, none⟩) zs.length cap] w fun e w' => ∃ g c, e = .returned (.slice (some ⟨g, 0, none⟩) zs.length c) ∧ Lies 1 w' (zs.map numT) (.slice (some ⟨g, 0, none⟩) zs.length c) ∧ Below w.heap.size w w' := by
  refine (ints_any b zs cap w hz hc).mono ?_
  rintro e w1 ⟨v, rfl, hown, hb⟩
  rw [nums_cells] at hown
  obtain ⟨g, c, rfl, _, hcp, _, hrow, _⟩ := own_row (ps := zs.map numP) (by simpa using hown) (by simpa using h0)
  refine ⟨g, c, by simp, nums_lies zs hrow hz (by simpa using hcp), hb⟩

theorem srt_four : srtV 5 ([-2, 1, -1, 0].map numT) = [0, -1, 1, -2].map numT := by kernel_rfl
theorem ahead_two : aheadN 0 ([1, 3].map numT) (numT 2) = 1 := by kernel_rfl
theorem found_two : foundB 0 ([1, 3].map numT) (numT 2) = false := by kernel_rfl
theorem up_two : upB (ordV 0) ([1, 3].map numT) = true := by kernel_rfl

theorem look_four : lookE 0 5 ([-2, 1, -1, 0].map numT) = 0 := by unfold lookE; rw [if_neg (by omega)]; exact nums_err _ (by simp)
theorem look_two : lookE 0 0 ([1, 3].map numT) = 0 := by unfold lookE; rw [if_neg (by omega)]; exact nums_err _ (by simp)
theorem placeE_two : placeE 0 0 ([1, 3].map numT) (numT 2) = 0 := by
  unfold placeE
  rw [if_neg (fun h => h look_two), if_pos (right_num 2)]
  exact if_pos up_two
theorem placeK_two : placeK 0 0 ([1, 3].map numT) (numT 2) = 1 := by
  unfold placeK
  rw [if_pos placeE_two]
  show ((aheadN 0 ([1, 3].map numT) (numT 2) : Nat) : Int) = 1
  rw [ahead_two]; rfl
theorem placeF_two : placeF 0 0 ([1, 3].map numT) (numT 2) = false := by
  unfold placeF
  rw [if_pos placeE_two]
  exact found_two

set_option maxHeartbeats 4000000 in
theorem speaks_any (w : World) : Calls Tryz.prog 14 #[] w fun e w' => e = .returned (.bool true) ∧ Below w.heap.size w w' := by
  go_enter Tryz.func14, Tryz.ntmps14
  go_wp2_with fail
  refine (nums_any [-2, 1, -1, 0] w.heap.size 4 _ (by simp) (by simp) ?_).mono ?_
  · intro i hi
    match i, hi with
    | 0, _ => simp
    | 1, _ => simp
    | 2, _ => simp
    | 3, _ => simp
  rintro e w1 ⟨g1, c1, rfl, hL1, hb⟩
  have hb1 : Below w.heap.size w w1 := ((Grew.refl w).alloc _).below.trans (hb.mono (by simp))
  have HL1 : Hid (Lies 1 w1 ([-2, 1, -1, 0].map numT) (.slice (some ⟨g1, 0, none⟩) 4 c1)) := hL1
  clear hL1 hb
  go_wp2_with fail
  refine (sort6_any 0 5 ([-2, 1, -1, 0].map numT) _ _ HL1.out).mono ?_
  rintro e w2 (⟨h0, _⟩ | ⟨_, v2, rfl, hL2, hb⟩)
  · exact absurd look_four h0
  have hb2 : Below w.heap.size w w2 := hb1.trans (hb.mono hb1.size)
  have hL2' := LiesB.lies _ _ _ hL2
  rw [show (5 : Int).toNat = 5 from rfl, srt_four] at hL2'
  obtain ⟨a2, c2, rfl, _⟩ := Lies.slice hL2'
  have HL2 : Hid (Lies 17 w2 ([0, -1, 1, -2].map numT) (.slice a2 4 c2)) := hL2'
  have hb2' : Below w.heap.size w (w2.alloc (.cells #[.int .i64 1, .int .i64 3] 2)) := hb2.alloc hb2.size _
  have HL2' : Hid (Lies 17 (w2.alloc (.cells #[.int .i64 1, .int .i64 3] 2)) ([0, -1, 1, -2].map numT) (.slice a2 4 c2)) := Lies.keeps ((Grew.refl _).alloc _).below _ _ _ HL2.out
  clear hL2' hL2 hb HL1 hb1 HL2
  go_wp2_with fail
  refine (nums_any [1, 3] w2.heap.size 2 _ (by simp) (by simp) ?_).mono ?_
  · intro i hi
    match i, hi with
    | 0, _ => simp
    | 1, _ => simp
  rintro e w3 ⟨g3, c3, rfl, hL3, hb⟩
  have hb3 : Below w.heap.size w w3 := hb2'.trans (hb.mono hb2'.size)
  have HL3 : Hid (Lies 1 w3 ([1, 3].map numT) (.slice (some ⟨g3, 0, none⟩) 2 c3)) := hL3
  have HV3 : Hid (Lies 17 w3 ([0, -1, 1, -2].map numT) (.slice a2 4 c2)) := Lies.keeps hb _ _ _ HL2'.out
  clear hL3 hb HL2' hb2' hb2
  go_wp2_with fail
  refine (int_any 2 _).mono ?_
  rintro e w4 ⟨rfl, hg⟩
  have hb4 : Below w.heap.size w w4 := hb3.trans (hg.below.mono hb3.size)
  have HL4 : Hid (Lies 1 w4 ([1, 3].map numT) (.slice (some ⟨g3, 0, none⟩) 2 c3)) := Lies.keeps hg.below _ _ _ HL3.out
  have HV4 : Hid (Lies 17 w4 ([0, -1, 1, -2].map numT) (.slice a2 4 c2)) := Lies.keeps hg.below _ _ _ HV3.out
  clear hg HL3 HV3 hb3
  go_wp2_with fail
  refine (place_any 0 0 ([1, 3].map numT) _ (numT 2) (.slice none 0 0) _ HL4.out ⟨rfl, none, 0, rfl⟩ (by show 0 ≤ 9223372036854775807; omega)).mono ?_
  rw [placeK_two, placeF_two, placeE_two]
  rintro e w5 ⟨rfl, hb⟩
  have hb5 : Below w.heap.size w w5 := hb4.trans (hb.mono hb4.size)
  have HV5 : Hid (Lies 17 w5 ([0, -1, 1, -2].map numT) (.slice a2 4 c2)) := Lies.keeps hb _ _ _ HV4.out
  clear hb HL4 HV4 hb4
  have hb5' : Below w.heap.size w (w5.alloc (.cells #[.int .i64 0, .int .i64 (-1), .int .i64 1, .int .i64 (-2)] 2)) := hb5.alloc hb5.size _
  have HV5' : Hid (Lies 17 (w5.alloc (.cells #[.int .i64 0, .int .i64 (-1), .int .i64 1, .int .i64 (-2)] 2)) ([0, -1, 1, -2].map numT) (.slice a2 4 c2)) := Lies.keeps ((Grew.refl _).alloc _).below _ _ _ HV5.out
  go_wp2_with fail
  refine (nums_any [0, -1, 1, -2] w5.heap.size 4 _ (by simp) (by simp) ?_).mono ?_
  · intro i hi
    match i, hi with
    | 0, _ => simp
    | 1, _ => simp
    | 2, _ => simp
    | 3, _ => simp
  rintro e w6 ⟨g6, c6, rfl, hL6, hb⟩
  have hb6 : Below w.heap.size w w6 := hb5'.trans (hb.mono hb5'.size)
  have HL6 : Hid (Lies 17 w6 ([0, -1, 1, -2].map numT) (.slice (some ⟨g6, 0, none⟩) 4 c6)) := hL6.atLeast 17 (by omega)
  have HV6 : Hid (Lies 17 w6 ([0, -1, 1, -2].map numT) (.slice a2 4 c2)) := Lies.keeps hb _ _ _ HV5'.out
  clear hL6 hb HV5 HV5' hb5 hb5'
  go_wp2_with fail
  refine (values_one 16 ([0, -1, 1, -2].map numT) _ _ _ HV6.out HL6.out (by simp)).mono ?_
  rintro e w7 ⟨rfl, hb⟩
  have hb7 : Below w.heap.size w w7 := hb6.trans (hb.mono hb6.size)
  clear hb HL6 HV6 hb6
  go_wp2_with fail
  go_ret
  exact ⟨rfl, hb7⟩

end Go.Proofs.YtacnfmamjbmhcabGreat

namespace Go.Proofs.YtacnfmamjbmhcabGreat
open Go.RowKit

/-- Is there such an order? -/
def kindO (o : Int) : Bool := decide (0 ≤ o ∧ o ≤ 5)

theorem rkind6_any (o : Int) (w : World) : Calls Tryz.prog 43 #[.int .i64 o] w fun e w' => e = .returned (.bool (kindO o)) ∧ w' = w := by
  unfold kindO
  by_cases h1 : 0 ≤ o
  · by_cases h2 : o ≤ 5
    · rw [decide_eq_true (show 0 ≤ o ∧ o ≤ 5 from ⟨h1, h2⟩)]
      go_enter Tryz.func43, Tryz.ntmps43
      go_wp2
      go_ret
      exact ⟨rfl, rfl⟩
    · rw [decide_eq_false (show ¬ (0 ≤ o ∧ o ≤ 5) from fun h => h2 h.2)]
      go_enter Tryz.func43, Tryz.ntmps43
      go_wp2
      go_ret
      exact ⟨rfl, rfl⟩
  · rw [decide_eq_false (show ¬ (0 ≤ o ∧ o ≤ 5) from fun h => h1 h.1)]
    go_enter Tryz.func43, Tryz.ntmps43
    go_wp2
    go_ret
    exact ⟨rfl, rfl⟩

end Go.Proofs.YtacnfmamjbmhcabGreat

namespace Go.Proofs.YtacnfmamjbmhcabGreat
open Go.RowKit Go.Shelf

theorem rfit_any (d : Nat) (o : Int) (l : List VT) (u : Value) (w : World) (hu : Lies (d + 1) w l u) : Calls Tryz.prog 22 #[.int .i64 o, u] w fun e w' => e = .returned (.int .i64 (lookE d o l)) ∧ Below w.heap.size w w' := by
  obtain ⟨a, c, rfl, _⟩ := Lies.slice hu
  have HU : Hid (Lies (d + 1) w l (.slice a l.length c)) := hu
  clear hu
  by_cases ho : o < 0 ∨ 6 ≤ o
  · have hE : lookE d o l = 4 := by unfold lookE; rw [if_pos ho]
    rw [hE]
    have hk : kindO o = false := decide_eq_false (by omega)
    clear hE ho
    go_enter Tryz.func22, Tryz.ntmps22
    go_wp2_with fail
    refine (rkind6_any o _).mono ?_
    rintro e w' ⟨rfl, rfl⟩
    rw [hk]
    go_wp2_with fail
    go_ret
    exact ⟨rfl, Below.refl _ _⟩
  · have hE : lookE d o l = listErr d l := by unfold lookE; rw [if_neg ho]
    rw [hE]
    have hk : kindO o = true := decide_eq_true (by omega)
    clear hE ho
    go_enter Tryz.func22, Tryz.ntmps22
    go_wp2_with fail
    refine (rkind6_any o _).mono ?_
    rintro e w' ⟨rfl, rfl⟩
    rw [hk]
    go_wp2_with fail
    refine (listed_any d l _ _ HU.out).mono ?_
    rintro e w1 ⟨rfl, hb⟩
    go_wp2_with fail
    go_ret
    exact ⟨rfl, hb⟩

theorem rsame_any (t s : VT) (x y : Value) (w : World) (hx : Lies 16 w t.items x) (hy : Lies 16 w s.items y) : Calls Tryz.prog 35 #[.agg #[.int .i64 t.kind, .int .i64 t.num, .string t.text, x], .agg #[.int .i64 s.kind, .int .i64 s.num, .string s.text, y]] w fun e w' => e = .returned (.bool (cmpV 16 t s == 0)) ∧ Below w.heap.size w w' := by
  obtain ⟨ax, cx, rfl, _⟩ := Lies.slice hx
  obtain ⟨ay, cy, rfl, _⟩ := Lies.slice hy
  have HX : Hid (Lies 16 w t.items (.slice ax t.items.length cx)) := hx
  have HY : Hid (Lies 16 w s.items (.slice ay s.items.length cy)) := hy
  clear hx hy
  go_enter Tryz.func35, Tryz.ntmps35
  go_wp2_with fail
  refine (ref_any 16 t s _ _ _ (Lies.keeps (Grew.two _ _ _).below _ _ _ HX.out) (Lies.keeps (Grew.two _ _ _).below _ _ _ HY.out)).mono ?_
  rintro e w1 ⟨rfl, hb⟩
  have hb1 : Below w.heap.size w w1 := (Grew.two w _ _).below.trans (hb.mono (by simp; omega))
  clear hb
  go_wp2_with fail
  go_ret
  exact ⟨rfl, hb1⟩

theorem upB_of_adj {g : VT → VT → Int} {l : List VT} (h : ∀ i (hi : i + 1 < l.length), ¬ g l[i + 1] (l[i]'(by omega)) < 0) : upB g l = true := by
  have hall : ∀ n, n < l.length → dnB g l n = true := by
    intro n
    induction n with
    | zero => intro _; rfl
    | succ n ih =>
      intro hn
      rw [dnB_step _ _ _ hn, if_neg (h n hn)]
      exact ih (by omega)
  unfold upB
  by_cases h0 : l.length = 0
  · rw [h0]; rfl
  · exact hall _ (by omega)

theorem upB_not {g : VT → VT → Int} {l : List VT} (i : Nat) (hi : i + 1 < l.length) (h : g l[i + 1] (l[i]'(by omega)) < 0) : upB g l = false := by
  cases hu : upB g l
  · rfl
  · exact absurd h (dnB_true (by omega) hu i (by omega) hi)

set_option maxHeartbeats 4000000 in
theorem rin_any (q : Nat) (hq : q < 6) (l : List VT) (u : Value) (w : World) (hu : Lies 17 w l u) (hg : ∀ x ∈ l, rightV 16 x = true) (hlen : l.length ≤ 65536) :
    Calls Tryz.prog 25 #[.int .i64 q, u] w fun e w' => e = .returned (.bool (upB (ordV q) l)) ∧ Below w.heap.size w w' := by
  have Hc : Hid (∀ (t s : VT) (x y : Value) (W : World), Lies 16 W t.items x → Lies 16 W s.items y → rightV 16 t = true → rightV 16 s = true → Calls Tryz.prog 28 #[.int .i64 q, .agg #[.int .i64 t.kind, .int .i64 t.num, .string t.text, x], .agg #[.int .i64 s.kind, .int .i64 s.num, .string s.text, y]] W fun e w' => e = .returned (.int .i64 (ordV q t s)) ∧ Below W.heap.size W w') := fun t s x y W h1 h2 h3 h4 => rordV_any q hq t s x y W h1 h2 h3 h4
  obtain ⟨a, c, rfl, _, hr⟩ := hu
  have Hr : Hid _ := hr
  have HG : Hid (∀ x ∈ l, rightV 16 x = true) := hg
  have Hno : Hid (∀ i (hi : i + 1 < l.length), ordV q l[i + 1] (l[i]'(by omega)) < 0 → upB (ordV q) l = false) := fun i hi h => upB_not i hi h
  have Hyes : Hid ((∀ i (hi : i + 1 < l.length), ¬ ordV q l[i + 1] (l[i]'(by omega)) < 0) → upB (ordV q) l = true) := upB_of_adj
  generalize upB (ordV q) l = U at *
  generalize ordV q = g at *
  clear hr hg
  go_enter Tryz.func25, Tryz.ntmps25
  go_wp2_with fail
  go_loopg [5] l.length (fun z i wr => ∃ k : Nat, i = .int .i64 (k : Int) ∧ z = l.length + 1 - k ∧ 1 ≤ k ∧ k ≤ l.length + 1 ∧ Hid (∀ i (hi : i + 1 < l.length), i + 1 < k → ¬ g l[i + 1] (l[i]'(by omega)) < 0) ∧ Below w.heap.size w wr)
  case atStart => exact ⟨1, rfl, by omega, by omega, by omega, fun i hi h => by omega, Below.refl _ _⟩
  case round =>
    obtain ⟨k, rfl, hk, hk1, hk2, HD, hbw⟩ := hrel
    have Hk : Hid _ := hk
    clear hk
    by_cases hlt : k < l.length
    · obtain ⟨b, o, rfl, hall⟩ := Hr.out (by intro e; simp [e] at hlt)
      obtain ⟨j, hkj⟩ : ∃ j, k = j + 1 := ⟨k - 1, by omega⟩
      have hlj : j < l.length := by omega
      have Hst : Hid (g l[k] l[j] < 0 → U = false) := by subst hkj; exact Hno.out j hlt
      have Hsn : Hid (¬ g l[k] l[j] < 0 → ∀ i (hi : i + 1 < l.length), i + 1 < k + 1 → ¬ g l[i + 1] (l[i]'(by omega)) < 0) := fun h i hi h2 => by
        by_cases e : i + 1 < k
        · exact HD.out i hi e
        · have : i = j := by omega
          subst this
          subst hkj
          exact h
      have gp := HG.out l[k] (List.getElem_mem hlt)
      have gr := HG.out l[j] (List.getElem_mem hlj)
      obtain ⟨x, p0, p1, p2, p3, p4, _⟩ := hall k hlt
      obtain ⟨ax, cx, rfl, _⟩ := Lies.slice p4
      obtain ⟨y, r0, r1, r2, r3, r4, _⟩ := hall j hlj
      obtain ⟨ay, cy, rfl, _⟩ := Lies.slice r4
      clear hall HD
      have hjk : j < k := by omega
      have hwr : IntKind.i64.wrap ((k : Int) - 1) = (j : Int) := by rw [IntKind.wrap_i64]; omega
      have hki : (k : Int) < (l.length : Nat) := by omega
      have hji : (j : Int) < (l.length : Nat) := by omega
      generalize l[k] = t at *
      generalize l[j] = s at *
      clear hkj
      have HX : Hid (Lies 16 w t.items (.slice ax t.items.length cx) ∧ rightV 16 t = true) := ⟨p4, gp⟩
      have HY : Hid (Lies 16 w s.items (.slice ay s.items.length cy) ∧ rightV 16 s = true) := ⟨r4, gr⟩
      clear p4 r4 gp gr
      have p0 := cell_keeps hbw p0; have p1 := cell_keeps hbw p1; have p2 := cell_keeps hbw p2; have p3 := cell_keeps hbw p3; have r0 := cell_keeps hbw r0; have r1 := cell_keeps hbw r1; have r2 := cell_keeps hbw r2; have r3 := cell_keeps hbw r3
      have hwl := hbw.size
      go_wp2_with fail
      go_region_held3 (fun w' => w'.cell? ⟨b, o + k * 4, none⟩ = some (.int .i64 t.kind) ∧ w'.cell? ⟨b, o + k * 4 + 1, none⟩ = some (.int .i64 t.num) ∧ w'.cell? ⟨b, o + k * 4 + 2, none⟩ = some (.string t.text) ∧ w'.cell? ⟨b, o + k * 4 + 3, none⟩ = some (.slice ax t.items.length cx) ∧ w'.cell? ⟨b, o + j * 4, none⟩ = some (.int .i64 s.kind) ∧ w'.cell? ⟨b, o + j * 4 + 1, none⟩ = some (.int .i64 s.num) ∧ w'.cell? ⟨b, o + j * 4 + 2, none⟩ = some (.string s.text) ∧ w'.cell? ⟨b, o + j * 4 + 3, none⟩ = some (.slice ay s.items.length cy)) (go_keep)
        (first | (go_at_call 28; refine (Hc.out t s _ _ _ (Lies.keeps hbw.drew _ _ _ HX.out.1) (Lies.keeps hbw.drew _ _ _ HY.out.1) HX.out.2 HY.out.2).mono ?_; rintro e w1 ⟨rfl, hg1⟩; have hb1' : Below wr.heap.size wr w1 := (Below.refl _ _).drew.trans hg1; have hb1 : Below w.heap.size w w1 := hbw.trans (hb1'.mono hwl); clear hg1; have p0 := cell_keeps hb1' p0; have p1 := cell_keeps hb1' p1; have p2 := cell_keeps hb1' p2; have p3 := cell_keeps hb1' p3; have r0 := cell_keeps hb1' r0; have r1 := cell_keeps hb1' r1; have r2 := cell_keeps hb1' r2; have r3 := cell_keeps hb1' r3))
      clear p0 p1 p2 p3 r0 r1 r2 r3 hb1'
      generalize g t s = Z at *
      by_cases hz : Z < 0
      · have hfin : Hid (U = false) := Hst.out hz
        clear Hst Hsn
        go_wp2_with fail
        go_ret
        exact ⟨by rw [hfin.out]; rfl, hb1⟩
      · have HD2 : Hid _ := Hsn.out (by omega)
        clear Hst Hsn
        go_wp2_with fail
        go_roundg (l.length + 1 - (k + 1))
        case measure => have := Hk.out; omega
        case rel => exact ⟨k + 1, by go_num, rfl, by omega, by omega, fun i hi h => by have := HD2.out i hi h; omega, hb1⟩
    · have hfin : Hid (U = true) := Hyes.out fun i hi => by have := HD.out i hi (by omega); omega
      clear HD Hyes Hno
      have hki : ¬ (k : Int) < (l.length : Nat) := by omega
      go_wp2_with fail
      go_ret
      exact ⟨by rw [hfin.out]; rfl, hbw⟩

theorem ahead_eq {q : Nat} {l : List VT} {t : VT} {k : Nat} (hk : k ≤ l.length) (h1 : ∀ j (hj : j < l.length), j < k → ordV q l[j] t < 0) (h2 : ∀ (hj : k < l.length), ¬ ordV q l[k] t < 0) : aheadN q l t = k := by
  by_cases c1 : aheadN q l t < k
  · have hK : aheadN q l t < l.length := by omega
    have h3 := take_ge (fun x => decide (ordV q x t < 0)) l hK
    have h4 : ¬ ordV q (l[aheadN q l t]'hK) t < 0 := of_decide_eq_false h3
    exact absurd (h1 _ hK c1) h4
  · by_cases c2 : k < aheadN q l t
    · have hK : k < l.length := by have := aheadN_le q l t; omega
      exact absurd (ahead_lt q l t k hK c2) (h2 hK)
    · omega

end Go.Proofs.YtacnfmamjbmhcabGreat

