/-
  The contract of speaks: it answers true.
-/
import Derived.Test.YtgihglodekoddabSortV
import Derived.Test.YtgihglodekoddabComp
import Derived.Test.YtgihglodekoddabMade
import Derived.Test.YtgihglodekoddabOwnRow
import Derived.Test.YtgihglodekoddabList
import Derived.Test.YtgihglodekoddabUtf
import Derived.Test.YtgihglodekoddabEq
namespace Go.Proofs.Ytgihglodekoddab
open Go.RowKit

set_option maxHeartbeats 1000000 in
theorem sorted_some (d b o c : Nat) (ps : List (VT × Value)) (w : World) (hrow : RowAt w b o ps) (hs : ∀ p ∈ ps, Sound d w p) (hne : ps ≠ []) (hlen : ps.length ≤ 65536) :
    Calls Try.prog 15 #[.slice (some ⟨b, o, none⟩) ps.length c] w fun e w' => ∃ g cap qs, e = .returned (.slice (some ⟨g, 0, none⟩) ps.length cap) ∧ qs.Perm ps ∧ Rises d qs ∧ RowAt w' g 0 qs ∧ (∀ k, k < ps.length * 4 → w'.frozen? ⟨g, k, none⟩ = false) ∧ w.heap.size ≤ g ∧ ps.length ≤ cap ∧ g < w'.heap.size ∧ Below w.heap.size w w' := by
  have HR : Hid (RowAt w b o ps) := hrow
  have HS : Hid (∀ p ∈ ps, Sound d w p) := hs
  have HN : Hid (ps ≠ []) := hne
  clear hrow hs hne
  go_enter Try.func15, Try.ntmps15
  go_wp2_with fail
  refine (clone_some b o c ps d _ HR.out HS.out hlen).mono ?_
  rintro e w1 ⟨v, rfl, hown, hb1⟩
  obtain ⟨g, cap, rfl, hg, hcap, hlt, hrow1, hfz1⟩ := own_row hown HN.out
  have Hrow1 : Hid (RowAt w1 g 0 ps) := hrow1
  have Hfz1 : Hid _ := hfz1
  clear hown hrow1 hfz1
  go_wp2_with fail
  refine (sort_any d g cap w _ ps HS.out hb1 hg hlt Hrow1.out (fun k _ => Hfz1.out k) hlen).mono ?_
  rintro e w2 ⟨rfl, qs, hp, hri, hrow2, hfz2, hb2, hlt2⟩
  have Hall : Hid (qs.Perm ps ∧ Rises d qs ∧ RowAt w2 g 0 qs ∧ (∀ k, k < ps.length * 4 → w2.frozen? ⟨g, k, none⟩ = false)) := ⟨hp, hri, hrow2, hfz2⟩
  clear hp hri hrow2 hfz2
  go_wp2_with fail
  go_ret
  exact ⟨g, cap, qs, rfl, Hall.out.1, Hall.out.2.1, Hall.out.2.2.1, Hall.out.2.2.2, hg, hcap, hlt2, hb2⟩

end Go.Proofs.Ytgihglodekoddab

namespace Go.Proofs.Ytgihglodekoddab
open Go.RowKit

def pI (n : Int) : VT × Value := (intT n, .slice none 0 0)

theorem sound_int (d : Nat) (w : World) (n : Int) : Sound d w (pI n) := ⟨lies_nil d w, by show 0 ≤ 9223372036854775807; omega⟩

theorem perm_212 {qs : List (VT × Value)} (hp : qs.Perm [pI 2, pI 1, pI 2]) (hr : Rises 0 qs) : qs = [pI 1, pI 2, pI 2] := by
  have hs : Rises 0 [pI 1, pI 2, pI 2] := by
    unfold Rises
    simp only [List.pairwise_cons, List.mem_cons, List.not_mem_nil, or_false, forall_eq_or_imp, forall_eq, List.Pairwise.nil, and_true, false_implies, implies_true]
    decide
  have hp2 : qs.Perm [pI 1, pI 2, pI 2] := hp.trans (List.Perm.swap _ _ _)
  refine List.Perm.eq_of_pairwise ?_ hr hs hp2
  intro a b ha hb h1 h2
  have ha' := hp.mem_iff.1 ha
  simp only [List.mem_cons, List.not_mem_nil, or_false] at ha' hb
  rcases ha' with rfl | rfl | rfl <;> rcases hb with rfl | rfl | rfl <;> first | rfl | (exfalso; revert h1 h2; decide)

theorem right_int (n : Int) : rightV 0 (intT n) = true := by
  simp [rightV, fw, rpV, ownV, okNum, okText, okItems, intT]

def set12 : VT := ⟨5, 0, ⟨#[]⟩, [intT 1, intT 2]⟩

theorem fits_set : (fw 1 set12 16 1024).1 = true := by decide
theorem right_set : rightV 1 set12 = true := by
  have h1 : rpV 0 (intT 1) = true := by have := right_int 1; unfold rightV at this; simp at this; exact this.2
  have h2 : rpV 0 (intT 2) = true := by have := right_int 2; unfold rightV at this; simp at this; exact this.2
  have h3 : risF (cmpV 0) 1 [intT 1, intT 2] 2 0 = true := by decide
  have h4 : ownV 0 set12 = true := by simp [ownV, okNum, okText, okItems, set12, h3]
  have h5 : set12.items.all (rpV 0) = true := by
    show (rpV 0 (intT 1) && (rpV 0 (intT 2) && true)) = true
    rw [h1, h2]; rfl
  unfold rightV
  rw [fits_set]
  show (true && (set12.items.all (rpV 0) && ownV 0 set12)) = true
  rw [h5, h4]; rfl
theorem parts_set : cpV 1 set12 = 3 := by decide
theorem wrong_bool : rightV 0 ⟨1, 2, ⟨#[]⟩, []⟩ = false := by simp [rightV, fw, rpV, ownV, okNum]
theorem cmp_12 : cmpV 0 (intT 1) (intT 2) = -1 := by decide

theorem Blank.keepsB {W W' : World} {n B : Nat} (h : Blank W n) (hn : n < B) (hb : Below B W W') : Blank W' n :=
  ⟨(hb.cell (p := ⟨n, 0, none⟩) hn).trans h.c0, (hb.cell (p := ⟨n, 1, none⟩) hn).trans h.c1, (hb.cell (p := ⟨n, 2, none⟩) hn).trans h.c2, (hb.cell (p := ⟨n, 3, none⟩) hn).trans h.c3,
    (hb.frozen (p := ⟨n, 0, none⟩) hn).trans h.f0, (hb.frozen (p := ⟨n, 1, none⟩) hn).trans h.f1, (hb.frozen (p := ⟨n, 2, none⟩) hn).trans h.f2, (hb.frozen (p := ⟨n, 3, none⟩) hn).trans h.f3⟩

theorem three_of_row {w : World} {g : Nat} (h : RowAt w g 0 [pI 1, pI 2, pI 2]) (hf : ∀ k, k < 3 * 4 → w.frozen? ⟨g, k, none⟩ = false) : Three w g 1 2 2 := by
  obtain ⟨a0, a1, a2, a3⟩ := h 0 (by simp)
  obtain ⟨b0, b1, b2, b3⟩ := h 1 (by simp)
  obtain ⟨c0, c1, c2, c3⟩ := h 2 (by simp)
  exact ⟨a0, a1, a2, a3, b0, b1, b2, b3, c0, c1, c2, c3, hf 8 (by omega), hf 9 (by omega), hf 10 (by omega), hf 11 (by omega)⟩

set_option maxHeartbeats 2000000 in
theorem set_212 (g cap : Nat) (w : World) (hc3 : 3 ≤ cap) (hrow : RowAt w g 0 [pI 2, pI 1, pI 2]) :
    Calls Try.prog 6 #[.slice (some ⟨g, 0, none⟩) 3 cap] w fun e w' => ∃ v, e = .returned (.tuple #[.agg #[.int .i64 5, .int .i64 0, .string ⟨#[]⟩, v], .int .i64 0]) ∧ Lies 1 w' [intT 1, intT 2] v ∧ Below w.heap.size w w' := by
  have HR : Hid (RowAt w g 0 [pI 2, pI 1, pI 2]) := hrow
  have hsd : ∀ W : World, ∀ p ∈ [pI 2, pI 1, pI 2], Sound 0 W p := fun W p hp => by
    simp only [List.mem_cons, List.not_mem_nil, or_false] at hp
    rcases hp with rfl | rfl | rfl <;> exact sound_int 0 W _
  have Hsd : Hid (∀ W : World, ∀ p ∈ [pI 2, pI 1, pI 2], Sound 0 W p) := hsd
  have Herr : Hid (listErr 0 [intT 2, intT 1, intT 2] = 0) := by
    show listErr 0 [intT 2, intT 1, intT 2] = 0
    unfold listErr
    rw [if_neg (by simp)]
    simp [right_int]
  have HK : Hid (Blank (w.alloc (.cells #[.int .i64 0, .int .i64 0, .string ⟨#[]⟩, .slice none 0 0] 25)) w.heap.size) := blank_alloc w
  have hbz : Below w.heap.size w (w.alloc (.cells #[.int .i64 0, .int .i64 0, .string ⟨#[]⟩, .slice none 0 0] 25)) := ((Grew.refl w).alloc _).below
  clear hrow hsd
  go_enter Try.func6, Try.ntmps6
  go_wp2_with fail
  refine (checkList_any 0 [intT 2, intT 1, intT 2] (.slice (some ⟨g, 0, none⟩) 3 cap) _ (lies_of_row (ps := [pI 2, pI 1, pI 2]) (HR.out.keeps hbz) (Hsd.out _) (by simp) (by show 3 ≤ cap; exact hc3))).mono ?_
  rintro e w1 ⟨rfl, hb⟩
  rw [Herr.out]
  have hb1 : Below w.heap.size w w1 := hbz.trans (hb.mono (by simp))
  have HK1 : Hid (Blank w1 w.heap.size) := HK.out.keeps hb
  have hsz1 : w.heap.size < w1.heap.size := by have := hb.size; simp at this; omega
  clear hb HK hbz
  go_wp2_with fail
  refine (sorted_some 0 g 0 cap [pI 2, pI 1, pI 2] _ (HR.out.keeps hb1) (Hsd.out _) (by simp) (by simp)).mono ?_
  rintro e w2 ⟨g2, cap2, qs, rfl, hp, hri, hrow2, hfz2, hg2, hcap2, hlt2, hb2⟩
  have hq := perm_212 hp hri
  rw [hq] at hrow2
  have H3 : Hid (Three w2 g2 1 2 2) := three_of_row hrow2 hfz2
  have hbw2 : Below w.heap.size w w2 := hb1.trans (hb2.mono hb1.size)
  have HK2 : Hid (Blank w2 w.heap.size) := HK1.out.keeps hb2
  have hg2w : w.heap.size < g2 := by omega
  have hcap3 : 3 ≤ cap2 := hcap2
  clear hp hri hrow2 hfz2 hq hb2 HK1 hcap2
  go_wp2_with fail
  refine (compact_122 g2 cap2 _ H3.out hcap3).mono ?_
  rintro e w3 ⟨rfl, hb3, hrow3⟩
  have hbw3 : Below w.heap.size w w3 := hbw2.trans (hb3.mono (by omega))
  have HK3 : Hid (Blank w3 w.heap.size) := HK2.out.keepsB hg2w hb3
  have HL3 : Hid (Lies 1 w3 [intT 1, intT 2] (.slice (some ⟨g2, 0, none⟩) 2 cap2)) := lies_of_row (ps := [pI 1, pI 2]) hrow3 (fun p hp => by
    simp only [List.mem_cons, List.not_mem_nil, or_false] at hp
    rcases hp with rfl | rfl <;> exact sound_int 0 _ _) (by simp) (by show 2 ≤ cap2; omega)
  clear hb3 hrow3 HK2 H3 hcap3
  have hsz3 : w.heap.size < w3.heap.size := cell_lt HK3.out.c0
  go_wp2_with fail
  refine (made_any 1 5 [intT 1, intT 2] (.slice (some ⟨g2, 0, none⟩) 2 cap2) _ HL3.out ⟨(by show 0 ≤ 281474976710656; omega), fun x hx => ?_⟩).mono ?_
  · simp only [List.mem_cons, List.not_mem_nil, or_false] at hx
    rcases hx with rfl | rfl <;> (show 0 ≤ 281474976710656; omega)
  · rintro e w4 hm
    unfold MadePost at hm
    have hfs : (fw 1 ⟨5, 0, ⟨#[]⟩, [intT 1, intT 2]⟩ 16 1024).1 = true := fits_set
    rw [if_pos hfs] at hm
    clear hfs
    obtain ⟨v, rfl, hLB, hb4⟩ := hm
    have hbw4 : Below w.heap.size w w4 := hbw3.trans (hb4.mono hbw3.size)
    have HK4 : Hid (Blank w4 w.heap.size) := HK3.out.keeps hb4
    have HLB : Hid (LiesB (w.heap.size + 1) 1 w4 [intT 1, intT 2] v) := LiesB.lower (by omega) _ _ _ hLB
    clear hb4 hLB HK3 HL3
    obtain ⟨av, cv, rfl, _⟩ := LiesB.slice HLB.out
    obtain ⟨y0, y1, y2, y3, z0, z1, z2, z3⟩ := HK4.out
    have Hbx : Hid _ := HK4.out.put (set12, .slice av 2 cv)
    have Hbl : Hid _ := below_put hbw4 (Nat.le_refl _) (set12, .slice av 2 cv)
    have Hfin : Hid (Lies 1 (w4.setCells w.heap.size 0 (encP (set12, .slice av 2 cv))) [intT 1, intT 2] (.slice av 2 cv)) :=
      LiesB.lies _ _ _ (LiesB.stays (base := w.heap.size + 1) (fun x v hx hv => ⟨by rw [World.cell?_setCells_out w.heap.size _ 0 w4 x (fun e _ => by omega)]; exact hv, World.frozen?_setCells ..⟩) _ _ _ HLB.out)
    go_wp2_with fail
    refine bodyPost_ret (v := .tuple #[.agg #[.int .i64 5, .int .i64 0, .string ⟨#[]⟩, .slice av 2 cv], .int .i64 0]) ?_ rfl ⟨_, rfl, Hfin.out, Hbl.out⟩
    obtain ⟨q0, q1, q2, q3⟩ := Hbx.out
    simp only [encP, set12, World.setCells, Nat.zero_add, Nat.reduceAdd] at q0 q1 q2 q3
    simp [results, Try.results6, go_sem, q0, q1, q2, q3]

theorem ints_cells : ([2, 1, 2] : List Int).flatMap cellsInt = [pI 2, pI 1, pI 2].flatMap encP := rfl

set_option maxHeartbeats 2000000 in
theorem speaks_any (w : World) : Calls Try.prog 9 #[] w fun e w' => e = .returned (.bool true) ∧ Below w.heap.size w w' := by
  go_enter Try.func9, Try.ntmps9
  go_wp2_with fail
  refine (ints_any w.heap.size [2, 1, 2] 3 _ (by simp) ?_).mono ?_
  · intro i hi
    match i, hi with
    | 0, _ => simp
    | 1, _ => simp
    | 2, _ => simp
  rintro e w1 ⟨v, rfl, hown, hb⟩
  have hb1 : Below w.heap.size w w1 := ((Grew.refl w).alloc _).below.trans (hb.mono (by simp))
  rw [ints_cells] at hown
  obtain ⟨g, cap, rfl, _, hcp, _, hrow, _⟩ := own_row (ps := [pI 2, pI 1, pI 2]) hown (by simp)
  have hc3 : 3 ≤ cap := hcp
  have Hrow : Hid (RowAt w1 g 0 [pI 2, pI 1, pI 2]) := hrow
  clear hown hb hrow hcp
  go_wp2_with fail
  refine (set_212 g cap _ hc3 Hrow.out).mono ?_
  rintro e w2 ⟨v2, rfl, hL, hb⟩
  have hb2 : Below w.heap.size w w2 := hb1.trans (hb.mono hb1.size)
  obtain ⟨a2, c2, rfl, _⟩ := Lies.slice hL
  have HL : Hid (Lies 1 w2 [intT 1, intT 2] (.slice a2 2 c2)) := hL
  clear hb hL Hrow hb1
  have HBx : Hid (Boxed (w2.alloc (.cells #[.int .i64 5, .int .i64 0, .string ⟨#[]⟩, .slice a2 2 c2] 25)) w2.heap.size 5 0 ⟨#[]⟩ (.slice a2 2 c2)) := boxed_alloc w2 5 0 ⟨#[]⟩ (.slice a2 2 c2) 25
  have hb3 : Below w.heap.size w (w2.alloc (.cells #[.int .i64 5, .int .i64 0, .string ⟨#[]⟩, .slice a2 2 c2] 25)) := hb2.alloc hb2.size _
  have HLa : Hid (Lies 1 (w2.alloc (.cells #[.int .i64 5, .int .i64 0, .string ⟨#[]⟩, .slice a2 2 c2] 25)) [intT 1, intT 2] (.slice a2 2 c2)) := Lies.keeps ((Grew.refl w2).alloc _).below _ _ _ HL.out
  go_wp2_with fail
  have hpt := parts_any 1 set12 (.slice a2 2 c2) (w2.alloc (.cells #[.int .i64 5, .int .i64 0, .string ⟨#[]⟩, .slice a2 2 c2] 25)) HLa.out (by show 0 ≤ 9223372036854775807; omega)
  rw [right_set, parts_set] at hpt
  refine hpt.mono ?_
  rintro e w4 ⟨rfl, hb⟩
  have hb4 : Below w.heap.size w w4 := hb3.trans (hb.mono hb3.size)
  have HBx4 : Hid (Boxed w4 w2.heap.size 5 0 ⟨#[]⟩ (.slice a2 2 c2)) := HBx.out.keeps hb
  have HL4 : Hid (Lies 1 w4 [intT 1, intT 2] (.slice a2 2 c2)) := Lies.keeps hb _ _ _ HLa.out
  obtain ⟨x0, x1, x2, x3⟩ := HBx4.out
  have he0 : errOf true = 0 := rfl
  rw [he0]
  simp only [if_true]
  clear hpt hb HBx HLa he0 hb3
  go_wp2_with fail
  have hck := check_any 1 set12 (.slice a2 2 c2) w4 HL4.out (by show 0 ≤ 9223372036854775807; omega)
  rw [right_set] at hck
  refine hck.mono ?_
  rintro e w5 ⟨rfl, hb⟩
  have hb5 : Below w.heap.size w w5 := hb4.trans (hb.mono hb4.size)
  have he0 : errOf true = 0 := rfl
  rw [he0]
  clear hck hb he0 x0 x1 x2 x3 HL4 HBx4 hb4
  go_wp2_with fail
  have hck := check_any 0 ⟨1, 2, ⟨#[]⟩, []⟩ (.slice none 0 0) w5 (lies_nil 0 w5) (by show 0 ≤ 9223372036854775807; omega)
  rw [wrong_bool] at hck
  refine hck.mono ?_
  rintro e w6 ⟨rfl, hb⟩
  have hb6 : Below w.heap.size w w6 := hb5.trans (hb.mono hb5.size)
  have he0 : errOf false = 3 := rfl
  rw [he0]
  clear hck hb he0 hb5
  go_wp2_with fail
  refine (int_any 1 _).mono ?_
  rintro e w7 ⟨rfl, hg⟩
  have hb7 : Below w.heap.size w w7 := hb6.trans (hg.below.mono hb6.size)
  clear hg hb6
  go_wp2_with fail
  refine (int_any 2 _).mono ?_
  rintro e w8 ⟨rfl, hg⟩
  have hb8 : Below w.heap.size w w8 := hb7.trans (hg.below.mono hb7.size)
  clear hg hb7
  go_wp2_with fail
  have hcm := compare_any 0 (intT 1) (intT 2) (.slice none 0 0) (.slice none 0 0) w8 (lies_nil 0 w8) (lies_nil 0 w8)
  rw [cmp_12] at hcm
  refine Calls.mono hcm ?_
  rintro e w9 ⟨rfl, hg⟩
  have hb9 : Below w.heap.size w w9 := hb8.trans (hg.below.mono hb8.size)
  clear hcm hg hb8
  go_wp2_with fail
  go_ret
  exact ⟨rfl, hb9⟩

end Go.Proofs.Ytgihglodekoddab

