/-
  PairingSorts: the statement's walk.
-/
import Derived.Test.YtffjdpbobkdmfaaGreatPopQ
import Derived.Deep.RegionWith
import Derived.Test.YtffjdpbobkdmfaaGreatVals
import Derived.Test.YtffjdpbobkdmfaaGreatRunesP
import Derived.Test.YtffjdpbobkdmfaaGreatUniq
namespace Go.Proofs.YtffjdpbobkdmfaaGreat
open Go.RowKit

set_option maxRecDepth 100000 in
set_option maxHeartbeats 4000000 in
theorem topBy_any {X : Nat → Prop} {q r : Nat} {I : List VT} {p : Option Addr} {w : World} (h : QN X w q I p) (hr : r < 6) : Calls Tryz.prog 39 #[.pointer p, .int .i64 (r : Int)] w (PairPost X r I w) := by
  have HC : Hid _ := own_any19 h
  have HR : Hid (r < 6) := hr
  clear h hr
  go_enter Tryz.func39, Tryz.ntmps39
  go_wp2_with fail
  refine Calls.mono HC.out ?_
  rintro e w1 ⟨b, rfl, hc, hb⟩
  obtain ⟨t, tp, h1, h2, h3, h4⟩ := hc.ex
  have c0 := hc.order
  clear HC
  by_cases hqr : q = r
  · subst hqr
    have HE : Hid (PairPost X q I w (.returned (.pointer tp)) w1) := ⟨hb, t, tp, rfl, h2, h3, h4⟩
    clear hc h2 h3 h4 hb
    go_wp2_with fail
    go_ret
    exact HE.out
  · have hqr' : ¬ (q : Int) = (r : Int) := by omega
    have hlen : (oItems t).length ≤ 65536 := by rw [h3.length_eq]; exact hc.le
    have HI : Hid (Calls Tryz.prog 48 #[.pointer tp] w1 fun e w2 => ∃ v, e = .returned v ∧ Below w1.heap.size w1 w2 ∧ (Calls Tryz.prog 23 #[v, fnBy w2.heap.size] (w2.alloc (.cells #[.int .i64 (r : Int)] 3)) (PairPost X r I (w2.alloc (.cells #[.int .i64 (r : Int)] 3))))) := by
      refine Calls.mono (items19_any X t tp w1 h2 hlen) ?_
      rintro e w2 ⟨hb2, v, l, rfl, hs, hp⟩
      have hp2 := hp.trans h3
      have hg : Below w2.heap.size w2 (w2.alloc (.cells #[.int .i64 (r : Int)] 3)) := ((Grew.refl w2).alloc _).below
      refine ⟨v, rfl, hb2, Calls.mono (grown_any19 X r w2.heap.size HR.out l v _ (hs.keeps hg) (by rw [hp2.length_eq]; exact hc.le) (by simp)) ?_⟩
      rintro e w3 ⟨k1, k2, k3, k4, k5, k6, k7⟩
      exact ⟨k1, k2, k3, k4, k5, k6.trans hp2, k7⟩
    have HB : Hid (Below w.heap.size w w1) := hb
    clear hc h2 h3 h4 hb hqr hlen
    go_wp2_with fail
    refine Calls.mono HI.out ?_
    rintro e w2 ⟨v, rfl, hb2, hgr⟩
    have HG : Hid _ := hgr
    have HB2 : Hid (Below w.heap.size w w2) := HB.out.trans (hb2.mono HB.out.size)
    clear HI hgr hb2 HB
    go_wp2_with fail
    refine Calls.mono (byOrder_any r w2) ?_
    rintro e w3 ⟨rfl, rfl⟩
    go_wp2_with fail
    refine Calls.mono HG.out ?_
    rintro e w4 ⟨k1, k2, k3, rfl, k5, k6, k7⟩
    have hbA : Below w.heap.size w (w2.alloc (.cells #[.int .i64 (r : Int)] 3)) := HB2.out.alloc HB2.out.size _
    have HE : Hid (PairPost X r I w (.returned (.pointer k3)) w4) := ⟨hbA.trans (k1.mono hbA.size), k2, k3, rfl, k5, k6, k7⟩
    clear HG k1 k5 k6 k7 hbA
    go_wp2_with fail
    go_ret
    exact HE.out

/-- What Meld tells. -/
def MeldPost (X : Nat → Prop) (q : Nat) (I J : List VT) (w : World) (e : Ending) (w' : World) : Prop :=
  Below w.heap.size w w' ∧ ((65536 < I.length + J.length ∧ e = .returned (.tuple #[.pointer none, .int .i64 2])) ∨ (I.length + J.length ≤ 65536 ∧ ∃ p, e = .returned (.tuple #[.pointer p, .int .i64 0]) ∧ QM X w' q (I ++ J) p))

set_option maxRecDepth 100000 in
set_option maxHeartbeats 8000000 in
theorem meld_any {X : Nat → Prop} {q r : Nat} {I J : List VT} {pa pb : Option Addr} {w : World} (ha : QN X w q I pa) (hb : QN X w r J pb) (hJ : J.length ≤ 65536) : Calls Tryz.prog 18 #[.pointer pa, .pointer pb] w (MeldPost X q I J w) := by
  have HC : Hid _ := own_any19 ha
  have HB : Hid (QN X w r J pb) := hb
  clear ha hb
  go_enter Tryz.func18, Tryz.ntmps18
  go_wp2_with fail
  refine Calls.mono HC.out ?_
  rintro e w1 ⟨b, rfl, hc, hb1⟩
  have HQ : Hid (QC X w1 q I b) := hc
  have c0 := hc.order
  have c1 := hc.size
  have hI := hc.le
  have HLn : Hid (∀ V, Below w1.heap.size w1 V → Calls Tryz.prog 17 #[.pointer pb] V fun e w' => e = .returned (.int .i64 (J.length : Int)) ∧ Below V.heap.size V w') := fun V hV => len_any19 ((HB.out.keeps hb1).keeps hV)
  have HB1 : Hid (QN X w1 r J pb) := HB.out.keeps hb1
  clear HC hc HB
  go_wp2_with fail
  go_region_held3 (fun w' => w'.cell? ⟨b, 1, none⟩ = some (.int .i64 (I.length : Int))) (go_keep)
    (first
      | (go_at_call 17; (with_reducible refine Calls.mono (HLn.out _ ?_) ?_); (first | exact Below.refl _ _ | exact (Below.refl _ _).drew); rintro e w2 ⟨rfl, hg2⟩; have hb2 : Below w1.heap.size w1 w2 := (Below.refl _ _).drew.trans hg2; have c0 := cell_keeps hb2 c0; have c1 := cell_keeps hb2 c1; clear hg2 HLn))
  obtain ⟨S, hS⟩ : ∃ S, S = I.length + J.length := ⟨_, rfl⟩
  have eS : IntKind.i64.wrap ((I.length : Int) + (J.length : Int)) = (S : Int) := by rw [IntKind.wrap_i64]; omega
  rw [eS]
  have HS : Hid (S = I.length + J.length) := hS
  have HBw : Hid (Below w.heap.size w w2) := hb1.trans (hb2.mono hb1.size)
  clear eS hI hJ hb1
  by_cases hbig : 65536 < S
  · have hbig' : (65536 : Int) < (S : Int) := by omega
    have HE : Hid (MeldPost X q I J w (.returned (.tuple #[.pointer none, .int .i64 2])) w2) := ⟨HBw.out, .inl ⟨by omega, rfl⟩⟩
    clear hS hbig hb2
    go_wp2_with fail
    go_ret2
    exact HE.out
  · have hbig' : ¬ (65536 : Int) < (S : Int) := by omega
    have hsm : S ≤ 65536 := by omega
    obtain ⟨t, tp, c2, k2, k3, k4⟩ := HQ.out.ex
    have HTop : Hid (HpO X w1 t tp ∧ (oItems t).Perm I ∧ oOk (ordV q) t) := ⟨k2, k3, k4⟩
    have c2 := cell_keeps hb2 c2
    have hg3 : Below w2.heap.size w2 (w2.alloc (.cells #[.int .i64 (q : Int)] 3)) := ((Grew.refl w2).alloc _).below
    have HT : Hid (∀ V, Below (w2.alloc (.cells #[.int .i64 (q : Int)] 3)).heap.size (w2.alloc (.cells #[.int .i64 (q : Int)] 3)) V → Calls Tryz.prog 39 #[.pointer pb, .int .i64 (q : Int)] V fun e w4 => ∃ p4, e = .returned (.pointer p4) ∧ Below V.heap.size V w4 ∧ (∀ V2, Below w4.heap.size w4 V2 → Calls Tryz.prog 38 #[.pointer tp, .pointer p4, fnBy w2.heap.size] V2 (PairPost X q (I ++ J) V2))) := by
      intro V hV
      have hV1 : Below w1.heap.size w1 V := (hb2.trans (hg3.mono hb2.size)).trans (hV.mono (hb2.trans (hg3.mono hb2.size)).size)
      refine Calls.mono (topBy_any (HB1.out.keeps hV1) HQ.out.lt) ?_
      rintro e w4 ⟨hb4, h4, p4, rfl, m4, p4', o4⟩
      refine ⟨p4, rfl, hb4, fun V2 hV2 => ?_⟩
      exact joined_ok X q w2.heap.size HQ.out.lt t h4 tp p4 V2 I J (cell_keeps hV2 (cell_keeps hb4 (cell_keeps hV (by simp)))) (((HTop.out.1.keeps hV1).keeps hb4).keeps hV2) (m4.keeps hV2) HTop.out.2.2 o4 HTop.out.2.1 p4'
    have HE : Hid (∀ V T b, Below w.heap.size w V → ∀ h p, b = V.heap.size → HpO X V h p → (oItems h).Perm (I ++ J) → oOk (ordV q) h → MeldPost X q I J w (.returned (.tuple #[.pointer (some ⟨b, 0, none⟩), .int .i64 0])) (V.alloc (.cells #[.int .i64 (q : Int), .int .i64 (S : Int), .pointer p] T))) := by
      intro V T b hV h p hbz hm hp hok
      subst hbz
      have hb' : Below V.heap.size V (V.alloc (.cells #[.int .i64 (q : Int), .int .i64 (S : Int), .pointer p] T)) := ((Grew.refl V).alloc _).below
      exact ⟨hV.trans (hb'.mono hV.size), .inr ⟨by omega, _, rfl, _, rfl, ⟨⟨h, p, by simp, hm.keeps hb', hp, hok⟩, by simp, by rw [List.length_append, ← hS]; simp, HQ.out.lt, by rw [List.length_append]; omega⟩⟩⟩
    clear k2 k3 k4 hS hbig hsm hg3
    go_wp2_with fail
    refine Calls.mono (byOrder_any q w2) ?_
    rintro e w3 ⟨rfl, rfl⟩
    obtain ⟨w3, hw3⟩ : ∃ w3, w3 = w2.alloc (.cells #[.int .i64 (q : Int)] 3) := ⟨_, rfl⟩
    have hg3 : Below w2.heap.size w2 w3 := by rw [hw3]; exact ((Grew.refl w2).alloc _).below
    rw [← hw3] at HT ⊢
    have c0 := cell_keeps hg3 c0; have c1 := cell_keeps hg3 c1; have c2 := cell_keeps hg3 c2
    have HBx : Hid (Below w.heap.size w w3) := HBw.out.trans (hg3.mono HBw.out.size)
    clear hw3 hg3 hb2 HBw HTop
    go_wp2_with fail
    go_region_held3 (fun w' => w'.cell? ⟨b, 0, none⟩ = some (.int .i64 (q : Int)) ∧ w'.cell? ⟨b, 2, none⟩ = some (.pointer tp)) (go_keep)
      (first
        | (go_at_call 38; (with_reducible refine Calls.mono (HJ.out _ ?_) ?_); (first | exact Below.refl _ _ | exact (Below.refl _ _).drew); rintro e w5 ⟨hg5, h5, p5, rfl, m5, q5, o5⟩; have HF : Hid _ := HE.out w5 62 w5.heap.size (HB4.out.trans (hg5.mono HB4.out.size)) h5 p5 rfl m5 q5 o5; have c0 := cell_keeps hg5 c0; have c2 := cell_keeps hg5 c2; clear HJ m5 q5 o5 HE)
        | (go_at_call 39; (with_reducible refine Calls.mono (HT.out _ ?_) ?_); (first | exact Below.refl _ _ | exact (Below.refl _ _).drew); rintro e w4 ⟨p4, rfl, hg4, hj4⟩; have HB4 : Hid (Below w.heap.size w w4) := HBx.out.trans (((Below.refl _ _).drew.trans hg4).mono HBx.out.size); have HJ : Hid _ := hj4; have c0 := cell_keeps ((Below.refl _ _).drew.trans hg4) c0; have c2 := cell_keeps ((Below.refl _ _).drew.trans hg4) c2; clear HT hj4 hg4))
    go_wp2_with fail
    first | exact HF.out | (go_ret2; exact HF.out)

end Go.Proofs.YtffjdpbobkdmfaaGreat

namespace Go.Proofs.YtffjdpbobkdmfaaGreat
open Go.RowKit Go.Shelf

/-- A number as a value's tree. -/
def num19 (n : Int) : VT := ⟨2, n, ⟨#[]⟩, []⟩
def pair19 (n : Int) : VT × Value := (num19 n, .slice none 0 0)

theorem right_num19 (n : Int) : rightV 0 (num19 n) = true := by
  simp [rightV, fw, rpV, ownV, okNum, okText, okItems, num19]

theorem nums_cells19 (zs : List Int) : zs.flatMap cellsInt = (zs.map pair19).flatMap encP := by
  induction zs with
  | nil => rfl
  | cons z zs ih => rw [List.flatMap_cons, List.map_cons, List.flatMap_cons, ih]; rfl

theorem nums_lies19 {w : World} {b c : Nat} (zs : List Int) (h : RowAt w b 0 (zs.map pair19)) (hl : zs.length ≤ 1000) (hc : zs.length ≤ c) : Lies 1 w (zs.map num19) (.slice (some ⟨b, 0, none⟩) zs.length c) := by
  have := lies_of_row (d := 0) (c := c) h (fun p hp => by
    obtain ⟨z, _, rfl⟩ := List.mem_map.1 hp
    exact ⟨⟨rfl, none, 0, rfl⟩, by show 0 ≤ 9223372036854775807; omega⟩) (by simp; omega) (by simpa using hc)
  simpa [List.map_map, Function.comp_def, pair19] using this

theorem nums_err19 (zs : List Int) (h : zs.length ≤ 1000) : listErr 0 (zs.map num19) = 0 := by
  unfold listErr
  rw [if_neg (by simp; omega), if_pos (by
    rw [List.all_eq_true]
    intro x hx
    obtain ⟨z, _, rfl⟩ := List.mem_map.1 hx
    exact right_num19 z)]

set_option maxHeartbeats 1000000 in
/-- Numbers as values. -/
theorem nums_any19 (zs : List Int) (b cap : Nat) (w : World) (h0 : zs ≠ []) (hz : zs.length ≤ 1000) (hc : ∀ (i : Nat) (h : i < zs.length), w.cell? ⟨b, 0 + i, none⟩ = some (.int .i64 (zs[i]'h))) :
    Calls Tryz.prog 28 #[.slice (some ⟨b, 0, none⟩) zs.length cap] w fun e w' => ∃ g c, e = .returned (.slice (some ⟨g, 0, none⟩) zs.length c) ∧ Lies 1 w' (zs.map num19) (.slice (some ⟨g, 0, none⟩) zs.length c) ∧ Below w.heap.size w w' := by
  refine (ints_any b zs cap w hz hc).mono ?_
  rintro e w1 ⟨v, rfl, hown, hb⟩
  rw [nums_cells19] at hown
  obtain ⟨g, c, rfl, _, hcp, _, hrow, _⟩ := own_row (ps := zs.map pair19) (by simpa using hown) (by simpa using h0)
  refine ⟨g, c, by simp, nums_lies19 zs hrow hz (by simpa using hcp), hb⟩

theorem srt_four19 : srtV 0 ([3, 1, 2, 1].map num19) = [1, 1, 2, 3].map num19 := by kernel_rfl

theorem look_four19 : lookE 0 0 ([3, 1, 2, 1].map num19) = 0 := by unfold lookE; rw [if_neg (by omega)]; exact nums_err19 _ (by simp)

set_option maxRecDepth 100000 in
set_option maxHeartbeats 4000000 in
theorem speaks19_any (w : World) : Calls Tryz.prog 8 #[] w fun e w' => e = .returned (.bool true) ∧ Below w.heap.size w w' := by
  go_enter Tryz.func8, Tryz.ntmps8
  go_wp2_with fail
  refine (nums_any19 [3, 1, 2, 1] w.heap.size 4 _ (by simp) (by simp) ?_).mono ?_
  · intro i hi
    match i, hi with
    | 0, _ => simp
    | 1, _ => simp
    | 2, _ => simp
    | 3, _ => simp
  rintro e w1 ⟨g1, c1, rfl, hL1, hb⟩
  have hb1 : Below w.heap.size w w1 := ((Grew.refl w).alloc _).below.trans (hb.mono (by simp))
  have HL1 : Hid (Lies 1 w1 ([3, 1, 2, 1].map num19) (.slice (some ⟨g1, 0, none⟩) 4 c1)) := hL1
  clear hL1 hb
  go_wp2_with fail
  refine (of_any19 (fun _ => True) 0 0 ([3, 1, 2, 1].map num19) _ _ HL1.out (fun _ _ => trivial)).mono ?_
  rintro e w2 ⟨hb, ⟨h0, _⟩ | ⟨_, p, rfl, hq⟩⟩
  · exact absurd look_four19 h0
  have hb2 : Below w.heap.size w w2 := hb1.trans (hb.mono hb1.size)
  obtain ⟨b, rfl, hc⟩ := hq
  have HQ : Hid (QC (fun _ => True) w2 0 ([3, 1, 2, 1].map num19) b) := hc
  clear hc hb HL1 hb1
  have HMin : Hid (Calls Tryz.prog 29 #[.pointer (some ⟨b, 0, none⟩)] w2 fun e w' => ∃ a c, e = .returned (.tuple #[.agg #[.int .i64 2, .int .i64 1, .string ⟨#[]⟩, .slice a 0 c], .int .i64 0]) ∧ Below w2.heap.size w2 w') := by
    refine Calls.mono (min_any19 (.inr ⟨b, rfl, HQ.out⟩)) ?_
    rintro e w' ⟨hb, ⟨h0, _⟩ | ⟨x, m, v, h0, rfl, hL, _⟩⟩
    · cases h0
    · rw [srt_four19] at h0
      injection h0 with h1 _
      subst h1
      obtain ⟨a, c, rfl, _⟩ := LiesB.slice hL
      exact ⟨a, c, rfl, hb⟩
  go_wp2_with fail
  refine Calls.mono HMin.out ?_
  rintro e w3 ⟨a3, c3, rfl, hb⟩
  have hg3 : Below w2.heap.size w2 (w3.alloc (.cells #[.int .i64 2, .int .i64 1, .string ⟨#[]⟩, .slice a3 0 c3] 37)) := hb.alloc hb.size _
  have hb3 : Below w.heap.size w (w3.alloc (.cells #[.int .i64 2, .int .i64 1, .string ⟨#[]⟩, .slice a3 0 c3] 37)) := hb2.trans (hg3.mono hb2.size)
  have HQ3 : Hid (QC (fun _ => True) (w3.alloc (.cells #[.int .i64 2, .int .i64 1, .string ⟨#[]⟩, .slice a3 0 c3] 37)) 0 ([3, 1, 2, 1].map num19) b) := HQ.out.keeps hg3
  clear HMin HQ hb hg3 hb2
  go_wp2_with fail
  refine Calls.mono (len_any19 (.inr ⟨b, rfl, HQ3.out⟩)) ?_
  rintro e w4 ⟨rfl, hg⟩
  have hb4 : Below w.heap.size w w4 := hb3.trans (hg.mono hb3.size)
  have HQ4 : Hid (QC (fun _ => True) w4 0 ([3, 1, 2, 1].map num19) b) := HQ3.out.keeps hg
  clear HQ3 hg hb3
  go_wp2_with fail
  refine Calls.mono (sorted_any19 (.inr ⟨b, rfl, HQ4.out⟩)) ?_
  rintro e w5 ⟨v5, rfl, hL5, hg⟩
  have hb5 : Below w.heap.size w w5 := hb4.trans (hg.mono hb4.size)
  have hL5' := LiesB.lies _ _ _ hL5
  rw [srt_four19] at hL5'
  obtain ⟨a5, c5, rfl, _⟩ := Lies.slice hL5'
  have hb5' : Below w.heap.size w (w5.alloc (.cells #[.int .i64 1, .int .i64 1, .int .i64 2, .int .i64 3] 2)) := hb5.alloc hb5.size _
  have HL5 : Hid (Lies 17 (w5.alloc (.cells #[.int .i64 1, .int .i64 1, .int .i64 2, .int .i64 3] 2)) ([1, 1, 2, 3].map num19) (.slice a5 4 c5)) := Lies.keeps ((Grew.refl _).alloc _).below _ _ _ hL5'
  clear HQ4 hg hL5 hL5' hb4 hb5
  go_wp2_with fail
  refine (nums_any19 [1, 1, 2, 3] w5.heap.size 4 _ (by simp) (by simp) ?_).mono ?_
  · intro i hi
    match i, hi with
    | 0, _ => simp
    | 1, _ => simp
    | 2, _ => simp
    | 3, _ => simp
  rintro e w6 ⟨g6, c6, rfl, hL6, hb⟩
  have hb6 : Below w.heap.size w w6 := hb5'.trans (hb.mono hb5'.size)
  have HL6 : Hid (Lies 17 w6 ([1, 1, 2, 3].map num19) (.slice (some ⟨g6, 0, none⟩) 4 c6)) := hL6.atLeast 17 (by omega)
  have HV6 : Hid (Lies 17 w6 ([1, 1, 2, 3].map num19) (.slice a5 4 c5)) := Lies.keeps hb _ _ _ HL5.out
  clear hL6 hb HL5 hb5'
  go_wp2_with fail
  refine (values_one 16 ([1, 1, 2, 3].map num19) _ _ _ HV6.out HL6.out (by simp)).mono ?_
  rintro e w7 ⟨rfl, hb⟩
  have hb7 : Below w.heap.size w w7 := hb6.trans (hb.mono hb6.size)
  clear hb HL6 HV6 hb6
  go_wp2_with fail
  go_ret
  exact ⟨rfl, hb7⟩

end Go.Proofs.YtffjdpbobkdmfaaGreat

namespace Go.Proofs.YtffjdpbobkdmfaaGreat
open Go.RowKit Go.Shelf

theorem value_self19 (x : VT) (u v : Value) (W : World) (h1 : Lies 16 W x.items u) (h2 : Lies 16 W x.items v) : Calls Tryz.prog 16 #[.agg #[.int .i64 x.kind, .int .i64 x.num, .string x.text, u], .agg #[.int .i64 x.kind, .int .i64 x.num, .string x.text, v]] W fun e W' => e = .returned (.bool true) ∧ Below W.heap.size W W' :=
  (same_any 16 x x _ _ W h1 h2).mono fun e W' h => ⟨by rw [h.1, sameV_self], h.2.below⟩

end Go.Proofs.YtffjdpbobkdmfaaGreat

