/-
  PairingNil: the statement's walk.
-/
import Derived.Test.YtffjdpbobkdmfaaMinQ
import Derived.Deep.RegionWith
import Derived.Test.YtffjdpbobkdmfaaVals
import Derived.Test.YtffjdpbobkdmfaaRunesP
import Derived.Test.YtffjdpbobkdmfaaUniq
namespace Go.Proofs.Ytffjdpbobkdmfaa
open Go.RowKit

set_option maxRecDepth 100000 in
set_option maxHeartbeats 4000000 in
theorem new_any19 (X : Nat → Prop) (o : Int) (w : World) (hX : ∀ b, w.heap.size ≤ b → X b) : Calls Try.prog 14 #[.int .i64 o] w (OfPost X 16 o [] w) := by
  have hz : Lies 17 w [] (.slice none 0 0) := ⟨none, 0, rfl, by simp, fun h => absurd rfl h⟩
  have HC : Hid _ := of_any19 X 16 o [] _ w hz hX
  clear hz
  go_enter Try.func14, Try.ntmps14
  go_wp2_with fail
  refine Calls.mono HC.out ?_
  rintro e w1 ⟨hb, h⟩
  clear HC
  rcases h with ⟨h0, rfl⟩ | ⟨h0, p, rfl, hq⟩
  · have HE : Hid (OfPost X 16 o [] w (.returned (.tuple #[.pointer none, .int .i64 (lookE 16 o [])])) w1) := ⟨hb, .inl ⟨h0, rfl⟩⟩
    generalize lookE 16 o [] = E at *
    clear hb h0
    go_wp2_with fail
    go_ret2
    exact HE.out
  · have HE : Hid (OfPost X 16 o [] w (.returned (.tuple #[.pointer p, .int .i64 0])) w1) := ⟨hb, .inr ⟨h0, p, rfl, hq⟩⟩
    clear hb hq h0
    go_wp2_with fail
    go_ret2
    exact HE.out

set_option maxRecDepth 100000 in
set_option maxHeartbeats 4000000 in
theorem topBy_any {X : Nat → Prop} {q r : Nat} {I : List VT} {p : Option Addr} {w : World} (h : QN X w q I p) (hr : r < 6) : Calls Try.prog 31 #[.pointer p, .int .i64 (r : Int)] w (PairPost X r I w) := by
  have HC : Hid _ := own_any19 h
  have HR : Hid (r < 6) := hr
  clear h hr
  go_enter Try.func31, Try.ntmps31
  go_wp2_with fail
  refine Calls.mono HC.out ?_
  rintro e w1 ⟨b, rfl, hc, hb⟩
  obtain ⟨t, tp, h1, h2, h3, h4⟩ := hc.ex
  have c0 := hc.order
  clear HC
  by_cases hqr : q = r
  · subst hqr
    have HE : Hid (PairPost X q I w (.returned (.pointer tp)) w1) := ⟨hb, t, tp, rfl, h2, h3, h4⟩
    clear hc h2 h3 h4 hb
    go_wp2_with fail
    go_ret
    exact HE.out
  · have hqr' : ¬ (q : Int) = (r : Int) := by omega
    have hlen : (oItems t).length ≤ 65536 := by rw [h3.length_eq]; exact hc.le
    have HI : Hid (Calls Try.prog 26 #[.pointer tp] w1 fun e w2 => ∃ v, e = .returned v ∧ Below w1.heap.size w1 w2 ∧ (Calls Try.prog 20 #[v, fnBy w2.heap.size] (w2.alloc (.cells #[.int .i64 (r : Int)] 3)) (PairPost X r I (w2.alloc (.cells #[.int .i64 (r : Int)] 3))))) := by
      refine Calls.mono (items19_any X t tp w1 h2 hlen) ?_
      rintro e w2 ⟨hb2, v, l, rfl, hs, hp⟩
      have hp2 := hp.trans h3
      have hg : Below w2.heap.size w2 (w2.alloc (.cells #[.int .i64 (r : Int)] 3)) := ((Grew.refl w2).alloc _).below
      refine ⟨v, rfl, hb2, Calls.mono (grown_any19 X r w2.heap.size HR.out l v _ (hs.keeps hg) (by rw [hp2.length_eq]; exact hc.le) (by simp)) ?_⟩
      rintro e w3 ⟨k1, k2, k3, k4, k5, k6, k7⟩
      exact ⟨k1, k2, k3, k4, k5, k6.trans hp2, k7⟩
    have HB : Hid (Below w.heap.size w w1) := hb
    clear hc h2 h3 h4 hb hqr hlen
    go_wp2_with fail
    refine Calls.mono HI.out ?_
    rintro e w2 ⟨v, rfl, hb2, hgr⟩
    have HG : Hid _ := hgr
    have HB2 : Hid (Below w.heap.size w w2) := HB.out.trans (hb2.mono HB.out.size)
    clear HI hgr hb2 HB
    go_wp2_with fail
    refine Calls.mono (byOrder_any r w2) ?_
    rintro e w3 ⟨rfl, rfl⟩
    go_wp2_with fail
    refine Calls.mono HG.out ?_
    rintro e w4 ⟨k1, k2, k3, rfl, k5, k6, k7⟩
    have hbA : Below w.heap.size w (w2.alloc (.cells #[.int .i64 (r : Int)] 3)) := HB2.out.alloc HB2.out.size _
    have HE : Hid (PairPost X r I w (.returned (.pointer k3)) w4) := ⟨hbA.trans (k1.mono hbA.size), k2, k3, rfl, k5, k6, k7⟩
    clear HG k1 k5 k6 k7 hbA
    go_wp2_with fail
    go_ret
    exact HE.out

/-- What Meld tells. -/
def MeldPost (X : Nat → Prop) (q : Nat) (I J : List VT) (w : World) (e : Ending) (w' : World) : Prop :=
  Below w.heap.size w w' ∧ ((65536 < I.length + J.length ∧ e = .returned (.tuple #[.pointer none, .int .i64 2])) ∨ (I.length + J.length ≤ 65536 ∧ ∃ p, e = .returned (.tuple #[.pointer p, .int .i64 0]) ∧ QM X w' q (I ++ J) p))

set_option maxRecDepth 100000 in
set_option maxHeartbeats 8000000 in
theorem meld_any {X : Nat → Prop} {q r : Nat} {I J : List VT} {pa pb : Option Addr} {w : World} (ha : QN X w q I pa) (hb : QN X w r J pb) (hJ : J.length ≤ 65536) : Calls Try.prog 15 #[.pointer pa, .pointer pb] w (MeldPost X q I J w) := by
  have HC : Hid _ := own_any19 ha
  have HB : Hid (QN X w r J pb) := hb
  clear ha hb
  go_enter Try.func15, Try.ntmps15
  go_wp2_with fail
  refine Calls.mono HC.out ?_
  rintro e w1 ⟨b, rfl, hc, hb1⟩
  have HQ : Hid (QC X w1 q I b) := hc
  have c0 := hc.order
  have c1 := hc.size
  have hI := hc.le
  have HLn : Hid (∀ V, Below w1.heap.size w1 V → Calls Try.prog 10 #[.pointer pb] V fun e w' => e = .returned (.int .i64 (J.length : Int)) ∧ Below V.heap.size V w') := fun V hV => len_any19 ((HB.out.keeps hb1).keeps hV)
  have HB1 : Hid (QN X w1 r J pb) := HB.out.keeps hb1
  clear HC hc HB
  go_wp2_with fail
  go_region_held3 (fun w' => w'.cell? ⟨b, 1, none⟩ = some (.int .i64 (I.length : Int))) (go_keep)
    (first
      | (go_at_call 10; (with_reducible refine Calls.mono (HLn.out _ ?_) ?_); (first | exact Below.refl _ _ | exact (Below.refl _ _).drew); rintro e w2 ⟨rfl, hg2⟩; have hb2 : Below w1.heap.size w1 w2 := (Below.refl _ _).drew.trans hg2; have c0 := cell_keeps hb2 c0; have c1 := cell_keeps hb2 c1; clear hg2 HLn))
  obtain ⟨S, hS⟩ : ∃ S, S = I.length + J.length := ⟨_, rfl⟩
  have eS : IntKind.i64.wrap ((I.length : Int) + (J.length : Int)) = (S : Int) := by rw [IntKind.wrap_i64]; omega
  rw [eS]
  have HS : Hid (S = I.length + J.length) := hS
  have HBw : Hid (Below w.heap.size w w2) := hb1.trans (hb2.mono hb1.size)
  clear eS hI hJ hb1
  by_cases hbig : 65536 < S
  · have hbig' : (65536 : Int) < (S : Int) := by omega
    have HE : Hid (MeldPost X q I J w (.returned (.tuple #[.pointer none, .int .i64 2])) w2) := ⟨HBw.out, .inl ⟨by omega, rfl⟩⟩
    clear hS hbig hb2
    go_wp2_with fail
    go_ret2
    exact HE.out
  · have hbig' : ¬ (65536 : Int) < (S : Int) := by omega
    have hsm : S ≤ 65536 := by omega
    obtain ⟨t, tp, c2, k2, k3, k4⟩ := HQ.out.ex
    have HTop : Hid (HpO X w1 t tp ∧ (oItems t).Perm I ∧ oOk (ordV q) t) := ⟨k2, k3, k4⟩
    have c2 := cell_keeps hb2 c2
    have hg3 : Below w2.heap.size w2 (w2.alloc (.cells #[.int .i64 (q : Int)] 3)) := ((Grew.refl w2).alloc _).below
    have HT : Hid (∀ V, Below (w2.alloc (.cells #[.int .i64 (q : Int)] 3)).heap.size (w2.alloc (.cells #[.int .i64 (q : Int)] 3)) V → Calls Try.prog 31 #[.pointer pb, .int .i64 (q : Int)] V fun e w4 => ∃ p4, e = .returned (.pointer p4) ∧ Below V.heap.size V w4 ∧ (∀ V2, Below w4.heap.size w4 V2 → Calls Try.prog 30 #[.pointer tp, .pointer p4, fnBy w2.heap.size] V2 (PairPost X q (I ++ J) V2))) := by
      intro V hV
      have hV1 : Below w1.heap.size w1 V := (hb2.trans (hg3.mono hb2.size)).trans (hV.mono (hb2.trans (hg3.mono hb2.size)).size)
      refine Calls.mono (topBy_any (HB1.out.keeps hV1) HQ.out.lt) ?_
      rintro e w4 ⟨hb4, h4, p4, rfl, m4, p4', o4⟩
      refine ⟨p4, rfl, hb4, fun V2 hV2 => ?_⟩
      exact joined_ok X q w2.heap.size HQ.out.lt t h4 tp p4 V2 I J (cell_keeps hV2 (cell_keeps hb4 (cell_keeps hV (by simp)))) (((HTop.out.1.keeps hV1).keeps hb4).keeps hV2) (m4.keeps hV2) HTop.out.2.2 o4 HTop.out.2.1 p4'
    have HE : Hid (∀ V T b, Below w.heap.size w V → ∀ h p, b = V.heap.size → HpO X V h p → (oItems h).Perm (I ++ J) → oOk (ordV q) h → MeldPost X q I J w (.returned (.tuple #[.pointer (some ⟨b, 0, none⟩), .int .i64 0])) (V.alloc (.cells #[.int .i64 (q : Int), .int .i64 (S : Int), .pointer p] T))) := by
      intro V T b hV h p hbz hm hp hok
      subst hbz
      have hb' : Below V.heap.size V (V.alloc (.cells #[.int .i64 (q : Int), .int .i64 (S : Int), .pointer p] T)) := ((Grew.refl V).alloc _).below
      exact ⟨hV.trans (hb'.mono hV.size), .inr ⟨by omega, _, rfl, _, rfl, ⟨⟨h, p, by simp, hm.keeps hb', hp, hok⟩, by simp, by rw [List.length_append, ← hS]; simp, HQ.out.lt, by rw [List.length_append]; omega⟩⟩⟩
    clear k2 k3 k4 hS hbig hsm hg3
    go_wp2_with fail
    refine Calls.mono (byOrder_any q w2) ?_
    rintro e w3 ⟨rfl, rfl⟩
    obtain ⟨w3, hw3⟩ : ∃ w3, w3 = w2.alloc (.cells #[.int .i64 (q : Int)] 3) := ⟨_, rfl⟩
    have hg3 : Below w2.heap.size w2 w3 := by rw [hw3]; exact ((Grew.refl w2).alloc _).below
    rw [← hw3] at HT ⊢
    have c0 := cell_keeps hg3 c0; have c1 := cell_keeps hg3 c1; have c2 := cell_keeps hg3 c2
    have HBx : Hid (Below w.heap.size w w3) := HBw.out.trans (hg3.mono HBw.out.size)
    clear hw3 hg3 hb2 HBw HTop
    go_wp2_with fail
    go_region_held3 (fun w' => w'.cell? ⟨b, 0, none⟩ = some (.int .i64 (q : Int)) ∧ w'.cell? ⟨b, 2, none⟩ = some (.pointer tp)) (go_keep)
      (first
        | (go_at_call 30; (with_reducible refine Calls.mono (HJ.out _ ?_) ?_); (first | exact Below.refl _ _ | exact (Below.refl _ _).drew); rintro e w5 ⟨hg5, h5, p5, rfl, m5, q5, o5⟩; have HF : Hid _ := HE.out w5 51 w5.heap.size (HB4.out.trans (hg5.mono HB4.out.size)) h5 p5 rfl m5 q5 o5; have c0 := cell_keeps hg5 c0; have c2 := cell_keeps hg5 c2; clear HJ m5 q5 o5 HE)
        | (go_at_call 31; (with_reducible refine Calls.mono (HT.out _ ?_) ?_); (first | exact Below.refl _ _ | exact (Below.refl _ _).drew); rintro e w4 ⟨p4, rfl, hg4, hj4⟩; have HB4 : Hid (Below w.heap.size w w4) := HBx.out.trans (((Below.refl _ _).drew.trans hg4).mono HBx.out.size); have HJ : Hid _ := hj4; have c0 := cell_keeps ((Below.refl _ _).drew.trans hg4) c0; have c2 := cell_keeps ((Below.refl _ _).drew.trans hg4) c2; clear HT hj4 hg4))
    go_wp2_with fail
    first | exact HF.out | (go_ret2; exact HF.out)

end Go.Proofs.Ytffjdpbobkdmfaa

namespace Go.Proofs.Ytffjdpbobkdmfaa
open Go.RowKit

theorem lies_one19 {d B : Nat} {w : World} {x : VT} {u : Value} (c0 : w.cell? ⟨B, 0, none⟩ = some (.int .i64 x.kind)) (c1 : w.cell? ⟨B, 1, none⟩ = some (.int .i64 x.num)) (c2 : w.cell? ⟨B, 2, none⟩ = some (.string x.text)) (c3 : w.cell? ⟨B, 3, none⟩ = some u) (hu : Lies d w x.items u) (ht : x.text.size ≤ 9223372036854775807) : Lies (d + 1) w [x] (.slice (some ⟨B, 0, none⟩) 1 1) := by
  refine ⟨_, _, rfl, by simp, fun _ => ⟨B, 0, rfl, fun i hi => ?_⟩⟩
  match i, hi with
  | 0, _ => exact ⟨u, by simpa using c0, by simpa using c1, by simpa using c2, by simpa using c3, hu, ht⟩

/-- What Push tells. -/
def PushPost (X : Nat → Prop) (d q : Nat) (I : List VT) (x : VT) (w : World) (e : Ending) (w' : World) : Prop :=
  Below w.heap.size w w' ∧ ((rightV d x = false ∧ e = .returned (.tuple #[.pointer none, .int .i64 3])) ∨ (rightV d x = true ∧ 65536 ≤ I.length ∧ e = .returned (.tuple #[.pointer none, .int .i64 2])) ∨
    (rightV d x = true ∧ I.length < 65536 ∧ ∃ p, e = .returned (.tuple #[.pointer p, .int .i64 0]) ∧ QM X w' q (I ++ [x]) p))

theorem one_err19 (d q : Nat) (hq : q < 6) (x : VT) : lookE d (q : Int) [x] = if rightV d x = true then 0 else 3 := by
  unfold lookE listErr
  rw [if_neg (by omega), if_neg (by simp)]
  simp

theorem of19_one (X : Nat → Prop) (d q : Nat) (x : VT) (hq : q < 6) (V : World) : ∀ e w', OfPost X d q [x] V e w' → ∃ p1 E, e = .returned (.tuple #[.pointer p1, .int .i64 E]) ∧ Below V.heap.size V w' ∧ ((rightV d x = false ∧ E = 3 ∧ p1 = none) ∨ (rightV d x = true ∧ E = 0 ∧ QM X w' q [x] p1)) := by
  rintro e w' ⟨hb, ⟨h0, rfl⟩ | ⟨h0, p, rfl, hm⟩⟩
  · rw [one_err19 d q hq x] at h0
    by_cases hr : rightV d x = true
    · rw [if_pos hr] at h0; exact absurd rfl h0
    · exact ⟨none, _, rfl, hb, .inl ⟨by simpa using hr, by rw [one_err19 d q hq x, if_neg hr], rfl⟩⟩
  · rw [one_err19 d q hq x] at h0
    by_cases hr : rightV d x = true
    · exact ⟨p, 0, rfl, hb, .inr ⟨hr, rfl, hm⟩⟩
    · rw [if_neg hr] at h0; cases h0

set_option maxRecDepth 100000 in
set_option maxHeartbeats 8000000 in
theorem push_any19 {X : Nat → Prop} (d : Nat) {q : Nat} {I : List VT} {p : Option Addr} (x : VT) (u : Value) {w : World} (h : QN X w q I p) (hX : ∀ b, w.heap.size ≤ b → X b) (hu : Lies d w x.items u) (ht : x.text.size ≤ 9223372036854775807) :
    Calls Try.prog 13 #[.pointer p, .agg #[.int .i64 x.kind, .int .i64 x.num, .string x.text, u]] w (PushPost X d q I x w) := by
  obtain ⟨a, c, rfl, _⟩ := Lies.slice hu
  have hb0 : Below w.heap.size w (w.alloc (.cells #[.int .i64 x.kind, .int .i64 x.num, .string x.text, .slice a x.items.length c] 30)) := ((Grew.refl w).alloc _).below
  have HBx : Hid (Boxed (w.alloc (.cells #[.int .i64 x.kind, .int .i64 x.num, .string x.text, .slice a x.items.length c] 30)) w.heap.size x.kind x.num x.text (.slice a x.items.length c)) := boxed_alloc w _ _ _ _ _
  have HC : Hid _ := own_any19 (h.keeps hb0)
  have HU : Hid (Lies d w x.items (.slice a x.items.length c)) := hu
  have HX : Hid (∀ b, w.heap.size ≤ b → X b) := hX
  clear h hu hX
  go_enter Try.func13, Try.ntmps13
  go_wp2_with fail
  refine Calls.mono HC.out ?_
  rintro e w1 ⟨b, rfl, hc, hg1⟩
  have hb1 : Below w.heap.size w w1 := hb0.trans (hg1.mono (by simp))
  obtain ⟨x0, x1, x2, x3⟩ := HBx.out.keeps hg1
  have HQ : Hid (QC X w1 q I b) := hc
  have c0 := hc.order
  have hbl : b < w1.heap.size := cell_lt c0
  have hwl : w.heap.size < w1.heap.size := cell_lt x0
  have HO : Hid (∀ V B, Below w1.heap.size w1 V → V.cell? ⟨B, 0, none⟩ = some (.int .i64 x.kind) → V.cell? ⟨B, 1, none⟩ = some (.int .i64 x.num) → V.cell? ⟨B, 2, none⟩ = some (.string x.text) → V.cell? ⟨B, 3, none⟩ = some (.slice a x.items.length c) → Calls Try.prog 5 #[.int .i64 (q : Int), .slice (some ⟨B, 0, none⟩) 1 1] V fun e w' => ∃ p1 E, e = .returned (.tuple #[.pointer p1, .int .i64 E]) ∧ Below V.heap.size V w' ∧ ((rightV d x = false ∧ E = 3 ∧ p1 = none) ∨ (rightV d x = true ∧ E = 0 ∧ QM X w' q [x] p1))) := by
    intro V B hV k0 k1 k2 k3
    refine Calls.mono ?_ (of19_one X d q x HQ.out.lt V)
    exact of_any19 X d q [x] _ V (lies_one19 k0 k1 k2 k3 (Lies.keeps (hb1.trans (hV.mono hb1.size)) _ _ _ HU.out) ht) (fun b' hb' => HX.out b' (Nat.le_trans (hb1.trans (hV.mono hb1.size)).size hb'))
  have HB1 : Hid (Below w.heap.size w w1) := hb1
  have z0 : ∀ A, (w1.alloc A).cell? ⟨b, 0, none⟩ = some (.int .i64 (q : Int)) := fun A => cell_keeps ((Grew.refl w1).alloc A).below c0
  clear HC hc hg1 HBx hb0 hb1
  go_wp2_with fail
  go_region_with (first | (go_at_call 5; (refine Calls.mono (HO.out _ w1.heap.size ?_ ?_ ?_ ?_ ?_) ?_); (first | exact ((Grew.refl w1).alloc _).below | exact ((Grew.refl w1).alloc _).drew.below); (simp); (simp); (simp); (simp); rintro e w2 ⟨p1, E, rfl, hg2, hE2⟩))
  all_goals have hb2 : Below w1.heap.size w1 w2 := (by first | exact ((Grew.refl w1).alloc _).below.trans (hg2.mono (by simp)) | exact ((Grew.refl w1).alloc _).drew.below.trans (hg2.mono (by simp)))
  all_goals have HB2 : Hid (Below w.heap.size w w2) := HB1.out.trans (hb2.mono HB1.out.size)
  all_goals have HM : Hid (∀ p1, QM X w2 q [x] p1 → Calls Try.prog 15 #[.pointer (some ⟨b, 0, none⟩), .pointer p1] w2 (MeldPost X q I [x] w2)) := fun p1 h1 => meld_any (.inr ⟨b, rfl, HQ.out.keeps hb2⟩) (.inr h1) (by simp)
  all_goals clear HO hg2 hb2 z0 x0 x1 x2 x3 c0 hbl hwl
  all_goals rcases hE2 with ⟨hr, rfl, rfl⟩ | ⟨hr, rfl, hq1⟩
  all_goals first
    | (have HE : Hid (PushPost X d q I x w (.returned (.tuple #[.pointer none, .int .i64 3])) w2) := ⟨HB2.out, .inl ⟨hr, rfl⟩⟩
       clear HM hr
       go_wp2_with fail
       go_ret2
       exact HE.out)
    | (have HM1 : Hid _ := HM.out p1 hq1
       have HR : Hid (rightV d x = true) := hr
       clear HM hr hq1
       go_wp2_with fail
       refine Calls.mono HM1.out ?_
       rintro e w3 ⟨hb3, ⟨h0, rfl⟩ | ⟨h0, p3, rfl, hm3⟩⟩
       · have HE : Hid (PushPost X d q I x w (.returned (.tuple #[.pointer none, .int .i64 2])) w3) := ⟨HB2.out.trans (hb3.mono HB2.out.size), .inr (.inl ⟨HR.out, by simp at h0; omega, rfl⟩)⟩
         clear HM1 hb3 h0
         go_wp2_with fail
         go_ret2
         exact HE.out
       · have HE : Hid (PushPost X d q I x w (.returned (.tuple #[.pointer p3, .int .i64 0])) w3) := ⟨HB2.out.trans (hb3.mono HB2.out.size), .inr (.inr ⟨HR.out, by simp at h0; omega, p3, rfl, hm3⟩)⟩
         clear HM1 hb3 h0 hm3
         go_wp2_with fail
         go_ret2
         exact HE.out)

end Go.Proofs.Ytffjdpbobkdmfaa

namespace Go.Proofs.Ytffjdpbobkdmfaa
open Go.RowKit Go.Shelf

/-- A number as a value's tree. -/
def num19 (n : Int) : VT := ⟨2, n, ⟨#[]⟩, []⟩
def pair19 (n : Int) : VT × Value := (num19 n, .slice none 0 0)

theorem right_num19 (n : Int) : rightV 0 (num19 n) = true := by
  simp [rightV, fw, rpV, ownV, okNum, okText, okItems, num19]

theorem nums_cells19 (zs : List Int) : zs.flatMap cellsInt = (zs.map pair19).flatMap encP := by
  induction zs with
  | nil => rfl
  | cons z zs ih => rw [List.flatMap_cons, List.map_cons, List.flatMap_cons, ih]; rfl

theorem nums_lies19 {w : World} {b c : Nat} (zs : List Int) (h : RowAt w b 0 (zs.map pair19)) (hl : zs.length ≤ 1000) (hc : zs.length ≤ c) : Lies 1 w (zs.map num19) (.slice (some ⟨b, 0, none⟩) zs.length c) := by
  have := lies_of_row (d := 0) (c := c) h (fun p hp => by
    obtain ⟨z, _, rfl⟩ := List.mem_map.1 hp
    exact ⟨⟨rfl, none, 0, rfl⟩, by show 0 ≤ 9223372036854775807; omega⟩) (by simp; omega) (by simpa using hc)
  simpa [List.map_map, Function.comp_def, pair19] using this

theorem nums_err19 (zs : List Int) (h : zs.length ≤ 1000) : listErr 0 (zs.map num19) = 0 := by
  unfold listErr
  rw [if_neg (by simp; omega), if_pos (by
    rw [List.all_eq_true]
    intro x hx
    obtain ⟨z, _, rfl⟩ := List.mem_map.1 hx
    exact right_num19 z)]

set_option maxHeartbeats 1000000 in
/-- Numbers as values. -/
theorem nums_any19 (zs : List Int) (b cap : Nat) (w : World) (h0 : zs ≠ []) (hz : zs.length ≤ 1000) (hc : ∀ (i : Nat) (h : i < zs.length), w.cell? ⟨b, 0 + i, none⟩ = some (.int .i64 (zs[i]'h))) :
    Calls Try.prog 23 #[.slice (some ⟨b, 0, none⟩) zs.length cap] w fun e w' => ∃ g c, e = .returned (.slice (some ⟨g, 0, none⟩) zs.length c) ∧ Lies 1 w' (zs.map num19) (.slice (some ⟨g, 0, none⟩) zs.length c) ∧ Below w.heap.size w w' := by
  refine (ints_any b zs cap w hz hc).mono ?_
  rintro e w1 ⟨v, rfl, hown, hb⟩
  rw [nums_cells19] at hown
  obtain ⟨g, c, rfl, _, hcp, _, hrow, _⟩ := own_row (ps := zs.map pair19) (by simpa using hown) (by simpa using h0)
  refine ⟨g, c, by simp, nums_lies19 zs hrow hz (by simpa using hcp), hb⟩

theorem srt_four19 : srtV 0 ([3, 1, 2, 1].map num19) = [1, 1, 2, 3].map num19 := by kernel_rfl

theorem look_four19 : lookE 0 0 ([3, 1, 2, 1].map num19) = 0 := by unfold lookE; rw [if_neg (by omega)]; exact nums_err19 _ (by simp)

set_option maxRecDepth 100000 in
set_option maxHeartbeats 4000000 in
theorem speaks19_any (w : World) : Calls Try.prog 6 #[] w fun e w' => e = .returned (.bool true) ∧ Below w.heap.size w w' := by
  go_enter Try.func6, Try.ntmps6
  go_wp2_with fail
  refine (nums_any19 [3, 1, 2, 1] w.heap.size 4 _ (by simp) (by simp) ?_).mono ?_
  · intro i hi
    match i, hi with
    | 0, _ => simp
    | 1, _ => simp
    | 2, _ => simp
    | 3, _ => simp
  rintro e w1 ⟨g1, c1, rfl, hL1, hb⟩
  have hb1 : Below w.heap.size w w1 := ((Grew.refl w).alloc _).below.trans (hb.mono (by simp))
  have HL1 : Hid (Lies 1 w1 ([3, 1, 2, 1].map num19) (.slice (some ⟨g1, 0, none⟩) 4 c1)) := hL1
  clear hL1 hb
  go_wp2_with fail
  refine (of_any19 (fun _ => True) 0 0 ([3, 1, 2, 1].map num19) _ _ HL1.out (fun _ _ => trivial)).mono ?_
  rintro e w2 ⟨hb, ⟨h0, _⟩ | ⟨_, p, rfl, hq⟩⟩
  · exact absurd look_four19 h0
  have hb2 : Below w.heap.size w w2 := hb1.trans (hb.mono hb1.size)
  obtain ⟨b, rfl, hc⟩ := hq
  have HQ : Hid (QC (fun _ => True) w2 0 ([3, 1, 2, 1].map num19) b) := hc
  clear hc hb HL1 hb1
  have HMin : Hid (Calls Try.prog 11 #[.pointer (some ⟨b, 0, none⟩)] w2 fun e w' => ∃ a c, e = .returned (.tuple #[.agg #[.int .i64 2, .int .i64 1, .string ⟨#[]⟩, .slice a 0 c], .int .i64 0]) ∧ Below w2.heap.size w2 w') := by
    refine Calls.mono (min_any19 (.inr ⟨b, rfl, HQ.out⟩)) ?_
    rintro e w' ⟨hb, ⟨h0, _⟩ | ⟨x, m, v, h0, rfl, hL, _⟩⟩
    · cases h0
    · rw [srt_four19] at h0
      injection h0 with h1 _
      subst h1
      obtain ⟨a, c, rfl, _⟩ := LiesB.slice hL
      exact ⟨a, c, rfl, hb⟩
  go_wp2_with fail
  refine Calls.mono HMin.out ?_
  rintro e w3 ⟨a3, c3, rfl, hb⟩
  have hg3 : Below w2.heap.size w2 (w3.alloc (.cells #[.int .i64 2, .int .i64 1, .string ⟨#[]⟩, .slice a3 0 c3] 30)) := hb.alloc hb.size _
  have hb3 : Below w.heap.size w (w3.alloc (.cells #[.int .i64 2, .int .i64 1, .string ⟨#[]⟩, .slice a3 0 c3] 30)) := hb2.trans (hg3.mono hb2.size)
  have HQ3 : Hid (QC (fun _ => True) (w3.alloc (.cells #[.int .i64 2, .int .i64 1, .string ⟨#[]⟩, .slice a3 0 c3] 30)) 0 ([3, 1, 2, 1].map num19) b) := HQ.out.keeps hg3
  clear HMin HQ hb hg3 hb2
  go_wp2_with fail
  refine Calls.mono (len_any19 (.inr ⟨b, rfl, HQ3.out⟩)) ?_
  rintro e w4 ⟨rfl, hg⟩
  have hb4 : Below w.heap.size w w4 := hb3.trans (hg.mono hb3.size)
  have HQ4 : Hid (QC (fun _ => True) w4 0 ([3, 1, 2, 1].map num19) b) := HQ3.out.keeps hg
  clear HQ3 hg hb3
  go_wp2_with fail
  refine Calls.mono (sorted_any19 (.inr ⟨b, rfl, HQ4.out⟩)) ?_
  rintro e w5 ⟨v5, rfl, hL5, hg⟩
  have hb5 : Below w.heap.size w w5 := hb4.trans (hg.mono hb4.size)
  have hL5' := LiesB.lies _ _ _ hL5
  rw [srt_four19] at hL5'
  obtain ⟨a5, c5, rfl, _⟩ := Lies.slice hL5'
  have hb5' : Below w.heap.size w (w5.alloc (.cells #[.int .i64 1, .int .i64 1, .int .i64 2, .int .i64 3] 2)) := hb5.alloc hb5.size _
  have HL5 : Hid (Lies 17 (w5.alloc (.cells #[.int .i64 1, .int .i64 1, .int .i64 2, .int .i64 3] 2)) ([1, 1, 2, 3].map num19) (.slice a5 4 c5)) := Lies.keeps ((Grew.refl _).alloc _).below _ _ _ hL5'
  clear HQ4 hg hL5 hL5' hb4 hb5
  go_wp2_with fail
  refine (nums_any19 [1, 1, 2, 3] w5.heap.size 4 _ (by simp) (by simp) ?_).mono ?_
  · intro i hi
    match i, hi with
    | 0, _ => simp
    | 1, _ => simp
    | 2, _ => simp
    | 3, _ => simp
  rintro e w6 ⟨g6, c6, rfl, hL6, hb⟩
  have hb6 : Below w.heap.size w w6 := hb5'.trans (hb.mono hb5'.size)
  have HL6 : Hid (Lies 17 w6 ([1, 1, 2, 3].map num19) (.slice (some ⟨g6, 0, none⟩) 4 c6)) := hL6.atLeast 17 (by omega)
  have HV6 : Hid (Lies 17 w6 ([1, 1, 2, 3].map num19) (.slice a5 4 c5)) := Lies.keeps hb _ _ _ HL5.out
  clear hL6 hb HL5 hb5'
  go_wp2_with fail
  refine (values_one 16 ([1, 1, 2, 3].map num19) _ _ _ HV6.out HL6.out (by simp)).mono ?_
  rintro e w7 ⟨rfl, hb⟩
  have hb7 : Below w.heap.size w w7 := hb6.trans (hb.mono hb6.size)
  clear hb HL6 HV6 hb6
  go_wp2_with fail
  go_ret
  exact ⟨rfl, hb7⟩

end Go.Proofs.Ytffjdpbobkdmfaa

namespace Go.Proofs.Ytffjdpbobkdmfaa
open Go.RowKit Go.Shelf

/-- Of nothing is fine. -/
theorem look_none19 (q : Nat) (hq : q < 6) : lookE 16 (q : Int) [] = 0 := by
  unfold lookE listErr
  rw [if_neg (by omega), if_neg (by simp), if_pos (by rfl)]

theorem new_ok19 (X : Nat → Prop) (q : Nat) (hq : q < 6) (w : World) (hX : ∀ b, w.heap.size ≤ b → X b) : Calls Try.prog 14 #[.int .i64 (q : Int)] w fun e w' => ∃ b, e = .returned (.tuple #[.pointer (some ⟨b, 0, none⟩), .int .i64 0]) ∧ QC X w' q [] b ∧ Below w.heap.size w w' := by
  refine Calls.mono (new_any19 X (q : Int) w hX) ?_
  rintro e w' ⟨hb, ⟨h0, _⟩ | ⟨_, p, rfl, b, rfl, hc⟩⟩
  · exact absurd (look_none19 q hq) h0
  · exact ⟨b, rfl, hc, hb⟩

theorem meld_none19 (X : Nat → Prop) (b : Nat) (w : World) (h : QC X w 0 [] b) : Calls Try.prog 15 #[.pointer none, .pointer (some ⟨b, 0, none⟩)] w fun e w' => ∃ c, e = .returned (.tuple #[.pointer (some ⟨c, 0, none⟩), .int .i64 0]) ∧ QC X w' 0 [] c ∧ Below w.heap.size w w' := by
  refine Calls.mono (meld_any (.inl ⟨rfl, rfl, rfl⟩) (.inr ⟨b, rfl, h⟩) (by simp)) ?_
  rintro e w' ⟨hb, ⟨h0, _⟩ | ⟨_, p, rfl, c, rfl, hc⟩⟩
  · simp at h0
  · exact ⟨c, rfl, hc, hb⟩

theorem min_none19 (w : World) : Calls Try.prog 11 #[.pointer none] w fun e w' => e = .returned (.tuple #[.agg #[.int .i64 0, .int .i64 0, .string ⟨#[]⟩, .slice none 0 0], .int .i64 6]) ∧ Below w.heap.size w w' := by
  refine Calls.mono (min_any19 (X := fun _ => True) (q := 0) (.inl ⟨rfl, rfl, rfl⟩)) ?_
  rintro e w' ⟨hb, ⟨_, rfl⟩ | ⟨x, m, _, h0, _⟩⟩
  · exact ⟨rfl, hb⟩
  · cases h0

theorem push_no19 (d : Nat) {p : Option Addr} (x : VT) (u : Value) {w : World} (h : QN (fun _ => True) w 0 [] p) (hu : Lies d w x.items u) (ht : x.text.size ≤ 9223372036854775807) (hr : rightV d x = false) :
    Calls Try.prog 13 #[.pointer p, .agg #[.int .i64 x.kind, .int .i64 x.num, .string x.text, u]] w fun e w' => e = .returned (.tuple #[.pointer none, .int .i64 3]) ∧ Below w.heap.size w w' := by
  refine Calls.mono (push_any19 d x u h (fun _ _ => trivial) hu ht) ?_
  rintro e w' ⟨hb, ⟨_, rfl⟩ | ⟨h0, _⟩ | ⟨h0, _⟩⟩
  · exact ⟨rfl, hb⟩
  · rw [hr] at h0; cases h0
  · rw [hr] at h0; cases h0

theorem push_yes19 (d : Nat) {p : Option Addr} (x : VT) (u : Value) {w : World} (h : QN (fun _ => True) w 0 [] p) (hu : Lies d w x.items u) (ht : x.text.size ≤ 9223372036854775807) (hr : rightV d x = true) :
    Calls Try.prog 13 #[.pointer p, .agg #[.int .i64 x.kind, .int .i64 x.num, .string x.text, u]] w fun e w' => ∃ b, e = .returned (.tuple #[.pointer (some ⟨b, 0, none⟩), .int .i64 0]) ∧ QC (fun _ => True) w' 0 [x] b ∧ Below w.heap.size w w' := by
  refine Calls.mono (push_any19 d x u h (fun _ _ => trivial) hu ht) ?_
  rintro e w' ⟨hb, ⟨h0, _⟩ | ⟨_, h0, _⟩ | ⟨_, _, p, rfl, b, rfl, hc⟩⟩
  · rw [hr] at h0; cases h0
  · simp at h0
  · exact ⟨b, rfl, hc, hb⟩

set_option maxRecDepth 100000 in
set_option maxHeartbeats 8000000 in
theorem nil_yes19 (d : Nat) (x : VT) (u : Value) (w : World) (hu : Lies d w x.items u) (ht : x.text.size ≤ 9223372036854775807) (hr : rightV d x = true) :
    Calls Try.prog 4 #[.agg #[.int .i64 x.kind, .int .i64 x.num, .string x.text, u]] w fun e w' => e = .returned (.bool true) ∧ Below w.heap.size w w' := by
  obtain ⟨a, c, rfl, _⟩ := Lies.slice hu
  have HU : Hid (Lies d w x.items (.slice a x.items.length c)) := hu
  have HR : Hid (rightV d x = true) := hr
  obtain ⟨w0, hw0⟩ : ∃ w0, w0 = w.alloc (.cells #[.int .i64 x.kind, .int .i64 x.num, .string x.text, .slice a x.items.length c] 30) := ⟨_, rfl⟩
  have hb0 : Below w.heap.size w w0 := by rw [hw0]; exact ((Grew.refl w).alloc _).below
  have HBx : Hid (Boxed w0 w.heap.size x.kind x.num x.text (.slice a x.items.length c)) := by rw [hw0]; exact boxed_alloc w _ _ _ _ _
  have HB0 : Hid (Below w.heap.size w w0) := hb0
  clear hu hr hb0
  go_enter Try.func4, Try.ntmps4
  go_wp2_with fail
  rw [← hw0]
  clear hw0
  refine Calls.mono (push_yes19 d x _ (.inl ⟨rfl, rfl, rfl⟩) (Lies.keeps HB0.out _ _ _ HU.out) ht HR.out) ?_
  rintro e w1 ⟨b1, rfl, hc1, hg1⟩
  have HQ1 : Hid (QC (fun _ => True) w1 0 [x] b1) := hc1
  clear hc1
  have HB1 : Hid (Below w.heap.size w w1) := HB0.out.trans (hg1.mono HB0.out.size)
  have HX1 : Hid (Boxed w1 w.heap.size x.kind x.num x.text (.slice a x.items.length c)) := HBx.out.keeps hg1
  clear hg1 HB0 HBx
  go_wp2_with fail
  refine Calls.mono (new_ok19 (fun _ => True) 0 (by omega) w1 (fun _ _ => trivial)) ?_
  rintro e w2 ⟨b2, rfl, hc2, hg2⟩
  have HQ2 : Hid (QC (fun _ => True) w2 0 [] b2) := hc2
  have HB2 : Hid (Below w.heap.size w w2) := HB1.out.trans (hg2.mono HB1.out.size)
  obtain ⟨x0, x1, x2, x3⟩ := HX1.out.keeps hg2
  have HQ1 : Hid (QC (fun _ => True) w2 0 [x] b1) := HQ1.out.keeps hg2
  clear hc2 hg2 HB1 HX1
  go_wp2_with fail
  refine Calls.mono (push_yes19 d x _ (.inr ⟨b2, rfl, HQ2.out⟩) (Lies.keeps HB2.out _ _ _ HU.out) ht HR.out) ?_
  rintro e w3 ⟨b3, rfl, hc3, hg3⟩
  have HQ3 : Hid (QC (fun _ => True) w3 0 [x] b3) := hc3
  have HQ1 : Hid (QC (fun _ => True) w3 0 [x] b1) := HQ1.out.keeps hg3
  clear hc3
  have HQ2 : Hid (QC (fun _ => True) w3 0 [] b2) := HQ2.out.keeps hg3
  have HB3 : Hid (Below w.heap.size w w3) := HB2.out.trans (hg3.mono HB2.out.size)
  clear hg3 HB2 x0 x1 x2 x3
  go_wp2_with fail
  refine Calls.mono (min_none19 w3) ?_
  rintro e w4 ⟨rfl, hg4⟩
  obtain ⟨w5, hw5⟩ : ∃ w5, w5 = w4.alloc (.cells #[.int .i64 0, .int .i64 0, .string ⟨#[]⟩, .slice none 0 0] 30) := ⟨_, rfl⟩
  have hg5 : Below w3.heap.size w3 w5 := by rw [hw5]; exact hg4.alloc hg4.size _
  have HQ2 : Hid (QC (fun _ => True) w5 0 [] b2) := HQ2.out.keeps hg5
  have HB5 : Hid (Below w.heap.size w w5) := HB3.out.trans (hg5.mono HB3.out.size)
  have HQ1 : Hid (QC (fun _ => True) w5 0 [x] b1) := HQ1.out.keeps hg5
  have HQ3 : Hid (QC (fun _ => True) w5 0 [x] b3) := HQ3.out.keeps hg5
  clear hg4 hg5 HB3
  go_wp2_with fail
  rw [← hw5]
  clear hw5
  refine Calls.mono (meld_none19 (fun _ => True) b2 w5 HQ2.out) ?_
  rintro e w6 ⟨b6, rfl, hc6, hg6⟩
  have HQ6 : Hid (QC (fun _ => True) w6 0 [] b6) := hc6
  have HB6 : Hid (Below w.heap.size w w6) := HB5.out.trans (hg6.mono HB5.out.size)
  have HQ1 : Hid (QC (fun _ => True) w6 0 [x] b1) := HQ1.out.keeps hg6
  have HQ3 : Hid (QC (fun _ => True) w6 0 [x] b3) := HQ3.out.keeps hg6
  clear hc6 hg6 HB5 HQ2
  go_wp2_with fail
  refine Calls.mono (len_any19 (.inr ⟨b6, rfl, HQ6.out⟩)) ?_
  rintro e w7 ⟨rfl, hg7⟩
  have HB7 : Hid (Below w.heap.size w w7) := HB6.out.trans (hg7.mono HB6.out.size)
  have HQ1 : Hid (QC (fun _ => True) w7 0 [x] b1) := HQ1.out.keeps hg7
  have HQ3 : Hid (QC (fun _ => True) w7 0 [x] b3) := HQ3.out.keeps hg7
  clear hg7 HB6 HQ6
  go_wp2_with fail
  refine Calls.mono (len_any19 (X := fun _ => True) (q := 0) (I := []) (.inl ⟨rfl, rfl, rfl⟩)) ?_
  rintro e w8 ⟨rfl, hg8⟩
  have HB8 : Hid (Below w.heap.size w w8) := HB7.out.trans (hg8.mono HB7.out.size)
  have HQ1 : Hid (QC (fun _ => True) w8 0 [x] b1) := HQ1.out.keeps hg8
  have HQ3 : Hid (QC (fun _ => True) w8 0 [x] b3) := HQ3.out.keeps hg8
  clear hg8 HB7
  go_wp2_with fail
  refine Calls.mono (order_any19 (X := fun _ => True) (q := 0) (I := []) (.inl ⟨rfl, rfl, rfl⟩)) ?_
  rintro e w9 ⟨rfl, hg9⟩
  have HB9 : Hid (Below w.heap.size w w9) := HB8.out.trans (hg9.mono HB8.out.size)
  have HQ1 : Hid (QC (fun _ => True) w9 0 [x] b1) := HQ1.out.keeps hg9
  have HQ3 : Hid (QC (fun _ => True) w9 0 [x] b3) := HQ3.out.keeps hg9
  clear hg9 HB8
  go_wp2_with fail
  refine Calls.mono (len_any19 (.inr ⟨b1, rfl, HQ1.out⟩)) ?_
  rintro e w10 ⟨rfl, hg10⟩
  have HB10 : Hid (Below w.heap.size w w10) := HB9.out.trans (hg10.mono HB9.out.size)
  have HQ1 : Hid (QC (fun _ => True) w10 0 [x] b1) := HQ1.out.keeps hg10
  have HQ3 : Hid (QC (fun _ => True) w10 0 [x] b3) := HQ3.out.keeps hg10
  clear hg10 HB9
  go_wp2_with fail
  refine Calls.mono (sorted_any19 (.inr ⟨b1, rfl, HQ1.out⟩)) ?_
  rintro e w11 ⟨v11, rfl, hL11, hg11⟩
  have HB11 : Hid (Below w.heap.size w w11) := HB10.out.trans (hg11.mono HB10.out.size)
  have HQ3 : Hid (QC (fun _ => True) w11 0 [x] b3) := HQ3.out.keeps hg11
  have HL11 : Hid (Lies 17 w11 (srtV 0 [x]) v11) := LiesB.lies _ _ _ hL11
  clear hg11 HB10 hL11 HQ1
  obtain ⟨a11, c11, rfl, _⟩ := Lies.slice HL11.out
  go_wp2_with fail
  refine Calls.mono (sorted_any19 (.inr ⟨b3, rfl, HQ3.out⟩)) ?_
  rintro e w12 ⟨v12, rfl, hL12, hg12⟩
  have HB12 : Hid (Below w.heap.size w w12) := HB11.out.trans (hg12.mono HB11.out.size)
  have HL11 : Hid (Lies 17 w12 (srtV 0 [x]) (.slice a11 (srtV 0 [x]).length c11)) := Lies.keeps hg12 _ _ _ HL11.out
  have HL12 : Hid (Lies 17 w12 (srtV 0 [x]) v12) := LiesB.lies _ _ _ hL12
  clear hg12 HB11 hL12 HQ3
  obtain ⟨a12, c12, rfl, _⟩ := Lies.slice HL12.out
  go_wp2_with fail
  refine Calls.mono (values_one 16 (srtV 0 [x]) _ _ w12 HL11.out HL12.out (by rw [srtV_len]; simp)) ?_
  rintro e w13 ⟨rfl, hg13⟩
  have HB13 : Hid (Below w.heap.size w w13) := HB12.out.trans (hg13.mono HB12.out.size)
  clear hg13 HB12 HL11 HL12
  go_wp2_with fail
  refine Calls.mono (speaks19_any w13) ?_
  rintro e w20 ⟨rfl, hg20⟩
  have HB20 : Hid (Below w.heap.size w w20) := HB13.out.trans (hg20.mono HB13.out.size)
  clear hg20 HB13
  go_wp2_with fail
  go_ret
  exact ⟨rfl, HB20.out⟩

set_option maxRecDepth 100000 in
set_option maxHeartbeats 8000000 in
theorem nil_no19 (d : Nat) (x : VT) (u : Value) (w : World) (hu : Lies d w x.items u) (ht : x.text.size ≤ 9223372036854775807) (hr : rightV d x = false) :
    Calls Try.prog 4 #[.agg #[.int .i64 x.kind, .int .i64 x.num, .string x.text, u]] w fun e w' => e = .returned (.bool true) ∧ Below w.heap.size w w' := by
  obtain ⟨a, c, rfl, _⟩ := Lies.slice hu
  have HU : Hid (Lies d w x.items (.slice a x.items.length c)) := hu
  have HR : Hid (rightV d x = false) := hr
  obtain ⟨w0, hw0⟩ : ∃ w0, w0 = w.alloc (.cells #[.int .i64 x.kind, .int .i64 x.num, .string x.text, .slice a x.items.length c] 30) := ⟨_, rfl⟩
  have hb0 : Below w.heap.size w w0 := by rw [hw0]; exact ((Grew.refl w).alloc _).below
  have HBx : Hid (Boxed w0 w.heap.size x.kind x.num x.text (.slice a x.items.length c)) := by rw [hw0]; exact boxed_alloc w _ _ _ _ _
  have HB0 : Hid (Below w.heap.size w w0) := hb0
  clear hu hr hb0
  go_enter Try.func4, Try.ntmps4
  go_wp2_with fail
  rw [← hw0]
  clear hw0
  refine Calls.mono (push_no19 d x _ (.inl ⟨rfl, rfl, rfl⟩) (Lies.keeps HB0.out _ _ _ HU.out) ht HR.out) ?_
  rintro e w1 ⟨rfl, hg1⟩
  have HB1 : Hid (Below w.heap.size w w1) := HB0.out.trans (hg1.mono HB0.out.size)
  have HX1 : Hid (Boxed w1 w.heap.size x.kind x.num x.text (.slice a x.items.length c)) := HBx.out.keeps hg1
  clear hg1 HB0 HBx
  go_wp2_with fail
  refine Calls.mono (new_ok19 (fun _ => True) 0 (by omega) w1 (fun _ _ => trivial)) ?_
  rintro e w2 ⟨b2, rfl, hc2, hg2⟩
  have HQ2 : Hid (QC (fun _ => True) w2 0 [] b2) := hc2
  have HB2 : Hid (Below w.heap.size w w2) := HB1.out.trans (hg2.mono HB1.out.size)
  obtain ⟨x0, x1, x2, x3⟩ := HX1.out.keeps hg2
  clear hc2 hg2 HB1 HX1
  go_wp2_with fail
  refine Calls.mono (push_no19 d x _ (.inr ⟨b2, rfl, HQ2.out⟩) (Lies.keeps HB2.out _ _ _ HU.out) ht HR.out) ?_
  rintro e w3 ⟨rfl, hg3⟩
  have HQ2 : Hid (QC (fun _ => True) w3 0 [] b2) := HQ2.out.keeps hg3
  have HB3 : Hid (Below w.heap.size w w3) := HB2.out.trans (hg3.mono HB2.out.size)
  clear hg3 HB2 x0 x1 x2 x3
  go_wp2_with fail
  refine Calls.mono (min_none19 w3) ?_
  rintro e w4 ⟨rfl, hg4⟩
  obtain ⟨w5, hw5⟩ : ∃ w5, w5 = w4.alloc (.cells #[.int .i64 0, .int .i64 0, .string ⟨#[]⟩, .slice none 0 0] 30) := ⟨_, rfl⟩
  have hg5 : Below w3.heap.size w3 w5 := by rw [hw5]; exact hg4.alloc hg4.size _
  have HQ2 : Hid (QC (fun _ => True) w5 0 [] b2) := HQ2.out.keeps hg5
  have HB5 : Hid (Below w.heap.size w w5) := HB3.out.trans (hg5.mono HB3.out.size)
  clear hg4 hg5 HB3
  go_wp2_with fail
  rw [← hw5]
  clear hw5
  refine Calls.mono (meld_none19 (fun _ => True) b2 w5 HQ2.out) ?_
  rintro e w6 ⟨b6, rfl, hc6, hg6⟩
  have HQ6 : Hid (QC (fun _ => True) w6 0 [] b6) := hc6
  have HB6 : Hid (Below w.heap.size w w6) := HB5.out.trans (hg6.mono HB5.out.size)
  clear hc6 hg6 HB5 HQ2
  go_wp2_with fail
  refine Calls.mono (len_any19 (.inr ⟨b6, rfl, HQ6.out⟩)) ?_
  rintro e w7 ⟨rfl, hg7⟩
  have HB7 : Hid (Below w.heap.size w w7) := HB6.out.trans (hg7.mono HB6.out.size)
  clear hg7 HB6 HQ6
  go_wp2_with fail
  refine Calls.mono (len_any19 (X := fun _ => True) (q := 0) (I := []) (.inl ⟨rfl, rfl, rfl⟩)) ?_
  rintro e w8 ⟨rfl, hg8⟩
  have HB8 : Hid (Below w.heap.size w w8) := HB7.out.trans (hg8.mono HB7.out.size)
  clear hg8 HB7
  go_wp2_with fail
  refine Calls.mono (order_any19 (X := fun _ => True) (q := 0) (I := []) (.inl ⟨rfl, rfl, rfl⟩)) ?_
  rintro e w9 ⟨rfl, hg9⟩
  have HB9 : Hid (Below w.heap.size w w9) := HB8.out.trans (hg9.mono HB8.out.size)
  clear hg9 HB8
  go_wp2_with fail
  refine Calls.mono (speaks19_any w9) ?_
  rintro e w20 ⟨rfl, hg20⟩
  have HB20 : Hid (Below w.heap.size w w20) := HB9.out.trans (hg20.mono HB9.out.size)
  clear hg20 HB9
  go_wp2_with fail
  go_ret
  exact ⟨rfl, HB20.out⟩

theorem nil_walk19 (d : Nat) (x : VT) (u : Value) (w : World) (hu : Lies d w x.items u) (ht : x.text.size ≤ 9223372036854775807) :
    Calls Try.prog 4 #[.agg #[.int .i64 x.kind, .int .i64 x.num, .string x.text, u]] w fun e w' => e = .returned (.bool true) ∧ Below w.heap.size w w' := by
  cases hr : rightV d x with
  | true => exact nil_yes19 d x u w hu ht hr
  | false => exact nil_no19 d x u w hu ht hr

end Go.Proofs.Ytffjdpbobkdmfaa

