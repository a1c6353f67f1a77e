/-
  PairingSorts: the statement's walk.
-/
import Derived.Test.YtgmmocbgeilpiaaGreatMinQ
import Derived.Deep.RegionWith
import Derived.Test.YtgmmocbgeilpiaaGreatVals
import Derived.Test.YtgmmocbgeilpiaaGreatRunesP
import Derived.Test.YtgmmocbgeilpiaaGreatUniq
namespace Go.Proofs.YtgmmocbgeilpiaaGreat
open Go.RowKit

set_option maxRecDepth 100000 in
set_option maxHeartbeats 4000000 in
theorem new_any19 (X : Nat → Prop) (o : Int) (w : World) (hX : ∀ b, w.heap.size ≤ b → X b) : Calls Tryz.prog 10 #[.int .i64 o] w (OfPost X 16 o [] w) := by
  have hz : Lies 17 w [] (.slice none 0 0) := ⟨none, 0, rfl, by simp, fun h => absurd rfl h⟩
  have HC : Hid _ := of_any19 X 16 o [] _ w hz hX
  clear hz
  go_enter Tryz.func10, Tryz.ntmps10
  go_wp2_with fail
  refine Calls.mono HC.out ?_
  rintro e w1 ⟨hb, h⟩
  clear HC
  rcases h with ⟨h0, rfl⟩ | ⟨h0, p, rfl, hq⟩
  · have HE : Hid (OfPost X 16 o [] w (.returned (.tuple #[.pointer none, .int .i64 (lookE 16 o [])])) w1) := ⟨hb, .inl ⟨h0, rfl⟩⟩
    generalize lookE 16 o [] = E at *
    clear hb h0
    go_wp2_with fail
    go_ret2
    exact HE.out
  · have HE : Hid (OfPost X 16 o [] w (.returned (.tuple #[.pointer p, .int .i64 0])) w1) := ⟨hb, .inr ⟨h0, p, rfl, hq⟩⟩
    clear hb hq h0
    go_wp2_with fail
    go_ret2
    exact HE.out

set_option maxRecDepth 100000 in
set_option maxHeartbeats 4000000 in
theorem topBy_any {X : Nat → Prop} {q r : Nat} {I : List VT} {p : Option Addr} {w : World} (h : QN X w q I p) (hr : r < 6) : Calls Tryz.prog 39 #[.pointer p, .int .i64 (r : Int)] w (PairPost X r I w) := by
  have HC : Hid _ := own_any19 h
  have HR : Hid (r < 6) := hr
  clear h hr
  go_enter Tryz.func39, Tryz.ntmps39
  go_wp2_with fail
  refine Calls.mono HC.out ?_
  rintro e w1 ⟨b, rfl, hc, hb⟩
  obtain ⟨t, tp, h1, h2, h3, h4⟩ := hc.ex
  have c0 := hc.order
  clear HC
  by_cases hqr : q = r
  · subst hqr
    have HE : Hid (PairPost X q I w (.returned (.pointer tp)) w1) := ⟨hb, t, tp, rfl, h2, h3, h4⟩
    clear hc h2 h3 h4 hb
    go_wp2_with fail
    go_ret
    exact HE.out
  · have hqr' : ¬ (q : Int) = (r : Int) := by omega
    have hlen : (oItems t).length ≤ 65536 := by rw [h3.length_eq]; exact hc.le
    have HI : Hid (Calls Tryz.prog 48 #[.pointer tp] w1 fun e w2 => ∃ v, e = .returned v ∧ Below w1.heap.size w1 w2 ∧ (Calls Tryz.prog 23 #[v, fnBy w2.heap.size] (w2.alloc (.cells #[.int .i64 (r : Int)] 3)) (PairPost X r I (w2.alloc (.cells #[.int .i64 (r : Int)] 3))))) := by
      refine Calls.mono (items19_any X t tp w1 h2 hlen) ?_
      rintro e w2 ⟨hb2, v, l, rfl, hs, hp⟩
      have hp2 := hp.trans h3
      have hg : Below w2.heap.size w2 (w2.alloc (.cells #[.int .i64 (r : Int)] 3)) := ((Grew.refl w2).alloc _).below
      refine ⟨v, rfl, hb2, Calls.mono (grown_any19 X r w2.heap.size HR.out l v _ (hs.keeps hg) (by rw [hp2.length_eq]; exact hc.le) (by simp)) ?_⟩
      rintro e w3 ⟨k1, k2, k3, k4, k5, k6, k7⟩
      exact ⟨k1, k2, k3, k4, k5, k6.trans hp2, k7⟩
    have HB : Hid (Below w.heap.size w w1) := hb
    clear hc h2 h3 h4 hb hqr hlen
    go_wp2_with fail
    refine Calls.mono HI.out ?_
    rintro e w2 ⟨v, rfl, hb2, hgr⟩
    have HG : Hid _ := hgr
    have HB2 : Hid (Below w.heap.size w w2) := HB.out.trans (hb2.mono HB.out.size)
    clear HI hgr hb2 HB
    go_wp2_with fail
    refine Calls.mono (byOrder_any r w2) ?_
    rintro e w3 ⟨rfl, rfl⟩
    go_wp2_with fail
    refine Calls.mono HG.out ?_
    rintro e w4 ⟨k1, k2, k3, rfl, k5, k6, k7⟩
    have hbA : Below w.heap.size w (w2.alloc (.cells #[.int .i64 (r : Int)] 3)) := HB2.out.alloc HB2.out.size _
    have HE : Hid (PairPost X r I w (.returned (.pointer k3)) w4) := ⟨hbA.trans (k1.mono hbA.size), k2, k3, rfl, k5, k6, k7⟩
    clear HG k1 k5 k6 k7 hbA
    go_wp2_with fail
    go_ret
    exact HE.out

/-- What Meld tells. -/
def MeldPost (X : Nat → Prop) (q : Nat) (I J : List VT) (w : World) (e : Ending) (w' : World) : Prop :=
  Below w.heap.size w w' ∧ ((65536 < I.length + J.length ∧ e = .returned (.tuple #[.pointer none, .int .i64 2])) ∨ (I.length + J.length ≤ 65536 ∧ ∃ p, e = .returned (.tuple #[.pointer p, .int .i64 0]) ∧ QM X w' q (I ++ J) p))

set_option maxRecDepth 100000 in
set_option maxHeartbeats 8000000 in
theorem meld_any {X : Nat → Prop} {q r : Nat} {I J : List VT} {pa pb : Option Addr} {w : World} (ha : QN X w q I pa) (hb : QN X w r J pb) (hJ : J.length ≤ 65536) : Calls Tryz.prog 18 #[.pointer pa, .pointer pb] w (MeldPost X q I J w) := by
  have HC : Hid _ := own_any19 ha
  have HB : Hid (QN X w r J pb) := hb
  clear ha hb
  go_enter Tryz.func18, Tryz.ntmps18
  go_wp2_with fail
  refine Calls.mono HC.out ?_
  rintro e w1 ⟨b, rfl, hc, hb1⟩
  have HQ : Hid (QC X w1 q I b) := hc
  have c0 := hc.order
  have c1 := hc.size
  have hI := hc.le
  have HLn : Hid (∀ V, Below w1.heap.size w1 V → Calls Tryz.prog 17 #[.pointer pb] V fun e w' => e = .returned (.int .i64 (J.length : Int)) ∧ Below V.heap.size V w') := fun V hV => len_any19 ((HB.out.keeps hb1).keeps hV)
  have HB1 : Hid (QN X w1 r J pb) := HB.out.keeps hb1
  clear HC hc HB
  go_wp2_with fail
  go_region_held3 (fun w' => w'.cell? ⟨b, 1, none⟩ = some (.int .i64 (I.length : Int))) (go_keep)
    (first
      | (go_at_call 17; (with_reducible refine Calls.mono (HLn.out _ ?_) ?_); (first | exact Below.refl _ _ | exact (Below.refl _ _).drew); rintro e w2 ⟨rfl, hg2⟩; have hb2 : Below w1.heap.size w1 w2 := (Below.refl _ _).drew.trans hg2; have c0 := cell_keeps hb2 c0; have c1 := cell_keeps hb2 c1; clear hg2 HLn))
  obtain ⟨S, hS⟩ : ∃ S, S = I.length + J.length := ⟨_, rfl⟩
  have eS : IntKind.i64.wrap ((I.length : Int) + (J.length : Int)) = (S : Int) := by rw [IntKind.wrap_i64]; omega
  rw [eS]
  have HS : Hid (S = I.length + J.length) := hS
  have HBw : Hid (Below w.heap.size w w2) := hb1.trans (hb2.mono hb1.size)
  clear eS hI hJ hb1
  by_cases hbig : 65536 < S
  · have hbig' : (65536 : Int) < (S : Int) := by omega
    have HE : Hid (MeldPost X q I J w (.returned (.tuple #[.pointer none, .int .i64 2])) w2) := ⟨HBw.out, .inl ⟨by omega, rfl⟩⟩
    clear hS hbig hb2
    go_wp2_with fail
    go_ret2
    exact HE.out
  · have hbig' : ¬ (65536 : Int) < (S : Int) := by omega
    have hsm : S ≤ 65536 := by omega
    obtain ⟨t, tp, c2, k2, k3, k4⟩ := HQ.out.ex
    have HTop : Hid (HpO X w1 t tp ∧ (oItems t).Perm I ∧ oOk (ordV q) t) := ⟨k2, k3, k4⟩
    have c2 := cell_keeps hb2 c2
    have hg3 : Below w2.heap.size w2 (w2.alloc (.cells #[.int .i64 (q : Int)] 3)) := ((Grew.refl w2).alloc _).below
    have HT : Hid (∀ V, Below (w2.alloc (.cells #[.int .i64 (q : Int)] 3)).heap.size (w2.alloc (.cells #[.int .i64 (q : Int)] 3)) V → Calls Tryz.prog 39 #[.pointer pb, .int .i64 (q : Int)] V fun e w4 => ∃ p4, e = .returned (.pointer p4) ∧ Below V.heap.size V w4 ∧ (∀ V2, Below w4.heap.size w4 V2 → Calls Tryz.prog 38 #[.pointer tp, .pointer p4, fnBy w2.heap.size] V2 (PairPost X q (I ++ J) V2))) := by
      intro V hV
      have hV1 : Below w1.heap.size w1 V := (hb2.trans (hg3.mono hb2.size)).trans (hV.mono (hb2.trans (hg3.mono hb2.size)).size)
      refine Calls.mono (topBy_any (HB1.out.keeps hV1) HQ.out.lt) ?_
      rintro e w4 ⟨hb4, h4, p4, rfl, m4, p4', o4⟩
      refine ⟨p4, rfl, hb4, fun V2 hV2 => ?_⟩
      exact joined_ok X q w2.heap.size HQ.out.lt t h4 tp p4 V2 I J (cell_keeps hV2 (cell_keeps hb4 (cell_keeps hV (by simp)))) (((HTop.out.1.keeps hV1).keeps hb4).keeps hV2) (m4.keeps hV2) HTop.out.2.2 o4 HTop.out.2.1 p4'
    have HE : Hid (∀ V T b, Below w.heap.size w V → ∀ h p, b = V.heap.size → HpO X V h p → (oItems h).Perm (I ++ J) → oOk (ordV q) h → MeldPost X q I J w (.returned (.tuple #[.pointer (some ⟨b, 0, none⟩), .int .i64 0])) (V.alloc (.cells #[.int .i64 (q : Int), .int .i64 (S : Int), .pointer p] T))) := by
      intro V T b hV h p hbz hm hp hok
      subst hbz
      have hb' : Below V.heap.size V (V.alloc (.cells #[.int .i64 (q : Int), .int .i64 (S : Int), .pointer p] T)) := ((Grew.refl V).alloc _).below
      exact ⟨hV.trans (hb'.mono hV.size), .inr ⟨by omega, _, rfl, _, rfl, ⟨⟨h, p, by simp, hm.keeps hb', hp, hok⟩, by simp, by rw [List.length_append, ← hS]; simp, HQ.out.lt, by rw [List.length_append]; omega⟩⟩⟩
    clear k2 k3 k4 hS hbig hsm hg3
    go_wp2_with fail
    refine Calls.mono (byOrder_any q w2) ?_
    rintro e w3 ⟨rfl, rfl⟩
    obtain ⟨w3, hw3⟩ : ∃ w3, w3 = w2.alloc (.cells #[.int .i64 (q : Int)] 3) := ⟨_, rfl⟩
    have hg3 : Below w2.heap.size w2 w3 := by rw [hw3]; exact ((Grew.refl w2).alloc _).below
    rw [← hw3] at HT ⊢
    have c0 := cell_keeps hg3 c0; have c1 := cell_keeps hg3 c1; have c2 := cell_keeps hg3 c2
    have HBx : Hid (Below w.heap.size w w3) := HBw.out.trans (hg3.mono HBw.out.size)
    clear hw3 hg3 hb2 HBw HTop
    go_wp2_with fail
    go_region_held3 (fun w' => w'.cell? ⟨b, 0, none⟩ = some (.int .i64 (q : Int)) ∧ w'.cell? ⟨b, 2, none⟩ = some (.pointer tp)) (go_keep)
      (first
        | (go_at_call 38; (with_reducible refine Calls.mono (HJ.out _ ?_) ?_); (first | exact Below.refl _ _ | exact (Below.refl _ _).drew); rintro e w5 ⟨hg5, h5, p5, rfl, m5, q5, o5⟩; have HF : Hid _ := HE.out w5 62 w5.heap.size (HB4.out.trans (hg5.mono HB4.out.size)) h5 p5 rfl m5 q5 o5; have c0 := cell_keeps hg5 c0; have c2 := cell_keeps hg5 c2; clear HJ m5 q5 o5 HE)
        | (go_at_call 39; (with_reducible refine Calls.mono (HT.out _ ?_) ?_); (first | exact Below.refl _ _ | exact (Below.refl _ _).drew); rintro e w4 ⟨p4, rfl, hg4, hj4⟩; have HB4 : Hid (Below w.heap.size w w4) := HBx.out.trans (((Below.refl _ _).drew.trans hg4).mono HBx.out.size); have HJ : Hid _ := hj4; have c0 := cell_keeps ((Below.refl _ _).drew.trans hg4) c0; have c2 := cell_keeps ((Below.refl _ _).drew.trans hg4) c2; clear HT hj4 hg4))
    go_wp2_with fail
    first | exact HF.out | (go_ret2; exact HF.out)

end Go.Proofs.YtgmmocbgeilpiaaGreat

namespace Go.Proofs.YtgmmocbgeilpiaaGreat
open Go.RowKit

theorem RowH.both {X : Nat → Prop} {w : World} : ∀ {t : BT} {p : Option Addr}, RowH X w t p → RowH (fun b => X b ∧ b < w.heap.size) w t p
  | .nil, _, h => h
  | .node x b r, p, h => by
    obtain ⟨b, c, pb, pr, u, hp, c0, c1, hc, hi, h1, h2⟩ := h
    exact ⟨b, c, pb, pr, u, hp, c0, c1, hc, ⟨hi.1.both, hi.2⟩, RowH.both h1, RowH.both h2⟩

/-- A result's box written: heaps stay. -/
theorem keepsH_put {X : Nat → Prop} {W : World} {n : Nat} (hn : ¬ X n) (hK : Blank W n) (h4 : W.cell? ⟨n, 4, none⟩ = none) (p : VT × Value) : KeepsH X W (W.setCells n 0 (encP p)) := by
  refine ⟨fun a v ha hv => ?_, fun b k u hk h5 hv => ?_, fun b k q hv => ?_⟩
  · rw [World.cell?_setCells_out n _ 0 W a (fun e _ => absurd ha (by rw [e]; exact hn))]; exact hv
  · have hne : b ≠ n := fun e => h5 (by rw [e]; exact h4)
    rw [World.cell?_setCells_out n _ 0 W ⟨b, k, none⟩ (fun e _ => absurd e hne)]; exact hv
  · by_cases hb : b = n
    · subst hb
      by_cases hk : k < 4
      · exfalso
        match k, hk, hv with
        | 0, _, hv => rw [hK.c0] at hv; cases hv
        | 1, _, hv => rw [hK.c1] at hv; cases hv
        | 2, _, hv => rw [hK.c2] at hv; cases hv
        | 3, _, hv => rw [hK.c3] at hv; cases hv
      · rw [World.cell?_setCells_out b _ 0 W ⟨b, k, none⟩ (fun _ _ => by simp [encP]; omega)]; exact hv
    · rw [World.cell?_setCells_out n _ 0 W ⟨b, k, none⟩ (fun e _ => absurd e hb)]; exact hv

/-- What Pop tells. -/
def PopPost (X : Nat → Prop) (q : Nat) (I : List VT) (w : World) (e : Ending) (w' : World) : Prop :=
  Below w.heap.size w w' ∧ ((I = [] ∧ e = .returned (.tuple #[.pointer none, .agg #[.int .i64 0, .int .i64 0, .string ⟨#[]⟩, .slice none 0 0], .int .i64 6])) ∨
    ∃ x m u p, srtV q I = x :: m ∧ e = .returned (.tuple #[.pointer p, .agg #[.int .i64 x.kind, .int .i64 x.num, .string x.text, u], .int .i64 0]) ∧ QM X w' q m p ∧ LiesB w.heap.size 16 w' x.items u ∧ rightV 16 x = true)

set_option maxRecDepth 100000 in
set_option maxHeartbeats 4000000 in
theorem pop_bare19 {X : Nat → Prop} {q : Nat} {p : Option Addr} {w : World} (h : QN X w q [] p) : Calls Tryz.prog 12 #[.pointer p] w (PopPost X q [] w) := by
  have hbz : Below w.heap.size w (w.alloc (.cells #[.int .i64 0, .int .i64 0, .string ⟨#[]⟩, .slice none 0 0] 37)) := ((Grew.refl w).alloc _).below
  have HK : Hid (Blank (w.alloc (.cells #[.int .i64 0, .int .i64 0, .string ⟨#[]⟩, .slice none 0 0] 37)) w.heap.size) := blank_alloc w
  have HC : Hid (Calls Tryz.prog 29 #[.pointer p] (w.alloc (.cells #[.int .i64 0, .int .i64 0, .string ⟨#[]⟩, .slice none 0 0] 37)) fun e w' => e = .returned (.tuple #[.agg #[.int .i64 0, .int .i64 0, .string ⟨#[]⟩, .slice none 0 0], .int .i64 6]) ∧ Below (w.heap.size + 1) (w.alloc (.cells #[.int .i64 0, .int .i64 0, .string ⟨#[]⟩, .slice none 0 0] 37)) w') := by
    refine Calls.mono (min_any19 (h.keeps hbz)) ?_
    rintro e w' ⟨hb, ⟨_, rfl⟩ | ⟨x, m, _, h0, _⟩⟩
    · exact ⟨rfl, by simpa using hb⟩
    · cases h0
  clear h
  go_enter Tryz.func12, Tryz.ntmps12
  go_wp2_with fail
  refine Calls.mono HC.out ?_
  rintro e w1 ⟨rfl, hb⟩
  have hb0 : Below w.heap.size w w1 := hbz.trans (hb.mono (by omega))
  have hbA : Below w1.heap.size w1 (w1.alloc (.cells #[.int .i64 0, .int .i64 0, .string ⟨#[]⟩, .slice none 0 0] 37)) := ((Grew.refl w1).alloc _).below
  have hb1 : Below w.heap.size w (w1.alloc (.cells #[.int .i64 0, .int .i64 0, .string ⟨#[]⟩, .slice none 0 0] 37)) := hb0.trans (hbA.mono hb0.size)
  have HK1 : Hid (Blank (w1.alloc (.cells #[.int .i64 0, .int .i64 0, .string ⟨#[]⟩, .slice none 0 0] 37)) w.heap.size) := (HK.out.keeps (by simpa using hb)).keeps hbA
  obtain ⟨y0, y1, y2, y3, z0, z1, z2, z3⟩ := HK1.out
  have Hbx : Hid _ := HK1.out.put (⟨0, 0, ⟨#[]⟩, []⟩, .slice none 0 0)
  have Hbl : Hid _ := below_put hb1 (Nat.le_refl _) (⟨0, 0, ⟨#[]⟩, []⟩, .slice none 0 0)
  have hlt : ¬ w.heap.size = w1.heap.size := by have := hb.size; simp at this; omega
  clear HC HK hb hb0 hbA
  go_wp2_with fail
  refine bodyPost_ret (v := .tuple #[.pointer none, .agg #[.int .i64 0, .int .i64 0, .string ⟨#[]⟩, .slice none 0 0], .int .i64 6]) ?_ rfl ⟨Hbl.out, .inl ⟨rfl, rfl⟩⟩
  obtain ⟨q0, q1, q2, q3⟩ := Hbx.out
  simp only [encP, World.setCells, Nat.zero_add, Nat.reduceAdd] at q0 q1 q2 q3
  simp [results, Tryz.results12, go_sem, q0, q1, q2, q3]

theorem at_new19 (w : World) (q : Int) : (w.alloc (.cells #[.int .i64 q] 3)).cell? ⟨w.heap.size, 0, none⟩ = some (.int .i64 q) := by simp

/-- The calls of Pop behind Min. -/
def PopC (X : Nat → Prop) (q : Nat) (I : List VT) (tp : Option Addr) (w : World) : Prop :=
  ∀ V, Below w.heap.size w V → Calls Tryz.prog 35 #[.pointer tp] V fun e w3 => ∃ v, e = .returned v ∧ Below V.heap.size V w3 ∧
    (∀ V2 g, Below w3.heap.size w3 V2 → V2.cell? ⟨g, 0, none⟩ = some (.int .i64 (q : Int)) → Calls Tryz.prog 34 #[v, fnBy g] V2 (PairPost X q I V2))

theorem popC {X : Nat → Prop} {q c : Nat} (hq : q < 6) {t : HP} {u : Value} {pb : Option Addr} {w : World} (hc : HCells w c t.1 u pb) (hr : RowH X w t.2 pb) (hok : HP.Ok (ordV q) t) (hl : t.2.items.length ≤ 65536) : PopC (fun b => X b ∧ b < w.heap.size) q t.2.items (some ⟨c, 0, none⟩) w := by
  have hhl : t.2.heaps.length ≤ 65536 := Nat.le_trans (heaps_len t.2) hl
  intro V hV
  refine Calls.mono (heapsBelow_any _ c t.2 pb w V hV hc.below hr.both hhl) ?_
  rintro e w3 ⟨hb3, v, ps, rfl, hown, hps⟩
  refine ⟨v, rfl, hb3, fun V2 g hV2 hg => ?_⟩
  have hw3 : Below w.heap.size w w3 := hV.trans (hb3.mono hV.size)
  have hs := (SlH.of_own rfl hown (hps.keeps hw3)).keeps hV2
  have := paired_any _ q g hq t.2.heaps.length t.2.heaps v V2 (Nat.le_refl _) hhl hg hs (heaps_ok _ _ hok.2)
  rwa [heaps_items] at this

theorem pop_fin {X : Nat → Prop} {q N T : Nat} {I m J : List VT} {x : VT} {v : Value} {w w5 : World} {h5 : Option HP} {p5 : Option Addr} (hE : HpO (fun b => X b ∧ b < w.heap.size) w5 h5 p5 ∧ (oItems h5).Perm J ∧ oOk (ordV q) h5) (hM : srtV q I = x :: m ∧ J.Perm m ∧ J.length + 1 = I.length ∧ rightV 16 x = true ∧ q < 6 ∧ I.length ≤ 65536)
    (hN : N = I.length) (hK : Blank w5 w.heap.size) (h4 : w5.cell? ⟨w.heap.size, 4, none⟩ = none) (hL : LiesB (w.heap.size + 1) 16 w5 x.items v) (hB : Below w.heap.size w w5) :
    PopPost X q I w (.returned (.tuple #[.pointer (some ⟨w5.heap.size, 0, none⟩), .agg #[.int .i64 x.kind, .int .i64 x.num, .string x.text, v], .int .i64 0])) ((w5.alloc (.cells #[.int .i64 (q : Int), .int .i64 ((N - 1 : Nat) : Int), .pointer p5] T)).setCells w.heap.size 0 (encP (x, v))).drew ∧
    Boxed ((w5.alloc (.cells #[.int .i64 (q : Int), .int .i64 ((N - 1 : Nat) : Int), .pointer p5] T)).setCells w.heap.size 0 (encP (x, v))).drew w.heap.size x.kind x.num x.text v := by
  have hR5 : w.heap.size < w5.heap.size := cell_lt hK.c0
  obtain ⟨V, hV⟩ : ∃ V, V = w5.alloc (.cells #[.int .i64 (q : Int), .int .i64 ((N - 1 : Nat) : Int), .pointer p5] T) := ⟨_, rfl⟩
  have d0 : V.cell? ⟨w5.heap.size, 0, none⟩ = some (.int .i64 (q : Int)) := by rw [hV]; simp
  have d1 : V.cell? ⟨w5.heap.size, 1, none⟩ = some (.int .i64 ((N - 1 : Nat) : Int)) := by rw [hV]; simp
  have d2 : V.cell? ⟨w5.heap.size, 2, none⟩ = some (.pointer p5) := by rw [hV]; simp
  have hbV : Below w5.heap.size w5 V := by rw [hV]; exact ((Grew.refl w5).alloc _).below
  rw [← hV]
  have hKV := hK.keeps hbV
  have h4V : V.cell? ⟨w.heap.size, 4, none⟩ = none := by rw [hbV.cell (p := ⟨w.heap.size, 4, none⟩) hR5]; exact h4
  have hBV : Below w.heap.size w V := hB.trans (hbV.mono hB.size)
  have hkeep := keepsH_put (X := fun b => X b ∧ b < w.heap.size) (n := w.heap.size) (fun h => Nat.lt_irrefl _ h.2) hKV h4V (x, v)
  have hout : ∀ k u, V.cell? ⟨w5.heap.size, k, none⟩ = some u → (V.setCells w.heap.size 0 (encP (x, v))).cell? ⟨w5.heap.size, k, none⟩ = some u := fun k u hu => by
    rw [World.cell?_setCells_out w.heap.size _ 0 V ⟨w5.heap.size, k, none⟩ (fun e _ => by simp at e; omega)]; exact hu
  have hdr : Below (V.setCells w.heap.size 0 (encP (x, v))).heap.size (V.setCells w.heap.size 0 (encP (x, v))) (V.setCells w.heap.size 0 (encP (x, v))).drew := (Below.refl _ _).drew
  have hJ : m.length = N - 1 := by have := hM.2.1.length_eq; have := hM.2.2.1; omega
  have hLf : LiesB w.heap.size 16 (V.setCells w.heap.size 0 (encP (x, v))) x.items v := LiesB.lower (by omega) _ _ _ (LiesB.stays (base := w.heap.size + 1) (fun a u ha hu => ⟨by
      rw [World.cell?_setCells_out w.heap.size _ 0 V a (fun e _ => by omega)]; exact cell_keeps hbV hu, by
      rw [World.frozen?_setCells]; exact hbV.frozen (cell_lt hu)⟩) _ _ _ hL)
  refine ⟨⟨(below_put hBV (Nat.le_refl _) (x, v)).drew, .inr ⟨x, m, v, _, hM.1, rfl, ⟨_, rfl, ⟨⟨h5, p5, cell_keeps hdr (hout _ _ d2), (HpO.stays (fun _ h => h.1) hkeep (hE.1.keeps hbV)).keeps hdr, hE.2.1.trans hM.2.1, hE.2.2⟩, cell_keeps hdr (hout _ _ d0), ?_, hM.2.2.2.2.1, ?_⟩⟩, LiesB.stays (fun a u _ hu => ⟨cell_keeps hdr hu, hdr.frozen (cell_lt hu)⟩) _ _ _ hLf, hM.2.2.2.1⟩⟩, ?_⟩
  · rw [hJ]; exact cell_keeps hdr (hout _ _ d1)
  · have := hM.2.2.2.2.2; omega
  · exact (hKV.put (x, v)).keeps hdr

set_option maxRecDepth 100000 in
set_option maxHeartbeats 4000000 in
theorem pop_some19 {X : Nat → Prop} {q : Nat} {I : List VT} {b : Nat} {w : World} (h : QC X w q I b) (hne : I ≠ []) : Calls Tryz.prog 12 #[.pointer (some ⟨b, 0, none⟩)] w (PopPost X q I w) := by
  have hbz : Below w.heap.size w (w.alloc (.cells #[.int .i64 0, .int .i64 0, .string ⟨#[]⟩, .slice none 0 0] 37)) := ((Grew.refl w).alloc _).below
  have HK : Hid (Blank (w.alloc (.cells #[.int .i64 0, .int .i64 0, .string ⟨#[]⟩, .slice none 0 0] 37)) w.heap.size) := blank_alloc w
  have H4 : Hid ((w.alloc (.cells #[.int .i64 0, .int .i64 0, .string ⟨#[]⟩, .slice none 0 0] 37)).cell? ⟨w.heap.size, 4, none⟩ = none) := by show _ = _; simp
  obtain ⟨t, c, u, pb, m, c2, hc, hit, hr, hok, hm, hpm, hpi⟩ := h.top h.good hne
  have hlen : t.2.items.length + 1 = I.length := by have := hpi.length_eq; simpa using this
  have HPC : Hid (PopC (fun b => X b ∧ b < w.heap.size) q t.2.items (some ⟨c, 0, none⟩) w) := popC h.lt hc hr hok (by have := h.le; omega)
  have HC : Hid (Calls Tryz.prog 29 #[.pointer (some ⟨b, 0, none⟩)] (w.alloc (.cells #[.int .i64 0, .int .i64 0, .string ⟨#[]⟩, .slice none 0 0] 37)) fun e w' => ∃ a n, e = .returned (.tuple #[.agg #[.int .i64 t.1.kind, .int .i64 t.1.num, .string t.1.text, .slice a t.1.items.length n], .int .i64 0]) ∧ LiesB (w.heap.size + 1) 16 w' t.1.items (.slice a t.1.items.length n) ∧ Below (w.alloc (.cells #[.int .i64 0, .int .i64 0, .string ⟨#[]⟩, .slice none 0 0] 37)).heap.size (w.alloc (.cells #[.int .i64 0, .int .i64 0, .string ⟨#[]⟩, .slice none 0 0] 37)) w') := by
    refine Calls.mono (min_any19 (.inr ⟨b, rfl, h.keeps hbz⟩)) ?_
    rintro e w' ⟨hb, ⟨h0, _⟩ | ⟨x, m2, v, h0, rfl, hL, _⟩⟩
    · exact absurd h0 hne
    · rw [hm] at h0
      injection h0 with h1 _
      subst h1
      obtain ⟨a, n, rfl, _⟩ := LiesB.slice hL
      exact ⟨a, n, rfl, by simpa using hL, hb⟩
  have HM : Hid (srtV q I = t.1 :: m ∧ t.2.items.Perm m ∧ t.2.items.length + 1 = I.length ∧ rightV 16 t.1 = true ∧ q < 6 ∧ I.length ≤ 65536) := ⟨hm, hpm, hlen, hit.right, h.lt, h.le⟩
  have c0 := h.order
  have c1 := h.size
  obtain ⟨N, hN⟩ : ∃ N, N = I.length := ⟨_, rfl⟩
  have HN : Hid (N = I.length) := hN
  rw [← hN] at c1
  have hN0 : 1 ≤ N := by omega
  have hN1 : N ≤ 65536 := by rw [hN]; exact h.le
  have Hc0 : Hid (w.cell? ⟨b, 0, none⟩ = some (.int .i64 (q : Int))) := c0
  have Hc1 : Hid (w.cell? ⟨b, 1, none⟩ = some (.int .i64 (N : Int))) := c1
  have Hc2 : Hid (w.cell? ⟨b, 2, none⟩ = some (.pointer (some ⟨c, 0, none⟩))) := c2
  obtain ⟨⟨k, n, s, it⟩, bt⟩ := t
  simp only at HPC HC HM
  clear hc hit hr hok hm hpm hpi hlen h hne c0 c1 c2 hN
  go_enter Tryz.func12, Tryz.ntmps12
  go_wp2_with fail
  refine Calls.mono HC.out ?_
  rintro e w1 ⟨av, cv, rfl, hL, hb⟩
  have hsz : w.heap.size < w1.heap.size := by have h9 := hb.size; simp at h9; omega
  have hb0 : Below w.heap.size w w1 := hbz.trans (hb.mono (by simp))
  obtain ⟨w2, hw2⟩ : ∃ w2, w2 = w1.alloc (.cells #[.int .i64 k, .int .i64 n, .string s, .slice av it.length cv] 37) := ⟨_, rfl⟩
  have hbA : Below w1.heap.size w1 w2 := by rw [hw2]; exact ((Grew.refl w1).alloc _).below
  have x0 : w2.cell? ⟨w1.heap.size, 0, none⟩ = some (.int .i64 k) := by rw [hw2]; simp
  have x1 : w2.cell? ⟨w1.heap.size, 1, none⟩ = some (.int .i64 n) := by rw [hw2]; simp
  have x2 : w2.cell? ⟨w1.heap.size, 2, none⟩ = some (.string s) := by rw [hw2]; simp
  have x3 : w2.cell? ⟨w1.heap.size, 3, none⟩ = some (.slice av it.length cv) := by rw [hw2]; simp
  have hb2 : Below w.heap.size w w2 := hb0.trans (hbA.mono hb0.size)
  have HK2 : Hid (Blank w2 w.heap.size) := (HK.out.keeps hb).keeps hbA
  have H42 : Hid (w2.cell? ⟨w.heap.size, 4, none⟩ = none) := by
    show _ = _
    rw [hbA.cell (p := ⟨w.heap.size, 4, none⟩) hsz, hb.cell (p := ⟨w.heap.size, 4, none⟩) (by simp)]
    exact H4.out
  have HL2 : Hid (LiesB (w.heap.size + 1) 16 w2 it (.slice av it.length cv)) := LiesB.stays (fun a v _ hv => ⟨cell_keeps hbA hv, hbA.frozen (cell_lt hv)⟩) _ _ _ hL
  have c0 := cell_keeps hb2 Hc0.out
  have c1 := cell_keeps hb2 Hc1.out
  have c2 := cell_keeps hb2 Hc2.out
  have HP2 : Hid _ := HPC.out
  clear HC HK H4 hL hb hbA hb0 HPC
  go_wp2_with fail
  rw [← hw2]
  clear hw2
  go_region_held3 (fun w' => w'.cell? ⟨b, 0, none⟩ = some (.int .i64 (q : Int)) ∧ w'.cell? ⟨b, 2, none⟩ = some (.pointer (some ⟨c, 0, none⟩))) (go_keep)
    (first
      | (go_at_call 25; (with_reducible refine Calls.mono (byOrder_any q w3) ?_); rintro e w4 ⟨rfl, rfl⟩; have c0 := cell_keeps ((Grew.refl w3).alloc (.cells #[.int .i64 (q : Int)] 3)).below c0; have c2 := cell_keeps ((Grew.refl w3).alloc (.cells #[.int .i64 (q : Int)] 3)).below c2)
      | (go_at_call 35; (with_reducible refine Calls.mono (HP2.out _ ?_) ?_); (first | exact hb2 | exact hb2.drew); rintro e w3 ⟨v3, rfl, hg3, hs3⟩; have hb3 : Below w2.heap.size w2 w3 := (Below.refl _ _).drew.trans hg3; have HG : Hid _ := hs3; have c0 := cell_keeps hb3 c0; have c2 := cell_keeps hb3 c2; clear hs3 hg3 HP2)
      | (go_at_call 34; refine Calls.mono (HG.out (w3.alloc (.cells #[.int .i64 (q : Int)] 3)) w3.heap.size ((Grew.refl w3).alloc _).below (at_new19 w3 q)) ?_; rintro e w5 ⟨hg5, h5, p5, rfl, hm5, hp5, ho5⟩; have hb5 : Below w2.heap.size w2 w5 := hb3.trans ((((Grew.refl w3).alloc _).below.trans (hg5.mono (by simp))).mono hb3.size); have HE5 : Hid (HpO (fun b => X b ∧ b < w.heap.size) w5 h5 p5 ∧ (oItems h5).Perm bt.items ∧ oOk (ordV q) h5) := ⟨hm5, hp5, ho5⟩; have c0 := cell_keeps hg5 c0; have c1 := cell_keeps hb5 c1; have c2 := cell_keeps hg5 c2; clear HG hg5 hm5 hp5 ho5))
  have x0 := cell_keeps hb5 x0; have x1 := cell_keeps hb5 x1; have x2 := cell_keeps hb5 x2; have x3 := cell_keeps hb5 x3
  have HK5 : Hid (Blank w5 w.heap.size) := HK2.out.keeps hb5
  have hw2z : w.heap.size < w2.heap.size := cell_lt HK2.out.c0
  have H45 : Hid (w5.cell? ⟨w.heap.size, 4, none⟩ = none) := by show _ = _; rw [hb5.cell (p := ⟨w.heap.size, 4, none⟩) hw2z]; exact H42.out
  have HL5 : Hid (LiesB (w.heap.size + 1) 16 w5 it (.slice av it.length cv)) := LiesB.stays (fun a v _ hv => ⟨cell_keeps hb5 hv, hb5.frozen (cell_lt hv)⟩) _ _ _ HL2.out
  have HB5 : Hid (Below w.heap.size w w5) := hb2.trans (hb5.mono hb2.size)
  obtain ⟨y0, y1, y2, y3, f0, f1, f2, f3⟩ := HK5.out
  have hR5 : w.heap.size < w5.heap.size := cell_lt y0
  have hbR : b < w.heap.size := cell_lt Hc0.out
  have hx5 : w1.heap.size < w5.heap.size := cell_lt x0
  have zc0 : ∀ A, (w5.alloc A).cell? ⟨b, 0, none⟩ = some (.int .i64 (q : Int)) := fun A => cell_keeps ((Grew.refl w5).alloc A).below c0
  have zc1 : ∀ A, (w5.alloc A).cell? ⟨b, 1, none⟩ = some (.int .i64 (N : Int)) := fun A => cell_keeps ((Grew.refl w5).alloc A).below c1
  have zx0 : ∀ A, (w5.alloc A).cell? ⟨w1.heap.size, 0, none⟩ = some (.int .i64 k) := fun A => cell_keeps ((Grew.refl w5).alloc A).below x0
  have zx1 : ∀ A, (w5.alloc A).cell? ⟨w1.heap.size, 1, none⟩ = some (.int .i64 n) := fun A => cell_keeps ((Grew.refl w5).alloc A).below x1
  have zx2 : ∀ A, (w5.alloc A).cell? ⟨w1.heap.size, 2, none⟩ = some (.string s) := fun A => cell_keeps ((Grew.refl w5).alloc A).below x2
  have zx3 : ∀ A, (w5.alloc A).cell? ⟨w1.heap.size, 3, none⟩ = some (.slice av it.length cv) := fun A => cell_keeps ((Grew.refl w5).alloc A).below x3
  have zy0 : ∀ A, (w5.alloc A).cell? ⟨w.heap.size, 0, none⟩ = some (.int .i64 0) := fun A => cell_keeps ((Grew.refl w5).alloc A).below y0
  have zf0 : ∀ A, (w5.alloc A).frozen? ⟨w.heap.size, 0, none⟩ = false := fun A => (((Grew.refl w5).alloc A).below.frozen (p := ⟨w.heap.size, 0, none⟩) hR5).trans f0
  have zy1 : ∀ A, (w5.alloc A).cell? ⟨w.heap.size, 1, none⟩ = some (.int .i64 0) := fun A => cell_keeps ((Grew.refl w5).alloc A).below y1
  have zf1 : ∀ A, (w5.alloc A).frozen? ⟨w.heap.size, 1, none⟩ = false := fun A => (((Grew.refl w5).alloc A).below.frozen (p := ⟨w.heap.size, 1, none⟩) hR5).trans f1
  have zy2 : ∀ A, (w5.alloc A).cell? ⟨w.heap.size, 2, none⟩ = some (.string ⟨#[]⟩) := fun A => cell_keeps ((Grew.refl w5).alloc A).below y2
  have zf2 : ∀ A, (w5.alloc A).frozen? ⟨w.heap.size, 2, none⟩ = false := fun A => (((Grew.refl w5).alloc A).below.frozen (p := ⟨w.heap.size, 2, none⟩) hR5).trans f2
  have zy3 : ∀ A, (w5.alloc A).cell? ⟨w.heap.size, 3, none⟩ = some (.slice none 0 0) := fun A => cell_keeps ((Grew.refl w5).alloc A).below y3
  have zf3 : ∀ A, (w5.alloc A).frozen? ⟨w.heap.size, 3, none⟩ = false := fun A => (((Grew.refl w5).alloc A).below.frozen (p := ⟨w.heap.size, 3, none⟩) hR5).trans f3
  have n1 : ¬ b = w.heap.size := by omega
  have n2 : ¬ w1.heap.size = w.heap.size := by omega
  have n3 : ¬ w.heap.size = b := by omega
  have n4 : ¬ w.heap.size = w1.heap.size := by omega
  have n5 : ¬ w.heap.size = w5.heap.size := by omega
  have n6 : ¬ w5.heap.size = w.heap.size := by omega
  have n7 : ¬ b = w5.heap.size := by omega
  have n8 : ¬ w1.heap.size = w5.heap.size := by omega
  have eN : IntKind.i64.wrap ((N : Int) - 1) = ((N - 1 : Nat) : Int) := by rw [IntKind.wrap_i64]; omega
  clear hb5 hb3 hb2 HK2 H42 HL2 hbz hsz hw2z hR5 hx5 hbR c2
  go_wp2_with fail
  go_region
  have Hfin : Hid _ := pop_fin (x := ⟨k, n, s, it⟩) (T := 62) HE5.out HM.out HN.out HK5.out H45.out HL5.out HB5.out
  go_wp2_with fail
  refine bodyPost_ret (v := .tuple #[.pointer (some ⟨w5.heap.size, 0, none⟩), .agg #[.int .i64 k, .int .i64 n, .string s, .slice av it.length cv], .int .i64 0]) ?_ rfl Hfin.out.1
  obtain ⟨q0, q1, q2, q3⟩ := Hfin.out.2
  simp only [encP, World.setCells, Nat.zero_add, Nat.reduceAdd] at q0 q1 q2 q3
  simp [results, Tryz.results12, go_sem, q0, q1, q2, q3]

theorem pop_any19 {X : Nat → Prop} {q : Nat} {I : List VT} {p : Option Addr} {w : World} (h : QN X w q I p) : Calls Tryz.prog 12 #[.pointer p] w (PopPost X q I w) := by
  by_cases hne : I = []
  · subst hne
    exact pop_bare19 h
  · rcases h with ⟨_, _, h0⟩ | ⟨b, rfl, hc⟩
    · exact absurd h0 hne
    · exact pop_some19 hc hne

end Go.Proofs.YtgmmocbgeilpiaaGreat

namespace Go.Proofs.YtgmmocbgeilpiaaGreat
open Go.RowKit

theorem lies_one19 {d B : Nat} {w : World} {x : VT} {u : Value} (c0 : w.cell? ⟨B, 0, none⟩ = some (.int .i64 x.kind)) (c1 : w.cell? ⟨B, 1, none⟩ = some (.int .i64 x.num)) (c2 : w.cell? ⟨B, 2, none⟩ = some (.string x.text)) (c3 : w.cell? ⟨B, 3, none⟩ = some u) (hu : Lies d w x.items u) (ht : x.text.size ≤ 9223372036854775807) : Lies (d + 1) w [x] (.slice (some ⟨B, 0, none⟩) 1 1) := by
  refine ⟨_, _, rfl, by simp, fun _ => ⟨B, 0, rfl, fun i hi => ?_⟩⟩
  match i, hi with
  | 0, _ => exact ⟨u, by simpa using c0, by simpa using c1, by simpa using c2, by simpa using c3, hu, ht⟩

/-- What Push tells. -/
def PushPost (X : Nat → Prop) (d q : Nat) (I : List VT) (x : VT) (w : World) (e : Ending) (w' : World) : Prop :=
  Below w.heap.size w w' ∧ ((rightV d x = false ∧ e = .returned (.tuple #[.pointer none, .int .i64 3])) ∨ (rightV d x = true ∧ 65536 ≤ I.length ∧ e = .returned (.tuple #[.pointer none, .int .i64 2])) ∨
    (rightV d x = true ∧ I.length < 65536 ∧ ∃ p, e = .returned (.tuple #[.pointer p, .int .i64 0]) ∧ QM X w' q (I ++ [x]) p))

theorem one_err19 (d q : Nat) (hq : q < 6) (x : VT) : lookE d (q : Int) [x] = if rightV d x = true then 0 else 3 := by
  unfold lookE listErr
  rw [if_neg (by omega), if_neg (by simp)]
  simp

theorem of19_one (X : Nat → Prop) (d q : Nat) (x : VT) (hq : q < 6) (V : World) : ∀ e w', OfPost X d q [x] V e w' → ∃ p1 E, e = .returned (.tuple #[.pointer p1, .int .i64 E]) ∧ Below V.heap.size V w' ∧ ((rightV d x = false ∧ E = 3 ∧ p1 = none) ∨ (rightV d x = true ∧ E = 0 ∧ QM X w' q [x] p1)) := by
  rintro e w' ⟨hb, ⟨h0, rfl⟩ | ⟨h0, p, rfl, hm⟩⟩
  · rw [one_err19 d q hq x] at h0
    by_cases hr : rightV d x = true
    · rw [if_pos hr] at h0; exact absurd rfl h0
    · exact ⟨none, _, rfl, hb, .inl ⟨by simpa using hr, by rw [one_err19 d q hq x, if_neg hr], rfl⟩⟩
  · rw [one_err19 d q hq x] at h0
    by_cases hr : rightV d x = true
    · exact ⟨p, 0, rfl, hb, .inr ⟨hr, rfl, hm⟩⟩
    · rw [if_neg hr] at h0; cases h0

set_option maxRecDepth 100000 in
set_option maxHeartbeats 8000000 in
theorem push_any19 {X : Nat → Prop} (d : Nat) {q : Nat} {I : List VT} {p : Option Addr} (x : VT) (u : Value) {w : World} (h : QN X w q I p) (hX : ∀ b, w.heap.size ≤ b → X b) (hu : Lies d w x.items u) (ht : x.text.size ≤ 9223372036854775807) :
    Calls Tryz.prog 14 #[.pointer p, .agg #[.int .i64 x.kind, .int .i64 x.num, .string x.text, u]] w (PushPost X d q I x w) := by
  obtain ⟨a, c, rfl, _⟩ := Lies.slice hu
  have hb0 : Below w.heap.size w (w.alloc (.cells #[.int .i64 x.kind, .int .i64 x.num, .string x.text, .slice a x.items.length c] 37)) := ((Grew.refl w).alloc _).below
  have HBx : Hid (Boxed (w.alloc (.cells #[.int .i64 x.kind, .int .i64 x.num, .string x.text, .slice a x.items.length c] 37)) w.heap.size x.kind x.num x.text (.slice a x.items.length c)) := boxed_alloc w _ _ _ _ _
  have HC : Hid _ := own_any19 (h.keeps hb0)
  have HU : Hid (Lies d w x.items (.slice a x.items.length c)) := hu
  have HX : Hid (∀ b, w.heap.size ≤ b → X b) := hX
  clear h hu hX
  go_enter Tryz.func14, Tryz.ntmps14
  go_wp2_with fail
  refine Calls.mono HC.out ?_
  rintro e w1 ⟨b, rfl, hc, hg1⟩
  have hb1 : Below w.heap.size w w1 := hb0.trans (hg1.mono (by simp))
  obtain ⟨x0, x1, x2, x3⟩ := HBx.out.keeps hg1
  have HQ : Hid (QC X w1 q I b) := hc
  have c0 := hc.order
  have hbl : b < w1.heap.size := cell_lt c0
  have hwl : w.heap.size < w1.heap.size := cell_lt x0
  have HO : Hid (∀ V B, Below w1.heap.size w1 V → V.cell? ⟨B, 0, none⟩ = some (.int .i64 x.kind) → V.cell? ⟨B, 1, none⟩ = some (.int .i64 x.num) → V.cell? ⟨B, 2, none⟩ = some (.string x.text) → V.cell? ⟨B, 3, none⟩ = some (.slice a x.items.length c) → Calls Tryz.prog 6 #[.int .i64 (q : Int), .slice (some ⟨B, 0, none⟩) 1 1] V fun e w' => ∃ p1 E, e = .returned (.tuple #[.pointer p1, .int .i64 E]) ∧ Below V.heap.size V w' ∧ ((rightV d x = false ∧ E = 3 ∧ p1 = none) ∨ (rightV d x = true ∧ E = 0 ∧ QM X w' q [x] p1))) := by
    intro V B hV k0 k1 k2 k3
    refine Calls.mono ?_ (of19_one X d q x HQ.out.lt V)
    exact of_any19 X d q [x] _ V (lies_one19 k0 k1 k2 k3 (Lies.keeps (hb1.trans (hV.mono hb1.size)) _ _ _ HU.out) ht) (fun b' hb' => HX.out b' (Nat.le_trans (hb1.trans (hV.mono hb1.size)).size hb'))
  have HB1 : Hid (Below w.heap.size w w1) := hb1
  have z0 : ∀ A, (w1.alloc A).cell? ⟨b, 0, none⟩ = some (.int .i64 (q : Int)) := fun A => cell_keeps ((Grew.refl w1).alloc A).below c0
  clear HC hc hg1 HBx hb0 hb1
  go_wp2_with fail
  go_region_with (first | (go_at_call 6; (refine Calls.mono (HO.out _ w1.heap.size ?_ ?_ ?_ ?_ ?_) ?_); (first | exact ((Grew.refl w1).alloc _).below | exact ((Grew.refl w1).alloc _).drew.below); (simp); (simp); (simp); (simp); rintro e w2 ⟨p1, E, rfl, hg2, hE2⟩))
  all_goals have hb2 : Below w1.heap.size w1 w2 := (by first | exact ((Grew.refl w1).alloc _).below.trans (hg2.mono (by simp)) | exact ((Grew.refl w1).alloc _).drew.below.trans (hg2.mono (by simp)))
  all_goals have HB2 : Hid (Below w.heap.size w w2) := HB1.out.trans (hb2.mono HB1.out.size)
  all_goals have HM : Hid (∀ p1, QM X w2 q [x] p1 → Calls Tryz.prog 18 #[.pointer (some ⟨b, 0, none⟩), .pointer p1] w2 (MeldPost X q I [x] w2)) := fun p1 h1 => meld_any (.inr ⟨b, rfl, HQ.out.keeps hb2⟩) (.inr h1) (by simp)
  all_goals clear HO hg2 hb2 z0 x0 x1 x2 x3 c0 hbl hwl
  all_goals rcases hE2 with ⟨hr, rfl, rfl⟩ | ⟨hr, rfl, hq1⟩
  all_goals first
    | (have HE : Hid (PushPost X d q I x w (.returned (.tuple #[.pointer none, .int .i64 3])) w2) := ⟨HB2.out, .inl ⟨hr, rfl⟩⟩
       clear HM hr
       go_wp2_with fail
       go_ret2
       exact HE.out)
    | (have HM1 : Hid _ := HM.out p1 hq1
       have HR : Hid (rightV d x = true) := hr
       clear HM hr hq1
       go_wp2_with fail
       refine Calls.mono HM1.out ?_
       rintro e w3 ⟨hb3, ⟨h0, rfl⟩ | ⟨h0, p3, rfl, hm3⟩⟩
       · have HE : Hid (PushPost X d q I x w (.returned (.tuple #[.pointer none, .int .i64 2])) w3) := ⟨HB2.out.trans (hb3.mono HB2.out.size), .inr (.inl ⟨HR.out, by simp at h0; omega, rfl⟩)⟩
         clear HM1 hb3 h0
         go_wp2_with fail
         go_ret2
         exact HE.out
       · have HE : Hid (PushPost X d q I x w (.returned (.tuple #[.pointer p3, .int .i64 0])) w3) := ⟨HB2.out.trans (hb3.mono HB2.out.size), .inr (.inr ⟨HR.out, by simp at h0; omega, p3, rfl, hm3⟩)⟩
         clear HM1 hb3 h0 hm3
         go_wp2_with fail
         go_ret2
         exact HE.out)

end Go.Proofs.YtgmmocbgeilpiaaGreat

namespace Go.Proofs.YtgmmocbgeilpiaaGreat
open Go.RowKit Go.Shelf

/-- A number as a value's tree. -/
def num19 (n : Int) : VT := ⟨2, n, ⟨#[]⟩, []⟩
def pair19 (n : Int) : VT × Value := (num19 n, .slice none 0 0)

theorem right_num19 (n : Int) : rightV 0 (num19 n) = true := by
  simp [rightV, fw, rpV, ownV, okNum, okText, okItems, num19]

theorem nums_cells19 (zs : List Int) : zs.flatMap cellsInt = (zs.map pair19).flatMap encP := by
  induction zs with
  | nil => rfl
  | cons z zs ih => rw [List.flatMap_cons, List.map_cons, List.flatMap_cons, ih]; rfl

theorem nums_lies19 {w : World} {b c : Nat} (zs : List Int) (h : RowAt w b 0 (zs.map pair19)) (hl : zs.length ≤ 1000) (hc : zs.length ≤ c) : Lies 1 w (zs.map num19) (.slice (some ⟨b, 0, none⟩) zs.length c) := by
  have := lies_of_row (d := 0) (c := c) h (fun p hp => by
    obtain ⟨z, _, rfl⟩ := List.mem_map.1 hp
    exact ⟨⟨rfl, none, 0, rfl⟩, by show 0 ≤ 9223372036854775807; omega⟩) (by simp; omega) (by simpa using hc)
  simpa [List.map_map, Function.comp_def, pair19] using this

theorem nums_err19 (zs : List Int) (h : zs.length ≤ 1000) : listErr 0 (zs.map num19) = 0 := by
  unfold listErr
  rw [if_neg (by simp; omega), if_pos (by
    rw [List.all_eq_true]
    intro x hx
    obtain ⟨z, _, rfl⟩ := List.mem_map.1 hx
    exact right_num19 z)]

set_option maxHeartbeats 1000000 in
/-- Numbers as values. -/
theorem nums_any19 (zs : List Int) (b cap : Nat) (w : World) (h0 : zs ≠ []) (hz : zs.length ≤ 1000) (hc : ∀ (i : Nat) (h : i < zs.length), w.cell? ⟨b, 0 + i, none⟩ = some (.int .i64 (zs[i]'h))) :
    Calls Tryz.prog 28 #[.slice (some ⟨b, 0, none⟩) zs.length cap] w fun e w' => ∃ g c, e = .returned (.slice (some ⟨g, 0, none⟩) zs.length c) ∧ Lies 1 w' (zs.map num19) (.slice (some ⟨g, 0, none⟩) zs.length c) ∧ Below w.heap.size w w' := by
  refine (ints_any b zs cap w hz hc).mono ?_
  rintro e w1 ⟨v, rfl, hown, hb⟩
  rw [nums_cells19] at hown
  obtain ⟨g, c, rfl, _, hcp, _, hrow, _⟩ := own_row (ps := zs.map pair19) (by simpa using hown) (by simpa using h0)
  refine ⟨g, c, by simp, nums_lies19 zs hrow hz (by simpa using hcp), hb⟩

theorem srt_four19 : srtV 0 ([3, 1, 2, 1].map num19) = [1, 1, 2, 3].map num19 := by kernel_rfl

theorem look_four19 : lookE 0 0 ([3, 1, 2, 1].map num19) = 0 := by unfold lookE; rw [if_neg (by omega)]; exact nums_err19 _ (by simp)

set_option maxRecDepth 100000 in
set_option maxHeartbeats 4000000 in
theorem speaks19_any (w : World) : Calls Tryz.prog 8 #[] w fun e w' => e = .returned (.bool true) ∧ Below w.heap.size w w' := by
  go_enter Tryz.func8, Tryz.ntmps8
  go_wp2_with fail
  refine (nums_any19 [3, 1, 2, 1] w.heap.size 4 _ (by simp) (by simp) ?_).mono ?_
  · intro i hi
    match i, hi with
    | 0, _ => simp
    | 1, _ => simp
    | 2, _ => simp
    | 3, _ => simp
  rintro e w1 ⟨g1, c1, rfl, hL1, hb⟩
  have hb1 : Below w.heap.size w w1 := ((Grew.refl w).alloc _).below.trans (hb.mono (by simp))
  have HL1 : Hid (Lies 1 w1 ([3, 1, 2, 1].map num19) (.slice (some ⟨g1, 0, none⟩) 4 c1)) := hL1
  clear hL1 hb
  go_wp2_with fail
  refine (of_any19 (fun _ => True) 0 0 ([3, 1, 2, 1].map num19) _ _ HL1.out (fun _ _ => trivial)).mono ?_
  rintro e w2 ⟨hb, ⟨h0, _⟩ | ⟨_, p, rfl, hq⟩⟩
  · exact absurd look_four19 h0
  have hb2 : Below w.heap.size w w2 := hb1.trans (hb.mono hb1.size)
  obtain ⟨b, rfl, hc⟩ := hq
  have HQ : Hid (QC (fun _ => True) w2 0 ([3, 1, 2, 1].map num19) b) := hc
  clear hc hb HL1 hb1
  have HMin : Hid (Calls Tryz.prog 29 #[.pointer (some ⟨b, 0, none⟩)] w2 fun e w' => ∃ a c, e = .returned (.tuple #[.agg #[.int .i64 2, .int .i64 1, .string ⟨#[]⟩, .slice a 0 c], .int .i64 0]) ∧ Below w2.heap.size w2 w') := by
    refine Calls.mono (min_any19 (.inr ⟨b, rfl, HQ.out⟩)) ?_
    rintro e w' ⟨hb, ⟨h0, _⟩ | ⟨x, m, v, h0, rfl, hL, _⟩⟩
    · cases h0
    · rw [srt_four19] at h0
      injection h0 with h1 _
      subst h1
      obtain ⟨a, c, rfl, _⟩ := LiesB.slice hL
      exact ⟨a, c, rfl, hb⟩
  go_wp2_with fail
  refine Calls.mono HMin.out ?_
  rintro e w3 ⟨a3, c3, rfl, hb⟩
  have hg3 : Below w2.heap.size w2 (w3.alloc (.cells #[.int .i64 2, .int .i64 1, .string ⟨#[]⟩, .slice a3 0 c3] 37)) := hb.alloc hb.size _
  have hb3 : Below w.heap.size w (w3.alloc (.cells #[.int .i64 2, .int .i64 1, .string ⟨#[]⟩, .slice a3 0 c3] 37)) := hb2.trans (hg3.mono hb2.size)
  have HQ3 : Hid (QC (fun _ => True) (w3.alloc (.cells #[.int .i64 2, .int .i64 1, .string ⟨#[]⟩, .slice a3 0 c3] 37)) 0 ([3, 1, 2, 1].map num19) b) := HQ.out.keeps hg3
  clear HMin HQ hb hg3 hb2
  go_wp2_with fail
  refine Calls.mono (len_any19 (.inr ⟨b, rfl, HQ3.out⟩)) ?_
  rintro e w4 ⟨rfl, hg⟩
  have hb4 : Below w.heap.size w w4 := hb3.trans (hg.mono hb3.size)
  have HQ4 : Hid (QC (fun _ => True) w4 0 ([3, 1, 2, 1].map num19) b) := HQ3.out.keeps hg
  clear HQ3 hg hb3
  go_wp2_with fail
  refine Calls.mono (sorted_any19 (.inr ⟨b, rfl, HQ4.out⟩)) ?_
  rintro e w5 ⟨v5, rfl, hL5, hg⟩
  have hb5 : Below w.heap.size w w5 := hb4.trans (hg.mono hb4.size)
  have hL5' := LiesB.lies _ _ _ hL5
  rw [srt_four19] at hL5'
  obtain ⟨a5, c5, rfl, _⟩ := Lies.slice hL5'
  have hb5' : Below w.heap.size w (w5.alloc (.cells #[.int .i64 1, .int .i64 1, .int .i64 2, .int .i64 3] 2)) := hb5.alloc hb5.size _
  have HL5 : Hid (Lies 17 (w5.alloc (.cells #[.int .i64 1, .int .i64 1, .int .i64 2, .int .i64 3] 2)) ([1, 1, 2, 3].map num19) (.slice a5 4 c5)) := Lies.keeps ((Grew.refl _).alloc _).below _ _ _ hL5'
  clear HQ4 hg hL5 hL5' hb4 hb5
  go_wp2_with fail
  refine (nums_any19 [1, 1, 2, 3] w5.heap.size 4 _ (by simp) (by simp) ?_).mono ?_
  · intro i hi
    match i, hi with
    | 0, _ => simp
    | 1, _ => simp
    | 2, _ => simp
    | 3, _ => simp
  rintro e w6 ⟨g6, c6, rfl, hL6, hb⟩
  have hb6 : Below w.heap.size w w6 := hb5'.trans (hb.mono hb5'.size)
  have HL6 : Hid (Lies 17 w6 ([1, 1, 2, 3].map num19) (.slice (some ⟨g6, 0, none⟩) 4 c6)) := hL6.atLeast 17 (by omega)
  have HV6 : Hid (Lies 17 w6 ([1, 1, 2, 3].map num19) (.slice a5 4 c5)) := Lies.keeps hb _ _ _ HL5.out
  clear hL6 hb HL5 hb5'
  go_wp2_with fail
  refine (values_one 16 ([1, 1, 2, 3].map num19) _ _ _ HV6.out HL6.out (by simp)).mono ?_
  rintro e w7 ⟨rfl, hb⟩
  have hb7 : Below w.heap.size w w7 := hb6.trans (hb.mono hb6.size)
  clear hb HL6 HV6 hb6
  go_wp2_with fail
  go_ret
  exact ⟨rfl, hb7⟩

end Go.Proofs.YtgmmocbgeilpiaaGreat

namespace Go.Proofs.YtgmmocbgeilpiaaGreat
open Go.RowKit Go.Shelf

/-- The rest of a sorted list is sorted. -/
theorem srt_drop19 (q : Nat) (l : List VT) (hg : ∀ x ∈ l, Good 16 x) (j : Nat) : srtV q ((srtV q l).drop j) = (srtV q l).drop j := by
  refine up_one q _ _ (srt_perm _ _ _) (fun x hx => hg x (srtV_mem (List.mem_of_mem_drop (srtV_mem hx)))) (srtV_up q _) ?_
  exact List.Pairwise.drop (srtV_up q l)

theorem value_self19 (x : VT) (u v : Value) (W : World) (h1 : Lies 16 W x.items u) (h2 : Lies 16 W x.items v) : Calls Tryz.prog 16 #[.agg #[.int .i64 x.kind, .int .i64 x.num, .string x.text, u], .agg #[.int .i64 x.kind, .int .i64 x.num, .string x.text, v]] W fun e W' => e = .returned (.bool true) ∧ Below W.heap.size W W' :=
  (same_any 16 x x _ _ W h1 h2).mono fun e W' h => ⟨by rw [h.1, sameV_self], h.2.below⟩

end Go.Proofs.YtgmmocbgeilpiaaGreat

