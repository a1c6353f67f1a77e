/-
  The contract of the document's Merge, and the walk of OrderMerges.
-/
import Derived.Test.YtacnfmamjbmhcabGreatRIn
import Derived.Test.YtacnfmamjbmhcabGreatAgainQ
import Derived.Test.YtacnfmamjbmhcabGreatVals
namespace Go.Proofs.YtacnfmamjbmhcabGreat
open Go.RowKit Go.Shelf

/-- What stands before a round of Both. -/
structure Bth (w : World) (lt : PR → PR → Bool) (R ps qs : List PR) (wr : World) (I K no : Nat) (vo : Value) (ds : List PR) : Prop where
  hI : I ≤ ps.length
  hK : K ≤ qs.length
  eo : no = ds.length
  sum : no = I + K
  eq : ds ++ mrg lt (ps.drop I) (qs.drop K) = R
  own : wr.ownsRow w.heap.size 33 4 vo no (ds.flatMap encP)
  below : Below w.heap.size w wr

theorem Bth.stepX {w : World} {lt : PR → PR → Bool} {R ps qs : List PR} {wr : World} {I K no : Nat} {vo : Value} {ds : List PR} (h : Bth w lt R ps qs wr I K no vo ds) (hI : I < ps.length) (hc : K = qs.length ∨ ∃ hK : K < qs.length, lt qs[K] ps[I] = false)
    (v' : Value) (W : World) (hown : W.ownsRow w.heap.size 33 4 v' (no + 1) ((ds ++ [ps[I]]).flatMap encP)) (hb : Below w.heap.size w W) : Bth w lt R ps qs W (I + 1) K (no + 1) v' (ds ++ [ps[I]]) := by
  refine ⟨hI, h.hK, by simp [h.eo], by have := h.sum; omega, ?_, hown, hb⟩
  have he := h.eq
  rw [List.drop_eq_getElem_cons hI] at he
  rw [← he]
  rcases hc with hc | ⟨hK, hc⟩
  · rw [hc, List.drop_length, mrg_right, mrg_right]; simp
  · rw [List.drop_eq_getElem_cons hK, mrg_step, if_neg (by rw [hc]; simp)]; simp

theorem Bth.stepY {w : World} {lt : PR → PR → Bool} {R ps qs : List PR} {wr : World} {I K no : Nat} {vo : Value} {ds : List PR} (h : Bth w lt R ps qs wr I K no vo ds) (hK : K < qs.length) (hc : I = ps.length ∨ ∃ hI : I < ps.length, lt qs[K] ps[I] = true)
    (v' : Value) (W : World) (hown : W.ownsRow w.heap.size 33 4 v' (no + 1) ((ds ++ [qs[K]]).flatMap encP)) (hb : Below w.heap.size w W) : Bth w lt R ps qs W I (K + 1) (no + 1) v' (ds ++ [qs[K]]) := by
  refine ⟨h.hI, hK, by simp [h.eo], by have := h.sum; omega, ?_, hown, hb⟩
  have he := h.eq
  rw [List.drop_eq_getElem_cons hK] at he
  rw [← he]
  rcases hc with hc | ⟨hI, hc⟩
  · rw [hc, List.drop_length, mrg_left, mrg_left]; simp
  · rw [List.drop_eq_getElem_cons hI, mrg_step, if_pos hc]; simp

/-- Which of two elements stands ahead. -/
def ltPr (q : Nat) (y x : PR) : Bool := ltO q y.1 x.1

set_option maxRecDepth 100000 in
set_option maxHeartbeats 16000000 in
theorem rboth_core (q : Nat) (hq : q < 6) (ps qs : List PR) (aa ab : Option Addr) (ca cb : Nat) (w : World) (hra : ps ≠ [] → ∃ b o, aa = some ⟨b, o, none⟩ ∧ RowAt w b o ps) (hrb : qs ≠ [] → ∃ b o, ab = some ⟨b, o, none⟩ ∧ RowAt w b o qs)
    (hga : ∀ p ∈ ps, Lies 16 w p.1.items p.2 ∧ rightV 16 p.1 = true) (hgb : ∀ p ∈ qs, Lies 16 w p.1.items p.2 ∧ rightV 16 p.1 = true) (hlen : ps.length + qs.length ≤ 65536) :
    Calls Tryz.prog 38 #[.int .i64 q, .slice aa ps.length ca, .slice ab qs.length cb] w fun e w' => ∃ v, e = .returned v ∧ Lies 17 w' ((mrg (ltPr q) ps qs).map (·.1)) v ∧ Below w.heap.size w w' := by
  have Ha : Hid _ := hra
  have Hb : Hid _ := hrb
  have HGa : Hid (∀ p ∈ ps, Lies 16 w p.1.items p.2 ∧ rightV 16 p.1 = true) := hga
  have HGb : Hid (∀ p ∈ qs, Lies 16 w p.1.items p.2 ∧ rightV 16 p.1 = true) := hgb
  have HGR : Hid (∀ p ∈ mrg (ltPr q) ps qs, Sound 16 w p) := fun p hp => by
    rcases mrg_mem _ _ ps qs (Nat.le_refl _) p hp with h | h
    · exact ⟨(hga p h).1, by have := right_short (hga p h).2; omega⟩
    · exact ⟨(hgb p h).1, by have := right_short (hgb p h).2; omega⟩
  have HRl : Hid ((mrg (ltPr q) ps qs).length = ps.length + qs.length) := mrg_len _ _ _ _ (Nat.le_refl _)
  have Hc : Hid (∀ (t s : VT) (x y : Value) (W : World), Lies 16 W t.items x → Lies 16 W s.items y → rightV 16 t = true → rightV 16 s = true → Calls Tryz.prog 28 #[.int .i64 q, .agg #[.int .i64 t.kind, .int .i64 t.num, .string t.text, x], .agg #[.int .i64 s.kind, .int .i64 s.num, .string s.text, y]] W fun e w' => e = .returned (.int .i64 (ordV q t s)) ∧ Below W.heap.size W w') := fun t s x y W h1 h2 h3 h4 => rordV_any q hq t s x y W h1 h2 h3 h4
  have Hlt : Hid (∀ x y : PR, (ordV q x.1 y.1 ≤ 0 → ltPr q y x = false) ∧ (¬ ordV q x.1 y.1 ≤ 0 → ltPr q y x = true)) := fun x y => by
    have ht := ordV_turn q x.1 y.1
    exact ⟨fun h => decide_eq_false (by omega), fun h => decide_eq_true (by omega)⟩
  obtain ⟨i0, hi, hz0, hz1, hz2⟩ := info24
  have Hi : Hid _ := hi; have Hz0 : Hid _ := hz0; have Hz1 : Hid _ := hz1; have Hz2 : Hid _ := hz2
  clear hi hz0 hz1 hz2 hra hrb hga hgb
  have HB0 : Hid (Bth w (ltPr q) (mrg (ltPr q) ps qs) ps qs w 0 0 0 (.slice none 0 0) []) := ⟨Nat.zero_le _, Nat.zero_le _, rfl, rfl, rfl, World.ownsRow_nil _ _ _ _, Below.refl _ _⟩
  generalize mrg (ltPr q) ps qs = R at *
  generalize ltPr q = lt at *
  generalize ordV q = g at *
  go_enter Tryz.func38, Tryz.ntmps38
  go_wp2_with fail
  go_loopg [7, 8, 9] (ps.length + qs.length) (fun z vo i k wr => ∃ (I K no : Nat) (ds : List PR), i = .int .i64 (I : Int) ∧ k = .int .i64 (K : Int) ∧ z = ps.length + qs.length - (I + K) ∧ Hid (Bth w lt R ps qs wr I K no vo ds))
  case atStart => exact ⟨0, 0, 0, [], rfl, rfl, by omega, HB0⟩
  case round =>
    obtain ⟨I, K, no, ds, rfl, rfl, hk, HM⟩ := hrel
    have Hk : Hid _ := hk
    clear hk HB0
    have hIl := HM.out.hI
    have hKl := HM.out.hK
    have hno : no ≤ 65536 := by have := HM.out.sum; omega
    have hbw := HM.out.below
    have hwl0 := hbw.size
    have Hown : Hid (wr.ownsRow w.heap.size 33 4 u7 no (ds.flatMap encP)) := HM.out.own
    by_cases hI : I < ps.length
    · have hIi : (I : Int) < (ps.length : Nat) := by omega
      by_cases hK : K < qs.length
      · have hKi : (K : Int) < (qs.length : Nat) := by omega
        have hKe : ¬ (K : Int) = (qs.length : Nat) := by omega
        have hKe' : ((K : Int) == (qs.length : Nat)) = false := by simpa using hKe
        obtain ⟨ba, oa, rfl, hrowa⟩ := Ha.out (by intro e; rw [e] at hI; cases hI)
        obtain ⟨p0, p1, p2, p3⟩ := hrowa I hI
        clear hrowa
        have gx := HGa.out ps[I] (List.getElem_mem hI)
        obtain ⟨bb, ob, rfl, hrowb⟩ := Hb.out (by intro e; rw [e] at hK; cases hK)
        obtain ⟨r0, r1, r2, r3⟩ := hrowb K hK
        clear hrowb
        have gy := HGb.out qs[K] (List.getElem_mem hK)
        have HNX : Hid (g ps[I].1 qs[K].1 ≤ 0 → ∀ (v' : Value) (W : World), W.ownsRow w.heap.size 33 4 v' (no + 1) ((ds ++ [ps[I]]).flatMap encP) → Below w.heap.size w W → Bth w lt R ps qs W (I + 1) K (no + 1) v' (ds ++ [ps[I]])) := fun h => HM.out.stepX hI (.inr ⟨hK, (Hlt.out ps[I] qs[K]).1 h⟩)
        have HNY : Hid (¬ g ps[I].1 qs[K].1 ≤ 0 → ∀ (v' : Value) (W : World), W.ownsRow w.heap.size 33 4 v' (no + 1) ((ds ++ [qs[K]]).flatMap encP) → Below w.heap.size w W → Bth w lt R ps qs W I (K + 1) (no + 1) v' (ds ++ [qs[K]])) := fun h => HM.out.stepY hK (.inr ⟨hI, (Hlt.out ps[I] qs[K]).2 (by omega)⟩)
        clear HM
        generalize ps[I] = x at *
        obtain ⟨t, xv⟩ := x
        obtain ⟨ax, cx, hxv, _⟩ := Lies.slice gx.1
        simp only at hxv p0 p1 p2 p3
        subst hxv
        have HX : Hid (Lies 16 w t.items (.slice ax t.items.length cx) ∧ rightV 16 t = true) := gx
        clear gx
        have hla : ba < wr.heap.size := Nat.lt_of_lt_of_le (cell_lt p0) hbw.size
        have p0 := cell_keeps hbw p0; have p1 := cell_keeps hbw p1; have p2 := cell_keeps hbw p2; have p3 := cell_keeps hbw p3
        generalize qs[K] = y at *
        obtain ⟨s, yv⟩ := y
        obtain ⟨ay, cy, hyv, _⟩ := Lies.slice gy.1
        simp only at hyv r0 r1 r2 r3
        subst hyv
        have HY : Hid (Lies 16 w s.items (.slice ay s.items.length cy) ∧ rightV 16 s = true) := gy
        clear gy
        have hlb : bb < wr.heap.size := Nat.lt_of_lt_of_le (cell_lt r0) hbw.size
        have r0 := cell_keeps hbw r0; have r1 := cell_keeps hbw r1; have r2 := cell_keeps hbw r2; have r3 := cell_keeps hbw r3
        go_wp2_with fail
        go_region_held3 (fun w' => (w'.cell? ⟨ba, oa + I * 4, none⟩ = some (.int .i64 t.kind) ∧ w'.cell? ⟨ba, oa + I * 4 + 1, none⟩ = some (.int .i64 t.num) ∧ w'.cell? ⟨ba, oa + I * 4 + 2, none⟩ = some (.string t.text) ∧ w'.cell? ⟨ba, oa + I * 4 + 3, none⟩ = some (.slice ax t.items.length cx)) ∧ (w'.cell? ⟨bb, ob + K * 4, none⟩ = some (.int .i64 s.kind) ∧ w'.cell? ⟨bb, ob + K * 4 + 1, none⟩ = some (.int .i64 s.num) ∧ w'.cell? ⟨bb, ob + K * 4 + 2, none⟩ = some (.string s.text) ∧ w'.cell? ⟨bb, ob + K * 4 + 3, none⟩ = some (.slice ay s.items.length cy))) (go_keep)
          (first | (go_at_call 28; refine (Hc.out t s _ _ _ (Lies.keeps hbw.drew _ _ _ HX.out.1) (Lies.keeps hbw.drew _ _ _ HY.out.1) HX.out.2 HY.out.2).mono ?_; rintro e WW ⟨rfl, hg1⟩; have hb1' : Below wr.heap.size wr WW := (Below.refl _ _).drew.trans hg1; have hbW : Below w.heap.size w WW := hbw.trans (hb1'.mono hwl0); clear hg1; have p0 := cell_keeps hb1' p0; have p1 := cell_keeps hb1' p1; have p2 := cell_keeps hb1' p2; have p3 := cell_keeps hb1' p3; have r0 := cell_keeps hb1' r0; have r1 := cell_keeps hb1' r1; have r2 := cell_keeps hb1' r2; have r3 := cell_keeps hb1' r3))
        have hwl := hbW.size
        have hlaW : ba < WW.heap.size := Nat.lt_of_lt_of_le hla hb1'.size
        have hlbW : bb < WW.heap.size := Nat.lt_of_lt_of_le hlb hb1'.size
        have HownW : Hid (WW.ownsRow w.heap.size 33 4 u7 no (ds.flatMap encP)) := own_keeps Hown.out hb1'
        clear Hown hb1' hbw
        have Hown := HownW
        clear HownW
        by_cases hz : g t s ≤ 0
        · have HN0 : Hid _ := HNX.out hz
          clear HNX HNY
          generalize g t s = Z at *
          go_wp2_with (first
            | (at_builtin; refine wpList_append_own _ rfl _ _ 22 rfl w.heap.size 33 i0 (.agg #[.int .i64 0, .int .i64 0, .string ⟨#[]⟩, .slice none 0 0]) 4 56 Tryz.underlying22 Hi.out Hz0.out Hz1.out Hz2.out rfl (by decide) _ _ _ rfl (Hown.out.alloc _) ⟨WW.heap.size, 0, none⟩ 1 1 [.int .i64 t.kind, .int .i64 t.num, .string t.text, .slice ax t.items.length cx] rfl rfl (fun q u hq => by match q, hq with | 0, hq => (simp at hq; subst hq; simp [Addr.add]) | 1, hq => (simp at hq; subst hq; simp [Addr.add]) | 2, hq => (simp at hq; subst hq; simp [Addr.add]) | 3, hq => (simp at hq; subst hq; simp [Addr.add]) | q + 4, hq => simp at hq) (fun u hu => by simp at hu; rcases hu with rfl | rfl | rfl | rfl <;> rfl) (by unfold maxLen; omega) (by omega) (by simp; omega) ?_; intro v' w9 hown' hgrow _))
          have hb9 : Below w.heap.size w w9 := own_growM (hbW.alloc hwl _) (by simp; omega) (Hown.out.alloc _) hgrow
          have HN : Hid _ := HN0.out v' w9 (by simpa [encP, List.flatMap_append] using hown') hb9
          clear hown' hgrow Hown HN0
          go_wp2_with fail
          go_roundg (ps.length + qs.length - (I + 1 + K))
          case measure => have := Hk.out; omega
          case rel => exact ⟨I + 1, K, no + 1, ds ++ [_], by go_num, by go_num, by omega, HN⟩
        · have HN0 : Hid _ := HNY.out (by omega)
          clear HNX HNY
          generalize g t s = Z at *
          go_wp2_with (first
            | (at_builtin; refine wpList_append_own _ rfl _ _ 22 rfl w.heap.size 33 i0 (.agg #[.int .i64 0, .int .i64 0, .string ⟨#[]⟩, .slice none 0 0]) 4 56 Tryz.underlying22 Hi.out Hz0.out Hz1.out Hz2.out rfl (by decide) _ _ _ rfl (Hown.out.alloc _) ⟨WW.heap.size, 0, none⟩ 1 1 [.int .i64 s.kind, .int .i64 s.num, .string s.text, .slice ay s.items.length cy] rfl rfl (fun q u hq => by match q, hq with | 0, hq => (simp at hq; subst hq; simp [Addr.add]) | 1, hq => (simp at hq; subst hq; simp [Addr.add]) | 2, hq => (simp at hq; subst hq; simp [Addr.add]) | 3, hq => (simp at hq; subst hq; simp [Addr.add]) | q + 4, hq => simp at hq) (fun u hu => by simp at hu; rcases hu with rfl | rfl | rfl | rfl <;> rfl) (by unfold maxLen; omega) (by omega) (by simp; omega) ?_; intro v' w9 hown' hgrow _))
          have hb9 : Below w.heap.size w w9 := own_growM (hbW.alloc hwl _) (by simp; omega) (Hown.out.alloc _) hgrow
          have HN : Hid _ := HN0.out v' w9 (by simpa [encP, List.flatMap_append] using hown') hb9
          clear hown' hgrow Hown HN0
          go_wp2_with fail
          go_roundg (ps.length + qs.length - (I + (K + 1)))
          case measure => have := Hk.out; omega
          case rel => exact ⟨I, K + 1, no + 1, ds ++ [_], rfl, by go_num, by omega, HN⟩
      · have hKe : K = qs.length := by omega
        have hKi : (K : Int) = (qs.length : Nat) := by omega
        have HNX : Hid (∀ (v' : Value) (W : World), W.ownsRow w.heap.size 33 4 v' (no + 1) ((ds ++ [ps[I]]).flatMap encP) → Below w.heap.size w W → Bth w lt R ps qs W (I + 1) K (no + 1) v' (ds ++ [ps[I]])) := HM.out.stepX hI (.inl hKe)
        clear HM hKe
        obtain ⟨ba, oa, rfl, hrowa⟩ := Ha.out (by intro e; rw [e] at hI; cases hI)
        obtain ⟨p0, p1, p2, p3⟩ := hrowa I hI
        clear hrowa
        have gx := HGa.out ps[I] (List.getElem_mem hI)
        generalize ps[I] = x at *
        obtain ⟨t, xv⟩ := x
        obtain ⟨ax, cx, hxv, _⟩ := Lies.slice gx.1
        simp only at hxv p0 p1 p2 p3
        subst hxv
        have HX : Hid (Lies 16 w t.items (.slice ax t.items.length cx) ∧ rightV 16 t = true) := gx
        clear gx
        have hla : ba < wr.heap.size := Nat.lt_of_lt_of_le (cell_lt p0) hbw.size
        have p0 := cell_keeps hbw p0; have p1 := cell_keeps hbw p1; have p2 := cell_keeps hbw p2; have p3 := cell_keeps hbw p3
        have HN0 := HNX
        clear HNX
        go_wp2_with fail
        go_region
        have hbW : Below w.heap.size w wr.drew := hbw.drew
        have HownW : Hid (wr.drew.ownsRow w.heap.size 33 4 u7 no (ds.flatMap encP)) := own_keeps Hown.out (Grew.refl _).drew.below
        have hwl : w.heap.size ≤ wr.drew.heap.size := hbW.size
        clear Hown
        have Hown := HownW
        clear HownW
        go_wp2_with (first
          | (at_builtin; refine wpList_append_own _ rfl _ _ 22 rfl w.heap.size 33 i0 (.agg #[.int .i64 0, .int .i64 0, .string ⟨#[]⟩, .slice none 0 0]) 4 56 Tryz.underlying22 Hi.out Hz0.out Hz1.out Hz2.out rfl (by decide) _ _ _ rfl (Hown.out.alloc _) ⟨wr.heap.size, 0, none⟩ 1 1 [.int .i64 t.kind, .int .i64 t.num, .string t.text, .slice ax t.items.length cx] rfl rfl (fun q u hq => by match q, hq with | 0, hq => (simp at hq; subst hq; simp [Addr.add]) | 1, hq => (simp at hq; subst hq; simp [Addr.add]) | 2, hq => (simp at hq; subst hq; simp [Addr.add]) | 3, hq => (simp at hq; subst hq; simp [Addr.add]) | q + 4, hq => simp at hq) (fun u hu => by simp at hu; rcases hu with rfl | rfl | rfl | rfl <;> rfl) (by unfold maxLen; omega) (by omega) (by simp; omega) ?_; intro v' w9 hown' hgrow _))
        have hb9 : Below w.heap.size w w9 := own_growM (hbW.alloc hwl _) (by simp; omega) (Hown.out.alloc _) hgrow
        have HN : Hid _ := HN0.out v' w9 (by simpa [encP, List.flatMap_append] using hown') hb9
        clear hown' hgrow Hown HN0
        go_wp2_with fail
        go_roundg (ps.length + qs.length - (I + 1 + K))
        case measure => have := Hk.out; omega
        case rel => exact ⟨I + 1, K, no + 1, ds ++ [_], by go_num, by go_num, by omega, HN⟩
    · have hIi : ¬ (I : Int) < (ps.length : Nat) := by omega
      by_cases hK : K < qs.length
      · have hKi : (K : Int) < (qs.length : Nat) := by omega
        have hKe : ¬ (K : Int) = (qs.length : Nat) := by omega
        have hKe' : ((K : Int) == (qs.length : Nat)) = false := by simpa using hKe
        have HNY : Hid (∀ (v' : Value) (W : World), W.ownsRow w.heap.size 33 4 v' (no + 1) ((ds ++ [qs[K]]).flatMap encP) → Below w.heap.size w W → Bth w lt R ps qs W I (K + 1) (no + 1) v' (ds ++ [qs[K]])) := HM.out.stepY hK (.inl (by omega))
        clear HM
        obtain ⟨bb, ob, rfl, hrowb⟩ := Hb.out (by intro e; rw [e] at hK; cases hK)
        obtain ⟨r0, r1, r2, r3⟩ := hrowb K hK
        clear hrowb
        have gy := HGb.out qs[K] (List.getElem_mem hK)
        generalize qs[K] = y at *
        obtain ⟨s, yv⟩ := y
        obtain ⟨ay, cy, hyv, _⟩ := Lies.slice gy.1
        simp only at hyv r0 r1 r2 r3
        subst hyv
        have HY : Hid (Lies 16 w s.items (.slice ay s.items.length cy) ∧ rightV 16 s = true) := gy
        clear gy
        have hlb : bb < wr.heap.size := Nat.lt_of_lt_of_le (cell_lt r0) hbw.size
        have r0 := cell_keeps hbw r0; have r1 := cell_keeps hbw r1; have r2 := cell_keeps hbw r2; have r3 := cell_keeps hbw r3
        have HN0 := HNY
        clear HNY
        go_wp2_with fail
        go_region
        have hbW : Below w.heap.size w wr.drew := hbw.drew
        have HownW : Hid (wr.drew.ownsRow w.heap.size 33 4 u7 no (ds.flatMap encP)) := own_keeps Hown.out (Grew.refl _).drew.below
        have hwl : w.heap.size ≤ wr.drew.heap.size := hbW.size
        clear Hown
        have Hown := HownW
        clear HownW
        go_wp2_with (first
          | (at_builtin; refine wpList_append_own _ rfl _ _ 22 rfl w.heap.size 33 i0 (.agg #[.int .i64 0, .int .i64 0, .string ⟨#[]⟩, .slice none 0 0]) 4 56 Tryz.underlying22 Hi.out Hz0.out Hz1.out Hz2.out rfl (by decide) _ _ _ rfl (Hown.out.alloc _) ⟨wr.heap.size, 0, none⟩ 1 1 [.int .i64 s.kind, .int .i64 s.num, .string s.text, .slice ay s.items.length cy] rfl rfl (fun q u hq => by match q, hq with | 0, hq => (simp at hq; subst hq; simp [Addr.add]) | 1, hq => (simp at hq; subst hq; simp [Addr.add]) | 2, hq => (simp at hq; subst hq; simp [Addr.add]) | 3, hq => (simp at hq; subst hq; simp [Addr.add]) | q + 4, hq => simp at hq) (fun u hu => by simp at hu; rcases hu with rfl | rfl | rfl | rfl <;> rfl) (by unfold maxLen; omega) (by omega) (by simp; omega) ?_; intro v' w9 hown' hgrow _))
        have hb9 : Below w.heap.size w w9 := own_growM (hbW.alloc hwl _) (by simp; omega) (Hown.out.alloc _) hgrow
        have HN : Hid _ := HN0.out v' w9 (by simpa [encP, List.flatMap_append] using hown') hb9
        clear hown' hgrow Hown HN0
        go_wp2_with fail
        go_roundg (ps.length + qs.length - (I + (K + 1)))
        case measure => have := Hk.out; omega
        case rel => exact ⟨I, K + 1, no + 1, ds ++ [_], rfl, by go_num, by omega, HN⟩
      · have hKi : ¬ (K : Int) < (qs.length : Nat) := by omega
        have hfin : R = ds := by
          have := HM.out.eq
          rw [List.drop_eq_nil_of_le (by omega), mrg_left, List.drop_eq_nil_of_le (by omega), List.append_nil] at this
          exact this.symm
        have HL : Hid (Lies 17 wr (R.map (·.1)) u7) := by
          rw [hfin]
          exact own_lies (by exact HM.out.eo) Hown.out (fun p hp => (HGR.out p (by rw [hfin]; exact hp)).keeps hbw) (by have := HM.out.eo; omega)
        clear HM hfin Hown
        go_wp2_with fail
        go_ret
        exact ⟨_, rfl, HL.out, hbw⟩

end Go.Proofs.YtacnfmamjbmhcabGreat

namespace Go.Proofs.YtacnfmamjbmhcabGreat
open Go.RowKit Go.Shelf

/-- What the document's Merge tells. -/
def RMergePost (d : Nat) (o : Int) (a b : List VT) (w : World) (e : Ending) (w' : World) : Prop :=
  (mergeE d o a b ≠ 0 ∧ e = .returned (.tuple #[.slice none 0 0, .int .i64 (mergeE d o a b)]) ∧ Below w.heap.size w w') ∨
  (mergeE d o a b = 0 ∧ ∃ v, e = .returned (.tuple #[v, .int .i64 0]) ∧ Lies 17 w' (mrg (ltO o.toNat) a b) v ∧ Below w.heap.size w w')

theorem both17 (q : Nat) (hq : q < 6) (a b : List VT) (u v : Value) (w : World) (hu : Lies 17 w a u) (hv : Lies 17 w b v) (ga : ∀ x ∈ a, rightV 16 x = true) (gb : ∀ x ∈ b, rightV 16 x = true) (hlen : a.length + b.length ≤ 65536) :
    Calls Tryz.prog 38 #[.int .i64 q, u, v] w fun e w' => ∃ v, e = .returned v ∧ Lies 17 w' (mrg (ltO q) a b) v ∧ Below w.heap.size w w' := by
  obtain ⟨aa, ca, rfl, _, ps, hps, hsa, hra⟩ := Lies.row hu
  obtain ⟨ab, cb, rfl, _, qs, hqs, hsb, hrb⟩ := Lies.row hv
  have lp : ps.length = a.length := by rw [← hps]; simp
  have lq : qs.length = b.length := by rw [← hqs]; simp
  have h := rboth_core q hq ps qs aa ab ca cb w (fun hne => hra (fun e => hne (List.eq_nil_of_length_eq_zero (by rw [lp, e]; rfl)))) (fun hne => hrb (fun e => hne (List.eq_nil_of_length_eq_zero (by rw [lq, e]; rfl))))
    (fun p hp => ⟨(hsa p hp).1, ga p.1 (by rw [← hps]; exact List.mem_map.2 ⟨p, hp, rfl⟩)⟩) (fun p hp => ⟨(hsb p hp).1, gb p.1 (by rw [← hqs]; exact List.mem_map.2 ⟨p, hp, rfl⟩)⟩) (by omega)
  rw [mrg_map (·.1) (ltPr q) (ltO q) _ ps qs (Nat.le_refl _) (fun x _ y _ => rfl), hps, hqs, lp, lq] at h
  exact h

set_option maxHeartbeats 8000000 in
theorem rmerge_any (d : Nat) (o : Int) (a b : List VT) (u v : Value) (w : World) (hu : Lies (d + 1) w a u) (hv : Lies (d + 1) w b v) : Calls Tryz.prog 18 #[.int .i64 o, u, v] w (RMergePost d o a b w) := by
  have Hga : Hid (lookE d o a = 0 → (0 ≤ o ∧ o < 6) ∧ a.length ≤ 65536 ∧ Lies 17 w a u ∧ ∀ x ∈ a, rightV 16 x = true) := fun h => by
    have h0 := (lookE_pos h).2
    have g := good_of hu h0
    exact ⟨(lookE_pos h).1, (listErr_zero6 h0).1, Lies.lower 17 (d + 1) a u hu (fun e => by cases e) (fun x hx => (g x hx).2), fun x hx => (g x hx).1⟩
  have Hgb : Hid (listErr d b = 0 → b.length ≤ 65536 ∧ Lies 17 w b v ∧ ∀ x ∈ b, rightV 16 x = true) := fun h0 => by
    have g := good_of hv h0
    exact ⟨(listErr_zero6 h0).1, Lies.lower 17 (d + 1) b v hv (fun e => by cases e) (fun x hx => (g x hx).2), fun x hx => (g x hx).1⟩
  obtain ⟨aa, ca, rfl, _⟩ := Lies.slice hu
  obtain ⟨ab, cb, rfl, _⟩ := Lies.slice hv
  have HU : Hid (Lies (d + 1) w a (.slice aa a.length ca)) := hu
  have HV : Hid (Lies (d + 1) w b (.slice ab b.length cb)) := hv
  clear hu hv
  unfold RMergePost
  have H1 : Hid (lookE d o a ≠ 0 → mergeE d o a b = lookE d o a) := fun h => by unfold mergeE; rw [if_pos h]
  have H2 : Hid (lookE d o a = 0 → listErr d b ≠ 0 → mergeE d o a b = listErr d b) := fun h k => by unfold mergeE; rw [if_neg (fun c => c h), if_pos k]
  have H3 : Hid (lookE d o a = 0 → listErr d b = 0 → 65536 < a.length + b.length → mergeE d o a b = 2) := fun h k m => by unfold mergeE; rw [if_neg (fun c => c h), if_neg (fun c => c k), if_pos m]
  have H4 : Hid (lookE d o a = 0 → listErr d b = 0 → ¬ 65536 < a.length + b.length → mergeE d o a b = if upB (ordV o.toNat) a = true ∧ upB (ordV o.toNat) b = true then 0 else 1) := fun h k m => by unfold mergeE; rw [if_neg (fun c => c h), if_neg (fun c => c k), if_neg m]
  generalize hM : mergeE d o a b = M at *
  clear hM
  go_enter Tryz.func18, Tryz.ntmps18
  go_wp2_with fail
  refine (rfit_any d o a _ _ HU.out).mono ?_
  rintro e w1 ⟨rfl, hb1⟩
  by_cases h0 : lookE d o a = 0
  · obtain ⟨ho, hla, hLa, hga⟩ := Hga.out h0
    have HLa : Hid (Lies 17 w a (.slice aa a.length ca) ∧ ∀ x ∈ a, rightV 16 x = true) := ⟨hLa, hga⟩
    obtain ⟨q, rfl⟩ : ∃ q : Nat, o = q := ⟨o.toNat, by omega⟩
    have hq : q < 6 := by omega
    have Hq1 : Hid ((q : Int).toNat = q) := by show _ = _; simp
    have H2' : Hid (listErr d b ≠ 0 → M = listErr d b) := H2.out h0
    have H3' : Hid (listErr d b = 0 → 65536 < a.length + b.length → M = 2) := H3.out h0
    have H4' : Hid (listErr d b = 0 → ¬ 65536 < a.length + b.length → M = if upB (ordV q) a = true ∧ upB (ordV q) b = true then 0 else 1) := fun k m => by
      have := H4.out h0 k m
      rwa [Hq1.out] at this
    rw [h0]
    clear H1 H2 H3 H4 h0 Hga hLa hga ho HU
    go_wp2_with fail
    refine (listed_any d b _ _ (Lies.keeps hb1 _ _ _ HV.out)).mono ?_
    rintro e w2 ⟨rfl, hb⟩
    have hb2 : Below w.heap.size w w2 := hb1.trans (hb.mono hb1.size)
    clear hb hb1 HV
    by_cases h0 : listErr d b = 0
    · obtain ⟨hlb, hLb, hgb⟩ := Hgb.out h0
      have HLb : Hid (Lies 17 w b (.slice ab b.length cb) ∧ ∀ x ∈ b, rightV 16 x = true) := ⟨hLb, hgb⟩
      have H3 : Hid (65536 < a.length + b.length → M = 2) := H3'.out h0
      have H4 : Hid (¬ 65536 < a.length + b.length → M = if upB (ordV q) a = true ∧ upB (ordV q) b = true then 0 else 1) := H4'.out h0
      rw [h0]
      clear h0 H2' H3' H4' Hgb hLb hgb
      by_cases hlong : 65536 < a.length + b.length
      · have HM : Hid (M = 2) := H3.out hlong
        have hlong' : (65536 : Int) - (a.length : Int) < (b.length : Int) := by omega
        clear H3 H4 hlong
        go_wp2_with fail
        go_ret2
        exact .inl ⟨by rw [HM.out]; omega, by rw [HM.out]; rfl, hb2⟩
      · have HM : Hid (M = if upB (ordV q) a = true ∧ upB (ordV q) b = true then 0 else 1) := H4.out hlong
        have hlong' : ¬ (65536 : Int) - (a.length : Int) < (b.length : Int) := by omega
        clear H3 H4
        go_wp2_with fail
        refine (rin_any q hq a _ _ (Lies.keeps hb2 _ _ _ HLa.out.1) HLa.out.2 hla).mono ?_
        rintro e w3 ⟨rfl, hb⟩
        have hb3 : Below w.heap.size w w3 := hb2.trans (hb.mono hb2.size)
        clear hb hb2
        cases hua : upB (ordV q) a
        · have HM1 : Hid (M = 1) := by show M = 1; rw [HM.out, hua]; simp
          clear HM
          go_wp2_with fail
          go_ret2
          exact .inl ⟨by rw [HM1.out]; omega, by rw [HM1.out]; rfl, hb3⟩
        · go_wp2_with fail
          refine (rin_any q hq b _ _ (Lies.keeps hb3 _ _ _ HLb.out.1) HLb.out.2 hlb).mono ?_
          rintro e w4 ⟨rfl, hb⟩
          have hb4 : Below w.heap.size w w4 := hb3.trans (hb.mono hb3.size)
          clear hb hb3
          cases hub : upB (ordV q) b
          · have HM1 : Hid (M = 1) := by show M = 1; rw [HM.out, hub]; simp
            clear HM
            go_wp2_with fail
            go_ret2
            exact .inl ⟨by rw [HM1.out]; omega, by rw [HM1.out]; rfl, hb4⟩
          · have HM1 : Hid (M = 0) := by show M = 0; rw [HM.out, hua, hub]; simp
            clear HM hua hub
            go_wp2_with fail
            refine (both17 q hq a b _ _ _ (Lies.keeps hb4 _ _ _ HLa.out.1) (Lies.keeps hb4 _ _ _ HLb.out.1) HLa.out.2 HLb.out.2 (by omega)).mono ?_
            rintro e w5 ⟨v5, rfl, hL5, hb⟩
            have hb5 : Below w.heap.size w w5 := hb4.trans (hb.mono hb4.size)
            have HL : Hid (Lies 17 w5 (mrg (ltO (q : Int).toNat) a b) v5) := by show Lies _ _ _ _; rw [Hq1.out]; exact hL5
            clear hb hb4 hL5
            go_wp2_with fail
            go_ret2
            exact .inr ⟨HM1.out, _, rfl, HL.out, hb5⟩
    · have hM := H2'.out h0
      have h0' : ¬ M = 0 := by rw [hM]; exact h0
      have HM : Hid (M ≠ 0) := h0'
      rw [← hM]
      clear hM h0 H2' H3' H4' Hgb
      go_wp2_with fail
      go_ret2
      exact .inl ⟨HM.out, rfl, hb2⟩
  · have hM := H1.out h0
    have h0' : ¬ M = 0 := by rw [hM]; exact h0
    have HM : Hid (M ≠ 0) := h0'
    rw [← hM]
    clear hM h0 H1 H2 H3 H4 Hga Hgb
    go_wp2_with fail
    go_ret2
    exact .inl ⟨HM.out, rfl, hb1⟩

set_option maxHeartbeats 4000000 in
theorem mergesLaw_walk (o : Int) (n k : Nat) (a b : List VT) (u v : Value) (w : World) (hu0 : Lies (n + 1) w a u) (hv0 : Lies (k + 1) w b v) : Calls Tryz.prog 5 #[.int .i64 o, u, v] w fun e w' => e = .returned (.bool true) ∧ Below w.heap.size w w' := by
  have hsp : Hid (∀ w, Calls Tryz.prog 14 #[] w fun e w' => e = .returned (.bool true) ∧ Below w.heap.size w w') := speaks_any
  have hu := hu0.atLeast (max n k + 1) (by omega)
  have hv := hv0.atLeast (max n k + 1) (by omega)
  obtain ⟨aa, ca, rfl, _⟩ := Lies.slice hu0
  obtain ⟨ab, cb, rfl, _⟩ := Lies.slice hv0
  generalize max n k = d at *
  have HU : Hid (Lies (d + 1) w a (.slice aa a.length ca)) := hu
  have HV : Hid (Lies (d + 1) w b (.slice ab b.length cb)) := hv
  clear hu hv hu0 hv0
  have Hlen : Hid (mergeE d o a b = 0 → (mrg (ltO o.toNat) a b).length ≤ 65536) := fun h => by
    rw [mrg_len _ _ _ _ (Nat.le_refl _)]
    unfold mergeE at h
    by_cases h1 : lookE d o a ≠ 0
    · rw [if_pos h1] at h; exact absurd h h1
    · rw [if_neg h1] at h
      by_cases h2 : listErr d b ≠ 0
      · rw [if_pos h2] at h; exact absurd h h2
      · rw [if_neg h2] at h
        by_cases h3 : 65536 < a.length + b.length
        · rw [if_pos h3] at h; cases h
        · omega
  go_enter Tryz.func5, Tryz.ntmps5
  go_wp2_with fail
  refine (merge6_any d o a b _ _ _ HU.out HV.out).mono ?_
  rintro e w1 (⟨h1, rfl, hb1⟩ | ⟨h1, v1, rfl, hL1, hb1⟩)
  · go_wp2_with fail
    refine (rmerge_any d o a b _ _ _ (Lies.keeps hb1 _ _ _ HU.out) (Lies.keeps hb1 _ _ _ HV.out)).mono ?_
    rintro e w2 (⟨_, rfl, hb⟩ | ⟨h2, _⟩)
    · have hb2 : Below w.heap.size w w2 := hb1.trans (hb.mono hb1.size)
      clear hb hb1 h1 Hlen
      generalize mergeE d o a b = M at *
      go_wp2_with fail
      refine (values_one 16 [] (.slice none 0 0) (.slice none 0 0) w2 ⟨none, 0, rfl, by simp, fun h => absurd rfl h⟩ ⟨none, 0, rfl, by simp, fun h => absurd rfl h⟩ (by simp)).mono ?_
      rintro e w3 ⟨rfl, hb⟩
      have hb3 : Below w.heap.size w w3 := hb2.trans (hb.mono hb2.size)
      clear hb
      go_wp2_with fail
      refine (hsp.out _).mono ?_
      rintro e w4 ⟨rfl, hb⟩
      have hb4 : Below w.heap.size w w4 := hb3.trans (hb.mono hb3.size)
      clear hb
      go_wp2_with fail
      go_ret
      exact ⟨rfl, hb4⟩
    · exact absurd h2 h1
  · go_wp2_with fail
    refine (rmerge_any d o a b _ _ _ (Lies.keeps hb1 _ _ _ HU.out) (Lies.keeps hb1 _ _ _ HV.out)).mono ?_
    rintro e w2 (⟨h2, _⟩ | ⟨_, v2, rfl, hL2, hb⟩)
    · exact absurd h1 h2
    · have hb2 : Below w.heap.size w w2 := hb1.trans (hb.mono hb1.size)
      have HL1 : Hid (Lies 17 w2 (mrg (ltO o.toNat) a b) v1) := Lies.keeps hb _ _ _ (LiesB.lies _ _ _ hL1)
      have HL2 : Hid (Lies 17 w2 (mrg (ltO o.toNat) a b) v2) := hL2
      have Hlen2 : Hid _ := Hlen.out h1
      clear hb hb1 h1 Hlen hL1 hL2
      go_wp2_with fail
      refine (values_one 16 _ _ _ _ HL1.out HL2.out Hlen2.out).mono ?_
      rintro e w3 ⟨rfl, hb⟩
      have hb3 : Below w.heap.size w w3 := hb2.trans (hb.mono hb2.size)
      clear hb
      go_wp2_with fail
      refine (hsp.out _).mono ?_
      rintro e w4 ⟨rfl, hb⟩
      have hb4 : Below w.heap.size w w4 := hb3.trans (hb.mono hb3.size)
      clear hb
      go_wp2_with fail
      go_ret
      exact ⟨rfl, hb4⟩

end Go.Proofs.YtacnfmamjbmhcabGreat

