/-
  The contract of Merge.
-/
import Derived.Test.YtlmnkjnplaebgaaPlace
namespace Go.Proofs.Ytlmnkjnplaebgaa
open Go.RowKit Go.Shelf

/-- The error of Merge. -/
def mergeE (d : Nat) (o : Int) (a b : List VT) : Int :=
  if lookE d o a ≠ 0 then lookE d o a else if listErr d b ≠ 0 then listErr d b else if 65536 < a.length + b.length then 2 else if upB (ordV o.toNat) a = true ∧ upB (ordV o.toNat) b = true then 0 else 1

/-- What Merge tells. -/
def MergePost (d : Nat) (o : Int) (a b : List VT) (w : World) (e : Ending) (w' : World) : Prop :=
  (mergeE d o a b ≠ 0 ∧ e = .returned (.tuple #[.slice none 0 0, .int .i64 (mergeE d o a b)]) ∧ Below w.heap.size w w') ∨
  (mergeE d o a b = 0 ∧ ∃ v, e = .returned (.tuple #[v, .int .i64 0]) ∧ LiesB w.heap.size 17 w' (mrg (ltO o.toNat) a b) v ∧ Below w.heap.size w w')

theorem mrgM_map (q : Nat) (xs ys : List MB) (h1 : ∀ p ∈ xs, p.m = msr q p.t) (h2 : ∀ p ∈ ys, p.m = msr q p.t) : (mrg (ltG (cmpMB q)) xs ys).map (·.t) = mrg (ltO q) (xs.map (·.t)) (ys.map (·.t)) :=
  mrg_map (·.t) _ _ _ xs ys (Nat.le_refl _) (fun x hx y hy => by unfold ltG ltO cmpMB ordV; rw [h1 x hx, h2 y hy])

theorem upM_map (q : Nat) (ms : List MB) (h : ∀ p ∈ ms, p.m = msr q p.t) : upB (cmpMB q) ms = upB (ordV q) (ms.map (·.t)) :=
  upB_map (·.t) (cmpMB q) (ordV q) ms (fun p hp r hr => by unfold cmpMB ordV; rw [h p hp, h r hr])

set_option maxHeartbeats 8000000 in
theorem merge6_any (d : Nat) (o : Int) (a b : List VT) (u v : Value) (w : World) (hu : Lies (d + 1) w a u) (hv : Lies (d + 1) w b v) : Calls Try.prog 9 #[.int .i64 o, u, v] w (MergePost d o a b w) := by
  obtain ⟨aa, ca, rfl, _⟩ := Lies.slice hu
  obtain ⟨ab, cb, rfl, _⟩ := Lies.slice hv
  have HU : Hid (Lies (d + 1) w a (.slice aa a.length ca)) := hu
  have HV : Hid (Lies (d + 1) w b (.slice ab b.length cb)) := hv
  clear hu hv
  unfold MergePost
  have H1 : Hid (lookE d o a ≠ 0 → mergeE d o a b = lookE d o a) := fun h => by unfold mergeE; rw [if_pos h]
  have H2 : Hid (lookE d o a = 0 → listErr d b ≠ 0 → mergeE d o a b = listErr d b) := fun h k => by unfold mergeE; rw [if_neg (fun c => c h), if_pos k]
  have H3 : Hid (lookE d o a = 0 → listErr d b = 0 → 65536 < a.length + b.length → mergeE d o a b = 2) := fun h k m => by unfold mergeE; rw [if_neg (fun c => c h), if_neg (fun c => c k), if_pos m]
  have H4 : Hid (lookE d o a = 0 → listErr d b = 0 → ¬ 65536 < a.length + b.length → mergeE d o a b = if upB (ordV o.toNat) a = true ∧ upB (ordV o.toNat) b = true then 0 else 1) := fun h k m => by unfold mergeE; rw [if_neg (fun c => c h), if_neg (fun c => c k), if_neg m]
  generalize hM : mergeE d o a b = M at *
  clear hM
  go_enter Try.func9, Try.ntmps9
  go_wp2_with fail
  refine (look_any d o a _ _ HU.out).mono ?_
  rintro e w1 (⟨h0, rfl, hb1⟩ | ⟨h0, q, rfl, hq, hll, _, va, xs, rfl, hsa, hta, hma, hb1⟩)
  · have hM := H1.out h0
    have h0' : (M == 0) = false := by rw [hM]; simpa using h0
    have HM : Hid (M ≠ 0) := by show M ≠ 0; rw [hM]; exact h0
    rw [← hM]
    clear hM h0 H1 H2 H3 H4
    have hb2 : Below w.heap.size w (w1.alloc (.cells #[.nilFunc, .nilFunc] 41)) := hb1.alloc hb1.size _
    go_wp2_with fail
    go_ret2
    exact .inl ⟨HM.out, rfl, hb2⟩
  · have Hq1 : Hid ((q : Int).toNat = q) := by show _ = _; simp
    have HLB : Hid (lookE d q b = listErr d b) := by show _ = _; unfold lookE; rw [if_neg (by omega)]
    have H2' : Hid (listErr d b ≠ 0 → M = listErr d b) := H2.out h0
    have H3' : Hid (listErr d b = 0 → 65536 < a.length + b.length → M = 2) := H3.out h0
    have H4' : Hid (listErr d b = 0 → ¬ 65536 < a.length + b.length → M = if upB (ordV q) a = true ∧ upB (ordV q) b = true then 0 else 1) := fun k m => by
      have := H4.out h0 k m
      rwa [Hq1.out] at this
    clear H1 H2 H3 H4 h0 HU
    have hb2 : Below w.heap.size w (w1.alloc (.cells #[fv (mF q), fv (cF q)] 41)) := hb1.alloc hb1.size _
    have HS : Hid (SlM (w1.alloc (.cells #[fv (mF q), fv (cF q)] 41)) xs va) := hsa.keeps ((Grew.refl _).alloc _).below
    have HR : Hid ((w1.alloc (.cells #[fv (mF q), fv (cF q)] 41)).cell? ⟨w1.heap.size, 1, none⟩ = some (fv (cF q))) := by show _ = _; simp
    have HXA : Hid (xs.map (·.t) = a ∧ (∀ p ∈ xs, p.m = msr q p.t) ∧ xs.length = a.length) := ⟨hta, hma, by rw [← hta]; simp⟩
    clear hsa hta hma hb1
    go_wp2_with fail
    refine (look_any d q b _ _ (Lies.keeps hb2 _ _ _ HV.out)).mono ?_
    rintro e w2 (⟨h0, rfl, hb⟩ | ⟨h0, q', hqq, hq', hlb, _, vb, ys, rfl, hsb, htb, hmb, hb⟩)
    · rw [HLB.out] at h0 ⊢
      have hM := H2'.out h0
      have h0' : (M == 0) = false := by rw [hM]; simpa using h0
      have HM : Hid (M ≠ 0) := by show M ≠ 0; rw [hM]; exact h0
      rw [← hM]
      clear hM h0 H2' H3' H4'
      have hb3 : Below w.heap.size w w2 := hb2.trans (hb.mono hb2.size)
      have hb4 : Below w.heap.size w (w2.alloc (.cells #[.nilFunc, .nilFunc] 41)) := hb3.alloc hb3.size _
      clear HS HR hb hb2
      obtain ⟨_, _, _⟩ := HXA.out
      go_wp2_with fail
      go_ret2
      exact .inl ⟨HM.out, rfl, hb4⟩
    · have hqe : q' = q := by omega
      subst hqe
      rw [HLB.out] at h0
      have hb3 : Below w.heap.size w w2 := hb2.trans (hb.mono hb2.size)
      have hb4 : Below w.heap.size w (w2.alloc (.cells #[fv (mF q'), fv (cF q')] 41)) := hb3.alloc hb3.size _
      have HSA : Hid (SlM (w2.alloc (.cells #[fv (mF q'), fv (cF q')] 41)) xs va) := (HS.out.keeps hb).keeps ((Grew.refl _).alloc _).below
      have HSB : Hid (SlM (w2.alloc (.cells #[fv (mF q'), fv (cF q')] 41)) ys vb) := hsb.keeps ((Grew.refl _).alloc _).below
      have HR2 : Hid ((w2.alloc (.cells #[fv (mF q'), fv (cF q')] 41)).cell? ⟨w1.heap.size, 1, none⟩ = some (fv (cF q'))) := cell_keeps ((Grew.refl _).alloc _).below (cell_keeps hb HR.out)
      have HYB : Hid (ys.map (·.t) = b ∧ (∀ p ∈ ys, p.m = msr q' p.t) ∧ ys.length = b.length) := ⟨htb, hmb, by rw [← htb]; simp⟩
      have H3 : Hid (65536 < a.length + b.length → M = 2) := H3'.out h0
      have H4 : Hid (¬ 65536 < a.length + b.length → M = if upB (ordV q') a = true ∧ upB (ordV q') b = true then 0 else 1) := H4'.out h0
      have HUa : Hid (upB (cmpMB q') xs = upB (ordV q') a) := by show _ = _; rw [upM_map q' xs HXA.out.2.1, HXA.out.1]
      have HUb : Hid (upB (cmpMB q') ys = upB (ordV q') b) := by show _ = _; rw [upM_map q' ys HYB.out.2.1, HYB.out.1]
      have HMM : Hid ((mrg (ltG (cmpMB q')) xs ys).map (·.t) = mrg (ltO q') a b) := by show _ = _; rw [mrgM_map q' xs ys HXA.out.2.1 HYB.out.2.1, HXA.out.1, HYB.out.1]
      have Hup : Hid (∀ (ms : List MB) (v : Value) (W : World), SlM W ms v → ms.length ≤ 65536 → Calls Try.prog 22 #[v, fv (cF q')] W fun e w' => e = .returned (.bool (upB (cmpMB q') ms)) ∧ Below W.heap.size W w') := fun ms v W k1 k2 => isUp_core (cF q') (cF_enters q' hq') (cmpMB q') ms v W k1 k2 (cmpMB_any q' hq')
      have Hmg : Hid (∀ (W : World), SlM W xs va → SlM W ys vb → xs.length + ys.length ≤ 65536 → Calls Try.prog 23 #[va, vb, fv (cF q')] W fun e w' => ∃ v, e = .returned v ∧ SlM w' (mrg (ltG (cmpMB q')) xs ys) v ∧ Below W.heap.size W w') := fun W k1 k2 k3 => merged_core (cF q') (cF_enters q' hq') (cmpMB q') xs ys va vb W k1 k2 k3 (cmpMB_any q' hq')
      have hlx : xs.length ≤ 65536 := by rw [HXA.out.2.2]; exact hll
      have hly : ys.length ≤ 65536 := by rw [HYB.out.2.2]; exact hlb
      have Hxy : Hid (xs.length + ys.length = a.length + b.length) := by show _ = _; rw [HXA.out.2.2, HYB.out.2.2]
      obtain ⟨bs, os, cs, rfl, _⟩ := HSA.out
      obtain ⟨bt, ot, ct, rfl, _⟩ := HSB.out
      clear HS HR hb hb2 hb3 hsb htb hmb H2' H3' H4' HLB h0 hqq HV HXA HYB hll hlb
      have Hq2 : Hid ((q' : Int).toNat = q') := Hq1.out
      clear Hq1
      generalize w1.heap.size = B at *
      generalize mF q' = f0 at *
      generalize cF q' = f1 at *
      have hr2 := HR2.out
      by_cases hlong : 65536 < xs.length + ys.length
      · have hM : M = 2 := H3.out (by rw [← Hxy.out]; exact hlong)
        have hlong' : (65536 : Int) < (xs.length : Int) + (ys.length : Int) := by omega
        have HM : Hid (M = 2) := hM
        clear hM H3 H4 Hup Hmg hlong
        go_wp2_with fail
        go_ret2
        exact .inl ⟨by rw [HM.out]; omega, by rw [HM.out]; rfl, hb4⟩
      · have HM : Hid (M = if upB (ordV q') a = true ∧ upB (ordV q') b = true then 0 else 1) := H4.out (by rw [← Hxy.out]; exact hlong)
        have hlong' : ¬ (65536 : Int) < (xs.length : Int) + (ys.length : Int) := by omega
        clear H3 H4
        go_wp2_with fail
        refine (Hup.out xs _ _ HSA.out hlx).mono ?_
        rintro e w3 ⟨rfl, hb⟩
        have hb5 : Below w.heap.size w w3 := hb4.trans (hb.mono hb4.size)
        have HSA3 : Hid (SlM w3 xs (.slice (some ⟨bs, os, none⟩) xs.length cs)) := HSA.out.keeps hb
        have HSB3 : Hid (SlM w3 ys (.slice (some ⟨bt, ot, none⟩) ys.length ct)) := HSB.out.keeps hb
        have HR3 : Hid (w3.cell? ⟨B, 1, none⟩ = some (fv f1)) := cell_keeps hb HR2.out
        clear hb hb4 HSA HSB HR2 hr2
        rw [HUa.out]
        have hr3 := HR3.out
        cases hua : upB (ordV q') a
        · have hM : M = 1 := by rw [HM.out, hua]; simp
          have HM1 : Hid (M = 1) := hM
          clear hM HM Hmg
          go_wp2_with fail
          go_ret2
          exact .inl ⟨by rw [HM1.out]; omega, by rw [HM1.out]; rfl, hb5⟩
        · go_wp2_with fail
          refine (Hup.out ys _ _ HSB3.out hly).mono ?_
          rintro e w4 ⟨rfl, hb⟩
          have hb6 : Below w.heap.size w w4 := hb5.trans (hb.mono hb5.size)
          have HSA4 : Hid (SlM w4 xs (.slice (some ⟨bs, os, none⟩) xs.length cs)) := HSA3.out.keeps hb
          have HSB4 : Hid (SlM w4 ys (.slice (some ⟨bt, ot, none⟩) ys.length ct)) := HSB3.out.keeps hb
          have hr4 : w4.cell? ⟨B, 1, none⟩ = some (fv f1) := cell_keeps hb hr3
          clear hb hb5 HSA3 HSB3 HR3 hr3
          rw [HUb.out]
          cases hub : upB (ordV q') b
          · have hM : M = 1 := by rw [HM.out, hub]; simp
            have HM1 : Hid (M = 1) := hM
            clear hM HM Hmg
            go_wp2_with fail
            go_ret2
            exact .inl ⟨by rw [HM1.out]; omega, by rw [HM1.out]; rfl, hb6⟩
          · have hM : M = 0 := by rw [HM.out, hua, hub]; simp
            have HM1 : Hid (M = 0) := hM
            clear hM HM hua hub Hup
            go_wp2_with fail
            refine (Hmg.out _ HSA4.out HSB4.out (by omega)).mono ?_
            rintro e w5 ⟨v5, rfl, hs5, hb⟩
            have hb7 : Below w.heap.size w w5 := hb6.trans (hb.mono hb6.size)
            have HS5 : Hid _ := hs5
            clear hs5 hb hb6 HSA4 HSB4 hr4
            go_wp2_with fail
            refine (copies_any _ _ _ HS5.out (by rw [mrg_len _ _ _ _ (Nat.le_refl _)]; omega)).mono ?_
            rintro e w6 ⟨v6, rfl, hL6, hb⟩
            rw [HMM.out] at hL6
            have hL7 : LiesB w.heap.size 17 w6 (mrg (ltO q') a b) v6 := LiesB.lower hb7.size _ _ _ hL6
            have hb8 : Below w.heap.size w w6 := hb7.trans (hb.mono hb7.size)
            have HL : Hid (LiesB w.heap.size 17 w6 (mrg (ltO (q' : Int).toNat) a b) v6) := by show LiesB _ _ _ _ _; rw [Hq2.out]; exact hL7
            clear hL6 hL7 hb HS5 hb7
            go_wp2_with fail
            go_ret2
            exact .inr ⟨HM1.out, _, rfl, HL.out, hb8⟩

end Go.Proofs.Ytlmnkjnplaebgaa
