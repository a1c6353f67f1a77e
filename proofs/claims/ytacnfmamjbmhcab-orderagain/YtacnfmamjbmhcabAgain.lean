/-
  The walk of OrderAgain.
-/
import Derived.Test.YtacnfmamjbmhcabSpeaks6
import Derived.Test.YtacnfmamjbmhcabOrdered
import Derived.Test.YtacnfmamjbmhcabUniq
import Derived.Lib.AppendZeros
namespace Go.Proofs.Ytacnfmamjbmhcab
open Go.RowKit Go.Shelf

/-- The error of Merge. -/
def mergeE (d : Nat) (o : Int) (a b : List VT) : Int :=
  if lookE d o a ≠ 0 then lookE d o a else if listErr d b ≠ 0 then listErr d b else if 65536 < a.length + b.length then 2 else if upB (ordV o.toNat) a = true ∧ upB (ordV o.toNat) b = true then 0 else 1

/-- What Merge tells. -/
def MergePost (d : Nat) (o : Int) (a b : List VT) (w : World) (e : Ending) (w' : World) : Prop :=
  (mergeE d o a b ≠ 0 ∧ e = .returned (.tuple #[.slice none 0 0, .int .i64 (mergeE d o a b)]) ∧ Below w.heap.size w w') ∨
  (mergeE d o a b = 0 ∧ ∃ v, e = .returned (.tuple #[v, .int .i64 0]) ∧ LiesB w.heap.size 17 w' (mrg (ltO o.toNat) a b) v ∧ Below w.heap.size w w')

theorem mrgM_map (q : Nat) (xs ys : List MB) (h1 : ∀ p ∈ xs, p.m = msr q p.t) (h2 : ∀ p ∈ ys, p.m = msr q p.t) : (mrg (ltG (cmpMB q)) xs ys).map (·.t) = mrg (ltO q) (xs.map (·.t)) (ys.map (·.t)) :=
  mrg_map (·.t) _ _ _ xs ys (Nat.le_refl _) (fun x hx y hy => by unfold ltG ltO cmpMB ordV; rw [h1 x hx, h2 y hy])

theorem upM_map (q : Nat) (ms : List MB) (h : ∀ p ∈ ms, p.m = msr q p.t) : upB (cmpMB q) ms = upB (ordV q) (ms.map (·.t)) :=
  upB_map (·.t) (cmpMB q) (ordV q) ms (fun p hp r hr => by unfold cmpMB ordV; rw [h p hp, h r hr])

set_option maxHeartbeats 8000000 in
theorem merge6_any (d : Nat) (o : Int) (a b : List VT) (u v : Value) (w : World) (hu : Lies (d + 1) w a u) (hv : Lies (d + 1) w b v) : Calls Try.prog 9 #[.int .i64 o, u, v] w (MergePost d o a b w) := by
  obtain ⟨aa, ca, rfl, _⟩ := Lies.slice hu
  obtain ⟨ab, cb, rfl, _⟩ := Lies.slice hv
  have HU : Hid (Lies (d + 1) w a (.slice aa a.length ca)) := hu
  have HV : Hid (Lies (d + 1) w b (.slice ab b.length cb)) := hv
  clear hu hv
  unfold MergePost
  have H1 : Hid (lookE d o a ≠ 0 → mergeE d o a b = lookE d o a) := fun h => by unfold mergeE; rw [if_pos h]
  have H2 : Hid (lookE d o a = 0 → listErr d b ≠ 0 → mergeE d o a b = listErr d b) := fun h k => by unfold mergeE; rw [if_neg (fun c => c h), if_pos k]
  have H3 : Hid (lookE d o a = 0 → listErr d b = 0 → 65536 < a.length + b.length → mergeE d o a b = 2) := fun h k m => by unfold mergeE; rw [if_neg (fun c => c h), if_neg (fun c => c k), if_pos m]
  have H4 : Hid (lookE d o a = 0 → listErr d b = 0 → ¬ 65536 < a.length + b.length → mergeE d o a b = if upB (ordV o.toNat) a = true ∧ upB (ordV o.toNat) b = true then 0 else 1) := fun h k m => by unfold mergeE; rw [if_neg (fun c => c h), if_neg (fun c => c k), if_neg m]
  generalize hM : mergeE d o a b = M at *
  clear hM
  go_enter Try.func9, Try.ntmps9
  go_wp2_with fail
  refine (look_any d o a _ _ HU.out).mono ?_
  rintro e w1 (⟨h0, rfl, hb1⟩ | ⟨h0, q, rfl, hq, hll, _, va, xs, rfl, hsa, hta, hma, hb1⟩)
  · have hM := H1.out h0
    have h0' : (M == 0) = false := by rw [hM]; simpa using h0
    have HM : Hid (M ≠ 0) := by show M ≠ 0; rw [hM]; exact h0
    rw [← hM]
    clear hM h0 H1 H2 H3 H4
    have hb2 : Below w.heap.size w (w1.alloc (.cells #[.nilFunc, .nilFunc] 41)) := hb1.alloc hb1.size _
    go_wp2_with fail
    go_ret2
    exact .inl ⟨HM.out, rfl, hb2⟩
  · have Hq1 : Hid ((q : Int).toNat = q) := by show _ = _; simp
    have HLB : Hid (lookE d q b = listErr d b) := by show _ = _; unfold lookE; rw [if_neg (by omega)]
    have H2' : Hid (listErr d b ≠ 0 → M = listErr d b) := H2.out h0
    have H3' : Hid (listErr d b = 0 → 65536 < a.length + b.length → M = 2) := H3.out h0
    have H4' : Hid (listErr d b = 0 → ¬ 65536 < a.length + b.length → M = if upB (ordV q) a = true ∧ upB (ordV q) b = true then 0 else 1) := fun k m => by
      have := H4.out h0 k m
      rwa [Hq1.out] at this
    clear H1 H2 H3 H4 h0 HU
    have hb2 : Below w.heap.size w (w1.alloc (.cells #[fv (mF q), fv (cF q)] 41)) := hb1.alloc hb1.size _
    have HS : Hid (SlM (w1.alloc (.cells #[fv (mF q), fv (cF q)] 41)) xs va) := hsa.keeps ((Grew.refl _).alloc _).below
    have HR : Hid ((w1.alloc (.cells #[fv (mF q), fv (cF q)] 41)).cell? ⟨w1.heap.size, 1, none⟩ = some (fv (cF q))) := by show _ = _; simp
    have HXA : Hid (xs.map (·.t) = a ∧ (∀ p ∈ xs, p.m = msr q p.t) ∧ xs.length = a.length) := ⟨hta, hma, by rw [← hta]; simp⟩
    clear hsa hta hma hb1
    go_wp2_with fail
    refine (look_any d q b _ _ (Lies.keeps hb2 _ _ _ HV.out)).mono ?_
    rintro e w2 (⟨h0, rfl, hb⟩ | ⟨h0, q', hqq, hq', hlb, _, vb, ys, rfl, hsb, htb, hmb, hb⟩)
    · rw [HLB.out] at h0 ⊢
      have hM := H2'.out h0
      have h0' : (M == 0) = false := by rw [hM]; simpa using h0
      have HM : Hid (M ≠ 0) := by show M ≠ 0; rw [hM]; exact h0
      rw [← hM]
      clear hM h0 H2' H3' H4'
      have hb3 : Below w.heap.size w w2 := hb2.trans (hb.mono hb2.size)
      have hb4 : Below w.heap.size w (w2.alloc (.cells #[.nilFunc, .nilFunc] 41)) := hb3.alloc hb3.size _
      clear HS HR hb hb2
      obtain ⟨_, _, _⟩ := HXA.out
      go_wp2_with fail
      go_ret2
      exact .inl ⟨HM.out, rfl, hb4⟩
    · have hqe : q' = q := by omega
      subst hqe
      rw [HLB.out] at h0
      have hb3 : Below w.heap.size w w2 := hb2.trans (hb.mono hb2.size)
      have hb4 : Below w.heap.size w (w2.alloc (.cells #[fv (mF q'), fv (cF q')] 41)) := hb3.alloc hb3.size _
      have HSA : Hid (SlM (w2.alloc (.cells #[fv (mF q'), fv (cF q')] 41)) xs va) := (HS.out.keeps hb).keeps ((Grew.refl _).alloc _).below
      have HSB : Hid (SlM (w2.alloc (.cells #[fv (mF q'), fv (cF q')] 41)) ys vb) := hsb.keeps ((Grew.refl _).alloc _).below
      have HR2 : Hid ((w2.alloc (.cells #[fv (mF q'), fv (cF q')] 41)).cell? ⟨w1.heap.size, 1, none⟩ = some (fv (cF q'))) := cell_keeps ((Grew.refl _).alloc _).below (cell_keeps hb HR.out)
      have HYB : Hid (ys.map (·.t) = b ∧ (∀ p ∈ ys, p.m = msr q' p.t) ∧ ys.length = b.length) := ⟨htb, hmb, by rw [← htb]; simp⟩
      have H3 : Hid (65536 < a.length + b.length → M = 2) := H3'.out h0
      have H4 : Hid (¬ 65536 < a.length + b.length → M = if upB (ordV q') a = true ∧ upB (ordV q') b = true then 0 else 1) := H4'.out h0
      have HUa : Hid (upB (cmpMB q') xs = upB (ordV q') a) := by show _ = _; rw [upM_map q' xs HXA.out.2.1, HXA.out.1]
      have HUb : Hid (upB (cmpMB q') ys = upB (ordV q') b) := by show _ = _; rw [upM_map q' ys HYB.out.2.1, HYB.out.1]
      have HMM : Hid ((mrg (ltG (cmpMB q')) xs ys).map (·.t) = mrg (ltO q') a b) := by show _ = _; rw [mrgM_map q' xs ys HXA.out.2.1 HYB.out.2.1, HXA.out.1, HYB.out.1]
      have Hup : Hid (∀ (ms : List MB) (v : Value) (W : World), SlM W ms v → ms.length ≤ 65536 → Calls Try.prog 22 #[v, fv (cF q')] W fun e w' => e = .returned (.bool (upB (cmpMB q') ms)) ∧ Below W.heap.size W w') := fun ms v W k1 k2 => isUp_core (cF q') (cF_enters q' hq') (cmpMB q') ms v W k1 k2 (cmpMB_any q' hq')
      have Hmg : Hid (∀ (W : World), SlM W xs va → SlM W ys vb → xs.length + ys.length ≤ 65536 → Calls Try.prog 23 #[va, vb, fv (cF q')] W fun e w' => ∃ v, e = .returned v ∧ SlM w' (mrg (ltG (cmpMB q')) xs ys) v ∧ Below W.heap.size W w') := fun W k1 k2 k3 => merged_core (cF q') (cF_enters q' hq') (cmpMB q') xs ys va vb W k1 k2 k3 (cmpMB_any q' hq')
      have hlx : xs.length ≤ 65536 := by rw [HXA.out.2.2]; exact hll
      have hly : ys.length ≤ 65536 := by rw [HYB.out.2.2]; exact hlb
      have Hxy : Hid (xs.length + ys.length = a.length + b.length) := by show _ = _; rw [HXA.out.2.2, HYB.out.2.2]
      obtain ⟨bs, os, cs, rfl, _⟩ := HSA.out
      obtain ⟨bt, ot, ct, rfl, _⟩ := HSB.out
      clear HS HR hb hb2 hb3 hsb htb hmb H2' H3' H4' HLB h0 hqq HV HXA HYB hll hlb
      have Hq2 : Hid ((q' : Int).toNat = q') := Hq1.out
      clear Hq1
      generalize w1.heap.size = B at *
      generalize mF q' = f0 at *
      generalize cF q' = f1 at *
      have hr2 := HR2.out
      by_cases hlong : 65536 < xs.length + ys.length
      · have hM : M = 2 := H3.out (by rw [← Hxy.out]; exact hlong)
        have hlong' : (65536 : Int) < (xs.length : Int) + (ys.length : Int) := by omega
        have HM : Hid (M = 2) := hM
        clear hM H3 H4 Hup Hmg hlong
        go_wp2_with fail
        go_ret2
        exact .inl ⟨by rw [HM.out]; omega, by rw [HM.out]; rfl, hb4⟩
      · have HM : Hid (M = if upB (ordV q') a = true ∧ upB (ordV q') b = true then 0 else 1) := H4.out (by rw [← Hxy.out]; exact hlong)
        have hlong' : ¬ (65536 : Int) < (xs.length : Int) + (ys.length : Int) := by omega
        clear H3 H4
        go_wp2_with fail
        refine (Hup.out xs _ _ HSA.out hlx).mono ?_
        rintro e w3 ⟨rfl, hb⟩
        have hb5 : Below w.heap.size w w3 := hb4.trans (hb.mono hb4.size)
        have HSA3 : Hid (SlM w3 xs (.slice (some ⟨bs, os, none⟩) xs.length cs)) := HSA.out.keeps hb
        have HSB3 : Hid (SlM w3 ys (.slice (some ⟨bt, ot, none⟩) ys.length ct)) := HSB.out.keeps hb
        have HR3 : Hid (w3.cell? ⟨B, 1, none⟩ = some (fv f1)) := cell_keeps hb HR2.out
        clear hb hb4 HSA HSB HR2 hr2
        rw [HUa.out]
        have hr3 := HR3.out
        cases hua : upB (ordV q') a
        · have hM : M = 1 := by rw [HM.out, hua]; simp
          have HM1 : Hid (M = 1) := hM
          clear hM HM Hmg
          go_wp2_with fail
          go_ret2
          exact .inl ⟨by rw [HM1.out]; omega, by rw [HM1.out]; rfl, hb5⟩
        · go_wp2_with fail
          refine (Hup.out ys _ _ HSB3.out hly).mono ?_
          rintro e w4 ⟨rfl, hb⟩
          have hb6 : Below w.heap.size w w4 := hb5.trans (hb.mono hb5.size)
          have HSA4 : Hid (SlM w4 xs (.slice (some ⟨bs, os, none⟩) xs.length cs)) := HSA3.out.keeps hb
          have HSB4 : Hid (SlM w4 ys (.slice (some ⟨bt, ot, none⟩) ys.length ct)) := HSB3.out.keeps hb
          have hr4 : w4.cell? ⟨B, 1, none⟩ = some (fv f1) := cell_keeps hb hr3
          clear hb hb5 HSA3 HSB3 HR3 hr3
          rw [HUb.out]
          cases hub : upB (ordV q') b
          · have hM : M = 1 := by rw [HM.out, hub]; simp
            have HM1 : Hid (M = 1) := hM
            clear hM HM Hmg
            go_wp2_with fail
            go_ret2
            exact .inl ⟨by rw [HM1.out]; omega, by rw [HM1.out]; rfl, hb6⟩
          · have hM : M = 0 := by rw [HM.out, hua, hub]; simp
            have HM1 : Hid (M = 0) := hM
            clear hM HM hua hub Hup
            go_wp2_with fail
            refine (Hmg.out _ HSA4.out HSB4.out (by omega)).mono ?_
            rintro e w5 ⟨v5, rfl, hs5, hb⟩
            have hb7 : Below w.heap.size w w5 := hb6.trans (hb.mono hb6.size)
            have HS5 : Hid _ := hs5
            clear hs5 hb hb6 HSA4 HSB4 hr4
            go_wp2_with fail
            refine (copies_any _ _ _ HS5.out (by rw [mrg_len _ _ _ _ (Nat.le_refl _)]; omega)).mono ?_
            rintro e w6 ⟨v6, rfl, hL6, hb⟩
            rw [HMM.out] at hL6
            have hL7 : LiesB w.heap.size 17 w6 (mrg (ltO q') a b) v6 := LiesB.lower hb7.size _ _ _ hL6
            have hb8 : Below w.heap.size w w6 := hb7.trans (hb.mono hb7.size)
            have HL : Hid (LiesB w.heap.size 17 w6 (mrg (ltO (q' : Int).toNat) a b) v6) := by show LiesB _ _ _ _ _; rw [Hq2.out]; exact hL7
            clear hL6 hL7 hb HS5 hb7
            go_wp2_with fail
            go_ret2
            exact .inr ⟨HM1.out, _, rfl, HL.out, hb8⟩

end Go.Proofs.Ytacnfmamjbmhcab

namespace Go.Proofs.Ytacnfmamjbmhcab
open Go.RowKit Go.Shelf

theorem ltO_as (q : Nat) (a b : VT) (h : ltO q a b = true) : ltO q b a = false := by
  unfold ltO at h ⊢
  have h1 := of_decide_eq_true h
  have h2 := ordV_turn q a b
  exact decide_eq_false (by omega)

theorem ltO_tr (q : Nat) (a b c : VT) (h1 : ltO q b a = false) (h2 : ltO q c b = false) : ltO q c a = false := by
  unfold ltO at h1 h2 ⊢
  have k1 := of_decide_eq_false h1
  have k2 := of_decide_eq_false h2
  have t1 := ordV_turn q a b
  have t2 := ordV_turn q b c
  have t3 := ordV_turn q a c
  have := (ordV_goes q a b c (by omega) (by omega)).1
  exact decide_eq_false (by omega)

theorem srtV_up (q : Nat) (l : List VT) : Up (ltO q) (srtV q l) := srt_up (ltO q) (ltO_as q) (ltO_tr q) _ l (by omega)

theorem up_upB {q : Nat} {l : List VT} (h : Up (ltO q) l) : upB (ordV q) l = true := by
  have hall : ∀ n, n < l.length → dnB (ordV q) l n = true := by
    intro n
    induction n with
    | zero => intro _; rfl
    | succ n ih =>
      intro hn
      rw [dnB_step _ _ _ hn]
      have hp := List.pairwise_iff_getElem.1 h n (n + 1) (by omega) hn (by omega)
      have := of_decide_eq_false (show decide (ordV q l[n + 1] (l[n]'(by omega)) < 0) = false from hp)
      rw [if_neg this]
      exact ih (by omega)
  unfold upB
  by_cases h0 : l.length = 0
  · rw [h0]; rfl
  · exact hall _ (by omega)

theorem up_one (q : Nat) : ∀ (l m : List VT), l.Perm m → (∀ x ∈ l, Good 16 x) → Up (ltO q) l → Up (ltO q) m → l = m := by
  intro l
  induction l with
  | nil => intro m hp _ _ _; exact hp.nil_eq
  | cons x l ih =>
    intro m hp hg hl hm
    cases m with
    | nil => exact absurd hp.length_eq (by simp)
    | cons y m =>
      obtain ⟨hl1, hl2⟩ := List.pairwise_cons.1 hl
      obtain ⟨hm1, hm2⟩ := List.pairwise_cons.1 hm
      have hx : x ∈ y :: m := hp.subset List.mem_cons_self
      have hy : y ∈ x :: l := hp.symm.subset List.mem_cons_self
      have hself : ∀ a, ltO q a a = false := fun a => decide_eq_false (by have := ordV_self q a; omega)
      have h1 : ltO q x y = false := by
        rcases List.mem_cons.1 hx with rfl | h
        · exact hself _
        · exact hm1 x h
      have h2 : ltO q y x = false := by
        rcases List.mem_cons.1 hy with rfl | h
        · exact hself _
        · exact hl1 y h
      have k1 := of_decide_eq_false (show decide (ordV q x y < 0) = false from h1)
      have k2 := of_decide_eq_false (show decide (ordV q y x < 0) = false from h2)
      have k3 := ordV_turn q x y
      have e : x = y := ordV_eq q (hg x List.mem_cons_self) (hg y hy) (by omega)
      subst e
      rw [ih m (List.Perm.cons_inv hp) (fun z hz => hg z (List.mem_cons_of_mem _ hz)) hl2 hm2]

theorem srtV_mem {q : Nat} {l : List VT} {x : VT} (h : x ∈ srtV q l) : x ∈ l := srt_mem _ _ _ _ h

theorem srtV_again (q : Nat) (l : List VT) (hg : ∀ x ∈ l, Good 16 x) : srtV q (srtV q l) = srtV q l :=
  up_one q _ _ (srt_perm _ _ _) (fun x hx => hg x (srtV_mem (srtV_mem hx))) (srtV_up q _) (srtV_up q l)

theorem mrg_srt (q : Nat) (l m : List VT) (h1 : ∀ x ∈ l, Good 16 x) (h2 : ∀ x ∈ m, Good 16 x) : mrg (ltO q) (srtV q l) (srtV q m) = srtV q (l ++ m) := by
  refine up_one q _ _ ?_ (fun x hx => ?_) (mrg_up (ltO q) (ltO_as q) (ltO_tr q) _ _ _ (Nat.le_refl _) (srtV_up q l) (srtV_up q m)) (srtV_up q _)
  · exact (mrg_perm _ _ _ _ (Nat.le_refl _)).trans (((srt_perm _ _ _).append (srt_perm _ _ _)).trans (srt_perm _ _ _).symm)
  · rcases mrg_mem _ _ _ _ (Nat.le_refl _) x hx with h | h
    · exact h1 x (srtV_mem h)
    · exact h2 x (srtV_mem h)

theorem srtV_len (q : Nat) (l : List VT) : (srtV q l).length = l.length := srt_len _ _ _

theorem listErr_right {l : List VT} (h1 : l.length ≤ 65536) (h2 : ∀ x ∈ l, Good 16 x) : listErr 16 l = 0 := by
  unfold listErr
  rw [if_neg (by omega), if_pos (List.all_eq_true.2 fun x hx => (h2 x hx).1)]

theorem good_of {d : Nat} {w : World} {l : List VT} {u : Value} (hu : Lies (d + 1) w l u) (h : listErr d l = 0) : ∀ x ∈ l, Good 16 x := by
  intro x hx
  obtain ⟨_, h2⟩ := listErr_zero6 h
  obtain ⟨a, c, rfl, _, ps, hps, hsd, _⟩ := Lies.row hu
  rw [← hps] at hx
  obtain ⟨p, hp, rfl⟩ := List.mem_map.1 hx
  have hr := h2 p.1 (by rw [← hps]; exact List.mem_map.2 ⟨p, hp, rfl⟩)
  have hc := canon (hsd p hp).1 hr
  exact ⟨hc.2, Dp.of_lies 16 w p.1 _ hc.1⟩

end Go.Proofs.Ytacnfmamjbmhcab

namespace Go.Proofs.Ytacnfmamjbmhcab
open Go.RowKit Go.Shelf

theorem lookE_pos {d : Nat} {o : Int} {l : List VT} (h : lookE d o l = 0) : (0 ≤ o ∧ o < 6) ∧ listErr d l = 0 := by
  unfold lookE at h
  by_cases ho : o < 0 ∨ 6 ≤ o
  · rw [if_pos ho] at h; cases h
  · rw [if_neg ho] at h
    exact ⟨by omega, h⟩

theorem lookE_of {d : Nat} {o : Int} {l : List VT} (ho : 0 ≤ o ∧ o < 6) (h : listErr d l = 0) : lookE d o l = 0 := by
  unfold lookE
  rw [if_neg (by omega)]
  exact h

/-- What the statement needs of two lists. -/
theorem again_facts {d : Nat} {o : Int} {l m : List VT} {w : World} {u v : Value} (hu : Lies (d + 1) w l u) (hv : Lies (d + 1) w m v) (h1 : lookE d o l = 0) (h2 : lookE d o m = 0) (hlen : l.length + m.length ≤ 65536) :
    lookE 16 o (srtV o.toNat l) = 0 ∧ mergeE 16 o (srtV o.toNat l) (srtV o.toNat m) = 0 ∧ lookE d o (l ++ m) = 0 ∧ srtV o.toNat (srtV o.toNat l) = srtV o.toNat l ∧ mrg (ltO o.toNat) (srtV o.toNat l) (srtV o.toNat m) = srtV o.toNat (l ++ m) := by
  obtain ⟨ho, e1⟩ := lookE_pos h1
  obtain ⟨_, e2⟩ := lookE_pos h2
  have g1 := good_of hu e1
  have g2 := good_of hv e2
  have g1' : ∀ x ∈ srtV o.toNat l, Good 16 x := fun x hx => g1 x (srtV_mem hx)
  have g2' : ∀ x ∈ srtV o.toNat m, Good 16 x := fun x hx => g2 x (srtV_mem hx)
  have k1 : lookE 16 o (srtV o.toNat l) = 0 := lookE_of ho (listErr_right (by rw [srtV_len]; omega) g1')
  have k2 : listErr 16 (srtV o.toNat m) = 0 := listErr_right (by rw [srtV_len]; omega) g2'
  refine ⟨k1, ?_, lookE_of ho ?_, srtV_again _ l g1, mrg_srt _ l m g1 g2⟩
  · unfold mergeE
    rw [if_neg (fun c => c k1), if_neg (fun c => c k2), if_neg (by rw [srtV_len, srtV_len]; omega), if_pos ⟨up_upB (srtV_up _ l), up_upB (srtV_up _ m)⟩]
  · obtain ⟨_, r1⟩ := listErr_zero6 e1
    obtain ⟨_, r2⟩ := listErr_zero6 e2
    unfold listErr
    rw [if_neg (by rw [List.length_append]; omega), if_pos (List.all_eq_true.2 fun x hx => by
      rcases List.mem_append.1 hx with h | h
      · exact r1 x h
      · exact r2 x h)]

set_option maxRecDepth 100000 in
set_option maxHeartbeats 8000000 in
theorem again_walk (o : Int) (d : Nat) (l m : List VT) (u v : Value) (w : World) (hu : Lies (d + 1) w l u) (hv : Lies (d + 1) w m v) : Calls Try.prog 4 #[.int .i64 o, u, v] w fun e w' => e = .returned (.bool true) ∧ Below w.heap.size w w' := by
  have hsp : Hid (∀ w, Calls Try.prog 6 #[] w fun e w' => e = .returned (.bool true) ∧ Below w.heap.size w w') := speaks_any
  have Hfacts : Hid (lookE d o l = 0 → lookE d o m = 0 → l.length + m.length ≤ 65536 → lookE 16 o (srtV o.toNat l) = 0 ∧ mergeE 16 o (srtV o.toNat l) (srtV o.toNat m) = 0 ∧ lookE d o (l ++ m) = 0 ∧ srtV o.toNat (srtV o.toNat l) = srtV o.toNat l ∧ mrg (ltO o.toNat) (srtV o.toNat l) (srtV o.toNat m) = srtV o.toNat (l ++ m)) := fun h1 h2 h3 => again_facts hu hv h1 h2 h3
  obtain ⟨i0, hi, hz0, hz1, hz2⟩ := info24
  have Hi : Hid _ := hi; have Hz0 : Hid _ := hz0; have Hz1 : Hid _ := hz1; have Hz2 : Hid _ := hz2
  clear hi hz0 hz1 hz2
  obtain ⟨aa, ca, rfl, hla, ps, hps, hsp1, hrow1⟩ := Lies.row hu
  obtain ⟨ab, cb, rfl, hlb, qs, hqs, hsp2, hrow2⟩ := Lies.row hv
  have HU : Hid (Lies (d + 1) w l (.slice aa l.length ca)) := hu
  have HV : Hid (Lies (d + 1) w m (.slice ab m.length cb)) := hv
  have HP : Hid (ps.length = l.length ∧ ps.map (·.1) = l ∧ ∀ p ∈ ps, Sound d w p) := ⟨by rw [← hps]; simp, hps, hsp1⟩
  have HQ : Hid (qs.length = m.length ∧ qs.map (·.1) = m ∧ ∀ p ∈ qs, Sound d w p) := ⟨by rw [← hqs]; simp, hqs, hsp2⟩
  have HN1 : Hid (aa = none → l.length = 0) := fun e => by
    by_cases hne : l = []
    · rw [hne]; rfl
    · obtain ⟨b, oo, ha, _⟩ := hrow1 hne
      rw [ha] at e; cases e
  have HN2 : Hid (ab = none → m.length = 0) := fun e => by
    by_cases hne : m = []
    · rw [hne]; rfl
    · obtain ⟨b, oo, ha, _⟩ := hrow2 hne
      rw [ha] at e; cases e
  have HF1 : Hid (∀ W, Below w.heap.size w W → ∀ ad, aa = some ad → ∀ j z, (ps.flatMap encP)[j]? = some z → W.cell? (ad.add j) = some z) := fun W hW ad e j z hj => by
    by_cases hne : l = []
    · have : ps = [] := List.eq_nil_of_length_eq_zero (by rw [HP.out.1, hne]; rfl)
      rw [this] at hj; simp at hj
    · obtain ⟨b, oo, ha, hr⟩ := hrow1 hne
      rw [ha] at e
      injection e with e
      subst e
      rw [add_addr5]
      exact (hr.keeps hW).flat j z hj
  have HF2 : Hid (∀ W, Below w.heap.size w W → ∀ ad, ab = some ad → ∀ j z, (qs.flatMap encP)[j]? = some z → W.cell? (ad.add j) = some z) := fun W hW ad e j z hj => by
    by_cases hne : m = []
    · have : qs = [] := List.eq_nil_of_length_eq_zero (by rw [HQ.out.1, hne]; rfl)
      rw [this] at hj; simp at hj
    · obtain ⟨b, oo, ha, hr⟩ := hrow2 hne
      rw [ha] at e
      injection e with e
      subst e
      rw [add_addr5]
      exact (hr.keeps hW).flat j z hj
  have HO1 : Hid (∀ z ∈ ps.flatMap encP, z.oneCell' = true) := fun z hz => by
    obtain ⟨p, hp, hz⟩ := List.mem_flatMap.1 hz
    exact encP_one (hsp1 p hp) z hz
  have HO2 : Hid (∀ z ∈ qs.flatMap encP, z.oneCell' = true) := fun z hz => by
    obtain ⟨p, hp, hz⟩ := List.mem_flatMap.1 hz
    exact encP_one (hsp2 p hp) z hz
  have HL1 : Hid ((ps.flatMap encP).length = l.length * 4) := by show _ = _; rw [flat_len, HP.out.1]
  have HL2 : Hid ((qs.flatMap encP).length = m.length * 4) := by show _ = _; rw [flat_len, HQ.out.1]
  clear hu hv hps hqs hsp1 hsp2 hrow1 hrow2
  go_enter Try.func4, Try.ntmps4
  go_wp2_with fail
  refine (sort6_any d o l _ _ HU.out).mono ?_
  rintro e w1 (⟨h1, rfl, hb1⟩ | ⟨h1, v1, rfl, hL1, hb1⟩)
  · have h1' : ¬ lookE d o l = 0 := h1
    clear Hfacts
    generalize lookE d o l = E1 at *
    go_wp2_with fail
    refine (sort6_any d o m _ _ (Lies.keeps hb1 _ _ _ HV.out)).mono ?_
    rintro e w2 (⟨h2, rfl, hb⟩ | ⟨h2, v2, rfl, _, hb⟩)
    · have hb2 : Below w.heap.size w w2 := hb1.trans (hb.mono hb1.size)
      clear hb h2
      generalize lookE d o m = E2 at *
      go_wp2_with fail
      refine (hsp.out _).mono ?_
      rintro e ws ⟨rfl, hb⟩
      have hbs : Below w.heap.size w ws := hb2.trans (hb.mono hb2.size)
      clear hb
      go_wp2_with fail
      go_ret
      exact ⟨rfl, hbs⟩
    · have hb2 : Below w.heap.size w w2 := hb1.trans (hb.mono hb1.size)
      clear hb h2
      go_wp2_with fail
      refine (hsp.out _).mono ?_
      rintro e ws ⟨rfl, hb⟩
      have hbs : Below w.heap.size w ws := hb2.trans (hb.mono hb2.size)
      clear hb
      go_wp2_with fail
      go_ret
      exact ⟨rfl, hbs⟩
  · go_wp2_with fail
    refine (sort6_any d o m _ _ (Lies.keeps hb1 _ _ _ HV.out)).mono ?_
    rintro e w2 (⟨h2, rfl, hb⟩ | ⟨h2, v2, rfl, hL2, hb⟩)
    · have hb2 : Below w.heap.size w w2 := hb1.trans (hb.mono hb1.size)
      have h2' : ¬ lookE d o m = 0 := h2
      clear hb h2 Hfacts hL1
      generalize lookE d o m = E2 at *
      go_wp2_with fail
      refine (hsp.out _).mono ?_
      rintro e ws ⟨rfl, hb⟩
      have hbs : Below w.heap.size w ws := hb2.trans (hb.mono hb2.size)
      clear hb
      go_wp2_with fail
      go_ret
      exact ⟨rfl, hbs⟩
    · have hb2 : Below w.heap.size w w2 := hb1.trans (hb.mono hb1.size)
      have HA2 : Hid (Lies 17 w2 (srtV o.toNat l) v1) := Lies.keeps hb _ _ _ (LiesB.lies _ _ _ hL1)
      have HB2 : Hid (Lies 17 w2 (srtV o.toNat m) v2) := LiesB.lies _ _ _ hL2
      clear hb hL1 hL2 hb1
      have hla2 : l.length ≤ 65536 := (listErr_zero6 (lookE_pos h1).2).1
      have hlb2 : m.length ≤ 65536 := (listErr_zero6 (lookE_pos h2).2).1
      by_cases hlong : 65536 < l.length + m.length
      · have hlong' : (65536 : Int) < (l.length : Int) + (m.length : Int) := by omega
        clear Hfacts
        go_wp2_with fail
        refine (hsp.out _).mono ?_
        rintro e ws ⟨rfl, hb⟩
        have hbs : Below w.heap.size w ws := hb2.trans (hb.mono hb2.size)
        clear hb
        go_wp2_with fail
        go_ret
        exact ⟨rfl, hbs⟩
      · have hlong' : ¬ (65536 : Int) < (l.length : Int) + (m.length : Int) := by omega
        have hll : l.length + m.length ≤ 65536 := by omega
        have HF : Hid _ := Hfacts.out h1 h2 hll
        clear Hfacts h1 h2 hlong
        go_wp2_with fail
        refine (sort6_any 16 o (srtV o.toNat l) _ _ HA2.out).mono ?_
        rintro e w3 (⟨h3, _⟩ | ⟨_, v3, rfl, hL3, hb⟩)
        · exact absurd HF.out.1 h3
        have hb3 : Below w.heap.size w w3 := hb2.trans (hb.mono hb2.size)
        rw [HF.out.2.2.2.1] at hL3
        have HA3 : Hid (Lies 17 w3 (srtV o.toNat l) v1) := Lies.keeps hb _ _ _ HA2.out
        have HB3 : Hid (Lies 17 w3 (srtV o.toNat m) v2) := Lies.keeps hb _ _ _ HB2.out
        have HC3 : Hid (Lies 17 w3 (srtV o.toNat l) v3) := LiesB.lies _ _ _ hL3
        clear hb hL3 hb2 HA2 HB2
        go_wp2_with fail
        refine (merge6_any 16 o (srtV o.toNat l) (srtV o.toNat m) _ _ _ HA3.out HB3.out).mono ?_
        rintro e w4 (⟨h4, _⟩ | ⟨_, v4, rfl, hL4, hb⟩)
        · exact absurd HF.out.2.1 h4
        have hb4 : Below w.heap.size w w4 := hb3.trans (hb.mono hb3.size)
        rw [HF.out.2.2.2.2] at hL4
        have HA4 : Hid (Lies 17 w4 (srtV o.toNat l) v1) := Lies.keeps hb _ _ _ HA3.out
        have HC4 : Hid (Lies 17 w4 (srtV o.toNat l) v3) := Lies.keeps hb _ _ _ HC3.out
        have HX4 : Hid (Lies 17 w4 (srtV o.toNat (l ++ m)) v4) := LiesB.lies _ _ _ hL4
        clear hb hL4 hb3 HA3 HB3 HC3
        have hsz4 := hb4.size
        have Hown0 : Hid (w4.ownsRow w4.heap.size 24 4 (.slice none 0 0) 0 []) := World.ownsRow_nil _ _ _ _
        go_wp2_with (first
          | (at_builtin; refine wpList_append_row rfl _ _ rfl w4.heap.size i0 Hi.out Hz0.out Hz1.out Hz2.out _ _ _ rfl Hown1.out ab m.length cb (qs.flatMap encP) rfl HN2.out HL2.out (HF2.out _ hb5) HO2.out (by unfold maxLen; omega) (by omega) hsz5 ?_; intro v6 w6 hown6 hgrow6)
          | (at_builtin; refine wpList_append_row rfl _ _ rfl w4.heap.size i0 Hi.out Hz0.out Hz1.out Hz2.out _ _ _ rfl Hown0.out aa l.length ca (ps.flatMap encP) rfl HN1.out HL1.out (HF1.out _ hb4) HO1.out (by unfold maxLen; omega) (by omega) (Nat.le_refl _) ?_; intro v5 w5 hown5 hgrow5; have hg5 : Below w4.heap.size w4 w5 := own_growM (Below.refl _ _) (Nat.le_refl _) Hown0.out hgrow5; have hb5 : Below w.heap.size w w5 := hb4.trans (hg5.mono hsz4); have hsz5 : w4.heap.size ≤ w5.heap.size := hg5.size; have Hown1 : Hid (w5.ownsRow w4.heap.size 24 4 v5 (0 + l.length) ([] ++ ps.flatMap encP)) := hown5; clear hown5 hgrow5))
        have hg6 : Below w4.heap.size w4 w6 := own_growM hg5 hsz5 Hown1.out hgrow6
        have hb6 : Below w.heap.size w w6 := hb4.trans (hg6.mono hsz4)
        have hboth : Lies (d + 1) w6 (l ++ m) v6 := by
          have hown7 : w6.ownsRow w4.heap.size 24 4 v6 (0 + l.length + m.length) ((ps ++ qs).flatMap encP) := by
            rw [List.flatMap_append]
            simpa using hown6
          have := own_lies (d := d) (ps := ps ++ qs) (by rw [List.length_append, HP.out.1, HQ.out.1]; omega) hown7 (fun p hp => by
            rcases List.mem_append.1 hp with h | h
            · exact (HP.out.2.2 p h).keeps hb6
            · exact (HQ.out.2.2 p h).keeps hb6) (by rw [List.length_append, HP.out.1, HQ.out.1]; omega)
          rwa [List.map_append, HP.out.2.1, HQ.out.2.1] at this
        obtain ⟨a6, c6, rfl, _⟩ := Lies.slice hboth
        have HBO : Hid (Lies (d + 1) w6 (l ++ m) (.slice a6 (l ++ m).length c6)) := hboth
        have HA6 : Hid (Lies 17 w6 (srtV o.toNat l) v1) := Lies.keeps hg6 _ _ _ HA4.out
        have HC6 : Hid (Lies 17 w6 (srtV o.toNat l) v3) := Lies.keeps hg6 _ _ _ HC4.out
        have HX6 : Hid (Lies 17 w6 (srtV o.toNat (l ++ m)) v4) := Lies.keeps hg6 _ _ _ HX4.out
        clear hboth hown6 hgrow6 hg6 hg5 hb5 hb4 Hown1 Hown0 HA4 HC4 HX4 HF1 HF2 hsz4 hsz5
        go_wp2_with fail
        refine (sort6_any d o (l ++ m) _ _ HBO.out).mono ?_
        rintro e w7 (⟨h7, _⟩ | ⟨_, v7, rfl, hL7, hb⟩)
        · exact absurd HF.out.2.2.1 h7
        have hb7 : Below w.heap.size w w7 := hb6.trans (hb.mono hb6.size)
        have HA7 : Hid (Lies 17 w7 (srtV o.toNat l) v1) := Lies.keeps hb _ _ _ HA6.out
        have HC7 : Hid (Lies 17 w7 (srtV o.toNat l) v3) := Lies.keeps hb _ _ _ HC6.out
        have HX7 : Hid (Lies 17 w7 (srtV o.toNat (l ++ m)) v4) := Lies.keeps hb _ _ _ HX6.out
        have HY7 : Hid (Lies 17 w7 (srtV o.toNat (l ++ m)) v7) := LiesB.lies _ _ _ hL7
        clear hb hL7 hb6 HBO HA6 HC6 HX6
        go_wp2_with fail
        refine (values_one 16 (srtV o.toNat l) _ _ _ HA7.out HC7.out (by rw [srtV_len]; omega)).mono ?_
        rintro e w8 ⟨rfl, hb⟩
        have hb8 : Below w.heap.size w w8 := hb7.trans (hb.mono hb7.size)
        have HX8 : Hid (Lies 17 w8 (srtV o.toNat (l ++ m)) v4) := Lies.keeps hb _ _ _ HX7.out
        have HY8 : Hid (Lies 17 w8 (srtV o.toNat (l ++ m)) v7) := Lies.keeps hb _ _ _ HY7.out
        clear hb hb7 HA7 HC7 HX7 HY7
        go_wp2_with fail
        refine (values_one 16 (srtV o.toNat (l ++ m)) _ _ _ HX8.out HY8.out (by rw [srtV_len, List.length_append]; omega)).mono ?_
        rintro e w9 ⟨rfl, hb⟩
        have hb9 : Below w.heap.size w w9 := hb8.trans (hb.mono hb8.size)
        clear hb hb8 HX8 HY8
        go_wp2_with fail
        refine (hsp.out _).mono ?_
        rintro e ws ⟨rfl, hb⟩
        have hbs : Below w.heap.size w ws := hb9.trans (hb.mono hb9.size)
        clear hb
        go_wp2_with fail
        go_ret
        exact ⟨rfl, hbs⟩

theorem again_walk2 (o : Int) (n k : Nat) (l m : List VT) (u v : Value) (w : World) (hu : Lies n w l u) (hv : Lies k w m v) : Calls Try.prog 4 #[.int .i64 o, u, v] w fun e w' => e = .returned (.bool true) ∧ Below w.heap.size w w' :=
  again_walk o (max n k) l m u v w (hu.atLeast _ (by omega)) (hv.atLeast _ (by omega))

end Go.Proofs.Ytacnfmamjbmhcab

