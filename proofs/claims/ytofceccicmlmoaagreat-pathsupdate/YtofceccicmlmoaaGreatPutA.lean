/-
  put, whatever the path.
-/
import Derived.Test.YtofceccicmlmoaaGreatFaceM
namespace Go.Proofs.YtofceccicmlmoaaGreat
open Go.RowKit Go.Shelf

/-- A list of right values, by the depth 17. -/
theorem canonL26 {w : World} {n : Nat} {l : List VT} {u : Value} (h : Lies (n + 1) w l u) (hr : listErr n l = 0) : Lies 17 w l u ∧ ∀ x ∈ l, rightV 16 x = true ∧ Dp 16 x := by
  have hr2 := (listErr_zero hr).2
  obtain ⟨a, c, hv, hb, hrow⟩ := h
  have hx : ∀ x ∈ l, rightV 16 x = true ∧ Dp 16 x := by
    intro x hx
    obtain ⟨b, o, _, hall⟩ := hrow (fun e => by rw [e] at hx; cases hx)
    obtain ⟨i, hi, rfl⟩ := List.getElem_of_mem hx
    obtain ⟨v, _, _, _, _, hl, _⟩ := hall i hi
    have hc := canon hl (hr2 _ hx)
    exact ⟨hc.2, Dp.of_lies 16 w _ v hc.1⟩
  refine ⟨⟨a, c, hv, hb, fun hne => ?_⟩, hx⟩
  obtain ⟨b, o, ha, hall⟩ := hrow hne
  refine ⟨b, o, ha, fun i hi => ?_⟩
  obtain ⟨v, h0, h1, h2, h3, h4, h5⟩ := hall i hi
  exact ⟨v, h0, h1, h2, h3, (canon h4 (hr2 _ (List.getElem_mem hi))).1, h5⟩

theorem chk_zero {d : Nat} {t : VT} {p : List VT} (h : chkE d t p = 0) : rightV d t = true ∧ p.length ≤ 16 ∧ listErr d p = 0 := by
  unfold chkE at h
  by_cases hr : rightV d t = true
  · rw [if_pos hr] at h
    unfold pthE at h
    by_cases hl : 16 < p.length
    · rw [if_pos hl] at h; cases h
    · rw [if_neg hl] at h; exact ⟨hr, by omega, h⟩
  · rw [if_neg hr] at h; cases h

/-- A value, whether there is one, and an error. -/
def GtPost (r : VT) (b : Bool) (E : Int) (w : World) (e : Ending) (w' : World) : Prop :=
  ∃ u, e = .returned (.tuple #[.agg #[.int .i64 r.kind, .int .i64 r.num, .string r.text, u], .bool b, .int .i64 E]) ∧ LiesX (fun b => w.heap.size ≤ b) 16 w' r.items u ∧ Below w.heap.size w w'

def getR (d : Nat) (t : VT) (p : List VT) : VT := if chkE d t p = 0 then atR t p else nilT
def getB (d : Nat) (t : VT) (p : List VT) : Bool := if chkE d t p = 0 then atB t p else false

theorem atR_right {p : List VT} {t : VT} (hr : rightV 16 t = true) (hd : Dp 16 t) : rightV 16 (atR t p) = true ∧ Dp 16 (atR t p) := by
  unfold atR
  cases h : atT t p with
  | none => exact ⟨nil_right, nil_dp⟩
  | some x => exact at_right p t x hr hd h

set_option maxRecDepth 100000 in
set_option maxHeartbeats 8000000 in
theorem get_any (d : Nat) (t : VT) (p : List VT) (v pv : Value) (w : World) (hv : Lies d w t.items v) (hs : t.text.size ≤ 9223372036854775807) (hp : Lies (d + 1) w p pv) :
    Calls Tryz.prog 28 #[.agg #[.int .i64 t.kind, .int .i64 t.num, .string t.text, v], pv] w (GtPost (getR d t p) (getB d t p) (chkE d t p) w) := by
  obtain ⟨a, c, rfl, _⟩ := Lies.slice hv
  obtain ⟨pa, pc, rfl, _⟩ := Lies.slice hp
  have HT : Hid (Bx (at2 w t (.slice a t.items.length c)) w.heap.size t (.slice a t.items.length c)) := at2_fst _ _ _
  have HR : Hid (Bx (at2 w t (.slice a t.items.length c)) (w.heap.size + 1) zeroT (.slice none 0 0)) := at2_snd _ _ _
  have hb0 := at2_below w t (.slice a t.items.length c)
  obtain ⟨W0, hW0⟩ : ∃ W0, W0 = at2 w t (.slice a t.items.length c) := ⟨_, rfl⟩
  have HW0 : Hid (W0 = at2 w t (.slice a t.items.length c)) := hW0
  rw [← hW0] at HT HR hb0
  clear hW0
  unfold at2 at HW0
  have HC : Hid (Calls Tryz.prog 10 #[.agg #[.int .i64 t.kind, .int .i64 t.num, .string t.text, .slice a t.items.length c], .slice pa p.length pc] W0 fun e w' => e = .returned (.int .i64 (chkE d t p)) ∧ Below W0.heap.size W0 w') := check26_any d t p _ _ W0 (Lies.keeps hb0 _ _ _ hv) hs (Lies.keeps hb0 _ _ _ hp)
  obtain ⟨t0, t1, t2, t3, _, _, _, _⟩ := HT.out
  by_cases hE : chkE d t p = 0
  · have e1 : getR d t p = atR t p := by unfold getR; rw [if_pos hE]
    have e2 : getB d t p = atB t p := by unfold getB; rw [if_pos hE]
    obtain ⟨hr, hl, hpe⟩ := chk_zero hE
    have hc := canon hv hr
    have hcp := canonL26 hp hpe
    have hd := Dp.of_lies 16 w t _ hc.1
    have har := atR_right (p := p) hc.2 hd
    rw [e1, e2, hE]
    rw [hE] at HC
    have HA : Hid (∀ W, Below w.heap.size w W → Calls Tryz.prog 11 #[.agg #[.int .i64 t.kind, .int .i64 t.num, .string t.text, .slice a t.items.length c], .slice pa p.length pc] W (AtPost (fun b => b < w.heap.size) t p W)) := fun W hW => at_any p (fun b => b < w.heap.size) t a c _ W ((LiesX.of_lies hc.1).keeps hW) hc.2 ((LiesX.of_lies hcp.1).keeps hW) hl
    have HCp : Hid (∀ W a' c', LiesX (fun b => b < w.heap.size) 16 W (atR t p).items (.slice a' (atR t p).items.length c') → Calls Tryz.prog 34 #[.agg #[.int .i64 (atR t p).kind, .int .i64 (atR t p).num, .string (atR t p).text, .slice a' (atR t p).items.length c']] W (CopyPost 16 (atR t p) W)) := fun W a' c' h => copy_right _ _ W h.lies har.1
    clear e1 e2 hr hl hpe hc hcp hd har hE hv hp hs
    unfold AtPost at HA
    generalize atR t p = y at *
    generalize atB t p = B at *
    generalize hP : GtPost y B 0 w = PP
    have HP : Hid (GtPost y B 0 w = PP) := hP
    clear hP
    generalize t.items.length = lt at *
    generalize p.length = lp at *
    go_enter Tryz.func28, Tryz.ntmps28
    go_upto_region 1 with fail
    rw [← HW0.out]
    clear HW0
    go_wp2_with fail
    refine Calls.mono HC.out ?_
    rintro e w1 ⟨rfl, hb1⟩
    have hb2 : Below w.heap.size w w1 := hb0.trans (hb1.mono hb0.size)
    have HR1 : Hid (Bx w1 (w.heap.size + 1) zeroT (.slice none 0 0)) := HR.out.keeps hb1
    replace t0 := cell_keeps hb1 t0; replace t1 := cell_keeps hb1 t1; replace t2 := cell_keeps hb1 t2; replace t3 := cell_keeps hb1 t3
    clear hb1 hb0 HC HT HR
    go_wp2_with fail
    refine Calls.mono (HA.out _ hb2) ?_
    rintro e w3 ⟨a3, c3, rfl, hl3, hb3⟩
    have hb4 : Below w.heap.size w w3 := hb2.trans (hb3.mono hb2.size)
    have HR3 : Hid (Bx w3 (w.heap.size + 1) zeroT (.slice none 0 0)) := HR1.out.keeps hb3
    obtain ⟨V, hV⟩ : ∃ V, V = w3.alloc (.cells #[.int .i64 y.kind, .int .i64 y.num, .string y.text, .slice a3 y.items.length c3] 24) := ⟨_, rfl⟩
    have HV : Hid (V = w3.alloc (.cells #[.int .i64 y.kind, .int .i64 y.num, .string y.text, .slice a3 y.items.length c3] 24)) := hV
    have hal : Below w3.heap.size w3 V := by rw [hV]; exact ((Grew.refl _).alloc _).below
    have HYV : Hid (Bx V w3.heap.size y (.slice a3 y.items.length c3)) := by rw [hV]; exact bx_alloc w3 y _
    have HRV : Hid (Bx V (w.heap.size + 1) zeroT (.slice none 0 0)) := HR3.out.keeps hal
    have hbV : Below w.heap.size w V := hb4.trans (hal.mono hb4.size)
    have HC2 : Hid (Calls Tryz.prog 34 #[.agg #[.int .i64 y.kind, .int .i64 y.num, .string y.text, .slice a3 y.items.length c3]] V (CopyPost 16 y V)) := HCp.out V a3 c3 (hl3.keeps hal)
    clear hb2 hb3 hb4 hl3 HR1 HR3 HA HCp hV hal t0 t1 t2 t3
    generalize y.items.length = ly at *
    go_upto_region 5 with fail
    rw [← HV.out]
    clear HV
    obtain ⟨t0, t1, t2, t3, _, _, _, _⟩ := HYV.out
    go_wp2_with fail
    refine Calls.mono HC2.out ?_
    rintro e w4 ⟨v4, rfl, hl4, hb4⟩
    obtain ⟨a4, c4, rfl, _⟩ := LiesB.slice hl4
    have hb5 : Below w.heap.size w w4 := hbV.trans (hb4.mono hbV.size)
    have HR4 : Hid (Bx w4 (w.heap.size + 1) zeroT (.slice none 0 0)) := HRV.out.keeps hb4
    have hsz : w.heap.size + 1 < V.heap.size := by have := cell_lt HRV.out.c0; simpa using this
    have HE1 : Hid (PP (.returned (.tuple #[.agg #[.int .i64 y.kind, .int .i64 y.num, .string y.text, .slice a4 y.items.length c4], .bool B, .int .i64 0])) (w4.setCells (w.heap.size + 1) 0 (encP (y, .slice a4 y.items.length c4)))) := by
      show PP _ _
      rw [← HP.out]
      exact ⟨_, rfl, LiesX.mono (fun b hb => by omega) (LiesX.set (g := w.heap.size + 1) (by omega) (LiesX.of_b hl4)), below_put hb5 (by omega) _⟩
    have Hq : Hid (Bx (w4.setCells (w.heap.size + 1) 0 (encP (y, .slice a4 y.items.length c4))) (w.heap.size + 1) y (.slice a4 y.items.length c4)) := HR4.out.put (y, .slice a4 y.items.length c4)
    obtain ⟨z0, z1, z2, z3, g0, g1, g2, g3⟩ := HR4.out
    clear hl4 hb4 hb5 hbV HR4 HRV HYV HC2 HP t0 t1 t2 t3 hsz
    generalize y.items.length = ly at *
    go_wp2_with fail
    refine bodyPost_ret (v := .tuple #[.agg #[.int .i64 y.kind, .int .i64 y.num, .string y.text, .slice a4 ly c4], .bool B, .int .i64 0]) ?_ rfl HE1.out
    obtain ⟨q0, q1, q2, q3, _, _, _, _⟩ := Hq.out
    simp only [World.setCells, encP, Nat.zero_add, Nat.reduceAdd] at q0 q1 q2 q3
    simp [results, Tryz.results28, go_sem, q0, q1, q2, q3]
  · have e1 : getR d t p = nilT := by unfold getR; rw [if_neg hE]
    have e2 : getB d t p = false := by unfold getB; rw [if_neg hE]
    rw [e1, e2]
    have HE : Hid (∀ W, Below w.heap.size w W → GtPost nilT false (chkE d t p) w (.returned (.tuple #[.agg #[.int .i64 0, .int .i64 0, .string ⟨#[]⟩, .slice none 0 0], .bool false, .int .i64 (chkE d t p)])) W) := fun W hW => ⟨_, rfl, liesX_nil _ _ _ _ _, hW⟩
    generalize GtPost nilT false (chkE d t p) w = PP at *
    clear e1 e2 hv hp hs
    generalize chkE d t p = E at *
    generalize t.items.length = lt at *
    generalize p.length = lp at *
    go_enter Tryz.func28, Tryz.ntmps28
    go_upto_region 1 with fail
    rw [← HW0.out]
    clear HW0
    go_wp2_with fail
    refine Calls.mono HC.out ?_
    rintro e w1 ⟨rfl, hb1⟩
    have hb2 : Below w.heap.size w w1 := hb0.trans (hb1.mono hb0.size)
    have HR1 : Hid (Bx w1 (w.heap.size + 1) zeroT (.slice none 0 0)) := HR.out.keeps hb1
    have HE1 : Hid (PP (.returned (.tuple #[.agg #[.int .i64 0, .int .i64 0, .string ⟨#[]⟩, .slice none 0 0], .bool false, .int .i64 E])) (w1.setCells (w.heap.size + 1) 0 (encP (zeroT, .slice none 0 0)))) := HE.out _ (below_put hb2 (by omega) _)
    have Hq : Hid (Bx (w1.setCells (w.heap.size + 1) 0 (encP (zeroT, .slice none 0 0))) (w.heap.size + 1) zeroT (.slice none 0 0)) := HR1.out.put (zeroT, .slice none 0 0)
    obtain ⟨z0, z1, z2, z3, g0, g1, g2, g3⟩ := HR1.out
    clear hb1 hb0 hb2 HC HT HR HR1 HE t0 t1 t2 t3
    go_wp2_with fail
    refine bodyPost_ret (v := .tuple #[.agg #[.int .i64 0, .int .i64 0, .string ⟨#[]⟩, .slice none 0 0], .bool false, .int .i64 E]) ?_ rfl HE1.out
    obtain ⟨q0, q1, q2, q3, _, _, _, _⟩ := Hq.out
    simp only [World.setCells, encP, Nat.zero_add, Nat.reduceAdd] at q0 q1 q2 q3
    simp [results, Tryz.results28, go_sem, q0, q1, q2, q3]

end Go.Proofs.YtofceccicmlmoaaGreat

namespace Go.Proofs.YtofceccicmlmoaaGreat
open Go.RowKit Go.Shelf

def putE (d : Nat) (t : VT) (p : List VT) (x : VT) : Int :=
  if chkE d t p = 0 then (if rightV d x = true then (match putT t p x with | none => 260 | some z => fitE 32 z) else 3) else chkE d t p
def putR (d : Nat) (t : VT) (p : List VT) (x : VT) : VT := if putE d t p x = 0 then (putT t p x).getD nilT else nilT

/-- The contract of put, at every right path. -/
def PutAll : Prop := ∀ (r : List VT) (x : VT), (∀ s ∈ r, rightV 16 s = true) → r.length ≤ 16 → x.text.size ≤ 9223372036854775807 → PutC r x

theorem told_put {d : Nat} {t x : VT} {p : List VT} (hc : chkE d t p = 0) (hx : rightV d x = true) (hr : rightV 16 t = true) (hd : Dp 16 t) (hp : ∀ s ∈ p, rightV 16 s = true) (hl : p.length ≤ 16) (hx16 : rightV 16 x = true) (hdx : Dp 16 x) {X : Nat → Prop} {w w' : World} {e : Ending} (hq : PutQ X t p x w e w') :
    ∃ k n tx a l c E0, e = .returned (.tuple #[.agg #[.int .i64 k, .int .i64 n, .string tx, .slice a l c], .int .i64 E0]) ∧ Hid (Calls Tryz.prog 13 #[.agg #[.int .i64 k, .int .i64 n, .string tx, .slice a l c], .int .i64 E0] w' (VPost (putR d t p x) (putE d t p x) w')) ∧ Below w.heap.size w w' := by
  unfold PutQ at hq
  cases hz : putT t p x with
  | none =>
    rw [hz] at hq
    obtain ⟨k, n, tx, a, l, c, rfl, hb⟩ := hq
    refine ⟨k, n, tx, a, l, c, 260, rfl, ?_, hb⟩
    have e1 : putE d t p x = 260 := by unfold putE; rw [if_pos hc, if_pos hx, hz]
    have e2 : putR d t p x = nilT := by unfold putR; rw [e1]; rfl
    rw [e1, e2]
    exact told_core (fun _ => False) 16 nilT 260 260 k n tx a l c w' (fun b hb => hb.elim) nil_right nil_dp (fun W _ => fitting_err _ _ k n tx a l c 260 (by omega) W)
  | some z =>
    rw [hz] at hq
    obtain ⟨a, c, rfl, h1, h2, hb⟩ := hq
    refine ⟨z.kind, z.num, z.text, a, z.items.length, c, 0, rfl, ?_, hb⟩
    have hlx : LiesX (fun b => b < w'.heap.size) (16 + p.length) w' z.items (.slice a z.items.length c) := LiesX.of_lies h1.lies
    have hdz : Dp (16 + p.length) z := Dp.of_lies _ w' z _ h1.lies
    have hfe : fw 32 z 16 1024 = fw (16 + p.length) z 16 1024 := fw_any z hdz (by omega) 16 1024
    have e1 : putE d t p x = fitE (16 + p.length) z := by unfold putE fitE; rw [if_pos hc, if_pos hx, hz]; simp only; rw [hfe]
    have e2 : putR d t p x = fitR (16 + p.length) z := by
      unfold putR fitR
      rw [e1]
      unfold fitE
      by_cases hf : (fw (16 + p.length) z 16 1024).1 = true
      · rw [if_pos hf, if_pos rfl, if_pos hf, hz]; rfl
      · rw [if_neg hf, if_neg (by omega), if_neg hf]
    rw [e1, e2]
    have hrt : rightV 16 (fitR (16 + p.length) z) = true ∧ Dp 16 (fitR (16 + p.length) z) := by
      unfold fitR
      by_cases hf : (fw (16 + p.length) z 16 1024).1 = true
      · rw [if_pos hf]; exact put_fits hp hr hd hx16 hdx hz (by omega) hdz hf
      · rw [if_neg hf]; exact ⟨nil_right, nil_dp⟩
    exact told_core (fun b => b < w'.heap.size) (16 + p.length) _ _ 0 z.kind z.num z.text a z.items.length c w' (fun b hb => hb) hrt.1 hrt.2 (fun W hW => fitting_any _ _ z a c W (hlx.keeps hW) (fun b hb => by have := hW.size; omega))

set_option maxRecDepth 100000 in
set_option maxHeartbeats 8000000 in
theorem put_face (hpc : PutAll) (d : Nat) (t x : VT) (p : List VT) (v xv pv : Value) (w : World) (hv : Lies d w t.items v) (hs : t.text.size ≤ 9223372036854775807) (hp : Lies (d + 1) w p pv) (hxl : Lies d w x.items xv) (hxs : x.text.size ≤ 9223372036854775807) :
    Calls Tryz.prog 26 #[.agg #[.int .i64 t.kind, .int .i64 t.num, .string t.text, v], pv, .agg #[.int .i64 x.kind, .int .i64 x.num, .string x.text, xv]] w (VPost (putR d t p x) (putE d t p x) w) := by
  obtain ⟨a, c, rfl, _⟩ := Lies.slice hv
  obtain ⟨pa, pc, rfl, _⟩ := Lies.slice hp
  obtain ⟨ax, cx, rfl, _⟩ := Lies.slice hxl
  have HT : Hid (Bx (op3 w t x (.slice a t.items.length c) (.slice ax x.items.length cx)) w.heap.size t (.slice a t.items.length c)) := op3_fst _ _ _ _ _
  have HX : Hid (Bx (op3 w t x (.slice a t.items.length c) (.slice ax x.items.length cx)) (w.heap.size + 1) x (.slice ax x.items.length cx)) := op3_snd _ _ _ _ _
  have HR : Hid (Bx (op3 w t x (.slice a t.items.length c) (.slice ax x.items.length cx)) (w.heap.size + 2) zeroT (.slice none 0 0)) := op3_thd _ _ _ _ _
  have hb0 := op3_below w t x (.slice a t.items.length c) (.slice ax x.items.length cx)
  obtain ⟨W0, hW0⟩ : ∃ W0, W0 = op3 w t x (.slice a t.items.length c) (.slice ax x.items.length cx) := ⟨_, rfl⟩
  have HW0 : Hid (W0 = op3 w t x (.slice a t.items.length c) (.slice ax x.items.length cx)) := hW0
  rw [← hW0] at HT HX HR hb0
  clear hW0
  unfold op3 at HW0
  have HC : Hid (Calls Tryz.prog 10 #[.agg #[.int .i64 t.kind, .int .i64 t.num, .string t.text, .slice a t.items.length c], .slice pa p.length pc] W0 fun e w' => e = .returned (.int .i64 (chkE d t p)) ∧ Below W0.heap.size W0 w') := check26_any d t p _ _ W0 (Lies.keeps hb0 _ _ _ hv) hs (Lies.keeps hb0 _ _ _ hp)
  obtain ⟨t0, t1, t2, t3, _, _, _, _⟩ := HT.out
  obtain ⟨x0, x1, x2, x3, _, _, _, _⟩ := HX.out
  by_cases hE : chkE d t p = 0
  · rw [hE] at HC
    have HC2 : Hid (∀ W, Below w.heap.size w W → Calls Tryz.prog 22 #[.agg #[.int .i64 x.kind, .int .i64 x.num, .string x.text, .slice ax x.items.length cx]] W fun e w' => e = .returned (.int .i64 (errOf (rightV d x))) ∧ Below W.heap.size W w') := fun W hW => check_any d x _ W (Lies.keeps hW _ _ _ hxl) hxs
    by_cases hx : rightV d x = true
    · obtain ⟨hr, hl, hpe⟩ := chk_zero hE
      have hc := canon hv hr
      have hcp := canonL26 hp hpe
      have hcx := canon hxl hx
      have hd := Dp.of_lies 16 w t _ hc.1
      have hdx := Dp.of_lies 16 w x _ hcx.1
      have e3 : errOf (rightV d x) = 0 := by rw [hx]; rfl
      rw [e3] at HC2
      have HPu : Hid (∀ W, Below w.heap.size w W → Calls Tryz.prog 14 #[.agg #[.int .i64 t.kind, .int .i64 t.num, .string t.text, .slice a t.items.length c], .slice pa p.length pc, .agg #[.int .i64 x.kind, .int .i64 x.num, .string x.text, .slice ax x.items.length cx]] W fun e w' => ∃ k n tx a l c E0, e = .returned (.tuple #[.agg #[.int .i64 k, .int .i64 n, .string tx, .slice a l c], .int .i64 E0]) ∧ Hid (Calls Tryz.prog 13 #[.agg #[.int .i64 k, .int .i64 n, .string tx, .slice a l c], .int .i64 E0] w' (VPost (putR d t p x) (putE d t p x) w')) ∧ Below W.heap.size W w') := fun W hW => by
        refine Calls.mono (hpc p x (fun s hs => (hcp.2 s hs).1) hl hxs (fun b => b < w.heap.size) t a ax c cx (.slice pa p.length pc) W (fun b hb => by have := hW.size; omega) ((LiesX.of_lies hc.1).keeps hW) hc.2 ((LiesX.of_lies hcp.1).keeps hW) ((LiesX.of_lies hcx.1).keeps hW)) ?_
        intro e w' hq
        exact told_put hE hx hc.2 hd (fun s hs => (hcp.2 s hs).1) hl hcx.2 hdx hq
      clear hr hl hpe hc hcp hcx hd hdx e3 hE hx hv hp hs hxl hxs hpc
      generalize putR d t p x = y at *
      generalize putE d t p x = E at *
      generalize hP : VPost y E w = PP
      have HP : Hid (VPost y E w = PP) := hP
      clear hP
      generalize t.items.length = lt at *
      generalize x.items.length = lx at *
      generalize p.length = lp at *
      go_enter Tryz.func26, Tryz.ntmps26
      go_upto_region 1 with fail
      rw [← HW0.out]
      clear HW0
      go_wp2_with fail
      refine Calls.mono HC.out ?_
      rintro e w1 ⟨rfl, hb1⟩
      have hb2 : Below w.heap.size w w1 := hb0.trans (hb1.mono hb0.size)
      have HR1 : Hid (Bx w1 (w.heap.size + 2) zeroT (.slice none 0 0)) := HR.out.keeps hb1
      replace t0 := cell_keeps hb1 t0; replace t1 := cell_keeps hb1 t1; replace t2 := cell_keeps hb1 t2; replace t3 := cell_keeps hb1 t3
      replace x0 := cell_keeps hb1 x0; replace x1 := cell_keeps hb1 x1; replace x2 := cell_keeps hb1 x2; replace x3 := cell_keeps hb1 x3
      clear hb1 hb0 HC HT HR HX
      go_wp2_with fail
      refine Calls.mono (HC2.out _ hb2) ?_
      rintro e w3 ⟨rfl, hb3⟩
      have hb4 : Below w.heap.size w w3 := hb2.trans (hb3.mono hb2.size)
      have HR3 : Hid (Bx w3 (w.heap.size + 2) zeroT (.slice none 0 0)) := HR1.out.keeps hb3
      replace t0 := cell_keeps hb3 t0; replace t1 := cell_keeps hb3 t1; replace t2 := cell_keeps hb3 t2; replace t3 := cell_keeps hb3 t3
      replace x0 := cell_keeps hb3 x0; replace x1 := cell_keeps hb3 x1; replace x2 := cell_keeps hb3 x2; replace x3 := cell_keeps hb3 x3
      clear hb2 hb3 HR1 HC2
      go_wp2_with fail
      refine Calls.mono (HPu.out _ hb4) ?_
      rintro e w5 ⟨k5, n5, tx5, a5, l5, c5, E5, rfl, HT5, hb5⟩
      have hb6 : Below w.heap.size w w5 := hb4.trans (hb5.mono hb4.size)
      have HR5 : Hid (Bx w5 (w.heap.size + 2) zeroT (.slice none 0 0)) := HR3.out.keeps hb5
      clear hb4 hb5 HR3 HPu t0 t1 t2 t3 x0 x1 x2 x3
      go_wp2_with fail
      refine Calls.mono HT5.out ?_
      rintro e w7 ⟨u7, rfl, hl7, hb7⟩
      obtain ⟨a7, c7, rfl, _⟩ := LiesX.slice hl7
      have hb8 : Below w.heap.size w w7 := hb6.trans (hb7.mono hb6.size)
      have HR7 : Hid (Bx w7 (w.heap.size + 2) zeroT (.slice none 0 0)) := HR5.out.keeps hb7
      have hsz : w.heap.size + 2 < w5.heap.size := by have := cell_lt HR5.out.c0; simpa using this
      have HE1 : Hid (PP (.returned (.tuple #[.agg #[.int .i64 y.kind, .int .i64 y.num, .string y.text, .slice a7 y.items.length c7], .int .i64 E])) (w7.setCells (w.heap.size + 2) 0 (encP (y, .slice a7 y.items.length c7)))) := by
        show PP _ _
        rw [← HP.out]
        exact ⟨_, rfl, LiesX.mono (fun b hb => by omega) (LiesX.set (g := w.heap.size + 2) (by omega) hl7), below_put hb8 (by omega) _⟩
      have Hq : Hid (Bx (w7.setCells (w.heap.size + 2) 0 (encP (y, .slice a7 y.items.length c7))) (w.heap.size + 2) y (.slice a7 y.items.length c7)) := HR7.out.put (y, .slice a7 y.items.length c7)
      obtain ⟨z0, z1, z2, z3, g0, g1, g2, g3⟩ := HR7.out
      clear hl7 hb7 hb8 hb6 HR7 HR5 HP hsz HT5
      generalize y.items.length = ly at *
      go_wp2_with fail
      refine bodyPost_ret (v := .tuple #[.agg #[.int .i64 y.kind, .int .i64 y.num, .string y.text, .slice a7 ly c7], .int .i64 E]) ?_ rfl HE1.out
      obtain ⟨q0, q1, q2, q3, _, _, _, _⟩ := Hq.out
      simp only [World.setCells, encP, Nat.zero_add, Nat.reduceAdd] at q0 q1 q2 q3
      simp [results, Tryz.results26, go_sem, q0, q1, q2, q3]
    · have e1 : putE d t p x = 3 := by unfold putE; rw [if_pos hE, if_neg hx]
      have e2 : putR d t p x = nilT := by unfold putR; rw [e1]; rfl
      have e3 : errOf (rightV d x) = 3 := by
        have : rightV d x = false := by simpa using hx
        rw [this]; rfl
      rw [e1, e2]
      rw [e3] at HC2
      have HE : Hid (∀ W, Below w.heap.size w W → VPost nilT 3 w (.returned (.tuple #[.agg #[.int .i64 0, .int .i64 0, .string ⟨#[]⟩, .slice none 0 0], .int .i64 3])) W) := fun W hW => vPost_nil hW
      generalize VPost nilT 3 w = PP at *
      clear e1 e2 e3 hE hx hv hp hs hxl hxs hpc
      generalize t.items.length = lt at *
      generalize x.items.length = lx at *
      generalize p.length = lp at *
      go_enter Tryz.func26, Tryz.ntmps26
      go_upto_region 1 with fail
      rw [← HW0.out]
      clear HW0
      go_wp2_with fail
      refine Calls.mono HC.out ?_
      rintro e w1 ⟨rfl, hb1⟩
      have hb2 : Below w.heap.size w w1 := hb0.trans (hb1.mono hb0.size)
      have HR1 : Hid (Bx w1 (w.heap.size + 2) zeroT (.slice none 0 0)) := HR.out.keeps hb1
      replace x0 := cell_keeps hb1 x0; replace x1 := cell_keeps hb1 x1; replace x2 := cell_keeps hb1 x2; replace x3 := cell_keeps hb1 x3
      clear hb1 hb0 HC HT HR HX t0 t1 t2 t3
      go_wp2_with fail
      refine Calls.mono (HC2.out _ hb2) ?_
      rintro e w3 ⟨rfl, hb3⟩
      have hb4 : Below w.heap.size w w3 := hb2.trans (hb3.mono hb2.size)
      have HR3 : Hid (Bx w3 (w.heap.size + 2) zeroT (.slice none 0 0)) := HR1.out.keeps hb3
      have HE1 : Hid (PP (.returned (.tuple #[.agg #[.int .i64 0, .int .i64 0, .string ⟨#[]⟩, .slice none 0 0], .int .i64 3])) (w3.setCells (w.heap.size + 2) 0 (encP (zeroT, .slice none 0 0)))) := HE.out _ (below_put hb4 (by omega) _)
      have Hq : Hid (Bx (w3.setCells (w.heap.size + 2) 0 (encP (zeroT, .slice none 0 0))) (w.heap.size + 2) zeroT (.slice none 0 0)) := HR3.out.put (zeroT, .slice none 0 0)
      obtain ⟨z0, z1, z2, z3, g0, g1, g2, g3⟩ := HR3.out
      clear hb2 hb3 hb4 HR1 HR3 HC2 HE x0 x1 x2 x3
      go_wp2_with fail
      refine bodyPost_ret (v := .tuple #[.agg #[.int .i64 0, .int .i64 0, .string ⟨#[]⟩, .slice none 0 0], .int .i64 3]) ?_ rfl HE1.out
      obtain ⟨q0, q1, q2, q3, _, _, _, _⟩ := Hq.out
      simp only [World.setCells, encP, Nat.zero_add, Nat.reduceAdd] at q0 q1 q2 q3
      simp [results, Tryz.results26, go_sem, q0, q1, q2, q3]
  · have e1 : putE d t p x = chkE d t p := by unfold putE; rw [if_neg hE]
    have e2 : putR d t p x = nilT := by unfold putR; rw [e1, if_neg hE]
    rw [e1, e2]
    have HE : Hid (∀ W, Below w.heap.size w W → VPost nilT (chkE d t p) w (.returned (.tuple #[.agg #[.int .i64 0, .int .i64 0, .string ⟨#[]⟩, .slice none 0 0], .int .i64 (chkE d t p)])) W) := fun W hW => vPost_nil hW
    generalize VPost nilT (chkE d t p) w = PP at *
    clear e1 e2 hv hp hs hxl hxs hpc
    generalize chkE d t p = E at *
    generalize t.items.length = lt at *
    generalize x.items.length = lx at *
    generalize p.length = lp at *
    go_enter Tryz.func26, Tryz.ntmps26
    go_upto_region 1 with fail
    rw [← HW0.out]
    clear HW0
    go_wp2_with fail
    refine Calls.mono HC.out ?_
    rintro e w1 ⟨rfl, hb1⟩
    have hb2 : Below w.heap.size w w1 := hb0.trans (hb1.mono hb0.size)
    have HR1 : Hid (Bx w1 (w.heap.size + 2) zeroT (.slice none 0 0)) := HR.out.keeps hb1
    have HE1 : Hid (PP (.returned (.tuple #[.agg #[.int .i64 0, .int .i64 0, .string ⟨#[]⟩, .slice none 0 0], .int .i64 E])) (w1.setCells (w.heap.size + 2) 0 (encP (zeroT, .slice none 0 0)))) := HE.out _ (below_put hb2 (by omega) _)
    have Hq : Hid (Bx (w1.setCells (w.heap.size + 2) 0 (encP (zeroT, .slice none 0 0))) (w.heap.size + 2) zeroT (.slice none 0 0)) := HR1.out.put (zeroT, .slice none 0 0)
    obtain ⟨z0, z1, z2, z3, g0, g1, g2, g3⟩ := HR1.out
    clear hb1 hb0 hb2 HC HT HR HX HR1 HE t0 t1 t2 t3 x0 x1 x2 x3
    go_wp2_with fail
    refine bodyPost_ret (v := .tuple #[.agg #[.int .i64 0, .int .i64 0, .string ⟨#[]⟩, .slice none 0 0], .int .i64 E]) ?_ rfl HE1.out
    obtain ⟨q0, q1, q2, q3, _, _, _, _⟩ := Hq.out
    simp only [World.setCells, encP, Nat.zero_add, Nat.reduceAdd] at q0 q1 q2 q3
    simp [results, Tryz.results26, go_sem, q0, q1, q2, q3]

end Go.Proofs.YtofceccicmlmoaaGreat

namespace Go.Proofs.YtofceccicmlmoaaGreat
open Go.RowKit Go.Shelf

theorem Bx.otherO {W : World} {n g : Nat} {t : VT} {u : Value} (h : Bx W n t u) (hg : n ≠ g) (o : Nat) (vs : List Value) : Bx (W.setCells g o vs) n t u :=
  ⟨cell_other hg h.c0, cell_other hg h.c1, cell_other hg h.c2, cell_other hg h.c3, by rw [World.frozen?_setCells]; exact h.f0, by rw [World.frozen?_setCells]; exact h.f1, by rw [World.frozen?_setCells]; exact h.f2, by rw [World.frozen?_setCells]; exact h.f3⟩

theorem set4_o26 {W : World} {n o : Nat} {v0 v1 v2 v3 : Value} {a : Addr} {v : Value} (hn : a.block ≠ n) (h : W.cell? a = some v) : ((((W.setCell ⟨n, o, none⟩ v0).setCell ⟨n, o + 1, none⟩ v1).setCell ⟨n, o + 2, none⟩ v2).setCell ⟨n, o + 3, none⟩ v3).cell? a = some v :=
  cell_other (o := o) (vs := [v0, v1, v2, v3]) hn h

theorem below_setsO {w W : World} (h : Below w.heap.size w W) {g : Nat} (hg : w.heap.size ≤ g) : ∀ (vs : List Value) (o : Nat), Below w.heap.size w (W.setCells g o vs) := by
  intro vs
  induction vs generalizing W with
  | nil => intro o; exact h
  | cons v vs ih => intro o; exact ih (h.setCell (p := ⟨g, o, none⟩) hg v) (o + 1)

/-- The load of the row's item in put's one region that stores into the row: by a name of its own, so that the walk goes over its orders and does not ask that the row stay. -/
def ldRow : Oper :=
  { dst := some 39, op := Go.Op.load 24 (Go.Operand.tmp 38), type := 24, pos := "steps.go:50", after := #[{ on := 6, ground := Go.Ground.data }], guard := none }

attribute [local go_sem] ldRow

theorem ldRow_eq : ldRow = { dst := some 39, op := Go.Op.load 24 (Go.Operand.tmp 38), type := 24, pos := "steps.go:50", after := #[{ on := 6, ground := Go.Ground.data }], guard := none } := rfl

set_option maxRecDepth 100000 in
set_option maxHeartbeats 8000000 in
/-- The path leads on. -/
theorem put_on (s x : VT) (r : List VT) (X : Nat → Prop) (t : VT) (a ax : Option Addr) (c cx : Nat) (pv : Value) (w : World) (hX : ∀ b, X b → b < w.heap.size) (h : LiesX X 16 w t.items (.slice a t.items.length c)) (hr : rightV 16 t = true) (hp : LiesX X 17 w (s :: r) pv) (hsr : rightV 16 s = true) (hn : r.length ≤ 16) (t2' : VT) (i : Nat) (ho : opnT t s = some (t2', i)) (hi : i < t2'.items.length) (ih : Hid (PutC r x)) (hx : LiesX X 16 w x.items (.slice ax x.items.length cx)) :
    Calls Tryz.prog 14 #[.agg #[.int .i64 t.kind, .int .i64 t.num, .string t.text, .slice a t.items.length c], pv, .agg #[.int .i64 x.kind, .int .i64 x.num, .string x.text, .slice ax x.items.length cx]] w (PutQ X t (s :: r) x w) := by
  have hd := Dp.of_lies 16 w t _ h.lies
  have hlen := right_len hr
  have hd2 : rightV 16 t2'.items[i] = true := by
    obtain ⟨_, _, _, _, k5⟩ := opn_there ho (right_even t hd hr)
    rw [List.getElem?_eq_getElem hi] at k5
    rcases k5 with k5 | ⟨u, hu, k5⟩
    · injection k5 with k5; rw [k5]; exact nil_right
    · injection k5 with k5; rw [k5]; exact (item_right hr hd hu).1
  have hput : putT t (s :: r) x = match putT t2'.items[i] r x with | none => none | some z => some (t2'.putI i z) := by
    conv => lhs; unfold putT
    rw [ho]
    simp only [List.getElem?_eq_getElem hi]
    rfl
  have hlen2 : t2'.items.length ≤ 65536 := by
    unfold opnT at ho
    split at ho
    · injection ho with ho; injection ho with e1 _; subst e1
      show (keyed s t.items).length ≤ 65536
      unfold keyed
      split
      · omega
      · simp; omega
    · split at ho
      · split at ho
        · injection ho with ho; injection ho with e1 _; subst e1; simp; omega
        · split at ho
          · injection ho with ho; injection ho with e1 _; subst e1; omega
          · cases ho
      · cases ho
  have htx2 : t2'.text.size ≤ 9223372036854775807 := by
    have h9 := right_size hr
    have : t2'.text = t.text := by
      unfold opnT at ho
      split at ho
      · injection ho with ho; injection ho with e1 _; subst e1; rfl
      · split at ho
        · split at ho
          · injection ho with ho; injection ho with e1 _; subst e1; rfl
          · split at ho
            · injection ho with ho; injection ho with e1 _; subst e1; rfl
            · cases ho
        · cases ho
    rw [this]; omega
  have HT : Hid (Bx (op3 w t x (.slice a t.items.length c) (.slice ax x.items.length cx)) w.heap.size t (.slice a t.items.length c)) := op3_fst _ _ _ _ _
  have HXb : Hid (Bx (op3 w t x (.slice a t.items.length c) (.slice ax x.items.length cx)) (w.heap.size + 1) x (.slice ax x.items.length cx)) := op3_snd _ _ _ _ _
  have HR : Hid (Bx (op3 w t x (.slice a t.items.length c) (.slice ax x.items.length cx)) (w.heap.size + 2) zeroT (.slice none 0 0)) := op3_thd _ _ _ _ _
  have hb0 := op3_below w t x (.slice a t.items.length c) (.slice ax x.items.length cx)
  have hs0 := op3_size w t x (.slice a t.items.length c) (.slice ax x.items.length cx)
  obtain ⟨W0, hW0⟩ : ∃ W0, W0 = op3 w t x (.slice a t.items.length c) (.slice ax x.items.length cx) := ⟨_, rfl⟩
  have HW0 : Hid (W0 = op3 w t x (.slice a t.items.length c) (.slice ax x.items.length cx)) := hW0
  rw [← hW0] at HT HR HXb hb0 hs0
  clear hW0
  unfold op3 at HW0
  obtain ⟨b, o, pc, us, rfl, hXb, hpc, p0, p1, p2, p3, hls⟩ := liesX_head hp
  obtain ⟨ay, cy, rfl, _⟩ := LiesX.slice hls
  have hbl := hX _ hXb
  have HCl : Hid (Calls Tryz.prog 35 #[.slice a t.items.length c] W0 fun e w' => ∃ ps a' c', ps.map (·.1) = t.items ∧ e = .returned (.slice a' t.items.length c') ∧ OwnX X W0.heap.size w' ps (.slice a' t.items.length c') ∧ Below W0.heap.size W0 w') := clone_own X t a c W0 (h.keeps hb0) hlen
  have HOp : Hid (∀ ps a' c' W, ps.map (·.1) = t.items → OwnX X W0.heap.size W ps (.slice a' t.items.length c') → W0.heap.size ≤ W.heap.size → LiesX X 16 W s.items (.slice ay s.items.length cy) → Calls Tryz.prog 36 #[.agg #[.int .i64 t.kind, .int .i64 t.num, .string t.text, .slice a' t.items.length c'], .agg #[.int .i64 s.kind, .int .i64 s.num, .string s.text, .slice ay s.items.length cy]] W fun e w' => ∃ ps' a2 c2, ps'.map (·.1) = t2'.items ∧ e = .returned (.tuple #[.agg #[.int .i64 t2'.kind, .int .i64 t2'.num, .string t2'.text, .slice a2 t2'.items.length c2], .int .i64 (i : Int), .int .i64 0]) ∧ OwnX X W0.heap.size w' ps' (.slice a2 t2'.items.length c2) ∧ Below W0.heap.size W w') := fun ps a' c' W h1 h2 h3 h4 => by
    have := opened_any X W0.heap.size (fun b hb => by have := hX b hb; omega) t s ps a' ay c' cy W h3 h1 h2 h4 hr hd hsr
    unfold OpPost at this
    rw [ho] at this
    exact this
  have HEn : Hid (putT t2'.items[i] r x = none → ∀ W k n tx a l c, Below w.heap.size w W → PutQ X t (s :: r) x w (.returned (.tuple #[.agg #[.int .i64 k, .int .i64 n, .string tx, .slice a l c], .int .i64 260])) W) := fun h9 W k n tx a l c hW => put_none26 (by rw [hput, h9]) k n tx a l c hW
  have HEs : Hid (∀ z, putT t2'.items[i] r x = some z → ∀ W a' c', LiesX (fun b => X b ∨ w.heap.size ≤ b) (16 + (r.length + 1)) W (t2'.items.set i z) (.slice a' (t2'.items.set i z).length c') → Below w.heap.size w W → PutQ X t (s :: r) x w (.returned (.tuple #[.agg #[.int .i64 t2'.kind, .int .i64 t2'.num, .string t2'.text, .slice a' (t2'.items.set i z).length c'], .int .i64 0])) W) := fun z h9 W a' c' h1 h2 => put_some26 (z := t2'.putI i z) (by rw [hput, h9]) h1 htx2 h2
  have HLx : Hid (LiesX X 16 w x.items (.slice ax x.items.length cx)) := hx
  have HRs : Hid (∀ W, Below w.heap.size w W → Calls Tryz.prog 31 #[.slice (some ⟨b, o, none⟩) (r.length + 1) pc] W fun e w' => ∃ u, e = .returned u ∧ w' = W ∧ LiesX X 17 W r u) := fun W hW => rest_any _ 16 s r _ W (hp.keeps hW) (by omega)
  have HPu : Hid (∀ W u a' c', Below w.heap.size w W → LiesX X 17 W r u → LiesX X 16 W t2'.items[i].items (.slice a' t2'.items[i].items.length c') → Calls Tryz.prog 14 #[.agg #[.int .i64 t2'.items[i].kind, .int .i64 t2'.items[i].num, .string t2'.items[i].text, .slice a' t2'.items[i].items.length c'], u, .agg #[.int .i64 x.kind, .int .i64 x.num, .string x.text, .slice ax x.items.length cx]] W (PutQ X t2'.items[i] r x W)) := fun W u a' c' hW h1 h2 => ih.out X t2'.items[i] a' ax c' cx u W (fun b hb => by have := hX b hb; have := hW.size; omega) h2 hd2 h1 (HLx.out.keeps hW)
  have HLs : Hid (LiesX X 16 w s.items (.slice ay s.items.length cy)) := hls
  have HXX : Hid (∀ b, X b → b < w.heap.size) := hX
  replace p0 := cell_keeps hb0 p0; replace p1 := cell_keeps hb0 p1; replace p2 := cell_keeps hb0 p2; replace p3 := cell_keeps hb0 p3
  have Hs0 : Hid (W0.heap.size = w.heap.size + 3) := hs0
  generalize PutQ X t (s :: r) x w = PP at *
  clear hput ho h hr hd hlen hp hsr hls hX hXb hs0 hx ih hd2 htx2 HLx
  generalize x.items.length = lx at *
  generalize t.items.length = lt at *
  generalize hsi : s.items.length = lz at *
  clear hsi
  obtain ⟨R, hR⟩ : ∃ R, R = r.length := ⟨_, rfl⟩
  have HRn : Hid (R = r.length) := hR
  rw [← hR] at HRs HEs hn ⊢
  clear hR
  have hrn : (0 : Int) < ((R + 1 : Nat) : Int) := by omega
  have hrz : ¬ ((R + 1 : Nat) : Int) = 0 := by omega
  obtain ⟨t0, t1, t2, t3, f0, f1, f2, f3⟩ := HT.out
  go_enter Tryz.func14, Tryz.ntmps14
  go_upto_region 1 with fail
  rw [← HW0.out]
  clear HW0
  go_wp2_with fail
  refine Calls.mono HCl.out ?_
  rintro e w1 ⟨ps, a1, c1, hps, rfl, hO1, hb1⟩
  have hs0 := Hs0.out
  have hnb : (Value.slice a1 lt c1).ownBlock ≠ some w.heap.size := fun e => by
    obtain ⟨_, _, _, _, k9⟩ := own_slice26 hO1.own
    have := (k9 _ e).1
    omega
  have HT1 : Hid (Bx w1 w.heap.size t (.slice a lt c)) := HT.out.keeps hb1
  obtain ⟨w2, hw2⟩ : ∃ w2, w2 = w1.setCell ⟨w.heap.size, 3, none⟩ (.slice a1 lt c1) := ⟨_, rfl⟩
  have Hw2 : Hid (w2 = w1.setCell ⟨w.heap.size, 3, none⟩ (.slice a1 lt c1)) := hw2
  have hb2 : Below w.heap.size w w2 := by rw [hw2]; exact below_setM (hb0.trans (hb1.mono hb0.size)) (Nat.le_refl _) _ _
  have hsz2 : W0.heap.size ≤ w2.heap.size := by rw [hw2]; simpa [World.setCell] using hb1.size
  have HT2 : Hid (Bx w2 w.heap.size t (.slice a1 lt c1)) := by rw [hw2]; exact HT1.out.items _
  have HX2 : Hid (Bx w2 (w.heap.size + 1) x (.slice ax lx cx)) := by rw [hw2]; exact (HXb.out.keeps hb1).other1 (by omega) 3 _
  have HR2 : Hid (Bx w2 (w.heap.size + 2) zeroT (.slice none 0 0)) := by rw [hw2]; exact (HR.out.keeps hb1).other1 (by omega) 3 _
  have HO2 : Hid (OwnX X W0.heap.size w2 ps (.slice a1 lt c1)) := by rw [hw2]; exact hO1.setL (fun hx => by have := HXX.out _ hx; omega) hnb _ _
  have HLs2 : Hid (LiesX X 16 w2 s.items (.slice ay lz cy)) := HLs.out.keeps hb2
  have hpl : b ≠ w.heap.size := by omega
  replace p0 : w2.cell? ⟨b, o, none⟩ = some (.int .i64 s.kind) := by rw [hw2]; exact cell_other1 hpl (cell_keeps hb1 p0)
  replace p1 : w2.cell? ⟨b, o + 1, none⟩ = some (.int .i64 s.num) := by rw [hw2]; exact cell_other1 hpl (cell_keeps hb1 p1)
  replace p2 : w2.cell? ⟨b, o + 2, none⟩ = some (.string s.text) := by rw [hw2]; exact cell_other1 hpl (cell_keeps hb1 p2)
  replace p3 : w2.cell? ⟨b, o + 3, none⟩ = some (.slice ay lz cy) := by rw [hw2]; exact cell_other1 hpl (cell_keeps hb1 p3)
  replace t3 := HT1.out.c3
  replace f3 := HT1.out.f3
  have HC : Hid (∀ W, Below w2.heap.size w2 W → Calls Tryz.prog 36 #[.agg #[.int .i64 t.kind, .int .i64 t.num, .string t.text, .slice a1 lt c1], .agg #[.int .i64 s.kind, .int .i64 s.num, .string s.text, .slice ay lz cy]] W fun e w' => ∃ ps' a2 c2, ps'.map (·.1) = t2'.items ∧ e = .returned (.tuple #[.agg #[.int .i64 t2'.kind, .int .i64 t2'.num, .string t2'.text, .slice a2 t2'.items.length c2], .int .i64 (i : Int), .int .i64 0]) ∧ OwnX X W0.heap.size w' ps' (.slice a2 t2'.items.length c2) ∧ Below W0.heap.size W w') := fun W hW => HOp.out ps a1 c1 W hps (HO2.out.keeps hW) (Nat.le_trans hsz2 hW.size) (HLs2.out.keeps hW)
  clear hps hO1 hb1 hnb HT1 HT HR HXb HOp HCl HO2 HLs2 HLs t0 t1 t2 f0 f1 f2 hw2
  go_upto_region 4 with fail
  rw [← Hw2.out]
  clear Hw2 t3 f3
  obtain ⟨t0, t1, t2, t3, f0, f1, f2, f3⟩ := HT2.out
  have hbl2 : b < W0.heap.size := by omega
  obtain ⟨L, hL⟩ : ∃ L, L = t2'.items.length := ⟨_, rfl⟩
  have HL : Hid (L = t2'.items.length) := hL
  rw [← hL] at HC
  have HF0 : Hid (∀ w3 (ps' : List (VT × Value)) a2 c2, ps'.map (·.1) = t2'.items → OwnX X W0.heap.size w3 ps' (.slice a2 L c2) → Below W0.heap.size w2 w3 → Hid (Bx (w3.setCells w.heap.size 0 (encP (t2', .slice a2 L c2))) w.heap.size t2' (.slice a2 L c2) ∧ Bx (w3.setCells w.heap.size 0 (encP (t2', .slice a2 L c2))) (w.heap.size + 1) x (.slice ax lx cx) ∧ Bx (w3.setCells w.heap.size 0 (encP (t2', .slice a2 L c2))) (w.heap.size + 2) zeroT (.slice none 0 0) ∧ Below w.heap.size w (w3.setCells w.heap.size 0 (encP (t2', .slice a2 L c2))) ∧ ps'.map (·.1) = t2'.items ∧ OwnX X W0.heap.size (w3.setCells w.heap.size 0 (encP (t2', .slice a2 L c2))) ps' (.slice a2 L c2) ∧ W0.heap.size ≤ (w3.setCells w.heap.size 0 (encP (t2', .slice a2 L c2))).heap.size)) := fun w3 ps' a2 c2 h1 h2 hb3 =>
    ⟨(bxM26 hb3 (by omega) HT2.out).put (t2', .slice a2 L c2), (bxM26 hb3 (by omega) HX2.out).other (by omega) _, (bxM26 hb3 (by omega) HR2.out).other (by omega) _, below_put (hb2.trans (hb3.mono hb0.size)) (Nat.le_refl _) _, h1, h2.setL4 (fun hx => by have := HXX.out _ hx; omega) (fun e => by
      obtain ⟨_, _, _, _, k9⟩ := own_slice26 h2.own
      have := (k9 _ e).1
      omega) _, by rw [size_setCells]; exact Nat.le_trans hsz2 hb3.size⟩
  clear hL hsz2 hb2 HR2 HX2
  go_cut [8, 9] from 18 to 26 (fun s8 s9 wx => ∃ ps' a2 c2, s8 = .int .i64 (i : Int) ∧ s9 = .int .i64 0 ∧ Hid (Bx wx w.heap.size t2' (.slice a2 L c2) ∧ Bx wx (w.heap.size + 1) x (.slice ax lx cx) ∧ Bx wx (w.heap.size + 2) zeroT (.slice none 0 0) ∧ Below w.heap.size w wx ∧ ps'.map (·.1) = t2'.items ∧ OwnX X W0.heap.size wx ps' (.slice a2 L c2) ∧ W0.heap.size ≤ wx.heap.size))
  case first =>
    clear hs0
    go_region_with
      (first | (go_at_call 36; (with_reducible refine Calls.mono (HC.out _ ?_) ?_); (first | exact Below.refl _ _ | exact (Below.refl _ _).drew); rintro e w3 ⟨ps', a2, c2, hps', rfl, hO3, hb3⟩; have hb3 : Below W0.heap.size w2 w3 := (by first | exact hb3 | exact (Below.refl _ _).drew.trans hb3); have HF := HF0.out w3 ps' a2 c2 hps' hO3 hb3; have HT3 := bxM26 hb3 (by have := Hs0.out; omega) HT2.out; obtain ⟨t0, t1, t2, t3, f0, f1, f2, f3⟩ := HT3; clear hb3 hps' hO3))
    all_goals (go_wp2_with fail; go_meet; exact ⟨ps', a2, c2, rfl, rfl, HF⟩)
  case rest =>
    obtain ⟨ps', a2, c2, rfl, rfl, H3⟩ := hcut
    clear HF0 HC HT2 t0 t1 t2 t3 f0 f1 f2 f3 p0 p1 p2 p3 hbl2 hb0
    have hLi : i < L := by have := HL.out; omega
    obtain ⟨T3, X3, R3, hb3, hps', hO3, hsz3⟩ := H3.out
    have hpl : ps'.length = t2'.items.length := by rw [← hps', List.length_map]
    obtain ⟨g, cap, hv, hgb, hcap, hlt, hrw, hfz⟩ := own_row (ps := ps') (by have := hO3.own; exact this) (fun e => by rw [e] at hpl; simp at hpl; omega)
    injection hv with e1 e2 e3
    clear e2
    subst e1
    subst e3
    have hyi : ps'[i]'(by omega) ∈ ps' := List.getElem_mem _
    have hy1 : (ps'[i]'(by omega)).1 = t2'.items[i] := by
      have : (ps'.map (·.1))[i]? = t2'.items[i]? := by rw [hps']
      rw [List.getElem?_map, List.getElem?_eq_getElem (by omega), List.getElem?_eq_getElem hi] at this
      simpa using this
    obtain ⟨r0, r1, r2, r3⟩ := hrw i (by omega)
    have hly := (hO3.lie _ hyi).1
    rw [hy1] at r0 r1 r2 hly
    generalize (ps'[i]'(by omega)).2 = uy at *
    obtain ⟨a4, c4, rfl, _⟩ := LiesX.slice hly
    simp only [Nat.zero_add] at r0 r1 r2 r3
    have fr : ∀ k, wc.frozen? ⟨g, k, none⟩ = false := hfz
    clear hyi hy1 hrw hfz
    have HLy : Hid (LiesX X 16 wc t2'.items[i].items (.slice a4 t2'.items[i].items.length c4)) := hly
    have hs0 := Hs0.out
    have HH : Hid (Bx wc w.heap.size t2' (.slice (some ⟨g, 0, none⟩) L c2) ∧ Bx wc (w.heap.size + 2) zeroT (.slice none 0 0) ∧ Below w.heap.size w wc ∧ ps'.map (·.1) = t2'.items ∧ OwnX X W0.heap.size wc ps' (.slice (some ⟨g, 0, none⟩) L c2) ∧ W0.heap.size ≤ wc.heap.size ∧ W0.heap.size ≤ g ∧ g < wc.heap.size) := ⟨T3, R3, hb3, hps', hO3, hsz3, hgb, hlt⟩
    have hO3' : OwnX X W0.heap.size wc ps' (.slice (some ⟨g, 0, none⟩) t2'.items.length c2) := by rw [← HL.out]; exact hO3
    have HPz : Hid (∀ W u, Below w.heap.size w W → LiesX X 17 W r u → LiesX X 16 W t2'.items[i].items (.slice a4 t2'.items[i].items.length c4) → Calls Tryz.prog 14 #[.agg #[.int .i64 t2'.items[i].kind, .int .i64 t2'.items[i].num, .string t2'.items[i].text, .slice a4 t2'.items[i].items.length c4], u, .agg #[.int .i64 x.kind, .int .i64 x.num, .string x.text, .slice ax lx cx]] W fun e w' => ∃ k n tx a l c E, e = .returned (.tuple #[.agg #[.int .i64 k, .int .i64 n, .string tx, .slice a l c], .int .i64 E]) ∧ Hid ((E = 260 ∧ putT t2'.items[i] r x = none) ∨ (E = 0 ∧ ∃ z, putT t2'.items[i] r x = some z ∧ k = z.kind ∧ n = z.num ∧ tx = z.text ∧ l = z.items.length ∧ LiesX (fun b => X b ∨ W.heap.size ≤ b) (16 + r.length) w' z.items (.slice a z.items.length c) ∧ z.text.size ≤ 9223372036854775807)) ∧ Below W.heap.size W w') := fun W u h1 h2 h3 => by
      have := HPu.out W u a4 c4 h1 h2 h3
      refine this.mono ?_
      intro e w' hq
      unfold PutQ at hq
      cases hz : putT t2'.items[i] r x with
      | none =>
        rw [hz] at hq
        obtain ⟨k, n, tx, a, l, c, rfl, hb⟩ := hq
        exact ⟨k, n, tx, a, l, c, 260, rfl, .inl ⟨rfl, rfl⟩, hb⟩
      | some z =>
        rw [hz] at hq
        obtain ⟨a, c, rfl, h4, h5, hb⟩ := hq
        exact ⟨z.kind, z.num, z.text, a, z.items.length, c, 0, rfl, .inr ⟨rfl, z, rfl, rfl, rfl, rfl, rfl, h4, h5⟩, hb⟩
    have HF7 : Hid (∀ w6 k n tx a l c E, Hid ((E = 260 ∧ putT t2'.items[i] r x = none) ∨ (E = (0 : Int) ∧ ∃ z, putT t2'.items[i] r x = some z ∧ k = z.kind ∧ n = z.num ∧ tx = z.text ∧ l = z.items.length ∧ LiesX (fun b => X b ∨ wc.heap.size ≤ b) (16 + r.length) w6 z.items (.slice a z.items.length c) ∧ z.text.size ≤ 9223372036854775807)) → Below wc.heap.size wc w6 → Hid (Bx (w6.setCells g (i * 4) [.int .i64 k, .int .i64 n, .string tx, .slice a l c]) w.heap.size t2' (.slice (some ⟨g, 0, none⟩) L c2) ∧ Bx (w6.setCells g (i * 4) [.int .i64 k, .int .i64 n, .string tx, .slice a l c]) (w.heap.size + 2) zeroT (.slice none 0 0) ∧ (∀ p, PP (.returned (.tuple #[.agg #[.int .i64 t2'.kind, .int .i64 t2'.num, .string t2'.text, .slice (some ⟨g, 0, none⟩) L c2], .int .i64 E])) ((w6.setCells g (i * 4) [.int .i64 k, .int .i64 n, .string tx, .slice a l c]).setCells (w.heap.size + 2) 0 (encP p))))) := fun w6 k n tx a l c E hq hb6 => by
      refine ⟨(T3.keeps hb6).otherO (by omega) _ _, (R3.keeps hb6).otherO (by omega) _ _, fun p => ?_⟩
      have hbx : Below w.heap.size w ((w6.setCells g (i * 4) [.int .i64 k, .int .i64 n, .string tx, .slice a l c]).setCells (w.heap.size + 2) 0 (encP p)) := below_put (below_setsO (hb3.trans (hb6.mono hb3.size)) (by omega) _ _) (by omega) _
      rcases hq.out with ⟨rfl, hz⟩ | ⟨rfl, z, hz, rfl, rfl, rfl, rfl, hl6, hzt⟩
      · exact HEn.out hz _ _ _ _ _ _ _ hbx
      · have h9 := put_lies (N := w.heap.size) (M := W0.heap.size) HXX.out (by omega) hO3' hps' hi hb6 (by have := HL.out; omega) hl6 hzt (by omega) hsz3 p
        have h10 := HEs.out z hz _ (some ⟨g, 0, none⟩) c2 (by rw [HRn.out]; exact h9) hbx
        rw [List.length_set, ← HL.out] at h10
        exact h10
    have hng0 : w.heap.size ≠ g := by omega
    have hng1 : w.heap.size + 1 ≠ g := by omega
    have HLi : Hid (i < L) := hLi
    clear HEn HEs HPu hpl hcap hgb hO3 hO3' hps' hsz3 H3 HH
    obtain ⟨t0, t1, t2, t3, f0, f1, f2, f3⟩ := T3
    obtain ⟨x0, x1, x2, x3, _, _, _, _⟩ := X3
    have hi2 : (i : Int) < (L : Int) := by omega
    have q0 := fr (i * 4); have q1 := fr (i * 4 + 1); have q2 := fr (i * 4 + 2); have q3 := fr (i * 4 + 3)
    generalize hyy : t2'.items[i] = y at *
    clear hyy
    generalize y.items.length = ly at *
    clear R3 fr hs0 hly t0 t1 t2 f0 f1 f2 f3
    go_upto_region 7 with fail
    go_cut [9] from 31 to 46 (fun s9 wx => ∃ E, s9 = .int .i64 E ∧ Hid (Bx wx w.heap.size t2' (.slice (some ⟨g, 0, none⟩) L c2) ∧ Bx wx (w.heap.size + 2) zeroT (.slice none 0 0) ∧ (∀ p, PP (.returned (.tuple #[.agg #[.int .i64 t2'.kind, .int .i64 t2'.num, .string t2'.text, .slice (some ⟨g, 0, none⟩) L c2], .int .i64 E])) (wx.setCells (w.heap.size + 2) 0 (encP p)))))
    case first =>
      clear HL HRn HXX Hs0 HLi hi hlen2 hbl hpl hpc hrn hrz
      rw [← ldRow_eq]
      go_region_held3 (fun w' => w'.cell? ⟨w.heap.size, 3, none⟩ = some (.slice (some ⟨g, 0, none⟩) L c2) ∧ w'.cell? ⟨w.heap.size + 1, 0, none⟩ = some (.int .i64 x.kind) ∧ w'.cell? ⟨w.heap.size + 1, 1, none⟩ = some (.int .i64 x.num) ∧ w'.cell? ⟨w.heap.size + 1, 2, none⟩ = some (.string x.text) ∧ w'.cell? ⟨w.heap.size + 1, 3, none⟩ = some (.slice ax lx cx)) (first | (go_keep; done) | (with_reducible exact ⟨set4_o26 hng0 t3, set4_o26 hng1 x0, set4_o26 hng1 x1, set4_o26 hng1 x2, set4_o26 hng1 x3⟩))
        (first
          | (go_at_call 31; (with_reducible refine Calls.mono (HRs.out _ ?_) ?_); (first | exact hb3 | exact hb3.drew); rintro e w5 ⟨u5, rfl, rfl, hl5⟩; obtain ⟨a5, c5, rfl, _⟩ := LiesX.slice hl5; have HL5 : Hid (LiesX X 17 wc r (.slice a5 r.length c5)) := hl5; clear hl5)
          | (go_at_call 14; (with_reducible refine Calls.mono (HPz.out _ _ ?_ ?_ ?_) ?_); (first | exact hb3 | exact hb3.drew); (first | exact HL5.out | exact HL5.out.keeps (Below.refl _ _).drew); (first | exact HLy.out | exact HLy.out.keeps (Below.refl _ _).drew); rintro e w6 ⟨k6, n6, tx6, a6, l6, c6, E6, rfl, hq6, hb6⟩; have hg6 : Below wc.heap.size wc w6 := (by first | exact hb6 | exact (Below.refl _ _).drew.trans hb6); have HF := HF7.out w6 k6 n6 tx6 a6 l6 c6 E6 hq6 hg6; have r0 := cell_keeps hg6 r0; have r1 := cell_keeps hg6 r1; have r2 := cell_keeps hg6 r2; have r3 := cell_keeps hg6 r3; have t3 := cell_keeps hg6 t3; have x0 := cell_keeps hg6 x0; have x1 := cell_keeps hg6 x1; have x2 := cell_keeps hg6 x2; have x3 := cell_keeps hg6 x3; have q0 := (hg6.frozen (p := ⟨g, i * 4, none⟩) hlt).trans q0; have q1 := (hg6.frozen (p := ⟨g, i * 4 + 1, none⟩) hlt).trans q1; have q2 := (hg6.frozen (p := ⟨g, i * 4 + 2, none⟩) hlt).trans q2; have q3 := (hg6.frozen (p := ⟨g, i * 4 + 3, none⟩) hlt).trans q3; clear hb6 hg6 hq6))
      all_goals (go_wp2_with fail; go_meet; exact ⟨E6, rfl, HF⟩)
    case rest =>
      obtain ⟨E, rfl, H4⟩ := hcut
      clear HF7 HPz HRs HLy r0 r1 r2 r3 q0 q1 q2 q3 t3 x0 x1 x2 x3 hb3
      have HE3 : Hid (PP (.returned (.tuple #[.agg #[.int .i64 t2'.kind, .int .i64 t2'.num, .string t2'.text, .slice (some ⟨g, 0, none⟩) L c2], .int .i64 E])) (wc.setCells (w.heap.size + 2) 0 (encP (t2', .slice (some ⟨g, 0, none⟩) L c2)))) := H4.out.2.2 _
      have Hq : Hid (Bx (wc.setCells (w.heap.size + 2) 0 (encP (t2', .slice (some ⟨g, 0, none⟩) L c2))) (w.heap.size + 2) t2' (.slice (some ⟨g, 0, none⟩) L c2)) := H4.out.2.1.put (t2', .slice (some ⟨g, 0, none⟩) L c2)
      obtain ⟨t0, t1, t2, t3, _, _, _, _⟩ := H4.out.1
      obtain ⟨z0, z1, z2, z3, y0, y1, y2, y3⟩ := H4.out.2.1
      clear H4
      go_wp2_with fail
      refine bodyPost_ret (v := .tuple #[.agg #[.int .i64 t2'.kind, .int .i64 t2'.num, .string t2'.text, .slice (some ⟨g, 0, none⟩) L c2], .int .i64 E]) ?_ rfl HE3.out
      obtain ⟨q0, q1, q2, q3, _, _, _, _⟩ := Hq.out
      simp only [World.setCells, encP, Nat.zero_add, Nat.reduceAdd] at q0 q1 q2 q3
      simp [results, Tryz.results14, go_sem, q0, q1, q2, q3]

end Go.Proofs.YtofceccicmlmoaaGreat

namespace Go.Proofs.YtofceccicmlmoaaGreat
open Go.RowKit Go.Shelf

theorem put_all : PutAll := by
  intro r
  induction r with
  | nil =>
    intro x _ _ hxt X t a ax c cx pv w hX h hr hp hx
    obtain ⟨pa, pc, rfl, _⟩ := LiesX.slice hp
    exact put_nil X t x a ax pa c cx pc _ w hx hxt
  | cons s r ih =>
    intro x hs hn hxt X t a ax c cx pv w hX h hr hp hx
    have hsr := hs s List.mem_cons_self
    have hn' : r.length ≤ 16 := by simp only [List.length_cons] at hn; omega
    have ih' : PutC r x := ih x (fun u hu => hs u (List.mem_cons_of_mem _ hu)) hn' hxt
    have hd := Dp.of_lies 16 w t _ h.lies
    cases ho : opnT t s with
    | none => exact put_off s x r X t a ax c cx pv w hX h hr hp hsr hn' ho
    | some q =>
      obtain ⟨t2, i⟩ := q
      have hi : i < t2.items.length := by
        obtain ⟨_, _, _, _, k5⟩ := opn_there ho (right_even t hd hr)
        rcases Nat.lt_or_ge i t2.items.length with h1 | h1
        · exact h1
        · rw [List.getElem?_eq_none h1] at k5
          rcases k5 with k5 | ⟨_, _, k5⟩ <;> cases k5
      exact put_on s x r X t a ax c cx pv w hX h hr hp hsr hn' t2 i ho hi ih' hx

end Go.Proofs.YtofceccicmlmoaaGreat

