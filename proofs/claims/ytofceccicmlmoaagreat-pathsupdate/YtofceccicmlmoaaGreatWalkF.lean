/-
  Walk and Update, of the program.
-/
import Derived.Test.YtofceccicmlmoaaGreatRWlkP
import Derived.Test.YtofceccicmlmoaaGreatPutA
namespace Go.Proofs.YtofceccicmlmoaaGreat
open Go.RowKit Go.Shelf

def wlkE (d : Nat) (q : Int) (t : VT) : Int := if rightV d t = true then (if 0 ≤ q ∧ q < 8 then fitE 32 (walkT (doneT q.toNat) 16 t) else 4) else 3
def wlkR (d : Nat) (q : Int) (t : VT) : VT := if wlkE d q t = 0 then walkT (doneT q.toNat) 16 t else nilT

theorem told_walk {d q : Nat} {t : VT} (hq : q < 8) (hrd : rightV d t = true) (hr : rightV 16 t = true) (hd : Dp 16 t) {X : Nat → Prop} {w w' : World} {e : Ending} (h : NewW X 32 (walkT (doneT q) 16 t) w e w') :
    ∃ k n tx a l c, e = .returned (.agg #[.int .i64 k, .int .i64 n, .string tx, .slice a l c]) ∧ Hid (Calls Tryz.prog 13 #[.agg #[.int .i64 k, .int .i64 n, .string tx, .slice a l c], .int .i64 0] w' (VPost (wlkR d q t) (wlkE d q t) w')) ∧ Below w.heap.size w w' := by
  obtain ⟨a, c, rfl, h1, h2⟩ := h
  refine ⟨_, _, _, _, _, _, rfl, ?_, h2⟩
  have hlx : LiesX (fun b => b < w'.heap.size) 32 w' (walkT (doneT q) 16 t).items (.slice a (walkT (doneT q) 16 t).items.length c) := LiesX.of_lies h1.lies
  have e1 : wlkE d q t = fitE 32 (walkT (doneT q) 16 t) := by unfold wlkE; rw [if_pos hrd, if_pos (by omega)]; rfl
  have e2 : wlkR d q t = fitR 32 (walkT (doneT q) 16 t) := by
    unfold wlkR fitR
    rw [e1]
    unfold fitE
    by_cases hf : (fw 32 (walkT (doneT q) 16 t) 16 1024).1 = true
    · rw [if_pos hf, if_pos rfl, if_pos hf]; rfl
    · rw [if_neg hf, if_neg (by omega), if_neg hf]
  rw [e1, e2]
  have hrt : rightV 16 (fitR 32 (walkT (doneT q) 16 t)) = true ∧ Dp 16 (fitR 32 (walkT (doneT q) 16 t)) := by
    unfold fitR
    by_cases hf : (fw 32 (walkT (doneT q) 16 t) 16 1024).1 = true
    · rw [if_pos hf]; exact walk_fits (doneT q) (fun x h1 h2 => done_right q h1 h2) hr hd hf
    · rw [if_neg hf]; exact ⟨nil_right, nil_dp⟩
  exact told_core (fun b => b < w'.heap.size) 32 _ _ 0 _ _ _ a _ c w' (fun b hb => hb) hrt.1 hrt.2 (fun W hW => fitting_any _ _ _ a c W (hlx.keeps hW) (fun b hb => by have := hW.size; omega))

theorem one_zero (q : Int) (w : World) : Calls Tryz.prog 12 #[.int .i64 q, .agg #[.int .i64 0, .int .i64 0, .string ⟨#[]⟩, .slice none 0 0]] w (VPost (timesT 16 q 1 nilT) (if 0 ≤ q ∧ q < 8 then 0 else 4) w) := by
  have h := one_any 16 q nilT (.slice none 0 0) w (liesX_nil (fun _ => True) 16 w none 0).lies (by show 0 ≤ _; omega)
  have e1 : timesE 16 q 1 nilT = if 0 ≤ q ∧ q < 8 then 0 else 4 := by
    unfold timesE
    by_cases hq : 0 ≤ q ∧ q < 8
    · rw [if_neg (by omega), if_neg (by omega), if_pos nil_right, if_pos hq]
    · rw [if_pos (by omega), if_neg hq]
  rwa [e1] at h

set_option maxRecDepth 100000 in
set_option maxHeartbeats 8000000 in
theorem walk_face (d : Nat) (q : Int) (t : VT) (v : Value) (w : World) (hv : Lies d w t.items v) (hs : t.text.size ≤ 9223372036854775807) :
    Calls Tryz.prog 6 #[.agg #[.int .i64 t.kind, .int .i64 t.num, .string t.text, v], .int .i64 q] w (VPost (wlkR d q t) (wlkE d q t) w) := by
  obtain ⟨a, c, rfl, _⟩ := Lies.slice hv
  have HT : Hid (Bx (at2 w t (.slice a t.items.length c)) w.heap.size t (.slice a t.items.length c)) := at2_fst _ _ _
  have HR : Hid (Bx (at2 w t (.slice a t.items.length c)) (w.heap.size + 1) zeroT (.slice none 0 0)) := at2_snd _ _ _
  have hb0 := at2_below w t (.slice a t.items.length c)
  obtain ⟨W0, hW0⟩ : ∃ W0, W0 = at2 w t (.slice a t.items.length c) := ⟨_, rfl⟩
  have HW0 : Hid (W0 = at2 w t (.slice a t.items.length c)) := hW0
  rw [← hW0] at HT HR hb0
  clear hW0
  unfold at2 at HW0
  obtain ⟨t0, t1, t2, t3, _, _, _, _⟩ := HT.out
  have HC : Hid (Calls Tryz.prog 22 #[.agg #[.int .i64 t.kind, .int .i64 t.num, .string t.text, .slice a t.items.length c]] W0 fun e w' => e = .returned (.int .i64 (errOf (rightV d t))) ∧ Below W0.heap.size W0 w') := check_any d t _ W0 (Lies.keeps hb0 _ _ _ hv) hs
  have HO : Hid (∀ W, Calls Tryz.prog 12 #[.int .i64 q, .agg #[.int .i64 0, .int .i64 0, .string ⟨#[]⟩, .slice none 0 0]] W (VPost (timesT 16 q 1 nilT) (if 0 ≤ q ∧ q < 8 then 0 else 4) W)) := fun W => one_zero q W
  generalize timesT 16 q 1 nilT = x at *
  by_cases hr : rightV d t = true
  · have e0 : errOf (rightV d t) = 0 := by rw [hr]; rfl
    rw [e0] at HC
    have hc := canon hv hr
    have hd := Dp.of_lies 16 w t _ hc.1
    by_cases hq : 0 ≤ q ∧ q < 8
    · rw [if_pos hq] at HO
      obtain ⟨n, rfl⟩ : ∃ n : Nat, q = (n : Int) := ⟨q.toNat, by omega⟩
      have hn : n < 8 := by omega
      have HWk : Hid (∀ W, Below w.heap.size w W → Calls Tryz.prog 23 #[.agg #[.int .i64 t.kind, .int .i64 t.num, .string t.text, .slice a t.items.length c], .int .i64 (n : Int)] W fun e w' => ∃ k9 n9 tx9 a9 l9 c9, e = .returned (.agg #[.int .i64 k9, .int .i64 n9, .string tx9, .slice a9 l9 c9]) ∧ Hid (Calls Tryz.prog 13 #[.agg #[.int .i64 k9, .int .i64 n9, .string tx9, .slice a9 l9 c9], .int .i64 0] w' (VPost (wlkR d n t) (wlkE d n t) w')) ∧ Below W.heap.size W w') := fun W hW => by
        refine Calls.mono (walk_any n hn 16 (by omega) (fun b => b < w.heap.size) t a c W (fun b hb => by have := hW.size; omega) ((LiesX.of_lies hc.1).keeps hW) hc.2 hd) ?_
        intro e w' h
        exact told_walk hn hr hc.2 hd h
      clear hc hd hr hq hv hs e0 hn
      generalize wlkR d n t = y at *
      generalize wlkE d n t = E at *
      generalize hP : VPost y E w = PP
      have HP : Hid (VPost y E w = PP) := hP
      clear hP
      generalize t.items.length = lt at *
      go_enter Tryz.func6, Tryz.ntmps6
      go_upto_region 1 with fail
      rw [← HW0.out]
      clear HW0
      go_wp2_with fail
      refine Calls.mono HC.out ?_
      rintro e w1 ⟨rfl, hb1⟩
      have hb2 : Below w.heap.size w w1 := hb0.trans (hb1.mono hb0.size)
      have HR1 : Hid (Bx w1 (w.heap.size + 1) zeroT (.slice none 0 0)) := HR.out.keeps hb1
      replace t0 := cell_keeps hb1 t0; replace t1 := cell_keeps hb1 t1; replace t2 := cell_keeps hb1 t2; replace t3 := cell_keeps hb1 t3
      clear hb1 hb0 HC HT HR
      go_wp2_with fail
      refine Calls.mono (HO.out _) ?_
      rintro e w3 ⟨u3, rfl, hl3, hb⟩
      obtain ⟨a3, c3, rfl, _⟩ := LiesX.slice hl3
      obtain ⟨V3, hV⟩ : ∃ V, V = w3.alloc (.cells #[.int .i64 x.kind, .int .i64 x.num, .string x.text, .slice a3 x.items.length c3] 24) := ⟨_, rfl⟩
      have HV3 : Hid (w3.alloc (.cells #[.int .i64 x.kind, .int .i64 x.num, .string x.text, .slice a3 x.items.length c3] 24) = V3) := hV.symm
      have hal : Below w1.heap.size w1 V3 := by rw [hV]; exact hb.alloc hb.size _
      have ha2 : Below w3.heap.size w3 V3 := by rw [hV]; exact ((Grew.refl _).alloc _).below
      have HB3 : Hid (Bx V3 w3.heap.size x (.slice a3 x.items.length c3)) := by rw [hV]; exact bx_alloc w3 x _
      have hbV3 : Below w.heap.size w V3 := hb2.trans (hal.mono hb2.size)
      have HR3 : Hid (Bx V3 (w.heap.size + 1) zeroT (.slice none 0 0)) := HR1.out.keeps hal
      replace t0 := cell_keeps hal t0; replace t1 := cell_keeps hal t1; replace t2 := cell_keeps hal t2; replace t3 := cell_keeps hal t3
      have HL3 : Hid (LiesX (fun b => True) 16 V3 x.items (.slice a3 x.items.length c3)) := (hl3.keeps ha2).mono (fun _ _ => trivial)
      clear hV ha2 hb hl3 HR1 hb2
      clear HB3 HL3
      generalize x.items.length = lx at *
      go_upto_region 5 with fail
      rw [HV3.out]
      clear HV3
      go_wp2_with fail
      refine Calls.mono (HWk.out _ hbV3) ?_
      rintro e w5 ⟨k5, n5, tx5, a5, l5, c5, rfl, HT5, hb5⟩
      have hb6 : Below w.heap.size w w5 := hbV3.trans (hb5.mono hbV3.size)
      have HR5 : Hid (Bx w5 (w.heap.size + 1) zeroT (.slice none 0 0)) := HR3.out.keeps hb5
      clear hbV3 hb5 HR3 HWk t0 t1 t2 t3
      go_wp2_with fail
      refine Calls.mono HT5.out ?_
      rintro e w7 ⟨u7, rfl, hl7, hb7⟩
      obtain ⟨a7, c7, rfl, _⟩ := LiesX.slice hl7
      have hb8 : Below w.heap.size w w7 := hb6.trans (hb7.mono hb6.size)
      have HR7 : Hid (Bx w7 (w.heap.size + 1) zeroT (.slice none 0 0)) := HR5.out.keeps hb7
      have hsz : w.heap.size + 1 < w5.heap.size := by have := cell_lt HR5.out.c0; simpa using this
      have HE1 : Hid (PP (.returned (.tuple #[.agg #[.int .i64 y.kind, .int .i64 y.num, .string y.text, .slice a7 y.items.length c7], .int .i64 E])) (w7.setCells (w.heap.size + 1) 0 (encP (y, .slice a7 y.items.length c7)))) := by
        show PP _ _
        rw [← HP.out]
        exact ⟨_, rfl, LiesX.mono (fun b hb => by omega) (LiesX.set (g := w.heap.size + 1) (by omega) hl7), below_put hb8 (by omega) _⟩
      have Hq : Hid (Bx (w7.setCells (w.heap.size + 1) 0 (encP (y, .slice a7 y.items.length c7))) (w.heap.size + 1) y (.slice a7 y.items.length c7)) := HR7.out.put (y, .slice a7 y.items.length c7)
      obtain ⟨z0, z1, z2, z3, g0, g1, g2, g3⟩ := HR7.out
      clear hl7 hb7 hb8 hb6 HR7 HR5 HP hsz HT5
      generalize y.items.length = ly at *
      go_wp2_with fail
      refine bodyPost_ret (v := .tuple #[.agg #[.int .i64 y.kind, .int .i64 y.num, .string y.text, .slice a7 ly c7], .int .i64 E]) ?_ rfl HE1.out
      obtain ⟨q0, q1, q2, q3, _, _, _, _⟩ := Hq.out
      simp only [World.setCells, encP, Nat.zero_add, Nat.reduceAdd] at q0 q1 q2 q3
      simp [results, Tryz.results6, go_sem, q0, q1, q2, q3]
    · rw [if_neg hq] at HO
      have e1 : wlkE d q t = 4 := by unfold wlkE; rw [if_pos hr, if_neg hq]
      have e2 : wlkR d q t = nilT := by unfold wlkR; rw [e1]; rfl
      rw [e1, e2]
      have HE : Hid (∀ W, Below w.heap.size w W → VPost nilT 4 w (.returned (.tuple #[.agg #[.int .i64 0, .int .i64 0, .string ⟨#[]⟩, .slice none 0 0], .int .i64 4])) W) := fun W hW => vPost_nil hW
      generalize VPost nilT 4 w = PP at *
      clear e1 e2 hc hd hr hq hv hs e0
      generalize t.items.length = lt at *
      go_enter Tryz.func6, Tryz.ntmps6
      go_upto_region 1 with fail
      rw [← HW0.out]
      clear HW0
      go_wp2_with fail
      refine Calls.mono HC.out ?_
      rintro e w1 ⟨rfl, hb1⟩
      have hb2 : Below w.heap.size w w1 := hb0.trans (hb1.mono hb0.size)
      have HR1 : Hid (Bx w1 (w.heap.size + 1) zeroT (.slice none 0 0)) := HR.out.keeps hb1
      replace t0 := cell_keeps hb1 t0; replace t1 := cell_keeps hb1 t1; replace t2 := cell_keeps hb1 t2; replace t3 := cell_keeps hb1 t3
      clear hb1 hb0 HC HT HR
      go_wp2_with fail
      refine Calls.mono (HO.out _) ?_
      rintro e w3 ⟨u3, rfl, hl3, hb⟩
      obtain ⟨a3, c3, rfl, _⟩ := LiesX.slice hl3
      obtain ⟨V3, hV⟩ : ∃ V, V = w3.alloc (.cells #[.int .i64 x.kind, .int .i64 x.num, .string x.text, .slice a3 x.items.length c3] 24) := ⟨_, rfl⟩
      have HV3 : Hid (w3.alloc (.cells #[.int .i64 x.kind, .int .i64 x.num, .string x.text, .slice a3 x.items.length c3] 24) = V3) := hV.symm
      have hal : Below w1.heap.size w1 V3 := by rw [hV]; exact hb.alloc hb.size _
      have ha2 : Below w3.heap.size w3 V3 := by rw [hV]; exact ((Grew.refl _).alloc _).below
      have HB3 : Hid (Bx V3 w3.heap.size x (.slice a3 x.items.length c3)) := by rw [hV]; exact bx_alloc w3 x _
      have hbV3 : Below w.heap.size w V3 := hb2.trans (hal.mono hb2.size)
      have HR3 : Hid (Bx V3 (w.heap.size + 1) zeroT (.slice none 0 0)) := HR1.out.keeps hal
      replace t0 := cell_keeps hal t0; replace t1 := cell_keeps hal t1; replace t2 := cell_keeps hal t2; replace t3 := cell_keeps hal t3
      have HL3 : Hid (LiesX (fun b => True) 16 V3 x.items (.slice a3 x.items.length c3)) := (hl3.keeps ha2).mono (fun _ _ => trivial)
      clear hV ha2 hb hl3 HR1 hb2
      clear HB3 HL3
      generalize x.items.length = lx at *
      go_upto_region 5 with fail
      rw [HV3.out]
      clear HV3
      have HE1 : Hid (PP (.returned (.tuple #[.agg #[.int .i64 0, .int .i64 0, .string ⟨#[]⟩, .slice none 0 0], .int .i64 4])) (V3.setCells (w.heap.size + 1) 0 (encP (zeroT, .slice none 0 0)))) := HE.out _ (below_put hbV3 (by omega) _)
      have Hq : Hid (Bx (V3.setCells (w.heap.size + 1) 0 (encP (zeroT, .slice none 0 0))) (w.heap.size + 1) zeroT (.slice none 0 0)) := HR3.out.put (zeroT, .slice none 0 0)
      obtain ⟨z0, z1, z2, z3, g0, g1, g2, g3⟩ := HR3.out
      go_wp2_with fail
      refine bodyPost_ret (v := .tuple #[.agg #[.int .i64 0, .int .i64 0, .string ⟨#[]⟩, .slice none 0 0], .int .i64 4]) ?_ rfl HE1.out
      obtain ⟨q0, q1, q2, q3, _, _, _, _⟩ := Hq.out
      simp only [World.setCells, encP, Nat.zero_add, Nat.reduceAdd] at q0 q1 q2 q3
      simp [results, Tryz.results6, go_sem, q0, q1, q2, q3]
  · have hrf : rightV d t = false := by simpa using hr
    have e0 : errOf (rightV d t) = 3 := by rw [hrf]; rfl
    rw [e0] at HC
    have e1 : wlkE d q t = 3 := by unfold wlkE; rw [if_neg hr]
    have e2 : wlkR d q t = nilT := by unfold wlkR; rw [e1]; rfl
    rw [e1, e2]
    have HE : Hid (∀ W, Below w.heap.size w W → VPost nilT 3 w (.returned (.tuple #[.agg #[.int .i64 0, .int .i64 0, .string ⟨#[]⟩, .slice none 0 0], .int .i64 3])) W) := fun W hW => vPost_nil hW
    generalize VPost nilT 3 w = PP at *
    clear e1 e2 hr hv hs e0 hrf
    generalize t.items.length = lt at *
    go_enter Tryz.func6, Tryz.ntmps6
    go_upto_region 1 with fail
    rw [← HW0.out]
    clear HW0
    go_wp2_with fail
    refine Calls.mono HC.out ?_
    rintro e w1 ⟨rfl, hb1⟩
    have hb2 : Below w.heap.size w w1 := hb0.trans (hb1.mono hb0.size)
    have HR1 : Hid (Bx w1 (w.heap.size + 1) zeroT (.slice none 0 0)) := HR.out.keeps hb1
    replace t0 := cell_keeps hb1 t0; replace t1 := cell_keeps hb1 t1; replace t2 := cell_keeps hb1 t2; replace t3 := cell_keeps hb1 t3
    clear hb1 hb0 HC HT HR
    have HE1 : Hid (PP (.returned (.tuple #[.agg #[.int .i64 0, .int .i64 0, .string ⟨#[]⟩, .slice none 0 0], .int .i64 3])) (w1.setCells (w.heap.size + 1) 0 (encP (zeroT, .slice none 0 0)))) := HE.out _ (below_put hb2 (by omega) _)
    have Hq : Hid (Bx (w1.setCells (w.heap.size + 1) 0 (encP (zeroT, .slice none 0 0))) (w.heap.size + 1) zeroT (.slice none 0 0)) := HR1.out.put (zeroT, .slice none 0 0)
    obtain ⟨z0, z1, z2, z3, g0, g1, g2, g3⟩ := HR1.out
    go_wp2_with fail
    refine bodyPost_ret (v := .tuple #[.agg #[.int .i64 0, .int .i64 0, .string ⟨#[]⟩, .slice none 0 0], .int .i64 3]) ?_ rfl HE1.out
    obtain ⟨q0, q1, q2, q3, _, _, _, _⟩ := Hq.out
    simp only [World.setCells, encP, Nat.zero_add, Nat.reduceAdd] at q0 q1 q2 q3
    simp [results, Tryz.results6, go_sem, q0, q1, q2, q3]

/-- What stands there, with the function done. -/
def updX (t : VT) (p : List VT) (q : Int) : VT := doneT q.toNat (atR t p)
def updE (d : Nat) (t : VT) (p : List VT) (q : Int) : Int := if chkE d t p = 0 then (if 0 ≤ q ∧ q < 8 then putE d t p (updX t p q) else 4) else chkE d t p
def updR (d : Nat) (t : VT) (p : List VT) (q : Int) : VT := if updE d t p q = 0 then putR d t p (updX t p q) else nilT

set_option maxRecDepth 100000 in
set_option maxHeartbeats 8000000 in
theorem upd_face (d : Nat) (hd16 : 16 ≤ d) (q : Int) (t : VT) (p : List VT) (v pv : Value) (w : World) (hv : Lies d w t.items v) (hs : t.text.size ≤ 9223372036854775807) (hp : Lies (d + 1) w p pv) :
    Calls Tryz.prog 4 #[.agg #[.int .i64 t.kind, .int .i64 t.num, .string t.text, v], pv, .int .i64 q] w (VPost (updR d t p q) (updE d t p q) w) := by
  obtain ⟨a, c, rfl, _⟩ := Lies.slice hv
  obtain ⟨pa, pc, rfl, _⟩ := Lies.slice hp
  have HT : Hid (Bx (at2 w t (.slice a t.items.length c)) w.heap.size t (.slice a t.items.length c)) := at2_fst _ _ _
  have HR : Hid (Bx (at2 w t (.slice a t.items.length c)) (w.heap.size + 1) zeroT (.slice none 0 0)) := at2_snd _ _ _
  have hb0 := at2_below w t (.slice a t.items.length c)
  obtain ⟨W0, hW0⟩ : ∃ W0, W0 = at2 w t (.slice a t.items.length c) := ⟨_, rfl⟩
  have HW0 : Hid (W0 = at2 w t (.slice a t.items.length c)) := hW0
  rw [← hW0] at HT HR hb0
  clear hW0
  unfold at2 at HW0
  obtain ⟨t0, t1, t2, t3, _, _, _, _⟩ := HT.out
  have HC : Hid (Calls Tryz.prog 10 #[.agg #[.int .i64 t.kind, .int .i64 t.num, .string t.text, .slice a t.items.length c], .slice pa p.length pc] W0 fun e w' => e = .returned (.int .i64 (chkE d t p)) ∧ Below W0.heap.size W0 w') := check26_any d t p _ _ W0 (Lies.keeps hb0 _ _ _ hv) hs (Lies.keeps hb0 _ _ _ hp)
  by_cases hE : chkE d t p = 0
  · rw [hE] at HC
    obtain ⟨hr, hl, hpe⟩ := chk_zero hE
    have hc := canon hv hr
    have hcp := canonL26 hp hpe
    have hd := Dp.of_lies 16 w t _ hc.1
    have har := atR_right (p := p) hc.2 hd
    have HA : Hid (∀ W, Below w.heap.size w W → Calls Tryz.prog 11 #[.agg #[.int .i64 t.kind, .int .i64 t.num, .string t.text, .slice a t.items.length c], .slice pa p.length pc] W (AtPost (fun b => b < w.heap.size) t p W)) := fun W hW => at_any p (fun b => b < w.heap.size) t a c _ W ((LiesX.of_lies hc.1).keeps hW) hc.2 ((LiesX.of_lies hcp.1).keeps hW) hl
    have HOn : Hid (∀ W a' c', Lies 16 W (atR t p).items (.slice a' (atR t p).items.length c') → Calls Tryz.prog 12 #[.int .i64 q, .agg #[.int .i64 (atR t p).kind, .int .i64 (atR t p).num, .string (atR t p).text, .slice a' (atR t p).items.length c']] W (VPost (timesT 16 q 1 (atR t p)) (if 0 ≤ q ∧ q < 8 then 0 else 4) W)) := fun W a' c' h1 => by
      have h := one_any 16 q (atR t p) _ W h1 (by have := right_size har.1; omega)
      have e1 : timesE 16 q 1 (atR t p) = if 0 ≤ q ∧ q < 8 then 0 else 4 := by
        unfold timesE
        by_cases hq : 0 ≤ q ∧ q < 8
        · rw [if_neg (by omega), if_neg (by omega), if_pos har.1, if_pos hq]
        · rw [if_pos (by omega), if_neg hq]
      rwa [e1] at h
    unfold AtPost at HA
    by_cases hq : 0 ≤ q ∧ q < 8
    · have ex : timesT 16 q 1 (atR t p) = updX t p q := by
        have e0 : timesE 16 q 1 (atR t p) = 0 := by unfold timesE; rw [if_neg (by omega), if_neg (by omega), if_pos har.1]
        unfold timesT updX
        rw [if_pos e0]; rfl
      rw [if_pos hq, ex] at HOn
      obtain ⟨hxr, hxd⟩ : rightV 16 (updX t p q) = true ∧ Dp 16 (updX t p q) := done_right _ har.1 har.2
      have hxD : rightV d (updX t p q) = true := by rw [rightV_eq _ hxd hd16]; exact hxr
      have e1 : updE d t p q = putE d t p (updX t p q) := by unfold updE; rw [if_pos hE, if_pos hq]
      have e2 : updR d t p q = putR d t p (updX t p q) := by
        unfold updR
        rw [e1]
        by_cases h0 : putE d t p (updX t p q) = 0
        · rw [if_pos h0]
        · rw [if_neg h0]; unfold putR; rw [if_neg h0]
      rw [e1, e2]
      have HPu : Hid (∀ W ax cx, Below w.heap.size w W → LiesX (fun _ => True) 16 W (updX t p q).items (.slice ax (updX t p q).items.length cx) → Calls Tryz.prog 14 #[.agg #[.int .i64 t.kind, .int .i64 t.num, .string t.text, .slice a t.items.length c], .slice pa p.length pc, .agg #[.int .i64 (updX t p q).kind, .int .i64 (updX t p q).num, .string (updX t p q).text, .slice ax (updX t p q).items.length cx]] W fun e w' => ∃ k n tx a l c E0, e = .returned (.tuple #[.agg #[.int .i64 k, .int .i64 n, .string tx, .slice a l c], .int .i64 E0]) ∧ Hid (Calls Tryz.prog 13 #[.agg #[.int .i64 k, .int .i64 n, .string tx, .slice a l c], .int .i64 E0] w' (VPost (putR d t p (updX t p q)) (putE d t p (updX t p q)) w')) ∧ Below W.heap.size W w') := fun W ax cx hW h1 => by
        refine Calls.mono (put_all p (updX t p q) (fun s hs => (hcp.2 s hs).1) hl (by have := right_size hxr; omega) (fun b => b < W.heap.size) t a ax c cx (.slice pa p.length pc) W (fun b hb => hb) (LiesX.of_lies (Lies.keeps hW _ _ _ hc.1)) hc.2 (LiesX.of_lies (Lies.keeps hW _ _ _ hcp.1)) (LiesX.of_lies h1.lies)) ?_
        intro e w' h9
        exact told_put hE hxD hc.2 hd (fun s hs => (hcp.2 s hs).1) hl hxr hxd h9
      clear hc hcp hd har hr hl hpe hq hv hp hs hE e1 e2 ex hxr hxd hxD hd16
      generalize putR d t p (updX t p q) = y at *
      generalize putE d t p (updX t p q) = E at *
      generalize updX t p q = x at *
      generalize atB t p = B at *
      generalize atR t p = o at *
      generalize hP : VPost y E w = PP
      have HP : Hid (VPost y E w = PP) := hP
      clear hP
      generalize t.items.length = lt at *
      generalize p.length = lp at *
      go_enter Tryz.func4, Tryz.ntmps4
      go_upto_region 1 with fail
      rw [← HW0.out]
      clear HW0
      go_wp2_with fail
      refine Calls.mono HC.out ?_
      rintro e w1 ⟨rfl, hb1⟩
      have hb2 : Below w.heap.size w w1 := hb0.trans (hb1.mono hb0.size)
      have HR1 : Hid (Bx w1 (w.heap.size + 1) zeroT (.slice none 0 0)) := HR.out.keeps hb1
      replace t0 := cell_keeps hb1 t0; replace t1 := cell_keeps hb1 t1; replace t2 := cell_keeps hb1 t2; replace t3 := cell_keeps hb1 t3
      clear hb1 hb0 HC HT HR
      go_wp2_with fail
      refine Calls.mono (HA.out _ hb2) ?_
      rintro e w2 ⟨a2, c2, rfl, hl2, hb⟩
      obtain ⟨V2, hV⟩ : ∃ V, V = w2.alloc (.cells #[.int .i64 o.kind, .int .i64 o.num, .string o.text, .slice a2 o.items.length c2] 24) := ⟨_, rfl⟩
      have HV2 : Hid (w2.alloc (.cells #[.int .i64 o.kind, .int .i64 o.num, .string o.text, .slice a2 o.items.length c2] 24) = V2) := hV.symm
      have hal : Below w1.heap.size w1 V2 := by rw [hV]; exact hb.alloc hb.size _
      have ha2 : Below w2.heap.size w2 V2 := by rw [hV]; exact ((Grew.refl _).alloc _).below
      have HB2 : Hid (Bx V2 w2.heap.size o (.slice a2 o.items.length c2)) := by rw [hV]; exact bx_alloc w2 o _
      have hbV2 : Below w.heap.size w V2 := hb2.trans (hal.mono hb2.size)
      have HR2 : Hid (Bx V2 (w.heap.size + 1) zeroT (.slice none 0 0)) := HR1.out.keeps hal
      replace t0 := cell_keeps hal t0; replace t1 := cell_keeps hal t1; replace t2 := cell_keeps hal t2; replace t3 := cell_keeps hal t3
      have HL2 : Hid (LiesX (fun b => True) 16 V2 o.items (.slice a2 o.items.length c2)) := (hl2.keeps ha2).mono (fun _ _ => trivial)
      clear hV ha2 hb hl2 HR1 hb2
      obtain ⟨N2, hN2⟩ : ∃ N, N = w2.heap.size := ⟨_, rfl⟩
      have HN2 : Hid (w2.heap.size = N2) := hN2.symm
      rw [← hN2] at HB2
      have HOo : Hid (Calls Tryz.prog 12 #[.int .i64 q, .agg #[.int .i64 o.kind, .int .i64 o.num, .string o.text, .slice a2 o.items.length c2]] V2 (VPost x 0 V2)) := HOn.out V2 a2 c2 HL2.out.lies
      clear hN2 HOn HL2 HA
      generalize o.items.length = lo at *
      go_upto_region 5 with fail
      rw [HV2.out, HN2.out]
      clear HV2 HN2
      obtain ⟨o0, o1, o2, o3, _, _, _, _⟩ := HB2.out
      go_wp2_with fail
      refine Calls.mono HOo.out ?_
      rintro e w3 ⟨u3, rfl, hl3, hb⟩
      obtain ⟨a3, c3, rfl, _⟩ := LiesX.slice hl3
      obtain ⟨V3, hV⟩ : ∃ V, V = w3.alloc (.cells #[.int .i64 x.kind, .int .i64 x.num, .string x.text, .slice a3 x.items.length c3] 24) := ⟨_, rfl⟩
      have HV3 : Hid (w3.alloc (.cells #[.int .i64 x.kind, .int .i64 x.num, .string x.text, .slice a3 x.items.length c3] 24) = V3) := hV.symm
      have hal : Below V2.heap.size V2 V3 := by rw [hV]; exact hb.alloc hb.size _
      have ha2 : Below w3.heap.size w3 V3 := by rw [hV]; exact ((Grew.refl _).alloc _).below
      have HB3 : Hid (Bx V3 w3.heap.size x (.slice a3 x.items.length c3)) := by rw [hV]; exact bx_alloc w3 x _
      have hbV3 : Below w.heap.size w V3 := hbV2.trans (hal.mono hbV2.size)
      have HR3 : Hid (Bx V3 (w.heap.size + 1) zeroT (.slice none 0 0)) := HR2.out.keeps hal
      replace t0 := cell_keeps hal t0; replace t1 := cell_keeps hal t1; replace t2 := cell_keeps hal t2; replace t3 := cell_keeps hal t3
      have HL3 : Hid (LiesX (fun b => True) 16 V3 x.items (.slice a3 x.items.length c3)) := (hl3.keeps ha2).mono (fun _ _ => trivial)
      clear hV ha2 hb hl3 HR2 hbV2
      obtain ⟨N3, hN3⟩ : ∃ N, N = w3.heap.size := ⟨_, rfl⟩
      have HN3 : Hid (w3.heap.size = N3) := hN3.symm
      rw [← hN3] at HB3
      have HPx : Hid (∀ W, Below V3.heap.size V3 W → Below w.heap.size w W → LiesX (fun _ => True) 16 W x.items (.slice a3 x.items.length c3)) := fun W h1 _ => HL3.out.keeps h1
      have HPv := HPu.out V3 a3 c3 hbV3 HL3.out
      have HPw : Hid _ := HPv
      clear hN3 HPu HPv HL3 HPx HOo o0 o1 o2 o3 HB2
      generalize x.items.length = lx at *
      go_upto_region 6 with fail
      rw [HV3.out, HN3.out]
      clear HV3 HN3
      obtain ⟨x0, x1, x2, x3, _, _, _, _⟩ := HB3.out
      go_wp2_with fail
      refine Calls.mono HPw.out ?_
      rintro e w5 ⟨k5, n5, tx5, a5, l5, c5, E5, rfl, HT5, hb5⟩
      have hb6 : Below w.heap.size w w5 := hbV3.trans (hb5.mono hbV3.size)
      have HR5 : Hid (Bx w5 (w.heap.size + 1) zeroT (.slice none 0 0)) := HR3.out.keeps hb5
      clear hbV3 hb5 HR3 HPw t0 t1 t2 t3 x0 x1 x2 x3 HB3
      go_wp2_with fail
      refine Calls.mono HT5.out ?_
      rintro e w7 ⟨u7, rfl, hl7, hb7⟩
      obtain ⟨a7, c7, rfl, _⟩ := LiesX.slice hl7
      have hb8 : Below w.heap.size w w7 := hb6.trans (hb7.mono hb6.size)
      have HR7 : Hid (Bx w7 (w.heap.size + 1) zeroT (.slice none 0 0)) := HR5.out.keeps hb7
      have hsz : w.heap.size + 1 < w5.heap.size := by have := cell_lt HR5.out.c0; simpa using this
      have HE1 : Hid (PP (.returned (.tuple #[.agg #[.int .i64 y.kind, .int .i64 y.num, .string y.text, .slice a7 y.items.length c7], .int .i64 E])) (w7.setCells (w.heap.size + 1) 0 (encP (y, .slice a7 y.items.length c7)))) := by
        show PP _ _
        rw [← HP.out]
        exact ⟨_, rfl, LiesX.mono (fun b hb => by omega) (LiesX.set (g := w.heap.size + 1) (by omega) hl7), below_put hb8 (by omega) _⟩
      have Hq : Hid (Bx (w7.setCells (w.heap.size + 1) 0 (encP (y, .slice a7 y.items.length c7))) (w.heap.size + 1) y (.slice a7 y.items.length c7)) := HR7.out.put (y, .slice a7 y.items.length c7)
      obtain ⟨z0, z1, z2, z3, g0, g1, g2, g3⟩ := HR7.out
      clear hl7 hb7 hb8 hb6 HR7 HR5 HP hsz HT5
      generalize y.items.length = ly at *
      go_wp2_with fail
      refine bodyPost_ret (v := .tuple #[.agg #[.int .i64 y.kind, .int .i64 y.num, .string y.text, .slice a7 ly c7], .int .i64 E]) ?_ rfl HE1.out
      obtain ⟨q0, q1, q2, q3, _, _, _, _⟩ := Hq.out
      simp only [World.setCells, encP, Nat.zero_add, Nat.reduceAdd] at q0 q1 q2 q3
      simp [results, Tryz.results4, go_sem, q0, q1, q2, q3]
    · rw [if_neg hq] at HOn
      have e1 : updE d t p q = 4 := by unfold updE; rw [if_pos hE, if_neg hq]
      have e2 : updR d t p q = nilT := by unfold updR; rw [e1]; rfl
      rw [e1, e2]
      have HE : Hid (∀ W, Below w.heap.size w W → VPost nilT 4 w (.returned (.tuple #[.agg #[.int .i64 0, .int .i64 0, .string ⟨#[]⟩, .slice none 0 0], .int .i64 4])) W) := fun W hW => vPost_nil hW
      generalize VPost nilT 4 w = PP at *
      clear hc hcp hd har hr hl hpe hq hv hp hs hE e1 e2 hd16
      generalize timesT 16 q 1 (atR t p) = x at *
      generalize atB t p = B at *
      generalize atR t p = o at *
      generalize t.items.length = lt at *
      generalize p.length = lp at *
      go_enter Tryz.func4, Tryz.ntmps4
      go_upto_region 1 with fail
      rw [← HW0.out]
      clear HW0
      go_wp2_with fail
      refine Calls.mono HC.out ?_
      rintro e w1 ⟨rfl, hb1⟩
      have hb2 : Below w.heap.size w w1 := hb0.trans (hb1.mono hb0.size)
      have HR1 : Hid (Bx w1 (w.heap.size + 1) zeroT (.slice none 0 0)) := HR.out.keeps hb1
      replace t0 := cell_keeps hb1 t0; replace t1 := cell_keeps hb1 t1; replace t2 := cell_keeps hb1 t2; replace t3 := cell_keeps hb1 t3
      clear hb1 hb0 HC HT HR
      go_wp2_with fail
      refine Calls.mono (HA.out _ hb2) ?_
      rintro e w2 ⟨a2, c2, rfl, hl2, hb⟩
      obtain ⟨V2, hV⟩ : ∃ V, V = w2.alloc (.cells #[.int .i64 o.kind, .int .i64 o.num, .string o.text, .slice a2 o.items.length c2] 24) := ⟨_, rfl⟩
      have HV2 : Hid (w2.alloc (.cells #[.int .i64 o.kind, .int .i64 o.num, .string o.text, .slice a2 o.items.length c2] 24) = V2) := hV.symm
      have hal : Below w1.heap.size w1 V2 := by rw [hV]; exact hb.alloc hb.size _
      have ha2 : Below w2.heap.size w2 V2 := by rw [hV]; exact ((Grew.refl _).alloc _).below
      have HB2 : Hid (Bx V2 w2.heap.size o (.slice a2 o.items.length c2)) := by rw [hV]; exact bx_alloc w2 o _
      have hbV2 : Below w.heap.size w V2 := hb2.trans (hal.mono hb2.size)
      have HR2 : Hid (Bx V2 (w.heap.size + 1) zeroT (.slice none 0 0)) := HR1.out.keeps hal
      replace t0 := cell_keeps hal t0; replace t1 := cell_keeps hal t1; replace t2 := cell_keeps hal t2; replace t3 := cell_keeps hal t3
      have HL2 : Hid (LiesX (fun b => True) 16 V2 o.items (.slice a2 o.items.length c2)) := (hl2.keeps ha2).mono (fun _ _ => trivial)
      clear hV ha2 hb hl2 HR1 hb2
      obtain ⟨N2, hN2⟩ : ∃ N, N = w2.heap.size := ⟨_, rfl⟩
      have HN2 : Hid (w2.heap.size = N2) := hN2.symm
      rw [← hN2] at HB2
      have HOo : Hid (Calls Tryz.prog 12 #[.int .i64 q, .agg #[.int .i64 o.kind, .int .i64 o.num, .string o.text, .slice a2 o.items.length c2]] V2 (VPost x 4 V2)) := HOn.out V2 a2 c2 HL2.out.lies
      clear hN2 HOn HL2 HA
      generalize o.items.length = lo at *
      go_upto_region 5 with fail
      rw [HV2.out, HN2.out]
      clear HV2 HN2
      obtain ⟨o0, o1, o2, o3, _, _, _, _⟩ := HB2.out
      go_wp2_with fail
      refine Calls.mono HOo.out ?_
      rintro e w3 ⟨u3, rfl, hl3, hb⟩
      obtain ⟨a3, c3, rfl, _⟩ := LiesX.slice hl3
      obtain ⟨V3, hV⟩ : ∃ V, V = w3.alloc (.cells #[.int .i64 x.kind, .int .i64 x.num, .string x.text, .slice a3 x.items.length c3] 24) := ⟨_, rfl⟩
      have HV3 : Hid (w3.alloc (.cells #[.int .i64 x.kind, .int .i64 x.num, .string x.text, .slice a3 x.items.length c3] 24) = V3) := hV.symm
      have hal : Below V2.heap.size V2 V3 := by rw [hV]; exact hb.alloc hb.size _
      have ha2 : Below w3.heap.size w3 V3 := by rw [hV]; exact ((Grew.refl _).alloc _).below
      have HB3 : Hid (Bx V3 w3.heap.size x (.slice a3 x.items.length c3)) := by rw [hV]; exact bx_alloc w3 x _
      have hbV3 : Below w.heap.size w V3 := hbV2.trans (hal.mono hbV2.size)
      have HR3 : Hid (Bx V3 (w.heap.size + 1) zeroT (.slice none 0 0)) := HR2.out.keeps hal
      replace t0 := cell_keeps hal t0; replace t1 := cell_keeps hal t1; replace t2 := cell_keeps hal t2; replace t3 := cell_keeps hal t3
      have HL3 : Hid (LiesX (fun b => True) 16 V3 x.items (.slice a3 x.items.length c3)) := (hl3.keeps ha2).mono (fun _ _ => trivial)
      clear hV ha2 hb hl3 HR2 hbV2
      clear HB3 HL3 HOo o0 o1 o2 o3 HB2
      generalize x.items.length = lx at *
      go_upto_region 6 with fail
      rw [HV3.out]
      clear HV3
      have HE1 : Hid (PP (.returned (.tuple #[.agg #[.int .i64 0, .int .i64 0, .string ⟨#[]⟩, .slice none 0 0], .int .i64 4])) (V3.setCells (w.heap.size + 1) 0 (encP (zeroT, .slice none 0 0)))) := HE.out _ (below_put hbV3 (by omega) _)
      have Hq : Hid (Bx (V3.setCells (w.heap.size + 1) 0 (encP (zeroT, .slice none 0 0))) (w.heap.size + 1) zeroT (.slice none 0 0)) := HR3.out.put (zeroT, .slice none 0 0)
      obtain ⟨z0, z1, z2, z3, g0, g1, g2, g3⟩ := HR3.out
      go_wp2_with fail
      refine bodyPost_ret (v := .tuple #[.agg #[.int .i64 0, .int .i64 0, .string ⟨#[]⟩, .slice none 0 0], .int .i64 4]) ?_ rfl HE1.out
      obtain ⟨q0, q1, q2, q3, _, _, _, _⟩ := Hq.out
      simp only [World.setCells, encP, Nat.zero_add, Nat.reduceAdd] at q0 q1 q2 q3
      simp [results, Tryz.results4, go_sem, q0, q1, q2, q3]
  · have e1 : updE d t p q = chkE d t p := by unfold updE; rw [if_neg hE]
    have e2 : updR d t p q = nilT := by unfold updR; rw [e1, if_neg hE]
    rw [e1, e2]
    have HE : Hid (∀ W, Below w.heap.size w W → VPost nilT (chkE d t p) w (.returned (.tuple #[.agg #[.int .i64 0, .int .i64 0, .string ⟨#[]⟩, .slice none 0 0], .int .i64 (chkE d t p)])) W) := fun W hW => vPost_nil hW
    generalize VPost nilT (chkE d t p) w = PP at *
    clear e1 e2 hv hp hs
    generalize chkE d t p = E at *
    generalize t.items.length = lt at *
    generalize p.length = lp at *
    go_enter Tryz.func4, Tryz.ntmps4
    go_upto_region 1 with fail
    rw [← HW0.out]
    clear HW0
    go_wp2_with fail
    refine Calls.mono HC.out ?_
    rintro e w1 ⟨rfl, hb1⟩
    have hb2 : Below w.heap.size w w1 := hb0.trans (hb1.mono hb0.size)
    have HR1 : Hid (Bx w1 (w.heap.size + 1) zeroT (.slice none 0 0)) := HR.out.keeps hb1
    replace t0 := cell_keeps hb1 t0; replace t1 := cell_keeps hb1 t1; replace t2 := cell_keeps hb1 t2; replace t3 := cell_keeps hb1 t3
    clear hb1 hb0 HC HT HR
    have HE1 : Hid (PP (.returned (.tuple #[.agg #[.int .i64 0, .int .i64 0, .string ⟨#[]⟩, .slice none 0 0], .int .i64 E])) (w1.setCells (w.heap.size + 1) 0 (encP (zeroT, .slice none 0 0)))) := HE.out _ (below_put hb2 (by omega) _)
    have Hq : Hid (Bx (w1.setCells (w.heap.size + 1) 0 (encP (zeroT, .slice none 0 0))) (w.heap.size + 1) zeroT (.slice none 0 0)) := HR1.out.put (zeroT, .slice none 0 0)
    obtain ⟨z0, z1, z2, z3, g0, g1, g2, g3⟩ := HR1.out
    go_wp2_with fail
    refine bodyPost_ret (v := .tuple #[.agg #[.int .i64 0, .int .i64 0, .string ⟨#[]⟩, .slice none 0 0], .int .i64 E]) ?_ rfl HE1.out
    obtain ⟨q0, q1, q2, q3, _, _, _, _⟩ := Hq.out
    simp only [World.setCells, encP, Nat.zero_add, Nat.reduceAdd] at q0 q1 q2 q3
    simp [results, Tryz.results4, go_sem, q0, q1, q2, q3]

end Go.Proofs.YtofceccicmlmoaaGreat

