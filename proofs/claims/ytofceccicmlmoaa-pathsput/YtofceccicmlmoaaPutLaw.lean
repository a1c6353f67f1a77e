/-
  PathsPut: a value with something else at a path.
-/
import Derived.Test.YtofceccicmlmoaaRFaceM
import Derived.Test.YtofceccicmlmoaaBackM
import Derived.Test.YtofceccicmlmoaaLevel
import Derived.Deep.RegionHeld3
namespace Go.Proofs.Ytofceccicmlmoaa
open Go.RowKit Go.Shelf

/-- What was put is right, or does not fit. -/
theorem put_same {d : Nat} {t x z : VT} {p : List VT} {D : Nat} (hD : 16 ≤ D) (hc : chkE d t p = 0) (hx : rightV d x = true) (hr : rightV 16 t = true) (hd : Dp 16 t) (hp : ∀ s ∈ p, rightV 16 s = true) (hx16 : rightV 16 x = true) (hdx : Dp 16 x) (hz : putT t p x = some z) (hdz : Dp D z) (hDe : D ≤ 32) : dneE D z true = putE d t p x ∧ dneR D z true = putR d t p x := by
  have hfe : fw 32 z 16 1024 = fw D z 16 1024 := fw_any z hdz hDe 16 1024
  have e1 : putE d t p x = fitE D z := by unfold putE fitE; rw [if_pos hc, if_pos hx, hz]; simp only; rw [hfe]
  by_cases hf : (fw D z 16 1024).1 = true
  · have hrz := put_fits hp hr hd hx16 hdx hz hD hdz hf
    have hrD : rightV D z = true := by rw [rightV_eq z hrz.2 hD]; exact hrz.1
    have e2 : putE d t p x = 0 := by rw [e1]; unfold fitE; rw [if_pos hf]
    refine ⟨?_, ?_⟩
    · rw [e2]; unfold dneE; rw [if_pos rfl, if_pos hrD]
    · unfold dneR putR; rw [if_pos ⟨rfl, hrD⟩, if_pos e2, hz]; rfl
  · have hrD : ¬ rightV D z = true := fun h => hf (by
      have h9 : ((fw D z 16 1024).1 && rpV D z) = true := h
      simp only [Bool.and_eq_true] at h9
      exact h9.1)
    have e2 : putE d t p x = 2 := by rw [e1]; unfold fitE; rw [if_neg hf]
    refine ⟨?_, ?_⟩
    · rw [e2]; unfold dneE; rw [if_pos rfl, if_neg hrD]
    · unfold dneR putR; rw [if_neg (fun h => hrD h.2), e2]; rfl

set_option maxRecDepth 100000 in
set_option maxHeartbeats 8000000 in
theorem rPut_any (d : Nat) (t x : VT) (p : List VT) (v xv pv : Value) (w : World) (hv : Lies d w t.items v) (hp : Lies (d + 1) w p pv) (hxl : Lies d w x.items xv) (hxs : x.text.size ≤ 9223372036854775807) :
    Calls Try.prog 15 #[.agg #[.int .i64 t.kind, .int .i64 t.num, .string t.text, v], pv, .agg #[.int .i64 x.kind, .int .i64 x.num, .string x.text, xv]] w (RVX (fun _ => True) (putR d t p x) (putE d t p x) w) := by
  obtain ⟨a, c, rfl, _⟩ := Lies.slice hv
  obtain ⟨pa, pc, rfl, _⟩ := Lies.slice hp
  obtain ⟨ax, cx, rfl, _⟩ := Lies.slice hxl
  have HT : Hid (Bx (op3 w t x (.slice a t.items.length c) (.slice ax x.items.length cx)) w.heap.size t (.slice a t.items.length c)) := op3_fst _ _ _ _ _
  have HX : Hid (Bx (op3 w t x (.slice a t.items.length c) (.slice ax x.items.length cx)) (w.heap.size + 1) x (.slice ax x.items.length cx)) := op3_snd _ _ _ _ _
  have HR : Hid (Bx (op3 w t x (.slice a t.items.length c) (.slice ax x.items.length cx)) (w.heap.size + 2) zeroT (.slice none 0 0)) := op3_thd _ _ _ _ _
  have hb0 := op3_below w t x (.slice a t.items.length c) (.slice ax x.items.length cx)
  obtain ⟨W0, hW0⟩ : ∃ W0, W0 = op3 w t x (.slice a t.items.length c) (.slice ax x.items.length cx) := ⟨_, rfl⟩
  have HW0 : Hid (W0 = op3 w t x (.slice a t.items.length c) (.slice ax x.items.length cx)) := hW0
  rw [← hW0] at HT HX HR hb0
  clear hW0
  unfold op3 at HW0
  have HRt : Hid (Calls Try.prog 27 #[.agg #[.int .i64 t.kind, .int .i64 t.num, .string t.text, .slice a t.items.length c]] W0 fun e w' => e = .returned (.bool (rightV d t)) ∧ Below W0.heap.size W0 w') := right_any d t _ W0 (Lies.keeps hb0 _ _ _ hv)
  have HFt : Hid (∀ W, Below w.heap.size w W → Calls Try.prog 28 #[.slice pa p.length pc] W fun e w' => e = .returned (.int .i64 (pthE d p)) ∧ Below W.heap.size W w') := fun W hW => rfit_any d p _ W (Lies.keeps hW _ _ _ hp)
  have HRx : Hid (∀ W, Below w.heap.size w W → Calls Try.prog 27 #[.agg #[.int .i64 x.kind, .int .i64 x.num, .string x.text, .slice ax x.items.length cx]] W fun e w' => e = .returned (.bool (rightV d x)) ∧ Below W.heap.size W w') := fun W hW => right_any d x _ W (Lies.keeps hW _ _ _ hxl)
  obtain ⟨t0, t1, t2, t3, _, _, _, _⟩ := HT.out
  obtain ⟨x0, x1, x2, x3, _, _, _, _⟩ := HX.out
  by_cases hrt : rightV d t = true
  · rw [hrt] at HRt
    have hck : chkE d t p = pthE d p := by unfold chkE; rw [if_pos hrt]
    by_cases hpe : pthE d p = 0
    · rw [hpe] at HFt hck
      by_cases hrx : rightV d x = true
      · rw [hrx] at HRx
        obtain ⟨_, hl, hle⟩ := chk_zero hck
        have hc := canon hv hrt
        have hcp := canonL26 hp hle
        have hcx := canon hxl hrx
        have hd := Dp.of_lies 16 w t _ hc.1
        have hdx := Dp.of_lies 16 w x _ hcx.1
        have HPu : Hid (∀ W, Below w.heap.size w W → w.heap.size + 3 ≤ W.heap.size → Calls Try.prog 37 #[.agg #[.int .i64 t.kind, .int .i64 t.num, .string t.text, .slice a t.items.length c], .slice pa p.length pc, .agg #[.int .i64 x.kind, .int .i64 x.num, .string x.text, .slice ax x.items.length cx]] W fun e w' => ∃ (z : VT) (a9 : Option Addr) (c9 : Nat) (b9 : Bool), e = .returned (.tuple #[.agg #[.int .i64 z.kind, .int .i64 z.num, .string z.text, .slice a9 z.items.length c9], .bool b9]) ∧ Hid (Calls Try.prog 32 #[.agg #[.int .i64 z.kind, .int .i64 z.num, .string z.text, .slice a9 z.items.length c9], .bool b9] w' (RVX (fun b => b ≠ w.heap.size + 2) (putR d t p x) (putE d t p x) w')) ∧ Below W.heap.size W w') := fun W hW hW3 => by
          refine Calls.mono (rput_all x hxs p (fun s hs => (hcp.2 s hs).1) hl (fun b => b < w.heap.size) t a ax c cx (.slice pa p.length pc) W (fun b hb => by have := hW.size; omega) ((LiesX.of_lies hc.1).keeps hW) hc.2 ((LiesX.of_lies hcp.1).keeps hW) ((LiesX.of_lies hcx.1).keeps hW)) ?_
          rintro e w' ⟨z, a9, c9, b9, rfl, h1, h2, h3, h4⟩
          refine ⟨z, a9, c9, b9, rfl, ?_, h4⟩
          have hdn := Calls.mono (rdone_any _ (16 + p.length) z b9 a9 c9 w' (fun q hq => hq.2) h1.both) (fun e w2 h => RVX.mono (Y := fun b => b ≠ w.heap.size + 2) (fun q hq => by
            rcases hq.1 with hq | hq
            · omega
            · omega) h)
          rcases h3 with ⟨rfl, hz⟩ | ⟨rfl, hz, rfl⟩
          · obtain ⟨k1, k2⟩ := put_same (D := 16 + p.length) (by omega) hck hrx hc.2 hd (fun s hs => (hcp.2 s hs).1) hcx.2 hdx hz (Dp.of_lies _ w' z _ h1.lies) (by omega)
            rw [k1, k2] at hdn
            exact hdn
          · have k1 : putE d t p x = 260 := by unfold putE; rw [if_pos hck, if_pos hrx, hz]
            have k2 : putR d t p x = zeroT := by unfold putR; rw [k1]; rfl
            have k3 : dneE (16 + p.length) zeroT false = 260 := rfl
            have k4 : dneR (16 + p.length) zeroT false = zeroT := by unfold dneR; rw [if_neg (by simp)]
            rw [k3, k4] at hdn
            rw [k1, k2]
            exact hdn
        clear hl hle hc hcp hcx hd hdx hck hpe hrx hrt hv hp hxl hxs
        generalize putR d t p x = y at *
        generalize putE d t p x = E at *
        obtain ⟨PP, hPP⟩ : ∃ PP, RVX (fun _ => True) y E w = PP := ⟨_, rfl⟩
        rw [hPP]
        have HPP : Hid (RVX (fun _ => True) y E w = PP) := hPP
        clear hPP
        generalize t.items.length = lt at *
        generalize x.items.length = lx at *
        generalize p.length = lp at *
        go_enter Try.func15, Try.ntmps15
        go_upto_region 1 with fail
        rw [← HW0.out]
        clear HW0
        go_wp2_with fail
        refine Calls.mono HRt.out ?_
        rintro e w1 ⟨rfl, hg1⟩
        have hb2 : Below w.heap.size w w1 := hb0.trans (hg1.mono hb0.size)
        have HR1 : Hid (Bx w1 (w.heap.size + 2) zeroT (.slice none 0 0)) := HR.out.keeps hg1
        replace t0 := cell_keeps hg1 t0; replace t1 := cell_keeps hg1 t1; replace t2 := cell_keeps hg1 t2; replace t3 := cell_keeps hg1 t3
        replace x0 := cell_keeps hg1 x0; replace x1 := cell_keeps hg1 x1; replace x2 := cell_keeps hg1 x2; replace x3 := cell_keeps hg1 x3
        clear hg1 hb0 HR HT HX HRt
        go_wp2_with fail
        refine Calls.mono (HFt.out _ hb2) ?_
        rintro e w3 ⟨rfl, hg3⟩
        have hb4 : Below w.heap.size w w3 := hb2.trans (hg3.mono hb2.size)
        have HR3 : Hid (Bx w3 (w.heap.size + 2) zeroT (.slice none 0 0)) := HR1.out.keeps hg3
        replace t0 := cell_keeps hg3 t0; replace t1 := cell_keeps hg3 t1; replace t2 := cell_keeps hg3 t2; replace t3 := cell_keeps hg3 t3
        replace x0 := cell_keeps hg3 x0; replace x1 := cell_keeps hg3 x1; replace x2 := cell_keeps hg3 x2; replace x3 := cell_keeps hg3 x3
        clear hg3 hb2 HR1 HFt
        go_wp2_with fail
        refine Calls.mono (HRx.out _ hb4) ?_
        rintro e w5 ⟨rfl, hg5⟩
        have hb6 : Below w.heap.size w w5 := hb4.trans (hg5.mono hb4.size)
        have HR5 : Hid (Bx w5 (w.heap.size + 2) zeroT (.slice none 0 0)) := HR3.out.keeps hg5
        replace t0 := cell_keeps hg5 t0; replace t1 := cell_keeps hg5 t1; replace t2 := cell_keeps hg5 t2; replace t3 := cell_keeps hg5 t3
        replace x0 := cell_keeps hg5 x0; replace x1 := cell_keeps hg5 x1; replace x2 := cell_keeps hg5 x2; replace x3 := cell_keeps hg5 x3
        clear hg5 hb4 HR3 HRx
        go_wp2_with fail
        refine Calls.mono (HPu.out _ hb6 (by have := cell_lt HR5.out.c0; simp at this; omega)) ?_
        rintro e w7 ⟨z, a9, c9, b9, rfl, HD, hb7⟩
        have hb8 : Below w.heap.size w w7 := hb6.trans (hb7.mono hb6.size)
        have HR7 : Hid (Bx w7 (w.heap.size + 2) zeroT (.slice none 0 0)) := HR5.out.keeps hb7
        clear HPu hb7 HR5 hb6 t0 t1 t2 t3 x0 x1 x2 x3
        go_wp2_with fail
        refine Calls.mono HD.out ?_
        rintro e w9 ⟨u9, rfl, hl9, hb9⟩
        obtain ⟨aa, ca, rfl, _⟩ := LiesX.slice hl9
        have hb10 : Below w.heap.size w w9 := hb8.trans (hb9.mono hb8.size)
        have HR9 : Hid (Bx w9 (w.heap.size + 2) zeroT (.slice none 0 0)) := HR7.out.keeps hb9
        have HE1 : Hid (PP (.returned (.tuple #[.agg #[.int .i64 y.kind, .int .i64 y.num, .string y.text, .slice aa y.items.length ca], .int .i64 E])) (w9.setCells (w.heap.size + 2) 0 (encP (y, .slice aa y.items.length ca)))) := by
          show PP _ _
          rw [← HPP.out]
          exact ⟨_, rfl, (LiesX.set (g := w.heap.size + 2) (fun h => h rfl) hl9).mono (fun _ _ => trivial), below_put hb10 (by omega) _⟩
        have Hq : Hid (Bx (w9.setCells (w.heap.size + 2) 0 (encP (y, .slice aa y.items.length ca))) (w.heap.size + 2) y (.slice aa y.items.length ca)) := HR9.out.put (y, .slice aa y.items.length ca)
        obtain ⟨z0, z1, z2, z3, g0, g1, g2, g3⟩ := HR9.out
        clear hl9 hb9 hb10 hb8 HR9 HR7 HPP HD
        generalize y.items.length = ly at *
        go_wp2_with fail
        refine bodyPost_ret (v := .tuple #[.agg #[.int .i64 y.kind, .int .i64 y.num, .string y.text, .slice aa ly ca], .int .i64 E]) ?_ rfl HE1.out
        obtain ⟨q0, q1, q2, q3, _, _, _, _⟩ := Hq.out
        simp only [World.setCells, encP, Nat.zero_add, Nat.reduceAdd] at q0 q1 q2 q3
        simp [results, Try.results15, go_sem, q0, q1, q2, q3]
      · have hxf : rightV d x = false := by simpa using hrx
        rw [hxf] at HRx
        have e1 : putE d t p x = 3 := by unfold putE; rw [if_pos hck, if_neg hrx]
        have e2 : putR d t p x = zeroT := by unfold putR; rw [e1]; rfl
        rw [e1, e2]
        have HE : Hid (∀ W, Below w.heap.size w W → RVX (fun _ => True) zeroT 3 w (.returned (.tuple #[.agg #[.int .i64 0, .int .i64 0, .string ⟨#[]⟩, .slice none 0 0], .int .i64 3])) W) := fun W hW => rvPost_zero hW
        generalize RVX (fun _ => True) zeroT 3 w = PP at *
        clear e1 e2 hck hpe hrx hxf hrt hv hp hxl hxs
        generalize t.items.length = lt at *
        generalize x.items.length = lx at *
        generalize p.length = lp at *
        go_enter Try.func15, Try.ntmps15
        go_upto_region 1 with fail
        rw [← HW0.out]
        clear HW0
        go_wp2_with fail
        refine Calls.mono HRt.out ?_
        rintro e w1 ⟨rfl, hg1⟩
        have hb2 : Below w.heap.size w w1 := hb0.trans (hg1.mono hb0.size)
        have HR1 : Hid (Bx w1 (w.heap.size + 2) zeroT (.slice none 0 0)) := HR.out.keeps hg1
        replace t0 := cell_keeps hg1 t0; replace t1 := cell_keeps hg1 t1; replace t2 := cell_keeps hg1 t2; replace t3 := cell_keeps hg1 t3
        replace x0 := cell_keeps hg1 x0; replace x1 := cell_keeps hg1 x1; replace x2 := cell_keeps hg1 x2; replace x3 := cell_keeps hg1 x3
        clear hg1 hb0 HR HT HX HRt
        go_wp2_with fail
        refine Calls.mono (HFt.out _ hb2) ?_
        rintro e w3 ⟨rfl, hg3⟩
        have hb4 : Below w.heap.size w w3 := hb2.trans (hg3.mono hb2.size)
        have HR3 : Hid (Bx w3 (w.heap.size + 2) zeroT (.slice none 0 0)) := HR1.out.keeps hg3
        replace t0 := cell_keeps hg3 t0; replace t1 := cell_keeps hg3 t1; replace t2 := cell_keeps hg3 t2; replace t3 := cell_keeps hg3 t3
        replace x0 := cell_keeps hg3 x0; replace x1 := cell_keeps hg3 x1; replace x2 := cell_keeps hg3 x2; replace x3 := cell_keeps hg3 x3
        clear hg3 hb2 HR1 HFt
        go_wp2_with fail
        refine Calls.mono (HRx.out _ hb4) ?_
        rintro e w5 ⟨rfl, hg5⟩
        have hb6 : Below w.heap.size w w5 := hb4.trans (hg5.mono hb4.size)
        have HR5 : Hid (Bx w5 (w.heap.size + 2) zeroT (.slice none 0 0)) := HR3.out.keeps hg5
        replace t0 := cell_keeps hg5 t0; replace t1 := cell_keeps hg5 t1; replace t2 := cell_keeps hg5 t2; replace t3 := cell_keeps hg5 t3
        replace x0 := cell_keeps hg5 x0; replace x1 := cell_keeps hg5 x1; replace x2 := cell_keeps hg5 x2; replace x3 := cell_keeps hg5 x3
        clear hg5 hb4 HR3 HRx
        clear t0 t1 t2 t3 x0 x1 x2 x3
        have HE1 : Hid (PP (.returned (.tuple #[.agg #[.int .i64 0, .int .i64 0, .string ⟨#[]⟩, .slice none 0 0], .int .i64 3])) (w5.setCells (w.heap.size + 2) 0 (encP (zeroT, .slice none 0 0)))) := HE.out _ (below_put hb6 (by omega) _)
        have Hq : Hid (Bx (w5.setCells (w.heap.size + 2) 0 (encP (zeroT, .slice none 0 0))) (w.heap.size + 2) zeroT (.slice none 0 0)) := HR5.out.put (zeroT, .slice none 0 0)
        obtain ⟨z0, z1, z2, z3, g0, g1, g2, g3⟩ := HR5.out
        go_wp2_with fail
        refine bodyPost_ret (v := .tuple #[.agg #[.int .i64 0, .int .i64 0, .string ⟨#[]⟩, .slice none 0 0], .int .i64 3]) ?_ rfl HE1.out
        obtain ⟨q0, q1, q2, q3, _, _, _, _⟩ := Hq.out
        simp only [World.setCells, encP, Nat.zero_add, Nat.reduceAdd] at q0 q1 q2 q3
        simp [results, Try.results15, go_sem, q0, q1, q2, q3]
    · have e1 : putE d t p x = pthE d p := by unfold putE; rw [hck, if_neg hpe]
      have e2 : putR d t p x = zeroT := by unfold putR; rw [e1, if_neg hpe]; rfl
      rw [e1, e2]
      have HE : Hid (∀ W, Below w.heap.size w W → RVX (fun _ => True) zeroT (pthE d p) w (.returned (.tuple #[.agg #[.int .i64 0, .int .i64 0, .string ⟨#[]⟩, .slice none 0 0], .int .i64 (pthE d p)])) W) := fun W hW => rvPost_zero hW
      generalize RVX (fun _ => True) zeroT (pthE d p) w = PP at *
      clear e1 e2 hck hrt hv hp hxl hxs HRx
      generalize pthE d p = E at *
      have hpe' : (E != 0) = true := by simpa using hpe
      generalize t.items.length = lt at *
      generalize x.items.length = lx at *
      generalize p.length = lp at *
      go_enter Try.func15, Try.ntmps15
      go_upto_region 1 with fail
      rw [← HW0.out]
      clear HW0
      go_wp2_with fail
      refine Calls.mono HRt.out ?_
      rintro e w1 ⟨rfl, hg1⟩
      have hb2 : Below w.heap.size w w1 := hb0.trans (hg1.mono hb0.size)
      have HR1 : Hid (Bx w1 (w.heap.size + 2) zeroT (.slice none 0 0)) := HR.out.keeps hg1
      replace t0 := cell_keeps hg1 t0; replace t1 := cell_keeps hg1 t1; replace t2 := cell_keeps hg1 t2; replace t3 := cell_keeps hg1 t3
      replace x0 := cell_keeps hg1 x0; replace x1 := cell_keeps hg1 x1; replace x2 := cell_keeps hg1 x2; replace x3 := cell_keeps hg1 x3
      clear hg1 hb0 HR HT HX HRt
      go_wp2_with fail
      refine Calls.mono (HFt.out _ hb2) ?_
      rintro e w3 ⟨rfl, hg3⟩
      have hb4 : Below w.heap.size w w3 := hb2.trans (hg3.mono hb2.size)
      have HR3 : Hid (Bx w3 (w.heap.size + 2) zeroT (.slice none 0 0)) := HR1.out.keeps hg3
      replace t0 := cell_keeps hg3 t0; replace t1 := cell_keeps hg3 t1; replace t2 := cell_keeps hg3 t2; replace t3 := cell_keeps hg3 t3
      replace x0 := cell_keeps hg3 x0; replace x1 := cell_keeps hg3 x1; replace x2 := cell_keeps hg3 x2; replace x3 := cell_keeps hg3 x3
      clear hg3 hb2 HR1 HFt
      clear t0 t1 t2 t3 x0 x1 x2 x3
      have HE1 : Hid (PP (.returned (.tuple #[.agg #[.int .i64 0, .int .i64 0, .string ⟨#[]⟩, .slice none 0 0], .int .i64 E])) (w3.setCells (w.heap.size + 2) 0 (encP (zeroT, .slice none 0 0)))) := HE.out _ (below_put hb4 (by omega) _)
      have Hq : Hid (Bx (w3.setCells (w.heap.size + 2) 0 (encP (zeroT, .slice none 0 0))) (w.heap.size + 2) zeroT (.slice none 0 0)) := HR3.out.put (zeroT, .slice none 0 0)
      obtain ⟨z0, z1, z2, z3, g0, g1, g2, g3⟩ := HR3.out
      go_wp2_with fail
      refine bodyPost_ret (v := .tuple #[.agg #[.int .i64 0, .int .i64 0, .string ⟨#[]⟩, .slice none 0 0], .int .i64 E]) ?_ rfl HE1.out
      obtain ⟨q0, q1, q2, q3, _, _, _, _⟩ := Hq.out
      simp only [World.setCells, encP, Nat.zero_add, Nat.reduceAdd] at q0 q1 q2 q3
      simp [results, Try.results15, go_sem, q0, q1, q2, q3]
  · have hrf : rightV d t = false := by simpa using hrt
    rw [hrf] at HRt
    have e0 : chkE d t p = 3 := by unfold chkE; rw [if_neg hrt]
    have e1 : putE d t p x = 3 := by unfold putE; rw [if_neg (by omega), e0]
    have e2 : putR d t p x = zeroT := by unfold putR; rw [e1]; rfl
    rw [e1, e2]
    have HE : Hid (∀ W, Below w.heap.size w W → RVX (fun _ => True) zeroT 3 w (.returned (.tuple #[.agg #[.int .i64 0, .int .i64 0, .string ⟨#[]⟩, .slice none 0 0], .int .i64 3])) W) := fun W hW => rvPost_zero hW
    generalize RVX (fun _ => True) zeroT 3 w = PP at *
    clear e0 e1 e2 hrt hrf hv hp hxl hxs HRx HFt
    generalize t.items.length = lt at *
    generalize x.items.length = lx at *
    generalize p.length = lp at *
    go_enter Try.func15, Try.ntmps15
    go_upto_region 1 with fail
    rw [← HW0.out]
    clear HW0
    go_wp2_with fail
    refine Calls.mono HRt.out ?_
    rintro e w1 ⟨rfl, hg1⟩
    have hb2 : Below w.heap.size w w1 := hb0.trans (hg1.mono hb0.size)
    have HR1 : Hid (Bx w1 (w.heap.size + 2) zeroT (.slice none 0 0)) := HR.out.keeps hg1
    replace t0 := cell_keeps hg1 t0; replace t1 := cell_keeps hg1 t1; replace t2 := cell_keeps hg1 t2; replace t3 := cell_keeps hg1 t3
    replace x0 := cell_keeps hg1 x0; replace x1 := cell_keeps hg1 x1; replace x2 := cell_keeps hg1 x2; replace x3 := cell_keeps hg1 x3
    clear hg1 hb0 HR HT HX HRt
    clear t0 t1 t2 t3 x0 x1 x2 x3
    have HE1 : Hid (PP (.returned (.tuple #[.agg #[.int .i64 0, .int .i64 0, .string ⟨#[]⟩, .slice none 0 0], .int .i64 3])) (w1.setCells (w.heap.size + 2) 0 (encP (zeroT, .slice none 0 0)))) := HE.out _ (below_put hb2 (by omega) _)
    have Hq : Hid (Bx (w1.setCells (w.heap.size + 2) 0 (encP (zeroT, .slice none 0 0))) (w.heap.size + 2) zeroT (.slice none 0 0)) := HR1.out.put (zeroT, .slice none 0 0)
    obtain ⟨z0, z1, z2, z3, g0, g1, g2, g3⟩ := HR1.out
    go_wp2_with fail
    refine bodyPost_ret (v := .tuple #[.agg #[.int .i64 0, .int .i64 0, .string ⟨#[]⟩, .slice none 0 0], .int .i64 3]) ?_ rfl HE1.out
    obtain ⟨q0, q1, q2, q3, _, _, _, _⟩ := Hq.out
    simp only [World.setCells, encP, Nat.zero_add, Nat.reduceAdd] at q0 q1 q2 q3
    simp [results, Try.results15, go_sem, q0, q1, q2, q3]

end Go.Proofs.Ytofceccicmlmoaa

namespace Go.Proofs.Ytofceccicmlmoaa
open Go.RowKit Go.Shelf

set_option maxRecDepth 100000 in
set_option maxHeartbeats 8000000 in
theorem putl_core (t x y : VT) (E : Int) (a ap ax : Option Addr) (l c lp cp lx cx : Nat) (w : World)
    (H1 : Hid (∀ W, Below w.heap.size w W → Calls Try.prog 14 #[.agg #[.int .i64 t.kind, .int .i64 t.num, .string t.text, .slice a l c], .slice ap lp cp, .agg #[.int .i64 x.kind, .int .i64 x.num, .string x.text, .slice ax lx cx]] W (VPost y E W)))
    (H2 : Hid (∀ W, Below w.heap.size w W → Calls Try.prog 15 #[.agg #[.int .i64 t.kind, .int .i64 t.num, .string t.text, .slice a l c], .slice ap lp cp, .agg #[.int .i64 x.kind, .int .i64 x.num, .string x.text, .slice ax lx cx]] W (RVX (fun _ => True) y E W)))
    (HV : Hid (∀ (s : VT) (u v : Value) (W : World), Lies 16 W s.items u → Lies 16 W s.items v → Calls Try.prog 12 #[.agg #[.int .i64 s.kind, .int .i64 s.num, .string s.text, u], .agg #[.int .i64 s.kind, .int .i64 s.num, .string s.text, v]] W fun e W' => e = .returned (.bool true) ∧ Below W.heap.size W W')) :
    Calls Try.prog 4 #[.agg #[.int .i64 t.kind, .int .i64 t.num, .string t.text, .slice a l c], .slice ap lp cp, .agg #[.int .i64 x.kind, .int .i64 x.num, .string x.text, .slice ax lx cx]] w fun e w' => e = .returned (.bool true) ∧ Below w.heap.size w w' := by
  have hal : Below w.heap.size w ((w.alloc (.cells #[.int .i64 t.kind, .int .i64 t.num, .string t.text, .slice a l c] 24)).alloc (.cells #[.int .i64 x.kind, .int .i64 x.num, .string x.text, .slice ax lx cx] 24)) := (Grew.two _ _ _).below
  have HX : Hid (Bx ((w.alloc (.cells #[.int .i64 t.kind, .int .i64 t.num, .string t.text, .slice a l c] 24)).alloc (.cells #[.int .i64 x.kind, .int .i64 x.num, .string x.text, .slice ax lx cx] 24)) w.heap.size t (.slice a l c)) := (bx_alloc w t _).keeps ((Grew.refl _).alloc _).below
  have HY : Hid (Bx ((w.alloc (.cells #[.int .i64 t.kind, .int .i64 t.num, .string t.text, .slice a l c] 24)).alloc (.cells #[.int .i64 x.kind, .int .i64 x.num, .string x.text, .slice ax lx cx] 24)) (w.heap.size + 1) x (.slice ax lx cx)) := by
    have := bx_alloc (w.alloc (.cells #[.int .i64 t.kind, .int .i64 t.num, .string t.text, .slice a l c] 24)) x (.slice ax lx cx)
    rwa [World.size_alloc] at this
  have HSp : Hid (∀ W, Calls Try.prog 13 #[] W fun e w' => e = .returned (.bool true) ∧ Below W.heap.size W w') := fun W => speaks26 put_all W
  go_enter Try.func4, Try.ntmps4
  go_wp2_with fail
  refine Calls.mono (H1.out _ hal) ?_
  rintro e w1 ⟨v1, rfl, hl1, hb⟩
  obtain ⟨a1, c1, rfl, _⟩ := LiesX.slice hl1
  obtain ⟨hb1, hg⟩ := belowB_new hal hb (.cells #[.int .i64 y.kind, .int .i64 y.num, .string y.text, .slice a1 y.items.length c1] 24)
  have HX1 : Hid (Bx (w1.alloc (.cells #[.int .i64 y.kind, .int .i64 y.num, .string y.text, .slice a1 y.items.length c1] 24)) w.heap.size t (.slice a l c)) := HX.out.keeps hg
  have HY1 : Hid (Bx (w1.alloc (.cells #[.int .i64 y.kind, .int .i64 y.num, .string y.text, .slice a1 y.items.length c1] 24)) (w.heap.size + 1) x (.slice ax lx cx)) := HY.out.keeps hg
  have HA1 : Hid (KeptB (w1.alloc (.cells #[.int .i64 y.kind, .int .i64 y.num, .string y.text, .slice a1 y.items.length c1] 24)) w1.heap.size y (.slice a1 y.items.length c1)) := keptB_new hl1.lies
  clear hal hb hg HX HY hl1 H1
  obtain ⟨x0, x1, x2, x3, _, _, _, _⟩ := HX1.out
  obtain ⟨y0, y1, y2, y3, _, _, _, _⟩ := HY1.out
  go_wp2_with fail
  refine Calls.mono (H2.out _ hb1) ?_
  rintro e w2 ⟨v2, rfl, hl2, hb⟩
  obtain ⟨a2, c2, rfl, _⟩ := LiesX.slice hl2
  obtain ⟨hb2, hg⟩ := belowB_new hb1 hb (.cells #[.int .i64 y.kind, .int .i64 y.num, .string y.text, .slice a2 y.items.length c2] 24)
  have HA2 : Hid (KeptB (w2.alloc (.cells #[.int .i64 y.kind, .int .i64 y.num, .string y.text, .slice a2 y.items.length c2] 24)) w1.heap.size y (.slice a1 y.items.length c1)) := HA1.out.keeps hg
  have HB2 : Hid (KeptB (w2.alloc (.cells #[.int .i64 y.kind, .int .i64 y.num, .string y.text, .slice a2 y.items.length c2] 24)) w2.heap.size y (.slice a2 y.items.length c2)) := keptB_new hl2.lies
  clear hb hg hl2 HX1 HY1 HA1 x0 x1 x2 x3 y0 y1 y2 y3 hb1 H2
  generalize w1.heap.size = B1 at *
  obtain ⟨⟨p0, p1, p2, p3, _, _, _, _⟩, _⟩ := HA2.out
  go_wp2_with fail
  refine Calls.mono (HV.out y _ _ _ HA2.out.lies HB2.out.lies) ?_
  rintro e w3 ⟨rfl, hb⟩
  have hb3 : Below w.heap.size w w3 := hb2.trans (hb.mono hb2.size)
  clear hb HA2 HB2 p0 p1 p2 p3 hb2
  go_wp2_with fail
  refine (HSp.out _).mono ?_
  rintro e w4 ⟨rfl, hb⟩
  have hb4 : Below w.heap.size w w4 := hb3.trans (hb.mono hb3.size)
  clear hb
  go_wp2_with fail
  go_ret
  exact ⟨rfl, hb4⟩

theorem putl_walk (n0 n1 n2 : Nat) (t x : VT) (p : List VT) (u pv v : Value) (w : World) (L0 : Lies n0 w t.items u) (L1 : Lies (n1 + 1) w p pv) (L2 : Lies n2 w x.items v) (b0 : t.text.size ≤ 9223372036854775807) (b2 : x.text.size ≤ 9223372036854775807) :
    Calls Try.prog 4 #[.agg #[.int .i64 t.kind, .int .i64 t.num, .string t.text, u], pv, .agg #[.int .i64 x.kind, .int .i64 x.num, .string x.text, v]] w fun e w' => e = .returned (.bool true) ∧ Below w.heap.size w w' := by
  obtain ⟨d, h16, hn0, hn1, hn2⟩ : ∃ d, 16 ≤ d ∧ n0 ≤ d ∧ n1 ≤ d ∧ n2 ≤ d := ⟨16 + n0 + n1 + n2, by omega, by omega, by omega, by omega⟩
  replace L0 := L0.atLeast d hn0
  replace L1 := L1.atLeast (d + 1) (by omega)
  replace L2 := L2.atLeast d hn2
  obtain ⟨a, c, rfl, _⟩ := Lies.slice L0
  obtain ⟨ap, cp, rfl, _⟩ := Lies.slice L1
  obtain ⟨ax, cx, rfl, _⟩ := Lies.slice L2
  refine putl_core t x (putR d t p x) (putE d t p x) a ap ax _ c _ cp _ cx w ?_ ?_ ?_
  · exact fun W hW => put_face put_all d t x p _ _ _ W (Lies.keeps hW _ _ _ L0) b0 (Lies.keeps hW _ _ _ L1) (Lies.keeps hW _ _ _ L2) b2
  · exact fun W hW => rPut_any d t x p _ _ _ W (Lies.keeps hW _ _ _ L0) (Lies.keeps hW _ _ _ L1) (Lies.keeps hW _ _ _ L2) b2
  · exact fun s u v W h1 h2 => (same_any 16 s s u v W h1 h2).mono fun e W' h => ⟨by rw [h.1, sameV_self], h.2.below⟩

end Go.Proofs.Ytofceccicmlmoaa

