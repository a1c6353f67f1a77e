/-
  PathsUpdate: the value with what a function makes of what stands at a path, and with what it makes of each leaf.
-/
import Derived.Test.YtofceccicmlmoaaGreatRWlkM
import Derived.Test.YtofceccicmlmoaaGreatWalkF
import Derived.Test.YtofceccicmlmoaaGreatRAtM
import Derived.Test.YtofceccicmlmoaaGreatRFaceN
import Derived.Test.YtofceccicmlmoaaGreatRIs
import Derived.Test.YtofceccicmlmoaaGreatStepM
import Derived.Test.YtofceccicmlmoaaGreatLevel
import Derived.Deep.RegionHeld3
namespace Go.Proofs.YtofceccicmlmoaaGreat
open Go.RowKit Go.Shelf

theorem walk_same {d q : Nat} {t : VT} (hq : q < 8) (hrd : rightV d t = true) (hr : rightV 16 t = true) (hd : Dp 16 t) : dneE 32 (walkT (doneT q) 16 t) true = wlkE d q t ∧ dneR 32 (walkT (doneT q) 16 t) true = wlkR d q t := by
  have e1 : wlkE d q t = fitE 32 (walkT (doneT q) 16 t) := by unfold wlkE; rw [if_pos hrd, if_pos (by omega)]; rfl
  by_cases hf : (fw 32 (walkT (doneT q) 16 t) 16 1024).1 = true
  · have hrz := walk_fits (doneT q) (fun x h1 h2 => done_right q h1 h2) hr hd hf
    have hrD : rightV 32 (walkT (doneT q) 16 t) = true := by rw [rightV_eq _ hrz.2 (by omega)]; exact hrz.1
    have e2 : wlkE d q t = 0 := by rw [e1]; unfold fitE; rw [if_pos hf]
    refine ⟨?_, ?_⟩
    · rw [e2]; unfold dneE; rw [if_pos rfl, if_pos hrD]
    · unfold dneR wlkR; rw [if_pos ⟨rfl, hrD⟩, if_pos e2]; rfl
  · have hrD : ¬ rightV 32 (walkT (doneT q) 16 t) = true := fun h => hf (by
      have h9 : ((fw 32 (walkT (doneT q) 16 t) 16 1024).1 && rpV 32 (walkT (doneT q) 16 t)) = true := h
      simp only [Bool.and_eq_true] at h9
      exact h9.1)
    have e2 : wlkE d q t = 2 := by rw [e1]; unfold fitE; rw [if_neg hf]
    refine ⟨?_, ?_⟩
    · rw [e2]; unfold dneE; rw [if_pos rfl, if_neg hrD]
    · unfold dneR wlkR; rw [if_neg (fun h => hrD h.2), e2]; rfl

set_option maxRecDepth 100000 in
set_option maxHeartbeats 8000000 in
theorem rWalk_any (d : Nat) (q : Int) (t : VT) (v : Value) (w : World) (hv : Lies d w t.items v) :
    Calls Tryz.prog 7 #[.agg #[.int .i64 t.kind, .int .i64 t.num, .string t.text, v], .int .i64 q] w (RVX (fun _ => True) (wlkR d q t) (wlkE d q t) w) := by
  obtain ⟨a, c, rfl, _⟩ := Lies.slice hv
  have HT : Hid (Bx (op2 w t (.slice a t.items.length c)) w.heap.size t (.slice a t.items.length c)) := op2_fst _ _ _
  have HR : Hid (Bx (op2 w t (.slice a t.items.length c)) (w.heap.size + 1) zeroT (.slice none 0 0)) := op2_snd _ _ _
  have hb0 := op2_below w t (.slice a t.items.length c)
  obtain ⟨W0, hW0⟩ : ∃ W0, W0 = op2 w t (.slice a t.items.length c) := ⟨_, rfl⟩
  have HW0 : Hid (W0 = op2 w t (.slice a t.items.length c)) := hW0
  rw [← hW0] at HT HR hb0
  clear hW0
  unfold op2 at HW0
  have HRt : Hid (Calls Tryz.prog 15 #[.agg #[.int .i64 t.kind, .int .i64 t.num, .string t.text, .slice a t.items.length c]] W0 fun e w' => e = .returned (.bool (rightV d t)) ∧ Below W0.heap.size W0 w') := right_any d t _ W0 (Lies.keeps hb0 _ _ _ hv)
  have HKd : Hid (∀ W, Calls Tryz.prog 17 #[.int .i64 q] W fun e w' => e = .returned (.bool (k5B q)) ∧ w' = W) := fun W => rkind5_any q W
  have hkb : k5B q = decide (0 ≤ q ∧ q < 8) := by unfold k5B; congr 1; rw [eq_iff_iff]; omega
  obtain ⟨t0, t1, t2, t3, _, _, _, _⟩ := HT.out
  by_cases hrt : rightV d t = true
  · rw [hrt] at HRt
    have hc := canon hv hrt
    have hd := Dp.of_lies 16 w t _ hc.1
    by_cases hq : 0 ≤ q ∧ q < 8
    · rw [hkb, decide_eq_true hq] at HKd
      obtain ⟨n, rfl⟩ : ∃ n : Nat, q = (n : Int) := ⟨q.toNat, by omega⟩
      have hn : n < 8 := by omega
      have HWt : Hid (∀ W, Below w.heap.size w W → w.heap.size + 1 < W.heap.size → Calls Tryz.prog 24 #[.agg #[.int .i64 t.kind, .int .i64 t.num, .string t.text, .slice a t.items.length c], .int .i64 (n : Int)] W fun e w' => ∃ k9 n9 tx9 a9 l9 c9, e = .returned (.agg #[.int .i64 k9, .int .i64 n9, .string tx9, .slice a9 l9 c9]) ∧ Hid (Calls Tryz.prog 19 #[.agg #[.int .i64 k9, .int .i64 n9, .string tx9, .slice a9 l9 c9], .bool true] w' (RVX (fun p => p ≠ w.heap.size + 1) (wlkR d n t) (wlkE d n t) w')) ∧ Below W.heap.size W w') := fun W hW hWs => by
        refine (rwalk_any n hn 16 (by omega) (fun b => b < w.heap.size) t a c W (fun b hb => by have := hW.size; omega) ((LiesX.of_lies hc.1).keeps hW) hc.2 hd).mono ?_
        rintro e w' ⟨za, zc, rfl, hz1, hz4⟩
        refine ⟨_, _, _, _, _, _, rfl, ?_, hz4⟩
        have h9 := Calls.mono (rdone26_any _ 32 (walkT (doneT n) 16 t) true za zc w' (fun p hp => hp.2) hz1.both) (fun e w2 h => RVX.mono (Y := fun p => p ≠ w.heap.size + 1) (fun p hp => by rcases hp.1 with hp | hp <;> omega) h)
        obtain ⟨k1, k2⟩ := walk_same (d := d) hn hrt hc.2 hd
        rw [k1, k2] at h9
        exact h9
      generalize wlkR d n t = r at *
      generalize wlkE d n t = E at *
      obtain ⟨PP, hPP⟩ : ∃ PP, RVX (fun _ => True) r E w = PP := ⟨_, rfl⟩
      rw [hPP]
      have HPP : Hid (RVX (fun _ => True) r E w = PP) := hPP
      clear hPP hrt hv hc hd hkb hq hn
      go_enter Tryz.func7, Tryz.ntmps7
      go_upto_region 1 with fail
      rw [← HW0.out]
      clear HW0
      go_wp2_with fail
      refine Calls.mono HRt.out ?_
      rintro e w1 ⟨rfl, hg1⟩
      have hb2 : Below w.heap.size w w1 := hb0.trans (hg1.mono hb0.size)
      have HR1 : Hid (Bx w1 (w.heap.size + 1) zeroT (.slice none 0 0)) := HR.out.keeps hg1
      replace t0 := cell_keeps hg1 t0; replace t1 := cell_keeps hg1 t1; replace t2 := cell_keeps hg1 t2; replace t3 := cell_keeps hg1 t3
      clear hg1 hb0 HR HT HRt
      go_wp2_with fail
      refine Calls.mono (HKd.out _) ?_
      rintro e wk ⟨rfl, hwk⟩
      subst wk
      clear HKd
      have hsV : w.heap.size + 1 < w1.heap.size := by have h9 := cell_lt HR1.out.c0; simpa using h9
      have hbV := hb2
      have HRV := HR1
      clear hb2 HR1
      go_wp2_with fail
      refine Calls.mono (HWt.out _ hbV hsV) ?_
      rintro e w7 ⟨k9, n9, tx9, a9, l9, c9, rfl, HDn, hg7⟩
      have hb8 : Below w.heap.size w w7 := hbV.trans (hg7.mono hbV.size)
      have HR7 : Hid (Bx w7 (w.heap.size + 1) zeroT (.slice none 0 0)) := HRV.out.keeps hg7
      clear hbV hg7 HRV HWt t0 t1 t2 t3
      go_wp2_with fail
      refine Calls.mono HDn.out ?_
      rintro e w9 ⟨u9, rfl, hl9, hg9⟩
      obtain ⟨a9, c9, rfl, _⟩ := LiesX.slice hl9
      have hb10 : Below w.heap.size w w9 := hb8.trans (hg9.mono hb8.size)
      have HR9 : Hid (Bx w9 (w.heap.size + 1) zeroT (.slice none 0 0)) := HR7.out.keeps hg9
      have HE1 : Hid (PP (.returned (.tuple #[.agg #[.int .i64 r.kind, .int .i64 r.num, .string r.text, .slice a9 r.items.length c9], .int .i64 E])) (w9.setCells (w.heap.size + 1) 0 (encP (r, .slice a9 r.items.length c9)))) := by
        show PP _ _
        rw [← HPP.out]
        exact ⟨_, rfl, (LiesX.set (g := w.heap.size + 1) (fun h => h rfl) hl9).mono (fun _ _ => trivial), below_put hb10 (by omega) _⟩
      have Hq : Hid (Bx (w9.setCells (w.heap.size + 1) 0 (encP (r, .slice a9 r.items.length c9))) (w.heap.size + 1) r (.slice a9 r.items.length c9)) := HR9.out.put (r, .slice a9 r.items.length c9)
      obtain ⟨z0, z1, z2, z3, g0, g1, g2, g3⟩ := HR9.out
      clear hl9 hg9 hb10 hb8 HR9 HR7 HPP HDn
      generalize r.items.length = lr at *
      go_wp2_with fail
      refine bodyPost_ret (v := .tuple #[.agg #[.int .i64 r.kind, .int .i64 r.num, .string r.text, .slice a9 lr c9], .int .i64 E]) ?_ rfl HE1.out
      obtain ⟨q0, q1, q2, q3, _, _, _, _⟩ := Hq.out
      simp only [World.setCells, encP, Nat.zero_add, Nat.reduceAdd] at q0 q1 q2 q3
      simp [results, Tryz.results7, go_sem, q0, q1, q2, q3]
    · rw [hkb, decide_eq_false hq] at HKd
      have e1 : wlkE d q t = 4 := by unfold wlkE; rw [if_pos hrt, if_neg hq]
      have e2 : wlkR d q t = zeroT := by unfold wlkR; rw [e1]; rfl
      rw [e1, e2]
      have HE : Hid (∀ W, Below w.heap.size w W → RVX (fun _ => True) zeroT 4 w (.returned (.tuple #[.agg #[.int .i64 0, .int .i64 0, .string ⟨#[]⟩, .slice none 0 0], .int .i64 4])) W) := fun W hW => rvPost_zero hW
      generalize RVX (fun _ => True) zeroT 4 w = PP at *
      clear e1 e2 hrt hv hc hd hkb hq
      go_enter Tryz.func7, Tryz.ntmps7
      go_upto_region 1 with fail
      rw [← HW0.out]
      clear HW0
      go_wp2_with fail
      refine Calls.mono HRt.out ?_
      rintro e w1 ⟨rfl, hg1⟩
      have hb2 : Below w.heap.size w w1 := hb0.trans (hg1.mono hb0.size)
      have HR1 : Hid (Bx w1 (w.heap.size + 1) zeroT (.slice none 0 0)) := HR.out.keeps hg1
      replace t0 := cell_keeps hg1 t0; replace t1 := cell_keeps hg1 t1; replace t2 := cell_keeps hg1 t2; replace t3 := cell_keeps hg1 t3
      clear hg1 hb0 HR HT HRt
      go_wp2_with fail
      refine Calls.mono (HKd.out _) ?_
      rintro e wk ⟨rfl, hwk⟩
      subst wk
      clear HKd t0 t1 t2 t3
      have HE1 : Hid (PP (.returned (.tuple #[.agg #[.int .i64 0, .int .i64 0, .string ⟨#[]⟩, .slice none 0 0], .int .i64 4])) (w1.setCells (w.heap.size + 1) 0 (encP (zeroT, .slice none 0 0)))) := HE.out _ (below_put hb2 (by omega) _)
      have Hq : Hid (Bx (w1.setCells (w.heap.size + 1) 0 (encP (zeroT, .slice none 0 0))) (w.heap.size + 1) zeroT (.slice none 0 0)) := HR1.out.put (zeroT, .slice none 0 0)
      obtain ⟨z0, z1, z2, z3, g0, g1, g2, g3⟩ := HR1.out
      go_wp2_with fail
      refine bodyPost_ret (v := .tuple #[.agg #[.int .i64 0, .int .i64 0, .string ⟨#[]⟩, .slice none 0 0], .int .i64 4]) ?_ rfl HE1.out
      obtain ⟨q0, q1, q2, q3, _, _, _, _⟩ := Hq.out
      simp only [World.setCells, encP, Nat.zero_add, Nat.reduceAdd] at q0 q1 q2 q3
      simp [results, Tryz.results7, go_sem, q0, q1, q2, q3]
  · have hrf : rightV d t = false := by simpa using hrt
    rw [hrf] at HRt
    have e1 : wlkE d q t = 3 := by unfold wlkE; rw [if_neg hrt]
    have e2 : wlkR d q t = zeroT := by unfold wlkR; rw [e1]; rfl
    rw [e1, e2]
    have HE : Hid (∀ W, Below w.heap.size w W → RVX (fun _ => True) zeroT 3 w (.returned (.tuple #[.agg #[.int .i64 0, .int .i64 0, .string ⟨#[]⟩, .slice none 0 0], .int .i64 3])) W) := fun W hW => rvPost_zero hW
    generalize RVX (fun _ => True) zeroT 3 w = PP at *
    clear e1 e2 hrt hrf hv hkb HKd
    go_enter Tryz.func7, Tryz.ntmps7
    go_upto_region 1 with fail
    rw [← HW0.out]
    clear HW0
    go_wp2_with fail
    refine Calls.mono HRt.out ?_
    rintro e w1 ⟨rfl, hg1⟩
    have hb2 : Below w.heap.size w w1 := hb0.trans (hg1.mono hb0.size)
    have HR1 : Hid (Bx w1 (w.heap.size + 1) zeroT (.slice none 0 0)) := HR.out.keeps hg1
    replace t0 := cell_keeps hg1 t0; replace t1 := cell_keeps hg1 t1; replace t2 := cell_keeps hg1 t2; replace t3 := cell_keeps hg1 t3
    clear hg1 hb0 HR HT HRt
    clear t0 t1 t2 t3
    have HE1 : Hid (PP (.returned (.tuple #[.agg #[.int .i64 0, .int .i64 0, .string ⟨#[]⟩, .slice none 0 0], .int .i64 3])) (w1.setCells (w.heap.size + 1) 0 (encP (zeroT, .slice none 0 0)))) := HE.out _ (below_put hb2 (by omega) _)
    have Hq : Hid (Bx (w1.setCells (w.heap.size + 1) 0 (encP (zeroT, .slice none 0 0))) (w.heap.size + 1) zeroT (.slice none 0 0)) := HR1.out.put (zeroT, .slice none 0 0)
    obtain ⟨z0, z1, z2, z3, g0, g1, g2, g3⟩ := HR1.out
    go_wp2_with fail
    refine bodyPost_ret (v := .tuple #[.agg #[.int .i64 0, .int .i64 0, .string ⟨#[]⟩, .slice none 0 0], .int .i64 3]) ?_ rfl HE1.out
    obtain ⟨q0, q1, q2, q3, _, _, _, _⟩ := Hq.out
    simp only [World.setCells, encP, Nat.zero_add, Nat.reduceAdd] at q0 q1 q2 q3
    simp [results, Tryz.results7, go_sem, q0, q1, q2, q3]

theorem atR_of {t y : VT} {p : List VT} {b : Bool} (h : (b = true ∧ atT t p = some y) ∨ (b = false ∧ atT t p = none ∧ y = zeroT)) : y = atR t p := by
  unfold atR
  rcases h with ⟨_, h⟩ | ⟨_, h, rfl⟩
  · rw [h]; rfl
  · rw [h]; rfl

set_option maxRecDepth 100000 in
set_option maxHeartbeats 8000000 in
theorem rUpd_any (d : Nat) (hd16 : 16 ≤ d) (q : Int) (t : VT) (p : List VT) (v pv : Value) (w : World) (hv : Lies d w t.items v) (hp : Lies (d + 1) w p pv) :
    Calls Tryz.prog 5 #[.agg #[.int .i64 t.kind, .int .i64 t.num, .string t.text, v], pv, .int .i64 q] w (RVX (fun _ => True) (updR d t p q) (updE d t p q) w) := by
  obtain ⟨a, c, rfl, _⟩ := Lies.slice hv
  obtain ⟨pa, pc, rfl, _⟩ := Lies.slice hp
  have HT : Hid (Bx (op2 w t (.slice a t.items.length c)) w.heap.size t (.slice a t.items.length c)) := op2_fst _ _ _
  have HR : Hid (Bx (op2 w t (.slice a t.items.length c)) (w.heap.size + 1) zeroT (.slice none 0 0)) := op2_snd _ _ _
  have hb0 := op2_below w t (.slice a t.items.length c)
  obtain ⟨W0, hW0⟩ : ∃ W0, W0 = op2 w t (.slice a t.items.length c) := ⟨_, rfl⟩
  have HW0 : Hid (W0 = op2 w t (.slice a t.items.length c)) := hW0
  rw [← hW0] at HT HR hb0
  clear hW0
  unfold op2 at HW0
  have HRt : Hid (Calls Tryz.prog 15 #[.agg #[.int .i64 t.kind, .int .i64 t.num, .string t.text, .slice a t.items.length c]] W0 fun e w' => e = .returned (.bool (rightV d t)) ∧ Below W0.heap.size W0 w') := right_any d t _ W0 (Lies.keeps hb0 _ _ _ hv)
  have HKd : Hid (∀ W, Calls Tryz.prog 17 #[.int .i64 q] W fun e w' => e = .returned (.bool (k5B q)) ∧ w' = W) := fun W => rkind5_any q W
  have hkb : k5B q = decide (0 ≤ q ∧ q < 8) := by unfold k5B; congr 1; rw [eq_iff_iff]; omega
  obtain ⟨t0, t1, t2, t3, _, _, _, _⟩ := HT.out
  have HFt : Hid (∀ W, Below w.heap.size w W → Calls Tryz.prog 16 #[.slice pa p.length pc] W fun e w' => e = .returned (.int .i64 (pthE d p)) ∧ Below W.heap.size W w') := fun W hW => rfit_any d p _ W (Lies.keeps hW _ _ _ hp)
  by_cases hrt : rightV d t = true
  · rw [hrt] at HRt
    have hck : chkE d t p = pthE d p := by unfold chkE; rw [if_pos hrt]
    by_cases hpe : pthE d p = 0
    · rw [hpe] at HFt hck
      obtain ⟨_, hl, hle⟩ := chk_zero hck
      have hc := canon hv hrt
      have hcp := canonL26 hp hle
      have hd := Dp.of_lies 16 w t _ hc.1
      have har := atR_right (p := p) hc.2 hd
      by_cases hq : 0 ≤ q ∧ q < 8
      · rw [hkb, decide_eq_true hq] at HKd
        obtain ⟨n, rfl⟩ : ∃ n : Nat, q = (n : Int) := ⟨q.toNat, by omega⟩
        have hn : n < 8 := by omega
        have HAt : Hid (∀ W, Below w.heap.size w W → Calls Tryz.prog 18 #[.agg #[.int .i64 t.kind, .int .i64 t.num, .string t.text, .slice a t.items.length c], .slice pa p.length pc] W (AtP (fun b => b < w.heap.size) t p W)) := fun W hW => rat_any (fun b => b < w.heap.size) t p a c _ W (fun b hb => by have := hW.size; omega) ((LiesX.of_lies hc.1).keeps hW) hc.2 (by have := right_size hc.2; omega) (Lies.keeps hW _ _ _ hcp.1) (fun s hs => (hcp.2 s hs).1) hl
        obtain ⟨hxr, hxd⟩ : rightV 16 (updX t p n) = true ∧ Dp 16 (updX t p n) := done_right _ har.1 har.2
        have hxD : rightV d (updX t p n) = true := by rw [rightV_eq _ hxd hd16]; exact hxr
        have e1 : updE d t p n = putE d t p (updX t p n) := by unfold updE; rw [if_pos hck, if_pos hq]
        have e2 : updR d t p n = putR d t p (updX t p n) := by
          unfold updR
          rw [e1]
          by_cases h0 : putE d t p (updX t p n) = 0
          · rw [if_pos h0]
          · rw [if_neg h0]; unfold putR; rw [if_neg h0]
        rw [e1, e2]
        have HDn5 : Hid (∀ W ao co, w.heap.size + 1 < W.heap.size → LiesX (fun b => b < w.heap.size) 16 W (atR t p).items (.slice ao (atR t p).items.length co) → Calls Tryz.prog 21 #[.int .i64 (n : Int), .agg #[.int .i64 (atR t p).kind, .int .i64 (atR t p).num, .string (atR t p).text, .slice ao (atR t p).items.length co]] W fun e w' => ∃ ax cx, e = .returned (.agg #[.int .i64 (updX t p n).kind, .int .i64 (updX t p n).num, .string (updX t p n).text, .slice ax (updX t p n).items.length cx]) ∧ Hid (LiesX (fun b => b ≠ w.heap.size + 1) 16 w' (updX t p n).items (.slice ax (updX t p n).items.length cx)) ∧ Below W.heap.size W w') := fun W ao co hWs h1 => by
          refine (rdone_any (fun b => b < w.heap.size) n hn (atR t p) _ W h1 har.1).mono ?_
          rintro e w' ⟨u, rfl, h2, h3⟩
          have hxe : doneT n (atR t p) = updX t p n := rfl
          rw [hxe] at h2 ⊢
          obtain ⟨ax, cx, rfl, _⟩ := LiesX.slice h2
          exact ⟨ax, cx, rfl, h2.mono (fun b hb => by rcases hb with hb | hb <;> omega), h3⟩
        have HPt : Hid (∀ W ax cx, Below w.heap.size w W → w.heap.size + 1 < W.heap.size → LiesX (fun b => b ≠ w.heap.size + 1) 16 W (updX t p n).items (.slice ax (updX t p n).items.length cx) → Calls Tryz.prog 20 #[.agg #[.int .i64 t.kind, .int .i64 t.num, .string t.text, .slice a t.items.length c], .slice pa p.length pc, .agg #[.int .i64 (updX t p n).kind, .int .i64 (updX t p n).num, .string (updX t p n).text, .slice ax (updX t p n).items.length cx]] W fun e w' => ∃ k9 n9 tx9 a9 l9 c9 b9, e = .returned (.tuple #[.agg #[.int .i64 k9, .int .i64 n9, .string tx9, .slice a9 l9 c9], .bool b9]) ∧ Hid (Calls Tryz.prog 19 #[.agg #[.int .i64 k9, .int .i64 n9, .string tx9, .slice a9 l9 c9], .bool b9] w' fun e w2 => ∃ a8 c8, e = .returned (.tuple #[.agg #[.int .i64 (putR d t p (updX t p n)).kind, .int .i64 (putR d t p (updX t p n)).num, .string (putR d t p (updX t p n)).text, .slice a8 (putR d t p (updX t p n)).items.length c8], .int .i64 (putE d t p (updX t p n))]) ∧ Hid (LiesX (fun b => b ≠ w.heap.size + 1) 16 w2 (putR d t p (updX t p n)).items (.slice a8 (putR d t p (updX t p n)).items.length c8)) ∧ Below w'.heap.size w' w2) ∧ Below W.heap.size W w') := fun W ax cx hW hWs h1 => by
          refine (rput_all (updX t p n) (by have := right_size hxr; omega) p (fun s hs => (hcp.2 s hs).1) hl (fun b => b ≠ w.heap.size + 1 ∧ b < W.heap.size) t a ax c cx _ W (fun b hb => hb.2) (((LiesX.of_lies hc.1).keeps hW).mono (fun b hb => ⟨by omega, by omega⟩)) hc.2 (((LiesX.of_lies hcp.1).keeps hW).mono (fun b hb => ⟨by omega, by omega⟩)) h1.both).mono ?_
          rintro e w' ⟨z, za, zc, b, rfl, hz1, hz2, hz3, hz4⟩
          refine ⟨_, _, _, _, _, _, _, rfl, ?_, hz4⟩
          have h9 := Calls.mono (rdone26_any _ (16 + p.length) z b za zc w' (fun q hq => hq.2) hz1.both) (fun e w2 h => RVX.mono (Y := fun b => b ≠ w.heap.size + 1) (fun q hq => by
            rcases hq.1 with hq | hq
            · exact hq.1
            · omega) h)
          have hk : dneE (16 + p.length) z b = putE d t p (updX t p n) ∧ dneR (16 + p.length) z b = putR d t p (updX t p n) := by
            rcases hz3 with ⟨rfl, h⟩ | ⟨rfl, h, rfl⟩
            · exact put_same (by omega) hck hxD hc.2 hd (fun s hs => (hcp.2 s hs).1) hxr hxd h (Dp.of_lies _ w' z _ hz1.lies) (by omega)
            · have e9 : putE d t p (updX t p n) = 260 := by unfold putE; rw [if_pos hck, if_pos hxD, h]
              refine ⟨by rw [e9]; rfl, ?_⟩
              unfold putR; rw [e9]; rfl
          rw [hk.1, hk.2] at h9
          refine h9.mono ?_
          rintro e w2 ⟨u, rfl, h5, h6⟩
          obtain ⟨a8, c8, rfl, _⟩ := LiesX.slice h5
          exact ⟨a8, c8, rfl, h5, h6⟩
        have hXP : Hid (∀ y b, ((b = true ∧ atT t p = some y) ∨ (b = false ∧ atT t p = none ∧ y = zeroT)) → y = atR t p) := fun y b h => atR_of h
        generalize putR d t p (updX t p n) = r at *
        generalize putE d t p (updX t p n) = E at *
        generalize updX t p n = x at *
        obtain ⟨PP, hPP⟩ : ∃ PP, RVX (fun _ => True) r E w = PP := ⟨_, rfl⟩
        rw [hPP]
        have HPP : Hid (RVX (fun _ => True) r E w = PP) := hPP
        clear hPP hck hrt hv hp hl hle hc hcp hd har hpe hq hkb hn e1 e2 hxr hxd hxD hd16
        generalize p.length = lp at *
        go_enter Tryz.func5, Tryz.ntmps5
        go_upto_region 1 with fail
        rw [← HW0.out]
        clear HW0
        go_wp2_with fail
        refine Calls.mono HRt.out ?_
        rintro e w1 ⟨rfl, hg1⟩
        have hb2 : Below w.heap.size w w1 := hb0.trans (hg1.mono hb0.size)
        have HR1 : Hid (Bx w1 (w.heap.size + 1) zeroT (.slice none 0 0)) := HR.out.keeps hg1
        replace t0 := cell_keeps hg1 t0; replace t1 := cell_keeps hg1 t1; replace t2 := cell_keeps hg1 t2; replace t3 := cell_keeps hg1 t3
        clear hg1 hb0 HR HT HRt
        go_wp2_with fail
        refine Calls.mono (HFt.out _ hb2) ?_
        rintro e w3 ⟨rfl, hg3⟩
        have hb4 : Below w.heap.size w w3 := hb2.trans (hg3.mono hb2.size)
        have HR3 : Hid (Bx w3 (w.heap.size + 1) zeroT (.slice none 0 0)) := HR1.out.keeps hg3
        replace t0 := cell_keeps hg3 t0; replace t1 := cell_keeps hg3 t1; replace t2 := cell_keeps hg3 t2; replace t3 := cell_keeps hg3 t3
        clear hg3 hb2 HR1 HFt
        go_wp2_with fail
        refine Calls.mono (HKd.out _) ?_
        rintro e wk ⟨rfl, hwk⟩
        subst wk
        clear HKd
        go_wp2_with fail
        refine Calls.mono (HAt.out _ hb4) ?_
        rintro e w5 ⟨o, ao, co, b, rfl, ho1, ho2, ho3, hg5⟩
        obtain rfl := hXP.out o b ho3
        generalize atR t p = o at *
        obtain ⟨V, hV⟩ : ∃ V, V = w5.alloc (.cells #[.int .i64 o.kind, .int .i64 o.num, .string o.text, .slice ao o.items.length co] 24) := ⟨_, rfl⟩
        have hgV : Below w3.heap.size w3 V := by rw [hV]; exact hg5.alloc hg5.size _
        have hgV5 : Below w5.heap.size w5 V := by rw [hV]; exact ((Grew.refl _).alloc _).below
        have hbV : Below w.heap.size w V := hb4.trans (hgV.mono hb4.size)
        have HRV : Hid (Bx V (w.heap.size + 1) zeroT (.slice none 0 0)) := HR3.out.keeps hgV
        have HOb : Hid (Bx V w5.heap.size o (.slice ao o.items.length co)) := by rw [hV]; exact bx_alloc w5 o _
        have HOl : Hid (LiesX (fun b => b < w.heap.size) 16 V o.items (.slice ao o.items.length co)) := ho1.keeps hgV5
        have hn9 : w5.heap.size ≠ w.heap.size + 1 := by
          have h9 : w.heap.size + 1 < w3.heap.size := by simpa using cell_lt HR3.out.c0
          have h8 := hg5.size
          omega
        have HV : Hid (w5.alloc (.cells #[.int .i64 o.kind, .int .i64 o.num, .string o.text, .slice ao o.items.length co] 24) = V) := hV.symm
        replace t0 := cell_keeps hgV t0; replace t1 := cell_keeps hgV t1; replace t2 := cell_keeps hgV t2; replace t3 := cell_keeps hgV t3
        clear hV hgV hgV5 hg5 ho1 ho2 ho3 hb4 HR3 HAt hXP
        obtain ⟨N9, hN9⟩ : ∃ N, N = w5.heap.size := ⟨_, rfl⟩
        have HN9 : Hid (w5.heap.size = N9) := hN9.symm
        rw [← hN9] at HOb hn9
        clear hN9
        have hsV : w.heap.size + 1 < V.heap.size := by have h9 := cell_lt HRV.out.c0; simpa using h9
        have HD5 : Hid (∀ W, Below V.heap.size V W → Calls Tryz.prog 21 #[.int .i64 (n : Int), .agg #[.int .i64 o.kind, .int .i64 o.num, .string o.text, .slice ao o.items.length co]] W fun e w' => ∃ ax cx, e = .returned (.agg #[.int .i64 x.kind, .int .i64 x.num, .string x.text, .slice ax x.items.length cx]) ∧ Hid (LiesX (fun b => b ≠ w.heap.size + 1) 16 w' x.items (.slice ax x.items.length cx)) ∧ Below W.heap.size W w') := fun W hW => HDn5.out W ao co (Nat.lt_of_lt_of_le hsV hW.size) (HOl.out.keeps hW)
        have HP5 : Hid (∀ W ax cx, Below V.heap.size V W → LiesX (fun b => b ≠ w.heap.size + 1) 16 W x.items (.slice ax x.items.length cx) → Calls Tryz.prog 20 #[.agg #[.int .i64 t.kind, .int .i64 t.num, .string t.text, .slice a t.items.length c], .slice pa lp pc, .agg #[.int .i64 x.kind, .int .i64 x.num, .string x.text, .slice ax x.items.length cx]] W fun e w' => ∃ k9 n9 tx9 a9 l9 c9 b9, e = .returned (.tuple #[.agg #[.int .i64 k9, .int .i64 n9, .string tx9, .slice a9 l9 c9], .bool b9]) ∧ Hid (Calls Tryz.prog 19 #[.agg #[.int .i64 k9, .int .i64 n9, .string tx9, .slice a9 l9 c9], .bool b9] w' fun e w2 => ∃ a8 c8, e = .returned (.tuple #[.agg #[.int .i64 r.kind, .int .i64 r.num, .string r.text, .slice a8 r.items.length c8], .int .i64 E]) ∧ Hid (LiesX (fun b => b ≠ w.heap.size + 1) 16 w2 r.items (.slice a8 r.items.length c8)) ∧ Below w'.heap.size w' w2) ∧ Below W.heap.size W w') := fun W ax cx hW h1 => HPt.out W ax cx (hbV.trans (hW.mono hbV.size)) (Nat.lt_of_lt_of_le hsV hW.size) h1
        have HEnd : Hid (∀ W a' c', Below V.heap.size V W → LiesX (fun b => b ≠ w.heap.size + 1) 16 W r.items (.slice a' r.items.length c') → Hid (PP (.returned (.tuple #[.agg #[.int .i64 r.kind, .int .i64 r.num, .string r.text, .slice a' r.items.length c'], .int .i64 E])) (W.setCells (w.heap.size + 1) 0 (encP (r, .slice a' r.items.length c')))) ∧ Hid (Bx W (w.heap.size + 1) zeroT (.slice none 0 0)) ∧ Hid (Bx (W.setCells (w.heap.size + 1) 0 (encP (r, .slice a' r.items.length c'))) (w.heap.size + 1) r (.slice a' r.items.length c'))) := fun W a' c' hW hl => by
          refine ⟨?_, HRV.out.keeps hW, (HRV.out.keeps hW).put (r, _)⟩
          show PP _ _
          rw [← HPP.out]
          exact ⟨_, rfl, (LiesX.set (g := w.heap.size + 1) (fun h => h rfl) hl).mono (fun _ _ => trivial), below_put (hbV.trans (hW.mono hbV.size)) (by omega) _⟩
        obtain ⟨x0, x1, x2, x3, _, _, _, _⟩ := HOb.out
        have hnn : w.heap.size ≠ w.heap.size + 1 := by omega
        clear HDn5 HPt HPP HRV HOb HOl hbV hsV
        generalize r.items.length = lr at *
        go_upto_region 9 with fail
        rw [HV.out, HN9.out]
        clear HV HN9
        go_region_held3 (fun w' => (w'.cell? ⟨w.heap.size, 0, none⟩ = some (.int .i64 t.kind) ∧ w'.cell? ⟨w.heap.size, 1, none⟩ = some (.int .i64 t.num) ∧ w'.cell? ⟨w.heap.size, 2, none⟩ = some (.string t.text) ∧ w'.cell? ⟨w.heap.size, 3, none⟩ = some (.slice a t.items.length c)) ∧ (w'.cell? ⟨N9, 0, none⟩ = some (.int .i64 o.kind) ∧ w'.cell? ⟨N9, 1, none⟩ = some (.int .i64 o.num) ∧ w'.cell? ⟨N9, 2, none⟩ = some (.string o.text) ∧ w'.cell? ⟨N9, 3, none⟩ = some (.slice ao o.items.length co))) (first | (go_keep; done) | (with_reducible exact ⟨⟨set4_k26 hnn t0, set4_k26 hnn t1, set4_k26 hnn t2, set4_k26 hnn t3⟩, set4_k26 hn9 x0, set4_k26 hn9 x1, set4_k26 hn9 x2, set4_k26 hn9 x3⟩))
          (first | (go_at_call 21; (with_reducible refine Calls.mono (HD5.out _ ?_) ?_); (first | exact Below.refl _ _ | exact (Below.refl _ _).drew); rintro e w7 ⟨ax, cx, rfl, HL7, hb7⟩; have hb7 : Below V.heap.size V w7 := (by first | exact hb7 | exact (Below.refl _ _).drew.trans hb7); have t0 := cell_keeps hb7 t0; have t1 := cell_keeps hb7 t1; have t2 := cell_keeps hb7 t2; have t3 := cell_keeps hb7 t3; have x0 := cell_keeps hb7 x0; have x1 := cell_keeps hb7 x1; have x2 := cell_keeps hb7 x2; have x3 := cell_keeps hb7 x3) | (go_at_call 20; (with_reducible refine Calls.mono (HP5.out _ _ _ hb7 HL7.out) ?_); rintro e w8 ⟨k9, n9, tx9, a9, l9, c9, b9, rfl, HD8, hg8⟩; have hb8 : Below V.heap.size V w8 := hb7.trans (hg8.mono hb7.size); have t0 := cell_keeps hg8 t0; have t1 := cell_keeps hg8 t1; have t2 := cell_keeps hg8 t2; have t3 := cell_keeps hg8 t3; have x0 := cell_keeps hg8 x0; have x1 := cell_keeps hg8 x1; have x2 := cell_keeps hg8 x2; have x3 := cell_keeps hg8 x3; clear hg8) | (go_at_call 19; (with_reducible refine Calls.mono HD8.out ?_); rintro e w9 ⟨a8, c8, rfl, HL9, hg9⟩; have hb9 : Below V.heap.size V w9 := hb8.trans (hg9.mono hb8.size); have t0 := cell_keeps hg9 t0; have t1 := cell_keeps hg9 t1; have t2 := cell_keeps hg9 t2; have t3 := cell_keeps hg9 t3; have x0 := cell_keeps hg9 x0; have x1 := cell_keeps hg9 x1; have x2 := cell_keeps hg9 x2; have x3 := cell_keeps hg9 x3; obtain ⟨HP6, HR6, Hq⟩ := HEnd.out w9 a8 c8 hb9 HL9.out; obtain ⟨z0, z1, z2, z3, g0, g1, g2, g3⟩ := HR6.out; clear hg9 hb9))
        all_goals clear t0 t1 t2 t3 x0 x1 x2 x3 HEnd HD5 HP5
        all_goals go_wp2_with fail
        all_goals refine bodyPost_ret (v := .tuple #[.agg #[.int .i64 r.kind, .int .i64 r.num, .string r.text, .slice a8 lr c8], .int .i64 E]) ?_ rfl HP6.out
        all_goals obtain ⟨q0, q1, q2, q3, _, _, _, _⟩ := Hq.out
        all_goals simp only [World.setCells, encP, Nat.zero_add, Nat.reduceAdd] at q0 q1 q2 q3
        all_goals simp [results, Tryz.results5, go_sem, q0, q1, q2, q3]
      · rw [hkb, decide_eq_false hq] at HKd
        have e1 : updE d t p q = 4 := by unfold updE; rw [if_pos hck, if_neg hq]
        have e2 : updR d t p q = zeroT := by unfold updR; rw [e1]; rfl
        rw [e1, e2]
        have HE : Hid (∀ W, Below w.heap.size w W → RVX (fun _ => True) zeroT 4 w (.returned (.tuple #[.agg #[.int .i64 0, .int .i64 0, .string ⟨#[]⟩, .slice none 0 0], .int .i64 4])) W) := fun W hW => rvPost_zero hW
        generalize RVX (fun _ => True) zeroT 4 w = PP at *
        clear e1 e2 hck hrt hv hp hl hle hc hcp hd har hpe hq hkb hd16
        generalize p.length = lp at *
        go_enter Tryz.func5, Tryz.ntmps5
        go_upto_region 1 with fail
        rw [← HW0.out]
        clear HW0
        go_wp2_with fail
        refine Calls.mono HRt.out ?_
        rintro e w1 ⟨rfl, hg1⟩
        have hb2 : Below w.heap.size w w1 := hb0.trans (hg1.mono hb0.size)
        have HR1 : Hid (Bx w1 (w.heap.size + 1) zeroT (.slice none 0 0)) := HR.out.keeps hg1
        replace t0 := cell_keeps hg1 t0; replace t1 := cell_keeps hg1 t1; replace t2 := cell_keeps hg1 t2; replace t3 := cell_keeps hg1 t3
        clear hg1 hb0 HR HT HRt
        go_wp2_with fail
        refine Calls.mono (HFt.out _ hb2) ?_
        rintro e w3 ⟨rfl, hg3⟩
        have hb4 : Below w.heap.size w w3 := hb2.trans (hg3.mono hb2.size)
        have HR3 : Hid (Bx w3 (w.heap.size + 1) zeroT (.slice none 0 0)) := HR1.out.keeps hg3
        replace t0 := cell_keeps hg3 t0; replace t1 := cell_keeps hg3 t1; replace t2 := cell_keeps hg3 t2; replace t3 := cell_keeps hg3 t3
        clear hg3 hb2 HR1 HFt
        go_wp2_with fail
        refine Calls.mono (HKd.out _) ?_
        rintro e wk ⟨rfl, hwk⟩
        subst wk
        clear HKd t0 t1 t2 t3
        have HE1 : Hid (PP (.returned (.tuple #[.agg #[.int .i64 0, .int .i64 0, .string ⟨#[]⟩, .slice none 0 0], .int .i64 4])) (w3.setCells (w.heap.size + 1) 0 (encP (zeroT, .slice none 0 0)))) := HE.out _ (below_put hb4 (by omega) _)
        have Hq : Hid (Bx (w3.setCells (w.heap.size + 1) 0 (encP (zeroT, .slice none 0 0))) (w.heap.size + 1) zeroT (.slice none 0 0)) := HR3.out.put (zeroT, .slice none 0 0)
        obtain ⟨z0, z1, z2, z3, g0, g1, g2, g3⟩ := HR3.out
        go_wp2_with fail
        refine bodyPost_ret (v := .tuple #[.agg #[.int .i64 0, .int .i64 0, .string ⟨#[]⟩, .slice none 0 0], .int .i64 4]) ?_ rfl HE1.out
        obtain ⟨q0, q1, q2, q3, _, _, _, _⟩ := Hq.out
        simp only [World.setCells, encP, Nat.zero_add, Nat.reduceAdd] at q0 q1 q2 q3
        simp [results, Tryz.results5, go_sem, q0, q1, q2, q3]
    · have e1 : updE d t p q = pthE d p := by unfold updE; rw [hck, if_neg hpe]
      have e2 : updR d t p q = zeroT := by unfold updR; rw [e1, if_neg hpe]; rfl
      rw [e1, e2]
      have HE : Hid (∀ W, Below w.heap.size w W → RVX (fun _ => True) zeroT (pthE d p) w (.returned (.tuple #[.agg #[.int .i64 0, .int .i64 0, .string ⟨#[]⟩, .slice none 0 0], .int .i64 (pthE d p)])) W) := fun W hW => rvPost_zero hW
      generalize RVX (fun _ => True) zeroT (pthE d p) w = PP at *
      clear e1 e2 hck hrt hv hp hkb HKd hd16
      generalize pthE d p = E at *
      have hpe' : (E != 0) = true := by simpa using hpe
      go_enter Tryz.func5, Tryz.ntmps5
      go_upto_region 1 with fail
      rw [← HW0.out]
      clear HW0
      go_wp2_with fail
      refine Calls.mono HRt.out ?_
      rintro e w1 ⟨rfl, hg1⟩
      have hb2 : Below w.heap.size w w1 := hb0.trans (hg1.mono hb0.size)
      have HR1 : Hid (Bx w1 (w.heap.size + 1) zeroT (.slice none 0 0)) := HR.out.keeps hg1
      replace t0 := cell_keeps hg1 t0; replace t1 := cell_keeps hg1 t1; replace t2 := cell_keeps hg1 t2; replace t3 := cell_keeps hg1 t3
      clear hg1 hb0 HR HT HRt
      go_wp2_with fail
      refine Calls.mono (HFt.out _ hb2) ?_
      rintro e w3 ⟨rfl, hg3⟩
      have hb4 : Below w.heap.size w w3 := hb2.trans (hg3.mono hb2.size)
      have HR3 : Hid (Bx w3 (w.heap.size + 1) zeroT (.slice none 0 0)) := HR1.out.keeps hg3
      replace t0 := cell_keeps hg3 t0; replace t1 := cell_keeps hg3 t1; replace t2 := cell_keeps hg3 t2; replace t3 := cell_keeps hg3 t3
      clear hg3 hb2 HR1 HFt
      clear t0 t1 t2 t3
      have HE1 : Hid (PP (.returned (.tuple #[.agg #[.int .i64 0, .int .i64 0, .string ⟨#[]⟩, .slice none 0 0], .int .i64 E])) (w3.setCells (w.heap.size + 1) 0 (encP (zeroT, .slice none 0 0)))) := HE.out _ (below_put hb4 (by omega) _)
      have Hq : Hid (Bx (w3.setCells (w.heap.size + 1) 0 (encP (zeroT, .slice none 0 0))) (w.heap.size + 1) zeroT (.slice none 0 0)) := HR3.out.put (zeroT, .slice none 0 0)
      obtain ⟨z0, z1, z2, z3, g0, g1, g2, g3⟩ := HR3.out
      go_wp2_with fail
      refine bodyPost_ret (v := .tuple #[.agg #[.int .i64 0, .int .i64 0, .string ⟨#[]⟩, .slice none 0 0], .int .i64 E]) ?_ rfl HE1.out
      obtain ⟨q0, q1, q2, q3, _, _, _, _⟩ := Hq.out
      simp only [World.setCells, encP, Nat.zero_add, Nat.reduceAdd] at q0 q1 q2 q3
      simp [results, Tryz.results5, go_sem, q0, q1, q2, q3]
  · have hrf : rightV d t = false := by simpa using hrt
    rw [hrf] at HRt
    have e0 : chkE d t p = 3 := by unfold chkE; rw [if_neg hrt]
    have e1 : updE d t p q = 3 := by unfold updE; rw [e0, if_neg (by omega)]
    have e2 : updR d t p q = zeroT := by unfold updR; rw [e1, if_neg (by omega)]; rfl
    rw [e1, e2]
    have HE : Hid (∀ W, Below w.heap.size w W → RVX (fun _ => True) zeroT 3 w (.returned (.tuple #[.agg #[.int .i64 0, .int .i64 0, .string ⟨#[]⟩, .slice none 0 0], .int .i64 3])) W) := fun W hW => rvPost_zero hW
    generalize RVX (fun _ => True) zeroT 3 w = PP at *
    clear e0 e1 e2 hrt hrf hv hp HFt hkb HKd hd16
    go_enter Tryz.func5, Tryz.ntmps5
    go_upto_region 1 with fail
    rw [← HW0.out]
    clear HW0
    go_wp2_with fail
    refine Calls.mono HRt.out ?_
    rintro e w1 ⟨rfl, hg1⟩
    have hb2 : Below w.heap.size w w1 := hb0.trans (hg1.mono hb0.size)
    have HR1 : Hid (Bx w1 (w.heap.size + 1) zeroT (.slice none 0 0)) := HR.out.keeps hg1
    replace t0 := cell_keeps hg1 t0; replace t1 := cell_keeps hg1 t1; replace t2 := cell_keeps hg1 t2; replace t3 := cell_keeps hg1 t3
    clear hg1 hb0 HR HT HRt
    clear t0 t1 t2 t3
    have HE1 : Hid (PP (.returned (.tuple #[.agg #[.int .i64 0, .int .i64 0, .string ⟨#[]⟩, .slice none 0 0], .int .i64 3])) (w1.setCells (w.heap.size + 1) 0 (encP (zeroT, .slice none 0 0)))) := HE.out _ (below_put hb2 (by omega) _)
    have Hq : Hid (Bx (w1.setCells (w.heap.size + 1) 0 (encP (zeroT, .slice none 0 0))) (w.heap.size + 1) zeroT (.slice none 0 0)) := HR1.out.put (zeroT, .slice none 0 0)
    obtain ⟨z0, z1, z2, z3, g0, g1, g2, g3⟩ := HR1.out
    go_wp2_with fail
    refine bodyPost_ret (v := .tuple #[.agg #[.int .i64 0, .int .i64 0, .string ⟨#[]⟩, .slice none 0 0], .int .i64 3]) ?_ rfl HE1.out
    obtain ⟨q0, q1, q2, q3, _, _, _, _⟩ := Hq.out
    simp only [World.setCells, encP, Nat.zero_add, Nat.reduceAdd] at q0 q1 q2 q3
    simp [results, Tryz.results5, go_sem, q0, q1, q2, q3]

end Go.Proofs.YtofceccicmlmoaaGreat

namespace Go.Proofs.YtofceccicmlmoaaGreat
open Go.RowKit Go.Shelf

set_option maxRecDepth 100000 in
set_option maxHeartbeats 8000000 in
theorem updl_core (t x y : VT) (q E F : Int) (a ap : Option Addr) (l c lp cp : Nat) (w : World)
    (H1 : Hid (∀ W, Below w.heap.size w W → Calls Tryz.prog 4 #[.agg #[.int .i64 t.kind, .int .i64 t.num, .string t.text, .slice a l c], .slice ap lp cp, .int .i64 q] W (VPost x E W)))
    (H2 : Hid (∀ W, Below w.heap.size w W → Calls Tryz.prog 5 #[.agg #[.int .i64 t.kind, .int .i64 t.num, .string t.text, .slice a l c], .slice ap lp cp, .int .i64 q] W (RVX (fun _ => True) x E W)))
    (H3 : Hid (∀ W, Below w.heap.size w W → Calls Tryz.prog 6 #[.agg #[.int .i64 t.kind, .int .i64 t.num, .string t.text, .slice a l c], .int .i64 q] W (VPost y F W)))
    (H4 : Hid (∀ W, Below w.heap.size w W → Calls Tryz.prog 7 #[.agg #[.int .i64 t.kind, .int .i64 t.num, .string t.text, .slice a l c], .int .i64 q] W (RVX (fun _ => True) y F W)))
    (HV : Hid (∀ (s : VT) (u v : Value) (W : World), Lies 16 W s.items u → Lies 16 W s.items v → Calls Tryz.prog 8 #[.agg #[.int .i64 s.kind, .int .i64 s.num, .string s.text, u], .agg #[.int .i64 s.kind, .int .i64 s.num, .string s.text, v]] W fun e W' => e = .returned (.bool true) ∧ Below W.heap.size W W')) :
    Calls Tryz.prog 3 #[.agg #[.int .i64 t.kind, .int .i64 t.num, .string t.text, .slice a l c], .slice ap lp cp, .int .i64 q] w fun e w' => e = .returned (.bool true) ∧ Below w.heap.size w w' := by
  have hal : Below w.heap.size w (w.alloc (.cells #[.int .i64 t.kind, .int .i64 t.num, .string t.text, .slice a l c] 24)) := ((Grew.refl w).alloc _).below
  have HX : Hid (Bx (w.alloc (.cells #[.int .i64 t.kind, .int .i64 t.num, .string t.text, .slice a l c] 24)) w.heap.size t (.slice a l c)) := bx_alloc w t _
  have HSp : Hid (∀ W, Calls Tryz.prog 9 #[] W fun e w' => e = .returned (.bool true) ∧ Below W.heap.size W w') := fun W => speaks26 put_all W
  obtain ⟨x0, x1, x2, x3, _, _, _, _⟩ := HX.out
  go_enter Tryz.func3, Tryz.ntmps3
  go_wp2_with fail
  refine Calls.mono (H1.out _ hal) ?_
  rintro e w1 ⟨v1, rfl, hl1, hb⟩
  obtain ⟨a1, c1, rfl, _⟩ := LiesX.slice hl1
  obtain ⟨hb1, hg⟩ := belowB_new hal hb (.cells #[.int .i64 x.kind, .int .i64 x.num, .string x.text, .slice a1 x.items.length c1] 24)
  have HX1 : Hid (Bx (w1.alloc (.cells #[.int .i64 x.kind, .int .i64 x.num, .string x.text, .slice a1 x.items.length c1] 24)) w.heap.size t (.slice a l c)) := HX.out.keeps hg
  have K11 : Hid (KeptB (w1.alloc (.cells #[.int .i64 x.kind, .int .i64 x.num, .string x.text, .slice a1 x.items.length c1] 24)) w1.heap.size x (.slice a1 x.items.length c1)) := keptB_new hl1.lies
  clear hal hb hg HX hl1 H1 x0 x1 x2 x3 
  obtain ⟨N1, hN1⟩ : ∃ N, N = w1.heap.size := ⟨_, rfl⟩
  rw [← hN1] at K11
  have HN1 : Hid (w1.heap.size = N1) := hN1.symm
  clear hN1
  obtain ⟨x0, x1, x2, x3, _, _, _, _⟩ := HX1.out
  go_wp2_with fail
  refine Calls.mono (H2.out _ hb1) ?_
  rintro e w2 ⟨v2, rfl, hl2, hb⟩
  obtain ⟨a2, c2, rfl, _⟩ := LiesX.slice hl2
  obtain ⟨hb2, hg⟩ := belowB_new hb1 hb (.cells #[.int .i64 x.kind, .int .i64 x.num, .string x.text, .slice a2 x.items.length c2] 24)
  have HX2 : Hid (Bx (w2.alloc (.cells #[.int .i64 x.kind, .int .i64 x.num, .string x.text, .slice a2 x.items.length c2] 24)) w.heap.size t (.slice a l c)) := HX1.out.keeps hg
  have K12 : Hid (KeptB (w2.alloc (.cells #[.int .i64 x.kind, .int .i64 x.num, .string x.text, .slice a2 x.items.length c2] 24)) N1 x (.slice a1 x.items.length c1)) := K11.out.keeps hg
  have K22 : Hid (KeptB (w2.alloc (.cells #[.int .i64 x.kind, .int .i64 x.num, .string x.text, .slice a2 x.items.length c2] 24)) w2.heap.size x (.slice a2 x.items.length c2)) := keptB_new hl2.lies
  clear hb1 hb hg HX1 hl2 H2 x0 x1 x2 x3 K11
  obtain ⟨N2, hN2⟩ : ∃ N, N = w2.heap.size := ⟨_, rfl⟩
  rw [← hN2] at K22
  have HN2 : Hid (w2.heap.size = N2) := hN2.symm
  clear hN2
  obtain ⟨x0, x1, x2, x3, _, _, _, _⟩ := HX2.out
  go_wp2_with fail
  refine Calls.mono (H3.out _ hb2) ?_
  rintro e w3 ⟨v3, rfl, hl3, hb⟩
  obtain ⟨a3, c3, rfl, _⟩ := LiesX.slice hl3
  obtain ⟨hb3, hg⟩ := belowB_new hb2 hb (.cells #[.int .i64 y.kind, .int .i64 y.num, .string y.text, .slice a3 y.items.length c3] 24)
  have HX3 : Hid (Bx (w3.alloc (.cells #[.int .i64 y.kind, .int .i64 y.num, .string y.text, .slice a3 y.items.length c3] 24)) w.heap.size t (.slice a l c)) := HX2.out.keeps hg
  have K13 : Hid (KeptB (w3.alloc (.cells #[.int .i64 y.kind, .int .i64 y.num, .string y.text, .slice a3 y.items.length c3] 24)) N1 x (.slice a1 x.items.length c1)) := K12.out.keeps hg
  have K23 : Hid (KeptB (w3.alloc (.cells #[.int .i64 y.kind, .int .i64 y.num, .string y.text, .slice a3 y.items.length c3] 24)) N2 x (.slice a2 x.items.length c2)) := K22.out.keeps hg
  have K33 : Hid (KeptB (w3.alloc (.cells #[.int .i64 y.kind, .int .i64 y.num, .string y.text, .slice a3 y.items.length c3] 24)) w3.heap.size y (.slice a3 y.items.length c3)) := keptB_new hl3.lies
  clear hb2 hb hg HX2 hl3 H3 x0 x1 x2 x3 K12 K22
  obtain ⟨N3, hN3⟩ : ∃ N, N = w3.heap.size := ⟨_, rfl⟩
  rw [← hN3] at K33
  have HN3 : Hid (w3.heap.size = N3) := hN3.symm
  clear hN3
  obtain ⟨x0, x1, x2, x3, _, _, _, _⟩ := HX3.out
  go_wp2_with fail
  refine Calls.mono (H4.out _ hb3) ?_
  rintro e w4 ⟨v4, rfl, hl4, hb⟩
  obtain ⟨a4, c4, rfl, _⟩ := LiesX.slice hl4
  obtain ⟨hb4, hg⟩ := belowB_new hb3 hb (.cells #[.int .i64 y.kind, .int .i64 y.num, .string y.text, .slice a4 y.items.length c4] 24)
  have HX4 : Hid (Bx (w4.alloc (.cells #[.int .i64 y.kind, .int .i64 y.num, .string y.text, .slice a4 y.items.length c4] 24)) w.heap.size t (.slice a l c)) := HX3.out.keeps hg
  have K14 : Hid (KeptB (w4.alloc (.cells #[.int .i64 y.kind, .int .i64 y.num, .string y.text, .slice a4 y.items.length c4] 24)) N1 x (.slice a1 x.items.length c1)) := K13.out.keeps hg
  have K24 : Hid (KeptB (w4.alloc (.cells #[.int .i64 y.kind, .int .i64 y.num, .string y.text, .slice a4 y.items.length c4] 24)) N2 x (.slice a2 x.items.length c2)) := K23.out.keeps hg
  have K34 : Hid (KeptB (w4.alloc (.cells #[.int .i64 y.kind, .int .i64 y.num, .string y.text, .slice a4 y.items.length c4] 24)) N3 y (.slice a3 y.items.length c3)) := K33.out.keeps hg
  have K44 : Hid (KeptB (w4.alloc (.cells #[.int .i64 y.kind, .int .i64 y.num, .string y.text, .slice a4 y.items.length c4] 24)) w4.heap.size y (.slice a4 y.items.length c4)) := keptB_new hl4.lies
  clear hb3 hb hg HX3 hl4 H4 x0 x1 x2 x3 K13 K23 K33
  obtain ⟨N4, hN4⟩ : ∃ N, N = w4.heap.size := ⟨_, rfl⟩
  rw [← hN4] at K44
  have HN4 : Hid (w4.heap.size = N4) := hN4.symm
  clear hN4
  obtain ⟨x0, x1, x2, x3, _, _, _, _⟩ := HX4.out
  clear x0 x1 x2 x3 HX4
  obtain ⟨⟨p0, p1, p2, p3, _, _, _, _⟩, _⟩ := K14.out
  obtain ⟨⟨q0, q1, q2, q3, _, _, _, _⟩, _⟩ := K24.out
  go_upto_region 5 with fail
  simp only [HN1.out, HN2.out, HN3.out, HN4.out]
  go_wp2_with fail
  refine Calls.mono (HV.out x _ _ _ K14.out.lies K24.out.lies) ?_
  rintro e w5 ⟨rfl, hb⟩
  have hb5 : Below w.heap.size w w5 := hb4.trans (hb.mono hb4.size)
  have K35 : Hid (KeptB w5 N3 y (.slice a3 y.items.length c3)) := K34.out.keeps hb
  have K45 : Hid (KeptB w5 N4 y (.slice a4 y.items.length c4)) := K44.out.keeps hb
  clear hb hb4 K14 K24 K34 K44 p0 p1 p2 p3 q0 q1 q2 q3
  obtain ⟨⟨p0, p1, p2, p3, _, _, _, _⟩, _⟩ := K35.out
  obtain ⟨⟨q0, q1, q2, q3, _, _, _, _⟩, _⟩ := K45.out
  go_wp2_with fail
  refine Calls.mono (HV.out y _ _ _ K35.out.lies K45.out.lies) ?_
  rintro e w6 ⟨rfl, hb⟩
  have hb6 : Below w.heap.size w w6 := hb5.trans (hb.mono hb5.size)
  clear hb hb5 K35 K45 p0 p1 p2 p3 q0 q1 q2 q3
  go_wp2_with fail
  refine (HSp.out _).mono ?_
  rintro e w7 ⟨rfl, hb⟩
  have hb7 : Below w.heap.size w w7 := hb6.trans (hb.mono hb6.size)
  clear hb
  go_wp2_with fail
  go_ret
  exact ⟨rfl, hb7⟩

theorem updl_walk (n0 n1 : Nat) (t : VT) (p : List VT) (q : Int) (u pv : Value) (w : World) (L0 : Lies n0 w t.items u) (L1 : Lies (n1 + 1) w p pv) (b0 : t.text.size ≤ 9223372036854775807) :
    Calls Tryz.prog 3 #[.agg #[.int .i64 t.kind, .int .i64 t.num, .string t.text, u], pv, .int .i64 q] w fun e w' => e = .returned (.bool true) ∧ Below w.heap.size w w' := by
  obtain ⟨d, h16, hn0, hn1⟩ : ∃ d, 16 ≤ d ∧ n0 ≤ d ∧ n1 ≤ d := ⟨16 + n0 + n1, by omega, by omega, by omega⟩
  replace L0 := L0.atLeast d hn0
  replace L1 := L1.atLeast (d + 1) (by omega)
  obtain ⟨a, c, rfl, _⟩ := Lies.slice L0
  obtain ⟨ap, cp, rfl, _⟩ := Lies.slice L1
  refine updl_core t (updR d t p q) (wlkR d q t) q (updE d t p q) (wlkE d q t) a ap _ c _ cp w ?_ ?_ ?_ ?_ ?_
  · exact fun W hW => upd_face d h16 q t p _ _ W (Lies.keeps hW _ _ _ L0) b0 (Lies.keeps hW _ _ _ L1)
  · exact fun W hW => rUpd_any d h16 q t p _ _ W (Lies.keeps hW _ _ _ L0) (Lies.keeps hW _ _ _ L1)
  · exact fun W hW => walk_face d q t _ W (Lies.keeps hW _ _ _ L0) b0
  · exact fun W hW => rWalk_any d q t _ W (Lies.keeps hW _ _ _ L0)
  · exact fun s u v W h1 h2 => (same_any 16 s s u v W h1 h2).mono fun e W' h => ⟨by rw [h.1, sameV_self], h.2.below⟩

end Go.Proofs.YtofceccicmlmoaaGreat

