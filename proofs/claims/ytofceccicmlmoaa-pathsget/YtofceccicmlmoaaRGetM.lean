/-
  The document's Get.
-/
import Derived.Test.YtofceccicmlmoaaRAtM
namespace Go.Proofs.Ytofceccicmlmoaa
open Go.RowKit Go.Shelf

/-- What the document's Get tells. -/
def RGPost (r : VT) (b : Bool) (E : Int) (w : World) (e : Ending) (w' : World) : Prop :=
  ∃ u, e = .returned (.tuple #[.agg #[.int .i64 r.kind, .int .i64 r.num, .string r.text, u], .bool b, .int .i64 E]) ∧ Lies 16 w' r.items u ∧ Below w.heap.size w w'

theorem rgPost_zero {w w' : World} {E : Int} (h : Below w.heap.size w w') : RGPost zeroT false E w (.returned (.tuple #[.agg #[.int .i64 0, .int .i64 0, .string ⟨#[]⟩, .slice none 0 0], .bool false, .int .i64 E])) w' := ⟨_, rfl, (liesX_nil (fun _ => True) 16 w' none 0).lies, h⟩

set_option maxRecDepth 100000 in
set_option maxHeartbeats 8000000 in
theorem rGet_any (d : Nat) (t : VT) (p : List VT) (v pv : Value) (w : World) (hv : Lies d w t.items v) (hp : Lies (d + 1) w p pv) :
    Calls Try.prog 9 #[.agg #[.int .i64 t.kind, .int .i64 t.num, .string t.text, v], pv] w (RGPost (getR d t p) (getB d t p) (chkE d t p) w) := by
  obtain ⟨a, c, rfl, _⟩ := Lies.slice hv
  obtain ⟨pa, pc, rfl, _⟩ := Lies.slice hp
  have HT : Hid (Bx (op2 w t (.slice a t.items.length c)) w.heap.size t (.slice a t.items.length c)) := op2_fst _ _ _
  have HR : Hid (Bx (op2 w t (.slice a t.items.length c)) (w.heap.size + 1) zeroT (.slice none 0 0)) := op2_snd _ _ _
  have hb0 := op2_below w t (.slice a t.items.length c)
  obtain ⟨W0, hW0⟩ : ∃ W0, W0 = op2 w t (.slice a t.items.length c) := ⟨_, rfl⟩
  have HW0 : Hid (W0 = op2 w t (.slice a t.items.length c)) := hW0
  rw [← hW0] at HT HR hb0
  clear hW0
  unfold op2 at HW0
  have HRt : Hid (Calls Try.prog 27 #[.agg #[.int .i64 t.kind, .int .i64 t.num, .string t.text, .slice a t.items.length c]] W0 fun e w' => e = .returned (.bool (rightV d t)) ∧ Below W0.heap.size W0 w') := right_any d t _ W0 (Lies.keeps hb0 _ _ _ hv)
  have HFt : Hid (∀ W, Below w.heap.size w W → Calls Try.prog 28 #[.slice pa p.length pc] W fun e w' => e = .returned (.int .i64 (pthE d p)) ∧ Below W.heap.size W w') := fun W hW => rfit_any d p _ W (Lies.keeps hW _ _ _ hp)
  obtain ⟨t0, t1, t2, t3, _, _, _, _⟩ := HT.out
  by_cases hrt : rightV d t = true
  · rw [hrt] at HRt
    have hck : chkE d t p = pthE d p := by unfold chkE; rw [if_pos hrt]
    by_cases hpe : pthE d p = 0
    · rw [hpe] at HFt hck
      obtain ⟨_, hl, hle⟩ := chk_zero hck
      have hc := canon hv hrt
      have hcp := canonL26 hp hle
      have e1 : getR d t p = atR t p := by unfold getR; rw [if_pos hck]
      have e2 : getB d t p = atB t p := by unfold getB; rw [if_pos hck]
      rw [hck, e1, e2]
      have HAt : Hid (∀ W, Below w.heap.size w W → Calls Try.prog 29 #[.agg #[.int .i64 t.kind, .int .i64 t.num, .string t.text, .slice a t.items.length c], .slice pa p.length pc] W (AtP (fun b => b < w.heap.size) t p W)) := fun W hW => rat_any (fun b => b < w.heap.size) t p a c _ W (fun b hb => by have := hW.size; omega) ((LiesX.of_lies hc.1).keeps hW) hc.2 (by have := right_size hc.2; omega) (Lies.keeps hW _ _ _ hcp.1) (fun s hs => (hcp.2 s hs).1) hl
      obtain ⟨PP, hPP⟩ : ∃ PP, RGPost (atR t p) (atB t p) 0 w = PP := ⟨_, rfl⟩
      rw [hPP]
      have HPP : Hid (RGPost (atR t p) (atB t p) 0 w = PP) := hPP
      clear hPP hl hle hc hcp e1 e2 hck hpe hrt hv hp
      go_enter Try.func9, Try.ntmps9
      go_upto_region 1 with fail
      rw [← HW0.out]
      clear HW0
      go_wp2_with fail
      refine Calls.mono HRt.out ?_
      rintro e w1 ⟨rfl, hg1⟩
      have hb2 : Below w.heap.size w w1 := hb0.trans (hg1.mono hb0.size)
      have HR1 : Hid (Bx w1 (w.heap.size + 1) zeroT (.slice none 0 0)) := HR.out.keeps hg1
      replace t0 := cell_keeps hg1 t0; replace t1 := cell_keeps hg1 t1; replace t2 := cell_keeps hg1 t2; replace t3 := cell_keeps hg1 t3
      clear hg1 hb0 HR HT HRt
      go_wp2_with fail
      refine Calls.mono (HFt.out _ hb2) ?_
      rintro e w3 ⟨rfl, hg3⟩
      have hb4 : Below w.heap.size w w3 := hb2.trans (hg3.mono hb2.size)
      have HR3 : Hid (Bx w3 (w.heap.size + 1) zeroT (.slice none 0 0)) := HR1.out.keeps hg3
      replace t0 := cell_keeps hg3 t0; replace t1 := cell_keeps hg3 t1; replace t2 := cell_keeps hg3 t2; replace t3 := cell_keeps hg3 t3
      clear hg3 hb2 HR1 HFt
      go_wp2_with fail
      refine Calls.mono (HAt.out _ hb4) ?_
      rintro e w5 ⟨y, ya, yc, b, rfl, hy1, hy2, hy3, hg5⟩
      have hk : atR t p = y ∧ atB t p = b := by
        rcases hy3 with ⟨rfl, h⟩ | ⟨rfl, h, rfl⟩
        · exact ⟨by unfold atR; rw [h]; rfl, by unfold atB; rw [h]; rfl⟩
        · exact ⟨by unfold atR; rw [h]; rfl, by unfold atB; rw [h]; rfl⟩
      have hb6 : Below w.heap.size w w5 := hb4.trans (hg5.mono hb4.size)
      obtain ⟨V, hV⟩ : ∃ V, V = w5.alloc (.cells #[.int .i64 y.kind, .int .i64 y.num, .string y.text, .slice ya y.items.length yc] 24) := ⟨_, rfl⟩
      have hgV : Below w5.heap.size w5 V := by rw [hV]; exact ((Grew.refl w5).alloc _).below
      have HYb : Hid (Bx V w5.heap.size y (.slice ya y.items.length yc)) := by rw [hV]; exact bx_alloc w5 y _
      have HRV : Hid (Bx V (w.heap.size + 1) zeroT (.slice none 0 0)) := (HR3.out.keeps hg5).keeps hgV
      have hbV : Below w.heap.size w V := hb6.trans (hgV.mono hb6.size)
      have HV : Hid (w5.alloc (.cells #[.int .i64 y.kind, .int .i64 y.num, .string y.text, .slice ya y.items.length yc] 24) = V) := hV.symm
      have HE1 : Hid (PP (.returned (.tuple #[.agg #[.int .i64 y.kind, .int .i64 y.num, .string y.text, .slice ya y.items.length yc], .bool b, .int .i64 0])) (V.setCells (w.heap.size + 1) 0 (encP (y, .slice ya y.items.length yc)))) := by
        show PP _ _
        rw [← HPP.out, hk.1, hk.2]
        exact ⟨_, rfl, (LiesX.set (g := w.heap.size + 1) (by omega) (hy1.keeps hgV)).lies, below_put hbV (by omega) _⟩
      have Hq : Hid (Bx (V.setCells (w.heap.size + 1) 0 (encP (y, .slice ya y.items.length yc))) (w.heap.size + 1) y (.slice ya y.items.length yc)) := HRV.out.put (y, .slice ya y.items.length yc)
      obtain ⟨y0, y1, y2, y3, _, _, _, _⟩ := HYb.out
      obtain ⟨z0, z1, z2, z3, g0, g1, g2, g3⟩ := HRV.out
      clear hk hy1 hy2 hy3 hg5 hb6 hV hgV hbV HPP HR3 hb4 HAt t0 t1 t2 t3 HYb HRV
      go_upto_region 7 with fail
      rw [HV.out]
      clear HV
      generalize y.items.length = ly at *
      go_wp2_with fail
      refine bodyPost_ret (v := .tuple #[.agg #[.int .i64 y.kind, .int .i64 y.num, .string y.text, .slice ya ly yc], .bool b, .int .i64 0]) ?_ rfl HE1.out
      obtain ⟨q0, q1, q2, q3, _, _, _, _⟩ := Hq.out
      simp only [World.setCells, encP, Nat.zero_add, Nat.reduceAdd] at q0 q1 q2 q3
      simp [results, Try.results9, go_sem, q0, q1, q2, q3]
    · have e1 : getR d t p = zeroT := by unfold getR; rw [hck, if_neg hpe]; rfl
      have e2 : getB d t p = false := by unfold getB; rw [hck, if_neg hpe]
      rw [hck, e1, e2]
      have HE : Hid (∀ W, Below w.heap.size w W → RGPost zeroT false (pthE d p) w (.returned (.tuple #[.agg #[.int .i64 0, .int .i64 0, .string ⟨#[]⟩, .slice none 0 0], .bool false, .int .i64 (pthE d p)])) W) := fun W hW => rgPost_zero hW
      generalize RGPost zeroT false (pthE d p) w = PP at *
      clear e1 e2 hck hrt hv hp
      generalize pthE d p = E at *
      have hpe' : (E != 0) = true := by simpa using hpe
      go_enter Try.func9, Try.ntmps9
      go_upto_region 1 with fail
      rw [← HW0.out]
      clear HW0
      go_wp2_with fail
      refine Calls.mono HRt.out ?_
      rintro e w1 ⟨rfl, hg1⟩
      have hb2 : Below w.heap.size w w1 := hb0.trans (hg1.mono hb0.size)
      have HR1 : Hid (Bx w1 (w.heap.size + 1) zeroT (.slice none 0 0)) := HR.out.keeps hg1
      replace t0 := cell_keeps hg1 t0; replace t1 := cell_keeps hg1 t1; replace t2 := cell_keeps hg1 t2; replace t3 := cell_keeps hg1 t3
      clear hg1 hb0 HR HT HRt
      go_wp2_with fail
      refine Calls.mono (HFt.out _ hb2) ?_
      rintro e w3 ⟨rfl, hg3⟩
      have hb4 : Below w.heap.size w w3 := hb2.trans (hg3.mono hb2.size)
      have HR3 : Hid (Bx w3 (w.heap.size + 1) zeroT (.slice none 0 0)) := HR1.out.keeps hg3
      replace t0 := cell_keeps hg3 t0; replace t1 := cell_keeps hg3 t1; replace t2 := cell_keeps hg3 t2; replace t3 := cell_keeps hg3 t3
      clear hg3 hb2 HR1 HFt
      clear t0 t1 t2 t3
      have HE1 : Hid (PP (.returned (.tuple #[.agg #[.int .i64 0, .int .i64 0, .string ⟨#[]⟩, .slice none 0 0], .bool false, .int .i64 E])) (w3.setCells (w.heap.size + 1) 0 (encP (zeroT, .slice none 0 0)))) := HE.out _ (below_put hb4 (by omega) _)
      have Hq : Hid (Bx (w3.setCells (w.heap.size + 1) 0 (encP (zeroT, .slice none 0 0))) (w.heap.size + 1) zeroT (.slice none 0 0)) := HR3.out.put (zeroT, .slice none 0 0)
      obtain ⟨z0, z1, z2, z3, g0, g1, g2, g3⟩ := HR3.out
      go_wp2_with fail
      refine bodyPost_ret (v := .tuple #[.agg #[.int .i64 0, .int .i64 0, .string ⟨#[]⟩, .slice none 0 0], .bool false, .int .i64 E]) ?_ rfl HE1.out
      obtain ⟨q0, q1, q2, q3, _, _, _, _⟩ := Hq.out
      simp only [World.setCells, encP, Nat.zero_add, Nat.reduceAdd] at q0 q1 q2 q3
      simp [results, Try.results9, go_sem, q0, q1, q2, q3]
  · have hrf : rightV d t = false := by simpa using hrt
    rw [hrf] at HRt
    have e0 : chkE d t p = 3 := by unfold chkE; rw [if_neg hrt]
    have e1 : getR d t p = zeroT := by unfold getR; rw [if_neg (by omega)]; rfl
    have e2 : getB d t p = false := by unfold getB; rw [if_neg (by omega)]
    rw [e0, e1, e2]
    have HE : Hid (∀ W, Below w.heap.size w W → RGPost zeroT false 3 w (.returned (.tuple #[.agg #[.int .i64 0, .int .i64 0, .string ⟨#[]⟩, .slice none 0 0], .bool false, .int .i64 3])) W) := fun W hW => rgPost_zero hW
    generalize RGPost zeroT false 3 w = PP at *
    clear e0 e1 e2 hrt hrf hv hp HFt
    go_enter Try.func9, Try.ntmps9
    go_upto_region 1 with fail
    rw [← HW0.out]
    clear HW0
    go_wp2_with fail
    refine Calls.mono HRt.out ?_
    rintro e w1 ⟨rfl, hg1⟩
    have hb2 : Below w.heap.size w w1 := hb0.trans (hg1.mono hb0.size)
    have HR1 : Hid (Bx w1 (w.heap.size + 1) zeroT (.slice none 0 0)) := HR.out.keeps hg1
    replace t0 := cell_keeps hg1 t0; replace t1 := cell_keeps hg1 t1; replace t2 := cell_keeps hg1 t2; replace t3 := cell_keeps hg1 t3
    clear hg1 hb0 HR HT HRt
    clear t0 t1 t2 t3
    have HE1 : Hid (PP (.returned (.tuple #[.agg #[.int .i64 0, .int .i64 0, .string ⟨#[]⟩, .slice none 0 0], .bool false, .int .i64 3])) (w1.setCells (w.heap.size + 1) 0 (encP (zeroT, .slice none 0 0)))) := HE.out _ (below_put hb2 (by omega) _)
    have Hq : Hid (Bx (w1.setCells (w.heap.size + 1) 0 (encP (zeroT, .slice none 0 0))) (w.heap.size + 1) zeroT (.slice none 0 0)) := HR1.out.put (zeroT, .slice none 0 0)
    obtain ⟨z0, z1, z2, z3, g0, g1, g2, g3⟩ := HR1.out
    go_wp2_with fail
    refine bodyPost_ret (v := .tuple #[.agg #[.int .i64 0, .int .i64 0, .string ⟨#[]⟩, .slice none 0 0], .bool false, .int .i64 3]) ?_ rfl HE1.out
    obtain ⟨q0, q1, q2, q3, _, _, _, _⟩ := Hq.out
    simp only [World.setCells, encP, Nat.zero_add, Nat.reduceAdd] at q0 q1 q2 q3
    simp [results, Try.results9, go_sem, q0, q1, q2, q3]

end Go.Proofs.Ytofceccicmlmoaa

