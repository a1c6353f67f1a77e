/-
  Put.
-/
import Derived.Test.YtmbolemcpobbgaaPutM
import Derived.Test.YtmbolemcpobbgaaList
import Derived.Test.YtmbolemcpobbgaaTimes2
namespace Go.Proofs.Ytmbolemcpobbgaa
open Go.RowKit Go.Shelf

def pthE (d : Nat) (p : List VT) : Int := if 16 < p.length then 2 else listErr d p
def chkE (d : Nat) (t : VT) (p : List VT) : Int := if rightV d t = true then pthE d p else 3

set_option maxHeartbeats 4000000 in
theorem checkPath_any (d : Nat) (p : List VT) (v : Value) (w : World) (hv : Lies (d + 1) w p v) :
    Calls Try.prog 46 #[v] w fun e w' => e = .returned (.int .i64 (pthE d p)) ∧ Below w.heap.size w w' := by
  obtain ⟨a, c, rfl, _⟩ := Lies.slice hv
  have HC : Hid (Calls Try.prog 67 #[.slice a p.length c, .func (.func 23) #[] #[]] w fun e w' => e = .returned (.int .i64 (listErr d p)) ∧ Below w.heap.size w w') := checkAll_any d p _ w hv
  clear hv
  by_cases hl : 16 < p.length
  · have he : pthE d p = 2 := by unfold pthE; rw [if_pos hl]
    rw [he]
    have hli : (16 : Int) < (p.length : Int) := by omega
    clear he hl
    generalize p.length = lp at *
    go_enter Try.func46, Try.ntmps46
    go_wp2_with fail
    go_ret
    exact ⟨rfl, Below.refl _ _⟩
  · have he : pthE d p = listErr d p := by unfold pthE; rw [if_neg hl]
    rw [he]
    have hli : ¬ (16 : Int) < (p.length : Int) := by omega
    clear he hl
    generalize listErr d p = E at *
    generalize p.length = lp at *
    go_enter Try.func46, Try.ntmps46
    go_wp2_with fail
    refine Calls.mono HC.out ?_
    rintro e w1 ⟨rfl, hb⟩
    go_wp2_with fail
    go_ret
    exact ⟨rfl, hb⟩

set_option maxHeartbeats 4000000 in
theorem check26_any (d : Nat) (t : VT) (p : List VT) (v pv : Value) (w : World) (hv : Lies d w t.items v) (hs : t.text.size ≤ 9223372036854775807) (hp : Lies (d + 1) w p pv) :
    Calls Try.prog 24 #[.agg #[.int .i64 t.kind, .int .i64 t.num, .string t.text, v], pv] w fun e w' => e = .returned (.int .i64 (chkE d t p)) ∧ Below w.heap.size w w' := by
  obtain ⟨a, c, rfl, _⟩ := Lies.slice hv
  obtain ⟨pa, pc, rfl, _⟩ := Lies.slice hp
  have HC : Hid (∀ W, Below w.heap.size w W → Calls Try.prog 23 #[.agg #[.int .i64 t.kind, .int .i64 t.num, .string t.text, .slice a t.items.length c]] W fun e w' => e = .returned (.int .i64 (errOf (rightV d t))) ∧ Below W.heap.size W w') := fun W hW => check_any d t _ W (Lies.keeps hW _ _ _ hv) hs
  have HP : Hid (∀ W, Below w.heap.size w W → Calls Try.prog 46 #[.slice pa p.length pc] W fun e w' => e = .returned (.int .i64 (pthE d p)) ∧ Below W.heap.size W w') := fun W hW => checkPath_any d p _ W (Lies.keeps hW _ _ _ hp)
  have hal : Below w.heap.size w (w.alloc (.cells #[.int .i64 t.kind, .int .i64 t.num, .string t.text, .slice a t.items.length c] 24)) := ((Grew.refl w).alloc _).below
  clear hv hp hs
  cases hr : rightV d t
  · have he : chkE d t p = 3 := by unfold chkE; rw [hr]; rfl
    have he2 : errOf (rightV d t) = 3 := by rw [hr]; rfl
    rw [he]
    rw [hr] at HC
    rw [hr] at he2
    rw [he2] at HC
    clear he he2 hr
    generalize t.items.length = lt at *
    generalize p.length = lp at *
    go_enter Try.func24, Try.ntmps24
    go_wp2_with fail
    refine Calls.mono (HC.out _ hal) ?_
    rintro e w1 ⟨rfl, hb⟩
    have hb1 : Below w.heap.size w w1 := hal.trans (hb.mono hal.size)
    go_wp2_with fail
    go_ret
    exact ⟨rfl, hb1⟩
  · have he : chkE d t p = pthE d p := by unfold chkE; rw [hr]; rfl
    rw [he]
    rw [hr] at HC
    have he2 : errOf true = 0 := rfl
    rw [he2] at HC
    clear he he2 hr
    generalize pthE d p = E at *
    generalize t.items.length = lt at *
    generalize p.length = lp at *
    go_enter Try.func24, Try.ntmps24
    go_wp2_with fail
    refine Calls.mono (HC.out _ hal) ?_
    rintro e w1 ⟨rfl, hb⟩
    have hb1 : Below w.heap.size w w1 := hal.trans (hb.mono hal.size)
    clear hb hal HC
    go_wp2_with fail
    refine Calls.mono (HP.out _ hb1) ?_
    rintro e w2 ⟨rfl, hb2⟩
    have hb3 : Below w.heap.size w w2 := hb1.trans (hb2.mono hb1.size)
    go_wp2_with fail
    go_ret
    exact ⟨rfl, hb3⟩

/-- What stands when a value is told: the value, or nothing and an error. -/
def FtPost (X : Nat → Prop) (D : Nat) (r : VT) (E : Int) (w : World) (e : Ending) (w' : World) : Prop :=
  ∃ a c, e = .returned (.tuple #[.agg #[.int .i64 r.kind, .int .i64 r.num, .string r.text, .slice a r.items.length c], .int .i64 E]) ∧ LiesX X D w' r.items (.slice a r.items.length c) ∧ Below w.heap.size w w'

set_option maxRecDepth 100000 in
set_option maxHeartbeats 4000000 in
theorem fitting_err (X : Nat → Prop) (D : Nat) (k n : Int) (tx : ByteArray) (a : Option Addr) (l c : Nat) (E : Int) (hE : ¬ E = 0) (w : World) :
    Calls Try.prog 47 #[.agg #[.int .i64 k, .int .i64 n, .string tx, .slice a l c], .int .i64 E] w (FtPost X D nilT E w) := by
  obtain ⟨t, ht⟩ : ∃ t : VT, t = ⟨k, n, tx, []⟩ := ⟨_, rfl⟩
  have HR : Hid (Bx (at2 w t (.slice a l c)) (w.heap.size + 1) zeroT (.slice none 0 0)) := at2_snd _ _ _
  have hb0 := at2_below w t (.slice a l c)
  obtain ⟨W0, hW0⟩ : ∃ W0, W0 = at2 w t (.slice a l c) := ⟨_, rfl⟩
  have HW0 : Hid (W0 = at2 w t (.slice a l c)) := hW0
  rw [← hW0] at HR hb0
  clear hW0
  unfold at2 at HW0
  rw [ht] at HW0
  simp only at HW0
  have HE : Hid (FtPost X D nilT E w (.returned (.tuple #[.agg #[.int .i64 0, .int .i64 0, .string ⟨#[]⟩, .slice none 0 0], .int .i64 E])) (W0.setCells (w.heap.size + 1) 0 (encP (zeroT, .slice none 0 0)))) := ⟨none, 0, rfl, liesX_nil _ _ _ _ _, below_put hb0 (by omega) _⟩
  have Hq : Hid (Bx (W0.setCells (w.heap.size + 1) 0 (encP (zeroT, .slice none 0 0))) (w.heap.size + 1) zeroT (.slice none 0 0)) := HR.out.put (zeroT, .slice none 0 0)
  obtain ⟨z0, z1, z2, z3, g0, g1, g2, g3⟩ := HR.out
  clear hb0 HR ht
  generalize FtPost X D nilT E w = PP at *
  go_enter Try.func47, Try.ntmps47
  go_upto_region 1 with fail
  rw [← HW0.out]
  clear HW0
  go_wp2_with fail
  refine bodyPost_ret (v := .tuple #[.agg #[.int .i64 0, .int .i64 0, .string ⟨#[]⟩, .slice none 0 0], .int .i64 E]) ?_ rfl HE.out
  obtain ⟨q0, q1, q2, q3, _, _, _, _⟩ := Hq.out
  simp only [World.setCells, encP, Nat.zero_add, Nat.reduceAdd] at q0 q1 q2 q3
  simp [results, Try.results47, go_sem, q0, q1, q2, q3]

def fitR (D : Nat) (z : VT) : VT := if (fw D z 16 1024).1 = true then z else nilT
def fitE (D : Nat) (z : VT) : Int := if (fw D z 16 1024).1 = true then 0 else 2

set_option maxRecDepth 100000 in
set_option maxHeartbeats 4000000 in
theorem fitting_any (X : Nat → Prop) (D : Nat) (z : VT) (a : Option Addr) (c : Nat) (w : World) (h : LiesX X D w z.items (.slice a z.items.length c)) (hX : ∀ b, X b → b < w.heap.size) :
    Calls Try.prog 47 #[.agg #[.int .i64 z.kind, .int .i64 z.num, .string z.text, .slice a z.items.length c], .int .i64 0] w (FtPost X D (fitR D z) (fitE D z) w) := by
  have HT : Hid (Bx (at2 w z (.slice a z.items.length c)) w.heap.size z (.slice a z.items.length c)) := at2_fst _ _ _
  have HR : Hid (Bx (at2 w z (.slice a z.items.length c)) (w.heap.size + 1) zeroT (.slice none 0 0)) := at2_snd _ _ _
  have hb0 := at2_below w z (.slice a z.items.length c)
  obtain ⟨W0, hW0⟩ : ∃ W0, W0 = at2 w z (.slice a z.items.length c) := ⟨_, rfl⟩
  have HW0 : Hid (W0 = at2 w z (.slice a z.items.length c)) := hW0
  rw [← hW0] at HT HR hb0
  clear hW0
  unfold at2 at HW0
  have HF : Hid (Calls Try.prog 48 #[.agg #[.int .i64 z.kind, .int .i64 z.num, .string z.text, .slice a z.items.length c]] W0 fun e w' => e = .returned (.bool (fw D z 16 1024).1) ∧ Below W0.heap.size W0 w') := fits_any D z _ W0 (h.keeps hb0).lies
  obtain ⟨t0, t1, t2, t3, _, _, _, _⟩ := HT.out
  cases hf : (fw D z 16 1024).1
  · have e1 : fitR D z = nilT := by unfold fitR; rw [hf]; rfl
    have e2 : fitE D z = 2 := by unfold fitE; rw [hf]; rfl
    rw [e1, e2]
    rw [hf] at HF
    have HE : Hid (∀ W, Below w.heap.size w W → FtPost X D nilT 2 w (.returned (.tuple #[.agg #[.int .i64 0, .int .i64 0, .string ⟨#[]⟩, .slice none 0 0], .int .i64 2])) W) := fun W hW => ⟨none, 0, rfl, liesX_nil _ _ _ _ _, hW⟩
    generalize FtPost X D nilT 2 w = PP at *
    clear e1 e2 hf h hX
    generalize z.items.length = lz at *
    go_enter Try.func47, Try.ntmps47
    go_upto_region 1 with fail
    rw [← HW0.out]
    clear HW0
    go_wp2_with fail
    refine Calls.mono HF.out ?_
    rintro e w1 ⟨rfl, hb1⟩
    have hb2 : Below w.heap.size w w1 := hb0.trans (hb1.mono hb0.size)
    have HR1 : Hid (Bx w1 (w.heap.size + 1) zeroT (.slice none 0 0)) := HR.out.keeps hb1
    have HE1 : Hid (PP (.returned (.tuple #[.agg #[.int .i64 0, .int .i64 0, .string ⟨#[]⟩, .slice none 0 0], .int .i64 2])) (w1.setCells (w.heap.size + 1) 0 (encP (zeroT, .slice none 0 0)))) := HE.out _ (below_put hb2 (by omega) _)
    have Hq : Hid (Bx (w1.setCells (w.heap.size + 1) 0 (encP (zeroT, .slice none 0 0))) (w.heap.size + 1) zeroT (.slice none 0 0)) := HR1.out.put (zeroT, .slice none 0 0)
    obtain ⟨z0, z1, z2, z3, g0, g1, g2, g3⟩ := HR1.out
    clear hb1 hb0 hb2 HF HT HR HR1 HE t0 t1 t2 t3
    go_wp2_with fail
    refine bodyPost_ret (v := .tuple #[.agg #[.int .i64 0, .int .i64 0, .string ⟨#[]⟩, .slice none 0 0], .int .i64 2]) ?_ rfl HE1.out
    obtain ⟨q0, q1, q2, q3, _, _, _, _⟩ := Hq.out
    simp only [World.setCells, encP, Nat.zero_add, Nat.reduceAdd] at q0 q1 q2 q3
    simp [results, Try.results47, go_sem, q0, q1, q2, q3]
  · have e1 : fitR D z = z := by unfold fitR; rw [hf]; rfl
    have e2 : fitE D z = 0 := by unfold fitE; rw [hf]; rfl
    rw [e1, e2]
    rw [hf] at HF
    have HE : Hid (∀ W, Below w.heap.size w W → FtPost X D z 0 w (.returned (.tuple #[.agg #[.int .i64 z.kind, .int .i64 z.num, .string z.text, .slice a z.items.length c], .int .i64 0])) (W.setCells (w.heap.size + 1) 0 (encP (z, .slice a z.items.length c)))) := fun W hW => ⟨a, c, rfl, LiesX.set (g := w.heap.size + 1) (fun hx => by have := hX _ hx; omega) (h.keeps hW), below_put hW (by omega) _⟩
    generalize FtPost X D z 0 w = PP at *
    clear e1 e2 hf h hX
    generalize z.items.length = lz at *
    go_enter Try.func47, Try.ntmps47
    go_upto_region 1 with fail
    rw [← HW0.out]
    clear HW0
    go_wp2_with fail
    refine Calls.mono HF.out ?_
    rintro e w1 ⟨rfl, hb1⟩
    have hb2 : Below w.heap.size w w1 := hb0.trans (hb1.mono hb0.size)
    have HR1 : Hid (Bx w1 (w.heap.size + 1) zeroT (.slice none 0 0)) := HR.out.keeps hb1
    replace t0 := cell_keeps hb1 t0; replace t1 := cell_keeps hb1 t1; replace t2 := cell_keeps hb1 t2; replace t3 := cell_keeps hb1 t3
    have HE1 : Hid (PP (.returned (.tuple #[.agg #[.int .i64 z.kind, .int .i64 z.num, .string z.text, .slice a lz c], .int .i64 0])) (w1.setCells (w.heap.size + 1) 0 (encP (z, .slice a lz c)))) := HE.out _ hb2
    have Hq : Hid (Bx (w1.setCells (w.heap.size + 1) 0 (encP (z, .slice a lz c))) (w.heap.size + 1) z (.slice a lz c)) := HR1.out.put (z, .slice a lz c)
    obtain ⟨z0, z1, z2, z3, g0, g1, g2, g3⟩ := HR1.out
    clear hb1 hb0 hb2 HF HT HR HR1 HE
    go_wp2_with fail
    refine bodyPost_ret (v := .tuple #[.agg #[.int .i64 z.kind, .int .i64 z.num, .string z.text, .slice a lz c], .int .i64 0]) ?_ rfl HE1.out
    obtain ⟨q0, q1, q2, q3, _, _, _, _⟩ := Hq.out
    simp only [World.setCells, encP, Nat.zero_add, Nat.reduceAdd] at q0 q1 q2 q3
    simp [results, Try.results47, go_sem, q0, q1, q2, q3]

set_option maxRecDepth 100000 in
set_option maxHeartbeats 4000000 in
/-- told, of whatever fitting answers. -/
theorem told_core (X : Nat → Prop) (D : Nat) (r : VT) (E E0 : Int) (k n : Int) (tx : ByteArray) (a : Option Addr) (l c : Nat) (w : World) (hX : ∀ b, X b → b < w.heap.size) (hr : rightV 16 r = true) (hd : Dp 16 r)
    (hf : ∀ W, Below w.heap.size w W → Calls Try.prog 47 #[.agg #[.int .i64 k, .int .i64 n, .string tx, .slice a l c], .int .i64 E0] W (FtPost X D r E W)) :
    Calls Try.prog 30 #[.agg #[.int .i64 k, .int .i64 n, .string tx, .slice a l c], .int .i64 E0] w (VPost r E w) := by
  have HT : Hid (Bx (at2 w ⟨k, n, tx, []⟩ (.slice a l c)) w.heap.size ⟨k, n, tx, []⟩ (.slice a l c)) := at2_fst _ _ _
  have HR : Hid (Bx (at2 w ⟨k, n, tx, []⟩ (.slice a l c)) (w.heap.size + 1) zeroT (.slice none 0 0)) := at2_snd _ _ _
  have hb0 := at2_below w ⟨k, n, tx, []⟩ (.slice a l c)
  obtain ⟨W0, hW0⟩ : ∃ W0, W0 = at2 w ⟨k, n, tx, []⟩ (.slice a l c) := ⟨_, rfl⟩
  have HW0 : Hid (W0 = at2 w ⟨k, n, tx, []⟩ (.slice a l c)) := hW0
  rw [← hW0] at HT HR hb0
  clear hW0
  unfold at2 at HW0
  simp only at HW0
  have HF : Hid (Calls Try.prog 47 #[.agg #[.int .i64 k, .int .i64 n, .string tx, .slice a l c], .int .i64 E0] W0 (FtPost X D r E W0)) := hf W0 hb0
  have HXX : Hid (∀ b, X b → b < w.heap.size) := hX
  have HRr : Hid (rightV 16 r = true ∧ Dp 16 r) := ⟨hr, hd⟩
  obtain ⟨t0, t1, t2, t3, f0, f1, f2, f3⟩ := HT.out
  simp only at t0 t1 t2
  clear hf hX hr hd
  generalize hP : VPost r E w = PP
  have HP : Hid (VPost r E w = PP) := hP
  clear hP
  go_enter Try.func30, Try.ntmps30
  go_upto_region 1 with fail
  rw [← HW0.out]
  clear HW0
  go_wp2_with fail
  refine Calls.mono HF.out ?_
  rintro e w1 ⟨a1, c1, rfl, hl1, hb1⟩
  have hb2 : Below w.heap.size w w1 := hb0.trans (hb1.mono hb0.size)
  have HR1 : Hid (Bx w1 (w.heap.size + 1) zeroT (.slice none 0 0)) := HR.out.keeps hb1
  have HT1 : Hid (Bx w1 w.heap.size ⟨k, n, tx, []⟩ (.slice a l c)) := HT.out.keeps hb1
  obtain ⟨w2, hw2⟩ : ∃ w2, w2 = w1.setCells w.heap.size 0 (encP (r, .slice a1 r.items.length c1)) := ⟨_, rfl⟩
  have Hw2 : Hid (w2 = w1.setCells w.heap.size 0 (encP (r, .slice a1 r.items.length c1))) := hw2
  have HT2 : Hid (Bx w2 w.heap.size r (.slice a1 r.items.length c1)) := by rw [hw2]; exact HT1.out.put _
  have HR2 : Hid (Bx w2 (w.heap.size + 1) zeroT (.slice none 0 0)) := by rw [hw2]; exact HR1.out.other (by omega) _
  have hb3 : Below w.heap.size w w2 := by rw [hw2]; exact below_put hb2 (Nat.le_refl _) _
  have HC : Hid (Calls Try.prog 26 #[.agg #[.int .i64 r.kind, .int .i64 r.num, .string r.text, .slice a1 r.items.length c1]] w2 (CopyPost 16 r w2)) := by
    refine copy_right r _ w2 ?_ HRr.out.1
    rw [hw2]
    exact (LiesX.to (t := r) (LiesX.set (g := w.heap.size) (fun hx => by have := HXX.out _ hx; omega) hl1) HRr.out.2).lies
  obtain ⟨y0, y1, y2, y3, g0, g1, g2, g3⟩ := HT1.out
  simp only at y0 y1 y2
  clear hb1 hb0 hb2 hl1 HF HT HR HR1 HT1 t0 t1 t2 t3 f0 f1 f2 f3 hw2
  generalize r.items.length = lr at *
  go_upto_region 2 with fail
  simp only [World.setCells, encP, Nat.zero_add, Nat.reduceAdd] at Hw2
  rw [← Hw2.out]
  clear Hw2 y0 y1 y2 y3 g0 g1 g2 g3
  obtain ⟨t0, t1, t2, t3, f0, f1, f2, f3⟩ := HT2.out
  go_wp2_with fail
  refine Calls.mono HC.out ?_
  rintro e w4 ⟨v4, rfl, hl4, hb4⟩
  have hb5 : Below w.heap.size w w4 := hb3.trans (hb4.mono hb3.size)
  obtain ⟨a4, c4, rfl, _⟩ := LiesB.slice hl4
  have HR4 : Hid (Bx w4 (w.heap.size + 1) zeroT (.slice none 0 0)) := HR2.out.keeps hb4
  have hsz : w.heap.size + 1 < w2.heap.size := by have := cell_lt HR2.out.c0; simpa using this
  have HE1 : Hid (PP (.returned (.tuple #[.agg #[.int .i64 r.kind, .int .i64 r.num, .string r.text, .slice a4 r.items.length c4], .int .i64 E])) (w4.setCells (w.heap.size + 1) 0 (encP (r, .slice a4 r.items.length c4)))) := by
    show PP _ _
    rw [← HP.out]
    exact ⟨_, rfl, LiesX.mono (fun b hb => by omega) (LiesX.set (g := w.heap.size + 1) (by omega) (LiesX.of_b hl4)), below_put hb5 (by omega) _⟩
  have Hq : Hid (Bx (w4.setCells (w.heap.size + 1) 0 (encP (r, .slice a4 r.items.length c4))) (w.heap.size + 1) r (.slice a4 r.items.length c4)) := HR4.out.put (r, .slice a4 r.items.length c4)
  obtain ⟨z0, z1, z2, z3, g0, g1, g2, g3⟩ := HR4.out
  clear hl4 hb4 hb5 hb3 HR4 HR2 HT2 HC HP t0 t1 t2 t3 f0 f1 f2 f3 hsz
  generalize r.items.length = lr at *
  go_wp2_with fail
  refine bodyPost_ret (v := .tuple #[.agg #[.int .i64 r.kind, .int .i64 r.num, .string r.text, .slice a4 lr c4], .int .i64 E]) ?_ rfl HE1.out
  obtain ⟨q0, q1, q2, q3, _, _, _, _⟩ := Hq.out
  simp only [World.setCells, encP, Nat.zero_add, Nat.reduceAdd] at q0 q1 q2 q3
  simp [results, Try.results30, go_sem, q0, q1, q2, q3]

end Go.Proofs.Ytmbolemcpobbgaa

namespace Go.Proofs.Ytmbolemcpobbgaa
open Go.RowKit Go.Shelf

/-- A list of right values, by the depth 17. -/
theorem canonL26 {w : World} {n : Nat} {l : List VT} {u : Value} (h : Lies (n + 1) w l u) (hr : listErr n l = 0) : Lies 17 w l u ∧ ∀ x ∈ l, rightV 16 x = true ∧ Dp 16 x := by
  have hr2 := (listErr_zero hr).2
  obtain ⟨a, c, hv, hb, hrow⟩ := h
  have hx : ∀ x ∈ l, rightV 16 x = true ∧ Dp 16 x := by
    intro x hx
    obtain ⟨b, o, _, hall⟩ := hrow (fun e => by rw [e] at hx; cases hx)
    obtain ⟨i, hi, rfl⟩ := List.getElem_of_mem hx
    obtain ⟨v, _, _, _, _, hl, _⟩ := hall i hi
    have hc := canon hl (hr2 _ hx)
    exact ⟨hc.2, Dp.of_lies 16 w _ v hc.1⟩
  refine ⟨⟨a, c, hv, hb, fun hne => ?_⟩, hx⟩
  obtain ⟨b, o, ha, hall⟩ := hrow hne
  refine ⟨b, o, ha, fun i hi => ?_⟩
  obtain ⟨v, h0, h1, h2, h3, h4, h5⟩ := hall i hi
  exact ⟨v, h0, h1, h2, h3, (canon h4 (hr2 _ (List.getElem_mem hi))).1, h5⟩

theorem chk_zero {d : Nat} {t : VT} {p : List VT} (h : chkE d t p = 0) : rightV d t = true ∧ p.length ≤ 16 ∧ listErr d p = 0 := by
  unfold chkE at h
  by_cases hr : rightV d t = true
  · rw [if_pos hr] at h
    unfold pthE at h
    by_cases hl : 16 < p.length
    · rw [if_pos hl] at h; cases h
    · rw [if_neg hl] at h; exact ⟨hr, by omega, h⟩
  · rw [if_neg hr] at h; cases h

/-- A value, whether there is one, and an error. -/
def GtPost (r : VT) (b : Bool) (E : Int) (w : World) (e : Ending) (w' : World) : Prop :=
  ∃ u, e = .returned (.tuple #[.agg #[.int .i64 r.kind, .int .i64 r.num, .string r.text, u], .bool b, .int .i64 E]) ∧ LiesX (fun b => w.heap.size ≤ b) 16 w' r.items u ∧ Below w.heap.size w w'

def getR (d : Nat) (t : VT) (p : List VT) : VT := if chkE d t p = 0 then atR t p else nilT
def getB (d : Nat) (t : VT) (p : List VT) : Bool := if chkE d t p = 0 then atB t p else false

theorem atR_right {p : List VT} {t : VT} (hr : rightV 16 t = true) (hd : Dp 16 t) : rightV 16 (atR t p) = true ∧ Dp 16 (atR t p) := by
  unfold atR
  cases h : atT t p with
  | none => exact ⟨nil_right, nil_dp⟩
  | some x => exact at_right p t x hr hd h

set_option maxRecDepth 100000 in
set_option maxHeartbeats 8000000 in
theorem get_any (d : Nat) (t : VT) (p : List VT) (v pv : Value) (w : World) (hv : Lies d w t.items v) (hs : t.text.size ≤ 9223372036854775807) (hp : Lies (d + 1) w p pv) :
    Calls Try.prog 8 #[.agg #[.int .i64 t.kind, .int .i64 t.num, .string t.text, v], pv] w (GtPost (getR d t p) (getB d t p) (chkE d t p) w) := by
  obtain ⟨a, c, rfl, _⟩ := Lies.slice hv
  obtain ⟨pa, pc, rfl, _⟩ := Lies.slice hp
  have HT : Hid (Bx (at2 w t (.slice a t.items.length c)) w.heap.size t (.slice a t.items.length c)) := at2_fst _ _ _
  have HR : Hid (Bx (at2 w t (.slice a t.items.length c)) (w.heap.size + 1) zeroT (.slice none 0 0)) := at2_snd _ _ _
  have hb0 := at2_below w t (.slice a t.items.length c)
  obtain ⟨W0, hW0⟩ : ∃ W0, W0 = at2 w t (.slice a t.items.length c) := ⟨_, rfl⟩
  have HW0 : Hid (W0 = at2 w t (.slice a t.items.length c)) := hW0
  rw [← hW0] at HT HR hb0
  clear hW0
  unfold at2 at HW0
  have HC : Hid (Calls Try.prog 24 #[.agg #[.int .i64 t.kind, .int .i64 t.num, .string t.text, .slice a t.items.length c], .slice pa p.length pc] W0 fun e w' => e = .returned (.int .i64 (chkE d t p)) ∧ Below W0.heap.size W0 w') := check26_any d t p _ _ W0 (Lies.keeps hb0 _ _ _ hv) hs (Lies.keeps hb0 _ _ _ hp)
  obtain ⟨t0, t1, t2, t3, _, _, _, _⟩ := HT.out
  by_cases hE : chkE d t p = 0
  · have e1 : getR d t p = atR t p := by unfold getR; rw [if_pos hE]
    have e2 : getB d t p = atB t p := by unfold getB; rw [if_pos hE]
    obtain ⟨hr, hl, hpe⟩ := chk_zero hE
    have hc := canon hv hr
    have hcp := canonL26 hp hpe
    have hd := Dp.of_lies 16 w t _ hc.1
    have har := atR_right (p := p) hc.2 hd
    rw [e1, e2, hE]
    rw [hE] at HC
    have HA : Hid (∀ W, Below w.heap.size w W → Calls Try.prog 25 #[.agg #[.int .i64 t.kind, .int .i64 t.num, .string t.text, .slice a t.items.length c], .slice pa p.length pc] W (AtPost (fun b => b < w.heap.size) t p W)) := fun W hW => at_any p (fun b => b < w.heap.size) t a c _ W ((LiesX.of_lies hc.1).keeps hW) hc.2 ((LiesX.of_lies hcp.1).keeps hW) hl
    have HCp : Hid (∀ W a' c', LiesX (fun b => b < w.heap.size) 16 W (atR t p).items (.slice a' (atR t p).items.length c') → Calls Try.prog 26 #[.agg #[.int .i64 (atR t p).kind, .int .i64 (atR t p).num, .string (atR t p).text, .slice a' (atR t p).items.length c']] W (CopyPost 16 (atR t p) W)) := fun W a' c' h => copy_right _ _ W h.lies har.1
    clear e1 e2 hr hl hpe hc hcp hd har hE hv hp hs
    unfold AtPost at HA
    generalize atR t p = y at *
    generalize atB t p = B at *
    generalize hP : GtPost y B 0 w = PP
    have HP : Hid (GtPost y B 0 w = PP) := hP
    clear hP
    generalize t.items.length = lt at *
    generalize p.length = lp at *
    go_enter Try.func8, Try.ntmps8
    go_upto_region 1 with fail
    rw [← HW0.out]
    clear HW0
    go_wp2_with fail
    refine Calls.mono HC.out ?_
    rintro e w1 ⟨rfl, hb1⟩
    have hb2 : Below w.heap.size w w1 := hb0.trans (hb1.mono hb0.size)
    have HR1 : Hid (Bx w1 (w.heap.size + 1) zeroT (.slice none 0 0)) := HR.out.keeps hb1
    replace t0 := cell_keeps hb1 t0; replace t1 := cell_keeps hb1 t1; replace t2 := cell_keeps hb1 t2; replace t3 := cell_keeps hb1 t3
    clear hb1 hb0 HC HT HR
    go_wp2_with fail
    refine Calls.mono (HA.out _ hb2) ?_
    rintro e w3 ⟨a3, c3, rfl, hl3, hb3⟩
    have hb4 : Below w.heap.size w w3 := hb2.trans (hb3.mono hb2.size)
    have HR3 : Hid (Bx w3 (w.heap.size + 1) zeroT (.slice none 0 0)) := HR1.out.keeps hb3
    obtain ⟨V, hV⟩ : ∃ V, V = w3.alloc (.cells #[.int .i64 y.kind, .int .i64 y.num, .string y.text, .slice a3 y.items.length c3] 24) := ⟨_, rfl⟩
    have HV : Hid (V = w3.alloc (.cells #[.int .i64 y.kind, .int .i64 y.num, .string y.text, .slice a3 y.items.length c3] 24)) := hV
    have hal : Below w3.heap.size w3 V := by rw [hV]; exact ((Grew.refl _).alloc _).below
    have HYV : Hid (Bx V w3.heap.size y (.slice a3 y.items.length c3)) := by rw [hV]; exact bx_alloc w3 y _
    have HRV : Hid (Bx V (w.heap.size + 1) zeroT (.slice none 0 0)) := HR3.out.keeps hal
    have hbV : Below w.heap.size w V := hb4.trans (hal.mono hb4.size)
    have HC2 : Hid (Calls Try.prog 26 #[.agg #[.int .i64 y.kind, .int .i64 y.num, .string y.text, .slice a3 y.items.length c3]] V (CopyPost 16 y V)) := HCp.out V a3 c3 (hl3.keeps hal)
    clear hb2 hb3 hb4 hl3 HR1 HR3 HA HCp hV hal t0 t1 t2 t3
    generalize y.items.length = ly at *
    go_upto_region 5 with fail
    rw [← HV.out]
    clear HV
    obtain ⟨t0, t1, t2, t3, _, _, _, _⟩ := HYV.out
    go_wp2_with fail
    refine Calls.mono HC2.out ?_
    rintro e w4 ⟨v4, rfl, hl4, hb4⟩
    obtain ⟨a4, c4, rfl, _⟩ := LiesB.slice hl4
    have hb5 : Below w.heap.size w w4 := hbV.trans (hb4.mono hbV.size)
    have HR4 : Hid (Bx w4 (w.heap.size + 1) zeroT (.slice none 0 0)) := HRV.out.keeps hb4
    have hsz : w.heap.size + 1 < V.heap.size := by have := cell_lt HRV.out.c0; simpa using this
    have HE1 : Hid (PP (.returned (.tuple #[.agg #[.int .i64 y.kind, .int .i64 y.num, .string y.text, .slice a4 y.items.length c4], .bool B, .int .i64 0])) (w4.setCells (w.heap.size + 1) 0 (encP (y, .slice a4 y.items.length c4)))) := by
      show PP _ _
      rw [← HP.out]
      exact ⟨_, rfl, LiesX.mono (fun b hb => by omega) (LiesX.set (g := w.heap.size + 1) (by omega) (LiesX.of_b hl4)), below_put hb5 (by omega) _⟩
    have Hq : Hid (Bx (w4.setCells (w.heap.size + 1) 0 (encP (y, .slice a4 y.items.length c4))) (w.heap.size + 1) y (.slice a4 y.items.length c4)) := HR4.out.put (y, .slice a4 y.items.length c4)
    obtain ⟨z0, z1, z2, z3, g0, g1, g2, g3⟩ := HR4.out
    clear hl4 hb4 hb5 hbV HR4 HRV HYV HC2 HP t0 t1 t2 t3 hsz
    generalize y.items.length = ly at *
    go_wp2_with fail
    refine bodyPost_ret (v := .tuple #[.agg #[.int .i64 y.kind, .int .i64 y.num, .string y.text, .slice a4 ly c4], .bool B, .int .i64 0]) ?_ rfl HE1.out
    obtain ⟨q0, q1, q2, q3, _, _, _, _⟩ := Hq.out
    simp only [World.setCells, encP, Nat.zero_add, Nat.reduceAdd] at q0 q1 q2 q3
    simp [results, Try.results8, go_sem, q0, q1, q2, q3]
  · have e1 : getR d t p = nilT := by unfold getR; rw [if_neg hE]
    have e2 : getB d t p = false := by unfold getB; rw [if_neg hE]
    rw [e1, e2]
    have HE : Hid (∀ W, Below w.heap.size w W → GtPost nilT false (chkE d t p) w (.returned (.tuple #[.agg #[.int .i64 0, .int .i64 0, .string ⟨#[]⟩, .slice none 0 0], .bool false, .int .i64 (chkE d t p)])) W) := fun W hW => ⟨_, rfl, liesX_nil _ _ _ _ _, hW⟩
    generalize GtPost nilT false (chkE d t p) w = PP at *
    clear e1 e2 hv hp hs
    generalize chkE d t p = E at *
    generalize t.items.length = lt at *
    generalize p.length = lp at *
    go_enter Try.func8, Try.ntmps8
    go_upto_region 1 with fail
    rw [← HW0.out]
    clear HW0
    go_wp2_with fail
    refine Calls.mono HC.out ?_
    rintro e w1 ⟨rfl, hb1⟩
    have hb2 : Below w.heap.size w w1 := hb0.trans (hb1.mono hb0.size)
    have HR1 : Hid (Bx w1 (w.heap.size + 1) zeroT (.slice none 0 0)) := HR.out.keeps hb1
    have HE1 : Hid (PP (.returned (.tuple #[.agg #[.int .i64 0, .int .i64 0, .string ⟨#[]⟩, .slice none 0 0], .bool false, .int .i64 E])) (w1.setCells (w.heap.size + 1) 0 (encP (zeroT, .slice none 0 0)))) := HE.out _ (below_put hb2 (by omega) _)
    have Hq : Hid (Bx (w1.setCells (w.heap.size + 1) 0 (encP (zeroT, .slice none 0 0))) (w.heap.size + 1) zeroT (.slice none 0 0)) := HR1.out.put (zeroT, .slice none 0 0)
    obtain ⟨z0, z1, z2, z3, g0, g1, g2, g3⟩ := HR1.out
    clear hb1 hb0 hb2 HC HT HR HR1 HE t0 t1 t2 t3
    go_wp2_with fail
    refine bodyPost_ret (v := .tuple #[.agg #[.int .i64 0, .int .i64 0, .string ⟨#[]⟩, .slice none 0 0], .bool false, .int .i64 E]) ?_ rfl HE1.out
    obtain ⟨q0, q1, q2, q3, _, _, _, _⟩ := Hq.out
    simp only [World.setCells, encP, Nat.zero_add, Nat.reduceAdd] at q0 q1 q2 q3
    simp [results, Try.results8, go_sem, q0, q1, q2, q3]

end Go.Proofs.Ytmbolemcpobbgaa

namespace Go.Proofs.Ytmbolemcpobbgaa
open Go.RowKit Go.Shelf

def putE (d : Nat) (t : VT) (p : List VT) (x : VT) : Int :=
  if chkE d t p = 0 then (if rightV d x = true then (match putT t p x with | none => 260 | some z => fitE 32 z) else 3) else chkE d t p
def putR (d : Nat) (t : VT) (p : List VT) (x : VT) : VT := if putE d t p x = 0 then (putT t p x).getD nilT else nilT

/-- The contract of put, at every right path. -/
def PutAll : Prop := ∀ (r : List VT) (x : VT), (∀ s ∈ r, rightV 16 s = true) → r.length ≤ 16 → x.text.size ≤ 9223372036854775807 → PutC r x

theorem told_put {d : Nat} {t x : VT} {p : List VT} (hc : chkE d t p = 0) (hx : rightV d x = true) (hr : rightV 16 t = true) (hd : Dp 16 t) (hp : ∀ s ∈ p, rightV 16 s = true) (hl : p.length ≤ 16) (hx16 : rightV 16 x = true) (hdx : Dp 16 x) {X : Nat → Prop} {w w' : World} {e : Ending} (hq : PutQ X t p x w e w') :
    ∃ k n tx a l c E0, e = .returned (.tuple #[.agg #[.int .i64 k, .int .i64 n, .string tx, .slice a l c], .int .i64 E0]) ∧ Hid (Calls Try.prog 30 #[.agg #[.int .i64 k, .int .i64 n, .string tx, .slice a l c], .int .i64 E0] w' (VPost (putR d t p x) (putE d t p x) w')) ∧ Below w.heap.size w w' := by
  unfold PutQ at hq
  cases hz : putT t p x with
  | none =>
    rw [hz] at hq
    obtain ⟨k, n, tx, a, l, c, rfl, hb⟩ := hq
    refine ⟨k, n, tx, a, l, c, 260, rfl, ?_, hb⟩
    have e1 : putE d t p x = 260 := by unfold putE; rw [if_pos hc, if_pos hx, hz]
    have e2 : putR d t p x = nilT := by unfold putR; rw [e1]; rfl
    rw [e1, e2]
    exact told_core (fun _ => False) 16 nilT 260 260 k n tx a l c w' (fun b hb => hb.elim) nil_right nil_dp (fun W _ => fitting_err _ _ k n tx a l c 260 (by omega) W)
  | some z =>
    rw [hz] at hq
    obtain ⟨a, c, rfl, h1, h2, hb⟩ := hq
    refine ⟨z.kind, z.num, z.text, a, z.items.length, c, 0, rfl, ?_, hb⟩
    have hlx : LiesX (fun b => b < w'.heap.size) (16 + p.length) w' z.items (.slice a z.items.length c) := LiesX.of_lies h1.lies
    have hdz : Dp (16 + p.length) z := Dp.of_lies _ w' z _ h1.lies
    have hfe : fw 32 z 16 1024 = fw (16 + p.length) z 16 1024 := fw_any z hdz (by omega) 16 1024
    have e1 : putE d t p x = fitE (16 + p.length) z := by unfold putE fitE; rw [if_pos hc, if_pos hx, hz]; simp only; rw [hfe]
    have e2 : putR d t p x = fitR (16 + p.length) z := by
      unfold putR fitR
      rw [e1]
      unfold fitE
      by_cases hf : (fw (16 + p.length) z 16 1024).1 = true
      · rw [if_pos hf, if_pos rfl, if_pos hf, hz]; rfl
      · rw [if_neg hf, if_neg (by omega), if_neg hf]
    rw [e1, e2]
    have hrt : rightV 16 (fitR (16 + p.length) z) = true ∧ Dp 16 (fitR (16 + p.length) z) := by
      unfold fitR
      by_cases hf : (fw (16 + p.length) z 16 1024).1 = true
      · rw [if_pos hf]; exact put_fits hp hr hd hx16 hdx hz (by omega) hdz hf
      · rw [if_neg hf]; exact ⟨nil_right, nil_dp⟩
    exact told_core (fun b => b < w'.heap.size) (16 + p.length) _ _ 0 z.kind z.num z.text a z.items.length c w' (fun b hb => hb) hrt.1 hrt.2 (fun W hW => fitting_any _ _ z a c W (hlx.keeps hW) (fun b hb => by have := hW.size; omega))

set_option maxRecDepth 100000 in
set_option maxHeartbeats 8000000 in
theorem put_face (hpc : PutAll) (d : Nat) (t x : VT) (p : List VT) (v xv pv : Value) (w : World) (hv : Lies d w t.items v) (hs : t.text.size ≤ 9223372036854775807) (hp : Lies (d + 1) w p pv) (hxl : Lies d w x.items xv) (hxs : x.text.size ≤ 9223372036854775807) :
    Calls Try.prog 14 #[.agg #[.int .i64 t.kind, .int .i64 t.num, .string t.text, v], pv, .agg #[.int .i64 x.kind, .int .i64 x.num, .string x.text, xv]] w (VPost (putR d t p x) (putE d t p x) w) := by
  obtain ⟨a, c, rfl, _⟩ := Lies.slice hv
  obtain ⟨pa, pc, rfl, _⟩ := Lies.slice hp
  obtain ⟨ax, cx, rfl, _⟩ := Lies.slice hxl
  have HT : Hid (Bx (op3 w t x (.slice a t.items.length c) (.slice ax x.items.length cx)) w.heap.size t (.slice a t.items.length c)) := op3_fst _ _ _ _ _
  have HX : Hid (Bx (op3 w t x (.slice a t.items.length c) (.slice ax x.items.length cx)) (w.heap.size + 1) x (.slice ax x.items.length cx)) := op3_snd _ _ _ _ _
  have HR : Hid (Bx (op3 w t x (.slice a t.items.length c) (.slice ax x.items.length cx)) (w.heap.size + 2) zeroT (.slice none 0 0)) := op3_thd _ _ _ _ _
  have hb0 := op3_below w t x (.slice a t.items.length c) (.slice ax x.items.length cx)
  obtain ⟨W0, hW0⟩ : ∃ W0, W0 = op3 w t x (.slice a t.items.length c) (.slice ax x.items.length cx) := ⟨_, rfl⟩
  have HW0 : Hid (W0 = op3 w t x (.slice a t.items.length c) (.slice ax x.items.length cx)) := hW0
  rw [← hW0] at HT HX HR hb0
  clear hW0
  unfold op3 at HW0
  have HC : Hid (Calls Try.prog 24 #[.agg #[.int .i64 t.kind, .int .i64 t.num, .string t.text, .slice a t.items.length c], .slice pa p.length pc] W0 fun e w' => e = .returned (.int .i64 (chkE d t p)) ∧ Below W0.heap.size W0 w') := check26_any d t p _ _ W0 (Lies.keeps hb0 _ _ _ hv) hs (Lies.keeps hb0 _ _ _ hp)
  obtain ⟨t0, t1, t2, t3, _, _, _, _⟩ := HT.out
  obtain ⟨x0, x1, x2, x3, _, _, _, _⟩ := HX.out
  by_cases hE : chkE d t p = 0
  · rw [hE] at HC
    have HC2 : Hid (∀ W, Below w.heap.size w W → Calls Try.prog 23 #[.agg #[.int .i64 x.kind, .int .i64 x.num, .string x.text, .slice ax x.items.length cx]] W fun e w' => e = .returned (.int .i64 (errOf (rightV d x))) ∧ Below W.heap.size W w') := fun W hW => check_any d x _ W (Lies.keeps hW _ _ _ hxl) hxs
    by_cases hx : rightV d x = true
    · obtain ⟨hr, hl, hpe⟩ := chk_zero hE
      have hc := canon hv hr
      have hcp := canonL26 hp hpe
      have hcx := canon hxl hx
      have hd := Dp.of_lies 16 w t _ hc.1
      have hdx := Dp.of_lies 16 w x _ hcx.1
      have e3 : errOf (rightV d x) = 0 := by rw [hx]; rfl
      rw [e3] at HC2
      have HPu : Hid (∀ W, Below w.heap.size w W → Calls Try.prog 36 #[.agg #[.int .i64 t.kind, .int .i64 t.num, .string t.text, .slice a t.items.length c], .slice pa p.length pc, .agg #[.int .i64 x.kind, .int .i64 x.num, .string x.text, .slice ax x.items.length cx]] W fun e w' => ∃ k n tx a l c E0, e = .returned (.tuple #[.agg #[.int .i64 k, .int .i64 n, .string tx, .slice a l c], .int .i64 E0]) ∧ Hid (Calls Try.prog 30 #[.agg #[.int .i64 k, .int .i64 n, .string tx, .slice a l c], .int .i64 E0] w' (VPost (putR d t p x) (putE d t p x) w')) ∧ Below W.heap.size W w') := fun W hW => by
        refine Calls.mono (hpc p x (fun s hs => (hcp.2 s hs).1) hl hxs (fun b => b < w.heap.size) t a ax c cx (.slice pa p.length pc) W (fun b hb => by have := hW.size; omega) ((LiesX.of_lies hc.1).keeps hW) hc.2 ((LiesX.of_lies hcp.1).keeps hW) ((LiesX.of_lies hcx.1).keeps hW)) ?_
        intro e w' hq
        exact told_put hE hx hc.2 hd (fun s hs => (hcp.2 s hs).1) hl hcx.2 hdx hq
      clear hr hl hpe hc hcp hcx hd hdx e3 hE hx hv hp hs hxl hxs hpc
      generalize putR d t p x = y at *
      generalize putE d t p x = E at *
      generalize hP : VPost y E w = PP
      have HP : Hid (VPost y E w = PP) := hP
      clear hP
      generalize t.items.length = lt at *
      generalize x.items.length = lx at *
      generalize p.length = lp at *
      go_enter Try.func14, Try.ntmps14
      go_upto_region 1 with fail
      rw [← HW0.out]
      clear HW0
      go_wp2_with fail
      refine Calls.mono HC.out ?_
      rintro e w1 ⟨rfl, hb1⟩
      have hb2 : Below w.heap.size w w1 := hb0.trans (hb1.mono hb0.size)
      have HR1 : Hid (Bx w1 (w.heap.size + 2) zeroT (.slice none 0 0)) := HR.out.keeps hb1
      replace t0 := cell_keeps hb1 t0; replace t1 := cell_keeps hb1 t1; replace t2 := cell_keeps hb1 t2; replace t3 := cell_keeps hb1 t3
      replace x0 := cell_keeps hb1 x0; replace x1 := cell_keeps hb1 x1; replace x2 := cell_keeps hb1 x2; replace x3 := cell_keeps hb1 x3
      clear hb1 hb0 HC HT HR HX
      go_wp2_with fail
      refine Calls.mono (HC2.out _ hb2) ?_
      rintro e w3 ⟨rfl, hb3⟩
      have hb4 : Below w.heap.size w w3 := hb2.trans (hb3.mono hb2.size)
      have HR3 : Hid (Bx w3 (w.heap.size + 2) zeroT (.slice none 0 0)) := HR1.out.keeps hb3
      replace t0 := cell_keeps hb3 t0; replace t1 := cell_keeps hb3 t1; replace t2 := cell_keeps hb3 t2; replace t3 := cell_keeps hb3 t3
      replace x0 := cell_keeps hb3 x0; replace x1 := cell_keeps hb3 x1; replace x2 := cell_keeps hb3 x2; replace x3 := cell_keeps hb3 x3
      clear hb2 hb3 HR1 HC2
      go_wp2_with fail
      refine Calls.mono (HPu.out _ hb4) ?_
      rintro e w5 ⟨k5, n5, tx5, a5, l5, c5, E5, rfl, HT5, hb5⟩
      have hb6 : Below w.heap.size w w5 := hb4.trans (hb5.mono hb4.size)
      have HR5 : Hid (Bx w5 (w.heap.size + 2) zeroT (.slice none 0 0)) := HR3.out.keeps hb5
      clear hb4 hb5 HR3 HPu t0 t1 t2 t3 x0 x1 x2 x3
      go_wp2_with fail
      refine Calls.mono HT5.out ?_
      rintro e w7 ⟨u7, rfl, hl7, hb7⟩
      obtain ⟨a7, c7, rfl, _⟩ := LiesX.slice hl7
      have hb8 : Below w.heap.size w w7 := hb6.trans (hb7.mono hb6.size)
      have HR7 : Hid (Bx w7 (w.heap.size + 2) zeroT (.slice none 0 0)) := HR5.out.keeps hb7
      have hsz : w.heap.size + 2 < w5.heap.size := by have := cell_lt HR5.out.c0; simpa using this
      have HE1 : Hid (PP (.returned (.tuple #[.agg #[.int .i64 y.kind, .int .i64 y.num, .string y.text, .slice a7 y.items.length c7], .int .i64 E])) (w7.setCells (w.heap.size + 2) 0 (encP (y, .slice a7 y.items.length c7)))) := by
        show PP _ _
        rw [← HP.out]
        exact ⟨_, rfl, LiesX.mono (fun b hb => by omega) (LiesX.set (g := w.heap.size + 2) (by omega) hl7), below_put hb8 (by omega) _⟩
      have Hq : Hid (Bx (w7.setCells (w.heap.size + 2) 0 (encP (y, .slice a7 y.items.length c7))) (w.heap.size + 2) y (.slice a7 y.items.length c7)) := HR7.out.put (y, .slice a7 y.items.length c7)
      obtain ⟨z0, z1, z2, z3, g0, g1, g2, g3⟩ := HR7.out
      clear hl7 hb7 hb8 hb6 HR7 HR5 HP hsz HT5
      generalize y.items.length = ly at *
      go_wp2_with fail
      refine bodyPost_ret (v := .tuple #[.agg #[.int .i64 y.kind, .int .i64 y.num, .string y.text, .slice a7 ly c7], .int .i64 E]) ?_ rfl HE1.out
      obtain ⟨q0, q1, q2, q3, _, _, _, _⟩ := Hq.out
      simp only [World.setCells, encP, Nat.zero_add, Nat.reduceAdd] at q0 q1 q2 q3
      simp [results, Try.results14, go_sem, q0, q1, q2, q3]
    · have e1 : putE d t p x = 3 := by unfold putE; rw [if_pos hE, if_neg hx]
      have e2 : putR d t p x = nilT := by unfold putR; rw [e1]; rfl
      have e3 : errOf (rightV d x) = 3 := by
        have : rightV d x = false := by simpa using hx
        rw [this]; rfl
      rw [e1, e2]
      rw [e3] at HC2
      have HE : Hid (∀ W, Below w.heap.size w W → VPost nilT 3 w (.returned (.tuple #[.agg #[.int .i64 0, .int .i64 0, .string ⟨#[]⟩, .slice none 0 0], .int .i64 3])) W) := fun W hW => vPost_nil hW
      generalize VPost nilT 3 w = PP at *
      clear e1 e2 e3 hE hx hv hp hs hxl hxs hpc
      generalize t.items.length = lt at *
      generalize x.items.length = lx at *
      generalize p.length = lp at *
      go_enter Try.func14, Try.ntmps14
      go_upto_region 1 with fail
      rw [← HW0.out]
      clear HW0
      go_wp2_with fail
      refine Calls.mono HC.out ?_
      rintro e w1 ⟨rfl, hb1⟩
      have hb2 : Below w.heap.size w w1 := hb0.trans (hb1.mono hb0.size)
      have HR1 : Hid (Bx w1 (w.heap.size + 2) zeroT (.slice none 0 0)) := HR.out.keeps hb1
      replace x0 := cell_keeps hb1 x0; replace x1 := cell_keeps hb1 x1; replace x2 := cell_keeps hb1 x2; replace x3 := cell_keeps hb1 x3
      clear hb1 hb0 HC HT HR HX t0 t1 t2 t3
      go_wp2_with fail
      refine Calls.mono (HC2.out _ hb2) ?_
      rintro e w3 ⟨rfl, hb3⟩
      have hb4 : Below w.heap.size w w3 := hb2.trans (hb3.mono hb2.size)
      have HR3 : Hid (Bx w3 (w.heap.size + 2) zeroT (.slice none 0 0)) := HR1.out.keeps hb3
      have HE1 : Hid (PP (.returned (.tuple #[.agg #[.int .i64 0, .int .i64 0, .string ⟨#[]⟩, .slice none 0 0], .int .i64 3])) (w3.setCells (w.heap.size + 2) 0 (encP (zeroT, .slice none 0 0)))) := HE.out _ (below_put hb4 (by omega) _)
      have Hq : Hid (Bx (w3.setCells (w.heap.size + 2) 0 (encP (zeroT, .slice none 0 0))) (w.heap.size + 2) zeroT (.slice none 0 0)) := HR3.out.put (zeroT, .slice none 0 0)
      obtain ⟨z0, z1, z2, z3, g0, g1, g2, g3⟩ := HR3.out
      clear hb2 hb3 hb4 HR1 HR3 HC2 HE x0 x1 x2 x3
      go_wp2_with fail
      refine bodyPost_ret (v := .tuple #[.agg #[.int .i64 0, .int .i64 0, .string ⟨#[]⟩, .slice none 0 0], .int .i64 3]) ?_ rfl HE1.out
      obtain ⟨q0, q1, q2, q3, _, _, _, _⟩ := Hq.out
      simp only [World.setCells, encP, Nat.zero_add, Nat.reduceAdd] at q0 q1 q2 q3
      simp [results, Try.results14, go_sem, q0, q1, q2, q3]
  · have e1 : putE d t p x = chkE d t p := by unfold putE; rw [if_neg hE]
    have e2 : putR d t p x = nilT := by unfold putR; rw [e1, if_neg hE]
    rw [e1, e2]
    have HE : Hid (∀ W, Below w.heap.size w W → VPost nilT (chkE d t p) w (.returned (.tuple #[.agg #[.int .i64 0, .int .i64 0, .string ⟨#[]⟩, .slice none 0 0], .int .i64 (chkE d t p)])) W) := fun W hW => vPost_nil hW
    generalize VPost nilT (chkE d t p) w = PP at *
    clear e1 e2 hv hp hs hxl hxs hpc
    generalize chkE d t p = E at *
    generalize t.items.length = lt at *
    generalize x.items.length = lx at *
    generalize p.length = lp at *
    go_enter Try.func14, Try.ntmps14
    go_upto_region 1 with fail
    rw [← HW0.out]
    clear HW0
    go_wp2_with fail
    refine Calls.mono HC.out ?_
    rintro e w1 ⟨rfl, hb1⟩
    have hb2 : Below w.heap.size w w1 := hb0.trans (hb1.mono hb0.size)
    have HR1 : Hid (Bx w1 (w.heap.size + 2) zeroT (.slice none 0 0)) := HR.out.keeps hb1
    have HE1 : Hid (PP (.returned (.tuple #[.agg #[.int .i64 0, .int .i64 0, .string ⟨#[]⟩, .slice none 0 0], .int .i64 E])) (w1.setCells (w.heap.size + 2) 0 (encP (zeroT, .slice none 0 0)))) := HE.out _ (below_put hb2 (by omega) _)
    have Hq : Hid (Bx (w1.setCells (w.heap.size + 2) 0 (encP (zeroT, .slice none 0 0))) (w.heap.size + 2) zeroT (.slice none 0 0)) := HR1.out.put (zeroT, .slice none 0 0)
    obtain ⟨z0, z1, z2, z3, g0, g1, g2, g3⟩ := HR1.out
    clear hb1 hb0 hb2 HC HT HR HX HR1 HE t0 t1 t2 t3 x0 x1 x2 x3
    go_wp2_with fail
    refine bodyPost_ret (v := .tuple #[.agg #[.int .i64 0, .int .i64 0, .string ⟨#[]⟩, .slice none 0 0], .int .i64 E]) ?_ rfl HE1.out
    obtain ⟨q0, q1, q2, q3, _, _, _, _⟩ := Hq.out
    simp only [World.setCells, encP, Nat.zero_add, Nat.reduceAdd] at q0 q1 q2 q3
    simp [results, Try.results14, go_sem, q0, q1, q2, q3]

end Go.Proofs.Ytmbolemcpobbgaa

