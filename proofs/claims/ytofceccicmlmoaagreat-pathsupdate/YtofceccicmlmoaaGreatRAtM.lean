/-
  The document's At.
-/
import Derived.Test.YtofceccicmlmoaaGreatRPutB
import Derived.Deep.RegionHeld3
import Derived.Deep.CutRange
import Derived.Deep.CutBlock
import Derived.Test.YtofceccicmlmoaaGreatRPutE
import Derived.Test.YtofceccicmlmoaaGreatListed
import Derived.Test.YtofceccicmlmoaaGreatStepM
import Derived.Test.YtofceccicmlmoaaGreatLevel
namespace Go.Proofs.YtofceccicmlmoaaGreat
open Go.RowKit Go.Shelf

set_option maxRecDepth 100000 in
set_option maxHeartbeats 16000000 in
/-- Within a list. -/
theorem rput_i4 (s x : VT) (r : List VT) (X : Nat → Prop) (t : VT) (a ax : Option Addr) (c cx : Nat) (pv : Value) (w : World) (hX : ∀ b, X b → b < w.heap.size) (h : LiesX X 16 w t.items (.slice a t.items.length c)) (hr : rightV 16 t = true) (hp : LiesX X 17 w (s :: r) pv) (hsr : rightV 16 s = true) (hn : r.length ≤ 16) (hk : t.kind = 4) (t2' : VT) (i : Nat) (ho : opnT t s = some (t2', i)) (ih : Hid (RPutC r x)) (hx : LiesX X 16 w x.items (.slice ax x.items.length cx)) (hI : idxB t s = true) :
    Calls Tryz.prog 20 #[.agg #[.int .i64 t.kind, .int .i64 t.num, .string t.text, .slice a t.items.length c], pv, .agg #[.int .i64 x.kind, .int .i64 x.num, .string x.text, .slice ax x.items.length cx]] w (RPutQ X t (s :: r) x w) := by
  have hlen : t.items.length ≤ 1024 := right_len hr
  have hd := Dp.of_lies 16 w t _ h.lies
  obtain ⟨pa, pc, rfl, _⟩ := LiesX.slice hp
  have hp2 := hp
  obtain ⟨a0, c0, hv, hpl, hrow⟩ := hp2
  injection hv with e1 e2 e3
  subst e1
  subst e3
  clear e2
  obtain ⟨pb, po, rfl, hXp, hall⟩ := hrow (by simp)
  obtain ⟨sv, p0, p1, p2, p3, p4, p5⟩ := hall 0 (by simp)
  simp only [List.getElem_cons_zero, Nat.zero_mul, Nat.add_zero] at p0 p1 p2 p3 p4 p5
  obtain ⟨sa, sc, rfl, _⟩ := LiesX.slice p4
  have hsl : LiesX X 16 w s.items (.slice sa s.items.length sc) := p4.atLeast 16 (by omega)
  have hds : Dp 16 s := Dp.of_lies 16 w s _ hsl.lies
  have HT : Hid (Bx (op3 w t x (.slice a t.items.length c) (.slice ax x.items.length cx)) w.heap.size t (.slice a t.items.length c)) := op3_fst _ _ _ _ _
  have HX : Hid (Bx (op3 w t x (.slice a t.items.length c) (.slice ax x.items.length cx)) (w.heap.size + 1) x (.slice ax x.items.length cx)) := op3_snd _ _ _ _ _
  have HR : Hid (Bx (op3 w t x (.slice a t.items.length c) (.slice ax x.items.length cx)) (w.heap.size + 2) zeroT (.slice none 0 0)) := op3_thd _ _ _ _ _
  have hb0 := op3_below w t x (.slice a t.items.length c) (.slice ax x.items.length cx)
  obtain ⟨W0, hW0⟩ : ∃ W0, W0 = op3 w t x (.slice a t.items.length c) (.slice ax x.items.length cx) := ⟨_, rfl⟩
  have HW0 : Hid (W0 = op3 w t x (.slice a t.items.length c) (.slice ax x.items.length cx)) := hW0
  have hsz : W0.heap.size = w.heap.size + 3 := by rw [hW0]; exact op3_size _ _ _ _ _
  rw [← hW0] at HT HX HR hb0
  clear hW0
  unfold op3 at HW0
  have p0 := cell_keeps hb0 p0; have p1 := cell_keeps hb0 p1; have p2 := cell_keeps hb0 p2; have p3 := cell_keeps hb0 p3
  obtain ⟨W1, hW1⟩ : ∃ W1, W1 = W0.alloc (.cells #[.int .i64 s.kind, .int .i64 s.num, .string s.text, .slice sa s.items.length sc] 24) := ⟨_, rfl⟩
  have hb01 : Below W0.heap.size W0 W1 := by rw [hW1]; exact ((Grew.refl W0).alloc _).below
  have hb1 : Below w.heap.size w W1 := hb0.trans (hb01.mono hb0.size)
  have HS1 : Hid (Bx W1 (w.heap.size + 3) s (.slice sa s.items.length sc)) := by
    rw [hW1, ← hsz]
    exact bx_alloc W0 s _
  have HT1 : Hid (Bx W1 w.heap.size t (.slice a t.items.length c)) := HT.out.keeps hb01
  have HX1 : Hid (Bx W1 (w.heap.size + 1) x (.slice ax x.items.length cx)) := HX.out.keeps hb01
  have HR1 : Hid (Bx W1 (w.heap.size + 2) zeroT (.slice none 0 0)) := HR.out.keeps hb01
  have hsz1 : W1.heap.size = w.heap.size + 4 := by rw [hW1, World.size_alloc, hsz]
  have HW1 : Hid (W0.alloc (.cells #[.int .i64 s.kind, .int .i64 s.num, .string s.text, .slice sa s.items.length sc] 24) = W1) := hW1.symm
  clear hW1 hb01 HT HX HR hall hrow p4
  have HI : Hid (∀ W, Calls Tryz.prog 40 #[.agg #[.int .i64 t.kind, .int .i64 t.num, .string t.text, .slice a t.items.length c], .agg #[.int .i64 s.kind, .int .i64 s.num, .string s.text, .slice sa s.items.length sc]] W fun e w' => e = .returned (.tuple #[.int .i64 (if idxB t s = true then s.num else 0), .bool (idxB t s)]) ∧ Below W.heap.size W w') := fun W => rindex_any t s a sa c _ sc W
  have HPt : Hid (∀ W, Below w.heap.size w W → Calls Tryz.prog 39 #[.agg #[.int .i64 t.kind, .int .i64 t.num, .string t.text, .slice a t.items.length c], .agg #[.int .i64 s.kind, .int .i64 s.num, .string s.text, .slice sa s.items.length sc]] W (PartP X t s W)) := fun W hW => rpart_any X t s a sa c sc W (h.keeps hW) ((hsl.keeps hW).lies) hr
  obtain ⟨J, hJ, hJl, hpB, hpI⟩ := idx_fact hI
  have HsJ : Hid (s.num = (J : Int)) := hJ
  have HIx : Hid (idxB t s = true) := hI
  have hs2 : s.kind = 2 := by unfold idxB at hI; simp only [Bool.and_eq_true, beq_iff_eq] at hI; exact hI.2.1
  have j2 : (s.kind == 2) = true := by simpa using hs2
  have HEd : Hid (¬ (s.kind = 2 ∧ s.num = (t.items.length : Int))) := fun h => by have := h.2; omega
  have hsn : (s.num == (t.items.length : Int)) = false := by rw [hJ]; simp; omega
  rw [hI, if_pos rfl] at HI
  clear hI hs2 hpI hpB hJ
  have HNo : Hid (∀ (W : World) (y : VT), t2'.items[i]? = some y → putT y r x = none → Below w.heap.size w W → RPutQ X t (s :: r) x w (.returned (.tuple #[.agg #[.int .i64 0, .int .i64 0, .string ⟨#[]⟩, .slice none 0 0], .bool false])) W) := fun W y hy hz hW => rput_none (by rw [put_step ho hy, hz]) hW
  have HYr : Hid (∀ y, t2'.items[i]? = some y → rightV 16 y = true) := fun y hy => by
    obtain ⟨_, _, _, _, k5⟩ := opn_there ho (right_even t hd hr)
    rw [hy] at k5
    rcases k5 with k5 | ⟨u, hu, k5⟩
    · injection k5 with k5; rw [k5]; exact nil_right
    · injection k5 with k5; rw [k5]; exact (item_right hr hd hu).1
  have HYo : Hid (∀ y, (plcB t s = true ∧ t.items[(plcI t s).toNat]? = some y) ∨ (plcB t s = false ∧ y = zeroT) → t2'.items[i]? = some y) := fun y hy => part_open ho hy
  have HPp : Hid (LiesX X 17 w (s :: r) (.slice (some ⟨pb, po, none⟩) (r.length + 1) pc)) := hp
  have HPx : Hid (LiesX X 16 w x.items (.slice ax x.items.length cx)) := hx
  have HXl : Hid (∀ b, X b → b < w.heap.size) := hX
  have HPt' : Hid (LiesX X 16 w t.items (.slice a t.items.length c)) := h
  have HPs : Hid (LiesX X 16 w s.items (.slice sa s.items.length sc)) := hsl
  have HRt : Hid (rightV 16 t = true ∧ Dp 16 t ∧ rightV 16 s = true ∧ Dp 16 s ∧ s.text.size ≤ 9223372036854775807) := ⟨hr, hd, hsr, hds, p5⟩
  have HOn : Hid (opnT t s = some (t2', i)) := ho
  have Hk : Hid (t.kind = 4) := hk
  have hpc : r.length + 1 ≤ pc := hpl.1
  have Hr0 : Hid (pc = 1 → r = []) := fun e => List.eq_nil_of_length_eq_zero (by omega)
  have hL : (s :: r).length = r.length + 1 := rfl
  rw [hL]
  obtain ⟨PP, hPP⟩ : ∃ PP, RPutQ X t (s :: r) x w = PP := ⟨_, rfl⟩
  rw [hPP] at HNo ⊢
  have HPP : Hid (RPutQ X t (s :: r) x w = PP) := hPP
  rw [hk] at HI HPt HW0 ⊢
  clear hPP hL h hr hp hsr hsl hd hds p5 ho hx hpl hXp
  obtain ⟨t0, t1, t2, t3, _, _, _, _⟩ := HT1.out
  rw [hk] at t0
  clear hk
  obtain ⟨s0, s1, s2, s3, _, _, _, _⟩ := HS1.out
  go_enter Tryz.func20, Tryz.ntmps20
  go_upto_region 1 with fail
  rw [← HW0.out]
  clear HW0
  go_upto_region 4 with fail
  rw [HW1.out]
  clear HW1
  go_wp2_with fail
  refine Calls.mono (HI.out _) ?_
  rintro e w1 ⟨rfl, hg1⟩
  have hb2 : Below w.heap.size w w1 := hb1.trans (hg1.mono hb1.size)
  have HT2 : Hid (Bx w1 w.heap.size t (.slice a t.items.length c)) := HT1.out.keeps hg1
  have HX2 : Hid (Bx w1 (w.heap.size + 1) x (.slice ax x.items.length cx)) := HX1.out.keeps hg1
  have HR2 : Hid (Bx w1 (w.heap.size + 2) zeroT (.slice none 0 0)) := HR1.out.keeps hg1
  have HS2 : Hid (Bx w1 (w.heap.size + 3) s (.slice sa s.items.length sc)) := HS1.out.keeps hg1
  have hsz2 : w.heap.size + 4 ≤ w1.heap.size := by have := hg1.size; omega
  replace t0 := cell_keeps hg1 t0; replace t1 := cell_keeps hg1 t1; replace t2 := cell_keeps hg1 t2; replace t3 := cell_keeps hg1 t3
  replace s0 := cell_keeps hg1 s0; replace s1 := cell_keeps hg1 s1; replace s2 := cell_keeps hg1 s2; replace s3 := cell_keeps hg1 s3
  clear hg1 hb1 hb0 HR1 HX1 HT1 HS1 HI p0 p1 p2 p3 hsz hsz1
  go_wp2_with fail
  refine Calls.mono (HPt.out _ hb2) ?_
  rintro e w2 ⟨y, ya, yc, rfl, hy1, hy2, hy3, hg2⟩
  have Hyo : Hid (t2'.items[i]? = some y) := HYo.out y hy3
  have Hyr : Hid (rightV 16 y = true) := HYr.out y Hyo.out
  obtain ⟨V, hV⟩ : ∃ V, V = w2.alloc (.cells #[.int .i64 y.kind, .int .i64 y.num, .string y.text, .slice ya y.items.length yc] 24) := ⟨_, rfl⟩
  have hgV : Below w1.heap.size w1 V := by rw [hV]; exact hg2.alloc hg2.size _
  have hbV : Below w.heap.size w V := hb2.trans (hgV.mono hb2.size)
  have HyB : Hid (Bx V w2.heap.size y (.slice ya y.items.length yc)) := by rw [hV]; exact bx_alloc w2 y _
  have HTV : Hid (Bx V w.heap.size t (.slice a t.items.length c)) := HT2.out.keeps hgV
  have HXV : Hid (Bx V (w.heap.size + 1) x (.slice ax x.items.length cx)) := HX2.out.keeps hgV
  have HRV : Hid (Bx V (w.heap.size + 2) zeroT (.slice none 0 0)) := HR2.out.keeps hgV
  have HSV : Hid (Bx V (w.heap.size + 3) s (.slice sa s.items.length sc)) := HS2.out.keeps hgV
  have hszV : w.heap.size + 4 ≤ V.heap.size := by have := hgV.size; omega
  have hPu : ∀ (W : World) (a' : Option Addr) (c' : Nat), Below V.heap.size V W → (r ≠ [] → a' = some ⟨pb, po + 4, none⟩) → r.length ≤ c' → Calls Tryz.prog 20 #[.agg #[.int .i64 y.kind, .int .i64 y.num, .string y.text, .slice ya y.items.length yc], .slice a' r.length c', .agg #[.int .i64 x.kind, .int .i64 x.num, .string x.text, .slice ax x.items.length cx]] W (RPutQ X y r x W) := fun W a' c' hW h1 h2 => ih.out X y ya ax yc cx _ W (fun b hb => by have := HXl.out b hb; have := hW.size; omega) ((hy1.keeps hgV).keeps hW) Hyr.out (rest_lies (HPp.out.keeps (hbV.trans (hW.mono hbV.size))) a' c' h1 h2) (HPx.out.keeps (hbV.trans (hW.mono hbV.size)))
  have HPu : Hid (∀ (W : World) (a' : Option Addr) (c' : Nat), Below V.heap.size V W → (r ≠ [] → a' = some ⟨pb, po + 4, none⟩) → r.length ≤ c' → Calls Tryz.prog 20 #[.agg #[.int .i64 y.kind, .int .i64 y.num, .string y.text, .slice ya y.items.length yc], .slice a' r.length c', .agg #[.int .i64 x.kind, .int .i64 x.num, .string x.text, .slice ax x.items.length cx]] W (RPutQ X y r x W)) := hPu
  have HV : Hid (w2.alloc (.cells #[.int .i64 y.kind, .int .i64 y.num, .string y.text, .slice ya y.items.length yc] 24) = V) := hV.symm
  clear hPu hV hgV hg2 hy1 hy2 hy3 HT2 HX2 HR2 HS2 HPt HYo HYr hb2 t0 t1 t2 t3 s0 s1 s2 s3 hsz2
  obtain ⟨n12, hn12⟩ : ∃ n, n = w2.heap.size := ⟨_, rfl⟩
  have Hn12 : Hid (w2.heap.size = n12) := hn12.symm
  rw [← hn12] at HyB
  clear hn12
  generalize plcB t s = pB at *
  go_upto_region 9 with fail
  rw [HV.out, Hn12.out]
  clear HV Hn12
  have HF0 : Hid (∀ (W : World) (z : VT) (za : Option Addr) (zc : Nat) (b : Bool), Below V.heap.size V W → LiesX (fun q => X q ∨ V.heap.size ≤ q) (16 + r.length) W z.items (.slice za z.items.length zc) → z.text.size ≤ 9223372036854775807 → ((b = true ∧ putT y r x = some z) ∨ (b = false ∧ putT y r x = none ∧ z = zeroT)) → Hid (Rz26 X V (16 + r.length) y x r (W.alloc (.cells #[.int .i64 z.kind, .int .i64 z.num, .string z.text, .slice za z.items.length zc] 24)) W.heap.size z za zc b)) := fun W z za zc b h1 h2 h3 h4 => ⟨bx_alloc W z _, h2.keeps ((Grew.refl W).alloc _).below, h3, h4, h1.alloc h1.size _⟩
  have HFz : Hid (∀ (W : World) (z : VT) (za : Option Addr) (zc : Nat) (b : Bool), Below V.heap.size V W → Bx W V.heap.size zeroT (.slice none 0 0) → LiesX (fun q => X q ∨ V.heap.size + 1 ≤ q) (16 + r.length) W z.items (.slice za z.items.length zc) → z.text.size ≤ 9223372036854775807 → ((b = true ∧ putT y r x = some z) ∨ (b = false ∧ putT y r x = none ∧ z = zeroT)) → Hid (Rz26 X V (16 + r.length) y x r (W.setCells V.heap.size 0 (encP (z, .slice za z.items.length zc))) V.heap.size z za zc b)) := fun W z za zc b h1 hb h2 h3 h4 => ⟨hb.put _, (LiesX.set (g := V.heap.size) (fun hq => by
      rcases hq with hq | hq
      · have := HXl.out _ hq; omega
      · omega) h2).mono (fun q hq => hq.imp id (fun hq => by omega)), h3, h4, below_put h1 (Nat.le_refl _) _⟩
  go_cut [14, 15] from 69 to 76 (fun s14 s15 wx => ∃ n14 z za zc b, s14 = .pointer (some ⟨n14, 0, none⟩) ∧ s15 = .bool b ∧ Hid (Rz26 X V (16 + r.length) y x r wx n14 z za zc b))
  case first =>
    obtain ⟨a0, a1, a2, a3, _, _, _, _⟩ := HyB.out
    obtain ⟨b0, b1, b2, b3, _, _, _, _⟩ := HXV.out
    have hl1 : n12 < V.heap.size := cell_lt a0
    have hl2 : w.heap.size + 1 < V.heap.size := cell_lt b0
    have HS0 : Hid (Sr26 n12 (w.heap.size + 1) y x (.slice ya y.items.length yc) (.slice ax x.items.length cx) V V) := ⟨⟨⟨a0, a1, a2, a3⟩, b0, b1, b2, b3⟩, Below.refl _ _⟩
    have HSs : Hid (∀ (zb : Nat) (W : World) (v0 v1 v2 v3 : Value), V.heap.size ≤ zb → Sr26 n12 (w.heap.size + 1) y x (.slice ya y.items.length yc) (.slice ax x.items.length cx) V W → Sr26 n12 (w.heap.size + 1) y x (.slice ya y.items.length yc) (.slice ax x.items.length cx) V ((((W.setCell ⟨zb, 0, none⟩ v0).setCell ⟨zb, 1, none⟩ v1).setCell ⟨zb, 2, none⟩ v2).setCell ⟨zb, 3, none⟩ v3)) := fun zb W v0 v1 v2 v3 h1 h2 => sr_set hl1 hl2 h1 h2
    clear HyB HXV HTV HRV HSV hl1 hl2 HNo HPp HPx HPt' HPs HRt HOn Hyo Hyr HPP hszV hbV
    by_cases hpc1 : pc = 1
    · have hr0 := Hr0.out hpc1
      subst hpc1
      subst hr0
      have HPu0 : Hid (∀ (W : World) (a' : Option Addr) (c' : Nat), Below V.heap.size V W → Calls Tryz.prog 20 #[.agg #[.int .i64 y.kind, .int .i64 y.num, .string y.text, .slice ya y.items.length yc], .slice a' 0 c', .agg #[.int .i64 x.kind, .int .i64 x.num, .string x.text, .slice ax x.items.length cx]] W (RPutQ X y [] x W)) := fun W a' c' hW => HPu.out W a' c' hW (fun h => absurd rfl h) (Nat.zero_le _)
      clear HPu Hr0 hpc hn
      go_region_held3 (fun w' => ((w'.cell? ⟨n12, 0, none⟩ = some (.int .i64 y.kind) ∧ w'.cell? ⟨n12, 1, none⟩ = some (.int .i64 y.num) ∧ w'.cell? ⟨n12, 2, none⟩ = some (.string y.text) ∧ w'.cell? ⟨n12, 3, none⟩ = some (.slice ya y.items.length yc)) ∧ (w'.cell? ⟨w.heap.size + 1, 0, none⟩ = some (.int .i64 x.kind) ∧ w'.cell? ⟨w.heap.size + 1, 1, none⟩ = some (.int .i64 x.num) ∧ w'.cell? ⟨w.heap.size + 1, 2, none⟩ = some (.string x.text) ∧ w'.cell? ⟨w.heap.size + 1, 3, none⟩ = some (.slice ax x.items.length cx))) ∧ Below V.heap.size V w') (first | (with_reducible exact sr_drew HS0.out) | (with_reducible exact sr_allocD _ (by assumption)) | (with_reducible exact sr_alloc _ (by assumption)) | (with_reducible exact HS4.out) | (with_reducible exact sr_alloc _ HS4.out) | (with_reducible exact HSs.out _ _ _ _ _ _ (by omega) (by assumption)) | (with_reducible assumption))
        (first | (go_at_call 20; (with_reducible refine Calls.mono (HPu0.out _ _ _ (sr_below (by assumption))) ?_); rintro e w4 ⟨z, za, zc, b, rfl, hz1, hz2, hz3, hz4⟩; have hS4 := sr_keeps (n1 := n12) (n2 := w.heap.size + 1) (y := y) (x := x) (V := V) (by assumption) hz4; have HS4 : Hid (Sr26 n12 (w.heap.size + 1) y x (.slice ya y.items.length yc) (.slice ax x.items.length cx) V w4) := hS4; have hbV4 : Below V.heap.size V w4 := hS4.2; clear hS4; (first | (have HZ : Bx w4 V.heap.size zeroT (.slice none 0 0) := (by first | (with_reducible exact Bx.keeps (bx_allocZ V) hz4) | (with_reducible exact Bx.keeps (bx_allocZd V) hz4)); have HF := HFz.out w4 z za zc b hbV4 HZ (hz1.mono (fun q hq => by simp at hq; rcases hq with hq | hq; exact .inl hq; exact .inr (by omega))) hz2 hz3; obtain ⟨z0, z1, z2, z3, y0, y1, y2, y3⟩ := HZ) | (have HF := HF0.out w4 z za zc b hbV4 (hz1.mono (fun q hq => hq.imp id (fun hq => by simp at hq; omega))) hz2 hz3)); clear hz1 hz2 hz3 hz4 hbV4))
      all_goals (go_wp2_with fail; go_meet; exact ⟨_, z, za, zc, b, rfl, rfl, HF⟩)
    · have Hr0 : Hid True := trivial
      have h1c : (1 : Int) ≤ (pc : Int) := by omega
      have h2c : (r.length : Int) + 1 ≤ (pc : Int) := by omega
      have h0c : (1 : Int) ≤ (r.length : Int) + 1 := by omega
      go_region_held3 (fun w' => ((w'.cell? ⟨n12, 0, none⟩ = some (.int .i64 y.kind) ∧ w'.cell? ⟨n12, 1, none⟩ = some (.int .i64 y.num) ∧ w'.cell? ⟨n12, 2, none⟩ = some (.string y.text) ∧ w'.cell? ⟨n12, 3, none⟩ = some (.slice ya y.items.length yc)) ∧ (w'.cell? ⟨w.heap.size + 1, 0, none⟩ = some (.int .i64 x.kind) ∧ w'.cell? ⟨w.heap.size + 1, 1, none⟩ = some (.int .i64 x.num) ∧ w'.cell? ⟨w.heap.size + 1, 2, none⟩ = some (.string x.text) ∧ w'.cell? ⟨w.heap.size + 1, 3, none⟩ = some (.slice ax x.items.length cx))) ∧ Below V.heap.size V w') (first | (with_reducible exact sr_drew HS0.out) | (with_reducible exact sr_allocD _ (by assumption)) | (with_reducible exact sr_alloc _ (by assumption)) | (with_reducible exact HS4.out) | (with_reducible exact sr_alloc _ HS4.out) | (with_reducible exact HSs.out _ _ _ _ _ _ (by omega) (by assumption)) | (with_reducible assumption))
        (first | (go_at_call 20; (with_reducible refine Calls.mono (HPu.out _ _ _ (sr_below (by assumption)) ?_ ?_) ?_); (intro hne; first | rfl | exact absurd Hr0.out hne); (first | (simp; omega) | omega); rintro e w4 ⟨z, za, zc, b, rfl, hz1, hz2, hz3, hz4⟩; have hS4 := sr_keeps (n1 := n12) (n2 := w.heap.size + 1) (y := y) (x := x) (V := V) (by assumption) hz4; have HS4 : Hid (Sr26 n12 (w.heap.size + 1) y x (.slice ya y.items.length yc) (.slice ax x.items.length cx) V w4) := hS4; have hbV4 : Below V.heap.size V w4 := hS4.2; clear hS4; (first | (have HZ : Bx w4 V.heap.size zeroT (.slice none 0 0) := (by first | (with_reducible exact Bx.keeps (bx_allocZ V) hz4) | (with_reducible exact Bx.keeps (bx_allocZd V) hz4)); have HF := HFz.out w4 z za zc b hbV4 HZ (hz1.mono (fun q hq => by simp at hq; rcases hq with hq | hq; exact .inl hq; exact .inr (by omega))) hz2 hz3; obtain ⟨z0, z1, z2, z3, y0, y1, y2, y3⟩ := HZ) | (have HF := HF0.out w4 z za zc b hbV4 (hz1.mono (fun q hq => hq.imp id (fun hq => by simp at hq; omega))) hz2 hz3)); clear hz1 hz2 hz3 hz4 hbV4))
      all_goals (go_wp2_with fail; go_meet; exact ⟨_, z, za, zc, b, rfl, rfl, HF⟩)
  case rest =>
    obtain ⟨n14, z, za, zc, b, rfl, rfl, H14⟩ := hcut
    generalize hVx : wc = Vx at *
    clear hVx
    have hbx : Below V.heap.size V Vx := H14.out.below
    have hbw : Below w.heap.size w Vx := hbV.trans (hbx.mono hbV.size)
    have HTx : Hid (Bx Vx w.heap.size t (.slice a t.items.length c)) := HTV.out.keeps hbx
    have HRx : Hid (Bx Vx (w.heap.size + 2) zeroT (.slice none 0 0)) := HRV.out.keeps hbx
    have HSx : Hid (Bx Vx (w.heap.size + 3) s (.slice sa s.items.length sc)) := HSV.out.keeps hbx
    have HZx : Hid (Bx Vx n14 z (.slice za z.items.length zc)) := H14.out.box
    clear HTV HXV HRV HSV HyB HF0 HFz HPu ih Hr0 HPp HPx
    cases b
    · have hno : putT y r x = none := by
        rcases H14.out.tell with ⟨h1, _⟩ | ⟨_, h1, _⟩
        · cases h1
        · exact h1
      have HNo2 : Hid (∀ W, Below w.heap.size w W → PP (.returned (.tuple #[.agg #[.int .i64 0, .int .i64 0, .string ⟨#[]⟩, .slice none 0 0], .bool false])) W) := fun W hW => HNo.out W y Hyo.out hno hW
      clear hno HNo H14 Hyo Hyr HPP
      have HNo := HNo2
      have HE1 : Hid (PP (.returned (.tuple #[.agg #[.int .i64 0, .int .i64 0, .string ⟨#[]⟩, .slice none 0 0], .bool false])) (Vx.setCells (w.heap.size + 2) 0 (encP (zeroT, .slice none 0 0)))) := HNo.out _ (below_put hbw (by omega) _)
      have Hq : Hid (Bx (Vx.setCells (w.heap.size + 2) 0 (encP (zeroT, .slice none 0 0))) (w.heap.size + 2) zeroT (.slice none 0 0)) := HRx.out.put (zeroT, .slice none 0 0)
      obtain ⟨z0, z1, z2, z3, g0, g1, g2, g3⟩ := HRx.out
      go_wp2_with fail
      refine bodyPost_ret (v := .tuple #[.agg #[.int .i64 0, .int .i64 0, .string ⟨#[]⟩, .slice none 0 0], .bool false]) ?_ rfl HE1.out
      obtain ⟨q0, q1, q2, q3, _, _, _, _⟩ := Hq.out
      simp only [World.setCells, encP, Nat.zero_add, Nat.reduceAdd] at q0 q1 q2 q3
      simp [results, Tryz.results20, go_sem, q0, q1, q2, q3]
    · have hyes : putT y r x = some z := by
        rcases H14.out.tell with ⟨_, h1⟩ | ⟨h1, _⟩
        · exact h1
        · cases h1
      have Hzl : Hid (LiesX (fun q => X q ∨ V.heap.size ≤ q) (16 + r.length) Vx z.items (.slice za z.items.length zc)) := H14.out.lies
      have Hzt : Hid (z.text.size ≤ 9223372036854775807) := H14.out.size
      have Hzp : Hid (putT t (s :: r) x = some (t2'.putI i z)) := by show _ = _; rw [put_step HOn.out Hyo.out, hyes]
      clear hyes HNo H14 Hyo Hyr
      obtain ⟨i0, hi, hz0, hz1, hz2⟩ := info24
      have Hi : Hid _ := hi; have Hz0 : Hid _ := hz0; have Hz1 : Hid _ := hz1; have Hz2 : Hid _ := hz2
      clear hi hz0 hz1 hz2
      obtain ⟨ps, hps, hpl2, hsn, hsl, hsc, hso⟩ := src26 HPt'.out
      have HPl : Hid (∀ p ∈ ps, LiesX X 15 w p.1.items p.2 ∧ p.1.text.size ≤ 9223372036854775807) := hpl2
      have HSn : Hid (a = none → t.items.length = 0) := hsn
      have HSl : Hid ((ps.flatMap encP).length = t.items.length * 4) := hsl
      have HSc : Hid (∀ W, Below w.heap.size w W → ∀ ad, a = some ad → ∀ j u, (ps.flatMap encP)[j]? = some u → W.cell? (ad.add j) = some u) := hsc
      have HSo : Hid (∀ u ∈ ps.flatMap encP, u.oneCell' = true) := hso
      have HPm : Hid (ps.map (·.1) = t.items) := hps
      have hpsl : Hid (ps.length = t.items.length) := (by show _ = _; rw [← hps, List.length_map])
      clear hps hpl2 hsn hsl hsc hso
      have HbL : Hid (Below w.heap.size w (Vx.alloc (.cells #[] 24))) := hbw.alloc hbw.size _
      obtain ⟨t0, t1, t2, t3, _, _, _, _⟩ := HTx.out
      rw [Hk.out] at t0
      have l3 := cell_keeps ((Grew.refl Vx).alloc (.cells #[] 24)).below t3
      go_wp2_with (first
          | (at_builtin; refine wpList_append_row rfl _ _ rfl Vx.heap.size i0 Hi.out Hz0.out Hz1.out Hz2.out _ 0 [] rfl (World.ownsRow_lit Vx #[] 0 (Nat.le_refl _) (by unfold maxLen; omega) rfl) a t.items.length c (ps.flatMap encP) rfl HSn.out HSl.out (HSc.out _ HbL.out) HSo.out (by unfold maxLen; omega) (by omega) (by simp) ?_))
      intro v5 w5 hown5 hg5
      have hb5 : Below Vx.heap.size Vx w5 := (((Below.refl Vx.heap.size Vx).alloc (Nat.le_refl _) _)).grown hg5 (by simp) (by
        intro k hk
        simp [Value.ownBlock] at hk; omega)
      obtain ⟨a5, c5, rfl, _, h5lt⟩ := own_slice26 hown5
      have HOw : Hid (w5.ownsRow Vx.heap.size 24 4 (.slice a5 t.items.length c5) t.items.length (ps.flatMap encP)) := hown5
      have H5l : Hid (∀ k, (Value.slice a5 t.items.length c5).ownBlock = some k → Vx.heap.size ≤ k ∧ k < w5.heap.size) := h5lt
      have hbw5 : Below w.heap.size w w5 := hbw.trans (hb5.mono hbw.size)
      have HR5 : Hid (Bx w5 (w.heap.size + 2) zeroT (.slice none 0 0)) := HRx.out.keeps hb5
      have HS5 : Hid (Bx w5 (w.heap.size + 3) s (.slice sa s.items.length sc)) := HSx.out.keeps hb5
      have HZ5 : Hid (Bx w5 n14 z (.slice za z.items.length zc)) := HZx.out.keeps hb5
      have hsV5 : w.heap.size + 4 ≤ Vx.heap.size := by have := hbx.size; omega
      have hV5 : Vx.heap.size ≤ w5.heap.size := hb5.size
      have HzY : Hid (LiesX (fun q => (X q ∨ V.heap.size ≤ q) ∧ q < Vx.heap.size) (16 + r.length) Vx z.items (.slice za z.items.length zc)) := Hzl.out.both
      have HpY : Hid (∀ p ∈ ps, LiesX (fun q => (X q ∨ V.heap.size ≤ q) ∧ q < Vx.heap.size) (16 + r.length) Vx p.1.items p.2 ∧ p.1.text.size ≤ 9223372036854775807) := fun p hp => ⟨(((HPl.out p hp).1.keeps hbw).both.mono (fun b h => ⟨.inl h.1, h.2⟩)).atLeast _ (by omega), (HPl.out p hp).2⟩
      have HYY : Hid (∀ b, ((X b ∨ V.heap.size ≤ b) ∧ b < Vx.heap.size) → b < Vx.heap.size ∧ b ≠ w.heap.size + 2) := fun b h => ⟨h.2, by
        rcases h.1 with h | h
        · have := HXl.out b h; omega
        · omega⟩
      clear hown5 hg5 h5lt t0 t1 t2 t3 l3 HbL HSn HSl HSc HSo HPl HTx

      have hJp : J < ps.length := by rw [hpsl.out]; exact hJl
      have hown9 : w5.ownsRow Vx.heap.size 24 4 (.slice a5 t.items.length c5) ps.length (ps.flatMap encP) := by rw [hpsl.out]; exact HOw.out
      obtain ⟨g, cap, hv9, hgb, hcap, hglt, hrw, hfr⟩ := own_row hown9 (fun e => by rw [e] at hJp; simp at hJp)
      injection hv9 with e1 e2 e3
      clear e2
      subst e1
      subst e3
      obtain ⟨k0, k1, k2, k3⟩ := hrw J hJp
      simp only [Nat.zero_add] at k0 k1 k2 k3
      have HO9 : Hid (w5.ownsRow Vx.heap.size 24 4 (.slice (some ⟨g, 0, none⟩) ps.length c5) ps.length (ps.flatMap encP)) := by
        show World.ownsRow _ _ _ _ _ _ _
        have := hown9
        rwa [← hpsl.out] at this
      obtain ⟨W6, hW6⟩ : ∃ W6, W6 = w5.alloc (.cells #[.int .i64 4, .int .i64 0, .string ⟨#[]⟩, .slice (some ⟨g, 0, none⟩) t.items.length c5] 24) := ⟨_, rfl⟩
      have hg6 : Below w5.heap.size w5 W6 := by rw [hW6]; exact ((Grew.refl w5).alloc _).below
      have HbB : Hid (Bx W6 w5.heap.size ⟨4, 0, ⟨#[]⟩, []⟩ (.slice (some ⟨g, 0, none⟩) t.items.length c5)) := by rw [hW6]; exact bx_alloc w5 ⟨4, 0, ⟨#[]⟩, []⟩ _
      have HOz : Hid (W6.ownsRow Vx.heap.size 24 4 (.slice (some ⟨g, 0, none⟩) ps.length c5) ps.length (ps.flatMap encP)) := by rw [hW6]; exact HO9.out.alloc _
      have HW6 : Hid (w5.alloc (.cells #[.int .i64 4, .int .i64 0, .string ⟨#[]⟩, .slice (some ⟨g, 0, none⟩) t.items.length c5] 24) = W6) := hW6.symm
      have hb6 : Below Vx.heap.size Vx W6 := hb5.trans (hg6.mono hV5)
      have hbw6 : Below w.heap.size w W6 := hbw.trans (hb6.mono hbw.size)
      have HR6 : Hid (Bx W6 (w.heap.size + 2) zeroT (.slice none 0 0)) := HR5.out.keeps hg6
      replace k0 := cell_keeps hg6 k0; replace k1 := cell_keeps hg6 k1; replace k2 := cell_keeps hg6 k2; replace k3 := cell_keeps hg6 k3
      have r0 : W6.frozen? ⟨g, J * 4, none⟩ = false := (hg6.frozen (p := ⟨g, J * 4, none⟩) hglt).trans (hfr _)
      have r1 : W6.frozen? ⟨g, J * 4 + 1, none⟩ = false := (hg6.frozen (p := ⟨g, J * 4 + 1, none⟩) hglt).trans (hfr _)
      have r2 : W6.frozen? ⟨g, J * 4 + 2, none⟩ = false := (hg6.frozen (p := ⟨g, J * 4 + 2, none⟩) hglt).trans (hfr _)
      have r3 : W6.frozen? ⟨g, J * 4 + 3, none⟩ = false := (hg6.frozen (p := ⟨g, J * 4 + 3, none⟩) hglt).trans (hfr _)
      obtain ⟨y0, y1, y2, y3, _, _, _, _⟩ := HZ5.out.keeps hg6
      obtain ⟨s0, s1, s2, s3, _, _, _, _⟩ := HS5.out.keeps hg6
      rw [HsJ.out] at s1
      have hngB : ¬ g = w5.heap.size := by omega
      have hnBg : ¬ w5.heap.size = g := by omega
      have hng2 : ¬ g = w.heap.size + 2 := by omega
      have hn2g : ¬ w.heap.size + 2 = g := by omega
      have hB5 : ¬ w5.heap.size = w.heap.size + 2 := by omega
      have hJi : (J : Int) < (t.items.length : Nat) := by omega
      have HE1 : Hid (PP (.returned (.tuple #[.agg #[.int .i64 4, .int .i64 0, .string ⟨#[]⟩, .slice (some ⟨g, 0, none⟩) t.items.length c5], .bool true])) ((W6.setCells g (J * 4) (encP (z, .slice za z.items.length zc))).setCells (w.heap.size + 2) 0 (encP (⟨4, 0, ⟨#[]⟩, []⟩, .slice (some ⟨g, 0, none⟩) t.items.length c5)))) := by
        show PP _ _
        rw [← HPP.out]
        have hk := Hk.out
        obtain ⟨e1, e2⟩ := bare_right HRt.out.1 (by omega)
        have hl := rput_lies_i (N2 := w.heap.size + 2) HYY.out (by omega) HpY.out HzY.out Hzt.out hb6 HOz.out hJp (by rw [hpsl.out]; omega) (⟨4, 0, ⟨#[]⟩, []⟩, .slice (some ⟨g, 0, none⟩) t.items.length c5)
        rw [HPm.out, hpsl.out] at hl
        refine ⟨⟨4, 0, ⟨#[]⟩, t.items.set J z⟩, some ⟨g, 0, none⟩, c5, true, by simp, ?_, by show 0 ≤ _; omega, .inl ⟨rfl, ?_⟩, below_put (below_setsO hbw6 (by omega) _ _) (by omega) _⟩
        · rw [show (VT.items ⟨4, 0, ⟨#[]⟩, t.items.set J z⟩).length = t.items.length by simp]
          refine LiesX.mono (fun b hb => ?_) hl
          have h9 := hbx.size
          rcases hb with ⟨hb | hb, _⟩ | hb
          · exact .inl hb
          · exact .inr (by omega)
          · exact .inr (by omega)
        · have ho := HOn.out
          unfold opnT at ho
          rw [if_neg (by omega), if_pos hk, if_neg HEd.out, if_pos (idx_plc HIx.out)] at ho
          injection ho with ho
          injection ho with o1 o2
          rw [Hzp.out, ← o1, ← o2, HsJ.out]
          unfold VT.putI
          rw [e1, e2, hk]
          rfl
      have HR8 : Hid (Bx (W6.setCells g (J * 4) (encP (z, .slice za z.items.length zc))) (w.heap.size + 2) zeroT (.slice none 0 0)) := Bx.otherO HR6.out (by omega) _ _
      have HB8 : Hid (Bx (W6.setCells g (J * 4) (encP (z, .slice za z.items.length zc))) w5.heap.size ⟨4, 0, ⟨#[]⟩, []⟩ (.slice (some ⟨g, 0, none⟩) t.items.length c5)) := Bx.otherO HbB.out (by omega) _ _
      have Hq : Hid (Bx ((W6.setCells g (J * 4) (encP (z, .slice za z.items.length zc))).setCells (w.heap.size + 2) 0 (encP (⟨4, 0, ⟨#[]⟩, []⟩, .slice (some ⟨g, 0, none⟩) t.items.length c5))) (w.heap.size + 2) ⟨4, 0, ⟨#[]⟩, []⟩ (.slice (some ⟨g, 0, none⟩) t.items.length c5)) := HR8.out.put (⟨4, 0, ⟨#[]⟩, []⟩, .slice (some ⟨g, 0, none⟩) t.items.length c5)
      obtain ⟨b0, b1, b2, b3, _, _, _, _⟩ := HbB.out
      clear b0 b1 b2 hown9 hW6 hg6 hrw hfr hcap HO9 HOz HbB HR6 HOw H5l HR5 HS5 HZ5 HzY HpY HYY HPP HOn HRt Hzp Hzl Hzt HPt' HPs HPm HRx HSx HZx hb6 hbw6 HIx hbx hbw hbV hszV hb5 hbw5 hsV5 hV5 hgb hglt Hi Hz0 Hz1 Hz2 HEd HXl hX hpc hn hlen hJl s0 s2 s3 p0 p1 p2 p3
      have hJn : (0 : Int) ≤ (J : Int) := by omega
      generalize ps[J].1 = pj at *
      generalize ps[J].2 = pw at *
      clear hJp hpsl HsJ
      go_upto_region 15 with fail
      rw [HW6.out]
      clear HW6
      generalize w5.heap.size = B16 at *
      generalize t.items.length = L at *
      generalize z.items.length = lz at *
      go_upto_region 18 with fail
      obtain ⟨d0, d1, d2, d3, _, _, _, _⟩ := HB8.out
      obtain ⟨z0, z1, z2, z3, g0, g1, g2, g3⟩ := HR8.out
      simp only [World.setCells, encP] at d0 d1 d2 d3 z0 z1 z2 z3 g0 g1 g2 g3
      clear k0 k1 k2 k3 r0 r1 r2 r3 y0 y1 y2 y3 s1 b3
      go_wp2_with fail
      refine bodyPost_ret (v := .tuple #[.agg #[.int .i64 4, .int .i64 0, .string ⟨#[]⟩, .slice (some ⟨g, 0, none⟩) L c5], .bool true]) ?_ rfl HE1.out
      obtain ⟨q0, q1, q2, q3, _, _, _, _⟩ := Hq.out
      simp only [World.setCells, encP, Nat.zero_add, Nat.reduceAdd] at q0 q1 q2 q3
      simp [results, Tryz.results20, go_sem, q0, q1, q2, q3]

end Go.Proofs.YtofceccicmlmoaaGreat

namespace Go.Proofs.YtofceccicmlmoaaGreat
open Go.RowKit Go.Shelf

theorem rput_all (x : VT) (hxt : x.text.size ≤ 9223372036854775807) : ∀ (r : List VT), (∀ s ∈ r, rightV 16 s = true) → r.length ≤ 16 → RPutC r x := by
  intro r
  induction r with
  | nil =>
    intro _ _ X t a ax c cx pv w hX h hr hp hx
    obtain ⟨pa, pc, rfl, _⟩ := LiesX.slice hp
    exact rput_nil X t x a ax pa c cx pc _ w hX hx hxt
  | cons s r ih =>
    intro hs hn X t a ax c cx pv w hX h hr hp hx
    have hsr := hs s List.mem_cons_self
    have hn' : r.length ≤ 16 := by simp only [List.length_cons] at hn; omega
    have ih' : RPutC r x := ih (fun u hu => hs u (List.mem_cons_of_mem _ hu)) hn'
    cases ho : opnT t s with
    | none => exact rput_off s x r X t a ax c cx pv w hX h hr hp hsr hn' ho
    | some q =>
      obtain ⟨t2, i⟩ := q
      have ho2 := ho
      unfold opnT at ho2
      by_cases h0 : t.kind = 0
      · exact rput_k0 s x r X t a ax c cx pv w hX h hr hp hsr hn' h0 t2 i ho ih' hx
      · by_cases h6 : t.kind = 6
        · exact rput_k6 s x r X t a ax c cx pv w hX h hr hp hsr hn' h6 t2 i ho ih' hx
        · rw [if_neg (by omega)] at ho2
          by_cases h4 : t.kind = 4
          · rw [if_pos h4] at ho2
            by_cases hE : s.kind = 2 ∧ s.num = (t.items.length : Int)
            · exact rput_e4 s x r X t a ax c cx pv w hX h hr hp hsr hn' h4 t2 i ho ih' hx hE
            · rw [if_neg hE] at ho2
              by_cases hb : plcB t s = true
              · refine rput_i4 s x r X t a ax c cx pv w hX h hr hp hsr hn' h4 t2 i ho ih' hx ?_
                unfold plcB at hb
                rw [if_neg (by omega), if_pos h4] at hb
                unfold idxB
                rw [hb, h4]
                rfl
              · rw [if_neg hb] at ho2; cases ho2
          · rw [if_neg h4] at ho2; cases ho2

end Go.Proofs.YtofceccicmlmoaaGreat

namespace Go.Proofs.YtofceccicmlmoaaGreat
open Go.RowKit Go.Shelf

set_option maxHeartbeats 4000000 in
theorem rfit_any (d : Nat) (p : List VT) (v : Value) (w : World) (hv : Lies (d + 1) w p v) :
    Calls Tryz.prog 16 #[v] w fun e w' => e = .returned (.int .i64 (pthE d p)) ∧ Below w.heap.size w w' := by
  obtain ⟨a, c, rfl, _⟩ := Lies.slice hv
  have HC : Hid (Calls Tryz.prog 38 #[.slice a p.length c] w fun e w' => e = .returned (.int .i64 (listErr d p)) ∧ Below w.heap.size w w') := listed_any d p _ w hv
  clear hv
  by_cases hl : 16 < p.length
  · have he : pthE d p = 2 := by unfold pthE; rw [if_pos hl]
    rw [he]
    have hli : (16 : Int) < (p.length : Int) := by omega
    clear he hl
    generalize p.length = lp at *
    go_enter Tryz.func16, Tryz.ntmps16
    go_wp2_with fail
    go_ret
    exact ⟨rfl, Below.refl _ _⟩
  · have he : pthE d p = listErr d p := by unfold pthE; rw [if_neg hl]
    rw [he]
    have hli : ¬ (16 : Int) < (p.length : Int) := by omega
    clear he hl
    generalize listErr d p = E at *
    generalize p.length = lp at *
    go_enter Tryz.func16, Tryz.ntmps16
    go_wp2_with fail
    refine Calls.mono HC.out ?_
    rintro e w1 ⟨rfl, hb⟩
    go_wp2_with fail
    go_ret
    exact ⟨rfl, hb⟩

def op2 (w : World) (t : VT) (u : Value) : World := (w.alloc (.cells #[.int .i64 t.kind, .int .i64 t.num, .string t.text, u] 24)).alloc (.cells #[.int .i64 0, .int .i64 0, .string ⟨#[]⟩, .slice none 0 0] 24)
theorem op2_below (w : World) (t : VT) (u : Value) : Below w.heap.size w (op2 w t u) := (Grew.two _ _ _).below
theorem op2_fst (w : World) (t : VT) (u : Value) : Bx (op2 w t u) w.heap.size t u := (bx_alloc w t u).keeps ((Grew.refl _).alloc _).below
theorem op2_snd (w : World) (t : VT) (u : Value) : Bx (op2 w t u) (w.heap.size + 1) zeroT (.slice none 0 0) := by
  have := bx_alloc (w.alloc (.cells #[.int .i64 t.kind, .int .i64 t.num, .string t.text, u] 24)) zeroT (.slice none 0 0)
  rwa [World.size_alloc] at this

/-- A value and an error are told. -/
def RVX (X : Nat → Prop) (r : VT) (E : Int) (w : World) (e : Ending) (w' : World) : Prop :=
  ∃ u, e = .returned (.tuple #[.agg #[.int .i64 r.kind, .int .i64 r.num, .string r.text, u], .int .i64 E]) ∧ LiesX X 16 w' r.items u ∧ Below w.heap.size w w'

theorem RVX.mono {X Y : Nat → Prop} (hXY : ∀ b, X b → Y b) {r : VT} {E : Int} {w : World} {e : Ending} {w' : World} (h : RVX X r E w e w') : RVX Y r E w e w' := by
  obtain ⟨u, h1, h2, h3⟩ := h
  exact ⟨u, h1, h2.mono hXY, h3⟩

theorem rvPost_zero {X : Nat → Prop} {w w' : World} {E : Int} (h : Below w.heap.size w w') : RVX X zeroT E w (.returned (.tuple #[.agg #[.int .i64 0, .int .i64 0, .string ⟨#[]⟩, .slice none 0 0], .int .i64 E])) w' := ⟨_, rfl, liesX_nil X 16 w' none 0, h⟩

def dneE (D : Nat) (z : VT) (b : Bool) : Int := if b = true then (if rightV D z = true then 0 else 2) else 260
def dneR (D : Nat) (z : VT) (b : Bool) : VT := if b = true ∧ rightV D z = true then z else zeroT

set_option maxRecDepth 100000 in
set_option maxHeartbeats 8000000 in
theorem rdone26_any (X : Nat → Prop) (D : Nat) (z : VT) (b : Bool) (a : Option Addr) (c : Nat) (w : World) (hX : ∀ q, X q → q < w.heap.size) (h : LiesX X D w z.items (.slice a z.items.length c)) :
    Calls Tryz.prog 19 #[.agg #[.int .i64 z.kind, .int .i64 z.num, .string z.text, .slice a z.items.length c], .bool b] w (RVX X (dneR D z b) (dneE D z b) w) := by
  have HZ : Hid (Bx (op2 w z (.slice a z.items.length c)) w.heap.size z (.slice a z.items.length c)) := op2_fst _ _ _
  have HR : Hid (Bx (op2 w z (.slice a z.items.length c)) (w.heap.size + 1) zeroT (.slice none 0 0)) := op2_snd _ _ _
  have hb0 := op2_below w z (.slice a z.items.length c)
  obtain ⟨W0, hW0⟩ : ∃ W0, W0 = op2 w z (.slice a z.items.length c) := ⟨_, rfl⟩
  have HW0 : Hid (W0 = op2 w z (.slice a z.items.length c)) := hW0
  rw [← hW0] at HZ HR hb0
  clear hW0
  unfold op2 at HW0
  have HRi : Hid (Calls Tryz.prog 15 #[.agg #[.int .i64 z.kind, .int .i64 z.num, .string z.text, .slice a z.items.length c]] W0 fun e w' => e = .returned (.bool (rightV D z)) ∧ Below W0.heap.size W0 w') := right_any D z _ W0 ((h.keeps hb0).lies)
  obtain ⟨y0, y1, y2, y3, _, _, _, _⟩ := HZ.out
  by_cases hb : b = true
  · by_cases hr : rightV D z = true
    · have e1 : dneE D z b = 0 := by unfold dneE; rw [if_pos hb, if_pos hr]
      have e2 : dneR D z b = z := by unfold dneR; rw [if_pos ⟨hb, hr⟩]
      rw [e1, e2]
      rw [hr] at HRi
      have hc : LiesX X 16 w z.items (.slice a z.items.length c) := h.to (right_deep hr (Dp.of_lies D w z _ h.lies))
      have HL : Hid (LiesX X 16 w z.items (.slice a z.items.length c)) := hc
      have HXq : Hid (∀ q, X q → q < w.heap.size) := hX
      subst hb
      clear e1 e2 hr hc h
      obtain ⟨PP, hPP⟩ : ∃ PP, RVX X z 0 w = PP := ⟨_, rfl⟩
      rw [hPP]
      have HPP : Hid (RVX X z 0 w = PP) := hPP
      clear hPP
      go_enter Tryz.func19, Tryz.ntmps19
      go_upto_region 1 with fail
      rw [← HW0.out]
      clear HW0
      go_wp2_with fail
      refine Calls.mono HRi.out ?_
      rintro e w1 ⟨rfl, hg1⟩
      have hb2 : Below w.heap.size w w1 := hb0.trans (hg1.mono hb0.size)
      have HR1 : Hid (Bx w1 (w.heap.size + 1) zeroT (.slice none 0 0)) := HR.out.keeps hg1
      replace y0 := cell_keeps hg1 y0; replace y1 := cell_keeps hg1 y1; replace y2 := cell_keeps hg1 y2; replace y3 := cell_keeps hg1 y3
      have HE1 : Hid (PP (.returned (.tuple #[.agg #[.int .i64 z.kind, .int .i64 z.num, .string z.text, .slice a z.items.length c], .int .i64 0])) (w1.setCells (w.heap.size + 1) 0 (encP (z, .slice a z.items.length c)))) := by
        show PP _ _
        rw [← HPP.out]
        exact ⟨_, rfl, LiesX.set (g := w.heap.size + 1) (fun hq => by have := HXq.out _ hq; omega) (HL.out.keeps hb2), below_put hb2 (by omega) _⟩
      have Hq : Hid (Bx (w1.setCells (w.heap.size + 1) 0 (encP (z, .slice a z.items.length c))) (w.heap.size + 1) z (.slice a z.items.length c)) := HR1.out.put (z, .slice a z.items.length c)
      obtain ⟨z0, z1, z2, z3, g0, g1, g2, g3⟩ := HR1.out
      clear HL HR HR1 HZ hg1 hb2 hb0 HRi HPP
      generalize z.items.length = lz at *
      go_wp2_with fail
      refine bodyPost_ret (v := .tuple #[.agg #[.int .i64 z.kind, .int .i64 z.num, .string z.text, .slice a lz c], .int .i64 0]) ?_ rfl HE1.out
      obtain ⟨q0, q1, q2, q3, _, _, _, _⟩ := Hq.out
      simp only [World.setCells, encP, Nat.zero_add, Nat.reduceAdd] at q0 q1 q2 q3
      simp [results, Tryz.results19, go_sem, q0, q1, q2, q3]
    · have e1 : dneE D z b = 2 := by unfold dneE; rw [if_pos hb, if_neg hr]
      have e2 : dneR D z b = zeroT := by unfold dneR; rw [if_neg (fun h => hr h.2)]
      rw [e1, e2]
      have hrf : rightV D z = false := by simpa using hr
      rw [hrf] at HRi
      subst hb
      have HE : Hid (∀ W, Below w.heap.size w W → RVX X zeroT 2 w (.returned (.tuple #[.agg #[.int .i64 0, .int .i64 0, .string ⟨#[]⟩, .slice none 0 0], .int .i64 2])) W) := fun W hW => rvPost_zero hW
      clear e1 e2 hr hrf h
      generalize RVX X zeroT 2 w = PP at *
      go_enter Tryz.func19, Tryz.ntmps19
      go_upto_region 1 with fail
      rw [← HW0.out]
      clear HW0
      go_wp2_with fail
      refine Calls.mono HRi.out ?_
      rintro e w1 ⟨rfl, hg1⟩
      have hb2 : Below w.heap.size w w1 := hb0.trans (hg1.mono hb0.size)
      have HR1 : Hid (Bx w1 (w.heap.size + 1) zeroT (.slice none 0 0)) := HR.out.keeps hg1
      clear HR HZ hg1 hb0 HRi y0 y1 y2 y3
      have HE1 : Hid (PP (.returned (.tuple #[.agg #[.int .i64 0, .int .i64 0, .string ⟨#[]⟩, .slice none 0 0], .int .i64 2])) (w1.setCells (w.heap.size + 1) 0 (encP (zeroT, .slice none 0 0)))) := HE.out _ (below_put hb2 (by omega) _)
      have Hq : Hid (Bx (w1.setCells (w.heap.size + 1) 0 (encP (zeroT, .slice none 0 0))) (w.heap.size + 1) zeroT (.slice none 0 0)) := HR1.out.put (zeroT, .slice none 0 0)
      obtain ⟨z0, z1, z2, z3, g0, g1, g2, g3⟩ := HR1.out
      go_wp2_with fail
      refine bodyPost_ret (v := .tuple #[.agg #[.int .i64 0, .int .i64 0, .string ⟨#[]⟩, .slice none 0 0], .int .i64 2]) ?_ rfl HE1.out
      obtain ⟨q0, q1, q2, q3, _, _, _, _⟩ := Hq.out
      simp only [World.setCells, encP, Nat.zero_add, Nat.reduceAdd] at q0 q1 q2 q3
      simp [results, Tryz.results19, go_sem, q0, q1, q2, q3]
  · have e1 : dneE D z b = 260 := by unfold dneE; rw [if_neg hb]
    have e2 : dneR D z b = zeroT := by unfold dneR; rw [if_neg (fun h => hb h.1)]
    rw [e1, e2]
    have hbf : b = false := by simpa using hb
    subst hbf
    have HE : Hid (∀ W, Below w.heap.size w W → RVX X zeroT 260 w (.returned (.tuple #[.agg #[.int .i64 0, .int .i64 0, .string ⟨#[]⟩, .slice none 0 0], .int .i64 260])) W) := fun W hW => rvPost_zero hW
    clear e1 e2 hb h HRi
    generalize RVX X zeroT 260 w = PP at *
    go_enter Tryz.func19, Tryz.ntmps19
    go_upto_region 1 with fail
    rw [← HW0.out]
    clear HW0
    have HE1 : Hid (PP (.returned (.tuple #[.agg #[.int .i64 0, .int .i64 0, .string ⟨#[]⟩, .slice none 0 0], .int .i64 260])) (W0.setCells (w.heap.size + 1) 0 (encP (zeroT, .slice none 0 0)))) := HE.out _ (below_put hb0 (by omega) _)
    have Hq : Hid (Bx (W0.setCells (w.heap.size + 1) 0 (encP (zeroT, .slice none 0 0))) (w.heap.size + 1) zeroT (.slice none 0 0)) := HR.out.put (zeroT, .slice none 0 0)
    obtain ⟨z0, z1, z2, z3, g0, g1, g2, g3⟩ := HR.out
    go_wp2_with fail
    refine bodyPost_ret (v := .tuple #[.agg #[.int .i64 0, .int .i64 0, .string ⟨#[]⟩, .slice none 0 0], .int .i64 260]) ?_ rfl HE1.out
    obtain ⟨q0, q1, q2, q3, _, _, _, _⟩ := Hq.out
    simp only [World.setCells, encP, Nat.zero_add, Nat.reduceAdd] at q0 q1 q2 q3
    simp [results, Tryz.results19, go_sem, q0, q1, q2, q3]

end Go.Proofs.YtofceccicmlmoaaGreat

namespace Go.Proofs.YtofceccicmlmoaaGreat
open Go.RowKit Go.Shelf

/-- What the drawn region holds: a box, and a value of a row. -/
abbrev Sq26 (n1 n2 o2 : Nat) (y x : VT) (yv xv : Value) (V W : World) : Prop := ((W.cell? ⟨n1, 0, none⟩ = some (.int .i64 y.kind) ∧ W.cell? ⟨n1, 1, none⟩ = some (.int .i64 y.num) ∧ W.cell? ⟨n1, 2, none⟩ = some (.string y.text) ∧ W.cell? ⟨n1, 3, none⟩ = some yv) ∧ (W.cell? ⟨n2, o2, none⟩ = some (.int .i64 x.kind) ∧ W.cell? ⟨n2, o2 + 1, none⟩ = some (.int .i64 x.num) ∧ W.cell? ⟨n2, o2 + 2, none⟩ = some (.string x.text) ∧ W.cell? ⟨n2, o2 + 3, none⟩ = some xv)) ∧ Below V.heap.size V W

section
variable {n1 n2 o2 : Nat} {y x : VT} {yv xv : Value} {V W : World}
theorem sq_below (h : Sq26 n1 n2 o2 y x yv xv V W) : Below V.heap.size V W := h.2
theorem sq_keeps {W' : World} (h : Sq26 n1 n2 o2 y x yv xv V W) (hb : Below W.heap.size W W') : Sq26 n1 n2 o2 y x yv xv V W' := by
  obtain ⟨⟨⟨a0, a1, a2, a3⟩, b0, b1, b2, b3⟩, hV⟩ := h
  exact ⟨⟨⟨cell_keeps hb a0, cell_keeps hb a1, cell_keeps hb a2, cell_keeps hb a3⟩, cell_keeps hb b0, cell_keeps hb b1, cell_keeps hb b2, cell_keeps hb b3⟩, hV.trans (hb.mono hV.size)⟩
theorem sq_drew (h : Sq26 n1 n2 o2 y x yv xv V W) : Sq26 n1 n2 o2 y x yv xv V W.drew := sq_keeps h (Below.refl _ _).drew
theorem sq_alloc (o : Obj) (h : Sq26 n1 n2 o2 y x yv xv V W) : Sq26 n1 n2 o2 y x yv xv V (W.alloc o) := sq_keeps h ((Grew.refl _).alloc o).below
theorem sq_allocD (o : Obj) (h : Sq26 n1 n2 o2 y x yv xv V W.drew) : Sq26 n1 n2 o2 y x yv xv V (W.alloc o).drew := sq_alloc o h
theorem sq_set {zb : Nat} {v0 v1 v2 v3 : Value} (h1 : n1 < V.heap.size) (h2 : n2 < V.heap.size) (hz : V.heap.size ≤ zb) (h : Sq26 n1 n2 o2 y x yv xv V W) : Sq26 n1 n2 o2 y x yv xv V ((((W.setCell ⟨zb, 0, none⟩ v0).setCell ⟨zb, 1, none⟩ v1).setCell ⟨zb, 2, none⟩ v2).setCell ⟨zb, 3, none⟩ v3) := by
  obtain ⟨⟨⟨a0, a1, a2, a3⟩, b0, b1, b2, b3⟩, hV⟩ := h
  have k1 : n1 ≠ zb := by omega
  have k2 : n2 ≠ zb := by omega
  exact ⟨⟨⟨set4_k26 k1 a0, set4_k26 k1 a1, set4_k26 k1 a2, set4_k26 k1 a3⟩, set4_k26 k2 b0, set4_k26 k2 b1, set4_k26 k2 b2, set4_k26 k2 b3⟩, (((hV.setCell (p := ⟨zb, 0, none⟩) hz _).setCell (p := ⟨zb, 1, none⟩) hz _).setCell (p := ⟨zb, 2, none⟩) hz _).setCell (p := ⟨zb, 3, none⟩) hz _⟩
end

/-- What At tells. -/
def AtP (X : Nat → Prop) (t : VT) (p : List VT) (w : World) (e : Ending) (w' : World) : Prop :=
  ∃ (y : VT) (a : Option Addr) (c : Nat) (b : Bool), e = .returned (.tuple #[.agg #[.int .i64 y.kind, .int .i64 y.num, .string y.text, .slice a y.items.length c], .bool b]) ∧ LiesX X 16 w' y.items (.slice a y.items.length c) ∧ y.text.size ≤ 9223372036854775807 ∧ ((b = true ∧ atT t p = some y) ∨ (b = false ∧ atT t p = none ∧ y = zeroT)) ∧ Below w.heap.size w w'

theorem at_step {y s : VT} {r : List VT} {z : VT} (hz : (plcB y s = true ∧ y.items[(plcI y s).toNat]? = some z) ∨ (plcB y s = false ∧ z = zeroT)) : atT y (s :: r) = if plcB y s = true then atT z r else none := by
  conv => lhs; unfold atT
  rcases hz with ⟨h1, h2⟩ | ⟨h1, _⟩
  · rw [if_pos h1, if_pos h1, h2]
  · rw [h1]; rfl

/-- What stands behind the drawn region. -/
structure Ry26 (X : Nat → Prop) (V : World) (y s : VT) (wx : World) (n7 : Nat) (z : VT) (za : Option Addr) (zc : Nat) : Prop where
  box : Bx wx n7 z (.slice za z.items.length zc)
  lies : LiesX X 16 wx z.items (.slice za z.items.length zc)
  size : z.text.size ≤ 9223372036854775807
  tell : (plcB y s = true ∧ y.items[(plcI y s).toNat]? = some z) ∨ (plcB y s = false ∧ z = zeroT)
  below : Below V.heap.size V wx
  new : V.heap.size ≤ n7

set_option maxRecDepth 100000 in
set_option maxHeartbeats 16000000 in
theorem rat_any (X : Nat → Prop) (t : VT) (p : List VT) (a : Option Addr) (c : Nat) (pv : Value) (w : World) (hX : ∀ b, X b → b < w.heap.size) (ht : LiesX X 16 w t.items (.slice a t.items.length c)) (hr : rightV 16 t = true) (hts : t.text.size ≤ 9223372036854775807) (hp : Lies 17 w p pv) (hpr : ∀ s ∈ p, rightV 16 s = true) (hpl : p.length ≤ 16) :
    Calls Tryz.prog 18 #[.agg #[.int .i64 t.kind, .int .i64 t.num, .string t.text, .slice a t.items.length c], pv] w (AtP X t p w) := by
  obtain ⟨pa, pc, rfl, _⟩ := Lies.slice hp
  have HT : Hid (Bx (op2 w t (.slice a t.items.length c)) w.heap.size t (.slice a t.items.length c)) := op2_fst _ _ _
  have HR : Hid (Bx (op2 w t (.slice a t.items.length c)) (w.heap.size + 1) zeroT (.slice none 0 0)) := op2_snd _ _ _
  have hb0 := op2_below w t (.slice a t.items.length c)
  obtain ⟨W0, hW0⟩ : ∃ W0, W0 = op2 w t (.slice a t.items.length c) := ⟨_, rfl⟩
  have HW0 : Hid (W0 = op2 w t (.slice a t.items.length c)) := hW0
  rw [← hW0] at HT HR hb0
  clear hW0
  unfold op2 at HW0
  obtain ⟨a0, c0, hv, _, hrow⟩ := hp
  injection hv with e1 e2 e3
  clear e2
  subst e1
  subst e3
  have Hrow : Hid _ := hrow
  have HX : Hid (∀ b, X b → b < w.heap.size) := hX
  have HPr : Hid (∀ s ∈ p, rightV 16 s = true) := hpr
  obtain ⟨PP, hPP⟩ : ∃ PP, AtP X t p w = PP := ⟨_, rfl⟩
  rw [hPP]
  have HPP : Hid (AtP X t p w = PP) := hPP
  have HI0 : Hid (LiesX X 16 W0 t.items (.slice a t.items.length c) ∧ rightV 16 t = true ∧ t.text.size ≤ 9223372036854775807 ∧ atT t p = atT t (p.drop 0)) := ⟨ht.keeps hb0, hr, hts, rfl⟩
  clear hPP hrow hX hpr ht hr hts
  go_enter Tryz.func18, Tryz.ntmps18
  go_upto_region 1 with fail
  rw [← HW0.out]
  clear HW0
  go_wp2_with fail
  go_loopg [6] (p.length + 1) (fun z i wr => ∃ (j : Nat) (y : VT) (ya : Option Addr) (yc : Nat), i = .int .i64 (j : Int) ∧ z = p.length + 1 - j ∧ j ≤ p.length ∧ Hid (LiesX X 16 wr y.items (.slice ya y.items.length yc) ∧ rightV 16 y = true ∧ y.text.size ≤ 9223372036854775807 ∧ atT t p = atT y (p.drop j)) ∧ Hid (Bx wr w.heap.size y (.slice ya y.items.length yc)) ∧ Hid (Bx wr (w.heap.size + 1) zeroT (.slice none 0 0)) ∧ Below w.heap.size w wr)
  case atStart => exact ⟨0, t, a, c, rfl, rfl, Nat.zero_le _, HI0, HT, HR, hb0⟩
  case round =>
    obtain ⟨j, y, ya, yc, rfl, hk, hjl, HY, HB, HZ, hbw⟩ := hrel
    have Hk : Hid _ := hk
    clear hk hb0 HT HR HI0
    generalize hwr : wr = V at *
    clear hwr
    have hVs : w.heap.size + 1 < V.heap.size := cell_lt HZ.out.c0
    by_cases hlt : j < p.length
    · have hji : (j : Int) < (p.length : Nat) := by omega
      obtain ⟨b, o, rfl, hall⟩ := Hrow.out (by intro e; simp [e] at hlt)
      obtain ⟨sv, p0, p1, p2, p3, p4, _⟩ := hall j hlt
      obtain ⟨sa, sc, rfl, _⟩ := Lies.slice p4
      have Hsr : Hid (rightV 16 p[j] = true) := HPr.out _ (List.getElem_mem hlt)
      have Hdr : Hid (p.drop j = p[j] :: p.drop (j + 1)) := List.drop_eq_getElem_cons hlt
      have Hsl : Hid (Lies 16 w p[j].items (.slice sa p[j].items.length sc)) := p4.atLeast 16 (by omega)
      have p0 := cell_keeps hbw p0; have p1 := cell_keeps hbw p1; have p2 := cell_keeps hbw p2; have p3 := cell_keeps hbw p3
      clear hall p4
      generalize p[j] = s at *
      have HPt : Hid (∀ W, Below V.heap.size V W → Calls Tryz.prog 39 #[.agg #[.int .i64 y.kind, .int .i64 y.num, .string y.text, .slice ya y.items.length yc], .agg #[.int .i64 s.kind, .int .i64 s.num, .string s.text, .slice sa s.items.length sc]] W (PartP X y s W)) := fun W hW => rpart_any X y s ya sa yc sc W (HY.out.1.keeps hW) (Lies.keeps (hbw.trans (hW.mono hbw.size)) _ _ _ Hsl.out) HY.out.2.1
      have HF0 : Hid (∀ (W : World) (z : VT) (za : Option Addr) (zc : Nat), Below V.heap.size V W → LiesX X 16 W z.items (.slice za z.items.length zc) → z.text.size ≤ 9223372036854775807 → ((plcB y s = true ∧ y.items[(plcI y s).toNat]? = some z) ∨ (plcB y s = false ∧ z = zeroT)) → Hid (Ry26 X V y s (W.alloc (.cells #[.int .i64 z.kind, .int .i64 z.num, .string z.text, .slice za z.items.length zc] 24)) W.heap.size z za zc)) := fun W z za zc h1 h2 h3 h4 => ⟨bx_alloc W z _, h2.keeps ((Grew.refl W).alloc _).below, h3, h4, h1.alloc h1.size _, h1.size⟩
      have HFz : Hid (∀ (W : World) (z : VT) (za : Option Addr) (zc : Nat), Below V.heap.size V W → Bx W V.heap.size zeroT (.slice none 0 0) → LiesX X 16 W z.items (.slice za z.items.length zc) → z.text.size ≤ 9223372036854775807 → ((plcB y s = true ∧ y.items[(plcI y s).toNat]? = some z) ∨ (plcB y s = false ∧ z = zeroT)) → Hid (Ry26 X V y s (W.setCells V.heap.size 0 (encP (z, .slice za z.items.length zc))) V.heap.size z za zc)) := fun W z za zc h1 hb h2 h3 h4 => ⟨hb.put _, LiesX.set (g := V.heap.size) (fun hq => by have := HX.out _ hq; omega) h2, h3, h4, below_put h1 (Nat.le_refl _) _, Nat.le_refl _⟩
      obtain ⟨sb, so, hsb⟩ : ∃ sb so, sb = b ∧ so = o + j * 4 := ⟨_, _, rfl, rfl⟩
      obtain ⟨b0, b1, b2, b3, _, _, _, _⟩ := HB.out
      have hl1 : w.heap.size < V.heap.size := by omega
      have hl2 : b < V.heap.size := cell_lt p0
      have HS0 : Hid (Sq26 w.heap.size b (o + j * 4) y s (.slice ya y.items.length yc) (.slice sa s.items.length sc) V V) := ⟨⟨⟨b0, b1, b2, b3⟩, p0, p1, p2, p3⟩, Below.refl _ _⟩
      have HSs : Hid (∀ (zb : Nat) (W : World) (v0 v1 v2 v3 : Value), V.heap.size ≤ zb → Sq26 w.heap.size b (o + j * 4) y s (.slice ya y.items.length yc) (.slice sa s.items.length sc) V W → Sq26 w.heap.size b (o + j * 4) y s (.slice ya y.items.length yc) (.slice sa s.items.length sc) V ((((W.setCell ⟨zb, 0, none⟩ v0).setCell ⟨zb, 1, none⟩ v1).setCell ⟨zb, 2, none⟩ v2).setCell ⟨zb, 3, none⟩ v3)) := fun zb W v0 v1 v2 v3 h1 h2 => sq_set hl1 hl2 h1 h2
      clear hsb
      go_wp2_with fail
      go_cut [7, 8] from 15 to 23 (fun s7 s8 wx => ∃ n7 z za zc, s7 = .pointer (some ⟨n7, 0, none⟩) ∧ s8 = .bool (plcB y s) ∧ Hid (Ry26 X V y s wx n7 z za zc))
      case first =>
        clear HB HZ HY HPP Hsr Hdr Hsl Hk hl1 hl2
        go_region_held3 (fun w' => ((w'.cell? ⟨w.heap.size, 0, none⟩ = some (.int .i64 y.kind) ∧ w'.cell? ⟨w.heap.size, 1, none⟩ = some (.int .i64 y.num) ∧ w'.cell? ⟨w.heap.size, 2, none⟩ = some (.string y.text) ∧ w'.cell? ⟨w.heap.size, 3, none⟩ = some (.slice ya y.items.length yc)) ∧ (w'.cell? ⟨b, o + j * 4, none⟩ = some (.int .i64 s.kind) ∧ w'.cell? ⟨b, o + j * 4 + 1, none⟩ = some (.int .i64 s.num) ∧ w'.cell? ⟨b, o + j * 4 + 2, none⟩ = some (.string s.text) ∧ w'.cell? ⟨b, o + j * 4 + 3, none⟩ = some (.slice sa s.items.length sc))) ∧ Below V.heap.size V w') (first | (with_reducible exact sq_drew HS0.out) | (with_reducible exact sq_allocD _ (by assumption)) | (with_reducible exact sq_alloc _ (by assumption)) | (with_reducible exact HS4.out) | (with_reducible exact sq_alloc _ HS4.out) | (with_reducible exact HSs.out _ _ _ _ _ _ (by omega) (by assumption)) | (with_reducible assumption))
          (first | (go_at_call 39; (with_reducible refine Calls.mono (HPt.out _ (sq_below (by assumption))) ?_); rintro e w4 ⟨z, za, zc, rfl, hz1, hz2, hz3, hz4⟩; have hS4 := sq_keeps (n1 := w.heap.size) (n2 := b) (o2 := o + j * 4) (y := y) (x := s) (V := V) (by assumption) hz4; have HS4 : Hid (Sq26 w.heap.size b (o + j * 4) y s (.slice ya y.items.length yc) (.slice sa s.items.length sc) V w4) := hS4; have hbV4 : Below V.heap.size V w4 := hS4.2; clear hS4; (first | (have HZ : Bx w4 V.heap.size zeroT (.slice none 0 0) := (by first | (with_reducible exact Bx.keeps (bx_allocZ V) hz4) | (with_reducible exact Bx.keeps (bx_allocZd V) hz4)); have HF := HFz.out w4 z za zc hbV4 HZ (hz1.keeps hz4) hz2 hz3; obtain ⟨z0, z1, z2, z3, y0, y1, y2, y3⟩ := HZ) | (have HF := HF0.out w4 z za zc hbV4 (hz1.keeps hz4) hz2 hz3)); clear hz1 hz2 hz3 hz4 hbV4))
        all_goals (go_wp2_with fail; go_meet; exact ⟨_, z, za, zc, rfl, rfl, HF⟩)
      case rest =>
        obtain ⟨n7, z, za, zc, rfl, rfl, H7⟩ := hcut
        generalize hVx : wc = Vx at *
        clear hVx
        have hbx : Below V.heap.size V Vx := H7.out.below
        have hbwx : Below w.heap.size w Vx := hbw.trans (hbx.mono hbw.size)
        have HBx : Hid (Bx Vx w.heap.size y (.slice ya y.items.length yc)) := HB.out.keeps hbx
        have HZx : Hid (Bx Vx (w.heap.size + 1) zeroT (.slice none 0 0)) := HZ.out.keeps hbx
        have hst := at_step (r := p.drop (j + 1)) H7.out.tell
        rw [← Hdr.out, ← HY.out.2.2.2] at hst
        clear HB HZ HF0 HFz HS0 HSs HPt b0 b1 b2 b3 p0 p1 p2 p3 hl1 hl2
        by_cases hpB : plcB y s = true
        · have hzi : z ∈ y.items := by
            rcases H7.out.tell with ⟨_, h1⟩ | ⟨h1, _⟩
            · exact List.mem_of_getElem? h1
            · rw [h1] at hpB; cases hpB
          have hdy := Dp.of_lies 16 V y _ HY.out.1.lies
          rw [if_pos hpB] at hst
          rw [hpB]
          have HY2 : Hid (LiesX X 16 (Vx.setCells w.heap.size 0 (encP (z, .slice za z.items.length zc))) z.items (.slice za z.items.length zc) ∧ rightV 16 z = true ∧ z.text.size ≤ 9223372036854775807 ∧ atT t p = atT z (p.drop (j + 1))) := ⟨LiesX.set (g := w.heap.size) (fun h => by have := HX.out _ h; omega) H7.out.lies, (item_right HY.out.2.1 hdy hzi).1, H7.out.size, hst⟩
          have HB2 : Hid (Bx (Vx.setCells w.heap.size 0 (encP (z, .slice za z.items.length zc))) w.heap.size z (.slice za z.items.length zc)) := HBx.out.put (z, .slice za z.items.length zc)
          have HZ2 : Hid (Bx (Vx.setCells w.heap.size 0 (encP (z, .slice za z.items.length zc))) (w.heap.size + 1) zeroT (.slice none 0 0)) := HZx.out.other (by omega) _
          have hb2 : Below w.heap.size w (Vx.setCells w.heap.size 0 (encP (z, .slice za z.items.length zc))) := below_put hbwx (Nat.le_refl _) _
          obtain ⟨y0, y1, y2, y3, f0, f1, f2, f3⟩ := HBx.out
          obtain ⟨d0, d1, d2, d3, _, _, _, _⟩ := H7.out.box
          simp only [World.setCells, encP, Nat.zero_add, Nat.reduceAdd] at HY2 HB2 HZ2 hb2
          clear hst hpB hzi hdy HY HBx HZx H7 hbx hbwx Hsr Hdr Hsl hbw
          go_wp2_with fail
          go_roundg (p.length + 1 - (j + 1))
          case measure => have := Hk.out; omega
          case rel => exact ⟨j + 1, z, za, zc, by go_num, rfl, by omega, HY2, HB2, HZ2, hb2⟩
        · have hpf : plcB y s = false := by simpa using hpB
          rw [if_neg hpB] at hst
          rw [hpf]
          have HE1 : Hid (PP (.returned (.tuple #[.agg #[.int .i64 0, .int .i64 0, .string ⟨#[]⟩, .slice none 0 0], .bool false])) (Vx.setCells (w.heap.size + 1) 0 (encP (zeroT, .slice none 0 0)))) := by
            show PP _ _
            rw [← HPP.out]
            exact ⟨zeroT, none, 0, false, rfl, liesX_nil _ _ _ _ _, by decide, .inr ⟨rfl, hst, rfl⟩, below_put hbwx (by omega) _⟩
          have Hq : Hid (Bx (Vx.setCells (w.heap.size + 1) 0 (encP (zeroT, .slice none 0 0))) (w.heap.size + 1) zeroT (.slice none 0 0)) := HZx.out.put (zeroT, .slice none 0 0)
          obtain ⟨z0, z1, z2, z3, g0, g1, g2, g3⟩ := HZx.out
          clear hst hpB hpf HY HBx HZx H7 hbx hbwx Hsr Hdr Hsl hbw HPP Hk
          go_wp2_with fail
          refine bodyPost_ret (v := .tuple #[.agg #[.int .i64 0, .int .i64 0, .string ⟨#[]⟩, .slice none 0 0], .bool false]) ?_ rfl HE1.out
          obtain ⟨q0, q1, q2, q3, _, _, _, _⟩ := Hq.out
          simp only [World.setCells, encP, Nat.zero_add, Nat.reduceAdd] at q0 q1 q2 q3
          simp [results, Tryz.results18, go_sem, q0, q1, q2, q3]
    · obtain rfl : j = p.length := by omega
      have hji : ¬ (p.length : Int) < (p.length : Nat) := by omega
      have hfin : atT t p = some y := by rw [HY.out.2.2.2, List.drop_length]; rfl
      have HE1 : Hid (PP (.returned (.tuple #[.agg #[.int .i64 y.kind, .int .i64 y.num, .string y.text, .slice ya y.items.length yc], .bool true])) (V.setCells (w.heap.size + 1) 0 (encP (y, .slice ya y.items.length yc)))) := by
        show PP _ _
        rw [← HPP.out]
        exact ⟨y, ya, yc, true, rfl, LiesX.set (g := w.heap.size + 1) (fun h => by have := HX.out _ h; omega) HY.out.1, HY.out.2.2.1, .inl ⟨rfl, hfin⟩, below_put hbw (by omega) _⟩
      have Hq : Hid (Bx (V.setCells (w.heap.size + 1) 0 (encP (y, .slice ya y.items.length yc))) (w.heap.size + 1) y (.slice ya y.items.length yc)) := HZ.out.put (y, .slice ya y.items.length yc)
      obtain ⟨b0, b1, b2, b3, _, _, _, _⟩ := HB.out
      obtain ⟨z0, z1, z2, z3, g0, g1, g2, g3⟩ := HZ.out
      clear HB HZ HY HPP hfin hbw
      go_wp2_with fail
      refine bodyPost_ret (v := .tuple #[.agg #[.int .i64 y.kind, .int .i64 y.num, .string y.text, .slice ya y.items.length yc], .bool true]) ?_ rfl HE1.out
      obtain ⟨q0, q1, q2, q3, _, _, _, _⟩ := Hq.out
      simp only [World.setCells, encP, Nat.zero_add, Nat.reduceAdd] at q0 q1 q2 q3
      simp [results, Tryz.results18, go_sem, q0, q1, q2, q3]

end Go.Proofs.YtofceccicmlmoaaGreat

