/-
  The document's put at the end of a list.
-/
import Derived.Test.YtofceccicmlmoaaGreatRPutB
import Derived.Deep.RegionHeld3
import Derived.Deep.CutRange
import Derived.Deep.CutBlock
namespace Go.Proofs.YtofceccicmlmoaaGreat
open Go.RowKit Go.Shelf

set_option maxRecDepth 100000 in
set_option maxHeartbeats 16000000 in
/-- At the end of a list. -/
theorem rput_e4 (s x : VT) (r : List VT) (X : Nat → Prop) (t : VT) (a ax : Option Addr) (c cx : Nat) (pv : Value) (w : World) (hX : ∀ b, X b → b < w.heap.size) (h : LiesX X 16 w t.items (.slice a t.items.length c)) (hr : rightV 16 t = true) (hp : LiesX X 17 w (s :: r) pv) (hsr : rightV 16 s = true) (hn : r.length ≤ 16) (hk : t.kind = 4) (t2' : VT) (i : Nat) (ho : opnT t s = some (t2', i)) (ih : Hid (RPutC r x)) (hx : LiesX X 16 w x.items (.slice ax x.items.length cx)) (hE : s.kind = 2 ∧ s.num = (t.items.length : Int)) :
    Calls Tryz.prog 20 #[.agg #[.int .i64 t.kind, .int .i64 t.num, .string t.text, .slice a t.items.length c], pv, .agg #[.int .i64 x.kind, .int .i64 x.num, .string x.text, .slice ax x.items.length cx]] w (RPutQ X t (s :: r) x w) := by
  have hlen : t.items.length ≤ 1024 := right_len hr
  have hd := Dp.of_lies 16 w t _ h.lies
  obtain ⟨pa, pc, rfl, _⟩ := LiesX.slice hp
  have hp2 := hp
  obtain ⟨a0, c0, hv, hpl, hrow⟩ := hp2
  injection hv with e1 e2 e3
  subst e1
  subst e3
  clear e2
  obtain ⟨pb, po, rfl, hXp, hall⟩ := hrow (by simp)
  obtain ⟨sv, p0, p1, p2, p3, p4, p5⟩ := hall 0 (by simp)
  simp only [List.getElem_cons_zero, Nat.zero_mul, Nat.add_zero] at p0 p1 p2 p3 p4 p5
  obtain ⟨sa, sc, rfl, _⟩ := LiesX.slice p4
  have hsl : LiesX X 16 w s.items (.slice sa s.items.length sc) := p4.atLeast 16 (by omega)
  have hds : Dp 16 s := Dp.of_lies 16 w s _ hsl.lies
  have HT : Hid (Bx (op3 w t x (.slice a t.items.length c) (.slice ax x.items.length cx)) w.heap.size t (.slice a t.items.length c)) := op3_fst _ _ _ _ _
  have HX : Hid (Bx (op3 w t x (.slice a t.items.length c) (.slice ax x.items.length cx)) (w.heap.size + 1) x (.slice ax x.items.length cx)) := op3_snd _ _ _ _ _
  have HR : Hid (Bx (op3 w t x (.slice a t.items.length c) (.slice ax x.items.length cx)) (w.heap.size + 2) zeroT (.slice none 0 0)) := op3_thd _ _ _ _ _
  have hb0 := op3_below w t x (.slice a t.items.length c) (.slice ax x.items.length cx)
  obtain ⟨W0, hW0⟩ : ∃ W0, W0 = op3 w t x (.slice a t.items.length c) (.slice ax x.items.length cx) := ⟨_, rfl⟩
  have HW0 : Hid (W0 = op3 w t x (.slice a t.items.length c) (.slice ax x.items.length cx)) := hW0
  have hsz : W0.heap.size = w.heap.size + 3 := by rw [hW0]; exact op3_size _ _ _ _ _
  rw [← hW0] at HT HX HR hb0
  clear hW0
  unfold op3 at HW0
  have p0 := cell_keeps hb0 p0; have p1 := cell_keeps hb0 p1; have p2 := cell_keeps hb0 p2; have p3 := cell_keeps hb0 p3
  obtain ⟨W1, hW1⟩ : ∃ W1, W1 = W0.alloc (.cells #[.int .i64 s.kind, .int .i64 s.num, .string s.text, .slice sa s.items.length sc] 24) := ⟨_, rfl⟩
  have hb01 : Below W0.heap.size W0 W1 := by rw [hW1]; exact ((Grew.refl W0).alloc _).below
  have hb1 : Below w.heap.size w W1 := hb0.trans (hb01.mono hb0.size)
  have HS1 : Hid (Bx W1 (w.heap.size + 3) s (.slice sa s.items.length sc)) := by
    rw [hW1, ← hsz]
    exact bx_alloc W0 s _
  have HT1 : Hid (Bx W1 w.heap.size t (.slice a t.items.length c)) := HT.out.keeps hb01
  have HX1 : Hid (Bx W1 (w.heap.size + 1) x (.slice ax x.items.length cx)) := HX.out.keeps hb01
  have HR1 : Hid (Bx W1 (w.heap.size + 2) zeroT (.slice none 0 0)) := HR.out.keeps hb01
  have hsz1 : W1.heap.size = w.heap.size + 4 := by rw [hW1, World.size_alloc, hsz]
  have HW1 : Hid (W0.alloc (.cells #[.int .i64 s.kind, .int .i64 s.num, .string s.text, .slice sa s.items.length sc] 24) = W1) := hW1.symm
  clear hW1 hb01 HT HX HR hall hrow p4
  have HI : Hid (∀ W, Calls Tryz.prog 40 #[.agg #[.int .i64 t.kind, .int .i64 t.num, .string t.text, .slice a t.items.length c], .agg #[.int .i64 s.kind, .int .i64 s.num, .string s.text, .slice sa s.items.length sc]] W fun e w' => e = .returned (.tuple #[.int .i64 (if idxB t s = true then s.num else 0), .bool (idxB t s)]) ∧ Below W.heap.size W w') := fun W => rindex_any t s a sa c _ sc W
  have HPt : Hid (∀ W, Below w.heap.size w W → Calls Tryz.prog 39 #[.agg #[.int .i64 t.kind, .int .i64 t.num, .string t.text, .slice a t.items.length c], .agg #[.int .i64 s.kind, .int .i64 s.num, .string s.text, .slice sa s.items.length sc]] W (PartP X t s W)) := fun W hW => rpart_any X t s a sa c sc W (h.keeps hW) ((hsl.keeps hW).lies) hr
  have hIf : idxB t s = false := by
    cases hI : idxB t s
    · rfl
    · obtain ⟨J, e1, e2, _⟩ := idx_fact hI
      have := hE.2
      omega
  rw [hIf] at HI
  have j2 : (s.kind == 2) = true := by simpa using hE.1
  have hsn : (s.num == (t.items.length : Int)) = true := by simpa using hE.2
  have HEd : Hid (s.kind = 2 ∧ s.num = (t.items.length : Int)) := hE
  clear hE
  have HNo : Hid (∀ (W : World) (y : VT), t2'.items[i]? = some y → putT y r x = none → Below w.heap.size w W → RPutQ X t (s :: r) x w (.returned (.tuple #[.agg #[.int .i64 0, .int .i64 0, .string ⟨#[]⟩, .slice none 0 0], .bool false])) W) := fun W y hy hz hW => rput_none (by rw [put_step ho hy, hz]) hW
  have HYr : Hid (∀ y, t2'.items[i]? = some y → rightV 16 y = true) := fun y hy => by
    obtain ⟨_, _, _, _, k5⟩ := opn_there ho (right_even t hd hr)
    rw [hy] at k5
    rcases k5 with k5 | ⟨u, hu, k5⟩
    · injection k5 with k5; rw [k5]; exact nil_right
    · injection k5 with k5; rw [k5]; exact (item_right hr hd hu).1
  have HYo : Hid (∀ y, (plcB t s = true ∧ t.items[(plcI t s).toNat]? = some y) ∨ (plcB t s = false ∧ y = zeroT) → t2'.items[i]? = some y) := fun y hy => part_open ho hy
  have HPp : Hid (LiesX X 17 w (s :: r) (.slice (some ⟨pb, po, none⟩) (r.length + 1) pc)) := hp
  have HPx : Hid (LiesX X 16 w x.items (.slice ax x.items.length cx)) := hx
  have HXl : Hid (∀ b, X b → b < w.heap.size) := hX
  have HPt' : Hid (LiesX X 16 w t.items (.slice a t.items.length c)) := h
  have HPs : Hid (LiesX X 16 w s.items (.slice sa s.items.length sc)) := hsl
  have HRt : Hid (rightV 16 t = true ∧ Dp 16 t ∧ rightV 16 s = true ∧ Dp 16 s ∧ s.text.size ≤ 9223372036854775807) := ⟨hr, hd, hsr, hds, p5⟩
  have HOn : Hid (opnT t s = some (t2', i)) := ho
  have Hk : Hid (t.kind = 4) := hk
  have hpc : r.length + 1 ≤ pc := hpl.1
  have Hr0 : Hid (pc = 1 → r = []) := fun e => List.eq_nil_of_length_eq_zero (by omega)
  have hL : (s :: r).length = r.length + 1 := rfl
  rw [hL]
  obtain ⟨PP, hPP⟩ : ∃ PP, RPutQ X t (s :: r) x w = PP := ⟨_, rfl⟩
  rw [hPP] at HNo ⊢
  have HPP : Hid (RPutQ X t (s :: r) x w = PP) := hPP
  rw [hk] at HI HPt HW0 ⊢
  clear hPP hL h hr hp hsr hsl hd hds p5 ho hx hpl hXp
  obtain ⟨t0, t1, t2, t3, _, _, _, _⟩ := HT1.out
  rw [hk] at t0
  clear hk
  obtain ⟨s0, s1, s2, s3, _, _, _, _⟩ := HS1.out
  go_enter Tryz.func20, Tryz.ntmps20
  go_upto_region 1 with fail
  rw [← HW0.out]
  clear HW0
  go_upto_region 4 with fail
  rw [HW1.out]
  clear HW1
  go_wp2_with fail
  refine Calls.mono (HI.out _) ?_
  rintro e w1 ⟨rfl, hg1⟩
  have hb2 : Below w.heap.size w w1 := hb1.trans (hg1.mono hb1.size)
  have HT2 : Hid (Bx w1 w.heap.size t (.slice a t.items.length c)) := HT1.out.keeps hg1
  have HX2 : Hid (Bx w1 (w.heap.size + 1) x (.slice ax x.items.length cx)) := HX1.out.keeps hg1
  have HR2 : Hid (Bx w1 (w.heap.size + 2) zeroT (.slice none 0 0)) := HR1.out.keeps hg1
  have HS2 : Hid (Bx w1 (w.heap.size + 3) s (.slice sa s.items.length sc)) := HS1.out.keeps hg1
  have hsz2 : w.heap.size + 4 ≤ w1.heap.size := by have := hg1.size; omega
  replace t0 := cell_keeps hg1 t0; replace t1 := cell_keeps hg1 t1; replace t2 := cell_keeps hg1 t2; replace t3 := cell_keeps hg1 t3
  replace s0 := cell_keeps hg1 s0; replace s1 := cell_keeps hg1 s1; replace s2 := cell_keeps hg1 s2; replace s3 := cell_keeps hg1 s3
  clear hg1 hb1 hb0 HR1 HX1 HT1 HS1 HI p0 p1 p2 p3 hsz hsz1
  go_wp2_with fail
  refine Calls.mono (HPt.out _ hb2) ?_
  rintro e w2 ⟨y, ya, yc, rfl, hy1, hy2, hy3, hg2⟩
  have Hyo : Hid (t2'.items[i]? = some y) := HYo.out y hy3
  have Hyr : Hid (rightV 16 y = true) := HYr.out y Hyo.out
  obtain ⟨V, hV⟩ : ∃ V, V = w2.alloc (.cells #[.int .i64 y.kind, .int .i64 y.num, .string y.text, .slice ya y.items.length yc] 24) := ⟨_, rfl⟩
  have hgV : Below w1.heap.size w1 V := by rw [hV]; exact hg2.alloc hg2.size _
  have hbV : Below w.heap.size w V := hb2.trans (hgV.mono hb2.size)
  have HyB : Hid (Bx V w2.heap.size y (.slice ya y.items.length yc)) := by rw [hV]; exact bx_alloc w2 y _
  have HTV : Hid (Bx V w.heap.size t (.slice a t.items.length c)) := HT2.out.keeps hgV
  have HXV : Hid (Bx V (w.heap.size + 1) x (.slice ax x.items.length cx)) := HX2.out.keeps hgV
  have HRV : Hid (Bx V (w.heap.size + 2) zeroT (.slice none 0 0)) := HR2.out.keeps hgV
  have HSV : Hid (Bx V (w.heap.size + 3) s (.slice sa s.items.length sc)) := HS2.out.keeps hgV
  have hszV : w.heap.size + 4 ≤ V.heap.size := by have := hgV.size; omega
  have hPu : ∀ (W : World) (a' : Option Addr) (c' : Nat), Below V.heap.size V W → (r ≠ [] → a' = some ⟨pb, po + 4, none⟩) → r.length ≤ c' → Calls Tryz.prog 20 #[.agg #[.int .i64 y.kind, .int .i64 y.num, .string y.text, .slice ya y.items.length yc], .slice a' r.length c', .agg #[.int .i64 x.kind, .int .i64 x.num, .string x.text, .slice ax x.items.length cx]] W (RPutQ X y r x W) := fun W a' c' hW h1 h2 => ih.out X y ya ax yc cx _ W (fun b hb => by have := HXl.out b hb; have := hW.size; omega) ((hy1.keeps hgV).keeps hW) Hyr.out (rest_lies (HPp.out.keeps (hbV.trans (hW.mono hbV.size))) a' c' h1 h2) (HPx.out.keeps (hbV.trans (hW.mono hbV.size)))
  have HPu : Hid (∀ (W : World) (a' : Option Addr) (c' : Nat), Below V.heap.size V W → (r ≠ [] → a' = some ⟨pb, po + 4, none⟩) → r.length ≤ c' → Calls Tryz.prog 20 #[.agg #[.int .i64 y.kind, .int .i64 y.num, .string y.text, .slice ya y.items.length yc], .slice a' r.length c', .agg #[.int .i64 x.kind, .int .i64 x.num, .string x.text, .slice ax x.items.length cx]] W (RPutQ X y r x W)) := hPu
  have HV : Hid (w2.alloc (.cells #[.int .i64 y.kind, .int .i64 y.num, .string y.text, .slice ya y.items.length yc] 24) = V) := hV.symm
  clear hPu hV hgV hg2 hy1 hy2 hy3 HT2 HX2 HR2 HS2 HPt HYo HYr hb2 t0 t1 t2 t3 s0 s1 s2 s3 hsz2
  obtain ⟨n12, hn12⟩ : ∃ n, n = w2.heap.size := ⟨_, rfl⟩
  have Hn12 : Hid (w2.heap.size = n12) := hn12.symm
  rw [← hn12] at HyB
  clear hn12
  generalize plcB t s = pB at *
  go_upto_region 9 with fail
  rw [HV.out, Hn12.out]
  clear HV Hn12
  have HF0 : Hid (∀ (W : World) (z : VT) (za : Option Addr) (zc : Nat) (b : Bool), Below V.heap.size V W → LiesX (fun q => X q ∨ V.heap.size ≤ q) (16 + r.length) W z.items (.slice za z.items.length zc) → z.text.size ≤ 9223372036854775807 → ((b = true ∧ putT y r x = some z) ∨ (b = false ∧ putT y r x = none ∧ z = zeroT)) → Hid (Rz26 X V (16 + r.length) y x r (W.alloc (.cells #[.int .i64 z.kind, .int .i64 z.num, .string z.text, .slice za z.items.length zc] 24)) W.heap.size z za zc b)) := fun W z za zc b h1 h2 h3 h4 => ⟨bx_alloc W z _, h2.keeps ((Grew.refl W).alloc _).below, h3, h4, h1.alloc h1.size _⟩
  have HFz : Hid (∀ (W : World) (z : VT) (za : Option Addr) (zc : Nat) (b : Bool), Below V.heap.size V W → Bx W V.heap.size zeroT (.slice none 0 0) → LiesX (fun q => X q ∨ V.heap.size + 1 ≤ q) (16 + r.length) W z.items (.slice za z.items.length zc) → z.text.size ≤ 9223372036854775807 → ((b = true ∧ putT y r x = some z) ∨ (b = false ∧ putT y r x = none ∧ z = zeroT)) → Hid (Rz26 X V (16 + r.length) y x r (W.setCells V.heap.size 0 (encP (z, .slice za z.items.length zc))) V.heap.size z za zc b)) := fun W z za zc b h1 hb h2 h3 h4 => ⟨hb.put _, (LiesX.set (g := V.heap.size) (fun hq => by
      rcases hq with hq | hq
      · have := HXl.out _ hq; omega
      · omega) h2).mono (fun q hq => hq.imp id (fun hq => by omega)), h3, h4, below_put h1 (Nat.le_refl _) _⟩
  go_cut [14, 15] from 69 to 76 (fun s14 s15 wx => ∃ n14 z za zc b, s14 = .pointer (some ⟨n14, 0, none⟩) ∧ s15 = .bool b ∧ Hid (Rz26 X V (16 + r.length) y x r wx n14 z za zc b))
  case first =>
    obtain ⟨a0, a1, a2, a3, _, _, _, _⟩ := HyB.out
    obtain ⟨b0, b1, b2, b3, _, _, _, _⟩ := HXV.out
    have hl1 : n12 < V.heap.size := cell_lt a0
    have hl2 : w.heap.size + 1 < V.heap.size := cell_lt b0
    have HS0 : Hid (Sr26 n12 (w.heap.size + 1) y x (.slice ya y.items.length yc) (.slice ax x.items.length cx) V V) := ⟨⟨⟨a0, a1, a2, a3⟩, b0, b1, b2, b3⟩, Below.refl _ _⟩
    have HSs : Hid (∀ (zb : Nat) (W : World) (v0 v1 v2 v3 : Value), V.heap.size ≤ zb → Sr26 n12 (w.heap.size + 1) y x (.slice ya y.items.length yc) (.slice ax x.items.length cx) V W → Sr26 n12 (w.heap.size + 1) y x (.slice ya y.items.length yc) (.slice ax x.items.length cx) V ((((W.setCell ⟨zb, 0, none⟩ v0).setCell ⟨zb, 1, none⟩ v1).setCell ⟨zb, 2, none⟩ v2).setCell ⟨zb, 3, none⟩ v3)) := fun zb W v0 v1 v2 v3 h1 h2 => sr_set hl1 hl2 h1 h2
    clear HyB HXV HTV HRV HSV hl1 hl2 HNo HPp HPx HPt' HPs HRt HOn Hyo Hyr HPP hszV hbV
    by_cases hpc1 : pc = 1
    · have hr0 := Hr0.out hpc1
      subst hpc1
      subst hr0
      have HPu0 : Hid (∀ (W : World) (a' : Option Addr) (c' : Nat), Below V.heap.size V W → Calls Tryz.prog 20 #[.agg #[.int .i64 y.kind, .int .i64 y.num, .string y.text, .slice ya y.items.length yc], .slice a' 0 c', .agg #[.int .i64 x.kind, .int .i64 x.num, .string x.text, .slice ax x.items.length cx]] W (RPutQ X y [] x W)) := fun W a' c' hW => HPu.out W a' c' hW (fun h => absurd rfl h) (Nat.zero_le _)
      clear HPu Hr0 hpc hn
      go_region_held3 (fun w' => ((w'.cell? ⟨n12, 0, none⟩ = some (.int .i64 y.kind) ∧ w'.cell? ⟨n12, 1, none⟩ = some (.int .i64 y.num) ∧ w'.cell? ⟨n12, 2, none⟩ = some (.string y.text) ∧ w'.cell? ⟨n12, 3, none⟩ = some (.slice ya y.items.length yc)) ∧ (w'.cell? ⟨w.heap.size + 1, 0, none⟩ = some (.int .i64 x.kind) ∧ w'.cell? ⟨w.heap.size + 1, 1, none⟩ = some (.int .i64 x.num) ∧ w'.cell? ⟨w.heap.size + 1, 2, none⟩ = some (.string x.text) ∧ w'.cell? ⟨w.heap.size + 1, 3, none⟩ = some (.slice ax x.items.length cx))) ∧ Below V.heap.size V w') (first | (with_reducible exact sr_drew HS0.out) | (with_reducible exact sr_allocD _ (by assumption)) | (with_reducible exact sr_alloc _ (by assumption)) | (with_reducible exact HS4.out) | (with_reducible exact sr_alloc _ HS4.out) | (with_reducible exact HSs.out _ _ _ _ _ _ (by omega) (by assumption)) | (with_reducible assumption))
        (first | (go_at_call 20; (with_reducible refine Calls.mono (HPu0.out _ _ _ (sr_below (by assumption))) ?_); rintro e w4 ⟨z, za, zc, b, rfl, hz1, hz2, hz3, hz4⟩; have hS4 := sr_keeps (n1 := n12) (n2 := w.heap.size + 1) (y := y) (x := x) (V := V) (by assumption) hz4; have HS4 : Hid (Sr26 n12 (w.heap.size + 1) y x (.slice ya y.items.length yc) (.slice ax x.items.length cx) V w4) := hS4; have hbV4 : Below V.heap.size V w4 := hS4.2; clear hS4; (first | (have HZ : Bx w4 V.heap.size zeroT (.slice none 0 0) := (by first | (with_reducible exact Bx.keeps (bx_allocZ V) hz4) | (with_reducible exact Bx.keeps (bx_allocZd V) hz4)); have HF := HFz.out w4 z za zc b hbV4 HZ (hz1.mono (fun q hq => by simp at hq; rcases hq with hq | hq; exact .inl hq; exact .inr (by omega))) hz2 hz3; obtain ⟨z0, z1, z2, z3, y0, y1, y2, y3⟩ := HZ) | (have HF := HF0.out w4 z za zc b hbV4 (hz1.mono (fun q hq => hq.imp id (fun hq => by simp at hq; omega))) hz2 hz3)); clear hz1 hz2 hz3 hz4 hbV4))
      all_goals (go_wp2_with fail; go_meet; exact ⟨_, z, za, zc, b, rfl, rfl, HF⟩)
    · have Hr0 : Hid True := trivial
      have h1c : (1 : Int) ≤ (pc : Int) := by omega
      have h2c : (r.length : Int) + 1 ≤ (pc : Int) := by omega
      have h0c : (1 : Int) ≤ (r.length : Int) + 1 := by omega
      go_region_held3 (fun w' => ((w'.cell? ⟨n12, 0, none⟩ = some (.int .i64 y.kind) ∧ w'.cell? ⟨n12, 1, none⟩ = some (.int .i64 y.num) ∧ w'.cell? ⟨n12, 2, none⟩ = some (.string y.text) ∧ w'.cell? ⟨n12, 3, none⟩ = some (.slice ya y.items.length yc)) ∧ (w'.cell? ⟨w.heap.size + 1, 0, none⟩ = some (.int .i64 x.kind) ∧ w'.cell? ⟨w.heap.size + 1, 1, none⟩ = some (.int .i64 x.num) ∧ w'.cell? ⟨w.heap.size + 1, 2, none⟩ = some (.string x.text) ∧ w'.cell? ⟨w.heap.size + 1, 3, none⟩ = some (.slice ax x.items.length cx))) ∧ Below V.heap.size V w') (first | (with_reducible exact sr_drew HS0.out) | (with_reducible exact sr_allocD _ (by assumption)) | (with_reducible exact sr_alloc _ (by assumption)) | (with_reducible exact HS4.out) | (with_reducible exact sr_alloc _ HS4.out) | (with_reducible exact HSs.out _ _ _ _ _ _ (by omega) (by assumption)) | (with_reducible assumption))
        (first | (go_at_call 20; (with_reducible refine Calls.mono (HPu.out _ _ _ (sr_below (by assumption)) ?_ ?_) ?_); (intro hne; first | rfl | exact absurd Hr0.out hne); (first | (simp; omega) | omega); rintro e w4 ⟨z, za, zc, b, rfl, hz1, hz2, hz3, hz4⟩; have hS4 := sr_keeps (n1 := n12) (n2 := w.heap.size + 1) (y := y) (x := x) (V := V) (by assumption) hz4; have HS4 : Hid (Sr26 n12 (w.heap.size + 1) y x (.slice ya y.items.length yc) (.slice ax x.items.length cx) V w4) := hS4; have hbV4 : Below V.heap.size V w4 := hS4.2; clear hS4; (first | (have HZ : Bx w4 V.heap.size zeroT (.slice none 0 0) := (by first | (with_reducible exact Bx.keeps (bx_allocZ V) hz4) | (with_reducible exact Bx.keeps (bx_allocZd V) hz4)); have HF := HFz.out w4 z za zc b hbV4 HZ (hz1.mono (fun q hq => by simp at hq; rcases hq with hq | hq; exact .inl hq; exact .inr (by omega))) hz2 hz3; obtain ⟨z0, z1, z2, z3, y0, y1, y2, y3⟩ := HZ) | (have HF := HF0.out w4 z za zc b hbV4 (hz1.mono (fun q hq => hq.imp id (fun hq => by simp at hq; omega))) hz2 hz3)); clear hz1 hz2 hz3 hz4 hbV4))
      all_goals (go_wp2_with fail; go_meet; exact ⟨_, z, za, zc, b, rfl, rfl, HF⟩)
  case rest =>
    obtain ⟨n14, z, za, zc, b, rfl, rfl, H14⟩ := hcut
    generalize hVx : wc = Vx at *
    clear hVx
    have hbx : Below V.heap.size V Vx := H14.out.below
    have hbw : Below w.heap.size w Vx := hbV.trans (hbx.mono hbV.size)
    have HTx : Hid (Bx Vx w.heap.size t (.slice a t.items.length c)) := HTV.out.keeps hbx
    have HRx : Hid (Bx Vx (w.heap.size + 2) zeroT (.slice none 0 0)) := HRV.out.keeps hbx
    have HSx : Hid (Bx Vx (w.heap.size + 3) s (.slice sa s.items.length sc)) := HSV.out.keeps hbx
    have HZx : Hid (Bx Vx n14 z (.slice za z.items.length zc)) := H14.out.box
    clear HTV HXV HRV HSV HyB HF0 HFz HPu ih Hr0 HPp HPx
    cases b
    · have hno : putT y r x = none := by
        rcases H14.out.tell with ⟨h1, _⟩ | ⟨_, h1, _⟩
        · cases h1
        · exact h1
      have HNo2 : Hid (∀ W, Below w.heap.size w W → PP (.returned (.tuple #[.agg #[.int .i64 0, .int .i64 0, .string ⟨#[]⟩, .slice none 0 0], .bool false])) W) := fun W hW => HNo.out W y Hyo.out hno hW
      clear hno HNo H14 Hyo Hyr HPP
      have HNo := HNo2
      have HE1 : Hid (PP (.returned (.tuple #[.agg #[.int .i64 0, .int .i64 0, .string ⟨#[]⟩, .slice none 0 0], .bool false])) (Vx.setCells (w.heap.size + 2) 0 (encP (zeroT, .slice none 0 0)))) := HNo.out _ (below_put hbw (by omega) _)
      have Hq : Hid (Bx (Vx.setCells (w.heap.size + 2) 0 (encP (zeroT, .slice none 0 0))) (w.heap.size + 2) zeroT (.slice none 0 0)) := HRx.out.put (zeroT, .slice none 0 0)
      obtain ⟨z0, z1, z2, z3, g0, g1, g2, g3⟩ := HRx.out
      go_wp2_with fail
      refine bodyPost_ret (v := .tuple #[.agg #[.int .i64 0, .int .i64 0, .string ⟨#[]⟩, .slice none 0 0], .bool false]) ?_ rfl HE1.out
      obtain ⟨q0, q1, q2, q3, _, _, _, _⟩ := Hq.out
      simp only [World.setCells, encP, Nat.zero_add, Nat.reduceAdd] at q0 q1 q2 q3
      simp [results, Tryz.results20, go_sem, q0, q1, q2, q3]
    · have hyes : putT y r x = some z := by
        rcases H14.out.tell with ⟨_, h1⟩ | ⟨h1, _⟩
        · exact h1
        · cases h1
      have Hzl : Hid (LiesX (fun q => X q ∨ V.heap.size ≤ q) (16 + r.length) Vx z.items (.slice za z.items.length zc)) := H14.out.lies
      have Hzt : Hid (z.text.size ≤ 9223372036854775807) := H14.out.size
      have Hzp : Hid (putT t (s :: r) x = some (t2'.putI i z)) := by show _ = _; rw [put_step HOn.out Hyo.out, hyes]
      clear hyes HNo H14 Hyo Hyr
      obtain ⟨i0, hi, hz0, hz1, hz2⟩ := info24
      have Hi : Hid _ := hi; have Hz0 : Hid _ := hz0; have Hz1 : Hid _ := hz1; have Hz2 : Hid _ := hz2
      clear hi hz0 hz1 hz2
      obtain ⟨ps, hps, hpl2, hsn, hsl, hsc, hso⟩ := src26 HPt'.out
      have HPl : Hid (∀ p ∈ ps, LiesX X 15 w p.1.items p.2 ∧ p.1.text.size ≤ 9223372036854775807) := hpl2
      have HSn : Hid (a = none → t.items.length = 0) := hsn
      have HSl : Hid ((ps.flatMap encP).length = t.items.length * 4) := hsl
      have HSc : Hid (∀ W, Below w.heap.size w W → ∀ ad, a = some ad → ∀ j u, (ps.flatMap encP)[j]? = some u → W.cell? (ad.add j) = some u) := hsc
      have HSo : Hid (∀ u ∈ ps.flatMap encP, u.oneCell' = true) := hso
      have HPm : Hid (ps.map (·.1) = t.items) := hps
      have hpsl : Hid (ps.length = t.items.length) := (by show _ = _; rw [← hps, List.length_map])
      clear hps hpl2 hsn hsl hsc hso
      have HbL : Hid (Below w.heap.size w (Vx.alloc (.cells #[] 24))) := hbw.alloc hbw.size _
      obtain ⟨t0, t1, t2, t3, _, _, _, _⟩ := HTx.out
      rw [Hk.out] at t0
      have l3 := cell_keeps ((Grew.refl Vx).alloc (.cells #[] 24)).below t3
      go_wp2_with (first
          | (at_builtin; refine wpList_append_row rfl _ _ rfl Vx.heap.size i0 Hi.out Hz0.out Hz1.out Hz2.out _ 0 [] rfl (World.ownsRow_lit Vx #[] 0 (Nat.le_refl _) (by unfold maxLen; omega) rfl) a t.items.length c (ps.flatMap encP) rfl HSn.out HSl.out (HSc.out _ HbL.out) HSo.out (by unfold maxLen; omega) (by omega) (by simp) ?_))
      intro v5 w5 hown5 hg5
      have hb5 : Below Vx.heap.size Vx w5 := (((Below.refl Vx.heap.size Vx).alloc (Nat.le_refl _) _)).grown hg5 (by simp) (by
        intro k hk
        simp [Value.ownBlock] at hk; omega)
      obtain ⟨a5, c5, rfl, _, h5lt⟩ := own_slice26 hown5
      have HOw : Hid (w5.ownsRow Vx.heap.size 24 4 (.slice a5 t.items.length c5) t.items.length (ps.flatMap encP)) := hown5
      have H5l : Hid (∀ k, (Value.slice a5 t.items.length c5).ownBlock = some k → Vx.heap.size ≤ k ∧ k < w5.heap.size) := h5lt
      have hbw5 : Below w.heap.size w w5 := hbw.trans (hb5.mono hbw.size)
      have HR5 : Hid (Bx w5 (w.heap.size + 2) zeroT (.slice none 0 0)) := HRx.out.keeps hb5
      have HS5 : Hid (Bx w5 (w.heap.size + 3) s (.slice sa s.items.length sc)) := HSx.out.keeps hb5
      have HZ5 : Hid (Bx w5 n14 z (.slice za z.items.length zc)) := HZx.out.keeps hb5
      have hsV5 : w.heap.size + 4 ≤ Vx.heap.size := by have := hbx.size; omega
      have hV5 : Vx.heap.size ≤ w5.heap.size := hb5.size
      have HzY : Hid (LiesX (fun q => (X q ∨ V.heap.size ≤ q) ∧ q < Vx.heap.size) (16 + r.length) Vx z.items (.slice za z.items.length zc)) := Hzl.out.both
      have HpY : Hid (∀ p ∈ ps, LiesX (fun q => (X q ∨ V.heap.size ≤ q) ∧ q < Vx.heap.size) (16 + r.length) Vx p.1.items p.2 ∧ p.1.text.size ≤ 9223372036854775807) := fun p hp => ⟨(((HPl.out p hp).1.keeps hbw).both.mono (fun b h => ⟨.inl h.1, h.2⟩)).atLeast _ (by omega), (HPl.out p hp).2⟩
      have HYY : Hid (∀ b, ((X b ∨ V.heap.size ≤ b) ∧ b < Vx.heap.size) → b < Vx.heap.size ∧ b ≠ w.heap.size + 2) := fun b h => ⟨h.2, by
        rcases h.1 with h | h
        · have := HXl.out b h; omega
        · omega⟩
      clear hown5 hg5 h5lt t0 t1 t2 t3 l3 HbL HSn HSl HSc HSo HPl HTx

      have HbB : Hid (Bx (w5.alloc (.cells #[.int .i64 4, .int .i64 0, .string ⟨#[]⟩, .slice a5 t.items.length c5] 24)) w5.heap.size ⟨4, 0, ⟨#[]⟩, []⟩ (.slice a5 t.items.length c5)) := bx_alloc w5 ⟨4, 0, ⟨#[]⟩, []⟩ _
      have HW6 : Hid (Below w5.heap.size w5 ((w5.alloc (.cells #[.int .i64 4, .int .i64 0, .string ⟨#[]⟩, .slice a5 t.items.length c5] 24)).alloc (.cells #[.int .i64 z.kind, .int .i64 z.num, .string z.text, .slice za z.items.length zc] 24))) := (Grew.two _ _ _).below
      obtain ⟨y0, y1, y2, y3, _, _, _, _⟩ := HZ5.out
      have u0 := cell_keeps ((Grew.refl w5).alloc (.cells #[.int .i64 4, .int .i64 0, .string ⟨#[]⟩, .slice a5 t.items.length c5] 24)).below y0; have u1 := cell_keeps ((Grew.refl w5).alloc (.cells #[.int .i64 4, .int .i64 0, .string ⟨#[]⟩, .slice a5 t.items.length c5] 24)).below y1; have u2 := cell_keeps ((Grew.refl w5).alloc (.cells #[.int .i64 4, .int .i64 0, .string ⟨#[]⟩, .slice a5 t.items.length c5] 24)).below y2; have u3 := cell_keeps ((Grew.refl w5).alloc (.cells #[.int .i64 4, .int .i64 0, .string ⟨#[]⟩, .slice a5 t.items.length c5] 24)).below y3
      clear y0 y1 y2 y3
      go_wp2_with (first
          | (at_builtin; refine wpList_append_lies _ rfl _ _ 22 rfl Vx.heap.size 24 i0 (.agg #[.int .i64 0, .int .i64 0, .string ⟨#[]⟩, .slice none 0 0]) 4 56 Tryz.underlying22 Hi.out Hz0.out Hz1.out Hz2.out rfl (by decide) (.slice a5 t.items.length c5) t.items.length (ps.flatMap encP) rfl ((HOw.out.alloc _).alloc _) ⟨w5.heap.size + 1, 0, none⟩ 1 1 [.int .i64 z.kind, .int .i64 z.num, .string z.text, .slice za z.items.length zc] rfl rfl (fun q u hq => by match q, hq with | 0, hq => (simp at hq; subst hq; simp [Addr.add]) | 1, hq => (simp at hq; subst hq; simp [Addr.add]) | 2, hq => (simp at hq; subst hq; simp [Addr.add]) | 3, hq => (simp at hq; subst hq; simp [Addr.add]) | q + 4, hq => simp at hq) (fun u hu => by simp at hu; rcases hu with rfl | rfl | rfl | rfl <;> rfl) (by decide) (by unfold maxLen; omega) (by omega) (by simp; omega) (w5.heap.size + 2) (by simp) ?_))
      intro g7 c7 w7 hown7 hg7 hat7 _
      have hb7 : Below Vx.heap.size Vx w7 := (hb5.trans (HW6.out.mono hV5)).grown hg7 (by have := HW6.out.size; omega) (fun k hk => (H5l.out k hk).1)
      have hbw7 : Below w.heap.size w w7 := hbw.trans (hb7.mono hbw.size)
      have hrow : ∀ n, n < Vx.heap.size ∨ w5.heap.size ≤ n → some n ≠ (Value.slice a5 t.items.length c5).ownBlock := fun n hn e => by have := H5l.out n e.symm; omega
      have HB7 : Hid (Bx w7 w5.heap.size ⟨4, 0, ⟨#[]⟩, []⟩ (.slice a5 t.items.length c5)) := grown_bx26 hg7 (hrow _ (.inr (Nat.le_refl _))) (HbB.out.keeps ((Grew.refl _).alloc _).below)
      have HR7 : Hid (Bx w7 (w.heap.size + 2) zeroT (.slice none 0 0)) := grown_bx26 hg7 (hrow _ (.inl (by omega))) (HR5.out.keeps HW6.out)
      have HO7 : Hid (w7.ownsRow Vx.heap.size 24 4 (.slice (some ⟨g7, 0, none⟩) (t.items.length + 1) c7) (t.items.length + 1) (ps.flatMap encP ++ encP (z, .slice za z.items.length zc))) := hown7
      have H7B : Hid ((Value.slice (some ⟨g7, 0, none⟩) (t.items.length + 1) c7).ownBlock ≠ some w5.heap.size) := fun e => by
        have e7 : g7 = w5.heap.size := by simpa [Value.ownBlock] using e
        rcases hat7 with h | h
        · have := H5l.out _ h; omega
        · omega
      have HE1 : Hid (PP (.returned (.tuple #[.agg #[.int .i64 4, .int .i64 0, .string ⟨#[]⟩, .slice (some ⟨g7, 0, none⟩) (t.items.length + 1) c7], .bool true])) ((w7.setCell ⟨w5.heap.size, 3, none⟩ (.slice (some ⟨g7, 0, none⟩) (t.items.length + 1) c7)).setCells (w.heap.size + 2) 0 (encP (⟨4, 0, ⟨#[]⟩, []⟩, .slice (some ⟨g7, 0, none⟩) (t.items.length + 1) c7)))) := by
        show PP _ _
        rw [← HPP.out]
        have hk := Hk.out
        obtain ⟨e1, e2⟩ := bare_right HRt.out.1 (by omega)
        have ho := HOn.out
        unfold opnT at ho
        rw [if_neg (by omega), if_pos hk, if_pos HEd.out] at ho
        injection ho with ho
        injection ho with o1 o2
        have hl := rput_lies_e (N2 := w.heap.size + 2) HYY.out (by omega) hV5 HpY.out HzY.out Hzt.out hb7 HO7.out (by rw [hpsl.out]) H7B.out (by rw [hpsl.out]; omega) (⟨4, 0, ⟨#[]⟩, []⟩, .slice (some ⟨g7, 0, none⟩) (t.items.length + 1) c7) (.slice (some ⟨g7, 0, none⟩) (t.items.length + 1) c7)
        rw [HPm.out] at hl
        refine ⟨⟨4, 0, ⟨#[]⟩, t.items ++ [z]⟩, some ⟨g7, 0, none⟩, c7, true, by simp, ?_, by show 0 ≤ _; omega, .inl ⟨rfl, ?_⟩, below_put ((hbw7.setCell (p := ⟨w5.heap.size, 3, none⟩) (by show w.heap.size ≤ w5.heap.size; omega) _)) (by omega) _⟩
        · rw [show (VT.items ⟨4, 0, ⟨#[]⟩, t.items ++ [z]⟩).length = t.items.length + 1 by simp]
          refine LiesX.mono (fun b hb => ?_) hl
          have h9 := hbx.size
          rcases hb with ⟨hb | hb, _⟩ | hb
          · exact .inl hb
          · exact .inr (by omega)
          · exact .inr (by omega)
        · rw [Hzp.out, ← o1, ← o2]
          unfold VT.putI
          rw [e1, e2]
          simp
      have Hq : Hid (Bx ((w7.setCell ⟨w5.heap.size, 3, none⟩ (.slice (some ⟨g7, 0, none⟩) (t.items.length + 1) c7)).setCells (w.heap.size + 2) 0 (encP (⟨4, 0, ⟨#[]⟩, []⟩, .slice (some ⟨g7, 0, none⟩) (t.items.length + 1) c7))) (w.heap.size + 2) ⟨4, 0, ⟨#[]⟩, []⟩ (.slice (some ⟨g7, 0, none⟩) (t.items.length + 1) c7)) := by
        refine Bx.put (t := zeroT) (u := .slice none 0 0) ?_ (⟨4, 0, ⟨#[]⟩, []⟩, .slice (some ⟨g7, 0, none⟩) (t.items.length + 1) c7)
        exact Bx.otherO HR7.out (by omega) 3 [_]
      have HR8 : Hid (Bx (w7.setCell ⟨w5.heap.size, 3, none⟩ (.slice (some ⟨g7, 0, none⟩) (t.items.length + 1) c7)) (w.heap.size + 2) zeroT (.slice none 0 0)) := Bx.otherO HR7.out (by omega) 3 [_]
      have HB8 : Hid (Bx (w7.setCell ⟨w5.heap.size, 3, none⟩ (.slice (some ⟨g7, 0, none⟩) (t.items.length + 1) c7)) w5.heap.size ⟨4, 0, ⟨#[]⟩, []⟩ (.slice (some ⟨g7, 0, none⟩) (t.items.length + 1) c7)) := HB7.out.items _
      obtain ⟨b0, b1, b2, b3, f0, f1, f2, f3⟩ := HB7.out
      obtain ⟨d0, d1, d2, d3, _, _, _, _⟩ := HB8.out
      obtain ⟨z0, z1, z2, z3, g0, g1, g2, g3⟩ := HR8.out
      have hB5 : ¬ w5.heap.size = w.heap.size + 2 := by omega
      clear hown7 hg7 hrow hat7 u0 u1 u2 u3 HO7 H7B HB7 HR7 HR8 HB8 HOw H5l HR5 HS5 HZ5 HzY HpY HYY HPP HOn HRt Hzp Hzl Hzt HPt' HPs HPm hpsl HbB HW6 HRx HSx HZx
      go_wp2_with fail
      refine bodyPost_ret (v := .tuple #[.agg #[.int .i64 4, .int .i64 0, .string ⟨#[]⟩, .slice (some ⟨g7, 0, none⟩) (t.items.length + 1) c7], .bool true]) ?_ rfl HE1.out
      obtain ⟨q0, q1, q2, q3, _, _, _, _⟩ := Hq.out
      simp only [World.setCells, encP, Nat.zero_add, Nat.reduceAdd] at q0 q1 q2 q3
      simp [results, Tryz.results20, go_sem, q0, q1, q2, q3]

end Go.Proofs.YtofceccicmlmoaaGreat

