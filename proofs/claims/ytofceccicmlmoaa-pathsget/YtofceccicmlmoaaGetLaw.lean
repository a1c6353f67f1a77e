/-
  PathsGet: what stands at a path, and the value without it.
-/
import Derived.Test.YtofceccicmlmoaaRWotM
import Derived.Test.YtofceccicmlmoaaRAtM
import Derived.Deep.RegionHeld3
import Derived.Deep.CutRange
import Derived.Deep.CutBlock
import Derived.Test.YtofceccicmlmoaaDrpF
import Derived.Test.YtofceccicmlmoaaRGetM
import Derived.Test.YtofceccicmlmoaaBackM
import Derived.Test.YtofceccicmlmoaaLevel
namespace Go.Proofs.Ytofceccicmlmoaa
open Go.RowKit Go.Shelf

theorem fst_lies {X : Nat → Prop} {D : Nat} {w : World} {s : VT} {r : List VT} {b o c : Nat} (h : LiesX X (D + 1) w (s :: r) (.slice (some ⟨b, o, none⟩) (r.length + 1) c)) : LiesX X (D + 1) w [s] (.slice (some ⟨b, o, none⟩) 1 c) := by
  obtain ⟨a0, c0, hv, hl, hrow⟩ := h
  injection hv with e1 _ e3
  subst e1
  subst e3
  refine ⟨_, _, rfl, ⟨by have := hl.1; simp only [List.length_cons, List.length_nil] at *; omega, by simp⟩, fun hne => ?_⟩
  obtain ⟨b', o', e, hXb, hall⟩ := hrow (by simp)
  injection e with e
  injection e with e1 e2 _
  subst e1
  subst e2
  refine ⟨b, o, rfl, hXb, fun i hi => ?_⟩
  have hi0 : i = 0 := by simp only [List.length_cons, List.length_nil] at hi; omega
  subst hi0
  exact hall 0 (by simp)

/-- What is known behind the recursion. -/
structure Rw26 (X : Nat → Prop) (V : World) (y : VT) (r : List VT) (wx : World) (n9 : Nat) (z : VT) (za : Option Addr) (zc : Nat) (b : Bool) : Prop where
  box : Bx wx n9 z (.slice za z.items.length zc)
  lies : LiesX (fun q => X q ∨ V.heap.size ≤ q) 16 wx z.items (.slice za z.items.length zc)
  size : z.text.size ≤ 9223372036854775807
  tell : (b = true ∧ dropT y r = some z) ∨ (b = false ∧ dropT y r = none ∧ z = zeroT)
  below : Below V.heap.size V wx
  new : V.heap.size ≤ n9

theorem rwot_none {X : Nat → Prop} {t : VT} {p : List VT} {w w' : World} (h : dropT t p = none) (hb : Below w.heap.size w w') : RWotQ X t p w (.returned (.tuple #[.agg #[.int .i64 0, .int .i64 0, .string ⟨#[]⟩, .slice none 0 0], .bool false])) w' :=
  ⟨zeroT, none, 0, false, rfl, liesX_nil _ _ _ _ _, by show 0 ≤ _; omega, .inr ⟨rfl, h, rfl⟩, hb⟩

set_option maxRecDepth 100000 in
set_option maxHeartbeats 8000000 in
/-- Through a set it does not lead. -/
theorem rwot_set (s q : VT) (r : List VT) (X : Nat → Prop) (t : VT) (a : Option Addr) (c : Nat) (pv : Value) (w : World) (h : LiesX X 16 w t.items (.slice a t.items.length c)) (hr : rightV 16 t = true) (hp : LiesX X 17 w (s :: q :: r) pv) (hk : t.kind = 5) :
    Calls Try.prog 33 #[.agg #[.int .i64 t.kind, .int .i64 t.num, .string t.text, .slice a t.items.length c], pv] w (RWotQ X t (s :: q :: r) w) := by
  have hlen : t.items.length ≤ 1024 := right_len hr
  have hd := Dp.of_lies 16 w t _ h.lies
  obtain ⟨pa, pc, rfl, _⟩ := LiesX.slice hp
  have hp2 := hp
  obtain ⟨a0, c0, hv, hpl, hrow⟩ := hp2
  injection hv with e1 e2 e3
  subst e1
  subst e3
  clear e2
  obtain ⟨pb, po, rfl, hXp, hall⟩ := hrow (by simp)
  obtain ⟨sv, p0, p1, p2, p3, p4, p5⟩ := hall 0 (by simp)
  simp only [List.getElem_cons_zero, Nat.zero_mul, Nat.add_zero] at p0 p1 p2 p3 p4 p5
  obtain ⟨sa, sc, rfl, _⟩ := LiesX.slice p4
  have hsl : LiesX X 16 w s.items (.slice sa s.items.length sc) := p4.atLeast 16 (by omega)
  have HT : Hid (Bx (op2 w t (.slice a t.items.length c)) w.heap.size t (.slice a t.items.length c)) := op2_fst _ _ _
  have HR : Hid (Bx (op2 w t (.slice a t.items.length c)) (w.heap.size + 1) zeroT (.slice none 0 0)) := op2_snd _ _ _
  have hb0 := op2_below w t (.slice a t.items.length c)
  obtain ⟨W0, hW0⟩ : ∃ W0, W0 = op2 w t (.slice a t.items.length c) := ⟨_, rfl⟩
  have HW0 : Hid (W0 = op2 w t (.slice a t.items.length c)) := hW0
  have hsz : W0.heap.size = w.heap.size + 2 := by rw [hW0]; unfold op2; simp
  rw [← hW0] at HT HR hb0
  clear hW0
  unfold op2 at HW0
  have p0 := cell_keeps hb0 p0; have p1 := cell_keeps hb0 p1; have p2 := cell_keeps hb0 p2; have p3 := cell_keeps hb0 p3
  obtain ⟨W1, hW1⟩ : ∃ W1, W1 = W0.alloc (.cells #[.int .i64 s.kind, .int .i64 s.num, .string s.text, .slice sa s.items.length sc] 24) := ⟨_, rfl⟩
  have hb01 : Below W0.heap.size W0 W1 := by rw [hW1]; exact ((Grew.refl W0).alloc _).below
  have hb1 : Below w.heap.size w W1 := hb0.trans (hb01.mono hb0.size)
  have HS1 : Hid (Bx W1 (w.heap.size + 2) s (.slice sa s.items.length sc)) := by
    rw [hW1, ← hsz]
    exact bx_alloc W0 s _
  have HT1 : Hid (Bx W1 w.heap.size t (.slice a t.items.length c)) := HT.out.keeps hb01
  have HR1 : Hid (Bx W1 (w.heap.size + 1) zeroT (.slice none 0 0)) := HR.out.keeps hb01
  have hsz1 : W1.heap.size = w.heap.size + 3 := by rw [hW1, World.size_alloc, hsz]
  have HW1 : Hid (W0.alloc (.cells #[.int .i64 s.kind, .int .i64 s.num, .string s.text, .slice sa s.items.length sc] 24) = W1) := hW1.symm
  clear hW1 hb01 HT HR hall hrow p4
  have hz : dropT t (s :: q :: r) = none := by rw [dropT_more, if_pos hk]
  have HE : Hid (∀ W, Below w.heap.size w W → RWotQ X t (s :: q :: r) w (.returned (.tuple #[.agg #[.int .i64 0, .int .i64 0, .string ⟨#[]⟩, .slice none 0 0], .bool false])) W) := fun W hW => rwot_none hz hW
  generalize RWotQ X t (s :: q :: r) w = PP at *
  have hk5 : (t.kind == 5) = true := by simpa using hk
  have hR1 : (1 : Int) < (((s :: q :: r).length : Nat) : Int) := by simp only [List.length_cons]; omega
  have hR0 : (0 : Int) < (((s :: q :: r).length : Nat) : Int) := by omega
  generalize (s :: q :: r).length = R at *
  clear h hr hp hz hk hd hsl p5 hXp hpl hlen
  generalize t.items.length = lt at *
  generalize s.items.length = lz at *
  obtain ⟨t0, t1, t2, t3, _, _, _, _⟩ := HT1.out
  have HE1 : Hid (PP (.returned (.tuple #[.agg #[.int .i64 0, .int .i64 0, .string ⟨#[]⟩, .slice none 0 0], .bool false])) (W1.setCells (w.heap.size + 1) 0 (encP (zeroT, .slice none 0 0)))) := HE.out _ (below_put hb1 (by omega) _)
  have Hq : Hid (Bx (W1.setCells (w.heap.size + 1) 0 (encP (zeroT, .slice none 0 0))) (w.heap.size + 1) zeroT (.slice none 0 0)) := HR1.out.put (zeroT, .slice none 0 0)
  have HRx := HR1
  go_enter Try.func33, Try.ntmps33
  go_upto_region 1 with fail
  rw [← HW0.out]
  clear HW0
  go_upto_region 2 with fail
  rw [HW1.out]
  clear HW1 p0 p1 p2 p3 HS1 HT1 hsz hsz1 hb0 hb1 HE
  obtain ⟨z0, z1, z2, z3, g0, g1, g2, g3⟩ := HRx.out
  go_wp2_with fail
  refine bodyPost_ret (v := .tuple #[.agg #[.int .i64 0, .int .i64 0, .string ⟨#[]⟩, .slice none 0 0], .bool false]) ?_ rfl HE1.out
  obtain ⟨q0, q1, q2, q3, _, _, _, _⟩ := Hq.out
  simp only [World.setCells, encP, Nat.zero_add, Nat.reduceAdd] at q0 q1 q2 q3
  simp [results, Try.results33, go_sem, q0, q1, q2, q3]

set_option maxRecDepth 100000 in
set_option maxHeartbeats 16000000 in
/-- Further down. -/
theorem rwot_more (s q : VT) (r : List VT) (X : Nat → Prop) (t : VT) (a : Option Addr) (c : Nat) (pv : Value) (w : World) (hX : ∀ b, X b → b < w.heap.size) (h : LiesX X 16 w t.items (.slice a t.items.length c)) (hr : rightV 16 t = true) (hp : LiesX X 17 w (s :: q :: r) pv) (hps : rightV 16 s = true) (hat : (atT t (s :: q :: r)).isSome = true) (hk : ¬ t.kind = 5) (ih : Hid (RWotC (q :: r))) :
    Calls Try.prog 33 #[.agg #[.int .i64 t.kind, .int .i64 t.num, .string t.text, .slice a t.items.length c], pv] w (RWotQ X t (s :: q :: r) w) := by
  have hlen : t.items.length ≤ 1024 := right_len hr
  have hd := Dp.of_lies 16 w t _ h.lies
  obtain ⟨pa, pc, rfl, _⟩ := LiesX.slice hp
  have hp2 := hp
  obtain ⟨a0, c0, hv, hpl, hrow⟩ := hp2
  injection hv with e1 e2 e3
  subst e1
  subst e3
  clear e2
  obtain ⟨pb, po, rfl, hXp, hall⟩ := hrow (by simp)
  obtain ⟨sv, p0, p1, p2, p3, p4, p5⟩ := hall 0 (by simp)
  simp only [List.getElem_cons_zero, Nat.zero_mul, Nat.add_zero] at p0 p1 p2 p3 p4 p5
  obtain ⟨sa, sc, rfl, _⟩ := LiesX.slice p4
  have hsl : LiesX X 16 w s.items (.slice sa s.items.length sc) := p4.atLeast 16 (by omega)
  have HT : Hid (Bx (op2 w t (.slice a t.items.length c)) w.heap.size t (.slice a t.items.length c)) := op2_fst _ _ _
  have HR : Hid (Bx (op2 w t (.slice a t.items.length c)) (w.heap.size + 1) zeroT (.slice none 0 0)) := op2_snd _ _ _
  have hb0 := op2_below w t (.slice a t.items.length c)
  obtain ⟨W0, hW0⟩ : ∃ W0, W0 = op2 w t (.slice a t.items.length c) := ⟨_, rfl⟩
  have HW0 : Hid (W0 = op2 w t (.slice a t.items.length c)) := hW0
  have hsz : W0.heap.size = w.heap.size + 2 := by rw [hW0]; unfold op2; simp
  rw [← hW0] at HT HR hb0
  clear hW0
  unfold op2 at HW0
  have p0 := cell_keeps hb0 p0; have p1 := cell_keeps hb0 p1; have p2 := cell_keeps hb0 p2; have p3 := cell_keeps hb0 p3
  obtain ⟨W1, hW1⟩ : ∃ W1, W1 = W0.alloc (.cells #[.int .i64 s.kind, .int .i64 s.num, .string s.text, .slice sa s.items.length sc] 24) := ⟨_, rfl⟩
  have hb01 : Below W0.heap.size W0 W1 := by rw [hW1]; exact ((Grew.refl W0).alloc _).below
  have hb1 : Below w.heap.size w W1 := hb0.trans (hb01.mono hb0.size)
  have HS1 : Hid (Bx W1 (w.heap.size + 2) s (.slice sa s.items.length sc)) := by
    rw [hW1, ← hsz]
    exact bx_alloc W0 s _
  have HT1 : Hid (Bx W1 w.heap.size t (.slice a t.items.length c)) := HT.out.keeps hb01
  have HR1 : Hid (Bx W1 (w.heap.size + 1) zeroT (.slice none 0 0)) := HR.out.keeps hb01
  have hsz1 : W1.heap.size = w.heap.size + 3 := by rw [hW1, World.size_alloc, hsz]
  have HW1 : Hid (W0.alloc (.cells #[.int .i64 s.kind, .int .i64 s.num, .string s.text, .slice sa s.items.length sc] 24) = W1) := hW1.symm
  clear hW1 hb01 HT HR hall hrow p4
  obtain ⟨hB, hq, hat2⟩ := at_first hr hd hat
  have hget : t.items[(plcI t s).toNat]? = some (t.items[(plcI t s).toNat]'hq) := List.getElem?_eq_getElem hq
  have HYo : Hid (∀ y, (plcB t s = true ∧ t.items[(plcI t s).toNat]? = some y) ∨ (plcB t s = false ∧ y = zeroT) → t.items[(plcI t s).toNat]? = some y ∧ rightV 16 y = true ∧ (atT y (q :: r)).isSome = true) := fun y hy => by
    rcases hy with ⟨_, hy⟩ | ⟨hy, _⟩
    · refine ⟨hy, (item_right hr hd (List.mem_of_getElem? hy)).1, ?_⟩
      rw [hget] at hy
      injection hy with hy
      rw [← hy]; exact hat2
    · rw [hB] at hy; cases hy
  have HPt : Hid (∀ W, Below w.heap.size w W → Calls Try.prog 55 #[.agg #[.int .i64 t.kind, .int .i64 t.num, .string t.text, .slice a t.items.length c], .agg #[.int .i64 s.kind, .int .i64 s.num, .string s.text, .slice sa s.items.length sc]] W (PartP X t s W)) := fun W hW => rpart_any X t s a sa c sc W (h.keeps hW) ((hsl.keeps hW).lies) hr
  have HNo : Hid (∀ (W : World) (y : VT), t.items[(plcI t s).toNat]? = some y → dropT y (q :: r) = none → Below w.heap.size w W → RWotQ X t (s :: q :: r) w (.returned (.tuple #[.agg #[.int .i64 0, .int .i64 0, .string ⟨#[]⟩, .slice none 0 0], .bool false])) W) := fun W y hy hz hW => rwot_none (by rw [dropT_more, if_neg hk, hy]; simp only [hz]) hW
  have HDr : Hid (∀ y z, t.items[(plcI t s).toNat]? = some y → dropT y (q :: r) = some z → dropT t (s :: q :: r) = some (t.putI (plcI t s).toNat z) ∧ Dp 16 (t.putI (plcI t s).toNat z) ∧ putT t [s] z = some (t.putI (plcI t s).toNat z)) := fun y z hy hz => by
    have e : dropT t (s :: q :: r) = some (t.putI (plcI t s).toNat z) := by rw [dropT_more, if_neg hk, hy]; simp only [hz]
    exact ⟨e, drop_dp _ 16 _ _ hd e, put_one hr hB hq hk⟩
  have HPp : Hid (LiesX X 17 w (s :: q :: r) (.slice (some ⟨pb, po, none⟩) ((q :: r).length + 1) pc)) := hp
  have HXl : Hid (∀ b, X b → b < w.heap.size) := hX
  have HTx : Hid (LiesX X 16 w t.items (.slice a t.items.length c)) := h
  have HRt : Hid (rightV 16 t = true ∧ rightV 16 s = true ∧ t.text.size ≤ 9223372036854775807) := ⟨hr, hps, by have := right_size hr; omega⟩
  have hpc : (q :: r).length + 1 ≤ pc := hpl.1
  have hlr : (s :: q :: r).length = (q :: r).length + 1 := rfl
  rw [hlr]
  have hql : (q :: r).length = r.length + 1 := rfl
  obtain ⟨PP, hPP⟩ : ∃ PP, RWotQ X t (s :: q :: r) w = PP := ⟨_, rfl⟩
  rw [hPP] at HNo ⊢
  have HPP : Hid (RWotQ X t (s :: q :: r) w = PP) := hPP
  have hk5 : (t.kind == 5) = false := by simpa using hk
  clear hPP hlr h hr hp hps hsl hd p5 hpl hXp hX hat hat2 hk hB hget hq hlen
  obtain ⟨t0, t1, t2, t3, _, _, _, _⟩ := HT1.out
  obtain ⟨s0, s1, s2, s3, _, _, _, _⟩ := HS1.out
  have hR1 : (1 : Int) < (((q :: r).length + 1 : Nat) : Int) := by omega
  have hR0 : (0 : Int) < (((q :: r).length + 1 : Nat) : Int) := by omega
  have h1c : (1 : Int) ≤ (pc : Int) := by omega
  have h2c : ((q :: r).length : Int) + 1 ≤ (pc : Int) := by omega
  have h0c : (1 : Int) ≤ ((q :: r).length : Int) + 1 := by omega
  have hpc1 : ¬ pc = 1 := by omega
  obtain ⟨qr, hqr⟩ : ∃ qr, qr = q :: r := ⟨_, rfl⟩
  rw [← hqr] at ih HYo HNo HDr HPp hpc hR1 hR0 h2c h0c HPP ⊢
  clear hqr hql
  go_enter Try.func33, Try.ntmps33
  go_upto_region 1 with fail
  rw [← HW0.out]
  clear HW0
  go_upto_region 2 with fail
  rw [HW1.out]
  clear HW1 p0 p1 p2 p3
  go_wp2_with fail
  refine Calls.mono (HPt.out _ hb1) ?_
  rintro e w2 ⟨y, ya, yc, rfl, hy1, hy2, hy3, hg2⟩
  obtain ⟨hyo, hyr, hya⟩ := HYo.out y hy3
  have Hyo : Hid (t.items[(plcI t s).toNat]? = some y) := hyo
  have Hyr : Hid (rightV 16 y = true ∧ (atT y qr).isSome = true) := ⟨hyr, hya⟩
  obtain ⟨V, hV⟩ : ∃ V, V = w2.alloc (.cells #[.int .i64 y.kind, .int .i64 y.num, .string y.text, .slice ya y.items.length yc] 24) := ⟨_, rfl⟩
  have hgV : Below W1.heap.size W1 V := by rw [hV]; exact hg2.alloc hg2.size _
  have hbV : Below w.heap.size w V := hb1.trans (hgV.mono hb1.size)
  have HyB : Hid (Bx V w2.heap.size y (.slice ya y.items.length yc)) := by rw [hV]; exact bx_alloc w2 y _
  have HTV : Hid (Bx V w.heap.size t (.slice a t.items.length c)) := HT1.out.keeps hgV
  have HRV : Hid (Bx V (w.heap.size + 1) zeroT (.slice none 0 0)) := HR1.out.keeps hgV
  have hszV : w.heap.size + 3 ≤ V.heap.size := by have := hgV.size; omega
  have hPu : ∀ (W : World) (a' : Option Addr) (c' : Nat), Below V.heap.size V W → (qr ≠ [] → a' = some ⟨pb, po + 4, none⟩) → qr.length ≤ c' → Calls Try.prog 33 #[.agg #[.int .i64 y.kind, .int .i64 y.num, .string y.text, .slice ya y.items.length yc], .slice a' qr.length c'] W (RWotQ X y qr W) := fun W a' c' hW h1 h2 => ih.out X y ya yc _ W (fun b hb => by have := HXl.out b hb; have := hW.size; omega) ((hy1.keeps hgV).keeps hW) Hyr.out.1 (rest_lies (HPp.out.keeps (hbV.trans (hW.mono hbV.size))) a' c' h1 h2) Hyr.out.2
  have HPu : Hid (∀ (W : World) (a' : Option Addr) (c' : Nat), Below V.heap.size V W → (qr ≠ [] → a' = some ⟨pb, po + 4, none⟩) → qr.length ≤ c' → Calls Try.prog 33 #[.agg #[.int .i64 y.kind, .int .i64 y.num, .string y.text, .slice ya y.items.length yc], .slice a' qr.length c'] W (RWotQ X y qr W)) := hPu
  have HV : Hid (w2.alloc (.cells #[.int .i64 y.kind, .int .i64 y.num, .string y.text, .slice ya y.items.length yc] 24) = V) := hV.symm
  clear hPu hV hgV hg2 hy1 hy2 hy3 HT1 HR1 HS1 HPt HYo hyo hyr hya hb1 t0 t1 t2 t3 s0 s1 s2 s3 hsz hsz1 hb0
  obtain ⟨n7, hn7⟩ : ∃ n, n = w2.heap.size := ⟨_, rfl⟩
  have Hn7 : Hid (w2.heap.size = n7) := hn7.symm
  rw [← hn7] at HyB
  clear hn7
  go_upto_region 6 with fail
  rw [HV.out, Hn7.out]
  clear HV Hn7
  have HF0 : Hid (∀ (W : World) (z : VT) (za : Option Addr) (zc : Nat) (b : Bool), Below V.heap.size V W → LiesX (fun q => X q ∨ V.heap.size ≤ q) 16 W z.items (.slice za z.items.length zc) → z.text.size ≤ 9223372036854775807 → ((b = true ∧ dropT y qr = some z) ∨ (b = false ∧ dropT y qr = none ∧ z = zeroT)) → Hid (Rw26 X V y qr (W.alloc (.cells #[.int .i64 z.kind, .int .i64 z.num, .string z.text, .slice za z.items.length zc] 24)) W.heap.size z za zc b)) := fun W z za zc b h1 h2 h3 h4 => ⟨bx_alloc W z _, h2.keeps ((Grew.refl W).alloc _).below, h3, h4, h1.alloc h1.size _, h1.size⟩
  have HFz : Hid (∀ (W : World) (z : VT) (za : Option Addr) (zc : Nat) (b : Bool), Below V.heap.size V W → Bx W V.heap.size zeroT (.slice none 0 0) → LiesX (fun q => X q ∨ V.heap.size + 1 ≤ q) 16 W z.items (.slice za z.items.length zc) → z.text.size ≤ 9223372036854775807 → ((b = true ∧ dropT y qr = some z) ∨ (b = false ∧ dropT y qr = none ∧ z = zeroT)) → Hid (Rw26 X V y qr (W.setCells V.heap.size 0 (encP (z, .slice za z.items.length zc))) V.heap.size z za zc b)) := fun W z za zc b h1 hb h2 h3 h4 => ⟨hb.put _, (LiesX.set (g := V.heap.size) (fun hq => by
      rcases hq with hq | hq
      · have := HXl.out _ hq; omega
      · omega) h2).mono (fun q hq => hq.imp id (fun hq => by omega)), h3, h4, below_put h1 (Nat.le_refl _) _, Nat.le_refl _⟩
  go_cut [9, 10] from 30 to 36 (fun s9 s10 wx => ∃ n9 z za zc b, s9 = .pointer (some ⟨n9, 0, none⟩) ∧ s10 = .bool b ∧ Hid (Rw26 X V y qr wx n9 z za zc b))
  case first =>
    obtain ⟨a0, a1, a2, a3, _, _, _, _⟩ := HyB.out
    have hl1 : n7 < V.heap.size := cell_lt a0
    have HS0 : Hid (Sr26 n7 n7 y y (.slice ya y.items.length yc) (.slice ya y.items.length yc) V V) := ⟨⟨⟨a0, a1, a2, a3⟩, a0, a1, a2, a3⟩, Below.refl _ _⟩
    have HSs : Hid (∀ (zb : Nat) (W : World) (v0 v1 v2 v3 : Value), V.heap.size ≤ zb → Sr26 n7 n7 y y (.slice ya y.items.length yc) (.slice ya y.items.length yc) V W → Sr26 n7 n7 y y (.slice ya y.items.length yc) (.slice ya y.items.length yc) V ((((W.setCell ⟨zb, 0, none⟩ v0).setCell ⟨zb, 1, none⟩ v1).setCell ⟨zb, 2, none⟩ v2).setCell ⟨zb, 3, none⟩ v3)) := fun zb W v0 v1 v2 v3 h1 h2 => sr_set hl1 hl1 h1 h2
    clear HyB HTV HRV hl1 HNo HPp HTx HRt HDr Hyo Hyr HPP hszV hbV
    go_region_held3 (fun w' => ((w'.cell? ⟨n7, 0, none⟩ = some (.int .i64 y.kind) ∧ w'.cell? ⟨n7, 1, none⟩ = some (.int .i64 y.num) ∧ w'.cell? ⟨n7, 2, none⟩ = some (.string y.text) ∧ w'.cell? ⟨n7, 3, none⟩ = some (.slice ya y.items.length yc)) ∧ (w'.cell? ⟨n7, 0, none⟩ = some (.int .i64 y.kind) ∧ w'.cell? ⟨n7, 1, none⟩ = some (.int .i64 y.num) ∧ w'.cell? ⟨n7, 2, none⟩ = some (.string y.text) ∧ w'.cell? ⟨n7, 3, none⟩ = some (.slice ya y.items.length yc))) ∧ Below V.heap.size V w') (first | (with_reducible exact sr_drew HS0.out) | (with_reducible exact sr_allocD _ (by assumption)) | (with_reducible exact sr_alloc _ (by assumption)) | (with_reducible exact HS4.out) | (with_reducible exact sr_alloc _ HS4.out) | (with_reducible exact HSs.out _ _ _ _ _ _ (by omega) (by assumption)) | (with_reducible assumption))
      (first | (go_at_call 33; (with_reducible refine Calls.mono (HPu.out _ _ _ (sr_below (by assumption)) ?_ ?_) ?_); (intro hne; rfl); (first | (simp; omega) | omega); rintro e w4 ⟨z, za, zc, b, rfl, hz1, hz2, hz3, hz4⟩; have hS4 := sr_keeps (n1 := n7) (n2 := n7) (y := y) (x := y) (V := V) (by assumption) hz4; have HS4 : Hid (Sr26 n7 n7 y y (.slice ya y.items.length yc) (.slice ya y.items.length yc) V w4) := hS4; have hbV4 : Below V.heap.size V w4 := hS4.2; clear hS4; (first | (have HZ : Bx w4 V.heap.size zeroT (.slice none 0 0) := (by first | (with_reducible exact Bx.keeps (bx_allocZ V) hz4) | (with_reducible exact Bx.keeps (bx_allocZd V) hz4)); have HF := HFz.out w4 z za zc b hbV4 HZ (hz1.mono (fun q hq => by simp at hq; rcases hq with hq | hq; exact .inl hq; exact .inr (by omega))) hz2 hz3; obtain ⟨z0, z1, z2, z3, y0, y1, y2, y3⟩ := HZ) | (have HF := HF0.out w4 z za zc b hbV4 (hz1.mono (fun q hq => hq.imp id (fun hq => by simp at hq; omega))) hz2 hz3)); clear hz1 hz2 hz3 hz4 hbV4))
    all_goals (go_wp2_with fail; go_meet; exact ⟨_, z, za, zc, b, rfl, rfl, HF⟩)
  case rest =>
    obtain ⟨n9, z, za, zc, b, rfl, rfl, H14⟩ := hcut
    generalize hVx : wc = Vx at *
    clear hVx
    have hbx : Below V.heap.size V Vx := H14.out.below
    have hbw : Below w.heap.size w Vx := hbV.trans (hbx.mono hbV.size)
    have HTx2 : Hid (Bx Vx w.heap.size t (.slice a t.items.length c)) := HTV.out.keeps hbx
    have HRx : Hid (Bx Vx (w.heap.size + 1) zeroT (.slice none 0 0)) := HRV.out.keeps hbx
    have HZx : Hid (Bx Vx n9 z (.slice za z.items.length zc)) := H14.out.box
    clear HTV HRV HyB HF0 HFz HPu ih Hyr
    cases b
    · have hno : dropT y qr = none := by
        rcases H14.out.tell with ⟨h1, _⟩ | ⟨_, h1, _⟩
        · cases h1
        · exact h1
      have HE1 : Hid (PP (.returned (.tuple #[.agg #[.int .i64 0, .int .i64 0, .string ⟨#[]⟩, .slice none 0 0], .bool false])) (Vx.setCells (w.heap.size + 1) 0 (encP (zeroT, .slice none 0 0)))) := HNo.out _ y Hyo.out hno (below_put hbw (by omega) _)
      have Hq : Hid (Bx (Vx.setCells (w.heap.size + 1) 0 (encP (zeroT, .slice none 0 0))) (w.heap.size + 1) zeroT (.slice none 0 0)) := HRx.out.put (zeroT, .slice none 0 0)
      clear hno HNo H14 Hyo HPP HPp HTx HRt HDr HTx2 HZx hbw hbx hbV
      obtain ⟨z0, z1, z2, z3, g0, g1, g2, g3⟩ := HRx.out
      go_wp2_with fail
      refine bodyPost_ret (v := .tuple #[.agg #[.int .i64 0, .int .i64 0, .string ⟨#[]⟩, .slice none 0 0], .bool false]) ?_ rfl HE1.out
      obtain ⟨q0, q1, q2, q3, _, _, _, _⟩ := Hq.out
      simp only [World.setCells, encP, Nat.zero_add, Nat.reduceAdd] at q0 q1 q2 q3
      simp [results, Try.results33, go_sem, q0, q1, q2, q3]

    · have hyes : dropT y qr = some z := by
        rcases H14.out.tell with ⟨_, h1⟩ | ⟨h1, _⟩
        · exact h1
        · cases h1
      obtain ⟨hd1, hd2, hd3⟩ := HDr.out y z Hyo.out hyes
      have hzl : LiesX (fun q => X q ∨ V.heap.size ≤ q) 16 Vx z.items (.slice za z.items.length zc) := H14.out.lies
      have hzs := H14.out.size
      have htl : LiesX X 16 Vx t.items (.slice a t.items.length c) := HTx.out.keeps hbw
      have hpl : LiesX X 17 Vx [s] (.slice (some ⟨pb, po, none⟩) 1 pc) := (fst_lies HPp.out).keeps hbw
      have HPut : Hid (∀ W, Below Vx.heap.size Vx W → Calls Try.prog 37 #[.agg #[.int .i64 t.kind, .int .i64 t.num, .string t.text, .slice a t.items.length c], .slice (some ⟨pb, po, none⟩) 1 pc, .agg #[.int .i64 z.kind, .int .i64 z.num, .string z.text, .slice za z.items.length zc]] W fun e w' => ∃ a6 c6, e = .returned (.tuple #[.agg #[.int .i64 t.kind, .int .i64 t.num, .string t.text, .slice a6 (t.putI (plcI t s).toNat z).items.length c6], .bool true]) ∧ Hid (LiesX (fun q => X q ∨ V.heap.size ≤ q) 17 w' (t.putI (plcI t s).toNat z).items (.slice a6 (t.putI (plcI t s).toNat z).items.length c6)) ∧ Below W.heap.size W w') := fun W hW => by
        have h1 := (htl.keeps hW).both.mono (Y := fun q => (X q ∨ V.heap.size ≤ q) ∧ q < W.heap.size) (fun q hq => ⟨.inl hq.1, hq.2⟩)
        have h2 := (hpl.keeps hW).both.mono (Y := fun q => (X q ∨ V.heap.size ≤ q) ∧ q < W.heap.size) (fun q hq => ⟨.inl hq.1, hq.2⟩)
        have h3 := (hzl.keeps hW).both
        refine (rput_all z hzs [s] (fun u hu => by rw [List.mem_singleton.1 hu]; exact HRt.out.2.1) (by simp) (fun q => (X q ∨ V.heap.size ≤ q) ∧ q < W.heap.size) t a za c zc _ W (fun q hq => hq.2) h1 HRt.out.1 h2 h3).mono ?_
        rintro e w' ⟨z', a6, c6, b', rfl, g1, g2, g3, g4⟩
        rcases g3 with ⟨rfl, g3⟩ | ⟨_, g3, _⟩
        · rw [hd3] at g3
          injection g3 with g3
          subst g3
          have h9 := hW.size
          have h8 := hbx.size
          exact ⟨a6, c6, rfl, g1.mono (fun q hq => by
            rcases hq with ⟨hq, _⟩ | hq
            · exact hq
            · exact .inr (by omega)), g4⟩
        · rw [hd3] at g3; cases g3
      have HEnd : Hid (∀ W a6 c6, Below Vx.heap.size Vx W → LiesX (fun q => X q ∨ V.heap.size ≤ q) 17 W (t.putI (plcI t s).toNat z).items (.slice a6 (t.putI (plcI t s).toNat z).items.length c6) → Hid (PP (.returned (.tuple #[.agg #[.int .i64 t.kind, .int .i64 t.num, .string t.text, .slice a6 (t.putI (plcI t s).toNat z).items.length c6], .bool true])) (W.setCells (w.heap.size + 1) 0 (encP (t, .slice a6 (t.putI (plcI t s).toNat z).items.length c6)))) ∧ Hid (Bx W (w.heap.size + 1) zeroT (.slice none 0 0)) ∧ Hid (Bx (W.setCells (w.heap.size + 1) 0 (encP (t, .slice a6 (t.putI (plcI t s).toNat z).items.length c6))) (w.heap.size + 1) t (.slice a6 (t.putI (plcI t s).toNat z).items.length c6))) := fun W a6 c6 h1 h2 => by
        have hbz : Below w.heap.size w W := hbw.trans (h1.mono hbw.size)
        refine ⟨?_, HRx.out.keeps h1, (HRx.out.keeps h1).put (t, _)⟩
        show PP _ _
        rw [← HPP.out]
        refine ⟨t.putI (plcI t s).toNat z, a6, c6, true, rfl, ?_, HRt.out.2.2, .inl ⟨rfl, hd1⟩, below_put hbz (by omega) _⟩
        refine LiesX.mono (fun q hq => hq.imp id (fun hq => by omega)) (LiesX.set (g := w.heap.size + 1) (fun hq => ?_) (LiesX.to (t := t.putI (plcI t s).toNat z) h2 hd2))
        rcases hq with hq | hq
        · have := HXl.out _ hq; omega
        · omega
      generalize (t.putI (plcI t s).toNat z).items = li at *
      have hn9 : n9 ≠ w.heap.size + 1 := by have := H14.out.new; omega
      have hnn : w.heap.size ≠ w.heap.size + 1 := by omega
      clear hzl hzs htl hpl hd1 hd2 hd3 hyes H14 Hyo HPP HPp HTx HRt HDr HNo hszV hbV hbx
      obtain ⟨t0, t1, t2, t3, _, _, _, _⟩ := HTx2.out
      obtain ⟨x0, x1, x2, x3, _, _, _, _⟩ := HZx.out
      go_upto_region 9 with fail
      go_region_held3 (fun w' => (w'.cell? ⟨w.heap.size, 0, none⟩ = some (.int .i64 t.kind) ∧ w'.cell? ⟨w.heap.size, 1, none⟩ = some (.int .i64 t.num) ∧ w'.cell? ⟨w.heap.size, 2, none⟩ = some (.string t.text) ∧ w'.cell? ⟨w.heap.size, 3, none⟩ = some (.slice a t.items.length c)) ∧ (w'.cell? ⟨n9, 0, none⟩ = some (.int .i64 z.kind) ∧ w'.cell? ⟨n9, 1, none⟩ = some (.int .i64 z.num) ∧ w'.cell? ⟨n9, 2, none⟩ = some (.string z.text) ∧ w'.cell? ⟨n9, 3, none⟩ = some (.slice za z.items.length zc))) (first | (go_keep; done) | (with_reducible exact ⟨⟨set4_k26 hnn t0, set4_k26 hnn t1, set4_k26 hnn t2, set4_k26 hnn t3⟩, set4_k26 hn9 x0, set4_k26 hn9 x1, set4_k26 hn9 x2, set4_k26 hn9 x3⟩))
        (first | (go_at_call 37; (with_reducible refine Calls.mono (HPut.out _ ?_) ?_); (first | exact Below.refl _ _ | exact (Below.refl _ _).drew); rintro e w5 ⟨a6, c6, rfl, HL6, hb6⟩; have hb6 : Below Vx.heap.size Vx w5 := (by first | exact hb6 | exact (Below.refl _ _).drew.trans hb6); obtain ⟨HP6, HR6, Hq⟩ := HEnd.out w5 a6 c6 hb6 HL6.out; obtain ⟨z0, z1, z2, z3, g0, g1, g2, g3⟩ := HR6.out; have t0 := cell_keeps hb6 t0; have t1 := cell_keeps hb6 t1; have t2 := cell_keeps hb6 t2; have t3 := cell_keeps hb6 t3; have x0 := cell_keeps hb6 x0; have x1 := cell_keeps hb6 x1; have x2 := cell_keeps hb6 x2; have x3 := cell_keeps hb6 x3; clear hb6 HL6))
      all_goals clear t0 t1 t2 t3 x0 x1 x2 x3 HEnd HPut HTx2 HZx
      all_goals go_wp2_with fail
      all_goals refine bodyPost_ret (v := .tuple #[.agg #[.int .i64 t.kind, .int .i64 t.num, .string t.text, .slice a6 li.length c6], .bool true]) ?_ rfl HP6.out
      all_goals obtain ⟨q0, q1, q2, q3, _, _, _, _⟩ := Hq.out
      all_goals simp only [World.setCells, encP, Nat.zero_add, Nat.reduceAdd] at q0 q1 q2 q3
      all_goals simp [results, Try.results33, go_sem, q0, q1, q2, q3]

/-- The document's without, whatever the path. -/
theorem rwot_any : ∀ (r : List VT), r ≠ [] → (∀ s ∈ r, rightV 16 s = true) → RWotC r := by
  intro r
  induction r with
  | nil => intro h _; exact absurd rfl h
  | cons s r ih =>
    intro _ hs X t a c pv w hX h hr hp hat
    have hd := Dp.of_lies 16 w t _ h.lies
    obtain ⟨hB, hq, _⟩ := at_first hr hd hat
    cases r with
    | nil =>
      by_cases h4 : t.kind = 4
      · exact rwot_4 s X t a c pv w hX h hr hp hB h4
      · by_cases h5 : t.kind = 5
        · exact rwot_5 s X t a c pv w hX h hr hp hB h5
        · by_cases h6 : t.kind = 6
          · exact rwot_6 s X t a c pv w hX h hr hp hB h6
          · exfalso
            have := leaf_items hr h4 h5 h6
            rw [this] at hq
            simp at hq
    | cons q r =>
      by_cases h5 : t.kind = 5
      · exact rwot_set s q r X t a c pv w h hr hp h5
      · exact rwot_more s q r X t a c pv w hX h hr hp (hs s List.mem_cons_self) hat h5 (ih (by simp) (fun u hu => hs u (List.mem_cons_of_mem _ hu)))

end Go.Proofs.Ytofceccicmlmoaa

namespace Go.Proofs.Ytofceccicmlmoaa
open Go.RowKit Go.Shelf

theorem drop_same {d : Nat} {t z : VT} {p : List VT} (hc : chkE d t p = 0) (hne : p ≠ []) (hat : atB t p = true) (hr : rightV 16 t = true) (hd : Dp 16 t) (hz : dropT t p = some z) : dneE 16 z true = drpE d t p ∧ dneR 16 z true = drpR d t p := by
  have hz2 := drop_right p t z hr hd hat hz
  have e1 : drpE d t p = fitE 16 z := by unfold drpE; rw [if_pos hc, if_neg hne, if_pos hat, hz]
  have hrv : rightV 16 z = (fw 16 z 16 1024).1 := by unfold rightV; rw [hz2.2, Bool.and_true]
  by_cases hf : (fw 16 z 16 1024).1 = true
  · have e2 : drpE d t p = 0 := by rw [e1]; unfold fitE; rw [if_pos hf]
    refine ⟨?_, ?_⟩
    · rw [e2]; unfold dneE; rw [if_pos rfl, hrv, if_pos hf]
    · unfold dneR drpR; rw [if_pos ⟨rfl, by rw [hrv]; exact hf⟩, if_pos e2, if_pos hat, hz]; rfl
  · have e2 : drpE d t p = 2 := by rw [e1]; unfold fitE; rw [if_neg hf]
    refine ⟨?_, ?_⟩
    · rw [e2]; unfold dneE; rw [if_pos rfl, hrv, if_neg hf]
    · unfold dneR drpR; rw [if_neg (fun h => hf (by rw [← hrv]; exact h.2)), e2]; rfl

theorem drop_same_none {d : Nat} {t : VT} {p : List VT} (hc : chkE d t p = 0) (hne : p ≠ []) (hat : atB t p = true) (hz : dropT t p = none) : dneE 16 zeroT false = drpE d t p ∧ dneR 16 zeroT false = drpR d t p := by
  have e1 : drpE d t p = 260 := by unfold drpE; rw [if_pos hc, if_neg hne, if_pos hat, hz]
  refine ⟨by rw [e1]; rfl, ?_⟩
  unfold drpR; rw [e1]; rfl

set_option maxRecDepth 100000 in
set_option maxHeartbeats 8000000 in
theorem rDrop_any (d : Nat) (t : VT) (p : List VT) (v pv : Value) (w : World) (hv : Lies d w t.items v) (hp : Lies (d + 1) w p pv) :
    Calls Try.prog 11 #[.agg #[.int .i64 t.kind, .int .i64 t.num, .string t.text, v], pv] w (RVX (fun _ => True) (drpR d t p) (drpE d t p) w) := by
  obtain ⟨a, c, rfl, _⟩ := Lies.slice hv
  obtain ⟨pa, pc, rfl, _⟩ := Lies.slice hp
  have HT : Hid (Bx (op2 w t (.slice a t.items.length c)) w.heap.size t (.slice a t.items.length c)) := op2_fst _ _ _
  have HR : Hid (Bx (op2 w t (.slice a t.items.length c)) (w.heap.size + 1) zeroT (.slice none 0 0)) := op2_snd _ _ _
  have hb0 := op2_below w t (.slice a t.items.length c)
  obtain ⟨W0, hW0⟩ : ∃ W0, W0 = op2 w t (.slice a t.items.length c) := ⟨_, rfl⟩
  have HW0 : Hid (W0 = op2 w t (.slice a t.items.length c)) := hW0
  rw [← hW0] at HT HR hb0
  clear hW0
  unfold op2 at HW0
  have HRt : Hid (Calls Try.prog 27 #[.agg #[.int .i64 t.kind, .int .i64 t.num, .string t.text, .slice a t.items.length c]] W0 fun e w' => e = .returned (.bool (rightV d t)) ∧ Below W0.heap.size W0 w') := right_any d t _ W0 (Lies.keeps hb0 _ _ _ hv)
  have HFt : Hid (∀ W, Below w.heap.size w W → Calls Try.prog 28 #[.slice pa p.length pc] W fun e w' => e = .returned (.int .i64 (pthE d p)) ∧ Below W.heap.size W w') := fun W hW => rfit_any d p _ W (Lies.keeps hW _ _ _ hp)
  obtain ⟨t0, t1, t2, t3, _, _, _, _⟩ := HT.out
  by_cases hrt : rightV d t = true
  · rw [hrt] at HRt
    have hck : chkE d t p = pthE d p := by unfold chkE; rw [if_pos hrt]
    by_cases hpe : pthE d p = 0
    · rw [hpe] at HFt hck
      obtain ⟨_, hl, hle⟩ := chk_zero hck
      have hc := canon hv hrt
      have hcp := canonL26 hp hle
      have hd := Dp.of_lies 16 w t _ hc.1
      by_cases hne : p = []
      · have e1 : drpE d t p = 260 := by unfold drpE; rw [if_pos hck, if_pos hne]
        have e2 : drpR d t p = zeroT := by unfold drpR; rw [e1]; rfl
        rw [e1, e2]
        have hlp : ((p.length : Int) == 0) = true := by rw [hne]; rfl
        have HE : Hid (∀ W, Below w.heap.size w W → RVX (fun _ => True) zeroT 260 w (.returned (.tuple #[.agg #[.int .i64 0, .int .i64 0, .string ⟨#[]⟩, .slice none 0 0], .int .i64 260])) W) := fun W hW => rvPost_zero hW
        generalize RVX (fun _ => True) zeroT 260 w = PP at *
        clear e1 e2 hck hrt hv hp hl hle hc hcp hd hne hpe
        generalize p.length = lp at *
        go_enter Try.func11, Try.ntmps11
        go_upto_region 1 with fail
        rw [← HW0.out]
        clear HW0
        go_wp2_with fail
        refine Calls.mono HRt.out ?_
        rintro e w1 ⟨rfl, hg1⟩
        have hb2 : Below w.heap.size w w1 := hb0.trans (hg1.mono hb0.size)
        have HR1 : Hid (Bx w1 (w.heap.size + 1) zeroT (.slice none 0 0)) := HR.out.keeps hg1
        replace t0 := cell_keeps hg1 t0; replace t1 := cell_keeps hg1 t1; replace t2 := cell_keeps hg1 t2; replace t3 := cell_keeps hg1 t3
        clear hg1 hb0 HR HT HRt

        go_wp2_with fail
        refine Calls.mono (HFt.out _ hb2) ?_
        rintro e w3 ⟨rfl, hg3⟩
        have hb4 : Below w.heap.size w w3 := hb2.trans (hg3.mono hb2.size)
        have HR3 : Hid (Bx w3 (w.heap.size + 1) zeroT (.slice none 0 0)) := HR1.out.keeps hg3
        replace t0 := cell_keeps hg3 t0; replace t1 := cell_keeps hg3 t1; replace t2 := cell_keeps hg3 t2; replace t3 := cell_keeps hg3 t3
        clear hg3 hb2 HR1 HFt

        clear t0 t1 t2 t3
        have HE1 : Hid (PP (.returned (.tuple #[.agg #[.int .i64 0, .int .i64 0, .string ⟨#[]⟩, .slice none 0 0], .int .i64 260])) (w3.setCells (w.heap.size + 1) 0 (encP (zeroT, .slice none 0 0)))) := HE.out _ (below_put hb4 (by omega) _)
        have Hq : Hid (Bx (w3.setCells (w.heap.size + 1) 0 (encP (zeroT, .slice none 0 0))) (w.heap.size + 1) zeroT (.slice none 0 0)) := HR3.out.put (zeroT, .slice none 0 0)
        obtain ⟨z0, z1, z2, z3, g0, g1, g2, g3⟩ := HR3.out
        go_wp2_with fail
        refine bodyPost_ret (v := .tuple #[.agg #[.int .i64 0, .int .i64 0, .string ⟨#[]⟩, .slice none 0 0], .int .i64 260]) ?_ rfl HE1.out
        obtain ⟨q0, q1, q2, q3, _, _, _, _⟩ := Hq.out
        simp only [World.setCells, encP, Nat.zero_add, Nat.reduceAdd] at q0 q1 q2 q3
        simp [results, Try.results11, go_sem, q0, q1, q2, q3]
      · have hlp : ((p.length : Int) == 0) = false := by
          have := List.length_pos_iff.2 hne
          simp; exact hne
        have HAt : Hid (∀ W, Below w.heap.size w W → Calls Try.prog 29 #[.agg #[.int .i64 t.kind, .int .i64 t.num, .string t.text, .slice a t.items.length c], .slice pa p.length pc] W (AtP (fun b => b < w.heap.size) t p W)) := fun W hW => rat_any (fun b => b < w.heap.size) t p a c _ W (fun b hb => by have := hW.size; omega) ((LiesX.of_lies hc.1).keeps hW) hc.2 (by have := right_size hc.2; omega) (Lies.keeps hW _ _ _ hcp.1) (fun s hs => (hcp.2 s hs).1) hl
        by_cases hat : atB t p = true
        · have HWt : Hid (∀ W, Below w.heap.size w W → w.heap.size + 1 < W.heap.size → Calls Try.prog 33 #[.agg #[.int .i64 t.kind, .int .i64 t.num, .string t.text, .slice a t.items.length c], .slice pa p.length pc] W fun e w' => ∃ (z : VT) (za : Option Addr) (zc : Nat) (b : Bool), e = .returned (.tuple #[.agg #[.int .i64 z.kind, .int .i64 z.num, .string z.text, .slice za z.items.length zc], .bool b]) ∧ Hid (Calls Try.prog 32 #[.agg #[.int .i64 z.kind, .int .i64 z.num, .string z.text, .slice za z.items.length zc], .bool b] w' (RVX (fun q => q ≠ w.heap.size + 1) (drpR d t p) (drpE d t p) w')) ∧ Below W.heap.size W w') := fun W hW hWs => by
            refine (rwot_any p hne (fun s hs => (hcp.2 s hs).1) (fun b => b < w.heap.size) t a c _ W (fun b hb => by have := hW.size; omega) ((LiesX.of_lies hc.1).keeps hW) hc.2 ((LiesX.of_lies hcp.1).keeps hW) hat).mono ?_
            rintro e w' ⟨z, za, zc, b, rfl, hz1, hz2, hz3, hz4⟩
            refine ⟨z, za, zc, b, rfl, ?_, hz4⟩
            have h9 := Calls.mono (rdone_any _ 16 z b za zc w' (fun q hq => hq.2) hz1.both) (fun e w2 h => RVX.mono (Y := fun q => q ≠ w.heap.size + 1) (fun q hq => by rcases hq.1 with hq | hq <;> omega) h)
            rcases hz3 with ⟨rfl, h⟩ | ⟨rfl, h, rfl⟩
            · obtain ⟨k1, k2⟩ := drop_same hck hne hat hc.2 hd h
              rw [k1, k2] at h9
              exact h9
            · obtain ⟨k1, k2⟩ := drop_same_none hck hne hat h
              rw [k1, k2] at h9
              exact h9
          obtain ⟨BB, hBB⟩ : ∃ BB : Bool, BB = true := ⟨_, rfl⟩
          have HAb : Hid (((atT t p).isSome = true → BB = true) ∧ ((atT t p).isSome = false → BB = false)) := ⟨fun _ => hBB, fun h => absurd hat (by unfold atB; rw [h]; simp)⟩
          generalize drpR d t p = r at *
          generalize drpE d t p = E at *
          obtain ⟨PP, hPP⟩ : ∃ PP, RVX (fun _ => True) r E w = PP := ⟨_, rfl⟩
          rw [hPP]
          have HPP : Hid (RVX (fun _ => True) r E w = PP) := hPP
          clear hPP hck hrt hv hp hl hle hc hcp hd hne hat hpe
          generalize p.length = lp at *
          go_enter Try.func11, Try.ntmps11
          go_upto_region 1 with fail
          rw [← HW0.out]
          clear HW0
          go_wp2_with fail
          refine Calls.mono HRt.out ?_
          rintro e w1 ⟨rfl, hg1⟩
          have hb2 : Below w.heap.size w w1 := hb0.trans (hg1.mono hb0.size)
          have HR1 : Hid (Bx w1 (w.heap.size + 1) zeroT (.slice none 0 0)) := HR.out.keeps hg1
          replace t0 := cell_keeps hg1 t0; replace t1 := cell_keeps hg1 t1; replace t2 := cell_keeps hg1 t2; replace t3 := cell_keeps hg1 t3
          clear hg1 hb0 HR HT HRt

          go_wp2_with fail
          refine Calls.mono (HFt.out _ hb2) ?_
          rintro e w3 ⟨rfl, hg3⟩
          have hb4 : Below w.heap.size w w3 := hb2.trans (hg3.mono hb2.size)
          have HR3 : Hid (Bx w3 (w.heap.size + 1) zeroT (.slice none 0 0)) := HR1.out.keeps hg3
          replace t0 := cell_keeps hg3 t0; replace t1 := cell_keeps hg3 t1; replace t2 := cell_keeps hg3 t2; replace t3 := cell_keeps hg3 t3
          clear hg3 hb2 HR1 HFt

          go_wp2_with fail
          refine Calls.mono (HAt.out _ hb4) ?_
          rintro e w5 ⟨y, ya, yc, b, rfl, hy1, hy2, hy3, hg5⟩
          obtain rfl : b = BB := by
            rcases hy3 with ⟨rfl, h⟩ | ⟨rfl, h, _⟩
            · exact (HAb.out.1 (by rw [h]; rfl)).symm
            · exact (HAb.out.2 (by rw [h]; rfl)).symm
          obtain ⟨V, hV⟩ : ∃ V, V = w5.alloc (.cells #[.int .i64 y.kind, .int .i64 y.num, .string y.text, .slice ya y.items.length yc] 24) := ⟨_, rfl⟩
          have hgV : Below w3.heap.size w3 V := by rw [hV]; exact hg5.alloc hg5.size _
          have hbV : Below w.heap.size w V := hb4.trans (hgV.mono hb4.size)
          have HRV : Hid (Bx V (w.heap.size + 1) zeroT (.slice none 0 0)) := HR3.out.keeps hgV
          have HV : Hid (w5.alloc (.cells #[.int .i64 y.kind, .int .i64 y.num, .string y.text, .slice ya y.items.length yc] 24) = V) := hV.symm
          replace t0 := cell_keeps hgV t0; replace t1 := cell_keeps hgV t1; replace t2 := cell_keeps hgV t2; replace t3 := cell_keeps hgV t3
          clear hV hgV hg5 hy1 hy2 hy3 hb4 HR3 HAt HAb
          generalize y.items.length = lyy at *
          go_upto_region 9 with fail
          rw [HV.out]
          clear HV
          subst hBB
          go_wp2_with fail
          have hsV : w.heap.size + 1 < V.heap.size := by have h9 := cell_lt HRV.out.c0; simpa using h9
          refine Calls.mono (HWt.out _ hbV hsV) ?_
          rintro e w7 ⟨z, za, zc, b, rfl, HDn, hg7⟩
          have hb8 : Below w.heap.size w w7 := hbV.trans (hg7.mono hbV.size)
          have HR7 : Hid (Bx w7 (w.heap.size + 1) zeroT (.slice none 0 0)) := HRV.out.keeps hg7
          clear hbV hg7 HRV HWt t0 t1 t2 t3
          go_wp2_with fail
          refine Calls.mono HDn.out ?_
          rintro e w9 ⟨u9, rfl, hl9, hg9⟩
          obtain ⟨a9, c9, rfl, _⟩ := LiesX.slice hl9
          have hb10 : Below w.heap.size w w9 := hb8.trans (hg9.mono hb8.size)
          have HR9 : Hid (Bx w9 (w.heap.size + 1) zeroT (.slice none 0 0)) := HR7.out.keeps hg9
          have HE1 : Hid (PP (.returned (.tuple #[.agg #[.int .i64 r.kind, .int .i64 r.num, .string r.text, .slice a9 r.items.length c9], .int .i64 E])) (w9.setCells (w.heap.size + 1) 0 (encP (r, .slice a9 r.items.length c9)))) := by
            show PP _ _
            rw [← HPP.out]
            exact ⟨_, rfl, (LiesX.set (g := w.heap.size + 1) (fun h => h rfl) hl9).mono (fun _ _ => trivial), below_put hb10 (by omega) _⟩
          have Hq : Hid (Bx (w9.setCells (w.heap.size + 1) 0 (encP (r, .slice a9 r.items.length c9))) (w.heap.size + 1) r (.slice a9 r.items.length c9)) := HR9.out.put (r, .slice a9 r.items.length c9)
          obtain ⟨z0, z1, z2, z3, g0, g1, g2, g3⟩ := HR9.out
          clear hl9 hg9 hb10 hb8 HR9 HR7 HPP HDn
          generalize r.items.length = lr at *
          go_wp2_with fail
          refine bodyPost_ret (v := .tuple #[.agg #[.int .i64 r.kind, .int .i64 r.num, .string r.text, .slice a9 lr c9], .int .i64 E]) ?_ rfl HE1.out
          obtain ⟨q0, q1, q2, q3, _, _, _, _⟩ := Hq.out
          simp only [World.setCells, encP, Nat.zero_add, Nat.reduceAdd] at q0 q1 q2 q3
          simp [results, Try.results11, go_sem, q0, q1, q2, q3]
        · have hatf : (atT t p).isSome = false := by simpa [atB] using hat
          have e1 : drpE d t p = 0 := by unfold drpE; rw [if_pos hck, if_neg hne, if_neg hat]
          have e2 : drpR d t p = t := by unfold drpR; rw [if_pos e1, if_neg hat]
          rw [e1, e2]
          obtain ⟨BB, hBB⟩ : ∃ BB : Bool, BB = false := ⟨_, rfl⟩
          have HAb : Hid (((atT t p).isSome = true → BB = true) ∧ ((atT t p).isSome = false → BB = false)) := ⟨fun h => absurd h (by rw [hatf]; simp), fun _ => hBB⟩
          have HLt : Hid (LiesX (fun b => b < w.heap.size) 16 w t.items (.slice a t.items.length c)) := LiesX.of_lies hc.1
          obtain ⟨PP, hPP⟩ : ∃ PP, RVX (fun _ => True) t 0 w = PP := ⟨_, rfl⟩
          rw [hPP]
          have HPP : Hid (RVX (fun _ => True) t 0 w = PP) := hPP
          clear hPP hck hrt hv hp hl hle hc hcp hd hne hat hpe e1 e2 hatf
          generalize p.length = lp at *
          go_enter Try.func11, Try.ntmps11
          go_upto_region 1 with fail
          rw [← HW0.out]
          clear HW0
          go_wp2_with fail
          refine Calls.mono HRt.out ?_
          rintro e w1 ⟨rfl, hg1⟩
          have hb2 : Below w.heap.size w w1 := hb0.trans (hg1.mono hb0.size)
          have HR1 : Hid (Bx w1 (w.heap.size + 1) zeroT (.slice none 0 0)) := HR.out.keeps hg1
          replace t0 := cell_keeps hg1 t0; replace t1 := cell_keeps hg1 t1; replace t2 := cell_keeps hg1 t2; replace t3 := cell_keeps hg1 t3
          clear hg1 hb0 HR HT HRt

          go_wp2_with fail
          refine Calls.mono (HFt.out _ hb2) ?_
          rintro e w3 ⟨rfl, hg3⟩
          have hb4 : Below w.heap.size w w3 := hb2.trans (hg3.mono hb2.size)
          have HR3 : Hid (Bx w3 (w.heap.size + 1) zeroT (.slice none 0 0)) := HR1.out.keeps hg3
          replace t0 := cell_keeps hg3 t0; replace t1 := cell_keeps hg3 t1; replace t2 := cell_keeps hg3 t2; replace t3 := cell_keeps hg3 t3
          clear hg3 hb2 HR1 HFt

          go_wp2_with fail
          refine Calls.mono (HAt.out _ hb4) ?_
          rintro e w5 ⟨y, ya, yc, b, rfl, hy1, hy2, hy3, hg5⟩
          obtain rfl : b = BB := by
            rcases hy3 with ⟨rfl, h⟩ | ⟨rfl, h, _⟩
            · exact (HAb.out.1 (by rw [h]; rfl)).symm
            · exact (HAb.out.2 (by rw [h]; rfl)).symm
          obtain ⟨V, hV⟩ : ∃ V, V = w5.alloc (.cells #[.int .i64 y.kind, .int .i64 y.num, .string y.text, .slice ya y.items.length yc] 24) := ⟨_, rfl⟩
          have hgV : Below w3.heap.size w3 V := by rw [hV]; exact hg5.alloc hg5.size _
          have hbV : Below w.heap.size w V := hb4.trans (hgV.mono hb4.size)
          have HRV : Hid (Bx V (w.heap.size + 1) zeroT (.slice none 0 0)) := HR3.out.keeps hgV
          have HV : Hid (w5.alloc (.cells #[.int .i64 y.kind, .int .i64 y.num, .string y.text, .slice ya y.items.length yc] 24) = V) := hV.symm
          replace t0 := cell_keeps hgV t0; replace t1 := cell_keeps hgV t1; replace t2 := cell_keeps hgV t2; replace t3 := cell_keeps hgV t3
          clear hV hgV hg5 hy1 hy2 hy3 hb4 HR3 HAt HAb
          generalize y.items.length = lyy at *
          go_upto_region 9 with fail
          rw [HV.out]
          clear HV
          subst hBB
          have HE1 : Hid (PP (.returned (.tuple #[.agg #[.int .i64 t.kind, .int .i64 t.num, .string t.text, .slice a t.items.length c], .int .i64 0])) (V.setCells (w.heap.size + 1) 0 (encP (t, .slice a t.items.length c)))) := by
            show PP _ _
            rw [← HPP.out]
            exact ⟨_, rfl, LiesX.mono (fun _ _ => trivial) (LiesX.set (g := w.heap.size + 1) (by omega) (HLt.out.keeps hbV)), below_put hbV (by omega) _⟩
          have Hq : Hid (Bx (V.setCells (w.heap.size + 1) 0 (encP (t, .slice a t.items.length c))) (w.heap.size + 1) t (.slice a t.items.length c)) := HRV.out.put (t, .slice a t.items.length c)
          obtain ⟨z0, z1, z2, z3, g0, g1, g2, g3⟩ := HRV.out
          clear HPP HLt hbV HRV
          generalize t.items.length = lt at *
          go_wp2_with fail
          refine bodyPost_ret (v := .tuple #[.agg #[.int .i64 t.kind, .int .i64 t.num, .string t.text, .slice a lt c], .int .i64 0]) ?_ rfl HE1.out
          obtain ⟨q0, q1, q2, q3, _, _, _, _⟩ := Hq.out
          simp only [World.setCells, encP, Nat.zero_add, Nat.reduceAdd] at q0 q1 q2 q3
          simp [results, Try.results11, go_sem, q0, q1, q2, q3]
    · have e1 : drpE d t p = pthE d p := by unfold drpE; rw [hck, if_neg hpe]
      have e2 : drpR d t p = zeroT := by unfold drpR; rw [e1, if_neg hpe]; rfl
      rw [e1, e2]
      have HE : Hid (∀ W, Below w.heap.size w W → RVX (fun _ => True) zeroT (pthE d p) w (.returned (.tuple #[.agg #[.int .i64 0, .int .i64 0, .string ⟨#[]⟩, .slice none 0 0], .int .i64 (pthE d p)])) W) := fun W hW => rvPost_zero hW
      generalize RVX (fun _ => True) zeroT (pthE d p) w = PP at *
      clear e1 e2 hck hrt hv hp
      generalize pthE d p = E at *
      have hpe' : (E != 0) = true := by simpa using hpe
      go_enter Try.func11, Try.ntmps11
      go_upto_region 1 with fail
      rw [← HW0.out]
      clear HW0
      go_wp2_with fail
      refine Calls.mono HRt.out ?_
      rintro e w1 ⟨rfl, hg1⟩
      have hb2 : Below w.heap.size w w1 := hb0.trans (hg1.mono hb0.size)
      have HR1 : Hid (Bx w1 (w.heap.size + 1) zeroT (.slice none 0 0)) := HR.out.keeps hg1
      replace t0 := cell_keeps hg1 t0; replace t1 := cell_keeps hg1 t1; replace t2 := cell_keeps hg1 t2; replace t3 := cell_keeps hg1 t3
      clear hg1 hb0 HR HT HRt

      go_wp2_with fail
      refine Calls.mono (HFt.out _ hb2) ?_
      rintro e w3 ⟨rfl, hg3⟩
      have hb4 : Below w.heap.size w w3 := hb2.trans (hg3.mono hb2.size)
      have HR3 : Hid (Bx w3 (w.heap.size + 1) zeroT (.slice none 0 0)) := HR1.out.keeps hg3
      replace t0 := cell_keeps hg3 t0; replace t1 := cell_keeps hg3 t1; replace t2 := cell_keeps hg3 t2; replace t3 := cell_keeps hg3 t3
      clear hg3 hb2 HR1 HFt

      clear t0 t1 t2 t3
      have HE1 : Hid (PP (.returned (.tuple #[.agg #[.int .i64 0, .int .i64 0, .string ⟨#[]⟩, .slice none 0 0], .int .i64 E])) (w3.setCells (w.heap.size + 1) 0 (encP (zeroT, .slice none 0 0)))) := HE.out _ (below_put hb4 (by omega) _)
      have Hq : Hid (Bx (w3.setCells (w.heap.size + 1) 0 (encP (zeroT, .slice none 0 0))) (w.heap.size + 1) zeroT (.slice none 0 0)) := HR3.out.put (zeroT, .slice none 0 0)
      obtain ⟨z0, z1, z2, z3, g0, g1, g2, g3⟩ := HR3.out
      go_wp2_with fail
      refine bodyPost_ret (v := .tuple #[.agg #[.int .i64 0, .int .i64 0, .string ⟨#[]⟩, .slice none 0 0], .int .i64 E]) ?_ rfl HE1.out
      obtain ⟨q0, q1, q2, q3, _, _, _, _⟩ := Hq.out
      simp only [World.setCells, encP, Nat.zero_add, Nat.reduceAdd] at q0 q1 q2 q3
      simp [results, Try.results11, go_sem, q0, q1, q2, q3]
  · have hrf : rightV d t = false := by simpa using hrt
    rw [hrf] at HRt
    have e0 : chkE d t p = 3 := by unfold chkE; rw [if_neg hrt]
    have e1 : drpE d t p = 3 := by unfold drpE; rw [e0, if_neg (by omega)]
    have e2 : drpR d t p = zeroT := by unfold drpR; rw [e1, if_neg (by omega)]; rfl
    rw [e1, e2]
    have HE : Hid (∀ W, Below w.heap.size w W → RVX (fun _ => True) zeroT 3 w (.returned (.tuple #[.agg #[.int .i64 0, .int .i64 0, .string ⟨#[]⟩, .slice none 0 0], .int .i64 3])) W) := fun W hW => rvPost_zero hW
    generalize RVX (fun _ => True) zeroT 3 w = PP at *
    clear e0 e1 e2 hrt hrf hv hp HFt
    go_enter Try.func11, Try.ntmps11
    go_upto_region 1 with fail
    rw [← HW0.out]
    clear HW0
    go_wp2_with fail
    refine Calls.mono HRt.out ?_
    rintro e w1 ⟨rfl, hg1⟩
    have hb2 : Below w.heap.size w w1 := hb0.trans (hg1.mono hb0.size)
    have HR1 : Hid (Bx w1 (w.heap.size + 1) zeroT (.slice none 0 0)) := HR.out.keeps hg1
    replace t0 := cell_keeps hg1 t0; replace t1 := cell_keeps hg1 t1; replace t2 := cell_keeps hg1 t2; replace t3 := cell_keeps hg1 t3
    clear hg1 hb0 HR HT HRt

    clear t0 t1 t2 t3
    have HE1 : Hid (PP (.returned (.tuple #[.agg #[.int .i64 0, .int .i64 0, .string ⟨#[]⟩, .slice none 0 0], .int .i64 3])) (w1.setCells (w.heap.size + 1) 0 (encP (zeroT, .slice none 0 0)))) := HE.out _ (below_put hb2 (by omega) _)
    have Hq : Hid (Bx (w1.setCells (w.heap.size + 1) 0 (encP (zeroT, .slice none 0 0))) (w.heap.size + 1) zeroT (.slice none 0 0)) := HR1.out.put (zeroT, .slice none 0 0)
    obtain ⟨z0, z1, z2, z3, g0, g1, g2, g3⟩ := HR1.out
    go_wp2_with fail
    refine bodyPost_ret (v := .tuple #[.agg #[.int .i64 0, .int .i64 0, .string ⟨#[]⟩, .slice none 0 0], .int .i64 3]) ?_ rfl HE1.out
    obtain ⟨q0, q1, q2, q3, _, _, _, _⟩ := Hq.out
    simp only [World.setCells, encP, Nat.zero_add, Nat.reduceAdd] at q0 q1 q2 q3
    simp [results, Try.results11, go_sem, q0, q1, q2, q3]

end Go.Proofs.Ytofceccicmlmoaa

namespace Go.Proofs.Ytofceccicmlmoaa
open Go.RowKit Go.Shelf

set_option maxRecDepth 100000 in
set_option maxHeartbeats 8000000 in
theorem getl_core (t x y : VT) (B : Bool) (E F : Int) (a ap : Option Addr) (l c lp cp : Nat) (w : World)
    (H1 : Hid (∀ W, Below w.heap.size w W → Calls Try.prog 8 #[.agg #[.int .i64 t.kind, .int .i64 t.num, .string t.text, .slice a l c], .slice ap lp cp] W (GtPost x B E W)))
    (H2 : Hid (∀ W, Below w.heap.size w W → Calls Try.prog 9 #[.agg #[.int .i64 t.kind, .int .i64 t.num, .string t.text, .slice a l c], .slice ap lp cp] W (RGPost x B E W)))
    (H3 : Hid (∀ W, Below w.heap.size w W → Calls Try.prog 10 #[.agg #[.int .i64 t.kind, .int .i64 t.num, .string t.text, .slice a l c], .slice ap lp cp] W (VPost y F W)))
    (H4 : Hid (∀ W, Below w.heap.size w W → Calls Try.prog 11 #[.agg #[.int .i64 t.kind, .int .i64 t.num, .string t.text, .slice a l c], .slice ap lp cp] W (RVX (fun _ => True) y F W)))
    (HV : Hid (∀ (s : VT) (u v : Value) (W : World), Lies 16 W s.items u → Lies 16 W s.items v → Calls Try.prog 12 #[.agg #[.int .i64 s.kind, .int .i64 s.num, .string s.text, u], .agg #[.int .i64 s.kind, .int .i64 s.num, .string s.text, v]] W fun e W' => e = .returned (.bool true) ∧ Below W.heap.size W W')) :
    Calls Try.prog 3 #[.agg #[.int .i64 t.kind, .int .i64 t.num, .string t.text, .slice a l c], .slice ap lp cp] w fun e w' => e = .returned (.bool true) ∧ Below w.heap.size w w' := by
  have hal : Below w.heap.size w (w.alloc (.cells #[.int .i64 t.kind, .int .i64 t.num, .string t.text, .slice a l c] 24)) := ((Grew.refl w).alloc _).below
  have HX : Hid (Bx (w.alloc (.cells #[.int .i64 t.kind, .int .i64 t.num, .string t.text, .slice a l c] 24)) w.heap.size t (.slice a l c)) := bx_alloc w t _
  have HSp : Hid (∀ W, Calls Try.prog 13 #[] W fun e w' => e = .returned (.bool true) ∧ Below W.heap.size W w') := fun W => speaks26 put_all W
  obtain ⟨x0, x1, x2, x3, _, _, _, _⟩ := HX.out
  go_enter Try.func3, Try.ntmps3
  go_wp2_with fail
  refine Calls.mono (H1.out _ hal) ?_
  rintro e w1 ⟨v1, rfl, hl1, hb⟩
  obtain ⟨a1, c1, rfl, _⟩ := LiesX.slice hl1
  obtain ⟨hb1, hg⟩ := belowB_new hal hb (.cells #[.int .i64 x.kind, .int .i64 x.num, .string x.text, .slice a1 x.items.length c1] 24)
  have HX1 : Hid (Bx (w1.alloc (.cells #[.int .i64 x.kind, .int .i64 x.num, .string x.text, .slice a1 x.items.length c1] 24)) w.heap.size t (.slice a l c)) := HX.out.keeps hg
  have K11 : Hid (KeptB (w1.alloc (.cells #[.int .i64 x.kind, .int .i64 x.num, .string x.text, .slice a1 x.items.length c1] 24)) w1.heap.size x (.slice a1 x.items.length c1)) := keptB_new hl1.lies
  clear hal hb hg HX hl1 H1 x0 x1 x2 x3 
  obtain ⟨N1, hN1⟩ : ∃ N, N = w1.heap.size := ⟨_, rfl⟩
  rw [← hN1] at K11
  have HN1 : Hid (w1.heap.size = N1) := hN1.symm
  clear hN1
  obtain ⟨x0, x1, x2, x3, _, _, _, _⟩ := HX1.out
  go_wp2_with fail
  refine Calls.mono (H2.out _ hb1) ?_
  rintro e w2 ⟨v2, rfl, hl2, hb⟩
  obtain ⟨a2, c2, rfl, _⟩ := Lies.slice hl2
  obtain ⟨hb2, hg⟩ := belowB_new hb1 hb (.cells #[.int .i64 x.kind, .int .i64 x.num, .string x.text, .slice a2 x.items.length c2] 24)
  have HX2 : Hid (Bx (w2.alloc (.cells #[.int .i64 x.kind, .int .i64 x.num, .string x.text, .slice a2 x.items.length c2] 24)) w.heap.size t (.slice a l c)) := HX1.out.keeps hg
  have K12 : Hid (KeptB (w2.alloc (.cells #[.int .i64 x.kind, .int .i64 x.num, .string x.text, .slice a2 x.items.length c2] 24)) N1 x (.slice a1 x.items.length c1)) := K11.out.keeps hg
  have K22 : Hid (KeptB (w2.alloc (.cells #[.int .i64 x.kind, .int .i64 x.num, .string x.text, .slice a2 x.items.length c2] 24)) w2.heap.size x (.slice a2 x.items.length c2)) := keptB_new hl2
  clear hb1 hb hg HX1 hl2 H2 x0 x1 x2 x3 K11
  obtain ⟨N2, hN2⟩ : ∃ N, N = w2.heap.size := ⟨_, rfl⟩
  rw [← hN2] at K22
  have HN2 : Hid (w2.heap.size = N2) := hN2.symm
  clear hN2
  obtain ⟨x0, x1, x2, x3, _, _, _, _⟩ := HX2.out
  go_wp2_with fail
  refine Calls.mono (H3.out _ hb2) ?_
  rintro e w3 ⟨v3, rfl, hl3, hb⟩
  obtain ⟨a3, c3, rfl, _⟩ := LiesX.slice hl3
  obtain ⟨hb3, hg⟩ := belowB_new hb2 hb (.cells #[.int .i64 y.kind, .int .i64 y.num, .string y.text, .slice a3 y.items.length c3] 24)
  have HX3 : Hid (Bx (w3.alloc (.cells #[.int .i64 y.kind, .int .i64 y.num, .string y.text, .slice a3 y.items.length c3] 24)) w.heap.size t (.slice a l c)) := HX2.out.keeps hg
  have K13 : Hid (KeptB (w3.alloc (.cells #[.int .i64 y.kind, .int .i64 y.num, .string y.text, .slice a3 y.items.length c3] 24)) N1 x (.slice a1 x.items.length c1)) := K12.out.keeps hg
  have K23 : Hid (KeptB (w3.alloc (.cells #[.int .i64 y.kind, .int .i64 y.num, .string y.text, .slice a3 y.items.length c3] 24)) N2 x (.slice a2 x.items.length c2)) := K22.out.keeps hg
  have K33 : Hid (KeptB (w3.alloc (.cells #[.int .i64 y.kind, .int .i64 y.num, .string y.text, .slice a3 y.items.length c3] 24)) w3.heap.size y (.slice a3 y.items.length c3)) := keptB_new hl3.lies
  clear hb2 hb hg HX2 hl3 H3 x0 x1 x2 x3 K12 K22
  obtain ⟨N3, hN3⟩ : ∃ N, N = w3.heap.size := ⟨_, rfl⟩
  rw [← hN3] at K33
  have HN3 : Hid (w3.heap.size = N3) := hN3.symm
  clear hN3
  obtain ⟨x0, x1, x2, x3, _, _, _, _⟩ := HX3.out
  go_wp2_with fail
  refine Calls.mono (H4.out _ hb3) ?_
  rintro e w4 ⟨v4, rfl, hl4, hb⟩
  obtain ⟨a4, c4, rfl, _⟩ := LiesX.slice hl4
  obtain ⟨hb4, hg⟩ := belowB_new hb3 hb (.cells #[.int .i64 y.kind, .int .i64 y.num, .string y.text, .slice a4 y.items.length c4] 24)
  have HX4 : Hid (Bx (w4.alloc (.cells #[.int .i64 y.kind, .int .i64 y.num, .string y.text, .slice a4 y.items.length c4] 24)) w.heap.size t (.slice a l c)) := HX3.out.keeps hg
  have K14 : Hid (KeptB (w4.alloc (.cells #[.int .i64 y.kind, .int .i64 y.num, .string y.text, .slice a4 y.items.length c4] 24)) N1 x (.slice a1 x.items.length c1)) := K13.out.keeps hg
  have K24 : Hid (KeptB (w4.alloc (.cells #[.int .i64 y.kind, .int .i64 y.num, .string y.text, .slice a4 y.items.length c4] 24)) N2 x (.slice a2 x.items.length c2)) := K23.out.keeps hg
  have K34 : Hid (KeptB (w4.alloc (.cells #[.int .i64 y.kind, .int .i64 y.num, .string y.text, .slice a4 y.items.length c4] 24)) N3 y (.slice a3 y.items.length c3)) := K33.out.keeps hg
  have K44 : Hid (KeptB (w4.alloc (.cells #[.int .i64 y.kind, .int .i64 y.num, .string y.text, .slice a4 y.items.length c4] 24)) w4.heap.size y (.slice a4 y.items.length c4)) := keptB_new hl4.lies
  clear hb3 hb hg HX3 hl4 H4 x0 x1 x2 x3 K13 K23 K33
  obtain ⟨N4, hN4⟩ : ∃ N, N = w4.heap.size := ⟨_, rfl⟩
  rw [← hN4] at K44
  have HN4 : Hid (w4.heap.size = N4) := hN4.symm
  clear hN4
  obtain ⟨x0, x1, x2, x3, _, _, _, _⟩ := HX4.out
  clear x0 x1 x2 x3 HX4
  obtain ⟨⟨p0, p1, p2, p3, _, _, _, _⟩, _⟩ := K14.out
  obtain ⟨⟨q0, q1, q2, q3, _, _, _, _⟩, _⟩ := K24.out
  go_upto_region 5 with fail
  simp only [HN1.out, HN2.out, HN3.out, HN4.out]
  go_wp2_with fail
  refine Calls.mono (HV.out x _ _ _ K14.out.lies K24.out.lies) ?_
  rintro e w5 ⟨rfl, hb⟩
  have hb5 : Below w.heap.size w w5 := hb4.trans (hb.mono hb4.size)
  have K35 : Hid (KeptB w5 N3 y (.slice a3 y.items.length c3)) := K34.out.keeps hb
  have K45 : Hid (KeptB w5 N4 y (.slice a4 y.items.length c4)) := K44.out.keeps hb
  clear hb hb4 K14 K24 K34 K44 p0 p1 p2 p3 q0 q1 q2 q3
  obtain ⟨⟨p0, p1, p2, p3, _, _, _, _⟩, _⟩ := K35.out
  obtain ⟨⟨q0, q1, q2, q3, _, _, _, _⟩, _⟩ := K45.out
  go_wp2_with fail
  refine Calls.mono (HV.out y _ _ _ K35.out.lies K45.out.lies) ?_
  rintro e w6 ⟨rfl, hb⟩
  have hb6 : Below w.heap.size w w6 := hb5.trans (hb.mono hb5.size)
  clear hb hb5 K35 K45 p0 p1 p2 p3 q0 q1 q2 q3
  go_wp2_with fail
  refine (HSp.out _).mono ?_
  rintro e w7 ⟨rfl, hb⟩
  have hb7 : Below w.heap.size w w7 := hb6.trans (hb.mono hb6.size)
  clear hb
  go_wp2_with fail
  go_ret
  exact ⟨rfl, hb7⟩

theorem getl_walk (n0 n1 : Nat) (t : VT) (p : List VT) (u pv : Value) (w : World) (L0 : Lies n0 w t.items u) (L1 : Lies (n1 + 1) w p pv) (b0 : t.text.size ≤ 9223372036854775807) :
    Calls Try.prog 3 #[.agg #[.int .i64 t.kind, .int .i64 t.num, .string t.text, u], pv] w fun e w' => e = .returned (.bool true) ∧ Below w.heap.size w w' := by
  obtain ⟨d, h16, hn0, hn1⟩ : ∃ d, 16 ≤ d ∧ n0 ≤ d ∧ n1 ≤ d := ⟨16 + n0 + n1, by omega, by omega, by omega⟩
  replace L0 := L0.atLeast d hn0
  replace L1 := L1.atLeast (d + 1) (by omega)
  obtain ⟨a, c, rfl, _⟩ := Lies.slice L0
  obtain ⟨ap, cp, rfl, _⟩ := Lies.slice L1
  refine getl_core t (getR d t p) (drpR d t p) (getB d t p) (chkE d t p) (drpE d t p) a ap _ c _ cp w ?_ ?_ ?_ ?_ ?_
  · exact fun W hW => get_any d t p _ _ W (Lies.keeps hW _ _ _ L0) b0 (Lies.keeps hW _ _ _ L1)
  · exact fun W hW => rGet_any d t p _ _ W (Lies.keeps hW _ _ _ L0) (Lies.keeps hW _ _ _ L1)
  · exact fun W hW => drop_face d t p _ _ W (Lies.keeps hW _ _ _ L0) b0 (Lies.keeps hW _ _ _ L1)
  · exact fun W hW => rDrop_any d t p _ _ W (Lies.keeps hW _ _ _ L0) (Lies.keeps hW _ _ _ L1)
  · exact fun s u v W h1 h2 => (same_any 16 s s u v W h1 h2).mono fun e W' h => ⟨by rw [h.1, sameV_self], h.2.below⟩

end Go.Proofs.Ytofceccicmlmoaa

