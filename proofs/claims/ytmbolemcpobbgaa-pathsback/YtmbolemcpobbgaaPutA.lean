/-
  put, whatever the path.
-/
import Derived.Test.YtmbolemcpobbgaaPutM
import Derived.Test.YtmbolemcpobbgaaFaceP
namespace Go.Proofs.Ytmbolemcpobbgaa
open Go.RowKit Go.Shelf

theorem Bx.otherO {W : World} {n g : Nat} {t : VT} {u : Value} (h : Bx W n t u) (hg : n ≠ g) (o : Nat) (vs : List Value) : Bx (W.setCells g o vs) n t u :=
  ⟨cell_other hg h.c0, cell_other hg h.c1, cell_other hg h.c2, cell_other hg h.c3, by rw [World.frozen?_setCells]; exact h.f0, by rw [World.frozen?_setCells]; exact h.f1, by rw [World.frozen?_setCells]; exact h.f2, by rw [World.frozen?_setCells]; exact h.f3⟩

theorem set4_o26 {W : World} {n o : Nat} {v0 v1 v2 v3 : Value} {a : Addr} {v : Value} (hn : a.block ≠ n) (h : W.cell? a = some v) : ((((W.setCell ⟨n, o, none⟩ v0).setCell ⟨n, o + 1, none⟩ v1).setCell ⟨n, o + 2, none⟩ v2).setCell ⟨n, o + 3, none⟩ v3).cell? a = some v :=
  cell_other (o := o) (vs := [v0, v1, v2, v3]) hn h

theorem below_setsO {w W : World} (h : Below w.heap.size w W) {g : Nat} (hg : w.heap.size ≤ g) : ∀ (vs : List Value) (o : Nat), Below w.heap.size w (W.setCells g o vs) := by
  intro vs
  induction vs generalizing W with
  | nil => intro o; exact h
  | cons v vs ih => intro o; exact ih (h.setCell (p := ⟨g, o, none⟩) hg v) (o + 1)

/-- The load of the row's item in put's one region that stores into the row: by a name of its own, so that the walk goes over its orders and does not ask that the row stay. -/
def ldRow : Oper :=
  { dst := some 39, op := Go.Op.load 24 (Go.Operand.tmp 38), type := 24, pos := "steps.go:50", after := #[{ on := 6, ground := Go.Ground.data }], guard := none }

attribute [local go_sem] ldRow

theorem ldRow_eq : ldRow = { dst := some 39, op := Go.Op.load 24 (Go.Operand.tmp 38), type := 24, pos := "steps.go:50", after := #[{ on := 6, ground := Go.Ground.data }], guard := none } := rfl

set_option maxRecDepth 100000 in
set_option maxHeartbeats 8000000 in
/-- The path leads on. -/
theorem put_on (s x : VT) (r : List VT) (X : Nat → Prop) (t : VT) (a ax : Option Addr) (c cx : Nat) (pv : Value) (w : World) (hX : ∀ b, X b → b < w.heap.size) (h : LiesX X 16 w t.items (.slice a t.items.length c)) (hr : rightV 16 t = true) (hp : LiesX X 17 w (s :: r) pv) (hsr : rightV 16 s = true) (hn : r.length ≤ 16) (t2' : VT) (i : Nat) (ho : opnT t s = some (t2', i)) (hi : i < t2'.items.length) (ih : Hid (PutC r x)) (hx : LiesX X 16 w x.items (.slice ax x.items.length cx)) :
    Calls Try.prog 36 #[.agg #[.int .i64 t.kind, .int .i64 t.num, .string t.text, .slice a t.items.length c], pv, .agg #[.int .i64 x.kind, .int .i64 x.num, .string x.text, .slice ax x.items.length cx]] w (PutQ X t (s :: r) x w) := by
  have hd := Dp.of_lies 16 w t _ h.lies
  have hlen := right_len hr
  have hd2 : rightV 16 t2'.items[i] = true := by
    obtain ⟨_, _, _, _, k5⟩ := opn_there ho (right_even t hd hr)
    rw [List.getElem?_eq_getElem hi] at k5
    rcases k5 with k5 | ⟨u, hu, k5⟩
    · injection k5 with k5; rw [k5]; exact nil_right
    · injection k5 with k5; rw [k5]; exact (item_right hr hd hu).1
  have hput : putT t (s :: r) x = match putT t2'.items[i] r x with | none => none | some z => some (t2'.putI i z) := by
    conv => lhs; unfold putT
    rw [ho]
    simp only [List.getElem?_eq_getElem hi]
    rfl
  have hlen2 : t2'.items.length ≤ 65536 := by
    unfold opnT at ho
    split at ho
    · injection ho with ho; injection ho with e1 _; subst e1
      show (keyed s t.items).length ≤ 65536
      unfold keyed
      split
      · omega
      · simp; omega
    · split at ho
      · split at ho
        · injection ho with ho; injection ho with e1 _; subst e1; simp; omega
        · split at ho
          · injection ho with ho; injection ho with e1 _; subst e1; omega
          · cases ho
      · cases ho
  have htx2 : t2'.text.size ≤ 9223372036854775807 := by
    have h9 := right_size hr
    have : t2'.text = t.text := by
      unfold opnT at ho
      split at ho
      · injection ho with ho; injection ho with e1 _; subst e1; rfl
      · split at ho
        · split at ho
          · injection ho with ho; injection ho with e1 _; subst e1; rfl
          · split at ho
            · injection ho with ho; injection ho with e1 _; subst e1; rfl
            · cases ho
        · cases ho
    rw [this]; omega
  have HT : Hid (Bx (op3 w t x (.slice a t.items.length c) (.slice ax x.items.length cx)) w.heap.size t (.slice a t.items.length c)) := op3_fst _ _ _ _ _
  have HXb : Hid (Bx (op3 w t x (.slice a t.items.length c) (.slice ax x.items.length cx)) (w.heap.size + 1) x (.slice ax x.items.length cx)) := op3_snd _ _ _ _ _
  have HR : Hid (Bx (op3 w t x (.slice a t.items.length c) (.slice ax x.items.length cx)) (w.heap.size + 2) zeroT (.slice none 0 0)) := op3_thd _ _ _ _ _
  have hb0 := op3_below w t x (.slice a t.items.length c) (.slice ax x.items.length cx)
  have hs0 := op3_size w t x (.slice a t.items.length c) (.slice ax x.items.length cx)
  obtain ⟨W0, hW0⟩ : ∃ W0, W0 = op3 w t x (.slice a t.items.length c) (.slice ax x.items.length cx) := ⟨_, rfl⟩
  have HW0 : Hid (W0 = op3 w t x (.slice a t.items.length c) (.slice ax x.items.length cx)) := hW0
  rw [← hW0] at HT HR HXb hb0 hs0
  clear hW0
  unfold op3 at HW0
  obtain ⟨b, o, pc, us, rfl, hXb, hpc, p0, p1, p2, p3, hls⟩ := liesX_head hp
  obtain ⟨ay, cy, rfl, _⟩ := LiesX.slice hls
  have hbl := hX _ hXb
  have HCl : Hid (Calls Try.prog 57 #[.slice a t.items.length c] W0 fun e w' => ∃ ps a' c', ps.map (·.1) = t.items ∧ e = .returned (.slice a' t.items.length c') ∧ OwnX X W0.heap.size w' ps (.slice a' t.items.length c') ∧ Below W0.heap.size W0 w') := clone_own X t a c W0 (h.keeps hb0) hlen
  have HOp : Hid (∀ ps a' c' W, ps.map (·.1) = t.items → OwnX X W0.heap.size W ps (.slice a' t.items.length c') → W0.heap.size ≤ W.heap.size → LiesX X 16 W s.items (.slice ay s.items.length cy) → Calls Try.prog 61 #[.agg #[.int .i64 t.kind, .int .i64 t.num, .string t.text, .slice a' t.items.length c'], .agg #[.int .i64 s.kind, .int .i64 s.num, .string s.text, .slice ay s.items.length cy]] W fun e w' => ∃ ps' a2 c2, ps'.map (·.1) = t2'.items ∧ e = .returned (.tuple #[.agg #[.int .i64 t2'.kind, .int .i64 t2'.num, .string t2'.text, .slice a2 t2'.items.length c2], .int .i64 (i : Int), .int .i64 0]) ∧ OwnX X W0.heap.size w' ps' (.slice a2 t2'.items.length c2) ∧ Below W0.heap.size W w') := fun ps a' c' W h1 h2 h3 h4 => by
    have := opened_any X W0.heap.size (fun b hb => by have := hX b hb; omega) t s ps a' ay c' cy W h3 h1 h2 h4 hr hd hsr
    unfold OpPost at this
    rw [ho] at this
    exact this
  have HEn : Hid (putT t2'.items[i] r x = none → ∀ W k n tx a l c, Below w.heap.size w W → PutQ X t (s :: r) x w (.returned (.tuple #[.agg #[.int .i64 k, .int .i64 n, .string tx, .slice a l c], .int .i64 260])) W) := fun h9 W k n tx a l c hW => put_none26 (by rw [hput, h9]) k n tx a l c hW
  have HEs : Hid (∀ z, putT t2'.items[i] r x = some z → ∀ W a' c', LiesX (fun b => X b ∨ w.heap.size ≤ b) (16 + (r.length + 1)) W (t2'.items.set i z) (.slice a' (t2'.items.set i z).length c') → Below w.heap.size w W → PutQ X t (s :: r) x w (.returned (.tuple #[.agg #[.int .i64 t2'.kind, .int .i64 t2'.num, .string t2'.text, .slice a' (t2'.items.set i z).length c'], .int .i64 0])) W) := fun z h9 W a' c' h1 h2 => put_some26 (z := t2'.putI i z) (by rw [hput, h9]) h1 htx2 h2
  have HLx : Hid (LiesX X 16 w x.items (.slice ax x.items.length cx)) := hx
  have HRs : Hid (∀ W, Below w.heap.size w W → Calls Try.prog 51 #[.slice (some ⟨b, o, none⟩) (r.length + 1) pc] W fun e w' => ∃ u, e = .returned u ∧ w' = W ∧ LiesX X 17 W r u) := fun W hW => rest_any _ 16 s r _ W (hp.keeps hW) (by omega)
  have HPu : Hid (∀ W u a' c', Below w.heap.size w W → LiesX X 17 W r u → LiesX X 16 W t2'.items[i].items (.slice a' t2'.items[i].items.length c') → Calls Try.prog 36 #[.agg #[.int .i64 t2'.items[i].kind, .int .i64 t2'.items[i].num, .string t2'.items[i].text, .slice a' t2'.items[i].items.length c'], u, .agg #[.int .i64 x.kind, .int .i64 x.num, .string x.text, .slice ax x.items.length cx]] W (PutQ X t2'.items[i] r x W)) := fun W u a' c' hW h1 h2 => ih.out X t2'.items[i] a' ax c' cx u W (fun b hb => by have := hX b hb; have := hW.size; omega) h2 hd2 h1 (HLx.out.keeps hW)
  have HLs : Hid (LiesX X 16 w s.items (.slice ay s.items.length cy)) := hls
  have HXX : Hid (∀ b, X b → b < w.heap.size) := hX
  replace p0 := cell_keeps hb0 p0; replace p1 := cell_keeps hb0 p1; replace p2 := cell_keeps hb0 p2; replace p3 := cell_keeps hb0 p3
  have Hs0 : Hid (W0.heap.size = w.heap.size + 3) := hs0
  generalize PutQ X t (s :: r) x w = PP at *
  clear hput ho h hr hd hlen hp hsr hls hX hXb hs0 hx ih hd2 htx2 HLx
  generalize x.items.length = lx at *
  generalize t.items.length = lt at *
  generalize hsi : s.items.length = lz at *
  clear hsi
  obtain ⟨R, hR⟩ : ∃ R, R = r.length := ⟨_, rfl⟩
  have HRn : Hid (R = r.length) := hR
  rw [← hR] at HRs HEs hn ⊢
  clear hR
  have hrn : (0 : Int) < ((R + 1 : Nat) : Int) := by omega
  have hrz : ¬ ((R + 1 : Nat) : Int) = 0 := by omega
  obtain ⟨t0, t1, t2, t3, f0, f1, f2, f3⟩ := HT.out
  go_enter Try.func36, Try.ntmps36
  go_upto_region 1 with fail
  rw [← HW0.out]
  clear HW0
  go_wp2_with fail
  refine Calls.mono HCl.out ?_
  rintro e w1 ⟨ps, a1, c1, hps, rfl, hO1, hb1⟩
  have hs0 := Hs0.out
  have hnb : (Value.slice a1 lt c1).ownBlock ≠ some w.heap.size := fun e => by
    obtain ⟨_, _, _, _, k9⟩ := own_slice26 hO1.own
    have := (k9 _ e).1
    omega
  have HT1 : Hid (Bx w1 w.heap.size t (.slice a lt c)) := HT.out.keeps hb1
  obtain ⟨w2, hw2⟩ : ∃ w2, w2 = w1.setCell ⟨w.heap.size, 3, none⟩ (.slice a1 lt c1) := ⟨_, rfl⟩
  have Hw2 : Hid (w2 = w1.setCell ⟨w.heap.size, 3, none⟩ (.slice a1 lt c1)) := hw2
  have hb2 : Below w.heap.size w w2 := by rw [hw2]; exact below_setM (hb0.trans (hb1.mono hb0.size)) (Nat.le_refl _) _ _
  have hsz2 : W0.heap.size ≤ w2.heap.size := by rw [hw2]; simpa [World.setCell] using hb1.size
  have HT2 : Hid (Bx w2 w.heap.size t (.slice a1 lt c1)) := by rw [hw2]; exact HT1.out.items _
  have HX2 : Hid (Bx w2 (w.heap.size + 1) x (.slice ax lx cx)) := by rw [hw2]; exact (HXb.out.keeps hb1).other1 (by omega) 3 _
  have HR2 : Hid (Bx w2 (w.heap.size + 2) zeroT (.slice none 0 0)) := by rw [hw2]; exact (HR.out.keeps hb1).other1 (by omega) 3 _
  have HO2 : Hid (OwnX X W0.heap.size w2 ps (.slice a1 lt c1)) := by rw [hw2]; exact hO1.setL (fun hx => by have := HXX.out _ hx; omega) hnb _ _
  have HLs2 : Hid (LiesX X 16 w2 s.items (.slice ay lz cy)) := HLs.out.keeps hb2
  have hpl : b ≠ w.heap.size := by omega
  replace p0 : w2.cell? ⟨b, o, none⟩ = some (.int .i64 s.kind) := by rw [hw2]; exact cell_other1 hpl (cell_keeps hb1 p0)
  replace p1 : w2.cell? ⟨b, o + 1, none⟩ = some (.int .i64 s.num) := by rw [hw2]; exact cell_other1 hpl (cell_keeps hb1 p1)
  replace p2 : w2.cell? ⟨b, o + 2, none⟩ = some (.string s.text) := by rw [hw2]; exact cell_other1 hpl (cell_keeps hb1 p2)
  replace p3 : w2.cell? ⟨b, o + 3, none⟩ = some (.slice ay lz cy) := by rw [hw2]; exact cell_other1 hpl (cell_keeps hb1 p3)
  replace t3 := HT1.out.c3
  replace f3 := HT1.out.f3
  have HC : Hid (∀ W, Below w2.heap.size w2 W → Calls Try.prog 61 #[.agg #[.int .i64 t.kind, .int .i64 t.num, .string t.text, .slice a1 lt c1], .agg #[.int .i64 s.kind, .int .i64 s.num, .string s.text, .slice ay lz cy]] W fun e w' => ∃ ps' a2 c2, ps'.map (·.1) = t2'.items ∧ e = .returned (.tuple #[.agg #[.int .i64 t2'.kind, .int .i64 t2'.num, .string t2'.text, .slice a2 t2'.items.length c2], .int .i64 (i : Int), .int .i64 0]) ∧ OwnX X W0.heap.size w' ps' (.slice a2 t2'.items.length c2) ∧ Below W0.heap.size W w') := fun W hW => HOp.out ps a1 c1 W hps (HO2.out.keeps hW) (Nat.le_trans hsz2 hW.size) (HLs2.out.keeps hW)
  clear hps hO1 hb1 hnb HT1 HT HR HXb HOp HCl HO2 HLs2 HLs t0 t1 t2 f0 f1 f2 hw2
  go_upto_region 4 with fail
  rw [← Hw2.out]
  clear Hw2 t3 f3
  obtain ⟨t0, t1, t2, t3, f0, f1, f2, f3⟩ := HT2.out
  have hbl2 : b < W0.heap.size := by omega
  obtain ⟨L, hL⟩ : ∃ L, L = t2'.items.length := ⟨_, rfl⟩
  have HL : Hid (L = t2'.items.length) := hL
  rw [← hL] at HC
  have HF0 : Hid (∀ w3 (ps' : List (VT × Value)) a2 c2, ps'.map (·.1) = t2'.items → OwnX X W0.heap.size w3 ps' (.slice a2 L c2) → Below W0.heap.size w2 w3 → Hid (Bx (w3.setCells w.heap.size 0 (encP (t2', .slice a2 L c2))) w.heap.size t2' (.slice a2 L c2) ∧ Bx (w3.setCells w.heap.size 0 (encP (t2', .slice a2 L c2))) (w.heap.size + 1) x (.slice ax lx cx) ∧ Bx (w3.setCells w.heap.size 0 (encP (t2', .slice a2 L c2))) (w.heap.size + 2) zeroT (.slice none 0 0) ∧ Below w.heap.size w (w3.setCells w.heap.size 0 (encP (t2', .slice a2 L c2))) ∧ ps'.map (·.1) = t2'.items ∧ OwnX X W0.heap.size (w3.setCells w.heap.size 0 (encP (t2', .slice a2 L c2))) ps' (.slice a2 L c2) ∧ W0.heap.size ≤ (w3.setCells w.heap.size 0 (encP (t2', .slice a2 L c2))).heap.size)) := fun w3 ps' a2 c2 h1 h2 hb3 =>
    ⟨(bxM26 hb3 (by omega) HT2.out).put (t2', .slice a2 L c2), (bxM26 hb3 (by omega) HX2.out).other (by omega) _, (bxM26 hb3 (by omega) HR2.out).other (by omega) _, below_put (hb2.trans (hb3.mono hb0.size)) (Nat.le_refl _) _, h1, h2.setL4 (fun hx => by have := HXX.out _ hx; omega) (fun e => by
      obtain ⟨_, _, _, _, k9⟩ := own_slice26 h2.own
      have := (k9 _ e).1
      omega) _, by rw [size_setCells]; exact Nat.le_trans hsz2 hb3.size⟩
  clear hL hsz2 hb2 HR2 HX2
  go_cut [8, 9] from 18 to 26 (fun s8 s9 wx => ∃ ps' a2 c2, s8 = .int .i64 (i : Int) ∧ s9 = .int .i64 0 ∧ Hid (Bx wx w.heap.size t2' (.slice a2 L c2) ∧ Bx wx (w.heap.size + 1) x (.slice ax lx cx) ∧ Bx wx (w.heap.size + 2) zeroT (.slice none 0 0) ∧ Below w.heap.size w wx ∧ ps'.map (·.1) = t2'.items ∧ OwnX X W0.heap.size wx ps' (.slice a2 L c2) ∧ W0.heap.size ≤ wx.heap.size))
  case first =>
    clear hs0
    go_region_with
      (first | (go_at_call 61; (with_reducible refine Calls.mono (HC.out _ ?_) ?_); (first | exact Below.refl _ _ | exact (Below.refl _ _).drew); rintro e w3 ⟨ps', a2, c2, hps', rfl, hO3, hb3⟩; have hb3 : Below W0.heap.size w2 w3 := (by first | exact hb3 | exact (Below.refl _ _).drew.trans hb3); have HF := HF0.out w3 ps' a2 c2 hps' hO3 hb3; have HT3 := bxM26 hb3 (by have := Hs0.out; omega) HT2.out; obtain ⟨t0, t1, t2, t3, f0, f1, f2, f3⟩ := HT3; clear hb3 hps' hO3))
    all_goals (go_wp2_with fail; go_meet; exact ⟨ps', a2, c2, rfl, rfl, HF⟩)
  case rest =>
    obtain ⟨ps', a2, c2, rfl, rfl, H3⟩ := hcut
    clear HF0 HC HT2 t0 t1 t2 t3 f0 f1 f2 f3 p0 p1 p2 p3 hbl2 hb0
    have hLi : i < L := by have := HL.out; omega
    obtain ⟨T3, X3, R3, hb3, hps', hO3, hsz3⟩ := H3.out
    have hpl : ps'.length = t2'.items.length := by rw [← hps', List.length_map]
    obtain ⟨g, cap, hv, hgb, hcap, hlt, hrw, hfz⟩ := own_row (ps := ps') (by have := hO3.own; exact this) (fun e => by rw [e] at hpl; simp at hpl; omega)
    injection hv with e1 e2 e3
    clear e2
    subst e1
    subst e3
    have hyi : ps'[i]'(by omega) ∈ ps' := List.getElem_mem _
    have hy1 : (ps'[i]'(by omega)).1 = t2'.items[i] := by
      have : (ps'.map (·.1))[i]? = t2'.items[i]? := by rw [hps']
      rw [List.getElem?_map, List.getElem?_eq_getElem (by omega), List.getElem?_eq_getElem hi] at this
      simpa using this
    obtain ⟨r0, r1, r2, r3⟩ := hrw i (by omega)
    have hly := (hO3.lie _ hyi).1
    rw [hy1] at r0 r1 r2 hly
    generalize (ps'[i]'(by omega)).2 = uy at *
    obtain ⟨a4, c4, rfl, _⟩ := LiesX.slice hly
    simp only [Nat.zero_add] at r0 r1 r2 r3
    have fr : ∀ k, wc.frozen? ⟨g, k, none⟩ = false := hfz
    clear hyi hy1 hrw hfz
    have HLy : Hid (LiesX X 16 wc t2'.items[i].items (.slice a4 t2'.items[i].items.length c4)) := hly
    have hs0 := Hs0.out
    have HH : Hid (Bx wc w.heap.size t2' (.slice (some ⟨g, 0, none⟩) L c2) ∧ Bx wc (w.heap.size + 2) zeroT (.slice none 0 0) ∧ Below w.heap.size w wc ∧ ps'.map (·.1) = t2'.items ∧ OwnX X W0.heap.size wc ps' (.slice (some ⟨g, 0, none⟩) L c2) ∧ W0.heap.size ≤ wc.heap.size ∧ W0.heap.size ≤ g ∧ g < wc.heap.size) := ⟨T3, R3, hb3, hps', hO3, hsz3, hgb, hlt⟩
    have hO3' : OwnX X W0.heap.size wc ps' (.slice (some ⟨g, 0, none⟩) t2'.items.length c2) := by rw [← HL.out]; exact hO3
    have HPz : Hid (∀ W u, Below w.heap.size w W → LiesX X 17 W r u → LiesX X 16 W t2'.items[i].items (.slice a4 t2'.items[i].items.length c4) → Calls Try.prog 36 #[.agg #[.int .i64 t2'.items[i].kind, .int .i64 t2'.items[i].num, .string t2'.items[i].text, .slice a4 t2'.items[i].items.length c4], u, .agg #[.int .i64 x.kind, .int .i64 x.num, .string x.text, .slice ax lx cx]] W fun e w' => ∃ k n tx a l c E, e = .returned (.tuple #[.agg #[.int .i64 k, .int .i64 n, .string tx, .slice a l c], .int .i64 E]) ∧ Hid ((E = 260 ∧ putT t2'.items[i] r x = none) ∨ (E = 0 ∧ ∃ z, putT t2'.items[i] r x = some z ∧ k = z.kind ∧ n = z.num ∧ tx = z.text ∧ l = z.items.length ∧ LiesX (fun b => X b ∨ W.heap.size ≤ b) (16 + r.length) w' z.items (.slice a z.items.length c) ∧ z.text.size ≤ 9223372036854775807)) ∧ Below W.heap.size W w') := fun W u h1 h2 h3 => by
      have := HPu.out W u a4 c4 h1 h2 h3
      refine this.mono ?_
      intro e w' hq
      unfold PutQ at hq
      cases hz : putT t2'.items[i] r x with
      | none =>
        rw [hz] at hq
        obtain ⟨k, n, tx, a, l, c, rfl, hb⟩ := hq
        exact ⟨k, n, tx, a, l, c, 260, rfl, .inl ⟨rfl, rfl⟩, hb⟩
      | some z =>
        rw [hz] at hq
        obtain ⟨a, c, rfl, h4, h5, hb⟩ := hq
        exact ⟨z.kind, z.num, z.text, a, z.items.length, c, 0, rfl, .inr ⟨rfl, z, rfl, rfl, rfl, rfl, rfl, h4, h5⟩, hb⟩
    have HF7 : Hid (∀ w6 k n tx a l c E, Hid ((E = 260 ∧ putT t2'.items[i] r x = none) ∨ (E = (0 : Int) ∧ ∃ z, putT t2'.items[i] r x = some z ∧ k = z.kind ∧ n = z.num ∧ tx = z.text ∧ l = z.items.length ∧ LiesX (fun b => X b ∨ wc.heap.size ≤ b) (16 + r.length) w6 z.items (.slice a z.items.length c) ∧ z.text.size ≤ 9223372036854775807)) → Below wc.heap.size wc w6 → Hid (Bx (w6.setCells g (i * 4) [.int .i64 k, .int .i64 n, .string tx, .slice a l c]) w.heap.size t2' (.slice (some ⟨g, 0, none⟩) L c2) ∧ Bx (w6.setCells g (i * 4) [.int .i64 k, .int .i64 n, .string tx, .slice a l c]) (w.heap.size + 2) zeroT (.slice none 0 0) ∧ (∀ p, PP (.returned (.tuple #[.agg #[.int .i64 t2'.kind, .int .i64 t2'.num, .string t2'.text, .slice (some ⟨g, 0, none⟩) L c2], .int .i64 E])) ((w6.setCells g (i * 4) [.int .i64 k, .int .i64 n, .string tx, .slice a l c]).setCells (w.heap.size + 2) 0 (encP p))))) := fun w6 k n tx a l c E hq hb6 => by
      refine ⟨(T3.keeps hb6).otherO (by omega) _ _, (R3.keeps hb6).otherO (by omega) _ _, fun p => ?_⟩
      have hbx : Below w.heap.size w ((w6.setCells g (i * 4) [.int .i64 k, .int .i64 n, .string tx, .slice a l c]).setCells (w.heap.size + 2) 0 (encP p)) := below_put (below_setsO (hb3.trans (hb6.mono hb3.size)) (by omega) _ _) (by omega) _
      rcases hq.out with ⟨rfl, hz⟩ | ⟨rfl, z, hz, rfl, rfl, rfl, rfl, hl6, hzt⟩
      · exact HEn.out hz _ _ _ _ _ _ _ hbx
      · have h9 := put_lies (N := w.heap.size) (M := W0.heap.size) HXX.out (by omega) hO3' hps' hi hb6 (by have := HL.out; omega) hl6 hzt (by omega) hsz3 p
        have h10 := HEs.out z hz _ (some ⟨g, 0, none⟩) c2 (by rw [HRn.out]; exact h9) hbx
        rw [List.length_set, ← HL.out] at h10
        exact h10
    have hng0 : w.heap.size ≠ g := by omega
    have hng1 : w.heap.size + 1 ≠ g := by omega
    have HLi : Hid (i < L) := hLi
    clear HEn HEs HPu hpl hcap hgb hO3 hO3' hps' hsz3 H3 HH
    obtain ⟨t0, t1, t2, t3, f0, f1, f2, f3⟩ := T3
    obtain ⟨x0, x1, x2, x3, _, _, _, _⟩ := X3
    have hi2 : (i : Int) < (L : Int) := by omega
    have q0 := fr (i * 4); have q1 := fr (i * 4 + 1); have q2 := fr (i * 4 + 2); have q3 := fr (i * 4 + 3)
    generalize hyy : t2'.items[i] = y at *
    clear hyy
    generalize y.items.length = ly at *
    clear R3 fr hs0 hly t0 t1 t2 f0 f1 f2 f3
    go_upto_region 7 with fail
    go_cut [9] from 31 to 46 (fun s9 wx => ∃ E, s9 = .int .i64 E ∧ Hid (Bx wx w.heap.size t2' (.slice (some ⟨g, 0, none⟩) L c2) ∧ Bx wx (w.heap.size + 2) zeroT (.slice none 0 0) ∧ (∀ p, PP (.returned (.tuple #[.agg #[.int .i64 t2'.kind, .int .i64 t2'.num, .string t2'.text, .slice (some ⟨g, 0, none⟩) L c2], .int .i64 E])) (wx.setCells (w.heap.size + 2) 0 (encP p)))))
    case first =>
      clear HL HRn HXX Hs0 HLi hi hlen2 hbl hpl hpc hrn hrz
      rw [← ldRow_eq]
      go_region_held3 (fun w' => w'.cell? ⟨w.heap.size, 3, none⟩ = some (.slice (some ⟨g, 0, none⟩) L c2) ∧ w'.cell? ⟨w.heap.size + 1, 0, none⟩ = some (.int .i64 x.kind) ∧ w'.cell? ⟨w.heap.size + 1, 1, none⟩ = some (.int .i64 x.num) ∧ w'.cell? ⟨w.heap.size + 1, 2, none⟩ = some (.string x.text) ∧ w'.cell? ⟨w.heap.size + 1, 3, none⟩ = some (.slice ax lx cx)) (first | (go_keep; done) | (with_reducible exact ⟨set4_o26 hng0 t3, set4_o26 hng1 x0, set4_o26 hng1 x1, set4_o26 hng1 x2, set4_o26 hng1 x3⟩))
        (first
          | (go_at_call 51; (with_reducible refine Calls.mono (HRs.out _ ?_) ?_); (first | exact hb3 | exact hb3.drew); rintro e w5 ⟨u5, rfl, rfl, hl5⟩; obtain ⟨a5, c5, rfl, _⟩ := LiesX.slice hl5; have HL5 : Hid (LiesX X 17 wc r (.slice a5 r.length c5)) := hl5; clear hl5)
          | (go_at_call 36; (with_reducible refine Calls.mono (HPz.out _ _ ?_ ?_ ?_) ?_); (first | exact hb3 | exact hb3.drew); (first | exact HL5.out | exact HL5.out.keeps (Below.refl _ _).drew); (first | exact HLy.out | exact HLy.out.keeps (Below.refl _ _).drew); rintro e w6 ⟨k6, n6, tx6, a6, l6, c6, E6, rfl, hq6, hb6⟩; have hg6 : Below wc.heap.size wc w6 := (by first | exact hb6 | exact (Below.refl _ _).drew.trans hb6); have HF := HF7.out w6 k6 n6 tx6 a6 l6 c6 E6 hq6 hg6; have r0 := cell_keeps hg6 r0; have r1 := cell_keeps hg6 r1; have r2 := cell_keeps hg6 r2; have r3 := cell_keeps hg6 r3; have t3 := cell_keeps hg6 t3; have x0 := cell_keeps hg6 x0; have x1 := cell_keeps hg6 x1; have x2 := cell_keeps hg6 x2; have x3 := cell_keeps hg6 x3; have q0 := (hg6.frozen (p := ⟨g, i * 4, none⟩) hlt).trans q0; have q1 := (hg6.frozen (p := ⟨g, i * 4 + 1, none⟩) hlt).trans q1; have q2 := (hg6.frozen (p := ⟨g, i * 4 + 2, none⟩) hlt).trans q2; have q3 := (hg6.frozen (p := ⟨g, i * 4 + 3, none⟩) hlt).trans q3; clear hb6 hg6 hq6))
      all_goals (go_wp2_with fail; go_meet; exact ⟨E6, rfl, HF⟩)
    case rest =>
      obtain ⟨E, rfl, H4⟩ := hcut
      clear HF7 HPz HRs HLy r0 r1 r2 r3 q0 q1 q2 q3 t3 x0 x1 x2 x3 hb3
      have HE3 : Hid (PP (.returned (.tuple #[.agg #[.int .i64 t2'.kind, .int .i64 t2'.num, .string t2'.text, .slice (some ⟨g, 0, none⟩) L c2], .int .i64 E])) (wc.setCells (w.heap.size + 2) 0 (encP (t2', .slice (some ⟨g, 0, none⟩) L c2)))) := H4.out.2.2 _
      have Hq : Hid (Bx (wc.setCells (w.heap.size + 2) 0 (encP (t2', .slice (some ⟨g, 0, none⟩) L c2))) (w.heap.size + 2) t2' (.slice (some ⟨g, 0, none⟩) L c2)) := H4.out.2.1.put (t2', .slice (some ⟨g, 0, none⟩) L c2)
      obtain ⟨t0, t1, t2, t3, _, _, _, _⟩ := H4.out.1
      obtain ⟨z0, z1, z2, z3, y0, y1, y2, y3⟩ := H4.out.2.1
      clear H4
      go_wp2_with fail
      refine bodyPost_ret (v := .tuple #[.agg #[.int .i64 t2'.kind, .int .i64 t2'.num, .string t2'.text, .slice (some ⟨g, 0, none⟩) L c2], .int .i64 E]) ?_ rfl HE3.out
      obtain ⟨q0, q1, q2, q3, _, _, _, _⟩ := Hq.out
      simp only [World.setCells, encP, Nat.zero_add, Nat.reduceAdd] at q0 q1 q2 q3
      simp [results, Try.results36, go_sem, q0, q1, q2, q3]

end Go.Proofs.Ytmbolemcpobbgaa

namespace Go.Proofs.Ytmbolemcpobbgaa
open Go.RowKit Go.Shelf

theorem put_all : PutAll := by
  intro r
  induction r with
  | nil =>
    intro x _ _ hxt X t a ax c cx pv w hX h hr hp hx
    obtain ⟨pa, pc, rfl, _⟩ := LiesX.slice hp
    exact put_nil X t x a ax pa c cx pc _ w hx hxt
  | cons s r ih =>
    intro x hs hn hxt X t a ax c cx pv w hX h hr hp hx
    have hsr := hs s List.mem_cons_self
    have hn' : r.length ≤ 16 := by simp only [List.length_cons] at hn; omega
    have ih' : PutC r x := ih x (fun u hu => hs u (List.mem_cons_of_mem _ hu)) hn' hxt
    have hd := Dp.of_lies 16 w t _ h.lies
    cases ho : opnT t s with
    | none => exact put_off s x r X t a ax c cx pv w hX h hr hp hsr hn' ho
    | some q =>
      obtain ⟨t2, i⟩ := q
      have hi : i < t2.items.length := by
        obtain ⟨_, _, _, _, k5⟩ := opn_there ho (right_even t hd hr)
        rcases Nat.lt_or_ge i t2.items.length with h1 | h1
        · exact h1
        · rw [List.getElem?_eq_none h1] at k5
          rcases k5 with k5 | ⟨_, _, k5⟩ <;> cases k5
      exact put_on s x r X t a ax c cx pv w hX h hr hp hsr hn' t2 i ho hi ih' hx

end Go.Proofs.Ytmbolemcpobbgaa

