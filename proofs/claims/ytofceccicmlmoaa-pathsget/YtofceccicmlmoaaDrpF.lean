/-
  Drop, of the program.
-/
import Derived.Test.YtofceccicmlmoaaDrpM
import Derived.Test.YtofceccicmlmoaaPutA
import Derived.Deep.RegionHeld3
namespace Go.Proofs.Ytofceccicmlmoaa
open Go.RowKit Go.Shelf

/-- What drop tells. -/
def DrpQ (X : Nat → Prop) (t : VT) (p : List VT) (w : World) (e : Ending) (w' : World) : Prop :=
  ∃ k n tx a l c E, e = .returned (.tuple #[.agg #[.int .i64 k, .int .i64 n, .string tx, .slice a l c], .int .i64 E]) ∧ ((E = 260 ∧ dropT t p = none) ∨ (E = 0 ∧ ∃ z, dropT t p = some z ∧ k = z.kind ∧ n = z.num ∧ tx = z.text ∧ l = z.items.length ∧ LiesX (fun b => X b ∨ w.heap.size ≤ b) 16 w' z.items (.slice a z.items.length c) ∧ z.text.size ≤ 9223372036854775807)) ∧ Below w.heap.size w w'

theorem drp_some {X : Nat → Prop} {t z : VT} {p : List VT} {w w' : World} (h : dropT t p = some z) {a : Option Addr} {c : Nat} (h1 : LiesX (fun b => X b ∨ w.heap.size ≤ b) 16 w' z.items (.slice a z.items.length c)) (h2 : z.text.size ≤ 9223372036854775807) (h3 : Below w.heap.size w w') :
    DrpQ X t p w (.returned (.tuple #[.agg #[.int .i64 z.kind, .int .i64 z.num, .string z.text, .slice a z.items.length c], .int .i64 0])) w' :=
  ⟨_, _, _, _, _, _, _, rfl, .inr ⟨rfl, z, h, rfl, rfl, rfl, rfl, h1, h2⟩, h3⟩

theorem drp_none {X : Nat → Prop} {t : VT} {p : List VT} {w w' : World} (h : dropT t p = none) (k n : Int) (tx : ByteArray) (a : Option Addr) (l c : Nat) (h3 : Below w.heap.size w w') :
    DrpQ X t p w (.returned (.tuple #[.agg #[.int .i64 k, .int .i64 n, .string tx, .slice a l c], .int .i64 260])) w' :=
  ⟨_, _, _, _, _, _, _, rfl, .inl ⟨rfl, h⟩, h3⟩

/-- The contract of drop, at one path. -/
def DrpC (r : List VT) : Prop := ∀ (X : Nat → Prop) (t : VT) (a : Option Addr) (c : Nat) (pv : Value) (w : World), (∀ b, X b → b < w.heap.size) → LiesX X 16 w t.items (.slice a t.items.length c) → rightV 16 t = true → LiesX X 17 w r pv → r.length ≤ 16 → (atT t r).isSome = true → Calls Try.prog 31 #[.agg #[.int .i64 t.kind, .int .i64 t.num, .string t.text, .slice a t.items.length c], pv] w (DrpQ X t r w)

theorem wot_text (t : VT) (i : Nat) : (wotT t i).kind = t.kind ∧ (wotT t i).num = t.num ∧ (wotT t i).text = t.text := by
  unfold wotT
  split
  · exact ⟨rfl, rfl, rfl⟩
  · split
    · exact ⟨rfl, rfl, rfl⟩
    · exact ⟨rfl, rfl, rfl⟩

/-- The load of the row's item in drop's one region that stores into the row, by a name of its own (as put's ldRow). -/
def ldRowD : Oper :=
  { dst := some 39, op := Go.Op.load 24 (Go.Operand.tmp 38), type := 24, pos := "steps.go:90", after := #[{ on := 6, ground := Go.Ground.data }], guard := none }

attribute [local go_sem] ldRowD

theorem ldRowD_eq : ldRowD = { dst := some 39, op := Go.Op.load 24 (Go.Operand.tmp 38), type := 24, pos := "steps.go:90", after := #[{ on := 6, ground := Go.Ground.data }], guard := none } := rfl

set_option maxRecDepth 100000 in
set_option maxHeartbeats 8000000 in
theorem drop_one (s : VT) (X : Nat → Prop) (t : VT) (a : Option Addr) (c : Nat) (pv : Value) (w : World) (hX : ∀ b, X b → b < w.heap.size) (h : LiesX X 16 w t.items (.slice a t.items.length c)) (hr : rightV 16 t = true) (hp : LiesX X 17 w [s] pv) (hat : (atT t [s]).isSome = true) :
    Calls Try.prog 31 #[.agg #[.int .i64 t.kind, .int .i64 t.num, .string t.text, .slice a t.items.length c], pv] w (DrpQ X t [s] w) := by
  have hd := Dp.of_lies 16 w t _ h.lies
  have hlen := right_len hr
  obtain ⟨hB, hq, hat2⟩ := at_first hr hd hat
  have HT : Hid (Bx (at2 w t (.slice a t.items.length c)) w.heap.size t (.slice a t.items.length c)) := at2_fst _ _ _
  have HR : Hid (Bx (at2 w t (.slice a t.items.length c)) (w.heap.size + 1) zeroT (.slice none 0 0)) := at2_snd _ _ _
  have hb0 := at2_below w t (.slice a t.items.length c)
  obtain ⟨W0, hW0⟩ : ∃ W0, W0 = at2 w t (.slice a t.items.length c) := ⟨_, rfl⟩
  have HW0 : Hid (W0 = at2 w t (.slice a t.items.length c)) := hW0
  have hs0 : W0.heap.size = w.heap.size + 2 := by rw [hW0]; unfold at2; simp
  rw [← hW0] at HT HR hb0
  clear hW0
  unfold at2 at HW0
  obtain ⟨b, o, pc, us, rfl, hXb, hpc, p0, p1, p2, p3, hls⟩ := liesX_head hp
  obtain ⟨ay, cy, rfl, _⟩ := LiesX.slice hls
  have hbl := hX _ hXb
  replace p0 := cell_keeps hb0 p0; replace p1 := cell_keeps hb0 p1; replace p2 := cell_keeps hb0 p2; replace p3 := cell_keeps hb0 p3
  obtain ⟨k, hk⟩ : ∃ k : Nat, plcI t s = (k : Int) := ⟨(plcI t s).toNat, by have := (plcB_lt (right_even t hd hr) hB).1; omega⟩
  have hkt : (plcI t s).toNat = k := by omega
  rw [hkt] at hq
  have HPl : Hid (∀ W, Below W0.heap.size W0 W → Calls Try.prog 50 #[.agg #[.int .i64 t.kind, .int .i64 t.num, .string t.text, .slice a t.items.length c], .agg #[.int .i64 s.kind, .int .i64 s.num, .string s.text, .slice ay s.items.length cy]] W fun e w' => e = .returned (.tuple #[.int .i64 (k : Int), .bool true]) ∧ Below W.heap.size W w') := fun W hW => by
    have := place_any t s _ _ W (Lies.keeps hW _ _ _ (Lies.keeps hb0 _ _ _ h.lies)) (Lies.keeps hW _ _ _ (Lies.keeps hb0 _ _ _ hls.lies)) hr
    unfold PlPost at this
    rwa [hB, hk] at this
  have HWo : Hid (∀ W, Below w.heap.size w W → Calls Try.prog 56 #[.agg #[.int .i64 t.kind, .int .i64 t.num, .string t.text, .slice a t.items.length c], .int .i64 (k : Int)] W fun e w' => ∃ a' c', e = .returned (.agg #[.int .i64 (wotT t k).kind, .int .i64 (wotT t k).num, .string (wotT t k).text, .slice a' (wotT t k).items.length c']) ∧ Hid (LiesX (fun q => X q ∨ W.heap.size ≤ q) 16 w' (wotT t k).items (.slice a' (wotT t k).items.length c')) ∧ Below W.heap.size W w') := fun W hW => by
    have := without_any X t s a c W (fun q hq => by have := hX q hq; have := hW.size; omega) (h.keeps hW) hr hB
    rw [hk, Int.toNat_natCast] at this
    exact this
  have htx : (wotT t k).text.size ≤ 9223372036854775807 := by rw [(wot_text t k).2.2]; have := right_size hr; omega
  have hdr : dropT t [s] = some (wotT t k) := by
    show some (wotT t (plcI t s).toNat) = _
    rw [hkt]
  have HXX : Hid (∀ q, X q → q < w.heap.size) := hX
  have HE : Hid (∀ W W' a' c', Below w.heap.size w W → W0.heap.size ≤ W.heap.size → Below W.heap.size W W' → LiesX (fun q => X q ∨ W.heap.size ≤ q) 16 W' (wotT t k).items (.slice a' (wotT t k).items.length c') → DrpQ X t [s] w (.returned (.tuple #[.agg #[.int .i64 (wotT t k).kind, .int .i64 (wotT t k).num, .string (wotT t k).text, .slice a' (wotT t k).items.length c'], .int .i64 0])) (W'.setCells (w.heap.size + 1) 0 (encP (wotT t k, .slice a' (wotT t k).items.length c')))) := fun W W' a' c' h1 h2 h3 h4 =>
    drp_some hdr (LiesX.mono (fun q hq => hq.imp id (fun hq => by have := h1.size; omega)) (LiesX.set (g := w.heap.size + 1) (fun hq => by
      rcases hq with hq | hq
      · have := hX _ hq; omega
      · omega) h4)) htx (below_put (h1.trans (h3.mono h1.size)) (by omega) _)
  generalize DrpQ X t [s] w = PP at *
  generalize wotT t k = z at *
  have hkl : (k : Int) ≤ 1024 := by omega
  clear hp hls h hr hd hB hq hat hat2 hk hkt hdr htx hX hXb hlen
  simp only [List.length_nil, Nat.zero_add] at hpc ⊢
  generalize t.items.length = lt at *
  generalize s.items.length = lz at *
  obtain ⟨t0, t1, t2, t3, _, _, _, _⟩ := HT.out
  go_enter Try.func31, Try.ntmps31
  go_upto_region 1 with fail
  rw [← HW0.out]
  clear HW0
  go_region_held3 (fun w' => (w'.cell? ⟨w.heap.size, 0, none⟩ = some (.int .i64 t.kind) ∧ w'.cell? ⟨w.heap.size, 1, none⟩ = some (.int .i64 t.num) ∧ w'.cell? ⟨w.heap.size, 2, none⟩ = some (.string t.text) ∧ w'.cell? ⟨w.heap.size, 3, none⟩ = some (.slice a lt c)) ∧ (w'.cell? ⟨b, o, none⟩ = some (.int .i64 s.kind) ∧ w'.cell? ⟨b, o + 1, none⟩ = some (.int .i64 s.num) ∧ w'.cell? ⟨b, o + 2, none⟩ = some (.string s.text) ∧ w'.cell? ⟨b, o + 3, none⟩ = some (.slice ay lz cy))) (go_keep)
      (first | (go_at_call 50; (with_reducible refine Calls.mono (HPl.out _ ?_) ?_); (first | exact Below.refl _ _ | exact (Below.refl _ _).drew); rintro e w1 ⟨rfl, hb1⟩; have hb1 : Below W0.heap.size W0 w1 := (by first | exact hb1 | exact (Below.refl _ _).drew.trans hb1); have p0 := cell_keeps hb1 p0; have p1 := cell_keeps hb1 p1; have p2 := cell_keeps hb1 p2; have p3 := cell_keeps hb1 p3; have t0 := cell_keeps hb1 t0; have t1 := cell_keeps hb1 t1; have t2 := cell_keeps hb1 t2; have t3 := cell_keeps hb1 t3))
  have hb2 : Below w.heap.size w w1 := hb0.trans (hb1.mono hb0.size)
  have hsz1 : W0.heap.size ≤ w1.heap.size := hb1.size
  have HR1 : Hid (Bx w1 (w.heap.size + 1) zeroT (.slice none 0 0)) := HR.out.keeps hb1
  obtain ⟨t0, t1, t2, t3, _, _, _, _⟩ := HT.out.keeps hb1
  clear hb1 hb0 HPl HT HR p0 p1 p2 p3
  go_wp2_with fail
  refine Calls.mono (HWo.out _ hb2) ?_
  rintro e w3 ⟨a3, c3, rfl, HL3, hb3⟩
  have HR3 : Hid (Bx w3 (w.heap.size + 1) zeroT (.slice none 0 0)) := HR1.out.keeps hb3
  have HE3 : Hid (PP (.returned (.tuple #[.agg #[.int .i64 z.kind, .int .i64 z.num, .string z.text, .slice a3 z.items.length c3], .int .i64 0])) (w3.setCells (w.heap.size + 1) 0 (encP (z, .slice a3 z.items.length c3)))) := HE.out w1 w3 a3 c3 hb2 hsz1 hb3 HL3.out
  have Hq : Hid (Bx (w3.setCells (w.heap.size + 1) 0 (encP (z, .slice a3 z.items.length c3))) (w.heap.size + 1) z (.slice a3 z.items.length c3)) := HR3.out.put (z, .slice a3 z.items.length c3)
  obtain ⟨z0, z1, z2, z3, g0, g1, g2, g3⟩ := HR3.out
  clear HL3 hb3 HE HWo hb2 hsz1 HR1 HR3 t0 t1 t2 t3
  generalize z.items.length = ly at *
  go_wp2_with fail
  refine bodyPost_ret (v := .tuple #[.agg #[.int .i64 z.kind, .int .i64 z.num, .string z.text, .slice a3 ly c3], .int .i64 0]) ?_ rfl HE3.out
  obtain ⟨q0, q1, q2, q3, _, _, _, _⟩ := Hq.out
  simp only [World.setCells, encP, Nat.zero_add, Nat.reduceAdd] at q0 q1 q2 q3
  simp [results, Try.results31, go_sem, q0, q1, q2, q3]

/-- Behind the last stores. -/
theorem drop_lies {X : Nat → Prop} {w3 V : World} {N M g c i D : Nat} {ps : List (VT × Value)} {l : List VT} {z : VT} {sl : Value} (hX : ∀ b, X b → b < N) (hNM : N + 2 ≤ M) (hOw : OwnX X M V ps (.slice (some ⟨g, 0, none⟩) l.length c)) (hps : ps.map (·.1) = l) (hi : i < l.length) (hb : Below V.heap.size V w3) (hll : l.length ≤ 65536) (hz : LiesX (fun b => X b ∨ V.heap.size ≤ b) D w3 z.items sl) (hzt : z.text.size ≤ 9223372036854775807) (hD : 16 ≤ D) (_hMV : M ≤ V.heap.size) (p : VT × Value) :
    LiesX (fun b => X b ∨ N ≤ b) (D + 1) ((w3.setCells g (i * 4) (encP (z, sl))).setCells (N + 1) 0 (encP p)) (l.set i z) (.slice (some ⟨g, 0, none⟩) (l.set i z).length c) := by
  have hpl : ps.length = l.length := by rw [← hps, List.length_map]
  obtain ⟨g', cap, hv, hgb, hcap, hlt, hrw, _⟩ := own_row (ps := ps) (by have := hOw.own; exact this) (fun e => by rw [e] at hpl; simp at hpl; omega)
  injection hv with e1 _ e3
  injection e1 with e1
  injection e1 with e1
  subst e1
  subst e3
  have hrw3 : RowAt w3 g 0 ps := hrw.keeps hb
  have hrs := row_set26 hrw3 (i := i) (by omega) (z, sl)
  have hN2 : N + 1 ≠ g := by omega
  have hst2 : ∀ {Y : Nat → Prop} {d : Nat} {l : List VT} {v : Value} {W : World}, (∀ b, Y b → b ≠ N + 1) → LiesX Y d W l v → LiesX Y d (W.setCells (N + 1) 0 (encP p)) l v := fun hY h => LiesX.set (g := N + 1) (fun hy => hY _ hy rfl) h
  have hrs2 : RowAt ((w3.setCells g (i * 4) (encP (z, sl))).setCells (N + 1) 0 (encP p)) g 0 (ps.set i (z, sl)) := fun j hj => by
    obtain ⟨h0, h1, h2, h3⟩ := hrs j hj
    exact ⟨cell_other (fun e => hN2 e.symm) h0, cell_other (fun e => hN2 e.symm) h1, cell_other (fun e => hN2 e.symm) h2, cell_other (fun e => hN2 e.symm) h3⟩
  have hmap : (ps.set i (z, sl)).map (·.1) = l.set i z := by rw [List.map_set, hps]
  have hfin := liesX_row (X := fun b => X b ∨ N ≤ b) (d := D) (c := c) hrs2 (.inr (by omega)) (fun q hq => by
    rcases List.mem_or_eq_of_mem_set hq with hq | hq
    · refine ⟨?_, (hOw.lie q hq).2⟩
      have h1 := (hOw.lie q hq).1.keeps hb
      have h2 : LiesX X 16 (w3.setCells g (i * 4) (encP (z, sl))) q.1.items q.2 := LiesX.set (g := g) (fun hx => by have := hX _ hx; omega) h1
      have h3 := hst2 (fun b hb => by have := hX b hb; omega) h2
      exact (h3.mono (fun b hb => .inl hb)).atLeast D hD
    · subst hq
      refine ⟨?_, hzt⟩
      have h2 := LiesX.set (g := g) (o := i * 4) (vs := encP (z, sl)) (fun hx => by
        rcases hx with hx | hx
        · have := hX _ hx; omega
        · omega) hz
      have h3 := hst2 (fun b hb => by
        rcases hb with hb | hb
        · have := hX b hb; omega
        · omega) h2
      exact h3.mono (fun b hb => hb.imp (fun h => h) (fun h => by omega))) (by rw [List.length_set]; omega) (by rw [List.length_set]; omega)
  rw [hmap] at hfin
  rw [List.length_set] at hfin ⊢
  rw [hpl] at hfin
  exact hfin

set_option maxRecDepth 100000 in
set_option maxHeartbeats 8000000 in
/-- Through a set it does not lead. -/
theorem drop_set (s q : VT) (r : List VT) (X : Nat → Prop) (t : VT) (a : Option Addr) (c : Nat) (pv : Value) (w : World) (hX : ∀ b, X b → b < w.heap.size) (h : LiesX X 16 w t.items (.slice a t.items.length c)) (hr : rightV 16 t = true) (hp : LiesX X 17 w (s :: q :: r) pv) (hat : (atT t (s :: q :: r)).isSome = true) (h5 : t.kind = 5) :
    Calls Try.prog 31 #[.agg #[.int .i64 t.kind, .int .i64 t.num, .string t.text, .slice a t.items.length c], pv] w (DrpQ X t (s :: q :: r) w) := by
  have hd := Dp.of_lies 16 w t _ h.lies
  have hlen := right_len hr
  obtain ⟨hB, hq, hat2⟩ := at_first hr hd hat
  have HT : Hid (Bx (at2 w t (.slice a t.items.length c)) w.heap.size t (.slice a t.items.length c)) := at2_fst _ _ _
  have HR : Hid (Bx (at2 w t (.slice a t.items.length c)) (w.heap.size + 1) zeroT (.slice none 0 0)) := at2_snd _ _ _
  have hb0 := at2_below w t (.slice a t.items.length c)
  obtain ⟨W0, hW0⟩ : ∃ W0, W0 = at2 w t (.slice a t.items.length c) := ⟨_, rfl⟩
  have HW0 : Hid (W0 = at2 w t (.slice a t.items.length c)) := hW0
  have hs0 : W0.heap.size = w.heap.size + 2 := by rw [hW0]; unfold at2; simp
  rw [← hW0] at HT HR hb0
  clear hW0
  unfold at2 at HW0
  obtain ⟨b, o, pc, us, rfl, hXb, hpc, p0, p1, p2, p3, hls⟩ := liesX_head hp
  obtain ⟨ay, cy, rfl, _⟩ := LiesX.slice hls
  have hbl := hX _ hXb
  replace p0 := cell_keeps hb0 p0; replace p1 := cell_keeps hb0 p1; replace p2 := cell_keeps hb0 p2; replace p3 := cell_keeps hb0 p3
  obtain ⟨k, hk⟩ : ∃ k : Nat, plcI t s = (k : Int) := ⟨(plcI t s).toNat, by have := (plcB_lt (right_even t hd hr) hB).1; omega⟩
  have hkt : (plcI t s).toNat = k := by omega
  rw [hkt] at hq
  have HPl : Hid (∀ W, Below W0.heap.size W0 W → Calls Try.prog 50 #[.agg #[.int .i64 t.kind, .int .i64 t.num, .string t.text, .slice a t.items.length c], .agg #[.int .i64 s.kind, .int .i64 s.num, .string s.text, .slice ay s.items.length cy]] W fun e w' => e = .returned (.tuple #[.int .i64 (k : Int), .bool true]) ∧ Below W.heap.size W w') := fun W hW => by
    have := place_any t s _ _ W (Lies.keeps hW _ _ _ (Lies.keeps hb0 _ _ _ h.lies)) (Lies.keeps hW _ _ _ (Lies.keeps hb0 _ _ _ hls.lies)) hr
    unfold PlPost at this
    rwa [hB, hk] at this
  have hdr : dropT t (s :: q :: r) = none := by rw [dropT_more, if_pos h5]
  have HE : Hid (∀ W, Below w.heap.size w W → DrpQ X t (s :: q :: r) w (.returned (.tuple #[.agg #[.int .i64 0, .int .i64 0, .string ⟨#[]⟩, .slice none 0 0], .int .i64 260])) W) := fun W hW => drp_none hdr 0 0 ⟨#[]⟩ none 0 0 hW
  generalize DrpQ X t (s :: q :: r) w = PP at *
  have hql : (q :: r).length = r.length + 1 := rfl
  have hk5 : (t.kind == 5) = true := by simpa using h5
  clear hp hls h hr hd hB hq hat hat2 hk hkt hdr hX hXb hlen h5
  obtain ⟨R, hR⟩ : ∃ R, R = (q :: r).length := ⟨_, rfl⟩
  rw [← hR] at hql hpc ⊢
  have hr1 : ¬ ((R + 1 : Nat) : Int) = 1 := by omega
  have hr0 : (0 : Int) < ((R + 1 : Nat) : Int) := by omega
  clear hR hql
  generalize t.items.length = lt at *
  generalize s.items.length = lz at *
  obtain ⟨t0, t1, t2, t3, _, _, _, _⟩ := HT.out
  go_enter Try.func31, Try.ntmps31
  go_upto_region 1 with fail
  rw [← HW0.out]
  clear HW0
  go_region_held3 (fun w' => (w'.cell? ⟨w.heap.size, 0, none⟩ = some (.int .i64 t.kind) ∧ w'.cell? ⟨w.heap.size, 1, none⟩ = some (.int .i64 t.num) ∧ w'.cell? ⟨w.heap.size, 2, none⟩ = some (.string t.text) ∧ w'.cell? ⟨w.heap.size, 3, none⟩ = some (.slice a lt c)) ∧ (w'.cell? ⟨b, o, none⟩ = some (.int .i64 s.kind) ∧ w'.cell? ⟨b, o + 1, none⟩ = some (.int .i64 s.num) ∧ w'.cell? ⟨b, o + 2, none⟩ = some (.string s.text) ∧ w'.cell? ⟨b, o + 3, none⟩ = some (.slice ay lz cy))) (go_keep)
      (first | (go_at_call 50; (with_reducible refine Calls.mono (HPl.out _ ?_) ?_); (first | exact Below.refl _ _ | exact (Below.refl _ _).drew); rintro e w1 ⟨rfl, hb1⟩; have hb1 : Below W0.heap.size W0 w1 := (by first | exact hb1 | exact (Below.refl _ _).drew.trans hb1); have p0 := cell_keeps hb1 p0; have p1 := cell_keeps hb1 p1; have p2 := cell_keeps hb1 p2; have p3 := cell_keeps hb1 p3; have t0 := cell_keeps hb1 t0; have t1 := cell_keeps hb1 t1; have t2 := cell_keeps hb1 t2; have t3 := cell_keeps hb1 t3))
  have hb2 : Below w.heap.size w w1 := hb0.trans (hb1.mono hb0.size)
  have HR1 : Hid (Bx w1 (w.heap.size + 1) zeroT (.slice none 0 0)) := HR.out.keeps hb1
  obtain ⟨t0, t1, t2, t3, _, _, _, _⟩ := HT.out.keeps hb1
  clear hb1 hb0 HPl HT HR p0 p1 p2 p3
  have HE3 : Hid (PP (.returned (.tuple #[.agg #[.int .i64 0, .int .i64 0, .string ⟨#[]⟩, .slice none 0 0], .int .i64 260])) (w1.setCells (w.heap.size + 1) 0 (encP (zeroT, .slice none 0 0)))) := HE.out _ (below_put hb2 (by omega) _)
  have Hq : Hid (Bx (w1.setCells (w.heap.size + 1) 0 (encP (zeroT, .slice none 0 0))) (w.heap.size + 1) zeroT (.slice none 0 0)) := HR1.out.put (zeroT, .slice none 0 0)
  obtain ⟨z0, z1, z2, z3, g0, g1, g2, g3⟩ := HR1.out
  clear HE hb2 HR1
  go_wp2_with fail
  refine bodyPost_ret (v := .tuple #[.agg #[.int .i64 0, .int .i64 0, .string ⟨#[]⟩, .slice none 0 0], .int .i64 260]) ?_ rfl HE3.out
  obtain ⟨q0, q1, q2, q3, _, _, _, _⟩ := Hq.out
  simp only [World.setCells, encP, Nat.zero_add, Nat.reduceAdd] at q0 q1 q2 q3
  simp [results, Try.results31, go_sem, q0, q1, q2, q3]

set_option maxRecDepth 100000 in
set_option maxHeartbeats 8000000 in
/-- Further down. -/
theorem drop_more (s q : VT) (r : List VT) (X : Nat → Prop) (t : VT) (a : Option Addr) (c : Nat) (pv : Value) (w : World) (hX : ∀ b, X b → b < w.heap.size) (h : LiesX X 16 w t.items (.slice a t.items.length c)) (hr : rightV 16 t = true) (hp : LiesX X 17 w (s :: q :: r) pv) (hn : (s :: q :: r).length ≤ 16) (hat : (atT t (s :: q :: r)).isSome = true) (h5 : ¬ t.kind = 5) (ih : Hid (DrpC (q :: r))) :
    Calls Try.prog 31 #[.agg #[.int .i64 t.kind, .int .i64 t.num, .string t.text, .slice a t.items.length c], pv] w (DrpQ X t (s :: q :: r) w) := by
  have hd := Dp.of_lies 16 w t _ h.lies
  have hlen := right_len hr
  obtain ⟨hB, hq, hat2⟩ := at_first hr hd hat
  have HT : Hid (Bx (at2 w t (.slice a t.items.length c)) w.heap.size t (.slice a t.items.length c)) := at2_fst _ _ _
  have HR : Hid (Bx (at2 w t (.slice a t.items.length c)) (w.heap.size + 1) zeroT (.slice none 0 0)) := at2_snd _ _ _
  have hb0 := at2_below w t (.slice a t.items.length c)
  obtain ⟨W0, hW0⟩ : ∃ W0, W0 = at2 w t (.slice a t.items.length c) := ⟨_, rfl⟩
  have HW0 : Hid (W0 = at2 w t (.slice a t.items.length c)) := hW0
  have hs0 : W0.heap.size = w.heap.size + 2 := by rw [hW0]; unfold at2; simp
  rw [← hW0] at HT HR hb0
  clear hW0
  unfold at2 at HW0
  obtain ⟨b, o, pc, us, rfl, hXb, hpc, p0, p1, p2, p3, hls⟩ := liesX_head hp
  obtain ⟨ay, cy, rfl, _⟩ := LiesX.slice hls
  have hbl := hX _ hXb
  replace p0 := cell_keeps hb0 p0; replace p1 := cell_keeps hb0 p1; replace p2 := cell_keeps hb0 p2; replace p3 := cell_keeps hb0 p3
  obtain ⟨k, hk⟩ : ∃ k : Nat, plcI t s = (k : Int) := ⟨(plcI t s).toNat, by have := (plcB_lt (right_even t hd hr) hB).1; omega⟩
  have hkt : (plcI t s).toNat = k := by omega
  rw [hkt] at hq
  have HPl : Hid (∀ W, Below W0.heap.size W0 W → Calls Try.prog 50 #[.agg #[.int .i64 t.kind, .int .i64 t.num, .string t.text, .slice a t.items.length c], .agg #[.int .i64 s.kind, .int .i64 s.num, .string s.text, .slice ay s.items.length cy]] W fun e w' => e = .returned (.tuple #[.int .i64 (k : Int), .bool true]) ∧ Below W.heap.size W w') := fun W hW => by
    have := place_any t s _ _ W (Lies.keeps hW _ _ _ (Lies.keeps hb0 _ _ _ h.lies)) (Lies.keeps hW _ _ _ (Lies.keeps hb0 _ _ _ hls.lies)) hr
    unfold PlPost at this
    rwa [hB, hk] at this
  have hdr : dropT t (s :: q :: r) = match dropT t.items[k] (q :: r) with | none => none | some z => some (t.putI k z) := by
    rw [dropT_more, if_neg h5, hkt, List.getElem?_eq_getElem hq]
    rfl
  have hat3 : (atT t.items[k] (q :: r)).isSome = true := by
    obtain ⟨_, hq3, h3⟩ := at_first hr hd hat
    have e : t.items[(plcI t s).toNat]'hq3 = t.items[k] := by congr 1
    rwa [e] at h3
  have hr2 := item_right hr hd (List.getElem_mem hq)
  have htx : t.text.size ≤ 9223372036854775807 := by have := right_size hr; omega
  have HEn : Hid (dropT t.items[k] (q :: r) = none → ∀ W k n tx a l c, Below w.heap.size w W → DrpQ X t (s :: q :: r) w (.returned (.tuple #[.agg #[.int .i64 k, .int .i64 n, .string tx, .slice a l c], .int .i64 260])) W) := fun h9 W k n tx a l c hW => drp_none (by rw [hdr, h9]) k n tx a l c hW
  have HEs : Hid (∀ z, dropT t.items[k] (q :: r) = some z → ∀ W a' c', LiesX (fun b => X b ∨ w.heap.size ≤ b) 17 W (t.items.set k z) (.slice a' (t.items.set k z).length c') → Below w.heap.size w W → DrpQ X t (s :: q :: r) w (.returned (.tuple #[.agg #[.int .i64 t.kind, .int .i64 t.num, .string t.text, .slice a' (t.items.set k z).length c'], .int .i64 0])) W) := fun z h9 W a' c' h1 h2 =>
    drp_some (z := t.putI k z) (by rw [hdr, h9]) (LiesX.to (t := t.putI k z) h1 (drop_dp _ 16 _ _ hd (by rw [hdr, h9]))) htx h2
  have HCl : Hid (∀ W, Below w.heap.size w W → Calls Try.prog 57 #[.slice a t.items.length c] W fun e w' => ∃ ps a' c', ps.map (·.1) = t.items ∧ e = .returned (.slice a' t.items.length c') ∧ OwnX X W.heap.size w' ps (.slice a' t.items.length c') ∧ Below W.heap.size W w') := fun W hW => clone_own X t a c W (h.keeps hW) hlen
  have HRs : Hid (∀ W, Below w.heap.size w W → Calls Try.prog 51 #[.slice (some ⟨b, o, none⟩) ((q :: r).length + 1) pc] W fun e w' => ∃ u, e = .returned u ∧ w' = W ∧ LiesX X 17 W (q :: r) u) := fun W hW => rest_any _ 16 s (q :: r) _ W (hp.keeps hW) (by simp only [List.length_cons] at hn ⊢; omega)
  have HPu : Hid (∀ W u a' c', Below w.heap.size w W → LiesX X 17 W (q :: r) u → LiesX X 16 W t.items[k].items (.slice a' t.items[k].items.length c') → Calls Try.prog 31 #[.agg #[.int .i64 t.items[k].kind, .int .i64 t.items[k].num, .string t.items[k].text, .slice a' t.items[k].items.length c'], u] W (DrpQ X t.items[k] (q :: r) W)) := fun W u a' c' hW h1 h2 => ih.out X t.items[k] a' c' u W (fun b hb => by have := hX b hb; have := hW.size; omega) h2 hr2.1 h1 (by simp only [List.length_cons] at hn ⊢; omega) hat3
  have HXX : Hid (∀ b, X b → b < w.heap.size) := hX
  have HXl : Hid (LiesX X 16 w t.items (.slice a t.items.length c)) := h
  have hk5 : (t.kind == 5) = false := by simpa using h5
  have Hs0 : Hid (W0.heap.size = w.heap.size + 2) := hs0
  have hlr : (s :: q :: r).length = (q :: r).length + 1 := rfl
  rw [hlr] at hn
  have hql : (q :: r).length = r.length + 1 := rfl
  generalize DrpQ X t (s :: q :: r) w = PP at *
  clear hdr h hr hd hp hls hX hXb ih hr2 htx hat hat2 hat3 h5 hB hk hkt hlr
  obtain ⟨L, hL⟩ : ∃ L, L = t.items.length := ⟨_, rfl⟩
  have HL : Hid (L = t.items.length) := hL
  generalize hsi : s.items.length = lz at *
  clear hsi
  obtain ⟨R, hR⟩ : ∃ R, R = (q :: r).length := ⟨_, rfl⟩
  have HRn : Hid (R = (q :: r).length) := hR
  rw [← hR] at HRs hn hql hpc ⊢
  rw [← hL] at HPl HCl HT HW0 ⊢
  have hLb : L ≤ 1024 := by omega
  have hkL : k < L := by omega
  clear hL
  have hr1 : ¬ ((R + 1 : Nat) : Int) = 1 := by omega
  have hr0 : (0 : Int) < ((R + 1 : Nat) : Int) := by omega
  clear hR hql hs0
  obtain ⟨t0, t1, t2, t3, f0, f1, f2, f3⟩ := HT.out
  go_enter Try.func31, Try.ntmps31
  go_upto_region 1 with fail
  rw [← HW0.out]
  clear HW0
  go_region_held3 (fun w' => (w'.cell? ⟨w.heap.size, 0, none⟩ = some (.int .i64 t.kind) ∧ w'.cell? ⟨w.heap.size, 1, none⟩ = some (.int .i64 t.num) ∧ w'.cell? ⟨w.heap.size, 2, none⟩ = some (.string t.text) ∧ w'.cell? ⟨w.heap.size, 3, none⟩ = some (.slice a L c)) ∧ (w'.cell? ⟨b, o, none⟩ = some (.int .i64 s.kind) ∧ w'.cell? ⟨b, o + 1, none⟩ = some (.int .i64 s.num) ∧ w'.cell? ⟨b, o + 2, none⟩ = some (.string s.text) ∧ w'.cell? ⟨b, o + 3, none⟩ = some (.slice ay lz cy))) (go_keep)
      (first | (go_at_call 50; (with_reducible refine Calls.mono (HPl.out _ ?_) ?_); (first | exact Below.refl _ _ | exact (Below.refl _ _).drew); rintro e w1 ⟨rfl, hb1⟩; have hb1 : Below W0.heap.size W0 w1 := (by first | exact hb1 | exact (Below.refl _ _).drew.trans hb1); have p0 := cell_keeps hb1 p0; have p1 := cell_keeps hb1 p1; have p2 := cell_keeps hb1 p2; have p3 := cell_keeps hb1 p3; have t0 := cell_keeps hb1 t0; have t1 := cell_keeps hb1 t1; have t2 := cell_keeps hb1 t2; have t3 := cell_keeps hb1 t3))
  have hb2 : Below w.heap.size w w1 := hb0.trans (hb1.mono hb0.size)
  have hsz1 : w.heap.size + 2 ≤ w1.heap.size := by have := hb1.size; have := Hs0.out; omega
  have HR1 : Hid (Bx w1 (w.heap.size + 1) zeroT (.slice none 0 0)) := HR.out.keeps hb1
  have HT1 : Hid (Bx w1 w.heap.size t (.slice a L c)) := HT.out.keeps hb1
  obtain ⟨t0, t1, t2, t3, f0, f1, f2, f3⟩ := HT1.out
  have hbl1 : b < w1.heap.size := by omega
  clear hb1 hb0 HPl HT HR p0 p1 p2 p3 Hs0
  go_wp2_with fail
  refine Calls.mono (HCl.out _ hb2) ?_
  rintro e w2 ⟨ps, a1, c1, hps, rfl, hO1, hb1⟩
  have hnb : (Value.slice a1 L c1).ownBlock ≠ some w.heap.size := fun e => by
    obtain ⟨_, _, _, _, k9⟩ := own_slice26 hO1.own
    have := (k9 _ e).1
    omega
  have HT2 : Hid (Bx w2 w.heap.size t (.slice a L c)) := HT1.out.keeps hb1
  obtain ⟨wr, hwr⟩ : ∃ wr, wr = w2.setCell ⟨w.heap.size, 3, none⟩ (.slice a1 L c1) := ⟨_, rfl⟩
  have Hwr : Hid (wr = w2.setCell ⟨w.heap.size, 3, none⟩ (.slice a1 L c1)) := hwr
  have T3 : Bx wr w.heap.size t (.slice a1 L c1) := by rw [hwr]; exact HT2.out.items _
  have R3 : Bx wr (w.heap.size + 1) zeroT (.slice none 0 0) := by rw [hwr]; exact (HR1.out.keeps hb1).other1 (by omega) 3 _
  have hb3 : Below w.heap.size w wr := by rw [hwr]; exact below_setM (hb2.trans (hb1.mono hb2.size)) (Nat.le_refl _) _ _
  have hO3 : OwnX X w1.heap.size wr ps (.slice a1 L c1) := by rw [hwr]; exact hO1.setL (fun hx => by have := HXX.out _ hx; omega) hnb _ _
  have hsz3 : w1.heap.size ≤ wr.heap.size := by rw [hwr]; simpa [World.setCell] using hb1.size
  have HXc : Hid (LiesX X 16 wr t.items (.slice a t.items.length c)) := HXl.out.keeps hb3
  clear hnb hO1 hb1 HR1 HT1 HXl HCl hwr t0 t1 t2 t3 f0 f1 f2 f3
  obtain ⟨t0, t1, t2, t3, f0, f1, f2, f3⟩ := HT2.out
  go_upto_region 7 with fail
  rw [← Hwr.out]
  clear Hwr t0 t1 t2 t3 f0 f1 f2 f3 HT2
  have hpl : ps.length = t.items.length := by rw [← hps, List.length_map]
  have hpl2 : ps.length = L := by have := HL.out; omega
  obtain ⟨g, cap, hv, hgb, hcap, hlt, hrw, hfz⟩ := own_row (ps := ps) (by have := hO3.own; rw [← hpl2] at this; exact this) (fun e => by rw [e] at hpl2; simp at hpl2; omega)
  injection hv with e1 e2 e3
  clear e2
  subst e1
  subst e3
  have hkp : k < ps.length := by omega
  have hyi : ps[k] ∈ ps := List.getElem_mem _
  have hy1 : (ps[k]).1 = t.items[k] := by
    have : (ps.map (·.1))[k]? = t.items[k]? := by rw [hps]
    rw [List.getElem?_map, List.getElem?_eq_getElem hkp, List.getElem?_eq_getElem hq] at this
    simpa using this
  obtain ⟨r0, r1, r2, r3⟩ := hrw k hkp
  have hly := (hO3.lie _ hyi).1
  rw [hy1] at r0 r1 r2 hly
  generalize (ps[k]).2 = uy at *
  obtain ⟨a4, c4, rfl, _⟩ := LiesX.slice hly
  simp only [Nat.zero_add] at r0 r1 r2 r3
  have fr : ∀ k, wr.frozen? ⟨g, k, none⟩ = false := hfz
  clear hyi hy1 hrw hfz
  have HLy : Hid (LiesX X 16 wr t.items[k].items (.slice a4 t.items[k].items.length c4)) := hly
  have hO3' : OwnX X w1.heap.size wr ps (.slice (some ⟨g, 0, none⟩) t.items.length c1) := by rw [← HL.out]; exact hO3
  have HPz : Hid (∀ W u, Below w.heap.size w W → LiesX X 17 W (q :: r) u → LiesX X 16 W t.items[k].items (.slice a4 t.items[k].items.length c4) → Calls Try.prog 31 #[.agg #[.int .i64 t.items[k].kind, .int .i64 t.items[k].num, .string t.items[k].text, .slice a4 t.items[k].items.length c4], u] W fun e w' => ∃ k9 n tx a l c E, e = .returned (.tuple #[.agg #[.int .i64 k9, .int .i64 n, .string tx, .slice a l c], .int .i64 E]) ∧ Hid ((E = 260 ∧ dropT t.items[k] (q :: r) = none) ∨ (E = 0 ∧ ∃ z, dropT t.items[k] (q :: r) = some z ∧ k9 = z.kind ∧ n = z.num ∧ tx = z.text ∧ l = z.items.length ∧ LiesX (fun b => X b ∨ W.heap.size ≤ b) 16 w' z.items (.slice a z.items.length c) ∧ z.text.size ≤ 9223372036854775807)) ∧ Below W.heap.size W w') := fun W u h1 h2 h3 => HPu.out W u a4 c4 h1 h2 h3
  have HF7 : Hid (∀ w6 k9 n tx a l c E, Hid ((E = 260 ∧ dropT t.items[k] (q :: r) = none) ∨ (E = (0 : Int) ∧ ∃ z, dropT t.items[k] (q :: r) = some z ∧ k9 = z.kind ∧ n = z.num ∧ tx = z.text ∧ l = z.items.length ∧ LiesX (fun b => X b ∨ wr.heap.size ≤ b) 16 w6 z.items (.slice a z.items.length c) ∧ z.text.size ≤ 9223372036854775807)) → Below wr.heap.size wr w6 → Hid (Bx (w6.setCells g (k * 4) [.int .i64 k9, .int .i64 n, .string tx, .slice a l c]) w.heap.size t (.slice (some ⟨g, 0, none⟩) L c1) ∧ Bx (w6.setCells g (k * 4) [.int .i64 k9, .int .i64 n, .string tx, .slice a l c]) (w.heap.size + 1) zeroT (.slice none 0 0) ∧ (∀ p, PP (.returned (.tuple #[.agg #[.int .i64 t.kind, .int .i64 t.num, .string t.text, .slice (some ⟨g, 0, none⟩) L c1], .int .i64 E])) ((w6.setCells g (k * 4) [.int .i64 k9, .int .i64 n, .string tx, .slice a l c]).setCells (w.heap.size + 1) 0 (encP p))))) := fun w6 k9 n tx a l c E hq6 hb6 => by
    refine ⟨(T3.keeps hb6).otherO (by omega) _ _, (R3.keeps hb6).otherO (by omega) _ _, fun p => ?_⟩
    have hbx : Below w.heap.size w ((w6.setCells g (k * 4) [.int .i64 k9, .int .i64 n, .string tx, .slice a l c]).setCells (w.heap.size + 1) 0 (encP p)) := below_put (below_setsO (hb3.trans (hb6.mono hb3.size)) (by omega) _ _) (by omega) _
    rcases hq6.out with ⟨rfl, hz⟩ | ⟨rfl, z, hz, rfl, rfl, rfl, rfl, hl6, hzt⟩
    · exact HEn.out hz _ _ _ _ _ _ _ hbx
    · have h9 := drop_lies (N := w.heap.size) (M := w1.heap.size) HXX.out (by omega) hO3' hps hq hb6 (by have := HL.out; omega) hl6 hzt (by omega) hsz3 p
      have h10 := HEs.out z hz _ (some ⟨g, 0, none⟩) c1 h9 hbx
      rw [List.length_set, ← HL.out] at h10
      exact h10
  have hng0 : w.heap.size ≠ g := by omega
  clear HEn HEs HPu hpl hcap hO3 hO3' hps hpl2 hkp hsz3
  obtain ⟨t0, t1, t2, t3, f0, f1, f2, f3⟩ := T3
  have hi2 : (k : Int) < (L : Int) := by omega
  have q0 := fr (k * 4); have q1 := fr (k * 4 + 1); have q2 := fr (k * 4 + 2); have q3 := fr (k * 4 + 3)
  generalize hyy : t.items[k] = y at *
  clear hyy
  generalize y.items.length = ly at *
  clear R3 fr hly t0 t1 t2 f0 f1 f2 f3 hsz1 hgb HXc
  go_upto_region 8 with fail
  go_cut [8] from 31 to 45 (fun s8 wx => ∃ E, s8 = .int .i64 E ∧ Hid (Bx wx w.heap.size t (.slice (some ⟨g, 0, none⟩) L c1) ∧ Bx wx (w.heap.size + 1) zeroT (.slice none 0 0) ∧ (∀ p, PP (.returned (.tuple #[.agg #[.int .i64 t.kind, .int .i64 t.num, .string t.text, .slice (some ⟨g, 0, none⟩) L c1], .int .i64 E])) (wx.setCells (w.heap.size + 1) 0 (encP p)))))
  case first =>
    clear HL HRn HXX hq hlen hb2 hpc hkL hLb
    rw [← ldRowD_eq]
    go_region_held3 (fun w' => w'.cell? ⟨w.heap.size, 3, none⟩ = some (.slice (some ⟨g, 0, none⟩) L c1)) (first | (go_keep; done) | (with_reducible exact set4_o26 hng0 t3))
      (first
        | (go_at_call 51; (with_reducible refine Calls.mono (HRs.out _ ?_) ?_); (first | exact hb3 | exact hb3.drew); rintro e w5 ⟨u5, rfl, rfl, hl5⟩; obtain ⟨a5, c5, rfl, _⟩ := LiesX.slice hl5; have HL5 : Hid (LiesX X 17 wr (q :: r) (.slice a5 (q :: r).length c5)) := hl5; clear hl5)
        | (go_at_call 31; (with_reducible refine Calls.mono (HPz.out _ _ ?_ ?_ ?_) ?_); (first | exact hb3 | exact hb3.drew); (first | exact HL5.out | exact HL5.out.keeps (Below.refl _ _).drew); (first | exact HLy.out | exact HLy.out.keeps (Below.refl _ _).drew); rintro e w6 ⟨k6, n6, tx6, a6, l6, c6, E6, rfl, hq6, hb6⟩; have hg6 : Below wr.heap.size wr w6 := (by first | exact hb6 | exact (Below.refl _ _).drew.trans hb6); have HF := HF7.out w6 k6 n6 tx6 a6 l6 c6 E6 hq6 hg6; have r0 := cell_keeps hg6 r0; have r1 := cell_keeps hg6 r1; have r2 := cell_keeps hg6 r2; have r3 := cell_keeps hg6 r3; have t3 := cell_keeps hg6 t3; have q0 := (hg6.frozen (p := ⟨g, k * 4, none⟩) hlt).trans q0; have q1 := (hg6.frozen (p := ⟨g, k * 4 + 1, none⟩) hlt).trans q1; have q2 := (hg6.frozen (p := ⟨g, k * 4 + 2, none⟩) hlt).trans q2; have q3 := (hg6.frozen (p := ⟨g, k * 4 + 3, none⟩) hlt).trans q3; clear hb6 hg6 hq6))
    all_goals (go_wp2_with fail; go_meet; exact ⟨E6, rfl, HF⟩)
  case rest =>
    obtain ⟨E, rfl, H4⟩ := hcut
    clear HF7 HPz HRs HLy r0 r1 r2 r3 q0 q1 q2 q3 t3 hb3
    have HE3 : Hid (PP (.returned (.tuple #[.agg #[.int .i64 t.kind, .int .i64 t.num, .string t.text, .slice (some ⟨g, 0, none⟩) L c1], .int .i64 E])) (wc.setCells (w.heap.size + 1) 0 (encP (t, .slice (some ⟨g, 0, none⟩) L c1)))) := H4.out.2.2 _
    have Hq : Hid (Bx (wc.setCells (w.heap.size + 1) 0 (encP (t, .slice (some ⟨g, 0, none⟩) L c1))) (w.heap.size + 1) t (.slice (some ⟨g, 0, none⟩) L c1)) := H4.out.2.1.put (t, .slice (some ⟨g, 0, none⟩) L c1)
    obtain ⟨t0, t1, t2, t3, _, _, _, _⟩ := H4.out.1
    obtain ⟨z0, z1, z2, z3, y0, y1, y2, y3⟩ := H4.out.2.1
    clear H4
    go_wp2_with fail
    refine bodyPost_ret (v := .tuple #[.agg #[.int .i64 t.kind, .int .i64 t.num, .string t.text, .slice (some ⟨g, 0, none⟩) L c1], .int .i64 E]) ?_ rfl HE3.out
    obtain ⟨q0, q1, q2, q3, _, _, _, _⟩ := Hq.out
    simp only [World.setCells, encP, Nat.zero_add, Nat.reduceAdd] at q0 q1 q2 q3
    simp [results, Try.results31, go_sem, q0, q1, q2, q3]

/-- drop, whatever the path. -/
theorem drop_any : ∀ (r : List VT), r ≠ [] → DrpC r := by
  intro r
  induction r with
  | nil => intro h; exact absurd rfl h
  | cons s r ih =>
    intro _ X t a c pv w hX h hr hp hn hat
    cases r with
    | nil => exact drop_one s X t a c pv w hX h hr hp hat
    | cons q r =>
      by_cases h5 : t.kind = 5
      · exact drop_set s q r X t a c pv w hX h hr hp hat h5
      · exact drop_more s q r X t a c pv w hX h hr hp hn hat h5 (ih (by simp))

end Go.Proofs.Ytofceccicmlmoaa

namespace Go.Proofs.Ytofceccicmlmoaa
open Go.RowKit Go.Shelf

def drpE (d : Nat) (t : VT) (p : List VT) : Int :=
  if chkE d t p = 0 then (if p = [] then 260 else if atB t p = true then (match dropT t p with | none => 260 | some z => fitE 16 z) else 0) else chkE d t p
def drpR (d : Nat) (t : VT) (p : List VT) : VT := if drpE d t p = 0 then (if atB t p = true then (dropT t p).getD nilT else t) else nilT

theorem told_drop {d : Nat} {t : VT} {p : List VT} (hc : chkE d t p = 0) (hne : p ≠ []) (hat : atB t p = true) (hr : rightV 16 t = true) (hd : Dp 16 t) {X : Nat → Prop} {w w' : World} {e : Ending} (hq : DrpQ X t p w e w') :
    ∃ k n tx a l c E0, e = .returned (.tuple #[.agg #[.int .i64 k, .int .i64 n, .string tx, .slice a l c], .int .i64 E0]) ∧ Hid (Calls Try.prog 30 #[.agg #[.int .i64 k, .int .i64 n, .string tx, .slice a l c], .int .i64 E0] w' (VPost (drpR d t p) (drpE d t p) w')) ∧ Below w.heap.size w w' := by
  obtain ⟨k, n, tx, a, l, c, E, rfl, hz, hb⟩ := hq
  refine ⟨k, n, tx, a, l, c, E, rfl, ?_, hb⟩
  rcases hz with ⟨rfl, hz⟩ | ⟨rfl, z, hz, rfl, rfl, rfl, rfl, h1, h2⟩
  · have e1 : drpE d t p = 260 := by unfold drpE; rw [if_pos hc, if_neg hne, if_pos hat, hz]
    have e2 : drpR d t p = nilT := by unfold drpR; rw [e1]; rfl
    rw [e1, e2]
    exact told_core (fun _ => False) 16 nilT 260 260 k n tx a l c w' (fun b hb => hb.elim) nil_right nil_dp (fun W _ => fitting_err _ _ k n tx a l c 260 (by omega) W)
  · have hlx : LiesX (fun b => b < w'.heap.size) 16 w' z.items (.slice a z.items.length c) := LiesX.of_lies h1.lies
    have e1 : drpE d t p = fitE 16 z := by unfold drpE; rw [if_pos hc, if_neg hne, if_pos hat, hz]
    have e2 : drpR d t p = fitR 16 z := by
      unfold drpR fitR
      rw [e1]
      unfold fitE
      by_cases hf : (fw 16 z 16 1024).1 = true
      · rw [if_pos hf, if_pos rfl, if_pos hf, if_pos hat, hz]; rfl
      · rw [if_neg hf, if_neg (by omega), if_neg hf]
    rw [e1, e2]
    have hrt : rightV 16 (fitR 16 z) = true ∧ Dp 16 (fitR 16 z) := by
      unfold fitR
      have hz2 := drop_right p t z hr hd hat hz
      by_cases hf : (fw 16 z 16 1024).1 = true
      · rw [if_pos hf]
        refine ⟨?_, hz2.1⟩
        unfold rightV
        rw [hf, hz2.2]; rfl
      · rw [if_neg hf]; exact ⟨nil_right, nil_dp⟩
    exact told_core (fun b => b < w'.heap.size) 16 _ _ 0 z.kind z.num z.text a z.items.length c w' (fun b hb => hb) hrt.1 hrt.2 (fun W hW => fitting_any _ _ z a c W (hlx.keeps hW) (fun b hb => by have := hW.size; omega))

set_option maxRecDepth 100000 in
set_option maxHeartbeats 8000000 in
theorem drop_face (d : Nat) (t : VT) (p : List VT) (v pv : Value) (w : World) (hv : Lies d w t.items v) (hs : t.text.size ≤ 9223372036854775807) (hp : Lies (d + 1) w p pv) :
    Calls Try.prog 10 #[.agg #[.int .i64 t.kind, .int .i64 t.num, .string t.text, v], pv] w (VPost (drpR d t p) (drpE d t p) w) := by
  obtain ⟨a, c, rfl, _⟩ := Lies.slice hv
  obtain ⟨pa, pc, rfl, _⟩ := Lies.slice hp
  have HT : Hid (Bx (at2 w t (.slice a t.items.length c)) w.heap.size t (.slice a t.items.length c)) := at2_fst _ _ _
  have HR : Hid (Bx (at2 w t (.slice a t.items.length c)) (w.heap.size + 1) zeroT (.slice none 0 0)) := at2_snd _ _ _
  have hb0 := at2_below w t (.slice a t.items.length c)
  obtain ⟨W0, hW0⟩ : ∃ W0, W0 = at2 w t (.slice a t.items.length c) := ⟨_, rfl⟩
  have HW0 : Hid (W0 = at2 w t (.slice a t.items.length c)) := hW0
  rw [← hW0] at HT HR hb0
  clear hW0
  unfold at2 at HW0
  have HC : Hid (Calls Try.prog 24 #[.agg #[.int .i64 t.kind, .int .i64 t.num, .string t.text, .slice a t.items.length c], .slice pa p.length pc] W0 fun e w' => e = .returned (.int .i64 (chkE d t p)) ∧ Below W0.heap.size W0 w') := check26_any d t p _ _ W0 (Lies.keeps hb0 _ _ _ hv) hs (Lies.keeps hb0 _ _ _ hp)
  obtain ⟨t0, t1, t2, t3, _, _, _, _⟩ := HT.out
  by_cases hE : chkE d t p = 0
  · obtain ⟨hr, hl, hpe⟩ := chk_zero hE
    have hc := canon hv hr
    have hcp := canonL26 hp hpe
    have hd := Dp.of_lies 16 w t _ hc.1
    by_cases hne : p = []
    · have e1 : drpE d t p = 260 := by unfold drpE; rw [if_pos hE, if_pos hne]
      have e2 : drpR d t p = nilT := by unfold drpR; rw [e1]; rfl
      rw [e1, e2]
      rw [hE] at HC
      have HE : Hid (∀ W, Below w.heap.size w W → VPost nilT 260 w (.returned (.tuple #[.agg #[.int .i64 0, .int .i64 0, .string ⟨#[]⟩, .slice none 0 0], .int .i64 260])) W) := fun W hW => vPost_nil hW
      generalize VPost nilT 260 w = PP at *
      have hlp : ((p.length : Int) == 0) = true := by rw [hne]; rfl
      clear e1 e2 hr hl hpe hc hcp hd hE hv hp hs hne
      generalize t.items.length = lt at *
      generalize p.length = lp at *
      go_enter Try.func10, Try.ntmps10
      go_upto_region 1 with fail
      rw [← HW0.out]
      clear HW0
      go_wp2_with fail
      refine Calls.mono HC.out ?_
      rintro e w1 ⟨rfl, hb1⟩
      have hb2 : Below w.heap.size w w1 := hb0.trans (hb1.mono hb0.size)
      have HR1 : Hid (Bx w1 (w.heap.size + 1) zeroT (.slice none 0 0)) := HR.out.keeps hb1
      replace t0 := cell_keeps hb1 t0; replace t1 := cell_keeps hb1 t1; replace t2 := cell_keeps hb1 t2; replace t3 := cell_keeps hb1 t3
      clear hb1 hb0 HC HT HR
      have HE1 : Hid (PP (.returned (.tuple #[.agg #[.int .i64 0, .int .i64 0, .string ⟨#[]⟩, .slice none 0 0], .int .i64 260])) (w1.setCells (w.heap.size + 1) 0 (encP (zeroT, .slice none 0 0)))) := HE.out _ (below_put hb2 (by omega) _)
      have Hq : Hid (Bx (w1.setCells (w.heap.size + 1) 0 (encP (zeroT, .slice none 0 0))) (w.heap.size + 1) zeroT (.slice none 0 0)) := HR1.out.put (zeroT, .slice none 0 0)
      obtain ⟨z0, z1, z2, z3, g0, g1, g2, g3⟩ := HR1.out
      go_wp2_with fail
      refine bodyPost_ret (v := .tuple #[.agg #[.int .i64 0, .int .i64 0, .string ⟨#[]⟩, .slice none 0 0], .int .i64 260]) ?_ rfl HE1.out
      obtain ⟨q0, q1, q2, q3, _, _, _, _⟩ := Hq.out
      simp only [World.setCells, encP, Nat.zero_add, Nat.reduceAdd] at q0 q1 q2 q3
      simp [results, Try.results10, go_sem, q0, q1, q2, q3]
    · have hlp : ((p.length : Int) == 0) = false := by
        have := List.length_pos_iff.2 hne
        simp; exact hne
      have HA : Hid (∀ W, Below w.heap.size w W → Calls Try.prog 25 #[.agg #[.int .i64 t.kind, .int .i64 t.num, .string t.text, .slice a t.items.length c], .slice pa p.length pc] W (AtPost (fun b => b < w.heap.size) t p W)) := fun W hW => at_any p (fun b => b < w.heap.size) t a c _ W ((LiesX.of_lies hc.1).keeps hW) hc.2 ((LiesX.of_lies hcp.1).keeps hW) hl
      unfold AtPost at HA
      by_cases hat : atB t p = true
      · have HD : Hid (∀ W, Below w.heap.size w W → Calls Try.prog 31 #[.agg #[.int .i64 t.kind, .int .i64 t.num, .string t.text, .slice a t.items.length c], .slice pa p.length pc] W fun e w' => ∃ k n tx a l c E0, e = .returned (.tuple #[.agg #[.int .i64 k, .int .i64 n, .string tx, .slice a l c], .int .i64 E0]) ∧ Hid (Calls Try.prog 30 #[.agg #[.int .i64 k, .int .i64 n, .string tx, .slice a l c], .int .i64 E0] w' (VPost (drpR d t p) (drpE d t p) w')) ∧ Below W.heap.size W w') := fun W hW => by
          refine Calls.mono (drop_any p hne (fun b => b < w.heap.size) t a c (.slice pa p.length pc) W (fun b hb => by have := hW.size; omega) ((LiesX.of_lies hc.1).keeps hW) hc.2 ((LiesX.of_lies hcp.1).keeps hW) hl hat) ?_
          intro e w' hq
          exact told_drop hE hne hat hc.2 hd hq
        rw [hE] at HC
        rw [hat] at HA
        clear hr hl hpe hc hcp hd hE hv hp hs hne hat
        generalize drpR d t p = y at *
        generalize drpE d t p = E at *
        generalize hP : VPost y E w = PP
        have HP : Hid (VPost y E w = PP) := hP
        clear hP
        generalize atR t p = x at *
        generalize t.items.length = lt at *
        generalize p.length = lp at *
        go_enter Try.func10, Try.ntmps10
        go_upto_region 1 with fail
        rw [← HW0.out]
        clear HW0
        go_wp2_with fail
        refine Calls.mono HC.out ?_
        rintro e w1 ⟨rfl, hb1⟩
        have hb2 : Below w.heap.size w w1 := hb0.trans (hb1.mono hb0.size)
        have HR1 : Hid (Bx w1 (w.heap.size + 1) zeroT (.slice none 0 0)) := HR.out.keeps hb1
        replace t0 := cell_keeps hb1 t0; replace t1 := cell_keeps hb1 t1; replace t2 := cell_keeps hb1 t2; replace t3 := cell_keeps hb1 t3
        clear hb1 hb0 HC HT HR
        go_wp2_with fail
        refine Calls.mono (HA.out _ hb2) ?_
        rintro e w3 ⟨a3, c3, rfl, hl3, hb3⟩
        obtain ⟨V, hV⟩ : ∃ V, V = w3.alloc (.cells #[.int .i64 x.kind, .int .i64 x.num, .string x.text, .slice a3 x.items.length c3] 24) := ⟨_, rfl⟩
        have HV : Hid (V = w3.alloc (.cells #[.int .i64 x.kind, .int .i64 x.num, .string x.text, .slice a3 x.items.length c3] 24)) := hV
        have hal : Below w1.heap.size w1 V := by rw [hV]; exact hb3.alloc hb3.size _
        have hbV : Below w.heap.size w V := hb2.trans (hal.mono hb2.size)
        have HRV : Hid (Bx V (w.heap.size + 1) zeroT (.slice none 0 0)) := HR1.out.keeps hal
        have t0V := cell_keeps hal t0; have t1V := cell_keeps hal t1; have t2V := cell_keeps hal t2; have t3V := cell_keeps hal t3
        clear hV hal hb3 hl3 hb2 HR1 HA t0 t1 t2 t3
        go_upto_region 7 with fail
        rw [← HV.out]
        clear HV
        go_wp2_with fail
        refine Calls.mono (HD.out _ hbV) ?_
        rintro e w5 ⟨k5, n5, tx5, a5, l5, c5, E5, rfl, HT5, hb5⟩
        have hb6 : Below w.heap.size w w5 := hbV.trans (hb5.mono hbV.size)
        have HR5 : Hid (Bx w5 (w.heap.size + 1) zeroT (.slice none 0 0)) := HRV.out.keeps hb5
        clear hbV hb5 HRV HD t0V t1V t2V t3V
        go_wp2_with fail
        refine Calls.mono HT5.out ?_
        rintro e w7 ⟨u7, rfl, hl7, hb7⟩
        obtain ⟨a7, c7, rfl, _⟩ := LiesX.slice hl7
        have hb8 : Below w.heap.size w w7 := hb6.trans (hb7.mono hb6.size)
        have HR7 : Hid (Bx w7 (w.heap.size + 1) zeroT (.slice none 0 0)) := HR5.out.keeps hb7
        have hsz : w.heap.size + 1 < w5.heap.size := by have := cell_lt HR5.out.c0; simpa using this
        have HE1 : Hid (PP (.returned (.tuple #[.agg #[.int .i64 y.kind, .int .i64 y.num, .string y.text, .slice a7 y.items.length c7], .int .i64 E])) (w7.setCells (w.heap.size + 1) 0 (encP (y, .slice a7 y.items.length c7)))) := by
          show PP _ _
          rw [← HP.out]
          exact ⟨_, rfl, LiesX.mono (fun b hb => by omega) (LiesX.set (g := w.heap.size + 1) (by omega) hl7), below_put hb8 (by omega) _⟩
        have Hq : Hid (Bx (w7.setCells (w.heap.size + 1) 0 (encP (y, .slice a7 y.items.length c7))) (w.heap.size + 1) y (.slice a7 y.items.length c7)) := HR7.out.put (y, .slice a7 y.items.length c7)
        obtain ⟨z0, z1, z2, z3, g0, g1, g2, g3⟩ := HR7.out
        clear hl7 hb7 hb8 hb6 HR7 HR5 HP hsz HT5
        generalize y.items.length = ly at *
        go_wp2_with fail
        refine bodyPost_ret (v := .tuple #[.agg #[.int .i64 y.kind, .int .i64 y.num, .string y.text, .slice a7 ly c7], .int .i64 E]) ?_ rfl HE1.out
        obtain ⟨q0, q1, q2, q3, _, _, _, _⟩ := Hq.out
        simp only [World.setCells, encP, Nat.zero_add, Nat.reduceAdd] at q0 q1 q2 q3
        simp [results, Try.results10, go_sem, q0, q1, q2, q3]
      · have hatf : atB t p = false := by simpa using hat
        have e1 : drpE d t p = 0 := by unfold drpE; rw [if_pos hE, if_neg hne, if_neg hat]
        have e2 : drpR d t p = t := by unfold drpR; rw [if_pos e1, if_neg hat]
        rw [e1, e2]
        rw [hE] at HC
        rw [hatf] at HA
        have HCp : Hid (∀ W, Below w.heap.size w W → Calls Try.prog 26 #[.agg #[.int .i64 t.kind, .int .i64 t.num, .string t.text, .slice a t.items.length c]] W (CopyPost 16 t W)) := fun W hW => copy_right _ _ W (Lies.keeps hW _ _ _ hc.1) hc.2
        clear e1 e2 hr hl hpe hc hcp hd hE hv hp hs hne hat hatf
        generalize hP : VPost t 0 w = PP
        have HP : Hid (VPost t 0 w = PP) := hP
        clear hP
        generalize atR t p = x at *
        obtain ⟨lt, hlt⟩ : ∃ n, n = t.items.length := ⟨_, rfl⟩
        have Hlt : Hid (lt = t.items.length) := hlt
        rw [← hlt] at HT HC HA HCp HW0 t3 ⊢
        clear hlt
        generalize p.length = lp at *
        go_enter Try.func10, Try.ntmps10
        go_upto_region 1 with fail
        rw [← HW0.out]
        clear HW0
        go_wp2_with fail
        refine Calls.mono HC.out ?_
        rintro e w1 ⟨rfl, hb1⟩
        have hb2 : Below w.heap.size w w1 := hb0.trans (hb1.mono hb0.size)
        have HR1 : Hid (Bx w1 (w.heap.size + 1) zeroT (.slice none 0 0)) := HR.out.keeps hb1
        replace t0 := cell_keeps hb1 t0; replace t1 := cell_keeps hb1 t1; replace t2 := cell_keeps hb1 t2; replace t3 := cell_keeps hb1 t3
        clear hb1 hb0 HC HT HR
        go_wp2_with fail
        refine Calls.mono (HA.out _ hb2) ?_
        rintro e w3 ⟨a3, c3, rfl, hl3, hb3⟩
        obtain ⟨V, hV⟩ : ∃ V, V = w3.alloc (.cells #[.int .i64 x.kind, .int .i64 x.num, .string x.text, .slice a3 x.items.length c3] 24) := ⟨_, rfl⟩
        have HV : Hid (V = w3.alloc (.cells #[.int .i64 x.kind, .int .i64 x.num, .string x.text, .slice a3 x.items.length c3] 24)) := hV
        have hal : Below w1.heap.size w1 V := by rw [hV]; exact hb3.alloc hb3.size _
        have hbV : Below w.heap.size w V := hb2.trans (hal.mono hb2.size)
        have HRV : Hid (Bx V (w.heap.size + 1) zeroT (.slice none 0 0)) := HR1.out.keeps hal
        have t0V := cell_keeps hal t0; have t1V := cell_keeps hal t1; have t2V := cell_keeps hal t2; have t3V := cell_keeps hal t3
        clear hV hal hb3 hl3 hb2 HR1 HA t0 t1 t2 t3
        go_upto_region 7 with fail
        rw [← HV.out]
        clear HV
        go_wp2_with fail
        refine Calls.mono (HCp.out _ hbV) ?_
        rintro e w4 ⟨v4, rfl, hl4, hb4⟩
        obtain ⟨a4, c4, rfl, _⟩ := LiesB.slice hl4
        have hb5 : Below w.heap.size w w4 := hbV.trans (hb4.mono hbV.size)
        have HR4 : Hid (Bx w4 (w.heap.size + 1) zeroT (.slice none 0 0)) := HRV.out.keeps hb4
        have hsz : w.heap.size + 1 < V.heap.size := by have := cell_lt HRV.out.c0; simpa using this
        have HE1 : Hid (PP (.returned (.tuple #[.agg #[.int .i64 t.kind, .int .i64 t.num, .string t.text, .slice a4 t.items.length c4], .int .i64 0])) (w4.setCells (w.heap.size + 1) 0 (encP (t, .slice a4 t.items.length c4)))) := by
          show PP _ _
          rw [← HP.out]
          exact ⟨_, rfl, LiesX.mono (fun b hb => by omega) (LiesX.set (g := w.heap.size + 1) (by omega) (LiesX.of_b hl4)), below_put hb5 (by omega) _⟩
        have Hq : Hid (Bx (w4.setCells (w.heap.size + 1) 0 (encP (t, .slice a4 t.items.length c4))) (w.heap.size + 1) t (.slice a4 t.items.length c4)) := HR4.out.put (t, .slice a4 t.items.length c4)
        obtain ⟨z0, z1, z2, z3, g0, g1, g2, g3⟩ := HR4.out
        clear hl4 hb4 hb5 hbV HR4 HRV HCp HP t0V t1V t2V t3V hsz Hlt
        generalize t.items.length = ly at *
        go_wp2_with fail
        refine bodyPost_ret (v := .tuple #[.agg #[.int .i64 t.kind, .int .i64 t.num, .string t.text, .slice a4 ly c4], .int .i64 0]) ?_ rfl HE1.out
        obtain ⟨q0, q1, q2, q3, _, _, _, _⟩ := Hq.out
        simp only [World.setCells, encP, Nat.zero_add, Nat.reduceAdd] at q0 q1 q2 q3
        simp [results, Try.results10, go_sem, q0, q1, q2, q3]
  · have e1 : drpE d t p = chkE d t p := by unfold drpE; rw [if_neg hE]
    have e2 : drpR d t p = nilT := by unfold drpR; rw [e1, if_neg hE]
    rw [e1, e2]
    have HE : Hid (∀ W, Below w.heap.size w W → VPost nilT (chkE d t p) w (.returned (.tuple #[.agg #[.int .i64 0, .int .i64 0, .string ⟨#[]⟩, .slice none 0 0], .int .i64 (chkE d t p)])) W) := fun W hW => vPost_nil hW
    generalize VPost nilT (chkE d t p) w = PP at *
    clear e1 e2 hv hp hs
    generalize chkE d t p = E at *
    generalize t.items.length = lt at *
    generalize p.length = lp at *
    go_enter Try.func10, Try.ntmps10
    go_upto_region 1 with fail
    rw [← HW0.out]
    clear HW0
    go_wp2_with fail
    refine Calls.mono HC.out ?_
    rintro e w1 ⟨rfl, hb1⟩
    have hb2 : Below w.heap.size w w1 := hb0.trans (hb1.mono hb0.size)
    have HR1 : Hid (Bx w1 (w.heap.size + 1) zeroT (.slice none 0 0)) := HR.out.keeps hb1
    replace t0 := cell_keeps hb1 t0; replace t1 := cell_keeps hb1 t1; replace t2 := cell_keeps hb1 t2; replace t3 := cell_keeps hb1 t3
    clear hb1 hb0 HC HT HR
    have HE1 : Hid (PP (.returned (.tuple #[.agg #[.int .i64 0, .int .i64 0, .string ⟨#[]⟩, .slice none 0 0], .int .i64 E])) (w1.setCells (w.heap.size + 1) 0 (encP (zeroT, .slice none 0 0)))) := HE.out _ (below_put hb2 (by omega) _)
    have Hq : Hid (Bx (w1.setCells (w.heap.size + 1) 0 (encP (zeroT, .slice none 0 0))) (w.heap.size + 1) zeroT (.slice none 0 0)) := HR1.out.put (zeroT, .slice none 0 0)
    obtain ⟨z0, z1, z2, z3, g0, g1, g2, g3⟩ := HR1.out
    go_wp2_with fail
    refine bodyPost_ret (v := .tuple #[.agg #[.int .i64 0, .int .i64 0, .string ⟨#[]⟩, .slice none 0 0], .int .i64 E]) ?_ rfl HE1.out
    obtain ⟨q0, q1, q2, q3, _, _, _, _⟩ := Hq.out
    simp only [World.setCells, encP, Nat.zero_add, Nat.reduceAdd] at q0 q1 q2 q3
    simp [results, Try.results10, go_sem, q0, q1, q2, q3]

end Go.Proofs.Ytofceccicmlmoaa

