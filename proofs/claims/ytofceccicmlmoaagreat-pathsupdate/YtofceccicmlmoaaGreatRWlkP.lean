/-
  The document's walked: what it keeps.
-/
import Derived.Test.YtofceccicmlmoaaGreatStepM
import Derived.Test.YtofceccicmlmoaaGreatPutA
import Derived.Test.YtofceccicmlmoaaGreatRowX
import Derived.Test.YtofceccicmlmoaaGreatRIs
import Derived.Deep.RegionHeld3
import Derived.Deep.CutRange
import Derived.Deep.CutBlock
import Derived.Deep.LoopGhost
import Derived.Test.YtofceccicmlmoaaGreatAppB
import Derived.Deep.AppendLies
namespace Go.Proofs.YtofceccicmlmoaaGreat
open Go.RowKit Go.Shelf

/-- What is told of a value that is made anew. -/
def NewW (X : Nat → Prop) (D : Nat) (z : VT) (w : World) (e : Ending) (w' : World) : Prop :=
  ∃ a c, e = .returned (.agg #[.int .i64 z.kind, .int .i64 z.num, .string z.text, .slice a z.items.length c]) ∧ LiesX (fun b => X b ∨ w.heap.size ≤ b) D w' z.items (.slice a z.items.length c) ∧ Below w.heap.size w w'

def WkC (q d : Nat) : Prop := ∀ (X : Nat → Prop) (t : VT) (a : Option Addr) (c : Nat) (w : World), (∀ b, X b → b < w.heap.size) → LiesX X 16 w t.items (.slice a t.items.length c) → rightV 16 t = true → Dp d t → Calls Tryz.prog 23 #[.agg #[.int .i64 t.kind, .int .i64 t.num, .string t.text, .slice a t.items.length c], .int .i64 (q : Int)] w (NewW X (16 + d) (walkT (doneT q) d t) w)

theorem one_done (q : Nat) (hq : q < 8) (t : VT) (u : Value) (w : World) (hu : Lies 16 w t.items u) (hr : rightV 16 t = true) : Calls Tryz.prog 12 #[.int .i64 (q : Int), .agg #[.int .i64 t.kind, .int .i64 t.num, .string t.text, u]] w (VPost (doneT q t) 0 w) := by
  have h := one_any 16 (q : Int) t u w hu (by have := right_size hr; omega)
  have e1 : timesE 16 (q : Int) 1 t = 0 := by unfold timesE; rw [if_neg (by omega), if_neg (by omega), if_pos hr]
  have e2 : timesT 16 (q : Int) 1 t = doneT q t := by unfold timesT; rw [if_pos e1]; rfl
  rwa [e1, e2] at h

theorem walk_text (q d : Nat) (hd16 : d ≤ 16) (t : VT) (hr : rightV 16 t = true) (hd : Dp d t) : (walkT (doneT q) d t).text.size ≤ 9223372036854775807 := by
  have h1 := right_size (done_right q hr (hd.mono hd16)).1
  have h2 := right_size hr
  cases d with
  | zero => show (doneT q t).text.size ≤ _; omega
  | succ d =>
    unfold walkT
    split
    · omega
    · show t.text.size ≤ _; omega

theorem flatS_get : ∀ (qs : List ST26) (j r : Nat), r < 5 → (h : j < qs.length) → (qs.flatMap encS)[j * 5 + r]? = (encS (qs[j]'h))[r]? := by
  intro qs
  induction qs with
  | nil => intro j r _ h; simp at h
  | cons p qs ih =>
    intro j r hr h
    rw [List.flatMap_cons]
    have hl : (encS p).length = 5 := rfl
    cases j with
    | zero => rw [Nat.zero_mul, Nat.zero_add, List.getElem?_append_left (by omega)]; rfl
    | succ j =>
      have hj : j < qs.length := by simpa using h
      rw [List.getElem?_append_right (by omega), hl, show (j + 1) * 5 + r - 5 = j * 5 + r by omega]
      simpa using ih j r hr hj

/-- A row of steps, cell by cell. -/
theorem own_steps {w : World} {base n : Nat} {v : Value} {qs : List ST26} (h : w.ownsRow base 68 5 v n (qs.flatMap encS)) (hn : n = qs.length) (hne : 0 < n) :
    ∃ g cap, v = .slice (some ⟨g, 0, none⟩) n cap ∧ base ≤ g ∧ g < w.heap.size ∧ n ≤ cap ∧ ∀ j (hj : j < qs.length), w.cell? ⟨g, j * 5, none⟩ = some (.int .i64 (qs[j]'hj).1.1.kind) ∧ w.cell? ⟨g, j * 5 + 1, none⟩ = some (.int .i64 (qs[j]'hj).1.1.num) ∧ w.cell? ⟨g, j * 5 + 2, none⟩ = some (.string (qs[j]'hj).1.1.text) ∧ w.cell? ⟨g, j * 5 + 3, none⟩ = some (qs[j]'hj).1.2 ∧ w.cell? ⟨g, j * 5 + 4, none⟩ = some (.int .i64 ((qs[j]'hj).2 : Int)) := by
  rcases h.2 with ⟨_, h0⟩ | ⟨g, cap, cur, hv, hbs, hg, hcap, _, hsz, htk⟩
  · omega
  · have hlt : g < w.heap.size := by
      by_cases hl : g < w.heap.size
      · exact hl
      · rw [Array.getElem?_eq_none (by omega)] at hg; cases hg
    have hc : ∀ k u, (qs.flatMap encS)[k]? = some u → w.cell? ⟨g, k, none⟩ = some u := fun k u hk => by
      rw [← htk] at hk
      unfold World.cell?
      rw [hg]
      rw [List.getElem?_take] at hk
      split at hk
      · simpa using hk
      · cases hk
    refine ⟨g, cap, hv, hbs, hlt, hcap, fun j hj => ?_⟩
    have h0 := flatS_get qs j 0 (by omega) hj
    have h1 := flatS_get qs j 1 (by omega) hj
    have h2 := flatS_get qs j 2 (by omega) hj
    have h3 := flatS_get qs j 3 (by omega) hj
    have h4 := flatS_get qs j 4 (by omega) hj
    exact ⟨hc _ _ h0, hc _ _ h1, hc _ _ h2, hc _ _ h3, hc _ _ h4⟩

/-- What stands between two rounds. -/
structure WkI (X : Nat → Prop) (V : World) (g D : Nat) (f : VT → VT) (t : VT) (ps : List PR) (j : Nat) (wr : World) : Prop where
  eq : ps.map (·.1) = wlkG f t.kind t.items j
  row : RowAt wr g 0 ps
  lie : ∀ p ∈ ps, LiesX (fun b => X b ∨ V.heap.size ≤ b) D wr p.1.items p.2 ∧ p.1.text.size ≤ 9223372036854775807
  fz : ∀ k, wr.frozen? ⟨g, k, none⟩ = false
  kc : KC (fun b => b = g) V wr

/-- A round. -/
theorem WkI.step {X : Nat → Prop} {V : World} {g D : Nat} {f : VT → VT} {t : VT} {ps : List PR} {j : Nat} {wr w6 : World} (h : WkI X V g D f t ps j wr) (hX : ∀ b, X b → b ≠ g) (hg : g < V.heap.size) (hb : Below wr.heap.size wr w6) (y z : VT) (u : Value) (hy : t.items[posN t.kind j]? = some y) (hz : z = f y) (hl : LiesX (fun b => X b ∨ V.heap.size ≤ b) D w6 z.items u) (hs : z.text.size ≤ 9223372036854775807) :
    WkI X V g D f t (ps.set (posN t.kind j) (z, u)) (j + 1) (w6.setCells g (posN t.kind j * 4) (encP (z, u))) := by
  have hpl : ps.length = t.items.length := by have := congrArg List.length h.eq; rwa [List.length_map, wlkG_len] at this
  have hk : posN t.kind j < ps.length := by
    rw [hpl]
    rcases Nat.lt_or_ge (posN t.kind j) t.items.length with h | h
    · exact h
    · rw [List.getElem?_eq_none h] at hy; cases hy
  have hgw : g < wr.heap.size := Nat.lt_of_lt_of_le hg h.kc.size
  have hY : ¬ (X g ∨ V.heap.size ≤ g) := by
    rintro (h | h)
    · exact hX g h rfl
    · omega
  refine ⟨?_, row_set26 (h.row.keeps hb) hk (z, u), fun p hp => ?_, fun k => ?_, ?_⟩
  · rw [List.map_set, h.eq]
    conv => rhs; unfold wlkG
    rw [hy, hz]
  · rcases List.mem_or_eq_of_mem_set hp with hp | hp
    · exact ⟨LiesX.set (g := g) hY ((h.lie p hp).1.keeps hb), (h.lie p hp).2⟩
    · subst hp
      exact ⟨LiesX.set (g := g) hY hl, hs⟩
  · rw [World.frozen?_setCells, hb.frozen (p := ⟨g, k, none⟩) hgw]; exact h.fz k
  · have h1 : KC (fun b => b = g) V w6 := h.kc.trans (KC.mono (fun _ _ h => h.elim) (KC.of_below (B := fun _ => False) hb))
    have h2 : ∀ (vs : List Value) (o : Nat) (W : World), KC (fun b => b = g) V W → KC (fun b => b = g) V (W.setCells g o vs) := by
      intro vs
      induction vs with
      | nil => intro o W hW; exact hW
      | cons v vs ih => intro o W hW; exact ih (o + 1) _ (hW.set (g := g) (o := o) (.inl rfl) v)
    exact h2 _ _ _ h1

set_option maxRecDepth 100000 in
set_option maxHeartbeats 8000000 in
theorem walk_leaf (q : Nat) (hq : q < 8) (D : Nat) (hD : 16 ≤ D) (X : Nat → Prop) (t : VT) (a : Option Addr) (c : Nat) (w : World) (h : LiesX X 16 w t.items (.slice a t.items.length c)) (hr : rightV 16 t = true) (hlf : leafT t = true) :
    Calls Tryz.prog 23 #[.agg #[.int .i64 t.kind, .int .i64 t.num, .string t.text, .slice a t.items.length c], .int .i64 (q : Int)] w (NewW X D (doneT q t) w) := by
  have HT : Hid (Bx (at2 w t (.slice a t.items.length c)) w.heap.size t (.slice a t.items.length c)) := at2_fst _ _ _
  have HR : Hid (Bx (at2 w t (.slice a t.items.length c)) (w.heap.size + 1) zeroT (.slice none 0 0)) := at2_snd _ _ _
  have hb0 := at2_below w t (.slice a t.items.length c)
  obtain ⟨W0, hW0⟩ : ∃ W0, W0 = at2 w t (.slice a t.items.length c) := ⟨_, rfl⟩
  have HW0 : Hid (W0 = at2 w t (.slice a t.items.length c)) := hW0
  rw [← hW0] at HT HR hb0
  clear hW0
  unfold at2 at HW0
  have HLf : Hid (∀ W, Calls Tryz.prog 47 #[.agg #[.int .i64 t.kind, .int .i64 t.num, .string t.text, .slice a t.items.length c]] W fun e w' => e = .returned (.bool true) ∧ Below W.heap.size W w') := fun W => by
    have := isLeaf_any t a c W
    rwa [hlf] at this
  have HOne : Hid (∀ W, Below w.heap.size w W → Calls Tryz.prog 12 #[.int .i64 (q : Int), .agg #[.int .i64 t.kind, .int .i64 t.num, .string t.text, .slice a t.items.length c]] W (VPost (doneT q t) 0 W)) := fun W hW => one_done q hq t _ W (Lies.keeps hW _ _ _ h.lies) hr
  generalize doneT q t = z at *
  have HE : Hid (∀ W a' c', Below w.heap.size w W → LiesX (fun b => w.heap.size + 2 ≤ b) 16 W z.items (.slice a' z.items.length c') → NewW X D z w (.returned (.agg #[.int .i64 z.kind, .int .i64 z.num, .string z.text, .slice a' z.items.length c'])) (W.setCells (w.heap.size + 1) 0 (encP (z, .slice a' z.items.length c')))) := fun W a' c' h1 h2 =>
    ⟨a', c', rfl, (LiesX.mono (fun b hb => .inr (by omega)) (LiesX.set (g := w.heap.size + 1) (by omega) h2)).atLeast D hD, below_put h1 (by omega) _⟩
  generalize NewW X D z w = PP at *
  clear h hr hlf hD
  generalize t.items.length = lt at *
  obtain ⟨t0, t1, t2, t3, _, _, _, _⟩ := HT.out
  go_enter Tryz.func23, Tryz.ntmps23
  go_upto_region 1 with fail
  rw [← HW0.out]
  clear HW0
  go_wp2_with fail
  refine Calls.mono (HLf.out _) ?_
  rintro e w1 ⟨rfl, hb1⟩
  have hb2 : Below w.heap.size w w1 := hb0.trans (hb1.mono hb0.size)
  have HR1 : Hid (Bx w1 (w.heap.size + 1) zeroT (.slice none 0 0)) := HR.out.keeps hb1
  replace t0 := cell_keeps hb1 t0; replace t1 := cell_keeps hb1 t1; replace t2 := cell_keeps hb1 t2; replace t3 := cell_keeps hb1 t3
  clear hb1 hb0 HT HR HLf
  go_wp2_with fail
  refine Calls.mono (HOne.out _ hb2) ?_
  rintro e w2 ⟨u2, rfl, hl2, hb3⟩
  obtain ⟨a2, c2, rfl, _⟩ := LiesX.slice hl2
  have hs1 : w.heap.size + 2 ≤ w1.heap.size := by have h9 := cell_lt HR1.out.c0; have h9 : w.heap.size + 1 < w1.heap.size := h9; omega
  obtain ⟨V, hV⟩ : ∃ V, V = w2.alloc (.cells #[.int .i64 z.kind, .int .i64 z.num, .string z.text, .slice a2 z.items.length c2] 24) := ⟨_, rfl⟩
  have HV : Hid (w2.alloc (.cells #[.int .i64 z.kind, .int .i64 z.num, .string z.text, .slice a2 z.items.length c2] 24) = V) := hV.symm
  have hal : Below w1.heap.size w1 V := by rw [hV]; exact hb3.alloc hb3.size _
  have hal2 : Below w2.heap.size w2 V := by rw [hV]; exact ((Grew.refl _).alloc _).below
  have HZ : Hid (Bx V w2.heap.size z (.slice a2 z.items.length c2)) := by rw [hV]; exact bx_alloc w2 z _
  have HR2 : Hid (Bx V (w.heap.size + 1) zeroT (.slice none 0 0)) := HR1.out.keeps hal
  have HE1 : Hid (PP (.returned (.agg #[.int .i64 z.kind, .int .i64 z.num, .string z.text, .slice a2 z.items.length c2])) (V.setCells (w.heap.size + 1) 0 (encP (z, .slice a2 z.items.length c2)))) := HE.out V a2 c2 (hb2.trans (hal.mono hb2.size)) ((hl2.keeps hal2).mono (fun b hb => by omega))
  have Hq : Hid (Bx (V.setCells (w.heap.size + 1) 0 (encP (z, .slice a2 z.items.length c2))) (w.heap.size + 1) z (.slice a2 z.items.length c2)) := HR2.out.put (z, .slice a2 z.items.length c2)
  clear hV hal hal2 hl2 hb3 HR1 HE HOne hb2 t0 t1 t2 t3 hs1
  generalize z.items.length = lz at *
  obtain ⟨N2, hN2⟩ : ∃ N, N = w2.heap.size := ⟨_, rfl⟩
  have HN2 : Hid (w2.heap.size = N2) := hN2.symm
  rw [← hN2] at HZ
  clear hN2
  go_upto_region 3 with fail
  rw [HV.out, HN2.out]
  clear HV HN2
  obtain ⟨x0, x1, x2, x3, _, _, _, _⟩ := HZ.out
  obtain ⟨z0, z1, z2, z3, g0, g1, g2, g3⟩ := HR2.out
  go_wp2_with fail
  refine bodyPost_ret (v := .agg #[.int .i64 z.kind, .int .i64 z.num, .string z.text, .slice a2 lz c2]) ?_ rfl HE1.out
  obtain ⟨q0, q1, q2, q3, _, _, _, _⟩ := Hq.out
  simp only [World.setCells, encP, Nat.zero_add, Nat.reduceAdd] at q0 q1 q2 q3
  simp [results, Tryz.results23, go_sem, q0, q1, q2, q3]

/-- The load of the row's item in walk's one region that stores into the row, by a name of its own (as put's ldRow). -/
def ldRowW : Oper :=
  { dst := some 38, op := Go.Op.load 24 (Go.Operand.tmp 37), type := 24, pos := "leaves.go:55", after := #[{ on := 8, ground := Go.Ground.data }], guard := none }

attribute [local go_sem] ldRowW

theorem ldRowW_eq : ldRowW = { dst := some 38, op := Go.Op.load 24 (Go.Operand.tmp 37), type := 24, pos := "leaves.go:55", after := #[{ on := 8, ground := Go.Ground.data }], guard := none } := rfl

set_option maxRecDepth 100000 in
set_option maxHeartbeats 8000000 in
theorem walk_more (q d : Nat) (hd16 : d + 1 ≤ 16) (ih : Hid (WkC q d)) (X : Nat → Prop) (t : VT) (a : Option Addr) (c : Nat) (w : World) (hX : ∀ b, X b → b < w.heap.size) (h : LiesX X 16 w t.items (.slice a t.items.length c)) (hr : rightV 16 t = true) (hd : Dp (d + 1) t) (hlf : leafT t = false) :
    Calls Tryz.prog 23 #[.agg #[.int .i64 t.kind, .int .i64 t.num, .string t.text, .slice a t.items.length c], .int .i64 (q : Int)] w (NewW X (16 + (d + 1)) ⟨t.kind, t.num, t.text, wlkG (walkT (doneT q) d) t.kind t.items (cntN t)⟩ w) := by
  have hdt : Dp 16 t := hd.mono hd16
  have hlen := right_len hr
  obtain ⟨hk, hne⟩ := leaf_or hlf
  have hpos : 0 < t.items.length := List.length_pos_iff.2 hne
  have hcnt : 0 < cntN t := by
    unfold cntN
    split
    · exact hpos
    · have := right_even t hdt hr (.inr (by omega)); omega
  have HT : Hid (Bx (at2 w t (.slice a t.items.length c)) w.heap.size t (.slice a t.items.length c)) := at2_fst _ _ _
  have HR : Hid (Bx (at2 w t (.slice a t.items.length c)) (w.heap.size + 1) zeroT (.slice none 0 0)) := at2_snd _ _ _
  have hb0 := at2_below w t (.slice a t.items.length c)
  obtain ⟨W0, hW0⟩ : ∃ W0, W0 = at2 w t (.slice a t.items.length c) := ⟨_, rfl⟩
  have HW0 : Hid (W0 = at2 w t (.slice a t.items.length c)) := hW0
  have hs0 : W0.heap.size = w.heap.size + 2 := by rw [hW0]; unfold at2; simp
  rw [← hW0] at HT HR hb0
  clear hW0
  unfold at2 at HW0
  have HLf : Hid (∀ W, Calls Tryz.prog 47 #[.agg #[.int .i64 t.kind, .int .i64 t.num, .string t.text, .slice a t.items.length c]] W fun e w' => e = .returned (.bool false) ∧ Below W.heap.size W w') := fun W => by
    have := isLeaf_any t a c W
    rwa [hlf] at this
  have HCl : Hid (∀ W, Below w.heap.size w W → Calls Tryz.prog 35 #[.slice a t.items.length c] W fun e w' => ∃ ps a' c', ps.map (·.1) = t.items ∧ e = .returned (.slice a' t.items.length c') ∧ OwnX X W.heap.size w' ps (.slice a' t.items.length c') ∧ Below W.heap.size W w') := fun W hW => clone_own X t a c W (h.keeps hW) hlen
  have HSt : Hid (∀ (W : World) (Y : Nat → Prop) a' c', LiesX Y 16 W t.items (.slice a' t.items.length c') → Calls Tryz.prog 48 #[.agg #[.int .i64 t.kind, .int .i64 t.num, .string t.text, .slice a' t.items.length c']] W (StepsP Y t W)) := fun W Y a' c' h1 => steps_any Y t a' c' W h1 hlen hk
  have HIt : Hid (∀ y ∈ t.items, rightV 16 y = true ∧ Dp d y) := fun y hy => ⟨(item_right hr hdt hy).1, hd y hy⟩
  have htx : t.text.size ≤ 9223372036854775807 := by have := right_size hr; omega
  have HXX : Hid (∀ b, X b → b < w.heap.size) := hX
  have HPos : Hid (0 < t.items.length ∧ 0 < cntN t ∧ t.items.length ≤ 1024 ∧ (t.kind = 4 ∨ t.kind = 6) ∧ (t.kind = 6 → t.items.length % 2 = 0)) := ⟨hpos, hcnt, hlen, hk, fun h6 => right_even t hdt hr (.inr h6)⟩
  have Hd16 : Hid (Dp 16 t) := hdt
  obtain ⟨f, hf⟩ : ∃ f, f = walkT (doneT q) d := ⟨_, rfl⟩
  have Hf : Hid (f = walkT (doneT q) d) := hf
  rw [← hf]
  obtain ⟨PP, hPP⟩ : ∃ PP, NewW X (16 + (d + 1)) ⟨t.kind, t.num, t.text, wlkG f t.kind t.items (cntN t)⟩ w = PP := ⟨_, rfl⟩
  rw [hPP]
  have HPP : Hid (NewW X (16 + (d + 1)) ⟨t.kind, t.num, t.text, wlkG f t.kind t.items (cntN t)⟩ w = PP) := hPP
  obtain ⟨L, hL⟩ : ∃ L, L = t.items.length := ⟨_, rfl⟩
  have HL : Hid (L = t.items.length) := hL
  have hLb : L ≤ 1024 := by omega
  have hL0 : 0 < L := by omega
  rw [← hL] at HT HLf HCl HSt HW0 ⊢
  clear hPP hf h hr hd hdt hlf hk hne hpos hcnt hX hL hlen
  obtain ⟨t0, t1, t2, t3, f0, f1, f2, f3⟩ := HT.out
  go_enter Tryz.func23, Tryz.ntmps23
  go_upto_region 1 with fail
  rw [← HW0.out]
  clear HW0
  go_wp2_with fail
  refine Calls.mono (HLf.out _) ?_
  rintro e w1 ⟨rfl, hb1⟩
  have hb2 : Below w.heap.size w w1 := hb0.trans (hb1.mono hb0.size)
  have hsz1 : w.heap.size + 2 ≤ w1.heap.size := by have := hb1.size; omega
  have HR1 : Hid (Bx w1 (w.heap.size + 1) zeroT (.slice none 0 0)) := HR.out.keeps hb1
  have HT1 : Hid (Bx w1 w.heap.size t (.slice a L c)) := HT.out.keeps hb1
  replace t0 := cell_keeps hb1 t0; replace t1 := cell_keeps hb1 t1; replace t2 := cell_keeps hb1 t2; replace t3 := cell_keeps hb1 t3
  clear hb1 hb0 HT HR HLf hs0 f0 f1 f2 f3
  go_wp2_with fail
  refine Calls.mono (HCl.out _ hb2) ?_
  rintro e w2 ⟨ps, a1, c1, hps, rfl, hO1, hb1⟩
  have hpl : ps.length = t.items.length := by rw [← hps, List.length_map]
  have hpl2 : ps.length = L := by have := HL.out; omega
  obtain ⟨g, cap, hv, hgb, hcap, hlt, hrw, hfz⟩ := own_row (ps := ps) (by have := hO1.own; rw [← hpl2] at this; exact this) (fun e => by rw [e] at hpl2; simp at hpl2; omega)
  injection hv with e1 e2 e3
  clear e2
  subst e1
  subst e3
  obtain ⟨w3, hw3⟩ : ∃ w3, w3 = w2.setCell ⟨w.heap.size, 3, none⟩ (.slice (some ⟨g, 0, none⟩) L c1) := ⟨_, rfl⟩
  have Hw3 : Hid (w3 = w2.setCell ⟨w.heap.size, 3, none⟩ (.slice (some ⟨g, 0, none⟩) L c1)) := hw3
  have HT2 : Hid (Bx w2 w.heap.size t (.slice a L c)) := HT1.out.keeps hb1
  have T3 : Hid (Bx w3 w.heap.size t (.slice (some ⟨g, 0, none⟩) L c1)) := by rw [hw3]; exact HT2.out.items _
  have R3 : Hid (Bx w3 (w.heap.size + 1) zeroT (.slice none 0 0)) := by rw [hw3]; exact (HR1.out.keeps hb1).other1 (by omega) 3 _
  have hb3 : Below w.heap.size w w3 := by rw [hw3]; exact below_setM (hb2.trans (hb1.mono hb2.size)) (Nat.le_refl _) _ _
  have hO3 : OwnX X w1.heap.size w3 ps (.slice (some ⟨g, 0, none⟩) L c1) := by
    rw [hw3]
    exact hO1.setL (fun hx => by have := HXX.out _ hx; omega) (fun e => by
      simp only [Value.ownBlock, Option.some.injEq] at e; omega) _ _
  have hz3 : w3.heap.size = w2.heap.size := by rw [hw3]; simp [World.setCell]
  have hg3 : g < w3.heap.size := by omega
  have hgw : w.heap.size + 2 ≤ g := by omega
  have hXg : ∀ b, X b → b ≠ g := fun b hb e => by have := HXX.out b hb; omega
  have hrow3 : RowAt w3 g 0 ps := by
    have := own_row (ps := ps) (by have := hO3.own; rw [← hpl2] at this; exact this) (fun e => by rw [e] at hpl2; simp at hpl2; omega)
    obtain ⟨g', cap', hv', _, _, _, hr', _⟩ := this
    injection hv' with e1 _ _
    injection e1 with e1
    injection e1 with e1
    subst e1
    exact hr'
  have hfz3 : ∀ k, w3.frozen? ⟨g, k, none⟩ = false := fun k => by rw [hw3, World.frozen?_setCell]; exact hfz k
  have hL3 : LiesX (fun b => X b ∨ b = g) 16 w3 t.items (.slice (some ⟨g, 0, none⟩) t.items.length c1) := by
    have h9 := liesX_row (X := fun b => X b ∨ b = g) (d := 16) (c := c1) hrow3 (.inr rfl) (fun p hp => ⟨(hO3.lie p hp).1.mono (fun _ h => .inl h), (hO3.lie p hp).2⟩) (by omega) hcap
    rw [hps, hpl] at h9
    exact LiesX.to (t := t) h9 Hd16.out
  rw [← HL.out] at hL3
  have HSt3 : Hid (Calls Tryz.prog 48 #[.agg #[.int .i64 t.kind, .int .i64 t.num, .string t.text, .slice (some ⟨g, 0, none⟩) L c1]] w3 (StepsP (fun b => X b ∨ b = g) t w3)) := HSt.out w3 _ _ _ hL3
  have hc1 : L ≤ c1 := by omega
  clear HSt hL3 HT1 HR1 HCl hO1 hrw hfz hcap hw3 hb1
  obtain ⟨x0, x1, x2, x3, y0, y1, y2, y3⟩ := HT2.out
  clear t0 t1 t2 t3
  go_upto_region 5 with fail
  rw [← Hw3.out]
  clear Hw3 x0 x1 x2 x3 y0 y1 y2 y3 HT2
  obtain ⟨t0, t1, t2, t3, _, _, _, _⟩ := T3.out
  go_wp2_with fail
  refine Calls.mono HSt3.out ?_
  rintro e V ⟨v, qs, rfl, Hown, Hok, hbV⟩
  have hqn : qs.length = cntN t := Hok.out.1
  obtain ⟨n, hn⟩ : ∃ n, n = qs.length := ⟨_, rfl⟩
  have hn0 : 0 < n := by have := HPos.out.2.1; omega
  have hown := Hown.out
  rw [← hn] at hown
  obtain ⟨g2, cap2, rfl, hg2b, hg2l, hcap2, hsc⟩ := own_steps hown hn hn0
  have hb4 : Below w.heap.size w V := hb3.trans (hbV.mono hb3.size)
  have hgV : g < V.heap.size := Nat.lt_of_lt_of_le hg3 hbV.size
  have hg2g : g2 ≠ g := by omega
  have TV : Hid (Bx V w.heap.size t (.slice (some ⟨g, 0, none⟩) L c1)) := T3.out.keeps hbV
  have RV : Hid (Bx V (w.heap.size + 1) zeroT (.slice none 0 0)) := R3.out.keeps hbV
  have HSc : Hid (∀ j (hj : j < qs.length), V.cell? ⟨g2, j * 5, none⟩ = some (.int .i64 (qs[j]'hj).1.1.kind) ∧ V.cell? ⟨g2, j * 5 + 1, none⟩ = some (.int .i64 (qs[j]'hj).1.1.num) ∧ V.cell? ⟨g2, j * 5 + 2, none⟩ = some (.string (qs[j]'hj).1.1.text) ∧ V.cell? ⟨g2, j * 5 + 3, none⟩ = some (qs[j]'hj).1.2 ∧ V.cell? ⟨g2, j * 5 + 4, none⟩ = some (.int .i64 ((qs[j]'hj).2 : Int))) := hsc
  have H0 : Hid (WkI X V g (16 + d) f t ps 0 V) := ⟨hps, hrow3.keeps hbV, fun p hp => ⟨(((hO3.lie p hp).1.keeps hbV).mono (fun _ h => .inl h)).atLeast _ (by omega), (hO3.lie p hp).2⟩, fun k => by rw [hbV.frozen (p := ⟨g, k, none⟩) hg3]; exact hfz3 k, KC.refl _ _⟩
  have Hqn : Hid (n = qs.length ∧ n = cntN t) := ⟨hn, by omega⟩
  have Hb4 : Hid (Below w.heap.size w V) := hb4
  have HsV : Hid (w.heap.size + 2 ≤ V.heap.size ∧ w.heap.size + 2 ≤ g ∧ g < V.heap.size ∧ ∀ b, X b → b ≠ g) := ⟨by omega, hgw, hgV, hXg⟩
  have hnb : n ≤ 1024 := by
    have h1 := HPos.out.2.2.1
    have h2 := Hqn.out.2
    unfold cntN at h2
    split at h2 <;> omega
  clear hsc hown Hown hg2b hg2l hn hqn hbV hb4 hps hrow3 hfz3 hO3 hpl hpl2 hz3 hg3 T3 R3 HSt3 hb2 hb3 hsz1 hgb hlt hcap2 hXg t0 t1 t2 t3
  go_wp2_with fail
  go_loopg [25] n (fun gk i wr => ∃ (j : Nat) (ps : List PR), i = .int .i64 (j : Int) ∧ j ≤ n ∧ gk = n - j ∧ Hid (WkI X V g (16 + d) f t ps j wr))
  case atStart => exact ⟨0, ps, rfl, by omega, by omega, H0⟩
  case round =>
    obtain ⟨j, ps, rfl, hj, hgk, HI⟩ := hrel
    have Hgk : Hid _ := hgk
    clear hgk H0
    have hkc : KC (fun b => b = g) V wr := HI.out.kc
    have Tr : Hid (Bx wr w.heap.size t (.slice (some ⟨g, 0, none⟩) L c1)) := hkc.bx (by have := HsV.out.2.1; omega) TV.out
    have Rr : Hid (Bx wr (w.heap.size + 1) zeroT (.slice none 0 0)) := hkc.bx (by have := HsV.out.2.1; omega) RV.out
    have hpl : ps.length = L := by have := congrArg List.length HI.out.eq; rw [List.length_map, wlkG_len] at this; have := HL.out; omega
    by_cases hjn : j < n
    · have hji : (j : Int) < (n : Int) := by omega
      have hjq : j < qs.length := by have := Hqn.out.1; omega
      obtain ⟨p0, p1, p2, p3, p4⟩ := HSc.out j hjq
      obtain ⟨hto, _, _, hls, _⟩ := Hok.out.2 j hjq
      generalize qs[j] = sq at *
      obtain ⟨⟨sy, su⟩, tk⟩ := sq
      simp only at hto hls p0 p1 p2 p3 p4
      obtain ⟨sa, sc, rfl, _⟩ := LiesX.slice hls
      replace p0 := hkc.cell (a := ⟨g2, j * 5, none⟩) hg2g p0; replace p1 := hkc.cell (a := ⟨g2, j * 5 + 1, none⟩) hg2g p1; replace p2 := hkc.cell (a := ⟨g2, j * 5 + 2, none⟩) hg2g p2; replace p3 := hkc.cell (a := ⟨g2, j * 5 + 3, none⟩) hg2g p3; replace p4 := hkc.cell (a := ⟨g2, j * 5 + 4, none⟩) hg2g p4
      have htoL : tk < L := by
        have h1 := HPos.out
        have h2 := Hqn.out.2
        have h3 := HL.out
        unfold cntN at h2
        unfold posN at hto
        rcases h1.2.2.2.1 with h4 | h6
        · rw [if_pos h4] at h2 hto; omega
        · have h7 := h1.2.2.2.2 h6
          rw [if_neg (by omega)] at h2 hto; omega
      have htoT : tk < t.items.length := by have := HL.out; omega
      have hget : t.items[posN t.kind j]? = some t.items[tk] := by rw [← hto]; exact List.getElem?_eq_getElem htoT
      have hyp : (ps[tk]'(by omega)).1 = t.items[tk] := by
        have h1 : (ps.map (·.1))[tk]? = t.items[tk]? := by
          rw [HI.out.eq, hto]
          exact wlkG_ge f t.kind t.items j _ (fun i hi => by have := posN_lt t.kind hi; omega)
        rw [List.getElem?_map, List.getElem?_eq_getElem (by omega), List.getElem?_eq_getElem htoT] at h1
        simpa using h1
      obtain ⟨r0, r1, r2, r3⟩ := HI.out.row tk (by omega)
      have hlyp := HI.out.lie _ (List.getElem_mem (l := ps) (n := tk) (by omega))
      obtain ⟨hyr, hyd⟩ := HIt.out _ (List.getElem_mem htoT)
      rw [hyp] at r0 r1 r2 hlyp
      generalize (ps[tk]'(by omega)).2 = uy at *
      obtain ⟨ay, cy, rfl, hayl⟩ := LiesX.slice hlyp.1
      clear hayl
      simp only [Nat.zero_add] at r0 r1 r2 r3
      obtain ⟨y, hy⟩ : ∃ y, y = t.items[tk] := ⟨_, rfl⟩
      rw [← hy] at r0 r1 r2 r3 hlyp hyr hyd hget
      have hfr : ∀ k, wr.frozen? ⟨g, k, none⟩ = false := HI.out.fz
      have hly : LiesX (fun b => X b ∨ V.heap.size ≤ b) 16 wr y.items (.slice ay y.items.length cy) := LiesX.to (t := y) hlyp.1 (hyd.mono (by omega))
      have hgw2 : g < wr.heap.size := by have := hkc.size; have := HsV.out.2.2.1; omega
      have hsW : w.heap.size + 2 ≤ wr.heap.size := by have := hkc.size; have := HsV.out.1; omega
      have hVw : V.heap.size ≤ wr.heap.size := hkc.size
      have HCall : Hid (∀ W, Below wr.heap.size wr W → Calls Tryz.prog 23 #[.agg #[.int .i64 y.kind, .int .i64 y.num, .string y.text, .slice ay y.items.length cy], .int .i64 (q : Int)] W fun e w' => ∃ k9 n9 tx9 a9 l9 c9, e = .returned (.agg #[.int .i64 k9, .int .i64 n9, .string tx9, .slice a9 l9 c9]) ∧ Hid (WkI X V g (16 + d) f t (ps.set tk (f y, .slice a9 l9 c9)) (j + 1) (w'.setCells g (tk * 4) [.int .i64 k9, .int .i64 n9, .string tx9, .slice a9 l9 c9])) ∧ Below W.heap.size W w') := fun W hW => by
        have h1 := (hly.keeps hW).both
        refine (ih.out (fun b => (X b ∨ V.heap.size ≤ b) ∧ b < W.heap.size) y ay cy W (fun b hb => hb.2) h1 hyr hyd).mono ?_
        rintro e w' ⟨a9, c9, rfl, hz1, hz2⟩
        rw [← Hf.out] at hz1 ⊢
        refine ⟨_, _, _, _, _, _, rfl, ?_, hz2⟩
        have hWw : Below wr.heap.size wr w' := hW.trans (hz2.mono hW.size)
        have h3 := HI.out.step (w6 := w') HsV.out.2.2.2 HsV.out.2.2.1 hWw y (f y) (.slice a9 (f y).items.length c9) hget rfl (hz1.mono (fun b hb => by
          rcases hb with hb | hb
          · exact hb.1
          · exact .inr (by have := hW.size; omega))) (by rw [Hf.out]; exact walk_text q d (by omega) y hyr hyd)
        rw [← hto] at h3
        exact h3
      have Hto : Hid (tk < L) := htoL
      have htoi : (tk : Int) < (L : Int) := by omega
      clear hto hls hyp hget hyr hyd hlyp hly hy htoT htoL HI hpl
      obtain ⟨Vr, hVr⟩ : ∃ Vr, Vr = wr.alloc (.cells #[.int .i64 sy.kind, .int .i64 sy.num, .string sy.text, .slice sa sy.items.length sc, .int .i64 (tk : Int)] 68) := ⟨_, rfl⟩
      have HVr : Hid (wr.alloc (.cells #[.int .i64 sy.kind, .int .i64 sy.num, .string sy.text, .slice sa sy.items.length sc, .int .i64 (tk : Int)] 68) = Vr) := hVr.symm
      have hbr : Below wr.heap.size wr Vr := by rw [hVr]; exact ((Grew.refl wr).alloc _).below
      have s4 : Vr.cell? ⟨wr.heap.size, 4, none⟩ = some (.int .i64 (tk : Int)) := by rw [hVr]; simp
      obtain ⟨t0, t1, t2, t3, _, _, _, _⟩ := Tr.out
      replace t3 := cell_keeps hbr t3
      replace r0 := cell_keeps hbr r0; replace r1 := cell_keeps hbr r1; replace r2 := cell_keeps hbr r2; replace r3 := cell_keeps hbr r3
      have q0 : Vr.frozen? ⟨g, tk * 4, none⟩ = false := (hbr.frozen (p := ⟨g, tk * 4, none⟩) hgw2).trans (hfr _)
      have q1 : Vr.frozen? ⟨g, tk * 4 + 1, none⟩ = false := (hbr.frozen (p := ⟨g, tk * 4 + 1, none⟩) hgw2).trans (hfr _)
      have q2 : Vr.frozen? ⟨g, tk * 4 + 2, none⟩ = false := (hbr.frozen (p := ⟨g, tk * 4 + 2, none⟩) hgw2).trans (hfr _)
      have q3 : Vr.frozen? ⟨g, tk * 4 + 3, none⟩ = false := (hbr.frozen (p := ⟨g, tk * 4 + 3, none⟩) hgw2).trans (hfr _)
      have hgVr : g < Vr.heap.size := by have := hbr.size; omega
      obtain ⟨N8, hN8⟩ : ∃ N, N = wr.heap.size := ⟨_, rfl⟩
      have HN8 : Hid (wr.heap.size = N8) := hN8.symm
      rw [← hN8] at s4
      have hng0 : w.heap.size ≠ g := by have := HsV.out.2.1; omega
      have hng1 : N8 ≠ g := by omega
      clear hVr hN8 hfr hkc hgw2 hsW hVw Tr Rr t0 t1 t2 hgV
      generalize sy.items.length = ls at *
      generalize y.items.length = ly at *
      go_wp2_with fail
      go_upto_region 8 with fail
      rw [HVr.out, HN8.out]
      clear HVr p0 p1 p2 p3 p4
      have Hj1 : Hid (j + 1 ≤ n) := hjn
      clear HL HPos HIt Hd16 Hok HSc hLb hL0 hc1 hjq hji hj hn0 htx hd16 hgw
      rw [← ldRowW_eq]
      go_region_held3 (fun w' => w'.cell? ⟨w.heap.size, 3, none⟩ = some (.slice (some ⟨g, 0, none⟩) L c1) ∧ w'.cell? ⟨N8, 4, none⟩ = some (.int .i64 (tk : Int))) (first | (go_keep; done) | (with_reducible exact ⟨set4_o26 hng0 t3, set4_o26 hng1 s4⟩))
        (first
          | (go_at_call 23; (with_reducible refine Calls.mono (HCall.out _ ?_) ?_); (first | exact hbr | exact hbr.drew); rintro e w6 ⟨k6, n6, tx6, a6, l6, c6, rfl, HI6, hb6⟩; have hg6 : Below Vr.heap.size Vr w6 := (by first | exact hb6 | exact (Below.refl _ _).drew.trans hb6); have t3 := cell_keeps hg6 t3; have s4 := cell_keeps hg6 s4; have r0 := cell_keeps hg6 r0; have r1 := cell_keeps hg6 r1; have r2 := cell_keeps hg6 r2; have r3 := cell_keeps hg6 r3; have q0 := (hg6.frozen (p := ⟨g, tk * 4, none⟩) hgVr).trans q0; have q1 := (hg6.frozen (p := ⟨g, tk * 4 + 1, none⟩) hgVr).trans q1; have q2 := (hg6.frozen (p := ⟨g, tk * 4 + 2, none⟩) hgVr).trans q2; have q3 := (hg6.frozen (p := ⟨g, tk * 4 + 3, none⟩) hgVr).trans q3; clear hb6 hg6))
      all_goals clear HCall r0 r1 r2 r3 q0 q1 q2 q3 t3 s4
      all_goals go_wp2_with fail
      all_goals go_roundg (n - (j + 1))
      all_goals first | (have := Hgk.out; have := Hj1.out; omega) | exact ⟨j + 1, _, by go_num, Hj1.out, rfl, HI6⟩
    · have hjz : j = n := by omega
      have hji : ¬ (j : Int) < (n : Int) := by omega
      have hbw : Below w.heap.size w wr := hkc.below (N0 := w.heap.size) (fun i hi e => by have := HsV.out.2.1; omega) (by have := HsV.out.1; omega) |> fun h => Hb4.out.trans h
      have HE1 : Hid (PP (.returned (.agg #[.int .i64 t.kind, .int .i64 t.num, .string t.text, .slice (some ⟨g, 0, none⟩) L c1])) (wr.setCells (w.heap.size + 1) 0 (encP (t, .slice (some ⟨g, 0, none⟩) L c1)))) := by
        show PP _ _
        rw [← HPP.out]
        have heq := HI.out.eq
        rw [hjz, Hqn.out.2] at heq
        have h1 := liesX_row (X := fun b => (X b ∨ V.heap.size ≤ b) ∨ b = g) (d := 16 + d) (c := c1) HI.out.row (.inr rfl) (fun p hp => ⟨(HI.out.lie p hp).1.mono (fun _ h => .inl h), (HI.out.lie p hp).2⟩) (by omega) (by omega)
        rw [heq, hpl] at h1
        have hwl : (wlkG f t.kind t.items (cntN t)).length = L := by rw [wlkG_len]; exact HL.out.symm
        refine ⟨some ⟨g, 0, none⟩, c1, by rw [hwl], ?_, below_put hbw (by omega) _⟩
        rw [hwl]
        refine LiesX.mono (fun b hb => ?_) (LiesX.set (g := w.heap.size + 1) (fun hb => ?_) h1)
        · have h5 := HsV.out.1
          have h6 := HsV.out.2.1
          rcases hb with (hb | hb) | hb
          · exact .inl hb
          · exact .inr (by omega)
          · exact .inr (by omega)
        · have h5 := HsV.out.1
          have h6 := HsV.out.2.1
          rcases hb with (hb | hb) | hb
          · have := HXX.out _ hb; omega
          · omega
          · omega
      have Hq : Hid (Bx (wr.setCells (w.heap.size + 1) 0 (encP (t, .slice (some ⟨g, 0, none⟩) L c1))) (w.heap.size + 1) t (.slice (some ⟨g, 0, none⟩) L c1)) := Rr.out.put (t, .slice (some ⟨g, 0, none⟩) L c1)
      have Hjz : Hid (j = n) := hjz
      obtain ⟨t0, t1, t2, t3, _, _, _, _⟩ := Tr.out
      obtain ⟨z0, z1, z2, z3, y0, y1, y2, y3⟩ := Rr.out
      clear hjz hkc HI hpl hbw Tr Rr
      go_wp2_with fail
      refine bodyPost_ret (v := .agg #[.int .i64 t.kind, .int .i64 t.num, .string t.text, .slice (some ⟨g, 0, none⟩) L c1]) ?_ rfl HE1.out
      obtain ⟨q0, q1, q2, q3, _, _, _, _⟩ := Hq.out
      simp only [World.setCells, encP, Nat.zero_add, Nat.reduceAdd] at q0 q1 q2 q3
      simp [results, Tryz.results23, go_sem, q0, q1, q2, q3]

/-- walk, whatever the value. -/
theorem walk_any (q : Nat) (hq : q < 8) : ∀ d, d ≤ 16 → WkC q d := by
  intro d
  induction d with
  | zero =>
    intro _ X t a c w hX h hr hd
    exact walk_leaf q hq _ (by omega) X t a c w h hr (by
      have h0 : t.items = [] := hd
      unfold leafT; rw [h0]; simp)
  | succ d ih =>
    intro hd16 X t a c w hX h hr hd
    unfold walkT
    by_cases hl : leafT t = true
    · rw [if_pos hl]; exact walk_leaf q hq _ (by omega) X t a c w h hr hl
    · rw [if_neg hl]; exact walk_more q d hd16 (ih (by omega)) X t a c w hX h hr hd (by simpa using hl)

end Go.Proofs.YtofceccicmlmoaaGreat

namespace Go.Proofs.YtofceccicmlmoaaGreat
open Go.RowKit Go.Shelf

theorem stepC_one {W : World} {ops : Array Oper} {o : Oper} {act : Act} {K : Act → World → Prop} {Q : Exit → Act → World → Prop} {E : Prop} (hgd : o.guard = none) (s x : Operand)
    (ho : o.op = .call { callee := .builtin .append, args := #[s, x], argTypes := #[22, 22] })
    {base n : Nat} {v : Value} {xs : List Value} (hs : act.eval s = v) (hown : W.ownsRow base 24 4 v n xs) {ad : Addr} {c : Nat} (hx : act.eval x = .slice (some ad) 1 c)
    (news : List Value) (hl : news.length = 4) (hnews : ∀ j u, news[j]? = some u → W.cell? (ad.add j) = some u) (h1 : ∀ u ∈ news, u.oneCell' = true) (hm : n ≤ 100000) (hbase : base ≤ W.heap.size)
    (h : ∀ g' cap W', W'.ownsRow base 24 4 (.slice (some ⟨g', 0, none⟩) (n + 1) cap) (n + 1) (xs ++ news) → W.grownBy W' v.ownBlock → (v.ownBlock = some g' ∨ g' = W.heap.size) → g' < W'.heap.size → K (act.put o.dst (.slice (some ⟨g', 0, none⟩) (n + 1) cap)) W') :
    if Region.wanted o (yielded ops act.tmps) = true then Oper.wp Tryz.prog o act W K Q else E := by
  have hw : Region.wanted o (yielded ops act.tmps) = true := by simp [Region.wanted, hgd]
  rw [if_pos hw]
  obtain ⟨i0, hi, hz0, hz1, hz2⟩ := info24
  obtain ⟨g', cap, w', hr, r1, r2, r3, r4⟩ := run_append_lies (P := Tryz.prog) W 22 o.type base 24 i0 _ 4 56 Tryz.underlying22 hi hz0 hz1 hz2 rfl (by decide) _ n xs hown ad 1 c news (by omega) hnews h1 (by omega) (by unfold maxLen; omega) (by omega) hbase _ rfl
  unfold Oper.wp execOp
  simp only [ho, resolve, invoke, builtin, Sem.run_bind, Sem.run_pure, Result.andThen_ok, List.map_toArray, List.map_cons, List.map_nil, hs, hx, hr]
  exact h _ _ _ r1 r2 r3 r4

/-- What stands between two rounds of walked. -/
structure RkI (X : Nat → Prop) (V : World) (n3 D : Nat) (f : VT → VT) (t : VT) (ps : List PR) (v : Value) (j : Nat) (wr : World) : Prop where
  eq : ps.map (·.1) = (t.items.mapIdx (wlkI f t.kind)).take j
  own : wr.ownsRow V.heap.size 24 4 v j (ps.flatMap encP)
  lie : ∀ p ∈ ps, LiesX (fun b => (X b ∨ V.heap.size ≤ b) ∧ v.ownBlock ≠ some b) D wr p.1.items p.2 ∧ p.1.text.size ≤ 9223372036854775807
  kc : KC (fun b => b = n3) V wr
  box : Bx wr n3 ⟨t.kind, 0, ⟨#[]⟩, []⟩ v

theorem RkI.step {X : Nat → Prop} {V : World} {n3 D : Nat} {f : VT → VT} {t : VT} {ps : List PR} {v : Value} {j : Nat} {wr W6 w7 : World} (h : RkI X V n3 D f t ps v j wr) (hX : ∀ b, X b → b < V.heap.size ∧ b ≠ n3) (hn3 : n3 < V.heap.size) (hb : Below wr.heap.size wr W6) (hj : j < t.items.length) (z : VT) (u : Value) (hz : z = wlkI f t.kind j t.items[j]) (hl : LiesX (fun b => X b ∨ wr.heap.size ≤ b) D W6 z.items u) (hs : z.text.size ≤ 9223372036854775807) {g' cap : Nat}
    (hown : w7.ownsRow V.heap.size 24 4 (.slice (some ⟨g', 0, none⟩) (j + 1) cap) (j + 1) (ps.flatMap encP ++ encP (z, u))) (hgr : W6.grownBy w7 v.ownBlock) (hg : v.ownBlock = some g' ∨ g' = W6.heap.size) :
    RkI X V n3 D f t (ps ++ [(z, u)]) (.slice (some ⟨g', 0, none⟩) (j + 1) cap) (j + 1) (w7.setCell ⟨n3, 3, none⟩ (.slice (some ⟨g', 0, none⟩) (j + 1) cap)) := by
  have hvl : ∀ k, v.ownBlock = some k → V.heap.size ≤ k ∧ k < wr.heap.size := fun k hk => by
    obtain ⟨_, _, _, _, k9⟩ := own_slice26 h.own
    exact k9 k hk
  have hVw : V.heap.size ≤ wr.heap.size := h.kc.size
  have hgV : V.heap.size ≤ g' := by
    rcases hg with hg | hg
    · exact (hvl _ hg).1
    · have := hb.size; omega
  have hgn : g' ≠ n3 := by omega
  have hob : (Value.slice (some ⟨g', 0, none⟩) (j + 1) cap).ownBlock = some g' := rfl
  have hst : ∀ {l : List VT} {u : Value} {d : Nat} {Y : Nat → Prop}, (∀ b, Y b → v.ownBlock ≠ some b ∧ b ≠ n3) → LiesX Y d W6 l u → LiesX Y d (w7.setCell ⟨n3, 3, none⟩ (.slice (some ⟨g', 0, none⟩) (j + 1) cap)) l u := fun hY hL => by
    have h1 := LiesX.stays (fun _ h => h) (fun ad u ha hu => grown_cell26 hgr hu (fun e => (hY _ ha).1 e.symm)) hL
    exact LiesX.set (g := n3) (o := 3) (vs := [.slice (some ⟨g', 0, none⟩) (j + 1) cap]) (fun hy => (hY _ hy).2 rfl) h1
  refine ⟨?_, ?_, fun p hp => ?_, ?_, ?_⟩
  · rw [List.map_append, h.eq, List.map_cons, List.map_nil, hz]
    have hjl : j < (t.items.mapIdx (wlkI f t.kind)).length := by rw [List.length_mapIdx]; exact hj
    rw [List.take_succ_eq_append_getElem hjl, List.getElem_mapIdx]
  · rw [List.flatMap_append, List.flatMap_cons, List.flatMap_nil, List.append_nil]
    refine ⟨hown.1, ?_⟩
    rcases hown.2 with hh | ⟨gg, cc, cur, e1, e2, e3, e4⟩
    · exact .inl hh
    · refine .inr ⟨gg, cc, cur, e1, e2, ?_, e4⟩
      have : gg = g' := by injection e1 with e1; injection e1 with e1; injection e1 with e1; exact e1.symm
      subst this
      simp only [World.setCell, Array.getElem?_modify]
      rw [if_neg (fun e => hgn e.symm)]
      exact e3
  · rcases List.mem_append.1 hp with hp | hp
    · refine ⟨?_, (h.lie p hp).2⟩
      have h1 := ((h.lie p hp).1.both.keeps hb)
      have hB : ∀ b, (((X b ∨ V.heap.size ≤ b) ∧ v.ownBlock ≠ some b) ∧ b < wr.heap.size) → v.ownBlock ≠ some b ∧ b ≠ n3 := fun b hb' => ⟨hb'.1.2, fun e => by
        rcases hb'.1.1 with hx | hx
        · exact (hX _ hx).2 e
        · omega⟩
      have hA : ∀ b, (((X b ∨ V.heap.size ≤ b) ∧ v.ownBlock ≠ some b) ∧ b < wr.heap.size) → (X b ∨ V.heap.size ≤ b) ∧ (Value.slice (some ⟨g', 0, none⟩) (j + 1) cap).ownBlock ≠ some b := fun b hb' => ⟨hb'.1.1, fun e => by
        rw [hob] at e
        injection e with e
        rcases hg with hg | hg
        · exact hb'.1.2 (by rw [hg, e])
        · have := hb.size; have := hb'.2; omega⟩
      exact LiesX.mono hA (hst hB h1)
    · have hp : p = (z, u) := by simpa using hp
      subst hp
      refine ⟨?_, hs⟩
      have h1 := hl.both
      have hB : ∀ b, ((X b ∨ wr.heap.size ≤ b) ∧ b < W6.heap.size) → v.ownBlock ≠ some b ∧ b ≠ n3 := fun b hb' => ⟨fun e => by
        have := hvl _ e
        rcases hb'.1 with hx | hx
        · have := (hX _ hx).1; omega
        · omega, fun e => by
        rcases hb'.1 with hx | hx
        · exact (hX _ hx).2 e
        · omega⟩
      have hA : ∀ b, ((X b ∨ wr.heap.size ≤ b) ∧ b < W6.heap.size) → (X b ∨ V.heap.size ≤ b) ∧ (Value.slice (some ⟨g', 0, none⟩) (j + 1) cap).ownBlock ≠ some b := fun b hb' => ⟨hb'.1.imp id (fun h => Nat.le_trans hVw h), fun e => by
        rw [hob] at e
        injection e with e
        rcases hg with hg | hg
        · have := hvl _ hg
          rcases hb'.1 with hx | hx
          · have := (hX _ hx).1; omega
          · omega
        · have := hb'.2; omega⟩
      exact LiesX.mono hA (hst hB h1)
  · have h1 : KC (fun b => b = n3) V W6 := h.kc.trans (KC.mono (fun _ _ h => h.elim) (KC.of_below (B := fun _ => False) hb))
    have h9 : KC (fun b => b = n3) V w7 := ⟨hgr.os.trans h1.os, hgr.tape.trans h1.tape, hgr.output.trans h1.output, Nat.le_trans h1.size hgr.size, fun b hb1 hb2 => by
      rw [hgr.block b (Nat.lt_of_lt_of_le hb1 h1.size) (fun e => by
        have := hvl _ e.symm
        omega)]
      exact h1.block b hb1 hb2⟩
    exact KC.set (g := n3) (o := 3) h9 (.inl rfl) _
  · have h2 := h.box.keeps hb
    have h3 : Bx w7 n3 ⟨t.kind, 0, ⟨#[]⟩, []⟩ v := grown_bx26 hgr (fun e => by have := hvl _ e.symm; omega) h2
    exact h3.items _

end Go.Proofs.YtofceccicmlmoaaGreat

