/-
  opened, of a map.
-/
import Derived.Test.YtmbolemcpobbgaaAtN
import Derived.Test.YtmbolemcpobbgaaInsN
import Derived.Test.YtmbolemcpobbgaaAppB
namespace Go.Proofs.Ytmbolemcpobbgaa
open Go.RowKit Go.Shelf

theorem own_keeps26 {w w' : World} {M ty sz n : Nat} {v : Value} {xs : List Value} (h : w.ownsRow M ty sz v n xs) (hb : Below w.heap.size w w') : w'.ownsRow M ty sz v n xs := by
  refine ⟨h.1, h.2.imp (fun h => h) ?_⟩
  rintro ⟨g, cap, cur, h1, h2, h3, h4⟩
  have hl : g < w.heap.size := by
    by_cases hl : g < w.heap.size
    · exact hl
    · rw [Array.getElem?_eq_none (by omega)] at h3; cases h3
  exact ⟨g, cap, cur, h1, h2, by rw [hb.block g hl]; exact h3, h4⟩

theorem own_slice26 {w : World} {M ty sz n : Nat} {v : Value} {xs : List Value} (h : w.ownsRow M ty sz v n xs) : ∃ a c, v = .slice a n c ∧ n ≤ c ∧ (∀ k, v.ownBlock = some k → M ≤ k ∧ k < w.heap.size) := by
  rcases h.2 with ⟨rfl, rfl⟩ | ⟨g, cap, cur, rfl, h2, h3, h4, _⟩
  · exact ⟨none, 0, rfl, Nat.le_refl _, fun k hk => by cases hk⟩
  · refine ⟨_, _, rfl, h4, fun k hk => ?_⟩
    have : g = k := by simpa [Value.ownBlock] using hk
    subst this
    refine ⟨h2, ?_⟩
    by_cases hl : g < w.heap.size
    · exact hl
    · rw [Array.getElem?_eq_none (by omega)] at h3; cases h3

theorem grown_cell26 {w w' : World} {row : Option Nat} (hg : w.grownBy w' row) {a : Addr} {v : Value} (h : w.cell? a = some v) (hne : some a.block ≠ row) : w'.cell? a = some v := World.grownBy.cell hg h hne

theorem grown_frozen26 {w w' : World} {row : Option Nat} (hg : w.grownBy w' row) {a : Addr} (hl : a.block < w.heap.size) (hne : some a.block ≠ row) : w'.frozen? a = w.frozen? a := World.frozen?_of_block (hg.block a.block hl hne)

theorem grown_bx26 {w w' : World} {row : Option Nat} (hg : w.grownBy w' row) {n : Nat} {t : VT} {u : Value} (hne : some n ≠ row) (h : Bx w n t u) : Bx w' n t u := by
  have hl : n < w.heap.size := cell_lt h.c0
  exact ⟨grown_cell26 hg h.c0 hne, grown_cell26 hg h.c1 hne, grown_cell26 hg h.c2 hne, grown_cell26 hg h.c3 hne, (grown_frozen26 hg (a := ⟨n, 0, none⟩) hl hne).trans h.f0, (grown_frozen26 hg (a := ⟨n, 1, none⟩) hl hne).trans h.f1, (grown_frozen26 hg (a := ⟨n, 2, none⟩) hl hne).trans h.f2, (grown_frozen26 hg (a := ⟨n, 3, none⟩) hl hne).trans h.f3⟩

theorem flat_take26 (ps : List (VT × Value)) (i : Nat) : (ps.take i).flatMap encP = (ps.flatMap encP).take (i * 4) := by
  induction ps generalizing i with
  | nil => simp
  | cons p ps ih =>
    cases i with
    | zero => simp
    | succ i =>
      rw [List.take_succ_cons, List.flatMap_cons, List.flatMap_cons, ih, show (i + 1) * 4 = (encP p).length + i * 4 by simp [encP]; omega, List.take_append, List.take_of_length_le (l := encP p) (by omega)]
      simp

theorem flat_drop26 (ps : List (VT × Value)) (i : Nat) : (ps.drop i).flatMap encP = (ps.flatMap encP).drop (i * 4) := by
  induction ps generalizing i with
  | nil => simp
  | cons p ps ih =>
    cases i with
    | zero => simp
    | succ i =>
      rw [List.drop_succ_cons, List.flatMap_cons, ih, show (i + 1) * 4 = (encP p).length + i * 4 by simp [encP]; omega, List.drop_append]
      simp

/-- A row of one's own, of values that lie in blocks of X. -/
structure OwnX (X : Nat → Prop) (M : Nat) (w : World) (ps : List (VT × Value)) (v : Value) : Prop where
  own : w.ownsRow M 24 4 v ps.length (ps.flatMap encP)
  lie : ∀ p ∈ ps, LiesX X 16 w p.1.items p.2 ∧ p.1.text.size ≤ 9223372036854775807

theorem OwnX.keeps {X : Nat → Prop} {M : Nat} {w w' : World} {ps : List (VT × Value)} {v : Value} (h : OwnX X M w ps v) (hb : Below w.heap.size w w') : OwnX X M w' ps v :=
  ⟨own_keeps26 h.own hb, fun p hp => ⟨(h.lie p hp).1.keeps hb, (h.lie p hp).2⟩⟩

theorem OwnX.one {X : Nat → Prop} {M : Nat} {w : World} {ps : List (VT × Value)} {v : Value} (h : OwnX X M w ps v) : ∀ u ∈ ps.flatMap encP, u.oneCell' = true := by
  intro u hu
  obtain ⟨p, hp, hu⟩ := List.mem_flatMap.1 hu
  exact encP_one (d := 16) (w := w) ⟨(h.lie p hp).1.lies, (h.lie p hp).2⟩ u hu

theorem OwnX.lies {X : Nat → Prop} {M : Nat} {w : World} {ps : List (VT × Value)} {v : Value} (h : OwnX X M w ps v) (hl : ps.length ≤ 65536) : Lies 17 w (ps.map (·.1)) v :=
  own_lies rfl h.own (fun p hp => ⟨(h.lie p hp).1.lies, (h.lie p hp).2⟩) (by omega)

/-- A box that is none of the row's is written. -/
theorem OwnX.set {X : Nat → Prop} {M : Nat} {w : World} {ps : List (VT × Value)} {v : Value} (h : OwnX X M w ps v) (hXM : ∀ b, X b → b < M) {g : Nat} (hg : M ≤ g) (hne : v.ownBlock ≠ some g) (o : Nat) (x : Value) : OwnX X M (w.setCell ⟨g, o, none⟩ x) ps v := by
  have hblk : ∀ j, j ≠ g → (w.setCell ⟨g, o, none⟩ x).heap[j]? = w.heap[j]? := fun j hj => by
    simp only [World.setCell, Array.getElem?_modify]
    rw [if_neg (fun e => hj e.symm)]
  refine ⟨⟨h.own.1, h.own.2.imp (fun h => h) ?_⟩, fun p hp => ⟨?_, (h.lie p hp).2⟩⟩
  · rintro ⟨g', cap, cur, h1, h2, h3, h4⟩
    refine ⟨g', cap, cur, h1, h2, ?_, h4⟩
    rw [hblk g' (fun e => hne (by rw [h1, e]; rfl))]
    exact h3
  · refine LiesX.stays (fun _ h => h) (fun a u ha hu => ?_) (h.lie p hp).1
    have : a.block ≠ g := fun e => by have := hXM _ ha; omega
    unfold World.cell? at hu ⊢
    rw [hblk a.block this]
    exact hu

theorem OwnX.set4 {X : Nat → Prop} {M : Nat} {w : World} {ps : List (VT × Value)} {v : Value} (h : OwnX X M w ps v) (hXM : ∀ b, X b → b < M) {g : Nat} (hg : M ≤ g) (hne : v.ownBlock ≠ some g) (p : VT × Value) : OwnX X M (w.setCells g 0 (encP p)) ps v :=
  (((h.set hXM hg hne _ _).set hXM hg hne _ _).set hXM hg hne _ _).set hXM hg hne _ _

theorem below_setM {w W : World} {M : Nat} (h : Below M w W) {g : Nat} (hg : M ≤ g) (o : Nat) (x : Value) : Below M w (W.setCell ⟨g, o, none⟩ x) := h.setCell (p := ⟨g, o, none⟩) hg x

theorem below_putM {w W : World} {M : Nat} (h : Below M w W) {g : Nat} (hg : M ≤ g) (p : VT × Value) : Below M w (W.setCells g 0 (encP p)) :=
  below_setM (below_setM (below_setM (below_setM h hg _ _) hg _ _) hg _ _) hg _ _

theorem grown_belowM {w w' : World} {M : Nat} {row : Option Nat} (hg : w.grownBy w' row) (hr : ∀ k, row = some k → M ≤ k) (hM : M ≤ w.heap.size) : Below M w w' :=
  ⟨hg.os, hg.tape, hg.output, hg.size, fun j hj => hg.block j (by omega) (fun e => by have := hr j e.symm; omega)⟩

/-- What opened tells. -/
def OpPost (X : Nat → Prop) (M : Nat) (t s : VT) (w : World) (e : Ending) (w' : World) : Prop :=
  match opnT t s with
  | none => e = .returned (.tuple #[.agg #[.int .i64 0, .int .i64 0, .string ⟨#[]⟩, .slice none 0 0], .int .i64 0, .int .i64 260]) ∧ Below M w w'
  | some (t', i) => ∃ ps' a c, ps'.map (·.1) = t'.items ∧ e = .returned (.tuple #[.agg #[.int .i64 t'.kind, .int .i64 t'.num, .string t'.text, .slice a t'.items.length c], .int .i64 (i : Int), .int .i64 0]) ∧ OwnX X M w' ps' (.slice a t'.items.length c) ∧ Below M w w'

theorem op_some {X : Nat → Prop} {M : Nat} {t s t' : VT} {i : Nat} {w w' : World} (h : opnT t s = some (t', i)) {ps' : List (VT × Value)} {a : Option Addr} {c : Nat} (h1 : ps'.map (·.1) = t'.items) (h2 : OwnX X M w' ps' (.slice a t'.items.length c)) (h3 : Below M w w') :
    OpPost X M t s w (.returned (.tuple #[.agg #[.int .i64 t'.kind, .int .i64 t'.num, .string t'.text, .slice a t'.items.length c], .int .i64 (i : Int), .int .i64 0])) w' := by
  unfold OpPost; rw [h]; exact ⟨ps', a, c, h1, rfl, h2, h3⟩

theorem op_none {X : Nat → Prop} {M : Nat} {t s : VT} {w w' : World} (h : opnT t s = none) (h3 : Below M w w') :
    OpPost X M t s w (.returned (.tuple #[.agg #[.int .i64 0, .int .i64 0, .string ⟨#[]⟩, .slice none 0 0], .int .i64 0, .int .i64 260])) w' := by
  unfold OpPost; rw [h]; exact ⟨rfl, h3⟩

/-- The three boxes of opened. -/
def op3 (w : World) (t s : VT) (u v : Value) : World := ((w.alloc (.cells #[.int .i64 t.kind, .int .i64 t.num, .string t.text, u] 24)).alloc (.cells #[.int .i64 s.kind, .int .i64 s.num, .string s.text, v] 24)).alloc (.cells #[.int .i64 0, .int .i64 0, .string ⟨#[]⟩, .slice none 0 0] 24)

theorem op3_below (w : World) (t s : VT) (u v : Value) : Below w.heap.size w (op3 w t s u v) := (((Grew.refl w).alloc _).alloc _ |>.alloc _).below
theorem op3_size (w : World) (t s : VT) (u v : Value) : (op3 w t s u v).heap.size = w.heap.size + 3 := by unfold op3; simp
theorem op3_fst (w : World) (t s : VT) (u v : Value) : Bx (op3 w t s u v) w.heap.size t u := (bx_alloc w t u).keeps (Grew.two _ _ _).below
theorem op3_snd (w : World) (t s : VT) (u v : Value) : Bx (op3 w t s u v) (w.heap.size + 1) s v := by
  have := (bx_alloc (w.alloc (.cells #[.int .i64 t.kind, .int .i64 t.num, .string t.text, u] 24)) s v).keeps ((Grew.refl _).alloc (.cells #[.int .i64 0, .int .i64 0, .string ⟨#[]⟩, .slice none 0 0] 24)).below
  rwa [World.size_alloc] at this
theorem op3_thd (w : World) (t s : VT) (u v : Value) : Bx (op3 w t s u v) (w.heap.size + 2) zeroT (.slice none 0 0) := by
  have := bx_alloc ((w.alloc (.cells #[.int .i64 t.kind, .int .i64 t.num, .string t.text, u] 24)).alloc (.cells #[.int .i64 s.kind, .int .i64 s.num, .string s.text, v] 24)) zeroT (.slice none 0 0)
  rwa [World.size_alloc, World.size_alloc] at this

end Go.Proofs.Ytmbolemcpobbgaa

namespace Go.Proofs.Ytmbolemcpobbgaa
open Go.RowKit Go.Shelf

theorem own_to16 {X : Nat → Prop} {M : Nat} {w : World} {t : VT} {ps : List (VT × Value)} {v : Value} (h : OwnX X M w ps v) (hps : ps.map (·.1) = t.items) (hl : t.items.length ≤ 1024) (hd : Dp 16 t) : Lies 16 w t.items v := by
  have hl2 : ps.length = t.items.length := by rw [← hps, List.length_map]
  have := h.lies (by omega)
  rw [hps] at this
  exact Lies.to (t := t) this hd

set_option maxRecDepth 100000 in
set_option maxHeartbeats 8000000 in
/-- The key is there. -/
theorem opened_has (X : Nat → Prop) (M : Nat) (hXM : ∀ b, X b → b < M) (t s : VT) (ps : List (VT × Value)) (a ay : Option Addr) (c cy : Nat) (w : World) (hM : M ≤ w.heap.size) (hps : ps.map (·.1) = t.items) (hrow : OwnX X M w ps (.slice a t.items.length c)) (hs : LiesX X 16 w s.items (.slice ay s.items.length cy)) (hr : rightV 16 t = true) (hd : Dp 16 t) (h0 : t.kind = 0 ∨ t.kind = 6) (hh : hasN s (keysOf t.items) = true) :
    Calls Try.prog 61 #[.agg #[.int .i64 t.kind, .int .i64 t.num, .string t.text, .slice a t.items.length c], .agg #[.int .i64 s.kind, .int .i64 s.num, .string s.text, .slice ay s.items.length cy]] w (OpPost X M t s w) := by
  have hkey : keyed s t.items = t.items := by unfold keyed; rw [if_pos hh]
  have hop : opnT t s = some (⟨6, t.num, t.text, t.items⟩, 2 * upN s (keysOf t.items) + 1) := by unfold opnT; rw [if_pos h0, hkey]
  have hlen := right_len hr
  have hle := upN_le s (keysOf t.items)
  have hkl := keysOf_len t.items
  have hk6 : t.kind = 6 := by
    rcases h0 with h | h
    · have := leaf_items hr (by omega) (by omega) (by omega)
      rw [this] at hh
      cases hh
    · exact h
  have hB : plcB t s = true := by unfold plcB; rw [if_pos h0]; exact hh
  have hI : plcI t s = ((2 * upN s (keysOf t.items) + 1 : Nat) : Int) := by unfold plcI; rw [if_pos h0]
  have HPl : Hid (∀ W, Below w.heap.size w W → Calls Try.prog 50 #[.agg #[.int .i64 t.kind, .int .i64 t.num, .string t.text, .slice a t.items.length c], .agg #[.int .i64 s.kind, .int .i64 s.num, .string s.text, .slice ay s.items.length cy]] W fun e w' => e = .returned (.tuple #[.int .i64 ((2 * upN s (keysOf t.items) + 1 : Nat) : Int), .bool true]) ∧ Below W.heap.size W w') := fun W hW => by
    have := place_any t s _ _ W (Lies.keeps hW _ _ _ (own_to16 hrow hps hlen hd)) (Lies.keeps hW _ _ _ hs.lies) hr
    unfold PlPost at this
    rwa [hB, hI] at this
  have HE : Hid (∀ W, OwnX X M W ps (.slice a t.items.length c) → Below M w W → OpPost X M t s w (.returned (.tuple #[.agg #[.int .i64 6, .int .i64 t.num, .string t.text, .slice a t.items.length c], .int .i64 ((2 * upN s (keysOf t.items) + 1 : Nat) : Int), .int .i64 0])) W) := fun W h1 h2 => op_some hop hps h1 h2
  have HT : Hid (Bx (op3 w t s (.slice a t.items.length c) (.slice ay s.items.length cy)) w.heap.size t (.slice a t.items.length c)) := op3_fst _ _ _ _ _
  have HS : Hid (Bx (op3 w t s (.slice a t.items.length c) (.slice ay s.items.length cy)) (w.heap.size + 1) s (.slice ay s.items.length cy)) := op3_snd _ _ _ _ _
  have HR : Hid (Bx (op3 w t s (.slice a t.items.length c) (.slice ay s.items.length cy)) (w.heap.size + 2) zeroT (.slice none 0 0)) := op3_thd _ _ _ _ _
  have hb0 := op3_below w t s (.slice a t.items.length c) (.slice ay s.items.length cy)
  obtain ⟨W0, hW0⟩ : ∃ W0, W0 = op3 w t s (.slice a t.items.length c) (.slice ay s.items.length cy) := ⟨_, rfl⟩
  have HW0 : Hid (W0 = op3 w t s (.slice a t.items.length c) (.slice ay s.items.length cy)) := hW0
  rw [← hW0] at HT HS HR hb0
  clear hW0
  unfold op3 at HW0
  have HO : Hid (OwnX X M w ps (.slice a t.items.length c)) := hrow
  have Hne : Hid ((Value.slice a t.items.length c).ownBlock ≠ some (w.heap.size + 2)) := fun e => by
    obtain ⟨_, _, _, _, k⟩ := own_slice26 hrow.own
    have := (k _ e).2
    omega
  generalize OpPost X M t s w = PP at *
  have hKb : 2 * upN s (keysOf t.items) + 1 ≤ 65536 := by omega
  generalize 2 * upN s (keysOf t.items) + 1 = K at *
  clear hop hkey hlen hle hkl hB hI hrow hs hr hd hh hps h0
  generalize t.items.length = lt at *
  generalize s.items.length = lz at *
  obtain ⟨t0, t1, t2, t3, _, _, _, _⟩ := HT.out
  obtain ⟨s0, s1, s2, s3, _, _, _, _⟩ := HS.out
  rw [hk6] at HPl t0 HW0 ⊢
  go_enter Try.func61, Try.ntmps61
  go_upto_region 1 with fail
  rw [← HW0.out]
  clear HW0
  go_wp2_with fail
  refine Calls.mono (HPl.out _ hb0) ?_
  rintro e w1 ⟨rfl, hb1⟩
  have hb2 : Below w.heap.size w w1 := hb0.trans (hb1.mono hb0.size)
  have HR1 : Hid (Bx w1 (w.heap.size + 2) zeroT (.slice none 0 0)) := HR.out.keeps hb1
  replace t0 := cell_keeps hb1 t0; replace t1 := cell_keeps hb1 t1; replace t2 := cell_keeps hb1 t2; replace t3 := cell_keeps hb1 t3
  have HE1 : Hid (PP (.returned (.tuple #[.agg #[.int .i64 6, .int .i64 t.num, .string t.text, .slice a lt c], .int .i64 (K : Int), .int .i64 0])) (w1.setCells (w.heap.size + 2) 0 (encP (⟨6, t.num, t.text, []⟩, .slice a lt c)))) := HE.out _ ((HO.out.keeps hb2).set4 hXM (by omega) Hne.out _) (below_putM (hb2.mono hM) (by omega) _)
  have Hq : Hid (Bx (w1.setCells (w.heap.size + 2) 0 (encP (⟨6, t.num, t.text, []⟩, .slice a lt c))) (w.heap.size + 2) ⟨6, t.num, t.text, []⟩ (.slice a lt c)) := HR1.out.put (⟨6, t.num, t.text, []⟩, .slice a lt c)
  obtain ⟨z0, z1, z2, z3, g0, g1, g2, g3⟩ := HR1.out
  clear hb1 hb0 hb2 HPl HT HS HR HR1 HO Hne HE s0 s1 s2 s3
  go_wp2_with fail
  refine bodyPost_ret (v := .tuple #[.agg #[.int .i64 6, .int .i64 t.num, .string t.text, .slice a lt c], .int .i64 (K : Int), .int .i64 0]) ?_ rfl HE1.out
  obtain ⟨q0, q1, q2, q3, _, _, _, _⟩ := Hq.out
  simp only [World.setCells, encP, Nat.zero_add, Nat.reduceAdd] at q0 q1 q2 q3
  simp [results, Try.results61, go_sem, q0, q1, q2, q3]

end Go.Proofs.Ytmbolemcpobbgaa

