/-
  opened, of a list, and of what has no parts to be put.
-/
import Derived.Test.YtofceccicmlmoaaGreatAtN
import Derived.Test.YtofceccicmlmoaaGreatInsN
import Derived.Test.YtofceccicmlmoaaGreatAppB
import Derived.BigQuiet
namespace Go.Proofs.YtofceccicmlmoaaGreat
open Go.RowKit Go.Shelf

theorem own_keeps26 {w w' : World} {M ty sz n : Nat} {v : Value} {xs : List Value} (h : w.ownsRow M ty sz v n xs) (hb : Below w.heap.size w w') : w'.ownsRow M ty sz v n xs := by
  refine ⟨h.1, h.2.imp (fun h => h) ?_⟩
  rintro ⟨g, cap, cur, h1, h2, h3, h4⟩
  have hl : g < w.heap.size := by
    by_cases hl : g < w.heap.size
    · exact hl
    · rw [Array.getElem?_eq_none (by omega)] at h3; cases h3
  exact ⟨g, cap, cur, h1, h2, by rw [hb.block g hl]; exact h3, h4⟩

theorem own_slice26 {w : World} {M ty sz n : Nat} {v : Value} {xs : List Value} (h : w.ownsRow M ty sz v n xs) : ∃ a c, v = .slice a n c ∧ n ≤ c ∧ (∀ k, v.ownBlock = some k → M ≤ k ∧ k < w.heap.size) := by
  rcases h.2 with ⟨rfl, rfl⟩ | ⟨g, cap, cur, rfl, h2, h3, h4, _⟩
  · exact ⟨none, 0, rfl, Nat.le_refl _, fun k hk => by cases hk⟩
  · refine ⟨_, _, rfl, h4, fun k hk => ?_⟩
    have : g = k := by simpa [Value.ownBlock] using hk
    subst this
    refine ⟨h2, ?_⟩
    by_cases hl : g < w.heap.size
    · exact hl
    · rw [Array.getElem?_eq_none (by omega)] at h3; cases h3

theorem grown_cell26 {w w' : World} {row : Option Nat} (hg : w.grownBy w' row) {a : Addr} {v : Value} (h : w.cell? a = some v) (hne : some a.block ≠ row) : w'.cell? a = some v := World.grownBy.cell hg h hne

theorem grown_frozen26 {w w' : World} {row : Option Nat} (hg : w.grownBy w' row) {a : Addr} (hl : a.block < w.heap.size) (hne : some a.block ≠ row) : w'.frozen? a = w.frozen? a := World.frozen?_of_block (hg.block a.block hl hne)

theorem grown_bx26 {w w' : World} {row : Option Nat} (hg : w.grownBy w' row) {n : Nat} {t : VT} {u : Value} (hne : some n ≠ row) (h : Bx w n t u) : Bx w' n t u := by
  have hl : n < w.heap.size := cell_lt h.c0
  exact ⟨grown_cell26 hg h.c0 hne, grown_cell26 hg h.c1 hne, grown_cell26 hg h.c2 hne, grown_cell26 hg h.c3 hne, (grown_frozen26 hg (a := ⟨n, 0, none⟩) hl hne).trans h.f0, (grown_frozen26 hg (a := ⟨n, 1, none⟩) hl hne).trans h.f1, (grown_frozen26 hg (a := ⟨n, 2, none⟩) hl hne).trans h.f2, (grown_frozen26 hg (a := ⟨n, 3, none⟩) hl hne).trans h.f3⟩

theorem flat_take26 (ps : List (VT × Value)) (i : Nat) : (ps.take i).flatMap encP = (ps.flatMap encP).take (i * 4) := by
  induction ps generalizing i with
  | nil => simp
  | cons p ps ih =>
    cases i with
    | zero => simp
    | succ i =>
      rw [List.take_succ_cons, List.flatMap_cons, List.flatMap_cons, ih, show (i + 1) * 4 = (encP p).length + i * 4 by simp [encP]; omega, List.take_append, List.take_of_length_le (l := encP p) (by omega)]
      simp

theorem flat_drop26 (ps : List (VT × Value)) (i : Nat) : (ps.drop i).flatMap encP = (ps.flatMap encP).drop (i * 4) := by
  induction ps generalizing i with
  | nil => simp
  | cons p ps ih =>
    cases i with
    | zero => simp
    | succ i =>
      rw [List.drop_succ_cons, List.flatMap_cons, ih, show (i + 1) * 4 = (encP p).length + i * 4 by simp [encP]; omega, List.drop_append]
      simp

/-- A row of one's own, of values that lie in blocks of X. -/
structure OwnX (X : Nat → Prop) (M : Nat) (w : World) (ps : List (VT × Value)) (v : Value) : Prop where
  own : w.ownsRow M 24 4 v ps.length (ps.flatMap encP)
  lie : ∀ p ∈ ps, LiesX X 16 w p.1.items p.2 ∧ p.1.text.size ≤ 9223372036854775807

theorem OwnX.keeps {X : Nat → Prop} {M : Nat} {w w' : World} {ps : List (VT × Value)} {v : Value} (h : OwnX X M w ps v) (hb : Below w.heap.size w w') : OwnX X M w' ps v :=
  ⟨own_keeps26 h.own hb, fun p hp => ⟨(h.lie p hp).1.keeps hb, (h.lie p hp).2⟩⟩

theorem OwnX.one {X : Nat → Prop} {M : Nat} {w : World} {ps : List (VT × Value)} {v : Value} (h : OwnX X M w ps v) : ∀ u ∈ ps.flatMap encP, u.oneCell' = true := by
  intro u hu
  obtain ⟨p, hp, hu⟩ := List.mem_flatMap.1 hu
  exact encP_one (d := 16) (w := w) ⟨(h.lie p hp).1.lies, (h.lie p hp).2⟩ u hu

theorem OwnX.lies {X : Nat → Prop} {M : Nat} {w : World} {ps : List (VT × Value)} {v : Value} (h : OwnX X M w ps v) (hl : ps.length ≤ 65536) : Lies 17 w (ps.map (·.1)) v :=
  own_lies rfl h.own (fun p hp => ⟨(h.lie p hp).1.lies, (h.lie p hp).2⟩) (by omega)

/-- A box that is none of the row's is written. -/
theorem OwnX.set {X : Nat → Prop} {M : Nat} {w : World} {ps : List (VT × Value)} {v : Value} (h : OwnX X M w ps v) (hXM : ∀ b, X b → b < M) {g : Nat} (hg : M ≤ g) (hne : v.ownBlock ≠ some g) (o : Nat) (x : Value) : OwnX X M (w.setCell ⟨g, o, none⟩ x) ps v := by
  have hblk : ∀ j, j ≠ g → (w.setCell ⟨g, o, none⟩ x).heap[j]? = w.heap[j]? := fun j hj => by
    simp only [World.setCell, Array.getElem?_modify]
    rw [if_neg (fun e => hj e.symm)]
  refine ⟨⟨h.own.1, h.own.2.imp (fun h => h) ?_⟩, fun p hp => ⟨?_, (h.lie p hp).2⟩⟩
  · rintro ⟨g', cap, cur, h1, h2, h3, h4⟩
    refine ⟨g', cap, cur, h1, h2, ?_, h4⟩
    rw [hblk g' (fun e => hne (by rw [h1, e]; rfl))]
    exact h3
  · refine LiesX.stays (fun _ h => h) (fun a u ha hu => ?_) (h.lie p hp).1
    have : a.block ≠ g := fun e => by have := hXM _ ha; omega
    unfold World.cell? at hu ⊢
    rw [hblk a.block this]
    exact hu

theorem OwnX.set4 {X : Nat → Prop} {M : Nat} {w : World} {ps : List (VT × Value)} {v : Value} (h : OwnX X M w ps v) (hXM : ∀ b, X b → b < M) {g : Nat} (hg : M ≤ g) (hne : v.ownBlock ≠ some g) (p : VT × Value) : OwnX X M (w.setCells g 0 (encP p)) ps v :=
  (((h.set hXM hg hne _ _).set hXM hg hne _ _).set hXM hg hne _ _).set hXM hg hne _ _

theorem below_setM {w W : World} {M : Nat} (h : Below M w W) {g : Nat} (hg : M ≤ g) (o : Nat) (x : Value) : Below M w (W.setCell ⟨g, o, none⟩ x) := h.setCell (p := ⟨g, o, none⟩) hg x

theorem below_putM {w W : World} {M : Nat} (h : Below M w W) {g : Nat} (hg : M ≤ g) (p : VT × Value) : Below M w (W.setCells g 0 (encP p)) :=
  below_setM (below_setM (below_setM (below_setM h hg _ _) hg _ _) hg _ _) hg _ _

theorem grown_belowM {w w' : World} {M : Nat} {row : Option Nat} (hg : w.grownBy w' row) (hr : ∀ k, row = some k → M ≤ k) (hM : M ≤ w.heap.size) : Below M w w' :=
  ⟨hg.os, hg.tape, hg.output, hg.size, fun j hj => hg.block j (by omega) (fun e => by have := hr j e.symm; omega)⟩

/-- What opened tells. -/
def OpPost (X : Nat → Prop) (M : Nat) (t s : VT) (w : World) (e : Ending) (w' : World) : Prop :=
  match opnT t s with
  | none => e = .returned (.tuple #[.agg #[.int .i64 0, .int .i64 0, .string ⟨#[]⟩, .slice none 0 0], .int .i64 0, .int .i64 260]) ∧ Below M w w'
  | some (t', i) => ∃ ps' a c, ps'.map (·.1) = t'.items ∧ e = .returned (.tuple #[.agg #[.int .i64 t'.kind, .int .i64 t'.num, .string t'.text, .slice a t'.items.length c], .int .i64 (i : Int), .int .i64 0]) ∧ OwnX X M w' ps' (.slice a t'.items.length c) ∧ Below M w w'

theorem op_some {X : Nat → Prop} {M : Nat} {t s t' : VT} {i : Nat} {w w' : World} (h : opnT t s = some (t', i)) {ps' : List (VT × Value)} {a : Option Addr} {c : Nat} (h1 : ps'.map (·.1) = t'.items) (h2 : OwnX X M w' ps' (.slice a t'.items.length c)) (h3 : Below M w w') :
    OpPost X M t s w (.returned (.tuple #[.agg #[.int .i64 t'.kind, .int .i64 t'.num, .string t'.text, .slice a t'.items.length c], .int .i64 (i : Int), .int .i64 0])) w' := by
  unfold OpPost; rw [h]; exact ⟨ps', a, c, h1, rfl, h2, h3⟩

theorem op_none {X : Nat → Prop} {M : Nat} {t s : VT} {w w' : World} (h : opnT t s = none) (h3 : Below M w w') :
    OpPost X M t s w (.returned (.tuple #[.agg #[.int .i64 0, .int .i64 0, .string ⟨#[]⟩, .slice none 0 0], .int .i64 0, .int .i64 260])) w' := by
  unfold OpPost; rw [h]; exact ⟨rfl, h3⟩

/-- The three boxes of opened. -/
def op3 (w : World) (t s : VT) (u v : Value) : World := ((w.alloc (.cells #[.int .i64 t.kind, .int .i64 t.num, .string t.text, u] 24)).alloc (.cells #[.int .i64 s.kind, .int .i64 s.num, .string s.text, v] 24)).alloc (.cells #[.int .i64 0, .int .i64 0, .string ⟨#[]⟩, .slice none 0 0] 24)

theorem op3_below (w : World) (t s : VT) (u v : Value) : Below w.heap.size w (op3 w t s u v) := (((Grew.refl w).alloc _).alloc _ |>.alloc _).below
theorem op3_size (w : World) (t s : VT) (u v : Value) : (op3 w t s u v).heap.size = w.heap.size + 3 := by unfold op3; simp
theorem op3_fst (w : World) (t s : VT) (u v : Value) : Bx (op3 w t s u v) w.heap.size t u := (bx_alloc w t u).keeps (Grew.two _ _ _).below
theorem op3_snd (w : World) (t s : VT) (u v : Value) : Bx (op3 w t s u v) (w.heap.size + 1) s v := by
  have := (bx_alloc (w.alloc (.cells #[.int .i64 t.kind, .int .i64 t.num, .string t.text, u] 24)) s v).keeps ((Grew.refl _).alloc (.cells #[.int .i64 0, .int .i64 0, .string ⟨#[]⟩, .slice none 0 0] 24)).below
  rwa [World.size_alloc] at this
theorem op3_thd (w : World) (t s : VT) (u v : Value) : Bx (op3 w t s u v) (w.heap.size + 2) zeroT (.slice none 0 0) := by
  have := bx_alloc ((w.alloc (.cells #[.int .i64 t.kind, .int .i64 t.num, .string t.text, u] 24)).alloc (.cells #[.int .i64 s.kind, .int .i64 s.num, .string s.text, v] 24)) zeroT (.slice none 0 0)
  rwa [World.size_alloc, World.size_alloc] at this

end Go.Proofs.YtofceccicmlmoaaGreat

namespace Go.Proofs.YtofceccicmlmoaaGreat
open Go.RowKit Go.Shelf

theorem own_to16 {X : Nat → Prop} {M : Nat} {w : World} {t : VT} {ps : List (VT × Value)} {v : Value} (h : OwnX X M w ps v) (hps : ps.map (·.1) = t.items) (hl : t.items.length ≤ 1024) (hd : Dp 16 t) : Lies 16 w t.items v := by
  have hl2 : ps.length = t.items.length := by rw [← hps, List.length_map]
  have := h.lies (by omega)
  rw [hps] at this
  exact Lies.to (t := t) this hd

set_option maxRecDepth 100000 in
set_option maxHeartbeats 8000000 in
/-- The key is there. -/
theorem opened_has (X : Nat → Prop) (M : Nat) (hXM : ∀ b, X b → b < M) (t s : VT) (ps : List (VT × Value)) (a ay : Option Addr) (c cy : Nat) (w : World) (hM : M ≤ w.heap.size) (hps : ps.map (·.1) = t.items) (hrow : OwnX X M w ps (.slice a t.items.length c)) (hs : LiesX X 16 w s.items (.slice ay s.items.length cy)) (hr : rightV 16 t = true) (hd : Dp 16 t) (h0 : t.kind = 0 ∨ t.kind = 6) (hh : hasN s (keysOf t.items) = true) :
    Calls Tryz.prog 36 #[.agg #[.int .i64 t.kind, .int .i64 t.num, .string t.text, .slice a t.items.length c], .agg #[.int .i64 s.kind, .int .i64 s.num, .string s.text, .slice ay s.items.length cy]] w (OpPost X M t s w) := by
  have hkey : keyed s t.items = t.items := by unfold keyed; rw [if_pos hh]
  have hop : opnT t s = some (⟨6, t.num, t.text, t.items⟩, 2 * upN s (keysOf t.items) + 1) := by unfold opnT; rw [if_pos h0, hkey]
  have hlen := right_len hr
  have hle := upN_le s (keysOf t.items)
  have hkl := keysOf_len t.items
  have hk6 : t.kind = 6 := by
    rcases h0 with h | h
    · have := leaf_items hr (by omega) (by omega) (by omega)
      rw [this] at hh
      cases hh
    · exact h
  have hB : plcB t s = true := by unfold plcB; rw [if_pos h0]; exact hh
  have hI : plcI t s = ((2 * upN s (keysOf t.items) + 1 : Nat) : Int) := by unfold plcI; rw [if_pos h0]
  have HPl : Hid (∀ W, Below w.heap.size w W → Calls Tryz.prog 30 #[.agg #[.int .i64 t.kind, .int .i64 t.num, .string t.text, .slice a t.items.length c], .agg #[.int .i64 s.kind, .int .i64 s.num, .string s.text, .slice ay s.items.length cy]] W fun e w' => e = .returned (.tuple #[.int .i64 ((2 * upN s (keysOf t.items) + 1 : Nat) : Int), .bool true]) ∧ Below W.heap.size W w') := fun W hW => by
    have := place_any t s _ _ W (Lies.keeps hW _ _ _ (own_to16 hrow hps hlen hd)) (Lies.keeps hW _ _ _ hs.lies) hr
    unfold PlPost at this
    rwa [hB, hI] at this
  have HE : Hid (∀ W, OwnX X M W ps (.slice a t.items.length c) → Below M w W → OpPost X M t s w (.returned (.tuple #[.agg #[.int .i64 6, .int .i64 t.num, .string t.text, .slice a t.items.length c], .int .i64 ((2 * upN s (keysOf t.items) + 1 : Nat) : Int), .int .i64 0])) W) := fun W h1 h2 => op_some hop hps h1 h2
  have HT : Hid (Bx (op3 w t s (.slice a t.items.length c) (.slice ay s.items.length cy)) w.heap.size t (.slice a t.items.length c)) := op3_fst _ _ _ _ _
  have HS : Hid (Bx (op3 w t s (.slice a t.items.length c) (.slice ay s.items.length cy)) (w.heap.size + 1) s (.slice ay s.items.length cy)) := op3_snd _ _ _ _ _
  have HR : Hid (Bx (op3 w t s (.slice a t.items.length c) (.slice ay s.items.length cy)) (w.heap.size + 2) zeroT (.slice none 0 0)) := op3_thd _ _ _ _ _
  have hb0 := op3_below w t s (.slice a t.items.length c) (.slice ay s.items.length cy)
  obtain ⟨W0, hW0⟩ : ∃ W0, W0 = op3 w t s (.slice a t.items.length c) (.slice ay s.items.length cy) := ⟨_, rfl⟩
  have HW0 : Hid (W0 = op3 w t s (.slice a t.items.length c) (.slice ay s.items.length cy)) := hW0
  rw [← hW0] at HT HS HR hb0
  clear hW0
  unfold op3 at HW0
  have HO : Hid (OwnX X M w ps (.slice a t.items.length c)) := hrow
  have Hne : Hid ((Value.slice a t.items.length c).ownBlock ≠ some (w.heap.size + 2)) := fun e => by
    obtain ⟨_, _, _, _, k⟩ := own_slice26 hrow.own
    have := (k _ e).2
    omega
  generalize OpPost X M t s w = PP at *
  have hKb : 2 * upN s (keysOf t.items) + 1 ≤ 65536 := by omega
  generalize 2 * upN s (keysOf t.items) + 1 = K at *
  clear hop hkey hlen hle hkl hB hI hrow hs hr hd hh hps h0
  generalize t.items.length = lt at *
  generalize s.items.length = lz at *
  obtain ⟨t0, t1, t2, t3, _, _, _, _⟩ := HT.out
  obtain ⟨s0, s1, s2, s3, _, _, _, _⟩ := HS.out
  rw [hk6] at HPl t0 HW0 ⊢
  go_enter Tryz.func36, Tryz.ntmps36
  go_upto_region 1 with fail
  rw [← HW0.out]
  clear HW0
  go_wp2_with fail
  refine Calls.mono (HPl.out _ hb0) ?_
  rintro e w1 ⟨rfl, hb1⟩
  have hb2 : Below w.heap.size w w1 := hb0.trans (hb1.mono hb0.size)
  have HR1 : Hid (Bx w1 (w.heap.size + 2) zeroT (.slice none 0 0)) := HR.out.keeps hb1
  replace t0 := cell_keeps hb1 t0; replace t1 := cell_keeps hb1 t1; replace t2 := cell_keeps hb1 t2; replace t3 := cell_keeps hb1 t3
  have HE1 : Hid (PP (.returned (.tuple #[.agg #[.int .i64 6, .int .i64 t.num, .string t.text, .slice a lt c], .int .i64 (K : Int), .int .i64 0])) (w1.setCells (w.heap.size + 2) 0 (encP (⟨6, t.num, t.text, []⟩, .slice a lt c)))) := HE.out _ ((HO.out.keeps hb2).set4 hXM (by omega) Hne.out _) (below_putM (hb2.mono hM) (by omega) _)
  have Hq : Hid (Bx (w1.setCells (w.heap.size + 2) 0 (encP (⟨6, t.num, t.text, []⟩, .slice a lt c))) (w.heap.size + 2) ⟨6, t.num, t.text, []⟩ (.slice a lt c)) := HR1.out.put (⟨6, t.num, t.text, []⟩, .slice a lt c)
  obtain ⟨z0, z1, z2, z3, g0, g1, g2, g3⟩ := HR1.out
  clear hb1 hb0 hb2 HPl HT HS HR HR1 HO Hne HE s0 s1 s2 s3
  go_wp2_with fail
  refine bodyPost_ret (v := .tuple #[.agg #[.int .i64 6, .int .i64 t.num, .string t.text, .slice a lt c], .int .i64 (K : Int), .int .i64 0]) ?_ rfl HE1.out
  obtain ⟨q0, q1, q2, q3, _, _, _, _⟩ := Hq.out
  simp only [World.setCells, encP, Nat.zero_add, Nat.reduceAdd] at q0 q1 q2 q3
  simp [results, Tryz.results36, go_sem, q0, q1, q2, q3]

end Go.Proofs.YtofceccicmlmoaaGreat

namespace Go.Proofs.YtofceccicmlmoaaGreat
open Go.RowKit Go.Shelf

theorem cell_other1 {W : World} {g o : Nat} {x : Value} {a : Addr} {v : Value} (hg : a.block ≠ g) (h : W.cell? a = some v) : (W.setCell ⟨g, o, none⟩ x).cell? a = some v := cell_other (o := o) (vs := [x]) hg h

theorem Bx.other1 {W : World} {n g : Nat} {t : VT} {u : Value} (h : Bx W n t u) (hg : n ≠ g) (o : Nat) (x : Value) : Bx (W.setCell ⟨g, o, none⟩ x) n t u :=
  ⟨cell_other1 hg h.c0, cell_other1 hg h.c1, cell_other1 hg h.c2, cell_other1 hg h.c3, by rw [World.frozen?_setCell]; exact h.f0, by rw [World.frozen?_setCell]; exact h.f1, by rw [World.frozen?_setCell]; exact h.f2, by rw [World.frozen?_setCell]; exact h.f3⟩

theorem Bx.kind {W : World} {n : Nat} {t : VT} {u : Value} (h : Bx W n t u) (k : Int) : Bx (W.setCell ⟨n, 0, none⟩ (.int .i64 k)) n ⟨k, t.num, t.text, []⟩ u :=
  ⟨World.cell?_setCell_same _ _ _ h.c0, by rw [World.cell?_setCell_other _ _ _ _ (by simp)]; exact h.c1, by rw [World.cell?_setCell_other _ _ _ _ (by simp)]; exact h.c2, by rw [World.cell?_setCell_other _ _ _ _ (by simp)]; exact h.c3, by rw [World.frozen?_setCell]; exact h.f0, by rw [World.frozen?_setCell]; exact h.f1, by rw [World.frozen?_setCell]; exact h.f2, by rw [World.frozen?_setCell]; exact h.f3⟩

set_option maxRecDepth 100000 in
set_option maxHeartbeats 8000000 in
theorem opened_new6 (X : Nat → Prop) (M : Nat) (hXM : ∀ b, X b → b < M) (t s : VT) (ps : List (VT × Value)) (a ay : Option Addr) (c cy : Nat) (w : World) (hM : M ≤ w.heap.size) (hps : ps.map (·.1) = t.items) (hrow : OwnX X M w ps (.slice a t.items.length c)) (hs : LiesX X 16 w s.items (.slice ay s.items.length cy)) (hr : rightV 16 t = true) (hd : Dp 16 t) (hsr : rightV 16 s = true) (hk6 : t.kind = 6) (hh : hasN s (keysOf t.items) = false) :
    Calls Tryz.prog 36 #[.agg #[.int .i64 t.kind, .int .i64 t.num, .string t.text, .slice a t.items.length c], .agg #[.int .i64 s.kind, .int .i64 s.num, .string s.text, .slice ay s.items.length cy]] w (OpPost X M t s w) := by
  have h0 : t.kind = 0 ∨ t.kind = 6 := by omega
  have hkey : keyed s t.items = t.items.take (2 * upN s (keysOf t.items)) ++ s :: nilT :: t.items.drop (2 * upN s (keysOf t.items)) := by unfold keyed; rw [if_neg (by rw [hh]; simp)]
  have hlen := right_len hr
  have hle := upN_le s (keysOf t.items)
  have hkl := keysOf_len t.items
  have hB : plcB t s = false := by unfold plcB; rw [if_pos h0]; exact hh
  have hI : plcI t s = ((2 * upN s (keysOf t.items) + 1 : Nat) : Int) := by unfold plcI; rw [if_pos h0]
  have hop : opnT t s = some (⟨6, t.num, t.text, keyed s t.items⟩, 2 * upN s (keysOf t.items) + 1) := by unfold opnT; rw [if_pos h0]
  have hssz := right_size hsr
  obtain ⟨k, hk⟩ : ∃ k, k = 2 * upN s (keysOf t.items) := ⟨_, rfl⟩
  rw [← hk] at hkey hI hop
  have hkl2 : k ≤ t.items.length := by omega
  have hpl : ps.length = t.items.length := by rw [← hps, List.length_map]
  have HPl : Hid (∀ W, Below w.heap.size w W → Calls Tryz.prog 30 #[.agg #[.int .i64 t.kind, .int .i64 t.num, .string t.text, .slice a t.items.length c], .agg #[.int .i64 s.kind, .int .i64 s.num, .string s.text, .slice ay s.items.length cy]] W fun e w' => e = .returned (.tuple #[.int .i64 ((k + 1 : Nat) : Int), .bool false]) ∧ Below W.heap.size W w') := fun W hW => by
    have := place_any t s _ _ W (Lies.keeps hW _ _ _ (own_to16 hrow hps hlen hd)) (Lies.keeps hW _ _ _ hs.lies) hr
    unfold PlPost at this
    rwa [hB, hI] at this
  have hkeyl : (keyed s t.items).length = t.items.length + 2 := by rw [hkey]; simp; omega
  have HE : Hid (∀ W a' c', OwnX X M W (ps.take k ++ [(s, .slice ay s.items.length cy), (nilT, .slice none 0 0)] ++ ps.drop k) (.slice a' (t.items.length + 2) c') → Below M w W → OpPost X M t s w (.returned (.tuple #[.agg #[.int .i64 6, .int .i64 t.num, .string t.text, .slice a' (t.items.length + 2) c'], .int .i64 ((k + 1 : Nat) : Int), .int .i64 0])) W) := fun W a' c' h1 h2 => by
    have := op_some (ps' := ps.take k ++ [(s, .slice ay s.items.length cy), (nilT, .slice none 0 0)] ++ ps.drop k) (a := a') (c := c') hop (by
      show _ = keyed s t.items
      rw [hkey, ← hps]; simp [List.map_take, List.map_drop]) (by rw [hkeyl]; exact h1) h2
    rw [hkeyl] at this
    exact this
  have HI : Hid (∀ W vb, OwnX X M W ps (.slice a t.items.length c) → M ≤ W.heap.size → (Value.slice a t.items.length c).ownBlock ≠ some vb → W.heap[vb]? = some (.cells #[.int .i64 s.kind, .int .i64 s.num, .string s.text, .slice ay s.items.length cy, .int .i64 0, .int .i64 0, .string ⟨#[]⟩, .slice none 0 0] 24 (0, 0)) → LiesX X 16 W s.items (.slice ay s.items.length cy) →
      Calls Tryz.prog 58 #[.slice a t.items.length c, .int .i64 (k : Int), .slice (some ⟨vb, 0, none⟩) 2 2] W fun e w' => ∃ g' c', e = .returned (.slice (some ⟨g', 0, none⟩) (t.items.length + 2) c') ∧ OwnX X M w' (ps.take k ++ [(s, .slice ay s.items.length cy), (nilT, .slice none 0 0)] ++ ps.drop k) (.slice (some ⟨g', 0, none⟩) (t.items.length + 2) c') ∧ W.grownBy w' (Value.slice a t.items.length c).ownBlock ∧ ((Value.slice a t.items.length c).ownBlock = some g' ∨ W.heap.size ≤ g')) := fun W vb h1 hMW h2 h3 h4 => by
    have h1o := h1.own
    rw [hpl] at h1o
    refine (insert_any M _ t.items.length 2 k vb 2 (ps.flatMap encP) ([(s, Value.slice ay s.items.length cy), (nilT, .slice none 0 0)].flatMap encP) _ 24 W h1o hMW (by omega) hkl2 (by simp [encP]) (by omega) h2 h3 (fun j u hj => ?_) h1.one (fun u hu => ?_)).mono ?_
    · unfold World.cell?
      rw [h3]
      simp only [Nat.zero_add]
      simp only [List.flatMap_cons, List.flatMap_nil, encP, nilT, List.append_nil, List.cons_append, List.nil_append] at hj
      rw [← hj]
      simp
    · simp only [List.flatMap_cons, List.flatMap_nil, encP, nilT, List.append_nil, List.cons_append, List.nil_append, List.mem_cons, List.not_mem_nil, or_false] at hu
      rcases hu with rfl | rfl | rfl | rfl | rfl | rfl | rfl | rfl <;> rfl
    · rintro e w' ⟨g', c', rfl, k1, k2, k3⟩
      refine ⟨g', c', rfl, ⟨?_, fun p hp => ?_⟩, k2, k3⟩
      · have e1 : (ps.take k ++ [(s, Value.slice ay s.items.length cy), (nilT, .slice none 0 0)] ++ ps.drop k).flatMap encP = (ps.flatMap encP).take (k * 4) ++ [(s, Value.slice ay s.items.length cy), (nilT, .slice none 0 0)].flatMap encP ++ (ps.flatMap encP).drop (k * 4) := by
          rw [List.flatMap_append, List.flatMap_append, flat_take26, flat_drop26]
        have e2 : (ps.take k ++ [(s, Value.slice ay s.items.length cy), (nilT, .slice none 0 0)] ++ ps.drop k).length = t.items.length + 2 := by simp; omega
        rw [e1, e2]
        exact k1
      · have hst : ∀ {l : List VT} {v : Value}, LiesX X 16 W l v → LiesX X 16 w' l v := fun h => LiesX.stays (fun _ h => h) (fun ad u ha hu => grown_cell26 k2 hu (fun e => by
          obtain ⟨_, _, _, _, k9⟩ := own_slice26 h1.own
          have := (k9 _ e.symm).1
          have := hXM _ ha
          omega)) h
        rcases List.mem_append.1 hp with hp | hp
        · rcases List.mem_append.1 hp with hp | hp
          · exact ⟨hst (h1.lie p (List.mem_of_mem_take hp)).1, (h1.lie p (List.mem_of_mem_take hp)).2⟩
          · rcases List.mem_cons.1 hp with rfl | hp
            · exact ⟨hst h4, by show s.text.size ≤ _; omega⟩
            · have : p = (nilT, Value.slice none 0 0) := by simpa using hp
              subst this
              exact ⟨liesX_nil _ _ _ _ _, by show 0 ≤ _; omega⟩
        · exact ⟨hst (h1.lie p (List.mem_of_mem_drop hp)).1, (h1.lie p (List.mem_of_mem_drop hp)).2⟩
  have HT : Hid (Bx (op3 w t s (.slice a t.items.length c) (.slice ay s.items.length cy)) w.heap.size t (.slice a t.items.length c)) := op3_fst _ _ _ _ _
  have HS : Hid (Bx (op3 w t s (.slice a t.items.length c) (.slice ay s.items.length cy)) (w.heap.size + 1) s (.slice ay s.items.length cy)) := op3_snd _ _ _ _ _
  have HR : Hid (Bx (op3 w t s (.slice a t.items.length c) (.slice ay s.items.length cy)) (w.heap.size + 2) zeroT (.slice none 0 0)) := op3_thd _ _ _ _ _
  have hb0 := op3_below w t s (.slice a t.items.length c) (.slice ay s.items.length cy)
  obtain ⟨W0, hW0⟩ : ∃ W0, W0 = op3 w t s (.slice a t.items.length c) (.slice ay s.items.length cy) := ⟨_, rfl⟩
  have HW0 : Hid (W0 = op3 w t s (.slice a t.items.length c) (.slice ay s.items.length cy)) := hW0
  rw [← hW0] at HT HS HR hb0
  have HZ0 : Hid (W0.heap.size = w.heap.size + 3) := by rw [hW0]; exact op3_size _ _ _ _ _
  clear hW0
  unfold op3 at HW0
  have HO : Hid (OwnX X M w ps (.slice a t.items.length c)) := hrow
  have HLs : Hid (LiesX X 16 w s.items (.slice ay s.items.length cy)) := hs
  have Hbl : Hid (∀ q, (Value.slice a t.items.length c).ownBlock = some q → M ≤ q ∧ q < w.heap.size) := by
    obtain ⟨_, _, _, _, k9⟩ := own_slice26 hrow.own
    exact k9
  generalize OpPost X M t s w = PP at *
  have hKb : k + 2 ≤ 65536 := by omega
  have hks : IntKind.i64.wrap (((k + 1 : Nat) : Int) - 1) = (k : Int) := by rw [IntKind.wrap_i64]; omega
  clear hop hkey hkeyl hlen hle hkl hB hI hrow hs hr hd hh hps h0 hk hkl2 hpl hssz hsr
  generalize t.items.length = lt at *
  have HLZ : Hid (∀ W, Below w.heap.size w W → LiesX X 16 W s.items (.slice ay s.items.length cy)) := fun W hW => HLs.out.keeps hW
  clear HLs
  generalize hsi : s.items.length = lz at *
  have Hsi : Hid (s.items.length = lz) := hsi
  clear hsi
  generalize hK1 : ((k + 1 : Nat) : Int) = K1 at *
  clear hK1
  obtain ⟨t0, t1, t2, t3, f0, f1, f2, f3⟩ := HT.out
  obtain ⟨s0, s1, s2, s3, _, _, _, _⟩ := HS.out
  rw [hk6] at HPl t0 HW0 ⊢
  go_enter Tryz.func36, Tryz.ntmps36
  go_upto_region 1 with fail
  rw [← HW0.out]
  clear HW0
  go_wp2_with fail
  refine Calls.mono (HPl.out _ hb0) ?_
  rintro e w1 ⟨rfl, hb1⟩
  have hb2 : Below w.heap.size w w1 := hb0.trans (hb1.mono hb0.size)
  have HR1 : Hid (Bx w1 (w.heap.size + 2) zeroT (.slice none 0 0)) := HR.out.keeps hb1
  have HT1 : Hid (Bx w1 w.heap.size t (.slice a lt c)) := HT.out.keeps hb1
  have HS1 : Hid (Bx w1 (w.heap.size + 1) s (.slice ay lz cy)) := HS.out.keeps hb1
  have hsz1 : w.heap.size + 3 ≤ w1.heap.size := by have := hb1.size; have := HZ0.out; omega
  have HO1 : Hid (OwnX X M w1 ps (.slice a lt c)) := HO.out.keeps hb2
  clear hb1 hb0 HPl HT HS HR HO t0 t1 t2 t3 f0 f1 f2 f3 s0 s1 s2 s3 HZ0
  obtain ⟨w1', hw1'⟩ : ∃ w1', w1' = w1 := ⟨_, rfl⟩
  have Hw1' : Hid (w1' = w1) := hw1'
  have hb1' : Below M w w1' := by rw [hw1']; exact hb2.mono hM
  have HT1' : Hid (Bx w1' w.heap.size ⟨6, t.num, t.text, []⟩ (.slice a lt c)) := by
    rw [hw1']
    have h9 := HT1.out.c0
    rw [hk6] at h9
    exact ⟨h9, HT1.out.c1, HT1.out.c2, HT1.out.c3, HT1.out.f0, HT1.out.f1, HT1.out.f2, HT1.out.f3⟩
  have HS1' : Hid (Bx w1' (w.heap.size + 1) s (.slice ay lz cy)) := by rw [hw1']; exact HS1.out
  have HR1' : Hid (Bx w1' (w.heap.size + 2) zeroT (.slice none 0 0)) := by rw [hw1']; exact HR1.out
  have HO1' : Hid (OwnX X M w1' ps (.slice a lt c)) := by rw [hw1']; exact HO1.out
  have HLs1' : Hid (LiesX X 16 w1' s.items (.slice ay lz cy)) := by rw [hw1']; exact HLZ.out w1 hb2
  have hsz1 : w.heap.size + 3 ≤ w1'.heap.size := by rw [hw1']; exact hsz1
  clear hw1' HT1 HS1 HR1 HO1 hb2
  rw [← Hw1'.out]
  clear Hw1'
  have Hb1' : Hid (Below M w w1') := hb1'
  obtain ⟨t0, t1, t2, t3, f0, f1, f2, f3⟩ := HT1'.out
  obtain ⟨s0, s1, s2, s3, _, _, _, _⟩ := HS1'.out
  obtain ⟨V, hV⟩ : ∃ V, V = w1'.alloc (.cells #[.int .i64 s.kind, .int .i64 s.num, .string s.text, .slice ay lz cy, .int .i64 0, .int .i64 0, .string ⟨#[]⟩, .slice none 0 0] 24) := ⟨_, rfl⟩
  have HV : Hid (V = w1'.alloc (.cells #[.int .i64 s.kind, .int .i64 s.num, .string s.text, .slice ay lz cy, .int .i64 0, .int .i64 0, .string ⟨#[]⟩, .slice none 0 0] 24)) := hV
  have hal : Below w1'.heap.size w1' V := by rw [hV]; exact ((Grew.refl _).alloc _).below
  have HVq : Hid (V.heap[w1'.heap.size]? = some (.cells #[.int .i64 s.kind, .int .i64 s.num, .string s.text, .slice ay lz cy, .int .i64 0, .int .i64 0, .string ⟨#[]⟩, .slice none 0 0] 24 (0, 0))) := by rw [hV]; exact heap_alloc_new w1' _
  have HOV : Hid (OwnX X M V ps (.slice a lt c)) := HO1'.out.keeps hal
  have hMV : M ≤ V.heap.size := by have := hal.size; omega
  have HC : Hid (Calls Tryz.prog 58 #[.slice a lt c, .int .i64 (k : Int), .slice (some ⟨w1'.heap.size, 0, none⟩) 2 2] V fun e w' => ∃ g' c', e = .returned (.slice (some ⟨g', 0, none⟩) (lt + 2) c') ∧ OwnX X M w' (ps.take k ++ [(s, .slice ay lz cy), (nilT, .slice none 0 0)] ++ ps.drop k) (.slice (some ⟨g', 0, none⟩) (lt + 2) c') ∧ V.grownBy w' (Value.slice a lt c).ownBlock ∧ ((Value.slice a lt c).ownBlock = some g' ∨ V.heap.size ≤ g')) := by
    refine HI.out V w1'.heap.size HOV.out hMV (fun e => by have := (Hbl.out _ e).2; omega) HVq.out ?_
    exact (HLs1'.out).keeps hal
  have HTV : Hid (Bx V w.heap.size ⟨6, t.num, t.text, []⟩ (.slice a lt c)) := HT1'.out.keeps hal
  have HRV : Hid (Bx V (w.heap.size + 2) zeroT (.slice none 0 0)) := HR1'.out.keeps hal
  have hbV : Below M w V := hb1'.trans (hal.mono (by omega))
  have hVs : w1'.heap.size ≤ V.heap.size := hal.size
  clear hV hb1' hal HVq HOV HI
  go_wp2_with fail
  rw [← HV.out]
  clear HV
  refine Calls.mono HC.out ?_
  rintro e w3 ⟨g9, c3, rfl, hO3, hg3, hw9⟩
  have HO3 : Hid (OwnX X M w3 (ps.take k ++ [(s, .slice ay lz cy), (nilT, .slice none 0 0)] ++ ps.drop k) (.slice (some ⟨g9, 0, none⟩) (lt + 2) c3)) := hO3
  have hn0 : some w.heap.size ≠ (Value.slice a lt c).ownBlock := fun e => by have := (Hbl.out _ e.symm).2; omega
  have hn2 : some (w.heap.size + 2) ≠ (Value.slice a lt c).ownBlock := fun e => by have := (Hbl.out _ e.symm).2; omega
  have HT3 : Hid (Bx w3 w.heap.size ⟨6, t.num, t.text, []⟩ (.slice a lt c)) := grown_bx26 hg3 hn0 HTV.out
  have HR3 : Hid (Bx w3 (w.heap.size + 2) zeroT (.slice none 0 0)) := grown_bx26 hg3 hn2 HRV.out
  have hb3 : Below M w w3 := hbV.trans (grown_belowM hg3 (fun q hq => (Hbl.out q hq).1) hMV)
  have hg9 : g9 < w.heap.size ∨ w.heap.size + 3 ≤ g9 := by
    rcases hw9 with h | h
    · exact .inl (Hbl.out _ h).2
    · exact .inr (by omega)
  have hnb : ∀ j, j < 3 → (Value.slice (some ⟨g9, 0, none⟩) (lt + 2) c3).ownBlock ≠ some (w.heap.size + j) := fun j hj e => by
    have e : g9 = w.heap.size + j := by simpa [Value.ownBlock] using e
    omega
  have HE3 : Hid (PP (.returned (.tuple #[.agg #[.int .i64 6, .int .i64 t.num, .string t.text, .slice (some ⟨g9, 0, none⟩) (lt + 2) c3], .int .i64 K1, .int .i64 0])) ((w3.setCell ⟨w.heap.size, 3, none⟩ (.slice (some ⟨g9, 0, none⟩) (lt + 2) c3)).setCells (w.heap.size + 2) 0 (encP (⟨6, t.num, t.text, []⟩, .slice (some ⟨g9, 0, none⟩) (lt + 2) c3)))) :=
    HE.out _ _ c3 ((HO3.out.set hXM (by omega) (hnb 0 (by omega)) _ _).set4 hXM (by omega) (hnb 2 (by omega)) _) (below_putM (below_setM hb3 (by omega) _ _) (by omega) _)
  have Hq3 : Hid (Bx ((w3.setCell ⟨w.heap.size, 3, none⟩ (.slice (some ⟨g9, 0, none⟩) (lt + 2) c3)).setCells (w.heap.size + 2) 0 (encP (⟨6, t.num, t.text, []⟩, .slice (some ⟨g9, 0, none⟩) (lt + 2) c3))) (w.heap.size + 2) ⟨6, t.num, t.text, []⟩ (.slice (some ⟨g9, 0, none⟩) (lt + 2) c3)) := (HR3.out.other1 (by omega) 3 _).put _
  obtain ⟨t0, t1, t2, t3, f0, f1, f2, f3⟩ := HT3.out
  obtain ⟨z0, z1, z2, z3, y0, y1, y2, y3⟩ := HR3.out
  have hne20 : w.heap.size + 2 ≠ w.heap.size := by omega
  clear hVs
  clear hO3 hg3 hw9 HO3 hn0 hn2 HT3 HR3 hb3 hg9 hnb HE HC HTV HRV hbV hMV Hbl Hb1' HT1' HS1' HR1' HO1' HLs1' HLZ Hsi s0 s1 s2 s3
  go_wp2_with fail
  refine bodyPost_ret (v := .tuple #[.agg #[.int .i64 6, .int .i64 t.num, .string t.text, .slice (some ⟨g9, 0, none⟩) (lt + 2) c3], .int .i64 K1, .int .i64 0]) ?_ rfl HE3.out
  obtain ⟨q0, q1, q2, q3, _, _, _, _⟩ := Hq3.out
  simp only [World.setCells, encP, Nat.zero_add, Nat.reduceAdd] at q0 q1 q2 q3
  simp [results, Tryz.results36, go_sem, q0, q1, q2, q3]

set_option maxRecDepth 100000 in
set_option maxHeartbeats 8000000 in
theorem opened_new0 (X : Nat → Prop) (M : Nat) (hXM : ∀ b, X b → b < M) (t s : VT) (ps : List (VT × Value)) (a ay : Option Addr) (c cy : Nat) (w : World) (hM : M ≤ w.heap.size) (hps : ps.map (·.1) = t.items) (hrow : OwnX X M w ps (.slice a t.items.length c)) (hs : LiesX X 16 w s.items (.slice ay s.items.length cy)) (hr : rightV 16 t = true) (hd : Dp 16 t) (hsr : rightV 16 s = true) (hk6 : t.kind = 0) (hh : hasN s (keysOf t.items) = false) :
    Calls Tryz.prog 36 #[.agg #[.int .i64 t.kind, .int .i64 t.num, .string t.text, .slice a t.items.length c], .agg #[.int .i64 s.kind, .int .i64 s.num, .string s.text, .slice ay s.items.length cy]] w (OpPost X M t s w) := by
  have h0 : t.kind = 0 ∨ t.kind = 6 := by omega
  have hkey : keyed s t.items = t.items.take (2 * upN s (keysOf t.items)) ++ s :: nilT :: t.items.drop (2 * upN s (keysOf t.items)) := by unfold keyed; rw [if_neg (by rw [hh]; simp)]
  have hlen := right_len hr
  have hle := upN_le s (keysOf t.items)
  have hkl := keysOf_len t.items
  have hB : plcB t s = false := by unfold plcB; rw [if_pos h0]; exact hh
  have hI : plcI t s = ((2 * upN s (keysOf t.items) + 1 : Nat) : Int) := by unfold plcI; rw [if_pos h0]
  have hop : opnT t s = some (⟨6, t.num, t.text, keyed s t.items⟩, 2 * upN s (keysOf t.items) + 1) := by unfold opnT; rw [if_pos h0]
  have hssz := right_size hsr
  obtain ⟨k, hk⟩ : ∃ k, k = 2 * upN s (keysOf t.items) := ⟨_, rfl⟩
  rw [← hk] at hkey hI hop
  have hkl2 : k ≤ t.items.length := by omega
  have hpl : ps.length = t.items.length := by rw [← hps, List.length_map]
  have HPl : Hid (∀ W, Below w.heap.size w W → Calls Tryz.prog 30 #[.agg #[.int .i64 t.kind, .int .i64 t.num, .string t.text, .slice a t.items.length c], .agg #[.int .i64 s.kind, .int .i64 s.num, .string s.text, .slice ay s.items.length cy]] W fun e w' => e = .returned (.tuple #[.int .i64 ((k + 1 : Nat) : Int), .bool false]) ∧ Below W.heap.size W w') := fun W hW => by
    have := place_any t s _ _ W (Lies.keeps hW _ _ _ (own_to16 hrow hps hlen hd)) (Lies.keeps hW _ _ _ hs.lies) hr
    unfold PlPost at this
    rwa [hB, hI] at this
  have hkeyl : (keyed s t.items).length = t.items.length + 2 := by rw [hkey]; simp; omega
  have HE : Hid (∀ W a' c', OwnX X M W (ps.take k ++ [(s, .slice ay s.items.length cy), (nilT, .slice none 0 0)] ++ ps.drop k) (.slice a' (t.items.length + 2) c') → Below M w W → OpPost X M t s w (.returned (.tuple #[.agg #[.int .i64 6, .int .i64 t.num, .string t.text, .slice a' (t.items.length + 2) c'], .int .i64 ((k + 1 : Nat) : Int), .int .i64 0])) W) := fun W a' c' h1 h2 => by
    have := op_some (ps' := ps.take k ++ [(s, .slice ay s.items.length cy), (nilT, .slice none 0 0)] ++ ps.drop k) (a := a') (c := c') hop (by
      show _ = keyed s t.items
      rw [hkey, ← hps]; simp [List.map_take, List.map_drop]) (by rw [hkeyl]; exact h1) h2
    rw [hkeyl] at this
    exact this
  have HI : Hid (∀ W vb, OwnX X M W ps (.slice a t.items.length c) → M ≤ W.heap.size → (Value.slice a t.items.length c).ownBlock ≠ some vb → W.heap[vb]? = some (.cells #[.int .i64 s.kind, .int .i64 s.num, .string s.text, .slice ay s.items.length cy, .int .i64 0, .int .i64 0, .string ⟨#[]⟩, .slice none 0 0] 24 (0, 0)) → LiesX X 16 W s.items (.slice ay s.items.length cy) →
      Calls Tryz.prog 58 #[.slice a t.items.length c, .int .i64 (k : Int), .slice (some ⟨vb, 0, none⟩) 2 2] W fun e w' => ∃ g' c', e = .returned (.slice (some ⟨g', 0, none⟩) (t.items.length + 2) c') ∧ OwnX X M w' (ps.take k ++ [(s, .slice ay s.items.length cy), (nilT, .slice none 0 0)] ++ ps.drop k) (.slice (some ⟨g', 0, none⟩) (t.items.length + 2) c') ∧ W.grownBy w' (Value.slice a t.items.length c).ownBlock ∧ ((Value.slice a t.items.length c).ownBlock = some g' ∨ W.heap.size ≤ g')) := fun W vb h1 hMW h2 h3 h4 => by
    have h1o := h1.own
    rw [hpl] at h1o
    refine (insert_any M _ t.items.length 2 k vb 2 (ps.flatMap encP) ([(s, Value.slice ay s.items.length cy), (nilT, .slice none 0 0)].flatMap encP) _ 24 W h1o hMW (by omega) hkl2 (by simp [encP]) (by omega) h2 h3 (fun j u hj => ?_) h1.one (fun u hu => ?_)).mono ?_
    · unfold World.cell?
      rw [h3]
      simp only [Nat.zero_add]
      simp only [List.flatMap_cons, List.flatMap_nil, encP, nilT, List.append_nil, List.cons_append, List.nil_append] at hj
      rw [← hj]
      simp
    · simp only [List.flatMap_cons, List.flatMap_nil, encP, nilT, List.append_nil, List.cons_append, List.nil_append, List.mem_cons, List.not_mem_nil, or_false] at hu
      rcases hu with rfl | rfl | rfl | rfl | rfl | rfl | rfl | rfl <;> rfl
    · rintro e w' ⟨g', c', rfl, k1, k2, k3⟩
      refine ⟨g', c', rfl, ⟨?_, fun p hp => ?_⟩, k2, k3⟩
      · have e1 : (ps.take k ++ [(s, Value.slice ay s.items.length cy), (nilT, .slice none 0 0)] ++ ps.drop k).flatMap encP = (ps.flatMap encP).take (k * 4) ++ [(s, Value.slice ay s.items.length cy), (nilT, .slice none 0 0)].flatMap encP ++ (ps.flatMap encP).drop (k * 4) := by
          rw [List.flatMap_append, List.flatMap_append, flat_take26, flat_drop26]
        have e2 : (ps.take k ++ [(s, Value.slice ay s.items.length cy), (nilT, .slice none 0 0)] ++ ps.drop k).length = t.items.length + 2 := by simp; omega
        rw [e1, e2]
        exact k1
      · have hst : ∀ {l : List VT} {v : Value}, LiesX X 16 W l v → LiesX X 16 w' l v := fun h => LiesX.stays (fun _ h => h) (fun ad u ha hu => grown_cell26 k2 hu (fun e => by
          obtain ⟨_, _, _, _, k9⟩ := own_slice26 h1.own
          have := (k9 _ e.symm).1
          have := hXM _ ha
          omega)) h
        rcases List.mem_append.1 hp with hp | hp
        · rcases List.mem_append.1 hp with hp | hp
          · exact ⟨hst (h1.lie p (List.mem_of_mem_take hp)).1, (h1.lie p (List.mem_of_mem_take hp)).2⟩
          · rcases List.mem_cons.1 hp with rfl | hp
            · exact ⟨hst h4, by show s.text.size ≤ _; omega⟩
            · have : p = (nilT, Value.slice none 0 0) := by simpa using hp
              subst this
              exact ⟨liesX_nil _ _ _ _ _, by show 0 ≤ _; omega⟩
        · exact ⟨hst (h1.lie p (List.mem_of_mem_drop hp)).1, (h1.lie p (List.mem_of_mem_drop hp)).2⟩
  have HT : Hid (Bx (op3 w t s (.slice a t.items.length c) (.slice ay s.items.length cy)) w.heap.size t (.slice a t.items.length c)) := op3_fst _ _ _ _ _
  have HS : Hid (Bx (op3 w t s (.slice a t.items.length c) (.slice ay s.items.length cy)) (w.heap.size + 1) s (.slice ay s.items.length cy)) := op3_snd _ _ _ _ _
  have HR : Hid (Bx (op3 w t s (.slice a t.items.length c) (.slice ay s.items.length cy)) (w.heap.size + 2) zeroT (.slice none 0 0)) := op3_thd _ _ _ _ _
  have hb0 := op3_below w t s (.slice a t.items.length c) (.slice ay s.items.length cy)
  obtain ⟨W0, hW0⟩ : ∃ W0, W0 = op3 w t s (.slice a t.items.length c) (.slice ay s.items.length cy) := ⟨_, rfl⟩
  have HW0 : Hid (W0 = op3 w t s (.slice a t.items.length c) (.slice ay s.items.length cy)) := hW0
  rw [← hW0] at HT HS HR hb0
  have HZ0 : Hid (W0.heap.size = w.heap.size + 3) := by rw [hW0]; exact op3_size _ _ _ _ _
  clear hW0
  unfold op3 at HW0
  have HO : Hid (OwnX X M w ps (.slice a t.items.length c)) := hrow
  have HLs : Hid (LiesX X 16 w s.items (.slice ay s.items.length cy)) := hs
  have Hbl : Hid (∀ q, (Value.slice a t.items.length c).ownBlock = some q → M ≤ q ∧ q < w.heap.size) := by
    obtain ⟨_, _, _, _, k9⟩ := own_slice26 hrow.own
    exact k9
  generalize OpPost X M t s w = PP at *
  have hKb : k + 2 ≤ 65536 := by omega
  have hks : IntKind.i64.wrap (((k + 1 : Nat) : Int) - 1) = (k : Int) := by rw [IntKind.wrap_i64]; omega
  clear hop hkey hkeyl hlen hle hkl hB hI hrow hs hr hd hh hps h0 hk hkl2 hpl hssz hsr
  generalize t.items.length = lt at *
  have HLZ : Hid (∀ W, Below w.heap.size w W → LiesX X 16 W s.items (.slice ay s.items.length cy)) := fun W hW => HLs.out.keeps hW
  clear HLs
  generalize hsi : s.items.length = lz at *
  have Hsi : Hid (s.items.length = lz) := hsi
  clear hsi
  generalize hK1 : ((k + 1 : Nat) : Int) = K1 at *
  clear hK1
  obtain ⟨t0, t1, t2, t3, f0, f1, f2, f3⟩ := HT.out
  obtain ⟨s0, s1, s2, s3, _, _, _, _⟩ := HS.out
  rw [hk6] at HPl t0 HW0 ⊢
  go_enter Tryz.func36, Tryz.ntmps36
  go_upto_region 1 with fail
  rw [← HW0.out]
  clear HW0
  go_wp2_with fail
  refine Calls.mono (HPl.out _ hb0) ?_
  rintro e w1 ⟨rfl, hb1⟩
  have hb2 : Below w.heap.size w w1 := hb0.trans (hb1.mono hb0.size)
  have HR1 : Hid (Bx w1 (w.heap.size + 2) zeroT (.slice none 0 0)) := HR.out.keeps hb1
  have HT1 : Hid (Bx w1 w.heap.size t (.slice a lt c)) := HT.out.keeps hb1
  have HS1 : Hid (Bx w1 (w.heap.size + 1) s (.slice ay lz cy)) := HS.out.keeps hb1
  have hsz1 : w.heap.size + 3 ≤ w1.heap.size := by have := hb1.size; have := HZ0.out; omega
  have HO1 : Hid (OwnX X M w1 ps (.slice a lt c)) := HO.out.keeps hb2
  clear hb1 hb0 HPl HT HS HR HO t0 t1 t2 t3 f0 f1 f2 f3 s0 s1 s2 s3 HZ0
  obtain ⟨w1', hw1'⟩ : ∃ w1', w1' = w1.setCell ⟨w.heap.size, 0, none⟩ (.int .i64 6) := ⟨_, rfl⟩
  have Hw1' : Hid (w1' = w1.setCell ⟨w.heap.size, 0, none⟩ (.int .i64 6)) := hw1'
  have hb1' : Below M w w1' := by rw [hw1']; exact below_setM (hb2.mono hM) (by omega) _ _
  have HT1' : Hid (Bx w1' w.heap.size ⟨6, t.num, t.text, []⟩ (.slice a lt c)) := by rw [hw1']; exact HT1.out.kind 6
  have HS1' : Hid (Bx w1' (w.heap.size + 1) s (.slice ay lz cy)) := by rw [hw1']; exact HS1.out.other1 (by omega) 0 _
  have HR1' : Hid (Bx w1' (w.heap.size + 2) zeroT (.slice none 0 0)) := by rw [hw1']; exact HR1.out.other1 (by omega) 0 _
  have HO1' : Hid (OwnX X M w1' ps (.slice a lt c)) := by
    rw [hw1']
    exact HO1.out.set hXM (by omega) (fun e => by have := (Hbl.out _ e).2; omega) _ _
  have HLs1' : Hid (LiesX X 16 w1' s.items (.slice ay lz cy)) := by
    rw [hw1']
    refine LiesX.stays (fun _ h => h) (fun ad u ha hu => ?_) (HLZ.out w1 hb2)
    exact cell_other1 (fun e => by have := hXM _ ha; omega) hu
  have hsz1 : w.heap.size + 3 ≤ w1'.heap.size := by rw [hw1']; simpa [World.setCell] using hsz1
  have x0 := HT1.out.c0
  have x1 := HT1.out.f0
  rw [hk6] at x0
  clear hw1' HT1 HS1 HR1 HO1 hb2
  have Hb1' : Hid (Below M w w1') := hb1'
  obtain ⟨t0, t1, t2, t3, f0, f1, f2, f3⟩ := HT1'.out
  obtain ⟨s0, s1, s2, s3, _, _, _, _⟩ := HS1'.out
  obtain ⟨V, hV⟩ : ∃ V, V = w1'.alloc (.cells #[.int .i64 s.kind, .int .i64 s.num, .string s.text, .slice ay lz cy, .int .i64 0, .int .i64 0, .string ⟨#[]⟩, .slice none 0 0] 24) := ⟨_, rfl⟩
  have HV : Hid (V = w1'.alloc (.cells #[.int .i64 s.kind, .int .i64 s.num, .string s.text, .slice ay lz cy, .int .i64 0, .int .i64 0, .string ⟨#[]⟩, .slice none 0 0] 24)) := hV
  have hal : Below w1'.heap.size w1' V := by rw [hV]; exact ((Grew.refl _).alloc _).below
  have HVq : Hid (V.heap[w1'.heap.size]? = some (.cells #[.int .i64 s.kind, .int .i64 s.num, .string s.text, .slice ay lz cy, .int .i64 0, .int .i64 0, .string ⟨#[]⟩, .slice none 0 0] 24 (0, 0))) := by rw [hV]; exact heap_alloc_new w1' _
  have HOV : Hid (OwnX X M V ps (.slice a lt c)) := HO1'.out.keeps hal
  have hMV : M ≤ V.heap.size := by have := hal.size; omega
  have HC : Hid (Calls Tryz.prog 58 #[.slice a lt c, .int .i64 (k : Int), .slice (some ⟨w1'.heap.size, 0, none⟩) 2 2] V fun e w' => ∃ g' c', e = .returned (.slice (some ⟨g', 0, none⟩) (lt + 2) c') ∧ OwnX X M w' (ps.take k ++ [(s, .slice ay lz cy), (nilT, .slice none 0 0)] ++ ps.drop k) (.slice (some ⟨g', 0, none⟩) (lt + 2) c') ∧ V.grownBy w' (Value.slice a lt c).ownBlock ∧ ((Value.slice a lt c).ownBlock = some g' ∨ V.heap.size ≤ g')) := by
    refine HI.out V w1'.heap.size HOV.out hMV (fun e => by have := (Hbl.out _ e).2; omega) HVq.out ?_
    exact (HLs1'.out).keeps hal
  have HTV : Hid (Bx V w.heap.size ⟨6, t.num, t.text, []⟩ (.slice a lt c)) := HT1'.out.keeps hal
  have HRV : Hid (Bx V (w.heap.size + 2) zeroT (.slice none 0 0)) := HR1'.out.keeps hal
  have hbV : Below M w V := hb1'.trans (hal.mono (by omega))
  have hVs : w1'.heap.size ≤ V.heap.size := hal.size
  clear hV hb1' hal HVq HOV HI
  go_upto_region 7 with fail
  rw [← Hw1'.out]
  clear Hw1' x0 x1
  go_wp2_with fail
  rw [← HV.out]
  clear HV
  refine Calls.mono HC.out ?_
  rintro e w3 ⟨g9, c3, rfl, hO3, hg3, hw9⟩
  have HO3 : Hid (OwnX X M w3 (ps.take k ++ [(s, .slice ay lz cy), (nilT, .slice none 0 0)] ++ ps.drop k) (.slice (some ⟨g9, 0, none⟩) (lt + 2) c3)) := hO3
  have hn0 : some w.heap.size ≠ (Value.slice a lt c).ownBlock := fun e => by have := (Hbl.out _ e.symm).2; omega
  have hn2 : some (w.heap.size + 2) ≠ (Value.slice a lt c).ownBlock := fun e => by have := (Hbl.out _ e.symm).2; omega
  have HT3 : Hid (Bx w3 w.heap.size ⟨6, t.num, t.text, []⟩ (.slice a lt c)) := grown_bx26 hg3 hn0 HTV.out
  have HR3 : Hid (Bx w3 (w.heap.size + 2) zeroT (.slice none 0 0)) := grown_bx26 hg3 hn2 HRV.out
  have hb3 : Below M w w3 := hbV.trans (grown_belowM hg3 (fun q hq => (Hbl.out q hq).1) hMV)
  have hg9 : g9 < w.heap.size ∨ w.heap.size + 3 ≤ g9 := by
    rcases hw9 with h | h
    · exact .inl (Hbl.out _ h).2
    · exact .inr (by omega)
  have hnb : ∀ j, j < 3 → (Value.slice (some ⟨g9, 0, none⟩) (lt + 2) c3).ownBlock ≠ some (w.heap.size + j) := fun j hj e => by
    have e : g9 = w.heap.size + j := by simpa [Value.ownBlock] using e
    omega
  have HE3 : Hid (PP (.returned (.tuple #[.agg #[.int .i64 6, .int .i64 t.num, .string t.text, .slice (some ⟨g9, 0, none⟩) (lt + 2) c3], .int .i64 K1, .int .i64 0])) ((w3.setCell ⟨w.heap.size, 3, none⟩ (.slice (some ⟨g9, 0, none⟩) (lt + 2) c3)).setCells (w.heap.size + 2) 0 (encP (⟨6, t.num, t.text, []⟩, .slice (some ⟨g9, 0, none⟩) (lt + 2) c3)))) :=
    HE.out _ _ c3 ((HO3.out.set hXM (by omega) (hnb 0 (by omega)) _ _).set4 hXM (by omega) (hnb 2 (by omega)) _) (below_putM (below_setM hb3 (by omega) _ _) (by omega) _)
  have Hq3 : Hid (Bx ((w3.setCell ⟨w.heap.size, 3, none⟩ (.slice (some ⟨g9, 0, none⟩) (lt + 2) c3)).setCells (w.heap.size + 2) 0 (encP (⟨6, t.num, t.text, []⟩, .slice (some ⟨g9, 0, none⟩) (lt + 2) c3))) (w.heap.size + 2) ⟨6, t.num, t.text, []⟩ (.slice (some ⟨g9, 0, none⟩) (lt + 2) c3)) := (HR3.out.other1 (by omega) 3 _).put _
  obtain ⟨t0, t1, t2, t3, f0, f1, f2, f3⟩ := HT3.out
  obtain ⟨z0, z1, z2, z3, y0, y1, y2, y3⟩ := HR3.out
  have hne20 : w.heap.size + 2 ≠ w.heap.size := by omega
  clear hVs
  clear hO3 hg3 hw9 HO3 hn0 hn2 HT3 HR3 hb3 hg9 hnb HE HC HTV HRV hbV hMV Hbl Hb1' HT1' HS1' HR1' HO1' HLs1' HLZ Hsi s0 s1 s2 s3
  go_wp2_with fail
  refine bodyPost_ret (v := .tuple #[.agg #[.int .i64 6, .int .i64 t.num, .string t.text, .slice (some ⟨g9, 0, none⟩) (lt + 2) c3], .int .i64 K1, .int .i64 0]) ?_ rfl HE3.out
  obtain ⟨q0, q1, q2, q3, _, _, _, _⟩ := Hq3.out
  simp only [World.setCells, encP, Nat.zero_add, Nat.reduceAdd] at q0 q1 q2 q3
  simp [results, Tryz.results36, go_sem, q0, q1, q2, q3]

end Go.Proofs.YtofceccicmlmoaaGreat

namespace Go.Proofs.YtofceccicmlmoaaGreat
open Go.RowKit Go.Shelf

set_option maxRecDepth 100000 in
set_option maxHeartbeats 4000000 in
theorem isNumber_any (s : VT) (a : Option Addr) (l c n : Nat) (w : World) :
    Calls Tryz.prog 59 #[.agg #[.int .i64 s.kind, .int .i64 s.num, .string s.text, .slice a l c], .int .i64 (n : Int)] w fun e w' => e = .returned (.bool (s.kind == 2 && s.num == (n : Int))) ∧ Below w.heap.size w w' := by
  have hal : Below w.heap.size w (w.alloc (.cells #[.int .i64 s.kind, .int .i64 s.num, .string s.text, .slice a l c] 24)) := ((Grew.refl w).alloc _).below
  cases hk : (s.kind == 2)
  · go_enter Tryz.func59, Tryz.ntmps59
    go_wp2_with fail
    go_ret
    exact ⟨rfl, hal⟩
  · go_enter Tryz.func59, Tryz.ntmps59
    go_wp2_with fail
    go_ret
    exact ⟨by simp, hal⟩

set_option maxRecDepth 100000 in
set_option maxHeartbeats 8000000 in
/-- Nothing can be put there. -/
theorem opened_not (X : Nat → Prop) (M : Nat) (t s : VT) (ps : List (VT × Value)) (a ay : Option Addr) (c cy : Nat) (w : World) (hM : M ≤ w.heap.size) (hps : ps.map (·.1) = t.items) (hrow : OwnX X M w ps (.slice a t.items.length c)) (hs : LiesX X 16 w s.items (.slice ay s.items.length cy)) (hr : rightV 16 t = true) (hd : Dp 16 t) (h0 : ¬ t.kind = 0) (h6 : ¬ t.kind = 6) (hno : t.kind = 4 → ¬ (s.kind = 2 ∧ s.num = (t.items.length : Int)) ∧ plcB t s = false) :
    Calls Tryz.prog 36 #[.agg #[.int .i64 t.kind, .int .i64 t.num, .string t.text, .slice a t.items.length c], .agg #[.int .i64 s.kind, .int .i64 s.num, .string s.text, .slice ay s.items.length cy]] w (OpPost X M t s w) := by
  have hop : opnT t s = none := by
    unfold opnT
    rw [if_neg (by omega)]
    by_cases h4 : t.kind = 4
    · rw [if_pos h4, if_neg (hno h4).1, if_neg (by rw [(hno h4).2]; simp)]
    · rw [if_neg h4]
  have hlen := right_len hr
  obtain ⟨I, hI⟩ : ∃ I, I = plcI t s := ⟨_, rfl⟩
  obtain ⟨B, hB⟩ : ∃ B, B = plcB t s := ⟨_, rfl⟩
  have HPl : Hid (∀ W, Below w.heap.size w W → Calls Tryz.prog 30 #[.agg #[.int .i64 t.kind, .int .i64 t.num, .string t.text, .slice a t.items.length c], .agg #[.int .i64 s.kind, .int .i64 s.num, .string s.text, .slice ay s.items.length cy]] W fun e w' => e = .returned (.tuple #[.int .i64 I, .bool B]) ∧ Below W.heap.size W w') := fun W hW => by
    have := place_any t s _ _ W (Lies.keeps hW _ _ _ (own_to16 hrow hps hlen hd)) (Lies.keeps hW _ _ _ hs.lies) hr
    unfold PlPost at this
    rwa [← hB, ← hI] at this
  have HN : Hid (t.kind = 4 → B = false ∧ ∀ W, Calls Tryz.prog 59 #[.agg #[.int .i64 s.kind, .int .i64 s.num, .string s.text, .slice ay s.items.length cy], .int .i64 (t.items.length : Int)] W fun e w' => e = .returned (.bool false) ∧ Below W.heap.size W w') := fun h4 => by
    refine ⟨by rw [hB]; exact (hno h4).2, fun W => ?_⟩
    have := isNumber_any s ay s.items.length cy t.items.length W
    have e : (s.kind == 2 && s.num == (t.items.length : Int)) = false := by
      have h9 := (hno h4).1
      rw [Bool.eq_false_iff]
      intro h10
      simp only [Bool.and_eq_true, beq_iff_eq] at h10
      exact h9 h10
    rwa [e] at this
  have HE : Hid (∀ W, Below M w W → OpPost X M t s w (.returned (.tuple #[.agg #[.int .i64 0, .int .i64 0, .string ⟨#[]⟩, .slice none 0 0], .int .i64 0, .int .i64 260])) W) := fun W h2 => op_none hop h2
  have HT : Hid (Bx (op3 w t s (.slice a t.items.length c) (.slice ay s.items.length cy)) w.heap.size t (.slice a t.items.length c)) := op3_fst _ _ _ _ _
  have HS : Hid (Bx (op3 w t s (.slice a t.items.length c) (.slice ay s.items.length cy)) (w.heap.size + 1) s (.slice ay s.items.length cy)) := op3_snd _ _ _ _ _
  have HR : Hid (Bx (op3 w t s (.slice a t.items.length c) (.slice ay s.items.length cy)) (w.heap.size + 2) zeroT (.slice none 0 0)) := op3_thd _ _ _ _ _
  have hb0 := op3_below w t s (.slice a t.items.length c) (.slice ay s.items.length cy)
  obtain ⟨W0, hW0⟩ : ∃ W0, W0 = op3 w t s (.slice a t.items.length c) (.slice ay s.items.length cy) := ⟨_, rfl⟩
  have HW0 : Hid (W0 = op3 w t s (.slice a t.items.length c) (.slice ay s.items.length cy)) := hW0
  rw [← hW0] at HT HS HR hb0
  clear hW0
  unfold op3 at HW0
  generalize OpPost X M t s w = PP at *
  clear hop hlen hI hB hrow hs hr hd hps hno
  generalize t.items.length = lt at *
  generalize s.items.length = lz at *
  by_cases h4 : t.kind = 4
  · obtain ⟨hBf, hN⟩ := HN.out h4
    subst hBf
    have HN2 : Hid (∀ W, Calls Tryz.prog 59 #[.agg #[.int .i64 s.kind, .int .i64 s.num, .string s.text, .slice ay lz cy], .int .i64 (lt : Int)] W fun e w' => e = .returned (.bool false) ∧ Below W.heap.size W w') := hN
    clear hN HN h0 h6
    obtain ⟨t0, t1, t2, t3, _, _, _, _⟩ := HT.out
    obtain ⟨s0, s1, s2, s3, _, _, _, _⟩ := HS.out
    rw [h4] at HPl t0 HW0 ⊢
    go_enter Tryz.func36, Tryz.ntmps36
    go_upto_region 1 with fail
    rw [← HW0.out]
    clear HW0
    go_wp2_with fail
    refine Calls.mono (HPl.out _ hb0) ?_
    rintro e w1 ⟨rfl, hb1⟩
    have hb2 : Below w.heap.size w w1 := hb0.trans (hb1.mono hb0.size)
    have HR1 : Hid (Bx w1 (w.heap.size + 2) zeroT (.slice none 0 0)) := HR.out.keeps hb1
    replace t0 := cell_keeps hb1 t0; replace t3 := cell_keeps hb1 t3
    replace s0 := cell_keeps hb1 s0; replace s1 := cell_keeps hb1 s1; replace s2 := cell_keeps hb1 s2; replace s3 := cell_keeps hb1 s3
    clear hb1 hb0 HPl HT HS HR t1 t2
    go_wp2_with fail
    refine Calls.mono (HN2.out _) ?_
    rintro e w2 ⟨rfl, hb3⟩
    have HR2 : Hid (Bx w2 (w.heap.size + 2) zeroT (.slice none 0 0)) := HR1.out.keeps hb3
    have hb4 : Below w.heap.size w w2 := hb2.trans (hb3.mono hb2.size)
    have HE1 : Hid (PP (.returned (.tuple #[.agg #[.int .i64 0, .int .i64 0, .string ⟨#[]⟩, .slice none 0 0], .int .i64 0, .int .i64 260])) (w2.setCells (w.heap.size + 2) 0 (encP (zeroT, .slice none 0 0)))) := HE.out _ (below_putM (hb4.mono hM) (by omega) _)
    have Hq : Hid (Bx (w2.setCells (w.heap.size + 2) 0 (encP (zeroT, .slice none 0 0))) (w.heap.size + 2) zeroT (.slice none 0 0)) := HR2.out.put (zeroT, .slice none 0 0)
    obtain ⟨z0, z1, z2, z3, g0, g1, g2, g3⟩ := HR2.out
    clear hb3 hb2 hb4 HR1 HR2 HE HN2 s0 s1 s2 s3
    go_wp2_with fail
    refine bodyPost_ret (v := .tuple #[.agg #[.int .i64 0, .int .i64 0, .string ⟨#[]⟩, .slice none 0 0], .int .i64 0, .int .i64 260]) ?_ rfl HE1.out
    obtain ⟨q0, q1, q2, q3, _, _, _, _⟩ := Hq.out
    simp only [World.setCells, encP, Nat.zero_add, Nat.reduceAdd] at q0 q1 q2 q3
    simp [results, Tryz.results36, go_sem, q0, q1, q2, q3]
  · clear HN
    obtain ⟨t0, t1, t2, t3, _, _, _, _⟩ := HT.out
    obtain ⟨s0, s1, s2, s3, _, _, _, _⟩ := HS.out
    go_enter Tryz.func36, Tryz.ntmps36
    go_upto_region 1 with fail
    rw [← HW0.out]
    clear HW0
    go_wp2_with fail
    refine Calls.mono (HPl.out _ hb0) ?_
    rintro e w1 ⟨rfl, hb1⟩
    have hb2 : Below w.heap.size w w1 := hb0.trans (hb1.mono hb0.size)
    have HR1 : Hid (Bx w1 (w.heap.size + 2) zeroT (.slice none 0 0)) := HR.out.keeps hb1
    replace t0 := cell_keeps hb1 t0
    have HE1 : Hid (PP (.returned (.tuple #[.agg #[.int .i64 0, .int .i64 0, .string ⟨#[]⟩, .slice none 0 0], .int .i64 0, .int .i64 260])) (w1.setCells (w.heap.size + 2) 0 (encP (zeroT, .slice none 0 0)))) := HE.out _ (below_putM (hb2.mono hM) (by omega) _)
    have Hq : Hid (Bx (w1.setCells (w.heap.size + 2) 0 (encP (zeroT, .slice none 0 0))) (w.heap.size + 2) zeroT (.slice none 0 0)) := HR1.out.put (zeroT, .slice none 0 0)
    obtain ⟨z0, z1, z2, z3, g0, g1, g2, g3⟩ := HR1.out
    clear hb1 hb0 hb2 HPl HT HS HR HR1 HE s0 s1 s2 s3 t1 t2 t3
    go_wp2_with fail
    refine bodyPost_ret (v := .tuple #[.agg #[.int .i64 0, .int .i64 0, .string ⟨#[]⟩, .slice none 0 0], .int .i64 0, .int .i64 260]) ?_ rfl HE1.out
    obtain ⟨q0, q1, q2, q3, _, _, _, _⟩ := Hq.out
    simp only [World.setCells, encP, Nat.zero_add, Nat.reduceAdd] at q0 q1 q2 q3
    simp [results, Tryz.results36, go_sem, q0, q1, q2, q3]

end Go.Proofs.YtofceccicmlmoaaGreat

