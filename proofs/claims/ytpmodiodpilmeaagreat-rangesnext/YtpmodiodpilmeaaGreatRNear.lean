/-
  The document's At, near, Floor, Ceil.
-/
import Derived.Test.YtpmodiodpilmeaaGreatPairS
import Derived.Test.YtpmodiodpilmeaaGreatNearP
namespace Go.Proofs.YtpmodiodpilmeaaGreat
open Go.RowKit Go.Shelf

/-- What the document tells of a pair: its lists lie in an older world. -/
def PrD3 (w0 : World) (x : PT) (B : Bool) (E : Int) (w : World) (e : Ending) (w' : World) : Prop := Below w.heap.size w w' ∧ ∃ a1 c1 a2 c2, e = .returned (.tuple #[.agg #[.int .i64 x.1.kind, .int .i64 x.1.num, .string x.1.text, .slice a1 x.1.items.length c1, .int .i64 x.2.kind, .int .i64 x.2.num, .string x.2.text, .slice a2 x.2.items.length c2], .bool B, .int .i64 E]) ∧ PrL w0 x (.slice a1 x.1.items.length c1) (.slice a2 x.2.items.length c2)
def PrD2 (w0 : World) (x : PT) (B : Bool) (w : World) (e : Ending) (w' : World) : Prop := Below w.heap.size w w' ∧ ∃ a1 c1 a2 c2, e = .returned (.tuple #[.agg #[.int .i64 x.1.kind, .int .i64 x.1.num, .string x.1.text, .slice a1 x.1.items.length c1, .int .i64 x.2.kind, .int .i64 x.2.num, .string x.2.text, .slice a2 x.2.items.length c2], .bool B]) ∧ PrL w0 x (.slice a1 x.1.items.length c1) (.slice a2 x.2.items.length c2)
def PrDE (w0 : World) (x : PT) (E : Int) (w : World) (e : Ending) (w' : World) : Prop := Below w.heap.size w w' ∧ ∃ a1 c1 a2 c2, e = .returned (.tuple #[.agg #[.int .i64 x.1.kind, .int .i64 x.1.num, .string x.1.text, .slice a1 x.1.items.length c1, .int .i64 x.2.kind, .int .i64 x.2.num, .string x.2.text, .slice a2 x.2.items.length c2], .int .i64 E]) ∧ PrL w0 x (.slice a1 x.1.items.length c1) (.slice a2 x.2.items.length c2)

theorem orE_cases (o : Option PT) : (orE o = 0 ∧ o.isSome = true) ∨ (orE o = 5 ∧ o.isSome = false) := by
  cases o with
  | none => exact .inr ⟨rfl, rfl⟩
  | some x => exact .inl ⟨rfl, rfl⟩

theorem itemAt_nat (l : List PT) (j : Nat) : itemAt l (j : Int) = l[j]? := by
  unfold itemAt
  rw [if_pos (by omega)]
  rfl

/-- A row's pair at a place, in the world. -/
theorem row_pair {w0 : World} {qs : List PP} {a : Option Addr} {c : Nat} (hv : SlQ 0 16 w0 qs (.slice a qs.length c)) {j : Nat} (hj : j < qs.length) : ∃ (x : PT) (a1 : Option Addr) (c1 : Nat) (a2 : Option Addr) (c2 b o : Nat), (qs.map trT)[j]? = some x ∧ a = some ⟨b, o, none⟩ ∧ PrL w0 x (.slice a1 x.1.items.length c1) (.slice a2 x.2.items.length c2) ∧ (w0.cell? ⟨b, o + j * 8, none⟩ = some (.int .i64 x.1.kind) ∧ w0.cell? ⟨b, o + j * 8 + 1, none⟩ = some (.int .i64 x.1.num) ∧ w0.cell? ⟨b, o + j * 8 + 2, none⟩ = some (.string x.1.text) ∧ w0.cell? ⟨b, o + j * 8 + 3, none⟩ = some (.slice a1 x.1.items.length c1) ∧ w0.cell? ⟨b, o + j * 8 + 4, none⟩ = some (.int .i64 x.2.kind) ∧ w0.cell? ⟨b, o + j * 8 + 5, none⟩ = some (.int .i64 x.2.num) ∧ w0.cell? ⟨b, o + j * 8 + 6, none⟩ = some (.string x.2.text) ∧ w0.cell? ⟨b, o + j * 8 + 7, none⟩ = some (.slice a2 x.2.items.length c2)) := by
  obtain ⟨a', c', he, _, _, hrow, hgood⟩ := hv
  simp only [Value.slice.injEq] at he
  obtain ⟨rfl, _, rfl⟩ := he
  obtain ⟨b, o, rfl, _, hall⟩ := hrow (by intro e; simp [e] at hj)
  have hg := hgood qs[j] (List.getElem_mem hj)
  obtain ⟨p0, p1, p2, p3, p4, p5, p6, p7⟩ := hall.at j hj
  obtain ⟨a1, c1, e1, _⟩ := Lies.slice hg.1.1
  obtain ⟨a2, c2, e2, _⟩ := Lies.slice hg.2.1
  have g1 := hg.1.1
  have g2 := hg.2.1
  rw [e1] at p3 g1
  rw [e2] at p7 g2
  exact ⟨trT qs[j], a1, c1, a2, c2, b, o, by rw [List.getElem?_map, List.getElem?_eq_getElem hj]; rfl, rfl, ⟨g1, g2⟩, p0, p1, p2, p3, p4, p5, p6, p7⟩

set_option maxRecDepth 100000 in
set_option maxHeartbeats 8000000 in
theorem rat15_any (qs : List PP) (v : Value) (i : Int) (w0 w : World) (hv : SlQ 0 16 w0 qs v) (hb : Below w0.heap.size w0 w) : Calls Tryz.prog 21 #[v, .int .i64 i] w (PrDE w0 (orZ (itemAt (qs.map trT) i)) (orE (itemAt (qs.map trT) i)) w) := by
  obtain ⟨a, c, rfl⟩ : ∃ a c, v = .slice a qs.length c := by obtain ⟨a, c, h, _⟩ := hv; exact ⟨a, c, h⟩
  obtain ⟨O, hO⟩ : ∃ O, O = itemAt (qs.map trT) i := ⟨_, rfl⟩
  obtain ⟨P, hP⟩ : ∃ P, P = PrDE w0 (orZ O) (orE O) w := ⟨_, rfl⟩
  rw [← hO, ← hP]
  obtain ⟨W0, hW0⟩ : ∃ W0, W0 = w.alloc (.cells #[.int .i64 0, .int .i64 0, .string ⟨#[]⟩, .slice none 0 0, .int .i64 0, .int .i64 0, .string ⟨#[]⟩, .slice none 0 0] 33) := ⟨_, rfl⟩
  have HW0 : Hid (W0 = w.alloc (.cells #[.int .i64 0, .int .i64 0, .string ⟨#[]⟩, .slice none 0 0, .int .i64 0, .int .i64 0, .string ⟨#[]⟩, .slice none 0 0] 33)) := hW0
  have hb0 : Below w.heap.size w W0 := by rw [hW0]; exact ((Grew.refl w).alloc _).below
  have HZ0 : Hid (Bx8 W0 w.heap.size (.int .i64 0) (.int .i64 0) (.string ⟨#[]⟩) (.slice none 0 0) (.int .i64 0) (.int .i64 0) (.string ⟨#[]⟩) (.slice none 0 0)) := by rw [hW0]; exact bx8_alloc _ _ _ _ _ _ _ _ _ _
  obtain ⟨y0, y1, y2, y3, y4, y5, y6, y7, f0, f1, f2, f3, f4, f5, f6, f7, _⟩ := HZ0.out
  by_cases hin : 0 ≤ i ∧ i < (qs.length : Int)
  · obtain ⟨j, rfl⟩ : ∃ j : Nat, i = (j : Int) := ⟨i.toNat, by omega⟩
    have hj : j < qs.length := by omega
    obtain ⟨x, a1, c1, a2, c2, b, o, hx, rfl, hpl, p0, p1, p2, p3, p4, p5, p6, p7⟩ := row_pair hv hj
    have hOx : O = some x := by rw [hO, itemAt_nat]; exact hx
    have p0 := cell_keeps hb0 (cell_keeps hb p0); have p1 := cell_keeps hb0 (cell_keeps hb p1); have p2 := cell_keeps hb0 (cell_keeps hb p2); have p3 := cell_keeps hb0 (cell_keeps hb p3); have p4 := cell_keeps hb0 (cell_keeps hb p4); have p5 := cell_keeps hb0 (cell_keeps hb p5); have p6 := cell_keeps hb0 (cell_keeps hb p6); have p7 := cell_keeps hb0 (cell_keeps hb p7)
    have Hq : Hid _ := put8_in HZ0.out (.int .i64 x.1.kind) (.int .i64 x.1.num) (.string x.1.text) (.slice a1 x.1.items.length c1) (.int .i64 x.2.kind) (.int .i64 x.2.num) (.string x.2.text) (.slice a2 x.2.items.length c2)
    have HE : Hid (P (.returned (.tuple #[.agg #[.int .i64 x.1.kind, .int .i64 x.1.num, .string x.1.text, .slice a1 x.1.items.length c1, .int .i64 x.2.kind, .int .i64 x.2.num, .string x.2.text, .slice a2 x.2.items.length c2], .int .i64 0])) (W0.setCells w.heap.size 0 [.int .i64 x.1.kind, .int .i64 x.1.num, .string x.1.text, .slice a1 x.1.items.length c1, .int .i64 x.2.kind, .int .i64 x.2.num, .string x.2.text, .slice a2 x.2.items.length c2])) := by
      show P _ _
      rw [hP, hOx]
      exact ⟨below_put8 hb0 (Nat.le_refl _) _ _ _ _ _ _ _ _, a1, c1, a2, c2, rfl, hpl⟩
    have hji : (j : Int) < (qs.length : Nat) := by omega
    generalize qs.length = L at *
    clear hin hv hb hW0 hO hP hpl hOx hx hb0
    go_enter Tryz.func21, Tryz.ntmps21
    go_upto_region 1 with fail
    rw [← HW0.out]
    clear HW0
    go_wp2_with fail
    refine bodyPost_ret (v := .tuple #[.agg #[.int .i64 x.1.kind, .int .i64 x.1.num, .string x.1.text, .slice a1 x.1.items.length c1, .int .i64 x.2.kind, .int .i64 x.2.num, .string x.2.text, .slice a2 x.2.items.length c2], .int .i64 0]) ?_ rfl HE.out
    obtain ⟨q0, q1, q2, q3, q4, q5, q6, q7⟩ := Hq.out
    simp only [World.setCells, Nat.zero_add, Nat.reduceAdd] at q0 q1 q2 q3 q4 q5 q6 q7
    simp [results, Tryz.results21, go_sem, q0, q1, q2, q3, q4, q5, q6, q7]
  · have hOx : O = none := by
      rw [hO]
      unfold itemAt
      by_cases h0 : 0 ≤ i
      · rw [if_pos h0]
        exact List.getElem?_eq_none (by rw [List.length_map]; omega)
      · rw [if_neg h0]
    have Hq : Hid _ := put8_in HZ0.out (.int .i64 0) (.int .i64 0) (.string ⟨#[]⟩) (.slice none 0 0) (.int .i64 0) (.int .i64 0) (.string ⟨#[]⟩) (.slice none 0 0)
    have HE : Hid (P (.returned (.tuple #[.agg #[.int .i64 0, .int .i64 0, .string ⟨#[]⟩, .slice none 0 0, .int .i64 0, .int .i64 0, .string ⟨#[]⟩, .slice none 0 0], .int .i64 5])) (W0.setCells w.heap.size 0 [.int .i64 0, .int .i64 0, .string ⟨#[]⟩, .slice none 0 0, .int .i64 0, .int .i64 0, .string ⟨#[]⟩, .slice none 0 0])) := by
      show P _ _
      rw [hP, hOx]
      exact ⟨below_put8 hb0 (Nat.le_refl _) _ _ _ _ _ _ _ _, none, 0, none, 0, rfl, zero_pr w0⟩
    generalize qs.length = L at *
    clear hv hb hW0 hO hP hOx hb0
    by_cases h0 : i < 0
    · clear hin
      go_enter Tryz.func21, Tryz.ntmps21
      go_upto_region 1 with fail
      rw [← HW0.out]
      clear HW0
      go_wp2_with fail
      refine bodyPost_ret (v := .tuple #[.agg #[.int .i64 0, .int .i64 0, .string ⟨#[]⟩, .slice none 0 0, .int .i64 0, .int .i64 0, .string ⟨#[]⟩, .slice none 0 0], .int .i64 5]) ?_ rfl HE.out
      obtain ⟨q0, q1, q2, q3, q4, q5, q6, q7⟩ := Hq.out
      simp only [World.setCells, Nat.zero_add, Nat.reduceAdd] at q0 q1 q2 q3 q4 q5 q6 q7
      simp [results, Tryz.results21, go_sem, q0, q1, q2, q3, q4, q5, q6, q7]
    · have h1 : (L : Int) ≤ i := by omega
      clear hin
      go_enter Tryz.func21, Tryz.ntmps21
      go_upto_region 1 with fail
      rw [← HW0.out]
      clear HW0
      go_wp2_with fail
      refine bodyPost_ret (v := .tuple #[.agg #[.int .i64 0, .int .i64 0, .string ⟨#[]⟩, .slice none 0 0, .int .i64 0, .int .i64 0, .string ⟨#[]⟩, .slice none 0 0], .int .i64 5]) ?_ rfl HE.out
      obtain ⟨q0, q1, q2, q3, q4, q5, q6, q7⟩ := Hq.out
      simp only [World.setCells, Nat.zero_add, Nat.reduceAdd] at q0 q1 q2 q3 q4 q5 q6 q7
      simp [results, Tryz.results21, go_sem, q0, q1, q2, q3, q4, q5, q6, q7]

set_option maxRecDepth 100000 in
set_option maxHeartbeats 8000000 in
theorem near15_core (x : PT) (E : Int) (B : Bool) (hE : (E = 0 ∧ B = true) ∨ (E = 5 ∧ B = false)) (v : Value) (i : Int) (w0 w : World) (hA : ∀ V, Below w.heap.size w V → Calls Tryz.prog 21 #[v, .int .i64 i] V (PrDE w0 x E V)) : Calls Tryz.prog 40 #[v, .int .i64 i] w (PrD2 w0 x B w) := by
  have HA : Hid _ := hA
  obtain ⟨W0, hW0⟩ : ∃ W0, W0 = w.alloc (.cells #[.int .i64 0, .int .i64 0, .string ⟨#[]⟩, .slice none 0 0, .int .i64 0, .int .i64 0, .string ⟨#[]⟩, .slice none 0 0] 33) := ⟨_, rfl⟩
  have HW0 : Hid (W0 = w.alloc (.cells #[.int .i64 0, .int .i64 0, .string ⟨#[]⟩, .slice none 0 0, .int .i64 0, .int .i64 0, .string ⟨#[]⟩, .slice none 0 0] 33)) := hW0
  have hb0 : Below w.heap.size w W0 := by rw [hW0]; exact ((Grew.refl w).alloc _).below
  have HZ0 : Hid (Bx8 W0 w.heap.size (.int .i64 0) (.int .i64 0) (.string ⟨#[]⟩) (.slice none 0 0) (.int .i64 0) (.int .i64 0) (.string ⟨#[]⟩) (.slice none 0 0)) := by rw [hW0]; exact bx8_alloc _ _ _ _ _ _ _ _ _ _
  clear hW0 hA
  go_enter Tryz.func40, Tryz.ntmps40
  go_upto_region 1 with fail
  rw [← HW0.out]
  clear HW0
  go_wp2_with fail
  refine Calls.mono (HA.out _ hb0) ?_
  rintro e w2 ⟨hg2, a1, c1, a2, c2, rfl, hpl⟩
  have HZ2 : Hid (Bx8 w2 w.heap.size (.int .i64 0) (.int .i64 0) (.string ⟨#[]⟩) (.slice none 0 0) (.int .i64 0) (.int .i64 0) (.string ⟨#[]⟩) (.slice none 0 0)) := HZ0.out.keeps hg2
  have hb2 : Below w.heap.size w w2 := hb0.trans (hg2.mono hb0.size)
  clear hg2 HA HZ0
  obtain ⟨W3, hW3⟩ : ∃ W3, W3 = w2.alloc (.cells #[.int .i64 x.1.kind, .int .i64 x.1.num, .string x.1.text, .slice a1 x.1.items.length c1, .int .i64 x.2.kind, .int .i64 x.2.num, .string x.2.text, .slice a2 x.2.items.length c2] 33) := ⟨_, rfl⟩
  have HW3 : Hid (W3 = w2.alloc (.cells #[.int .i64 x.1.kind, .int .i64 x.1.num, .string x.1.text, .slice a1 x.1.items.length c1, .int .i64 x.2.kind, .int .i64 x.2.num, .string x.2.text, .slice a2 x.2.items.length c2] 33)) := hW3
  have hal : Below w2.heap.size w2 W3 := by rw [hW3]; exact ((Grew.refl w2).alloc _).below
  have HB3 : Hid (Bx8 W3 w2.heap.size (.int .i64 x.1.kind) (.int .i64 x.1.num) (.string x.1.text) (.slice a1 x.1.items.length c1) (.int .i64 x.2.kind) (.int .i64 x.2.num) (.string x.2.text) (.slice a2 x.2.items.length c2)) := by rw [hW3]; exact bx8_alloc _ _ _ _ _ _ _ _ _ _
  have HZ3 : Hid (Bx8 W3 w.heap.size (.int .i64 0) (.int .i64 0) (.string ⟨#[]⟩) (.slice none 0 0) (.int .i64 0) (.int .i64 0) (.string ⟨#[]⟩) (.slice none 0 0)) := HZ2.out.keeps hal
  have hb3 : Below w.heap.size w W3 := hb2.trans (hal.mono hb2.size)
  obtain ⟨y0, y1, y2, y3, y4, y5, y6, y7, f0, f1, f2, f3, f4, f5, f6, f7, _⟩ := HZ3.out
  obtain ⟨z0, z1, z2, z3, z4, z5, z6, z7, _, _, _, _, _, _, _, _, _⟩ := HB3.out
  have Hq : Hid _ := put8_in HZ3.out (.int .i64 x.1.kind) (.int .i64 x.1.num) (.string x.1.text) (.slice a1 x.1.items.length c1) (.int .i64 x.2.kind) (.int .i64 x.2.num) (.string x.2.text) (.slice a2 x.2.items.length c2)
  have HE : Hid (PrD2 w0 x B w (.returned (.tuple #[.agg #[.int .i64 x.1.kind, .int .i64 x.1.num, .string x.1.text, .slice a1 x.1.items.length c1, .int .i64 x.2.kind, .int .i64 x.2.num, .string x.2.text, .slice a2 x.2.items.length c2], .bool B])) (W3.setCells w.heap.size 0 [.int .i64 x.1.kind, .int .i64 x.1.num, .string x.1.text, .slice a1 x.1.items.length c1, .int .i64 x.2.kind, .int .i64 x.2.num, .string x.2.text, .slice a2 x.2.items.length c2])) := ⟨below_put8 hb3 (Nat.le_refl _) _ _ _ _ _ _ _ _, a1, c1, a2, c2, rfl, hpl⟩
  clear hW3 hal hb0 hb2 hb3 hpl
  generalize hP : PrD2 w0 x B w = P at *
  clear hP
  go_upto_region 2 with fail
  rw [← HW3.out]
  clear HW3
  rcases hE with ⟨rfl, rfl⟩ | ⟨rfl, rfl⟩
  · go_wp2_with fail
    refine bodyPost_ret (v := .tuple #[.agg #[.int .i64 x.1.kind, .int .i64 x.1.num, .string x.1.text, .slice a1 x.1.items.length c1, .int .i64 x.2.kind, .int .i64 x.2.num, .string x.2.text, .slice a2 x.2.items.length c2], .bool true]) ?_ rfl HE.out
    obtain ⟨q0, q1, q2, q3, q4, q5, q6, q7⟩ := Hq.out
    simp only [World.setCells, Nat.zero_add, Nat.reduceAdd] at q0 q1 q2 q3 q4 q5 q6 q7
    simp [results, Tryz.results40, go_sem, q0, q1, q2, q3, q4, q5, q6, q7]
  · go_wp2_with fail
    refine bodyPost_ret (v := .tuple #[.agg #[.int .i64 x.1.kind, .int .i64 x.1.num, .string x.1.text, .slice a1 x.1.items.length c1, .int .i64 x.2.kind, .int .i64 x.2.num, .string x.2.text, .slice a2 x.2.items.length c2], .bool false]) ?_ rfl HE.out
    obtain ⟨q0, q1, q2, q3, q4, q5, q6, q7⟩ := Hq.out
    simp only [World.setCells, Nat.zero_add, Nat.reduceAdd] at q0 q1 q2 q3 q4 q5 q6 q7
    simp [results, Tryz.results40, go_sem, q0, q1, q2, q3, q4, q5, q6, q7]

theorem near15_any (qs : List PP) (v : Value) (i : Int) (w0 w : World) (hv : SlQ 0 16 w0 qs v) (hb : Below w0.heap.size w0 w) : Calls Tryz.prog 40 #[v, .int .i64 i] w (PrD2 w0 (orZ (itemAt (qs.map trT) i)) (itemAt (qs.map trT) i).isSome w) :=
  near15_core _ _ _ (orE_cases _) v i w0 w fun V hV => rat15_any qs v i w0 V hv (hb.trans (hV.mono hb.size))


set_option maxRecDepth 100000 in
set_option maxHeartbeats 8000000 in
theorem rfloor15_wrong (d : Nat) (q : Int) (v : Value) (y : VT) (yu : Value) (cn : Bool) (w0 w : World) (hy : Lies d w y.items yu) (hr : rightV d y = false) (hs : ∃ a n c, v = .slice a n c) : Calls Tryz.prog 12 #[.int .i64 q, v, .agg #[.int .i64 y.kind, .int .i64 y.num, .string y.text, yu], .bool cn] w (PrD3 w0 zeroPT false 3 w) := by
  obtain ⟨ay, cy, rfl, _⟩ := Lies.slice hy
  obtain ⟨av, nv, cv, rfl⟩ := hs
  have HR : Hid (∀ V, Below w.heap.size w V → Calls Tryz.prog 39 #[.agg #[.int .i64 y.kind, .int .i64 y.num, .string y.text, .slice ay y.items.length cy]] V fun e w' => e = .returned (.bool false) ∧ Below V.heap.size V w') := fun V hV => by
    have h9 := right_any d y _ V (Lies.keeps hV _ _ _ hy)
    rw [hr] at h9
    exact h9
  obtain ⟨W0, hW0⟩ : ∃ W0, W0 = (w.alloc (.cells #[.int .i64 y.kind, .int .i64 y.num, .string y.text, .slice ay y.items.length cy] 25)).alloc (.cells #[.int .i64 0, .int .i64 0, .string ⟨#[]⟩, .slice none 0 0, .int .i64 0, .int .i64 0, .string ⟨#[]⟩, .slice none 0 0] 33) := ⟨_, rfl⟩
  have HW0 : Hid (W0 = (w.alloc (.cells #[.int .i64 y.kind, .int .i64 y.num, .string y.text, .slice ay y.items.length cy] 25)).alloc (.cells #[.int .i64 0, .int .i64 0, .string ⟨#[]⟩, .slice none 0 0, .int .i64 0, .int .i64 0, .string ⟨#[]⟩, .slice none 0 0] 33)) := hW0
  have hb0 : Below w.heap.size w W0 := by rw [hW0]; exact (((Grew.refl w).alloc _).alloc _).below
  have HK0 : Hid (Bx W0 w.heap.size y (.slice ay y.items.length cy)) := by rw [hW0]; exact (bx_alloc w y _).keeps ((Grew.refl _).alloc _).below
  have HZ0 : Hid (Bx8 W0 (w.heap.size + 1) (.int .i64 0) (.int .i64 0) (.string ⟨#[]⟩) (.slice none 0 0) (.int .i64 0) (.int .i64 0) (.string ⟨#[]⟩) (.slice none 0 0)) := by
    rw [hW0]
    have h9 := bx8_alloc (w.alloc (.cells #[.int .i64 y.kind, .int .i64 y.num, .string y.text, .slice ay y.items.length cy] 25)) 33 (.int .i64 0) (.int .i64 0) (.string ⟨#[]⟩) (.slice none 0 0) (.int .i64 0) (.int .i64 0) (.string ⟨#[]⟩) (.slice none 0 0)
    rwa [World.size_alloc] at h9
  obtain ⟨k0, k1, k2, k3, _, _, _, _⟩ := HK0.out
  clear hW0 hy hr
  go_enter Tryz.func12, Tryz.ntmps12
  go_upto_region 1 with fail
  rw [← HW0.out]
  clear HW0
  go_wp2_with fail
  refine Calls.mono (HR.out _ hb0) ?_
  rintro e w1 ⟨rfl, hg1⟩
  have HZ1 : Hid (Bx8 w1 (w.heap.size + 1) (.int .i64 0) (.int .i64 0) (.string ⟨#[]⟩) (.slice none 0 0) (.int .i64 0) (.int .i64 0) (.string ⟨#[]⟩) (.slice none 0 0)) := HZ0.out.keeps hg1
  have hb1 : Below w.heap.size w w1 := hb0.trans (hg1.mono hb0.size)
  obtain ⟨y0, y1, y2, y3, y4, y5, y6, y7, f0, f1, f2, f3, f4, f5, f6, f7, _⟩ := HZ1.out
  have Hq : Hid _ := put8_in HZ1.out (.int .i64 0) (.int .i64 0) (.string ⟨#[]⟩) (.slice none 0 0) (.int .i64 0) (.int .i64 0) (.string ⟨#[]⟩) (.slice none 0 0)
  have HE : Hid (PrD3 w0 zeroPT false 3 w (.returned (.tuple #[.agg #[.int .i64 0, .int .i64 0, .string ⟨#[]⟩, .slice none 0 0, .int .i64 0, .int .i64 0, .string ⟨#[]⟩, .slice none 0 0], .bool false, .int .i64 3])) (w1.setCells (w.heap.size + 1) 0 [.int .i64 0, .int .i64 0, .string ⟨#[]⟩, .slice none 0 0, .int .i64 0, .int .i64 0, .string ⟨#[]⟩, .slice none 0 0])) := ⟨below_put8 hb1 (by omega) _ _ _ _ _ _ _ _, none, 0, none, 0, rfl, zero_pr w0⟩
  clear hg1 HR k0 k1 k2 k3 HK0 HZ0 hb0 hb1
  generalize hP : PrD3 w0 zeroPT false 3 w = P at *
  clear hP
  go_wp2_with fail
  refine bodyPost_ret (v := .tuple #[.agg #[.int .i64 0, .int .i64 0, .string ⟨#[]⟩, .slice none 0 0, .int .i64 0, .int .i64 0, .string ⟨#[]⟩, .slice none 0 0], .bool false, .int .i64 3]) ?_ rfl HE.out
  obtain ⟨q0, q1, q2, q3, q4, q5, q6, q7⟩ := Hq.out
  simp only [World.setCells, Nat.zero_add, Nat.reduceAdd] at q0 q1 q2 q3 q4 q5 q6 q7
  simp [results, Tryz.results12, go_sem, q0, q1, q2, q3, q4, q5, q6, q7]

set_option maxRecDepth 100000 in
set_option maxHeartbeats 16000000 in
theorem rfloor15_right (q : Nat) (hq : q < 6) (qs : List PP) (v : Value) (y : VT) (yu : Value) (cn : Bool) (w0 w : World) (hv : SlQ 0 16 w0 qs v) (hb : Below w0.heap.size w0 w) (hr : ∀ p ∈ qs, rightV 16 p.1.1 = true) (hlen : qs.length ≤ 65536) (hy : Lies 16 w y.items yu) (hyr : rightV 16 y = true) :
    Calls Tryz.prog 12 #[.int .i64 (q : Int), v, .agg #[.int .i64 y.kind, .int .i64 y.num, .string y.text, yu], .bool cn] w (PrD3 w0 (orZ (itemAt (qs.map trT) (((rankR q (qs.map trT) y + (if thereR q (qs.map trT) y && cn then 1 else 0) : Nat) : Int) - 1))) (itemAt (qs.map trT) (((rankR q (qs.map trT) y + (if thereR q (qs.map trT) y && cn then 1 else 0) : Nat) : Int) - 1)).isSome 0 w) := by
  obtain ⟨ay, cy, rfl, _⟩ := Lies.slice hy
  obtain ⟨av, cv, rfl⟩ : ∃ a c, v = .slice a qs.length c := by obtain ⟨a, c, h, _⟩ := hv; exact ⟨a, c, h⟩
  obtain ⟨n, hn⟩ : ∃ n, n = rankR q (qs.map trT) y := ⟨_, rfl⟩
  obtain ⟨F, hF⟩ : ∃ F, F = thereR q (qs.map trT) y := ⟨_, rfl⟩
  have hnz : n ≤ 65536 := by
    rw [hn]
    unfold rankR
    exact Nat.le_trans (List.Sublist.length_le (List.takeWhile_sublist _)) (by rw [List.length_map]; exact hlen)
  have HX : Hid (F = true → n < qs.length) := fun h => by
    rw [hF] at h
    unfold thereR at h
    rw [← hn] at h
    by_cases hl : n < qs.length
    · exact hl
    · rw [List.getElem?_eq_none (by rw [List.length_map]; omega)] at h
      cases h
  rw [← hn, ← hF]
  obtain ⟨x, hX⟩ : ∃ x, x = orZ (itemAt (qs.map trT) (((n + (if F && cn then 1 else 0) : Nat) : Int) - 1)) := ⟨_, rfl⟩
  obtain ⟨B, hB⟩ : ∃ B, B = (itemAt (qs.map trT) (((n + (if F && cn then 1 else 0) : Nat) : Int) - 1)).isSome := ⟨_, rfl⟩
  rw [← hX, ← hB]
  have HXB : Hid (x = orZ (itemAt (qs.map trT) (((n + (if F && cn then 1 else 0) : Nat) : Int) - 1)) ∧ B = (itemAt (qs.map trT) (((n + (if F && cn then 1 else 0) : Nat) : Int) - 1)).isSome) := ⟨hX, hB⟩
  have HR : Hid (∀ V, Below w.heap.size w V → Calls Tryz.prog 39 #[.agg #[.int .i64 y.kind, .int .i64 y.num, .string y.text, .slice ay y.items.length cy]] V fun e w' => e = .returned (.bool true) ∧ Below V.heap.size V w') := fun V hV => by
    have h9 := right_any 16 y _ V (Lies.keeps hV _ _ _ hy)
    rw [hyr] at h9
    exact h9
  have HU : Hid (∀ V, Below w.heap.size w V → Calls Tryz.prog 24 #[.int .i64 (q : Int), .slice av qs.length cv, .agg #[.int .i64 y.kind, .int .i64 y.num, .string y.text, .slice ay y.items.length cy]] V fun e w' => e = .returned (.tuple #[.int .i64 (n : Int), .bool F]) ∧ Below V.heap.size V w') := fun V hV => by
    rw [hn, hF]
    exact rrank_15 q hq qs _ y _ V (hv.keeps (hb.trans (hV.mono hb.size))) hr hlen (Lies.keeps hV _ _ _ hy) hyr
  have HN : Hid (∀ (i : Int) V, Below w.heap.size w V → Calls Tryz.prog 40 #[.slice av qs.length cv, .int .i64 i] V (PrD2 w0 (orZ (itemAt (qs.map trT) i)) (itemAt (qs.map trT) i).isSome V)) := fun i V hV => near15_any qs _ i w0 V hv (hb.trans (hV.mono hb.size))
  have HV : Hid (SlQ 0 16 w0 qs (.slice av qs.length cv) ∧ Below w0.heap.size w0 w) := ⟨hv, hb⟩
  obtain ⟨W0, hW0⟩ : ∃ W0, W0 = (w.alloc (.cells #[.int .i64 y.kind, .int .i64 y.num, .string y.text, .slice ay y.items.length cy] 25)).alloc (.cells #[.int .i64 0, .int .i64 0, .string ⟨#[]⟩, .slice none 0 0, .int .i64 0, .int .i64 0, .string ⟨#[]⟩, .slice none 0 0] 33) := ⟨_, rfl⟩
  have HW0 : Hid (W0 = (w.alloc (.cells #[.int .i64 y.kind, .int .i64 y.num, .string y.text, .slice ay y.items.length cy] 25)).alloc (.cells #[.int .i64 0, .int .i64 0, .string ⟨#[]⟩, .slice none 0 0, .int .i64 0, .int .i64 0, .string ⟨#[]⟩, .slice none 0 0] 33)) := hW0
  have hb0 : Below w.heap.size w W0 := by rw [hW0]; exact (((Grew.refl w).alloc _).alloc _).below
  have HK0 : Hid (Bx W0 w.heap.size y (.slice ay y.items.length cy)) := by rw [hW0]; exact (bx_alloc w y _).keeps ((Grew.refl _).alloc _).below
  have HZ0 : Hid (Bx8 W0 (w.heap.size + 1) (.int .i64 0) (.int .i64 0) (.string ⟨#[]⟩) (.slice none 0 0) (.int .i64 0) (.int .i64 0) (.string ⟨#[]⟩) (.slice none 0 0)) := by
    rw [hW0]
    have h9 := bx8_alloc (w.alloc (.cells #[.int .i64 y.kind, .int .i64 y.num, .string y.text, .slice ay y.items.length cy] 25)) 33 (.int .i64 0) (.int .i64 0) (.string ⟨#[]⟩) (.slice none 0 0) (.int .i64 0) (.int .i64 0) (.string ⟨#[]⟩) (.slice none 0 0)
    rwa [World.size_alloc] at h9
  obtain ⟨k0, k1, k2, k3, _, _, _, _⟩ := HK0.out
  have Hnz : Hid (n ≤ 65536) := hnz
  clear hW0 hy hyr hr hv hb hn hF hq hlen hnz hX hB
  obtain ⟨L, hL⟩ : ∃ L, L = qs.length := ⟨_, rfl⟩
  have HL : Hid (L = qs.length) := hL
  rw [← hL]
  rw [← hL] at HU HN HX HV
  clear hL
  go_enter Tryz.func12, Tryz.ntmps12
  go_upto_region 1 with fail
  rw [← HW0.out]
  clear HW0
  go_wp2_with fail
  refine Calls.mono (HR.out _ hb0) ?_
  rintro e w1 ⟨rfl, hg1⟩
  have HZ1 : Hid (Bx8 w1 (w.heap.size + 1) (.int .i64 0) (.int .i64 0) (.string ⟨#[]⟩) (.slice none 0 0) (.int .i64 0) (.int .i64 0) (.string ⟨#[]⟩) (.slice none 0 0)) := HZ0.out.keeps hg1
  have hb1 : Below w.heap.size w w1 := hb0.trans (hg1.mono hb0.size)
  have k0 := cell_keeps hg1 k0; have k1 := cell_keeps hg1 k1; have k2 := cell_keeps hg1 k2; have k3 := cell_keeps hg1 k3
  clear hg1 HR HK0 HZ0 hb0
  go_wp2_with fail
  refine Calls.mono (HU.out _ hb1) ?_
  rintro e w2 ⟨rfl, hg2⟩
  have HZ2 : Hid (Bx8 w2 (w.heap.size + 1) (.int .i64 0) (.int .i64 0) (.string ⟨#[]⟩) (.slice none 0 0) (.int .i64 0) (.int .i64 0) (.string ⟨#[]⟩) (.slice none 0 0)) := HZ1.out.keeps hg2
  have hb2 : Below w.heap.size w w2 := hb1.trans (hg2.mono hb1.size)
  clear hg2 HU HZ1 hb1 k0 k1 k2 k3
  cases F with
  | false =>
    have hI : (((n + (if false && cn then 1 else 0) : Nat) : Int) - 1) = ((n : Int) - 1) := by simp
    have HNi : Hid (Calls Tryz.prog 40 #[.slice av L cv, .int .i64 ((n : Int) - 1)] w2 (PrD2 w0 x B w2)) := by
      show Calls _ _ _ _ _
      rw [HXB.out.1, HXB.out.2, hI]
      exact HN.out ((n : Int) - 1) w2 hb2
    have e1 : IntKind.i64.wrap ((n : Int) - 1) = (n : Int) - 1 := by have := Hnz.out; rw [IntKind.wrap_i64]; omega
    clear hI HN HX HV HXB
    go_wp2_with fail
    refine Calls.mono HNi.out ?_
    rintro e w3 ⟨hg3, a1, c1, a2, c2, rfl, hpl⟩
    have HZ3 : Hid (Bx8 w3 (w.heap.size + 1) (.int .i64 0) (.int .i64 0) (.string ⟨#[]⟩) (.slice none 0 0) (.int .i64 0) (.int .i64 0) (.string ⟨#[]⟩) (.slice none 0 0)) := HZ2.out.keeps hg3
    have hb3 : Below w.heap.size w w3 := hb2.trans (hg3.mono hb2.size)
    clear hg3 HNi HZ2 hb2
    obtain ⟨W4, hW4⟩ : ∃ W4, W4 = w3.alloc (.cells #[.int .i64 x.1.kind, .int .i64 x.1.num, .string x.1.text, .slice a1 x.1.items.length c1, .int .i64 x.2.kind, .int .i64 x.2.num, .string x.2.text, .slice a2 x.2.items.length c2] 33) := ⟨_, rfl⟩
    have HW4 : Hid (W4 = w3.alloc (.cells #[.int .i64 x.1.kind, .int .i64 x.1.num, .string x.1.text, .slice a1 x.1.items.length c1, .int .i64 x.2.kind, .int .i64 x.2.num, .string x.2.text, .slice a2 x.2.items.length c2] 33)) := hW4
    have hal : Below w3.heap.size w3 W4 := by rw [hW4]; exact ((Grew.refl w3).alloc _).below
    have HB4 : Hid (Bx8 W4 w3.heap.size (.int .i64 x.1.kind) (.int .i64 x.1.num) (.string x.1.text) (.slice a1 x.1.items.length c1) (.int .i64 x.2.kind) (.int .i64 x.2.num) (.string x.2.text) (.slice a2 x.2.items.length c2)) := by rw [hW4]; exact bx8_alloc _ _ _ _ _ _ _ _ _ _
    have HZ4 : Hid (Bx8 W4 (w.heap.size + 1) (.int .i64 0) (.int .i64 0) (.string ⟨#[]⟩) (.slice none 0 0) (.int .i64 0) (.int .i64 0) (.string ⟨#[]⟩) (.slice none 0 0)) := HZ3.out.keeps hal
    have hb4 : Below w.heap.size w W4 := hb3.trans (hal.mono hb3.size)
    obtain ⟨y0, y1, y2, y3, y4, y5, y6, y7, f0, f1, f2, f3, f4, f5, f6, f7, _⟩ := HZ4.out
    obtain ⟨z0, z1, z2, z3, z4, z5, z6, z7, _, _, _, _, _, _, _, _, _⟩ := HB4.out
    have Hq : Hid _ := put8_in HZ4.out (.int .i64 x.1.kind) (.int .i64 x.1.num) (.string x.1.text) (.slice a1 x.1.items.length c1) (.int .i64 x.2.kind) (.int .i64 x.2.num) (.string x.2.text) (.slice a2 x.2.items.length c2)
    have HE : Hid (PrD3 w0 x B 0 w (.returned (.tuple #[.agg #[.int .i64 x.1.kind, .int .i64 x.1.num, .string x.1.text, .slice a1 x.1.items.length c1, .int .i64 x.2.kind, .int .i64 x.2.num, .string x.2.text, .slice a2 x.2.items.length c2], .bool B, .int .i64 0])) (W4.setCells (w.heap.size + 1) 0 [.int .i64 x.1.kind, .int .i64 x.1.num, .string x.1.text, .slice a1 x.1.items.length c1, .int .i64 x.2.kind, .int .i64 x.2.num, .string x.2.text, .slice a2 x.2.items.length c2])) := ⟨below_put8 hb4 (by omega) _ _ _ _ _ _ _ _, a1, c1, a2, c2, rfl, hpl⟩
    clear hW4 hal hb3 hb4 hpl
    generalize hP : PrD3 w0 x B 0 w = P at *
    clear hP
    go_upto_region 7 with fail
    rw [← HW4.out]
    clear HW4
    go_wp2_with fail
    refine bodyPost_ret (v := .tuple #[.agg #[.int .i64 x.1.kind, .int .i64 x.1.num, .string x.1.text, .slice a1 x.1.items.length c1, .int .i64 x.2.kind, .int .i64 x.2.num, .string x.2.text, .slice a2 x.2.items.length c2], .bool B, .int .i64 0]) ?_ rfl HE.out
    obtain ⟨q0, q1, q2, q3, q4, q5, q6, q7⟩ := Hq.out
    simp only [World.setCells, Nat.zero_add, Nat.reduceAdd] at q0 q1 q2 q3 q4 q5 q6 q7
    simp [results, Tryz.results12, go_sem, q0, q1, q2, q3, q4, q5, q6, q7]
  | true =>
    cases cn with
    | false =>
      have hI : (((n + (if true && false then 1 else 0) : Nat) : Int) - 1) = ((n : Int) - 1) := by simp
      have HNi : Hid (Calls Tryz.prog 40 #[.slice av L cv, .int .i64 ((n : Int) - 1)] w2 (PrD2 w0 x B w2)) := by
        show Calls _ _ _ _ _
        rw [HXB.out.1, HXB.out.2, hI]
        exact HN.out ((n : Int) - 1) w2 hb2
      have e1 : IntKind.i64.wrap ((n : Int) - 1) = (n : Int) - 1 := by have := Hnz.out; rw [IntKind.wrap_i64]; omega
      clear hI HN HX HV HXB
      go_wp2_with fail
      refine Calls.mono HNi.out ?_
      rintro e w3 ⟨hg3, a1, c1, a2, c2, rfl, hpl⟩
      have HZ3 : Hid (Bx8 w3 (w.heap.size + 1) (.int .i64 0) (.int .i64 0) (.string ⟨#[]⟩) (.slice none 0 0) (.int .i64 0) (.int .i64 0) (.string ⟨#[]⟩) (.slice none 0 0)) := HZ2.out.keeps hg3
      have hb3 : Below w.heap.size w w3 := hb2.trans (hg3.mono hb2.size)
      clear hg3 HNi HZ2 hb2
      obtain ⟨W4, hW4⟩ : ∃ W4, W4 = w3.alloc (.cells #[.int .i64 x.1.kind, .int .i64 x.1.num, .string x.1.text, .slice a1 x.1.items.length c1, .int .i64 x.2.kind, .int .i64 x.2.num, .string x.2.text, .slice a2 x.2.items.length c2] 33) := ⟨_, rfl⟩
      have HW4 : Hid (W4 = w3.alloc (.cells #[.int .i64 x.1.kind, .int .i64 x.1.num, .string x.1.text, .slice a1 x.1.items.length c1, .int .i64 x.2.kind, .int .i64 x.2.num, .string x.2.text, .slice a2 x.2.items.length c2] 33)) := hW4
      have hal : Below w3.heap.size w3 W4 := by rw [hW4]; exact ((Grew.refl w3).alloc _).below
      have HB4 : Hid (Bx8 W4 w3.heap.size (.int .i64 x.1.kind) (.int .i64 x.1.num) (.string x.1.text) (.slice a1 x.1.items.length c1) (.int .i64 x.2.kind) (.int .i64 x.2.num) (.string x.2.text) (.slice a2 x.2.items.length c2)) := by rw [hW4]; exact bx8_alloc _ _ _ _ _ _ _ _ _ _
      have HZ4 : Hid (Bx8 W4 (w.heap.size + 1) (.int .i64 0) (.int .i64 0) (.string ⟨#[]⟩) (.slice none 0 0) (.int .i64 0) (.int .i64 0) (.string ⟨#[]⟩) (.slice none 0 0)) := HZ3.out.keeps hal
      have hb4 : Below w.heap.size w W4 := hb3.trans (hal.mono hb3.size)
      obtain ⟨y0, y1, y2, y3, y4, y5, y6, y7, f0, f1, f2, f3, f4, f5, f6, f7, _⟩ := HZ4.out
      obtain ⟨z0, z1, z2, z3, z4, z5, z6, z7, _, _, _, _, _, _, _, _, _⟩ := HB4.out
      have Hq : Hid _ := put8_in HZ4.out (.int .i64 x.1.kind) (.int .i64 x.1.num) (.string x.1.text) (.slice a1 x.1.items.length c1) (.int .i64 x.2.kind) (.int .i64 x.2.num) (.string x.2.text) (.slice a2 x.2.items.length c2)
      have HE : Hid (PrD3 w0 x B 0 w (.returned (.tuple #[.agg #[.int .i64 x.1.kind, .int .i64 x.1.num, .string x.1.text, .slice a1 x.1.items.length c1, .int .i64 x.2.kind, .int .i64 x.2.num, .string x.2.text, .slice a2 x.2.items.length c2], .bool B, .int .i64 0])) (W4.setCells (w.heap.size + 1) 0 [.int .i64 x.1.kind, .int .i64 x.1.num, .string x.1.text, .slice a1 x.1.items.length c1, .int .i64 x.2.kind, .int .i64 x.2.num, .string x.2.text, .slice a2 x.2.items.length c2])) := ⟨below_put8 hb4 (by omega) _ _ _ _ _ _ _ _, a1, c1, a2, c2, rfl, hpl⟩
      clear hW4 hal hb3 hb4 hpl
      generalize hP : PrD3 w0 x B 0 w = P at *
      clear hP
      go_upto_region 7 with fail
      rw [← HW4.out]
      clear HW4
      go_wp2_with fail
      refine bodyPost_ret (v := .tuple #[.agg #[.int .i64 x.1.kind, .int .i64 x.1.num, .string x.1.text, .slice a1 x.1.items.length c1, .int .i64 x.2.kind, .int .i64 x.2.num, .string x.2.text, .slice a2 x.2.items.length c2], .bool B, .int .i64 0]) ?_ rfl HE.out
      obtain ⟨q0, q1, q2, q3, q4, q5, q6, q7⟩ := Hq.out
      simp only [World.setCells, Nat.zero_add, Nat.reduceAdd] at q0 q1 q2 q3 q4 q5 q6 q7
      simp [results, Tryz.results12, go_sem, q0, q1, q2, q3, q4, q5, q6, q7]
    | true =>
      have hl : n < qs.length := by have h9 := HX.out rfl; have := HL.out; omega
      have hv := HV.out.1
      rw [HL.out] at hv
      obtain ⟨x', a1, c1, a2, c2, b, o, hx, rfl, hpl, p0, p1, p2, p3, p4, p5, p6, p7⟩ := row_pair hv hl
      have hb9 : Below w0.heap.size w0 w2 := HV.out.2.trans (hb2.mono HV.out.2.size)
      have hI : (((n + (if true && true then 1 else 0) : Nat) : Int) - 1) = (n : Int) := by simp
      have hxx : x' = x := by rw [HXB.out.1, hI, itemAt_nat, hx]; rfl
      have hBB : B = true := by rw [HXB.out.2, hI, itemAt_nat, hx]; rfl
      subst hxx hBB
      clear HXB
      have p0 := cell_keeps hb9 p0; have p1 := cell_keeps hb9 p1; have p2 := cell_keeps hb9 p2; have p3 := cell_keeps hb9 p3; have p4 := cell_keeps hb9 p4; have p5 := cell_keeps hb9 p5; have p6 := cell_keeps hb9 p6; have p7 := cell_keeps hb9 p7
      obtain ⟨y0, y1, y2, y3, y4, y5, y6, y7, f0, f1, f2, f3, f4, f5, f6, f7, _⟩ := HZ2.out
      have Hq : Hid _ := put8_in HZ2.out (.int .i64 x'.1.kind) (.int .i64 x'.1.num) (.string x'.1.text) (.slice a1 x'.1.items.length c1) (.int .i64 x'.2.kind) (.int .i64 x'.2.num) (.string x'.2.text) (.slice a2 x'.2.items.length c2)
      have hni : (n : Int) < (L : Nat) := by have := HL.out; omega
      have HE : Hid (PrD3 w0 x' true 0 w (.returned (.tuple #[.agg #[.int .i64 x'.1.kind, .int .i64 x'.1.num, .string x'.1.text, .slice a1 x'.1.items.length c1, .int .i64 x'.2.kind, .int .i64 x'.2.num, .string x'.2.text, .slice a2 x'.2.items.length c2], .bool true, .int .i64 0])) (w2.setCells (w.heap.size + 1) 0 [.int .i64 x'.1.kind, .int .i64 x'.1.num, .string x'.1.text, .slice a1 x'.1.items.length c1, .int .i64 x'.2.kind, .int .i64 x'.2.num, .string x'.2.text, .slice a2 x'.2.items.length c2])) := ⟨below_put8 hb2 (by omega) _ _ _ _ _ _ _ _, a1, c1, a2, c2, rfl, hpl⟩
      clear hI hx hv hl hpl hb9 hb2 HN HX HV
      go_wp2_with fail
      refine bodyPost_ret (v := .tuple #[.agg #[.int .i64 x'.1.kind, .int .i64 x'.1.num, .string x'.1.text, .slice a1 x'.1.items.length c1, .int .i64 x'.2.kind, .int .i64 x'.2.num, .string x'.2.text, .slice a2 x'.2.items.length c2], .bool true, .int .i64 0]) ?_ rfl HE.out
      obtain ⟨q0, q1, q2, q3, q4, q5, q6, q7⟩ := Hq.out
      simp only [World.setCells, Nat.zero_add, Nat.reduceAdd] at q0 q1 q2 q3 q4 q5 q6 q7
      simp [results, Tryz.results12, go_sem, q0, q1, q2, q3, q4, q5, q6, q7]

set_option maxRecDepth 100000 in
set_option maxHeartbeats 8000000 in
theorem rceil15_wrong (d : Nat) (q : Int) (v : Value) (y : VT) (yu : Value) (cn : Bool) (w0 w : World) (hy : Lies d w y.items yu) (hr : rightV d y = false) (hs : ∃ a n c, v = .slice a n c) : Calls Tryz.prog 16 #[.int .i64 q, v, .agg #[.int .i64 y.kind, .int .i64 y.num, .string y.text, yu], .bool cn] w (PrD3 w0 zeroPT false 3 w) := by
  obtain ⟨ay, cy, rfl, _⟩ := Lies.slice hy
  obtain ⟨av, nv, cv, rfl⟩ := hs
  have HR : Hid (∀ V, Below w.heap.size w V → Calls Tryz.prog 39 #[.agg #[.int .i64 y.kind, .int .i64 y.num, .string y.text, .slice ay y.items.length cy]] V fun e w' => e = .returned (.bool false) ∧ Below V.heap.size V w') := fun V hV => by
    have h9 := right_any d y _ V (Lies.keeps hV _ _ _ hy)
    rw [hr] at h9
    exact h9
  obtain ⟨W0, hW0⟩ : ∃ W0, W0 = (w.alloc (.cells #[.int .i64 y.kind, .int .i64 y.num, .string y.text, .slice ay y.items.length cy] 25)).alloc (.cells #[.int .i64 0, .int .i64 0, .string ⟨#[]⟩, .slice none 0 0, .int .i64 0, .int .i64 0, .string ⟨#[]⟩, .slice none 0 0] 33) := ⟨_, rfl⟩
  have HW0 : Hid (W0 = (w.alloc (.cells #[.int .i64 y.kind, .int .i64 y.num, .string y.text, .slice ay y.items.length cy] 25)).alloc (.cells #[.int .i64 0, .int .i64 0, .string ⟨#[]⟩, .slice none 0 0, .int .i64 0, .int .i64 0, .string ⟨#[]⟩, .slice none 0 0] 33)) := hW0
  have hb0 : Below w.heap.size w W0 := by rw [hW0]; exact (((Grew.refl w).alloc _).alloc _).below
  have HK0 : Hid (Bx W0 w.heap.size y (.slice ay y.items.length cy)) := by rw [hW0]; exact (bx_alloc w y _).keeps ((Grew.refl _).alloc _).below
  have HZ0 : Hid (Bx8 W0 (w.heap.size + 1) (.int .i64 0) (.int .i64 0) (.string ⟨#[]⟩) (.slice none 0 0) (.int .i64 0) (.int .i64 0) (.string ⟨#[]⟩) (.slice none 0 0)) := by
    rw [hW0]
    have h9 := bx8_alloc (w.alloc (.cells #[.int .i64 y.kind, .int .i64 y.num, .string y.text, .slice ay y.items.length cy] 25)) 33 (.int .i64 0) (.int .i64 0) (.string ⟨#[]⟩) (.slice none 0 0) (.int .i64 0) (.int .i64 0) (.string ⟨#[]⟩) (.slice none 0 0)
    rwa [World.size_alloc] at h9
  obtain ⟨k0, k1, k2, k3, _, _, _, _⟩ := HK0.out
  clear hW0 hy hr
  go_enter Tryz.func16, Tryz.ntmps16
  go_upto_region 1 with fail
  rw [← HW0.out]
  clear HW0
  go_wp2_with fail
  refine Calls.mono (HR.out _ hb0) ?_
  rintro e w1 ⟨rfl, hg1⟩
  have HZ1 : Hid (Bx8 w1 (w.heap.size + 1) (.int .i64 0) (.int .i64 0) (.string ⟨#[]⟩) (.slice none 0 0) (.int .i64 0) (.int .i64 0) (.string ⟨#[]⟩) (.slice none 0 0)) := HZ0.out.keeps hg1
  have hb1 : Below w.heap.size w w1 := hb0.trans (hg1.mono hb0.size)
  obtain ⟨y0, y1, y2, y3, y4, y5, y6, y7, f0, f1, f2, f3, f4, f5, f6, f7, _⟩ := HZ1.out
  have Hq : Hid _ := put8_in HZ1.out (.int .i64 0) (.int .i64 0) (.string ⟨#[]⟩) (.slice none 0 0) (.int .i64 0) (.int .i64 0) (.string ⟨#[]⟩) (.slice none 0 0)
  have HE : Hid (PrD3 w0 zeroPT false 3 w (.returned (.tuple #[.agg #[.int .i64 0, .int .i64 0, .string ⟨#[]⟩, .slice none 0 0, .int .i64 0, .int .i64 0, .string ⟨#[]⟩, .slice none 0 0], .bool false, .int .i64 3])) (w1.setCells (w.heap.size + 1) 0 [.int .i64 0, .int .i64 0, .string ⟨#[]⟩, .slice none 0 0, .int .i64 0, .int .i64 0, .string ⟨#[]⟩, .slice none 0 0])) := ⟨below_put8 hb1 (by omega) _ _ _ _ _ _ _ _, none, 0, none, 0, rfl, zero_pr w0⟩
  clear hg1 HR k0 k1 k2 k3 HK0 HZ0 hb0 hb1
  generalize hP : PrD3 w0 zeroPT false 3 w = P at *
  clear hP
  go_wp2_with fail
  refine bodyPost_ret (v := .tuple #[.agg #[.int .i64 0, .int .i64 0, .string ⟨#[]⟩, .slice none 0 0, .int .i64 0, .int .i64 0, .string ⟨#[]⟩, .slice none 0 0], .bool false, .int .i64 3]) ?_ rfl HE.out
  obtain ⟨q0, q1, q2, q3, q4, q5, q6, q7⟩ := Hq.out
  simp only [World.setCells, Nat.zero_add, Nat.reduceAdd] at q0 q1 q2 q3 q4 q5 q6 q7
  simp [results, Tryz.results16, go_sem, q0, q1, q2, q3, q4, q5, q6, q7]

set_option maxRecDepth 100000 in
set_option maxHeartbeats 16000000 in
theorem rceil15_right (q : Nat) (hq : q < 6) (qs : List PP) (v : Value) (y : VT) (yu : Value) (cn : Bool) (w0 w : World) (hv : SlQ 0 16 w0 qs v) (hb : Below w0.heap.size w0 w) (hr : ∀ p ∈ qs, rightV 16 p.1.1 = true) (hlen : qs.length ≤ 65536) (hy : Lies 16 w y.items yu) (hyr : rightV 16 y = true) :
    Calls Tryz.prog 16 #[.int .i64 (q : Int), v, .agg #[.int .i64 y.kind, .int .i64 y.num, .string y.text, yu], .bool cn] w (PrD3 w0 (orZ (itemAt (qs.map trT) ((rankR q (qs.map trT) y + (if thereR q (qs.map trT) y && !cn then 1 else 0) : Nat) : Int))) (itemAt (qs.map trT) ((rankR q (qs.map trT) y + (if thereR q (qs.map trT) y && !cn then 1 else 0) : Nat) : Int)).isSome 0 w) := by
  obtain ⟨ay, cy, rfl, _⟩ := Lies.slice hy
  obtain ⟨av, cv, rfl⟩ : ∃ a c, v = .slice a qs.length c := by obtain ⟨a, c, h, _⟩ := hv; exact ⟨a, c, h⟩
  obtain ⟨n, hn⟩ : ∃ n, n = rankR q (qs.map trT) y := ⟨_, rfl⟩
  obtain ⟨F, hF⟩ : ∃ F, F = thereR q (qs.map trT) y := ⟨_, rfl⟩
  have hnz : n ≤ 65536 := by
    rw [hn]
    unfold rankR
    exact Nat.le_trans (List.Sublist.length_le (List.takeWhile_sublist _)) (by rw [List.length_map]; exact hlen)
  have HX : Hid (F = true → n < qs.length) := fun h => by
    rw [hF] at h
    unfold thereR at h
    rw [← hn] at h
    by_cases hl : n < qs.length
    · exact hl
    · rw [List.getElem?_eq_none (by rw [List.length_map]; omega)] at h
      cases h
  rw [← hn, ← hF]
  obtain ⟨x, hX⟩ : ∃ x, x = orZ (itemAt (qs.map trT) ((n + (if F && !cn then 1 else 0) : Nat) : Int)) := ⟨_, rfl⟩
  obtain ⟨B, hB⟩ : ∃ B, B = (itemAt (qs.map trT) ((n + (if F && !cn then 1 else 0) : Nat) : Int)).isSome := ⟨_, rfl⟩
  rw [← hX, ← hB]
  have HXB : Hid (x = orZ (itemAt (qs.map trT) ((n + (if F && !cn then 1 else 0) : Nat) : Int)) ∧ B = (itemAt (qs.map trT) ((n + (if F && !cn then 1 else 0) : Nat) : Int)).isSome) := ⟨hX, hB⟩
  have HR : Hid (∀ V, Below w.heap.size w V → Calls Tryz.prog 39 #[.agg #[.int .i64 y.kind, .int .i64 y.num, .string y.text, .slice ay y.items.length cy]] V fun e w' => e = .returned (.bool true) ∧ Below V.heap.size V w') := fun V hV => by
    have h9 := right_any 16 y _ V (Lies.keeps hV _ _ _ hy)
    rw [hyr] at h9
    exact h9
  have HU : Hid (∀ V, Below w.heap.size w V → Calls Tryz.prog 24 #[.int .i64 (q : Int), .slice av qs.length cv, .agg #[.int .i64 y.kind, .int .i64 y.num, .string y.text, .slice ay y.items.length cy]] V fun e w' => e = .returned (.tuple #[.int .i64 (n : Int), .bool F]) ∧ Below V.heap.size V w') := fun V hV => by
    rw [hn, hF]
    exact rrank_15 q hq qs _ y _ V (hv.keeps (hb.trans (hV.mono hb.size))) hr hlen (Lies.keeps hV _ _ _ hy) hyr
  have HN : Hid (∀ (i : Int) V, Below w.heap.size w V → Calls Tryz.prog 40 #[.slice av qs.length cv, .int .i64 i] V (PrD2 w0 (orZ (itemAt (qs.map trT) i)) (itemAt (qs.map trT) i).isSome V)) := fun i V hV => near15_any qs _ i w0 V hv (hb.trans (hV.mono hb.size))
  have HV : Hid (SlQ 0 16 w0 qs (.slice av qs.length cv) ∧ Below w0.heap.size w0 w) := ⟨hv, hb⟩
  obtain ⟨W0, hW0⟩ : ∃ W0, W0 = (w.alloc (.cells #[.int .i64 y.kind, .int .i64 y.num, .string y.text, .slice ay y.items.length cy] 25)).alloc (.cells #[.int .i64 0, .int .i64 0, .string ⟨#[]⟩, .slice none 0 0, .int .i64 0, .int .i64 0, .string ⟨#[]⟩, .slice none 0 0] 33) := ⟨_, rfl⟩
  have HW0 : Hid (W0 = (w.alloc (.cells #[.int .i64 y.kind, .int .i64 y.num, .string y.text, .slice ay y.items.length cy] 25)).alloc (.cells #[.int .i64 0, .int .i64 0, .string ⟨#[]⟩, .slice none 0 0, .int .i64 0, .int .i64 0, .string ⟨#[]⟩, .slice none 0 0] 33)) := hW0
  have hb0 : Below w.heap.size w W0 := by rw [hW0]; exact (((Grew.refl w).alloc _).alloc _).below
  have HK0 : Hid (Bx W0 w.heap.size y (.slice ay y.items.length cy)) := by rw [hW0]; exact (bx_alloc w y _).keeps ((Grew.refl _).alloc _).below
  have HZ0 : Hid (Bx8 W0 (w.heap.size + 1) (.int .i64 0) (.int .i64 0) (.string ⟨#[]⟩) (.slice none 0 0) (.int .i64 0) (.int .i64 0) (.string ⟨#[]⟩) (.slice none 0 0)) := by
    rw [hW0]
    have h9 := bx8_alloc (w.alloc (.cells #[.int .i64 y.kind, .int .i64 y.num, .string y.text, .slice ay y.items.length cy] 25)) 33 (.int .i64 0) (.int .i64 0) (.string ⟨#[]⟩) (.slice none 0 0) (.int .i64 0) (.int .i64 0) (.string ⟨#[]⟩) (.slice none 0 0)
    rwa [World.size_alloc] at h9
  obtain ⟨k0, k1, k2, k3, _, _, _, _⟩ := HK0.out
  have Hnz : Hid (n ≤ 65536) := hnz
  clear hW0 hy hyr hr hv hb hn hF hq hlen hnz hX hB
  obtain ⟨L, hL⟩ : ∃ L, L = qs.length := ⟨_, rfl⟩
  have HL : Hid (L = qs.length) := hL
  rw [← hL]
  rw [← hL] at HU HN HX HV
  clear hL
  go_enter Tryz.func16, Tryz.ntmps16
  go_upto_region 1 with fail
  rw [← HW0.out]
  clear HW0
  go_wp2_with fail
  refine Calls.mono (HR.out _ hb0) ?_
  rintro e w1 ⟨rfl, hg1⟩
  have HZ1 : Hid (Bx8 w1 (w.heap.size + 1) (.int .i64 0) (.int .i64 0) (.string ⟨#[]⟩) (.slice none 0 0) (.int .i64 0) (.int .i64 0) (.string ⟨#[]⟩) (.slice none 0 0)) := HZ0.out.keeps hg1
  have hb1 : Below w.heap.size w w1 := hb0.trans (hg1.mono hb0.size)
  have k0 := cell_keeps hg1 k0; have k1 := cell_keeps hg1 k1; have k2 := cell_keeps hg1 k2; have k3 := cell_keeps hg1 k3
  clear hg1 HR HK0 HZ0 hb0
  go_wp2_with fail
  refine Calls.mono (HU.out _ hb1) ?_
  rintro e w2 ⟨rfl, hg2⟩
  have HZ2 : Hid (Bx8 w2 (w.heap.size + 1) (.int .i64 0) (.int .i64 0) (.string ⟨#[]⟩) (.slice none 0 0) (.int .i64 0) (.int .i64 0) (.string ⟨#[]⟩) (.slice none 0 0)) := HZ1.out.keeps hg2
  have hb2 : Below w.heap.size w w2 := hb1.trans (hg2.mono hb1.size)
  clear hg2 HU HZ1 hb1 k0 k1 k2 k3
  cases F with
  | false =>
    have hI : ((n + (if false && !cn then 1 else 0) : Nat) : Int) = (n : Int) := by simp
    have HNi : Hid (Calls Tryz.prog 40 #[.slice av L cv, .int .i64 (n : Int)] w2 (PrD2 w0 x B w2)) := by
      show Calls _ _ _ _ _
      rw [HXB.out.1, HXB.out.2, hI]
      exact HN.out (n : Int) w2 hb2
    clear hI HN HX HV HXB
    go_wp2_with fail
    refine Calls.mono HNi.out ?_
    rintro e w3 ⟨hg3, a1, c1, a2, c2, rfl, hpl⟩
    have HZ3 : Hid (Bx8 w3 (w.heap.size + 1) (.int .i64 0) (.int .i64 0) (.string ⟨#[]⟩) (.slice none 0 0) (.int .i64 0) (.int .i64 0) (.string ⟨#[]⟩) (.slice none 0 0)) := HZ2.out.keeps hg3
    have hb3 : Below w.heap.size w w3 := hb2.trans (hg3.mono hb2.size)
    clear hg3 HNi HZ2 hb2
    obtain ⟨W4, hW4⟩ : ∃ W4, W4 = w3.alloc (.cells #[.int .i64 x.1.kind, .int .i64 x.1.num, .string x.1.text, .slice a1 x.1.items.length c1, .int .i64 x.2.kind, .int .i64 x.2.num, .string x.2.text, .slice a2 x.2.items.length c2] 33) := ⟨_, rfl⟩
    have HW4 : Hid (W4 = w3.alloc (.cells #[.int .i64 x.1.kind, .int .i64 x.1.num, .string x.1.text, .slice a1 x.1.items.length c1, .int .i64 x.2.kind, .int .i64 x.2.num, .string x.2.text, .slice a2 x.2.items.length c2] 33)) := hW4
    have hal : Below w3.heap.size w3 W4 := by rw [hW4]; exact ((Grew.refl w3).alloc _).below
    have HB4 : Hid (Bx8 W4 w3.heap.size (.int .i64 x.1.kind) (.int .i64 x.1.num) (.string x.1.text) (.slice a1 x.1.items.length c1) (.int .i64 x.2.kind) (.int .i64 x.2.num) (.string x.2.text) (.slice a2 x.2.items.length c2)) := by rw [hW4]; exact bx8_alloc _ _ _ _ _ _ _ _ _ _
    have HZ4 : Hid (Bx8 W4 (w.heap.size + 1) (.int .i64 0) (.int .i64 0) (.string ⟨#[]⟩) (.slice none 0 0) (.int .i64 0) (.int .i64 0) (.string ⟨#[]⟩) (.slice none 0 0)) := HZ3.out.keeps hal
    have hb4 : Below w.heap.size w W4 := hb3.trans (hal.mono hb3.size)
    obtain ⟨y0, y1, y2, y3, y4, y5, y6, y7, f0, f1, f2, f3, f4, f5, f6, f7, _⟩ := HZ4.out
    obtain ⟨z0, z1, z2, z3, z4, z5, z6, z7, _, _, _, _, _, _, _, _, _⟩ := HB4.out
    have Hq : Hid _ := put8_in HZ4.out (.int .i64 x.1.kind) (.int .i64 x.1.num) (.string x.1.text) (.slice a1 x.1.items.length c1) (.int .i64 x.2.kind) (.int .i64 x.2.num) (.string x.2.text) (.slice a2 x.2.items.length c2)
    have HE : Hid (PrD3 w0 x B 0 w (.returned (.tuple #[.agg #[.int .i64 x.1.kind, .int .i64 x.1.num, .string x.1.text, .slice a1 x.1.items.length c1, .int .i64 x.2.kind, .int .i64 x.2.num, .string x.2.text, .slice a2 x.2.items.length c2], .bool B, .int .i64 0])) (W4.setCells (w.heap.size + 1) 0 [.int .i64 x.1.kind, .int .i64 x.1.num, .string x.1.text, .slice a1 x.1.items.length c1, .int .i64 x.2.kind, .int .i64 x.2.num, .string x.2.text, .slice a2 x.2.items.length c2])) := ⟨below_put8 hb4 (by omega) _ _ _ _ _ _ _ _, a1, c1, a2, c2, rfl, hpl⟩
    clear hW4 hal hb3 hb4 hpl
    generalize hP : PrD3 w0 x B 0 w = P at *
    clear hP
    go_upto_region 7 with fail
    rw [← HW4.out]
    clear HW4
    go_wp2_with fail
    refine bodyPost_ret (v := .tuple #[.agg #[.int .i64 x.1.kind, .int .i64 x.1.num, .string x.1.text, .slice a1 x.1.items.length c1, .int .i64 x.2.kind, .int .i64 x.2.num, .string x.2.text, .slice a2 x.2.items.length c2], .bool B, .int .i64 0]) ?_ rfl HE.out
    obtain ⟨q0, q1, q2, q3, q4, q5, q6, q7⟩ := Hq.out
    simp only [World.setCells, Nat.zero_add, Nat.reduceAdd] at q0 q1 q2 q3 q4 q5 q6 q7
    simp [results, Tryz.results16, go_sem, q0, q1, q2, q3, q4, q5, q6, q7]
  | true =>
    cases cn with
    | true =>
      have hI : ((n + (if true && !true then 1 else 0) : Nat) : Int) = (n : Int) := by simp
      have HNi : Hid (Calls Tryz.prog 40 #[.slice av L cv, .int .i64 (n : Int)] w2 (PrD2 w0 x B w2)) := by
        show Calls _ _ _ _ _
        rw [HXB.out.1, HXB.out.2, hI]
        exact HN.out (n : Int) w2 hb2
      clear hI HN HX HV HXB
      go_wp2_with fail
      refine Calls.mono HNi.out ?_
      rintro e w3 ⟨hg3, a1, c1, a2, c2, rfl, hpl⟩
      have HZ3 : Hid (Bx8 w3 (w.heap.size + 1) (.int .i64 0) (.int .i64 0) (.string ⟨#[]⟩) (.slice none 0 0) (.int .i64 0) (.int .i64 0) (.string ⟨#[]⟩) (.slice none 0 0)) := HZ2.out.keeps hg3
      have hb3 : Below w.heap.size w w3 := hb2.trans (hg3.mono hb2.size)
      clear hg3 HNi HZ2 hb2
      obtain ⟨W4, hW4⟩ : ∃ W4, W4 = w3.alloc (.cells #[.int .i64 x.1.kind, .int .i64 x.1.num, .string x.1.text, .slice a1 x.1.items.length c1, .int .i64 x.2.kind, .int .i64 x.2.num, .string x.2.text, .slice a2 x.2.items.length c2] 33) := ⟨_, rfl⟩
      have HW4 : Hid (W4 = w3.alloc (.cells #[.int .i64 x.1.kind, .int .i64 x.1.num, .string x.1.text, .slice a1 x.1.items.length c1, .int .i64 x.2.kind, .int .i64 x.2.num, .string x.2.text, .slice a2 x.2.items.length c2] 33)) := hW4
      have hal : Below w3.heap.size w3 W4 := by rw [hW4]; exact ((Grew.refl w3).alloc _).below
      have HB4 : Hid (Bx8 W4 w3.heap.size (.int .i64 x.1.kind) (.int .i64 x.1.num) (.string x.1.text) (.slice a1 x.1.items.length c1) (.int .i64 x.2.kind) (.int .i64 x.2.num) (.string x.2.text) (.slice a2 x.2.items.length c2)) := by rw [hW4]; exact bx8_alloc _ _ _ _ _ _ _ _ _ _
      have HZ4 : Hid (Bx8 W4 (w.heap.size + 1) (.int .i64 0) (.int .i64 0) (.string ⟨#[]⟩) (.slice none 0 0) (.int .i64 0) (.int .i64 0) (.string ⟨#[]⟩) (.slice none 0 0)) := HZ3.out.keeps hal
      have hb4 : Below w.heap.size w W4 := hb3.trans (hal.mono hb3.size)
      obtain ⟨y0, y1, y2, y3, y4, y5, y6, y7, f0, f1, f2, f3, f4, f5, f6, f7, _⟩ := HZ4.out
      obtain ⟨z0, z1, z2, z3, z4, z5, z6, z7, _, _, _, _, _, _, _, _, _⟩ := HB4.out
      have Hq : Hid _ := put8_in HZ4.out (.int .i64 x.1.kind) (.int .i64 x.1.num) (.string x.1.text) (.slice a1 x.1.items.length c1) (.int .i64 x.2.kind) (.int .i64 x.2.num) (.string x.2.text) (.slice a2 x.2.items.length c2)
      have HE : Hid (PrD3 w0 x B 0 w (.returned (.tuple #[.agg #[.int .i64 x.1.kind, .int .i64 x.1.num, .string x.1.text, .slice a1 x.1.items.length c1, .int .i64 x.2.kind, .int .i64 x.2.num, .string x.2.text, .slice a2 x.2.items.length c2], .bool B, .int .i64 0])) (W4.setCells (w.heap.size + 1) 0 [.int .i64 x.1.kind, .int .i64 x.1.num, .string x.1.text, .slice a1 x.1.items.length c1, .int .i64 x.2.kind, .int .i64 x.2.num, .string x.2.text, .slice a2 x.2.items.length c2])) := ⟨below_put8 hb4 (by omega) _ _ _ _ _ _ _ _, a1, c1, a2, c2, rfl, hpl⟩
      clear hW4 hal hb3 hb4 hpl
      generalize hP : PrD3 w0 x B 0 w = P at *
      clear hP
      go_upto_region 7 with fail
      rw [← HW4.out]
      clear HW4
      go_wp2_with fail
      refine bodyPost_ret (v := .tuple #[.agg #[.int .i64 x.1.kind, .int .i64 x.1.num, .string x.1.text, .slice a1 x.1.items.length c1, .int .i64 x.2.kind, .int .i64 x.2.num, .string x.2.text, .slice a2 x.2.items.length c2], .bool B, .int .i64 0]) ?_ rfl HE.out
      obtain ⟨q0, q1, q2, q3, q4, q5, q6, q7⟩ := Hq.out
      simp only [World.setCells, Nat.zero_add, Nat.reduceAdd] at q0 q1 q2 q3 q4 q5 q6 q7
      simp [results, Tryz.results16, go_sem, q0, q1, q2, q3, q4, q5, q6, q7]
    | false =>
      have hI : ((n + (if true && !false then 1 else 0) : Nat) : Int) = ((n : Int) + 1) := by simp
      have HNi : Hid (Calls Tryz.prog 40 #[.slice av L cv, .int .i64 ((n : Int) + 1)] w2 (PrD2 w0 x B w2)) := by
        show Calls _ _ _ _ _
        rw [HXB.out.1, HXB.out.2, hI]
        exact HN.out ((n : Int) + 1) w2 hb2
      have e1 : IntKind.i64.wrap ((n : Int) + 1) = (n : Int) + 1 := by have := Hnz.out; rw [IntKind.wrap_i64]; omega
      clear hI HN HX HV HXB
      go_wp2_with fail
      refine Calls.mono HNi.out ?_
      rintro e w3 ⟨hg3, a1, c1, a2, c2, rfl, hpl⟩
      have HZ3 : Hid (Bx8 w3 (w.heap.size + 1) (.int .i64 0) (.int .i64 0) (.string ⟨#[]⟩) (.slice none 0 0) (.int .i64 0) (.int .i64 0) (.string ⟨#[]⟩) (.slice none 0 0)) := HZ2.out.keeps hg3
      have hb3 : Below w.heap.size w w3 := hb2.trans (hg3.mono hb2.size)
      clear hg3 HNi HZ2 hb2
      obtain ⟨W4, hW4⟩ : ∃ W4, W4 = w3.alloc (.cells #[.int .i64 x.1.kind, .int .i64 x.1.num, .string x.1.text, .slice a1 x.1.items.length c1, .int .i64 x.2.kind, .int .i64 x.2.num, .string x.2.text, .slice a2 x.2.items.length c2] 33) := ⟨_, rfl⟩
      have HW4 : Hid (W4 = w3.alloc (.cells #[.int .i64 x.1.kind, .int .i64 x.1.num, .string x.1.text, .slice a1 x.1.items.length c1, .int .i64 x.2.kind, .int .i64 x.2.num, .string x.2.text, .slice a2 x.2.items.length c2] 33)) := hW4
      have hal : Below w3.heap.size w3 W4 := by rw [hW4]; exact ((Grew.refl w3).alloc _).below
      have HB4 : Hid (Bx8 W4 w3.heap.size (.int .i64 x.1.kind) (.int .i64 x.1.num) (.string x.1.text) (.slice a1 x.1.items.length c1) (.int .i64 x.2.kind) (.int .i64 x.2.num) (.string x.2.text) (.slice a2 x.2.items.length c2)) := by rw [hW4]; exact bx8_alloc _ _ _ _ _ _ _ _ _ _
      have HZ4 : Hid (Bx8 W4 (w.heap.size + 1) (.int .i64 0) (.int .i64 0) (.string ⟨#[]⟩) (.slice none 0 0) (.int .i64 0) (.int .i64 0) (.string ⟨#[]⟩) (.slice none 0 0)) := HZ3.out.keeps hal
      have hb4 : Below w.heap.size w W4 := hb3.trans (hal.mono hb3.size)
      obtain ⟨y0, y1, y2, y3, y4, y5, y6, y7, f0, f1, f2, f3, f4, f5, f6, f7, _⟩ := HZ4.out
      obtain ⟨z0, z1, z2, z3, z4, z5, z6, z7, _, _, _, _, _, _, _, _, _⟩ := HB4.out
      have Hq : Hid _ := put8_in HZ4.out (.int .i64 x.1.kind) (.int .i64 x.1.num) (.string x.1.text) (.slice a1 x.1.items.length c1) (.int .i64 x.2.kind) (.int .i64 x.2.num) (.string x.2.text) (.slice a2 x.2.items.length c2)
      have HE : Hid (PrD3 w0 x B 0 w (.returned (.tuple #[.agg #[.int .i64 x.1.kind, .int .i64 x.1.num, .string x.1.text, .slice a1 x.1.items.length c1, .int .i64 x.2.kind, .int .i64 x.2.num, .string x.2.text, .slice a2 x.2.items.length c2], .bool B, .int .i64 0])) (W4.setCells (w.heap.size + 1) 0 [.int .i64 x.1.kind, .int .i64 x.1.num, .string x.1.text, .slice a1 x.1.items.length c1, .int .i64 x.2.kind, .int .i64 x.2.num, .string x.2.text, .slice a2 x.2.items.length c2])) := ⟨below_put8 hb4 (by omega) _ _ _ _ _ _ _ _, a1, c1, a2, c2, rfl, hpl⟩
      clear hW4 hal hb3 hb4 hpl
      generalize hP : PrD3 w0 x B 0 w = P at *
      clear hP
      go_upto_region 7 with fail
      rw [← HW4.out]
      clear HW4
      go_wp2_with fail
      refine bodyPost_ret (v := .tuple #[.agg #[.int .i64 x.1.kind, .int .i64 x.1.num, .string x.1.text, .slice a1 x.1.items.length c1, .int .i64 x.2.kind, .int .i64 x.2.num, .string x.2.text, .slice a2 x.2.items.length c2], .bool B, .int .i64 0]) ?_ rfl HE.out
      obtain ⟨q0, q1, q2, q3, q4, q5, q6, q7⟩ := Hq.out
      simp only [World.setCells, Nat.zero_add, Nat.reduceAdd] at q0 q1 q2 q3 q4 q5 q6 q7
      simp [results, Tryz.results16, go_sem, q0, q1, q2, q3, q4, q5, q6, q7]

end Go.Proofs.YtpmodiodpilmeaaGreat

