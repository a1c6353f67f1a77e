/-
  What the document's under keeps: four boxes, a row of pairs appended to.
-/
import Derived.Test.YtofceccicmlmoaaGreatUndP
import Derived.Test.YtofceccicmlmoaaGreatOpenC
import Derived.Test.YtofceccicmlmoaaGreatPairsOf
import Derived.Deep.AppendLies
namespace Go.Proofs.YtofceccicmlmoaaGreat
open Go.RowKit Go.Shelf

/-- What part tells. -/
def PartP (X : Nat → Prop) (t s : VT) (w : World) (e : Ending) (w' : World) : Prop :=
  ∃ (y : VT) (a : Option Addr) (c : Nat), e = .returned (.tuple #[.agg #[.int .i64 y.kind, .int .i64 y.num, .string y.text, .slice a y.items.length c], .bool (plcB t s)]) ∧ LiesX X 16 w y.items (.slice a y.items.length c) ∧ y.text.size ≤ 9223372036854775807 ∧ ((plcB t s = true ∧ t.items[(plcI t s).toNat]? = some y) ∨ (plcB t s = false ∧ y = zeroT)) ∧ Below w.heap.size w w'

theorem idx_fact {t s : VT} (h : idxB t s = true) : ∃ J : Nat, s.num = (J : Int) ∧ J < t.items.length ∧ plcB t s = true ∧ (plcI t s).toNat = J := by
  unfold idxB at h
  simp only [Bool.and_eq_true, beq_iff_eq, decide_eq_true_eq] at h
  obtain ⟨h4, h2, h0, hl⟩ := h
  refine ⟨s.num.toNat, by omega, by omega, ?_, ?_⟩
  · unfold plcB
    rw [if_neg (by omega), if_pos h4, h2]
    simp [h0, hl]
  · unfold plcI
    rw [if_neg (by omega), if_pos h4]

theorem key_fact {t s : VT} (h : keyB t s = true) : keyI t s + 1 < t.items.length ∧ plcB t s = true ∧ (plcI t s).toNat = keyI t s + 1 := by
  have hb := h
  unfold keyB at h
  simp only [Bool.and_eq_true, beq_iff_eq] at h
  obtain ⟨h6, hh⟩ := h
  have h1 := hasN_lt hh
  rw [keysOf_len] at h1
  have e : keyI t s = 2 * upN s (keysOf t.items) := by unfold keyI; rw [if_pos hb]
  refine ⟨by omega, ?_, ?_⟩
  · unfold plcB; rw [if_pos (.inr h6)]; exact hh
  · unfold plcI; rw [if_pos (.inr h6), e]; rfl

theorem mem_fact {t s : VT} (h : memB t s = true) : memI t s < t.items.length ∧ plcB t s = true ∧ (plcI t s).toNat = memI t s := by
  have hb := h
  unfold memB at h
  simp only [Bool.and_eq_true, beq_iff_eq] at h
  obtain ⟨h5, hh⟩ := h
  have h1 := hasN_lt hh
  have e : memI t s = upN s t.items := by unfold memI; rw [if_pos hb]
  refine ⟨by omega, ?_, ?_⟩
  · unfold plcB; rw [if_neg (by omega), if_neg (by omega), if_pos h5]; exact hh
  · unfold plcI; rw [if_neg (by omega), if_neg (by omega), if_pos h5, e]; rfl

theorem none_fact {t s : VT} (hr : rightV 16 t = true) (h1 : idxB t s = false) (h2 : keyB t s = false) (h3 : memB t s = false) : plcB t s = false := by
  unfold plcB
  by_cases h06 : t.kind = 0 ∨ t.kind = 6
  · rw [if_pos h06]
    rcases h06 with h | h
    · rw [leaf_items hr (by omega) (by omega) (by omega)]; rfl
    · unfold keyB at h2
      rw [h] at h2
      simpa using h2
  · rw [if_neg h06]
    by_cases h4 : t.kind = 4
    · rw [if_pos h4]
      unfold idxB at h1
      rw [h4] at h1
      simpa using h1
    · rw [if_neg h4]
      by_cases h5 : t.kind = 5
      · rw [if_pos h5]
        unfold memB at h3
        rw [h5] at h3
        simpa using h3
      · rw [if_neg h5]

set_option maxRecDepth 100000 in
set_option maxHeartbeats 8000000 in
theorem rpart_any (X : Nat → Prop) (t s : VT) (a ay : Option Addr) (c cy : Nat) (w : World) (htx : LiesX X 16 w t.items (.slice a t.items.length c)) (hs : Lies 16 w s.items (.slice ay s.items.length cy)) (hr : rightV 16 t = true) :
    Calls Tryz.prog 39 #[.agg #[.int .i64 t.kind, .int .i64 t.num, .string t.text, .slice a t.items.length c], .agg #[.int .i64 s.kind, .int .i64 s.num, .string s.text, .slice ay s.items.length cy]] w (PartP X t s w) := by
  have ht := htx.lies
  have hlen : t.items.length ≤ 1024 := right_len hr
  have HT : Hid (Bx (op3 w t s (.slice a t.items.length c) (.slice ay s.items.length cy)) w.heap.size t (.slice a t.items.length c)) := op3_fst _ _ _ _ _
  have HS : Hid (Bx (op3 w t s (.slice a t.items.length c) (.slice ay s.items.length cy)) (w.heap.size + 1) s (.slice ay s.items.length cy)) := op3_snd _ _ _ _ _
  have HR : Hid (Bx (op3 w t s (.slice a t.items.length c) (.slice ay s.items.length cy)) (w.heap.size + 2) zeroT (.slice none 0 0)) := op3_thd _ _ _ _ _
  have hb0 := op3_below w t s (.slice a t.items.length c) (.slice ay s.items.length cy)
  obtain ⟨W0, hW0⟩ : ∃ W0, W0 = op3 w t s (.slice a t.items.length c) (.slice ay s.items.length cy) := ⟨_, rfl⟩
  have HW0 : Hid (W0 = op3 w t s (.slice a t.items.length c) (.slice ay s.items.length cy)) := hW0
  rw [← hW0] at HT HS HR hb0
  clear hW0
  unfold op3 at HW0
  have HI : Hid (∀ W, Calls Tryz.prog 40 #[.agg #[.int .i64 t.kind, .int .i64 t.num, .string t.text, .slice a t.items.length c], .agg #[.int .i64 s.kind, .int .i64 s.num, .string s.text, .slice ay s.items.length cy]] W fun e w' => e = .returned (.tuple #[.int .i64 (if idxB t s = true then s.num else 0), .bool (idxB t s)]) ∧ Below W.heap.size W w') := fun W => rindex_any t s a ay c _ cy W
  have HK : Hid (∀ W, Below w.heap.size w W → Calls Tryz.prog 61 #[.agg #[.int .i64 t.kind, .int .i64 t.num, .string t.text, .slice a t.items.length c], .agg #[.int .i64 s.kind, .int .i64 s.num, .string s.text, .slice ay s.items.length cy]] W fun e w' => e = .returned (.tuple #[.int .i64 (keyI t s : Nat), .bool (keyB t s)]) ∧ Below W.heap.size W w') := fun W hW => rkey_any t s a ay c cy W (Lies.keeps hW _ _ _ ht) (Lies.keeps hW _ _ _ hs) hr
  have HM : Hid (∀ W, Below w.heap.size w W → Calls Tryz.prog 62 #[.agg #[.int .i64 t.kind, .int .i64 t.num, .string t.text, .slice a t.items.length c], .agg #[.int .i64 s.kind, .int .i64 s.num, .string s.text, .slice ay s.items.length cy]] W fun e w' => e = .returned (.tuple #[.int .i64 (memI t s : Nat), .bool (memB t s)]) ∧ Below W.heap.size W w') := fun W hW => rmember_any t s a ay c cy W (Lies.keeps hW _ _ _ ht) (Lies.keeps hW _ _ _ hs) hr
  have HF1 : Hid (idxB t s = true → ∃ J : Nat, s.num = (J : Int) ∧ J < t.items.length ∧ plcB t s = true ∧ (plcI t s).toNat = J) := idx_fact
  have HF2 : Hid (keyB t s = true → keyI t s + 1 < t.items.length ∧ plcB t s = true ∧ (plcI t s).toNat = keyI t s + 1) := key_fact
  have HF3 : Hid (memB t s = true → memI t s < t.items.length ∧ plcB t s = true ∧ (plcI t s).toNat = memI t s) := mem_fact
  have HF4 : Hid (idxB t s = false → keyB t s = false → memB t s = false → plcB t s = false) := none_fact hr
  obtain ⟨a0, c0, hv, _, hrow⟩ := htx
  injection hv with e1 _ e3
  subst e1
  subst e3
  have Hr : Hid _ := hrow
  have HBl : Hid (∀ b o, a = some ⟨b, o, none⟩ → t.items ≠ [] → b < w.heap.size) := fun b o e hne => by
    obtain ⟨b', o', e', hXb, hall⟩ := hrow hne
    rw [e] at e'
    injection e' with e'
    injection e' with e' _ _
    have hl : 0 < t.items.length := List.length_pos_iff.2 hne
    obtain ⟨xv, p0, _⟩ := hall 0 hl
    rw [e']
    exact cell_lt p0
  obtain ⟨PP, hPP⟩ : ∃ PP, PartP X t s w = PP := ⟨_, rfl⟩
  rw [hPP]
  have HPP : Hid (PartP X t s w = PP) := hPP
  clear hPP hrow hs hr ht
  obtain ⟨t0, t1, t2, t3, _, _, _, _⟩ := HT.out
  obtain ⟨s0, s1, s2, s3, _, _, _, _⟩ := HS.out
  go_enter Tryz.func39, Tryz.ntmps39
  go_upto_region 1 with fail
  rw [← HW0.out]
  clear HW0
  go_wp2_with fail
  refine Calls.mono (HI.out _) ?_
  rintro e w1 ⟨rfl, hb1⟩
  have hb2 : Below w.heap.size w w1 := hb0.trans (hb1.mono hb0.size)
  have HR1 : Hid (Bx w1 (w.heap.size + 2) zeroT (.slice none 0 0)) := HR.out.keeps hb1
  replace t0 := cell_keeps hb1 t0; replace t1 := cell_keeps hb1 t1; replace t2 := cell_keeps hb1 t2; replace t3 := cell_keeps hb1 t3
  replace s0 := cell_keeps hb1 s0; replace s1 := cell_keeps hb1 s1; replace s2 := cell_keeps hb1 s2; replace s3 := cell_keeps hb1 s3
  clear hb0 hb1 HI HT HS HR
  by_cases hI : idxB t s = true
  · obtain ⟨J, hJ, hJl, hpB, hpI⟩ := HF1.out hI
    have hji : (J : Int) < (t.items.length : Nat) := by omega
    rw [hI, if_pos rfl, hJ]
    rw [hJ] at s1
    clear HF1 HF2 HF3 HF4 HK HM hI hJ
    obtain ⟨b, o, rfl, _, hall⟩ := Hr.out (by intro e; simp [e] at hJl)
    obtain ⟨xv, p0, p1, p2, p3, p4, p5⟩ := hall J hJl
    obtain ⟨ax, cx, rfl, _⟩ := LiesX.slice p4
    have hget : t.items[J]? = some t.items[J] := List.getElem?_eq_getElem hJl
    have HE : Hid (∀ W, Below w.heap.size w W → PP (.returned (.tuple #[.agg #[.int .i64 t.items[J].kind, .int .i64 t.items[J].num, .string t.items[J].text, .slice ax t.items[J].items.length cx], .bool true])) W) := fun W hW => by
      rw [← HPP.out]
      exact ⟨t.items[J], ax, cx, by rw [hpB], p4.atLeast 16 (by omega), p5, .inl ⟨hpB, by rw [hpI]; exact hget⟩, hW⟩
    have p0 := cell_keeps hb2 p0; have p1 := cell_keeps hb2 p1; have p2 := cell_keeps hb2 p2; have p3 := cell_keeps hb2 p3
    clear hall p4 p5 hget hpB hpI HPP
    generalize t.items[J] = y at *
    have hbl : b < w.heap.size := HBl.out b o rfl (by intro e; simp [e] at hJl)
    have HE1 : Hid (PP (.returned (.tuple #[.agg #[.int .i64 y.kind, .int .i64 y.num, .string y.text, .slice ax y.items.length cx], .bool true])) (w1.setCells (w.heap.size + 2) 0 (encP (y, .slice ax y.items.length cx)))) := HE.out _ (below_put hb2 (by omega) _)
    have Hq : Hid (Bx (w1.setCells (w.heap.size + 2) 0 (encP (y, .slice ax y.items.length cx))) (w.heap.size + 2) y (.slice ax y.items.length cx)) := HR1.out.put (y, .slice ax y.items.length cx)
    obtain ⟨z0, z1, z2, z3, g0, g1, g2, g3⟩ := HR1.out
    clear HE HR1
    generalize y.items.length = ly at *
    go_wp2_with fail
    refine bodyPost_ret (v := .tuple #[.agg #[.int .i64 y.kind, .int .i64 y.num, .string y.text, .slice ax ly cx], .bool true]) ?_ rfl HE1.out
    obtain ⟨q0, q1, q2, q3, _, _, _, _⟩ := Hq.out
    simp only [World.setCells, encP, Nat.zero_add, Nat.reduceAdd] at q0 q1 q2 q3
    simp [results, Tryz.results39, go_sem, q0, q1, q2, q3]
  · have hIf : idxB t s = false := by simpa using hI
    rw [if_neg hI, hIf]
    clear HF1 hI
    go_wp2_with fail
    refine Calls.mono (HK.out _ hb2) ?_
    rintro e w3 ⟨rfl, hb3⟩
    have hb4 : Below w.heap.size w w3 := hb2.trans (hb3.mono hb2.size)
    have HR3 : Hid (Bx w3 (w.heap.size + 2) zeroT (.slice none 0 0)) := HR1.out.keeps hb3
    replace t0 := cell_keeps hb3 t0; replace t1 := cell_keeps hb3 t1; replace t2 := cell_keeps hb3 t2; replace t3 := cell_keeps hb3 t3
    replace s0 := cell_keeps hb3 s0; replace s1 := cell_keeps hb3 s1; replace s2 := cell_keeps hb3 s2; replace s3 := cell_keeps hb3 s3
    clear hb2 hb3 HK HR1
    by_cases hK : keyB t s = true
    · obtain ⟨hJl, hpB, hpI⟩ := HF2.out hK
      rw [hK]
      clear HF2 HF3 HF4 HM hK hIf
      generalize keyI t s = k at *
      obtain ⟨Q, hQ⟩ : ∃ Q, Q = k + 1 := ⟨_, rfl⟩
      rw [← hQ] at hJl hpI
      have hji : (Q : Int) < (t.items.length : Nat) := by omega
      have hwQ : IntKind.i64.wrap ((k : Int) + 1) = (Q : Int) := by rw [IntKind.wrap_i64]; omega
      have HQ : Hid (Q = k + 1) := hQ
      clear hQ
      obtain ⟨b, o, rfl, _, hall⟩ := Hr.out (by intro e; simp [e] at hJl)
      obtain ⟨xv, p0, p1, p2, p3, p4, p5⟩ := hall Q hJl
      obtain ⟨ax, cx, rfl, _⟩ := LiesX.slice p4
      have hget : t.items[Q]? = some t.items[Q] := List.getElem?_eq_getElem hJl
      have HE : Hid (∀ W, Below w.heap.size w W → PP (.returned (.tuple #[.agg #[.int .i64 t.items[Q].kind, .int .i64 t.items[Q].num, .string t.items[Q].text, .slice ax t.items[Q].items.length cx], .bool true])) W) := fun W hW => by
        rw [← HPP.out]
        exact ⟨t.items[Q], ax, cx, by rw [hpB], p4.atLeast 16 (by omega), p5, .inl ⟨hpB, by rw [hpI]; exact hget⟩, hW⟩
      have p0 := cell_keeps hb4 p0; have p1 := cell_keeps hb4 p1; have p2 := cell_keeps hb4 p2; have p3 := cell_keeps hb4 p3
      clear hall p4 p5 hget hpB hpI HPP
      generalize t.items[Q] = y at *
      have hbl : b < w.heap.size := HBl.out b o rfl (by intro e; simp [e] at hJl)
      have HE1 : Hid (PP (.returned (.tuple #[.agg #[.int .i64 y.kind, .int .i64 y.num, .string y.text, .slice ax y.items.length cx], .bool true])) (w3.setCells (w.heap.size + 2) 0 (encP (y, .slice ax y.items.length cx)))) := HE.out _ (below_put hb4 (by omega) _)
      have Hq : Hid (Bx (w3.setCells (w.heap.size + 2) 0 (encP (y, .slice ax y.items.length cx))) (w.heap.size + 2) y (.slice ax y.items.length cx)) := HR3.out.put (y, .slice ax y.items.length cx)
      obtain ⟨z0, z1, z2, z3, g0, g1, g2, g3⟩ := HR3.out
      clear HE HR3
      generalize y.items.length = ly at *
      go_wp2_with fail
      refine bodyPost_ret (v := .tuple #[.agg #[.int .i64 y.kind, .int .i64 y.num, .string y.text, .slice ax ly cx], .bool true]) ?_ rfl HE1.out
      obtain ⟨q0, q1, q2, q3, _, _, _, _⟩ := Hq.out
      simp only [World.setCells, encP, Nat.zero_add, Nat.reduceAdd] at q0 q1 q2 q3
      simp [results, Tryz.results39, go_sem, q0, q1, q2, q3]
    · have hKf : keyB t s = false := by simpa using hK
      rw [hKf]
      clear HF2 hK
      generalize keyI t s = k at *
      go_wp2_with fail
      refine Calls.mono (HM.out _ hb4) ?_
      rintro e w5 ⟨rfl, hb5⟩
      have hb6 : Below w.heap.size w w5 := hb4.trans (hb5.mono hb4.size)
      have HR5 : Hid (Bx w5 (w.heap.size + 2) zeroT (.slice none 0 0)) := HR3.out.keeps hb5
      replace t0 := cell_keeps hb5 t0; replace t1 := cell_keeps hb5 t1; replace t2 := cell_keeps hb5 t2; replace t3 := cell_keeps hb5 t3
      replace s0 := cell_keeps hb5 s0; replace s1 := cell_keeps hb5 s1; replace s2 := cell_keeps hb5 s2; replace s3 := cell_keeps hb5 s3
      clear hb4 hb5 HM HR3
      by_cases hM : memB t s = true
      · obtain ⟨hJl, hpB, hpI⟩ := HF3.out hM
        rw [hM]
        clear HF3 HF4 hM hIf hKf
        generalize memI t s = J at *
        have hji : (J : Int) < (t.items.length : Nat) := by omega
        obtain ⟨b, o, rfl, _, hall⟩ := Hr.out (by intro e; simp [e] at hJl)
        obtain ⟨xv, p0, p1, p2, p3, p4, p5⟩ := hall J hJl
        obtain ⟨ax, cx, rfl, _⟩ := LiesX.slice p4
        have hget : t.items[J]? = some t.items[J] := List.getElem?_eq_getElem hJl
        have HE : Hid (∀ W, Below w.heap.size w W → PP (.returned (.tuple #[.agg #[.int .i64 t.items[J].kind, .int .i64 t.items[J].num, .string t.items[J].text, .slice ax t.items[J].items.length cx], .bool true])) W) := fun W hW => by
          rw [← HPP.out]
          exact ⟨t.items[J], ax, cx, by rw [hpB], p4.atLeast 16 (by omega), p5, .inl ⟨hpB, by rw [hpI]; exact hget⟩, hW⟩
        have p0 := cell_keeps hb6 p0; have p1 := cell_keeps hb6 p1; have p2 := cell_keeps hb6 p2; have p3 := cell_keeps hb6 p3
        clear hall p4 p5 hget hpB hpI HPP
        generalize t.items[J] = y at *
        have hbl : b < w.heap.size := HBl.out b o rfl (by intro e; simp [e] at hJl)
        have HE1 : Hid (PP (.returned (.tuple #[.agg #[.int .i64 y.kind, .int .i64 y.num, .string y.text, .slice ax y.items.length cx], .bool true])) (w5.setCells (w.heap.size + 2) 0 (encP (y, .slice ax y.items.length cx)))) := HE.out _ (below_put hb6 (by omega) _)
        have Hq : Hid (Bx (w5.setCells (w.heap.size + 2) 0 (encP (y, .slice ax y.items.length cx))) (w.heap.size + 2) y (.slice ax y.items.length cx)) := HR5.out.put (y, .slice ax y.items.length cx)
        obtain ⟨z0, z1, z2, z3, g0, g1, g2, g3⟩ := HR5.out
        clear HE HR5
        generalize y.items.length = ly at *
        go_wp2_with fail
        refine bodyPost_ret (v := .tuple #[.agg #[.int .i64 y.kind, .int .i64 y.num, .string y.text, .slice ax ly cx], .bool true]) ?_ rfl HE1.out
        obtain ⟨q0, q1, q2, q3, _, _, _, _⟩ := Hq.out
        simp only [World.setCells, encP, Nat.zero_add, Nat.reduceAdd] at q0 q1 q2 q3
        simp [results, Tryz.results39, go_sem, q0, q1, q2, q3]
      · have hMf : memB t s = false := by simpa using hM
        rw [hMf]
        have hpB := HF4.out hIf hKf hMf
        generalize memI t s = J at *
        have HE1 : Hid (PP (.returned (.tuple #[.agg #[.int .i64 0, .int .i64 0, .string ⟨#[]⟩, .slice none 0 0], .bool false])) (w5.setCells (w.heap.size + 2) 0 (encP (zeroT, .slice none 0 0)))) := by
          show PP _ _
          rw [← HPP.out]
          exact ⟨zeroT, none, 0, by rw [hpB]; rfl, liesX_nil X 16 w none 0, by decide, .inr ⟨hpB, rfl⟩, below_put hb6 (by omega) _⟩
        have Hq : Hid (Bx (w5.setCells (w.heap.size + 2) 0 (encP (zeroT, .slice none 0 0))) (w.heap.size + 2) zeroT (.slice none 0 0)) := HR5.out.put (zeroT, .slice none 0 0)
        obtain ⟨z0, z1, z2, z3, g0, g1, g2, g3⟩ := HR5.out
        clear HPP hpB HF3 HF4 hIf hKf hMf hM HR5
        go_wp2_with fail
        refine bodyPost_ret (v := .tuple #[.agg #[.int .i64 0, .int .i64 0, .string ⟨#[]⟩, .slice none 0 0], .bool false]) ?_ rfl HE1.out
        obtain ⟨q0, q1, q2, q3, _, _, _, _⟩ := Hq.out
        simp only [World.setCells, encP, Nat.zero_add, Nat.reduceAdd] at q0 q1 q2 q3
        simp [results, Tryz.results39, go_sem, q0, q1, q2, q3]

end Go.Proofs.YtofceccicmlmoaaGreat

namespace Go.Proofs.YtofceccicmlmoaaGreat
open Go.RowKit Go.Shelf

/-- A map's items with x under the key s, as the document makes them. -/
def mapU (d : Nat) (t s x : VT) : List VT := kvT (kyd (cmpTP d) ((unkv t.items ++ [(s, x)]).length + 1) (unkv t.items ++ [(s, x)]))

def op4 (w : World) (t s x : VT) (u v y : Value) : World := (((w.alloc (.cells #[.int .i64 t.kind, .int .i64 t.num, .string t.text, u] 24)).alloc (.cells #[.int .i64 s.kind, .int .i64 s.num, .string s.text, v] 24)).alloc (.cells #[.int .i64 x.kind, .int .i64 x.num, .string x.text, y] 24)).alloc (.cells #[.int .i64 0, .int .i64 0, .string ⟨#[]⟩, .slice none 0 0] 24)

theorem op4_below (w : World) (t s x : VT) (u v y : Value) : Below w.heap.size w (op4 w t s x u v y) := ((((Grew.refl w).alloc _).alloc _ |>.alloc _).alloc _).below
theorem op4_size (w : World) (t s x : VT) (u v y : Value) : (op4 w t s x u v y).heap.size = w.heap.size + 4 := by unfold op4; simp
theorem op4_fst (w : World) (t s x : VT) (u v y : Value) : Bx (op4 w t s x u v y) w.heap.size t u := (bx_alloc w t u).keeps (((Grew.two _ _ _)).alloc _).below
theorem op4_snd (w : World) (t s x : VT) (u v y : Value) : Bx (op4 w t s x u v y) (w.heap.size + 1) s v := by
  have := (bx_alloc (w.alloc (.cells #[.int .i64 t.kind, .int .i64 t.num, .string t.text, u] 24)) s v).keeps (Grew.two _ (.cells #[.int .i64 x.kind, .int .i64 x.num, .string x.text, y] 24) (.cells #[.int .i64 0, .int .i64 0, .string ⟨#[]⟩, .slice none 0 0] 24)).below
  rwa [World.size_alloc] at this
theorem op4_thd (w : World) (t s x : VT) (u v y : Value) : Bx (op4 w t s x u v y) (w.heap.size + 2) x y := by
  have := (bx_alloc ((w.alloc (.cells #[.int .i64 t.kind, .int .i64 t.num, .string t.text, u] 24)).alloc (.cells #[.int .i64 s.kind, .int .i64 s.num, .string s.text, v] 24)) x y).keeps ((Grew.refl _).alloc (.cells #[.int .i64 0, .int .i64 0, .string ⟨#[]⟩, .slice none 0 0] 24)).below
  rwa [World.size_alloc, World.size_alloc] at this
theorem op4_fth (w : World) (t s x : VT) (u v y : Value) : Bx (op4 w t s x u v y) (w.heap.size + 3) zeroT (.slice none 0 0) := by
  have := bx_alloc (((w.alloc (.cells #[.int .i64 t.kind, .int .i64 t.num, .string t.text, u] 24)).alloc (.cells #[.int .i64 s.kind, .int .i64 s.num, .string s.text, v] 24)).alloc (.cells #[.int .i64 x.kind, .int .i64 x.num, .string x.text, y] 24)) zeroT (.slice none 0 0)
  rwa [World.size_alloc, World.size_alloc, World.size_alloc] at this

/-- Pairs that may be appended. -/
structure SrcQ (w : World) (aa : Option Addr) (m : Nat) (news : List Value) : Prop where
  none : aa = none → m = 0
  len : news.length = m * 8
  cell : ∀ ad, aa = some ad → ∀ j u, news[j]? = some u → w.cell? (ad.add j) = some u
  one : ∀ u ∈ news, u.oneCell' = true

theorem SrcQ.keeps {w w' : World} (hb : Below w.heap.size w w') {aa : Option Addr} {m : Nat} {news : List Value} (h : SrcQ w aa m news) : SrcQ w' aa m news :=
  ⟨h.none, h.len, fun ad e j u hu => cell_keeps hb (h.cell ad e j u hu), h.one⟩

theorem SlQ.srcQ {base d : Nat} {w : World} {qs : List PP} {aa : Option Addr} {c : Nat} (h : SlQ base d w qs (.slice aa qs.length c)) : SrcQ w aa qs.length (qs.flatMap encQ) := by
  obtain ⟨h1, h2, h3⟩ := h.src
  exact ⟨h1, flat_lenQ qs, h2 w (Below.refl _ _), h3⟩

theorem stepQ_append {W : World} {ops : Array Oper} {o : Oper} {act : Act} {K : Act → World → Prop} {Q : Exit → Act → World → Prop} {E : Prop} (hgd : o.guard = none) (s x : Operand)
    (ho : o.op = .call { callee := .builtin .append, args := #[s, x], argTypes := #[83, 83] })
    {base n : Nat} {v : Value} {xs : List Value} (hs : act.eval s = v) (hown : W.ownsRow base 87 8 v n xs) {aa : Option Addr} {m c : Nat} (hx : act.eval x = .slice aa m c)
    {news : List Value} (hsrc : SrcQ W aa m news) (hm : n + m ≤ 1000000) (hbase : base ≤ W.heap.size) (k : Nat) (hk : n + m = k) (ys : List Value) (hys : xs ++ news = ys)
    (h : ∀ a' c' W', W'.ownsRow base 87 8 (.slice a' k c') k ys → W.grownBy W' v.ownBlock → K (act.put o.dst (.slice a' k c')) W') :
    if Region.wanted o (yielded ops act.tmps) = true then Oper.wp Tryz.prog o act W K Q else E := by
  have hw : Region.wanted o (yielded ops act.tmps) = true := by simp [Region.wanted, hgd]
  rw [if_pos hw]
  obtain ⟨i0, hi, hz0, hz1, hz2⟩ := infoQ
  subst hk hys
  by_cases h0 : m = 0
  · subst h0
    have hn : news = [] := List.eq_nil_of_length_eq_zero (by have := hsrc.len; omega)
    subst hn
    have hr : ∀ ty, (Builtin.append_ #[83, 83] ty #[v, .slice aa 0 c]).run Tryz.prog W = .ok v W := fun ty => by
      rcases hown.2 with ⟨rfl, rfl⟩ | ⟨g, cap, cur, rfl, _, _, hnc, _⟩
      · cases aa <;> simp [Builtin.append_, run_underlying Tryz.underlying83, sizeOf, typeInfo, hi, Builtin.lenOf, Builtin.firstCells, loadCells, loadCellsFrom]
      · cases aa <;> simp [Builtin.append_, run_underlying Tryz.underlying83, sizeOf, typeInfo, hi, Builtin.lenOf, Builtin.firstCells, hnc, storeCells, loadCells, loadCellsFrom]
    unfold Oper.wp execOp
    simp only [ho, resolve, invoke, builtin, Sem.run_bind, Sem.run_pure, Result.andThen_ok, List.map_toArray, List.map_cons, List.map_nil, hs, hx, hr]
    have hvf : ∃ a' c', v = .slice a' n c' := by
      rcases hown.2 with ⟨e, e2⟩ | ⟨g, cap, cur, e, _⟩
      · exact ⟨_, _, by rw [e, e2]⟩
      · exact ⟨_, cap, e⟩
    obtain ⟨a', c', rfl⟩ := hvf
    exact h a' c' W (by simpa using hown) ⟨rfl, rfl, rfl, Nat.le_refl _, fun _ _ _ => rfl⟩
  · obtain ⟨ad, rfl⟩ : ∃ ad, aa = some ad := by
      cases e : aa with
      | none => exact absurd (hsrc.none e) h0
      | some ad => exact ⟨ad, rfl⟩
    obtain ⟨g', cap, w', hr, r1, r2, r3, r4⟩ := run_append_lies (P := Tryz.prog) W 83 o.type base 87 i0 _ 8 112 Tryz.underlying83 hi hz0 hz1 hz2 rfl (by decide) _ n xs hown ad m c news hsrc.len (hsrc.cell ad rfl) hsrc.one (by omega) (by unfold maxLen; omega) (by omega) hbase _ rfl
    unfold Oper.wp execOp
    simp only [ho, resolve, invoke, builtin, Sem.run_bind, Sem.run_pure, Result.andThen_ok, List.map_toArray, List.map_cons, List.map_nil, hs, hx, hr]
    exact h _ _ _ r1 r2

/-- Keyed is keyed. -/
theorem rKeyed_any (d : Nat) (l : List PP) (u : Value) (w : World) (hu : SlQ 0 d w l u) (hl : l.length ≤ 65536) :
    Calls Tryz.prog 64 #[u] w fun e w' => ∃ v, e = .returned v ∧ SlQ 0 d w' (kyd (cmpQ d) (l.length + 1) l) v ∧ Below w.heap.size w w' := by
  obtain ⟨a, c, rfl, _⟩ := hu.slice
  have HU : Hid (SlQ 0 d w l (.slice a l.length c)) := hu
  clear hu
  go_enter Tryz.func64, Tryz.ntmps64
  go_wp2_with fail
  refine Calls.mono (rkeyed_any d l.length l _ w HU.out hl (by omega)) ?_
  rintro e w1 ⟨v, rfl, hs, hb⟩
  obtain ⟨a1, c1, rfl, _⟩ := hs.slice
  have HS : Hid (SlQ 0 d w1 (kyd (cmpQ d) (l.length + 1) l) (.slice a1 (kyd (cmpQ d) (l.length + 1) l).length c1)) := hs.mono (Nat.zero_le _)
  clear hs
  go_wp2_with fail
  go_ret
  exact ⟨_, rfl, HS.out, hb⟩

end Go.Proofs.YtofceccicmlmoaaGreat

