/-
  check, fitting, told, Get.
-/
import Derived.Test.YtofceccicmlmoaaGreatOpenC
import Derived.Deep.AppendLies
import Derived.Test.YtofceccicmlmoaaGreatRotate
import Derived.Deep.RegionWith
import Derived.Test.YtofceccicmlmoaaGreatList
import Derived.Test.YtofceccicmlmoaaGreatRIs
namespace Go.Proofs.YtofceccicmlmoaaGreat
open Go.RowKit Go.Shelf

set_option maxRecDepth 100000 in
set_option maxHeartbeats 8000000 in
theorem opened_in (X : Nat → Prop) (M : Nat) (hXM : ∀ b, X b → b < M) (t s : VT) (ps : List (VT × Value)) (a ay : Option Addr) (c cy : Nat) (w : World) (hM : M ≤ w.heap.size) (hps : ps.map (·.1) = t.items) (hrow : OwnX X M w ps (.slice a t.items.length c)) (hs : LiesX X 16 w s.items (.slice ay s.items.length cy)) (hr : rightV 16 t = true) (hd : Dp 16 t) (h4 : t.kind = 4) (hno : ¬ (s.kind = 2 ∧ s.num = (t.items.length : Int))) (hB : plcB t s = true) :
    Calls Tryz.prog 36 #[.agg #[.int .i64 t.kind, .int .i64 t.num, .string t.text, .slice a t.items.length c], .agg #[.int .i64 s.kind, .int .i64 s.num, .string s.text, .slice ay s.items.length cy]] w (OpPost X M t s w) := by
  have hI : plcI t s = s.num := by unfold plcI; rw [if_neg (by omega), if_pos h4]
  have hlt := plcB_lt (right_even t hd hr) hB
  rw [hI] at hlt
  have hop : opnT t s = some (t, s.num.toNat) := by
    unfold opnT
    rw [if_neg (by omega), if_pos h4, if_neg hno, if_pos hB]
  have hlen := right_len hr
  have hnn : ((s.num.toNat : Nat) : Int) = s.num := by omega
  have HPl : Hid (∀ W, Below w.heap.size w W → Calls Tryz.prog 30 #[.agg #[.int .i64 t.kind, .int .i64 t.num, .string t.text, .slice a t.items.length c], .agg #[.int .i64 s.kind, .int .i64 s.num, .string s.text, .slice ay s.items.length cy]] W fun e w' => e = .returned (.tuple #[.int .i64 s.num, .bool true]) ∧ Below W.heap.size W w') := fun W hW => by
    have := place_any t s _ _ W (Lies.keeps hW _ _ _ (own_to16 hrow hps hlen hd)) (Lies.keeps hW _ _ _ hs.lies) hr
    unfold PlPost at this
    rwa [hB, hI] at this
  have HN2 : Hid (∀ W, Calls Tryz.prog 59 #[.agg #[.int .i64 s.kind, .int .i64 s.num, .string s.text, .slice ay s.items.length cy], .int .i64 (t.items.length : Int)] W fun e w' => e = .returned (.bool false) ∧ Below W.heap.size W w') := fun W => by
    have := isNumber_any s ay s.items.length cy t.items.length W
    have e : (s.kind == 2 && s.num == (t.items.length : Int)) = false := by
      rw [Bool.eq_false_iff]
      intro h10
      simp only [Bool.and_eq_true, beq_iff_eq] at h10
      exact hno h10
    rwa [e] at this
  have HE : Hid (∀ W, OwnX X M W ps (.slice a t.items.length c) → Below M w W → OpPost X M t s w (.returned (.tuple #[.agg #[.int .i64 4, .int .i64 t.num, .string t.text, .slice a t.items.length c], .int .i64 s.num, .int .i64 0])) W) := fun W h1 h2 => by
    have := op_some (X := X) (M := M) (w := w) hop hps h1 h2
    rw [h4, hnn] at this
    exact this
  have HT : Hid (Bx (op3 w t s (.slice a t.items.length c) (.slice ay s.items.length cy)) w.heap.size t (.slice a t.items.length c)) := op3_fst _ _ _ _ _
  have HS : Hid (Bx (op3 w t s (.slice a t.items.length c) (.slice ay s.items.length cy)) (w.heap.size + 1) s (.slice ay s.items.length cy)) := op3_snd _ _ _ _ _
  have HR : Hid (Bx (op3 w t s (.slice a t.items.length c) (.slice ay s.items.length cy)) (w.heap.size + 2) zeroT (.slice none 0 0)) := op3_thd _ _ _ _ _
  have hb0 := op3_below w t s (.slice a t.items.length c) (.slice ay s.items.length cy)
  obtain ⟨W0, hW0⟩ : ∃ W0, W0 = op3 w t s (.slice a t.items.length c) (.slice ay s.items.length cy) := ⟨_, rfl⟩
  have HW0 : Hid (W0 = op3 w t s (.slice a t.items.length c) (.slice ay s.items.length cy)) := hW0
  rw [← hW0] at HT HS HR hb0
  have HZ0 : Hid (W0.heap.size = w.heap.size + 3) := by rw [hW0]; exact op3_size _ _ _ _ _
  clear hW0
  unfold op3 at HW0
  have HO : Hid (OwnX X M w ps (.slice a t.items.length c)) := hrow
  have Hbl : Hid (∀ q, (Value.slice a t.items.length c).ownBlock = some q → M ≤ q ∧ q < w.heap.size) := by
    obtain ⟨_, _, _, _, k9⟩ := own_slice26 hrow.own
    exact k9
  generalize OpPost X M t s w = PP at *
  clear hop hlen hI hB hrow hs hr hd hps hno hlt hnn
  generalize t.items.length = lt at *
  generalize s.items.length = lz at *
  obtain ⟨t0, t1, t2, t3, f0, f1, f2, f3⟩ := HT.out
  obtain ⟨s0, s1, s2, s3, _, _, _, _⟩ := HS.out
  rw [h4] at HPl t0 HW0 ⊢
  go_enter Tryz.func36, Tryz.ntmps36
  go_upto_region 1 with fail
  rw [← HW0.out]
  clear HW0
  go_wp2_with fail
  refine Calls.mono (HPl.out _ hb0) ?_
  rintro e w1 ⟨rfl, hb1⟩
  have hb2 : Below w.heap.size w w1 := hb0.trans (hb1.mono hb0.size)
  have HR1 : Hid (Bx w1 (w.heap.size + 2) zeroT (.slice none 0 0)) := HR.out.keeps hb1
  have HT1 : Hid (Bx w1 w.heap.size t (.slice a lt c)) := HT.out.keeps hb1
  have hsz1 : w.heap.size + 3 ≤ w1.heap.size := by have := hb1.size; have := HZ0.out; omega
  replace t0 := cell_keeps hb1 t0; replace t3 := cell_keeps hb1 t3
  replace s0 := cell_keeps hb1 s0; replace s1 := cell_keeps hb1 s1; replace s2 := cell_keeps hb1 s2; replace s3 := cell_keeps hb1 s3
  clear hb1 hb0 HPl HT HS HR t1 t2 HZ0 f0 f1 f2 f3
  go_wp2_with fail
  refine Calls.mono (HN2.out _) ?_
  rintro e w2 ⟨rfl, hb3⟩
  have HR2 : Hid (Bx w2 (w.heap.size + 2) zeroT (.slice none 0 0)) := HR1.out.keeps hb3
  have HT2 : Hid (Bx w2 w.heap.size t (.slice a lt c)) := HT1.out.keeps hb3
  have hb4 : Below w.heap.size w w2 := hb2.trans (hb3.mono hb2.size)
  have hsz2 : w.heap.size + 3 ≤ w2.heap.size := Nat.le_trans hsz1 hb3.size
  have HO2 : Hid (OwnX X M w2 ps (.slice a lt c)) := HO.out.keeps hb4
  clear hb3 hb2 HR1 HT1 HN2 s0 s1 s2 s3 t0 t3 HO hsz1
  have HE1 : Hid (PP (.returned (.tuple #[.agg #[.int .i64 4, .int .i64 t.num, .string t.text, .slice a lt c], .int .i64 s.num, .int .i64 0])) (w2.setCells (w.heap.size + 2) 0 (encP (⟨4, t.num, t.text, []⟩, .slice a lt c)))) := HE.out _ (HO2.out.set4 hXM (by omega) (fun e => by have := (Hbl.out _ e).2; omega) _) (below_putM (hb4.mono hM) (by omega) _)
  have Hq : Hid (Bx (w2.setCells (w.heap.size + 2) 0 (encP (⟨4, t.num, t.text, []⟩, .slice a lt c))) (w.heap.size + 2) ⟨4, t.num, t.text, []⟩ (.slice a lt c)) := HR2.out.put (⟨4, t.num, t.text, []⟩, .slice a lt c)
  obtain ⟨t0, t1, t2, t3, f0, f1, f2, f3⟩ := HT2.out
  obtain ⟨z0, z1, z2, z3, g0, g1, g2, g3⟩ := HR2.out
  rw [h4] at t0
  clear hb4 HR2 HT2 HE HO2 Hbl hsz2
  go_wp2_with fail
  refine bodyPost_ret (v := .tuple #[.agg #[.int .i64 4, .int .i64 t.num, .string t.text, .slice a lt c], .int .i64 s.num, .int .i64 0]) ?_ rfl HE1.out
  obtain ⟨q0, q1, q2, q3, _, _, _, _⟩ := Hq.out
  simp only [World.setCells, encP, Nat.zero_add, Nat.reduceAdd] at q0 q1 q2 q3
  simp [results, Tryz.results36, go_sem, q0, q1, q2, q3]

set_option maxRecDepth 100000 in
set_option maxHeartbeats 8000000 in
theorem opened_end (X : Nat → Prop) (M : Nat) (hXM : ∀ b, X b → b < M) (t s : VT) (ps : List (VT × Value)) (a ay : Option Addr) (c cy : Nat) (w : World) (hM : M ≤ w.heap.size) (hps : ps.map (·.1) = t.items) (hrow : OwnX X M w ps (.slice a t.items.length c)) (hs : LiesX X 16 w s.items (.slice ay s.items.length cy)) (hr : rightV 16 t = true) (hd : Dp 16 t) (h4 : t.kind = 4) (hend : s.kind = 2 ∧ s.num = (t.items.length : Int)) :
    Calls Tryz.prog 36 #[.agg #[.int .i64 t.kind, .int .i64 t.num, .string t.text, .slice a t.items.length c], .agg #[.int .i64 s.kind, .int .i64 s.num, .string s.text, .slice ay s.items.length cy]] w (OpPost X M t s w) := by
  have hI : plcI t s = (t.items.length : Int) := by unfold plcI; rw [if_neg (by omega), if_pos h4]; exact hend.2
  have hop : opnT t s = some (⟨4, t.num, t.text, t.items ++ [nilT]⟩, t.items.length) := by
    unfold opnT
    rw [if_neg (by omega), if_pos h4, if_pos hend]
  have hlen := right_len hr
  have hpl : ps.length = t.items.length := by rw [← hps, List.length_map]
  obtain ⟨B, hB⟩ : ∃ B, B = plcB t s := ⟨_, rfl⟩
  have HPl : Hid (∀ W, Below w.heap.size w W → Calls Tryz.prog 30 #[.agg #[.int .i64 t.kind, .int .i64 t.num, .string t.text, .slice a t.items.length c], .agg #[.int .i64 s.kind, .int .i64 s.num, .string s.text, .slice ay s.items.length cy]] W fun e w' => e = .returned (.tuple #[.int .i64 (t.items.length : Int), .bool B]) ∧ Below W.heap.size W w') := fun W hW => by
    have := place_any t s _ _ W (Lies.keeps hW _ _ _ (own_to16 hrow hps hlen hd)) (Lies.keeps hW _ _ _ hs.lies) hr
    unfold PlPost at this
    rwa [← hB, hI] at this
  have HN2 : Hid (∀ W, Calls Tryz.prog 59 #[.agg #[.int .i64 s.kind, .int .i64 s.num, .string s.text, .slice ay s.items.length cy], .int .i64 (t.items.length : Int)] W fun e w' => e = .returned (.bool true) ∧ Below W.heap.size W w') := fun W => by
    have := isNumber_any s ay s.items.length cy t.items.length W
    have e : (s.kind == 2 && s.num == (t.items.length : Int)) = true := by simp [hend.1, hend.2]
    rwa [e] at this
  have HE : Hid (∀ W g' c', OwnX X M W (ps ++ [(nilT, .slice none 0 0)]) (.slice (some ⟨g', 0, none⟩) (t.items.length + 1) c') → Below M w W → OpPost X M t s w (.returned (.tuple #[.agg #[.int .i64 4, .int .i64 t.num, .string t.text, .slice (some ⟨g', 0, none⟩) (t.items.length + 1) c'], .int .i64 (t.items.length : Int), .int .i64 0])) W) := fun W g' c' h1 h2 => by
    have := op_some (X := X) (M := M) (w := w) (ps' := ps ++ [(nilT, .slice none 0 0)]) (a := some ⟨g', 0, none⟩) (c := c') hop (by rw [List.map_append, hps]; rfl) (by simpa using h1) h2
    simpa using this
  have HA : Hid (∀ W V g' c', OwnX X M W ps (.slice a t.items.length c) → W.grownBy V (Value.slice a t.items.length c).ownBlock → V.ownsRow M 24 4 (.slice (some ⟨g', 0, none⟩) (t.items.length + 1) c') (t.items.length + 1) (ps.flatMap encP ++ encP (nilT, .slice none 0 0)) → OwnX X M V (ps ++ [(nilT, .slice none 0 0)]) (.slice (some ⟨g', 0, none⟩) (t.items.length + 1) c')) := fun W V g' c' h1 k2 k1 => by
    refine ⟨?_, fun p hp => ?_⟩
    · rw [List.length_append, List.flatMap_append, hpl]
      simpa using k1
    · have hst : ∀ {l : List VT} {v : Value}, LiesX X 16 W l v → LiesX X 16 V l v := fun h => LiesX.stays (fun _ h => h) (fun ad u ha hu => grown_cell26 k2 hu (fun e => by
        obtain ⟨_, _, _, _, k9⟩ := own_slice26 h1.own
        have := (k9 _ e.symm).1
        have := hXM _ ha
        omega)) h
      rcases List.mem_append.1 hp with hp | hp
      · exact ⟨hst (h1.lie p hp).1, (h1.lie p hp).2⟩
      · have : p = (nilT, Value.slice none 0 0) := by simpa using hp
        subst this
        exact ⟨liesX_nil _ _ _ _ _, by show 0 ≤ _; omega⟩
  have HT : Hid (Bx (op3 w t s (.slice a t.items.length c) (.slice ay s.items.length cy)) w.heap.size t (.slice a t.items.length c)) := op3_fst _ _ _ _ _
  have HS : Hid (Bx (op3 w t s (.slice a t.items.length c) (.slice ay s.items.length cy)) (w.heap.size + 1) s (.slice ay s.items.length cy)) := op3_snd _ _ _ _ _
  have HR : Hid (Bx (op3 w t s (.slice a t.items.length c) (.slice ay s.items.length cy)) (w.heap.size + 2) zeroT (.slice none 0 0)) := op3_thd _ _ _ _ _
  have hb0 := op3_below w t s (.slice a t.items.length c) (.slice ay s.items.length cy)
  obtain ⟨W0, hW0⟩ : ∃ W0, W0 = op3 w t s (.slice a t.items.length c) (.slice ay s.items.length cy) := ⟨_, rfl⟩
  have HW0 : Hid (W0 = op3 w t s (.slice a t.items.length c) (.slice ay s.items.length cy)) := hW0
  rw [← hW0] at HT HS HR hb0
  have HZ0 : Hid (W0.heap.size = w.heap.size + 3) := by rw [hW0]; exact op3_size _ _ _ _ _
  clear hW0
  unfold op3 at HW0
  have HO : Hid (OwnX X M w ps (.slice a t.items.length c)) := hrow
  have Hbl : Hid (∀ q, (Value.slice a t.items.length c).ownBlock = some q → M ≤ q ∧ q < w.heap.size) := by
    obtain ⟨_, _, _, _, k9⟩ := own_slice26 hrow.own
    exact k9
  generalize OpPost X M t s w = PP at *
  have Hpl : Hid (ps.length = t.items.length) := hpl
  have hlt6 : t.items.length ≤ 1024 := hlen
  clear hop hlen hI hB hrow hs hr hd hps hend hpl
  generalize t.items.length = lt at *
  generalize s.items.length = lz at *
  obtain ⟨i0, hi, hz0, hz1, hz2⟩ := info24
  obtain ⟨t0, t1, t2, t3, f0, f1, f2, f3⟩ := HT.out
  obtain ⟨s0, s1, s2, s3, _, _, _, _⟩ := HS.out
  rw [h4] at HPl t0 HW0 ⊢
  go_enter Tryz.func36, Tryz.ntmps36
  go_upto_region 1 with fail
  rw [← HW0.out]
  clear HW0
  go_wp2_with fail
  refine Calls.mono (HPl.out _ hb0) ?_
  rintro e w1 ⟨rfl, hb1⟩
  have hb2 : Below w.heap.size w w1 := hb0.trans (hb1.mono hb0.size)
  have HR1 : Hid (Bx w1 (w.heap.size + 2) zeroT (.slice none 0 0)) := HR.out.keeps hb1
  have HT1 : Hid (Bx w1 w.heap.size t (.slice a lt c)) := HT.out.keeps hb1
  have hsz1 : w.heap.size + 3 ≤ w1.heap.size := by have := hb1.size; have := HZ0.out; omega
  replace t0 := cell_keeps hb1 t0; replace t3 := cell_keeps hb1 t3
  replace s0 := cell_keeps hb1 s0; replace s1 := cell_keeps hb1 s1; replace s2 := cell_keeps hb1 s2; replace s3 := cell_keeps hb1 s3
  clear hb1 hb0 HPl HT HS HR t1 t2 HZ0 f0 f1 f2 f3
  go_wp2_with fail
  refine Calls.mono (HN2.out _) ?_
  rintro e w2 ⟨rfl, hb3⟩
  have HR2 : Hid (Bx w2 (w.heap.size + 2) zeroT (.slice none 0 0)) := HR1.out.keeps hb3
  have HT2 : Hid (Bx w2 w.heap.size t (.slice a lt c)) := HT1.out.keeps hb3
  have hb4 : Below w.heap.size w w2 := hb2.trans (hb3.mono hb2.size)
  have hsz2 : w.heap.size + 3 ≤ w2.heap.size := Nat.le_trans hsz1 hb3.size
  have HO2 : Hid (OwnX X M w2 ps (.slice a lt c)) := HO.out.keeps hb4
  clear hb3 hb2 HR1 HT1 HN2 s0 s1 s2 s3 t0 t3 HO hsz1
  obtain ⟨t0, t1, t2, t3, f0, f1, f2, f3⟩ := HT2.out
  rw [h4] at t0
  obtain ⟨V, hV⟩ : ∃ V, V = w2.alloc (.cells #[.int .i64 0, .int .i64 0, .string ⟨#[]⟩, .slice none 0 0] 24) := ⟨_, rfl⟩
  have HV : Hid (V = w2.alloc (.cells #[.int .i64 0, .int .i64 0, .string ⟨#[]⟩, .slice none 0 0] 24)) := hV
  have hal : Below w2.heap.size w2 V := by rw [hV]; exact ((Grew.refl _).alloc _).below
  have HVz : Hid (Bx V w2.heap.size zeroT (.slice none 0 0)) := by rw [hV]; exact bx_alloc w2 zeroT _
  have HOV : Hid (OwnX X M V ps (.slice a lt c)) := HO2.out.keeps hal
  have HOw : Hid (V.ownsRow M 24 4 (.slice a lt c) lt (ps.flatMap encP)) := by have := HOV.out.own; rw [Hpl.out] at this; exact this
  have hMV : M ≤ V.heap.size := by have := hal.size; omega
  have HTV : Hid (Bx V w.heap.size t (.slice a lt c)) := HT2.out.keeps hal
  have HRV : Hid (Bx V (w.heap.size + 2) zeroT (.slice none 0 0)) := HR2.out.keeps hal
  have hbV : Below M w V := (hb4.mono hM).trans (hal.mono (by omega))
  have hVs : w2.heap.size ≤ V.heap.size := hal.size
  have HNw : Hid (∀ j u, (encP (nilT, Value.slice none 0 0))[j]? = some u → V.cell? ((⟨w2.heap.size, 0, none⟩ : Addr).add j) = some u) := fun j u hj => by
    rw [addr_add26, Nat.zero_add]
    match j, hj with
    | 0, hj => simp [encP, nilT] at hj; subst hj; exact HVz.out.c0
    | 1, hj => simp [encP, nilT] at hj; subst hj; exact HVz.out.c1
    | 2, hj => simp [encP, nilT] at hj; subst hj; exact HVz.out.c2
    | 3, hj => simp [encP, nilT] at hj; subst hj; exact HVz.out.c3
  have HN1 : Hid (∀ u ∈ encP (nilT, Value.slice none 0 0), u.oneCell' = true) := fun u hu => by
    simp only [encP, nilT, List.mem_cons, List.not_mem_nil, or_false] at hu
    rcases hu with rfl | rfl | rfl | rfl <;> rfl
  clear hV hal HO2 HT2 HR2 hb4 HVz
  have hn0 : some w.heap.size ≠ (Value.slice a lt c).ownBlock := fun e => by have := (Hbl.out _ e.symm).2; omega
  have hn2 : some (w.heap.size + 2) ≠ (Value.slice a lt c).ownBlock := fun e => by have := (Hbl.out _ e.symm).2; omega
  have hne20 : w.heap.size + 2 ≠ w.heap.size := by omega
  clear f0 f1 f2 f3
  go_wp2_with (at_builtin; rw [← HV.out]; refine wpList_append_lies _ rfl _ _ 22 rfl M 24 i0 _ 4 56 Tryz.underlying22 hi hz0 hz1 hz2 rfl (by decide) _ _ (ps.flatMap encP) rfl HOw.out ⟨w2.heap.size, 0, none⟩ 1 1 (encP (nilT, .slice none 0 0)) rfl rfl HNw.out HN1.out (by decide) (by unfold maxLen; omega) (by omega) hMV V.heap.size rfl ?_; intro g9 c3 w3 k1 k2 k3 _; clear t0 t1 t2 t3; have HK : Hid (w3.ownsRow M 24 4 (.slice (some ⟨g9, 0, none⟩) (lt + 1) c3) (lt + 1) (ps.flatMap encP ++ encP (nilT, .slice none 0 0)) ∧ V.grownBy w3 (Value.slice a lt c).ownBlock ∧ ((Value.slice a lt c).ownBlock = some g9 ∨ g9 = V.heap.size)) := ⟨k1, k2, k3⟩; clear k1 k2 k3; have HT3 := grown_bx26 HK.out.2.1 hn0 HTV.out; have HR3 := grown_bx26 HK.out.2.1 hn2 HRV.out; have HR4 : Hid (Bx w3 (w.heap.size + 2) zeroT (.slice none 0 0)) := HR3; obtain ⟨t0, t1, t2, t3, f0, f1, f2, f3⟩ := HT3; obtain ⟨z0, z1, z2, z3, y0, y1, y2, y3⟩ := HR3; rw [h4] at t0)
  have hO3 := HA.out V w3 g9 c3 HOV.out HK.out.2.1 HK.out.1
  have hb3 : Below M w w3 := hbV.trans (grown_belowM HK.out.2.1 (fun q hq => (Hbl.out q hq).1) hMV)
  have hg9 : g9 < w.heap.size ∨ w.heap.size + 3 ≤ g9 := by
    rcases HK.out.2.2 with h | h
    · exact .inl (Hbl.out _ h).2
    · exact .inr (by omega)
  have hnb : ∀ j, j < 3 → (Value.slice (some ⟨g9, 0, none⟩) (lt + 1) c3).ownBlock ≠ some (w.heap.size + j) := fun j hj e => by
    have e : g9 = w.heap.size + j := by simpa [Value.ownBlock] using e
    omega
  have HE3 : PP (.returned (.tuple #[.agg #[.int .i64 4, .int .i64 t.num, .string t.text, .slice (some ⟨g9, 0, none⟩) (lt + 1) c3], .int .i64 (lt : Int), .int .i64 0])) ((w3.setCell ⟨w.heap.size, 3, none⟩ (.slice (some ⟨g9, 0, none⟩) (lt + 1) c3)).setCells (w.heap.size + 2) 0 (encP (⟨4, t.num, t.text, []⟩, .slice (some ⟨g9, 0, none⟩) (lt + 1) c3))) :=
    HE.out _ _ c3 ((hO3.set hXM (by omega) (hnb 0 (by omega)) _ _).set4 hXM (by omega) (hnb 2 (by omega)) _) (below_putM (below_setM hb3 (by omega) _ _) (by omega) _)
  have Hq3 : Bx ((w3.setCell ⟨w.heap.size, 3, none⟩ (.slice (some ⟨g9, 0, none⟩) (lt + 1) c3)).setCells (w.heap.size + 2) 0 (encP (⟨4, t.num, t.text, []⟩, .slice (some ⟨g9, 0, none⟩) (lt + 1) c3))) (w.heap.size + 2) ⟨4, t.num, t.text, []⟩ (.slice (some ⟨g9, 0, none⟩) (lt + 1) c3) := (HR4.out.other1 (by omega) 3 _).put _
  refine bodyPost_ret (v := .tuple #[.agg #[.int .i64 4, .int .i64 t.num, .string t.text, .slice (some ⟨g9, 0, none⟩) (lt + 1) c3], .int .i64 (lt : Int), .int .i64 0]) ?_ rfl HE3
  obtain ⟨q0, q1, q2, q3, _, _, _, _⟩ := Hq3
  simp only [World.setCells, encP, Nat.zero_add, Nat.reduceAdd] at q0 q1 q2 q3
  simp [results, Tryz.results36, go_sem, q0, q1, q2, q3]

/-- opened. -/
theorem opened_any (X : Nat → Prop) (M : Nat) (hXM : ∀ b, X b → b < M) (t s : VT) (ps : List (VT × Value)) (a ay : Option Addr) (c cy : Nat) (w : World) (hM : M ≤ w.heap.size) (hps : ps.map (·.1) = t.items) (hrow : OwnX X M w ps (.slice a t.items.length c)) (hs : LiesX X 16 w s.items (.slice ay s.items.length cy)) (hr : rightV 16 t = true) (hd : Dp 16 t) (hsr : rightV 16 s = true) :
    Calls Tryz.prog 36 #[.agg #[.int .i64 t.kind, .int .i64 t.num, .string t.text, .slice a t.items.length c], .agg #[.int .i64 s.kind, .int .i64 s.num, .string s.text, .slice ay s.items.length cy]] w (OpPost X M t s w) := by
  by_cases h0 : t.kind = 0
  · cases hh : hasN s (keysOf t.items)
    · exact opened_new0 X M hXM t s ps a ay c cy w hM hps hrow hs hr hd hsr h0 hh
    · exact opened_has X M hXM t s ps a ay c cy w hM hps hrow hs hr hd (.inl h0) hh
  · by_cases h6 : t.kind = 6
    · cases hh : hasN s (keysOf t.items)
      · exact opened_new6 X M hXM t s ps a ay c cy w hM hps hrow hs hr hd hsr h6 hh
      · exact opened_has X M hXM t s ps a ay c cy w hM hps hrow hs hr hd (.inr h6) hh
    · by_cases h4 : t.kind = 4
      · by_cases he : s.kind = 2 ∧ s.num = (t.items.length : Int)
        · exact opened_end X M hXM t s ps a ay c cy w hM hps hrow hs hr hd h4 he
        · cases hB : plcB t s
          · exact opened_not X M t s ps a ay c cy w hM hps hrow hs hr hd h0 h6 (fun _ => ⟨he, hB⟩)
          · exact opened_in X M hXM t s ps a ay c cy w hM hps hrow hs hr hd h4 he hB
      · exact opened_not X M t s ps a ay c cy w hM hps hrow hs hr hd h0 h6 (fun h => absurd h h4)

end Go.Proofs.YtofceccicmlmoaaGreat

namespace Go.Proofs.YtofceccicmlmoaaGreat
open Go.RowKit Go.Shelf

/-- A block that is none of the row's and holds none of its values is written. -/
theorem OwnX.setL {X : Nat → Prop} {M : Nat} {w : World} {ps : List (VT × Value)} {v : Value} (h : OwnX X M w ps v) {g : Nat} (hX : ¬ X g) (hne : v.ownBlock ≠ some g) (o : Nat) (x : Value) : OwnX X M (w.setCell ⟨g, o, none⟩ x) ps v := by
  have hblk : ∀ j, j ≠ g → (w.setCell ⟨g, o, none⟩ x).heap[j]? = w.heap[j]? := fun j hj => by
    simp only [World.setCell, Array.getElem?_modify]
    rw [if_neg (fun e => hj e.symm)]
  refine ⟨⟨h.own.1, h.own.2.imp (fun h => h) ?_⟩, fun p hp => ⟨?_, (h.lie p hp).2⟩⟩
  · rintro ⟨g', cap, cur, h1, h2, h3, h4⟩
    refine ⟨g', cap, cur, h1, h2, ?_, h4⟩
    rw [hblk g' (fun e => hne (by rw [h1, e]; rfl))]
    exact h3
  · refine LiesX.stays (fun _ h => h) (fun a u ha hu => ?_) (h.lie p hp).1
    have : a.block ≠ g := fun e => hX (e ▸ ha)
    unfold World.cell? at hu ⊢
    rw [hblk a.block this]
    exact hu

theorem OwnX.setL4 {X : Nat → Prop} {M : Nat} {w : World} {ps : List (VT × Value)} {v : Value} (h : OwnX X M w ps v) {g : Nat} (hX : ¬ X g) (hne : v.ownBlock ≠ some g) (p : VT × Value) : OwnX X M (w.setCells g 0 (encP p)) ps v :=
  (((h.setL hX hne _ _).setL hX hne _ _).setL hX hne _ _).setL hX hne _ _

/-- A list as a row of one's own. -/
theorem clone_own (X : Nat → Prop) (t : VT) (a : Option Addr) (c : Nat) (w : World) (h : LiesX X 16 w t.items (.slice a t.items.length c)) (hl : t.items.length ≤ 1024) :
    Calls Tryz.prog 35 #[.slice a t.items.length c] w fun e w' => ∃ ps a' c', ps.map (·.1) = t.items ∧ e = .returned (.slice a' t.items.length c') ∧ OwnX X w.heap.size w' ps (.slice a' t.items.length c') ∧ Below w.heap.size w w' := by
  by_cases hne : t.items = []
  · have hl0 : t.items.length = 0 := by rw [hne]; rfl
    rw [hl0]
    obtain ⟨i0, hi, hz0, hz1, hz2⟩ := info24
    have Hi : Hid _ := hi; have Hz0 : Hid _ := hz0; have Hz1 : Hid _ := hz1; have Hz2 : Hid _ := hz2
    have HN : Hid (t.items = []) := hne
    clear hi hz0 hz1 hz2 hne hl0 h hl
    have q22 : ∀ (w : World) (a : Option Addr) (n c n' c' : Nat), (binOp .eql 22 (.slice a n c) (.slice none n' c')).run Tryz.prog w = .ok (.bool a.isNone) w := fun w a n c n' c' => Lib.run_eql_slice_nil w _ _ a n c n' c' Tryz.underlying22
    cases a with
    | none =>
      go_enter Tryz.func35, Tryz.ntmps35
      go_wp2_with fail
      go_ret
      exact ⟨[], none, 0, HN.out.symm, rfl, ⟨World.ownsRow_nil _ _ _ _, fun p hp => by cases hp⟩, Below.refl _ _⟩
    | some ad =>
      go_enter Tryz.func35, Tryz.ntmps35
      go_wp2_with (first
          | (at_builtin; refine wpList_append_own _ rfl _ _ 22 rfl w.heap.size 24 i0 (.agg #[.int .i64 0, .int .i64 0, .string ⟨#[]⟩, .slice none 0 0]) 4 56 Tryz.underlying22 Hi.out Hz0.out Hz1.out Hz2.out rfl (by decide) _ 0 [] rfl ?c0 ad 0 c [] rfl rfl ?c1 ?c2 ?c3 ?c4 ?c5 ?_))
      case c0 => exact World.ownsRow_lit w #[] 0 (Nat.le_refl _) (by unfold maxLen; omega) rfl
      case c1 => intro j u hj; simp at hj
      case c2 => intro u hu; cases hu
      case c3 => unfold maxLen; omega
      case c4 => omega
      case c5 => simp
      intro v' w2 hown' hgrow _
      have hb2 : Below w.heap.size w w2 := (((Below.refl _ _).alloc (Nat.le_refl _) _)).grown hgrow (by simp) (by
        intro k hk
        simp [Value.ownBlock] at hk; omega)
      obtain ⟨a', c', rfl, _, _⟩ := own_slice26 hown'
      have HO : Hid (w2.ownsRow w.heap.size 24 4 (.slice a' 0 c') 0 []) := hown'
      clear hgrow hown'
      go_wp2_with fail
      go_ret
      exact ⟨[], a', c', HN.out.symm, rfl, ⟨HO.out, fun p hp => by cases hp⟩, hb2⟩
  · obtain ⟨a', c', hv, ps, hps, hlie, hrow⟩ := LiesX.row (d := 15) h
    injection hv with e1 _ e3
    subst e1
    subst e3
    obtain ⟨b, o, rfl, hXb, hr⟩ := hrow hne
    have hpl : ps.length = t.items.length := by rw [← hps, List.length_map]
    have := clone_some b o c ps 15 w hr (fun p hp => ⟨(hlie p hp).1.lies, (hlie p hp).2⟩) (by omega)
    rw [hpl] at this
    refine this.mono ?_
    rintro e w' ⟨v, rfl, hown, hb⟩
    obtain ⟨a2, c2, rfl, _, _⟩ := own_slice26 hown
    exact ⟨ps, a2, c2, hps, rfl, ⟨by rw [hpl]; exact hown, fun p hp => ⟨((hlie p hp).1.keeps hb).atLeast 16 (by omega), (hlie p hp).2⟩⟩, hb⟩

/-- A value of a row is written over. -/
theorem row_set26 {w : World} {g : Nat} {ps : List (VT × Value)} (h : RowAt w g 0 ps) {i : Nat} (hi : i < ps.length) (q : VT × Value) : RowAt (w.setCells g (i * 4) (encP q)) g 0 (ps.set i q) := by
  intro j hj
  rw [List.length_set] at hj
  obtain ⟨h0, h1, h2, h3⟩ := h j hj
  obtain ⟨k0, k1, k2, k3⟩ := h i hi
  by_cases e : j = i
  · subst e
    have hin : ∀ r (hr : r < (encP q).length), (w.setCells g (j * 4) (encP q)).cell? ⟨g, j * 4 + r, none⟩ = some ((encP q)[r]) :=
      World.cell?_setCells_in g _ (j * 4) w (fun r hr => by
        simp only [Nat.zero_add] at k0 k1 k2 k3
        match r, hr with
        | 0, _ => rw [Nat.add_zero, k0]; rfl
        | 1, _ => rw [k1]; rfl
        | 2, _ => rw [k2]; rfl
        | 3, _ => rw [k3]; rfl)
    have q0 := hin 0 (by simp [encP]); have q1 := hin 1 (by simp [encP]); have q2 := hin 2 (by simp [encP]); have q3 := hin 3 (by simp [encP])
    simp only [List.getElem_set_self, Nat.zero_add]
    exact ⟨q0, q1, q2, q3⟩
  · have hne : ∀ r, r < 4 → (w.setCells g (i * 4) (encP q)).cell? ⟨g, 0 + j * 4 + r, none⟩ = w.cell? ⟨g, 0 + j * 4 + r, none⟩ := fun r hr =>
      World.cell?_setCells_out g _ _ w _ (fun _ _ => by simp [encP]; omega)
    have n0 := hne 0 (by omega); have n1 := hne 1 (by omega); have n2 := hne 2 (by omega); have n3 := hne 3 (by omega)
    simp only [Nat.add_zero] at n0
    rw [List.getElem_set_ne (fun e2 => e e2.symm)]
    exact ⟨n0.trans h0, n1.trans h1, n2.trans h2, n3.trans h3⟩

/-- What put tells. -/
def PutQ (X : Nat → Prop) (t : VT) (p : List VT) (x : VT) (w : World) (e : Ending) (w' : World) : Prop :=
  match putT t p x with
  | some z => ∃ a c, e = .returned (.tuple #[.agg #[.int .i64 z.kind, .int .i64 z.num, .string z.text, .slice a z.items.length c], .int .i64 0]) ∧ LiesX (fun b => X b ∨ w.heap.size ≤ b) (16 + p.length) w' z.items (.slice a z.items.length c) ∧ z.text.size ≤ 9223372036854775807 ∧ Below w.heap.size w w'
  | none => ∃ k n tx a l c, e = .returned (.tuple #[.agg #[.int .i64 k, .int .i64 n, .string tx, .slice a l c], .int .i64 260]) ∧ Below w.heap.size w w'

theorem put_some26 {X : Nat → Prop} {t x z : VT} {p : List VT} {w w' : World} (h : putT t p x = some z) {a : Option Addr} {c : Nat} (h1 : LiesX (fun b => X b ∨ w.heap.size ≤ b) (16 + p.length) w' z.items (.slice a z.items.length c)) (h2 : z.text.size ≤ 9223372036854775807) (h3 : Below w.heap.size w w') :
    PutQ X t p x w (.returned (.tuple #[.agg #[.int .i64 z.kind, .int .i64 z.num, .string z.text, .slice a z.items.length c], .int .i64 0])) w' := by
  unfold PutQ; rw [h]; exact ⟨a, c, rfl, h1, h2, h3⟩

theorem put_none26 {X : Nat → Prop} {t x : VT} {p : List VT} {w w' : World} (h : putT t p x = none) (k n : Int) (tx : ByteArray) (a : Option Addr) (l c : Nat) (h3 : Below w.heap.size w w') :
    PutQ X t p x w (.returned (.tuple #[.agg #[.int .i64 k, .int .i64 n, .string tx, .slice a l c], .int .i64 260])) w' := by
  unfold PutQ; rw [h]; exact ⟨k, n, tx, a, l, c, rfl, h3⟩

/-- Behind the last stores. -/
theorem put_lies {X : Nat → Prop} {w3 V : World} {N M g c i D : Nat} {ps : List (VT × Value)} {l : List VT} {z : VT} {sl : Value} (hX : ∀ b, X b → b < N) (hNM : N + 3 ≤ M) (hOw : OwnX X M V ps (.slice (some ⟨g, 0, none⟩) l.length c)) (hps : ps.map (·.1) = l) (hi : i < l.length) (hb : Below V.heap.size V w3) (hll : l.length ≤ 65536) (hz : LiesX (fun b => X b ∨ V.heap.size ≤ b) D w3 z.items sl) (hzt : z.text.size ≤ 9223372036854775807) (hD : 16 ≤ D) (_hMV : M ≤ V.heap.size) (p : VT × Value) :
    LiesX (fun b => X b ∨ N ≤ b) (D + 1) ((w3.setCells g (i * 4) (encP (z, sl))).setCells (N + 2) 0 (encP p)) (l.set i z) (.slice (some ⟨g, 0, none⟩) (l.set i z).length c) := by
  have hpl : ps.length = l.length := by rw [← hps, List.length_map]
  obtain ⟨g', cap, hv, hgb, hcap, hlt, hrw, _⟩ := own_row (ps := ps) (by have := hOw.own; exact this) (fun e => by rw [e] at hpl; simp at hpl; omega)
  injection hv with e1 _ e3
  injection e1 with e1
  injection e1 with e1
  subst e1
  subst e3
  have hrw3 : RowAt w3 g 0 ps := hrw.keeps hb
  have hrs := row_set26 hrw3 (i := i) (by omega) (z, sl)
  have hN2 : N + 2 ≠ g := by omega
  have hst2 : ∀ {Y : Nat → Prop} {d : Nat} {l : List VT} {v : Value} {W : World}, (∀ b, Y b → b ≠ N + 2) → LiesX Y d W l v → LiesX Y d (W.setCells (N + 2) 0 (encP p)) l v := fun hY h => LiesX.set (g := N + 2) (fun hy => hY _ hy rfl) h
  have hrs2 : RowAt ((w3.setCells g (i * 4) (encP (z, sl))).setCells (N + 2) 0 (encP p)) g 0 (ps.set i (z, sl)) := fun j hj => by
    obtain ⟨h0, h1, h2, h3⟩ := hrs j hj
    exact ⟨cell_other (fun e => hN2 e.symm) h0, cell_other (fun e => hN2 e.symm) h1, cell_other (fun e => hN2 e.symm) h2, cell_other (fun e => hN2 e.symm) h3⟩
  have hmap : (ps.set i (z, sl)).map (·.1) = l.set i z := by rw [List.map_set, hps]
  have hfin := liesX_row (X := fun b => X b ∨ N ≤ b) (d := D) (c := c) hrs2 (.inr (by omega)) (fun q hq => by
    rcases List.mem_or_eq_of_mem_set hq with hq | hq
    · refine ⟨?_, (hOw.lie q hq).2⟩
      have h1 := (hOw.lie q hq).1.keeps hb
      have h2 : LiesX X 16 (w3.setCells g (i * 4) (encP (z, sl))) q.1.items q.2 := LiesX.set (g := g) (fun hx => by have := hX _ hx; omega) h1
      have h3 := hst2 (fun b hb => by have := hX b hb; omega) h2
      exact (h3.mono (fun b hb => .inl hb)).atLeast D hD
    · subst hq
      refine ⟨?_, hzt⟩
      have h2 := LiesX.set (g := g) (o := i * 4) (vs := encP (z, sl)) (fun hx => by
        rcases hx with hx | hx
        · have := hX _ hx; omega
        · omega) hz
      have h3 := hst2 (fun b hb => by
        rcases hb with hb | hb
        · have := hX b hb; omega
        · omega) h2
      exact h3.mono (fun b hb => hb.imp (fun h => h) (fun h => by omega))) (by rw [List.length_set]; omega) (by rw [List.length_set]; omega)
  rw [hmap] at hfin
  rw [List.length_set] at hfin ⊢
  rw [hpl] at hfin
  exact hfin

end Go.Proofs.YtofceccicmlmoaaGreat

namespace Go.Proofs.YtofceccicmlmoaaGreat
open Go.RowKit Go.Shelf

theorem cellM26 {M : Nat} {w w' : World} (hb : Below M w w') {a : Addr} {v : Value} (hl : a.block < M) (h : w.cell? a = some v) : w'.cell? a = some v := by
  unfold World.cell? at h ⊢
  rw [hb.block _ hl]
  exact h

theorem bxM26 {M : Nat} {w w' : World} (hb : Below M w w') {n : Nat} (hl : n < M) {t : VT} {u : Value} (h : Bx w n t u) : Bx w' n t u := by
  have hf : ∀ k, w'.frozen? ⟨n, k, none⟩ = w.frozen? ⟨n, k, none⟩ := fun k => by unfold World.frozen?; rw [hb.block _ hl]
  exact ⟨cellM26 hb hl h.c0, cellM26 hb hl h.c1, cellM26 hb hl h.c2, cellM26 hb hl h.c3, (hf 0).trans h.f0, (hf 1).trans h.f1, (hf 2).trans h.f2, (hf 3).trans h.f3⟩

theorem Bx.items {W : World} {n : Nat} {t : VT} {u : Value} (h : Bx W n t u) (v : Value) : Bx (W.setCell ⟨n, 3, none⟩ v) n t v :=
  ⟨by rw [World.cell?_setCell_other _ _ _ _ (by simp)]; exact h.c0, by rw [World.cell?_setCell_other _ _ _ _ (by simp)]; exact h.c1, by rw [World.cell?_setCell_other _ _ _ _ (by simp)]; exact h.c2, World.cell?_setCell_same _ _ _ h.c3, by rw [World.frozen?_setCell]; exact h.f0, by rw [World.frozen?_setCell]; exact h.f1, by rw [World.frozen?_setCell]; exact h.f2, by rw [World.frozen?_setCell]; exact h.f3⟩

set_option maxRecDepth 100000 in
set_option maxHeartbeats 8000000 in
theorem put_nil (X : Nat → Prop) (t x : VT) (a ax pa : Option Addr) (c cx pc lt : Nat) (w : World) (hx : LiesX X 16 w x.items (.slice ax x.items.length cx)) (hxt : x.text.size ≤ 9223372036854775807) :
    Calls Tryz.prog 14 #[.agg #[.int .i64 t.kind, .int .i64 t.num, .string t.text, .slice a lt c], .slice pa 0 pc, .agg #[.int .i64 x.kind, .int .i64 x.num, .string x.text, .slice ax x.items.length cx]] w (PutQ X t [] x w) := by
  have HX : Hid (Bx (op3 w t x (.slice a lt c) (.slice ax x.items.length cx)) (w.heap.size + 1) x (.slice ax x.items.length cx)) := op3_snd _ _ _ _ _
  have HR : Hid (Bx (op3 w t x (.slice a lt c) (.slice ax x.items.length cx)) (w.heap.size + 2) zeroT (.slice none 0 0)) := op3_thd _ _ _ _ _
  have hb0 := op3_below w t x (.slice a lt c) (.slice ax x.items.length cx)
  obtain ⟨W0, hW0⟩ : ∃ W0, W0 = op3 w t x (.slice a lt c) (.slice ax x.items.length cx) := ⟨_, rfl⟩
  have HW0 : Hid (W0 = op3 w t x (.slice a lt c) (.slice ax x.items.length cx)) := hW0
  rw [← hW0] at HX HR hb0
  clear hW0
  unfold op3 at HW0
  have HE : Hid (PutQ X t [] x w (.returned (.tuple #[.agg #[.int .i64 x.kind, .int .i64 x.num, .string x.text, .slice ax x.items.length cx], .int .i64 0])) (W0.setCells (w.heap.size + 2) 0 (encP (x, .slice ax x.items.length cx)))) :=
    put_some26 (t := t) (p := []) (x := x) rfl (LiesX.mono (fun b hb => .inl hb.1) (LiesX.set (g := w.heap.size + 2) (by omega) (hx.both.keeps hb0))) hxt (below_put hb0 (by omega) _)
  have Hq : Hid (Bx (W0.setCells (w.heap.size + 2) 0 (encP (x, .slice ax x.items.length cx))) (w.heap.size + 2) x (.slice ax x.items.length cx)) := HR.out.put (x, .slice ax x.items.length cx)
  obtain ⟨x0, x1, x2, x3, _, _, _, _⟩ := HX.out
  obtain ⟨z0, z1, z2, z3, g0, g1, g2, g3⟩ := HR.out
  clear hx hxt hb0 HX HR
  generalize PutQ X t [] x w = PP at *
  generalize x.items.length = lx at *
  go_enter Tryz.func14, Tryz.ntmps14
  go_upto_region 1 with fail
  rw [← HW0.out]
  clear HW0
  go_wp2_with fail
  refine bodyPost_ret (v := .tuple #[.agg #[.int .i64 x.kind, .int .i64 x.num, .string x.text, .slice ax lx cx], .int .i64 0]) ?_ rfl HE.out
  obtain ⟨q0, q1, q2, q3, _, _, _, _⟩ := Hq.out
  simp only [World.setCells, encP, Nat.zero_add, Nat.reduceAdd] at q0 q1 q2 q3
  simp [results, Tryz.results14, go_sem, q0, q1, q2, q3]

/-- The contract of put, at one path. -/
def PutC (r : List VT) (x : VT) : Prop := ∀ (X : Nat → Prop) (t : VT) (a ax : Option Addr) (c cx : Nat) (pv : Value) (w : World), (∀ b, X b → b < w.heap.size) → LiesX X 16 w t.items (.slice a t.items.length c) → rightV 16 t = true → LiesX X 17 w r pv → LiesX X 16 w x.items (.slice ax x.items.length cx) → Calls Tryz.prog 14 #[.agg #[.int .i64 t.kind, .int .i64 t.num, .string t.text, .slice a t.items.length c], pv, .agg #[.int .i64 x.kind, .int .i64 x.num, .string x.text, .slice ax x.items.length cx]] w (PutQ X t r x w)

set_option maxRecDepth 100000 in
set_option maxHeartbeats 8000000 in
/-- The path does not lead there. -/
theorem put_off (s x : VT) (r : List VT) (X : Nat → Prop) (t : VT) (a ax : Option Addr) (c cx : Nat) (pv : Value) (w : World) (hX : ∀ b, X b → b < w.heap.size) (h : LiesX X 16 w t.items (.slice a t.items.length c)) (hr : rightV 16 t = true) (hp : LiesX X 17 w (s :: r) pv) (hsr : rightV 16 s = true) (hn : r.length ≤ 16) (ho : opnT t s = none) :
    Calls Tryz.prog 14 #[.agg #[.int .i64 t.kind, .int .i64 t.num, .string t.text, .slice a t.items.length c], pv, .agg #[.int .i64 x.kind, .int .i64 x.num, .string x.text, .slice ax x.items.length cx]] w (PutQ X t (s :: r) x w) := by
  have hd := Dp.of_lies 16 w t _ h.lies
  have hlen := right_len hr
  have hput : putT t (s :: r) x = none := by conv => lhs; unfold putT; rw [ho]
  have HT : Hid (Bx (op3 w t x (.slice a t.items.length c) (.slice ax x.items.length cx)) w.heap.size t (.slice a t.items.length c)) := op3_fst _ _ _ _ _
  have HR : Hid (Bx (op3 w t x (.slice a t.items.length c) (.slice ax x.items.length cx)) (w.heap.size + 2) zeroT (.slice none 0 0)) := op3_thd _ _ _ _ _
  have hb0 := op3_below w t x (.slice a t.items.length c) (.slice ax x.items.length cx)
  have hs0 := op3_size w t x (.slice a t.items.length c) (.slice ax x.items.length cx)
  obtain ⟨W0, hW0⟩ : ∃ W0, W0 = op3 w t x (.slice a t.items.length c) (.slice ax x.items.length cx) := ⟨_, rfl⟩
  have HW0 : Hid (W0 = op3 w t x (.slice a t.items.length c) (.slice ax x.items.length cx)) := hW0
  rw [← hW0] at HT HR hb0 hs0
  clear hW0
  unfold op3 at HW0
  obtain ⟨b, o, pc, us, rfl, hXb, hpc, p0, p1, p2, p3, hls⟩ := liesX_head hp
  obtain ⟨ay, cy, rfl, _⟩ := LiesX.slice hls
  have hbl := hX _ hXb
  have HCl : Hid (Calls Tryz.prog 35 #[.slice a t.items.length c] W0 fun e w' => ∃ ps a' c', ps.map (·.1) = t.items ∧ e = .returned (.slice a' t.items.length c') ∧ OwnX X W0.heap.size w' ps (.slice a' t.items.length c') ∧ Below W0.heap.size W0 w') := clone_own X t a c W0 (h.keeps hb0) hlen
  have HOp : Hid (∀ ps a' c' W, ps.map (·.1) = t.items → OwnX X W0.heap.size W ps (.slice a' t.items.length c') → W0.heap.size ≤ W.heap.size → LiesX X 16 W s.items (.slice ay s.items.length cy) → Calls Tryz.prog 36 #[.agg #[.int .i64 t.kind, .int .i64 t.num, .string t.text, .slice a' t.items.length c'], .agg #[.int .i64 s.kind, .int .i64 s.num, .string s.text, .slice ay s.items.length cy]] W fun e w' => e = .returned (.tuple #[.agg #[.int .i64 0, .int .i64 0, .string ⟨#[]⟩, .slice none 0 0], .int .i64 0, .int .i64 260]) ∧ Below W0.heap.size W w') := fun ps a' c' W h1 h2 h3 h4 => by
    have := opened_any X W0.heap.size (fun b hb => by have := hX b hb; omega) t s ps a' ay c' cy W h3 h1 h2 h4 hr hd hsr
    unfold OpPost at this
    rw [ho] at this
    exact this
  have HE : Hid (∀ W, Below w.heap.size w W → PutQ X t (s :: r) x w (.returned (.tuple #[.agg #[.int .i64 0, .int .i64 0, .string ⟨#[]⟩, .slice none 0 0], .int .i64 260])) W) := fun W hW => put_none26 hput 0 0 ⟨#[]⟩ none 0 0 hW
  have HLs : Hid (LiesX X 16 w s.items (.slice ay s.items.length cy)) := hls
  have HXX : Hid (∀ b, X b → b < w.heap.size) := hX
  replace p0 := cell_keeps hb0 p0; replace p1 := cell_keeps hb0 p1; replace p2 := cell_keeps hb0 p2; replace p3 := cell_keeps hb0 p3
  have Hs0 : Hid (W0.heap.size = w.heap.size + 3) := hs0
  generalize PutQ X t (s :: r) x w = PP at *
  clear hput ho h hr hd hlen hp hsr hls hX hXb hs0
  generalize x.items.length = lx at *
  generalize t.items.length = lt at *
  generalize hsi : s.items.length = lz at *
  clear hsi
  have hrn : (0 : Int) < ((r.length + 1 : Nat) : Int) := by omega
  have hrz : ¬ ((r.length + 1 : Nat) : Int) = 0 := by omega
  generalize r.length = R at *
  obtain ⟨t0, t1, t2, t3, f0, f1, f2, f3⟩ := HT.out
  go_enter Tryz.func14, Tryz.ntmps14
  go_upto_region 1 with fail
  rw [← HW0.out]
  clear HW0
  go_wp2_with fail
  refine Calls.mono HCl.out ?_
  rintro e w1 ⟨ps, a1, c1, hps, rfl, hO1, hb1⟩
  have hs0 := Hs0.out
  have hnb : (Value.slice a1 lt c1).ownBlock ≠ some w.heap.size := fun e => by
    obtain ⟨_, _, _, _, k9⟩ := own_slice26 hO1.own
    have := (k9 _ e).1
    omega
  have HT1 : Hid (Bx w1 w.heap.size t (.slice a lt c)) := HT.out.keeps hb1
  obtain ⟨w2, hw2⟩ : ∃ w2, w2 = w1.setCell ⟨w.heap.size, 3, none⟩ (.slice a1 lt c1) := ⟨_, rfl⟩
  have Hw2 : Hid (w2 = w1.setCell ⟨w.heap.size, 3, none⟩ (.slice a1 lt c1)) := hw2
  have hb2 : Below w.heap.size w w2 := by rw [hw2]; exact below_setM (hb0.trans (hb1.mono hb0.size)) (Nat.le_refl _) _ _
  have hsz2 : W0.heap.size ≤ w2.heap.size := by rw [hw2]; simpa [World.setCell] using hb1.size
  have HT2 : Hid (Bx w2 w.heap.size t (.slice a1 lt c1)) := by rw [hw2]; exact HT1.out.items _
  have HR2 : Hid (Bx w2 (w.heap.size + 2) zeroT (.slice none 0 0)) := by rw [hw2]; exact (HR.out.keeps hb1).other1 (by omega) 3 _
  have HO2 : Hid (OwnX X W0.heap.size w2 ps (.slice a1 lt c1)) := by rw [hw2]; exact hO1.setL (fun hx => by have := HXX.out _ hx; omega) hnb _ _
  have HLs2 : Hid (LiesX X 16 w2 s.items (.slice ay lz cy)) := HLs.out.keeps hb2
  have hpl : b ≠ w.heap.size := by omega
  replace p0 : w2.cell? ⟨b, o, none⟩ = some (.int .i64 s.kind) := by rw [hw2]; exact cell_other1 hpl (cell_keeps hb1 p0)
  replace p1 : w2.cell? ⟨b, o + 1, none⟩ = some (.int .i64 s.num) := by rw [hw2]; exact cell_other1 hpl (cell_keeps hb1 p1)
  replace p2 : w2.cell? ⟨b, o + 2, none⟩ = some (.string s.text) := by rw [hw2]; exact cell_other1 hpl (cell_keeps hb1 p2)
  replace p3 : w2.cell? ⟨b, o + 3, none⟩ = some (.slice ay lz cy) := by rw [hw2]; exact cell_other1 hpl (cell_keeps hb1 p3)
  replace t3 := HT1.out.c3
  replace f3 := HT1.out.f3
  have HC : Hid (∀ W, Below w2.heap.size w2 W → Calls Tryz.prog 36 #[.agg #[.int .i64 t.kind, .int .i64 t.num, .string t.text, .slice a1 lt c1], .agg #[.int .i64 s.kind, .int .i64 s.num, .string s.text, .slice ay lz cy]] W fun e w' => e = .returned (.tuple #[.agg #[.int .i64 0, .int .i64 0, .string ⟨#[]⟩, .slice none 0 0], .int .i64 0, .int .i64 260]) ∧ Below W0.heap.size W w') := fun W hW => HOp.out ps a1 c1 W hps (HO2.out.keeps hW) (Nat.le_trans hsz2 hW.size) (HLs2.out.keeps hW)
  clear hps hO1 hb1 hnb HT1 HT HR HOp HCl HO2 HLs2 HLs t0 t1 t2 f0 f1 f2 hw2
  go_upto_region 4 with fail
  rw [← Hw2.out]
  clear Hw2 t3 f3
  obtain ⟨t0, t1, t2, t3, f0, f1, f2, f3⟩ := HT2.out
  have hbl2 : b < W0.heap.size := by omega
  have HF0 : Hid (∀ w3, Below W0.heap.size w2 w3 → Hid (Bx (w3.setCells w.heap.size 0 (encP (zeroT, .slice none 0 0))) (w.heap.size + 2) zeroT (.slice none 0 0) ∧ Below w.heap.size w (w3.setCells w.heap.size 0 (encP (zeroT, .slice none 0 0))))) := fun w3 hb3 => ⟨(bxM26 hb3 (by omega) HR2.out).other (by omega) _, below_put (hb2.trans (hb3.mono hb0.size)) (Nat.le_refl _) _⟩
  clear hs0 hsz2 hb2 HR2
  go_cut [8, 9] from 18 to 26 (fun s8 s9 wx => s8 = .int .i64 0 ∧ s9 = .int .i64 260 ∧ Hid (Bx wx (w.heap.size + 2) zeroT (.slice none 0 0) ∧ Below w.heap.size w wx))
  case first =>
    go_region_with
      (first | (go_at_call 36; (with_reducible refine Calls.mono (HC.out _ ?_) ?_); (first | exact Below.refl _ _ | exact (Below.refl _ _).drew); rintro e w3 ⟨rfl, hb3⟩; have hb3 : Below W0.heap.size w2 w3 := (by first | exact hb3 | exact (Below.refl _ _).drew.trans hb3); have HF := HF0.out w3 hb3; have HT3 := bxM26 hb3 (by have := Hs0.out; omega) HT2.out; obtain ⟨t0, t1, t2, t3, f0, f1, f2, f3⟩ := HT3; clear hb3))
    all_goals (go_wp2_with fail; go_meet; exact ⟨rfl, rfl, HF⟩)
  case rest =>
    obtain ⟨rfl, rfl, H3⟩ := hcut
    clear HF0 HC HT2 t0 t1 t2 t3 f0 f1 f2 f3 p0 p1 p2 p3 hbl2 hb0
    have HE3 : Hid (PP (.returned (.tuple #[.agg #[.int .i64 0, .int .i64 0, .string ⟨#[]⟩, .slice none 0 0], .int .i64 260])) (wc.setCells (w.heap.size + 2) 0 (encP (zeroT, .slice none 0 0)))) := HE.out _ (below_put H3.out.2 (by omega) _)
    have Hq : Hid (Bx (wc.setCells (w.heap.size + 2) 0 (encP (zeroT, .slice none 0 0))) (w.heap.size + 2) zeroT (.slice none 0 0)) := H3.out.1.put (zeroT, .slice none 0 0)
    obtain ⟨z0, z1, z2, z3, y0, y1, y2, y3⟩ := H3.out.1
    clear H3 HE
    go_wp2_with fail
    refine bodyPost_ret (v := .tuple #[.agg #[.int .i64 0, .int .i64 0, .string ⟨#[]⟩, .slice none 0 0], .int .i64 260]) ?_ rfl HE3.out
    obtain ⟨q0, q1, q2, q3, _, _, _, _⟩ := Hq.out
    simp only [World.setCells, encP, Nat.zero_add, Nat.reduceAdd] at q0 q1 q2 q3
    simp [results, Tryz.results14, go_sem, q0, q1, q2, q3]

end Go.Proofs.YtofceccicmlmoaaGreat

namespace Go.Proofs.YtofceccicmlmoaaGreat
open Go.RowKit Go.Shelf

def pthE (d : Nat) (p : List VT) : Int := if 16 < p.length then 2 else listErr d p
def chkE (d : Nat) (t : VT) (p : List VT) : Int := if rightV d t = true then pthE d p else 3

set_option maxHeartbeats 4000000 in
theorem checkPath_any (d : Nat) (p : List VT) (v : Value) (w : World) (hv : Lies (d + 1) w p v) :
    Calls Tryz.prog 29 #[v] w fun e w' => e = .returned (.int .i64 (pthE d p)) ∧ Below w.heap.size w w' := by
  obtain ⟨a, c, rfl, _⟩ := Lies.slice hv
  have HC : Hid (Calls Tryz.prog 49 #[.slice a p.length c, .func (.func 22) #[] #[]] w fun e w' => e = .returned (.int .i64 (listErr d p)) ∧ Below w.heap.size w w') := checkAll_any d p _ w hv
  clear hv
  by_cases hl : 16 < p.length
  · have he : pthE d p = 2 := by unfold pthE; rw [if_pos hl]
    rw [he]
    have hli : (16 : Int) < (p.length : Int) := by omega
    clear he hl
    generalize p.length = lp at *
    go_enter Tryz.func29, Tryz.ntmps29
    go_wp2_with fail
    go_ret
    exact ⟨rfl, Below.refl _ _⟩
  · have he : pthE d p = listErr d p := by unfold pthE; rw [if_neg hl]
    rw [he]
    have hli : ¬ (16 : Int) < (p.length : Int) := by omega
    clear he hl
    generalize listErr d p = E at *
    generalize p.length = lp at *
    go_enter Tryz.func29, Tryz.ntmps29
    go_wp2_with fail
    refine Calls.mono HC.out ?_
    rintro e w1 ⟨rfl, hb⟩
    go_wp2_with fail
    go_ret
    exact ⟨rfl, hb⟩

set_option maxHeartbeats 4000000 in
theorem check26_any (d : Nat) (t : VT) (p : List VT) (v pv : Value) (w : World) (hv : Lies d w t.items v) (hs : t.text.size ≤ 9223372036854775807) (hp : Lies (d + 1) w p pv) :
    Calls Tryz.prog 10 #[.agg #[.int .i64 t.kind, .int .i64 t.num, .string t.text, v], pv] w fun e w' => e = .returned (.int .i64 (chkE d t p)) ∧ Below w.heap.size w w' := by
  obtain ⟨a, c, rfl, _⟩ := Lies.slice hv
  obtain ⟨pa, pc, rfl, _⟩ := Lies.slice hp
  have HC : Hid (∀ W, Below w.heap.size w W → Calls Tryz.prog 22 #[.agg #[.int .i64 t.kind, .int .i64 t.num, .string t.text, .slice a t.items.length c]] W fun e w' => e = .returned (.int .i64 (errOf (rightV d t))) ∧ Below W.heap.size W w') := fun W hW => check_any d t _ W (Lies.keeps hW _ _ _ hv) hs
  have HP : Hid (∀ W, Below w.heap.size w W → Calls Tryz.prog 29 #[.slice pa p.length pc] W fun e w' => e = .returned (.int .i64 (pthE d p)) ∧ Below W.heap.size W w') := fun W hW => checkPath_any d p _ W (Lies.keeps hW _ _ _ hp)
  have hal : Below w.heap.size w (w.alloc (.cells #[.int .i64 t.kind, .int .i64 t.num, .string t.text, .slice a t.items.length c] 24)) := ((Grew.refl w).alloc _).below
  clear hv hp hs
  cases hr : rightV d t
  · have he : chkE d t p = 3 := by unfold chkE; rw [hr]; rfl
    have he2 : errOf (rightV d t) = 3 := by rw [hr]; rfl
    rw [he]
    rw [hr] at HC
    rw [hr] at he2
    rw [he2] at HC
    clear he he2 hr
    generalize t.items.length = lt at *
    generalize p.length = lp at *
    go_enter Tryz.func10, Tryz.ntmps10
    go_wp2_with fail
    refine Calls.mono (HC.out _ hal) ?_
    rintro e w1 ⟨rfl, hb⟩
    have hb1 : Below w.heap.size w w1 := hal.trans (hb.mono hal.size)
    go_wp2_with fail
    go_ret
    exact ⟨rfl, hb1⟩
  · have he : chkE d t p = pthE d p := by unfold chkE; rw [hr]; rfl
    rw [he]
    rw [hr] at HC
    have he2 : errOf true = 0 := rfl
    rw [he2] at HC
    clear he he2 hr
    generalize pthE d p = E at *
    generalize t.items.length = lt at *
    generalize p.length = lp at *
    go_enter Tryz.func10, Tryz.ntmps10
    go_wp2_with fail
    refine Calls.mono (HC.out _ hal) ?_
    rintro e w1 ⟨rfl, hb⟩
    have hb1 : Below w.heap.size w w1 := hal.trans (hb.mono hal.size)
    clear hb hal HC
    go_wp2_with fail
    refine Calls.mono (HP.out _ hb1) ?_
    rintro e w2 ⟨rfl, hb2⟩
    have hb3 : Below w.heap.size w w2 := hb1.trans (hb2.mono hb1.size)
    go_wp2_with fail
    go_ret
    exact ⟨rfl, hb3⟩

/-- What stands when a value is told: the value, or nothing and an error. -/
def FtPost (X : Nat → Prop) (D : Nat) (r : VT) (E : Int) (w : World) (e : Ending) (w' : World) : Prop :=
  ∃ a c, e = .returned (.tuple #[.agg #[.int .i64 r.kind, .int .i64 r.num, .string r.text, .slice a r.items.length c], .int .i64 E]) ∧ LiesX X D w' r.items (.slice a r.items.length c) ∧ Below w.heap.size w w'

set_option maxRecDepth 100000 in
set_option maxHeartbeats 4000000 in
theorem fitting_err (X : Nat → Prop) (D : Nat) (k n : Int) (tx : ByteArray) (a : Option Addr) (l c : Nat) (E : Int) (hE : ¬ E = 0) (w : World) :
    Calls Tryz.prog 33 #[.agg #[.int .i64 k, .int .i64 n, .string tx, .slice a l c], .int .i64 E] w (FtPost X D nilT E w) := by
  obtain ⟨t, ht⟩ : ∃ t : VT, t = ⟨k, n, tx, []⟩ := ⟨_, rfl⟩
  have HR : Hid (Bx (at2 w t (.slice a l c)) (w.heap.size + 1) zeroT (.slice none 0 0)) := at2_snd _ _ _
  have hb0 := at2_below w t (.slice a l c)
  obtain ⟨W0, hW0⟩ : ∃ W0, W0 = at2 w t (.slice a l c) := ⟨_, rfl⟩
  have HW0 : Hid (W0 = at2 w t (.slice a l c)) := hW0
  rw [← hW0] at HR hb0
  clear hW0
  unfold at2 at HW0
  rw [ht] at HW0
  simp only at HW0
  have HE : Hid (FtPost X D nilT E w (.returned (.tuple #[.agg #[.int .i64 0, .int .i64 0, .string ⟨#[]⟩, .slice none 0 0], .int .i64 E])) (W0.setCells (w.heap.size + 1) 0 (encP (zeroT, .slice none 0 0)))) := ⟨none, 0, rfl, liesX_nil _ _ _ _ _, below_put hb0 (by omega) _⟩
  have Hq : Hid (Bx (W0.setCells (w.heap.size + 1) 0 (encP (zeroT, .slice none 0 0))) (w.heap.size + 1) zeroT (.slice none 0 0)) := HR.out.put (zeroT, .slice none 0 0)
  obtain ⟨z0, z1, z2, z3, g0, g1, g2, g3⟩ := HR.out
  clear hb0 HR ht
  generalize FtPost X D nilT E w = PP at *
  go_enter Tryz.func33, Tryz.ntmps33
  go_upto_region 1 with fail
  rw [← HW0.out]
  clear HW0
  go_wp2_with fail
  refine bodyPost_ret (v := .tuple #[.agg #[.int .i64 0, .int .i64 0, .string ⟨#[]⟩, .slice none 0 0], .int .i64 E]) ?_ rfl HE.out
  obtain ⟨q0, q1, q2, q3, _, _, _, _⟩ := Hq.out
  simp only [World.setCells, encP, Nat.zero_add, Nat.reduceAdd] at q0 q1 q2 q3
  simp [results, Tryz.results33, go_sem, q0, q1, q2, q3]

def fitR (D : Nat) (z : VT) : VT := if (fw D z 16 1024).1 = true then z else nilT
def fitE (D : Nat) (z : VT) : Int := if (fw D z 16 1024).1 = true then 0 else 2

set_option maxRecDepth 100000 in
set_option maxHeartbeats 4000000 in
theorem fitting_any (X : Nat → Prop) (D : Nat) (z : VT) (a : Option Addr) (c : Nat) (w : World) (h : LiesX X D w z.items (.slice a z.items.length c)) (hX : ∀ b, X b → b < w.heap.size) :
    Calls Tryz.prog 33 #[.agg #[.int .i64 z.kind, .int .i64 z.num, .string z.text, .slice a z.items.length c], .int .i64 0] w (FtPost X D (fitR D z) (fitE D z) w) := by
  have HT : Hid (Bx (at2 w z (.slice a z.items.length c)) w.heap.size z (.slice a z.items.length c)) := at2_fst _ _ _
  have HR : Hid (Bx (at2 w z (.slice a z.items.length c)) (w.heap.size + 1) zeroT (.slice none 0 0)) := at2_snd _ _ _
  have hb0 := at2_below w z (.slice a z.items.length c)
  obtain ⟨W0, hW0⟩ : ∃ W0, W0 = at2 w z (.slice a z.items.length c) := ⟨_, rfl⟩
  have HW0 : Hid (W0 = at2 w z (.slice a z.items.length c)) := hW0
  rw [← hW0] at HT HR hb0
  clear hW0
  unfold at2 at HW0
  have HF : Hid (Calls Tryz.prog 45 #[.agg #[.int .i64 z.kind, .int .i64 z.num, .string z.text, .slice a z.items.length c]] W0 fun e w' => e = .returned (.bool (fw D z 16 1024).1) ∧ Below W0.heap.size W0 w') := fits_any D z _ W0 (h.keeps hb0).lies
  obtain ⟨t0, t1, t2, t3, _, _, _, _⟩ := HT.out
  cases hf : (fw D z 16 1024).1
  · have e1 : fitR D z = nilT := by unfold fitR; rw [hf]; rfl
    have e2 : fitE D z = 2 := by unfold fitE; rw [hf]; rfl
    rw [e1, e2]
    rw [hf] at HF
    have HE : Hid (∀ W, Below w.heap.size w W → FtPost X D nilT 2 w (.returned (.tuple #[.agg #[.int .i64 0, .int .i64 0, .string ⟨#[]⟩, .slice none 0 0], .int .i64 2])) W) := fun W hW => ⟨none, 0, rfl, liesX_nil _ _ _ _ _, hW⟩
    generalize FtPost X D nilT 2 w = PP at *
    clear e1 e2 hf h hX
    generalize z.items.length = lz at *
    go_enter Tryz.func33, Tryz.ntmps33
    go_upto_region 1 with fail
    rw [← HW0.out]
    clear HW0
    go_wp2_with fail
    refine Calls.mono HF.out ?_
    rintro e w1 ⟨rfl, hb1⟩
    have hb2 : Below w.heap.size w w1 := hb0.trans (hb1.mono hb0.size)
    have HR1 : Hid (Bx w1 (w.heap.size + 1) zeroT (.slice none 0 0)) := HR.out.keeps hb1
    have HE1 : Hid (PP (.returned (.tuple #[.agg #[.int .i64 0, .int .i64 0, .string ⟨#[]⟩, .slice none 0 0], .int .i64 2])) (w1.setCells (w.heap.size + 1) 0 (encP (zeroT, .slice none 0 0)))) := HE.out _ (below_put hb2 (by omega) _)
    have Hq : Hid (Bx (w1.setCells (w.heap.size + 1) 0 (encP (zeroT, .slice none 0 0))) (w.heap.size + 1) zeroT (.slice none 0 0)) := HR1.out.put (zeroT, .slice none 0 0)
    obtain ⟨z0, z1, z2, z3, g0, g1, g2, g3⟩ := HR1.out
    clear hb1 hb0 hb2 HF HT HR HR1 HE t0 t1 t2 t3
    go_wp2_with fail
    refine bodyPost_ret (v := .tuple #[.agg #[.int .i64 0, .int .i64 0, .string ⟨#[]⟩, .slice none 0 0], .int .i64 2]) ?_ rfl HE1.out
    obtain ⟨q0, q1, q2, q3, _, _, _, _⟩ := Hq.out
    simp only [World.setCells, encP, Nat.zero_add, Nat.reduceAdd] at q0 q1 q2 q3
    simp [results, Tryz.results33, go_sem, q0, q1, q2, q3]
  · have e1 : fitR D z = z := by unfold fitR; rw [hf]; rfl
    have e2 : fitE D z = 0 := by unfold fitE; rw [hf]; rfl
    rw [e1, e2]
    rw [hf] at HF
    have HE : Hid (∀ W, Below w.heap.size w W → FtPost X D z 0 w (.returned (.tuple #[.agg #[.int .i64 z.kind, .int .i64 z.num, .string z.text, .slice a z.items.length c], .int .i64 0])) (W.setCells (w.heap.size + 1) 0 (encP (z, .slice a z.items.length c)))) := fun W hW => ⟨a, c, rfl, LiesX.set (g := w.heap.size + 1) (fun hx => by have := hX _ hx; omega) (h.keeps hW), below_put hW (by omega) _⟩
    generalize FtPost X D z 0 w = PP at *
    clear e1 e2 hf h hX
    generalize z.items.length = lz at *
    go_enter Tryz.func33, Tryz.ntmps33
    go_upto_region 1 with fail
    rw [← HW0.out]
    clear HW0
    go_wp2_with fail
    refine Calls.mono HF.out ?_
    rintro e w1 ⟨rfl, hb1⟩
    have hb2 : Below w.heap.size w w1 := hb0.trans (hb1.mono hb0.size)
    have HR1 : Hid (Bx w1 (w.heap.size + 1) zeroT (.slice none 0 0)) := HR.out.keeps hb1
    replace t0 := cell_keeps hb1 t0; replace t1 := cell_keeps hb1 t1; replace t2 := cell_keeps hb1 t2; replace t3 := cell_keeps hb1 t3
    have HE1 : Hid (PP (.returned (.tuple #[.agg #[.int .i64 z.kind, .int .i64 z.num, .string z.text, .slice a lz c], .int .i64 0])) (w1.setCells (w.heap.size + 1) 0 (encP (z, .slice a lz c)))) := HE.out _ hb2
    have Hq : Hid (Bx (w1.setCells (w.heap.size + 1) 0 (encP (z, .slice a lz c))) (w.heap.size + 1) z (.slice a lz c)) := HR1.out.put (z, .slice a lz c)
    obtain ⟨z0, z1, z2, z3, g0, g1, g2, g3⟩ := HR1.out
    clear hb1 hb0 hb2 HF HT HR HR1 HE
    go_wp2_with fail
    refine bodyPost_ret (v := .tuple #[.agg #[.int .i64 z.kind, .int .i64 z.num, .string z.text, .slice a lz c], .int .i64 0]) ?_ rfl HE1.out
    obtain ⟨q0, q1, q2, q3, _, _, _, _⟩ := Hq.out
    simp only [World.setCells, encP, Nat.zero_add, Nat.reduceAdd] at q0 q1 q2 q3
    simp [results, Tryz.results33, go_sem, q0, q1, q2, q3]

set_option maxRecDepth 100000 in
set_option maxHeartbeats 4000000 in
/-- told, of whatever fitting answers. -/
theorem told_core (X : Nat → Prop) (D : Nat) (r : VT) (E E0 : Int) (k n : Int) (tx : ByteArray) (a : Option Addr) (l c : Nat) (w : World) (hX : ∀ b, X b → b < w.heap.size) (hr : rightV 16 r = true) (hd : Dp 16 r)
    (hf : ∀ W, Below w.heap.size w W → Calls Tryz.prog 33 #[.agg #[.int .i64 k, .int .i64 n, .string tx, .slice a l c], .int .i64 E0] W (FtPost X D r E W)) :
    Calls Tryz.prog 13 #[.agg #[.int .i64 k, .int .i64 n, .string tx, .slice a l c], .int .i64 E0] w (VPost r E w) := by
  have HT : Hid (Bx (at2 w ⟨k, n, tx, []⟩ (.slice a l c)) w.heap.size ⟨k, n, tx, []⟩ (.slice a l c)) := at2_fst _ _ _
  have HR : Hid (Bx (at2 w ⟨k, n, tx, []⟩ (.slice a l c)) (w.heap.size + 1) zeroT (.slice none 0 0)) := at2_snd _ _ _
  have hb0 := at2_below w ⟨k, n, tx, []⟩ (.slice a l c)
  obtain ⟨W0, hW0⟩ : ∃ W0, W0 = at2 w ⟨k, n, tx, []⟩ (.slice a l c) := ⟨_, rfl⟩
  have HW0 : Hid (W0 = at2 w ⟨k, n, tx, []⟩ (.slice a l c)) := hW0
  rw [← hW0] at HT HR hb0
  clear hW0
  unfold at2 at HW0
  simp only at HW0
  have HF : Hid (Calls Tryz.prog 33 #[.agg #[.int .i64 k, .int .i64 n, .string tx, .slice a l c], .int .i64 E0] W0 (FtPost X D r E W0)) := hf W0 hb0
  have HXX : Hid (∀ b, X b → b < w.heap.size) := hX
  have HRr : Hid (rightV 16 r = true ∧ Dp 16 r) := ⟨hr, hd⟩
  obtain ⟨t0, t1, t2, t3, f0, f1, f2, f3⟩ := HT.out
  simp only at t0 t1 t2
  clear hf hX hr hd
  generalize hP : VPost r E w = PP
  have HP : Hid (VPost r E w = PP) := hP
  clear hP
  go_enter Tryz.func13, Tryz.ntmps13
  go_upto_region 1 with fail
  rw [← HW0.out]
  clear HW0
  go_wp2_with fail
  refine Calls.mono HF.out ?_
  rintro e w1 ⟨a1, c1, rfl, hl1, hb1⟩
  have hb2 : Below w.heap.size w w1 := hb0.trans (hb1.mono hb0.size)
  have HR1 : Hid (Bx w1 (w.heap.size + 1) zeroT (.slice none 0 0)) := HR.out.keeps hb1
  have HT1 : Hid (Bx w1 w.heap.size ⟨k, n, tx, []⟩ (.slice a l c)) := HT.out.keeps hb1
  obtain ⟨w2, hw2⟩ : ∃ w2, w2 = w1.setCells w.heap.size 0 (encP (r, .slice a1 r.items.length c1)) := ⟨_, rfl⟩
  have Hw2 : Hid (w2 = w1.setCells w.heap.size 0 (encP (r, .slice a1 r.items.length c1))) := hw2
  have HT2 : Hid (Bx w2 w.heap.size r (.slice a1 r.items.length c1)) := by rw [hw2]; exact HT1.out.put _
  have HR2 : Hid (Bx w2 (w.heap.size + 1) zeroT (.slice none 0 0)) := by rw [hw2]; exact HR1.out.other (by omega) _
  have hb3 : Below w.heap.size w w2 := by rw [hw2]; exact below_put hb2 (Nat.le_refl _) _
  have HC : Hid (Calls Tryz.prog 34 #[.agg #[.int .i64 r.kind, .int .i64 r.num, .string r.text, .slice a1 r.items.length c1]] w2 (CopyPost 16 r w2)) := by
    refine copy_right r _ w2 ?_ HRr.out.1
    rw [hw2]
    exact (LiesX.to (t := r) (LiesX.set (g := w.heap.size) (fun hx => by have := HXX.out _ hx; omega) hl1) HRr.out.2).lies
  obtain ⟨y0, y1, y2, y3, g0, g1, g2, g3⟩ := HT1.out
  simp only at y0 y1 y2
  clear hb1 hb0 hb2 hl1 HF HT HR HR1 HT1 t0 t1 t2 t3 f0 f1 f2 f3 hw2
  generalize r.items.length = lr at *
  go_upto_region 2 with fail
  simp only [World.setCells, encP, Nat.zero_add, Nat.reduceAdd] at Hw2
  rw [← Hw2.out]
  clear Hw2 y0 y1 y2 y3 g0 g1 g2 g3
  obtain ⟨t0, t1, t2, t3, f0, f1, f2, f3⟩ := HT2.out
  go_wp2_with fail
  refine Calls.mono HC.out ?_
  rintro e w4 ⟨v4, rfl, hl4, hb4⟩
  have hb5 : Below w.heap.size w w4 := hb3.trans (hb4.mono hb3.size)
  obtain ⟨a4, c4, rfl, _⟩ := LiesB.slice hl4
  have HR4 : Hid (Bx w4 (w.heap.size + 1) zeroT (.slice none 0 0)) := HR2.out.keeps hb4
  have hsz : w.heap.size + 1 < w2.heap.size := by have := cell_lt HR2.out.c0; simpa using this
  have HE1 : Hid (PP (.returned (.tuple #[.agg #[.int .i64 r.kind, .int .i64 r.num, .string r.text, .slice a4 r.items.length c4], .int .i64 E])) (w4.setCells (w.heap.size + 1) 0 (encP (r, .slice a4 r.items.length c4)))) := by
    show PP _ _
    rw [← HP.out]
    exact ⟨_, rfl, LiesX.mono (fun b hb => by omega) (LiesX.set (g := w.heap.size + 1) (by omega) (LiesX.of_b hl4)), below_put hb5 (by omega) _⟩
  have Hq : Hid (Bx (w4.setCells (w.heap.size + 1) 0 (encP (r, .slice a4 r.items.length c4))) (w.heap.size + 1) r (.slice a4 r.items.length c4)) := HR4.out.put (r, .slice a4 r.items.length c4)
  obtain ⟨z0, z1, z2, z3, g0, g1, g2, g3⟩ := HR4.out
  clear hl4 hb4 hb5 hb3 HR4 HR2 HT2 HC HP t0 t1 t2 t3 f0 f1 f2 f3 hsz
  generalize r.items.length = lr at *
  go_wp2_with fail
  refine bodyPost_ret (v := .tuple #[.agg #[.int .i64 r.kind, .int .i64 r.num, .string r.text, .slice a4 lr c4], .int .i64 E]) ?_ rfl HE1.out
  obtain ⟨q0, q1, q2, q3, _, _, _, _⟩ := Hq.out
  simp only [World.setCells, encP, Nat.zero_add, Nat.reduceAdd] at q0 q1 q2 q3
  simp [results, Tryz.results13, go_sem, q0, q1, q2, q3]

end Go.Proofs.YtofceccicmlmoaaGreat

