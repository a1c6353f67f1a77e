/-
  The walk of AlgebraOn.
-/
import Derived.Test.YtdapildmegdjkaaOnP
import Derived.Test.YtdapildmegdjkaaSpeaks25
import Derived.Test.YtdapildmegdjkaaEq
namespace Go.Proofs.Ytdapildmegdjkaa
open Go.RowKit

theorem lastT_app (t : VT) (a b : List VT) : lastT t (a ++ b) = lastT (lastT t a) b := by
  unfold lastT
  rw [List.getLast?_append]
  cases b.getLast? <;> simp

theorem redT_right {D : Nat} (hD : 16 ≤ D) {q : Int} {t : VT} {l : List VT} {w : World} {v : Value} (ht : rightV 16 t = true) (hd : Dp 16 t) (hl : Lies (D + 1) w l v) : rightV D (redT D q t l) = true := by
  have key : ∀ x, rightV 16 x = true → Dp 16 x → rightV D x = true := fun x h1 h2 => by rw [rightV_eq x h2 hD]; exact h1
  unfold redT
  split
  · rename_i h
    have hz := redE_zero h
    have hc := canonL25 hl hz.2.2
    have hr := redS_right q.toNat l t ht hd hc.2.2
    unfold lastT
    cases hg : (redS q.toNat t l).getLast? with
    | none => exact key t ht hd
    | some x =>
      have hx := hr x (List.mem_of_getLast? hg)
      exact key x hx.1 hx.2
  · exact nil_rightD D

theorem redT_pos {d : Nat} {q : Int} {t : VT} {l : List VT} (h : redE d q t l = 0) : redT d q t l = lastT t (redS q.toNat t l) := if_pos h

theorem redN_le {d : Nat} (q : Int) (t : VT) (l : List VT) (h : l.length ≤ 65536) : redN d q t l ≤ 65536 := by
  unfold redN
  split
  · exact Nat.le_trans (redS_len _ _ _) h
  · omega

/-- What the statement asks, in plain words. -/
theorem on_plain {D : Nat} (hD : 16 ≤ D) {q : Int} {l m : List VT} {w : World} {v1 : Value} (h1 : Lies (D + 1) w l v1) (hn : l.length + m.length ≤ 65536) :
    ((redE D q (intT 0) l ≠ 0 ∨ redE D q (redT D q (intT 0) l) m ≠ 0) ↔ redE D q (intT 0) (l ++ m) ≠ 0) ∧
    (redE D q (intT 0) (l ++ m) = 0 → if (if q = 6 then stpd 0 l else false) = true then redT D q (intT 0) (l ++ m) = redT D q (intT 0) l ∧ redN D q (intT 0) (l ++ m) = redN D q (intT 0) l
      else redT D q (intT 0) (l ++ m) = redT D q (redT D q (intT 0) l) m ∧ redN D q (intT 0) (l ++ m) = redN D q (intT 0) l + redN D q (redT D q (intT 0) l) m) := by
  have hr0 : rightV D (intT 0) = true := by rw [rightV_eq (intT 0) (dp_leaf rfl) hD]; exact int_right 0
  have hrA := redT_right hD (q := q) (t := intT 0) (int_right 0) (dp_leaf rfl) h1
  have e1 := redE_iff (q := q) (l := l) hr0
  have e2 := redE_iff (q := q) (l := m) hrA
  have e3 := redE_iff (q := q) (l := l ++ m) hr0
  have e4 := listErr_app (d := D) hn
  have key : redE D q (intT 0) (l ++ m) = 0 ↔ redE D q (intT 0) l = 0 ∧ redE D q (redT D q (intT 0) l) m = 0 := by
    rw [e1, e2, e3, e4]
    constructor
    · rintro ⟨a, b, c⟩; exact ⟨⟨a, b⟩, a, c⟩
    · rintro ⟨⟨a, b⟩, _, c⟩; exact ⟨a, b, c⟩
  refine ⟨?_, fun hg => ?_⟩
  · rw [Ne, Ne, Ne, key]
    constructor
    · rintro (h | h) ⟨a, b⟩
      · exact h a
      · exact h b
    · intro h
      by_cases a : redE D q (intT 0) l = 0
      · exact .inr (fun b => h ⟨a, b⟩)
      · exact .inl a
  · obtain ⟨z1, z2⟩ := key.1 hg
    have hq := (redE_zero z1).1
    have hst : (if q = 6 then stpd 0 l else false) = stS q.toNat (intT 0) l := by
      by_cases h6 : q = 6
      · rw [if_pos h6, h6]; exact (stpd_stS l 0).symm
      · rw [if_neg h6, stS_never (by omega)]
    have t1 : redT D q (intT 0) (l ++ m) = lastT (intT 0) (redS q.toNat (intT 0) (l ++ m)) := by unfold redT; rw [if_pos hg]
    have t2 : redT D q (intT 0) l = lastT (intT 0) (redS q.toNat (intT 0) l) := by unfold redT; rw [if_pos z1]
    have t3 : redT D q (redT D q (intT 0) l) m = lastT (redT D q (intT 0) l) (redS q.toNat (redT D q (intT 0) l) m) := redT_pos z2
    have n1 : redN D q (intT 0) (l ++ m) = (redS q.toNat (intT 0) (l ++ m)).length := by unfold redN; rw [if_pos hg]
    have n2 : redN D q (intT 0) l = (redS q.toNat (intT 0) l).length := by unfold redN; rw [if_pos z1]
    have n3 : redN D q (redT D q (intT 0) l) m = (redS q.toNat (redT D q (intT 0) l) m).length := by unfold redN; rw [if_pos z2]
    have ha := redS_app q.toNat l m (intT 0)
    rw [hst]
    split
    · rename_i h
      rw [if_pos h] at ha
      rw [t1, n1, ha, t2, n2]
      exact ⟨rfl, rfl⟩
    · rename_i h
      rw [if_neg h, ← t2] at ha
      rw [t1, n1, t3, n3, n2, ha, List.length_append, lastT_app, ← t2]
      exact ⟨rfl, rfl⟩

set_option maxRecDepth 100000 in
set_option maxHeartbeats 16000000 in
theorem onLaw_core (D : Nat) (hD : 16 ≤ D) (q : Int) (l m : List VT) (v1 v2 : Value) (w : World) (h1 : Lies (D + 1) w l v1) (h2 : Lies (D + 1) w m v2) (z1 : l.length * 56 ≤ 140737488355328) (z2 : m.length * 56 ≤ 140737488355328) :
    Calls Try.prog 3 #[.int .i64 q, v1, v2] w fun e w' => e = .returned (.bool true) ∧ Below w.heap.size w w' := by
  obtain ⟨a1, c1, rfl, _⟩ := Lies.slice h1
  obtain ⟨a2, c2, rfl, _⟩ := Lies.slice h2
  have HSp : Hid (∀ W, Calls Try.prog 4 #[] W fun e w' => e = .returned (.bool true) ∧ Below W.heap.size W w') := fun W => speaks25_any W
  have hsum : IntKind.i64.wrap ((l.length : Int) + (m.length : Int)) = ((l.length + m.length : Nat) : Int) := by rw [IntKind.wrap_i64]; omega
  by_cases hbig : 65536 < l.length + m.length
  · have hbi : (65536 : Int) < ((l.length + m.length : Nat) : Int) := by omega
    clear h1 h2 z1 z2 hbig
    generalize hL : l.length + m.length = L at *
    clear hL
    generalize l.length = l1 at *
    generalize m.length = l2 at *
    go_enter Try.func3, Try.ntmps3
    go_wp2_with fail
    refine Calls.mono (HSp.out _) ?_
    rintro e w9 ⟨rfl, hb9⟩
    clear HSp
    go_wp2_with fail
    go_ret
    exact ⟨rfl, hb9⟩
  have hbi : ¬ (65536 : Int) < ((l.length + m.length : Nat) : Int) := by omega
  have HP := on_plain hD (q := q) (m := m) h1 (by omega)
  have HPl : Hid _ := HP
  have hrA := redT_right hD (q := q) (t := intT 0) (int_right 0) (dp_leaf rfl) h1
  have HI : Hid (∀ V, Calls Try.prog 5 #[.int .i64 0] V fun e w' => e = .returned (.agg #[.int .i64 2, .int .i64 0, .string ⟨#[]⟩, .slice none 0 0]) ∧ Grew V w') := fun V => int_any 0 V
  have HR1 : Hid (∀ W, Below w.heap.size w W → Calls Try.prog 6 #[.int .i64 q, .agg #[.int .i64 2, .int .i64 0, .string ⟨#[]⟩, .slice none 0 0], .slice a1 l.length c1] W (RedPost (redT D q (intT 0) l) (redN D q (intT 0) l) (redE D q (intT 0) l) W)) := fun W hW => reduceF_any D q (intT 0) (.slice none 0 0) l _ W (liesX_nil (fun _ => True) D W none 0).lies (by show 0 ≤ _; omega) (Lies.keeps hW _ _ _ h1)
  have HR2 : Hid (∀ W u, Below w.heap.size w W → Lies 16 W (redT D q (intT 0) l).items u → Calls Try.prog 6 #[.int .i64 q, .agg #[.int .i64 (redT D q (intT 0) l).kind, .int .i64 (redT D q (intT 0) l).num, .string (redT D q (intT 0) l).text, u], .slice a2 m.length c2] W (RedPost (redT D q (redT D q (intT 0) l) m) (redN D q (redT D q (intT 0) l) m) (redE D q (redT D q (intT 0) l) m) W)) := fun W u hW hu => reduceF_any D q (redT D q (intT 0) l) u m _ W (hu.atLeast D hD) (Nat.le_trans (right_size (canon (hu.atLeast D hD) hrA).2) (by omega)) (Lies.keeps hW _ _ _ h2)
  have HR3 : Hid (∀ W u, Lies (D + 1) W (l ++ m) u → Calls Try.prog 6 #[.int .i64 q, .agg #[.int .i64 2, .int .i64 0, .string ⟨#[]⟩, .slice none 0 0], u] W (RedPost (redT D q (intT 0) (l ++ m)) (redN D q (intT 0) (l ++ m)) (redE D q (intT 0) (l ++ m)) W)) := fun W u hu => reduceF_any D q (intT 0) (.slice none 0 0) (l ++ m) u W (liesX_nil (fun _ => True) D W none 0).lies (by show 0 ≤ _; omega) hu
  have HSt : Hid (∀ W, Below w.heap.size w W → Calls Try.prog 7 #[.int .i64 q, .slice a1 l.length c1] W fun e w' => e = .returned (.bool (if q = 6 then stpd 0 l else false)) ∧ Below W.heap.size W w') := fun W hW => stopped_any D q l _ W (Lies.keeps hW _ _ _ h1) (by omega)
  have HNb : Hid (redN D q (intT 0) l ≤ 65536 ∧ redN D q (redT D q (intT 0) l) m ≤ 65536) := ⟨redN_le _ _ _ (by omega), redN_le _ _ _ (by omega)⟩
  obtain ⟨ps, hps, hpl, hsl⟩ := SlP.of_lies h1
  obtain ⟨qs, hqs, hql, hsm⟩ := SlP.of_lies h2
  have HS1 : Hid (SlP 0 D w ps (.slice a1 l.length c1)) := hsl
  have HS2 : Hid (SlP 0 D w qs (.slice a2 m.length c2)) := hsm
  have HLn : Hid (l.length + m.length ≤ 65536 ∧ ps.length = l.length ∧ qs.length = m.length ∧ (ps ++ qs).map (·.1) = l ++ m) := ⟨by omega, hpl, hql, by rw [List.map_append, hps, hqs]⟩
  obtain ⟨i0, hi, hz0, hz1, hz2⟩ := info24
  have Hi : Hid _ := hi; have Hz0 : Hid _ := hz0; have Hz1 : Hid _ := hz1; have Hz2 : Hid _ := hz2
  clear h1 h2 z1 z2 hbig HP hrA hps hpl hsl hqs hql hsm hi hz0 hz1 hz2
  generalize redT D q (intT 0) l = A at *
  generalize redN D q (intT 0) l = N1 at *
  generalize redE D q (intT 0) l = E1 at *
  generalize redT D q A m = B at *
  generalize redN D q A m = N2 at *
  generalize redE D q A m = E2 at *
  generalize redT D q (intT 0) (l ++ m) = C at *
  generalize redN D q (intT 0) (l ++ m) = N3 at *
  generalize redE D q (intT 0) (l ++ m) = E3 at *
  generalize (if q = 6 then stpd 0 l else false) = ST at *
  generalize l ++ m = LM at *
  generalize hL : l.length + m.length = L at *
  generalize hl1 : l.length = l1 at *
  generalize hl2 : m.length = l2 at *
  clear hl1 hl2
  have HL : Hid (l1 + l2 = L) := hL
  clear hL
  go_enter Try.func3, Try.ntmps3
  go_wp2_with fail
  refine Calls.mono (HI.out _) ?_
  rintro e w1 ⟨rfl, hg1⟩
  have hb1 : Below w.heap.size w w1 := hg1.below
  clear hg1 HI
  obtain ⟨W1, hW1⟩ : ∃ W1, W1 = w1.alloc (.cells #[.int .i64 (intT 0).kind, .int .i64 (intT 0).num, .string (intT 0).text, .slice none 0 0] 25) := ⟨_, rfl⟩
  have HW1 : Hid (W1 = w1.alloc (.cells #[.int .i64 (intT 0).kind, .int .i64 (intT 0).num, .string (intT 0).text, .slice none 0 0] 25)) := hW1
  have hx1 : Below w1.heap.size w1 W1 := by rw [hW1]; exact ((Grew.refl w1).alloc _).below
  have HB1 : Hid (Bx W1 w1.heap.size (intT 0) (.slice none 0 0)) := by rw [hW1]; exact bx_alloc w1 (intT 0) _
  have hw1 : Below w.heap.size w W1 := hb1.trans (hx1.mono hb1.size)
  clear hW1 hx1 hb1
  simp only [intT] at HW1
  go_upto_region 4 with fail
  rw [← HW1.out]
  clear HW1
  obtain ⟨x0, x1, x2, x3, _, _, _, _⟩ := HB1.out
  simp only [intT] at x0 x1 x2
  go_wp2_with fail
  refine Calls.mono (HR1.out _ hw1) ?_
  rintro e w2 ⟨u2, rfl, hl2, hb2⟩
  obtain ⟨a3, c3, rfl, _⟩ := Lies.slice hl2
  have HB2 : Hid (Bx w2 w1.heap.size (intT 0) (.slice none 0 0)) := HB1.out.keeps hb2
  have hw2 : Below w.heap.size w w2 := hw1.trans (hb2.mono hw1.size)
  clear HB1 hw1 hb2 x0 x1 x2 x3 HR1
  obtain ⟨W2, hW2⟩ : ∃ W2, W2 = w2.alloc (.cells #[.int .i64 A.kind, .int .i64 A.num, .string A.text, .slice a3 A.items.length c3] 25) := ⟨_, rfl⟩
  have HW2 : Hid (W2 = w2.alloc (.cells #[.int .i64 A.kind, .int .i64 A.num, .string A.text, .slice a3 A.items.length c3] 25)) := hW2
  have hx2 : Below w2.heap.size w2 W2 := by rw [hW2]; exact ((Grew.refl w2).alloc _).below
  have HA2 : Hid (Bx W2 w2.heap.size A (.slice a3 A.items.length c3)) := by rw [hW2]; exact bx_alloc w2 A _
  have HBW2 : Hid (Bx W2 w1.heap.size (intT 0) (.slice none 0 0)) := HB2.out.keeps hx2
  have hwW2 : Below w.heap.size w W2 := hw2.trans (hx2.mono hw2.size)
  have HLA2 : Hid (Lies 16 W2 A.items (.slice a3 A.items.length c3)) := Lies.keeps hx2 _ _ _ hl2
  clear hW2 hx2 hw2 hl2 HB2
  go_upto_region 5 with fail
  rw [← HW2.out]
  clear HW2
  obtain ⟨x0, x1, x2, x3, _, _, _, _⟩ := HA2.out
  go_wp2_with fail
  refine Calls.mono (HR2.out _ _ hwW2 HLA2.out) ?_
  rintro e w3 ⟨u3, rfl, hl3, hb3⟩
  obtain ⟨a4, c4, rfl, _⟩ := Lies.slice hl3
  have HB3 : Hid (Bx w3 w1.heap.size (intT 0) (.slice none 0 0)) := HBW2.out.keeps hb3
  have HA3 : Hid (Bx w3 w2.heap.size A (.slice a3 A.items.length c3)) := HA2.out.keeps hb3
  have HLA3 : Hid (Lies 16 w3 A.items (.slice a3 A.items.length c3)) := Lies.keeps hb3 _ _ _ HLA2.out
  have hw3 : Below w.heap.size w w3 := hwW2.trans (hb3.mono hwW2.size)
  clear HBW2 HA2 HLA2 hwW2 hb3 x0 x1 x2 x3 HR2
  obtain ⟨W3, hW3⟩ : ∃ W3, W3 = w3.alloc (.cells #[.int .i64 B.kind, .int .i64 B.num, .string B.text, .slice a4 B.items.length c4] 25) := ⟨_, rfl⟩
  have HW3 : Hid (W3 = w3.alloc (.cells #[.int .i64 B.kind, .int .i64 B.num, .string B.text, .slice a4 B.items.length c4] 25)) := hW3
  have hx3 : Below w3.heap.size w3 W3 := by rw [hW3]; exact ((Grew.refl w3).alloc _).below
  have HBB3 : Hid (Bx W3 w3.heap.size B (.slice a4 B.items.length c4)) := by rw [hW3]; exact bx_alloc w3 B _
  have HBW3 : Hid (Bx W3 w1.heap.size (intT 0) (.slice none 0 0)) := HB3.out.keeps hx3
  have HAW3 : Hid (Bx W3 w2.heap.size A (.slice a3 A.items.length c3)) := HA3.out.keeps hx3
  have HL3 : Hid (Lies 16 W3 A.items (.slice a3 A.items.length c3) ∧ Lies 16 W3 B.items (.slice a4 B.items.length c4)) := ⟨Lies.keeps hx3 _ _ _ HLA3.out, Lies.keeps hx3 _ _ _ hl3⟩
  have hwW3 : Below w.heap.size w W3 := hw3.trans (hx3.mono hw3.size)
  clear hW3 hx3 hw3 hl3 HB3 HA3 HLA3
  have HS31 : Hid (SlP 0 D W3 ps (.slice a1 l1 c1)) := HS1.out.keeps hwW3
  have HS32 : Hid (SlP 0 D W3 qs (.slice a2 l2 c2)) := HS2.out.keeps hwW3
  clear HS1 HS2
  go_upto_region 7 with fail
  rw [← HW3.out]
  clear HW3
  go_upto_region 8 with (first | (at_builtin; refine wpList_append_row rfl _ _ rfl W3.heap.size i0 Hi.out Hz0.out Hz1.out Hz2.out (.slice none 0 0) 0 [] rfl (World.ownsRow_nil _ _ _ _) a1 l1 c1 (ps.flatMap encP) rfl (slp_src25 HS31.out).1 (slp_src25 HS31.out).2.1 (slp_src25 HS31.out).2.2.1 (slp_src25 HS31.out).2.2.2 (by have := HLn.out; have := HL.out; unfold maxLen; omega) (by have := HLn.out; have := HL.out; omega) (Nat.le_refl _) ?_; intro v5 w5 hown5 hg5))
  have hb5 : Below W3.heap.size W3 w5 := own_growM (ty := 25) (sz := 4) (n := 0) (xs := []) (Below.refl _ _) (Nat.le_refl _) (World.ownsRow_nil _ _ _ _) hg5
  have Hown5 : Hid (w5.ownsRow W3.heap.size 25 4 v5 l1 (ps.flatMap encP)) := by
    have h := hown5
    rw [Nat.zero_add, List.nil_append] at h
    exact h
  have HS52 : Hid (SlP 0 D w5 qs (.slice a2 l2 c2)) := HS32.out.keeps hb5
  have Hb5 : Hid (Below W3.heap.size W3 w5) := hb5
  clear hown5 hg5 hb5
  go_upto_region 9 with (first | (at_builtin; refine wpList_append_row rfl _ _ rfl W3.heap.size i0 Hi.out Hz0.out Hz1.out Hz2.out v5 l1 (ps.flatMap encP) rfl Hown5.out a2 l2 c2 (qs.flatMap encP) rfl (slp_src25 HS52.out).1 (slp_src25 HS52.out).2.1 (slp_src25 HS52.out).2.2.1 (slp_src25 HS52.out).2.2.2 (by have := HLn.out; have := HL.out; unfold maxLen; omega) (by have := HLn.out; have := HL.out; omega) Hb5.out.size ?_; intro v6 w6 hown6 hg6))
  have hb6 : Below W3.heap.size W3 w6 := own_growM Hb5.out Hb5.out.size Hown5.out hg6
  have HL6 : Hid (Lies (D + 1) w6 LM v6) := by
    have h := own_lies (d := D) (n := l1 + l2) (ps := ps ++ qs) (by have := HLn.out; simp; omega) (by rw [List.flatMap_append]; exact hown6) (fun p hp => by
      rcases List.mem_append.1 hp with hp | hp
      · obtain ⟨_, _, _, _, _, _, h4⟩ := HS31.out
        exact (h4 p hp).keeps hb6
      · obtain ⟨_, _, _, _, _, _, h4⟩ := HS32.out
        exact (h4 p hp).keeps hb6) (by have := HLn.out; have := HL.out; simp; omega)
    rw [HLn.out.2.2.2] at h
    exact h
  have HB6 : Hid (Bx w6 w1.heap.size (intT 0) (.slice none 0 0)) := HBW3.out.keeps hb6
  have HA6 : Hid (Bx w6 w2.heap.size A (.slice a3 A.items.length c3)) := HAW3.out.keeps hb6
  have HBB6 : Hid (Bx w6 w3.heap.size B (.slice a4 B.items.length c4)) := HBB3.out.keeps hb6
  have HLL6 : Hid (Lies 16 w6 A.items (.slice a3 A.items.length c3) ∧ Lies 16 w6 B.items (.slice a4 B.items.length c4)) := ⟨Lies.keeps hb6 _ _ _ HL3.out.1, Lies.keeps hb6 _ _ _ HL3.out.2⟩
  have hw6 : Below w.heap.size w w6 := hwW3.trans (hb6.mono hwW3.size)
  clear hown6 hg6 hb6 Hown5 HS52 Hb5 HS31 HS32 HBW3 HAW3 HBB3 HL3 hwW3
  obtain ⟨x0, x1, x2, x3, _, _, _, _⟩ := HB6.out
  simp only [intT] at x0 x1 x2
  go_wp2_with fail
  refine Calls.mono (HR3.out _ _ HL6.out) ?_
  rintro e w7 ⟨u7, rfl, hl7, hb7⟩
  obtain ⟨a7, c7, rfl, _⟩ := Lies.slice hl7
  have HA7 : Hid (Bx w7 w2.heap.size A (.slice a3 A.items.length c3)) := HA6.out.keeps hb7
  have HBB7 : Hid (Bx w7 w3.heap.size B (.slice a4 B.items.length c4)) := HBB6.out.keeps hb7
  have HLL7 : Hid (Lies 16 w7 A.items (.slice a3 A.items.length c3) ∧ Lies 16 w7 B.items (.slice a4 B.items.length c4)) := ⟨Lies.keeps hb7 _ _ _ HLL6.out.1, Lies.keeps hb7 _ _ _ HLL6.out.2⟩
  have hw7 : Below w.heap.size w w7 := hw6.trans (hb7.mono hw6.size)
  clear hb7 x0 x1 x2 x3 HR3 HL6 HB6 HA6 HBB6 HLL6 hw6
  obtain ⟨W7, hW7⟩ : ∃ W7, W7 = w7.alloc (.cells #[.int .i64 C.kind, .int .i64 C.num, .string C.text, .slice a7 C.items.length c7] 25) := ⟨_, rfl⟩
  have HW7 : Hid (W7 = w7.alloc (.cells #[.int .i64 C.kind, .int .i64 C.num, .string C.text, .slice a7 C.items.length c7] 25)) := hW7
  have hx7 : Below w7.heap.size w7 W7 := by rw [hW7]; exact ((Grew.refl w7).alloc _).below
  have HC7 : Hid (Bx W7 w7.heap.size C (.slice a7 C.items.length c7)) := by rw [hW7]; exact bx_alloc w7 C _
  have HAW7 : Hid (Bx W7 w2.heap.size A (.slice a3 A.items.length c3)) := HA7.out.keeps hx7
  have HBW7 : Hid (Bx W7 w3.heap.size B (.slice a4 B.items.length c4)) := HBB7.out.keeps hx7
  have HLW7 : Hid (Lies 16 W7 A.items (.slice a3 A.items.length c3) ∧ Lies 16 W7 B.items (.slice a4 B.items.length c4) ∧ Lies 16 W7 C.items (.slice a7 C.items.length c7)) := ⟨Lies.keeps hx7 _ _ _ HLL7.out.1, Lies.keeps hx7 _ _ _ HLL7.out.2, Lies.keeps hx7 _ _ _ hl7⟩
  have hwX : Below w.heap.size w W7 := hw7.trans (hx7.mono hw7.size)
  clear hW7 hx7 hw7 hl7 HA7 HBB7 HLL7
  go_upto_region 10 with fail
  rw [← HW7.out]
  clear HW7
  by_cases g3 : E3 = 0
  · have hno : ¬ (E1 ≠ 0 ∨ E2 ≠ 0) := fun h => HPl.out.1.1 h g3
    have g1 : E1 = 0 := by
      by_cases h : E1 = 0
      · exact h
      · exact absurd (.inl h) hno
    have g2 : E2 = 0 := by
      by_cases h : E2 = 0
      · exact h
      · exact absurd (.inr h) hno
    have Hend := HPl.out.2 g3
    have HEnd : Hid _ := Hend
    clear Hend hno HPl
    subst g1 g2 g3
    go_wp2_with fail
    refine Calls.mono (HSt.out _ hwX) ?_
    rintro e w8 ⟨rfl, hb8⟩
    have HC8 : Hid (Bx w8 w7.heap.size C (.slice a7 C.items.length c7)) := HC7.out.keeps hb8
    have HA8 : Hid (Bx w8 w2.heap.size A (.slice a3 A.items.length c3)) := HAW7.out.keeps hb8
    have HB8 : Hid (Bx w8 w3.heap.size B (.slice a4 B.items.length c4)) := HBW7.out.keeps hb8
    have HL8 : Hid (Lies 16 w8 A.items (.slice a3 A.items.length c3) ∧ Lies 16 w8 B.items (.slice a4 B.items.length c4) ∧ Lies 16 w8 C.items (.slice a7 C.items.length c7)) := ⟨Lies.keeps hb8 _ _ _ HLW7.out.1, Lies.keeps hb8 _ _ _ HLW7.out.2.1, Lies.keeps hb8 _ _ _ HLW7.out.2.2⟩
    have hw8 : Below w.heap.size w w8 := hwX.trans (hb8.mono hwX.size)
    clear hb8 HC7 HAW7 HBW7 HLW7 hwX HSt
    cases ST
    · obtain ⟨eC, eN⟩ := (show C = B ∧ N3 = N1 + N2 from HEnd.out)
      subst eC
      have HV : Hid (Calls Try.prog 8 #[.agg #[.int .i64 C.kind, .int .i64 C.num, .string C.text, .slice a4 C.items.length c4], .agg #[.int .i64 C.kind, .int .i64 C.num, .string C.text, .slice a7 C.items.length c7]] w8 fun e w' => e = .returned (.bool true) ∧ Below w8.heap.size w8 w') := Calls.mono (same_any 16 C C _ _ w8 HL8.out.2.1 HL8.out.2.2) (fun e w' h => ⟨by rw [h.1, sameV_self], h.2.below⟩)
      have hnn : IntKind.i64.wrap ((N1 : Int) + (N2 : Int)) = (N3 : Int) := by have := HNb.out; rw [IntKind.wrap_i64]; omega
      clear eN HEnd
      obtain ⟨x0, x1, x2, x3, _, _, _, _⟩ := HB8.out
      obtain ⟨y0, y1, y2, y3, _, _, _, _⟩ := HC8.out
      clear HL8 HA8
      generalize C.items.length = cl at *
      go_wp2_with fail
      refine Calls.mono HV.out ?_
      rintro e w10 ⟨rfl, hb10⟩
      have hwX : Below w.heap.size w w10 := hw8.trans (hb10.mono hw8.size)
      clear hb10 HV x0 x1 x2 x3 y0 y1 y2 y3 HB8 HC8
      go_wp2_with fail
      refine Calls.mono (HSp.out _) ?_
      rintro e w9 ⟨rfl, hb9⟩
      have hw9 : Below w.heap.size w w9 := hwX.trans (hb9.mono hwX.size)
      clear hb9 HSp
      go_wp2_with fail
      go_ret
      exact ⟨rfl, hw9⟩
    · obtain ⟨eC, eN⟩ := (show C = A ∧ N3 = N1 from HEnd.out)
      subst eC eN
      have HV : Hid (Calls Try.prog 8 #[.agg #[.int .i64 C.kind, .int .i64 C.num, .string C.text, .slice a3 C.items.length c3], .agg #[.int .i64 C.kind, .int .i64 C.num, .string C.text, .slice a7 C.items.length c7]] w8 fun e w' => e = .returned (.bool true) ∧ Below w8.heap.size w8 w') := Calls.mono (same_any 16 C C _ _ w8 HL8.out.1 HL8.out.2.2) (fun e w' h => ⟨by rw [h.1, sameV_self], h.2.below⟩)
      clear HEnd
      obtain ⟨x0, x1, x2, x3, _, _, _, _⟩ := HA8.out
      obtain ⟨y0, y1, y2, y3, _, _, _, _⟩ := HC8.out
      clear HL8 HB8
      generalize C.items.length = cl at *
      go_wp2_with fail
      refine Calls.mono HV.out ?_
      rintro e w10 ⟨rfl, hb10⟩
      have hwX : Below w.heap.size w w10 := hw8.trans (hb10.mono hw8.size)
      clear hb10 HV x0 x1 x2 x3 y0 y1 y2 y3 HA8 HC8
      go_wp2_with fail
      refine Calls.mono (HSp.out _) ?_
      rintro e w9 ⟨rfl, hb9⟩
      have hw9 : Below w.heap.size w w9 := hwX.trans (hb9.mono hwX.size)
      clear hb9 HSp
      go_wp2_with fail
      go_ret
      exact ⟨rfl, hw9⟩
  · have hor := HPl.out.1.2 g3
    clear HPl HSt HC7 HAW7 HBW7 HLW7
    have b3 : (E3 != 0) = true := by simpa using g3
    by_cases g1 : E1 = 0
    · have g2 : ¬ E2 = 0 := hor.resolve_left (fun h => h g1)
      have b2 : (E2 != 0) = true := by simpa using g2
      clear hor
      subst g1
      go_wp2_with fail
      refine Calls.mono (HSp.out _) ?_
      rintro e w9 ⟨rfl, hb9⟩
      have hw9 : Below w.heap.size w w9 := hwX.trans (hb9.mono hwX.size)
      clear hb9 HSp
      go_wp2_with fail
      go_ret
      exact ⟨rfl, hw9⟩
    · clear hor
      have b1 : (E1 != 0) = true := by simpa using g1
      go_wp2_with fail
      refine Calls.mono (HSp.out _) ?_
      rintro e w9 ⟨rfl, hb9⟩
      have hw9 : Below w.heap.size w w9 := hwX.trans (hb9.mono hwX.size)
      clear hb9 HSp
      go_wp2_with fail
      go_ret
      exact ⟨rfl, hw9⟩

theorem onLaw_walk (q : Int) (d1 d2 : Nat) (l m : List VT) (v1 v2 : Value) (w : World) (h1 : Lies (d1 + 1) w l v1) (h2 : Lies (d2 + 1) w m v2) (z1 : l.length * 56 ≤ 140737488355328) (z2 : m.length * 56 ≤ 140737488355328) :
    Calls Try.prog 3 #[.int .i64 q, v1, v2] w fun e w' => e = .returned (.bool true) ∧ Below w.heap.size w w' :=
  onLaw_core (max 16 (max d1 d2)) (by omega) q l m v1 v2 w (h1.atLeast _ (by omega)) (h2.atLeast _ (by omega)) z1 z2

end Go.Proofs.Ytdapildmegdjkaa

