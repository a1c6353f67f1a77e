/-
  The contract of the document's One, and the walk of FnsOne.
-/
import Derived.Test.YtacnfmamjbmhcaaRTimes
import Derived.Test.YtacnfmamjbmhcaaSpeaks
namespace Go.Proofs.Ytacnfmamjbmhcaa
open Go.RowKit

set_option maxHeartbeats 2000000 in
theorem rone_kind (d : Nat) (q : Int) (t : VT) (u : Value) (w : World) (hu : Lies d w t.items u) (hq : ¬ (0 ≤ q ∧ q ≤ 7)) : Calls Try.prog 9 #[.int .i64 q, .agg #[.int .i64 t.kind, .int .i64 t.num, .string t.text, u]] w (RPost nilT 4 w) := by
  obtain ⟨a, c, rfl, _⟩ := Lies.slice hu
  have HL : Hid (Lies d w t.items (.slice a t.items.length c)) := hu
  clear hu
  have hb2 : Below w.heap.size w ((w.alloc (.cells #[.int .i64 t.kind, .int .i64 t.num, .string t.text, .slice a t.items.length c] 24)).alloc (.cells #[.int .i64 0, .int .i64 0, .string ⟨#[]⟩, .slice none 0 0] 24)) := (Grew.two _ _ _).below
  have HR : Hid (Bx ((w.alloc (.cells #[.int .i64 t.kind, .int .i64 t.num, .string t.text, .slice a t.items.length c] 24)).alloc (.cells #[.int .i64 0, .int .i64 0, .string ⟨#[]⟩, .slice none 0 0] 24)) (w.heap.size + 1) zeroT (.slice none 0 0)) := by
    have := bx_alloc (w.alloc (.cells #[.int .i64 t.kind, .int .i64 t.num, .string t.text, .slice a t.items.length c] 24)) zeroT (.slice none 0 0)
    rwa [World.size_alloc] at this
  have HX : Hid (Bx ((w.alloc (.cells #[.int .i64 t.kind, .int .i64 t.num, .string t.text, .slice a t.items.length c] 24)).alloc (.cells #[.int .i64 0, .int .i64 0, .string ⟨#[]⟩, .slice none 0 0] 24)) w.heap.size t (.slice a t.items.length c)) := (bx_alloc w t _).keeps ((Grew.refl _).alloc _).below
  have HK : Hid (∀ W, Calls Try.prog 19 #[.int .i64 q] W fun e w' => e = .returned (.bool false) ∧ w' = W) := by
    intro W
    have := rkind5_any q W
    rwa [k5B_false hq] at this
  clear HL HX HR hq
  go_enter Try.func9, Try.ntmps9
  go_wp2_with fail
  refine Calls.mono (HK.out _) ?_
  rintro e w1 ⟨rfl, rfl⟩
  clear HK
  go_wp2_with fail
  refine bodyPost_ret (v := .tuple #[.agg #[.int .i64 0, .int .i64 0, .string ⟨#[]⟩, .slice none 0 0], .int .i64 4]) (by simp [results, Try.results9, go_sem]) rfl (rPost_nil hb2)

set_option maxHeartbeats 4000000 in
theorem rone_ok (d : Nat) (q : Nat) (t : VT) (u : Value) (w : World) (hu : Lies d w t.items u) (hq : q < 8) : Calls Try.prog 9 #[.int .i64 q, .agg #[.int .i64 t.kind, .int .i64 t.num, .string t.text, u]] w (if rightV d t = true then RPost (doneT q t) 0 w else RPost nilT 3 w) := by
  generalize hP : (if rightV d t = true then RPost (doneT q t) 0 w else RPost nilT 3 w) = P
  have HP : Hid ((if rightV d t = true then RPost (doneT q t) 0 w else RPost nilT 3 w) = P) := hP
  have Hd : Hid (∀ (v : Value) (W : World), LiesX (fun b => b ≠ w.heap.size ∧ b ≠ w.heap.size + 1) 16 W t.items v → rightV 16 t = true → Calls Try.prog 21 #[.int .i64 q, .agg #[.int .i64 t.kind, .int .i64 t.num, .string t.text, v]] W (FnPost (fun b => b ≠ w.heap.size ∧ b ≠ w.heap.size + 1) (doneT q t) W)) := fun v W h1 h2 => rdone_any _ q hq t v W h1 h2
  have HC : Hid (rightV d t = true → Lies 16 w t.items u ∧ rightV 16 t = true) := fun hr => canon hu hr
  generalize doneT q t = s at *
  clear hP
  have HK : Hid (∀ W, Calls Try.prog 19 #[.int .i64 q] W fun e w' => e = .returned (.bool true) ∧ w' = W) := by
    intro W
    have := rkind5_any q W
    rwa [k5B_true (by omega) (by omega)] at this
  obtain ⟨a, c, rfl, _⟩ := Lies.slice hu
  have HL : Hid (Lies d w t.items (.slice a t.items.length c)) := hu
  clear hu
  have hb2 : Below w.heap.size w ((w.alloc (.cells #[.int .i64 t.kind, .int .i64 t.num, .string t.text, .slice a t.items.length c] 24)).alloc (.cells #[.int .i64 0, .int .i64 0, .string ⟨#[]⟩, .slice none 0 0] 24)) := (Grew.two _ _ _).below
  have HR : Hid (Bx ((w.alloc (.cells #[.int .i64 t.kind, .int .i64 t.num, .string t.text, .slice a t.items.length c] 24)).alloc (.cells #[.int .i64 0, .int .i64 0, .string ⟨#[]⟩, .slice none 0 0] 24)) (w.heap.size + 1) zeroT (.slice none 0 0)) := by
    have := bx_alloc (w.alloc (.cells #[.int .i64 t.kind, .int .i64 t.num, .string t.text, .slice a t.items.length c] 24)) zeroT (.slice none 0 0)
    rwa [World.size_alloc] at this
  have HX : Hid (Bx ((w.alloc (.cells #[.int .i64 t.kind, .int .i64 t.num, .string t.text, .slice a t.items.length c] 24)).alloc (.cells #[.int .i64 0, .int .i64 0, .string ⟨#[]⟩, .slice none 0 0] 24)) w.heap.size t (.slice a t.items.length c)) := (bx_alloc w t _).keeps ((Grew.refl _).alloc _).below
  go_enter Try.func9, Try.ntmps9
  go_wp2_with fail
  refine Calls.mono (HK.out _) ?_
  rintro e w1 ⟨rfl, rfl⟩
  clear HK
  go_wp2_with fail
  refine (right_any d t _ _ (Lies.keeps hb2 _ _ _ HL.out)).mono ?_
  rintro e w2 ⟨rfl, hb⟩
  have hb3 : Below w.heap.size w w2 := hb2.trans (hb.mono hb2.size)
  have HR2 : Hid (Bx w2 (w.heap.size + 1) zeroT (.slice none 0 0)) := HR.out.keeps hb
  obtain ⟨x0, x1, x2, x3, _, _, _, _⟩ := HX.out.keeps hb
  clear hb hb2 HR HX
  cases hr : rightV d t
  · have HP2 : Hid (P = RPost nilT 3 w) := by show _ = _; rw [← HP.out, if_neg (by rw [hr]; simp)]
    clear hr HP HC Hd
    obtain ⟨y0, y1, y2, y3, z0, z1, z2, z3⟩ := HR2.out
    have Hbx : Hid (Bx (w2.setCells (w.heap.size + 1) 0 (encP (zeroT, .slice none 0 0))) (w.heap.size + 1) zeroT (.slice none 0 0)) := HR2.out.put (zeroT, .slice none 0 0)
    have Hbl : Hid (Below w.heap.size w (w2.setCells (w.heap.size + 1) 0 (encP (zeroT, .slice none 0 0)))) := below_put hb3 (Nat.le_succ _) (zeroT, .slice none 0 0)
    go_wp2_with fail
    refine bodyPost_ret (v := .tuple #[.agg #[.int .i64 0, .int .i64 0, .string ⟨#[]⟩, .slice none 0 0], .int .i64 3]) ?_ rfl (by rw [HP2.out]; exact rPost_nil Hbl.out)
    obtain ⟨q0, q1, q2, q3, _, _, _, _⟩ := Hbx.out
    simp only [encP, World.setCells, Nat.zero_add, Nat.reduceAdd] at q0 q1 q2 q3
    simp [results, Try.results9, go_sem, q0, q1, q2, q3]
  · have HP2 : Hid (P = RPost s 0 w) := by show _ = _; rw [← HP.out, if_pos hr]
    obtain ⟨c1, c2⟩ := HC.out hr
    have HLX : Hid (LiesX (fun b => b ≠ w.heap.size ∧ b ≠ w.heap.size + 1) 16 w2 t.items (.slice a t.items.length c)) := ((LiesX.of_lies c1).keeps hb3).mono (fun b hb => by omega)
    have Hd2 : Hid (Calls Try.prog 21 #[.int .i64 q, .agg #[.int .i64 t.kind, .int .i64 t.num, .string t.text, .slice a t.items.length c]] w2 (FnPost (fun b => b ≠ w.heap.size ∧ b ≠ w.heap.size + 1) s w2)) := Hd.out _ _ HLX.out c2
    clear hr HP HC c1 c2 Hd HLX
    go_wp2_with fail
    refine Calls.mono Hd2.out ?_
    rintro e w3 ⟨v', rfl, hl3, hb⟩
    have hbw : Below w.heap.size w w3 := hb3.trans (hb.mono hb3.size)
    have HR3 : Hid (Bx w3 (w.heap.size + 1) zeroT (.slice none 0 0)) := HR2.out.keeps hb
    have hsz : w.heap.size + 1 < w2.heap.size := cell_lt HR2.out.c0
    obtain ⟨a3, c3, rfl, _⟩ := LiesX.slice hl3
    obtain ⟨y0, y1, y2, y3, z0, z1, z2, z3⟩ := HR3.out
    have Hbx : Hid (Bx (w3.setCells (w.heap.size + 1) 0 (encP (s, .slice a3 s.items.length c3))) (w.heap.size + 1) s (.slice a3 s.items.length c3)) := HR3.out.put (s, .slice a3 s.items.length c3)
    have Hbl : Hid (Below w.heap.size w (w3.setCells (w.heap.size + 1) 0 (encP (s, .slice a3 s.items.length c3)))) := below_put hbw (Nat.le_succ _) (s, .slice a3 s.items.length c3)
    have Hfin : Hid (Lies 16 (w3.setCells (w.heap.size + 1) 0 (encP (s, .slice a3 s.items.length c3))) s.items (.slice a3 s.items.length c3)) := (hl3.set (g := w.heap.size + 1) (by omega)).lies
    clear hl3 hb x0 x1 x2 x3
    go_wp2_with fail
    refine bodyPost_ret (v := .tuple #[.agg #[.int .i64 s.kind, .int .i64 s.num, .string s.text, .slice a3 s.items.length c3], .int .i64 0]) ?_ rfl (by rw [HP2.out]; exact ⟨_, rfl, Hfin.out, Hbl.out⟩)
    obtain ⟨q0, q1, q2, q3, _, _, _, _⟩ := Hbx.out
    simp only [encP, World.setCells, Nat.zero_add, Nat.reduceAdd] at q0 q1 q2 q3
    simp [results, Try.results9, go_sem, q0, q1, q2, q3]

theorem rone_any (d : Nat) (q : Int) (t : VT) (u : Value) (w : World) (hu : Lies d w t.items u) : Calls Try.prog 9 #[.int .i64 q, .agg #[.int .i64 t.kind, .int .i64 t.num, .string t.text, u]] w (RPost (timesT d q 1 t) (timesE d q 1 t) w) := by
  unfold timesT
  by_cases hq : q < 0 ∨ 8 ≤ q
  · have e : timesE d q 1 t = 4 := by unfold timesE; rw [if_pos hq]
    rw [e]
    exact rone_kind d q t u w hu (by omega)
  · obtain ⟨Q, hQ, hQ8⟩ : ∃ Q : Nat, q = Q ∧ Q < 8 := ⟨q.toNat, by omega, by omega⟩
    subst hQ
    have h := rone_ok d Q t u w hu hQ8
    cases hr : rightV d t
    · have e : timesE d Q 1 t = 3 := by unfold timesE; rw [if_neg hq, if_neg (by omega), hr]; rfl
      rw [e]
      rw [hr] at h
      exact h
    · have e : timesE d Q 1 t = 0 := by unfold timesE; rw [if_neg hq, if_neg (by omega), if_pos hr]
      rw [e]
      rw [hr] at h
      exact h

/-- A variable that holds a value. -/
structure Kept (W : World) (B : Nat) (s : VT) (u : Value) : Prop where
  box : Bx W B s u
  lies : Lies 16 W s.items u

theorem Kept.keeps {W W' : World} {B : Nat} {s : VT} {u : Value} (h : Kept W B s u) (hb : Below W.heap.size W W') : Kept W' B s u := ⟨h.box.keeps hb, Lies.keeps hb _ _ _ h.lies⟩

theorem kept_new {w : World} {s : VT} {u : Value} (h : Lies 16 w s.items u) : Kept (w.alloc (.cells #[.int .i64 s.kind, .int .i64 s.num, .string s.text, u] 24)) w.heap.size s u := ⟨bx_alloc w s u, Lies.keeps ((Grew.refl w).alloc _).below _ _ _ h⟩

theorem below_new {w W W' : World} (h0 : Below w.heap.size w W) (h : Below W.heap.size W W') (o : Obj) : Below w.heap.size w (W'.alloc o) ∧ Below W.heap.size W (W'.alloc o) :=
  ⟨(h0.trans (h.mono h0.size)).alloc (h0.trans (h.mono h0.size)).size o, h.alloc h.size o⟩

set_option maxHeartbeats 4000000 in
theorem oneLaw_core (q n : Int) (t s r : VT) (e1 e2 : Int) (a : Option Addr) (l c : Nat) (w : World)
    (H1 : Hid (∀ W, Below w.heap.size w W → Calls Try.prog 8 #[.int .i64 q, .agg #[.int .i64 t.kind, .int .i64 t.num, .string t.text, .slice a l c]] W (VPost s e1 W)))
    (H2 : Hid (∀ W, Below w.heap.size w W → Calls Try.prog 9 #[.int .i64 q, .agg #[.int .i64 t.kind, .int .i64 t.num, .string t.text, .slice a l c]] W (RPost s e1 W)))
    (H3 : Hid (∀ W, Below w.heap.size w W → Calls Try.prog 10 #[.int .i64 q, .int .i64 n, .agg #[.int .i64 t.kind, .int .i64 t.num, .string t.text, .slice a l c]] W (VPost r e2 W)))
    (H4 : Hid (∀ W, Below w.heap.size w W → Calls Try.prog 11 #[.int .i64 q, .int .i64 n, .agg #[.int .i64 t.kind, .int .i64 t.num, .string t.text, .slice a l c]] W (RPost r e2 W))) :
    Calls Try.prog 3 #[.int .i64 q, .int .i64 n, .agg #[.int .i64 t.kind, .int .i64 t.num, .string t.text, .slice a l c]] w fun e w' => e = .returned (.bool true) ∧ Below w.heap.size w w' := by
  have hal : Below w.heap.size w (w.alloc (.cells #[.int .i64 t.kind, .int .i64 t.num, .string t.text, .slice a l c] 24)) := ((Grew.refl w).alloc _).below
  have HX : Hid (Bx (w.alloc (.cells #[.int .i64 t.kind, .int .i64 t.num, .string t.text, .slice a l c] 24)) w.heap.size t (.slice a l c)) := bx_alloc w t _
  have HS : Hid (∀ (p : VT) (x y : Value) (W : World), Lies 16 W p.items x → Lies 16 W p.items y → Calls Try.prog 12 #[.agg #[.int .i64 p.kind, .int .i64 p.num, .string p.text, x], .agg #[.int .i64 p.kind, .int .i64 p.num, .string p.text, y]] W fun e W' => e = .returned (.bool true) ∧ Below W.heap.size W W') := fun p x y W h1 h2 => (same_any 16 p p x y W h1 h2).mono fun e W' h => ⟨by rw [h.1, sameV_self], h.2.below⟩
  go_enter Try.func3, Try.ntmps3
  go_wp2_with fail
  refine Calls.mono (H1.out _ hal) ?_
  rintro e w1 ⟨v1, rfl, hl1, hb⟩
  obtain ⟨a1, c1, rfl, _⟩ := LiesX.slice hl1
  obtain ⟨hb1, hg⟩ := below_new hal hb (.cells #[.int .i64 s.kind, .int .i64 s.num, .string s.text, .slice a1 s.items.length c1] 24)
  have HX1 : Hid (Bx (w1.alloc (.cells #[.int .i64 s.kind, .int .i64 s.num, .string s.text, .slice a1 s.items.length c1] 24)) w.heap.size t (.slice a l c)) := HX.out.keeps hg
  have HA1 : Hid (Kept (w1.alloc (.cells #[.int .i64 s.kind, .int .i64 s.num, .string s.text, .slice a1 s.items.length c1] 24)) w1.heap.size s (.slice a1 s.items.length c1)) := kept_new hl1.lies
  obtain ⟨x0, x1, x2, x3, _, _, _, _⟩ := HX1.out
  clear hal hb hg HX hl1 H1
  go_wp2_with fail
  refine Calls.mono (H2.out _ hb1) ?_
  rintro e w2 ⟨v2, rfl, hl2, hb⟩
  obtain ⟨a2, c2, rfl, _⟩ := Lies.slice hl2
  obtain ⟨hb2, hg⟩ := below_new hb1 hb (.cells #[.int .i64 s.kind, .int .i64 s.num, .string s.text, .slice a2 s.items.length c2] 24)
  have HX2 : Hid (Bx (w2.alloc (.cells #[.int .i64 s.kind, .int .i64 s.num, .string s.text, .slice a2 s.items.length c2] 24)) w.heap.size t (.slice a l c)) := HX1.out.keeps hg
  have HA2 : Hid (Kept (w2.alloc (.cells #[.int .i64 s.kind, .int .i64 s.num, .string s.text, .slice a2 s.items.length c2] 24)) w1.heap.size s (.slice a1 s.items.length c1)) := HA1.out.keeps hg
  have HB2 : Hid (Kept (w2.alloc (.cells #[.int .i64 s.kind, .int .i64 s.num, .string s.text, .slice a2 s.items.length c2] 24)) w2.heap.size s (.slice a2 s.items.length c2)) := kept_new hl2
  clear hb hg HX1 hl2 H2 x0 x1 x2 x3 hb1 HA1
  obtain ⟨x0, x1, x2, x3, _, _, _, _⟩ := HX2.out
  go_wp2_with fail
  refine Calls.mono (H3.out _ hb2) ?_
  rintro e w3 ⟨v3, rfl, hl3, hb⟩
  obtain ⟨a3, c3, rfl, _⟩ := LiesX.slice hl3
  obtain ⟨hb3, hg⟩ := below_new hb2 hb (.cells #[.int .i64 r.kind, .int .i64 r.num, .string r.text, .slice a3 r.items.length c3] 24)
  have HX3 : Hid (Bx (w3.alloc (.cells #[.int .i64 r.kind, .int .i64 r.num, .string r.text, .slice a3 r.items.length c3] 24)) w.heap.size t (.slice a l c)) := HX2.out.keeps hg
  have HA3 : Hid (Kept (w3.alloc (.cells #[.int .i64 r.kind, .int .i64 r.num, .string r.text, .slice a3 r.items.length c3] 24)) w1.heap.size s (.slice a1 s.items.length c1)) := HA2.out.keeps hg
  have HB3 : Hid (Kept (w3.alloc (.cells #[.int .i64 r.kind, .int .i64 r.num, .string r.text, .slice a3 r.items.length c3] 24)) w2.heap.size s (.slice a2 s.items.length c2)) := HB2.out.keeps hg
  have HC3 : Hid (Kept (w3.alloc (.cells #[.int .i64 r.kind, .int .i64 r.num, .string r.text, .slice a3 r.items.length c3] 24)) w3.heap.size r (.slice a3 r.items.length c3)) := kept_new hl3.lies
  clear hb hg HX2 hl3 H3 x0 x1 x2 x3 hb2 HA2 HB2
  obtain ⟨x0, x1, x2, x3, _, _, _, _⟩ := HX3.out
  go_wp2_with fail
  refine Calls.mono (H4.out _ hb3) ?_
  rintro e w4 ⟨v4, rfl, hl4, hb⟩
  obtain ⟨a4, c4, rfl, _⟩ := Lies.slice hl4
  obtain ⟨hb4, hg⟩ := below_new hb3 hb (.cells #[.int .i64 r.kind, .int .i64 r.num, .string r.text, .slice a4 r.items.length c4] 24)
  have HA4 : Hid (Kept (w4.alloc (.cells #[.int .i64 r.kind, .int .i64 r.num, .string r.text, .slice a4 r.items.length c4] 24)) w1.heap.size s (.slice a1 s.items.length c1)) := HA3.out.keeps hg
  have HB4 : Hid (Kept (w4.alloc (.cells #[.int .i64 r.kind, .int .i64 r.num, .string r.text, .slice a4 r.items.length c4] 24)) w2.heap.size s (.slice a2 s.items.length c2)) := HB3.out.keeps hg
  have HC4 : Hid (Kept (w4.alloc (.cells #[.int .i64 r.kind, .int .i64 r.num, .string r.text, .slice a4 r.items.length c4] 24)) w3.heap.size r (.slice a3 r.items.length c3)) := HC3.out.keeps hg
  have HD4 : Hid (Kept (w4.alloc (.cells #[.int .i64 r.kind, .int .i64 r.num, .string r.text, .slice a4 r.items.length c4] 24)) w4.heap.size r (.slice a4 r.items.length c4)) := kept_new hl4
  clear hb hg HX3 hl4 H4 x0 x1 x2 x3 hb3 HA3 HB3 HC3
  generalize w1.heap.size = B1 at *
  generalize w2.heap.size = B2 at *
  generalize w3.heap.size = B3 at *
  have hr1 : (e1 == e1) = true := by simp
  have hr2 : (e2 == e2) = true := by simp
  obtain ⟨⟨p0, p1, p2, p3, _, _, _, _⟩, _⟩ := HA4.out
  obtain ⟨⟨m0, m1, m2, m3, _, _, _, _⟩, _⟩ := HB4.out
  go_wp2_with fail
  refine Calls.mono (HS.out s (.slice a1 s.items.length c1) (.slice a2 s.items.length c2) _ HA4.out.lies HB4.out.lies) ?_
  rintro e w5 ⟨rfl, hb⟩
  have hb5 : Below w.heap.size w w5 := hb4.trans (hb.mono hb4.size)
  have HC5 : Hid (Kept w5 B3 r (.slice a3 r.items.length c3)) := HC4.out.keeps hb
  have HD5 : Hid (Kept w5 w4.heap.size r (.slice a4 r.items.length c4)) := HD4.out.keeps hb
  clear hb hb4 HC4 HD4 HA4 HB4 p0 p1 p2 p3 m0 m1 m2 m3
  generalize w4.heap.size = B4 at *
  obtain ⟨⟨p0, p1, p2, p3, _, _, _, _⟩, _⟩ := HC5.out
  obtain ⟨⟨m0, m1, m2, m3, _, _, _, _⟩, _⟩ := HD5.out
  go_wp2_with fail
  refine Calls.mono (HS.out r (.slice a3 r.items.length c3) (.slice a4 r.items.length c4) _ HC5.out.lies HD5.out.lies) ?_
  rintro e w6 ⟨rfl, hb⟩
  have hb6 : Below w.heap.size w w6 := hb5.trans (hb.mono hb5.size)
  clear hb hb5 HC5 HD5 p0 p1 p2 p3 m0 m1 m2 m3
  go_wp2_with fail
  refine (speaks_any _).mono ?_
  rintro e w7 ⟨rfl, hb⟩
  have hb7 : Below w.heap.size w w7 := hb6.trans (hb.mono hb6.size)
  go_wp2_with fail
  go_ret
  exact ⟨rfl, hb7⟩

theorem oneLaw_walk (q n : Int) (d : Nat) (t : VT) (u : Value) (w : World) (hu : Lies d w t.items u) (hs : t.text.size ≤ 9223372036854775807) :
    Calls Try.prog 3 #[.int .i64 q, .int .i64 n, .agg #[.int .i64 t.kind, .int .i64 t.num, .string t.text, u]] w fun e w' => e = .returned (.bool true) ∧ Below w.heap.size w w' := by
  obtain ⟨a, c, rfl, _⟩ := Lies.slice hu
  exact oneLaw_core q n t _ _ _ _ a _ c w (fun W hW => one_any d q t _ W (Lies.keeps hW _ _ _ hu) hs) (fun W hW => rone_any d q t _ W (Lies.keeps hW _ _ _ hu)) (fun W hW => times_any d q n t _ W (Lies.keeps hW _ _ _ hu) hs) (fun W hW => rtimes_any d q n t _ W (Lies.keeps hW _ _ _ hu))

end Go.Proofs.Ytacnfmamjbmhcaa

