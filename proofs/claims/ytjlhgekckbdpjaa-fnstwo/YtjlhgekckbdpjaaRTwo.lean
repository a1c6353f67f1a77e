/-
  The contract of the document's Two, and the walk of FnsTwo.
-/
import Derived.Test.YtjlhgekckbdpjaaRBoth
import Derived.Test.YtjlhgekckbdpjaaRIs
import Derived.Test.YtjlhgekckbdpjaaSpeaks
namespace Go.Proofs.Ytjlhgekckbdpjaa
open Go.RowKit

def R2Post (s : VT) (b : Bool) (r : Int) (W : World) (e : Ending) (W' : World) : Prop :=
  ∃ u, e = .returned (.tuple #[.agg #[.int .i64 s.kind, .int .i64 s.num, .string s.text, u], .bool b, .int .i64 r]) ∧ Lies 16 W' s.items u ∧ Below W.heap.size W W'

theorem r2Post_nil {r : Int} {W W' : World} (h : Below W.heap.size W W') : R2Post nilT false r W (.returned (.tuple #[.agg #[.int .i64 0, .int .i64 0, .string ⟨#[]⟩, .slice none 0 0], .bool false, .int .i64 r])) W' :=
  ⟨_, rfl, (liesX_nil (fun _ => True) _ _ _ _).lies, h⟩

set_option maxHeartbeats 2000000 in
theorem rtwo_kind (d : Nat) (q : Int) (t s : VT) (u v : Value) (w : World) (hu : Lies d w t.items u) (hv : Lies d w s.items v) (hq : ¬ (0 ≤ q ∧ q ≤ 7)) : Calls Try.prog 17 #[.int .i64 q, .agg #[.int .i64 t.kind, .int .i64 t.num, .string t.text, u], .agg #[.int .i64 s.kind, .int .i64 s.num, .string s.text, v]] w (R2Post nilT false 4 w) := by
  obtain ⟨a, c, rfl, _⟩ := Lies.slice hu
  obtain ⟨a2, c2, rfl, _⟩ := Lies.slice hv
  have HL : Hid (Lies d w t.items (.slice a t.items.length c)) := hu
  have HL2 : Hid (Lies d w s.items (.slice a2 s.items.length c2)) := hv
  clear hu hv
  generalize t.items.length = l at *
  generalize s.items.length = l2 at *
  have hbz := two3_below w t s (.slice a l c) (.slice a2 l2 c2)
  have HK : Hid (∀ W, Calls Try.prog 19 #[.int .i64 q] W fun e w' => e = .returned (.bool false) ∧ w' = W) := by
    intro W
    have := rkind5_any q W
    rwa [k5B_false hq] at this
  clear HL HL2 hq
  go_enter Try.func17, Try.ntmps17
  go_wp2_with fail
  refine Calls.mono (HK.out _) ?_
  rintro e w1 ⟨rfl, rfl⟩
  clear HK
  go_wp2_with fail
  refine bodyPost_ret (v := .tuple #[.agg #[.int .i64 0, .int .i64 0, .string ⟨#[]⟩, .slice none 0 0], .bool false, .int .i64 4]) (by simp [results, Try.results17, go_sem]) rfl (r2Post_nil hbz)

set_option maxHeartbeats 4000000 in
theorem rtwo_ok (d q : Nat) (t s : VT) (u v : Value) (w : World) (hu : Lies d w t.items u) (hv : Lies d w s.items v) (hq : q < 8) : Calls Try.prog 17 #[.int .i64 q, .agg #[.int .i64 t.kind, .int .i64 t.num, .string t.text, u], .agg #[.int .i64 s.kind, .int .i64 s.num, .string s.text, v]] w (if rightV d t = true ∧ rightV d s = true then R2Post (bothT q t s) (stopQ q (bothT q t s)) 0 w else R2Post nilT false 3 w) := by
  generalize hP : (if rightV d t = true ∧ rightV d s = true then R2Post (bothT q t s) (stopQ q (bothT q t s)) 0 w else R2Post nilT false 3 w) = P
  have HP : Hid ((if rightV d t = true ∧ rightV d s = true then R2Post (bothT q t s) (stopQ q (bothT q t s)) 0 w else R2Post nilT false 3 w) = P) := hP
  have Hd : Hid (rightV d t = true → rightV d s = true → ∀ W, Below w.heap.size w W → Calls Try.prog 32 #[.int .i64 q, .agg #[.int .i64 t.kind, .int .i64 t.num, .string t.text, u], .agg #[.int .i64 s.kind, .int .i64 s.num, .string s.text, v]] W (BPost (fun b => b < w.heap.size) (bothT q t s) (stopQ q (bothT q t s)) W)) := fun h1 h2 W hW => rboth_any _ q hq t s u v W ((LiesX.of_lies (canon hu h1).1).keeps hW) ((LiesX.of_lies (canon hv h2).1).keeps hW) (canon hu h1).2 (canon hv h2).2
  generalize stopQ q (bothT q t s) = b at *
  generalize bothT q t s = r at *
  clear hP
  have HK : Hid (∀ W, Calls Try.prog 19 #[.int .i64 q] W fun e w' => e = .returned (.bool true) ∧ w' = W) := by
    intro W
    have := rkind5_any q W
    rwa [k5B_true (by omega) (by omega)] at this
  obtain ⟨a, c, rfl, _⟩ := Lies.slice hu
  obtain ⟨a2, c2, rfl, _⟩ := Lies.slice hv
  have HL : Hid (Lies d w t.items (.slice a t.items.length c)) := hu
  have HL2 : Hid (Lies d w s.items (.slice a2 s.items.length c2)) := hv
  clear hu hv
  generalize t.items.length = l at *
  generalize s.items.length = l2 at *
  have hbz := two3_below w t s (.slice a l c) (.slice a2 l2 c2)
  have HX : Hid (Bx (two3 w t s (.slice a l c) (.slice a2 l2 c2)) w.heap.size t (.slice a l c)) := two3_first _ _ _ _ _
  have HY : Hid (Bx (two3 w t s (.slice a l c) (.slice a2 l2 c2)) (w.heap.size + 1) s (.slice a2 l2 c2)) := two3_second _ _ _ _ _
  have HR : Hid (Bx (two3 w t s (.slice a l c) (.slice a2 l2 c2)) (w.heap.size + 2) zeroT (.slice none 0 0)) := two3_res _ _ _ _ _
  go_enter Try.func17, Try.ntmps17
  go_wp2_with fail
  refine Calls.mono (HK.out _) ?_
  rintro e w1 ⟨rfl, rfl⟩
  clear HK
  go_wp2_with fail
  refine (right_any d t _ _ (Lies.keeps hbz _ _ _ HL.out)).mono ?_
  rintro e w2 ⟨rfl, hb⟩
  have hb : Below (two3 w t s (.slice a l c) (.slice a2 l2 c2)).heap.size (two3 w t s (.slice a l c) (.slice a2 l2 c2)) w2 := hb
  have hb2 : Below w.heap.size w w2 := hbz.trans (hb.mono hbz.size)
  have HX2 : Hid (Bx w2 w.heap.size t (.slice a l c)) := HX.out.keeps hb
  have HY2 : Hid (Bx w2 (w.heap.size + 1) s (.slice a2 l2 c2)) := HY.out.keeps hb
  have HR2 : Hid (Bx w2 (w.heap.size + 2) zeroT (.slice none 0 0)) := HR.out.keeps hb
  clear hb hbz HX HY HR
  cases hr : rightV d t
  · have HP2 : Hid (P = R2Post nilT false 3 w) := by show _ = _; rw [← HP.out, if_neg (fun h => by rw [hr] at h; exact absurd h.1 (by simp))]
    clear hr HP Hd
    obtain ⟨y0, y1, y2, y3, z0, z1, z2, z3⟩ := HR2.out
    have Hbx : Hid (Bx (w2.setCells (w.heap.size + 2) 0 (encP (zeroT, .slice none 0 0))) (w.heap.size + 2) zeroT (.slice none 0 0)) := HR2.out.put (zeroT, .slice none 0 0)
    have Hbl : Hid (Below w.heap.size w (w2.setCells (w.heap.size + 2) 0 (encP (zeroT, .slice none 0 0)))) := below_put hb2 (by omega) (zeroT, .slice none 0 0)
    go_wp2_with fail
    refine bodyPost_ret (v := .tuple #[.agg #[.int .i64 0, .int .i64 0, .string ⟨#[]⟩, .slice none 0 0], .bool false, .int .i64 3]) ?_ rfl (by rw [HP2.out]; exact r2Post_nil Hbl.out)
    obtain ⟨q0, q1, q2, q3, _, _, _, _⟩ := Hbx.out
    simp only [encP, World.setCells, Nat.zero_add, Nat.reduceAdd] at q0 q1 q2 q3
    simp [results, Try.results17, go_sem, q0, q1, q2, q3]
  have HrT : Hid (rightV d t = true) := hr
  clear hr
  obtain ⟨u0, u1, u2, u3, _, _, _, _⟩ := HY2.out
  go_wp2_with fail
  refine (right_any d s _ _ (Lies.keeps hb2 _ _ _ HL2.out)).mono ?_
  rintro e w3 ⟨rfl, hb⟩
  have hb3 : Below w.heap.size w w3 := hb2.trans (hb.mono hb2.size)
  have HX3 : Hid (Bx w3 w.heap.size t (.slice a l c)) := HX2.out.keeps hb
  have HY3 : Hid (Bx w3 (w.heap.size + 1) s (.slice a2 l2 c2)) := HY2.out.keeps hb
  have HR3 : Hid (Bx w3 (w.heap.size + 2) zeroT (.slice none 0 0)) := HR2.out.keeps hb
  clear hb hb2 HX2 HY2 HR2 u0 u1 u2 u3
  cases hr : rightV d s
  · have HP2 : Hid (P = R2Post nilT false 3 w) := by show _ = _; rw [← HP.out, if_neg (fun h => by rw [hr] at h; exact absurd h.2 (by simp))]
    clear hr HP Hd
    obtain ⟨y0, y1, y2, y3, z0, z1, z2, z3⟩ := HR3.out
    have Hbx : Hid (Bx (w3.setCells (w.heap.size + 2) 0 (encP (zeroT, .slice none 0 0))) (w.heap.size + 2) zeroT (.slice none 0 0)) := HR3.out.put (zeroT, .slice none 0 0)
    have Hbl : Hid (Below w.heap.size w (w3.setCells (w.heap.size + 2) 0 (encP (zeroT, .slice none 0 0)))) := below_put hb3 (by omega) (zeroT, .slice none 0 0)
    go_wp2_with fail
    refine bodyPost_ret (v := .tuple #[.agg #[.int .i64 0, .int .i64 0, .string ⟨#[]⟩, .slice none 0 0], .bool false, .int .i64 3]) ?_ rfl (by rw [HP2.out]; exact r2Post_nil Hbl.out)
    obtain ⟨q0, q1, q2, q3, _, _, _, _⟩ := Hbx.out
    simp only [encP, World.setCells, Nat.zero_add, Nat.reduceAdd] at q0 q1 q2 q3
    simp [results, Try.results17, go_sem, q0, q1, q2, q3]
  have HP2 : Hid (P = R2Post r b 0 w) := by show _ = _; rw [← HP.out, if_pos ⟨HrT.out, hr⟩]
  have HdW : Hid (∀ W, Below w.heap.size w W → Calls Try.prog 32 #[.int .i64 q, .agg #[.int .i64 t.kind, .int .i64 t.num, .string t.text, .slice a l c], .agg #[.int .i64 s.kind, .int .i64 s.num, .string s.text, .slice a2 l2 c2]] W (BPost (fun b => b < w.heap.size) r b W)) := Hd.out HrT.out hr
  clear hr HP Hd HrT
  obtain ⟨x0, x1, x2, x3, _, _, _, _⟩ := HX3.out
  obtain ⟨u0, u1, u2, u3, _, _, _, _⟩ := HY3.out
  go_wp2_with fail
  refine Calls.mono (HdW.out _ hb3) ?_
  rintro e w4 ⟨v4, rfl, hl4, hb⟩
  obtain ⟨a4, c4, rfl, _⟩ := LiesX.slice hl4
  have hsz3 : w.heap.size + 2 < w3.heap.size := cell_lt HR3.out.c0
  have HL4 : Hid (LiesX (fun x => x ≠ w.heap.size + 2) 16 w4 r.items (.slice a4 r.items.length c4)) := hl4.mono (fun x hx => by omega)
  generalize r.items.length = M at *
  have hb4 : Below w.heap.size w w4 := hb3.trans (hb.mono hb3.size)
  have hb5 : Below w.heap.size w (w4.alloc (.cells #[.int .i64 r.kind, .int .i64 r.num, .string r.text, .slice a4 M c4] 24)) := hb4.alloc hb4.size _
  have HR5 : Hid (Bx (w4.alloc (.cells #[.int .i64 r.kind, .int .i64 r.num, .string r.text, .slice a4 M c4] 24)) (w.heap.size + 2) zeroT (.slice none 0 0)) := (HR3.out.keeps hb).keeps ((Grew.refl _).alloc _).below
  have HL5 : Hid (LiesX (fun x => x ≠ w.heap.size + 2) 16 (w4.alloc (.cells #[.int .i64 r.kind, .int .i64 r.num, .string r.text, .slice a4 M c4] 24)) r.items (.slice a4 M c4)) := HL4.out.keeps ((Grew.refl _).alloc _).below
  clear hb hl4 x0 x1 x2 x3 u0 u1 u2 u3 HX3 HY3 HR3 hb3 HdW HL4 hb4
  obtain ⟨y0, y1, y2, y3, z0, z1, z2, z3⟩ := HR5.out
  have Hbx : Hid (Bx ((w4.alloc (.cells #[.int .i64 r.kind, .int .i64 r.num, .string r.text, .slice a4 M c4] 24)).setCells (w.heap.size + 2) 0 (encP (r, .slice a4 M c4))) (w.heap.size + 2) r (.slice a4 M c4)) := HR5.out.put (r, .slice a4 M c4)
  have Hbl : Hid (Below w.heap.size w ((w4.alloc (.cells #[.int .i64 r.kind, .int .i64 r.num, .string r.text, .slice a4 M c4] 24)).setCells (w.heap.size + 2) 0 (encP (r, .slice a4 M c4)))) := below_put hb5 (by omega) (r, .slice a4 M c4)
  have Hfin : Hid (Lies 16 ((w4.alloc (.cells #[.int .i64 r.kind, .int .i64 r.num, .string r.text, .slice a4 M c4] 24)).setCells (w.heap.size + 2) 0 (encP (r, .slice a4 M c4))) r.items (.slice a4 M c4)) := (HL5.out.set (g := w.heap.size + 2) (by omega)).lies
  go_wp2_with fail
  refine bodyPost_ret (v := .tuple #[.agg #[.int .i64 r.kind, .int .i64 r.num, .string r.text, .slice a4 M c4], .bool b, .int .i64 0]) ?_ rfl (by rw [HP2.out]; exact ⟨_, rfl, Hfin.out, Hbl.out⟩)
  obtain ⟨q0, q1, q2, q3, _, _, _, _⟩ := Hbx.out
  simp only [encP, World.setCells, Nat.zero_add, Nat.reduceAdd] at q0 q1 q2 q3
  simp [results, Try.results17, go_sem, q0, q1, q2, q3]

theorem rtwo_any (d : Nat) (q : Int) (t s : VT) (u v : Value) (w : World) (hu : Lies d w t.items u) (hv : Lies d w s.items v) : Calls Try.prog 17 #[.int .i64 q, .agg #[.int .i64 t.kind, .int .i64 t.num, .string t.text, u], .agg #[.int .i64 s.kind, .int .i64 s.num, .string s.text, v]] w (R2Post (twoT d q t s) (twoB d q t s) (twoE d q t s) w) := by
  unfold twoT twoB
  by_cases hq : q < 0 ∨ 8 ≤ q
  · have e : twoE d q t s = 4 := by unfold twoE; rw [if_pos hq]
    rw [e]
    exact rtwo_kind d q t s u v w hu hv (by omega)
  · obtain ⟨Q, hQ, hQ8⟩ : ∃ Q : Nat, q = Q ∧ Q < 8 := ⟨q.toNat, by omega, by omega⟩
    subst hQ
    have h := rtwo_ok d Q t s u v w hu hv hQ8
    by_cases hr : rightV d t = true ∧ rightV d s = true
    · have e : twoE d Q t s = 0 := by unfold twoE; rw [if_neg hq, if_pos hr]
      rw [e]
      rw [if_pos hr] at h
      exact h
    · have e : twoE d Q t s = 3 := by unfold twoE; rw [if_neg hq, if_neg hr]
      rw [e]
      rw [if_neg hr] at h
      exact h

set_option maxHeartbeats 4000000 in
theorem twoLaw_core (q : Int) (t s r : VT) (b : Bool) (e1 : Int) (a a2 : Option Addr) (l c l2 c2 : Nat) (w : World)
    (H1 : Hid (∀ W, Below w.heap.size w W → Calls Try.prog 16 #[.int .i64 q, .agg #[.int .i64 t.kind, .int .i64 t.num, .string t.text, .slice a l c], .agg #[.int .i64 s.kind, .int .i64 s.num, .string s.text, .slice a2 l2 c2]] W (TPost r b e1 W)))
    (H2 : Hid (∀ W, Below w.heap.size w W → Calls Try.prog 17 #[.int .i64 q, .agg #[.int .i64 t.kind, .int .i64 t.num, .string t.text, .slice a l c], .agg #[.int .i64 s.kind, .int .i64 s.num, .string s.text, .slice a2 l2 c2]] W (R2Post r b e1 W))) :
    Calls Try.prog 5 #[.int .i64 q, .agg #[.int .i64 t.kind, .int .i64 t.num, .string t.text, .slice a l c], .agg #[.int .i64 s.kind, .int .i64 s.num, .string s.text, .slice a2 l2 c2]] w fun e w' => e = .returned (.bool true) ∧ Below w.heap.size w w' := by
  have hal : Below w.heap.size w ((w.alloc (.cells #[.int .i64 t.kind, .int .i64 t.num, .string t.text, .slice a l c] 24)).alloc (.cells #[.int .i64 s.kind, .int .i64 s.num, .string s.text, .slice a2 l2 c2] 24)) := (Grew.two _ _ _).below
  have HX : Hid (Bx ((w.alloc (.cells #[.int .i64 t.kind, .int .i64 t.num, .string t.text, .slice a l c] 24)).alloc (.cells #[.int .i64 s.kind, .int .i64 s.num, .string s.text, .slice a2 l2 c2] 24)) w.heap.size t (.slice a l c)) := (bx_alloc w t _).keeps ((Grew.refl _).alloc _).below
  have HY : Hid (Bx ((w.alloc (.cells #[.int .i64 t.kind, .int .i64 t.num, .string t.text, .slice a l c] 24)).alloc (.cells #[.int .i64 s.kind, .int .i64 s.num, .string s.text, .slice a2 l2 c2] 24)) (w.heap.size + 1) s (.slice a2 l2 c2)) := by
    have := bx_alloc (w.alloc (.cells #[.int .i64 t.kind, .int .i64 t.num, .string t.text, .slice a l c] 24)) s (.slice a2 l2 c2)
    rwa [World.size_alloc] at this
  have HS : Hid (∀ (p : VT) (x y : Value) (W : World), Lies 16 W p.items x → Lies 16 W p.items y → Calls Try.prog 12 #[.agg #[.int .i64 p.kind, .int .i64 p.num, .string p.text, x], .agg #[.int .i64 p.kind, .int .i64 p.num, .string p.text, y]] W fun e W' => e = .returned (.bool true) ∧ Below W.heap.size W W') := fun p x y W h1 h2 => (same_any 16 p p x y W h1 h2).mono fun e W' h => ⟨by rw [h.1, sameV_self], h.2.below⟩
  go_enter Try.func5, Try.ntmps5
  go_wp2_with fail
  refine Calls.mono (H1.out _ hal) ?_
  rintro e w1 ⟨v1, rfl, hl1, hb⟩
  obtain ⟨a3, c3, rfl, _⟩ := LiesX.slice hl1
  have hg : Below ((w.alloc (.cells #[.int .i64 t.kind, .int .i64 t.num, .string t.text, .slice a l c] 24)).alloc (.cells #[.int .i64 s.kind, .int .i64 s.num, .string s.text, .slice a2 l2 c2] 24)).heap.size ((w.alloc (.cells #[.int .i64 t.kind, .int .i64 t.num, .string t.text, .slice a l c] 24)).alloc (.cells #[.int .i64 s.kind, .int .i64 s.num, .string s.text, .slice a2 l2 c2] 24)) (w1.alloc (.cells #[.int .i64 r.kind, .int .i64 r.num, .string r.text, .slice a3 r.items.length c3] 24)) := by
    have h1 : Below ((w.alloc (.cells #[.int .i64 t.kind, .int .i64 t.num, .string t.text, .slice a l c] 24)).alloc (.cells #[.int .i64 s.kind, .int .i64 s.num, .string s.text, .slice a2 l2 c2] 24)).heap.size ((w.alloc (.cells #[.int .i64 t.kind, .int .i64 t.num, .string t.text, .slice a l c] 24)).alloc (.cells #[.int .i64 s.kind, .int .i64 s.num, .string s.text, .slice a2 l2 c2] 24)) w1 := hb
    exact h1.alloc h1.size _
  have hb1 : Below w.heap.size w (w1.alloc (.cells #[.int .i64 r.kind, .int .i64 r.num, .string r.text, .slice a3 r.items.length c3] 24)) := hal.trans (hg.mono hal.size)
  obtain ⟨x0, x1, x2, x3, _, _, _, _⟩ := HX.out.keeps hg
  obtain ⟨u0, u1, u2, u3, _, _, _, _⟩ := HY.out.keeps hg
  have HA1 : Hid (Bx (w1.alloc (.cells #[.int .i64 r.kind, .int .i64 r.num, .string r.text, .slice a3 r.items.length c3] 24)) w1.heap.size r (.slice a3 r.items.length c3)) := bx_alloc w1 r _
  have HL1 : Hid (Lies 16 (w1.alloc (.cells #[.int .i64 r.kind, .int .i64 r.num, .string r.text, .slice a3 r.items.length c3] 24)) r.items (.slice a3 r.items.length c3)) := Lies.keeps ((Grew.refl w1).alloc _).below _ _ _ hl1.lies
  clear hal hb hg HX HY hl1 H1
  go_wp2_with fail
  refine Calls.mono (H2.out _ hb1) ?_
  rintro e w2 ⟨v2, rfl, hl2, hb⟩
  obtain ⟨a4, c4, rfl, _⟩ := Lies.slice hl2
  have hg : Below (w1.alloc (.cells #[.int .i64 r.kind, .int .i64 r.num, .string r.text, .slice a3 r.items.length c3] 24)).heap.size (w1.alloc (.cells #[.int .i64 r.kind, .int .i64 r.num, .string r.text, .slice a3 r.items.length c3] 24)) (w2.alloc (.cells #[.int .i64 r.kind, .int .i64 r.num, .string r.text, .slice a4 r.items.length c4] 24)) := by
    have h1 : Below (w1.alloc (.cells #[.int .i64 r.kind, .int .i64 r.num, .string r.text, .slice a3 r.items.length c3] 24)).heap.size (w1.alloc (.cells #[.int .i64 r.kind, .int .i64 r.num, .string r.text, .slice a3 r.items.length c3] 24)) w2 := hb
    exact h1.alloc h1.size _
  have hb2 : Below w.heap.size w (w2.alloc (.cells #[.int .i64 r.kind, .int .i64 r.num, .string r.text, .slice a4 r.items.length c4] 24)) := hb1.trans (hg.mono hb1.size)
  have HA2 : Hid (Bx (w2.alloc (.cells #[.int .i64 r.kind, .int .i64 r.num, .string r.text, .slice a4 r.items.length c4] 24)) w1.heap.size r (.slice a3 r.items.length c3)) := HA1.out.keeps hg
  have HL2 : Hid (Lies 16 (w2.alloc (.cells #[.int .i64 r.kind, .int .i64 r.num, .string r.text, .slice a4 r.items.length c4] 24)) r.items (.slice a3 r.items.length c3)) := Lies.keeps hg _ _ _ HL1.out
  have HB2 : Hid (Lies 16 (w2.alloc (.cells #[.int .i64 r.kind, .int .i64 r.num, .string r.text, .slice a4 r.items.length c4] 24)) r.items (.slice a4 r.items.length c4)) := Lies.keeps ((Grew.refl w2).alloc _).below _ _ _ hl2
  clear hb hg hl2 H2 x0 x1 x2 x3 u0 u1 u2 u3 hb1 HA1 HL1
  generalize w1.heap.size = B1 at *
  obtain ⟨p0, p1, p2, p3, _, _, _, _⟩ := HA2.out
  have hbb : (b == b) = true := by simp
  have hrr : (e1 == e1) = true := by simp
  go_wp2_with fail
  refine Calls.mono (HS.out r (.slice a3 r.items.length c3) (.slice a4 r.items.length c4) _ HL2.out HB2.out) ?_
  rintro e w5 ⟨rfl, hb⟩
  have hb5 : Below w.heap.size w w5 := hb2.trans (hb.mono hb2.size)
  clear hb hb2 HA2 HL2 HB2 p0 p1 p2 p3
  go_wp2_with fail
  refine (speaks_any _).mono ?_
  rintro e w7 ⟨rfl, hb⟩
  have hb7 : Below w.heap.size w w7 := hb5.trans (hb.mono hb5.size)
  go_wp2_with fail
  go_ret
  exact ⟨rfl, hb7⟩

theorem twoLaw_walk (q : Int) (d1 d2 : Nat) (t s : VT) (u v : Value) (w : World) (hu : Lies d1 w t.items u) (hv : Lies d2 w s.items v) (hs : t.text.size ≤ 9223372036854775807) (hs2 : s.text.size ≤ 9223372036854775807) :
    Calls Try.prog 5 #[.int .i64 q, .agg #[.int .i64 t.kind, .int .i64 t.num, .string t.text, u], .agg #[.int .i64 s.kind, .int .i64 s.num, .string s.text, v]] w fun e w' => e = .returned (.bool true) ∧ Below w.heap.size w w' := by
  have hu' := hu.atLeast (max d1 d2) (by omega)
  have hv' := hv.atLeast (max d1 d2) (by omega)
  generalize max d1 d2 = d at *
  obtain ⟨a, c, rfl, _⟩ := Lies.slice hu
  obtain ⟨a2, c2, rfl, _⟩ := Lies.slice hv
  exact twoLaw_core q t s _ _ _ a a2 _ c _ c2 w (fun W hW => two_any d q t s _ _ W (Lies.keeps hW _ _ _ hu') (Lies.keeps hW _ _ _ hv') hs hs2) (fun W hW => rtwo_any d q t s _ _ W (Lies.keeps hW _ _ _ hu') (Lies.keeps hW _ _ _ hv'))

end Go.Proofs.Ytjlhgekckbdpjaa
