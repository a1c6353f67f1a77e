/-
  The contracts of the document's Ahead, Trie and Before, and the walk of HashBefore.
-/
import Derived.Test.YtaghmgeamhojbabRFull
import Derived.Test.YtaghmgeamhojbabBefore
import Derived.Deep.RegionHeld3
import Derived.Deep.RegionWith
namespace Go.Proofs.Ytaghmgeamhojbab
open Go.RowKit

theorem grp_tmod (j : Nat) (a : Int) (ha : Word a) : (a / 2 ^ (5 * j)).tmod 32 = grpZ j a := by
  rw [Int.tmod_eq_emod_of_nonneg (word_div a _ ha).1]
  rfl

set_option maxHeartbeats 1000000 in
theorem ahead_any (a b : Int) (w : World) (ha : Word a) (hb : Word b) : Calls Try.prog 64 #[.int .u32 a, .int .u32 b] w fun e w' => e = .returned (.int .i64 (cmpH a b)) ∧ w' = w := by
  have HA : Hid (Word a) := ha
  have HB : Hid (Word b) := hb
  clear ha hb
  go_enter Try.func64, Try.ntmps64
  go_wp2_with fail
  go_loopg [5] 7 (fun k i wr => ∃ j : Nat, i = .int .i64 j ∧ j ≤ 7 ∧ k = 7 - j ∧ Hid (chF a b (7 - j) j = cmpH a b) ∧ wr = w)
  case atStart => exact ⟨0, rfl, by omega, rfl, rfl, rfl⟩
  case round =>
    obtain ⟨j, rfl, hj, hk, HC, rfl⟩ := hrel
    have Hk : Hid _ := hk
    clear hk
    by_cases hlt : j < 7
    · have hle : (j : Int) ≤ 6 := by omega
      have Hst : Hid (chF a b (7 - j) j = if cmpI (grpZ j a) (grpZ j b) = 0 then chF a b (7 - (j + 1)) (j + 1) else cmpI (grpZ j a) (grpZ j b)) := by
        show _ = _
        rw [show 7 - j = 7 - (j + 1) + 1 by omega]
        rfl
      have g1 := grp_tmod j a HA.out
      have g2 := grp_tmod j b HB.out
      generalize grpZ j a = X at *
      generalize grpZ j b = Y at *
      by_cases hxy : X = Y
      · have h1 := Hst.out
        rw [if_pos (by unfold cmpI; rw [if_neg (by omega), if_neg (by omega)])] at h1
        have H1 : Hid (chF a b (7 - j) j = chF a b (7 - (j + 1)) (j + 1)) := h1
        subst hxy
        clear h1 Hst
        go_wp2_with fail
        go_roundg (7 - (j + 1))
        case measure => have := Hk.out; omega
        case rel => exact ⟨j + 1, by go_num, by omega, rfl, H1.out.symm.trans HC.out, rfl⟩
      · have hne1 : (X == Y) = false := by simp [hxy]
        have hne2 : (X != Y) = true := by simp [bne, hxy]
        by_cases hlt2 : X < Y
        · have hc : cmpI X Y = -1 := by unfold cmpI; rw [if_pos hlt2]
          have h1 := Hst.out
          rw [hc, if_neg (by decide)] at h1
          have H1 : Hid (-1 = cmpH a b) := h1.symm.trans HC.out
          clear h1 Hst hc
          go_wp2_with fail
          go_ret
          rw [← H1.out]
          exact ⟨rfl, rfl⟩
        · have hc : cmpI X Y = 1 := by unfold cmpI; rw [if_neg hlt2, if_pos (by omega)]
          have h1 := Hst.out
          rw [hc, if_neg (by decide)] at h1
          have H1 : Hid (1 = cmpH a b) := h1.symm.trans HC.out
          clear h1 Hst hc
          go_wp2_with fail
          go_ret
          rw [← H1.out]
          exact ⟨rfl, rfl⟩
    · have hj7 : j = 7 := by omega
      have h1 := HC.out
      rw [hj7] at h1
      have H1 : Hid (0 = cmpH a b) := h1
      subst hj7
      clear h1 HC
      go_wp2_with fail
      go_ret
      rw [← H1.out]
      exact ⟨rfl, rfl⟩

set_option maxHeartbeats 1000000 in
theorem trie_any (d : Nat) (K : Nat) (A B : VT) (x y : Value) (w : World) (hx : Lies d w A.items x) (hy : Lies d w B.items y) (hK : K ≤ 63) (rA : rightV d A = true) (rB : rightV d B = true) :
    Calls Try.prog 40 #[.int .i64 K, .agg #[.int .i64 A.kind, .int .i64 A.num, .string A.text, x], .agg #[.int .i64 B.kind, .int .i64 B.num, .string B.text, y]] w fun e w' => e = .returned (.int .i64 (trieZ d K A B)) ∧ Below w.heap.size w w' := by
  have hkb : kindB K = true := by unfold kindB; simp; omega
  have eA : ofZ d K A = cutZ K (fullZ d A) := by unfold ofZ; rw [hkb, rA]; rfl
  have eB : ofZ d K B = cutZ K (fullZ d B) := by unfold ofZ; rw [hkb, rB]; rfl
  have wA := word_of d K A
  have wB := word_of d K B
  have HT : Hid (trieZ d K A B = if cmpH (cutZ K (fullZ d A)) (cutZ K (fullZ d B)) = 0 then cmpV d A B else cmpH (cutZ K (fullZ d A)) (cutZ K (fullZ d B))) := by show _ = _; unfold trieZ; rw [eA, eB]
  rw [eA] at wA
  rw [eB] at wB
  have HWA : Hid (Word (cutZ K (fullZ d A))) := wA
  have HWB : Hid (Word (cutZ K (fullZ d B))) := wB
  have HRA : Hid (Rex d A) := rex_right rA
  have HRB : Hid (Rex d B) := rex_right rB
  clear eA eB wA wB rA rB hkb
  obtain ⟨ax, cx, rfl, _⟩ := Lies.slice hx
  obtain ⟨ay, cy, rfl, _⟩ := Lies.slice hy
  have HX : Hid (Lies d w A.items (.slice ax A.items.length cx)) := hx
  have HY : Hid (Lies d w B.items (.slice ay B.items.length cy)) := hy
  clear hx hy
  have hal : Below w.heap.size w ((w.alloc (.cells #[.int .i64 A.kind, .int .i64 A.num, .string A.text, .slice ax A.items.length cx] 24)).alloc (.cells #[.int .i64 B.kind, .int .i64 B.num, .string B.text, .slice ay B.items.length cy] 24)) := (Grew.two w _ _).below
  have K1 : Hid (Boxed ((w.alloc (.cells #[.int .i64 A.kind, .int .i64 A.num, .string A.text, .slice ax A.items.length cx] 24)).alloc (.cells #[.int .i64 B.kind, .int .i64 B.num, .string B.text, .slice ay B.items.length cy] 24)) w.heap.size A.kind A.num A.text (.slice ax A.items.length cx)) := (boxed_alloc w _ _ _ _ 24).keeps ((Grew.refl _).alloc _).below
  have K2 : Hid (Boxed ((w.alloc (.cells #[.int .i64 A.kind, .int .i64 A.num, .string A.text, .slice ax A.items.length cx] 24)).alloc (.cells #[.int .i64 B.kind, .int .i64 B.num, .string B.text, .slice ay B.items.length cy] 24)) (w.heap.size + 1) B.kind B.num B.text (.slice ay B.items.length cy)) := by
    have := boxed_alloc (w.alloc (.cells #[.int .i64 A.kind, .int .i64 A.num, .string A.text, .slice ax A.items.length cx] 24)) B.kind B.num B.text (.slice ay B.items.length cy) 24
    show Boxed _ _ _ _ _ _
    simpa using this
  go_enter Try.func40, Try.ntmps40
  go_wp2_with fail
  have HK1 : Hid (∀ W, Below w.heap.size w W → Calls Try.prog 33 #[.int .i64 K, .agg #[.int .i64 A.kind, .int .i64 A.num, .string A.text, .slice ax A.items.length cx]] W fun e W' => e = .returned (.int .u32 (cutZ K (fullZ d A))) ∧ Below W.heap.size W W') := fun W hW => kinded_any d K A _ W (Lies.keeps hW _ _ _ HX.out) hK HRA.out
  have HK2 : Hid (∀ W, Below w.heap.size w W → Calls Try.prog 33 #[.int .i64 K, .agg #[.int .i64 B.kind, .int .i64 B.num, .string B.text, .slice ay B.items.length cy]] W fun e W' => e = .returned (.int .u32 (cutZ K (fullZ d B))) ∧ Below W.heap.size W W') := fun W hW => kinded_any d K B _ W (Lies.keeps hW _ _ _ HY.out) hK HRB.out
  generalize hw0 : ((w.alloc (.cells #[.int .i64 A.kind, .int .i64 A.num, .string A.text, .slice ax A.items.length cx] 24)).alloc (.cells #[.int .i64 B.kind, .int .i64 B.num, .string B.text, .slice ay B.items.length cy] 24)) = w0 at *
  clear hw0
  have hald : Below w.heap.size w w0.drew := hal.drew
  obtain ⟨x0, x1, x2, x3⟩ := K1.out
  obtain ⟨y0, y1, y2, y3⟩ := K2.out
  go_region_held3 (fun w' => w'.cell? ⟨w.heap.size, 0, none⟩ = some (.int .i64 A.kind) ∧ w'.cell? ⟨w.heap.size, 1, none⟩ = some (.int .i64 A.num) ∧ w'.cell? ⟨w.heap.size, 2, none⟩ = some (.string A.text) ∧ w'.cell? ⟨w.heap.size, 3, none⟩ = some (.slice ax A.items.length cx)
      ∧ w'.cell? ⟨w.heap.size + 1, 0, none⟩ = some (.int .i64 B.kind) ∧ w'.cell? ⟨w.heap.size + 1, 1, none⟩ = some (.int .i64 B.num) ∧ w'.cell? ⟨w.heap.size + 1, 2, none⟩ = some (.string B.text) ∧ w'.cell? ⟨w.heap.size + 1, 3, none⟩ = some (.slice ay B.items.length cy)) (go_keep)
    (first | (go_at_call_of 33 A; refine Calls.mono (HK1.out _ hald) ?_; rintro e w1 ⟨rfl, hg⟩; have hg1 : Below w0.heap.size w0 w1 := (Below.refl _ _).drew.trans hg; clear hg hald; have r0 := cell_keeps hg1 x0; have r1 := cell_keeps hg1 x1; have r2 := cell_keeps hg1 x2; have r3 := cell_keeps hg1 x3; have t0 := cell_keeps hg1 y0; have t1 := cell_keeps hg1 y1; have t2 := cell_keeps hg1 y2; have t3 := cell_keeps hg1 y3; clear x0 x1 x2 x3 y0 y1 y2 y3)
           | (go_at_call_of 33 B; refine Calls.mono (HK2.out _ (hal.trans (hg1.mono hal.size))) ?_; rintro e w2 ⟨rfl, hg⟩; have hg2 : Below w0.heap.size w0 w2 := hg1.trans (hg.mono hg1.size); have z0 := cell_keeps hg r0; have z1 := cell_keeps hg r1; have z2 := cell_keeps hg r2; have z3 := cell_keeps hg r3; have v0 := cell_keeps hg t0; have v1 := cell_keeps hg t1; have v2 := cell_keeps hg t2; have v3 := cell_keeps hg t3; clear hg hg1 r0 r1 r2 r3 t0 t1 t2 t3)
           | (go_at_call 64; refine Calls.mono (ahead_any _ _ _ HWA.out HWB.out) ?_; rintro e w3 ⟨rfl, rfl⟩))
  have hb2 : Below w.heap.size w w3 := hal.trans (hg2.mono hal.size)
  have I1 : Hid (Boxed w3 w.heap.size A.kind A.num A.text (.slice ax A.items.length cx)) := K1.out.keeps hg2
  have I2 : Hid (Boxed w3 (w.heap.size + 1) B.kind B.num B.text (.slice ay B.items.length cy)) := K2.out.keeps hg2
  clear hg2 hal K1 K2 HK1 HK2 z0 z1 z2 z3 v0 v1 v2 v3
  generalize cmpH (cutZ K (fullZ d A)) (cutZ K (fullZ d B)) = C at *
  by_cases hz : C = 0
  · have hT : Hid (trieZ d K A B = cmpV d A B) := by show _ = _; rw [HT.out, if_pos hz]
    subst hz
    obtain ⟨x0, x1, x2, x3⟩ := I1.out
    obtain ⟨y0, y1, y2, y3⟩ := I2.out
    clear HT
    go_wp2_with fail
    clear x0 x1 x2 x3 y0 y1 y2 y3
    refine (ref_any d A B _ _ _ (Lies.keeps hb2 _ _ _ HX.out) (Lies.keeps hb2 _ _ _ HY.out)).mono ?_
    rintro e w4 ⟨rfl, hg⟩
    have hb4 : Below w.heap.size w w4 := hb2.trans (hg.mono hb2.size)
    clear hg hb2
    go_wp2_with fail
    go_ret
    rw [hT.out]
    exact ⟨rfl, hb4⟩
  · have hT : Hid (trieZ d K A B = C) := by show _ = _; rw [HT.out, if_neg hz]
    have hz2 : (C != 0) = true := by simp [bne, hz]
    have hz3 : (C == 0) = false := by simp [hz]
    clear HT
    go_wp2_with fail
    go_ret
    rw [hT.out]
    exact ⟨rfl, hb2⟩

theorem bef_kind {d : Nat} {k : Int} {A B : VT} (h : kindB k = false) : befB d k A B = false ∧ befE d k A B = 4 := by
  unfold befB befE ofE
  rw [h]
  exact ⟨rfl, rfl⟩
theorem bef_right {d : Nat} {k : Int} {A B : VT} (h : kindB k = true) (hr : rightV d A = false ∨ rightV d B = false) : befB d k A B = false ∧ befE d k A B = 3 := by
  unfold befB befE ofE
  rw [h]
  cases hA : rightV d A
  · exact ⟨rfl, rfl⟩
  · rcases hr with hr | hr
    · rw [hA] at hr; cases hr
    · rw [hr]; exact ⟨rfl, rfl⟩
theorem bef_fine {d : Nat} {k : Int} {A B : VT} (h : kindB k = true) (rA : rightV d A = true) (rB : rightV d B = true) : befB d k A B = decide (trieZ d k A B < 0) ∧ befE d k A B = 0 := by
  unfold befB befE ofE
  rw [h, rA, rB]
  exact ⟨rfl, rfl⟩

set_option maxHeartbeats 2000000 in
theorem rbefore_any (d : Nat) (k : Int) (A B : VT) (x y : Value) (w : World) (hx : Lies d w A.items x) (hy : Lies d w B.items y) :
    Calls Try.prog 23 #[.int .i64 k, .agg #[.int .i64 A.kind, .int .i64 A.num, .string A.text, x], .agg #[.int .i64 B.kind, .int .i64 B.num, .string B.text, y]] w fun e w' => e = .returned (.tuple #[.bool (befB d k A B), .int .i64 (befE d k A B)]) ∧ Below w.heap.size w w' := by
  obtain ⟨ax, cx, rfl, _⟩ := Lies.slice hx
  obtain ⟨ay, cy, rfl, _⟩ := Lies.slice hy
  have HX : Hid (Lies d w A.items (.slice ax A.items.length cx)) := hx
  have HY : Hid (Lies d w B.items (.slice ay B.items.length cy)) := hy
  clear hx hy
  have Hk : Hid (∀ w, Calls Try.prog 32 #[.int .i64 k] w fun e w' => e = .returned (.bool (kindB k)) ∧ w' = w) := rkind_any k
  have hal : Below w.heap.size w ((w.alloc (.cells #[.int .i64 A.kind, .int .i64 A.num, .string A.text, .slice ax A.items.length cx] 24)).alloc (.cells #[.int .i64 B.kind, .int .i64 B.num, .string B.text, .slice ay B.items.length cy] 24)) := (Grew.two w _ _).below
  have K1 : Hid (Boxed ((w.alloc (.cells #[.int .i64 A.kind, .int .i64 A.num, .string A.text, .slice ax A.items.length cx] 24)).alloc (.cells #[.int .i64 B.kind, .int .i64 B.num, .string B.text, .slice ay B.items.length cy] 24)) w.heap.size A.kind A.num A.text (.slice ax A.items.length cx)) := (boxed_alloc w _ _ _ _ 24).keeps ((Grew.refl _).alloc _).below
  have K2 : Hid (Boxed ((w.alloc (.cells #[.int .i64 A.kind, .int .i64 A.num, .string A.text, .slice ax A.items.length cx] 24)).alloc (.cells #[.int .i64 B.kind, .int .i64 B.num, .string B.text, .slice ay B.items.length cy] 24)) (w.heap.size + 1) B.kind B.num B.text (.slice ay B.items.length cy)) := by
    have := boxed_alloc (w.alloc (.cells #[.int .i64 A.kind, .int .i64 A.num, .string A.text, .slice ax A.items.length cx] 24)) B.kind B.num B.text (.slice ay B.items.length cy) 24
    show Boxed _ _ _ _ _ _
    simpa using this
  cases hkb : kindB k
  · obtain ⟨q1, q2⟩ := bef_kind (d := d) (A := A) (B := B) hkb
    rw [hkb] at Hk
    have Q1 : Hid (befB d k A B = false) := q1
    have Q2 : Hid (befE d k A B = 4) := q2
    clear q1 q2 hkb
    go_enter Try.func23, Try.ntmps23
    go_wp2_with fail
    refine Calls.mono (Hk.out _) ?_
    rintro e w1 ⟨rfl, rfl⟩
    go_wp2_with fail
    go_ret2
    rw [Q1.out, Q2.out]
    exact ⟨rfl, hal⟩
  · rw [hkb] at Hk
    have HKB : Hid (kindB k = true) := hkb
    obtain ⟨K, hK, hK3⟩ : ∃ K : Nat, k = K ∧ K ≤ 63 := by
      have := hkb
      unfold kindB at this
      simp only [decide_eq_true_eq] at this
      exact ⟨k.toNat, by omega, by omega⟩
    subst hK
    clear hkb
    go_enter Try.func23, Try.ntmps23
    go_wp2_with fail
    refine Calls.mono (Hk.out _) ?_
    rintro e w1 ⟨rfl, rfl⟩
    go_wp2_with fail
    refine (right_any d A _ _ (Lies.keeps hal _ _ _ HX.out)).mono ?_
    rintro e w1 ⟨rfl, hg⟩
    have hb1 : Below w.heap.size w w1 := hal.trans (hg.mono hal.size)
    have J1 : Hid (Boxed w1 w.heap.size A.kind A.num A.text (.slice ax A.items.length cx)) := K1.out.keeps hg
    have J2 : Hid (Boxed w1 (w.heap.size + 1) B.kind B.num B.text (.slice ay B.items.length cy)) := K2.out.keeps hg
    clear hg K1 K2 Hk
    cases rA : rightV d A
    · obtain ⟨q1, q2⟩ := bef_right (d := d) (A := A) (B := B) HKB.out (Or.inl rA)
      have Q1 : Hid (befB d K A B = false) := q1
      have Q2 : Hid (befE d K A B = 3) := q2
      clear q1 q2 rA
      go_wp2_with fail
      go_ret2
      rw [Q1.out, Q2.out]
      exact ⟨rfl, hb1⟩
    · have RA : Hid (rightV d A = true) := rA
      clear rA
      obtain ⟨y0, y1, y2, y3⟩ := J2.out
      go_wp2_with fail
      clear y0 y1 y2 y3
      refine (right_any d B _ _ (Lies.keeps hb1 _ _ _ HY.out)).mono ?_
      rintro e w2 ⟨rfl, hg⟩
      have hb2 : Below w.heap.size w w2 := hb1.trans (hg.mono hb1.size)
      have I1 : Hid (Boxed w2 w.heap.size A.kind A.num A.text (.slice ax A.items.length cx)) := J1.out.keeps hg
      have I2 : Hid (Boxed w2 (w.heap.size + 1) B.kind B.num B.text (.slice ay B.items.length cy)) := J2.out.keeps hg
      clear hg J1 J2 hb1
      cases rB : rightV d B
      · obtain ⟨q1, q2⟩ := bef_right (d := d) (A := A) (B := B) HKB.out (Or.inr rB)
        have Q1 : Hid (befB d K A B = false) := q1
        have Q2 : Hid (befE d K A B = 3) := q2
        clear q1 q2 rB
        go_wp2_with fail
        go_ret2
        rw [Q1.out, Q2.out]
        exact ⟨rfl, hb2⟩
      · obtain ⟨q1, q2⟩ := bef_fine (d := d) (A := A) (B := B) HKB.out RA.out rB
        have RB : Hid (rightV d B = true) := rB
        have Q1 : Hid (befB d K A B = decide (trieZ d K A B < 0)) := q1
        have Q2 : Hid (befE d K A B = 0) := q2
        clear q1 q2 rB
        obtain ⟨x0, x1, x2, x3⟩ := I1.out
        obtain ⟨y0, y1, y2, y3⟩ := I2.out
        go_wp2_with fail
        clear x0 x1 x2 x3 y0 y1 y2 y3
        refine (trie_any d K A B _ _ _ (Lies.keeps hb2 _ _ _ HX.out) (Lies.keeps hb2 _ _ _ HY.out) hK3 RA.out RB.out).mono ?_
        rintro e w3 ⟨rfl, hg⟩
        have hb3 : Below w.heap.size w w3 := hb2.trans (hg.mono hb2.size)
        clear hg hb2
        go_wp2_with fail
        go_ret2
        rw [Q1.out, Q2.out]
        exact ⟨rfl, hb3⟩

/-- A call that answers a truth and a number, from w on. -/
def BTells (f : Nat) (args : Array Value) (w : World) (b : Bool) (e : Int) : Prop :=
  ∀ W, Below w.heap.size w W → Calls Try.prog f args W fun r W' => r = .returned (.tuple #[.bool b, .int .i64 e]) ∧ Below W.heap.size W W'

set_option maxHeartbeats 2000000 in
theorem beforeLaw_core (k : Int) (A B : VT) (ax ay : Option Addr) (lx ly cx cy : Nat) (w : World) (b : Bool) (e : Int)
    (H1 : Hid (BTells 22 #[.int .i64 k, .agg #[.int .i64 A.kind, .int .i64 A.num, .string A.text, .slice ax lx cx], .agg #[.int .i64 B.kind, .int .i64 B.num, .string B.text, .slice ay ly cy]] w b e))
    (H2 : Hid (BTells 23 #[.int .i64 k, .agg #[.int .i64 A.kind, .int .i64 A.num, .string A.text, .slice ax lx cx], .agg #[.int .i64 B.kind, .int .i64 B.num, .string B.text, .slice ay ly cy]] w b e)) :
    Calls Try.prog 6 #[.int .i64 k, .agg #[.int .i64 A.kind, .int .i64 A.num, .string A.text, .slice ax lx cx], .agg #[.int .i64 B.kind, .int .i64 B.num, .string B.text, .slice ay ly cy]] w fun e w' => e = .returned (.bool true) ∧ Below w.heap.size w w' := by
  have hal : Below w.heap.size w ((w.alloc (.cells #[.int .i64 A.kind, .int .i64 A.num, .string A.text, .slice ax lx cx] 24)).alloc (.cells #[.int .i64 B.kind, .int .i64 B.num, .string B.text, .slice ay ly cy] 24)) := (Grew.two w _ _).below
  have K1 : Hid (Boxed ((w.alloc (.cells #[.int .i64 A.kind, .int .i64 A.num, .string A.text, .slice ax lx cx] 24)).alloc (.cells #[.int .i64 B.kind, .int .i64 B.num, .string B.text, .slice ay ly cy] 24)) w.heap.size A.kind A.num A.text (.slice ax lx cx)) := (boxed_alloc w _ _ _ _ 24).keeps ((Grew.refl _).alloc _).below
  have K2 : Hid (Boxed ((w.alloc (.cells #[.int .i64 A.kind, .int .i64 A.num, .string A.text, .slice ax lx cx] 24)).alloc (.cells #[.int .i64 B.kind, .int .i64 B.num, .string B.text, .slice ay ly cy] 24)) (w.heap.size + 1) B.kind B.num B.text (.slice ay ly cy)) := by
    have := boxed_alloc (w.alloc (.cells #[.int .i64 A.kind, .int .i64 A.num, .string A.text, .slice ax lx cx] 24)) B.kind B.num B.text (.slice ay ly cy) 24
    show Boxed _ _ _ _ _ _
    simpa using this
  go_enter Try.func6, Try.ntmps6
  go_wp2_with fail
  refine Calls.mono (H1.out _ hal) ?_
  rintro r w1 ⟨rfl, hg⟩
  have hb1 : Below w.heap.size w w1 := hal.trans (hg.mono hal.size)
  obtain ⟨x0, x1, x2, x3⟩ := K1.out.keeps hg
  obtain ⟨y0, y1, y2, y3⟩ := K2.out.keeps hg
  clear hg K1 K2
  go_wp2_with fail
  clear x0 x1 x2 x3 y0 y1 y2 y3
  refine Calls.mono (H2.out _ hb1) ?_
  rintro r w2 ⟨rfl, hg⟩
  have hb2 : Below w.heap.size w w2 := hb1.trans (hg.mono hb1.size)
  clear hg hb1
  go_wp2_with fail
  refine (speaks_any _).mono ?_
  rintro r w5 ⟨rfl, hg⟩
  have hb5 : Below w.heap.size w w5 := hb2.trans (hg.mono hb2.size)
  clear hg hb2
  go_wp2_with fail
  go_ret
  exact ⟨rfl, hb5⟩

theorem beforeLaw_walk (k : Int) (d1 d2 : Nat) (A B : VT) (x y : Value) (w : World) (hx : Lies d1 w A.items x) (hy : Lies d2 w B.items y) (sA : A.text.size ≤ 9223372036854775807) (sB : B.text.size ≤ 9223372036854775807) :
    Calls Try.prog 6 #[.int .i64 k, .agg #[.int .i64 A.kind, .int .i64 A.num, .string A.text, x], .agg #[.int .i64 B.kind, .int .i64 B.num, .string B.text, y]] w fun e w' => e = .returned (.bool true) ∧ Below w.heap.size w w' := by
  have hx' := hx.atLeast (max d1 d2) (by omega)
  have hy' := hy.atLeast (max d1 d2) (by omega)
  obtain ⟨ax, cx, rfl, _⟩ := Lies.slice hx
  obtain ⟨ay, cy, rfl, _⟩ := Lies.slice hy
  exact beforeLaw_core k A B _ _ _ _ _ _ w (befB (max d1 d2) k A B) (befE (max d1 d2) k A B) (fun W hW => before_any _ k A B _ _ W (Lies.keeps hW _ _ _ hx') (Lies.keeps hW _ _ _ hy') sA sB) (fun W hW => rbefore_any _ k A B _ _ W (Lies.keeps hW _ _ _ hx') (Lies.keeps hW _ _ _ hy'))

end Go.Proofs.Ytaghmgeamhojbab

