/-
  The contracts of Deep, and of the document's Parts, Check and Deep; the walk of ValueRight.
-/
import Derived.Test.YtajjkkfegcmkkaaDeep
import Derived.Test.YtajjkkfegcmkkaaSpeaks
import Derived.Deep.RegionHeld3
namespace Go.Proofs.Ytajjkkfegcmkkaa
open Go.RowKit

def deepZ (d : Nat) (t : VT) : Int := if rightV d t then dpV d t else 0
def partZ (d : Nat) (t : VT) : Int := if rightV d t then cpV d t else 0

set_option maxHeartbeats 1000000 in
theorem pdeep_any (d : Nat) (t : VT) (u : Value) (w : World) (hu : Lies d w t.items u) (hs : t.text.size ≤ 9223372036854775807) :
    Calls Try.prog 11 #[.agg #[.int .i64 t.kind, .int .i64 t.num, .string t.text, u]] w fun e w' => e = .returned (.tuple #[.int .i64 (deepZ d t), .int .i64 (errOf (rightV d t))]) ∧ Below w.heap.size w w' := by
  obtain ⟨a, c, rfl, _⟩ := Lies.slice hu
  have HL : Hid (Lies d w t.items (.slice a t.items.length c)) := hu
  clear hu
  go_enter Try.func11, Try.ntmps11
  go_wp2_with fail
  refine (check_any d t _ _ (Lies.keeps ((Grew.refl w).alloc _).below _ _ _ HL.out) hs).mono ?_
  rintro e w1 ⟨rfl, hb⟩
  have hb1 : Below w.heap.size w w1 := ((Grew.refl w).alloc _).below.trans (hb.mono (by simp))
  obtain ⟨c0, c1, c2, c3⟩ := (boxed_alloc w t.kind t.num t.text (.slice a t.items.length c) 24).keeps hb
  clear hb
  cases hr : rightV d t
  · have hz : Hid (deepZ d t = 0) := by show _ = _; unfold deepZ; rw [hr]; rfl
    have hz2 : Hid (errOf (rightV d t) = 3) := by show _ = _; rw [hr]; rfl
    have he : errOf false = 3 := rfl
    rw [he]
    clear hr he
    go_wp2_with fail
    go_ret2
    rw [hz.out, hz2.out]
    exact ⟨rfl, hb1⟩
  · have hz : Hid (deepZ d t = dpV d t) := by show _ = _; unfold deepZ; rw [hr]; rfl
    have hz2 : Hid (errOf (rightV d t) = 0) := by show _ = _; rw [hr]; rfl
    have ht : Hid (Shal d t) := shal_right hr
    have he : errOf true = 0 := rfl
    rw [he]
    clear hr he
    go_wp2_with fail
    refine (depth_any d t _ _ (Lies.keeps hb1 _ _ _ HL.out) ht.out).mono ?_
    rintro e w2 ⟨rfl, hb⟩
    have hb2 : Below w.heap.size w w2 := hb1.trans (hb.mono hb1.size)
    clear hb hb1 c0 c1 c2 c3
    go_wp2_with fail
    go_ret2
    rw [hz.out, hz2.out]
    exact ⟨rfl, hb2⟩

set_option maxHeartbeats 1000000 in
theorem rdeep_any (d : Nat) (t : VT) (u : Value) (w : World) (hu : Lies d w t.items u) :
    Calls Try.prog 12 #[.agg #[.int .i64 t.kind, .int .i64 t.num, .string t.text, u]] w fun e w' => e = .returned (.tuple #[.int .i64 (deepZ d t), .int .i64 (errOf (rightV d t))]) ∧ Below w.heap.size w w' := by
  obtain ⟨a, c, rfl, _⟩ := Lies.slice hu
  have HL : Hid (Lies d w t.items (.slice a t.items.length c)) := hu
  clear hu
  go_enter Try.func12, Try.ntmps12
  go_wp2_with fail
  refine (right_any d t _ _ (Lies.keeps ((Grew.refl w).alloc _).below _ _ _ HL.out)).mono ?_
  rintro e w1 ⟨rfl, hb⟩
  have hb1 : Below w.heap.size w w1 := ((Grew.refl w).alloc _).below.trans (hb.mono (by simp))
  obtain ⟨c0, c1, c2, c3⟩ := (boxed_alloc w t.kind t.num t.text (.slice a t.items.length c) 24).keeps hb
  clear hb
  cases hr : rightV d t
  · have hz : Hid (deepZ d t = 0) := by show _ = _; unfold deepZ; rw [hr]; rfl
    have hz2 : Hid (errOf (rightV d t) = 3) := by show _ = _; rw [hr]; rfl
    clear hr
    go_wp2_with fail
    go_ret2
    rw [hz.out, hz2.out]
    exact ⟨rfl, hb1⟩
  · have hz : Hid (deepZ d t = dpV d t) := by show _ = _; unfold deepZ; rw [hr]; rfl
    have hz2 : Hid (errOf (rightV d t) = 0) := by show _ = _; rw [hr]; rfl
    have ht : Hid (Shal d t) := shal_right hr
    clear hr
    go_wp2_with fail
    refine (rdepth_any d t _ _ (Lies.keeps hb1 _ _ _ HL.out) ht.out).mono ?_
    rintro e w2 ⟨rfl, hb⟩
    have hb2 : Below w.heap.size w w2 := hb1.trans (hb.mono hb1.size)
    clear hb hb1 c0 c1 c2 c3
    go_wp2_with fail
    go_ret2
    rw [hz.out, hz2.out]
    exact ⟨rfl, hb2⟩

theorem rf_parts (d : Nat) (t : VT) (h : Dp d t) : (rightV d t = false → rf d t 16 1024 = -1) ∧ (rightV d t = true → rf d t 16 1024 = cpV d t) := by
  have e := rf_fw d t 16 1024 h (by omega) (by omega)
  have e2 : rightV d t = ((fw d t 16 1024).1 && rpV d t) := rfl
  rw [← e2] at e
  refine ⟨fun hr => by rw [e, hr]; rfl, fun hr => ?_⟩
  rw [e, if_pos hr]
  rw [e2, Bool.and_eq_true] at hr
  have := fw_count d t 16 1024 (by omega) hr.1
  omega

set_option maxHeartbeats 1000000 in
theorem rparts_any (d : Nat) (t : VT) (u : Value) (w : World) (hu : Lies d w t.items u) :
    Calls Try.prog 10 #[.agg #[.int .i64 t.kind, .int .i64 t.num, .string t.text, u]] w fun e w' => e = .returned (.tuple #[.int .i64 (partZ d t), .int .i64 (errOf (rightV d t))]) ∧ Below w.heap.size w w' := by
  obtain ⟨q1, q2⟩ := rf_parts d t (Dp.of_lies d w t u hu)
  obtain ⟨a, c, rfl, _⟩ := Lies.slice hu
  have HL : Hid (Lies d w t.items (.slice a t.items.length c)) := hu
  clear hu
  cases hr : rightV d t
  · have hz : Hid (partZ d t = 0) := by show _ = _; unfold partZ; rw [hr]; rfl
    have H1 : Hid (rf d t 16 1024 = -1) := q1 hr
    clear q1 q2 hr
    go_enter Try.func10, Try.ntmps10
    go_wp2_with fail
    refine (rfits_any d t _ _ 16 1024 (Lies.keeps ((Grew.refl w).alloc _).below _ _ _ HL.out) (by omega) (by omega) (by omega) (by omega)).mono ?_
    rintro e w1 ⟨rfl, hb⟩
    have hb1 : Below w.heap.size w w1 := ((Grew.refl w).alloc _).below.trans (hb.mono (by simp))
    rw [H1.out]
    clear hb
    go_wp2_with fail
    go_ret2
    rw [hz.out]
    exact ⟨rfl, hb1⟩
  · have hz : Hid (partZ d t = cpV d t) := by show _ = _; unfold partZ; rw [hr]; rfl
    have H1 : Hid (rf d t 16 1024 = cpV d t) := q2 hr
    have hpos := cpV_pos d t
    clear q1 q2 hr
    go_enter Try.func10, Try.ntmps10
    go_wp2_with fail
    refine (rfits_any d t _ _ 16 1024 (Lies.keeps ((Grew.refl w).alloc _).below _ _ _ HL.out) (by omega) (by omega) (by omega) (by omega)).mono ?_
    rintro e w1 ⟨rfl, hb⟩
    have hb1 : Below w.heap.size w w1 := ((Grew.refl w).alloc _).below.trans (hb.mono (by simp))
    rw [H1.out]
    have hge : 0 ≤ cpV d t := by omega
    clear hb
    go_wp2_with fail
    go_ret2
    rw [hz.out]
    exact ⟨rfl, hb1⟩

theorem rcheck_any (d : Nat) (t : VT) (u : Value) (w : World) (hu : Lies d w t.items u) :
    Calls Try.prog 14 #[.agg #[.int .i64 t.kind, .int .i64 t.num, .string t.text, u]] w fun e w' => e = .returned (.int .i64 (errOf (rightV d t))) ∧ Below w.heap.size w w' := by
  obtain ⟨a, c, rfl, _⟩ := Lies.slice hu
  have HL : Hid (Lies d w t.items (.slice a t.items.length c)) := hu
  clear hu
  go_enter Try.func14, Try.ntmps14
  go_wp2_with fail
  refine (right_any d t _ _ (Lies.keeps ((Grew.refl w).alloc _).below _ _ _ HL.out)).mono ?_
  rintro e w1 ⟨rfl, hb⟩
  have hb1 : Below w.heap.size w w1 := ((Grew.refl w).alloc _).below.trans (hb.mono (by simp))
  clear hb
  cases hr : rightV d t
  · have hz2 : Hid (errOf (rightV d t) = 3) := by show _ = _; rw [hr]; rfl
    clear hr
    go_wp2_with fail
    go_ret
    rw [hz2.out]
    exact ⟨rfl, hb1⟩
  · have hz2 : Hid (errOf (rightV d t) = 0) := by show _ = _; rw [hr]; rfl
    clear hr
    go_wp2_with fail
    go_ret
    rw [hz2.out]
    exact ⟨rfl, hb1⟩

/-- A call at one value that answers r, from w on. -/
def Ans (f : Nat) (v : Value) (w : World) (r : Value) : Prop :=
  ∀ W, Below w.heap.size w W → Calls Try.prog f #[v] W fun e W' => e = .returned r ∧ Below W.heap.size W W'

set_option maxHeartbeats 4000000 in
theorem right_core (t : VT) (a : Option Addr) (l c : Nat) (w : World) (n e d : Int)
    (H1 : Hid (Ans 9 (.agg #[.int .i64 t.kind, .int .i64 t.num, .string t.text, .slice a l c]) w (.tuple #[.int .i64 n, .int .i64 e])))
    (H2 : Hid (Ans 10 (.agg #[.int .i64 t.kind, .int .i64 t.num, .string t.text, .slice a l c]) w (.tuple #[.int .i64 n, .int .i64 e])))
    (H3 : Hid (Ans 11 (.agg #[.int .i64 t.kind, .int .i64 t.num, .string t.text, .slice a l c]) w (.tuple #[.int .i64 d, .int .i64 e])))
    (H4 : Hid (Ans 12 (.agg #[.int .i64 t.kind, .int .i64 t.num, .string t.text, .slice a l c]) w (.tuple #[.int .i64 d, .int .i64 e])))
    (H5 : Hid (Ans 13 (.agg #[.int .i64 t.kind, .int .i64 t.num, .string t.text, .slice a l c]) w (.int .i64 e)))
    (H6 : Hid (Ans 14 (.agg #[.int .i64 t.kind, .int .i64 t.num, .string t.text, .slice a l c]) w (.int .i64 e))) :
    Calls Try.prog 3 #[.agg #[.int .i64 t.kind, .int .i64 t.num, .string t.text, .slice a l c]] w fun e w' => e = .returned (.bool true) ∧ Below w.heap.size w w' := by
  have hsp : Hid (∀ W : World, Calls Try.prog 15 #[] W fun e W' => e = .returned (.bool true) ∧ Below W.heap.size W W') := speaks_any
  have hal : Below w.heap.size w (w.alloc (.cells #[.int .i64 t.kind, .int .i64 t.num, .string t.text, .slice a l c] 24)) := ((Grew.refl w).alloc _).below
  have HB : Hid (Boxed (w.alloc (.cells #[.int .i64 t.kind, .int .i64 t.num, .string t.text, .slice a l c] 24)) w.heap.size t.kind t.num t.text (.slice a l c)) := boxed_alloc w _ _ _ _ 24
  go_enter Try.func3, Try.ntmps3
  go_wp2_with fail
  refine Calls.mono (H1.out _ hal) ?_
  rintro r w1 ⟨rfl, hg⟩
  have hb1 : Below w.heap.size w w1 := hal.trans (hg.mono hal.size)
  have HB1 : Hid (Boxed w1 w.heap.size t.kind t.num t.text (.slice a l c)) := HB.out.keeps hg
  clear hg HB
  obtain ⟨x0, x1, x2, x3⟩ := HB1.out
  go_wp2_with fail
  clear x0 x1 x2 x3
  refine Calls.mono (H2.out _ hb1) ?_
  rintro r w2 ⟨rfl, hg⟩
  have hb2 : Below w.heap.size w w2 := hb1.trans (hg.mono hb1.size)
  have HB2 : Hid (Boxed w2 w.heap.size t.kind t.num t.text (.slice a l c)) := HB1.out.keeps hg
  clear hg HB1 hb1
  obtain ⟨x0, x1, x2, x3⟩ := HB2.out
  go_wp2_with fail
  clear x0 x1 x2 x3
  refine Calls.mono (H3.out _ hb2) ?_
  rintro r w3 ⟨rfl, hg⟩
  have hb3 : Below w.heap.size w w3 := hb2.trans (hg.mono hb2.size)
  have HB3 : Hid (Boxed w3 w.heap.size t.kind t.num t.text (.slice a l c)) := HB2.out.keeps hg
  clear hg HB2 hb2
  obtain ⟨x0, x1, x2, x3⟩ := HB3.out
  go_wp2_with fail
  clear x0 x1 x2 x3
  refine Calls.mono (H4.out _ hb3) ?_
  rintro r w4 ⟨rfl, hg⟩
  have hb4 : Below w.heap.size w w4 := hb3.trans (hg.mono hb3.size)
  have HB4 : Hid (Boxed w4 w.heap.size t.kind t.num t.text (.slice a l c)) := HB3.out.keeps hg
  clear hg HB3 hb3
  obtain ⟨x0, x1, x2, x3⟩ := HB4.out
  have hb4d : Below w.heap.size w w4.drew := hb4.drew
  go_wp2_with fail
  go_region_held3 (fun w' => w'.cell? ⟨w.heap.size, 0, none⟩ = some (.int .i64 t.kind) ∧ w'.cell? ⟨w.heap.size, 1, none⟩ = some (.int .i64 t.num) ∧ w'.cell? ⟨w.heap.size, 2, none⟩ = some (.string t.text) ∧ w'.cell? ⟨w.heap.size, 3, none⟩ = some (.slice a l c)) (go_keep)
    (first | (go_at_call 13; refine Calls.mono (H5.out _ hb4d) ?_; rintro r w5 ⟨rfl, hg⟩; have hb5 : Below w4.heap.size w4 w5 := (Below.refl _ _).drew.trans hg; clear hg hb4d; have y0 := cell_keeps hb5 x0; have y1 := cell_keeps hb5 x1; have y2 := cell_keeps hb5 x2; have y3 := cell_keeps hb5 x3; clear x0 x1 x2 x3)
           | (go_at_call 14; refine Calls.mono (H6.out _ (hb4.trans (hb5.mono hb4.size))) ?_; rintro r w6 ⟨rfl, hg⟩; have hb6 : Below w4.heap.size w4 w6 := hb5.trans (hg.mono hb5.size); have z0 := cell_keeps hg y0; have z1 := cell_keeps hg y1; have z2 := cell_keeps hg y2; have z3 := cell_keeps hg y3; clear hg hb5 y0 y1 y2 y3)
           | (go_at_call 15; refine Calls.mono (hsp.out _) ?_; rintro r w7 ⟨rfl, hg⟩; have hb7 : Below w4.heap.size w4 w7 := hb6.trans (hg.mono hb6.size); have k0 := cell_keeps hg z0; have k1 := cell_keeps hg z1; have k2 := cell_keeps hg z2; have k3 := cell_keeps hg z3; clear hg hb6 z0 z1 z2 z3))
  have hb8 : Below w.heap.size w w7 := hb4.trans (hb7.mono hb4.size)
  clear k0 k1 k2 k3
  go_wp2_with fail
  go_ret
  exact ⟨rfl, hb8⟩

theorem right_walk (d : Nat) (t : VT) (u : Value) (w : World) (hu : Lies d w t.items u) (ht : t.text.size ≤ 9223372036854775807) :
    Calls Try.prog 3 #[.agg #[.int .i64 t.kind, .int .i64 t.num, .string t.text, u]] w fun e w' => e = .returned (.bool true) ∧ Below w.heap.size w w' := by
  obtain ⟨a, c, rfl, _⟩ := Lies.slice hu
  exact right_core t a t.items.length c w (partZ d t) (errOf (rightV d t)) (deepZ d t) (fun W hW => parts_any d t _ W (Lies.keeps hW _ _ _ hu) ht) (fun W hW => rparts_any d t _ W (Lies.keeps hW _ _ _ hu))
    (fun W hW => pdeep_any d t _ W (Lies.keeps hW _ _ _ hu) ht) (fun W hW => rdeep_any d t _ W (Lies.keeps hW _ _ _ hu)) (fun W hW => check_any d t _ W (Lies.keeps hW _ _ _ hu) ht) (fun W hW => rcheck_any d t _ W (Lies.keeps hW _ _ _ hu))

end Go.Proofs.Ytajjkkfegcmkkaa

