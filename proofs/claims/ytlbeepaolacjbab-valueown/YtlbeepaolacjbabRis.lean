/-
  The contract of rising.
-/
import Derived.Test.YtlbeepaolacjbabCmp
import Derived.Deep.RegionHeld3
namespace Go.Proofs.Ytlbeepaolacjbab
open Go.RowKit

/-- Of every step-th item from place j on: each below the one behind. -/
def risF (f : VT → VT → Int) (step : Nat) (l : List VT) : Nat → Nat → Bool
  | 0, _ => true
  | b + 1, j => match l[j]?, l[j + step]? with
    | some x, some y => if 0 ≤ f x y then false else risF f step l b (j + step)
    | _, _ => true

theorem risF_end (f : VT → VT → Int) (step : Nat) (l : List VT) (b j : Nat) (h : ¬ j + step < l.length) : risF f step l b j = true := by
  cases b with
  | zero => rfl
  | succ b =>
    unfold risF
    rw [List.getElem?_eq_none (l := l) (i := j + step) (by omega)]
    cases l[j]? <;> rfl

theorem risF_step (f : VT → VT → Int) (step : Nat) (l : List VT) (b j : Nat) (h0 : j < l.length) (h : j + step < l.length) : risF f step l (b + 1) j = if 0 ≤ f l[j] l[j + step] then false else risF f step l b (j + step) := by
  conv => lhs; unfold risF
  rw [List.getElem?_eq_getElem h0, List.getElem?_eq_getElem h]

set_option maxHeartbeats 1000000 in
theorem rising1 (d : Nat) (l : List VT) (u : Value) (w : World) (hu : Lies (d + 1) w l u) (hlen : l.length ≤ 1024) :
    Calls Try.prog 58 #[u, .int .i64 1] w fun e w' => e = .returned (.bool (risF (cmpV d) 1 l l.length 0)) ∧ Grew w w' := by
  obtain ⟨a1, c1, rfl, hb1, hr1⟩ := hu
  have Hr1 : Hid _ := hr1
  clear hr1 hb1
  go_enter Try.func58, Try.ntmps58
  go_wp2_with fail
  go_loopg [5] (l.length + 1) (fun g i wr => ∃ j k b : Nat, i = .int .i64 (k : Int) ∧ Hid (k = j + 1) ∧ j ≤ l.length + 1 ∧ l.length ≤ j + b ∧ g = l.length + 1 - j ∧ Hid (risF (cmpV d) 1 l l.length 0 = risF (cmpV d) 1 l b j) ∧ Grew w wr)
  case atStart => exact ⟨0, 1, l.length, rfl, rfl, by omega, by omega, by omega, rfl, Grew.refl _⟩
  case round =>
    obtain ⟨j, k, b, rfl, Hkj, hj, hjb, hk, Hc, hbw⟩ := hrel
    have Hk : Hid _ := hk
    clear hk
    have hkj := Hkj.out
    by_cases hlt : k < l.length
    · obtain ⟨b1, o1, rfl, hall1⟩ := Hr1.out (by intro e; simp [e] at hlt)
      have hlj : j < l.length := by omega
      have hljs : j + 1 < l.length := by omega
      obtain ⟨x, p0, p1, p2, p3, p4, _⟩ := hall1 j hlj
      obtain ⟨y, q0, q1, q2, q3, q4, _⟩ := hall1 k hlt
      clear hall1
      have hwr : IntKind.i64.wrap ((k : Int) - 1) = (j : Int) := by rw [IntKind.wrap_i64]; omega
      have Hst : Hid _ := risF_step (cmpV d) 1 l (b - 1) j hlj hljs
      have hbb : b - 1 + 1 = b := by omega
      rw [hbb] at Hst
      have hlk : l[j + 1]'hljs = l[k] := by congr 1; exact hkj.symm
      rw [hlk] at Hst
      clear hbb hlk
      obtain ⟨ax, cx, rfl, _⟩ := Lies.slice p4
      obtain ⟨ay, cy, rfl, _⟩ := Lies.slice q4
      have p0 := cell_keeps hbw.below p0; have p1 := cell_keeps hbw.below p1; have p2 := cell_keeps hbw.below p2; have p3 := cell_keeps hbw.below p3
      have q0 := cell_keeps hbw.below q0; have q1 := cell_keeps hbw.below q1; have q2 := cell_keeps hbw.below q2; have q3 := cell_keeps hbw.below q3
      have p4 := Lies.keeps hbw.drew.below _ _ _ p4
      have q4 := Lies.keeps hbw.drew.below _ _ _ q4
      have hcm : Hid _ := compare_any d l[j] l[k] _ _ wr.drew p4 q4
      clear p4 q4
      have hjk : j < k := by omega
      clear hkj
      have hcr := cmpV_range d l[j] l[k]
      have Hcr : Hid _ := hcr
      clear hcr
      go_wp2_with fail
      go_region_held3 (fun w' => w'.cell? ⟨b1, o1 + j * 4, none⟩ = some (.int .i64 l[j].kind) ∧ w'.cell? ⟨b1, o1 + j * 4 + 1, none⟩ = some (.int .i64 l[j].num) ∧ w'.cell? ⟨b1, o1 + j * 4 + 2, none⟩ = some (.string l[j].text) ∧ w'.cell? ⟨b1, o1 + j * 4 + 3, none⟩ = some (.slice ax l[j].items.length cx)
          ∧ w'.cell? ⟨b1, o1 + k * 4, none⟩ = some (.int .i64 l[k].kind) ∧ w'.cell? ⟨b1, o1 + k * 4 + 1, none⟩ = some (.int .i64 l[k].num) ∧ w'.cell? ⟨b1, o1 + k * 4 + 2, none⟩ = some (.string l[k].text) ∧ w'.cell? ⟨b1, o1 + k * 4 + 3, none⟩ = some (.slice ay l[k].items.length cy)) (go_keep)
          (first | (go_at_call 22; refine Calls.mono hcm.out ?_; rintro e w1 ⟨rfl, hb1⟩; have hb2 : Grew wr w1 := ((Grew.refl wr).drew).trans hb1; clear hb1; have r0 := cell_keeps hb2.below p0; have r1 := cell_keeps hb2.below p1; have r2 := cell_keeps hb2.below p2; have r3 := cell_keeps hb2.below p3; have t0 := cell_keeps hb2.below q0; have t1 := cell_keeps hb2.below q1; have t2 := cell_keeps hb2.below q2; have t3 := cell_keeps hb2.below q3))
      clear hcm p0 p1 p2 p3 q0 q1 q2 q3 r0 r1 r2 r3 t0 t1 t2 t3 hwr
      have hb3 : Grew w w1 := hbw.trans hb2
      by_cases hz : 0 ≤ cmpV d l[j] l[k]
      · have hfin : Hid (risF (cmpV d) 1 l l.length 0 = false) := by
          show _ = _
          rw [Hc.out, Hst.out, if_pos hz]
        clear Hst Hc
        go_wp2_with fail
        go_ret
        exact ⟨by rw [hfin.out]; rfl, hb3⟩
      · have hfin : Hid (risF (cmpV d) 1 l l.length 0 = risF (cmpV d) 1 l (b - 1) (j + 1)) := by
          show _ = _
          rw [Hc.out, Hst.out, if_neg hz]
        clear Hst Hc
        go_wp2_with fail
        go_roundg (l.length + 1 - (j + 1))
        case measure => have := Hk.out; have := Hkj.out; omega
        case rel =>
          have e1 := Hkj.out
          exact ⟨j + 1, k + 1, b - 1, by go_num, by show _ = _; omega, by omega, by omega, rfl, hfin, hb3⟩
    · have Hs : Hid _ := risF_end (cmpV d) 1 l b j (by omega)
      clear hkj
      go_wp2_with fail
      go_ret
      exact ⟨by rw [Hc.out, Hs.out]; rfl, hbw⟩

set_option maxHeartbeats 1000000 in
theorem rising2 (d : Nat) (l : List VT) (u : Value) (w : World) (hu : Lies (d + 1) w l u) (hlen : l.length ≤ 1024) :
    Calls Try.prog 58 #[u, .int .i64 2] w fun e w' => e = .returned (.bool (risF (cmpV d) 2 l l.length 0)) ∧ Grew w w' := by
  obtain ⟨a1, c1, rfl, hb1, hr1⟩ := hu
  have Hr1 : Hid _ := hr1
  clear hr1 hb1
  go_enter Try.func58, Try.ntmps58
  go_wp2_with fail
  go_loopg [5] (l.length + 2) (fun g i wr => ∃ j k b : Nat, i = .int .i64 (k : Int) ∧ Hid (k = j + 2) ∧ j ≤ l.length + 2 ∧ l.length ≤ j + b ∧ g = l.length + 2 - j ∧ Hid (risF (cmpV d) 2 l l.length 0 = risF (cmpV d) 2 l b j) ∧ Grew w wr)
  case atStart => exact ⟨0, 2, l.length, rfl, rfl, by omega, by omega, by omega, rfl, Grew.refl _⟩
  case round =>
    obtain ⟨j, k, b, rfl, Hkj, hj, hjb, hk, Hc, hbw⟩ := hrel
    have Hk : Hid _ := hk
    clear hk
    have hkj := Hkj.out
    by_cases hlt : k < l.length
    · obtain ⟨b1, o1, rfl, hall1⟩ := Hr1.out (by intro e; simp [e] at hlt)
      have hlj : j < l.length := by omega
      have hljs : j + 2 < l.length := by omega
      obtain ⟨x, p0, p1, p2, p3, p4, _⟩ := hall1 j hlj
      obtain ⟨y, q0, q1, q2, q3, q4, _⟩ := hall1 k hlt
      clear hall1
      have hwr : IntKind.i64.wrap ((k : Int) - 2) = (j : Int) := by rw [IntKind.wrap_i64]; omega
      have Hst : Hid _ := risF_step (cmpV d) 2 l (b - 1) j hlj hljs
      have hbb : b - 1 + 1 = b := by omega
      rw [hbb] at Hst
      have hlk : l[j + 2]'hljs = l[k] := by congr 1; exact hkj.symm
      rw [hlk] at Hst
      clear hbb hlk
      obtain ⟨ax, cx, rfl, _⟩ := Lies.slice p4
      obtain ⟨ay, cy, rfl, _⟩ := Lies.slice q4
      have p0 := cell_keeps hbw.below p0; have p1 := cell_keeps hbw.below p1; have p2 := cell_keeps hbw.below p2; have p3 := cell_keeps hbw.below p3
      have q0 := cell_keeps hbw.below q0; have q1 := cell_keeps hbw.below q1; have q2 := cell_keeps hbw.below q2; have q3 := cell_keeps hbw.below q3
      have p4 := Lies.keeps hbw.drew.below _ _ _ p4
      have q4 := Lies.keeps hbw.drew.below _ _ _ q4
      have hcm : Hid _ := compare_any d l[j] l[k] _ _ wr.drew p4 q4
      clear p4 q4
      have hjk : j < k := by omega
      clear hkj
      have hcr := cmpV_range d l[j] l[k]
      have Hcr : Hid _ := hcr
      clear hcr
      go_wp2_with fail
      go_region_held3 (fun w' => w'.cell? ⟨b1, o1 + j * 4, none⟩ = some (.int .i64 l[j].kind) ∧ w'.cell? ⟨b1, o1 + j * 4 + 1, none⟩ = some (.int .i64 l[j].num) ∧ w'.cell? ⟨b1, o1 + j * 4 + 2, none⟩ = some (.string l[j].text) ∧ w'.cell? ⟨b1, o1 + j * 4 + 3, none⟩ = some (.slice ax l[j].items.length cx)
          ∧ w'.cell? ⟨b1, o1 + k * 4, none⟩ = some (.int .i64 l[k].kind) ∧ w'.cell? ⟨b1, o1 + k * 4 + 1, none⟩ = some (.int .i64 l[k].num) ∧ w'.cell? ⟨b1, o1 + k * 4 + 2, none⟩ = some (.string l[k].text) ∧ w'.cell? ⟨b1, o1 + k * 4 + 3, none⟩ = some (.slice ay l[k].items.length cy)) (go_keep)
          (first | (go_at_call 22; refine Calls.mono hcm.out ?_; rintro e w1 ⟨rfl, hb1⟩; have hb2 : Grew wr w1 := ((Grew.refl wr).drew).trans hb1; clear hb1; have r0 := cell_keeps hb2.below p0; have r1 := cell_keeps hb2.below p1; have r2 := cell_keeps hb2.below p2; have r3 := cell_keeps hb2.below p3; have t0 := cell_keeps hb2.below q0; have t1 := cell_keeps hb2.below q1; have t2 := cell_keeps hb2.below q2; have t3 := cell_keeps hb2.below q3))
      clear hcm p0 p1 p2 p3 q0 q1 q2 q3 r0 r1 r2 r3 t0 t1 t2 t3 hwr
      have hb3 : Grew w w1 := hbw.trans hb2
      by_cases hz : 0 ≤ cmpV d l[j] l[k]
      · have hfin : Hid (risF (cmpV d) 2 l l.length 0 = false) := by
          show _ = _
          rw [Hc.out, Hst.out, if_pos hz]
        clear Hst Hc
        go_wp2_with fail
        go_ret
        exact ⟨by rw [hfin.out]; rfl, hb3⟩
      · have hfin : Hid (risF (cmpV d) 2 l l.length 0 = risF (cmpV d) 2 l (b - 1) (j + 2)) := by
          show _ = _
          rw [Hc.out, Hst.out, if_neg hz]
        clear Hst Hc
        go_wp2_with fail
        go_roundg (l.length + 2 - (j + 2))
        case measure => have := Hk.out; have := Hkj.out; omega
        case rel =>
          have e1 := Hkj.out
          exact ⟨j + 2, k + 2, b - 1, by go_num, by show _ = _; omega, by omega, by omega, rfl, hfin, hb3⟩
    · have Hs : Hid _ := risF_end (cmpV d) 2 l b j (by omega)
      clear hkj
      go_wp2_with fail
      go_ret
      exact ⟨by rw [Hc.out, Hs.out]; rfl, hbw⟩

end Go.Proofs.Ytlbeepaolacjbab
