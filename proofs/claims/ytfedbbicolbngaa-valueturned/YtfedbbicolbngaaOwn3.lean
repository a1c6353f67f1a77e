/-
  The contract of the document's own: sets and maps.
-/
import Derived.Test.YtfedbbicolbngaaOwn2
namespace Go.Proofs.Ytfedbbicolbngaa
open Go.RowKit

set_option maxHeartbeats 2000000 in
theorem own_k5 (d : Nat) (l : List VT) (tx : ByteArray) (u : Value) (w : World) (hu : Lies (d + 1) w l u) (hlen : l.length ≤ 1024) (ht : tx.toList.isEmpty = true) :
    Calls Try.prog 63 #[.agg #[.int .i64 5, .int .i64 0, .string tx, u]] w fun e w' => e = .returned (.bool (risF (cmpV d) 1 l l.length 0)) ∧ Below w.heap.size w w' := by
  obtain ⟨a1, c1, rfl, hb1, hr1⟩ := hu
  have Hr1 : Hid _ := hr1
  clear hr1 hb1
  have hal := ((Grew.refl w).alloc (.cells #[.int .i64 5, .int .i64 0, .string tx, .slice a1 l.length c1] 24)).below
  have HX : Hid (Boxed (w.alloc (.cells #[.int .i64 5, .int .i64 0, .string tx, .slice a1 l.length c1] 24)) w.heap.size 5 0 tx (.slice a1 l.length c1)) := boxed_alloc w 5 0 tx _ 24
  go_enter Try.func63, Try.ntmps63
  go_wp2_with fail
  refine (isColl_any _ _).mono ?_
  rintro e w0 ⟨rfl, rfl⟩
  go_wp2_with fail
  go_loopg [4] (l.length + 1) (fun g i wr => ∃ j k b : Nat, i = .int .i64 (k : Int) ∧ Hid (k = j + 1) ∧ j ≤ l.length + 1 ∧ l.length ≤ j + b ∧ g = l.length + 1 - j ∧ Hid (risF (cmpV d) 1 l l.length 0 = risF (cmpV d) 1 l b j) ∧ Below w.heap.size w wr ∧ Boxed wr w.heap.size 5 0 tx (.slice a1 l.length c1))
  case atStart => exact ⟨0, 1, l.length, rfl, rfl, by omega, by omega, by omega, rfl, hal, HX.out⟩
  case round =>
    obtain ⟨j, k, b, rfl, Hkj, hj, hjb, hk, Hc, hbw, hbx⟩ := hrel
    have Hk : Hid _ := hk
    have HB : Hid (Boxed wr w.heap.size 5 0 tx (.slice a1 l.length c1)) := hbx
    obtain ⟨_, _, _, x3⟩ := hbx
    clear hk HX hal
    have hkj := Hkj.out
    by_cases hlt : k < l.length
    · obtain ⟨b1, o1, rfl, hall1⟩ := Hr1.out (by intro e; simp [e] at hlt)
      have hlj : j < l.length := by omega
      have hljs : j + 1 < l.length := by omega
      obtain ⟨x, p0, p1, p2, p3, p4, _⟩ := hall1 j hlj
      obtain ⟨y, q0, q1, q2, q3, q4, _⟩ := hall1 k hlt
      clear hall1
      have hwr : IntKind.i64.wrap ((k : Int) - 1) = (j : Int) := by rw [IntKind.wrap_i64]; omega
      have Hst : Hid _ := risF_step (cmpV d) 1 l (b - 1) j hlj hljs
      have hbb : b - 1 + 1 = b := by omega
      rw [hbb] at Hst
      have hlk : l[j + 1]'hljs = l[k] := by congr 1; exact hkj.symm
      rw [hlk] at Hst
      clear hbb hlk
      obtain ⟨ax, cx, rfl, _⟩ := Lies.slice p4
      obtain ⟨ay, cy, rfl, _⟩ := Lies.slice q4
      have p0 := cell_keeps hbw p0; have p1 := cell_keeps hbw p1; have p2 := cell_keeps hbw p2; have p3 := cell_keeps hbw p3
      have q0 := cell_keeps hbw q0; have q1 := cell_keeps hbw q1; have q2 := cell_keeps hbw q2; have q3 := cell_keeps hbw q3
      have p4 := Lies.keeps hbw.drew _ _ _ p4
      have q4 := Lies.keeps hbw.drew _ _ _ q4
      have hcm : Hid _ := ref_any d l[j] l[k] _ _ wr.drew p4 q4
      clear p4 q4
      have hjk : j < k := by omega
      clear hkj
      have hcr := cmpV_range d l[j] l[k]
      have Hcr : Hid _ := hcr
      clear hcr
      go_wp2_with fail
      go_region_held3 (fun w' => w'.cell? ⟨w.heap.size, 3, none⟩ = some (.slice (some ⟨b1, o1, none⟩) l.length c1)
          ∧ w'.cell? ⟨b1, o1 + j * 4, none⟩ = some (.int .i64 l[j].kind) ∧ w'.cell? ⟨b1, o1 + j * 4 + 1, none⟩ = some (.int .i64 l[j].num) ∧ w'.cell? ⟨b1, o1 + j * 4 + 2, none⟩ = some (.string l[j].text) ∧ w'.cell? ⟨b1, o1 + j * 4 + 3, none⟩ = some (.slice ax l[j].items.length cx)
          ∧ w'.cell? ⟨b1, o1 + k * 4, none⟩ = some (.int .i64 l[k].kind) ∧ w'.cell? ⟨b1, o1 + k * 4 + 1, none⟩ = some (.int .i64 l[k].num) ∧ w'.cell? ⟨b1, o1 + k * 4 + 2, none⟩ = some (.string l[k].text) ∧ w'.cell? ⟨b1, o1 + k * 4 + 3, none⟩ = some (.slice ay l[k].items.length cy)) (go_keep)
          (first | (go_at_call 16; refine Calls.mono hcm.out ?_; rintro e w1 ⟨rfl, hb1⟩; have hb2 : Below wr.heap.size wr w1 := ((Below.refl wr.heap.size wr).drew).trans hb1; clear hb1; have r0 := cell_keeps hb2 p0; have r1 := cell_keeps hb2 p1; have r2 := cell_keeps hb2 p2; have r3 := cell_keeps hb2 p3; have t0 := cell_keeps hb2 q0; have t1 := cell_keeps hb2 q1; have t2 := cell_keeps hb2 q2; have t3 := cell_keeps hb2 q3; have y3 := cell_keeps hb2 x3))
      clear hcm p0 p1 p2 p3 q0 q1 q2 q3 r0 r1 r2 r3 t0 t1 t2 t3 hwr x3 y3
      have hb3 : Below w.heap.size w w1 := hbw.trans (hb2.mono hbw.size)
      have HB1 : Hid (Boxed w1 w.heap.size 5 0 tx (.slice (some ⟨b1, o1, none⟩) l.length c1)) := HB.out.keeps hb2
      clear HB hb2
      by_cases hz : 0 ≤ cmpV d l[j] l[k]
      · have hfin : Hid (risF (cmpV d) 1 l l.length 0 = false) := by
          show _ = _
          rw [Hc.out, Hst.out, if_pos hz]
        clear Hst Hc
        go_wp2_with fail
        go_ret
        exact ⟨by rw [hfin.out]; rfl, hb3⟩
      · have hfin : Hid (risF (cmpV d) 1 l l.length 0 = risF (cmpV d) 1 l (b - 1) (j + 1)) := by
          show _ = _
          rw [Hc.out, Hst.out, if_neg hz]
        clear Hst Hc
        go_wp2_with fail
        go_roundg (l.length + 1 - (j + 1))
        case measure => have := Hk.out; have := Hkj.out; omega
        case rel =>
          have e1 := Hkj.out
          exact ⟨j + 1, k + 1, b - 1, by go_num, by show _ = _; omega, by omega, by omega, rfl, hfin, hb3, HB1.out⟩
    · have Hs : Hid _ := risF_end (cmpV d) 1 l b j (by omega)
      clear hkj
      go_wp2_with fail
      go_ret
      exact ⟨by rw [Hc.out, Hs.out]; rfl, hbw⟩

set_option maxHeartbeats 2000000 in
theorem own_k6 (d : Nat) (l : List VT) (tx : ByteArray) (u : Value) (w : World) (hu : Lies (d + 1) w l u) (hlen : l.length ≤ 1024) (ht : tx.toList.isEmpty = true) (hev : l.length % 2 = 0) :
    Calls Try.prog 63 #[.agg #[.int .i64 6, .int .i64 0, .string tx, u]] w fun e w' => e = .returned (.bool (risF (cmpV d) 2 l l.length 0)) ∧ Below w.heap.size w w' := by
  obtain ⟨a1, c1, rfl, hb1, hr1⟩ := hu
  have Hr1 : Hid _ := hr1
  clear hr1 hb1
  have hev' : ((l.length : Int).tmod 2 != 0) = false := by
    have : (l.length : Int).tmod 2 = 0 := by rw [Int.tmod_eq_emod_of_nonneg (by omega)]; omega
    simp [this]
  have hev2 : (l.length : Int).tmod 2 = 0 := by rw [Int.tmod_eq_emod_of_nonneg (by omega)]; omega
  have hal := ((Grew.refl w).alloc (.cells #[.int .i64 6, .int .i64 0, .string tx, .slice a1 l.length c1] 24)).below
  have HX : Hid (Boxed (w.alloc (.cells #[.int .i64 6, .int .i64 0, .string tx, .slice a1 l.length c1] 24)) w.heap.size 6 0 tx (.slice a1 l.length c1)) := boxed_alloc w 6 0 tx _ 24
  go_enter Try.func63, Try.ntmps63
  go_wp2_with fail
  refine (isColl_any _ _).mono ?_
  rintro e w0 ⟨rfl, rfl⟩
  go_wp2_with fail
  go_loopg [4] (l.length + 2) (fun g i wr => ∃ j k b : Nat, i = .int .i64 (k : Int) ∧ Hid (k = j + 2) ∧ j ≤ l.length + 2 ∧ l.length ≤ j + b ∧ g = l.length + 2 - j ∧ Hid (risF (cmpV d) 2 l l.length 0 = risF (cmpV d) 2 l b j) ∧ Below w.heap.size w wr ∧ Boxed wr w.heap.size 6 0 tx (.slice a1 l.length c1))
  case atStart => exact ⟨0, 2, l.length, rfl, rfl, by omega, by omega, by omega, rfl, hal, HX.out⟩
  case round =>
    obtain ⟨j, k, b, rfl, Hkj, hj, hjb, hk, Hc, hbw, hbx⟩ := hrel
    have Hk : Hid _ := hk
    have HB : Hid (Boxed wr w.heap.size 6 0 tx (.slice a1 l.length c1)) := hbx
    obtain ⟨_, _, _, x3⟩ := hbx
    clear hk HX hal
    have hkj := Hkj.out
    by_cases hlt : k < l.length
    · obtain ⟨b1, o1, rfl, hall1⟩ := Hr1.out (by intro e; simp [e] at hlt)
      have hlj : j < l.length := by omega
      have hljs : j + 2 < l.length := by omega
      obtain ⟨x, p0, p1, p2, p3, p4, _⟩ := hall1 j hlj
      obtain ⟨y, q0, q1, q2, q3, q4, _⟩ := hall1 k hlt
      clear hall1
      have hwr : IntKind.i64.wrap ((k : Int) - 2) = (j : Int) := by rw [IntKind.wrap_i64]; omega
      have Hst : Hid _ := risF_step (cmpV d) 2 l (b - 1) j hlj hljs
      have hbb : b - 1 + 1 = b := by omega
      rw [hbb] at Hst
      have hlk : l[j + 2]'hljs = l[k] := by congr 1; exact hkj.symm
      rw [hlk] at Hst
      clear hbb hlk
      obtain ⟨ax, cx, rfl, _⟩ := Lies.slice p4
      obtain ⟨ay, cy, rfl, _⟩ := Lies.slice q4
      have p0 := cell_keeps hbw p0; have p1 := cell_keeps hbw p1; have p2 := cell_keeps hbw p2; have p3 := cell_keeps hbw p3
      have q0 := cell_keeps hbw q0; have q1 := cell_keeps hbw q1; have q2 := cell_keeps hbw q2; have q3 := cell_keeps hbw q3
      have p4 := Lies.keeps hbw.drew _ _ _ p4
      have q4 := Lies.keeps hbw.drew _ _ _ q4
      have hcm : Hid _ := ref_any d l[j] l[k] _ _ wr.drew p4 q4
      clear p4 q4
      have hjk : j < k := by omega
      clear hkj
      have hcr := cmpV_range d l[j] l[k]
      have Hcr : Hid _ := hcr
      clear hcr
      go_wp2_with fail
      go_region_held3 (fun w' => w'.cell? ⟨w.heap.size, 3, none⟩ = some (.slice (some ⟨b1, o1, none⟩) l.length c1)
          ∧ w'.cell? ⟨b1, o1 + j * 4, none⟩ = some (.int .i64 l[j].kind) ∧ w'.cell? ⟨b1, o1 + j * 4 + 1, none⟩ = some (.int .i64 l[j].num) ∧ w'.cell? ⟨b1, o1 + j * 4 + 2, none⟩ = some (.string l[j].text) ∧ w'.cell? ⟨b1, o1 + j * 4 + 3, none⟩ = some (.slice ax l[j].items.length cx)
          ∧ w'.cell? ⟨b1, o1 + k * 4, none⟩ = some (.int .i64 l[k].kind) ∧ w'.cell? ⟨b1, o1 + k * 4 + 1, none⟩ = some (.int .i64 l[k].num) ∧ w'.cell? ⟨b1, o1 + k * 4 + 2, none⟩ = some (.string l[k].text) ∧ w'.cell? ⟨b1, o1 + k * 4 + 3, none⟩ = some (.slice ay l[k].items.length cy)) (go_keep)
          (first | (go_at_call 16; refine Calls.mono hcm.out ?_; rintro e w1 ⟨rfl, hb1⟩; have hb2 : Below wr.heap.size wr w1 := ((Below.refl wr.heap.size wr).drew).trans hb1; clear hb1; have r0 := cell_keeps hb2 p0; have r1 := cell_keeps hb2 p1; have r2 := cell_keeps hb2 p2; have r3 := cell_keeps hb2 p3; have t0 := cell_keeps hb2 q0; have t1 := cell_keeps hb2 q1; have t2 := cell_keeps hb2 q2; have t3 := cell_keeps hb2 q3; have y3 := cell_keeps hb2 x3))
      clear hcm p0 p1 p2 p3 q0 q1 q2 q3 r0 r1 r2 r3 t0 t1 t2 t3 hwr x3 y3
      have hb3 : Below w.heap.size w w1 := hbw.trans (hb2.mono hbw.size)
      have HB1 : Hid (Boxed w1 w.heap.size 6 0 tx (.slice (some ⟨b1, o1, none⟩) l.length c1)) := HB.out.keeps hb2
      clear HB hb2
      by_cases hz : 0 ≤ cmpV d l[j] l[k]
      · have hfin : Hid (risF (cmpV d) 2 l l.length 0 = false) := by
          show _ = _
          rw [Hc.out, Hst.out, if_pos hz]
        clear Hst Hc
        go_wp2_with fail
        go_ret
        exact ⟨by rw [hfin.out]; rfl, hb3⟩
      · have hfin : Hid (risF (cmpV d) 2 l l.length 0 = risF (cmpV d) 2 l (b - 1) (j + 2)) := by
          show _ = _
          rw [Hc.out, Hst.out, if_neg hz]
        clear Hst Hc
        go_wp2_with fail
        go_roundg (l.length + 2 - (j + 2))
        case measure => have := Hk.out; have := Hkj.out; omega
        case rel =>
          have e1 := Hkj.out
          exact ⟨j + 2, k + 2, b - 1, by go_num, by show _ = _; omega, by omega, by omega, rfl, hfin, hb3, HB1.out⟩
    · have Hs : Hid _ := risF_end (cmpV d) 2 l b j (by omega)
      clear hkj
      go_wp2_with fail
      go_ret
      exact ⟨by rw [Hc.out, Hs.out]; rfl, hbw⟩

set_option maxHeartbeats 2000000 in
theorem own_odd (l : Nat) (tx : ByteArray) (a : Option Addr) (c : Nat) (w : World) (ht : tx.toList.isEmpty = true) (hev : l % 2 = 1) :
    Calls Try.prog 63 #[.agg #[.int .i64 6, .int .i64 0, .string tx, .slice a l c]] w fun e w' => e = .returned (.bool false) ∧ Below w.heap.size w w' := by
  have hev2 : (l : Int).tmod 2 = 1 := by rw [Int.tmod_eq_emod_of_nonneg (by omega)]; omega
  have hal := ((Grew.refl w).alloc (.cells #[.int .i64 6, .int .i64 0, .string tx, .slice a l c] 24)).below
  go_enter Try.func63, Try.ntmps63
  go_wp2_with fail
  refine (isColl_any _ _).mono ?_
  rintro e w0 ⟨rfl, rfl⟩
  go_wp2_with fail
  go_ret
  exact ⟨rfl, hal⟩

end Go.Proofs.Ytfedbbicolbngaa
