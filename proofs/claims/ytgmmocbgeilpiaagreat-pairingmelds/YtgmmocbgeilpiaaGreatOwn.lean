/-
  The contract of the document's own at every value: it is the program's.
-/
import Derived.Test.YtgmmocbgeilpiaaGreatRunesL
import Derived.Test.YtgmmocbgeilpiaaGreatParts
import Derived.Test.YtgmmocbgeilpiaaGreatRis
import Derived.Deep.RegionHeld3
namespace Go.Proofs.YtgmmocbgeilpiaaGreat
open Go.RowKit

theorem isColl_any (k : Int) (w : World) : Calls Tryz.prog 83 #[.int .i64 k] w fun e w' => e = .returned (.bool (k == 4 || (k == 5 || k == 6))) ∧ w' = w := by
  cases h4 : (k == 4)
  · cases h5 : (k == 5)
    · cases h6 : (k == 6)
      · go_enter Tryz.func83, Tryz.ntmps83
        go_wp2_with fail
        go_ret
        exact ⟨rfl, rfl⟩
      · go_enter Tryz.func83, Tryz.ntmps83
        go_wp2_with fail
        go_ret
        exact ⟨rfl, rfl⟩
    · go_enter Tryz.func83, Tryz.ntmps83
      go_wp2_with fail
      go_ret
      exact ⟨rfl, rfl⟩
  · go_enter Tryz.func83, Tryz.ntmps83
    go_wp2_with fail
    go_ret
    exact ⟨rfl, rfl⟩

set_option maxHeartbeats 1000000 in
theorem own_out (t : VT) (a : Option Addr) (l c : Nat) (w : World) (h : t.kind < 0 ∨ 6 < t.kind) :
    Calls Tryz.prog 61 #[.agg #[.int .i64 t.kind, .int .i64 t.num, .string t.text, .slice a l c]] w fun e w' => e = .returned (.bool false) ∧ Below w.heap.size w w' := by
  by_cases h0 : t.kind < 0
  · clear h
    go_enter Tryz.func61, Tryz.ntmps61
    go_wp2_with fail
    go_ret
    exact ⟨rfl, ((Grew.refl _).alloc _).below⟩
  · have h1 : 6 < t.kind := by omega
    clear h
    go_enter Tryz.func61, Tryz.ntmps61
    go_wp2_with fail
    go_ret
    exact ⟨rfl, ((Grew.refl _).alloc _).below⟩

set_option maxHeartbeats 1000000 in
theorem own_num (t : VT) (a : Option Addr) (l c : Nat) (w : World) (h0 : 0 ≤ t.kind) (h6 : t.kind ≤ 6) (hn : okNum t = false) :
    Calls Tryz.prog 61 #[.agg #[.int .i64 t.kind, .int .i64 t.num, .string t.text, .slice a l c]] w fun e w' => e = .returned (.bool false) ∧ Below w.heap.size w w' := by
  have h2 : (t.kind == 2) = false := by
    cases e : (t.kind == 2)
    · rfl
    · simp [okNum, e] at hn
  have h2' : (t.kind != 2) = true := by simp [bne, h2]
  have hz : (t.num == 0) = false := by
    cases e : (t.num == 0)
    · rfl
    · exfalso; simp only [okNum, h2, e] at hn; revert hn; cases (t.kind == 1) <;> simp
  have hz' : (t.num != 0) = true := by simp [bne, hz]
  cases h1 : (t.kind == 1)
  · clear hn
    go_enter Tryz.func61, Tryz.ntmps61
    go_wp2_with fail
    go_ret
    exact ⟨rfl, ((Grew.refl _).alloc _).below⟩
  · have hz1 : (t.num == 1) = false := by
      cases e : (t.num == 1)
      · rfl
      · simp [okNum, h2, h1, e] at hn
    clear hn
    go_enter Tryz.func61, Tryz.ntmps61
    go_wp2_with fail
    go_ret
    exact ⟨rfl, ((Grew.refl _).alloc _).below⟩

/-- The tests on a number, decided where it is right. -/
theorem num_tests {t : VT} (hn : okNum t = true) : (t.kind != 2) = false ∨ ((t.kind != 2) = true ∧ (t.num != 0) = false) ∨ ((t.kind != 2) = true ∧ (t.num != 0) = true ∧ (t.kind == 1) = true ∧ (t.num == 1) = true) := by
  cases h2 : (t.kind == 2)
  · cases hz : (t.num == 0)
    · cases h1 : (t.kind == 1)
      · simp [okNum, h2, h1, hz] at hn
      · have : (t.num == 1) = true := by simpa [okNum, h2, h1, hz] using hn
        exact .inr (.inr ⟨by simp [bne, h2], by simp [bne, hz], rfl, this⟩)
    · exact .inr (.inl ⟨by simp [bne, h2], by simp [bne, hz]⟩)
  · exact .inl (by simp [bne, h2])

set_option maxHeartbeats 2000000 in
theorem own_text3 (t : VT) (a : Option Addr) (c : Nat) (w : World) (hk : t.kind = 3) (hz : t.num = 0) :
    Calls Tryz.prog 61 #[.agg #[.int .i64 t.kind, .int .i64 t.num, .string t.text, .slice a t.items.length c]] w fun e w' => e = .returned (.bool (decide (t.text.size ≤ 256) && (utfB t.text && decide (t.items.length = 0)))) ∧ Below w.heap.size w w' := by
  have hal := ((Grew.refl w).alloc (.cells #[.int .i64 3, .int .i64 0, .string t.text, .slice a t.items.length c] 37)).below
  have HR : Hid (decide (0 ≤ lettersZ t.text) = utfB t.text) := letters_right t.text
  rw [hk, hz]
  clear hk hz
  by_cases hs : t.text.size ≤ 256
  · have hs' : (t.text.size : Int) ≤ 256 := by omega
    have hbx := boxed_alloc w 3 0 t.text (.slice a t.items.length c) 37
    obtain ⟨x0, x1, x2, x3⟩ := hbx
    by_cases hl : 0 ≤ lettersZ t.text
    · have hu : Hid (utfB t.text = true) := by show _ = _; rw [← HR.out]; simpa using hl
      go_enter Tryz.func61, Tryz.ntmps61
      go_wp2_with fail
      refine (letters_any t.text _ (by omega)).mono ?_
      rintro e w1 ⟨rfl, rfl⟩
      go_wp2_with fail
      go_ret
      refine ⟨?_, hal⟩
      rw [hu.out]
      by_cases h0 : t.items.length = 0
      · simp [hs, h0]
      · simp [hs, h0]
    · have hl2 : lettersZ t.text < 0 := by omega
      have hu : Hid (utfB t.text = false) := by show _ = _; rw [← HR.out]; simpa using hl2
      clear hl
      go_enter Tryz.func61, Tryz.ntmps61
      go_wp2_with fail
      refine (letters_any t.text _ (by omega)).mono ?_
      rintro e w1 ⟨rfl, rfl⟩
      go_wp2_with fail
      go_ret
      refine ⟨?_, hal⟩
      rw [hu.out]
      simp
  · have hs' : ¬ (t.text.size : Int) ≤ 256 := by omega
    go_enter Tryz.func61, Tryz.ntmps61
    go_wp2_with fail
    go_ret
    refine ⟨?_, hal⟩
    simp

end Go.Proofs.YtgmmocbgeilpiaaGreat

namespace Go.Proofs.YtgmmocbgeilpiaaGreat
open Go.RowKit

set_option maxHeartbeats 2000000 in
theorem own_txt (t : VT) (a : Option Addr) (l c : Nat) (w : World) (h0 : 0 ≤ t.kind) (h6 : t.kind ≤ 6) (hn : okNum t = true) (h3 : (t.kind == 3) = false) (ht : t.text.toList.isEmpty = false) :
    Calls Tryz.prog 61 #[.agg #[.int .i64 t.kind, .int .i64 t.num, .string t.text, .slice a l c]] w fun e w' => e = .returned (.bool false) ∧ Below w.heap.size w w' := by
  rcases num_tests hn with e | ⟨e1, e2⟩ | ⟨e1, e2, e3, e4⟩
  · clear hn
    go_enter Tryz.func61, Tryz.ntmps61
    go_wp2_with fail
    go_ret
    exact ⟨rfl, ((Grew.refl _).alloc _).below⟩
  · clear hn
    go_enter Tryz.func61, Tryz.ntmps61
    go_wp2_with fail
    go_ret
    exact ⟨rfl, ((Grew.refl _).alloc _).below⟩
  · clear hn
    go_enter Tryz.func61, Tryz.ntmps61
    go_wp2_with fail
    go_ret
    exact ⟨rfl, ((Grew.refl _).alloc _).below⟩

set_option maxHeartbeats 2000000 in
theorem own_k0_0 (tx : ByteArray) (a : Option Addr) (l c : Nat) (w : World) (ht : tx.toList.isEmpty = true) :
    Calls Tryz.prog 61 #[.agg #[.int .i64 0, .int .i64 0, .string tx, .slice a l c]] w fun e w' => e = .returned (.bool (decide (l = 0))) ∧ Below w.heap.size w w' := by
  have hal := ((Grew.refl w).alloc (.cells #[.int .i64 0, .int .i64 0, .string tx, .slice a l c] 37)).below
  by_cases h0 : l = 0
  · subst h0
    go_enter Tryz.func61, Tryz.ntmps61
    go_wp2_with fail
    refine (isColl_any _ _).mono ?_
    rintro e w1 ⟨rfl, rfl⟩
    go_wp2_with fail
    go_loopg [4] 0 (fun k i wr => i = .int .i64 1 ∧ k = 0 ∧ wr = w.alloc (.cells #[.int .i64 0, .int .i64 0, .string tx, .slice a 0 c] 37))
    case atStart => exact ⟨rfl, rfl, rfl⟩
    case round =>
      obtain ⟨rfl, hk, rfl⟩ := hrel
      go_wp2_with fail
      go_ret
      exact ⟨rfl, hal⟩
  · have hpos : 0 < l := by omega
    have h0i : (0 : Int) < (l : Nat) := by omega
    go_enter Tryz.func61, Tryz.ntmps61
    go_wp2_with fail
    refine (isColl_any _ _).mono ?_
    rintro e w1 ⟨rfl, rfl⟩
    go_wp2_with fail
    go_ret
    exact ⟨by simp [h0], hal⟩

set_option maxHeartbeats 2000000 in
theorem own_k1_0 (tx : ByteArray) (a : Option Addr) (l c : Nat) (w : World) (ht : tx.toList.isEmpty = true) :
    Calls Tryz.prog 61 #[.agg #[.int .i64 1, .int .i64 0, .string tx, .slice a l c]] w fun e w' => e = .returned (.bool (decide (l = 0))) ∧ Below w.heap.size w w' := by
  have hal := ((Grew.refl w).alloc (.cells #[.int .i64 1, .int .i64 0, .string tx, .slice a l c] 37)).below
  by_cases h0 : l = 0
  · subst h0
    go_enter Tryz.func61, Tryz.ntmps61
    go_wp2_with fail
    refine (isColl_any _ _).mono ?_
    rintro e w1 ⟨rfl, rfl⟩
    go_wp2_with fail
    go_loopg [4] 0 (fun k i wr => i = .int .i64 1 ∧ k = 0 ∧ wr = w.alloc (.cells #[.int .i64 1, .int .i64 0, .string tx, .slice a 0 c] 37))
    case atStart => exact ⟨rfl, rfl, rfl⟩
    case round =>
      obtain ⟨rfl, hk, rfl⟩ := hrel
      go_wp2_with fail
      go_ret
      exact ⟨rfl, hal⟩
  · have hpos : 0 < l := by omega
    have h0i : (0 : Int) < (l : Nat) := by omega
    go_enter Tryz.func61, Tryz.ntmps61
    go_wp2_with fail
    refine (isColl_any _ _).mono ?_
    rintro e w1 ⟨rfl, rfl⟩
    go_wp2_with fail
    go_ret
    exact ⟨by simp [h0], hal⟩

set_option maxHeartbeats 2000000 in
theorem own_k1_1 (tx : ByteArray) (a : Option Addr) (l c : Nat) (w : World) (ht : tx.toList.isEmpty = true) :
    Calls Tryz.prog 61 #[.agg #[.int .i64 1, .int .i64 1, .string tx, .slice a l c]] w fun e w' => e = .returned (.bool (decide (l = 0))) ∧ Below w.heap.size w w' := by
  have hal := ((Grew.refl w).alloc (.cells #[.int .i64 1, .int .i64 1, .string tx, .slice a l c] 37)).below
  by_cases h0 : l = 0
  · subst h0
    go_enter Tryz.func61, Tryz.ntmps61
    go_wp2_with fail
    refine (isColl_any _ _).mono ?_
    rintro e w1 ⟨rfl, rfl⟩
    go_wp2_with fail
    go_loopg [4] 0 (fun k i wr => i = .int .i64 1 ∧ k = 0 ∧ wr = w.alloc (.cells #[.int .i64 1, .int .i64 1, .string tx, .slice a 0 c] 37))
    case atStart => exact ⟨rfl, rfl, rfl⟩
    case round =>
      obtain ⟨rfl, hk, rfl⟩ := hrel
      go_wp2_with fail
      go_ret
      exact ⟨rfl, hal⟩
  · have hpos : 0 < l := by omega
    have h0i : (0 : Int) < (l : Nat) := by omega
    go_enter Tryz.func61, Tryz.ntmps61
    go_wp2_with fail
    refine (isColl_any _ _).mono ?_
    rintro e w1 ⟨rfl, rfl⟩
    go_wp2_with fail
    go_ret
    exact ⟨by simp [h0], hal⟩

set_option maxHeartbeats 2000000 in
theorem own_k2_n (n : Int) (tx : ByteArray) (a : Option Addr) (l c : Nat) (w : World) (ht : tx.toList.isEmpty = true) :
    Calls Tryz.prog 61 #[.agg #[.int .i64 2, .int .i64 n, .string tx, .slice a l c]] w fun e w' => e = .returned (.bool (decide (l = 0))) ∧ Below w.heap.size w w' := by
  have hal := ((Grew.refl w).alloc (.cells #[.int .i64 2, .int .i64 n, .string tx, .slice a l c] 37)).below
  by_cases h0 : l = 0
  · subst h0
    go_enter Tryz.func61, Tryz.ntmps61
    go_wp2_with fail
    refine (isColl_any _ _).mono ?_
    rintro e w1 ⟨rfl, rfl⟩
    go_wp2_with fail
    go_loopg [4] 0 (fun k i wr => i = .int .i64 1 ∧ k = 0 ∧ wr = w.alloc (.cells #[.int .i64 2, .int .i64 n, .string tx, .slice a 0 c] 37))
    case atStart => exact ⟨rfl, rfl, rfl⟩
    case round =>
      obtain ⟨rfl, hk, rfl⟩ := hrel
      go_wp2_with fail
      go_ret
      exact ⟨rfl, hal⟩
  · have hpos : 0 < l := by omega
    have h0i : (0 : Int) < (l : Nat) := by omega
    go_enter Tryz.func61, Tryz.ntmps61
    go_wp2_with fail
    refine (isColl_any _ _).mono ?_
    rintro e w1 ⟨rfl, rfl⟩
    go_wp2_with fail
    go_ret
    exact ⟨by simp [h0], hal⟩

set_option maxHeartbeats 2000000 in
theorem own_k4_0 (tx : ByteArray) (a : Option Addr) (l c : Nat) (w : World) (ht : tx.toList.isEmpty = true) :
    Calls Tryz.prog 61 #[.agg #[.int .i64 4, .int .i64 0, .string tx, .slice a l c]] w fun e w' => e = .returned (.bool true) ∧ Below w.heap.size w w' := by
  have hal := ((Grew.refl w).alloc (.cells #[.int .i64 4, .int .i64 0, .string tx, .slice a l c] 37)).below
  go_enter Tryz.func61, Tryz.ntmps61
  go_wp2_with fail
  refine (isColl_any _ _).mono ?_
  rintro e w1 ⟨rfl, rfl⟩
  go_wp2_with fail
  go_ret
  exact ⟨rfl, hal⟩

end Go.Proofs.YtgmmocbgeilpiaaGreat

namespace Go.Proofs.YtgmmocbgeilpiaaGreat
open Go.RowKit

set_option maxHeartbeats 2000000 in
theorem own_k5 (d : Nat) (l : List VT) (tx : ByteArray) (u : Value) (w : World) (hu : Lies (d + 1) w l u) (hlen : l.length ≤ 1024) (ht : tx.toList.isEmpty = true) :
    Calls Tryz.prog 61 #[.agg #[.int .i64 5, .int .i64 0, .string tx, u]] w fun e w' => e = .returned (.bool (risF (cmpV d) 1 l l.length 0)) ∧ Below w.heap.size w w' := by
  obtain ⟨a1, c1, rfl, hb1, hr1⟩ := hu
  have Hr1 : Hid _ := hr1
  clear hr1 hb1
  have hal := ((Grew.refl w).alloc (.cells #[.int .i64 5, .int .i64 0, .string tx, .slice a1 l.length c1] 37)).below
  have HX : Hid (Boxed (w.alloc (.cells #[.int .i64 5, .int .i64 0, .string tx, .slice a1 l.length c1] 37)) w.heap.size 5 0 tx (.slice a1 l.length c1)) := boxed_alloc w 5 0 tx _ 37
  go_enter Tryz.func61, Tryz.ntmps61
  go_wp2_with fail
  refine (isColl_any _ _).mono ?_
  rintro e w0 ⟨rfl, rfl⟩
  go_wp2_with fail
  go_loopg [4] (l.length + 1) (fun g i wr => ∃ j k b : Nat, i = .int .i64 (k : Int) ∧ Hid (k = j + 1) ∧ j ≤ l.length + 1 ∧ l.length ≤ j + b ∧ g = l.length + 1 - j ∧ Hid (risF (cmpV d) 1 l l.length 0 = risF (cmpV d) 1 l b j) ∧ Below w.heap.size w wr ∧ Boxed wr w.heap.size 5 0 tx (.slice a1 l.length c1))
  case atStart => exact ⟨0, 1, l.length, rfl, rfl, by omega, by omega, by omega, rfl, hal, HX.out⟩
  case round =>
    obtain ⟨j, k, b, rfl, Hkj, hj, hjb, hk, Hc, hbw, hbx⟩ := hrel
    have Hk : Hid _ := hk
    have HB : Hid (Boxed wr w.heap.size 5 0 tx (.slice a1 l.length c1)) := hbx
    obtain ⟨_, _, _, x3⟩ := hbx
    clear hk HX hal
    have hkj := Hkj.out
    by_cases hlt : k < l.length
    · obtain ⟨b1, o1, rfl, hall1⟩ := Hr1.out (by intro e; simp [e] at hlt)
      have hlj : j < l.length := by omega
      have hljs : j + 1 < l.length := by omega
      obtain ⟨x, p0, p1, p2, p3, p4, _⟩ := hall1 j hlj
      obtain ⟨y, q0, q1, q2, q3, q4, _⟩ := hall1 k hlt
      clear hall1
      have hwr : IntKind.i64.wrap ((k : Int) - 1) = (j : Int) := by rw [IntKind.wrap_i64]; omega
      have Hst : Hid _ := risF_step (cmpV d) 1 l (b - 1) j hlj hljs
      have hbb : b - 1 + 1 = b := by omega
      rw [hbb] at Hst
      have hlk : l[j + 1]'hljs = l[k] := by congr 1; exact hkj.symm
      rw [hlk] at Hst
      clear hbb hlk
      obtain ⟨ax, cx, rfl, _⟩ := Lies.slice p4
      obtain ⟨ay, cy, rfl, _⟩ := Lies.slice q4
      have p0 := cell_keeps hbw p0; have p1 := cell_keeps hbw p1; have p2 := cell_keeps hbw p2; have p3 := cell_keeps hbw p3
      have q0 := cell_keeps hbw q0; have q1 := cell_keeps hbw q1; have q2 := cell_keeps hbw q2; have q3 := cell_keeps hbw q3
      have p4 := Lies.keeps hbw.drew _ _ _ p4
      have q4 := Lies.keeps hbw.drew _ _ _ q4
      have hcm : Hid _ := ref_any d l[j] l[k] _ _ wr.drew p4 q4
      clear p4 q4
      have hjk : j < k := by omega
      clear hkj
      have hcr := cmpV_range d l[j] l[k]
      have Hcr : Hid _ := hcr
      clear hcr
      go_wp2_with fail
      go_region_held3 (fun w' => w'.cell? ⟨w.heap.size, 3, none⟩ = some (.slice (some ⟨b1, o1, none⟩) l.length c1)
          ∧ w'.cell? ⟨b1, o1 + j * 4, none⟩ = some (.int .i64 l[j].kind) ∧ w'.cell? ⟨b1, o1 + j * 4 + 1, none⟩ = some (.int .i64 l[j].num) ∧ w'.cell? ⟨b1, o1 + j * 4 + 2, none⟩ = some (.string l[j].text) ∧ w'.cell? ⟨b1, o1 + j * 4 + 3, none⟩ = some (.slice ax l[j].items.length cx)
          ∧ w'.cell? ⟨b1, o1 + k * 4, none⟩ = some (.int .i64 l[k].kind) ∧ w'.cell? ⟨b1, o1 + k * 4 + 1, none⟩ = some (.int .i64 l[k].num) ∧ w'.cell? ⟨b1, o1 + k * 4 + 2, none⟩ = some (.string l[k].text) ∧ w'.cell? ⟨b1, o1 + k * 4 + 3, none⟩ = some (.slice ay l[k].items.length cy)) (go_keep)
          (first | (go_at_call 59; refine Calls.mono hcm.out ?_; rintro e w1 ⟨rfl, hb1⟩; have hb2 : Below wr.heap.size wr w1 := ((Below.refl wr.heap.size wr).drew).trans hb1; clear hb1; have r0 := cell_keeps hb2 p0; have r1 := cell_keeps hb2 p1; have r2 := cell_keeps hb2 p2; have r3 := cell_keeps hb2 p3; have t0 := cell_keeps hb2 q0; have t1 := cell_keeps hb2 q1; have t2 := cell_keeps hb2 q2; have t3 := cell_keeps hb2 q3; have y3 := cell_keeps hb2 x3))
      clear hcm p0 p1 p2 p3 q0 q1 q2 q3 r0 r1 r2 r3 t0 t1 t2 t3 hwr x3 y3
      have hb3 : Below w.heap.size w w1 := hbw.trans (hb2.mono hbw.size)
      have HB1 : Hid (Boxed w1 w.heap.size 5 0 tx (.slice (some ⟨b1, o1, none⟩) l.length c1)) := HB.out.keeps hb2
      clear HB hb2
      by_cases hz : 0 ≤ cmpV d l[j] l[k]
      · have hfin : Hid (risF (cmpV d) 1 l l.length 0 = false) := by
          show _ = _
          rw [Hc.out, Hst.out, if_pos hz]
        clear Hst Hc
        go_wp2_with fail
        go_ret
        exact ⟨by rw [hfin.out]; rfl, hb3⟩
      · have hfin : Hid (risF (cmpV d) 1 l l.length 0 = risF (cmpV d) 1 l (b - 1) (j + 1)) := by
          show _ = _
          rw [Hc.out, Hst.out, if_neg hz]
        clear Hst Hc
        go_wp2_with fail
        go_roundg (l.length + 1 - (j + 1))
        case measure => have := Hk.out; have := Hkj.out; omega
        case rel =>
          have e1 := Hkj.out
          exact ⟨j + 1, k + 1, b - 1, by go_num, by show _ = _; omega, by omega, by omega, rfl, hfin, hb3, HB1.out⟩
    · have Hs : Hid _ := risF_end (cmpV d) 1 l b j (by omega)
      clear hkj
      go_wp2_with fail
      go_ret
      exact ⟨by rw [Hc.out, Hs.out]; rfl, hbw⟩

set_option maxHeartbeats 2000000 in
theorem own_k6 (d : Nat) (l : List VT) (tx : ByteArray) (u : Value) (w : World) (hu : Lies (d + 1) w l u) (hlen : l.length ≤ 1024) (ht : tx.toList.isEmpty = true) (hev : l.length % 2 = 0) :
    Calls Tryz.prog 61 #[.agg #[.int .i64 6, .int .i64 0, .string tx, u]] w fun e w' => e = .returned (.bool (risF (cmpV d) 2 l l.length 0)) ∧ Below w.heap.size w w' := by
  obtain ⟨a1, c1, rfl, hb1, hr1⟩ := hu
  have Hr1 : Hid _ := hr1
  clear hr1 hb1
  have hev' : ((l.length : Int).tmod 2 != 0) = false := by
    have : (l.length : Int).tmod 2 = 0 := by rw [Int.tmod_eq_emod_of_nonneg (by omega)]; omega
    simp [this]
  have hev2 : (l.length : Int).tmod 2 = 0 := by rw [Int.tmod_eq_emod_of_nonneg (by omega)]; omega
  have hal := ((Grew.refl w).alloc (.cells #[.int .i64 6, .int .i64 0, .string tx, .slice a1 l.length c1] 37)).below
  have HX : Hid (Boxed (w.alloc (.cells #[.int .i64 6, .int .i64 0, .string tx, .slice a1 l.length c1] 37)) w.heap.size 6 0 tx (.slice a1 l.length c1)) := boxed_alloc w 6 0 tx _ 37
  go_enter Tryz.func61, Tryz.ntmps61
  go_wp2_with fail
  refine (isColl_any _ _).mono ?_
  rintro e w0 ⟨rfl, rfl⟩
  go_wp2_with fail
  go_loopg [4] (l.length + 2) (fun g i wr => ∃ j k b : Nat, i = .int .i64 (k : Int) ∧ Hid (k = j + 2) ∧ j ≤ l.length + 2 ∧ l.length ≤ j + b ∧ g = l.length + 2 - j ∧ Hid (risF (cmpV d) 2 l l.length 0 = risF (cmpV d) 2 l b j) ∧ Below w.heap.size w wr ∧ Boxed wr w.heap.size 6 0 tx (.slice a1 l.length c1))
  case atStart => exact ⟨0, 2, l.length, rfl, rfl, by omega, by omega, by omega, rfl, hal, HX.out⟩
  case round =>
    obtain ⟨j, k, b, rfl, Hkj, hj, hjb, hk, Hc, hbw, hbx⟩ := hrel
    have Hk : Hid _ := hk
    have HB : Hid (Boxed wr w.heap.size 6 0 tx (.slice a1 l.length c1)) := hbx
    obtain ⟨_, _, _, x3⟩ := hbx
    clear hk HX hal
    have hkj := Hkj.out
    by_cases hlt : k < l.length
    · obtain ⟨b1, o1, rfl, hall1⟩ := Hr1.out (by intro e; simp [e] at hlt)
      have hlj : j < l.length := by omega
      have hljs : j + 2 < l.length := by omega
      obtain ⟨x, p0, p1, p2, p3, p4, _⟩ := hall1 j hlj
      obtain ⟨y, q0, q1, q2, q3, q4, _⟩ := hall1 k hlt
      clear hall1
      have hwr : IntKind.i64.wrap ((k : Int) - 2) = (j : Int) := by rw [IntKind.wrap_i64]; omega
      have Hst : Hid _ := risF_step (cmpV d) 2 l (b - 1) j hlj hljs
      have hbb : b - 1 + 1 = b := by omega
      rw [hbb] at Hst
      have hlk : l[j + 2]'hljs = l[k] := by congr 1; exact hkj.symm
      rw [hlk] at Hst
      clear hbb hlk
      obtain ⟨ax, cx, rfl, _⟩ := Lies.slice p4
      obtain ⟨ay, cy, rfl, _⟩ := Lies.slice q4
      have p0 := cell_keeps hbw p0; have p1 := cell_keeps hbw p1; have p2 := cell_keeps hbw p2; have p3 := cell_keeps hbw p3
      have q0 := cell_keeps hbw q0; have q1 := cell_keeps hbw q1; have q2 := cell_keeps hbw q2; have q3 := cell_keeps hbw q3
      have p4 := Lies.keeps hbw.drew _ _ _ p4
      have q4 := Lies.keeps hbw.drew _ _ _ q4
      have hcm : Hid _ := ref_any d l[j] l[k] _ _ wr.drew p4 q4
      clear p4 q4
      have hjk : j < k := by omega
      clear hkj
      have hcr := cmpV_range d l[j] l[k]
      have Hcr : Hid _ := hcr
      clear hcr
      go_wp2_with fail
      go_region_held3 (fun w' => w'.cell? ⟨w.heap.size, 3, none⟩ = some (.slice (some ⟨b1, o1, none⟩) l.length c1)
          ∧ w'.cell? ⟨b1, o1 + j * 4, none⟩ = some (.int .i64 l[j].kind) ∧ w'.cell? ⟨b1, o1 + j * 4 + 1, none⟩ = some (.int .i64 l[j].num) ∧ w'.cell? ⟨b1, o1 + j * 4 + 2, none⟩ = some (.string l[j].text) ∧ w'.cell? ⟨b1, o1 + j * 4 + 3, none⟩ = some (.slice ax l[j].items.length cx)
          ∧ w'.cell? ⟨b1, o1 + k * 4, none⟩ = some (.int .i64 l[k].kind) ∧ w'.cell? ⟨b1, o1 + k * 4 + 1, none⟩ = some (.int .i64 l[k].num) ∧ w'.cell? ⟨b1, o1 + k * 4 + 2, none⟩ = some (.string l[k].text) ∧ w'.cell? ⟨b1, o1 + k * 4 + 3, none⟩ = some (.slice ay l[k].items.length cy)) (go_keep)
          (first | (go_at_call 59; refine Calls.mono hcm.out ?_; rintro e w1 ⟨rfl, hb1⟩; have hb2 : Below wr.heap.size wr w1 := ((Below.refl wr.heap.size wr).drew).trans hb1; clear hb1; have r0 := cell_keeps hb2 p0; have r1 := cell_keeps hb2 p1; have r2 := cell_keeps hb2 p2; have r3 := cell_keeps hb2 p3; have t0 := cell_keeps hb2 q0; have t1 := cell_keeps hb2 q1; have t2 := cell_keeps hb2 q2; have t3 := cell_keeps hb2 q3; have y3 := cell_keeps hb2 x3))
      clear hcm p0 p1 p2 p3 q0 q1 q2 q3 r0 r1 r2 r3 t0 t1 t2 t3 hwr x3 y3
      have hb3 : Below w.heap.size w w1 := hbw.trans (hb2.mono hbw.size)
      have HB1 : Hid (Boxed w1 w.heap.size 6 0 tx (.slice (some ⟨b1, o1, none⟩) l.length c1)) := HB.out.keeps hb2
      clear HB hb2
      by_cases hz : 0 ≤ cmpV d l[j] l[k]
      · have hfin : Hid (risF (cmpV d) 2 l l.length 0 = false) := by
          show _ = _
          rw [Hc.out, Hst.out, if_pos hz]
        clear Hst Hc
        go_wp2_with fail
        go_ret
        exact ⟨by rw [hfin.out]; rfl, hb3⟩
      · have hfin : Hid (risF (cmpV d) 2 l l.length 0 = risF (cmpV d) 2 l (b - 1) (j + 2)) := by
          show _ = _
          rw [Hc.out, Hst.out, if_neg hz]
        clear Hst Hc
        go_wp2_with fail
        go_roundg (l.length + 2 - (j + 2))
        case measure => have := Hk.out; have := Hkj.out; omega
        case rel =>
          have e1 := Hkj.out
          exact ⟨j + 2, k + 2, b - 1, by go_num, by show _ = _; omega, by omega, by omega, rfl, hfin, hb3, HB1.out⟩
    · have Hs : Hid _ := risF_end (cmpV d) 2 l b j (by omega)
      clear hkj
      go_wp2_with fail
      go_ret
      exact ⟨by rw [Hc.out, Hs.out]; rfl, hbw⟩

set_option maxHeartbeats 2000000 in
theorem own_odd (l : Nat) (tx : ByteArray) (a : Option Addr) (c : Nat) (w : World) (ht : tx.toList.isEmpty = true) (hev : l % 2 = 1) :
    Calls Tryz.prog 61 #[.agg #[.int .i64 6, .int .i64 0, .string tx, .slice a l c]] w fun e w' => e = .returned (.bool false) ∧ Below w.heap.size w w' := by
  have hev2 : (l : Int).tmod 2 = 1 := by rw [Int.tmod_eq_emod_of_nonneg (by omega)]; omega
  have hal := ((Grew.refl w).alloc (.cells #[.int .i64 6, .int .i64 0, .string tx, .slice a l c] 37)).below
  go_enter Tryz.func61, Tryz.ntmps61
  go_wp2_with fail
  refine (isColl_any _ _).mono ?_
  rintro e w0 ⟨rfl, rfl⟩
  go_wp2_with fail
  go_ret
  exact ⟨rfl, hal⟩

end Go.Proofs.YtgmmocbgeilpiaaGreat

namespace Go.Proofs.YtgmmocbgeilpiaaGreat
open Go.RowKit

theorem ret_b {a b : Bool} (h : a = b) : Ending.returned (.bool a) = .returned (.bool b) := by rw [h]

theorem len_beq (n : Nat) : ((n : Int) == 0) = decide (n = 0) := by
  by_cases h : n = 0
  · subst h; rfl
  · rw [decide_eq_false h, beq_eq_false_iff_ne]; omega

theorem items_none {d : Nat} {t : VT} (h4 : t.kind ≠ 4) (h5 : t.kind ≠ 5) (h6 : t.kind ≠ 6) : okItems d t = decide (t.items.length = 0) := by
  unfold okItems
  rw [if_neg (by simpa using h4), if_neg (by simpa using h5), if_neg (by simpa using h6), len_beq]

theorem own_any (d : Nat) (t : VT) (u : Value) (w : World) (hu : Lies (d + 1) w t.items u) (hlen : t.items.length ≤ 1024) :
    Calls Tryz.prog 61 #[.agg #[.int .i64 t.kind, .int .i64 t.num, .string t.text, u]] w fun e w' => e = .returned (.bool (ownV d t)) ∧ Below w.heap.size w w' := by
  have hu0 := hu
  obtain ⟨a, c, rfl, _⟩ := Lies.slice hu
  by_cases hr : t.kind < 0 ∨ 6 < t.kind
  · refine (own_out t a t.items.length c w hr).mono fun e w' ⟨he, hb⟩ => ⟨he.trans (ret_b ?_), hb⟩
    unfold ownV
    by_cases h0 : 0 ≤ t.kind
    · simp [show ¬ t.kind ≤ 6 by omega]
    · simp [h0]
  · have h0 : 0 ≤ t.kind := by omega
    have h6 : t.kind ≤ 6 := by omega
    have hov : ownV d t = (okNum t && (okText t && okItems d t)) := by unfold ownV; simp [h0, h6]
    rw [hov]
    cases hn : okNum t
    · exact own_num t a t.items.length c w h0 h6 hn
    · rw [Bool.true_and]
      cases h3 : (t.kind == 3)
      · have hot : okText t = t.text.toList.isEmpty := by unfold okText; rw [h3]; rfl
        rw [hot]
        cases ht : t.text.toList.isEmpty
        · exact own_txt t a t.items.length c w h0 h6 hn h3 ht
        · rw [Bool.true_and]
          have k3 : t.kind ≠ 3 := by simpa using h3
          have hk : t.kind = 0 ∨ t.kind = 1 ∨ t.kind = 2 ∨ t.kind = 4 ∨ t.kind = 5 ∨ t.kind = 6 := by omega
          rcases hk with hk | hk | hk | hk | hk | hk
          · have hz : t.num = 0 := by simpa [okNum, hk] using hn
            rw [hk, hz]
            exact (own_k0_0 t.text a t.items.length c w ht).mono fun e w' ⟨he, hb⟩ => ⟨he.trans (ret_b (items_none (by omega) (by omega) (by omega)).symm), hb⟩
          · have hz : t.num = 0 ∨ t.num = 1 := by simpa [okNum, hk] using hn
            rcases hz with hz | hz
            · rw [hk, hz]
              exact (own_k1_0 t.text a t.items.length c w ht).mono fun e w' ⟨he, hb⟩ => ⟨he.trans (ret_b (items_none (by omega) (by omega) (by omega)).symm), hb⟩
            · rw [hk, hz]
              exact (own_k1_1 t.text a t.items.length c w ht).mono fun e w' ⟨he, hb⟩ => ⟨he.trans (ret_b (items_none (by omega) (by omega) (by omega)).symm), hb⟩
          · rw [hk]
            exact (own_k2_n t.num t.text a t.items.length c w ht).mono fun e w' ⟨he, hb⟩ => ⟨he.trans (ret_b (items_none (by omega) (by omega) (by omega)).symm), hb⟩
          · have hz : t.num = 0 := by simpa [okNum, hk] using hn
            rw [hk, hz]
            refine (own_k4_0 t.text a t.items.length c w ht).mono fun e w' ⟨he, hb⟩ => ⟨he.trans (ret_b ?_), hb⟩
            simp [okItems, hk]
          · have hz : t.num = 0 := by simpa [okNum, hk] using hn
            rw [hk, hz]
            refine (own_k5 d t.items t.text _ w hu0 hlen ht).mono fun e w' ⟨he, hb⟩ => ⟨he.trans (ret_b ?_), hb⟩
            simp [okItems, hk]
          · have hz : t.num = 0 := by simpa [okNum, hk] using hn
            rw [hk, hz]
            by_cases hev : t.items.length % 2 = 0
            · refine (own_k6 d t.items t.text _ w hu0 hlen ht hev).mono fun e w' ⟨he, hb⟩ => ⟨he.trans (ret_b ?_), hb⟩
              have : ((t.items.length : Int) % 2 == 0) = true := by rw [beq_iff_eq]; omega
              simp [okItems, hk, this]
            · refine (own_odd t.items.length t.text a c w ht (by omega)).mono fun e w' ⟨he, hb⟩ => ⟨he.trans (ret_b ?_), hb⟩
              have : ((t.items.length : Int) % 2 == 0) = false := by rw [beq_eq_false_iff_ne]; omega
              simp [okItems, hk, this]
      · have k3 : t.kind = 3 := by simpa using h3
        have hz : t.num = 0 := by simpa [okNum, k3] using hn
        refine (own_text3 t a c w k3 hz).mono fun e w' ⟨he, hb⟩ => ⟨he.trans (ret_b ?_), hb⟩
        rw [items_none (by omega) (by omega) (by omega)]
        simp [okText, k3, Bool.and_assoc]

end Go.Proofs.YtgmmocbgeilpiaaGreat

