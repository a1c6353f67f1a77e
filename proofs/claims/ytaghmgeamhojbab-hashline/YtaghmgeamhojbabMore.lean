/-
  The walk of HashMore.
-/
import Derived.Test.YtaghmgeamhojbabOf
namespace Go.Proofs.Ytaghmgeamhojbab
open Go.RowKit

theorem mod_more (a b : Int) (k j : Nat) (hkj : k ≤ j) (h : a % 2 ^ j = b % 2 ^ j) : a % 2 ^ k = b % 2 ^ k := by
  have hd : (2 : Int) ^ k ∣ 2 ^ j := ⟨2 ^ (j - k), by rw [← Int.pow_add]; congr 1; omega⟩
  rw [← Int.emod_emod_of_dvd a hd, ← Int.emod_emod_of_dvd b hd, h]

/-- Three values and a kind, as they lie flat. -/
def flat3 (kd : Int) (A B C : VT) (x y z : Value) : Value :=
  .agg #[.int .i64 kd, .int .i64 A.kind, .int .i64 A.num, .string A.text, x, .int .i64 B.kind, .int .i64 B.num, .string B.text, y, .int .i64 C.kind, .int .i64 C.num, .string C.text, z]

def OfC (k : Int) (t : VT) (x : Value) (w : World) (z e : Int) : Prop :=
  ∀ W, Below w.heap.size w W → Calls Try.prog 14 #[.int .i64 k, .agg #[.int .i64 t.kind, .int .i64 t.num, .string t.text, x]] W fun r W' => r = .returned (.tuple #[.int .u32 z, .int .i64 e]) ∧ Below W.heap.size W W'

set_option maxHeartbeats 4000000 in
theorem more_out (k j kd : Int) (A B C : VT) (ax ay az : Option Addr) (lx ly lz cx cy cz : Nat) (w : World) (h : k < 1 ∨ 31 < j ∨ j < k) :
    Calls Try.prog 8 #[.int .i64 k, .int .i64 j, flat3 kd A B C (.slice ax lx cx) (.slice ay ly cy) (.slice az lz cz)] w fun e w' => e = .returned (.bool true) ∧ Below w.heap.size w w' := by
  unfold flat3
  have hsp : Hid (∀ w, Calls Try.prog 13 #[] w fun e w' => e = .returned (.bool true) ∧ Below w.heap.size w w') := speaks_any
  have hal : Below w.heap.size w (((w.alloc (.cells #[.int .i64 kd, .int .i64 A.kind, .int .i64 A.num, .string A.text, .slice ax lx cx, .int .i64 B.kind, .int .i64 B.num, .string B.text, .slice ay ly cy, .int .i64 C.kind, .int .i64 C.num, .string C.text, .slice az lz cz] 52)).alloc (.cells #[.int .i64 A.kind, .int .i64 A.num, .string A.text, .slice ax lx cx] 24)).alloc (.cells #[.int .i64 B.kind, .int .i64 B.num, .string B.text, .slice ay ly cy] 24)) := (((Grew.refl w).alloc _).alloc _).alloc _ |>.below
  by_cases h0 : k < 1
  · clear h
    go_enter Try.func8, Try.ntmps8
    go_wp2_with fail
    refine Calls.mono (hsp.out _) ?_
    rintro e w1 ⟨rfl, hg⟩
    go_wp2_with fail
    go_ret
    exact ⟨rfl, hal.trans (hg.mono hal.size)⟩
  · by_cases h1 : 31 < j
    · clear h
      go_enter Try.func8, Try.ntmps8
      go_wp2_with fail
      refine Calls.mono (hsp.out _) ?_
      rintro e w1 ⟨rfl, hg⟩
      go_wp2_with fail
      go_ret
      exact ⟨rfl, hal.trans (hg.mono hal.size)⟩
    · have h2 : j < k := by omega
      clear h
      go_enter Try.func8, Try.ntmps8
      go_wp2_with fail
      refine Calls.mono (hsp.out _) ?_
      rintro e w1 ⟨rfl, hg⟩
      go_wp2_with fail
      go_ret
      exact ⟨rfl, hal.trans (hg.mono hal.size)⟩

/-- A value of its own in a block, and all that was there before. -/
theorem boxed_two (w : World) (k n : Int) (s : ByteArray) (u : Value) (o : Obj) (ty : Nat) : Boxed ((w.alloc (.cells #[.int .i64 k, .int .i64 n, .string s, u] ty)).alloc o) w.heap.size k n s u :=
  (boxed_alloc w k n s u ty).keeps ((Grew.refl _).alloc o).below

set_option maxHeartbeats 4000000 in
theorem more_in (k j kd : Int) (A B C : VT) (ax ay az : Option Addr) (lx ly lz cx cy cz : Nat) (w : World) (h0 : ¬ k < 1) (h1 : ¬ 31 < j) (h2 : ¬ j < k) (u v p q e f : Int)
    (H1 : Hid (OfC k A (.slice ax lx cx) w u e)) (H2 : Hid (OfC k B (.slice ay ly cy) w v f)) (H3 : Hid (OfC j A (.slice ax lx cx) w p e)) (H4 : Hid (OfC j B (.slice ay ly cy) w q f)) (hpq : p = q → u = v) :
    Calls Try.prog 8 #[.int .i64 k, .int .i64 j, flat3 kd A B C (.slice ax lx cx) (.slice ay ly cy) (.slice az lz cz)] w fun e w' => e = .returned (.bool true) ∧ Below w.heap.size w w' := by
  unfold flat3
  have hsp : Hid (∀ w, Calls Try.prog 13 #[] w fun e w' => e = .returned (.bool true) ∧ Below w.heap.size w w') := speaks_any
  have hal : Below w.heap.size w (((w.alloc (.cells #[.int .i64 kd, .int .i64 A.kind, .int .i64 A.num, .string A.text, .slice ax lx cx, .int .i64 B.kind, .int .i64 B.num, .string B.text, .slice ay ly cy, .int .i64 C.kind, .int .i64 C.num, .string C.text, .slice az lz cz] 52)).alloc (.cells #[.int .i64 A.kind, .int .i64 A.num, .string A.text, .slice ax lx cx] 24)).alloc (.cells #[.int .i64 B.kind, .int .i64 B.num, .string B.text, .slice ay ly cy] 24)) := (((Grew.refl w).alloc _).alloc _).alloc _ |>.below
  have hbA : Boxed (((w.alloc (.cells #[.int .i64 kd, .int .i64 A.kind, .int .i64 A.num, .string A.text, .slice ax lx cx, .int .i64 B.kind, .int .i64 B.num, .string B.text, .slice ay ly cy, .int .i64 C.kind, .int .i64 C.num, .string C.text, .slice az lz cz] 52)).alloc (.cells #[.int .i64 A.kind, .int .i64 A.num, .string A.text, .slice ax lx cx] 24)).alloc (.cells #[.int .i64 B.kind, .int .i64 B.num, .string B.text, .slice ay ly cy] 24)) (w.heap.size + 1) A.kind A.num A.text (.slice ax lx cx) := by
    have := boxed_two (w.alloc (.cells #[.int .i64 kd, .int .i64 A.kind, .int .i64 A.num, .string A.text, .slice ax lx cx, .int .i64 B.kind, .int .i64 B.num, .string B.text, .slice ay ly cy, .int .i64 C.kind, .int .i64 C.num, .string C.text, .slice az lz cz] 52)) A.kind A.num A.text (.slice ax lx cx) (.cells #[.int .i64 B.kind, .int .i64 B.num, .string B.text, .slice ay ly cy] 24) 24
    simpa using this
  have hbB : Boxed (((w.alloc (.cells #[.int .i64 kd, .int .i64 A.kind, .int .i64 A.num, .string A.text, .slice ax lx cx, .int .i64 B.kind, .int .i64 B.num, .string B.text, .slice ay ly cy, .int .i64 C.kind, .int .i64 C.num, .string C.text, .slice az lz cz] 52)).alloc (.cells #[.int .i64 A.kind, .int .i64 A.num, .string A.text, .slice ax lx cx] 24)).alloc (.cells #[.int .i64 B.kind, .int .i64 B.num, .string B.text, .slice ay ly cy] 24)) (w.heap.size + 2) B.kind B.num B.text (.slice ay ly cy) := by
    have := boxed_alloc ((w.alloc (.cells #[.int .i64 kd, .int .i64 A.kind, .int .i64 A.num, .string A.text, .slice ax lx cx, .int .i64 B.kind, .int .i64 B.num, .string B.text, .slice ay ly cy, .int .i64 C.kind, .int .i64 C.num, .string C.text, .slice az lz cz] 52)).alloc (.cells #[.int .i64 A.kind, .int .i64 A.num, .string A.text, .slice ax lx cx] 24)) B.kind B.num B.text (.slice ay ly cy) 24
    simpa using this
  have HA : Hid (Boxed (((w.alloc (.cells #[.int .i64 kd, .int .i64 A.kind, .int .i64 A.num, .string A.text, .slice ax lx cx, .int .i64 B.kind, .int .i64 B.num, .string B.text, .slice ay ly cy, .int .i64 C.kind, .int .i64 C.num, .string C.text, .slice az lz cz] 52)).alloc (.cells #[.int .i64 A.kind, .int .i64 A.num, .string A.text, .slice ax lx cx] 24)).alloc (.cells #[.int .i64 B.kind, .int .i64 B.num, .string B.text, .slice ay ly cy] 24)) (w.heap.size + 1) A.kind A.num A.text (.slice ax lx cx)) := hbA
  have HB : Hid (Boxed (((w.alloc (.cells #[.int .i64 kd, .int .i64 A.kind, .int .i64 A.num, .string A.text, .slice ax lx cx, .int .i64 B.kind, .int .i64 B.num, .string B.text, .slice ay ly cy, .int .i64 C.kind, .int .i64 C.num, .string C.text, .slice az lz cz] 52)).alloc (.cells #[.int .i64 A.kind, .int .i64 A.num, .string A.text, .slice ax lx cx] 24)).alloc (.cells #[.int .i64 B.kind, .int .i64 B.num, .string B.text, .slice ay ly cy] 24)) (w.heap.size + 2) B.kind B.num B.text (.slice ay ly cy)) := hbB
  clear hbA hbB
  have Hpq : Hid (p = q → u = v) := hpq
  clear hpq
  go_enter Try.func8, Try.ntmps8
  go_wp2_with fail
  refine Calls.mono (H1.out _ hal) ?_
  rintro r w1 ⟨rfl, hg⟩
  have hb1 : Below w.heap.size w w1 := hal.trans (hg.mono hal.size)
  have HA1 : Hid (Boxed w1 (w.heap.size + 1) A.kind A.num A.text (.slice ax lx cx)) := HA.out.keeps hg
  have HB1 : Hid (Boxed w1 (w.heap.size + 2) B.kind B.num B.text (.slice ay ly cy)) := HB.out.keeps hg
  clear hg  HA HB 
  obtain ⟨x0, x1, x2, x3⟩ := HA1.out
  obtain ⟨y0, y1, y2, y3⟩ := HB1.out
  go_wp2_with fail
  clear x0 x1 x2 x3 y0 y1 y2 y3
  refine Calls.mono (H2.out _ hb1) ?_
  rintro r w2 ⟨rfl, hg⟩
  have hb2 : Below w.heap.size w w2 := hb1.trans (hg.mono hb1.size)
  have HA2 : Hid (Boxed w2 (w.heap.size + 1) A.kind A.num A.text (.slice ax lx cx)) := HA1.out.keeps hg
  have HB2 : Hid (Boxed w2 (w.heap.size + 2) B.kind B.num B.text (.slice ay ly cy)) := HB1.out.keeps hg
  clear hg hb1 HA1 HB1 
  obtain ⟨x0, x1, x2, x3⟩ := HA2.out
  obtain ⟨y0, y1, y2, y3⟩ := HB2.out
  go_wp2_with fail
  clear x0 x1 x2 x3 y0 y1 y2 y3
  refine Calls.mono (H3.out _ hb2) ?_
  rintro r w3 ⟨rfl, hg⟩
  have hb3 : Below w.heap.size w w3 := hb2.trans (hg.mono hb2.size)
  have HA3 : Hid (Boxed w3 (w.heap.size + 1) A.kind A.num A.text (.slice ax lx cx)) := HA2.out.keeps hg
  have HB3 : Hid (Boxed w3 (w.heap.size + 2) B.kind B.num B.text (.slice ay ly cy)) := HB2.out.keeps hg
  clear hg hb2 HA2 HB2 
  obtain ⟨x0, x1, x2, x3⟩ := HA3.out
  obtain ⟨y0, y1, y2, y3⟩ := HB3.out
  go_wp2_with fail
  clear x0 x1 x2 x3 y0 y1 y2 y3
  refine Calls.mono (H4.out _ hb3) ?_
  rintro r w4 ⟨rfl, hg⟩
  have hb4 : Below w.heap.size w w4 := hb3.trans (hg.mono hb3.size)
  have HA4 : Hid (Boxed w4 (w.heap.size + 1) A.kind A.num A.text (.slice ax lx cx)) := HA3.out.keeps hg
  have HB4 : Hid (Boxed w4 (w.heap.size + 2) B.kind B.num B.text (.slice ay ly cy)) := HB3.out.keeps hg
  clear hg hb3 HA3 HB3 
  obtain ⟨x0, x1, x2, x3⟩ := HA4.out
  obtain ⟨y0, y1, y2, y3⟩ := HB4.out
  clear x0 x1 x2 x3 y0 y1 y2 y3 HA4 HB4
  have fin : ∀ (e : Ending) (w' : World), True := fun _ _ => trivial
  clear fin
  cases he : (e == 0)
  · have he2 : (e != 0) = true := by simp [bne, he]
    go_wp2_with fail
    refine Calls.mono (hsp.out _) ?_
    rintro r w5 ⟨rfl, hg⟩
    go_wp2_with fail
    go_ret
    exact ⟨rfl, hb4.trans (hg.mono hb4.size)⟩
  · have he2 : (e != 0) = false := by simp [bne, he]
    cases hf : (f == 0)
    · have hf2 : (f != 0) = true := by simp [bne, hf]
      go_wp2_with fail
      refine Calls.mono (hsp.out _) ?_
      rintro r w5 ⟨rfl, hg⟩
      go_wp2_with fail
      go_ret
      exact ⟨rfl, hb4.trans (hg.mono hb4.size)⟩
    · have hf2 : (f != 0) = false := by simp [bne, hf]
      by_cases hpq : p = q
      · have huv : u = v := Hpq.out hpq
        subst hpq huv
        go_wp2_with fail
        refine Calls.mono (hsp.out _) ?_
        rintro r w5 ⟨rfl, hg⟩
        go_wp2_with fail
        go_ret
        exact ⟨rfl, hb4.trans (hg.mono hb4.size)⟩
      · have hpq2 : (p != q) = true := by simp [bne, hpq]
        have hpq3 : (p == q) = false := by simp [hpq]
        go_wp2_with fail
        refine Calls.mono (hsp.out _) ?_
        rintro r w5 ⟨rfl, hg⟩
        go_wp2_with fail
        go_ret
        exact ⟨rfl, hb4.trans (hg.mono hb4.size)⟩

end Go.Proofs.Ytaghmgeamhojbab

