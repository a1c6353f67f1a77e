/-
  The walk of HashLine.
-/
import Derived.Test.YtaghmgeamhojbabBefore
import Derived.Test.YtaghmgeamhojbabReadT
namespace Go.Proofs.Ytaghmgeamhojbab
open Go.RowKit

/-- A kind and three values lie in block b. -/
structure Flat (w : World) (b : Nat) (kd : Int) (A B C : VT) (x y z : Value) : Prop where
  c0 : w.cell? ⟨b, 0, none⟩ = some (.int .i64 kd)
  c1 : w.cell? ⟨b, 1, none⟩ = some (.int .i64 A.kind)
  c2 : w.cell? ⟨b, 2, none⟩ = some (.int .i64 A.num)
  c3 : w.cell? ⟨b, 3, none⟩ = some (.string A.text)
  c4 : w.cell? ⟨b, 4, none⟩ = some (x)
  c5 : w.cell? ⟨b, 5, none⟩ = some (.int .i64 B.kind)
  c6 : w.cell? ⟨b, 6, none⟩ = some (.int .i64 B.num)
  c7 : w.cell? ⟨b, 7, none⟩ = some (.string B.text)
  c8 : w.cell? ⟨b, 8, none⟩ = some (y)
  c9 : w.cell? ⟨b, 9, none⟩ = some (.int .i64 C.kind)
  c10 : w.cell? ⟨b, 10, none⟩ = some (.int .i64 C.num)
  c11 : w.cell? ⟨b, 11, none⟩ = some (.string C.text)
  c12 : w.cell? ⟨b, 12, none⟩ = some (z)

theorem Flat.keeps {w w' : World} {b : Nat} {kd : Int} {A B C : VT} {x y z : Value} (h : Flat w b kd A B C x y z) (hb : Below w.heap.size w w') : Flat w' b kd A B C x y z :=
  ⟨cell_keeps hb h.c0, cell_keeps hb h.c1, cell_keeps hb h.c2, cell_keeps hb h.c3, cell_keeps hb h.c4, cell_keeps hb h.c5, cell_keeps hb h.c6, cell_keeps hb h.c7, cell_keeps hb h.c8, cell_keeps hb h.c9, cell_keeps hb h.c10, cell_keeps hb h.c11, cell_keeps hb h.c12⟩

theorem flat_alloc (w : World) (kd : Int) (A B C : VT) (x y z : Value) (ty : Nat) : Flat (w.alloc (.cells #[.int .i64 kd, .int .i64 A.kind, .int .i64 A.num, .string A.text, x, .int .i64 B.kind, .int .i64 B.num, .string B.text, y, .int .i64 C.kind, .int .i64 C.num, .string C.text, z] ty)) w.heap.size kd A B C x y z :=
  ⟨by simp, by simp, by simp, by simp, by simp, by simp, by simp, by simp, by simp, by simp, by simp, by simp, by simp⟩

def BefC (k : Int) (A B : VT) (x y : Value) (w : World) (b : Bool) (e : Int) : Prop :=
  ∀ W, Below w.heap.size w W → Calls Try.prog 22 #[.int .i64 k, .agg #[.int .i64 A.kind, .int .i64 A.num, .string A.text, x], .agg #[.int .i64 B.kind, .int .i64 B.num, .string B.text, y]] W fun r W' => r = .returned (.tuple #[.bool b, .int .i64 e]) ∧ Below W.heap.size W W'

set_option maxHeartbeats 4000000 in
theorem line_core (kd : Int) (A B C : VT) (ax ay az : Option Addr) (lx ly lz cx cy cz : Nat) (w : World) (ab ba bc ac q : Bool) (e f g h : Int)
    (H1 : Hid (BefC kd A B (.slice ax lx cx) (.slice ay ly cy) w ab e)) (H2 : Hid (BefC kd B A (.slice ay ly cy) (.slice ax lx cx) w ba f))
    (H3 : Hid (BefC kd B C (.slice ay ly cy) (.slice az lz cz) w bc g)) (H4 : Hid (BefC kd A C (.slice ax lx cx) (.slice az lz cz) w ac h))
    (H5 : Hid (∀ W, Below w.heap.size w W → Calls Try.prog 24 #[.agg #[.int .i64 A.kind, .int .i64 A.num, .string A.text, .slice ax lx cx], .agg #[.int .i64 B.kind, .int .i64 B.num, .string B.text, .slice ay ly cy]] W fun r W' => r = .returned (.bool q) ∧ Below W.heap.size W W'))
    (hq : e = 0 → f = 0 → g = 0 → h = 0 → (ab = true → ba = false) ∧ q = !(ab || ba) ∧ (ab = true → bc = true → ac = true)) :
    Calls Try.prog 7 #[flat3 kd A B C (.slice ax lx cx) (.slice ay ly cy) (.slice az lz cz)] w fun e w' => e = .returned (.bool true) ∧ Below w.heap.size w w' := by
  unfold flat3
  have hsp : Hid (∀ w, Calls Try.prog 13 #[] w fun e w' => e = .returned (.bool true) ∧ Below w.heap.size w w') := speaks_any
  have hal : Below w.heap.size w (w.alloc (.cells #[.int .i64 kd, .int .i64 A.kind, .int .i64 A.num, .string A.text, .slice ax lx cx, .int .i64 B.kind, .int .i64 B.num, .string B.text, .slice ay ly cy, .int .i64 C.kind, .int .i64 C.num, .string C.text, .slice az lz cz] 52)) := ((Grew.refl w).alloc _).below
  have HF : Hid (Flat (w.alloc (.cells #[.int .i64 kd, .int .i64 A.kind, .int .i64 A.num, .string A.text, .slice ax lx cx, .int .i64 B.kind, .int .i64 B.num, .string B.text, .slice ay ly cy, .int .i64 C.kind, .int .i64 C.num, .string C.text, .slice az lz cz] 52)) w.heap.size kd A B C (.slice ax lx cx) (.slice ay ly cy) (.slice az lz cz)) := flat_alloc w kd A B C _ _ _ _
  have Hq : Hid (e = 0 → f = 0 → g = 0 → h = 0 → (ab = true → ba = false) ∧ q = !(ab || ba) ∧ (ab = true → bc = true → ac = true)) := hq
  clear hq
  go_enter Try.func7, Try.ntmps7
  go_wp2_with fail
  refine Calls.mono (H1.out _ hal) ?_
  rintro r w1 ⟨rfl, hg⟩
  have hb1 : Below w.heap.size w w1 := hal.trans (hg.mono hal.size)
  have HF1 : Hid (Flat w1 w.heap.size kd A B C (.slice ax lx cx) (.slice ay ly cy) (.slice az lz cz)) := HF.out.keeps hg
  clear hg HF
  obtain ⟨x0, x1, x2, x3, x4, x5, x6, x7, x8, x9, x10, x11, x12⟩ := HF1.out
  go_wp2_with fail
  clear x0 x1 x2 x3 x4 x5 x6 x7 x8 x9 x10 x11 x12
  refine Calls.mono (H2.out _ hb1) ?_
  rintro r w2 ⟨rfl, hg⟩
  have hb2 : Below w.heap.size w w2 := hb1.trans (hg.mono hb1.size)
  have HF2 : Hid (Flat w2 w.heap.size kd A B C (.slice ax lx cx) (.slice ay ly cy) (.slice az lz cz)) := HF1.out.keeps hg
  clear hg HF1 hb1
  obtain ⟨x0, x1, x2, x3, x4, x5, x6, x7, x8, x9, x10, x11, x12⟩ := HF2.out
  go_wp2_with fail
  clear x0 x1 x2 x3 x4 x5 x6 x7 x8 x9 x10 x11 x12
  refine Calls.mono (H3.out _ hb2) ?_
  rintro r w3 ⟨rfl, hg⟩
  have hb3 : Below w.heap.size w w3 := hb2.trans (hg.mono hb2.size)
  have HF3 : Hid (Flat w3 w.heap.size kd A B C (.slice ax lx cx) (.slice ay ly cy) (.slice az lz cz)) := HF2.out.keeps hg
  clear hg HF2 hb2
  obtain ⟨x0, x1, x2, x3, x4, x5, x6, x7, x8, x9, x10, x11, x12⟩ := HF3.out
  go_wp2_with fail
  clear x0 x1 x2 x3 x4 x5 x6 x7 x8 x9 x10 x11 x12
  refine Calls.mono (H4.out _ hb3) ?_
  rintro r w4 ⟨rfl, hg⟩
  have hb4 : Below w.heap.size w w4 := hb3.trans (hg.mono hb3.size)
  have HF4 : Hid (Flat w4 w.heap.size kd A B C (.slice ax lx cx) (.slice ay ly cy) (.slice az lz cz)) := HF3.out.keeps hg
  clear hg HF3 hb3
  obtain ⟨x0, x1, x2, x3, x4, x5, x6, x7, x8, x9, x10, x11, x12⟩ := HF4.out
  cases he : (e == 0)
  · have he2 : (e != 0) = true := by simp [bne, he]
    go_wp2_with fail
    refine Calls.mono (hsp.out _) ?_
    rintro r w5 ⟨rfl, hg⟩
    go_wp2_with fail
    go_ret
    exact ⟨rfl, hb4.trans (hg.mono hb4.size)⟩
  · have he2 : (e != 0) = false := by simp [bne, he]
    cases hf : (f == 0)
    · have hf2 : (f != 0) = true := by simp [bne, hf]
      go_wp2_with fail
      refine Calls.mono (hsp.out _) ?_
      rintro r w5 ⟨rfl, hg⟩
      go_wp2_with fail
      go_ret
      exact ⟨rfl, hb4.trans (hg.mono hb4.size)⟩
    · have hf2 : (f != 0) = false := by simp [bne, hf]
      cases hgg : (g == 0)
      · have hg2 : (g != 0) = true := by simp [bne, hgg]
        go_wp2_with fail
        refine Calls.mono (hsp.out _) ?_
        rintro r w5 ⟨rfl, hg⟩
        go_wp2_with fail
        go_ret
        exact ⟨rfl, hb4.trans (hg.mono hb4.size)⟩
      · have hg2 : (g != 0) = false := by simp [bne, hgg]
        cases hh : (h == 0)
        · have hh2 : (h != 0) = true := by simp [bne, hh]
          go_wp2_with fail
          refine Calls.mono (hsp.out _) ?_
          rintro r w5 ⟨rfl, hg⟩
          go_wp2_with fail
          go_ret
          exact ⟨rfl, hb4.trans (hg.mono hb4.size)⟩
        · have hh2 : (h != 0) = false := by simp [bne, hh]
          obtain ⟨q1, q2, q3⟩ := Hq.out (by simpa using he) (by simpa using hf) (by simpa using hgg) (by simpa using hh)
          clear Hq he hf hgg hh
          cases ab
          · cases ba
            · obtain rfl : q = true := q2
              clear q1 q3
              go_wp2_with fail
              refine Calls.mono (H5.out _ hb4) ?_
              rintro r w5 ⟨rfl, hg⟩
              have hb5 : Below w.heap.size w w5 := hb4.trans (hg.mono hb4.size)
              clear hg x0 x1 x2 x3 x4 x5 x6 x7 x8 x9 x10 x11 x12
              go_wp2_with fail
              refine Calls.mono (hsp.out _) ?_
              rintro r w6 ⟨rfl, hg⟩
              go_wp2_with fail
              go_ret
              exact ⟨rfl, hb5.trans (hg.mono hb5.size)⟩
            · obtain rfl : q = false := q2
              clear q1 q3
              go_wp2_with fail
              refine Calls.mono (H5.out _ hb4) ?_
              rintro r w5 ⟨rfl, hg⟩
              have hb5 : Below w.heap.size w w5 := hb4.trans (hg.mono hb4.size)
              clear hg x0 x1 x2 x3 x4 x5 x6 x7 x8 x9 x10 x11 x12
              go_wp2_with fail
              refine Calls.mono (hsp.out _) ?_
              rintro r w6 ⟨rfl, hg⟩
              go_wp2_with fail
              go_ret
              exact ⟨rfl, hb5.trans (hg.mono hb5.size)⟩
          · obtain rfl : ba = false := q1 rfl
            obtain rfl : q = false := q2
            clear q1
            cases bc
            · clear q3
              go_wp2_with fail
              refine Calls.mono (H5.out _ hb4) ?_
              rintro r w5 ⟨rfl, hg⟩
              have hb5 : Below w.heap.size w w5 := hb4.trans (hg.mono hb4.size)
              clear hg x0 x1 x2 x3 x4 x5 x6 x7 x8 x9 x10 x11 x12
              go_wp2_with fail
              refine Calls.mono (hsp.out _) ?_
              rintro r w6 ⟨rfl, hg⟩
              go_wp2_with fail
              go_ret
              exact ⟨rfl, hb5.trans (hg.mono hb5.size)⟩
            · obtain rfl : ac = true := q3 rfl rfl
              clear q3
              go_wp2_with fail
              refine Calls.mono (H5.out _ hb4) ?_
              rintro r w5 ⟨rfl, hg⟩
              have hb5 : Below w.heap.size w w5 := hb4.trans (hg.mono hb4.size)
              clear hg x0 x1 x2 x3 x4 x5 x6 x7 x8 x9 x10 x11 x12
              go_wp2_with fail
              refine Calls.mono (hsp.out _) ?_
              rintro r w6 ⟨rfl, hg⟩
              go_wp2_with fail
              go_ret
              exact ⟨rfl, hb5.trans (hg.mono hb5.size)⟩

theorem err_zero {d : Nat} {k : Int} {t : VT} (h : ofE d k t = 0) : kindB k = true ∧ rightV d t = true := by
  unfold ofE at h
  by_cases hk : kindB k = true
  · rw [if_pos hk] at h
    cases hr : rightV d t
    · rw [hr] at h; cases h
    · exact ⟨hk, rfl⟩
  · rw [if_neg hk] at h; cases h

theorem bef_zero {d : Nat} {k : Int} {A B : VT} (h : befE d k A B = 0) : ofE d k A = 0 ∧ ofE d k B = 0 := by
  unfold befE at h
  by_cases e : ofE d k A = 0
  · rw [if_pos e] at h; exact ⟨e, h⟩
  · rw [if_neg e] at h; exact absurd h e

theorem line_math (d : Nat) (k : Int) (A B C : VT) (h1 : befE d k A B = 0) (h3 : befE d k B C = 0) :
    (befB d k A B = true → befB d k B A = false) ∧ (cmpV d A B == 0) = !(befB d k A B || befB d k B A) ∧ (befB d k A B = true → befB d k B C = true → befB d k A C = true) := by
  obtain ⟨a1, a2⟩ := bef_zero h1
  obtain ⟨_, a3⟩ := bef_zero h3
  have ht := trie_turn d k A B
  have hb : ∀ X Y, ofE d k X = 0 → ofE d k Y = 0 → befB d k X Y = decide (trieZ d k X Y < 0) := by
    intro X Y hX hY
    unfold befB
    rw [hX, hY]
    rfl
  rw [hb A B a1 a2, hb B A a2 a1, hb B C a2 a3, hb A C a1 a3]
  refine ⟨fun h => ?_, ?_, fun h h' => ?_⟩
  · have : trieZ d k A B < 0 := by simpa using h
    simp; omega
  · by_cases hz : trieZ d k A B = 0
    · have hc : cmpV d A B = 0 := by
        unfold trieZ at hz
        by_cases e : cmpH (ofZ d k A) (ofZ d k B) = 0
        · rw [if_pos e] at hz; exact hz
        · rw [if_neg e] at hz; exact absurd hz e
      rw [hc, show trieZ d k B A = 0 by omega, hz]
      rfl
    · have hc : cmpV d A B ≠ 0 := by
        intro e
        apply hz
        have hf : ofZ d k A = ofZ d k B := by
          unfold ofZ
          rw [(err_zero a1).1, (err_zero a1).2, (err_zero a2).2, full_eq d A B e]
        unfold trieZ
        rw [hf, cmpH_self, if_pos rfl, e]
      have hne : (cmpV d A B == 0) = false := by simp [hc]
      rw [hne]
      by_cases hl : trieZ d k A B < 0
      · simp [hl]
      · have : trieZ d k B A < 0 := by omega
        simp [this]
  · have u1 : trieZ d k A B < 0 := by simpa using h
    have u2 : trieZ d k B C < 0 := by simpa using h'
    obtain ⟨g1, g2⟩ := goes_trie d k A B C (by omega) (by omega)
    have : trieZ d k A C ≠ 0 := fun e => by have := (g2 e).1; omega
    simp; omega

theorem line_walk (n : Nat) (kd : Int) (A B C : VT) (x y z : Value) (w : World) (LA : Lies n w A.items x) (LB : Lies n w B.items y) (LC : Lies n w C.items z) (sA : A.text.size ≤ 9223372036854775807) (sB : B.text.size ≤ 9223372036854775807) (sC : C.text.size ≤ 9223372036854775807) :
    Calls Try.prog 7 #[flat3 kd A B C x y z] w fun e w' => e = .returned (.bool true) ∧ Below w.heap.size w w' := by
  obtain ⟨ax, cx, rfl, _⟩ := Lies.slice LA
  obtain ⟨ay, cy, rfl, _⟩ := Lies.slice LB
  obtain ⟨az, cz, rfl, _⟩ := Lies.slice LC
  exact line_core kd A B C _ _ _ _ _ _ _ _ _ w (befB n kd A B) (befB n kd B A) (befB n kd B C) (befB n kd A C) (cmpV n A B == 0) _ _ _ _
    (fun W hW => before_any n kd A B _ _ W (Lies.keeps hW _ _ _ LA) (Lies.keeps hW _ _ _ LB) sA sB)
    (fun W hW => before_any n kd B A _ _ W (Lies.keeps hW _ _ _ LB) (Lies.keeps hW _ _ _ LA) sB sA)
    (fun W hW => before_any n kd B C _ _ W (Lies.keeps hW _ _ _ LB) (Lies.keeps hW _ _ _ LC) sB sC)
    (fun W hW => before_any n kd A C _ _ W (Lies.keeps hW _ _ _ LA) (Lies.keeps hW _ _ _ LC) sA sC)
    (fun W hW => (equal_any n A B _ _ W (Lies.keeps hW _ _ _ LA) (Lies.keeps hW _ _ _ LB)).mono fun _ _ h => ⟨h.1, h.2.below⟩)
    (fun h1 _ h3 _ => line_math n kd A B C h1 h3)

end Go.Proofs.Ytaghmgeamhojbab

