/-
  The walk of OrderLine.
-/
import Derived.Test.YtacnfmamjbmhcabSpeaks6
import Derived.Test.YtacnfmamjbmhcabReadO
import Derived.Test.YtacnfmamjbmhcabSame
namespace Go.Proofs.Ytacnfmamjbmhcab
open Go.RowKit

/-- A kind and three values lie in block b. -/
structure Flat (w : World) (b : Nat) (kd : Int) (A B C : VT) (x y z : Value) : Prop where
  c0 : w.cell? ⟨b, 0, none⟩ = some (.int .i64 kd)
  c1 : w.cell? ⟨b, 1, none⟩ = some (.int .i64 A.kind)
  c2 : w.cell? ⟨b, 2, none⟩ = some (.int .i64 A.num)
  c3 : w.cell? ⟨b, 3, none⟩ = some (.string A.text)
  c4 : w.cell? ⟨b, 4, none⟩ = some (x)
  c5 : w.cell? ⟨b, 5, none⟩ = some (.int .i64 B.kind)
  c6 : w.cell? ⟨b, 6, none⟩ = some (.int .i64 B.num)
  c7 : w.cell? ⟨b, 7, none⟩ = some (.string B.text)
  c8 : w.cell? ⟨b, 8, none⟩ = some (y)
  c9 : w.cell? ⟨b, 9, none⟩ = some (.int .i64 C.kind)
  c10 : w.cell? ⟨b, 10, none⟩ = some (.int .i64 C.num)
  c11 : w.cell? ⟨b, 11, none⟩ = some (.string C.text)
  c12 : w.cell? ⟨b, 12, none⟩ = some (z)

theorem Flat.keeps {w w' : World} {b : Nat} {kd : Int} {A B C : VT} {x y z : Value} (h : Flat w b kd A B C x y z) (hb : Below w.heap.size w w') : Flat w' b kd A B C x y z :=
  ⟨cell_keeps hb h.c0, cell_keeps hb h.c1, cell_keeps hb h.c2, cell_keeps hb h.c3, cell_keeps hb h.c4, cell_keeps hb h.c5, cell_keeps hb h.c6, cell_keeps hb h.c7, cell_keeps hb h.c8, cell_keeps hb h.c9, cell_keeps hb h.c10, cell_keeps hb h.c11, cell_keeps hb h.c12⟩

theorem flat_alloc (w : World) (kd : Int) (A B C : VT) (x y z : Value) (ty : Nat) : Flat (w.alloc (.cells #[.int .i64 kd, .int .i64 A.kind, .int .i64 A.num, .string A.text, x, .int .i64 B.kind, .int .i64 B.num, .string B.text, y, .int .i64 C.kind, .int .i64 C.num, .string C.text, z] ty)) w.heap.size kd A B C x y z :=
  ⟨by simp, by simp, by simp, by simp, by simp, by simp, by simp, by simp, by simp, by simp, by simp, by simp, by simp⟩


set_option maxHeartbeats 8000000 in
theorem line6_core (kd : Int) (A B C : VT) (ax ay az : Option Addr) (lx ly lz cx cy cz : Nat) (w : World) (ab ba bc ac e f g h : Int) (q : Bool)
    (H1 : Hid (∀ W, Below w.heap.size w W → Calls Try.prog 5 #[.int .i64 kd, (.agg #[.int .i64 A.kind, .int .i64 A.num, .string A.text, .slice ax lx cx]), (.agg #[.int .i64 B.kind, .int .i64 B.num, .string B.text, .slice ay ly cy])] W fun r W' => r = .returned (.tuple #[.int .i64 ab, .int .i64 e]) ∧ Below W.heap.size W W'))
    (H2 : Hid (∀ W, Below w.heap.size w W → Calls Try.prog 5 #[.int .i64 kd, (.agg #[.int .i64 B.kind, .int .i64 B.num, .string B.text, .slice ay ly cy]), (.agg #[.int .i64 A.kind, .int .i64 A.num, .string A.text, .slice ax lx cx])] W fun r W' => r = .returned (.tuple #[.int .i64 ba, .int .i64 f]) ∧ Below W.heap.size W W'))
    (H3 : Hid (∀ W, Below w.heap.size w W → Calls Try.prog 5 #[.int .i64 kd, (.agg #[.int .i64 B.kind, .int .i64 B.num, .string B.text, .slice ay ly cy]), (.agg #[.int .i64 C.kind, .int .i64 C.num, .string C.text, .slice az lz cz])] W fun r W' => r = .returned (.tuple #[.int .i64 bc, .int .i64 g]) ∧ Below W.heap.size W W'))
    (H4 : Hid (∀ W, Below w.heap.size w W → Calls Try.prog 5 #[.int .i64 kd, (.agg #[.int .i64 A.kind, .int .i64 A.num, .string A.text, .slice ax lx cx]), (.agg #[.int .i64 C.kind, .int .i64 C.num, .string C.text, .slice az lz cz])] W fun r W' => r = .returned (.tuple #[.int .i64 ac, .int .i64 h]) ∧ Below W.heap.size W W'))
    (H5 : Hid (∀ W, Below w.heap.size w W → Calls Try.prog 7 #[(.agg #[.int .i64 A.kind, .int .i64 A.num, .string A.text, .slice ax lx cx]), (.agg #[.int .i64 B.kind, .int .i64 B.num, .string B.text, .slice ay ly cy])] W fun r W' => r = .returned (.bool q) ∧ Below W.heap.size W W'))
    (hq : e ≠ 0 ∨ (e = 0 ∧ f = 0 ∧ g ≠ 0) ∨ (e = 0 ∧ f = 0 ∧ g = 0 ∧ h = 0 ∧ ba = -ab ∧ -1 ≤ ab ∧ ab ≤ 1 ∧ (0 < ab ∨ (¬ 0 < ab ∧ 0 < bc) ∨ (¬ 0 < ab ∧ ¬ 0 < bc ∧ ac ≤ 0)) ∧ q = (ab == 0))) :
    Calls Try.prog 3 #[flat3 kd A B C (.slice ax lx cx) (.slice ay ly cy) (.slice az lz cz)] w fun e w' => e = .returned (.bool true) ∧ Below w.heap.size w w' := by
  unfold flat3
  have hsp : Hid (∀ w, Calls Try.prog 6 #[] w fun e w' => e = .returned (.bool true) ∧ Below w.heap.size w w') := speaks_any
  have hb0 : Below w.heap.size w (w.alloc (.cells #[.int .i64 kd, .int .i64 A.kind, .int .i64 A.num, .string A.text, .slice ax lx cx, .int .i64 B.kind, .int .i64 B.num, .string B.text, .slice ay ly cy, .int .i64 C.kind, .int .i64 C.num, .string C.text, .slice az lz cz] 26)) := ((Grew.refl w).alloc _).below
  have HF0 : Hid (Flat (w.alloc (.cells #[.int .i64 kd, .int .i64 A.kind, .int .i64 A.num, .string A.text, .slice ax lx cx, .int .i64 B.kind, .int .i64 B.num, .string B.text, .slice ay ly cy, .int .i64 C.kind, .int .i64 C.num, .string C.text, .slice az lz cz] 26)) w.heap.size kd A B C (.slice ax lx cx) (.slice ay ly cy) (.slice az lz cz)) := flat_alloc w kd A B C _ _ _ _
  have Hq : Hid _ := hq
  clear hq
  go_enter Try.func3, Try.ntmps3
  go_wp2_with fail
  refine Calls.mono (H1.out _ hb0) ?_
  rintro r w1 ⟨rfl, hg⟩
  have hb1 : Below w.heap.size w w1 := hb0.trans (hg.mono hb0.size)
  have HF1 : Hid (Flat w1 w.heap.size kd A B C (.slice ax lx cx) (.slice ay ly cy) (.slice az lz cz)) := HF0.out.keeps hg
  clear hg HF0 hb0
  obtain ⟨x0, x1, x2, x3, x4, x5, x6, x7, x8, x9, x10, x11, x12⟩ := HF1.out
  go_wp2_with fail
  clear x0 x1 x2 x3 x4 x5 x6 x7 x8 x9 x10 x11 x12
  refine Calls.mono (H2.out _ hb1) ?_
  rintro r w2 ⟨rfl, hg⟩
  have hb2 : Below w.heap.size w w2 := hb1.trans (hg.mono hb1.size)
  have HF2 : Hid (Flat w2 w.heap.size kd A B C (.slice ax lx cx) (.slice ay ly cy) (.slice az lz cz)) := HF1.out.keeps hg
  clear hg HF1 hb1
  obtain ⟨x0, x1, x2, x3, x4, x5, x6, x7, x8, x9, x10, x11, x12⟩ := HF2.out
  go_wp2_with fail
  clear x0 x1 x2 x3 x4 x5 x6 x7 x8 x9 x10 x11 x12
  refine Calls.mono (H3.out _ hb2) ?_
  rintro r w3 ⟨rfl, hg⟩
  have hb3 : Below w.heap.size w w3 := hb2.trans (hg.mono hb2.size)
  have HF3 : Hid (Flat w3 w.heap.size kd A B C (.slice ax lx cx) (.slice ay ly cy) (.slice az lz cz)) := HF2.out.keeps hg
  clear hg HF2 hb2
  obtain ⟨x0, x1, x2, x3, x4, x5, x6, x7, x8, x9, x10, x11, x12⟩ := HF3.out
  go_wp2_with fail
  clear x0 x1 x2 x3 x4 x5 x6 x7 x8 x9 x10 x11 x12
  refine Calls.mono (H4.out _ hb3) ?_
  rintro r w4 ⟨rfl, hg⟩
  have hb4 : Below w.heap.size w w4 := hb3.trans (hg.mono hb3.size)
  have HF4 : Hid (Flat w4 w.heap.size kd A B C (.slice ax lx cx) (.slice ay ly cy) (.slice az lz cz)) := HF3.out.keeps hg
  clear hg HF3 hb3
  clear H1 H2 H3 H4
  rcases Hq.out with hE | ⟨hE, hf, hG⟩ | ⟨hE, hf, hG, hH, hba, hr1, hr2, hcs, hqq⟩
  · have hE' : ¬ e = 0 := hE
    clear hE Hq HF4
    go_wp2_with fail
    refine Calls.mono (hsp.out _) ?_
    rintro r w5 ⟨rfl, hg⟩
    have hb5 : Below w.heap.size w w5 := hb4.trans (hg.mono hb4.size)
    clear hg
    go_wp2_with fail
    go_ret
    exact ⟨rfl, hb5⟩
  · have hG' : ¬ g = 0 := hG
    subst hE hf
    clear hG Hq HF4
    go_wp2_with fail
    refine Calls.mono (hsp.out _) ?_
    rintro r w5 ⟨rfl, hg⟩
    have hb5 : Below w.heap.size w w5 := hb4.trans (hg.mono hb4.size)
    clear hg
    go_wp2_with fail
    go_ret
    exact ⟨rfl, hb5⟩
  · subst hE hf hG hH hba hqq
    clear Hq
    obtain ⟨x0, x1, x2, x3, x4, x5, x6, x7, x8, x9, x10, x11, x12⟩ := HF4.out
    rcases hcs with h1 | ⟨h1, h2⟩ | ⟨h1, h2, h3⟩
    · go_wp2_with fail
      refine Calls.mono (H5.out _ hb4) ?_
      rintro r w5 ⟨rfl, hg⟩
      have hb5 : Below w.heap.size w w5 := hb4.trans (hg.mono hb4.size)
      clear hg x0 x1 x2 x3 x4 x5 x6 x7 x8 x9 x10 x11 x12 HF4 hb4
      go_wp2_with fail
      refine Calls.mono (hsp.out _) ?_
      rintro r w6 ⟨rfl, hg⟩
      have hb6 : Below w.heap.size w w6 := hb5.trans (hg.mono hb5.size)
      clear hg
      go_wp2_with fail
      go_ret
      exact ⟨rfl, hb6⟩
    · go_wp2_with fail
      refine Calls.mono (H5.out _ hb4) ?_
      rintro r w5 ⟨rfl, hg⟩
      have hb5 : Below w.heap.size w w5 := hb4.trans (hg.mono hb4.size)
      clear hg x0 x1 x2 x3 x4 x5 x6 x7 x8 x9 x10 x11 x12 HF4 hb4
      go_wp2_with fail
      refine Calls.mono (hsp.out _) ?_
      rintro r w6 ⟨rfl, hg⟩
      have hb6 : Below w.heap.size w w6 := hb5.trans (hg.mono hb5.size)
      clear hg
      go_wp2_with fail
      go_ret
      exact ⟨rfl, hb6⟩
    · go_wp2_with fail
      refine Calls.mono (H5.out _ hb4) ?_
      rintro r w5 ⟨rfl, hg⟩
      have hb5 : Below w.heap.size w w5 := hb4.trans (hg.mono hb4.size)
      clear hg x0 x1 x2 x3 x4 x5 x6 x7 x8 x9 x10 x11 x12 HF4 hb4
      go_wp2_with fail
      refine Calls.mono (hsp.out _) ?_
      rintro r w6 ⟨rfl, hg⟩
      have hb6 : Below w.heap.size w w6 := hb5.trans (hg.mono hb5.size)
      clear hg
      go_wp2_with fail
      go_ret
      exact ⟨rfl, hb6⟩

theorem line6_walk (n : Nat) (kd : Int) (A B C : VT) (x y z : Value) (w : World) (LA : Lies n w A.items x) (LB : Lies n w B.items y) (LC : Lies n w C.items z) (sA : A.text.size ≤ 9223372036854775807) (sB : B.text.size ≤ 9223372036854775807) (sC : C.text.size ≤ 9223372036854775807) :
    Calls Try.prog 3 #[flat3 kd A B C x y z] w fun e w' => e = .returned (.bool true) ∧ Below w.heap.size w w' := by
  obtain ⟨ax, cx, rfl, _⟩ := Lies.slice LA
  obtain ⟨ay, cy, rfl, _⟩ := Lies.slice LB
  obtain ⟨az, cz, rfl, _⟩ := Lies.slice LC
  have hc : ∀ (t s : VT) (u v : Value), Lies n w t.items u → Lies n w s.items v → t.text.size ≤ 9223372036854775807 → s.text.size ≤ 9223372036854775807 → ∀ W, Below w.heap.size w W → Calls Try.prog 5 #[.int .i64 kd, .agg #[.int .i64 t.kind, .int .i64 t.num, .string t.text, u], .agg #[.int .i64 s.kind, .int .i64 s.num, .string s.text, v]] W fun r W' => r = .returned (.tuple #[.int .i64 (ordR n kd t s), .int .i64 (ordE n kd t s)]) ∧ Below W.heap.size W W' :=
    fun t s u v h1 h2 h3 h4 W hW => compareO_any n kd t s u v W (Lies.keeps hW _ _ _ h1) (Lies.keeps hW _ _ _ h2) h3 h4
  refine line6_core kd A B C ax ay az _ _ _ cx cy cz w _ _ _ _ _ _ _ _ (cmpV n A B == 0) (hc A B _ _ LA LB sA sB) (hc B A _ _ LB LA sB sA) (hc B C _ _ LB LC sB sC) (hc A C _ _ LA LC sA sC)
    (fun W hW => (equal_any n A B _ _ W (Lies.keeps hW _ _ _ LA) (Lies.keeps hW _ _ _ LB)).mono fun r W' h => ⟨h.1, h.2.below⟩) ?_
  by_cases ho : kd < 0 ∨ 6 ≤ kd
  · left
    unfold ordE; rw [if_pos ho]; omega
  · by_cases hA : rightV n A = true
    · by_cases hB : rightV n B = true
      · have e1 : ordE n kd A B = 0 := by unfold ordE; rw [if_neg ho, if_pos ⟨hA, hB⟩]
        have e2 : ordE n kd B A = 0 := by unfold ordE; rw [if_neg ho, if_pos ⟨hB, hA⟩]
        by_cases hC : rightV n C = true
        · have e3 : ordE n kd B C = 0 := by unfold ordE; rw [if_neg ho, if_pos ⟨hB, hC⟩]
          have e4 : ordE n kd A C = 0 := by unfold ordE; rw [if_neg ho, if_pos ⟨hA, hC⟩]
          have r1 : ordR n kd A B = ordV kd.toNat A B := by unfold ordR; rw [if_pos e1]
          have r2 : ordR n kd B A = ordV kd.toNat B A := by unfold ordR; rw [if_pos e2]
          have r3 : ordR n kd B C = ordV kd.toNat B C := by unfold ordR; rw [if_pos e3]
          have r4 : ordR n kd A C = ordV kd.toNat A C := by unfold ordR; rw [if_pos e4]
          have ht := ordV_turn kd.toNat A B
          have hr := ordM_range kd.toNat A B (msr kd.toNat A) (msr kd.toNat B)
          have hr' : -1 ≤ ordV kd.toNat A B ∧ ordV kd.toNat A B ≤ 1 := hr
          have dA := Dp.of_lies n w A _ LA
          have dB := Dp.of_lies n w B _ LB
          have kA := right_deep hA dA
          have kB := right_deep hB dB
          have gA : Good 16 A := ⟨by rw [rightV_any A dA kA]; exact hA, kA⟩
          have gB : Good 16 B := ⟨by rw [rightV_any B dB kB]; exact hB, kB⟩
          have hz := ordV_zero kd.toNat gA gB
          have hcc := cmpV_any A B dA dB kA kB
          right; right
          rw [r1, r2, r3, r4]
          refine ⟨e1, e2, e3, e4, ht, hr'.1, hr'.2, ?_, ?_⟩
          · by_cases k1 : 0 < ordV kd.toNat A B
            · exact .inl k1
            · by_cases k2 : 0 < ordV kd.toNat B C
              · exact .inr (.inl ⟨k1, k2⟩)
              · exact .inr (.inr ⟨k1, k2, (ordV_goes kd.toNat A B C (by omega) (by omega)).1⟩)
          · rw [← hcc]
            cases hd : (ordV kd.toNat A B == 0)
            · have : ¬ ordV kd.toNat A B = 0 := by simpa using hd
              simpa using fun h => this (hz.2 h)
            · have : ordV kd.toNat A B = 0 := by simpa using hd
              simpa using hz.1 this
        · right; left
          refine ⟨e1, e2, ?_⟩
          unfold ordE; rw [if_neg ho, if_neg (fun h => hC h.2)]; omega
      · left
        unfold ordE; rw [if_neg ho, if_neg (fun h => hB h.2)]; omega
    · left
      unfold ordE; rw [if_neg ho, if_neg (fun h => hA h.1)]; omega

end Go.Proofs.Ytacnfmamjbmhcab

