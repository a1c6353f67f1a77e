/-
  PathsBack: what is put stands there.
-/
import Derived.Test.YtmbolemcpobbgaaBackM
import Derived.Test.YtmbolemcpobbgaaLevel
import Derived.Deep.RegionHeld3
namespace Go.Proofs.Ytmbolemcpobbgaa
open Go.RowKit Go.Shelf

theorem dp_put : ∀ (p : List VT) (t x z : VT), (∀ s ∈ p, Dp 16 s) → Dp 16 t → Dp 16 x → putT t p x = some z → Dp (16 + p.length) z := by
  intro p
  induction p with
  | nil => intro t x z _ _ hx h; unfold putT at h; injection h with h; subst h; exact hx
  | cons s r ih =>
    intro t x z hp ht hx h
    unfold putT at h
    have hs := hp s List.mem_cons_self
    have hm : ∀ t2 i, opnT t s = some (t2, i) → ∀ u ∈ t2.items, Dp 16 u := by
      intro t2 i ho u hu
      rcases opn_mem ho u hu with h1 | h1 | h1
      · exact Dp.mono (d := 15) (ht u h1) (by omega)
      · rw [h1]; exact hs
      · rw [h1]; exact nil_dp
    cases ho : opnT t s with
    | none => rw [ho] at h; cases h
    | some q =>
      obtain ⟨t2, i⟩ := q
      rw [ho] at h
      simp only at h
      cases hg : t2.items[i]? with
      | none => rw [hg] at h; cases h
      | some y =>
        rw [hg] at h
        simp only at h
        cases hq : putT y r x with
        | none => rw [hq] at h; cases h
        | some z' =>
          rw [hq] at h
          injection h with h
          subst h
          have hy : Dp 16 y := hm t2 i ho y (List.mem_of_getElem? hg)
          have hz := ih y x z' (fun u hu => hp u (List.mem_cons_of_mem _ hu)) hy hx hq
          intro u hu
          rcases List.mem_or_eq_of_mem_set hu with h1 | h1
          · exact Dp.mono (d := 16) (e := 16 + r.length) (hm t2 i ho u h1) (by omega)
          · rw [h1]; exact hz

theorem putE_zero {d : Nat} {t x : VT} {p : List VT} (h : putE d t p x = 0) : chkE d t p = 0 ∧ rightV d x = true ∧ ∃ z, putT t p x = some z ∧ fitE 32 z = 0 ∧ putR d t p x = z := by
  have h0 := h
  unfold putE at h
  by_cases hc : chkE d t p = 0
  · rw [if_pos hc] at h
    by_cases hx : rightV d x = true
    · rw [if_pos hx] at h
      cases hz : putT t p x with
      | none => rw [hz] at h; cases h
      | some z =>
        rw [hz] at h
        refine ⟨hc, hx, z, rfl, h, ?_⟩
        unfold putR
        rw [if_pos h0, hz]; rfl
    · rw [if_neg hx] at h; cases h
  · rw [if_neg hc] at h; exact absurd h hc

theorem putE_of {d : Nat} {t x z : VT} {p : List VT} (hc : chkE d t p = 0) (hx : rightV d x = true) (hz : putT t p x = some z) (hf : fitE 32 z = 0) : putE d t p x = 0 ∧ putR d t p x = z := by
  have h0 : putE d t p x = 0 := by unfold putE; rw [if_pos hc, if_pos hx, hz]; exact hf
  refine ⟨h0, ?_⟩
  unfold putR
  rw [if_pos h0, hz]; rfl

theorem fitE_two (D : Nat) (z : VT) : fitE D z = 0 ∨ fitE D z = 2 := by
  unfold fitE
  by_cases h : (fw D z 16 1024).1 = true
  · rw [if_pos h]; exact .inl rfl
  · rw [if_neg h]; exact .inr rfl

theorem fitE_fw {D : Nat} {z : VT} (h : fitE D z = 0) : (fw D z 16 1024).1 = true := by
  unfold fitE at h
  by_cases h1 : (fw D z 16 1024).1 = true
  · exact h1
  · rw [if_neg h1] at h; cases h

theorem chk_of {d : Nat} {t z : VT} {p : List VT} (h : chkE d t p = 0) (hz : rightV d z = true) : chkE d z p = 0 := by
  have h1 := (chk_zero h).1
  unfold chkE at *
  rw [if_pos h1] at h
  rw [if_pos hz]
  exact h

/-- What is put, put by Put: right. -/
theorem put_ok {d : Nat} (h16 : 16 ≤ d) {t x z : VT} {p : List VT} (ht : rightV 16 t = true ∧ Dp 16 t) (hx : rightV 16 x = true ∧ Dp 16 x) (hp : ∀ s ∈ p, rightV 16 s = true ∧ Dp 16 s) (hl : p.length ≤ 16) (hz : putT t p x = some z) (hf : fitE 32 z = 0) : rightV 16 z = true ∧ Dp 16 z ∧ rightV d z = true := by
  have hd := dp_put p t x z (fun s hs => (hp s hs).2) ht.2 hx.2 hz
  have h := put_fits (fun s hs => (hp s hs).1) ht.1 ht.2 hx.1 hx.2 hz (D := 32) (by omega) (hd.mono (by omega)) (fitE_fw hf)
  exact ⟨h.1, h.2, by rw [rightV_eq z h.2 h16]; exact h.1⟩

theorem back_walk (n0 n1 n2 : Nat) (t x : VT) (p : List VT) (u pv v : Value) (w : World) (L0 : Lies n0 w t.items u) (L1 : Lies (n1 + 1) w p pv) (L2 : Lies n2 w x.items v) (b0 : t.text.size ≤ 9223372036854775807) (b2 : x.text.size ≤ 9223372036854775807) :
    Calls Try.prog 7 #[.agg #[.int .i64 t.kind, .int .i64 t.num, .string t.text, u], pv, .agg #[.int .i64 x.kind, .int .i64 x.num, .string x.text, v]] w fun e w' => e = .returned (.bool true) ∧ Below w.heap.size w w' := by
  obtain ⟨d, h16, hn0, hn1, hn2⟩ : ∃ d, 16 ≤ d ∧ n0 ≤ d ∧ n1 ≤ d ∧ n2 ≤ d := ⟨16 + n0 + n1 + n2, by omega, by omega, by omega, by omega⟩
  replace L0 := L0.atLeast d hn0
  replace L1 := L1.atLeast (d + 1) (by omega)
  replace L2 := L2.atLeast d hn2
  obtain ⟨a, c, rfl, _⟩ := Lies.slice L0
  obtain ⟨ap, cp, rfl, _⟩ := Lies.slice L1
  obtain ⟨ax, cx, rfl, _⟩ := Lies.slice L2
  have A : putE d t p x = 0 → (rightV 16 t = true ∧ Dp 16 t) ∧ (rightV 16 x = true ∧ Dp 16 x) ∧ (∀ s ∈ p, rightV 16 s = true ∧ Dp 16 s) ∧ p.length ≤ 16 ∧ chkE d t p = 0 ∧ rightV d t = true ∧ rightV d x = true ∧ Lies 16 w x.items (.slice ax x.items.length cx) ∧ ∃ z, putT t p x = some z ∧ fitE 32 z = 0 ∧ putR d t p x = z := fun h => by
    obtain ⟨hc, hx, z, k⟩ := putE_zero h
    obtain ⟨c1, c2, c3⟩ := chk_zero hc
    have e1 := canon L0 c1
    have e2 := canon L2 hx
    exact ⟨⟨e1.2, Dp.of_lies 16 w t _ e1.1⟩, ⟨e2.2, Dp.of_lies 16 w x _ e2.1⟩, (canonL26 L1 c3).2, c2, hc, c1, hx, e2.1, z, k⟩
  have B : putE d t p x = 0 → rightV 16 (putR d t p x) = true ∧ rightV d (putR d t p x) = true ∧ Dp 16 (putR d t p x) ∧ chkE d (putR d t p x) p = 0 ∧ atT (putR d t p x) p = some x ∧ putT (putR d t p x) p x = some (putR d t p x) ∧ fitE 32 (putR d t p x) = 0 := fun h => by
    obtain ⟨k1, k2, k3, k4, k5, k6, k7, _, z, k8, k9, k10⟩ := A h
    obtain ⟨r1, r2, r3⟩ := put_ok h16 k1 k2 k3 k4 k8 k9
    rw [k10]
    exact ⟨r1, r3, r2, chk_of k5 r3, at_put p t x z right_even k1.1 k1.2 k8, by rw [put_put p t x z x right_even k1.1 k1.2 k8]; exact k8, k9⟩
  refine back_core t x (putR d t p x) (putR d (putR d t p x) p t) (putE d t p x) (putE d (putR d t p x) p t) a ap ax _ c _ cp _ cx w ?_ ?_ ?_ ?_ ?_ ?_ ?_ ?_
  · exact fun W hW => put_face put_all d t x p _ _ _ W (Lies.keeps hW _ _ _ L0) b0 (Lies.keeps hW _ _ _ L1) (Lies.keeps hW _ _ _ L2) b2
  · intro h W u hW hl
    obtain ⟨r1, r2, r3, r4, r5, _, _⟩ := B h
    have := get_any d (putR d t p x) p u (.slice ap p.length cp) W (hl.atLeast d h16) (by have := right_size r1; omega) (Lies.keeps hW _ _ _ L1)
    have g1 : getR d (putR d t p x) p = x := by unfold getR; rw [if_pos r4]; unfold atR; rw [r5]; rfl
    have g2 : getB d (putR d t p x) p = true := by unfold getB; rw [if_pos r4]; unfold atB; rw [r5]; rfl
    rw [g1, g2, r4] at this
    exact this
  · intro h W u hW hl
    obtain ⟨r1, _⟩ := B h
    exact put_face put_all d (putR d t p x) t p _ _ _ W (hl.atLeast d h16) (by have := right_size r1; omega) (Lies.keeps hW _ _ _ L1) (Lies.keeps hW _ _ _ L0) b0
  · intro h h2 W u hW hl
    obtain ⟨k1, k2, k3, k4, k5, k6, k7, _⟩ := A h
    obtain ⟨r1, r2, r3, r4, r5, r6, r7⟩ := B h
    obtain ⟨_, _, y, y1, y2, y3⟩ := putE_zero h2
    obtain ⟨s1, s2, s3⟩ := put_ok h16 ⟨r1, r3⟩ k1 k3 k4 y1 y2
    rw [y3] at hl ⊢
    have q : putT y p x = some (putR d t p x) := by rw [put_put p (putR d t p x) t y x right_even r1 r3 y1]; exact r6
    have q2 := putE_of (chk_of r4 s3) k7 q r7
    have := put_face put_all d y x p u _ _ W (hl.atLeast d h16) (by have := right_size s1; omega) (Lies.keeps hW _ _ _ L1) (Lies.keeps hW _ _ _ L2) b2
    rw [q2.1, q2.2] at this
    exact this
  · exact fun s u v W h1 h2 => (same_any 16 s s u v W h1 h2).mono fun e W' h => ⟨by rw [h.1, sameV_self], h.2.below⟩
  · exact fun h => (B h).1
  · intro h
    obtain ⟨k1, k2, k3, k4, k5, k6, k7, _⟩ := A h
    obtain ⟨r1, r2, r3, r4, r5, r6, r7⟩ := B h
    have hs := put_some p (putR d t p x) t x
    rw [r6] at hs
    unfold putE
    rw [if_pos r4, if_pos k6]
    cases hz : putT (putR d t p x) p t with
    | none => rw [hz] at hs; cases hs
    | some y => exact fitE_two 32 y
  · exact fun h => (A h).2.2.2.2.2.2.2.1

end Go.Proofs.Ytmbolemcpobbgaa

