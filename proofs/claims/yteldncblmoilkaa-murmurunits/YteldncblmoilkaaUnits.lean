/-
  The contracts of Units, the program's and the document's: one and the same plain number.
-/
import Derived.Test.YteldncblmoilkaaSpeaks
namespace Go.Proofs.Yteldncblmoilkaa
open Go.RowKit

def uStep (h x y : Int) : Int := mixH h (mixK (bits .or .u32 (x % 4294967296) (y % 4294967296 * 65536 % 4294967296)))

def unF : List Int → Int → Int
  | [], h => h
  | [x], h => bits .xor .u32 h (mixK (x % 4294967296))
  | x :: y :: l, h => unF l (uStep h x y)

def unitsZ (l : List Int) : Int := finZ (unF l 0) (wrap64 (2 * l.length) % 4294967296)

theorem quiet_of {f : FuncId} {args : Array Value} {w : World} {n : Nat} {v : Value}
    (h : Calls Try.prog f args (w.drewN n) fun e w' => e = .returned v ∧ Drawn (w.drewN n) w') : Calls Try.prog f args (w.drewN n) fun e w'' => e = .returned v ∧ ∃ m, w'' = w.drewN m :=
  h.mono fun _ _ ⟨he, m, hm⟩ => ⟨he, n + m, by rw [hm, World.drewN_drewN]⟩

theorem unF_two (l : List Int) (j : Nat) (h : Int) (hj : j + 1 < l.length) : unF (l.drop j) h = unF (l.drop (j + 2)) (uStep h l[j] l[j + 1]) := by
  rw [List.drop_eq_getElem_cons (by omega : j < l.length), List.drop_eq_getElem_cons (by omega : j + 1 < l.length)]
  rfl
theorem unF_one (l : List Int) (j : Nat) (h : Int) (hj : j + 1 = l.length) : unF (l.drop j) h = bits .xor .u32 h (mixK (l[j] % 4294967296)) := by
  rw [List.drop_eq_getElem_cons (by omega : j < l.length), List.drop_eq_nil_of_le (by omega : l.length ≤ j + 1)]
  rfl
theorem unF_end (l : List Int) (j : Nat) (h : Int) (hj : j = l.length) : unF (l.drop j) h = h := by
  rw [List.drop_eq_nil_of_le (by omega)]
  rfl

set_option maxHeartbeats 1000000 in
theorem units_any (l : List Int) (v : Value) (w : World) (hl : IntsAt .u16 w l v) : Calls Try.prog 20 #[v] w fun e w' => e = .returned (.int .u32 (unitsZ l)) ∧ Drawn w w' := by
  obtain ⟨a, c, rfl, hlen, hcap, hr⟩ := hl
  have HR : Hid (l ≠ [] → ∃ b o, a = some ⟨b, o, none⟩ ∧ ∀ (i : Nat) (h : i < l.length), w.cell? ⟨b, o + i, none⟩ = some (.int .u16 (l[i]'h))) := hr
  clear hr
  go_enter Try.func20, Try.ntmps20
  go_wp2_with fail
  go_loopg [0, 4] l.length (fun k s m wr => ∃ (j c' : Nat) (a' : Option Addr) (h : Int), s = .slice a' (l.length - j : Nat) c' ∧ m = .int .u32 h ∧ j ≤ l.length ∧ k = l.length - j ∧ l.length - j ≤ c' ∧
    (∀ b o, a = some ⟨b, o, none⟩ → j < l.length → a' = some ⟨b, o + j, none⟩) ∧ Hid (unF (l.drop j) h = unF l 0) ∧ Drawn w wr)
  case atStart => exact ⟨0, c, a, 0, rfl, rfl, by omega, by omega, by omega, fun b o e _ => e, rfl, Drawn.refl _⟩
  case round =>
    obtain ⟨j, c', a', hh, rfl, rfl, hj, hk, hc', ha', HF, hd⟩ := hrel
    have Hk : Hid _ := hk
    clear hk
    by_cases hlt : j + 1 < l.length
    · obtain ⟨b, o, rfl, hcs⟩ := HR.out (fun e => by subst e; cases hlt)
      obtain rfl := ha' b o rfl (by omega)
      have hx := cell_keeps hd.grew.below (hcs j (by omega))
      have hy := cell_keeps hd.grew.below (hcs (j + 1) hlt)
      have Hs : Hid _ := unF_two l j hh hlt
      generalize l[j] = x at hx Hs
      generalize l[j + 1] = y at hy Hs
      clear hcs ha'
      rw [← Nat.add_assoc] at hy
      generalize hq : o + j = q at hx hy ⊢
      have Hq : Hid _ := hq
      clear hq
      obtain ⟨m, hm⟩ : ∃ m, m = l.length - j := ⟨_, rfl⟩
      rw [← hm] at hc' ⊢
      have Hm : Hid _ := hm
      clear hm
      have hge : (2 : Int) ≤ (m : Nat) := by have := Hm.out; omega
      have h0 : (0 : Int) < (m : Nat) := by omega
      have h1 : (1 : Int) < (m : Nat) := by omega
      have h0n : 0 < m := by omega
      have h1n : 1 < m := by omega
      have hmz : m ≠ 0 := by omega
      go_wp2_with fail
      go_quiet (first | (go_at_call 9; exact quiet_of (mixK_any _ _)) | (go_at_call 11; exact quiet_of (mixH_any _ _ _)))
      by_cases hc2 : c' = 2
      · subst hc2
        have hm2 : m = 2 := by omega
        subst hm2
        go_wp2_with fail
        go_roundg (l.length - (j + 2))
        case measure => have := Hk.out; omega
        case rel =>
          refine ⟨j + 2, 0, some ⟨b, q, none⟩, uStep hh x y, ?_, rfl, by omega, rfl, ?_, fun b' o' e hlt' => ?_, ?_, hd.trans (Drawn.n _ _)⟩
          · have := Hm.out
            rw [show l.length - (j + 2) = 0 by omega]
          · have := Hm.out
            omega
          · exfalso; have := Hm.out; omega
          · exact Hs.out.symm.trans HF.out
      · have hc3 : ¬ ((c' : Int) = 2) := by omega
        go_wp2_with fail
        go_roundg (l.length - (j + 2))
        case measure => have := Hk.out; omega
        case rel =>
          refine ⟨j + 2, c' - 2, some ⟨b, q + 2, none⟩, uStep hh x y, ?_, rfl, by omega, rfl, ?_, fun b' o' e hlt' => ?_, ?_, hd.trans (Drawn.n _ _)⟩
          · have := Hm.out
            rw [show l.length - (j + 2) = m - 2 by omega]
          · have := Hm.out
            omega
          · have e1 : b = b' ∧ o = o' := by simpa using e
            obtain ⟨rfl, rfl⟩ := e1
            have := Hq.out
            rw [← this, Nat.add_assoc]
          · exact Hs.out.symm.trans HF.out
    · have HF2 := HF.out
      by_cases hone : j + 1 = l.length
      · obtain ⟨b, o, rfl, hcs⟩ := HR.out (fun e => by subst e; cases hone)
        obtain rfl := ha' b o rfl (by omega)
        have hx := cell_keeps hd.grew.below (hcs j (by omega))
        have Hs : Hid _ := (unF_one l j hh hone).symm.trans HF2
        generalize l[j] = x at hx Hs
        obtain ⟨m, hm⟩ : ∃ m, m = l.length - j := ⟨_, rfl⟩
        rw [← hm] at hc' ⊢
        have hm1 : m = 1 := by omega
        subst hm1
        clear hcs ha' HF2 hm hj hlt
        have Hone : Hid _ := hone
        clear hone
        go_wp2_with fail
        refine (mixK_any _ _).mono ?_
        rintro e w1 ⟨rfl, h1⟩
        go_wp2_with fail
        refine (fin_any _ _ _).mono ?_
        rintro e w2 ⟨rfl, h2⟩
        go_wp2_with fail
        go_ret
        refine ⟨?_, (hd.trans h1).trans h2⟩
        unfold unitsZ
        rw [← Hs.out]
        rfl
      · have Hs : Hid _ := (unF_end l j hh (by omega)).symm.trans HF2
        obtain ⟨m, hm⟩ : ∃ m, m = l.length - j := ⟨_, rfl⟩
        rw [← hm] at hc' ⊢
        have hm1 : m = 0 := by omega
        subst hm1
        clear ha' HF2 hm hj hlt hone
        go_wp2_with fail
        refine (fin_any _ _ _).mono ?_
        rintro e w2 ⟨rfl, h2⟩
        go_wp2_with fail
        go_ret
        refine ⟨?_, hd.trans h2⟩
        unfold unitsZ
        rw [← Hs.out]
        rfl

set_option maxHeartbeats 1000000 in
theorem runits_any (l : List Int) (v : Value) (w : World) (hl : IntsAt .u16 w l v) : Calls Try.prog 21 #[v] w fun e w' => e = .returned (.int .u32 (unitsZ l)) ∧ Drawn w w' := by
  obtain ⟨a, c, rfl, hlen, hcap, hr⟩ := hl
  have HR : Hid (l ≠ [] → ∃ b o, a = some ⟨b, o, none⟩ ∧ ∀ (i : Nat) (h : i < l.length), w.cell? ⟨b, o + i, none⟩ = some (.int .u16 (l[i]'h))) := hr
  clear hr
  go_enter Try.func21, Try.ntmps21
  go_wp2_with fail
  go_loopg [3, 4] l.length (fun k m i wr => ∃ (j : Nat) (h : Int), i = .int .i64 j ∧ m = .int .u32 h ∧ j ≤ l.length ∧ k = l.length - j ∧ j % 2 = 0 ∧ Hid (unF (l.drop j) h = unF l 0) ∧ Drawn w wr)
  case atStart => exact ⟨0, 0, rfl, rfl, by omega, by omega, rfl, rfl, Drawn.refl _⟩
  case round =>
    obtain ⟨j, hh, rfl, rfl, hj, hk, hev, HF, hd⟩ := hrel
    have Hk : Hid _ := hk
    clear hk
    have Hev : Hid _ := hev
    clear hev
    have hwj : wrap64 ((j : Int) + 1) = (j : Int) + 1 ∨ j = 9223372036854775807 := by
      by_cases hjm : j = 9223372036854775807
      · exact .inr hjm
      · exact .inl (by unfold wrap64; omega)
    by_cases hlt : j + 1 < l.length
    · obtain ⟨b, o, rfl, hcs⟩ := HR.out (fun e => by subst e; cases hlt)
      have hx := cell_keeps hd.grew.below (hcs j (by omega))
      have hy := cell_keeps hd.grew.below (hcs (j + 1) hlt)
      have Hs : Hid _ := unF_two l j hh hlt
      generalize l[j] = x at hx Hs
      generalize l[j + 1] = y at hy Hs
      have hw2 : wrap64 ((j : Int) + 1) = (j : Int) + 1 := by rcases hwj with h1 | h1; exact h1; omega
      clear hcs hwj
      have hi0 : (j : Int) < (l.length : Nat) := by omega
      have hi1 : (j : Int) + 1 < (l.length : Nat) := by omega
      go_wp2_with fail
      go_quiet (first | (go_at_call 10; exact Calls.quiet_of (rmixK_any _ _)) | (go_at_call 12; exact Calls.quiet_of (rmixH_any _ _ _)))
      go_wp2_with fail
      go_roundg (l.length - (j + 2))
      case measure => have := Hk.out; omega
      case rel => exact ⟨j + 2, uStep hh x y, by go_num, rfl, by omega, rfl, by have := Hev.out; omega, Hs.out.symm.trans HF.out, hd.trans (Drawn.n _ _)⟩
    · have HF2 := HF.out
      by_cases hone : j + 1 = l.length
      · obtain ⟨b, o, rfl, hcs⟩ := HR.out (fun e => by subst e; cases hone)
        have hx := cell_keeps hd.grew.below (hcs j (by omega))
        have Hs : Hid _ := (unF_one l j hh hone).symm.trans HF2
        generalize l[j] = x at hx Hs
        have hw2 : wrap64 ((j : Int) + 1) = (j : Int) + 1 := by rcases hwj with h1 | h1; exact h1; exfalso; have := Hev.out; omega
        have hnlt : ¬ ((j : Int) + 1 < (l.length : Nat)) := by omega
        have hrem : (l.length : Int).tmod 2 = 1 := by
          have := Hev.out
          rw [Int.tmod_eq_emod_of_nonneg (by omega)]
          omega
        have hsub : wrap64 ((l.length : Int) - 1) = (j : Int) := by unfold wrap64; omega
        have hx : wr.cell? ⟨b, o + (l.length - 1), none⟩ = some (.int .u16 x) := by rw [show l.length - 1 = j by omega]; exact hx
        clear hcs HF2 hwj hlt
        go_wp2_with fail
        refine (rmixK_any _ _).mono ?_
        rintro e w1 ⟨rfl, h1⟩
        go_wp2_with fail
        refine (rfin_any _ _ _).mono ?_
        rintro e w2 ⟨rfl, h2⟩
        go_wp2_with fail
        go_ret
        refine ⟨?_, (hd.trans h1).trans h2⟩
        unfold unitsZ
        rw [← Hs.out]
        rfl
      · have hjl : j = l.length := by omega
        have Hs : Hid _ := (unF_end l j hh hjl).symm.trans HF2
        have hw2 : wrap64 ((j : Int) + 1) = (j : Int) + 1 := by rcases hwj with h1 | h1; exact h1; exfalso; have := Hev.out; omega
        have hnlt : ¬ ((j : Int) + 1 < (l.length : Nat)) := by omega
        have hrem : (l.length : Int).tmod 2 = 0 := by
          have := Hev.out
          rw [Int.tmod_eq_emod_of_nonneg (by omega)]
          omega
        clear HF2 hwj hlt hjl hone hj
        go_wp2_with fail
        refine (rfin_any _ _ _).mono ?_
        rintro e w2 ⟨rfl, h2⟩
        go_wp2_with fail
        go_ret
        refine ⟨?_, hd.trans h2⟩
        unfold unitsZ
        rw [← Hs.out]
        rfl

end Go.Proofs.Yteldncblmoilkaa
