/-
  Repeat; four vectors joined; the document's All and Reverse.
-/
import Derived.Test.YtpnfmcmhcjekfabRev
import Derived.Test.YtpnfmcmhcjekfabDeepP
import Derived.Test.YtpnfmcmhcjekfabCutS
namespace Go.Proofs.Ytpnfmcmhcjekfab
open Go.RowKit

/-- Two calls that tell the same, beside each other. -/
theorem pair_any {f g : Nat} {xs ys : Array Value} {R : List VT ⊕ Nat} {w : World} (hf : Calls Try.prog f xs w (VvPost R w)) (hg : ∀ W, Below w.heap.size w W → Calls Try.prog g ys W (LstPost R W)) (h0 : ∀ k, R = .inr k → k ≠ 0) :
    Calls Try.prog f xs w fun e w1 => Below w.heap.size w w1 ∧ ∃ (k : Nat) (p1 : Value), e = .returned (.tuple #[p1, .int .i64 (k : Int)]) ∧
      ∀ W, Below w1.heap.size w1 W → Calls Try.prog g ys W fun e w2 => Below W.heap.size W w2 ∧ ∃ (a1 : Option Addr) (n1 c1 : Nat), e = .returned (.tuple #[.slice a1 n1 c1, .int .i64 (k : Int)]) ∧ Pair12 w2 p1 k (.slice a1 n1 c1) := by
  refine Calls.mono hf ?_
  rintro e w1 ⟨hb1, hp⟩
  refine ⟨hb1, ?_⟩
  have hr := fun W (hW : Below w1.heap.size w1 W) => hg W (hb1.trans (hW.mono hb1.size))
  cases R with
  | inl m =>
    obtain ⟨b, rfl, v1⟩ := hp
    refine ⟨0, _, rfl, fun W hW => Calls.mono (hr W hW) ?_⟩
    rintro e w2 ⟨hb2, a1, c1, rfl, l1⟩
    exact ⟨hb2, a1, _, c1, rfl, .inl ⟨rfl, _, b, a1, c1, rfl, rfl, (v1.keeps hW).keeps hb2, l1⟩⟩
  | inr k =>
    have hk := h0 k rfl
    have hp' : e = _ := hp
    subst hp'
    refine ⟨k, _, rfl, fun W hW => Calls.mono (hr W hW) ?_⟩
    rintro e w2 ⟨hb2, hq⟩
    have hq' : e = _ := hq
    subst hq'
    exact ⟨hb2, none, 0, 0, rfl, .inr ⟨hk, rfl, rfl⟩⟩

set_option maxRecDepth 100000 in
theorem equal12_any (l m : List VT) (p q : Value) (w : World) (h1 : VV w l p) (h2 : VV w m q) : Calls Try.prog 28 #[p, q] w fun e w' => e = .returned (.bool (eqL (sameV 16) l m)) ∧ Below w.heap.size w w' := by
  obtain ⟨po, rfl⟩ := h1.vc.shape
  obtain ⟨qo, rfl⟩ := h2.vc.shape
  obtain ⟨R, hR⟩ : ∃ R, R = eqL (sameV 16) l m := ⟨_, rfl⟩
  have HS : Hid _ := rsame_any l m _ _ w h1 h2
  rw [← hR] at HS ⊢
  clear h1 h2 hR
  go_enter Try.func28, Try.ntmps28
  go_wp2_with fail
  refine Calls.mono HS.out ?_
  rintro e w1 ⟨rfl, hb⟩
  clear HS
  go_wp2_with fail
  go_ret
  exact ⟨rfl, hb⟩

end Go.Proofs.Ytpnfmcmhcjekfab

namespace Go.Proofs.Ytpnfmcmhcjekfab
open Go.RowKit

/-- A list so many times. -/
def timesL (l : List VT) : Nat → List VT
  | 0 => []
  | k + 1 => timesL l k ++ l

theorem timesL_add (l : List VT) (a b : Nat) : timesL l (a + b) = timesL l a ++ timesL l b := by
  induction b with
  | zero => simp [timesL]
  | succ b ih => rw [← Nat.add_assoc]; simp only [timesL]; rw [ih, List.append_assoc]

theorem timesL_len (l : List VT) (k : Nat) : (timesL l k).length = k * l.length := by
  induction k with
  | zero => simp [timesL]
  | succ k ih => simp only [timesL]; rw [List.length_append, ih, Nat.succ_mul]

/-- Join of two, laid side by side. -/
theorem join2_any (l m : List VT) (po qo : Option Addr) (w : World) (h : VV w l (.pointer po)) (h2 : VV w m (.pointer qo)) (hlen : (l ++ m).length ≤ 65536) : Calls Try.prog 47 #[.slice (some ⟨w.heap.size, 0, none⟩) 2 2] (w.alloc (.cells #[.pointer po, .pointer qo] 23)) fun e w' => Below w.heap.size w w' ∧ ∃ b, e = .returned (.tuple #[.pointer (some ⟨b, 0, none⟩), .int .i64 0]) ∧ VV w' (l ++ m) (.pointer (some ⟨b, 0, none⟩)) := by
  have hba : Below w.heap.size w (w.alloc (.cells #[.pointer po, .pointer qo] 23)) := ((Grew.refl w).alloc _).below
  have h9 := join_vv [(l, .pointer po), (m, .pointer qo)] w.heap.size (w.alloc (.cells #[.pointer po, .pointer qo] 23)) (fun i hi => by
    match i, hi with
    | 0, _ => simp
    | 1, _ => simp) (by simp) (by simp) (fun p hp => by
    simp only [List.mem_cons, List.not_mem_nil, or_false] at hp
    rcases hp with rfl | rfl
    · exact h.keeps hba
    · exact h2.keeps hba)
  have e : joinR [(l, .pointer po), (m, .pointer qo)] = .inl (l ++ m) := by
    unfold joinR
    simp only [List.flatMap_cons, List.flatMap_nil, List.append_nil]
    rw [if_pos hlen]
  rw [e] at h9
  exact Calls.mono h9 (fun e w' hp => ⟨hba.trans (hp.1.mono hba.size), hp.2⟩)

set_option maxRecDepth 100000 in
set_option maxHeartbeats 4000000 in
theorem repeated_any (l : List VT) (po : Option Addr) : ∀ (k : Nat) (w : World), VV w l (.pointer po) → k * l.length ≤ 65536 → k ≤ 9223372036854775807 → Calls Try.prog 46 #[.pointer po, .int .i64 (k : Int)] w fun e w' => Below w.heap.size w w' ∧ ∃ b, e = .returned (.pointer (some ⟨b, 0, none⟩)) ∧ VV w' (timesL l k) (.pointer (some ⟨b, 0, none⟩)) := by
  intro k
  induction k using Nat.strongRecOn with
  | _ k ih =>
    intro w hv hk hk63
    by_cases h0 : k = 0
    · subst h0
      have HN : Hid _ := new_any w
      clear ih hv
      go_enter Try.func46, Try.ntmps46
      go_wp2_with fail
      refine Calls.mono HN.out ?_
      rintro e w1 ⟨b, rfl, hv1, hb1⟩
      have HE : Hid (VV w1 (timesL l 0) (.pointer (some ⟨b, 0, none⟩))) := hv1
      clear hv1 HN
      go_wp2_with fail
      go_ret
      exact ⟨hb1, b, rfl, HE.out⟩
    · have hkz : ¬ ((k : Int) = 0) := by omega
      obtain ⟨H, hH⟩ : ∃ H, H = k / 2 := ⟨_, rfl⟩
      have hdm : H * 2 + k % 2 = k := by omega
      have hHk : H * l.length ≤ 65536 := Nat.le_trans (Nat.mul_le_mul_right _ (by omega)) hk
      have HI : Hid _ := ih H (by omega) w hv hHk (by omega)
      have HV : Hid (VV w l (.pointer po)) := hv
      have hq : ((k : Int)).tdiv 2 = ((H : Nat) : Int) := by rw [hH]; rfl
      have hq' : ((k : Int)) / 2 = ((H : Nat) : Int) := by omega
      have hw1 : IntKind.i64.wrap ((H : Nat) : Int) = ((H : Nat) : Int) := by rw [IntKind.wrap_i64]; omega
      clear ih hv hH
      have e2 : timesL l H ++ timesL l H = timesL l (H * 2) := by rw [Nat.mul_two, timesL_add]
      have e2l : (timesL l H ++ timesL l H).length ≤ 65536 := by
        rw [e2, timesL_len]
        exact Nat.le_trans (Nat.mul_le_mul_right _ (by omega)) hk
      by_cases hodd : k % 2 = 1
      · have hr : ((k : Int)).tmod 2 = 1 := by
          have : ((k : Int)).tmod 2 = ((k % 2 : Nat) : Int) := rfl
          rw [this, hodd]; rfl
        have hr' : ((k : Int)) % 2 = 1 := by omega
        have e3 : timesL l (H * 2) ++ l = timesL l k := by rw [show k = H * 2 + 1 by omega]; rfl
        have e3l : (timesL l (H * 2) ++ l).length ≤ 65536 := by rw [e3, timesL_len]; exact hk
        go_enter Try.func46, Try.ntmps46
        go_wp2_with fail
        refine Calls.mono HI.out ?_
        rintro e w1 ⟨hb1, b1, rfl, hv1⟩
        have HJ : Hid _ := join2_any _ _ _ _ w1 hv1 hv1 e2l
        clear HI hv1
        go_wp2_with fail
        refine Calls.mono HJ.out ?_
        rintro e w2 ⟨hb2, b2, rfl, hv2⟩
        have hb12 : Below w.heap.size w w2 := hb1.trans (hb2.mono hb1.size)
        rw [e2] at hv2
        have HJ2 : Hid _ := join2_any _ _ _ _ w2 hv2 (HV.out.keeps hb12) e3l
        clear HJ hv2 hb2 hb1
        go_wp2_with fail
        refine Calls.mono HJ2.out ?_
        rintro e w3 ⟨hb3, b3, rfl, hv3⟩
        rw [e3] at hv3
        have HE : Hid (Below w.heap.size w w3 ∧ VV w3 (timesL l k) (.pointer (some ⟨b3, 0, none⟩))) := ⟨hb12.trans (hb3.mono hb12.size), hv3⟩
        clear HJ2 hv3 hb3
        go_wp2_with fail
        go_ret
        exact ⟨HE.out.1, b3, rfl, HE.out.2⟩
      · have hr : ¬ ((k : Int)).tmod 2 = 1 := by
          have : ((k : Int)).tmod 2 = ((k % 2 : Nat) : Int) := rfl
          rw [this]; omega
        have hr' : ¬ ((k : Int)) % 2 = 1 := by omega
        have e3 : timesL l (H * 2) = timesL l k := by rw [show k = H * 2 by omega]
        go_enter Try.func46, Try.ntmps46
        go_wp2_with fail
        refine Calls.mono HI.out ?_
        rintro e w1 ⟨hb1, b1, rfl, hv1⟩
        have HJ : Hid _ := join2_any _ _ _ _ w1 hv1 hv1 e2l
        clear HI hv1
        go_wp2_with fail
        refine Calls.mono HJ.out ?_
        rintro e w2 ⟨hb2, b2, rfl, hv2⟩
        have hb12 : Below w.heap.size w w2 := hb1.trans (hb2.mono hb1.size)
        rw [e2, e3] at hv2
        have HE : Hid (Below w.heap.size w w2 ∧ VV w2 (timesL l k) (.pointer (some ⟨b2, 0, none⟩))) := ⟨hb12, hv2⟩
        clear HJ hv2 hb2 hb1
        go_wp2_with fail
        go_ret
        exact ⟨HE.out.1, b2, rfl, HE.out.2⟩

end Go.Proofs.Ytpnfmcmhcjekfab

namespace Go.Proofs.Ytpnfmcmhcjekfab
open Go.RowKit

/-- What Repeat tells. -/
def repR (l : List VT) (k : Int) : List VT ⊕ Nat := if k < 0 then .inr 1 else if l.length = 0 then .inl [] else if 65536 / (l.length : Int) < k then .inr 2 else .inl (timesL l k.toNat)

def timesP (ps : List (VT × Value)) : Nat → List (VT × Value)
  | 0 => []
  | k + 1 => timesP ps k ++ ps

theorem timesP_map (ps : List (VT × Value)) (k : Nat) : (timesP ps k).map (·.1) = timesL (ps.map (·.1)) k := by
  induction k with
  | zero => rfl
  | succ k ih => simp only [timesP, timesL]; rw [List.map_append, ih]

theorem timesP_mem (ps : List (VT × Value)) (k : Nat) : ∀ p ∈ timesP ps k, p ∈ ps := by
  induction k with
  | zero => intro p hp; cases hp
  | succ k ih =>
    intro p hp
    rcases List.mem_append.1 hp with hp | hp
    · exact ih p hp
    · exact hp

theorem timesP_len (ps : List (VT × Value)) (k : Nat) : (timesP ps k).length = k * ps.length := by
  induction k with
  | zero => simp [timesP]
  | succ k ih => simp only [timesP]; rw [List.length_append, ih, Nat.succ_mul]

set_option maxRecDepth 100000 in
set_option maxHeartbeats 8000000 in
theorem rrepeat_any (l : List VT) (a : Option Addr) (c : Nat) (k : Int) (w : World) (hl : Lies 17 w l (.slice a l.length c)) (hlen : l.length ≤ 65536) (hk63 : k ≤ 9223372036854775807) : Calls Try.prog 22 #[.slice a l.length c, .int .i64 k] w (LstPost (repR l k) w) := by
  obtain ⟨R, hR⟩ : ∃ R, R = repR l k := ⟨_, rfl⟩
  rw [← hR]
  unfold repR at hR
  by_cases h1 : k < 0
  · rw [if_pos h1] at hR
    have HE : Hid (LstPost R w (.returned (.tuple #[.slice none 0 0, .int .i64 1])) w) := by
      show LstPost _ _ _ _
      rw [hR]
      exact ⟨Below.refl _ _, rfl⟩
    clear hl hR
    go_enter Try.func22, Try.ntmps22
    go_wp2_with fail
    go_ret2
    exact HE.out
  · rw [if_neg h1] at hR
    by_cases h2 : l.length = 0
    · rw [if_pos h2] at hR
      have HE : Hid (LstPost R w (.returned (.tuple #[.slice none 0 0, .int .i64 0])) w) := by
        show LstPost _ _ _ _
        rw [hR]
        exact ⟨Below.refl _ _, none, 0, rfl, Lies.atLeast (d := 0) ⟨rfl, none, 0, rfl⟩ 17 (by omega)⟩
      rw [h2]
      clear hl hR h2
      go_enter Try.func22, Try.ntmps22
      go_wp2_with fail
      go_ret2
      exact HE.out
    · rw [if_neg h2] at hR
      have h2i : ¬ ((l.length : Nat) : Int) = 0 := by omega
      obtain ⟨Q, hQ⟩ : ∃ Q : Int, Q = 65536 / (l.length : Int) := ⟨_, rfl⟩
      have hq1 : (65536 : Int).tdiv (l.length : Int) = Q := by rw [hQ]; exact Int.tdiv_eq_ediv_of_nonneg (by omega)
      have hQb : 0 ≤ Q ∧ Q ≤ 65536 := by
        rw [hQ]
        exact ⟨Int.ediv_nonneg (by omega) (by omega), Int.ediv_le_self _ (by omega)⟩
      have hw1 : IntKind.i64.wrap Q = Q := by rw [IntKind.wrap_i64]; omega
      have hq2 : 65536 / (l.length : Int) = Q := hQ.symm
      rw [hq2] at hR
      by_cases h3 : Q < k
      · rw [if_pos h3] at hR
        have HE : Hid (LstPost R w (.returned (.tuple #[.slice none 0 0, .int .i64 2])) w) := by
          show LstPost _ _ _ _
          rw [hR]
          exact ⟨Below.refl _ _, rfl⟩
        obtain ⟨L, hL⟩ : ∃ L, L = l.length := ⟨_, rfl⟩
        rw [← hL] at h2i hq1 hq2 hlen ⊢
        clear hl hR h2 hQ hL
        go_enter Try.func22, Try.ntmps22
        go_wp2_with fail
        go_ret2
        exact HE.out
      · rw [if_neg h3] at hR
        obtain ⟨K, rfl⟩ := Int.eq_ofNat_of_zero_le (show 0 ≤ k by omega)
        rw [Int.toNat_natCast] at hR
        obtain ⟨ps, hp1, hp2, hsA, hsd⟩ := src_of hl
        have HSA : Hid (Src w a l.length 4 (ps.flatMap encP)) := hsA
        have hKL : K * l.length ≤ 65536 := by
          have h9 : (K : Int) * l.length ≤ 65536 := by
            have h8 : (K : Int) * l.length ≤ Q * l.length := Int.mul_le_mul_of_nonneg_right (by omega) (by omega)
            have h7 : Q * l.length ≤ 65536 := by rw [hQ]; exact Int.ediv_mul_le _ (by omega)
            omega
          have h6 : ((K * l.length : Nat) : Int) ≤ 65536 := by rw [Int.natCast_mul]; exact h9
          omega
        have HG : Hid (∀ (W : World) (a9 c9), Rw w W (.slice a9 (K * l.length) c9) (K * l.length) ((timesP ps K).flatMap encP) → ∃ n9, n9 = K * l.length ∧ LstPost R w (.returned (.tuple #[.slice a9 n9 c9, .int .i64 0])) W) := fun W a9 c9 h => by
          have h9 := h.lies (by rw [timesP_len, hp2]) (fun p hp => hsd p (timesP_mem ps K p hp)) (by omega)
          rw [timesP_map, hp1] at h9
          refine ⟨_, rfl, ?_⟩
          rw [hR]
          rw [← timesL_len l K] at h9 ⊢
          exact ⟨h.below, a9, c9, rfl, h9⟩
        obtain ⟨L, hL⟩ : ∃ L, L = l.length := ⟨_, rfl⟩
        rw [← hL] at HSA HG h2i hq1 hq2 hKL hlen ⊢
        clear hl hsA hp1 hp2 hsd hR hL hQ h2
        go_enter Try.func22, Try.ntmps22
        go_wp2_with fail
        go_loopg [7, 6] (K + 1) (fun z vi vo wr => ∃ (j : Nat) (av : Option Addr) (cv : Nat), vi = .int .i64 (j : Int) ∧ j ≤ K ∧ z = K + 1 - j ∧ vo = .slice av (j * L) cv ∧ Hid (Rw w wr (.slice av (j * L) cv) (j * L) ((timesP ps j).flatMap encP)))
        case atStart => exact ⟨0, none, 0, rfl, by omega, by omega, by simp, by show Rw _ _ _ _ _; simpa [timesP] using (⟨Below.refl _ _, World.ownsRow_nil _ _ _ _⟩ : Rw w w (.slice none 0 0) 0 [])⟩
        case round =>
          obtain ⟨j, av, cv, rfl, hj, hz, rfl, HR⟩ := hrel
          have Hz : Hid _ := hz
          clear hz
          by_cases hlt : j < K
          · have hji : (j : Int) < (K : Nat) := by omega
            have hjL : (j + 1) * L ≤ 65536 := Nat.le_trans (Nat.mul_le_mul_right _ (by omega)) hKL
            have hsum : j * L + L = (j + 1) * L := by rw [Nat.succ_mul]
            have HC := HR.out
            clear HR
            go_wp2_with
              (at_builtin; refine Rw.append rfl _ _ rfl HC rfl rfl HSA.out ((j + 1) * L) hsum (by omega) ?_; clear HC; intro ax cx W HC)
            have HN : Hid (Rw w W (.slice ax ((j + 1) * L) cx) ((j + 1) * L) ((timesP ps (j + 1)).flatMap encP)) := by
              show Rw _ _ _ _ _
              simp only [timesP]
              rw [List.flatMap_append]
              exact HC
            clear HC
            go_wp2_with fail
            go_roundg (K + 1 - (j + 1))
            case measure => have := Hz.out; omega
            case rel => exact ⟨j + 1, ax, cx, by go_num, by omega, by omega, rfl, HN⟩
          · obtain rfl : j = K := by omega
            have hself : ¬ ((j : Nat) : Int) < (j : Nat) := by omega
            obtain ⟨n9, hn9, hfin⟩ := HG.out _ _ _ HR.out
            subst hn9
            have HE : Hid _ := hfin
            clear hfin HG HR
            go_wp2_with fail
            go_ret2
            exact HE.out

end Go.Proofs.Ytpnfmcmhcjekfab

namespace Go.Proofs.Ytpnfmcmhcjekfab
open Go.RowKit

theorem timesL_nil (k : Nat) : timesL [] k = [] := by
  induction k with
  | zero => rfl
  | succ k ih => simp only [timesL]; rw [ih]; rfl

set_option maxRecDepth 100000 in
set_option maxHeartbeats 8000000 in
theorem crepeat_any (l : List VT) (p : Value) (k : Int) (w : World) (h : VV w l p) (hk63 : k ≤ 9223372036854775807) : Calls Try.prog 21 #[p, .int .i64 k] w (VvPost (repR l k) w) := by
  obtain ⟨po, rfl⟩ := h.vc.shape
  have hlen := h.len
  obtain ⟨R, hR⟩ : ∃ R, R = repR l k := ⟨_, rfl⟩
  rw [← hR]
  unfold repR at hR
  by_cases h1 : k < 0
  · rw [if_pos h1] at hR
    have HE : Hid (VvPost R w (.returned (.tuple #[.pointer none, .int .i64 1])) w) := by
      show VvPost _ _ _ _
      rw [hR]
      exact ⟨Below.refl _ _, rfl⟩
    clear h hR
    go_enter Try.func21, Try.ntmps21
    go_wp2_with fail
    go_ret2
    exact HE.out
  · rw [if_neg h1] at hR
    obtain ⟨K, rfl⟩ := Int.eq_ofNat_of_zero_le (show 0 ≤ k by omega)
    rw [Int.toNat_natCast] at hR
    have HLen : Hid (∀ V, Below w.heap.size w V → Calls Try.prog 31 #[.pointer po] V (NumPost l.length V)) := fun V hV => vlen_any 16 l _ V (h.vc.keeps hV)
    by_cases h2 : l.length = 0
    · rw [if_pos h2] at hR
      obtain rfl : l = [] := List.eq_nil_of_length_eq_zero h2
      have HRp : Hid (∀ V, Below w.heap.size w V → Calls Try.prog 46 #[.pointer po, .int .i64 (K : Int)] V fun e w' => Below V.heap.size V w' ∧ ∃ b, e = .returned (.pointer (some ⟨b, 0, none⟩)) ∧ VV w' [] (.pointer (some ⟨b, 0, none⟩))) := fun V hV => by
        have h9 := repeated_any [] po K V (h.keeps hV) (by simp) (by omega)
        rw [timesL_nil] at h9
        exact h9
      have HR : Hid (R = .inl []) := hR
      rw [show ([] : List VT).length = 0 from rfl] at HLen
      clear h hR h2 hlen
      go_enter Try.func21, Try.ntmps21
      go_wp2_with fail
      refine Calls.mono (HLen.out w (Below.refl _ _)) ?_
      rintro e w1 ⟨rfl, hb1⟩
      have HR1 : Hid _ := HRp.out w1 hb1
      clear HLen HRp
      go_wp2_with fail
      refine Calls.mono HR1.out ?_
      rintro e w2 ⟨hb2, b, rfl, hv⟩
      have HE : Hid (VvPost R w (.returned (.tuple #[.pointer (some ⟨b, 0, none⟩), .int .i64 0])) w2) := by
        show VvPost _ _ _ _
        rw [HR.out]
        exact ⟨hb1.trans (hb2.mono hb1.size), b, rfl, hv⟩
      clear hv HR1 hb1 hb2 HR
      go_wp2_with fail
      go_ret2
      exact HE.out
    · rw [if_neg h2] at hR
      obtain ⟨L, hL⟩ : ∃ L, L = l.length := ⟨_, rfl⟩
      have h2i : (0 : Int) < ((L : Nat) : Int) := by omega
      have h2j : ¬ ((L : Nat) : Int) = 0 := by omega
      obtain ⟨Q, hQ⟩ : ∃ Q : Int, Q = 65536 / (L : Int) := ⟨_, rfl⟩
      have hq1 : (65536 : Int).tdiv (L : Int) = Q := by rw [hQ]; exact Int.tdiv_eq_ediv_of_nonneg (by omega)
      have hQb : 0 ≤ Q ∧ Q ≤ 65536 := by
        rw [hQ]
        exact ⟨Int.ediv_nonneg (by omega) (by omega), Int.ediv_le_self _ (by omega)⟩
      have hw1 : IntKind.i64.wrap Q = Q := by rw [IntKind.wrap_i64]; omega
      have hq2 : 65536 / (L : Int) = Q := hQ.symm
      rw [← hL] at hR HLen
      rw [hq2] at hR
      by_cases h3 : Q < (K : Int)
      · rw [if_pos h3] at hR
        have HR : Hid (R = .inr 2) := hR
        clear h hR h2 hQ hL hlen
        go_enter Try.func21, Try.ntmps21
        go_wp2_with fail
        refine Calls.mono (HLen.out w (Below.refl _ _)) ?_
        rintro e w1 ⟨rfl, hb1⟩
        have HL1 : Hid _ := HLen.out w1 hb1
        clear HLen
        go_wp2_with fail
        refine Calls.mono HL1.out ?_
        rintro e w2 ⟨rfl, hb2⟩
        have HE : Hid (VvPost R w (.returned (.tuple #[.pointer none, .int .i64 2])) w2) := by
          show VvPost _ _ _ _
          rw [HR.out]
          exact ⟨hb1.trans (hb2.mono hb1.size), rfl⟩
        clear HL1 hb1 hb2 HR
        go_wp2_with fail
        go_ret2
        exact HE.out
      · rw [if_neg h3] at hR
        have HR : Hid (R = .inl (timesL l K)) := hR
        have hKL : K * l.length ≤ 65536 := by
          have h9 : (K : Int) * L ≤ 65536 := by
            have h8 : (K : Int) * L ≤ Q * L := Int.mul_le_mul_of_nonneg_right (by omega) (by omega)
            have h7 : Q * L ≤ 65536 := by rw [hQ]; exact Int.ediv_mul_le _ (by omega)
            omega
          have h6 : ((K * L : Nat) : Int) ≤ 65536 := by rw [Int.natCast_mul]; exact h9
          rw [← hL]
          omega
        have HRp : Hid (∀ V, Below w.heap.size w V → Calls Try.prog 46 #[.pointer po, .int .i64 (K : Int)] V fun e w' => Below V.heap.size V w' ∧ ∃ b, e = .returned (.pointer (some ⟨b, 0, none⟩)) ∧ VV w' (timesL l K) (.pointer (some ⟨b, 0, none⟩))) := fun V hV => repeated_any l po K V (h.keeps hV) hKL (by omega)
        clear h hR h2 hQ hL hlen hKL
        go_enter Try.func21, Try.ntmps21
        go_wp2_with fail
        refine Calls.mono (HLen.out w (Below.refl _ _)) ?_
        rintro e w1 ⟨rfl, hb1⟩
        have HL1 : Hid _ := HLen.out w1 hb1
        clear HLen
        go_wp2_with fail
        refine Calls.mono HL1.out ?_
        rintro e w2 ⟨rfl, hb2⟩
        have hb12 : Below w.heap.size w w2 := hb1.trans (hb2.mono hb1.size)
        have HR2 : Hid _ := HRp.out w2 hb12
        clear HL1 hb1 hb2 HRp
        go_wp2_with fail
        refine Calls.mono HR2.out ?_
        rintro e w3 ⟨hb3, b, rfl, hv⟩
        have HE : Hid (VvPost R w (.returned (.tuple #[.pointer (some ⟨b, 0, none⟩), .int .i64 0])) w3) := by
          show VvPost _ _ _ _
          rw [HR.out]
          exact ⟨hb12.trans (hb3.mono hb12.size), b, rfl, hv⟩
        clear hv HR2 hb12 hb3 HR
        go_wp2_with fail
        go_ret2
        exact HE.out

theorem repR_err (l : List VT) (k : Int) : ∀ n, repR l k = .inr n → n ≠ 0 := fun n h => by
  unfold repR at h
  split at h
  · injection h with h; omega
  · split at h
    · cases h
    · split at h
      · injection h with h; omega
      · cases h

/-- What All tells of four, one of them empty. -/
def catR4 (l m : List VT) : List VT ⊕ Nat := if (l ++ (m ++ l)).length ≤ 65536 then .inl (l ++ (m ++ l)) else .inr 2

set_option maxRecDepth 100000 in
set_option maxHeartbeats 8000000 in
theorem all4_any (l m : List VT) (p q : Option Addr) (w : World) (h1 : VV w l (.pointer p)) (h2 : VV w m (.pointer q)) :
    Calls Try.prog 23 #[.slice (some ⟨w.heap.size, 0, none⟩) 4 4] (w.alloc (.cells #[.pointer p, .pointer none, .pointer q, .pointer p] 23)) (VvPost (catR4 l m) w) := by
  have hba : Below w.heap.size w (w.alloc (.cells #[.pointer p, .pointer none, .pointer q, .pointer p] 23)) := ((Grew.refl w).alloc _).below
  have h9 := join_vv [(l, .pointer p), ([], .pointer none), (m, .pointer q), (l, .pointer p)] w.heap.size (w.alloc (.cells #[.pointer p, .pointer none, .pointer q, .pointer p] 23)) (fun i hi => by
    match i, hi with
    | 0, _ => simp
    | 1, _ => simp
    | 2, _ => simp
    | 3, _ => simp) (by simp) (by simp) (fun p hp => by
      simp only [List.mem_cons, List.not_mem_nil, or_false] at hp
      rcases hp with rfl | rfl | rfl | rfl
      · exact h1.keeps hba
      · exact vv_nil _
      · exact h2.keeps hba
      · exact h1.keeps hba)
  have e : joinR [(l, .pointer p), ([], .pointer none), (m, .pointer q), (l, .pointer p)] = catR4 l m := by
    unfold joinR catR4
    simp only [List.flatMap_cons, List.flatMap_nil, List.append_nil, List.nil_append]
  rw [e] at h9
  have HJ : Hid (Calls Try.prog 47 #[.slice (some ⟨w.heap.size, 0, none⟩) 4 4] (w.alloc (.cells #[.pointer p, .pointer none, .pointer q, .pointer p] 23)) (VvPost (catR4 l m) w)) := Calls.mono h9 (fun e w' hp => ⟨hba.trans (hp.1.mono hba.size), hp.2⟩)
  clear h9 e h1 h2
  generalize catR4 l m = R at *
  go_enter Try.func23, Try.ntmps23
  go_wp2_with fail
  refine Calls.mono HJ.out ?_
  intro e w1 hp
  clear HJ
  cases R with
  | inl t =>
    obtain ⟨hb2, b2, rfl, hv2⟩ := hp
    have HE : Hid (VvPost (.inl t) w (.returned (.tuple #[.pointer (some ⟨b2, 0, none⟩), .int .i64 0])) w1) := ⟨hb2, b2, rfl, hv2⟩
    clear hv2
    go_wp2_with fail
    go_ret2
    exact HE.out
  | inr k =>
    obtain ⟨hb2, he⟩ := hp
    simp only at he
    subst he
    have HE : Hid (VvPost (.inr k) w (.returned (.tuple #[.pointer none, .int .i64 (k : Int)])) w1) := ⟨hb2, rfl⟩
    go_wp2_with fail
    go_ret2
    exact HE.out

theorem catR4_err (l m : List VT) : ∀ k, catR4 l m = .inr k → k ≠ 0 := fun k h => by
  unfold catR4 at h
  split at h
  · cases h
  · injection h with h; omega

end Go.Proofs.Ytpnfmcmhcjekfab

