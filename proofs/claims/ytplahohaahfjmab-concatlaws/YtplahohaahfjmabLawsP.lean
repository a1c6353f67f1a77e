/-
  What ConcatLaws wants besides.
-/
import Derived.Test.YtplahohaahfjmabHeightLaw
import Derived.Test.YtplahohaahfjmabVals
import Derived.Test.YtplahohaahfjmabRList
import Derived.Test.YtplahohaahfjmabUniq
import Derived.BigRegion
namespace Go.Proofs.Ytplahohaahfjmab
open Go.RowKit

/-- A value and an error are told; the value lies in new blocks. -/
def TellsB (d : Nat) (a : VT × Int) (w : World) (e : Ending) (w' : World) : Prop :=
  ∃ v, e = .returned (.tuple #[.agg #[.int .i64 a.1.kind, .int .i64 a.1.num, .string a.1.text, v], .int .i64 a.2]) ∧ LiesB w.heap.size d w' a.1.items v ∧ Below w.heap.size w w'

theorem liesB_nil' (b d : Nat) (w : World) : LiesB b d w [] (.slice none 0 0) := by
  cases d with
  | zero => exact ⟨rfl, none, 0, rfl⟩
  | succ d => exact ⟨none, 0, rfl, by simp, fun h => absurd rfl h⟩

/-- An empty vector, nil or not. -/
theorem vv_nil (w : World) : VV w [] (.pointer none) := ⟨.inl ⟨rfl, rfl⟩, by simp, rfl⟩

set_option maxRecDepth 100000 in
theorem new_any (w : World) : Calls Try.prog 63 #[] w fun e w' => ∃ b, e = .returned (.pointer (some ⟨b, 0, none⟩)) ∧ VV w' [] (.pointer (some ⟨b, 0, none⟩)) ∧ Below w.heap.size w w' := by
  have HE : Hid (VV (w.alloc (.cells #[.nilIface] 72)) [] (.pointer (some ⟨w.heap.size, 0, none⟩)) ∧ Below w.heap.size w (w.alloc (.cells #[.nilIface] 72))) := ⟨⟨VC.made (.inl ⟨rfl, rfl⟩) _, by simp, rfl⟩, ((Grew.refl w).alloc _).below⟩
  go_enter Try.func63, Try.ntmps63
  go_wp2_with fail
  go_ret
  exact ⟨_, rfl, HE.out.1, HE.out.2⟩

end Go.Proofs.Ytplahohaahfjmab

namespace Go.Proofs.Ytplahohaahfjmab
open Go.RowKit

/-- A list so many times. -/
def timesL (l : List VT) : Nat → List VT
  | 0 => []
  | k + 1 => timesL l k ++ l

theorem timesL_add (l : List VT) (a b : Nat) : timesL l (a + b) = timesL l a ++ timesL l b := by
  induction b with
  | zero => simp [timesL]
  | succ b ih => rw [← Nat.add_assoc]; simp only [timesL]; rw [ih, List.append_assoc]

theorem timesL_len (l : List VT) (k : Nat) : (timesL l k).length = k * l.length := by
  induction k with
  | zero => simp [timesL]
  | succ k ih => simp only [timesL]; rw [List.length_append, ih, Nat.succ_mul]

/-- Join of two, laid side by side. -/
theorem join2_any (l m : List VT) (po qo : Option Addr) (w : World) (h : VV w l (.pointer po)) (h2 : VV w m (.pointer qo)) (hlen : (l ++ m).length ≤ 65536) : Calls Try.prog 47 #[.slice (some ⟨w.heap.size, 0, none⟩) 2 2] (w.alloc (.cells #[.pointer po, .pointer qo] 23)) fun e w' => Below w.heap.size w w' ∧ ∃ b, e = .returned (.tuple #[.pointer (some ⟨b, 0, none⟩), .int .i64 0]) ∧ VV w' (l ++ m) (.pointer (some ⟨b, 0, none⟩)) := by
  have hba : Below w.heap.size w (w.alloc (.cells #[.pointer po, .pointer qo] 23)) := ((Grew.refl w).alloc _).below
  have h9 := join_vv [(l, .pointer po), (m, .pointer qo)] w.heap.size (w.alloc (.cells #[.pointer po, .pointer qo] 23)) (fun i hi => by
    match i, hi with
    | 0, _ => simp
    | 1, _ => simp) (by simp) (by simp) (fun p hp => by
    simp only [List.mem_cons, List.not_mem_nil, or_false] at hp
    rcases hp with rfl | rfl
    · exact h.keeps hba
    · exact h2.keeps hba)
  have e : joinR [(l, .pointer po), (m, .pointer qo)] = .inl (l ++ m) := by
    unfold joinR
    simp only [List.flatMap_cons, List.flatMap_nil, List.append_nil]
    rw [if_pos hlen]
  rw [e] at h9
  exact Calls.mono h9 (fun e w' hp => ⟨hba.trans (hp.1.mono hba.size), hp.2⟩)

set_option maxRecDepth 100000 in
set_option maxHeartbeats 4000000 in
theorem repeated_any (l : List VT) (po : Option Addr) : ∀ (k : Nat) (w : World), VV w l (.pointer po) → k * l.length ≤ 65536 → k ≤ 9223372036854775807 → Calls Try.prog 46 #[.pointer po, .int .i64 (k : Int)] w fun e w' => Below w.heap.size w w' ∧ ∃ b, e = .returned (.pointer (some ⟨b, 0, none⟩)) ∧ VV w' (timesL l k) (.pointer (some ⟨b, 0, none⟩)) := by
  intro k
  induction k using Nat.strongRecOn with
  | _ k ih =>
    intro w hv hk hk63
    by_cases h0 : k = 0
    · subst h0
      have HN : Hid _ := new_any w
      clear ih hv
      go_enter Try.func46, Try.ntmps46
      go_wp2_with fail
      refine Calls.mono HN.out ?_
      rintro e w1 ⟨b, rfl, hv1, hb1⟩
      have HE : Hid (VV w1 (timesL l 0) (.pointer (some ⟨b, 0, none⟩))) := hv1
      clear hv1 HN
      go_wp2_with fail
      go_ret
      exact ⟨hb1, b, rfl, HE.out⟩
    · have hkz : ¬ ((k : Int) = 0) := by omega
      obtain ⟨H, hH⟩ : ∃ H, H = k / 2 := ⟨_, rfl⟩
      have hdm : H * 2 + k % 2 = k := by omega
      have hHk : H * l.length ≤ 65536 := Nat.le_trans (Nat.mul_le_mul_right _ (by omega)) hk
      have HI : Hid _ := ih H (by omega) w hv hHk (by omega)
      have HV : Hid (VV w l (.pointer po)) := hv
      have hq : ((k : Int)).tdiv 2 = ((H : Nat) : Int) := by rw [hH]; rfl
      have hq' : ((k : Int)) / 2 = ((H : Nat) : Int) := by omega
      have hw1 : IntKind.i64.wrap ((H : Nat) : Int) = ((H : Nat) : Int) := by rw [IntKind.wrap_i64]; omega
      clear ih hv hH
      have e2 : timesL l H ++ timesL l H = timesL l (H * 2) := by rw [Nat.mul_two, timesL_add]
      have e2l : (timesL l H ++ timesL l H).length ≤ 65536 := by
        rw [e2, timesL_len]
        exact Nat.le_trans (Nat.mul_le_mul_right _ (by omega)) hk
      by_cases hodd : k % 2 = 1
      · have hr : ((k : Int)).tmod 2 = 1 := by
          have : ((k : Int)).tmod 2 = ((k % 2 : Nat) : Int) := rfl
          rw [this, hodd]; rfl
        have hr' : ((k : Int)) % 2 = 1 := by omega
        have e3 : timesL l (H * 2) ++ l = timesL l k := by rw [show k = H * 2 + 1 by omega]; rfl
        have e3l : (timesL l (H * 2) ++ l).length ≤ 65536 := by rw [e3, timesL_len]; exact hk
        go_enter Try.func46, Try.ntmps46
        go_wp2_with fail
        refine Calls.mono HI.out ?_
        rintro e w1 ⟨hb1, b1, rfl, hv1⟩
        have HJ : Hid _ := join2_any _ _ _ _ w1 hv1 hv1 e2l
        clear HI hv1
        go_wp2_with fail
        refine Calls.mono HJ.out ?_
        rintro e w2 ⟨hb2, b2, rfl, hv2⟩
        have hb12 : Below w.heap.size w w2 := hb1.trans (hb2.mono hb1.size)
        rw [e2] at hv2
        have HJ2 : Hid _ := join2_any _ _ _ _ w2 hv2 (HV.out.keeps hb12) e3l
        clear HJ hv2 hb2 hb1
        go_wp2_with fail
        refine Calls.mono HJ2.out ?_
        rintro e w3 ⟨hb3, b3, rfl, hv3⟩
        rw [e3] at hv3
        have HE : Hid (Below w.heap.size w w3 ∧ VV w3 (timesL l k) (.pointer (some ⟨b3, 0, none⟩))) := ⟨hb12.trans (hb3.mono hb12.size), hv3⟩
        clear HJ2 hv3 hb3
        go_wp2_with fail
        go_ret
        exact ⟨HE.out.1, b3, rfl, HE.out.2⟩
      · have hr : ¬ ((k : Int)).tmod 2 = 1 := by
          have : ((k : Int)).tmod 2 = ((k % 2 : Nat) : Int) := rfl
          rw [this]; omega
        have hr' : ¬ ((k : Int)) % 2 = 1 := by omega
        have e3 : timesL l (H * 2) = timesL l k := by rw [show k = H * 2 by omega]
        go_enter Try.func46, Try.ntmps46
        go_wp2_with fail
        refine Calls.mono HI.out ?_
        rintro e w1 ⟨hb1, b1, rfl, hv1⟩
        have HJ : Hid _ := join2_any _ _ _ _ w1 hv1 hv1 e2l
        clear HI hv1
        go_wp2_with fail
        refine Calls.mono HJ.out ?_
        rintro e w2 ⟨hb2, b2, rfl, hv2⟩
        have hb12 : Below w.heap.size w w2 := hb1.trans (hb2.mono hb1.size)
        rw [e2, e3] at hv2
        have HE : Hid (Below w.heap.size w w2 ∧ VV w2 (timesL l k) (.pointer (some ⟨b2, 0, none⟩))) := ⟨hb12, hv2⟩
        clear HJ hv2 hb2 hb1
        go_wp2_with fail
        go_ret
        exact ⟨HE.out.1, b2, rfl, HE.out.2⟩

end Go.Proofs.Ytplahohaahfjmab

namespace Go.Proofs.Ytplahohaahfjmab
open Go.RowKit

/-- What Repeat tells. -/
def repR (l : List VT) (k : Int) : List VT ⊕ Nat := if k < 0 then .inr 1 else if l.length = 0 then .inl [] else if 65536 / (l.length : Int) < k then .inr 2 else .inl (timesL l k.toNat)

def timesP (ps : List (VT × Value)) : Nat → List (VT × Value)
  | 0 => []
  | k + 1 => timesP ps k ++ ps

theorem timesP_map (ps : List (VT × Value)) (k : Nat) : (timesP ps k).map (·.1) = timesL (ps.map (·.1)) k := by
  induction k with
  | zero => rfl
  | succ k ih => simp only [timesP, timesL]; rw [List.map_append, ih]

theorem timesP_mem (ps : List (VT × Value)) (k : Nat) : ∀ p ∈ timesP ps k, p ∈ ps := by
  induction k with
  | zero => intro p hp; cases hp
  | succ k ih =>
    intro p hp
    rcases List.mem_append.1 hp with hp | hp
    · exact ih p hp
    · exact hp

theorem timesP_len (ps : List (VT × Value)) (k : Nat) : (timesP ps k).length = k * ps.length := by
  induction k with
  | zero => simp [timesP]
  | succ k ih => simp only [timesP]; rw [List.length_append, ih, Nat.succ_mul]

set_option maxRecDepth 100000 in
set_option maxHeartbeats 8000000 in
theorem rrepeat_any (l : List VT) (a : Option Addr) (c : Nat) (k : Int) (w : World) (hl : Lies 17 w l (.slice a l.length c)) (hlen : l.length ≤ 65536) (hk63 : k ≤ 9223372036854775807) : Calls Try.prog 22 #[.slice a l.length c, .int .i64 k] w (LstPost (repR l k) w) := by
  obtain ⟨R, hR⟩ : ∃ R, R = repR l k := ⟨_, rfl⟩
  rw [← hR]
  unfold repR at hR
  by_cases h1 : k < 0
  · rw [if_pos h1] at hR
    have HE : Hid (LstPost R w (.returned (.tuple #[.slice none 0 0, .int .i64 1])) w) := by
      show LstPost _ _ _ _
      rw [hR]
      exact ⟨Below.refl _ _, rfl⟩
    clear hl hR
    go_enter Try.func22, Try.ntmps22
    go_wp2_with fail
    go_ret2
    exact HE.out
  · rw [if_neg h1] at hR
    by_cases h2 : l.length = 0
    · rw [if_pos h2] at hR
      have HE : Hid (LstPost R w (.returned (.tuple #[.slice none 0 0, .int .i64 0])) w) := by
        show LstPost _ _ _ _
        rw [hR]
        exact ⟨Below.refl _ _, none, 0, rfl, Lies.atLeast (d := 0) ⟨rfl, none, 0, rfl⟩ 17 (by omega)⟩
      rw [h2]
      clear hl hR h2
      go_enter Try.func22, Try.ntmps22
      go_wp2_with fail
      go_ret2
      exact HE.out
    · rw [if_neg h2] at hR
      have h2i : ¬ ((l.length : Nat) : Int) = 0 := by omega
      obtain ⟨Q, hQ⟩ : ∃ Q : Int, Q = 65536 / (l.length : Int) := ⟨_, rfl⟩
      have hq1 : (65536 : Int).tdiv (l.length : Int) = Q := by rw [hQ]; exact Int.tdiv_eq_ediv_of_nonneg (by omega)
      have hQb : 0 ≤ Q ∧ Q ≤ 65536 := by
        rw [hQ]
        exact ⟨Int.ediv_nonneg (by omega) (by omega), Int.ediv_le_self _ (by omega)⟩
      have hw1 : IntKind.i64.wrap Q = Q := by rw [IntKind.wrap_i64]; omega
      have hq2 : 65536 / (l.length : Int) = Q := hQ.symm
      rw [hq2] at hR
      by_cases h3 : Q < k
      · rw [if_pos h3] at hR
        have HE : Hid (LstPost R w (.returned (.tuple #[.slice none 0 0, .int .i64 2])) w) := by
          show LstPost _ _ _ _
          rw [hR]
          exact ⟨Below.refl _ _, rfl⟩
        obtain ⟨L, hL⟩ : ∃ L, L = l.length := ⟨_, rfl⟩
        rw [← hL] at h2i hq1 hq2 hlen ⊢
        clear hl hR h2 hQ hL
        go_enter Try.func22, Try.ntmps22
        go_wp2_with fail
        go_ret2
        exact HE.out
      · rw [if_neg h3] at hR
        obtain ⟨K, rfl⟩ := Int.eq_ofNat_of_zero_le (show 0 ≤ k by omega)
        rw [Int.toNat_natCast] at hR
        obtain ⟨ps, hp1, hp2, hsA, hsd⟩ := src_of hl
        have HSA : Hid (Src w a l.length 4 (ps.flatMap encP)) := hsA
        have hKL : K * l.length ≤ 65536 := by
          have h9 : (K : Int) * l.length ≤ 65536 := by
            have h8 : (K : Int) * l.length ≤ Q * l.length := Int.mul_le_mul_of_nonneg_right (by omega) (by omega)
            have h7 : Q * l.length ≤ 65536 := by rw [hQ]; exact Int.ediv_mul_le _ (by omega)
            omega
          have h6 : ((K * l.length : Nat) : Int) ≤ 65536 := by rw [Int.natCast_mul]; exact h9
          omega
        have HG : Hid (∀ (W : World) (a9 c9), Rw w W (.slice a9 (K * l.length) c9) (K * l.length) ((timesP ps K).flatMap encP) → ∃ n9, n9 = K * l.length ∧ LstPost R w (.returned (.tuple #[.slice a9 n9 c9, .int .i64 0])) W) := fun W a9 c9 h => by
          have h9 := h.lies (by rw [timesP_len, hp2]) (fun p hp => hsd p (timesP_mem ps K p hp)) (by omega)
          rw [timesP_map, hp1] at h9
          refine ⟨_, rfl, ?_⟩
          rw [hR]
          rw [← timesL_len l K] at h9 ⊢
          exact ⟨h.below, a9, c9, rfl, h9⟩
        obtain ⟨L, hL⟩ : ∃ L, L = l.length := ⟨_, rfl⟩
        rw [← hL] at HSA HG h2i hq1 hq2 hKL hlen ⊢
        clear hl hsA hp1 hp2 hsd hR hL hQ h2
        go_enter Try.func22, Try.ntmps22
        go_wp2_with fail
        go_loopg [7, 6] (K + 1) (fun z vi vo wr => ∃ (j : Nat) (av : Option Addr) (cv : Nat), vi = .int .i64 (j : Int) ∧ j ≤ K ∧ z = K + 1 - j ∧ vo = .slice av (j * L) cv ∧ Hid (Rw w wr (.slice av (j * L) cv) (j * L) ((timesP ps j).flatMap encP)))
        case atStart => exact ⟨0, none, 0, rfl, by omega, by omega, by simp, by show Rw _ _ _ _ _; simpa [timesP] using (⟨Below.refl _ _, World.ownsRow_nil _ _ _ _⟩ : Rw w w (.slice none 0 0) 0 [])⟩
        case round =>
          obtain ⟨j, av, cv, rfl, hj, hz, rfl, HR⟩ := hrel
          have Hz : Hid _ := hz
          clear hz
          by_cases hlt : j < K
          · have hji : (j : Int) < (K : Nat) := by omega
            have hjL : (j + 1) * L ≤ 65536 := Nat.le_trans (Nat.mul_le_mul_right _ (by omega)) hKL
            have hsum : j * L + L = (j + 1) * L := by rw [Nat.succ_mul]
            have HC := HR.out
            clear HR
            go_wp2_with
              (at_builtin; refine Rw.append rfl _ _ rfl HC rfl rfl HSA.out ((j + 1) * L) hsum (by omega) ?_; clear HC; intro ax cx W HC)
            have HN : Hid (Rw w W (.slice ax ((j + 1) * L) cx) ((j + 1) * L) ((timesP ps (j + 1)).flatMap encP)) := by
              show Rw _ _ _ _ _
              simp only [timesP]
              rw [List.flatMap_append]
              exact HC
            clear HC
            go_wp2_with fail
            go_roundg (K + 1 - (j + 1))
            case measure => have := Hz.out; omega
            case rel => exact ⟨j + 1, ax, cx, by go_num, by omega, by omega, rfl, HN⟩
          · obtain rfl : j = K := by omega
            have hself : ¬ ((j : Nat) : Int) < (j : Nat) := by omega
            obtain ⟨n9, hn9, hfin⟩ := HG.out _ _ _ HR.out
            subst hn9
            have HE : Hid _ := hfin
            clear hfin HG HR
            go_wp2_with fail
            go_ret2
            exact HE.out

end Go.Proofs.Ytplahohaahfjmab

namespace Go.Proofs.Ytplahohaahfjmab
open Go.RowKit

/-- Block g holds the values ps, to be written; what w0 had is as it was. -/
structure RowV (w0 : World) (g : Nat) (ps : List PR) (w : World) : Prop where
  row : RowAt w g 0 ps
  soft : Soft w g ps.length
  lt : g < w.heap.size
  below : Below w0.heap.size w0 w

theorem size_setCellsV (b : Nat) : ∀ (vs : List Value) (o : Nat) (w : World), (w.setCells b o vs).heap.size = w.heap.size := by
  intro vs
  induction vs with
  | nil => intro o w; rfl
  | cons v vs ih => intro o w; rw [World.setCells, ih]; simp [World.setCell]

theorem RowV.keeps {w0 w w' : World} {g : Nat} {ps : List PR} (h : RowV w0 g ps w) (hb : Below w.heap.size w w') : RowV w0 g ps w' :=
  ⟨h.row.keeps hb, h.soft.keeps h.lt hb, Nat.lt_of_lt_of_le h.lt hb.size, h.below.trans (hb.mono h.below.size)⟩

theorem RowV.at {w0 w : World} {g : Nat} {ps : List PR} (h : RowV w0 g ps w) (i : Nat) (hi : i < ps.length) :
    w.cell? ⟨g, i * 4, none⟩ = some (.int .i64 ps[i].1.kind) ∧ w.cell? ⟨g, i * 4 + 1, none⟩ = some (.int .i64 ps[i].1.num) ∧ w.cell? ⟨g, i * 4 + 2, none⟩ = some (.string ps[i].1.text) ∧ w.cell? ⟨g, i * 4 + 3, none⟩ = some ps[i].2 := by
  have := h.row i hi
  simpa only [Nat.zero_add] using this

theorem RowV.fzs {w0 w : World} {g : Nat} {ps : List PR} (h : RowV w0 g ps w) (i : Nat) (hi : i < ps.length) :
    w.frozen? ⟨g, i * 4, none⟩ = false ∧ w.frozen? ⟨g, i * 4 + 1, none⟩ = false ∧ w.frozen? ⟨g, i * 4 + 2, none⟩ = false ∧ w.frozen? ⟨g, i * 4 + 3, none⟩ = false :=
  ⟨h.soft _ (by omega), h.soft _ (by omega), h.soft _ (by omega), h.soft _ (by omega)⟩

theorem RowV.put {w0 w : World} {g : Nat} {ps : List PR} (h : RowV w0 g ps w) (hg : w0.heap.size ≤ g) (k : Nat) (hk : k < ps.length) (p : PR) : RowV w0 g (ps.set k p) (w.setCells g (k * 4) (encP p)) :=
  ⟨h.row.put k hk p, by rw [List.length_set]; exact h.soft.put _ _, by rw [size_setCellsV]; exact h.lt, below_setCellsB g w0.heap.size hg _ _ _ _ h.below⟩

theorem RowV.swap {w0 w : World} {g : Nat} {ps : List PR} (h : RowV w0 g ps w) (hg : w0.heap.size ≤ g) (i j : Nat) (hi : i < ps.length) (hj : j < ps.length) :
    RowV w0 g ((ps.set i ps[j]).set j ps[i]) ((w.setCells g (i * 4) (encP ps[j])).setCells g (j * 4) (encP ps[i])) :=
  (h.put hg i hi ps[j]).put hg j (by rw [List.length_set]; exact hj) ps[i]

/-- The first k and the last k are turned about. -/
def TurnK (ps qs : List PR) (k : Nat) : Prop := qs.length = ps.length ∧ ∀ x, x < ps.length → qs[x]? = if x < k ∨ ps.length - k ≤ x then ps[ps.length - 1 - x]? else ps[x]?

theorem TurnK.zero (ps : List PR) : TurnK ps ps 0 := ⟨rfl, fun x hx => by rw [if_neg (by omega)]⟩

theorem TurnK.step {ps qs : List PR} {k y : Nat} (h : TurnK ps qs k) (hy : y = ps.length - 1 - k) (hk : k < y) (h1 : k < qs.length) (h2 : y < qs.length) : TurnK ps ((qs.set k qs[y]).set y qs[k]) (k + 1) := by
  have hl := h.1
  refine ⟨by simp [hl], fun x hx => ?_⟩
  by_cases e1 : x = y
  · subst e1
    rw [List.getElem?_set_self (by simp; omega), if_pos (by omega), ← List.getElem?_eq_getElem h1, h.2 k (by omega), if_neg (by omega)]
    congr 1
    omega
  · rw [List.getElem?_set_ne (Ne.symm e1)]
    by_cases e2 : x = k
    · subst e2
      rw [List.getElem?_set_self (by omega), if_pos (by omega), ← List.getElem?_eq_getElem h2, h.2 y (by omega), if_neg (by omega), hy]
    · rw [List.getElem?_set_ne (Ne.symm e2), h.2 x hx]
      by_cases e3 : x < k ∨ ps.length - k ≤ x
      · rw [if_pos e3, if_pos (by omega)]
      · rw [if_neg e3, if_neg (by omega)]

theorem TurnK.done {ps qs : List PR} {k : Nat} (h : TurnK ps qs k) (hk : ps.length ≤ 2 * k + 1) : qs = ps.reverse := by
  apply List.ext_getElem?
  intro x
  by_cases hx : x < ps.length
  · rw [List.getElem?_reverse hx, h.2 x hx]
    by_cases e : x < k ∨ ps.length - k ≤ x
    · rw [if_pos e]
    · rw [if_neg e]
      congr 1
      omega
  · rw [List.getElem?_eq_none (by rw [h.1]; omega), List.getElem?_eq_none (by simp; omega)]

theorem TurnK.mem {ps qs : List PR} {k : Nat} (h : TurnK ps qs k) : ∀ q ∈ qs, q ∈ ps := fun q hq => by
  obtain ⟨x, hx, rfl⟩ := List.mem_iff_getElem.1 hq
  have h9 := h.2 x (by rw [← h.1]; exact hx)
  rw [List.getElem?_eq_getElem hx] at h9
  by_cases e : x < k ∨ ps.length - k ≤ x
  · rw [if_pos e] at h9
    exact List.mem_of_getElem? h9.symm
  · rw [if_neg e] at h9
    exact List.mem_of_getElem? h9.symm

set_option maxRecDepth 100000 in
set_option maxHeartbeats 16000000 in
theorem reverse_row (w0 : World) (g cap : Nat) (ps : List PR) (w : World) (hg : w0.heap.size ≤ g) (hR : RowV w0 g ps w) (hS : ∀ p ∈ ps, ∃ a n c, p.2 = .slice a n c) (hlen : ps.length ≤ 65536) (hne : ps ≠ []) :
    Calls Try.prog 69 #[.slice (some ⟨g, 0, none⟩) ps.length cap] w fun e w' => e = .returned (.tuple #[]) ∧ RowV w0 g ps.reverse w' := by
  have HR0 : Hid (RowV w0 g ps w) := hR
  have HS : Hid (∀ p ∈ ps, ∃ a n c, p.2 = .slice a n c) := hS
  have hL1 : 1 ≤ ps.length := by cases ps with
    | nil => exact absurd rfl hne
    | cons => simp
  obtain ⟨L, hL⟩ : ∃ L, L = ps.length := ⟨_, rfl⟩
  have HL : Hid (L = ps.length) := hL
  have HT0 : Hid (TurnK ps ps 0) := TurnK.zero ps
  rw [← hL] at hlen hL1 ⊢
  have hw0 : IntKind.i64.wrap ((L : Int) - 1) = ((L - 1 : Nat) : Int) := by rw [IntKind.wrap_i64]; omega
  clear hR hS hL hne
  go_enter Try.func69, Try.ntmps69
  go_wp2_with fail
  go_loopg [2, 3] L (fun z vi vj wr => ∃ (k y : Nat) (qs : List PR), vi = .int .i64 (k : Int) ∧ vj = .int .i64 (y : Int) ∧ k + y + 1 = L ∧ z = L - k ∧ Hid (TurnK ps qs k) ∧ Hid (RowV w0 g qs wr))
  case atStart => exact ⟨0, L - 1, ps, rfl, rfl, by omega, by omega, HT0, HR0⟩
  case round =>
    obtain ⟨x, y, qs, rfl, rfl, hxy, hk, HT, HM⟩ := hrel
    have Hk : Hid _ := hk
    clear hk HR0 HT0
    by_cases hlt : x < y
    · have hxl : x < qs.length := by rw [HT.out.1, ← HL.out]; omega
      have hyl : y < qs.length := by rw [HT.out.1, ← HL.out]; omega
      have HN : Hid (RowV w0 g ((qs.set x qs[y]).set y qs[x]) ((wr.setCells g (x * 4) (encP qs[y])).setCells g (y * 4) (encP qs[x])).drew) := (HM.out.swap hg x y hxl hyl).keeps (Grew.refl _).drew.below
      have HTn : Hid (TurnK ps ((qs.set x qs[y]).set y qs[x]) (x + 1)) := HT.out.step (by rw [← HL.out]; omega) hlt hxl hyl
      obtain ⟨p0, p1, p2, p3⟩ := HM.out.at x hxl
      obtain ⟨r0, r1, r2, r3⟩ := HM.out.at y hyl
      obtain ⟨f0, f1, f2, f3⟩ := HM.out.fzs x hxl
      obtain ⟨z0, z1, z2, z3⟩ := HM.out.fzs y hyl
      obtain ⟨pa, pn, pc, e1⟩ := HS.out _ (HT.out.mem _ (List.getElem_mem hxl))
      obtain ⟨ra, rn, rc, e3⟩ := HS.out _ (HT.out.mem _ (List.getElem_mem hyl))
      rw [e1] at p3; rw [e3] at r3
      simp only [encP, e1, e3] at HN
      generalize ((qs.set x qs[y]).set y qs[x]) = qn at *
      generalize qs[x] = p at *
      generalize qs[y] = r at *
      clear e1 e3 HT HM
      have hxi : (x : Int) < (L : Nat) := by omega
      have hyi : (y : Int) < (L : Nat) := by omega
      have hlti : (x : Int) < (y : Nat) := by omega
      have hwy : IntKind.i64.wrap ((y : Int) - 1) = ((y - 1 : Nat) : Int) := by rw [IntKind.wrap_i64]; omega
      have n00 : ¬ (y * 4 = x * 4) := by omega
      have n01 : ¬ (y * 4 = x * 4 + 1) := by omega
      have n02 : ¬ (y * 4 = x * 4 + 2) := by omega
      have n03 : ¬ (y * 4 = x * 4 + 3) := by omega
      have n10 : ¬ (y * 4 + 1 = x * 4) := by omega
      have n11 : ¬ (y * 4 + 1 = x * 4 + 1) := by omega
      have n12 : ¬ (y * 4 + 1 = x * 4 + 2) := by omega
      have n13 : ¬ (y * 4 + 1 = x * 4 + 3) := by omega
      have n20 : ¬ (y * 4 + 2 = x * 4) := by omega
      have n21 : ¬ (y * 4 + 2 = x * 4 + 1) := by omega
      have n22 : ¬ (y * 4 + 2 = x * 4 + 2) := by omega
      have n23 : ¬ (y * 4 + 2 = x * 4 + 3) := by omega
      have n30 : ¬ (y * 4 + 3 = x * 4) := by omega
      have n31 : ¬ (y * 4 + 3 = x * 4 + 1) := by omega
      have n32 : ¬ (y * 4 + 3 = x * 4 + 2) := by omega
      have n33 : ¬ (y * 4 + 3 = x * 4 + 3) := by omega
      clear hxl hyl
      go_wp2_with fail
      go_region
      clear p0 p1 p2 p3 r0 r1 r2 r3 f0 f1 f2 f3 z0 z1 z2 z3 n00 n01 n02 n03 n10 n11 n12 n13 n20 n21 n22 n23 n30 n31 n32 n33
      simp only [World.setCells] at HN
      go_wp2_with fail
      go_roundg (L - (x + 1))
      case measure => have := Hk.out; omega
      case rel => exact ⟨x + 1, y - 1, qn, by go_num, rfl, by omega, rfl, HTn, HN⟩
    · have hlti : ¬ (x : Int) < (y : Nat) := by omega
      have HE : Hid (RowV w0 g ps.reverse wr) := by
        rw [← HT.out.done (by rw [← HL.out]; omega)]
        exact HM.out
      clear HT HM
      go_wp2_with fail
      exact bodyPost_end (v := .tuple #[]) (by simp [results, Try.results69, go_sem]) rfl ⟨rfl, HE.out⟩

set_option maxRecDepth 100000 in
theorem reverse_none (a : Option Addr) (cap : Nat) (w : World) : Calls Try.prog 69 #[.slice a 0 cap] w fun e w' => e = .returned (.tuple #[]) ∧ w' = w := by
  go_enter Try.func69, Try.ntmps69
  go_wp2_with fail
  go_loopg [2, 3] 1 (fun z vi vj wr => vi = .int .i64 0 ∧ vj = .int .i64 (-1) ∧ z = 1 ∧ wr = w)
  case atStart => exact ⟨rfl, rfl, rfl, rfl⟩
  case round =>
    obtain ⟨rfl, rfl, hk, rfl⟩ := hrel
    clear hk
    go_wp2_with fail
    exact bodyPost_end (v := .tuple #[]) (by simp [results, Try.results69, go_sem]) rfl ⟨rfl, rfl⟩

/-- slices.Reverse of a list of one's own. -/
theorem reverse_any (d : Nat) (w0 : World) (ps : List PR) (v : Value) (w : World) (ho : w.ownsRow w0.heap.size 38 4 v ps.length (ps.flatMap encP)) (hs : ∀ p ∈ ps, Sound d w0 p) (hb : Below w0.heap.size w0 w) (hlen : ps.length ≤ 65536) :
    Calls Try.prog 69 #[v] w fun e w' => e = .returned (.tuple #[]) ∧ Below w0.heap.size w0 w' ∧ Lies (d + 1) w' (ps.reverse.map (·.1)) v := by
  by_cases hne : ps = []
  · subst hne
    have hv : ∃ a c, v = .slice a 0 c := by
      rcases ho.2 with ⟨rfl, _⟩ | ⟨g, cap, cur, rfl, _⟩
      · exact ⟨_, _, rfl⟩
      · exact ⟨_, _, rfl⟩
    obtain ⟨a, c, rfl⟩ := hv
    refine Calls.mono (reverse_none a c w) ?_
    rintro e w' ⟨rfl, rfl⟩
    exact ⟨rfl, hb, a, c, rfl, by simp, fun h => absurd rfl h⟩
  · obtain ⟨g, cap, rfl, hg, hcap, hlt, hrow, hfz⟩ := own_row ho hne
    refine Calls.mono (reverse_row w0 g cap ps w hg ⟨hrow, fun k _ => hfz k, hlt, hb⟩ (fun p hp => by obtain ⟨a, c, e, _⟩ := Lies.slice (hs p hp).1; exact ⟨_, _, _, e⟩) hlen hne) ?_
    rintro e w' ⟨rfl, hR⟩
    refine ⟨rfl, hR.below, ?_⟩
    have h9 := lies_of_row (d := d) (c := cap) hR.row (fun p hp => (hs p (List.mem_reverse.1 hp)).keeps hR.below) (by simp; omega) (by simpa using hcap)
    rw [List.length_reverse] at h9
    exact h9

set_option maxRecDepth 100000 in
set_option maxHeartbeats 4000000 in
theorem turned_any (l : List VT) (p : Value) (w : World) (h : VV w l p) : Calls Try.prog 48 #[p] w fun e w' => Below w.heap.size w w' ∧ ∃ b, e = .returned (.pointer (some ⟨b, 0, none⟩)) ∧ VV w' l.reverse (.pointer (some ⟨b, 0, none⟩)) := by
  obtain ⟨po, rfl⟩ := h.vc.shape
  have HK : Hid _ := kept_any 16 l _ w h.vc h.len
  have hlen := h.len
  have HRt : Hid (l.reverse.length ≤ 65536 ∧ l.reverse.all (rightV 16) = true) := ⟨by rw [List.length_reverse]; exact hlen, by rw [List.all_reverse]; exact h.right⟩
  clear h
  go_enter Try.func48, Try.ntmps48
  go_wp2_with fail
  refine Calls.mono HK.out ?_
  rintro e w1 ⟨v, rfl, ⟨ps, hps, ho, hsd⟩, hb1⟩
  have hpl : ps.length ≤ 65536 := by rw [← hps, List.length_map] at hlen; exact hlen
  have HV : Hid _ := reverse_any 16 w ps v w1 ho hsd hb1 hpl
  have HM : Hid (ps.reverse.map (·.1) = l.reverse) := by
    show _ = _
    rw [List.map_reverse, hps]
  have hvs : ∃ a n c, v = .slice a n c := by
    rcases ho.2 with ⟨e, _⟩ | ⟨g, cap, cur, e, _⟩
    · exact ⟨_, _, _, e⟩
    · exact ⟨_, _, _, e⟩
  obtain ⟨a, n, c, rfl⟩ := hvs
  clear HK ho hsd hps hpl hlen hb1
  go_wp2_with fail
  refine Calls.mono HV.out ?_
  rintro e w2 ⟨rfl, hb2, hl2⟩
  rw [HM.out] at hl2
  have HG : Hid _ := grown_any l.reverse _ w2 hl2 HRt.out.1
  clear HV hl2
  go_wp2_with fail
  refine Calls.mono HG.out ?_
  rintro e w3 ⟨t, rfl, ht, hg3⟩
  have hb3 : Below w.heap.size w w3 := hb2.trans (hg3.mono hb2.size)
  have HE : Hid (Below w.heap.size w (w3.alloc (.cells #[t] 72)) ∧ VV (w3.alloc (.cells #[t] 72)) l.reverse (.pointer (some ⟨w3.heap.size, 0, none⟩))) := ⟨hb3.trans (((Grew.refl w3).alloc _).below.mono hb3.size), VC.made ht _, HRt.out.1, HRt.out.2⟩
  rcases ht.shape with hz | ⟨T, q, hz⟩
  · subst hz
    clear HG hg3 hb2 ht
    go_wp2_with fail
    go_ret
    exact ⟨HE.out.1, _, rfl, HE.out.2⟩
  · subst hz
    clear HG hg3 hb2 ht
    go_wp2_with fail
    go_ret
    exact ⟨HE.out.1, _, rfl, HE.out.2⟩

set_option maxRecDepth 100000 in
theorem creverse_any (l : List VT) (p : Value) (w : World) (h : VV w l p) : Calls Try.prog 25 #[p] w fun e w' => Below w.heap.size w w' ∧ ∃ b, e = .returned (.pointer (some ⟨b, 0, none⟩)) ∧ VV w' l.reverse (.pointer (some ⟨b, 0, none⟩)) := by
  obtain ⟨po, rfl⟩ := h.vc.shape
  have HT : Hid _ := turned_any l _ w h
  clear h
  go_enter Try.func25, Try.ntmps25
  go_wp2_with fail
  refine Calls.mono HT.out ?_
  rintro e w1 ⟨hb, b, rfl, hv⟩
  have HE : Hid (VV w1 l.reverse (.pointer (some ⟨b, 0, none⟩))) := hv
  clear HT hv
  go_wp2_with fail
  go_ret
  exact ⟨hb, b, rfl, HE.out⟩

end Go.Proofs.Ytplahohaahfjmab

namespace Go.Proofs.Ytplahohaahfjmab
open Go.RowKit

theorem timesL_nil (k : Nat) : timesL [] k = [] := by
  induction k with
  | zero => rfl
  | succ k ih => simp only [timesL]; rw [ih]; rfl

set_option maxRecDepth 100000 in
set_option maxHeartbeats 8000000 in
theorem crepeat_any (l : List VT) (p : Value) (k : Int) (w : World) (h : VV w l p) (hk63 : k ≤ 9223372036854775807) : Calls Try.prog 21 #[p, .int .i64 k] w (VvPost (repR l k) w) := by
  obtain ⟨po, rfl⟩ := h.vc.shape
  have hlen := h.len
  obtain ⟨R, hR⟩ : ∃ R, R = repR l k := ⟨_, rfl⟩
  rw [← hR]
  unfold repR at hR
  by_cases h1 : k < 0
  · rw [if_pos h1] at hR
    have HE : Hid (VvPost R w (.returned (.tuple #[.pointer none, .int .i64 1])) w) := by
      show VvPost _ _ _ _
      rw [hR]
      exact ⟨Below.refl _ _, rfl⟩
    clear h hR
    go_enter Try.func21, Try.ntmps21
    go_wp2_with fail
    go_ret2
    exact HE.out
  · rw [if_neg h1] at hR
    obtain ⟨K, rfl⟩ := Int.eq_ofNat_of_zero_le (show 0 ≤ k by omega)
    rw [Int.toNat_natCast] at hR
    have HLen : Hid (∀ V, Below w.heap.size w V → Calls Try.prog 31 #[.pointer po] V (NumPost l.length V)) := fun V hV => vlen_any 16 l _ V (h.vc.keeps hV)
    by_cases h2 : l.length = 0
    · rw [if_pos h2] at hR
      obtain rfl : l = [] := List.eq_nil_of_length_eq_zero h2
      have HRp : Hid (∀ V, Below w.heap.size w V → Calls Try.prog 46 #[.pointer po, .int .i64 (K : Int)] V fun e w' => Below V.heap.size V w' ∧ ∃ b, e = .returned (.pointer (some ⟨b, 0, none⟩)) ∧ VV w' [] (.pointer (some ⟨b, 0, none⟩))) := fun V hV => by
        have h9 := repeated_any [] po K V (h.keeps hV) (by simp) (by omega)
        rw [timesL_nil] at h9
        exact h9
      have HR : Hid (R = .inl []) := hR
      rw [show ([] : List VT).length = 0 from rfl] at HLen
      clear h hR h2 hlen
      go_enter Try.func21, Try.ntmps21
      go_wp2_with fail
      refine Calls.mono (HLen.out w (Below.refl _ _)) ?_
      rintro e w1 ⟨rfl, hb1⟩
      have HR1 : Hid _ := HRp.out w1 hb1
      clear HLen HRp
      go_wp2_with fail
      refine Calls.mono HR1.out ?_
      rintro e w2 ⟨hb2, b, rfl, hv⟩
      have HE : Hid (VvPost R w (.returned (.tuple #[.pointer (some ⟨b, 0, none⟩), .int .i64 0])) w2) := by
        show VvPost _ _ _ _
        rw [HR.out]
        exact ⟨hb1.trans (hb2.mono hb1.size), b, rfl, hv⟩
      clear hv HR1 hb1 hb2 HR
      go_wp2_with fail
      go_ret2
      exact HE.out
    · rw [if_neg h2] at hR
      obtain ⟨L, hL⟩ : ∃ L, L = l.length := ⟨_, rfl⟩
      have h2i : (0 : Int) < ((L : Nat) : Int) := by omega
      have h2j : ¬ ((L : Nat) : Int) = 0 := by omega
      obtain ⟨Q, hQ⟩ : ∃ Q : Int, Q = 65536 / (L : Int) := ⟨_, rfl⟩
      have hq1 : (65536 : Int).tdiv (L : Int) = Q := by rw [hQ]; exact Int.tdiv_eq_ediv_of_nonneg (by omega)
      have hQb : 0 ≤ Q ∧ Q ≤ 65536 := by
        rw [hQ]
        exact ⟨Int.ediv_nonneg (by omega) (by omega), Int.ediv_le_self _ (by omega)⟩
      have hw1 : IntKind.i64.wrap Q = Q := by rw [IntKind.wrap_i64]; omega
      have hq2 : 65536 / (L : Int) = Q := hQ.symm
      rw [← hL] at hR HLen
      rw [hq2] at hR
      by_cases h3 : Q < (K : Int)
      · rw [if_pos h3] at hR
        have HR : Hid (R = .inr 2) := hR
        clear h hR h2 hQ hL hlen
        go_enter Try.func21, Try.ntmps21
        go_wp2_with fail
        refine Calls.mono (HLen.out w (Below.refl _ _)) ?_
        rintro e w1 ⟨rfl, hb1⟩
        have HL1 : Hid _ := HLen.out w1 hb1
        clear HLen
        go_wp2_with fail
        refine Calls.mono HL1.out ?_
        rintro e w2 ⟨rfl, hb2⟩
        have HE : Hid (VvPost R w (.returned (.tuple #[.pointer none, .int .i64 2])) w2) := by
          show VvPost _ _ _ _
          rw [HR.out]
          exact ⟨hb1.trans (hb2.mono hb1.size), rfl⟩
        clear HL1 hb1 hb2 HR
        go_wp2_with fail
        go_ret2
        exact HE.out
      · rw [if_neg h3] at hR
        have HR : Hid (R = .inl (timesL l K)) := hR
        have hKL : K * l.length ≤ 65536 := by
          have h9 : (K : Int) * L ≤ 65536 := by
            have h8 : (K : Int) * L ≤ Q * L := Int.mul_le_mul_of_nonneg_right (by omega) (by omega)
            have h7 : Q * L ≤ 65536 := by rw [hQ]; exact Int.ediv_mul_le _ (by omega)
            omega
          have h6 : ((K * L : Nat) : Int) ≤ 65536 := by rw [Int.natCast_mul]; exact h9
          rw [← hL]
          omega
        have HRp : Hid (∀ V, Below w.heap.size w V → Calls Try.prog 46 #[.pointer po, .int .i64 (K : Int)] V fun e w' => Below V.heap.size V w' ∧ ∃ b, e = .returned (.pointer (some ⟨b, 0, none⟩)) ∧ VV w' (timesL l K) (.pointer (some ⟨b, 0, none⟩))) := fun V hV => repeated_any l po K V (h.keeps hV) hKL (by omega)
        clear h hR h2 hQ hL hlen hKL
        go_enter Try.func21, Try.ntmps21
        go_wp2_with fail
        refine Calls.mono (HLen.out w (Below.refl _ _)) ?_
        rintro e w1 ⟨rfl, hb1⟩
        have HL1 : Hid _ := HLen.out w1 hb1
        clear HLen
        go_wp2_with fail
        refine Calls.mono HL1.out ?_
        rintro e w2 ⟨rfl, hb2⟩
        have hb12 : Below w.heap.size w w2 := hb1.trans (hb2.mono hb1.size)
        have HR2 : Hid _ := HRp.out w2 hb12
        clear HL1 hb1 hb2 HRp
        go_wp2_with fail
        refine Calls.mono HR2.out ?_
        rintro e w3 ⟨hb3, b, rfl, hv⟩
        have HE : Hid (VvPost R w (.returned (.tuple #[.pointer (some ⟨b, 0, none⟩), .int .i64 0])) w3) := by
          show VvPost _ _ _ _
          rw [HR.out]
          exact ⟨hb12.trans (hb3.mono hb12.size), b, rfl, hv⟩
        clear hv HR2 hb12 hb3 HR
        go_wp2_with fail
        go_ret2
        exact HE.out

theorem repR_err (l : List VT) (k : Int) : ∀ n, repR l k = .inr n → n ≠ 0 := fun n h => by
  unfold repR at h
  split at h
  · injection h with h; omega
  · split at h
    · cases h
    · split at h
      · injection h with h; omega
      · cases h

/-- What All tells of four, one of them empty. -/
def catR4 (l m : List VT) : List VT ⊕ Nat := if (l ++ (m ++ l)).length ≤ 65536 then .inl (l ++ (m ++ l)) else .inr 2

set_option maxRecDepth 100000 in
set_option maxHeartbeats 8000000 in
theorem all4_any (l m : List VT) (p q : Option Addr) (w : World) (h1 : VV w l (.pointer p)) (h2 : VV w m (.pointer q)) :
    Calls Try.prog 23 #[.slice (some ⟨w.heap.size, 0, none⟩) 4 4] (w.alloc (.cells #[.pointer p, .pointer none, .pointer q, .pointer p] 23)) (VvPost (catR4 l m) w) := by
  have hba : Below w.heap.size w (w.alloc (.cells #[.pointer p, .pointer none, .pointer q, .pointer p] 23)) := ((Grew.refl w).alloc _).below
  have h9 := join_vv [(l, .pointer p), ([], .pointer none), (m, .pointer q), (l, .pointer p)] w.heap.size (w.alloc (.cells #[.pointer p, .pointer none, .pointer q, .pointer p] 23)) (fun i hi => by
    match i, hi with
    | 0, _ => simp
    | 1, _ => simp
    | 2, _ => simp
    | 3, _ => simp) (by simp) (by simp) (fun p hp => by
      simp only [List.mem_cons, List.not_mem_nil, or_false] at hp
      rcases hp with rfl | rfl | rfl | rfl
      · exact h1.keeps hba
      · exact vv_nil _
      · exact h2.keeps hba
      · exact h1.keeps hba)
  have e : joinR [(l, .pointer p), ([], .pointer none), (m, .pointer q), (l, .pointer p)] = catR4 l m := by
    unfold joinR catR4
    simp only [List.flatMap_cons, List.flatMap_nil, List.append_nil, List.nil_append]
  rw [e] at h9
  have HJ : Hid (Calls Try.prog 47 #[.slice (some ⟨w.heap.size, 0, none⟩) 4 4] (w.alloc (.cells #[.pointer p, .pointer none, .pointer q, .pointer p] 23)) (VvPost (catR4 l m) w)) := Calls.mono h9 (fun e w' hp => ⟨hba.trans (hp.1.mono hba.size), hp.2⟩)
  clear h9 e h1 h2
  generalize catR4 l m = R at *
  go_enter Try.func23, Try.ntmps23
  go_wp2_with fail
  refine Calls.mono HJ.out ?_
  intro e w1 hp
  clear HJ
  cases R with
  | inl t =>
    obtain ⟨hb2, b2, rfl, hv2⟩ := hp
    have HE : Hid (VvPost (.inl t) w (.returned (.tuple #[.pointer (some ⟨b2, 0, none⟩), .int .i64 0])) w1) := ⟨hb2, b2, rfl, hv2⟩
    clear hv2
    go_wp2_with fail
    go_ret2
    exact HE.out
  | inr k =>
    obtain ⟨hb2, he⟩ := hp
    simp only at he
    subst he
    have HE : Hid (VvPost (.inr k) w (.returned (.tuple #[.pointer none, .int .i64 (k : Int)])) w1) := ⟨hb2, rfl⟩
    go_wp2_with fail
    go_ret2
    exact HE.out

theorem catR4_err (l m : List VT) : ∀ k, catR4 l m = .inr k → k ≠ 0 := fun k h => by
  unfold catR4 at h
  split at h
  · cases h
  · injection h with h; omega

end Go.Proofs.Ytplahohaahfjmab

namespace Go.Proofs.Ytplahohaahfjmab
open Go.RowKit

theorem eqL_self (l : List VT) : eqL (sameV 16) l l = true := by
  unfold eqL
  rw [all2_self l (fun x _ => sameV_self 16 x)]
  simp

/-- Two vectors of the same items are equal. -/
theorem same2_any (l m : List VT) (he : l = m) (p q : Value) (w : World) (h1 : VV w l p) (h2 : VV w m q) : Calls Try.prog 28 #[p, q] w fun e w' => e = .returned (.bool true) ∧ Below w.heap.size w w' := by
  subst he
  have h9 := equal12_any l l p q w h1 h2
  rw [eqL_self] at h9
  exact h9

/-- Two vectors joined, where they are not too long. -/
theorem cat2_any (l m : List VT) (p q : Value) (w : World) (h1 : VV w l p) (h2 : VV w m q) (hlen : (l ++ m).length ≤ 65536) : Calls Try.prog 27 #[p, q] w fun e w' => Below w.heap.size w w' ∧ ∃ b, e = .returned (.tuple #[.pointer (some ⟨b, 0, none⟩), .int .i64 0]) ∧ VV w' (l ++ m) (.pointer (some ⟨b, 0, none⟩)) := by
  have h9 := concat_any l m p q w h1 h2
  unfold catR at h9
  rw [if_pos hlen] at h9
  exact h9

end Go.Proofs.Ytplahohaahfjmab

