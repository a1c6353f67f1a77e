/-
  The contract of Join.
-/
import Derived.Test.YtpnfmcmhcjekfabTail
namespace Go.Proofs.Ytpnfmcmhcjekfab
open Go.RowKit

/-- A vector, nil or not, that holds these items. -/
def VC (d : Nat) (w : World) (l : List VT) (p : Value) : Prop := (l = [] ∧ p = .pointer none) ∨ ∃ b t, p = .pointer (some ⟨b, 0, none⟩) ∧ w.cell? ⟨b, 0, none⟩ = some t ∧ OT d w l t

theorem VC.keeps {d : Nat} {w w' : World} {l : List VT} {p : Value} (h : VC d w l p) (hb : Below w.heap.size w w') : VC d w' l p := by
  rcases h with h | ⟨b, t, hp, hc, ht⟩
  · exact .inl h
  · exact .inr ⟨b, t, hp, cell_keeps hb hc, ht.keeps hb⟩

theorem VC.made {d : Nat} {w : World} {l : List VT} {t : Value} (ht : OT d w l t) (T : Nat) : VC d (w.alloc (.cells #[t] T)) l (.pointer (some ⟨w.heap.size, 0, none⟩)) :=
  .inr ⟨w.heap.size, t, rfl, by simp, ht.keeps ((Grew.refl w).alloc _).below⟩

/-- What own tells. -/
def OwnPost (d : Nat) (l : List VT) (w : World) (e : Ending) (w' : World) : Prop := ∃ b t, e = .returned (.pointer (some ⟨b, 0, none⟩)) ∧ w'.cell? ⟨b, 0, none⟩ = some t ∧ OT d w' l t ∧ Below w.heap.size w w'

set_option maxRecDepth 100000 in
theorem vown_any (d : Nat) (l : List VT) (p : Value) (w : World) (h : VC d w l p) : Calls Try.prog 51 #[p] w (OwnPost d l w) := by
  rcases h with ⟨rfl, rfl⟩ | ⟨b, t, rfl, hc, ht⟩
  · have HE : Hid (OwnPost d [] w (.returned (.pointer (some ⟨w.heap.size, 0, none⟩))) (w.alloc (.cells #[.nilIface] 72))) := ⟨w.heap.size, .nilIface, rfl, by simp, .inl ⟨rfl, rfl⟩, ((Grew.refl w).alloc _).below⟩
    go_enter Try.func51, Try.ntmps51
    go_wp2_with fail
    go_ret
    exact HE.out
  · have HE : Hid (OwnPost d l w (.returned (.pointer (some ⟨b, 0, none⟩))) w) := ⟨b, t, rfl, hc, ht, Below.refl _ _⟩
    clear hc ht
    go_enter Try.func51, Try.ntmps51
    go_wp2_with fail
    go_ret
    exact HE.out

/-- A number is told. -/
def NumPost (n : Nat) (w : World) (e : Ending) (w' : World) : Prop := e = .returned (.int .i64 (n : Int)) ∧ Below w.heap.size w w'

set_option maxRecDepth 100000 in
theorem vlen_any (d : Nat) (l : List VT) (p : Value) (w : World) (h : VC d w l p) : Calls Try.prog 31 #[p] w (NumPost l.length w) := by
  have HO : Hid _ := vown_any d l p w h
  clear h
  go_enter Try.func31, Try.ntmps31
  go_wp2_with fail
  refine Calls.mono HO.out ?_
  rintro e w1 ⟨b, t, rfl, hc, ht, hb1⟩
  rcases ht with ⟨rfl, rfl⟩ | ht
  · have HE : Hid (NumPost ([] : List VT).length w (.returned (.int .i64 0)) w1) := ⟨rfl, hb1⟩
    clear HO
    go_wp2_with fail
    go_ret
    exact HE.out
  · obtain ⟨h, hn, _⟩ := ht
    rcases nd_size hn with ⟨b2, rfl, hcall⟩ | ⟨b2, rfl, hcall⟩
    · have HC : Hid _ := hcall w1 (Below.refl _ _)
      clear hcall hn HO
      go_wp2_with fail
      refine Calls.mono HC.out ?_
      rintro e w2 ⟨rfl, hb2⟩
      have HE : Hid (NumPost l.length w (.returned (.int .i64 l.length)) w2) := ⟨rfl, hb1.trans (hb2.mono hb1.size)⟩
      clear HC
      go_wp2_with fail
      go_ret
      exact HE.out
    · have HC : Hid _ := hcall w1 (Below.refl _ _)
      clear hcall hn HO
      go_wp2_with fail
      refine Calls.mono HC.out ?_
      rintro e w2 ⟨rfl, hb2⟩
      have HE : Hid (NumPost l.length w (.returned (.int .i64 l.length)) w2) := ⟨rfl, hb1.trans (hb2.mono hb1.size)⟩
      clear HC
      go_wp2_with fail
      go_ret
      exact HE.out

/-- A yes or no is told. -/
def BoolPost (y : Bool) (w : World) (e : Ending) (w' : World) : Prop := e = .returned (.bool y) ∧ Below w.heap.size w w'

set_option maxRecDepth 100000 in
theorem hasPlace_any (d : Nat) (l : List VT) (p : Value) (i : Int) (w : World) (h : VC d w l p) : Calls Try.prog 66 #[p, .int .i64 i] w (BoolPost (decide (0 ≤ i ∧ i < (l.length : Int))) w) := by
  have HO : Hid _ := vlen_any d l p w h
  clear h
  obtain ⟨D, hD⟩ : ∃ D, D = decide (0 ≤ i ∧ i < (l.length : Int)) := ⟨_, rfl⟩
  rw [← hD]
  have HDD : Hid (D = decide (0 ≤ i ∧ i < (l.length : Int))) := hD
  clear hD
  by_cases h0 : 0 ≤ i
  · have HD : Hid (decide (0 ≤ i ∧ i < (l.length : Int)) = decide (i < (l.length : Int))) := by show _ = _; simp [h0]
    go_enter Try.func66, Try.ntmps66
    go_wp2_with fail
    refine Calls.mono HO.out ?_
    rintro e w1 ⟨rfl, hb1⟩
    have HE : Hid (BoolPost D w (.returned (.bool (decide (i < (l.length : Int))))) w1) := ⟨by rw [HDD.out, HD.out], hb1⟩
    clear HO
    go_wp2_with fail
    go_ret
    exact HE.out
  · have HE : Hid (BoolPost D w (.returned (.bool false)) w) := ⟨by rw [HDD.out]; simp [h0], Below.refl _ _⟩
    have h0' : i < 0 := by omega
    clear HO
    go_enter Try.func66, Try.ntmps66
    go_wp2_with fail
    go_ret
    exact HE.out

set_option maxRecDepth 100000 in
theorem hasEnd_any (d : Nat) (l : List VT) (p : Value) (i : Int) (w : World) (h : VC d w l p) : Calls Try.prog 61 #[p, .int .i64 i] w (BoolPost (decide (0 ≤ i ∧ i ≤ (l.length : Int))) w) := by
  have HO : Hid _ := vlen_any d l p w h
  clear h
  obtain ⟨D, hD⟩ : ∃ D, D = decide (0 ≤ i ∧ i ≤ (l.length : Int)) := ⟨_, rfl⟩
  rw [← hD]
  have HDD : Hid (D = decide (0 ≤ i ∧ i ≤ (l.length : Int))) := hD
  clear hD
  by_cases h0 : 0 ≤ i
  · have HD : Hid (decide (0 ≤ i ∧ i ≤ (l.length : Int)) = decide (i ≤ (l.length : Int))) := by show _ = _; simp [h0]
    go_enter Try.func61, Try.ntmps61
    go_wp2_with fail
    refine Calls.mono HO.out ?_
    rintro e w1 ⟨rfl, hb1⟩
    have HE : Hid (BoolPost D w (.returned (.bool (decide (i ≤ (l.length : Int))))) w1) := ⟨by rw [HDD.out, HD.out], hb1⟩
    clear HO
    go_wp2_with fail
    go_ret
    exact HE.out
  · have HE : Hid (BoolPost D w (.returned (.bool false)) w) := ⟨by rw [HDD.out]; simp [h0], Below.refl _ _⟩
    have h0' : i < 0 := by omega
    clear HO
    go_enter Try.func61, Try.ntmps61
    go_wp2_with fail
    go_ret
    exact HE.out

/-- What Height tells: nothing of an empty one, else a height that the items bear out. -/
def HeightPost (l : List VT) (w : World) (e : Ending) (w' : World) : Prop := ∃ n : Nat, e = .returned (.int .i64 (n : Int)) ∧ (l = [] ∧ n = 0 ∨ l ≠ [] ∧ ∃ h, n = h + 1 ∧ (h = 0 ∨ 16 ^ h ≤ l.length)) ∧ Below w.heap.size w w'

set_option maxRecDepth 100000 in
theorem vheight_any (d : Nat) (l : List VT) (p : Value) (w : World) (h : VC d w l p) (hbig : l.length ≤ 1099511627776) : Calls Try.prog 29 #[p] w (HeightPost l w) := by
  have HO : Hid _ := vlen_any d l p w h
  by_cases hl : l = []
  · subst hl
    clear h
    go_enter Try.func29, Try.ntmps29
    go_wp2_with fail
    refine Calls.mono HO.out ?_
    rintro e w1 ⟨rfl, hb1⟩
    have HE : Hid (HeightPost [] w (.returned (.int .i64 0)) w1) := ⟨0, rfl, .inl ⟨rfl, rfl⟩, hb1⟩
    clear HO
    go_wp2_with fail
    go_ret
    exact HE.out
  · have hl0 : 0 < l.length := List.length_pos_iff.2 hl
    rcases h with ⟨h0, _⟩ | ⟨b, t, rfl, hc, ht⟩
    · exact absurd h0 hl
    rcases ht with ⟨h0, _⟩ | ht
    · exact absurd h0 hl
    have Hc : Hid (w.cell? ⟨b, 0, none⟩ = some t) := hc
    obtain ⟨h, hn, hh⟩ := ht
    have hle : h ≤ 1000 := by
      rcases hh with rfl | hh
      · omega
      · have := pow_low hh hbig; omega
    have HH : Hid (∀ V, Below w.heap.size w V → Calls Try.prog 50 #[t] V fun e w' => e = .returned (.int .i64 ((h + 1 : Nat) : Int)) ∧ w' = V) := fun V hV => height_any d h false l t V (hn.keeps hV _ _ _ _) hle
    have hli : ¬ (((l.length : Nat) : Int) = 0) := by omega
    have Hh : Hid (h = 0 ∨ 16 ^ h ≤ l.length) := hh
    have Hl : Hid (l ≠ []) := hl
    clear hn hc hh
    go_enter Try.func29, Try.ntmps29
    go_wp2_with fail
    refine Calls.mono HO.out ?_
    rintro e w1 ⟨rfl, hb1⟩
    have hc := cell_keeps hb1 Hc.out
    clear HO
    go_wp2_with fail
    refine (HH.out _ hb1).mono ?_
    rintro e w2 ⟨rfl, hw⟩
    replace hw := hw.symm
    subst hw
    have HE : Hid (HeightPost l w (.returned (.int .i64 ((h + 1 : Nat) : Int))) w1) := ⟨h + 1, rfl, .inr ⟨Hl.out, h, rfl, Hh.out⟩, hb1⟩
    clear HH
    go_wp2_with fail
    go_ret
    exact HE.out

/-- A vector is told, or an error alone. -/
def VecPost (d : Nat) (r : List VT ⊕ Nat) (w : World) (e : Ending) (w' : World) : Prop :=
  Below w.heap.size w w' ∧ match r with
  | .inl l => ∃ b, e = .returned (.tuple #[.pointer (some ⟨b, 0, none⟩), .int .i64 0]) ∧ VC d w' l (.pointer (some ⟨b, 0, none⟩))
  | .inr n => e = .returned (.tuple #[.pointer none, .int .i64 (n : Int)])

set_option maxRecDepth 100000 in
set_option maxHeartbeats 4000000 in
theorem vfirst_any (d : Nat) (l : List VT) (p : Value) (i : Int) (w : World) (h : VC d w l p) (hbig : l.length ≤ 1099511627776) : Calls Try.prog 39 #[p, .int .i64 i] w (VecPost d (if 0 ≤ i ∧ i ≤ (l.length : Int) then .inl (l.take i.toNat) else .inr 5) w) := by
  have HO : Hid _ := hasEnd_any d l p i w h
  by_cases hi : 0 ≤ i ∧ i ≤ (l.length : Int)
  · rw [if_pos hi]
    rw [decide_eq_true hi] at HO
    obtain ⟨n, rfl⟩ := Int.eq_ofNat_of_zero_le hi.1
    have hn : n ≤ l.length := by omega
    rw [Int.toNat_natCast]
    have HW : Hid (∀ V, Below w.heap.size w V → Calls Try.prog 51 #[p] V (OwnPost d l V)) := fun V hV => vown_any d l p V (h.keeps hV)
    have HF : Hid (∀ V t, OT d V l t → Calls Try.prog 62 #[t, .int .i64 (n : Int)] V (JoinPost d (l.take n) V)) := fun V t ht => first_any d l t n V ht hn hbig
    clear h hi hn hbig
    go_enter Try.func39, Try.ntmps39
    go_wp2_with fail
    refine Calls.mono HO.out ?_
    rintro e w1 ⟨rfl, hb1⟩
    clear HO
    go_wp2_with fail
    refine (HW.out _ hb1).mono ?_
    rintro e w2 ⟨b, t, rfl, hc, ht, hb2⟩
    have hbw : Below w.heap.size w w2 := hb1.trans (hb2.mono hb1.size)
    have HC : Hid _ := HF.out w2 t ht
    clear HF HW ht
    go_wp2_with fail
    refine Calls.mono HC.out ?_
    rintro e w3 ⟨v3, rfl, ht3, hb3⟩
    have hbx : Below w.heap.size w w3 := hbw.trans (hb3.mono hbw.size)
    have HE : Hid (VecPost d (.inl (l.take n)) w (.returned (.tuple #[.pointer (some ⟨w3.heap.size, 0, none⟩), .int .i64 0])) (w3.alloc (.cells #[v3] 72))) := ⟨hbx.alloc hbx.size _, w3.heap.size, rfl, VC.made ht3 _⟩
    have hone : v3.oneCell' = true := by
      rcases ht3 with ⟨_, rfl⟩ | ⟨h, hn, _⟩
      · rfl
      · exact nd_one hn
    obtain hv3 | ⟨T, q, hv3⟩ : v3 = .nilIface ∨ ∃ T q, v3 = .iface T q := by
      rcases ht3 with ⟨_, h⟩ | ⟨h, hn, _⟩
      · exact .inl h
      · exact .inr (nd_iface hn)
    · subst hv3
      clear ht3 HC
      go_wp2_with fail
      go_ret2
      exact HE.out
    · subst hv3
      clear ht3 HC
      go_wp2_with fail
      go_ret2
      exact HE.out
  · rw [if_neg hi]
    rw [decide_eq_false hi] at HO
    clear h hi hbig
    go_enter Try.func39, Try.ntmps39
    go_wp2_with fail
    refine Calls.mono HO.out ?_
    rintro e w1 ⟨rfl, hb1⟩
    have HE : Hid (VecPost d (.inr 5) w (.returned (.tuple #[.pointer none, .int .i64 5])) w1) := ⟨hb1, rfl⟩
    clear HO
    go_wp2_with fail
    go_ret2
    exact HE.out

end Go.Proofs.Ytpnfmcmhcjekfab

namespace Go.Proofs.Ytpnfmcmhcjekfab
open Go.RowKit

/-- What High tells. -/
def HighPost (n : Nat) (w : World) (e : Ending) (w' : World) : Prop := (∃ j : Nat, e = .returned (.int .i64 ((j / 4 + 3 : Nat) : Int)) ∧ 2 ^ j ≤ n ∧ n < 2 ^ (j + 1)) ∧ w' = w

set_option maxRecDepth 100000 in
set_option maxHeartbeats 4000000 in
theorem high_any (n : Nat) (w : World) (h1 : 0 < n) (h2 : n ≤ 65536) : Calls Try.prog 30 #[.int .i64 (n : Int)] w (HighPost n w) := by
  have hn0 : ¬ ((n : Nat) : Int) = 0 := by omega
  go_enter Try.func30, Try.ntmps30
  go_wp2_with fail
  go_loopg [3] 17 (fun z vi wr => ∃ (j : Nat), vi = .int .i64 (j : Int) ∧ j ≤ 16 ∧ z = 17 - j ∧ Hid (2 ^ j ≤ n) ∧ wr = w)
  case atStart => exact ⟨0, rfl, by omega, by omega, by show 2 ^ 0 ≤ n; omega, rfl⟩
  case round =>
    obtain ⟨j, rfl, hj, hk, HJ, rfl⟩ := hrel
    have Hk : Hid _ := hk
    clear hk
    obtain ⟨j1, hj1⟩ : ∃ j1, j1 = j + 1 := ⟨_, rfl⟩
    have Hj1 : Hid (j1 = j + 1) := hj1
    have hw1 : IntKind.i64.wrap ((j : Nat) + 1 : Int) = (j1 : Int) := by rw [IntKind.wrap_i64]; omega
    clear hj1
    have hu : IntKind.u64.wrap ((j1 : Nat) : Int) = (j1 : Int) := by rw [IntKind.wrap_u64]; have := Hj1.out; omega
    have hm : min (IntKind.u64.wrap ((j1 : Nat) : Int)).toNat 64 = j1 := by rw [hu]; have := Hj1.out; omega
    by_cases hc : n < 2 ^ j1
    · have hq : (n : Int) / 2 ^ min (IntKind.u64.wrap ((j1 : Nat) : Int)).toNat 64 = 0 := by
        rw [hm]
        have : ((2 : Int) ^ j1) = ((2 ^ j1 : Nat) : Int) := by simp
        rw [this]
        exact Int.ediv_eq_zero_of_lt (by omega) (by exact_mod_cast hc)
      have HE : Hid (HighPost n wr (.returned (.int .i64 ((j : Int) / 4 + 3))) wr) := ⟨⟨j, by simp, HJ.out, by rw [← Hj1.out]; exact hc⟩, rfl⟩
      rw [hm] at hq
      clear hm hc
      have hm2 : min j1 64 = j1 := by have := Hj1.out; omega
      go_wp2_with fail
      go_ret
      exact HE.out
    · obtain ⟨q, hq0⟩ : ∃ q, q = (n : Int) / 2 ^ j1 := ⟨_, rfl⟩
      have hq : (n : Int) / 2 ^ j1 = q := hq0.symm
      have hqp : 0 < q := by
        have e : ((2 : Int) ^ j1) = ((2 ^ j1 : Nat) : Int) := by simp
        rw [hq0, e]
        have hp : 0 < 2 ^ j1 := Nat.pos_of_ne_zero (by simp)
        have h9 : 0 < n / 2 ^ j1 := Nat.div_pos (by omega) hp
        rw [← Int.natCast_ediv]
        omega
      have hj16 : j1 ≤ 16 := by
        refine Nat.le_of_not_lt fun hlt => ?_
        have h9 : 2 ^ 17 ≤ 2 ^ j1 := Nat.pow_le_pow_right (by omega) hlt
        have e9 : (2 : Nat) ^ 17 = 131072 := by decide
        omega
      have HJ1 : Hid (2 ^ j1 ≤ n) := by show _ ≤ _; omega
      have hm2 : min j1 64 = j1 := by omega
      clear hm hc hq0 HJ
      go_wp2_with fail
      go_roundg (17 - j1)
      case measure => have := Hk.out; have := Hj1.out; omega
      case rel => exact ⟨j1, rfl, hj16, rfl, HJ1, rfl⟩

theorem high_zero (w : World) : Calls Try.prog 30 #[.int .i64 0] w fun e w' => e = .returned (.int .i64 0) ∧ w' = w := by
  go_enter Try.func30, Try.ntmps30
  go_wp2_with fail
  go_ret
  exact ⟨rfl, rfl⟩

/-- A height that the items bear out is no greater than the document allows. -/
theorem height_low (n h j : Nat) (hh : h = 0 ∨ 16 ^ h ≤ n) (hj : n < 2 ^ (j + 1)) : h + 1 ≤ j / 4 + 3 := by
  rcases hh with rfl | hh
  · omega
  · have e : (16 : Nat) ^ h = 2 ^ (4 * h) := by rw [Nat.pow_mul]
    have h1 : 2 ^ (4 * h) < 2 ^ (j + 1) := by omega
    have h2 := (Nat.pow_lt_pow_iff_right (by omega : 1 < 2)).1 h1
    omega

end Go.Proofs.Ytpnfmcmhcjekfab

namespace Go.Proofs.Ytpnfmcmhcjekfab
open Go.RowKit

theorem take_flat (vs : List (List VT × Value)) (j : Nat) (hj : j < vs.length) : (vs.take (j + 1)).flatMap (·.1) = (vs.take j).flatMap (·.1) ++ (vs[j]'hj).1 := by
  rw [List.take_succ_eq_append_getElem hj, List.flatMap_append]; simp

theorem OT.shape {d : Nat} {w : World} {l : List VT} {v : Value} (h : OT d w l v) : v = .nilIface ∨ ∃ T q, v = .iface T q := by
  rcases h with ⟨_, h⟩ | ⟨h, hn, _⟩
  · exact .inl h
  · exact .inr (nd_iface hn)

/-- Vectors joined. -/
def joinR (vs : List (List VT × Value)) : List VT ⊕ Nat := if (vs.flatMap (·.1)).length ≤ 65536 then .inl (vs.flatMap (·.1)) else .inr 2

theorem joinR_long (vs : List (List VT × Value)) (j : Nat) (h : 65536 < ((vs.take j).flatMap (·.1)).length) : joinR vs = .inr 2 := by
  unfold joinR
  rw [if_neg]
  have e : vs.flatMap (·.1) = (vs.take j).flatMap (·.1) ++ (vs.drop j).flatMap (·.1) := by rw [← List.flatMap_append, List.take_append_drop]
  rw [e, List.length_append]
  omega

set_option maxRecDepth 100000 in
set_option maxHeartbeats 8000000 in
theorem join_any (d : Nat) (vs : List (List VT × Value)) (u : Value) (w : World) (hu : SlV w (vs.map (·.2)) u) (h1 : 1 ≤ vs.length) (h2 : vs.length ≤ 65536) (hv : ∀ (i : Nat) (hi : i < vs.length), VC d w (vs[i]'hi).1 (vs[i]'hi).2 ∧ (vs[i]'hi).1.length ≤ 65536) :
    Calls Try.prog 47 #[u] w (VecPost d (joinR vs) w) := by
  obtain ⟨b0, o0, c0, hue, hc0, hcs⟩ := hu.full (fun e => by have := congrArg List.length e; rw [List.length_map, List.length_nil] at this; omega)
  rw [List.length_map] at hue hc0
  subst hue
  have Hcs : Hid (∀ (i : Nat) (hi : i < vs.length), w.cell? ⟨b0, o0 + i, none⟩ = some (vs[i]'hi).2) := fun i hi => by
    have := hcs i (by rw [List.length_map]; exact hi)
    rwa [List.getElem_map] at this
  have Hv : Hid (∀ (i : Nat) (hi : i < vs.length), VC d w (vs[i]'hi).1 (vs[i]'hi).2 ∧ (vs[i]'hi).1.length ≤ 65536) := hv
  obtain ⟨L, hL⟩ : ∃ L, L = vs.length := ⟨_, rfl⟩
  have HL : Hid (L = vs.length) := hL
  rw [← hL] at h1 h2 hc0 ⊢
  obtain ⟨R, hR⟩ : ∃ R, R = joinR vs := ⟨_, rfl⟩
  rw [← hR]
  have HR : Hid (R = joinR vs) := hR
  clear hu hcs hv hL hR
  go_enter Try.func47, Try.ntmps47
  go_wp2_with fail
  go_loopg [12, 4] L (fun z vi vn wr => ∃ (j S : Nat), vi = .int .i64 (j : Int) ∧ vn = .int .i64 (S : Int) ∧ j ≤ L ∧ z = L - j ∧ S ≤ 65536 ∧ Hid (S = ((vs.take j).flatMap (·.1)).length) ∧ Below w.heap.size w wr)
  case atStart => exact ⟨0, 0, rfl, rfl, by omega, by omega, by omega, by show _ = _; simp, Below.refl _ _⟩
  case round =>
    obtain ⟨j, S, rfl, rfl, hj, hk, hS, HS, hbw⟩ := hrel
    have Hk : Hid _ := hk
    clear hk
    by_cases hlt : j < L
    · have hji : (j : Int) < (L : Nat) := by omega
      have hjv : j < vs.length := by have := HL.out; omega
      have pj := cell_keeps hbw (Hcs.out j hjv)
      have hbl : b0 < wr.heap.size := cell_lt pj
      obtain ⟨q1, q2⟩ := Hv.out j hjv
      have HCl : Hid _ := vlen_any d _ _ wr (q1.keeps hbw)
      obtain ⟨S2, hS2⟩ : ∃ S2, S2 = S + (vs[j]'hjv).1.length := ⟨_, rfl⟩
      have HS2 : Hid (S2 = ((vs.take (j + 1)).flatMap (·.1)).length) := by show _ = _; rw [hS2, HS.out, take_flat vs j hjv, List.length_append]
      have hwS : IntKind.i64.wrap ((S : Int) + (((vs[j]'hjv).1.length : Nat) : Int)) = (S2 : Int) := by rw [IntKind.wrap_i64]; omega
      generalize (vs[j]'hjv).1.length = n at *
      generalize (vs[j]'hjv).2 = vj at *
      clear hS2 q1
      go_wp2_with fail
      refine Calls.mono HCl.out ?_
      rintro e w1 ⟨rfl, hg⟩
      have hbw1 : Below w.heap.size w w1 := hbw.trans (hg.mono hbw.size)
      clear HCl hg
      by_cases hbig : 65536 < S2
      · have hbi : (65536 : Int) < (S2 : Nat) := by omega
        have HE : Hid (VecPost d R w (.returned (.tuple #[.pointer none, .int .i64 2])) w1) := by
          show VecPost _ _ _ _ _
          rw [HR.out, joinR_long vs (j + 1) (by rw [← HS2.out]; exact hbig)]
          exact ⟨hbw1, rfl⟩
        go_wp2_with fail
        go_ret2
        exact HE.out
      · have hbi : ¬ (65536 : Int) < (S2 : Nat) := by omega
        go_wp2_with fail
        go_roundg (L - (j + 1))
        case measure => have := Hk.out; omega
        case rel => exact ⟨j + 1, S2, by go_num, rfl, by omega, rfl, by omega, HS2, hbw1⟩
    · have hji : ¬ (j : Int) < (L : Nat) := by omega
      have hjL : j = L := by omega
      have HAll : Hid (S = (vs.flatMap (·.1)).length) := by
        show _ = _
        rw [HS.out, List.take_of_length_le (by have := HL.out; omega)]
      clear hlt hj Hk HS hjL
      go_wp2_with fail
      go_loopg [25, 7] L (fun z vi t wq => ∃ (i : Nat), vi = .int .i64 (i : Int) ∧ i ≤ L ∧ z = L - i ∧ Hid (OT d wq ((vs.take i).flatMap (·.1)) t) ∧ Below w.heap.size w wq)
      case atStart => exact ⟨0, rfl, by omega, by omega, .inl ⟨by simp, rfl⟩, hbw⟩
      case round =>
        obtain ⟨i, rfl, hi, hk, HT, hbq⟩ := hrel
        have Hk : Hid _ := hk
        clear hk
        by_cases hlt : i < L
        · have hii : (i : Int) < (L : Nat) := by omega
          have hiv : i < vs.length := by have := HL.out; omega
          have pj := cell_keeps hbq (Hcs.out i hiv)
          have hbl : b0 < wr.heap.size := cell_lt pj
          obtain ⟨q1, q2⟩ := Hv.out i hiv
          have HCl : Hid _ := vown_any d _ _ wr (q1.keeps hbq)
          have Htf : Hid ((vs.take (i + 1)).flatMap (·.1) = (vs.take i).flatMap (·.1) ++ (vs[i]'hiv).1) := take_flat vs i hiv
          have Hsm : Hid (((vs.take i).flatMap (·.1)).length + (vs[i]'hiv).1.length ≤ 1099511627776) := by
            have e : vs.flatMap (·.1) = (vs.take (i + 1)).flatMap (·.1) ++ (vs.drop (i + 1)).flatMap (·.1) := by rw [← List.flatMap_append, List.take_append_drop]
            have h9 := HAll.out
            rw [e, List.length_append, take_flat vs i hiv, List.length_append] at h9
            show _ ≤ _
            omega
          generalize (vs[i]'hiv).1 = li at *
          generalize (vs[i]'hiv).2 = vi at *
          clear q1
          go_wp2_with fail
          refine Calls.mono HCl.out ?_
          rintro e w1 ⟨b1, t1, rfl, hc1, ht1, hg⟩
          have hbw1 : Below w.heap.size w w1 := hbq.trans (hg.mono hbq.size)
          have HJ : Hid _ := joined_any d _ _ _ t1 w1 (HT.out.keeps hg) ht1 Hsm.out
          clear HCl hg ht1
          go_wp2_with fail
          refine Calls.mono HJ.out ?_
          rintro e w2 ⟨v2, rfl, ht2, hg2⟩
          have hbw2 : Below w.heap.size w w2 := hbw1.trans (hg2.mono hbw1.size)
          have HT2 : Hid (OT d w2 ((vs.take (i + 1)).flatMap (·.1)) v2) := by show OT _ _ _ _; rw [Htf.out]; exact ht2
          clear HJ ht2 hg2 HT
          go_wp2_with fail
          go_roundg (L - (i + 1))
          case measure => have := Hk.out; omega
          case rel => exact ⟨i + 1, by go_num, by omega, rfl, HT2, hbw2⟩
        · have hii : ¬ (i : Int) < (L : Nat) := by omega
          have HE : Hid (VecPost d R w (.returned (.tuple #[.pointer (some ⟨wr.heap.size, 0, none⟩), .int .i64 0])) (wr.alloc (.cells #[u7] 72))) := by
            show VecPost _ _ _ _ _
            have h9 := HAll.out
            have e9 : R = .inl (vs.flatMap (·.1)) := by rw [HR.out]; unfold joinR; rw [if_pos (by omega)]
            rw [e9]
            have ht := HT.out
            rw [List.take_of_length_le (by have := HL.out; omega)] at ht
            exact ⟨hbq.alloc hbq.size _, wr.heap.size, rfl, VC.made ht _⟩
          rcases HT.out.shape with hz | ⟨T, q, hz⟩
          · subst hz
            clear HT
            go_wp2_with fail
            go_ret2
            exact HE.out
          · subst hz
            clear HT
            go_wp2_with fail
            go_ret2
            exact HE.out

end Go.Proofs.Ytpnfmcmhcjekfab

