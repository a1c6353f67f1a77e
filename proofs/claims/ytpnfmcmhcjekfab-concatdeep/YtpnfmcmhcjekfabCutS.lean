/-
  Two rows made side by side in a region that draws its order.
-/
import Derived.Test.YtpnfmcmhcjekfabAppSeq
import Derived.Deep.RegionHeld3
import Derived.Test.YtpnfmcmhcjekfabPopX
import Derived.BigRegion
import Derived.Test.YtpnfmcmhcjekfabUtf
import Derived.Test.YtpnfmcmhcjekfabJoinV
import Derived.Test.YtpnfmcmhcjekfabVals
import Derived.Deep.AppendLies
import Derived.Deep.RegionLaw
namespace Go.Proofs.Ytpnfmcmhcjekfab
open Go.RowKit Go.Shelf

set_option maxRecDepth 100000 in
theorem vfrom_any (p : Option Addr) (i : Int) (w : World) : Calls Try.prog 80 #[.pointer p, .int .i64 i] w fun e w' => e = .returned (.func (.func 91) #[] #[.pointer (some ⟨w.heap.size, 0, none⟩), .pointer (some ⟨w.heap.size + 1, 0, none⟩)]) ∧ w' = (w.alloc (.cells #[.pointer p] 23)).alloc (.cells #[.int .i64 i] 3) := by
  go_enter Try.func80, Try.ntmps80
  go_wp2_with fail
  go_ret
  exact ⟨rfl, rfl⟩

/-- What kept tells: the items as they lie, in a list of their own. -/
def KeptPost (d : Nat) (l : List VT) (w : World) (e : Ending) (w' : World) : Prop := ∃ v, e = .returned v ∧ (∃ ps : List (VT × Value), ps.map (·.1) = l ∧ w'.ownsRow w.heap.size 38 4 v ps.length (ps.flatMap encP) ∧ ∀ p ∈ ps, Sound d w p) ∧ Below w.heap.size w w'

set_option maxRecDepth 100000 in
set_option maxHeartbeats 8000000 in
theorem kept_any (d : Nat) (l : List VT) (p : Value) (w : World) (h : VC d w l p) (hbig : l.length ≤ 65536) : Calls Try.prog 60 #[p] w (KeptPost d l w) := by
  obtain ⟨qs, hq1, hst⟩ := from_stops d w (fun _ => True) l p 0 h (fun _ _ => trivial) (by omega)
  have hql : qs.length ≤ 65536 := by
    have := congrArg List.length hq1
    rw [List.length_map] at this
    rw [this]
    unfold fromL
    split
    · rw [List.length_drop]; omega
    · simp
  have hq2 : qs.map (·.1.1) = l := by
    rw [hq1]
    unfold fromL
    by_cases h0 : (0 : Int) ≤ 0 ∧ (0 : Int) < (l.length : Int)
    · rw [if_pos h0]; simp
    · rw [if_neg h0]
      exact (List.eq_nil_of_length_eq_zero (by omega)).symm
  obtain ⟨i0, hi, hz0, hz1, hz2⟩ := infoV
  obtain ⟨L, hL⟩ : ∃ L, L = l.length := ⟨_, rfl⟩
  obtain ⟨M, hM⟩ : ∃ M, M = madeCells (Value.agg #[.int .i64 0, .int .i64 0, .string ⟨#[]⟩, .slice none 0 0]).cells (((L : Nat) : Int).toNat * i0.size) := ⟨_, rfl⟩
  have hMs : M.size = L * 4 := by rw [hM, size_madeCells, hz1]; simp
  have hmk : ∀ W : World, (Instr.makeSlice 22 (.int .i64 0) (.int .i64 (L : Int))).run Try.prog W = .ok (.slice (some ⟨W.heap.size, 0, none⟩) 0 L) (W.alloc (.cells M 38)) := fun W => by
    have h := run_make (P := Try.prog) W 22 38 i0 _ Try.underlying22 hi hz0 .i64 .i64 0 (L : Int) (by omega) (by omega) (by rw [hz2]; omega) (by omega)
    rw [← hM] at h
    simpa using h
  obtain ⟨po, rfl⟩ := h.shape
  have HLen : Hid (∀ V, Below w.heap.size w V → Calls Try.prog 31 #[.pointer po] V (NumPost L V)) := fun V hV => by
    rw [hL]; exact vlen_any d l _ V (h.keeps hV)
  have HApp : Hid (∀ (V : World) (g Bv Bp : Nat), Below w.heap.size w V → V.ownsRow w.heap.size 38 4 (.slice (some ⟨g, 0, none⟩) 0 L) 0 [] → Bv < V.heap.size → Bp < V.heap.size → V.cell? ⟨Bv, 0, none⟩ = some (.pointer po) → V.cell? ⟨Bp, 0, none⟩ = some (.int .i64 0) →
      Calls Try.prog 79 #[.slice (some ⟨g, 0, none⟩) 0 L, .func (.func 91) #[] #[.pointer (some ⟨Bv, 0, none⟩), .pointer (some ⟨Bp, 0, none⟩)]] V (KeptPost d l w)) := fun V g Bv Bp hV hrow hlv hlp hv hp => by
    refine (appendSeq_any d w (fun _ => True) qs hql _ _ V hV hrow (fun W hW => hst 5 Bv Bp W (hV.trans (hW.mono hV.size)) (Nat.lt_of_lt_of_le hlv hW.size) (Nat.lt_of_lt_of_le hlp hW.size) (cell_keeps hW hv) (cell_keeps hW hp))).mono ?_
    rintro e w' ⟨v, rfl, ho, hb⟩
    refine ⟨v, rfl, ⟨qs.map (·.1), by rw [List.map_map]; exact hq2, by rw [List.length_map, List.flatMap_map]; exact ho, fun p hp => ?_⟩, hV.trans hb⟩
    obtain ⟨q, _, rfl⟩ := List.mem_map.1 hp
    exact q.2.1
  have HMd : Hid (∀ (V : World), Below w.heap.size w V → (V.alloc (.cells M 38)).ownsRow w.heap.size 38 4 (.slice (some ⟨V.heap.size, 0, none⟩) 0 L) 0 []) := fun V hV => World.ownsRow_made V M L hV.size (by unfold maxLen; omega) hMs
  have cell1 : ∀ (V : World) (x y z : Obj) (i : Value) (T : Nat), x = .cells #[i] T → ((V.alloc x).alloc y).cell? ⟨V.heap.size, 0, none⟩ = some i ∧ (((V.alloc x).alloc y).alloc z).cell? ⟨V.heap.size, 0, none⟩ = some i := fun V x y z i T e => by
    subst e
    have h1 := (Go.Boxed.new V T i).alloc y
    exact ⟨h1.cell, (h1.alloc z).cell⟩
  have HA : Hid (∀ V, Below w.heap.size w V → Below w.heap.size w (((V.alloc (.cells M 38)).alloc (.cells #[.pointer po] 23)).alloc (.cells #[.int .i64 0] 3)) ∧ (((V.alloc (.cells M 38)).alloc (.cells #[.pointer po] 23)).alloc (.cells #[.int .i64 0] 3)).ownsRow w.heap.size 38 4 (.slice (some ⟨V.heap.size, 0, none⟩) 0 L) 0 [] ∧ V.heap.size + 1 < (((V.alloc (.cells M 38)).alloc (.cells #[.pointer po] 23)).alloc (.cells #[.int .i64 0] 3)).heap.size ∧ V.heap.size + 1 + 1 < (((V.alloc (.cells M 38)).alloc (.cells #[.pointer po] 23)).alloc (.cells #[.int .i64 0] 3)).heap.size ∧
      (((V.alloc (.cells M 38)).alloc (.cells #[.pointer po] 23)).alloc (.cells #[.int .i64 0] 3)).cell? ⟨V.heap.size + 1, 0, none⟩ = some (.pointer po) ∧ (((V.alloc (.cells M 38)).alloc (.cells #[.pointer po] 23)).alloc (.cells #[.int .i64 0] 3)).cell? ⟨V.heap.size + 1 + 1, 0, none⟩ = some (.int .i64 0)) := fun V hV => by
    refine ⟨((hV.alloc hV.size _).alloc (by simp; have := hV.size; omega) _).alloc (by simp; have := hV.size; omega) _, ((HMd.out _ hV).alloc _).alloc _, by simp, by simp, ?_, ?_⟩
    · have h1 := (cell1 (V.alloc (.cells M 38)) _ (.cells #[.int .i64 0] 3) (.cells #[.int .i64 0] 3) (.pointer po) 23 rfl).1
      rwa [World.size_alloc] at h1
    · have h1 := (Go.Boxed.new ((V.alloc (.cells M 38)).alloc (.cells #[.pointer po] 23)) 3 (.int .i64 0)).cell
      rwa [World.size_alloc, World.size_alloc] at h1
  have HB : Hid (∀ V, Below w.heap.size w V → Below w.heap.size w (((V.alloc (.cells #[.pointer po] 23)).alloc (.cells #[.int .i64 0] 3)).alloc (.cells M 38)) ∧ (((V.alloc (.cells #[.pointer po] 23)).alloc (.cells #[.int .i64 0] 3)).alloc (.cells M 38)).ownsRow w.heap.size 38 4 (.slice (some ⟨V.heap.size + 1 + 1, 0, none⟩) 0 L) 0 [] ∧ V.heap.size < (((V.alloc (.cells #[.pointer po] 23)).alloc (.cells #[.int .i64 0] 3)).alloc (.cells M 38)).heap.size ∧ V.heap.size + 1 < (((V.alloc (.cells #[.pointer po] 23)).alloc (.cells #[.int .i64 0] 3)).alloc (.cells M 38)).heap.size ∧
      (((V.alloc (.cells #[.pointer po] 23)).alloc (.cells #[.int .i64 0] 3)).alloc (.cells M 38)).cell? ⟨V.heap.size, 0, none⟩ = some (.pointer po) ∧ (((V.alloc (.cells #[.pointer po] 23)).alloc (.cells #[.int .i64 0] 3)).alloc (.cells M 38)).cell? ⟨V.heap.size + 1, 0, none⟩ = some (.int .i64 0)) := fun V hV => by
    refine ⟨((hV.alloc hV.size _).alloc (by simp; have := hV.size; omega) _).alloc (by simp; have := hV.size; omega) _, ?_, (by first | (simp; done) | (simp; omega)), (by first | (simp; done) | (simp; omega)), (cell1 V _ _ _ _ _ rfl).2, ?_⟩
    · have h1 := HMd.out _ ((hV.alloc hV.size (.cells #[.pointer po] 23)).alloc (by simp; have := hV.size; omega) (.cells #[.int .i64 0] 3))
      rwa [World.size_alloc, World.size_alloc] at h1
    · have h1 := (cell1 (V.alloc (.cells #[.pointer po] 23)) _ (.cells M 38) (.cells M 38) (.int .i64 0) 3 rfl).1
      rwa [World.size_alloc] at h1
  clear cell1 hst hq1 hq2 hql hM hMs hi hz0 hz1 hz2 h hL
  go_enter Try.func60, Try.ntmps60
  go_wp2_with fail
  go_region_held3 (fun _ => True) (first | trivial | go_keep)
    (first
      | (go_at_call 80; refine (vfrom_any _ _ _).mono ?_; rintro e w3 ⟨rfl, rfl⟩)
      | (go_at_call 31; refine (HLen.out _ (Below.refl _ _).drew).mono ?_; rintro e w1 ⟨rfl, hb1'⟩; have hb1 : Below w.heap.size w w1 := (Below.refl _ _).drew.trans hb1'; clear hb1')
      | (go_at_call 79
         refine (HApp.out _ _ _ _ (by first | exact (HA.out w1 hb1).1 | exact (HB.out w1 hb1).1) (by first | exact (HA.out w1 hb1).2.1 | exact (HB.out w1 hb1).2.1) (by first | exact (HA.out w1 hb1).2.2.1 | exact (HB.out w1 hb1).2.2.1) (by first | exact (HA.out w1 hb1).2.2.2.1 | exact (HB.out w1 hb1).2.2.2.1) (by first | exact (HA.out w1 hb1).2.2.2.2.1 | exact (HB.out w1 hb1).2.2.2.2.1) (by first | exact (HA.out w1 hb1).2.2.2.2.2 | exact (HB.out w1 hb1).2.2.2.2.2)).mono ?_
         rintro e w4 ⟨v4, rfl, hx⟩
         have HE : Hid (KeptPost d l w (.returned v4) w4) := ⟨v4, rfl, hx⟩
         clear hx))
  all_goals (first | (go_ret; exact HE.out) | (go_wp2_with fail; go_ret; exact HE.out))

theorem KeptPost.lies {d : Nat} {l : List VT} {w : World} {e : Ending} {w' : World} (h : KeptPost d l w e w') (hbig : l.length ≤ 65536) : ∃ v, e = .returned v ∧ Lies (d + 1) w' l v ∧ Below w.heap.size w w' := by
  obtain ⟨v, rfl, ⟨ps, rfl, hown, hsd⟩, hb⟩ := h
  exact ⟨v, rfl, own_lies rfl hown (fun p hp => (hsd p hp).keeps hb) (by rw [List.length_map] at hbig; omega), hb⟩

/-- What Items tells: new lists throughout. -/
def ItemsPost (l : List VT) (w : World) (e : Ending) (w' : World) : Prop := ∃ v, e = .returned v ∧ LiesB w.heap.size 17 w' l v ∧ Below w.heap.size w w'

theorem LiesB.mono {b b' : Nat} (hb : b' ≤ b) {w : World} : ∀ (d : Nat) (l : List VT) (v : Value), LiesB b d w l v → LiesB b' d w l v := by
  intro d
  induction d with
  | zero => intro l v h; exact h
  | succ d ih =>
    intro l v h
    obtain ⟨a, c, e, h1, hr⟩ := h
    refine ⟨a, c, e, h1, fun hne => ?_⟩
    obtain ⟨bb, o, ha, hbb, h2, hall⟩ := hr hne
    refine ⟨bb, o, ha, by omega, h2, fun i hi => ?_⟩
    obtain ⟨u, c0, c1, c2, c3, hL, hs⟩ := hall i hi
    exact ⟨u, c0, c1, c2, c3, ih _ _ hL, hs⟩

set_option maxRecDepth 100000 in
set_option maxHeartbeats 4000000 in
theorem items_any (l : List VT) (p : Value) (w : World) (h : VC 16 w l p) (hbig : l.length ≤ 65536) (hR : l.all (rightV 16) = true) : Calls Try.prog 38 #[p] w (ItemsPost l w) := by
  obtain ⟨po, rfl⟩ := h.shape
  have HK : Hid (Calls Try.prog 60 #[.pointer po] w fun e w' => ∃ v, e = .returned v ∧ Lies 17 w' l v ∧ Below w.heap.size w w') := Calls.mono (kept_any 16 l _ w h hbig) (fun e w' h => h.lies hbig)
  have HC : Hid (∀ (V : World) (v : Value), Lies 17 V l v → Calls Try.prog 35 #[v] V fun e w' => ∃ u, e = .returned u ∧ LiesB V.heap.size 17 w' l u ∧ Below V.heap.size V w') := fun V v hv => copyAll_core 16 l v V hv hbig (fun x u W hx hu _ => copyR x u W hu (List.all_eq_true.1 hR x hx))
  clear h hR hbig
  go_enter Try.func38, Try.ntmps38
  go_wp2_with fail
  refine Calls.mono HK.out ?_
  rintro e w1 ⟨v1, rfl, hv1, hb1⟩
  obtain ⟨a1, c1, rfl, _⟩ := Lies.slice hv1
  have HC1 : Hid _ := HC.out w1 _ hv1
  clear hv1 HK HC
  go_wp2_with fail
  refine Calls.mono HC1.out ?_
  rintro e w2 ⟨v2, rfl, hv2, hb2⟩
  have HE : Hid (ItemsPost l w (.returned v2) w2) := ⟨v2, rfl, LiesB.mono hb1.size _ _ _ hv2, hb1.trans (hb2.mono hb1.size)⟩
  obtain ⟨a2, c2, rfl, _⟩ := Lies.slice (LiesB.lies _ _ _ hv2)
  clear hv2 HC1
  go_wp2_with fail
  go_ret
  exact HE.out

end Go.Proofs.Ytpnfmcmhcjekfab

namespace Go.Proofs.Ytpnfmcmhcjekfab
open Go.RowKit

/-- Is the value right, read to whatever depth it lies in? -/
def ofN (n : Nat) (l : List VT) : List VT ⊕ Nat := if 65536 < l.length then .inr 2 else if l.all (rightV n) then .inl l else .inr 3
theorem canonL {w : World} {n : Nat} {l : List VT} {u : Value} (h : Lies (n + 1) w l u) (hr : l.all (rightV n) = true) : Lies 17 w l u ∧ l.all (rightV 16) = true := by
  have hall : ∀ x ∈ l, Dp 16 x ∧ rightV 16 x = true := fun x hx => by
    obtain ⟨a, c, e, _, hr1⟩ := h
    obtain ⟨i, hi, rfl⟩ := List.getElem_of_mem hx
    obtain ⟨b, o, ha, hrow⟩ := hr1 (fun e => by rw [e] at hi; cases hi)
    obtain ⟨v, _, _, _, _, hL, _⟩ := hrow i hi
    have hd := Dp.of_lies n w _ v hL
    have hrx := List.all_eq_true.1 hr _ (List.getElem_mem hi)
    exact ⟨right_deep hrx hd, (canon hL hrx).2⟩
  exact ⟨Lies.lower 17 (n + 1) l u h (by omega) (fun x hx => (hall x hx).1), List.all_eq_true.2 fun x hx => (hall x hx).2⟩

set_option maxRecDepth 100000 in
set_option maxHeartbeats 4000000 in
theorem of_n (n : Nat) (l : List VT) (u : Value) (w : World) (hu : Lies (n + 1) w l u) : Calls Try.prog 8 #[u] w (VecPost 16 (ofN n l) w) := by
  by_cases hg : l.length ≤ 65536 ∧ l.all (rightV n) = true
  · obtain ⟨h1, h2⟩ := canonL hu hg.2
    have e : ofN n l = ofR l := by
      unfold ofN ofR
      rw [if_neg (show ¬ 65536 < l.length by omega), if_pos hg.2, if_neg (show ¬ 65536 < l.length by omega), if_pos h2]
    rw [e]
    exact of_any l u w h1
  · have HCk : Hid _ := checkAll_any n l u w hu
    obtain ⟨k, hk, hke⟩ : ∃ k : Nat, ofN n l = .inr k ∧ (k = 2 ∨ k = 3) ∧ listErr n l = (k : Int) := by
      unfold ofN listErr
      by_cases h1 : 65536 < l.length
      · exact ⟨2, by rw [if_pos h1], .inl rfl, by rw [if_pos h1]; rfl⟩
      · by_cases h2 : l.all (rightV n) = true
        · exact absurd ⟨by omega, h2⟩ hg
        · exact ⟨3, by rw [if_neg h1, if_neg h2], .inr rfl, by rw [if_neg h1, if_neg h2]; rfl⟩
    rw [hk]
    rw [hke.2] at HCk
    obtain ⟨a, c, rfl, _⟩ := Lies.slice hu
    clear hu hg hk
    rcases hke.1 with rfl | rfl
    all_goals
      go_enter Try.func8, Try.ntmps8
      go_wp2_with fail
      refine Calls.mono HCk.out ?_
      rintro e w1 ⟨rfl, hb1⟩
      clear HCk
      go_wp2_with fail
      go_ret2
      exact ⟨hb1, rfl⟩

end Go.Proofs.Ytpnfmcmhcjekfab

namespace Go.Proofs.Ytpnfmcmhcjekfab
open Go.RowKit

/-- A number as a value's tree. -/
def numT (n : Int) : VT := ⟨2, n, ⟨#[]⟩, []⟩
def numP (n : Int) : VT × Value := (numT n, .slice none 0 0)

theorem right_num (n : Int) : rightV 16 (numT n) = true := by
  simp [rightV, fw, fwL, rpV, ownV, okNum, okText, okItems, numT]

theorem nums_cells (zs : List Int) : zs.flatMap cellsInt = (zs.map numP).flatMap encP := by
  induction zs with
  | nil => rfl
  | cons z zs ih => rw [List.flatMap_cons, List.map_cons, List.flatMap_cons, ih]; rfl

theorem lies_nilD (d : Nat) (w : World) : Lies d w [] (.slice none 0 0) := by
  cases d with
  | zero => exact ⟨rfl, none, 0, rfl⟩
  | succ d => exact ⟨none, 0, rfl, by simp, fun h => absurd rfl h⟩

theorem nums_lies {w : World} {b c : Nat} (zs : List Int) (h : RowAt w b 0 (zs.map numP)) (hl : zs.length ≤ 1000) (hc : zs.length ≤ c) : Lies 17 w (zs.map numT) (.slice (some ⟨b, 0, none⟩) zs.length c) := by
  have := lies_of_row (d := 16) (c := c) h (fun p hp => by
    obtain ⟨z, _, rfl⟩ := List.mem_map.1 hp
    exact ⟨lies_nilD _ _, by show 0 ≤ 9223372036854775807; omega⟩) (by simp; omega) (by simpa using hc)
  simpa [List.map_map, Function.comp_def, numP] using this

theorem nums_right (zs : List Int) : (zs.map numT).all (rightV 16) = true := by
  rw [List.all_eq_true]
  intro x hx
  obtain ⟨z, _, rfl⟩ := List.mem_map.1 hx
  exact right_num z

theorem nums_of (zs : List Int) (h : zs.length ≤ 1000) : ofR (zs.map numT) = .inl (zs.map numT) := by
  unfold ofR
  rw [if_neg (by simp; omega), if_pos (nums_right zs)]

set_option maxHeartbeats 1000000 in
theorem nums_any (zs : List Int) (b cap : Nat) (w : World) (h0 : zs ≠ []) (hz : zs.length ≤ 1000) (hc : ∀ (i : Nat) (h : i < zs.length), w.cell? ⟨b, 0 + i, none⟩ = some (.int .i64 (zs[i]'h))) :
    Calls Try.prog 36 #[.slice (some ⟨b, 0, none⟩) zs.length cap] w fun e w' => ∃ g c, e = .returned (.slice (some ⟨g, 0, none⟩) zs.length c) ∧ Lies 17 w' (zs.map numT) (.slice (some ⟨g, 0, none⟩) zs.length c) ∧ Below w.heap.size w w' := by
  refine (ints_any b zs cap w hz hc).mono ?_
  rintro e w1 ⟨v, rfl, hown, hb⟩
  rw [nums_cells] at hown
  obtain ⟨g, c, rfl, _, hcp, _, hrow, _⟩ := own_row (ps := zs.map numP) (by simpa using hown) (by simpa using h0)
  refine ⟨g, c, by simp, nums_lies zs hrow hz (by simpa using hcp), hb⟩

/-- A vector whose items are right. -/
structure VV (w : World) (l : List VT) (p : Value) : Prop where
  vc : VC 16 w l p
  len : l.length ≤ 65536
  right : l.all (rightV 16) = true

theorem VV.keeps {w w' : World} {l : List VT} {p : Value} (h : VV w l p) (hb : Below w.heap.size w w') : VV w' l p := ⟨h.vc.keeps hb, h.len, h.right⟩

end Go.Proofs.Ytpnfmcmhcjekfab

namespace Go.Proofs.Ytpnfmcmhcjekfab
open Go.RowKit

/-- A vector whose items are right, or an error. -/
def VvPost (r : List VT ⊕ Nat) (w : World) (e : Ending) (w' : World) : Prop :=
  Below w.heap.size w w' ∧ match r with
  | .inl l => ∃ b, e = .returned (.tuple #[.pointer (some ⟨b, 0, none⟩), .int .i64 0]) ∧ VV w' l (.pointer (some ⟨b, 0, none⟩))
  | .inr n => e = .returned (.tuple #[.pointer none, .int .i64 (n : Int)])

theorem VecPost.vv {r : List VT ⊕ Nat} {w : World} {e : Ending} {w' : World} (h : VecPost 16 r w e w') (hr : ∀ l, r = .inl l → l.length ≤ 65536 ∧ l.all (rightV 16) = true) : VvPost r w e w' := by
  obtain ⟨hb, hp⟩ := h
  refine ⟨hb, ?_⟩
  cases r with
  | inl l =>
    obtain ⟨b, rfl, hv⟩ := hp
    exact ⟨b, rfl, hv, (hr l rfl).1, (hr l rfl).2⟩
  | inr n => exact hp

theorem all_take {l : List VT} (h : l.all (rightV 16) = true) (n : Nat) : (l.take n).all (rightV 16) = true := List.all_eq_true.2 fun x hx => List.all_eq_true.1 h x (List.mem_of_mem_take hx)
theorem all_drop {l : List VT} (h : l.all (rightV 16) = true) (n : Nat) : (l.drop n).all (rightV 16) = true := List.all_eq_true.2 fun x hx => List.all_eq_true.1 h x (List.mem_of_mem_drop hx)

/-- Is a number an end of a list? -/
abbrev endB (l : List VT) (i : Int) : Prop := 0 ≤ i ∧ i ≤ (l.length : Int)

def firstR (l : List VT) (i : Int) : List VT ⊕ Nat := if endB l i then .inl (l.take i.toNat) else .inr 5
def restR (l : List VT) (i : Int) : List VT ⊕ Nat := if endB l i then .inl (l.drop i.toNat) else .inr 5

theorem vfirst_vv (l : List VT) (p : Value) (i : Int) (w : World) (h : VV w l p) : Calls Try.prog 39 #[p, .int .i64 i] w (VvPost (firstR l i) w) := by
  refine Calls.mono (vfirst_any 16 l p i w h.vc (by have := h.len; omega)) ?_
  intro e w' hp
  refine VecPost.vv hp (fun m hm => ?_)
  unfold firstR at hm
  by_cases hi : endB l i
  · rw [if_pos hi] at hm
    injection hm with hm
    subst hm
    exact ⟨by rw [List.length_take]; have := h.len; omega, all_take h.right _⟩
  · rw [if_neg hi] at hm; cases hm

theorem vrest_vv (l : List VT) (p : Value) (i : Int) (w : World) (h : VV w l p) : Calls Try.prog 40 #[p, .int .i64 i] w (VvPost (restR l i) w) := by
  refine Calls.mono (vrest_any 16 l p i w h.vc (by have := h.len; omega)) ?_
  intro e w' hp
  refine VecPost.vv hp (fun m hm => ?_)
  unfold restR at hm
  by_cases hi : endB l i
  · rw [if_pos hi] at hm
    injection hm with hm
    subst hm
    exact ⟨by rw [List.length_drop]; have := h.len; omega, all_drop h.right _⟩
  · rw [if_neg hi] at hm; cases hm

/-- What Cut tells. -/
def CutPost (l : List VT) (i : Int) (w : World) (e : Ending) (w' : World) : Prop :=
  Below w.heap.size w w' ∧ ((endB l i ∧ ∃ b1 b2, e = .returned (.tuple #[.pointer (some ⟨b1, 0, none⟩), .pointer (some ⟨b2, 0, none⟩), .int .i64 0]) ∧ VV w' (l.take i.toNat) (.pointer (some ⟨b1, 0, none⟩)) ∧ VV w' (l.drop i.toNat) (.pointer (some ⟨b2, 0, none⟩))) ∨ (¬ endB l i ∧ e = .returned (.tuple #[.pointer none, .pointer none, .int .i64 5])))

set_option maxRecDepth 100000 in
set_option maxHeartbeats 4000000 in
theorem cut_any (l : List VT) (p : Value) (i : Int) (w : World) (h : VV w l p) : Calls Try.prog 10 #[p, .int .i64 i] w (CutPost l i w) := by
  obtain ⟨po, rfl⟩ := h.vc.shape
  have HF : Hid _ := vfirst_vv l _ i w h
  have HRs : Hid (∀ V, Below w.heap.size w V → Calls Try.prog 40 #[.pointer po, .int .i64 i] V (VvPost (restR l i) V)) := fun V hV => vrest_vv l _ i V (h.keeps hV)
  clear h
  by_cases hi : endB l i
  · have Hi : Hid (endB l i) := hi
    unfold firstR at HF
    unfold restR at HRs
    rw [if_pos hi] at HF HRs
    clear hi
    go_enter Try.func10, Try.ntmps10
    go_wp2_with fail
    refine Calls.mono HF.out ?_
    rintro e w1 ⟨hb1, b1, rfl, hv1⟩
    have HV1 : Hid (VV w1 (l.take i.toNat) (.pointer (some ⟨b1, 0, none⟩))) := hv1
    have HR1 : Hid _ := HRs.out w1 hb1
    clear HF hv1 HRs
    go_wp2_with fail
    refine Calls.mono HR1.out ?_
    rintro e w2 ⟨hb2, b2, rfl, hv2⟩
    have HE : Hid (CutPost l i w (.returned (.tuple #[.pointer (some ⟨b1, 0, none⟩), .pointer (some ⟨b2, 0, none⟩), .int .i64 0])) w2) := ⟨hb1.trans (hb2.mono hb1.size), .inl ⟨Hi.out, b1, b2, rfl, HV1.out.keeps hb2, hv2⟩⟩
    clear HR1 hv2
    go_wp2_with fail
    go_ret3
    exact HE.out
  · have Hi : Hid (¬ endB l i) := hi
    unfold firstR at HF
    rw [if_neg hi] at HF
    clear hi HRs
    go_enter Try.func10, Try.ntmps10
    go_wp2_with fail
    refine Calls.mono HF.out ?_
    rintro e w1 ⟨hb1, rfl⟩
    have HE : Hid (CutPost l i w (.returned (.tuple #[.pointer none, .pointer none, .int .i64 5])) w1) := ⟨hb1, .inr ⟨Hi.out, rfl⟩⟩
    clear HF
    go_wp2_with fail
    go_ret3
    exact HE.out

/-- What Slice tells. -/
def sliceR (l : List VT) (i j : Int) : List VT ⊕ Nat := if endB l i ∧ endB l j ∧ i ≤ j then .inl ((l.take j.toNat).drop i.toNat) else .inr 5

set_option maxRecDepth 100000 in
set_option maxHeartbeats 4000000 in
theorem slice_any (l : List VT) (p : Value) (i j : Int) (w : World) (h : VV w l p) : Calls Try.prog 12 #[p, .int .i64 i, .int .i64 j] w (VvPost (sliceR l i j) w) := by
  obtain ⟨po, rfl⟩ := h.vc.shape
  have HF : Hid _ := vfirst_vv l _ j w h
  obtain ⟨R, hR⟩ : ∃ R, R = sliceR l i j := ⟨_, rfl⟩
  rw [← hR]
  by_cases hj : endB l j
  · unfold firstR at HF
    rw [if_pos hj] at HF
    have e : restR (l.take j.toNat) i = R := by
      rw [hR]
      unfold restR sliceR endB at *
      rw [List.length_take]
      by_cases hi : 0 ≤ i ∧ i ≤ j
      · rw [if_pos (by omega), if_pos (by omega)]
      · rw [if_neg (by omega), if_neg (by omega)]
    have HRs : Hid (∀ V b, VV V (l.take j.toNat) (.pointer (some ⟨b, 0, none⟩)) → Calls Try.prog 40 #[.pointer (some ⟨b, 0, none⟩), .int .i64 i] V (VvPost R V)) := fun V b hv => by
      rw [← e]; exact vrest_vv _ _ i V hv
    clear h hj hR e
    go_enter Try.func12, Try.ntmps12
    go_wp2_with fail
    refine Calls.mono HF.out ?_
    rintro e w1 ⟨hb1, b1, rfl, hv1⟩
    have HR1 : Hid _ := HRs.out w1 b1 hv1
    clear HF hv1 HRs
    go_wp2_with fail
    refine Calls.mono HR1.out ?_
    intro e w2 hp2
    have HE : Hid (VvPost R w e w2) := ⟨hb1.trans (hp2.1.mono hb1.size), hp2.2⟩
    obtain ⟨_, hp2⟩ := hp2
    clear HR1
    cases R with
    | inl m =>
      obtain ⟨b2, rfl, _⟩ := hp2
      go_wp2_with fail
      go_ret2
      exact HE.out
    | inr k =>
      subst hp2
      go_wp2_with fail
      go_ret2
      exact HE.out
  · unfold firstR at HF
    rw [if_neg hj] at HF
    have HR : Hid (R = .inr 5) := by
      show _ = _
      rw [hR]
      unfold sliceR
      rw [if_neg (fun h => hj h.2.1)]
    clear h hj hR
    go_enter Try.func12, Try.ntmps12
    go_wp2_with fail
    refine Calls.mono HF.out ?_
    rintro e w1 ⟨hb1, rfl⟩
    have HE : Hid (VvPost R w (.returned (.tuple #[.pointer none, .int .i64 5])) w1) := by
      show VvPost _ _ _ _
      rw [HR.out]
      exact ⟨hb1, rfl⟩
    clear HF
    go_wp2_with fail
    go_ret2
    exact HE.out

set_option maxRecDepth 100000 in
set_option maxHeartbeats 4000000 in
/-- A vector is just these items, and flat. -/
theorem is_some (l : List VT) (b : Nat) (u : Value) (w : World) (h : VV w l (.pointer (some ⟨b, 0, none⟩))) (hu : Lies 17 w l u) : Calls Try.prog 14 #[.pointer (some ⟨b, 0, none⟩), .int .i64 0, u, .int .i64 0] w fun e w' => e = .returned (.bool true) ∧ Below w.heap.size w w' := by
  obtain ⟨a, c, rfl, _⟩ := Lies.slice hu
  have HU : Hid (Lies 17 w l (.slice a l.length c)) := hu
  have HV : Hid (VV w l (.pointer (some ⟨b, 0, none⟩))) := h
  have hlen := h.len
  obtain ⟨L, hL⟩ : ∃ L, L = l.length := ⟨_, rfl⟩
  have HLn : Hid (Calls Try.prog 31 #[.pointer (some ⟨b, 0, none⟩)] w (NumPost L w)) := by rw [hL]; exact vlen_any 16 l _ w h.vc
  have HIt : Hid (∀ V, Below w.heap.size w V → Calls Try.prog 38 #[.pointer (some ⟨b, 0, none⟩)] V (ItemsPost l V)) := fun V hV => items_any l _ V (h.vc.keeps hV) h.len h.right
  have HVs : Hid (∀ V v, Below w.heap.size w V → Lies 17 V l v → Calls Try.prog 37 #[v, .slice a L c] V fun e w' => e = .returned (.bool true) ∧ Below V.heap.size V w') := fun V v hV hv => by
    rw [hL]; exact values_one 16 l v _ V hv (Lies.keeps hV _ _ _ HU.out) hlen
  have HHt : Hid (∀ V, Below w.heap.size w V → Calls Try.prog 29 #[.pointer (some ⟨b, 0, none⟩)] V (HeightPost l V)) := fun V hV => vheight_any 16 l _ V (h.vc.keeps hV) (by omega)
  have HHi : Hid (∀ V (n : Nat), HeightPost l w (.returned (.int .i64 (n : Int))) w → Calls Try.prog 30 #[.int .i64 (L : Int)] V fun e w' => ∃ g : Nat, e = .returned (.int .i64 (g : Int)) ∧ n ≤ g ∧ w' = V) := fun V n hn => by
    obtain ⟨n', e', hh, _⟩ := hn
    injection e' with e'
    injection e' with _ e'
    obtain rfl : n = n' := by omega
    rw [hL]
    cases l with
    | nil =>
      refine Calls.mono (high_zero V) ?_
      rintro e w' ⟨rfl, rfl⟩
      refine ⟨0, rfl, ?_, rfl⟩
      rcases hh with ⟨_, rfl⟩ | ⟨h, _⟩
      · exact Nat.le_refl _
      · exact absurd rfl h
    | cons x l =>
      refine Calls.mono (high_any (x :: l).length V (by simp) hlen) ?_
      rintro e w' ⟨⟨j, rfl, _, hj⟩, rfl⟩
      refine ⟨j / 4 + 3, rfl, ?_, rfl⟩
      rcases hh with ⟨h, _⟩ | ⟨_, h, rfl, hh⟩
      · cases h
      · exact height_low _ h j hh hj
  have heq : ((L : Nat) : Int) = (l.length : Nat) := by omega
  rw [← hL]
  clear hu h hlen hL heq
  go_enter Try.func14, Try.ntmps14
  go_wp2_with fail
  refine Calls.mono HLn.out ?_
  rintro e w1 ⟨rfl, hb1⟩
  have HI1 : Hid _ := HIt.out w1 hb1
  clear HLn HIt
  go_wp2_with fail
  refine Calls.mono HI1.out ?_
  rintro e w2 ⟨v2, rfl, hv2, hg2⟩
  have hb2 : Below w.heap.size w w2 := hb1.trans (hg2.mono hb1.size)
  have HV2 : Hid _ := HVs.out w2 v2 hb2 (LiesB.lies _ _ _ hv2)
  obtain ⟨a2, c2, rfl, _⟩ := Lies.slice (LiesB.lies _ _ _ hv2)
  clear HI1 hv2 hg2 HVs
  go_wp2_with fail
  refine Calls.mono HV2.out ?_
  rintro e w3 ⟨rfl, hg3⟩
  have hb3 : Below w.heap.size w w3 := hb2.trans (hg3.mono hb2.size)
  have HH3 : Hid _ := HHt.out w3 hb3
  clear HV2 hg3 HHt
  go_wp2_with fail
  refine Calls.mono HH3.out ?_
  rintro e w4 ⟨hN, rfl, hok, hg4⟩
  have hb4 : Below w.heap.size w w4 := hb3.trans (hg4.mono hb3.size)
  have HH4 : Hid (Calls Try.prog 30 #[.int .i64 (L : Int)] w4 fun e w' => ∃ g : Nat, e = .returned (.int .i64 (g : Int)) ∧ hN ≤ g ∧ w' = w4) := HHi.out w4 hN ⟨hN, rfl, hok, Below.refl _ _⟩
  clear HH3 hok hg4 HHi
  go_wp2_with fail
  refine Calls.mono HH4.out ?_
  rintro e w5 ⟨g, rfl, hle, rfl⟩
  have hlei : ((hN : Nat) : Int) ≤ (g : Nat) := by omega
  clear HH4
  go_wp2_with fail
  go_ret
  exact ⟨rfl, hb4⟩

set_option maxRecDepth 100000 in
theorem is_none (k : Nat) (hk : k ≠ 0) (a : Option Addr) (n c : Nat) (w : World) : Calls Try.prog 14 #[.pointer none, .int .i64 (k : Int), .slice a n c, .int .i64 (k : Int)] w fun e w' => e = .returned (.bool true) ∧ Below w.heap.size w w' := by
  have hk0 : ¬ ((k : Nat) : Int) = 0 := by omega
  have hne : (((k : Nat) : Int) != ((k : Nat) : Int)) = false := by simp
  go_enter Try.func14, Try.ntmps14
  go_wp2_with fail
  go_ret
  exact ⟨rfl, Below.refl _ _⟩

end Go.Proofs.Ytpnfmcmhcjekfab

namespace Go.Proofs.Ytpnfmcmhcjekfab
open Go.RowKit

/-- What Concat tells. -/
def catR (l m : List VT) : List VT ⊕ Nat := if (l ++ m).length ≤ 65536 then .inl (l ++ m) else .inr 2

/-- Join of vectors whose items are right. -/
theorem join_vv (vs : List (List VT × Value)) (B : Nat) (w : World) (hc : ∀ (i : Nat) (hi : i < vs.length), w.cell? ⟨B, i, none⟩ = some (vs[i]'hi).2) (h1 : 1 ≤ vs.length) (h2 : vs.length ≤ 65536) (hv : ∀ p ∈ vs, VV w p.1 p.2) : Calls Try.prog 47 #[.slice (some ⟨B, 0, none⟩) vs.length vs.length] w (VvPost (joinR vs) w) := by
  refine Calls.mono (join_any 16 vs _ w ⟨some ⟨B, 0, none⟩, vs.length, by rw [List.length_map], by rw [List.length_map]; exact Nat.le_refl _, fun _ => ⟨B, 0, rfl, fun i hi => by rw [List.getElem_map, Nat.zero_add]; exact hc i (by rw [List.length_map] at hi; exact hi)⟩⟩ h1 h2 (fun i hi => ⟨(hv _ (List.getElem_mem hi)).vc, (hv _ (List.getElem_mem hi)).len⟩)) ?_
  intro e w' hp
  refine VecPost.vv hp (fun m hm => ?_)
  unfold joinR at hm
  by_cases hl : (vs.flatMap (·.1)).length ≤ 65536
  · rw [if_pos hl] at hm
    injection hm with hm
    subst hm
    refine ⟨hl, List.all_eq_true.2 fun x hx => ?_⟩
    obtain ⟨p, hp1, hp2⟩ := List.mem_flatMap.1 hx
    exact List.all_eq_true.1 (hv p hp1).right x hp2
  · rw [if_neg hl] at hm; cases hm

set_option maxRecDepth 100000 in
set_option maxHeartbeats 4000000 in
theorem concat_any (l m : List VT) (p q : Value) (w : World) (h : VV w l p) (h2 : VV w m q) : Calls Try.prog 27 #[p, q] w (VvPost (catR l m) w) := by
  obtain ⟨po, rfl⟩ := h.vc.shape
  obtain ⟨qo, rfl⟩ := h2.vc.shape
  have hba : Below w.heap.size w (w.alloc (.cells #[.pointer po, .pointer qo] 23)) := ((Grew.refl w).alloc _).below
  obtain ⟨R, hR⟩ : ∃ R, R = catR l m := ⟨_, rfl⟩
  have HJ : Hid (Calls Try.prog 47 #[.slice (some ⟨w.heap.size, 0, none⟩) 2 2] (w.alloc (.cells #[.pointer po, .pointer qo] 23)) (VvPost R w)) := by
    have h9 := join_vv [(l, .pointer po), (m, .pointer qo)] w.heap.size (w.alloc (.cells #[.pointer po, .pointer qo] 23)) (fun i hi => by
      match i, hi with
      | 0, _ => simp
      | 1, _ => simp) (by simp) (by simp) (fun p hp => by
      simp only [List.mem_cons, List.not_mem_nil, or_false] at hp
      rcases hp with rfl | rfl
      · exact h.keeps hba
      · exact h2.keeps hba)
    have e : joinR [(l, .pointer po), (m, .pointer qo)] = R := by
      rw [hR]; unfold joinR catR; simp
    rw [e] at h9
    refine Calls.mono h9 (fun e w' hp => ⟨hba.trans (hp.1.mono hba.size), hp.2⟩)
  rw [← hR]
  clear h h2 hR hba
  go_enter Try.func27, Try.ntmps27
  go_wp2_with fail
  refine Calls.mono HJ.out ?_
  intro e w2 hp2
  have HE : Hid (VvPost R w e w2) := hp2
  obtain ⟨_, hp2⟩ := hp2
  clear HJ
  cases R with
  | inl m =>
    obtain ⟨b2, rfl, _⟩ := hp2
    go_wp2_with fail
    go_ret2
    exact HE.out
  | inr k =>
    subst hp2
    go_wp2_with fail
    go_ret2
    exact HE.out

set_option maxRecDepth 100000 in
set_option maxHeartbeats 8000000 in
theorem speaks12_any (w : World) : Calls Try.prog 9 #[] w fun e w' => e = .returned (.bool true) ∧ Below w.heap.size w w' := by
  have HI : Hid (∀ (V : World) (b : Nat) (zs : List Int), zs ≠ [] → zs.length ≤ 1000 → (∀ (i : Nat) (h : i < zs.length), V.cell? ⟨b, 0 + i, none⟩ = some (.int .i64 (zs[i]'h))) → Calls Try.prog 36 #[.slice (some ⟨b, 0, none⟩) zs.length zs.length] V fun e w' => ∃ g c, e = .returned (.slice (some ⟨g, 0, none⟩) zs.length c) ∧ Lies 17 w' (zs.map numT) (.slice (some ⟨g, 0, none⟩) zs.length c) ∧ Below V.heap.size V w') := fun V b zs h0 h1 h2 => nums_any zs b _ V h0 h1 h2
  have HO : Hid (∀ V v (zs : List Int), zs.length ≤ 1000 → Lies 17 V (zs.map numT) v → Calls Try.prog 8 #[v] V fun e w' => ∃ b, e = .returned (.tuple #[.pointer (some ⟨b, 0, none⟩), .int .i64 0]) ∧ VV w' (zs.map numT) (.pointer (some ⟨b, 0, none⟩)) ∧ Below V.heap.size V w') := fun V v zs hz hv => by
    have h9 := of_any _ v V hv
    rw [nums_of zs hz] at h9
    refine Calls.mono h9 ?_
    rintro e w1 ⟨hb, b, rfl, hvc⟩
    exact ⟨b, rfl, ⟨hvc, by rw [List.length_map]; omega, nums_right zs⟩, hb⟩
  have HI1 : Hid (Calls Try.prog 36 #[.slice (some ⟨w.heap.size, 0, none⟩) 2 2] (w.alloc (.cells #[.int .i64 1, .int .i64 2] 2)) fun e w' => ∃ g c, e = .returned (.slice (some ⟨g, 0, none⟩) 2 c) ∧ Lies 17 w' ([1, 2].map numT) (.slice (some ⟨g, 0, none⟩) 2 c) ∧ Below w.heap.size w w') := by
    have hbA : Below w.heap.size w (w.alloc (.cells #[.int .i64 1, .int .i64 2] 2)) := ((Grew.refl w).alloc _).below
    refine Calls.mono (HI.out _ w.heap.size [1, 2] (by simp) (by simp) (fun i hi => by
      match i, hi with
      | 0, _ => simp
      | 1, _ => simp)) ?_
    rintro e w1 ⟨g, c, rfl, hl, hb⟩
    exact ⟨g, c, rfl, hl, hbA.trans (hb.mono hbA.size)⟩
  have HI2 : Hid (∀ V : World, Calls Try.prog 36 #[.slice (some ⟨V.heap.size, 0, none⟩) 1 1] (V.alloc (.cells #[.int .i64 3] 2)) fun e w' => ∃ g c, e = .returned (.slice (some ⟨g, 0, none⟩) 1 c) ∧ Lies 17 w' ([3].map numT) (.slice (some ⟨g, 0, none⟩) 1 c) ∧ Below V.heap.size V w') := fun V => by
    have hbA : Below V.heap.size V (V.alloc (.cells #[.int .i64 3] 2)) := ((Grew.refl V).alloc _).below
    refine Calls.mono (HI.out _ V.heap.size [3] (by simp) (by simp) (fun i hi => by
      match i, hi with
      | 0, _ => simp)) ?_
    rintro e w1 ⟨g, c, rfl, hl, hb⟩
    exact ⟨g, c, rfl, hl, hbA.trans (hb.mono hbA.size)⟩
  have HI3 : Hid (∀ V : World, Calls Try.prog 36 #[.slice (some ⟨V.heap.size, 0, none⟩) 3 3] (V.alloc (.cells #[.int .i64 1, .int .i64 2, .int .i64 3] 2)) fun e w' => ∃ g c, e = .returned (.slice (some ⟨g, 0, none⟩) 3 c) ∧ Lies 17 w' ([1, 2, 3].map numT) (.slice (some ⟨g, 0, none⟩) 3 c) ∧ Below V.heap.size V w') := fun V => by
    have hbA : Below V.heap.size V (V.alloc (.cells #[.int .i64 1, .int .i64 2, .int .i64 3] 2)) := ((Grew.refl V).alloc _).below
    refine Calls.mono (HI.out _ V.heap.size [1, 2, 3] (by simp) (by simp) (fun i hi => by
      match i, hi with
      | 0, _ => simp
      | 1, _ => simp
      | 2, _ => simp)) ?_
    rintro e w1 ⟨g, c, rfl, hl, hb⟩
    exact ⟨g, c, rfl, hl, hbA.trans (hb.mono hbA.size)⟩
  clear HI
  go_enter Try.func9, Try.ntmps9
  go_wp2_with fail
  refine Calls.mono HI1.out ?_
  rintro e w1 ⟨g1, c1, rfl, hl1, hb1⟩
  have HO1 : Hid _ := HO.out w1 _ [1, 2] (by simp) hl1
  clear HI1 hl1
  go_wp2_with fail
  refine Calls.mono HO1.out ?_
  rintro e w2 ⟨b2, rfl, hv2, hg2⟩
  have hb2 : Below w.heap.size w w2 := hb1.trans (hg2.mono hb1.size)
  have HV2 : Hid (VV w2 ([1, 2].map numT) (.pointer (some ⟨b2, 0, none⟩))) := hv2
  have HI2w : Hid _ := HI2.out w2
  clear HO1 hv2 hg2 HI2
  go_wp2_with fail
  refine Calls.mono HI2w.out ?_
  rintro e w3 ⟨g3, c3, rfl, hl3, hg3⟩
  have hb3 : Below w.heap.size w w3 := hb2.trans (hg3.mono hb2.size)
  have HV3 : Hid (VV w3 ([1, 2].map numT) (.pointer (some ⟨b2, 0, none⟩))) := HV2.out.keeps hg3
  have HO3 : Hid _ := HO.out w3 _ [3] (by simp) hl3
  clear HI2w hl3 hg3 HV2 HO
  go_wp2_with fail
  refine Calls.mono HO3.out ?_
  rintro e w4 ⟨b4, rfl, hv4, hg4⟩
  have hb4 : Below w.heap.size w w4 := hb3.trans (hg4.mono hb3.size)
  have HC : Hid (Calls Try.prog 27 #[.pointer (some ⟨b2, 0, none⟩), .pointer (some ⟨b4, 0, none⟩)] w4 (VvPost (.inl ([1, 2, 3].map numT)) w4)) := concat_any _ _ _ _ w4 (HV3.out.keeps hg4) hv4
  clear HO3 hv4 hg4 HV3
  go_wp2_with fail
  refine Calls.mono HC.out ?_
  rintro e w5 ⟨hg5, b5, rfl, hv5⟩
  have hb5 : Below w.heap.size w w5 := hb4.trans (hg5.mono hb4.size)
  have HIt : Hid _ := items_any _ _ w5 hv5.vc hv5.len hv5.right
  clear HC hv5 hg5
  go_wp2_with fail
  refine Calls.mono HIt.out ?_
  rintro e w6 ⟨v6, rfl, hv6, hg6⟩
  have hb6 : Below w.heap.size w w6 := hb5.trans (hg6.mono hb5.size)
  have HL6 : Hid (Lies 17 w6 ([1, 2, 3].map numT) v6) := LiesB.lies _ _ _ hv6
  obtain ⟨a6, c6, rfl, _⟩ := Lies.slice HL6.out
  have HI3w : Hid _ := HI3.out w6
  clear HIt hv6 hg6 HI3
  go_wp2_with fail
  refine Calls.mono HI3w.out ?_
  rintro e w7 ⟨g7, c7, rfl, hl7, hg7⟩
  have hb7 : Below w.heap.size w w7 := hb6.trans (hg7.mono hb6.size)
  have HVs : Hid _ := values_one 16 ([1, 2, 3].map numT) _ _ w7 (Lies.keeps hg7 _ _ _ HL6.out) hl7 (by simp)
  clear HI3w hl7 hg7 HL6
  go_wp2_with fail
  refine Calls.mono HVs.out ?_
  rintro e w8 ⟨rfl, hg8⟩
  go_wp2_with fail
  go_ret
  exact ⟨rfl, hb7.trans (hg8.mono hb7.size)⟩

end Go.Proofs.Ytpnfmcmhcjekfab

namespace Go.Proofs.Ytpnfmcmhcjekfab
open Go.RowKit

/-- A list is told, or an error. -/
def LstPost (r : List VT ⊕ Nat) (w : World) (e : Ending) (w' : World) : Prop :=
  Below w.heap.size w w' ∧ match r with
  | .inl m => ∃ a c, e = .returned (.tuple #[.slice a m.length c, .int .i64 0]) ∧ Lies 17 w' m (.slice a m.length c)
  | .inr k => e = .returned (.tuple #[.slice none 0 0, .int .i64 (k : Int)])

theorem src_of {w : World} {l : List VT} {a : Option Addr} {c : Nat} (h : Lies 17 w l (.slice a l.length c)) : ∃ ps : List (VT × Value), ps.map (·.1) = l ∧ ps.length = l.length ∧ Src w a l.length 4 (ps.flatMap encP) ∧ ∀ p ∈ ps, Sound 16 w p := by
  obtain ⟨ps, h1, h2, h3⟩ := SlP.of_lies h
  obtain ⟨_, _, e, _, _, _, h4⟩ := id h3
  exact ⟨ps, h1, h2, SlP.src h3, h4⟩

end Go.Proofs.Ytpnfmcmhcjekfab

namespace Go.Proofs.Ytpnfmcmhcjekfab
open Go.RowKit

set_option maxRecDepth 100000 in
theorem rend_any (l : List VT) (a : Option Addr) (c : Nat) (i : Int) (w : World) : Calls Try.prog 41 #[.slice a l.length c, .int .i64 i] w fun e w' => e = .returned (.bool (decide (endB l i))) ∧ w' = w := by
  by_cases h0 : 0 ≤ i
  · by_cases h1 : i ≤ (l.length : Int)
    · rw [decide_eq_true (show endB l i from ⟨h0, h1⟩)]
      go_enter Try.func41, Try.ntmps41
      go_wp2_with fail
      go_ret
      exact ⟨rfl, rfl⟩
    · rw [decide_eq_false (fun h : endB l i => h1 h.2)]
      go_enter Try.func41, Try.ntmps41
      go_wp2_with fail
      go_ret
      exact ⟨rfl, rfl⟩
  · rw [decide_eq_false (fun h : endB l i => h0 h.1)]
    go_enter Try.func41, Try.ntmps41
    go_wp2_with fail
    go_ret
    exact ⟨rfl, rfl⟩

/-- Where a part of a list lies. -/
theorem src_part {w : World} {l : List VT} {g o c : Nat} (h : Lies 17 w l (.slice (some ⟨g, o, none⟩) l.length c)) (i j : Nat) (hj : j ≤ l.length) : ∃ ps : List (VT × Value), ps.map (·.1) = (l.take j).drop i ∧ ps.length = j - i ∧ Src w (some ⟨g, o + i * 4, none⟩) (j - i) 4 (ps.flatMap encP) ∧ ∀ p ∈ ps, Sound 16 w p := by
  have h1 := Lies.taken h j hj
  have e1 : (l.take j).length = j := by rw [List.length_take, Nat.min_eq_left hj]
  have h2 := Lies.dropped (l := l.take j) (by rw [e1]; exact h1) i
  have e2 : ((l.take j).drop i).length = j - i := by rw [List.length_drop, e1]
  rw [e1] at h2
  rw [← e2] at h2
  obtain ⟨ps, p1, p2, p3, p4⟩ := src_of h2
  rw [e2] at p3 p2
  exact ⟨ps, p1, p2, p3, p4⟩

/-- An empty list of one's own. -/
theorem own_empty (w : World) (base : Nat) (hb : base ≤ w.heap.size) : (w.alloc (.cells #[] 38)).ownsRow base 38 4 (.slice (some ⟨w.heap.size, 0, none⟩) 0 0) 0 [] := World.ownsRow_made w #[] 0 hb (by unfold maxLen; omega) rfl

set_option maxRecDepth 100000 in
set_option maxHeartbeats 8000000 in
theorem rslice_any (l : List VT) (a : Option Addr) (c : Nat) (i j : Int) (w : World) (hl : Lies 17 w l (.slice a l.length c)) (hlen : l.length ≤ 65536) : Calls Try.prog 13 #[.slice a l.length c, .int .i64 i, .int .i64 j] w (LstPost (sliceR l i j) w) := by
  obtain ⟨i0, hi0, hz0, hz1, hz2⟩ := info24
  have Hi : Hid _ := hi0; have Hz0 : Hid _ := hz0; have Hz1 : Hid _ := hz1; have Hz2 : Hid _ := hz2
  clear hi0 hz0 hz1 hz2
  have HE1 : Hid _ := rend_any l a c i w
  have HE2 : Hid _ := rend_any l a c j w
  obtain ⟨R, hR⟩ : ∃ R, R = sliceR l i j := ⟨_, rfl⟩
  rw [← hR]
  unfold sliceR at hR
  by_cases h1 : endB l i
  · rw [decide_eq_true h1] at HE1
    by_cases h2 : endB l j
    · rw [decide_eq_true h2] at HE2
      by_cases h3 : i ≤ j
      · rw [if_pos ⟨h1, h2, h3⟩] at hR
        obtain ⟨ni, rfl⟩ := Int.eq_ofNat_of_zero_le h1.1
        obtain ⟨nj, rfl⟩ := Int.eq_ofNat_of_zero_le h2.1
        rw [Int.toNat_natCast, Int.toNat_natCast] at hR
        have hjl : nj ≤ l.length := by have := h2.2; omega
        have hij : ni ≤ nj := by omega
        have hgt : ¬ ((nj : Nat) : Int) < (ni : Nat) := by omega
        have hba : Below w.heap.size w (w.alloc (.cells #[] 38)) := ((Grew.refl w).alloc _).below
        have Hown : Hid ((w.alloc (.cells #[] 38)).ownsRow w.heap.size 38 4 (.slice (some ⟨w.heap.size, 0, none⟩) 0 0) 0 []) := own_empty w _ (Nat.le_refl _)
        have HR : Hid (R = .inl ((l.take nj).drop ni)) := hR
        have hgr : ∀ (v5 : Value) (w5 : World) (ps : List (VT × Value)), ps.map (·.1) = (l.take nj).drop ni → (∀ p ∈ ps, Sound 16 w p) → w5.ownsRow w.heap.size 38 4 v5 ps.length (ps.flatMap encP) → (w.alloc (.cells #[] 38)).grownBy w5 (some w.heap.size) → ∃ a9 c9, v5 = .slice a9 ((l.take nj).drop ni).length c9 ∧ LstPost R w (.returned (.tuple #[v5, .int .i64 0])) w5 := fun v5 w5 ps h4 h5 h6 h7 => by
          have hb5 : Below w.heap.size w w5 := hba.grown h7 hba.size (fun k e => by injection e with e; omega)
          have h9 := own_lies (d := 16) rfl h6 (fun p hp => (h5 p hp).keeps hb5) (by have := congrArg List.length h4; rw [List.length_map, List.length_drop, List.length_take] at this; omega)
          rw [h4] at h9
          obtain ⟨a9, c9, rfl, _⟩ := Lies.slice h9
          refine ⟨a9, c9, rfl, ?_⟩
          rw [HR.out]
          exact ⟨hb5, a9, c9, rfl, h9⟩
        by_cases hne : ni = nj
        · subst hne
          have HF : Hid (∀ (v5 : Value) (w5 : World), w5.ownsRow w.heap.size 38 4 v5 0 [] → (w.alloc (.cells #[] 38)).grownBy w5 (some w.heap.size) → ∃ a9 c9, v5 = .slice a9 ((l.take ni).drop ni).length c9 ∧ LstPost R w (.returned (.tuple #[v5, .int .i64 0])) w5) := fun v5 w5 h6 h7 => hgr v5 w5 [] (by rw [List.drop_eq_nil_of_le (by rw [List.length_take]; omega)]; rfl) (fun p hp => by cases hp) h6 h7
          have hnc : ni ≤ c := by obtain ⟨_, _, e, h, _⟩ := hl; injection e with _ _ e; omega
          have hnci : (ni : Int) ≤ (c : Nat) := by omega
          have hself : ¬ ((ni : Nat) : Int) < (ni : Nat) := by omega
          clear hgr hl hR
          by_cases hcn : c = ni
          · subst hcn
            cases a with
            | none =>
              go_enter Try.func13, Try.ntmps13
              go_wp2_with fail
              refine Calls.mono HE1.out ?_
              rintro e w1 ⟨rfl, hw1⟩
              obtain rfl : w = w1 := hw1.symm
              go_wp2_with fail
              refine Calls.mono HE2.out ?_
              rintro e w1 ⟨rfl, hw1⟩
              obtain rfl : w = w1 := hw1.symm
              clear HE1 HE2
              go_wp2_with (at_builtin; refine wpList_append_row rfl _ _ rfl w.heap.size i0 Hi.out Hz0.out Hz1.out Hz2.out (.slice (some ⟨w.heap.size, 0, none⟩) 0 0) 0 [] rfl Hown.out _ _ _ [] rfl (fun _ => rfl) rfl (fun _ _ _ _ hu => by simp at hu) (fun u hu => by cases hu) (by unfold maxLen; omega) (by omega) hba.size ?_; intro v5 w5 hown5 hgrow5)
              obtain ⟨a9, c9, rfl, hfin⟩ := HF.out v5 w5 (by simpa using hown5) hgrow5
              have HE : Hid _ := hfin
              clear hown5 hgrow5 hfin
              go_wp2_with fail
              go_ret2
              exact HE.out

            | some ad =>
              go_enter Try.func13, Try.ntmps13
              go_wp2_with fail
              refine Calls.mono HE1.out ?_
              rintro e w1 ⟨rfl, hw1⟩
              obtain rfl : w = w1 := hw1.symm
              go_wp2_with fail
              refine Calls.mono HE2.out ?_
              rintro e w1 ⟨rfl, hw1⟩
              obtain rfl : w = w1 := hw1.symm
              clear HE1 HE2
              go_wp2_with (at_builtin; refine wpList_append_row rfl _ _ rfl w.heap.size i0 Hi.out Hz0.out Hz1.out Hz2.out (.slice (some ⟨w.heap.size, 0, none⟩) 0 0) 0 [] rfl Hown.out _ _ _ [] rfl (fun _ => rfl) rfl (fun _ _ _ _ hu => by simp at hu) (fun u hu => by cases hu) (by unfold maxLen; omega) (by omega) hba.size ?_; intro v5 w5 hown5 hgrow5)
              obtain ⟨a9, c9, rfl, hfin⟩ := HF.out v5 w5 (by simpa using hown5) hgrow5
              have HE : Hid _ := hfin
              clear hown5 hgrow5 hfin
              go_wp2_with fail
              go_ret2
              exact HE.out

          · have hcni : ¬ ((c : Nat) : Int) = (ni : Nat) := by omega
            cases a with
            | none =>
              go_enter Try.func13, Try.ntmps13
              go_wp2_with fail
              refine Calls.mono HE1.out ?_
              rintro e w1 ⟨rfl, hw1⟩
              obtain rfl : w = w1 := hw1.symm
              go_wp2_with fail
              refine Calls.mono HE2.out ?_
              rintro e w1 ⟨rfl, hw1⟩
              obtain rfl : w = w1 := hw1.symm
              clear HE1 HE2
              go_wp2_with (at_builtin; refine wpList_append_row rfl _ _ rfl w.heap.size i0 Hi.out Hz0.out Hz1.out Hz2.out (.slice (some ⟨w.heap.size, 0, none⟩) 0 0) 0 [] rfl Hown.out _ _ _ [] rfl (fun _ => rfl) rfl (fun _ _ _ _ hu => by simp at hu) (fun u hu => by cases hu) (by unfold maxLen; omega) (by omega) hba.size ?_; intro v5 w5 hown5 hgrow5)
              obtain ⟨a9, c9, rfl, hfin⟩ := HF.out v5 w5 (by simpa using hown5) hgrow5
              have HE : Hid _ := hfin
              clear hown5 hgrow5 hfin
              go_wp2_with fail
              go_ret2
              exact HE.out

            | some ad =>
              go_enter Try.func13, Try.ntmps13
              go_wp2_with fail
              refine Calls.mono HE1.out ?_
              rintro e w1 ⟨rfl, hw1⟩
              obtain rfl : w = w1 := hw1.symm
              go_wp2_with fail
              refine Calls.mono HE2.out ?_
              rintro e w1 ⟨rfl, hw1⟩
              obtain rfl : w = w1 := hw1.symm
              clear HE1 HE2
              go_wp2_with (at_builtin; refine wpList_append_row rfl _ _ rfl w.heap.size i0 Hi.out Hz0.out Hz1.out Hz2.out (.slice (some ⟨w.heap.size, 0, none⟩) 0 0) 0 [] rfl Hown.out _ _ _ [] rfl (fun _ => rfl) rfl (fun _ _ _ _ hu => by simp at hu) (fun u hu => by cases hu) (by unfold maxLen; omega) (by omega) hba.size ?_; intro v5 w5 hown5 hgrow5)
              obtain ⟨a9, c9, rfl, hfin⟩ := HF.out v5 w5 (by simpa using hown5) hgrow5
              have HE : Hid _ := hfin
              clear hown5 hgrow5 hfin
              go_wp2_with fail
              go_ret2
              exact HE.out

        · have hlt : ni < nj := by omega
          obtain ⟨g, o, rfl, hcl⟩ := Lies.some_at hl (by omega)
          obtain ⟨ps, hp1, hp2, hsrc, hsd⟩ := src_part hl ni nj hjl
          have HS : Hid (Src w (some ⟨g, o + ni * 4, none⟩) (nj - ni) 4 (ps.flatMap encP)) := hsrc
          have HF : Hid (∀ (v5 : Value) (w5 : World), w5.ownsRow w.heap.size 38 4 v5 (nj - ni) (ps.flatMap encP) → (w.alloc (.cells #[] 38)).grownBy w5 (some w.heap.size) → ∃ a9 c9, v5 = .slice a9 ((l.take nj).drop ni).length c9 ∧ LstPost R w (.returned (.tuple #[v5, .int .i64 0])) w5) := fun v5 w5 h6 h7 => hgr v5 w5 ps hp1 hsd (by rw [hp2]; exact h6) h7
          have hnc : nj ≤ c := by omega
          have hnci : (nj : Int) ≤ (c : Nat) := by omega
          have hcn : ¬ (c = ni) := by omega
          have hcni : ¬ ((c : Nat) : Int) = (ni : Nat) := by omega
          have hiji : (ni : Int) ≤ (nj : Nat) := by omega
          clear hgr hl hR hp1 hsd hsrc
          go_enter Try.func13, Try.ntmps13
          go_wp2_with fail
          refine Calls.mono HE1.out ?_
          rintro e w1 ⟨rfl, hw1⟩
          obtain rfl : w = w1 := hw1.symm
          go_wp2_with fail
          refine Calls.mono HE2.out ?_
          rintro e w1 ⟨rfl, hw1⟩
          obtain rfl : w = w1 := hw1.symm
          clear HE1 HE2
          go_wp2_with (at_builtin; refine wpList_append_row rfl _ _ rfl w.heap.size i0 Hi.out Hz0.out Hz1.out Hz2.out (.slice (some ⟨w.heap.size, 0, none⟩) 0 0) 0 [] rfl Hown.out _ _ _ (ps.flatMap encP) rfl HS.out.none HS.out.len (HS.out.cell hba) HS.out.one (by unfold maxLen; omega) (by omega) hba.size ?_; intro v5 w5 hown5 hgrow5)
          obtain ⟨a9, c9, rfl, hfin⟩ := HF.out v5 w5 (by simpa using hown5) hgrow5
          have HE : Hid _ := hfin
          clear hown5 hgrow5 hfin
          go_wp2_with fail
          go_ret2
          exact HE.out
      · rw [if_neg (fun h => h3 h.2.2)] at hR
        have hgt : ((j : Int) < i) := by omega
        have HR : Hid (R = .inr 5) := hR
        clear hl hlen hR
        go_enter Try.func13, Try.ntmps13
        go_wp2_with fail
        refine Calls.mono HE1.out ?_
        rintro e w1 ⟨rfl, hw1⟩
        obtain rfl : w = w1 := hw1.symm
        go_wp2_with fail
        refine Calls.mono HE2.out ?_
        rintro e w1 ⟨rfl, hw1⟩
        obtain rfl : w = w1 := hw1.symm
        have HE : Hid (LstPost R w (.returned (.tuple #[.slice none 0 0, .int .i64 5])) w) := by
          show LstPost _ _ _ _
          rw [HR.out]
          exact ⟨Below.refl _ _, rfl⟩
        clear HE1 HE2
        go_wp2_with fail
        go_ret2
        exact HE.out
    · rw [decide_eq_false h2] at HE2
      rw [if_neg (fun h => h2 h.2.1)] at hR
      have HR : Hid (R = .inr 5) := hR
      clear hl hlen hR
      go_enter Try.func13, Try.ntmps13
      go_wp2_with fail
      refine Calls.mono HE1.out ?_
      rintro e w1 ⟨rfl, hw1⟩
      obtain rfl : w = w1 := hw1.symm
      go_wp2_with fail
      refine Calls.mono HE2.out ?_
      rintro e w1 ⟨rfl, hw1⟩
      obtain rfl : w = w1 := hw1.symm
      have HE : Hid (LstPost R w (.returned (.tuple #[.slice none 0 0, .int .i64 5])) w) := by
        show LstPost _ _ _ _
        rw [HR.out]
        exact ⟨Below.refl _ _, rfl⟩
      clear HE1 HE2
      go_wp2_with fail
      go_ret2
      exact HE.out
  · rw [decide_eq_false h1] at HE1
    rw [if_neg (fun h => h1 h.1)] at hR
    have HR : Hid (R = .inr 5) := hR
    clear hl hlen hR
    go_enter Try.func13, Try.ntmps13
    go_wp2_with fail
    refine Calls.mono HE1.out ?_
    rintro e w1 ⟨rfl, hw1⟩
    obtain rfl : w = w1 := hw1.symm
    have HE : Hid (LstPost R w (.returned (.tuple #[.slice none 0 0, .int .i64 5])) w) := by
      show LstPost _ _ _ _
      rw [HR.out]
      exact ⟨Below.refl _ _, rfl⟩
    clear HE1 HE2
    go_wp2_with fail
    go_ret2
    exact HE.out

end Go.Proofs.Ytpnfmcmhcjekfab

namespace Go.Proofs.Ytpnfmcmhcjekfab
open Go.RowKit

/-- Two rows of one's own, apart. -/
structure Cs (w W : World) (vA : Value) (nA : Nat) (xA : List Value) (vB : Value) (nB : Nat) (xB : List Value) : Prop where
  below : Below w.heap.size w W
  a : W.ownsRow w.heap.size 38 4 vA nA xA
  b : W.ownsRow w.heap.size 38 4 vB nB xB
  ne : vA.ownBlock = none ∨ vA.ownBlock ≠ vB.ownBlock

theorem Cs.symm {w W : World} {vA : Value} {nA : Nat} {xA : List Value} {vB : Value} {nB : Nat} {xB : List Value} (h : Cs w W vA nA xA vB nB xB) : Cs w W vB nB xB vA nA xA :=
  ⟨h.below, h.b, h.a, by
    cases e : vB.ownBlock with
    | none => exact .inl rfl
    | some k =>
      refine .inr (fun e2 => ?_)
      rcases h.ne with e3 | e3
      · rw [e3] at e2; cases e2
      · exact e3 (by rw [e, ← e2])⟩

theorem Cs.drew {w W : World} {vA : Value} {nA : Nat} {xA : List Value} {vB : Value} {nB : Nat} {xB : List Value} (h : Cs w W vA nA xA vB nB xB) : Cs w W.drew vA nA xA vB nB xB := ⟨h.below.drew, h.a.drew, h.b.drew, h.ne⟩

theorem Cs.start (w : World) : Cs w w (.slice none 0 0) 0 [] (.slice none 0 0) 0 [] := ⟨Below.refl _ _, World.ownsRow_nil _ _ _ _, World.ownsRow_nil _ _ _ _, .inl rfl⟩

theorem Cs.made {w W : World} {vB : Value} {nB : Nat} {xB : List Value} (h : Cs w W (.slice none 0 0) 0 [] vB nB xB) : Cs w (W.alloc (.cells #[] 38)) (.slice (some ⟨W.heap.size, 0, none⟩) 0 0) 0 [] vB nB xB :=
  ⟨h.below.alloc h.below.size _, own_empty W _ h.below.size, h.b.alloc _, .inr (fun e => by
    have : W.heap.size < W.heap.size := (h.b.lt _ e.symm).2
    omega)⟩

theorem Cs.made2 {w W : World} {vA : Value} {nA : Nat} {xA : List Value} (h : Cs w W vA nA xA (.slice none 0 0) 0 []) : Cs w (W.alloc (.cells #[] 38)) vA nA xA (.slice (some ⟨W.heap.size, 0, none⟩) 0 0) 0 [] := h.symm.made.symm

theorem Cs.madeG {w W : World} {vB : Value} {nB : Nat} {xB : List Value} {g : Nat} (h : Cs w W (.slice none 0 0) 0 [] vB nB xB) (hg : W.heap.size = g) : Cs w (W.alloc (.cells #[] 38)) (.slice (some ⟨g, 0, none⟩) 0 0) 0 [] vB nB xB := hg ▸ h.made

theorem Cs.made2G {w W : World} {vA : Value} {nA : Nat} {xA : List Value} {g : Nat} (h : Cs w W vA nA xA (.slice none 0 0) 0 []) (hg : W.heap.size = g) : Cs w (W.alloc (.cells #[] 38)) vA nA xA (.slice (some ⟨g, 0, none⟩) 0 0) 0 [] := hg ▸ h.made2

theorem Src.nil (w : World) (a : Option Addr) : Src w a 0 4 [] := ⟨fun _ => rfl, rfl, fun _ _ _ _ h => by simp at h, fun u h => by cases h⟩

/-- A source appended to the first one, while it is empty. -/
theorem Cs.step {w W : World} {ops : Array Oper} {o : Oper} {act : Act} {K : Act → World → Prop} {Q : Exit → Act → World → Prop} {E : Prop} (hgd : o.guard = none) (s x : Operand)
    (ho : o.op = .call { callee := .builtin .append, args := #[s, x], argTypes := #[22, 22] })
    {g : Nat} {vB : Value} {nB : Nat} {xB : List Value} (hs : act.eval s = .slice (some ⟨g, 0, none⟩) 0 0) {aa : Option Addr} {m c : Nat} (hx : act.eval x = .slice aa m c) (hc : Cs w W (.slice (some ⟨g, 0, none⟩) 0 0) 0 [] vB nB xB)
    {news : List Value} (hsrc : Src w aa m 4 news) (hm : m ≤ 65536)
    (h : ∀ a' c' W', Cs w W' (.slice a' m c') m news vB nB xB → K (act.put o.dst (.slice a' m c')) W') :
    if Region.wanted o (yielded ops act.tmps) = true then Oper.wp Try.prog o act W K Q else E := by
  have hw : Region.wanted o (yielded ops act.tmps) = true := by simp [Region.wanted, hgd]
  rw [if_pos hw]
  obtain ⟨i0, hi, hz0, hz1, hz2⟩ := info24
  by_cases h0 : m = 0
  · subst h0
    have hn : news = [] := List.eq_nil_of_length_eq_zero (by have := hsrc.len; omega)
    subst hn
    have hr : ∀ ty, (Builtin.append_ #[22, 22] ty #[.slice (some ⟨g, 0, none⟩) 0 0, .slice aa 0 c]).run Try.prog W = .ok (.slice (some ⟨g, 0, none⟩) 0 0) W := fun ty => by
      cases aa <;> simp [Builtin.append_, run_underlying Try.underlying22, sizeOf, typeInfo, hi, Builtin.lenOf, Builtin.firstCells, loadCells, loadCellsFrom, storeCells]
    unfold Oper.wp execOp
    simp only [ho, resolve, invoke, builtin, Sem.run_bind, Sem.run_pure, Result.andThen_ok, List.map_toArray, List.map_cons, List.map_nil, hs, hx, hr]
    exact h _ _ _ hc
  · obtain ⟨ad, rfl⟩ : ∃ ad, aa = some ad := by
      cases e : aa with
      | none => exact absurd (hsrc.none e) h0
      | some ad => exact ⟨ad, rfl⟩
    obtain ⟨g', cap, w', hr, r1, r2, r3, r4⟩ := run_append_lies (P := Try.prog) W 22 o.type w.heap.size 38 i0 _ 4 56 Try.underlying22 hi hz0 hz1 hz2 rfl (by decide) _ 0 [] hc.a ad m c news hsrc.len (hsrc.cell hc.below ad rfl) hsrc.one (by omega) (by unfold maxLen; omega) (by omega) hc.below.size _ rfl
    rw [Nat.zero_add, List.nil_append] at r1
    unfold Oper.wp execOp
    simp only [ho, resolve, invoke, builtin, Sem.run_bind, Sem.run_pure, Result.andThen_ok, List.map_toArray, List.map_cons, List.map_nil, hs, hx, hr, Nat.zero_add]
    refine h _ _ _ ⟨hc.below.grown r2 hc.below.size (fun k e => (hc.a.lt k e).1), r1, hc.b.kept r2 hc.symm.ne, .inr (fun e => ?_)⟩
    have e1 : vB.ownBlock = some g' := e.symm
    rcases r3 with r3 | r3
    · rcases hc.ne with e3 | e3
      · rw [e3] at r3; cases r3
      · exact e3 (r3.trans e1.symm)
    · have := (hc.b.lt _ e1).2
      omega

/-- A list cut is told, or an error. -/
def CutL (l : List VT) (i : Int) (w : World) (e : Ending) (w' : World) : Prop :=
  Below w.heap.size w w' ∧ if endB l i then ∃ a1 c1 a2 c2, e = .returned (.tuple #[.slice a1 (l.take i.toNat).length c1, .slice a2 (l.drop i.toNat).length c2, .int .i64 0]) ∧ Lies 17 w' (l.take i.toNat) (.slice a1 (l.take i.toNat).length c1) ∧ Lies 17 w' (l.drop i.toNat) (.slice a2 (l.drop i.toNat).length c2)
    else e = .returned (.tuple #[.slice none 0 0, .slice none 0 0, .int .i64 5])

end Go.Proofs.Ytpnfmcmhcjekfab

