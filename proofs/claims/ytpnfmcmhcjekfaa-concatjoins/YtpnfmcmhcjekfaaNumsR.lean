/-
  Numbers as values; Pop of whatever vector.
-/
import Derived.Test.YtpnfmcmhcjekfaaAppSeq
import Derived.Deep.RegionHeld3
import Derived.Test.YtpnfmcmhcjekfaaOfP
import Derived.Test.YtpnfmcmhcjekfaaUtf
import Derived.Test.YtpnfmcmhcjekfaaJoinV
namespace Go.Proofs.Ytpnfmcmhcjekfaa
open Go.RowKit Go.Shelf

set_option maxRecDepth 100000 in
theorem vfrom_any (p : Option Addr) (i : Int) (w : World) : Calls Try.prog 75 #[.pointer p, .int .i64 i] w fun e w' => e = .returned (.func (.func 96) #[] #[.pointer (some ⟨w.heap.size, 0, none⟩), .pointer (some ⟨w.heap.size + 1, 0, none⟩)]) ∧ w' = (w.alloc (.cells #[.pointer p] 23)).alloc (.cells #[.int .i64 i] 3) := by
  go_enter Try.func75, Try.ntmps75
  go_wp2_with fail
  go_ret
  exact ⟨rfl, rfl⟩

/-- What kept tells: the items as they lie, in a list of their own. -/
def KeptPost (d : Nat) (l : List VT) (w : World) (e : Ending) (w' : World) : Prop := ∃ v, e = .returned v ∧ (∃ ps : List (VT × Value), ps.map (·.1) = l ∧ w'.ownsRow w.heap.size 31 4 v ps.length (ps.flatMap encP) ∧ ∀ p ∈ ps, Sound d w p) ∧ Below w.heap.size w w'

set_option maxRecDepth 100000 in
set_option maxHeartbeats 8000000 in
theorem kept_any (d : Nat) (l : List VT) (p : Value) (w : World) (h : VC d w l p) (hbig : l.length ≤ 65536) : Calls Try.prog 59 #[p] w (KeptPost d l w) := by
  obtain ⟨qs, hq1, hst⟩ := from_stops d w (fun _ => True) l p 0 h (fun _ _ => trivial) (by omega)
  have hql : qs.length ≤ 65536 := by
    have := congrArg List.length hq1
    rw [List.length_map] at this
    rw [this]
    unfold fromL
    split
    · rw [List.length_drop]; omega
    · simp
  have hq2 : qs.map (·.1.1) = l := by
    rw [hq1]
    unfold fromL
    by_cases h0 : (0 : Int) ≤ 0 ∧ (0 : Int) < (l.length : Int)
    · rw [if_pos h0]; simp
    · rw [if_neg h0]
      exact (List.eq_nil_of_length_eq_zero (by omega)).symm
  obtain ⟨i0, hi, hz0, hz1, hz2⟩ := infoV
  obtain ⟨L, hL⟩ : ∃ L, L = l.length := ⟨_, rfl⟩
  obtain ⟨M, hM⟩ : ∃ M, M = madeCells (Value.agg #[.int .i64 0, .int .i64 0, .string ⟨#[]⟩, .slice none 0 0]).cells (((L : Nat) : Int).toNat * i0.size) := ⟨_, rfl⟩
  have hMs : M.size = L * 4 := by rw [hM, size_madeCells, hz1]; simp
  have hmk : ∀ W : World, (Instr.makeSlice 22 (.int .i64 0) (.int .i64 (L : Int))).run Try.prog W = .ok (.slice (some ⟨W.heap.size, 0, none⟩) 0 L) (W.alloc (.cells M 31)) := fun W => by
    have h := run_make (P := Try.prog) W 22 31 i0 _ Try.underlying22 hi hz0 .i64 .i64 0 (L : Int) (by omega) (by omega) (by rw [hz2]; omega) (by omega)
    rw [← hM] at h
    simpa using h
  obtain ⟨po, rfl⟩ := h.shape
  have HLen : Hid (∀ V, Below w.heap.size w V → Calls Try.prog 24 #[.pointer po] V (NumPost L V)) := fun V hV => by
    rw [hL]; exact vlen_any d l _ V (h.keeps hV)
  have HApp : Hid (∀ (V : World) (g Bv Bp : Nat), Below w.heap.size w V → V.ownsRow w.heap.size 31 4 (.slice (some ⟨g, 0, none⟩) 0 L) 0 [] → Bv < V.heap.size → Bp < V.heap.size → V.cell? ⟨Bv, 0, none⟩ = some (.pointer po) → V.cell? ⟨Bp, 0, none⟩ = some (.int .i64 0) →
      Calls Try.prog 81 #[.slice (some ⟨g, 0, none⟩) 0 L, .func (.func 96) #[] #[.pointer (some ⟨Bv, 0, none⟩), .pointer (some ⟨Bp, 0, none⟩)]] V (KeptPost d l w)) := fun V g Bv Bp hV hrow hlv hlp hv hp => by
    refine (appendSeq_any d w (fun _ => True) qs hql _ _ V hV hrow (fun W hW => hst 5 Bv Bp W (hV.trans (hW.mono hV.size)) (Nat.lt_of_lt_of_le hlv hW.size) (Nat.lt_of_lt_of_le hlp hW.size) (cell_keeps hW hv) (cell_keeps hW hp))).mono ?_
    rintro e w' ⟨v, rfl, ho, hb⟩
    refine ⟨v, rfl, ⟨qs.map (·.1), by rw [List.map_map]; exact hq2, by rw [List.length_map, List.flatMap_map]; exact ho, fun p hp => ?_⟩, hV.trans hb⟩
    obtain ⟨q, _, rfl⟩ := List.mem_map.1 hp
    exact q.2.1
  have HMd : Hid (∀ (V : World), Below w.heap.size w V → (V.alloc (.cells M 31)).ownsRow w.heap.size 31 4 (.slice (some ⟨V.heap.size, 0, none⟩) 0 L) 0 []) := fun V hV => World.ownsRow_made V M L hV.size (by unfold maxLen; omega) hMs
  have cell1 : ∀ (V : World) (x y z : Obj) (i : Value) (T : Nat), x = .cells #[i] T → ((V.alloc x).alloc y).cell? ⟨V.heap.size, 0, none⟩ = some i ∧ (((V.alloc x).alloc y).alloc z).cell? ⟨V.heap.size, 0, none⟩ = some i := fun V x y z i T e => by
    subst e
    have h1 := (Go.Boxed.new V T i).alloc y
    exact ⟨h1.cell, (h1.alloc z).cell⟩
  have HA : Hid (∀ V, Below w.heap.size w V → Below w.heap.size w (((V.alloc (.cells M 31)).alloc (.cells #[.pointer po] 23)).alloc (.cells #[.int .i64 0] 3)) ∧ (((V.alloc (.cells M 31)).alloc (.cells #[.pointer po] 23)).alloc (.cells #[.int .i64 0] 3)).ownsRow w.heap.size 31 4 (.slice (some ⟨V.heap.size, 0, none⟩) 0 L) 0 [] ∧ V.heap.size + 1 < (((V.alloc (.cells M 31)).alloc (.cells #[.pointer po] 23)).alloc (.cells #[.int .i64 0] 3)).heap.size ∧ V.heap.size + 1 + 1 < (((V.alloc (.cells M 31)).alloc (.cells #[.pointer po] 23)).alloc (.cells #[.int .i64 0] 3)).heap.size ∧
      (((V.alloc (.cells M 31)).alloc (.cells #[.pointer po] 23)).alloc (.cells #[.int .i64 0] 3)).cell? ⟨V.heap.size + 1, 0, none⟩ = some (.pointer po) ∧ (((V.alloc (.cells M 31)).alloc (.cells #[.pointer po] 23)).alloc (.cells #[.int .i64 0] 3)).cell? ⟨V.heap.size + 1 + 1, 0, none⟩ = some (.int .i64 0)) := fun V hV => by
    refine ⟨((hV.alloc hV.size _).alloc (by simp; have := hV.size; omega) _).alloc (by simp; have := hV.size; omega) _, ((HMd.out _ hV).alloc _).alloc _, by simp, by simp, ?_, ?_⟩
    · have h1 := (cell1 (V.alloc (.cells M 31)) _ (.cells #[.int .i64 0] 3) (.cells #[.int .i64 0] 3) (.pointer po) 23 rfl).1
      rwa [World.size_alloc] at h1
    · have h1 := (Go.Boxed.new ((V.alloc (.cells M 31)).alloc (.cells #[.pointer po] 23)) 3 (.int .i64 0)).cell
      rwa [World.size_alloc, World.size_alloc] at h1
  have HB : Hid (∀ V, Below w.heap.size w V → Below w.heap.size w (((V.alloc (.cells #[.pointer po] 23)).alloc (.cells #[.int .i64 0] 3)).alloc (.cells M 31)) ∧ (((V.alloc (.cells #[.pointer po] 23)).alloc (.cells #[.int .i64 0] 3)).alloc (.cells M 31)).ownsRow w.heap.size 31 4 (.slice (some ⟨V.heap.size + 1 + 1, 0, none⟩) 0 L) 0 [] ∧ V.heap.size < (((V.alloc (.cells #[.pointer po] 23)).alloc (.cells #[.int .i64 0] 3)).alloc (.cells M 31)).heap.size ∧ V.heap.size + 1 < (((V.alloc (.cells #[.pointer po] 23)).alloc (.cells #[.int .i64 0] 3)).alloc (.cells M 31)).heap.size ∧
      (((V.alloc (.cells #[.pointer po] 23)).alloc (.cells #[.int .i64 0] 3)).alloc (.cells M 31)).cell? ⟨V.heap.size, 0, none⟩ = some (.pointer po) ∧ (((V.alloc (.cells #[.pointer po] 23)).alloc (.cells #[.int .i64 0] 3)).alloc (.cells M 31)).cell? ⟨V.heap.size + 1, 0, none⟩ = some (.int .i64 0)) := fun V hV => by
    refine ⟨((hV.alloc hV.size _).alloc (by simp; have := hV.size; omega) _).alloc (by simp; have := hV.size; omega) _, ?_, (by first | (simp; done) | (simp; omega)), (by first | (simp; done) | (simp; omega)), (cell1 V _ _ _ _ _ rfl).2, ?_⟩
    · have h1 := HMd.out _ ((hV.alloc hV.size (.cells #[.pointer po] 23)).alloc (by simp; have := hV.size; omega) (.cells #[.int .i64 0] 3))
      rwa [World.size_alloc, World.size_alloc] at h1
    · have h1 := (cell1 (V.alloc (.cells #[.pointer po] 23)) _ (.cells M 31) (.cells M 31) (.int .i64 0) 3 rfl).1
      rwa [World.size_alloc] at h1
  clear cell1 hst hq1 hq2 hql hM hMs hi hz0 hz1 hz2 h hL
  go_enter Try.func59, Try.ntmps59
  go_wp2_with fail
  go_region_held3 (fun _ => True) (first | trivial | go_keep)
    (first
      | (go_at_call 75; refine (vfrom_any _ _ _).mono ?_; rintro e w3 ⟨rfl, rfl⟩)
      | (go_at_call 24; refine (HLen.out _ (Below.refl _ _).drew).mono ?_; rintro e w1 ⟨rfl, hb1'⟩; have hb1 : Below w.heap.size w w1 := (Below.refl _ _).drew.trans hb1'; clear hb1')
      | (go_at_call 81
         refine (HApp.out _ _ _ _ (by first | exact (HA.out w1 hb1).1 | exact (HB.out w1 hb1).1) (by first | exact (HA.out w1 hb1).2.1 | exact (HB.out w1 hb1).2.1) (by first | exact (HA.out w1 hb1).2.2.1 | exact (HB.out w1 hb1).2.2.1) (by first | exact (HA.out w1 hb1).2.2.2.1 | exact (HB.out w1 hb1).2.2.2.1) (by first | exact (HA.out w1 hb1).2.2.2.2.1 | exact (HB.out w1 hb1).2.2.2.2.1) (by first | exact (HA.out w1 hb1).2.2.2.2.2 | exact (HB.out w1 hb1).2.2.2.2.2)).mono ?_
         rintro e w4 ⟨v4, rfl, hx⟩
         have HE : Hid (KeptPost d l w (.returned v4) w4) := ⟨v4, rfl, hx⟩
         clear hx))
  all_goals (first | (go_ret; exact HE.out) | (go_wp2_with fail; go_ret; exact HE.out))

theorem KeptPost.lies {d : Nat} {l : List VT} {w : World} {e : Ending} {w' : World} (h : KeptPost d l w e w') (hbig : l.length ≤ 65536) : ∃ v, e = .returned v ∧ Lies (d + 1) w' l v ∧ Below w.heap.size w w' := by
  obtain ⟨v, rfl, ⟨ps, rfl, hown, hsd⟩, hb⟩ := h
  exact ⟨v, rfl, own_lies rfl hown (fun p hp => (hsd p hp).keeps hb) (by rw [List.length_map] at hbig; omega), hb⟩

/-- What Items tells: new lists throughout. -/
def ItemsPost (l : List VT) (w : World) (e : Ending) (w' : World) : Prop := ∃ v, e = .returned v ∧ LiesB w.heap.size 17 w' l v ∧ Below w.heap.size w w'

theorem LiesB.mono {b b' : Nat} (hb : b' ≤ b) {w : World} : ∀ (d : Nat) (l : List VT) (v : Value), LiesB b d w l v → LiesB b' d w l v := by
  intro d
  induction d with
  | zero => intro l v h; exact h
  | succ d ih =>
    intro l v h
    obtain ⟨a, c, e, h1, hr⟩ := h
    refine ⟨a, c, e, h1, fun hne => ?_⟩
    obtain ⟨bb, o, ha, hbb, h2, hall⟩ := hr hne
    refine ⟨bb, o, ha, by omega, h2, fun i hi => ?_⟩
    obtain ⟨u, c0, c1, c2, c3, hL, hs⟩ := hall i hi
    exact ⟨u, c0, c1, c2, c3, ih _ _ hL, hs⟩

set_option maxRecDepth 100000 in
set_option maxHeartbeats 4000000 in
theorem items_any (l : List VT) (p : Value) (w : World) (h : VC 16 w l p) (hbig : l.length ≤ 65536) (hR : l.all (rightV 16) = true) : Calls Try.prog 29 #[p] w (ItemsPost l w) := by
  obtain ⟨po, rfl⟩ := h.shape
  have HK : Hid (Calls Try.prog 59 #[.pointer po] w fun e w' => ∃ v, e = .returned v ∧ Lies 17 w' l v ∧ Below w.heap.size w w') := Calls.mono (kept_any 16 l _ w h hbig) (fun e w' h => h.lies hbig)
  have HC : Hid (∀ (V : World) (v : Value), Lies 17 V l v → Calls Try.prog 44 #[v] V fun e w' => ∃ u, e = .returned u ∧ LiesB V.heap.size 17 w' l u ∧ Below V.heap.size V w') := fun V v hv => copyAll_core 16 l v V hv hbig (fun x u W hx hu _ => copyR x u W hu (List.all_eq_true.1 hR x hx))
  clear h hR hbig
  go_enter Try.func29, Try.ntmps29
  go_wp2_with fail
  refine Calls.mono HK.out ?_
  rintro e w1 ⟨v1, rfl, hv1, hb1⟩
  obtain ⟨a1, c1, rfl, _⟩ := Lies.slice hv1
  have HC1 : Hid _ := HC.out w1 _ hv1
  clear hv1 HK HC
  go_wp2_with fail
  refine Calls.mono HC1.out ?_
  rintro e w2 ⟨v2, rfl, hv2, hb2⟩
  have HE : Hid (ItemsPost l w (.returned v2) w2) := ⟨v2, rfl, LiesB.mono hb1.size _ _ _ hv2, hb1.trans (hb2.mono hb1.size)⟩
  obtain ⟨a2, c2, rfl, _⟩ := Lies.slice (LiesB.lies _ _ _ hv2)
  clear hv2 HC1
  go_wp2_with fail
  go_ret
  exact HE.out

end Go.Proofs.Ytpnfmcmhcjekfaa

namespace Go.Proofs.Ytpnfmcmhcjekfaa
open Go.RowKit

/-- Is the value right, read to whatever depth it lies in? -/
def ofN (n : Nat) (l : List VT) : List VT ⊕ Nat := if 65536 < l.length then .inr 2 else if l.all (rightV n) then .inl l else .inr 3
def pushN (n : Nat) (l : List VT) (x : VT) : List VT ⊕ Nat := if rightV n x = true then (if l.length + 1 ≤ 65536 then .inl (l ++ [x]) else .inr 2) else .inr 3
def setN (n : Nat) (l : List VT) (i : Int) (x : VT) : List VT ⊕ Nat := if rightV n x = true then (if 0 ≤ i ∧ i < (l.length : Int) then .inl (l.set i.toNat x) else .inr 5) else .inr 3

theorem canonL {w : World} {n : Nat} {l : List VT} {u : Value} (h : Lies (n + 1) w l u) (hr : l.all (rightV n) = true) : Lies 17 w l u ∧ l.all (rightV 16) = true := by
  have hall : ∀ x ∈ l, Dp 16 x ∧ rightV 16 x = true := fun x hx => by
    obtain ⟨a, c, e, _, hr1⟩ := h
    obtain ⟨i, hi, rfl⟩ := List.getElem_of_mem hx
    obtain ⟨b, o, ha, hrow⟩ := hr1 (fun e => by rw [e] at hi; cases hi)
    obtain ⟨v, _, _, _, _, hL, _⟩ := hrow i hi
    have hd := Dp.of_lies n w _ v hL
    have hrx := List.all_eq_true.1 hr _ (List.getElem_mem hi)
    exact ⟨right_deep hrx hd, (canon hL hrx).2⟩
  exact ⟨Lies.lower 17 (n + 1) l u h (by omega) (fun x hx => (hall x hx).1), List.all_eq_true.2 fun x hx => (hall x hx).2⟩

set_option maxRecDepth 100000 in
set_option maxHeartbeats 4000000 in
theorem of_n (n : Nat) (l : List VT) (u : Value) (w : World) (hu : Lies (n + 1) w l u) : Calls Try.prog 9 #[u] w (VecPost 16 (ofN n l) w) := by
  by_cases hg : l.length ≤ 65536 ∧ l.all (rightV n) = true
  · obtain ⟨h1, h2⟩ := canonL hu hg.2
    have e : ofN n l = ofR l := by
      unfold ofN ofR
      rw [if_neg (show ¬ 65536 < l.length by omega), if_pos hg.2, if_neg (show ¬ 65536 < l.length by omega), if_pos h2]
    rw [e]
    exact of_any l u w h1
  · have HCk : Hid _ := checkAll_any n l u w hu
    obtain ⟨k, hk, hke⟩ : ∃ k : Nat, ofN n l = .inr k ∧ (k = 2 ∨ k = 3) ∧ listErr n l = (k : Int) := by
      unfold ofN listErr
      by_cases h1 : 65536 < l.length
      · exact ⟨2, by rw [if_pos h1], .inl rfl, by rw [if_pos h1]; rfl⟩
      · by_cases h2 : l.all (rightV n) = true
        · exact absurd ⟨by omega, h2⟩ hg
        · exact ⟨3, by rw [if_neg h1, if_neg h2], .inr rfl, by rw [if_neg h1, if_neg h2]; rfl⟩
    rw [hk]
    rw [hke.2] at HCk
    obtain ⟨a, c, rfl, _⟩ := Lies.slice hu
    clear hu hg hk
    rcases hke.1 with rfl | rfl
    all_goals
      go_enter Try.func9, Try.ntmps9
      go_wp2_with fail
      refine Calls.mono HCk.out ?_
      rintro e w1 ⟨rfl, hb1⟩
      clear HCk
      go_wp2_with fail
      go_ret2
      exact ⟨hb1, rfl⟩

theorem lies_oneN {n : Nat} {w : World} {t : VT} {u : Value} {b : Nat} (c0 : w.cell? ⟨b, 0, none⟩ = some (.int .i64 t.kind)) (c1 : w.cell? ⟨b, 1, none⟩ = some (.int .i64 t.num)) (c2 : w.cell? ⟨b, 2, none⟩ = some (.string t.text)) (c3 : w.cell? ⟨b, 3, none⟩ = some u) (hl : Lies n w t.items u) (hs : t.text.size ≤ 9223372036854775807) : Lies (n + 1) w [t] (.slice (some ⟨b, 0, none⟩) 1 1) := by
  refine ⟨_, 1, rfl, ⟨by simp, by simp⟩, fun _ => ⟨b, 0, rfl, fun i hi => ?_⟩⟩
  have : i = 0 := by simp at hi; omega
  subst this
  exact ⟨u, by simpa using c0, by simpa using c1, by simpa using c2, by simpa using c3, hl, hs⟩

set_option maxRecDepth 100000 in
set_option maxHeartbeats 4000000 in
theorem push_n (n : Nat) (l : List VT) (p : Value) (x : VT) (ax : Option Addr) (cx : Nat) (w : World) (h : VC 16 w l p) (hx : Lies n w x.items (.slice ax x.items.length cx)) (hts : x.text.size ≤ 9223372036854775807) (hlen : l.length ≤ 65536) :
    Calls Try.prog 20 #[p, .agg #[.int .i64 x.kind, .int .i64 x.num, .string x.text, .slice ax x.items.length cx]] w (VecPost 16 (pushN n l x) w) := by
  by_cases hr : rightV n x = true
  · obtain ⟨h1, h2⟩ := canon hx hr
    have e : pushN n l x = pushR l x := by
      unfold pushN pushR
      rw [if_pos hr, if_pos h2]
    rw [e]
    exact push_any l p x ax cx w h h1 hts hlen
  · have e : pushN n l x = .inr 3 := by unfold pushN; rw [if_neg hr]
    rw [e]
    obtain ⟨po, rfl⟩ := h.shape
    have hb1 : Below w.heap.size w ((w.alloc (.cells #[.int .i64 x.kind, .int .i64 x.num, .string x.text, .slice ax x.items.length cx] 31)).alloc (.cells #[.int .i64 x.kind, .int .i64 x.num, .string x.text, .slice ax x.items.length cx] 31)) := (((Grew.refl w).alloc _).alloc _).below
    have HOf : Hid (Calls Try.prog 9 #[.slice (some ⟨w.heap.size + 1, 0, none⟩) 1 1] ((w.alloc (.cells #[.int .i64 x.kind, .int .i64 x.num, .string x.text, .slice ax x.items.length cx] 31)).alloc (.cells #[.int .i64 x.kind, .int .i64 x.num, .string x.text, .slice ax x.items.length cx] 31)) (VecPost 16 (.inr 3) ((w.alloc (.cells #[.int .i64 x.kind, .int .i64 x.num, .string x.text, .slice ax x.items.length cx] 31)).alloc (.cells #[.int .i64 x.kind, .int .i64 x.num, .string x.text, .slice ax x.items.length cx] 31)))) := by
      have h9 := of_n n [x] _ _ (lies_oneN (u := .slice ax x.items.length cx) (b := w.heap.size + 1) (w := (w.alloc (.cells #[.int .i64 x.kind, .int .i64 x.num, .string x.text, .slice ax x.items.length cx] 31)).alloc (.cells #[.int .i64 x.kind, .int .i64 x.num, .string x.text, .slice ax x.items.length cx] 31)) (by simp) (by simp) (by simp) (by simp) (Lies.keeps hb1 _ _ _ hx) hts)
      have e2 : ofN n [x] = .inr 3 := by
        unfold ofN
        rw [if_neg (by simp), if_neg (by simpa using hr)]
      rw [e2] at h9
      exact h9
    have Hb1 : Hid (Below w.heap.size w ((w.alloc (.cells #[.int .i64 x.kind, .int .i64 x.num, .string x.text, .slice ax x.items.length cx] 31)).alloc (.cells #[.int .i64 x.kind, .int .i64 x.num, .string x.text, .slice ax x.items.length cx] 31))) := hb1
    obtain ⟨x0, x1, x2, x3, z0, z1, z2, z3⟩ := bx_alloc w x (.slice ax x.items.length cx)
    clear hx hts hr e h hb1 hlen
    go_enter Try.func20, Try.ntmps20
    go_wp2_with fail
    refine Calls.mono HOf.out ?_
    rintro e w1 ⟨hg1, rfl⟩
    have HE : Hid (VecPost 16 (.inr 3) w (.returned (.tuple #[.pointer none, .int .i64 3])) w1) := ⟨Hb1.out.trans (hg1.mono Hb1.out.size), rfl⟩
    clear HOf x0 x1 x2 x3 z0 z1 z2 z3
    go_wp2_with fail
    go_ret2
    exact HE.out

set_option maxRecDepth 100000 in
set_option maxHeartbeats 8000000 in
theorem vset_n (n : Nat) (l : List VT) (p : Value) (i : Int) (x : VT) (ax : Option Addr) (cx : Nat) (w : World) (h : VC 16 w l p) (hx : Lies n w x.items (.slice ax x.items.length cx)) (hts : x.text.size ≤ 9223372036854775807) (hbig : l.length ≤ 1099511627776) :
    Calls Try.prog 18 #[p, .int .i64 i, .agg #[.int .i64 x.kind, .int .i64 x.num, .string x.text, .slice ax x.items.length cx]] w (VecPost 16 (setN n l i x) w) := by
  by_cases hr : rightV n x = true
  · obtain ⟨h1, h2⟩ := canon hx hr
    have e : setN n l i x = setR l i x := by
      unfold setN setR
      rw [if_pos hr, if_pos h2]
    rw [e]
    exact vset_any l p i x ax cx w h h1 hts hbig
  · have e : setN n l i x = .inr 3 := by unfold setN; rw [if_neg hr]
    rw [e]
    have hb0 : Below w.heap.size w (w.alloc (.cells #[.int .i64 x.kind, .int .i64 x.num, .string x.text, .slice ax x.items.length cx] 31)) := ((Grew.refl w).alloc _).below
    have Hb0 : Hid (Below w.heap.size w (w.alloc (.cells #[.int .i64 x.kind, .int .i64 x.num, .string x.text, .slice ax x.items.length cx] 31))) := hb0
    have HCk : Hid _ := check_any n x (.slice ax x.items.length cx) _ (Lies.keeps hb0 _ _ _ hx) hts
    obtain ⟨x0, x1, x2, x3, z0, z1, z2, z3⟩ := bx_alloc w x (.slice ax x.items.length cx)
    have hr' : rightV n x = false := by simpa using hr
    rw [hr'] at HCk
    clear h hx hts hbig hr hr' hb0 e
    go_enter Try.func18, Try.ntmps18
    go_wp2_with fail
    refine Calls.mono HCk.out ?_
    rintro e w1 ⟨rfl, hg1⟩
    have HE : Hid (VecPost 16 (.inr 3) w (.returned (.tuple #[.pointer none, .int .i64 3])) w1) := ⟨Hb0.out.trans (hg1.mono Hb0.out.size), rfl⟩
    clear HCk x0 x1 x2 x3 z0 z1 z2 z3
    simp only [errOf]
    go_wp2_with fail
    go_ret2
    exact HE.out

end Go.Proofs.Ytpnfmcmhcjekfaa

namespace Go.Proofs.Ytpnfmcmhcjekfaa
open Go.RowKit

/-- A number as a value's tree. -/
def numT (n : Int) : VT := ⟨2, n, ⟨#[]⟩, []⟩
def numP (n : Int) : VT × Value := (numT n, .slice none 0 0)

theorem right_num (n : Int) : rightV 16 (numT n) = true := by
  simp [rightV, fw, fwL, rpV, ownV, okNum, okText, okItems, numT]

theorem nums_cells (zs : List Int) : zs.flatMap cellsInt = (zs.map numP).flatMap encP := by
  induction zs with
  | nil => rfl
  | cons z zs ih => rw [List.flatMap_cons, List.map_cons, List.flatMap_cons, ih]; rfl

theorem lies_nilD (d : Nat) (w : World) : Lies d w [] (.slice none 0 0) := by
  cases d with
  | zero => exact ⟨rfl, none, 0, rfl⟩
  | succ d => exact ⟨none, 0, rfl, by simp, fun h => absurd rfl h⟩

theorem nums_lies {w : World} {b c : Nat} (zs : List Int) (h : RowAt w b 0 (zs.map numP)) (hl : zs.length ≤ 1000) (hc : zs.length ≤ c) : Lies 17 w (zs.map numT) (.slice (some ⟨b, 0, none⟩) zs.length c) := by
  have := lies_of_row (d := 16) (c := c) h (fun p hp => by
    obtain ⟨z, _, rfl⟩ := List.mem_map.1 hp
    exact ⟨lies_nilD _ _, by show 0 ≤ 9223372036854775807; omega⟩) (by simp; omega) (by simpa using hc)
  simpa [List.map_map, Function.comp_def, numP] using this

theorem nums_right (zs : List Int) : (zs.map numT).all (rightV 16) = true := by
  rw [List.all_eq_true]
  intro x hx
  obtain ⟨z, _, rfl⟩ := List.mem_map.1 hx
  exact right_num z

theorem nums_of (zs : List Int) (h : zs.length ≤ 1000) : ofR (zs.map numT) = .inl (zs.map numT) := by
  unfold ofR
  rw [if_neg (by simp; omega), if_pos (nums_right zs)]

set_option maxHeartbeats 1000000 in
theorem nums_any (zs : List Int) (b cap : Nat) (w : World) (h0 : zs ≠ []) (hz : zs.length ≤ 1000) (hc : ∀ (i : Nat) (h : i < zs.length), w.cell? ⟨b, 0 + i, none⟩ = some (.int .i64 (zs[i]'h))) :
    Calls Try.prog 46 #[.slice (some ⟨b, 0, none⟩) zs.length cap] w fun e w' => ∃ g c, e = .returned (.slice (some ⟨g, 0, none⟩) zs.length c) ∧ Lies 17 w' (zs.map numT) (.slice (some ⟨g, 0, none⟩) zs.length c) ∧ Below w.heap.size w w' := by
  refine (ints_any b zs cap w hz hc).mono ?_
  rintro e w1 ⟨v, rfl, hown, hb⟩
  rw [nums_cells] at hown
  obtain ⟨g, c, rfl, _, hcp, _, hrow, _⟩ := own_row (ps := zs.map numP) (by simpa using hown) (by simpa using h0)
  refine ⟨g, c, by simp, nums_lies zs hrow hz (by simpa using hcp), hb⟩

/-- A vector whose items are right. -/
structure VV (w : World) (l : List VT) (p : Value) : Prop where
  vc : VC 16 w l p
  len : l.length ≤ 65536
  right : l.all (rightV 16) = true

theorem VV.keeps {w w' : World} {l : List VT} {p : Value} (h : VV w l p) (hb : Below w.heap.size w w') : VV w' l p := ⟨h.vc.keeps hb, h.len, h.right⟩

theorem vpop_any (l : List VT) (p : Value) (w : World) (h : VV w l p) : Calls Try.prog 22 #[p] w (PopPost l w) := by
  rcases List.eq_nil_or_concat l with rfl | ⟨m, x, rfl⟩
  · exact vpop_nil p w h.vc
  · rw [List.concat_eq_append] at h ⊢
    have hr := h.right
    rw [List.all_append, Bool.and_eq_true] at hr
    have hl := h.len
    rw [List.length_append] at hl
    exact vpop_some m x p w h.vc (by simpa using hr.2) hl

end Go.Proofs.Ytpnfmcmhcjekfaa

