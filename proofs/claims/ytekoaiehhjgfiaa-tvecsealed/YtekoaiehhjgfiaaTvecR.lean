/-
  Set, Seal, Len and Begin of a transient; chapter 13's little program.
-/
import Derived.Test.YtekoaiehhjgfiaaAppSeq
import Derived.Deep.RegionHeld3
import Derived.Test.YtekoaiehhjgfiaaOfP
import Derived.BigRegion
import Derived.Test.YtekoaiehhjgfiaaUtf
import Derived.Test.YtekoaiehhjgfiaaJoinV
import Derived.Test.YtekoaiehhjgfiaaVals
namespace Go.Proofs.Ytekoaiehhjgfiaa
open Go.RowKit Go.Shelf

set_option maxRecDepth 100000 in
theorem vfrom_any (p : Option Addr) (i : Int) (w : World) : Calls Try.prog 43 #[.pointer p, .int .i64 i] w fun e w' => e = .returned (.func (.func 56) #[] #[.pointer (some ⟨w.heap.size, 0, none⟩), .pointer (some ⟨w.heap.size + 1, 0, none⟩)]) ∧ w' = (w.alloc (.cells #[.pointer p] 24)).alloc (.cells #[.int .i64 i] 3) := by
  go_enter Try.func43, Try.ntmps43
  go_wp2_with fail
  go_ret
  exact ⟨rfl, rfl⟩

/-- What kept tells: the items as they lie, in a list of their own. -/
def KeptPost (d : Nat) (l : List VT) (w : World) (e : Ending) (w' : World) : Prop := ∃ v, e = .returned v ∧ (∃ ps : List (VT × Value), ps.map (·.1) = l ∧ w'.ownsRow w.heap.size 33 4 v ps.length (ps.flatMap encP) ∧ ∀ p ∈ ps, Sound d w p) ∧ Below w.heap.size w w'

set_option maxRecDepth 100000 in
set_option maxHeartbeats 8000000 in
theorem kept_any (d : Nat) (l : List VT) (p : Value) (w : World) (h : VC d w l p) (hbig : l.length ≤ 65536) : Calls Try.prog 28 #[p] w (KeptPost d l w) := by
  obtain ⟨qs, hq1, hst⟩ := from_stops d w (fun _ => True) l p 0 h (fun _ _ => trivial) (by omega)
  have hql : qs.length ≤ 65536 := by
    have := congrArg List.length hq1
    rw [List.length_map] at this
    rw [this]
    unfold fromL
    split
    · rw [List.length_drop]; omega
    · simp
  have hq2 : qs.map (·.1.1) = l := by
    rw [hq1]
    unfold fromL
    by_cases h0 : (0 : Int) ≤ 0 ∧ (0 : Int) < (l.length : Int)
    · rw [if_pos h0]; simp
    · rw [if_neg h0]
      exact (List.eq_nil_of_length_eq_zero (by omega)).symm
  obtain ⟨i0, hi, hz0, hz1, hz2⟩ := infoV
  obtain ⟨L, hL⟩ : ∃ L, L = l.length := ⟨_, rfl⟩
  obtain ⟨M, hM⟩ : ∃ M, M = madeCells (Value.agg #[.int .i64 0, .int .i64 0, .string ⟨#[]⟩, .slice none 0 0]).cells (((L : Nat) : Int).toNat * i0.size) := ⟨_, rfl⟩
  have hMs : M.size = L * 4 := by rw [hM, size_madeCells, hz1]; simp
  have hmk : ∀ W : World, (Instr.makeSlice 22 (.int .i64 0) (.int .i64 (L : Int))).run Try.prog W = .ok (.slice (some ⟨W.heap.size, 0, none⟩) 0 L) (W.alloc (.cells M 33)) := fun W => by
    have h := run_make (P := Try.prog) W 22 33 i0 _ Try.underlying22 hi hz0 .i64 .i64 0 (L : Int) (by omega) (by omega) (by rw [hz2]; omega) (by omega)
    rw [← hM] at h
    simpa using h
  obtain ⟨po, rfl⟩ := h.shape
  have HLen : Hid (∀ V, Below w.heap.size w V → Calls Try.prog 22 #[.pointer po] V (NumPost L V)) := fun V hV => by
    rw [hL]; exact vlen_any d l _ V (h.keeps hV)
  have HApp : Hid (∀ (V : World) (g Bv Bp : Nat), Below w.heap.size w V → V.ownsRow w.heap.size 33 4 (.slice (some ⟨g, 0, none⟩) 0 L) 0 [] → Bv < V.heap.size → Bp < V.heap.size → V.cell? ⟨Bv, 0, none⟩ = some (.pointer po) → V.cell? ⟨Bp, 0, none⟩ = some (.int .i64 0) →
      Calls Try.prog 42 #[.slice (some ⟨g, 0, none⟩) 0 L, .func (.func 56) #[] #[.pointer (some ⟨Bv, 0, none⟩), .pointer (some ⟨Bp, 0, none⟩)]] V (KeptPost d l w)) := fun V g Bv Bp hV hrow hlv hlp hv hp => by
    refine (appendSeq_any d w (fun _ => True) qs hql _ _ V hV hrow (fun W hW => hst 5 Bv Bp W (hV.trans (hW.mono hV.size)) (Nat.lt_of_lt_of_le hlv hW.size) (Nat.lt_of_lt_of_le hlp hW.size) (cell_keeps hW hv) (cell_keeps hW hp))).mono ?_
    rintro e w' ⟨v, rfl, ho, hb⟩
    refine ⟨v, rfl, ⟨qs.map (·.1), by rw [List.map_map]; exact hq2, by rw [List.length_map, List.flatMap_map]; exact ho, fun p hp => ?_⟩, hV.trans hb⟩
    obtain ⟨q, _, rfl⟩ := List.mem_map.1 hp
    exact q.2.1
  have HMd : Hid (∀ (V : World), Below w.heap.size w V → (V.alloc (.cells M 33)).ownsRow w.heap.size 33 4 (.slice (some ⟨V.heap.size, 0, none⟩) 0 L) 0 []) := fun V hV => World.ownsRow_made V M L hV.size (by unfold maxLen; omega) hMs
  have cell1 : ∀ (V : World) (x y z : Obj) (i : Value) (T : Nat), x = .cells #[i] T → ((V.alloc x).alloc y).cell? ⟨V.heap.size, 0, none⟩ = some i ∧ (((V.alloc x).alloc y).alloc z).cell? ⟨V.heap.size, 0, none⟩ = some i := fun V x y z i T e => by
    subst e
    have h1 := (Go.Boxed.new V T i).alloc y
    exact ⟨h1.cell, (h1.alloc z).cell⟩
  have HA : Hid (∀ V, Below w.heap.size w V → Below w.heap.size w (((V.alloc (.cells M 33)).alloc (.cells #[.pointer po] 24)).alloc (.cells #[.int .i64 0] 3)) ∧ (((V.alloc (.cells M 33)).alloc (.cells #[.pointer po] 24)).alloc (.cells #[.int .i64 0] 3)).ownsRow w.heap.size 33 4 (.slice (some ⟨V.heap.size, 0, none⟩) 0 L) 0 [] ∧ V.heap.size + 1 < (((V.alloc (.cells M 33)).alloc (.cells #[.pointer po] 24)).alloc (.cells #[.int .i64 0] 3)).heap.size ∧ V.heap.size + 1 + 1 < (((V.alloc (.cells M 33)).alloc (.cells #[.pointer po] 24)).alloc (.cells #[.int .i64 0] 3)).heap.size ∧
      (((V.alloc (.cells M 33)).alloc (.cells #[.pointer po] 24)).alloc (.cells #[.int .i64 0] 3)).cell? ⟨V.heap.size + 1, 0, none⟩ = some (.pointer po) ∧ (((V.alloc (.cells M 33)).alloc (.cells #[.pointer po] 24)).alloc (.cells #[.int .i64 0] 3)).cell? ⟨V.heap.size + 1 + 1, 0, none⟩ = some (.int .i64 0)) := fun V hV => by
    refine ⟨((hV.alloc hV.size _).alloc (by simp; have := hV.size; omega) _).alloc (by simp; have := hV.size; omega) _, ((HMd.out _ hV).alloc _).alloc _, by simp, by simp, ?_, ?_⟩
    · have h1 := (cell1 (V.alloc (.cells M 33)) _ (.cells #[.int .i64 0] 3) (.cells #[.int .i64 0] 3) (.pointer po) 24 rfl).1
      rwa [World.size_alloc] at h1
    · have h1 := (Go.Boxed.new ((V.alloc (.cells M 33)).alloc (.cells #[.pointer po] 24)) 3 (.int .i64 0)).cell
      rwa [World.size_alloc, World.size_alloc] at h1
  have HB : Hid (∀ V, Below w.heap.size w V → Below w.heap.size w (((V.alloc (.cells #[.pointer po] 24)).alloc (.cells #[.int .i64 0] 3)).alloc (.cells M 33)) ∧ (((V.alloc (.cells #[.pointer po] 24)).alloc (.cells #[.int .i64 0] 3)).alloc (.cells M 33)).ownsRow w.heap.size 33 4 (.slice (some ⟨V.heap.size + 1 + 1, 0, none⟩) 0 L) 0 [] ∧ V.heap.size < (((V.alloc (.cells #[.pointer po] 24)).alloc (.cells #[.int .i64 0] 3)).alloc (.cells M 33)).heap.size ∧ V.heap.size + 1 < (((V.alloc (.cells #[.pointer po] 24)).alloc (.cells #[.int .i64 0] 3)).alloc (.cells M 33)).heap.size ∧
      (((V.alloc (.cells #[.pointer po] 24)).alloc (.cells #[.int .i64 0] 3)).alloc (.cells M 33)).cell? ⟨V.heap.size, 0, none⟩ = some (.pointer po) ∧ (((V.alloc (.cells #[.pointer po] 24)).alloc (.cells #[.int .i64 0] 3)).alloc (.cells M 33)).cell? ⟨V.heap.size + 1, 0, none⟩ = some (.int .i64 0)) := fun V hV => by
    refine ⟨((hV.alloc hV.size _).alloc (by simp; have := hV.size; omega) _).alloc (by simp; have := hV.size; omega) _, ?_, (by first | (simp; done) | (simp; omega)), (by first | (simp; done) | (simp; omega)), (cell1 V _ _ _ _ _ rfl).2, ?_⟩
    · have h1 := HMd.out _ ((hV.alloc hV.size (.cells #[.pointer po] 24)).alloc (by simp; have := hV.size; omega) (.cells #[.int .i64 0] 3))
      rwa [World.size_alloc, World.size_alloc] at h1
    · have h1 := (cell1 (V.alloc (.cells #[.pointer po] 24)) _ (.cells M 33) (.cells M 33) (.int .i64 0) 3 rfl).1
      rwa [World.size_alloc] at h1
  clear cell1 hst hq1 hq2 hql hM hMs hi hz0 hz1 hz2 h hL
  go_enter Try.func28, Try.ntmps28
  go_wp2_with fail
  go_region_held3 (fun _ => True) (first | trivial | go_keep)
    (first
      | (go_at_call 43; refine (vfrom_any _ _ _).mono ?_; rintro e w3 ⟨rfl, rfl⟩)
      | (go_at_call 22; refine (HLen.out _ (Below.refl _ _).drew).mono ?_; rintro e w1 ⟨rfl, hb1'⟩; have hb1 : Below w.heap.size w w1 := (Below.refl _ _).drew.trans hb1'; clear hb1')
      | (go_at_call 42
         refine (HApp.out _ _ _ _ (by first | exact (HA.out w1 hb1).1 | exact (HB.out w1 hb1).1) (by first | exact (HA.out w1 hb1).2.1 | exact (HB.out w1 hb1).2.1) (by first | exact (HA.out w1 hb1).2.2.1 | exact (HB.out w1 hb1).2.2.1) (by first | exact (HA.out w1 hb1).2.2.2.1 | exact (HB.out w1 hb1).2.2.2.1) (by first | exact (HA.out w1 hb1).2.2.2.2.1 | exact (HB.out w1 hb1).2.2.2.2.1) (by first | exact (HA.out w1 hb1).2.2.2.2.2 | exact (HB.out w1 hb1).2.2.2.2.2)).mono ?_
         rintro e w4 ⟨v4, rfl, hx⟩
         have HE : Hid (KeptPost d l w (.returned v4) w4) := ⟨v4, rfl, hx⟩
         clear hx))
  all_goals (first | (go_ret; exact HE.out) | (go_wp2_with fail; go_ret; exact HE.out))

theorem KeptPost.lies {d : Nat} {l : List VT} {w : World} {e : Ending} {w' : World} (h : KeptPost d l w e w') (hbig : l.length ≤ 65536) : ∃ v, e = .returned v ∧ Lies (d + 1) w' l v ∧ Below w.heap.size w w' := by
  obtain ⟨v, rfl, ⟨ps, rfl, hown, hsd⟩, hb⟩ := h
  exact ⟨v, rfl, own_lies rfl hown (fun p hp => (hsd p hp).keeps hb) (by rw [List.length_map] at hbig; omega), hb⟩

/-- What Items tells: new lists throughout. -/
def ItemsPost (l : List VT) (w : World) (e : Ending) (w' : World) : Prop := ∃ v, e = .returned v ∧ LiesB w.heap.size 17 w' l v ∧ Below w.heap.size w w'

theorem LiesB.mono {b b' : Nat} (hb : b' ≤ b) {w : World} : ∀ (d : Nat) (l : List VT) (v : Value), LiesB b d w l v → LiesB b' d w l v := by
  intro d
  induction d with
  | zero => intro l v h; exact h
  | succ d ih =>
    intro l v h
    obtain ⟨a, c, e, h1, hr⟩ := h
    refine ⟨a, c, e, h1, fun hne => ?_⟩
    obtain ⟨bb, o, ha, hbb, h2, hall⟩ := hr hne
    refine ⟨bb, o, ha, by omega, h2, fun i hi => ?_⟩
    obtain ⟨u, c0, c1, c2, c3, hL, hs⟩ := hall i hi
    exact ⟨u, c0, c1, c2, c3, ih _ _ hL, hs⟩

set_option maxRecDepth 100000 in
set_option maxHeartbeats 4000000 in
theorem items_any (l : List VT) (p : Value) (w : World) (h : VC 16 w l p) (hbig : l.length ≤ 65536) (hR : l.all (rightV 16) = true) : Calls Try.prog 10 #[p] w (ItemsPost l w) := by
  obtain ⟨po, rfl⟩ := h.shape
  have HK : Hid (Calls Try.prog 28 #[.pointer po] w fun e w' => ∃ v, e = .returned v ∧ Lies 17 w' l v ∧ Below w.heap.size w w') := Calls.mono (kept_any 16 l _ w h hbig) (fun e w' h => h.lies hbig)
  have HC : Hid (∀ (V : World) (v : Value), Lies 17 V l v → Calls Try.prog 19 #[v] V fun e w' => ∃ u, e = .returned u ∧ LiesB V.heap.size 17 w' l u ∧ Below V.heap.size V w') := fun V v hv => copyAll_core 16 l v V hv hbig (fun x u W hx hu _ => copyR x u W hu (List.all_eq_true.1 hR x hx))
  clear h hR hbig
  go_enter Try.func10, Try.ntmps10
  go_wp2_with fail
  refine Calls.mono HK.out ?_
  rintro e w1 ⟨v1, rfl, hv1, hb1⟩
  obtain ⟨a1, c1, rfl, _⟩ := Lies.slice hv1
  have HC1 : Hid _ := HC.out w1 _ hv1
  clear hv1 HK HC
  go_wp2_with fail
  refine Calls.mono HC1.out ?_
  rintro e w2 ⟨v2, rfl, hv2, hb2⟩
  have HE : Hid (ItemsPost l w (.returned v2) w2) := ⟨v2, rfl, LiesB.mono hb1.size _ _ _ hv2, hb1.trans (hb2.mono hb1.size)⟩
  obtain ⟨a2, c2, rfl, _⟩ := Lies.slice (LiesB.lies _ _ _ hv2)
  clear hv2 HC1
  go_wp2_with fail
  go_ret
  exact HE.out

end Go.Proofs.Ytekoaiehhjgfiaa

namespace Go.Proofs.Ytekoaiehhjgfiaa
open Go.RowKit

/-- Is the value right, read to whatever depth it lies in? -/
def ofN (n : Nat) (l : List VT) : List VT ⊕ Nat := if 65536 < l.length then .inr 2 else if l.all (rightV n) then .inl l else .inr 3
def pushN (n : Nat) (l : List VT) (x : VT) : List VT ⊕ Nat := if rightV n x = true then (if l.length + 1 ≤ 65536 then .inl (l ++ [x]) else .inr 2) else .inr 3
def setN (n : Nat) (l : List VT) (i : Int) (x : VT) : List VT ⊕ Nat := if rightV n x = true then (if 0 ≤ i ∧ i < (l.length : Int) then .inl (l.set i.toNat x) else .inr 5) else .inr 3

theorem canonL {w : World} {n : Nat} {l : List VT} {u : Value} (h : Lies (n + 1) w l u) (hr : l.all (rightV n) = true) : Lies 17 w l u ∧ l.all (rightV 16) = true := by
  have hall : ∀ x ∈ l, Dp 16 x ∧ rightV 16 x = true := fun x hx => by
    obtain ⟨a, c, e, _, hr1⟩ := h
    obtain ⟨i, hi, rfl⟩ := List.getElem_of_mem hx
    obtain ⟨b, o, ha, hrow⟩ := hr1 (fun e => by rw [e] at hi; cases hi)
    obtain ⟨v, _, _, _, _, hL, _⟩ := hrow i hi
    have hd := Dp.of_lies n w _ v hL
    have hrx := List.all_eq_true.1 hr _ (List.getElem_mem hi)
    exact ⟨right_deep hrx hd, (canon hL hrx).2⟩
  exact ⟨Lies.lower 17 (n + 1) l u h (by omega) (fun x hx => (hall x hx).1), List.all_eq_true.2 fun x hx => (hall x hx).2⟩

set_option maxRecDepth 100000 in
set_option maxHeartbeats 4000000 in
theorem of_n (n : Nat) (l : List VT) (u : Value) (w : World) (hu : Lies (n + 1) w l u) : Calls Try.prog 5 #[u] w (VecPost 16 (ofN n l) w) := by
  by_cases hg : l.length ≤ 65536 ∧ l.all (rightV n) = true
  · obtain ⟨h1, h2⟩ := canonL hu hg.2
    have e : ofN n l = ofR l := by
      unfold ofN ofR
      rw [if_neg (show ¬ 65536 < l.length by omega), if_pos hg.2, if_neg (show ¬ 65536 < l.length by omega), if_pos h2]
    rw [e]
    exact of_any l u w h1
  · have HCk : Hid _ := checkAll_any n l u w hu
    obtain ⟨k, hk, hke⟩ : ∃ k : Nat, ofN n l = .inr k ∧ (k = 2 ∨ k = 3) ∧ listErr n l = (k : Int) := by
      unfold ofN listErr
      by_cases h1 : 65536 < l.length
      · exact ⟨2, by rw [if_pos h1], .inl rfl, by rw [if_pos h1]; rfl⟩
      · by_cases h2 : l.all (rightV n) = true
        · exact absurd ⟨by omega, h2⟩ hg
        · exact ⟨3, by rw [if_neg h1, if_neg h2], .inr rfl, by rw [if_neg h1, if_neg h2]; rfl⟩
    rw [hk]
    rw [hke.2] at HCk
    obtain ⟨a, c, rfl, _⟩ := Lies.slice hu
    clear hu hg hk
    rcases hke.1 with rfl | rfl
    all_goals
      go_enter Try.func5, Try.ntmps5
      go_wp2_with fail
      refine Calls.mono HCk.out ?_
      rintro e w1 ⟨rfl, hb1⟩
      clear HCk
      go_wp2_with fail
      go_ret2
      exact ⟨hb1, rfl⟩

theorem lies_oneN {n : Nat} {w : World} {t : VT} {u : Value} {b : Nat} (c0 : w.cell? ⟨b, 0, none⟩ = some (.int .i64 t.kind)) (c1 : w.cell? ⟨b, 1, none⟩ = some (.int .i64 t.num)) (c2 : w.cell? ⟨b, 2, none⟩ = some (.string t.text)) (c3 : w.cell? ⟨b, 3, none⟩ = some u) (hl : Lies n w t.items u) (hs : t.text.size ≤ 9223372036854775807) : Lies (n + 1) w [t] (.slice (some ⟨b, 0, none⟩) 1 1) := by
  refine ⟨_, 1, rfl, ⟨by simp, by simp⟩, fun _ => ⟨b, 0, rfl, fun i hi => ?_⟩⟩
  have : i = 0 := by simp at hi; omega
  subst this
  exact ⟨u, by simpa using c0, by simpa using c1, by simpa using c2, by simpa using c3, hl, hs⟩

set_option maxRecDepth 100000 in
set_option maxHeartbeats 4000000 in
theorem push_n (n : Nat) (l : List VT) (p : Value) (x : VT) (ax : Option Addr) (cx : Nat) (w : World) (h : VC 16 w l p) (hx : Lies n w x.items (.slice ax x.items.length cx)) (hts : x.text.size ≤ 9223372036854775807) (hlen : l.length ≤ 65536) :
    Calls Try.prog 27 #[p, .agg #[.int .i64 x.kind, .int .i64 x.num, .string x.text, .slice ax x.items.length cx]] w (VecPost 16 (pushN n l x) w) := by
  by_cases hr : rightV n x = true
  · obtain ⟨h1, h2⟩ := canon hx hr
    have e : pushN n l x = pushR l x := by
      unfold pushN pushR
      rw [if_pos hr, if_pos h2]
    rw [e]
    exact push_any l p x ax cx w h h1 hts hlen
  · have e : pushN n l x = .inr 3 := by unfold pushN; rw [if_neg hr]
    rw [e]
    obtain ⟨po, rfl⟩ := h.shape
    have hb1 : Below w.heap.size w ((w.alloc (.cells #[.int .i64 x.kind, .int .i64 x.num, .string x.text, .slice ax x.items.length cx] 33)).alloc (.cells #[.int .i64 x.kind, .int .i64 x.num, .string x.text, .slice ax x.items.length cx] 33)) := (((Grew.refl w).alloc _).alloc _).below
    have HOf : Hid (Calls Try.prog 5 #[.slice (some ⟨w.heap.size + 1, 0, none⟩) 1 1] ((w.alloc (.cells #[.int .i64 x.kind, .int .i64 x.num, .string x.text, .slice ax x.items.length cx] 33)).alloc (.cells #[.int .i64 x.kind, .int .i64 x.num, .string x.text, .slice ax x.items.length cx] 33)) (VecPost 16 (.inr 3) ((w.alloc (.cells #[.int .i64 x.kind, .int .i64 x.num, .string x.text, .slice ax x.items.length cx] 33)).alloc (.cells #[.int .i64 x.kind, .int .i64 x.num, .string x.text, .slice ax x.items.length cx] 33)))) := by
      have h9 := of_n n [x] _ _ (lies_oneN (u := .slice ax x.items.length cx) (b := w.heap.size + 1) (w := (w.alloc (.cells #[.int .i64 x.kind, .int .i64 x.num, .string x.text, .slice ax x.items.length cx] 33)).alloc (.cells #[.int .i64 x.kind, .int .i64 x.num, .string x.text, .slice ax x.items.length cx] 33)) (by simp) (by simp) (by simp) (by simp) (Lies.keeps hb1 _ _ _ hx) hts)
      have e2 : ofN n [x] = .inr 3 := by
        unfold ofN
        rw [if_neg (by simp), if_neg (by simpa using hr)]
      rw [e2] at h9
      exact h9
    have Hb1 : Hid (Below w.heap.size w ((w.alloc (.cells #[.int .i64 x.kind, .int .i64 x.num, .string x.text, .slice ax x.items.length cx] 33)).alloc (.cells #[.int .i64 x.kind, .int .i64 x.num, .string x.text, .slice ax x.items.length cx] 33))) := hb1
    obtain ⟨x0, x1, x2, x3, z0, z1, z2, z3⟩ := bx_alloc w x (.slice ax x.items.length cx)
    clear hx hts hr e h hb1 hlen
    go_enter Try.func27, Try.ntmps27
    go_wp2_with fail
    refine Calls.mono HOf.out ?_
    rintro e w1 ⟨hg1, rfl⟩
    have HE : Hid (VecPost 16 (.inr 3) w (.returned (.tuple #[.pointer none, .int .i64 3])) w1) := ⟨Hb1.out.trans (hg1.mono Hb1.out.size), rfl⟩
    clear HOf x0 x1 x2 x3 z0 z1 z2 z3
    go_wp2_with fail
    go_ret2
    exact HE.out

set_option maxRecDepth 100000 in
set_option maxHeartbeats 8000000 in
theorem vset_n (n : Nat) (l : List VT) (p : Value) (i : Int) (x : VT) (ax : Option Addr) (cx : Nat) (w : World) (h : VC 16 w l p) (hx : Lies n w x.items (.slice ax x.items.length cx)) (hts : x.text.size ≤ 9223372036854775807) (hbig : l.length ≤ 1099511627776) :
    Calls Try.prog 31 #[p, .int .i64 i, .agg #[.int .i64 x.kind, .int .i64 x.num, .string x.text, .slice ax x.items.length cx]] w (VecPost 16 (setN n l i x) w) := by
  by_cases hr : rightV n x = true
  · obtain ⟨h1, h2⟩ := canon hx hr
    have e : setN n l i x = setR l i x := by
      unfold setN setR
      rw [if_pos hr, if_pos h2]
    rw [e]
    exact vset_any l p i x ax cx w h h1 hts hbig
  · have e : setN n l i x = .inr 3 := by unfold setN; rw [if_neg hr]
    rw [e]
    have hb0 : Below w.heap.size w (w.alloc (.cells #[.int .i64 x.kind, .int .i64 x.num, .string x.text, .slice ax x.items.length cx] 33)) := ((Grew.refl w).alloc _).below
    have Hb0 : Hid (Below w.heap.size w (w.alloc (.cells #[.int .i64 x.kind, .int .i64 x.num, .string x.text, .slice ax x.items.length cx] 33))) := hb0
    have HCk : Hid _ := check_any n x (.slice ax x.items.length cx) _ (Lies.keeps hb0 _ _ _ hx) hts
    obtain ⟨x0, x1, x2, x3, z0, z1, z2, z3⟩ := bx_alloc w x (.slice ax x.items.length cx)
    have hr' : rightV n x = false := by simpa using hr
    rw [hr'] at HCk
    clear h hx hts hbig hr hr' hb0 e
    go_enter Try.func31, Try.ntmps31
    go_wp2_with fail
    refine Calls.mono HCk.out ?_
    rintro e w1 ⟨rfl, hg1⟩
    have HE : Hid (VecPost 16 (.inr 3) w (.returned (.tuple #[.pointer none, .int .i64 3])) w1) := ⟨Hb0.out.trans (hg1.mono Hb0.out.size), rfl⟩
    clear HCk x0 x1 x2 x3 z0 z1 z2 z3
    simp only [errOf]
    go_wp2_with fail
    go_ret2
    exact HE.out

end Go.Proofs.Ytekoaiehhjgfiaa

namespace Go.Proofs.Ytekoaiehhjgfiaa
open Go.RowKit

/-- A number as a value's tree. -/
def numT (n : Int) : VT := ⟨2, n, ⟨#[]⟩, []⟩
def numP (n : Int) : VT × Value := (numT n, .slice none 0 0)

theorem right_num (n : Int) : rightV 16 (numT n) = true := by
  simp [rightV, fw, fwL, rpV, ownV, okNum, okText, okItems, numT]

theorem nums_cells (zs : List Int) : zs.flatMap cellsInt = (zs.map numP).flatMap encP := by
  induction zs with
  | nil => rfl
  | cons z zs ih => rw [List.flatMap_cons, List.map_cons, List.flatMap_cons, ih]; rfl

theorem lies_nilD (d : Nat) (w : World) : Lies d w [] (.slice none 0 0) := by
  cases d with
  | zero => exact ⟨rfl, none, 0, rfl⟩
  | succ d => exact ⟨none, 0, rfl, by simp, fun h => absurd rfl h⟩

theorem nums_lies {w : World} {b c : Nat} (zs : List Int) (h : RowAt w b 0 (zs.map numP)) (hl : zs.length ≤ 1000) (hc : zs.length ≤ c) : Lies 17 w (zs.map numT) (.slice (some ⟨b, 0, none⟩) zs.length c) := by
  have := lies_of_row (d := 16) (c := c) h (fun p hp => by
    obtain ⟨z, _, rfl⟩ := List.mem_map.1 hp
    exact ⟨lies_nilD _ _, by show 0 ≤ 9223372036854775807; omega⟩) (by simp; omega) (by simpa using hc)
  simpa [List.map_map, Function.comp_def, numP] using this

theorem nums_right (zs : List Int) : (zs.map numT).all (rightV 16) = true := by
  rw [List.all_eq_true]
  intro x hx
  obtain ⟨z, _, rfl⟩ := List.mem_map.1 hx
  exact right_num z

theorem nums_of (zs : List Int) (h : zs.length ≤ 1000) : ofR (zs.map numT) = .inl (zs.map numT) := by
  unfold ofR
  rw [if_neg (by simp; omega), if_pos (nums_right zs)]

set_option maxHeartbeats 1000000 in
theorem nums_any (zs : List Int) (b cap : Nat) (w : World) (h0 : zs ≠ []) (hz : zs.length ≤ 1000) (hc : ∀ (i : Nat) (h : i < zs.length), w.cell? ⟨b, 0 + i, none⟩ = some (.int .i64 (zs[i]'h))) :
    Calls Try.prog 20 #[.slice (some ⟨b, 0, none⟩) zs.length cap] w fun e w' => ∃ g c, e = .returned (.slice (some ⟨g, 0, none⟩) zs.length c) ∧ Lies 17 w' (zs.map numT) (.slice (some ⟨g, 0, none⟩) zs.length c) ∧ Below w.heap.size w w' := by
  refine (ints_any b zs cap w hz hc).mono ?_
  rintro e w1 ⟨v, rfl, hown, hb⟩
  rw [nums_cells] at hown
  obtain ⟨g, c, rfl, _, hcp, _, hrow, _⟩ := own_row (ps := zs.map numP) (by simpa using hown) (by simpa using h0)
  refine ⟨g, c, by simp, nums_lies zs hrow hz (by simpa using hcp), hb⟩

/-- A vector whose items are right. -/
structure VV (w : World) (l : List VT) (p : Value) : Prop where
  vc : VC 16 w l p
  len : l.length ≤ 65536
  right : l.all (rightV 16) = true

theorem VV.keeps {w w' : World} {l : List VT} {p : Value} (h : VV w l p) (hb : Below w.heap.size w w') : VV w' l p := ⟨h.vc.keeps hb, h.len, h.right⟩

end Go.Proofs.Ytekoaiehhjgfiaa

namespace Go.Proofs.Ytekoaiehhjgfiaa
open Go.RowKit

/-- What holds no pointer is there as it was. -/
def KeepsNP (w w' : World) : Prop := ∀ a u, (∀ q, u ≠ .pointer q) → w.cell? a = some u → w'.cell? a = some u

theorem Lies.np {w w' : World} (hk : KeepsNP w w') : ∀ (d : Nat) (l : List VT) (v : Value), Lies d w l v → Lies d w' l v := by
  intro d
  induction d with
  | zero => intro l v h; exact h
  | succ d ih =>
    intro l v h
    obtain ⟨a, c, hv, hb, hr⟩ := h
    refine ⟨a, c, hv, hb, fun hne => ?_⟩
    obtain ⟨b, o, ha, hall⟩ := hr hne
    refine ⟨b, o, ha, fun i hi => ?_⟩
    obtain ⟨u, c0, c1, c2, c3, hL, hs⟩ := hall i hi
    obtain ⟨a', c', hu, _⟩ := Lies.slice hL
    exact ⟨u, hk _ _ (by intro q h; cases h) c0, hk _ _ (by intro q h; cases h) c1, hk _ _ (by intro q h; cases h) c2, hk _ _ (by intro q h; rw [hu] at h; cases h) c3, ih _ _ hL, hs⟩

theorem SlV.np {w w' : World} (hk : KeepsNP w w') {vs : List Value} {v : Value} (hn : ∀ u ∈ vs, ∀ q, u ≠ .pointer q) (h : SlV w vs v) : SlV w' vs v := by
  obtain ⟨a, c, hv, hc, hr⟩ := h
  refine ⟨a, c, hv, hc, fun hne => ?_⟩
  obtain ⟨b, o, ha, hcs⟩ := hr hne
  exact ⟨b, o, ha, fun i hi => hk _ _ (hn _ (List.getElem_mem hi)) (hcs i hi)⟩

theorem ND.np {d : Nat} {w w' : World} (hk : KeepsNP w w') : ∀ (h : Nat) (k : Bool) (l : List VT) (v : Value), ND d h k w l v → ND d h k w' l v := by
  intro h
  induction h with
  | zero =>
    intro k l v hn
    obtain ⟨b, a, c, hv, hc, hl, h1, h2, h3⟩ := hn
    exact ⟨b, a, c, hv, hk _ _ (by intro q h; cases h) hc, hl.np hk, h1, h2, h3⟩
  | succ h ih =>
    intro k l v hn
    obtain ⟨b, sl, el, ps, hv, hc0, hc1, hs, he, h1, h2, h3, hl, hp⟩ := hn
    obtain ⟨a1, c1, e1, _⟩ := hs.slice
    obtain ⟨a2, c2, e2, _⟩ := he.slice
    refine ⟨b, sl, el, ps, hv, hk _ _ (by intro q h; rw [e1] at h; cases h) hc0, hk _ _ (by intro q h; rw [e2] at h; cases h) hc1, hs.np hk (fun u hu q e => ?_), he.np hk (fun u hu q e => ?_), h1, h2, h3, hl, fun i hi => ih _ _ _ (hp i hi)⟩
    · obtain ⟨p, hpm, rfl⟩ := List.mem_map.1 hu
      obtain ⟨i, hi, rfl⟩ := List.getElem_of_mem hpm
      obtain ⟨T, q', e'⟩ := nd_iface (hp i hi)
      rw [e'] at e
      cases e
    · unfold ends at hu
      obtain ⟨n, _, rfl⟩ := List.mem_map.1 hu
      cases e

theorem VC.np {d : Nat} {w w' : World} (hk : KeepsNP w w') {l : List VT} {p : Value} (h : VC d w l p) : VC d w' l p := by
  rcases h with h | ⟨b, t, hp, hc, ht⟩
  · exact .inl h
  · refine .inr ⟨b, t, hp, ?_, ?_⟩
    · refine hk _ _ (fun q e => ?_) hc
      rcases ht with ⟨_, e'⟩ | ⟨h, hn, _⟩
      · rw [e'] at e; cases e
      · obtain ⟨T, q', e'⟩ := nd_iface hn
        rw [e'] at e; cases e
    · rcases ht with ht | ⟨h, hn, hw⟩
      · exact .inl ht
      · exact .inr ⟨h, hn.np hk _ _ _ _, hw⟩

theorem VV.np {w w' : World} (hk : KeepsNP w w') {l : List VT} {p : Value} (h : VV w l p) : VV w' l p := ⟨h.vc.np hk, h.len, h.right⟩

theorem KeepsNP.below {w w' : World} (h : Below w.heap.size w w') : KeepsNP w w' := fun _ _ _ hu => cell_keeps h hu
theorem KeepsNP.trans {a b c : World} (h : KeepsNP a b) (k : KeepsNP b c) : KeepsNP a c := fun x u hu hc => k x u hu (h x u hu hc)

theorem KeepsNP.set {w : World} {B T : Nat} {x : Option Addr} (y : Value) (hB : Go.Boxed w B T (.pointer x)) : KeepsNP w (w.setCell ⟨B, 0, none⟩ y) := by
  intro a u hu hc
  by_cases hab : a.block = B
  · exfalso
    have hB' : w.heap[B]? = some (.cells #[.pointer x] T (0, 0)) := hB
    unfold World.cell? at hc
    rw [hab, hB'] at hc
    obtain ⟨ab, ao, asp⟩ := a
    cases asp with
    | none =>
      cases ao with
      | zero => simp at hc; exact hu x hc.symm
      | succ n => simp at hc
    | some sp => simp at hc
  · exact (grownBy_setCell' w B y).cell hc (fun e => hab (by injection e))

/-- A transient that is open: where it lies, where its vector is held, and that vector. -/
structure TV (w : World) (l : List VT) (b h v : Nat) : Prop where
  c0 : w.cell? ⟨b, 0, none⟩ = some (.pointer (some ⟨h, 0, none⟩))
  bx : Go.Boxed w h 62 (.pointer (some ⟨v, 0, none⟩))
  vv : VV w l (.pointer (some ⟨v, 0, none⟩))
  ne : b ≠ h

theorem TV.keeps {w w' : World} {l : List VT} {b h v : Nat} (t : TV w l b h v) (hb : Below w.heap.size w w') : TV w' l b h v :=
  ⟨cell_keeps hb t.c0, (hb.block h t.bx.lt).trans t.bx, t.vv.keeps hb, t.ne⟩

/-- A transient that is sealed. -/
structure TS (w : World) (b h : Nat) : Prop where
  c0 : w.cell? ⟨b, 0, none⟩ = some (.pointer (some ⟨h, 0, none⟩))
  bx : Go.Boxed w h 62 (.pointer none)

theorem TS.keeps {w w' : World} {b h : Nat} (t : TS w b h) (hb : Below w.heap.size w w') : TS w' b h :=
  ⟨cell_keeps hb t.c0, (hb.block h t.bx.lt).trans t.bx⟩

set_option maxRecDepth 100000 in
theorem open_any (l : List VT) (b h v : Nat) (w : World) (t : TV w l b h v) : Calls Try.prog 25 #[.pointer (some ⟨b, 0, none⟩)] w fun e w' => e = .returned (.tuple #[.pointer (some ⟨h, 0, none⟩), .int .i64 0]) ∧ w' = w := by
  have h0 := t.c0
  have h1 := t.bx.cell
  clear t
  go_enter Try.func25, Try.ntmps25
  go_wp2_with fail
  go_ret2
  exact ⟨rfl, rfl⟩

set_option maxRecDepth 100000 in
theorem open_nil (w : World) : Calls Try.prog 25 #[.pointer none] w fun e w' => e = .returned (.tuple #[.pointer none, .int .i64 7]) ∧ w' = w := by
  go_enter Try.func25, Try.ntmps25
  go_wp2_with fail
  go_ret2
  exact ⟨rfl, rfl⟩

set_option maxRecDepth 100000 in
theorem open_sealed (b h : Nat) (w : World) (t : TS w b h) : Calls Try.prog 25 #[.pointer (some ⟨b, 0, none⟩)] w fun e w' => e = .returned (.tuple #[.pointer none, .int .i64 7]) ∧ w' = w := by
  have h0 := t.c0
  have h1 := t.bx.cell
  clear t
  go_enter Try.func25, Try.ntmps25
  go_wp2_with fail
  go_ret2
  exact ⟨rfl, rfl⟩

/-- Shut: open says so. -/
def Shut13 (w : World) (p : Value) : Prop := (∃ o, p = .pointer o) ∧ ∀ V, Below w.heap.size w V → Calls Try.prog 25 #[p] V fun e w' => e = .returned (.tuple #[.pointer none, .int .i64 7]) ∧ w' = V

theorem shut_nil (w : World) : Shut13 w (.pointer none) := ⟨⟨_, rfl⟩, fun V _ => open_nil V⟩
theorem TS.shut {w : World} {b h : Nat} (t : TS w b h) : Shut13 w (.pointer (some ⟨b, 0, none⟩)) := ⟨⟨_, rfl⟩, fun V hV => open_sealed b h V (t.keeps hV)⟩
theorem Shut13.keeps {w w' : World} {p : Value} (h : Shut13 w p) (hb : Below w.heap.size w w') : Shut13 w' p := ⟨h.1, fun V hV => h.2 V (hb.trans (hV.mono hb.size))⟩

set_option maxRecDepth 100000 in
set_option maxHeartbeats 4000000 in
theorem shut_len (p : Value) (w : World) (h : Shut13 w p) : Calls Try.prog 13 #[p] w fun e w' => e = .returned (.tuple #[.int .i64 0, .int .i64 7]) ∧ Below w.heap.size w w' := by
  obtain ⟨po, rfl⟩ := h.1
  have HO : Hid _ := h.2 w (Below.refl _ _)
  clear h
  go_enter Try.func13, Try.ntmps13
  go_wp2_with fail
  refine Calls.mono HO.out ?_
  rintro e w1 ⟨rfl, rfl⟩
  clear HO
  go_wp2_with fail
  go_ret2
  exact ⟨rfl, Below.refl _ _⟩

set_option maxRecDepth 100000 in
set_option maxHeartbeats 4000000 in
theorem shut_seal (p : Value) (w : World) (h : Shut13 w p) : Calls Try.prog 9 #[p] w fun e w' => e = .returned (.tuple #[.pointer none, .int .i64 7]) ∧ Below w.heap.size w w' := by
  obtain ⟨po, rfl⟩ := h.1
  have HO : Hid _ := h.2 w (Below.refl _ _)
  clear h
  go_enter Try.func9, Try.ntmps9
  go_wp2_with fail
  refine Calls.mono HO.out ?_
  rintro e w1 ⟨rfl, rfl⟩
  clear HO
  go_wp2_with fail
  go_ret2
  exact ⟨rfl, Below.refl _ _⟩

set_option maxRecDepth 100000 in
set_option maxHeartbeats 4000000 in
theorem shut_push (p : Value) (x : VT) (ax : Option Addr) (cx : Nat) (w : World) (h : Shut13 w p) : Calls Try.prog 8 #[p, .agg #[.int .i64 x.kind, .int .i64 x.num, .string x.text, .slice ax x.items.length cx]] w fun e w' => e = .returned (.int .i64 7) ∧ Below w.heap.size w w' := by
  obtain ⟨po, rfl⟩ := h.1
  have hbz : Below w.heap.size w (w.alloc (.cells #[.int .i64 x.kind, .int .i64 x.num, .string x.text, .slice ax x.items.length cx] 33)) := ((Grew.refl w).alloc _).below
  have HO : Hid _ := h.2 _ hbz
  clear h
  go_enter Try.func8, Try.ntmps8
  go_wp2_with fail
  refine Calls.mono HO.out ?_
  rintro e w1 ⟨rfl, rfl⟩
  clear HO
  go_wp2_with fail
  go_ret
  exact ⟨rfl, hbz⟩

set_option maxRecDepth 100000 in
set_option maxHeartbeats 4000000 in
theorem shut_set (p : Value) (i : Int) (x : VT) (ax : Option Addr) (cx : Nat) (w : World) (h : Shut13 w p) : Calls Try.prog 14 #[p, .int .i64 i, .agg #[.int .i64 x.kind, .int .i64 x.num, .string x.text, .slice ax x.items.length cx]] w fun e w' => e = .returned (.int .i64 7) ∧ Below w.heap.size w w' := by
  obtain ⟨po, rfl⟩ := h.1
  have hbz : Below w.heap.size w (w.alloc (.cells #[.int .i64 x.kind, .int .i64 x.num, .string x.text, .slice ax x.items.length cx] 33)) := ((Grew.refl w).alloc _).below
  have HO : Hid _ := h.2 _ hbz
  clear h
  go_enter Try.func14, Try.ntmps14
  go_wp2_with fail
  refine Calls.mono HO.out ?_
  rintro e w1 ⟨rfl, rfl⟩
  clear HO
  go_wp2_with fail
  go_ret
  exact ⟨rfl, hbz⟩

/-- Zero and ErrSeal are told. -/
def SealPost (w : World) (e : Ending) (w' : World) : Prop := e = .returned (.tuple #[.agg #[.int .i64 0, .int .i64 0, .string ⟨#[]⟩, .slice none 0 0], .int .i64 7]) ∧ Below w.heap.size w w'

set_option maxRecDepth 100000 in
set_option maxHeartbeats 4000000 in
theorem shut_nth (p : Value) (i : Int) (w : World) (h : Shut13 w p) : Calls Try.prog 11 #[p, .int .i64 i] w (SealPost w) := by
  obtain ⟨po, rfl⟩ := h.1
  have hbz : Below w.heap.size w (w.alloc (.cells #[.int .i64 0, .int .i64 0, .string ⟨#[]⟩, .slice none 0 0] 33)) := ((Grew.refl w).alloc _).below
  have HO : Hid _ := h.2 _ hbz
  have HK : Hid (Bx (w.alloc (.cells #[.int .i64 0, .int .i64 0, .string ⟨#[]⟩, .slice none 0 0] 33)) w.heap.size zeroT (.slice none 0 0)) := bx_alloc w zeroT _
  obtain ⟨y0, y1, y2, y3, z0, z1, z2, z3⟩ := HK.out
  have Hbx : Hid (Bx ((w.alloc (.cells #[.int .i64 0, .int .i64 0, .string ⟨#[]⟩, .slice none 0 0] 33)).setCells w.heap.size 0 (encP (zeroT, .slice none 0 0))) w.heap.size zeroT (.slice none 0 0)) := HK.out.put (zeroT, .slice none 0 0)
  have Hbl : Hid (Below w.heap.size w ((w.alloc (.cells #[.int .i64 0, .int .i64 0, .string ⟨#[]⟩, .slice none 0 0] 33)).setCells w.heap.size 0 (encP (zeroT, .slice none 0 0)))) := below_put hbz (Nat.le_refl _) (zeroT, .slice none 0 0)
  clear h
  go_enter Try.func11, Try.ntmps11
  go_wp2_with fail
  refine Calls.mono HO.out ?_
  rintro e w1 ⟨rfl, rfl⟩
  clear HO
  go_wp2_with fail
  refine bodyPost_ret (v := .tuple #[.agg #[.int .i64 0, .int .i64 0, .string ⟨#[]⟩, .slice none 0 0], .int .i64 7]) ?_ rfl ?_
  · simp [results, Try.results11, go_sem]
  · refine ⟨rfl, ?_⟩
    first | exact hbz | exact Hbl.out

set_option maxRecDepth 100000 in
set_option maxHeartbeats 4000000 in
theorem shut_pop (p : Value) (w : World) (h : Shut13 w p) : Calls Try.prog 12 #[p] w (SealPost w) := by
  obtain ⟨po, rfl⟩ := h.1
  have hbz : Below w.heap.size w (w.alloc (.cells #[.int .i64 0, .int .i64 0, .string ⟨#[]⟩, .slice none 0 0] 33)) := ((Grew.refl w).alloc _).below
  have HO : Hid _ := h.2 _ hbz
  clear h
  go_enter Try.func12, Try.ntmps12
  go_wp2_with fail
  refine Calls.mono HO.out ?_
  rintro e w1 ⟨rfl, rfl⟩
  clear HO
  go_wp2_with fail
  refine bodyPost_ret (v := .tuple #[.agg #[.int .i64 0, .int .i64 0, .string ⟨#[]⟩, .slice none 0 0], .int .i64 7]) ?_ rfl ?_
  · simp [results, Try.results12, go_sem]
  · exact ⟨rfl, hbz⟩

end Go.Proofs.Ytekoaiehhjgfiaa

namespace Go.Proofs.Ytekoaiehhjgfiaa
open Go.RowKit

set_option maxRecDepth 100000 in
theorem become_ok (h : Nat) (o v : Option Addr) (w : World) (hB : Go.Boxed w h 62 (.pointer o)) : Calls Try.prog 26 #[.pointer (some ⟨h, 0, none⟩), .pointer v, .int .i64 0] w fun e w' => e = .returned (.int .i64 0) ∧ w' = w.setCell ⟨h, 0, none⟩ (.pointer v) := by
  have h1 := hB.cell
  have h2 := hB.frozen
  clear hB
  go_enter Try.func26, Try.ntmps26
  go_wp2_with fail
  go_ret
  exact ⟨rfl, rfl⟩

set_option maxRecDepth 100000 in
theorem become_not (h : Nat) (v : Option Addr) (k : Nat) (hk : k ≠ 0) (w : World) : Calls Try.prog 26 #[.pointer (some ⟨h, 0, none⟩), .pointer v, .int .i64 (k : Int)] w fun e w' => e = .returned (.int .i64 (k : Int)) ∧ w' = w := by
  have hk0 : ¬ ((k : Nat) : Int) = 0 := by omega
  go_enter Try.func26, Try.ntmps26
  go_wp2_with fail
  go_ret
  exact ⟨rfl, rfl⟩

/-- What a call that may change a transient leaves. -/
def MvPost (N0 : Nat) (l m : List VT) (ok : Prop) (b h v : Nat) (w : World) (e : Ending) (w' : World) : Prop :=
  ∃ k : Nat, e = .returned (.int .i64 (k : Int)) ∧ Below N0 w w' ∧ KeepsNP w w' ∧ ((k = 0 ∧ ok ∧ ∃ v2, TV w' m b h v2) ∨ (k ≠ 0 ∧ ¬ ok ∧ TV w' l b h v))

theorem TV.moved {N0 : Nat} {l m : List VT} {b h v v2 : Nat} {w w1 : World} (t : TV w l b h v) (hN : N0 ≤ h) (hN2 : N0 ≤ w.heap.size) (hb : Below w.heap.size w w1) (hv : VV w1 m (.pointer (some ⟨v2, 0, none⟩))) : Below N0 w (w1.setCell ⟨h, 0, none⟩ (.pointer (some ⟨v2, 0, none⟩))) ∧ KeepsNP w (w1.setCell ⟨h, 0, none⟩ (.pointer (some ⟨v2, 0, none⟩))) ∧ TV (w1.setCell ⟨h, 0, none⟩ (.pointer (some ⟨v2, 0, none⟩))) m b h v2 := by
  have t1 := t.keeps hb
  have hk := KeepsNP.set (y := .pointer (some ⟨v2, 0, none⟩)) t1.bx
  refine ⟨(hb.mono hN2).setCell (p := ⟨h, 0, none⟩) hN _, (KeepsNP.below hb).trans hk, ⟨?_, t1.bx.set _, hv.np hk, t.ne⟩⟩
  exact (grownBy_setCell' w1 h _).cell t1.c0 (fun e => t.ne (by injection e))

set_option maxRecDepth 100000 in
set_option maxHeartbeats 8000000 in
theorem tpush_any (n : Nat) (l : List VT) (b h v : Nat) (x : VT) (ax : Option Addr) (cx : Nat) (N0 : Nat) (w : World) (t : TV w l b h v) (hN : N0 ≤ h) (hN2 : N0 ≤ w.heap.size) (hx : Lies n w x.items (.slice ax x.items.length cx)) (hts : x.text.size ≤ 9223372036854775807) :
    Calls Try.prog 8 #[.pointer (some ⟨b, 0, none⟩), .agg #[.int .i64 x.kind, .int .i64 x.num, .string x.text, .slice ax x.items.length cx]] w (MvPost N0 l (l ++ [x]) (rightV n x = true ∧ l.length + 1 ≤ 65536) b h v w) := by
  obtain ⟨wA, hwA⟩ : ∃ wA, wA = w.alloc (.cells #[.int .i64 x.kind, .int .i64 x.num, .string x.text, .slice ax x.items.length cx] 33) := ⟨_, rfl⟩
  have hbz : Below w.heap.size w wA := by rw [hwA]; exact ((Grew.refl w).alloc _).below
  have tA := t.keeps hbz
  have HO : Hid _ := open_any l b h v wA tA
  have HBx : Hid (Bx wA w.heap.size x (.slice ax x.items.length cx)) := by rw [hwA]; exact bx_alloc w x _
  have HP : Hid (Calls Try.prog 27 #[.pointer (some ⟨v, 0, none⟩), .agg #[.int .i64 x.kind, .int .i64 x.num, .string x.text, .slice ax x.items.length cx]] wA.drew fun e w1 => ∃ (o : Option Addr) (k : Nat), e = .returned (.tuple #[.pointer o, .int .i64 (k : Int)]) ∧ Calls Try.prog 26 #[.pointer (some ⟨h, 0, none⟩), .pointer o, .int .i64 (k : Int)] w1 (MvPost N0 l (l ++ [x]) (rightV n x = true ∧ l.length + 1 ≤ 65536) b h v w)) := by
    have hd : Below w.heap.size w wA.drew := hbz.drew
    have tD := t.keeps hd
    refine Calls.mono (push_n n l _ x ax cx wA.drew tD.vv.vc (Lies.keeps hd _ _ _ hx) hts t.vv.len) ?_
    rintro e w1 ⟨hg1, hp1⟩
    have hb1 : Below w.heap.size w w1 := hd.trans (hg1.mono hd.size)
    by_cases hr : rightV n x = true
    · by_cases hs : l.length + 1 ≤ 65536
      · have e9 : pushN n l x = .inl (l ++ [x]) := by unfold pushN; rw [if_pos hr, if_pos hs]
        rw [e9] at hp1
        obtain ⟨v2, rfl, hv2⟩ := hp1
        have hvv : VV w1 (l ++ [x]) (.pointer (some ⟨v2, 0, none⟩)) := ⟨hv2, by rw [List.length_append]; exact hs, by rw [List.all_append, t.vv.right]; simpa using (canon hx hr).2⟩
        obtain ⟨k1, k2, k3⟩ := t.moved hN hN2 hb1 hvv
        refine ⟨_, 0, rfl, Calls.mono (become_ok h _ _ w1 (t.keeps hb1).bx) ?_⟩
        rintro e w2 ⟨rfl, rfl⟩
        exact ⟨0, rfl, k1, k2, .inl ⟨rfl, ⟨hr, hs⟩, v2, k3⟩⟩
      · have e9 : pushN n l x = .inr 2 := by unfold pushN; rw [if_pos hr, if_neg hs]
        rw [e9] at hp1
        subst hp1
        refine ⟨_, 2, rfl, Calls.mono (become_not h _ 2 (by omega) w1) ?_⟩
        rintro e w2 ⟨rfl, rfl⟩
        exact ⟨2, rfl, hb1.mono hN2, KeepsNP.below hb1, .inr ⟨by omega, fun h => hs h.2, t.keeps hb1⟩⟩
    · have e9 : pushN n l x = .inr 3 := by unfold pushN; rw [if_neg hr]
      rw [e9] at hp1
      subst hp1
      refine ⟨_, 3, rfl, Calls.mono (become_not h _ 3 (by omega) w1) ?_⟩
      rintro e w2 ⟨rfl, rfl⟩
      exact ⟨3, rfl, hb1.mono hN2, KeepsNP.below hb1, .inr ⟨by omega, fun h => hr h.1, t.keeps hb1⟩⟩
  obtain ⟨x0, x1, x2, x3, _, _, _, _⟩ := HBx.out
  have h1 := tA.bx.cell
  obtain ⟨Q, hQ⟩ : ∃ Q, Q = MvPost N0 l (l ++ [x]) (rightV n x = true ∧ l.length + 1 ≤ 65536) b h v w := ⟨_, rfl⟩
  have HQ : Hid (∀ e w', Q e w' → ∃ k : Nat, e = .returned (.int .i64 (k : Int))) := fun e w' hq => by
    rw [hQ] at hq
    obtain ⟨k, he, _⟩ := hq
    exact ⟨k, he⟩
  rw [← hQ] at HP ⊢
  subst hwA
  clear t hN hN2 hx hts tA hQ HBx
  go_enter Try.func8, Try.ntmps8
  go_wp2_with fail
  refine Calls.mono HO.out ?_
  rintro e w1 ⟨rfl, rfl⟩
  clear HO
  go_wp2_with fail
  go_region_with (first
      | (go_at_call 26; refine Calls.mono HB9.out ?_; intro e w3 hq3; obtain ⟨k3, hk3⟩ := HQ.out e w3 hq3; subst hk3; have HE : Hid _ := hq3; clear hq3)
      | (go_at_call 27; refine Calls.mono HP.out ?_; rintro e w2 ⟨o2, k2, rfl, hbec⟩; have HB9 : Hid _ := hbec; clear hbec))
  all_goals (first | (go_ret; exact HE.out) | (go_wp2_with fail; go_ret; exact HE.out))

end Go.Proofs.Ytekoaiehhjgfiaa

namespace Go.Proofs.Ytekoaiehhjgfiaa
open Go.RowKit

set_option maxRecDepth 100000 in
set_option maxHeartbeats 8000000 in
theorem tset_any (n : Nat) (l : List VT) (b h v : Nat) (i : Int) (x : VT) (ax : Option Addr) (cx : Nat) (N0 : Nat) (w : World) (t : TV w l b h v) (hN : N0 ≤ h) (hN2 : N0 ≤ w.heap.size) (hx : Lies n w x.items (.slice ax x.items.length cx)) (hts : x.text.size ≤ 9223372036854775807) :
    Calls Try.prog 14 #[.pointer (some ⟨b, 0, none⟩), .int .i64 i, .agg #[.int .i64 x.kind, .int .i64 x.num, .string x.text, .slice ax x.items.length cx]] w (MvPost N0 l (l.set i.toNat x) (rightV n x = true ∧ (0 ≤ i ∧ i < (l.length : Int))) b h v w) := by
  obtain ⟨wA, hwA⟩ : ∃ wA, wA = w.alloc (.cells #[.int .i64 x.kind, .int .i64 x.num, .string x.text, .slice ax x.items.length cx] 33) := ⟨_, rfl⟩
  have hbz : Below w.heap.size w wA := by rw [hwA]; exact ((Grew.refl w).alloc _).below
  have tA := t.keeps hbz
  have HO : Hid _ := open_any l b h v wA tA
  have HBx : Hid (Bx wA w.heap.size x (.slice ax x.items.length cx)) := by rw [hwA]; exact bx_alloc w x _
  have HP : Hid (Calls Try.prog 31 #[.pointer (some ⟨v, 0, none⟩), .int .i64 i, .agg #[.int .i64 x.kind, .int .i64 x.num, .string x.text, .slice ax x.items.length cx]] wA.drew fun e w1 => ∃ (o : Option Addr) (k : Nat), e = .returned (.tuple #[.pointer o, .int .i64 (k : Int)]) ∧ Calls Try.prog 26 #[.pointer (some ⟨h, 0, none⟩), .pointer o, .int .i64 (k : Int)] w1 (MvPost N0 l (l.set i.toNat x) (rightV n x = true ∧ (0 ≤ i ∧ i < (l.length : Int))) b h v w)) := by
    have hd : Below w.heap.size w wA.drew := hbz.drew
    have tD := t.keeps hd
    refine Calls.mono (vset_n n l _ i x ax cx wA.drew tD.vv.vc (Lies.keeps hd _ _ _ hx) hts (by have := t.vv.len; omega)) ?_
    rintro e w1 ⟨hg1, hp1⟩
    have hb1 : Below w.heap.size w w1 := hd.trans (hg1.mono hd.size)
    by_cases hr : rightV n x = true
    · by_cases hs : 0 ≤ i ∧ i < (l.length : Int)
      · have e9 : setN n l i x = .inl (l.set i.toNat x) := by unfold setN; rw [if_pos hr, if_pos hs]
        rw [e9] at hp1
        obtain ⟨v2, rfl, hv2⟩ := hp1
        have hvv : VV w1 (l.set i.toNat x) (.pointer (some ⟨v2, 0, none⟩)) := ⟨hv2, by rw [List.length_set]; exact t.vv.len, List.all_eq_true.2 fun y hy => (List.mem_or_eq_of_mem_set hy).elim (fun h => List.all_eq_true.1 t.vv.right y h) (fun h => by rw [h]; exact (canon hx hr).2)⟩
        obtain ⟨k1, k2, k3⟩ := t.moved hN hN2 hb1 hvv
        refine ⟨_, 0, rfl, Calls.mono (become_ok h _ _ w1 (t.keeps hb1).bx) ?_⟩
        rintro e w2 ⟨rfl, rfl⟩
        exact ⟨0, rfl, k1, k2, .inl ⟨rfl, ⟨hr, hs⟩, v2, k3⟩⟩
      · have e9 : setN n l i x = .inr 5 := by unfold setN; rw [if_pos hr, if_neg hs]
        rw [e9] at hp1
        subst hp1
        refine ⟨_, 5, rfl, Calls.mono (become_not h _ 5 (by omega) w1) ?_⟩
        rintro e w2 ⟨rfl, rfl⟩
        exact ⟨5, rfl, hb1.mono hN2, KeepsNP.below hb1, .inr ⟨by omega, fun h => hs h.2, t.keeps hb1⟩⟩
    · have e9 : setN n l i x = .inr 3 := by unfold setN; rw [if_neg hr]
      rw [e9] at hp1
      subst hp1
      refine ⟨_, 3, rfl, Calls.mono (become_not h _ 3 (by omega) w1) ?_⟩
      rintro e w2 ⟨rfl, rfl⟩
      exact ⟨3, rfl, hb1.mono hN2, KeepsNP.below hb1, .inr ⟨by omega, fun h => hr h.1, t.keeps hb1⟩⟩
  obtain ⟨x0, x1, x2, x3, _, _, _, _⟩ := HBx.out
  have h1 := tA.bx.cell
  obtain ⟨Q, hQ⟩ : ∃ Q, Q = MvPost N0 l (l.set i.toNat x) (rightV n x = true ∧ (0 ≤ i ∧ i < (l.length : Int))) b h v w := ⟨_, rfl⟩
  have HQ : Hid (∀ e w', Q e w' → ∃ k : Nat, e = .returned (.int .i64 (k : Int))) := fun e w' hq => by
    rw [hQ] at hq
    obtain ⟨k, he, _⟩ := hq
    exact ⟨k, he⟩
  rw [← hQ] at HP ⊢
  subst hwA
  clear t hN hN2 hx hts tA hQ HBx
  go_enter Try.func14, Try.ntmps14
  go_wp2_with fail
  refine Calls.mono HO.out ?_
  rintro e w1 ⟨rfl, rfl⟩
  clear HO
  go_wp2_with fail
  go_region_with (first
      | (go_at_call 26; refine Calls.mono HB9.out ?_; intro e w3 hq3; obtain ⟨k3, hk3⟩ := HQ.out e w3 hq3; subst hk3; have HE : Hid _ := hq3; clear hq3)
      | (go_at_call 31; refine Calls.mono HP.out ?_; rintro e w2 ⟨o2, k2, rfl, hbec⟩; have HB9 : Hid _ := hbec; clear hbec))
  all_goals (first | (go_ret; exact HE.out) | (go_wp2_with fail; go_ret; exact HE.out))

set_option maxRecDepth 100000 in
set_option maxHeartbeats 4000000 in
theorem tseal_any (l : List VT) (b h v : Nat) (N0 : Nat) (w : World) (t : TV w l b h v) (hN : N0 ≤ h) : Calls Try.prog 9 #[.pointer (some ⟨b, 0, none⟩)] w fun e w' => e = .returned (.tuple #[.pointer (some ⟨v, 0, none⟩), .int .i64 0]) ∧ Below N0 w w' ∧ KeepsNP w w' ∧ VV w' l (.pointer (some ⟨v, 0, none⟩)) ∧ TS w' b h := by
  have HO : Hid _ := open_any l b h v w t
  have hk := KeepsNP.set (y := .pointer none) t.bx
  have HE : Hid (Below N0 w (w.setCell ⟨h, 0, none⟩ (.pointer none)) ∧ KeepsNP w (w.setCell ⟨h, 0, none⟩ (.pointer none)) ∧ VV (w.setCell ⟨h, 0, none⟩ (.pointer none)) l (.pointer (some ⟨v, 0, none⟩)) ∧ TS (w.setCell ⟨h, 0, none⟩ (.pointer none)) b h) := ⟨(Below.refl _ _).setCell (p := ⟨h, 0, none⟩) hN _, hk, t.vv.np hk, ⟨(grownBy_setCell' w h _).cell t.c0 (fun e => t.ne (by injection e)), t.bx.set _⟩⟩
  have h1 := t.bx.cell
  have h2 := t.bx.frozen
  clear t hk hN
  go_enter Try.func9, Try.ntmps9
  go_wp2_with fail
  refine Calls.mono HO.out ?_
  rintro e w1 ⟨rfl, rfl⟩
  clear HO
  go_wp2_with fail
  go_ret2
  exact ⟨rfl, HE.out⟩

set_option maxRecDepth 100000 in
set_option maxHeartbeats 4000000 in
theorem tlen_any (l : List VT) (b h v : Nat) (w : World) (t : TV w l b h v) : Calls Try.prog 13 #[.pointer (some ⟨b, 0, none⟩)] w fun e w' => e = .returned (.tuple #[.int .i64 (l.length : Int), .int .i64 0]) ∧ Below w.heap.size w w' := by
  have HO : Hid _ := open_any l b h v w t
  have HL : Hid _ := vlen_any 16 l _ w t.vv.vc
  have h1 := t.bx.cell
  clear t
  go_enter Try.func13, Try.ntmps13
  go_wp2_with fail
  refine Calls.mono HO.out ?_
  rintro e w1 ⟨rfl, rfl⟩
  clear HO
  go_wp2_with fail
  refine Calls.mono HL.out ?_
  rintro e w2 ⟨rfl, hb2⟩
  clear HL
  go_wp2_with fail
  go_ret2
  exact ⟨rfl, hb2⟩

set_option maxRecDepth 100000 in
theorem newT_any (w : World) : Calls Try.prog 24 #[] w fun e w' => e = .returned (.pointer (some ⟨w.heap.size, 0, none⟩)) ∧ VV w' [] (.pointer (some ⟨w.heap.size, 0, none⟩)) ∧ Below w.heap.size w w' := by
  have HE : Hid (VV (w.alloc (.cells #[.nilIface] 53)) [] (.pointer (some ⟨w.heap.size, 0, none⟩)) ∧ Below w.heap.size w (w.alloc (.cells #[.nilIface] 53))) := ⟨⟨VC.made (.inl ⟨rfl, rfl⟩) _, by simp, rfl⟩, ((Grew.refl w).alloc _).below⟩
  go_enter Try.func24, Try.ntmps24
  go_wp2_with fail
  go_ret
  exact ⟨rfl, HE.out.1, HE.out.2⟩

set_option maxRecDepth 100000 in
set_option maxHeartbeats 4000000 in
theorem or_first (B : Nat) (p : Addr) (q : Option Addr) (w : World) (h0 : w.cell? ⟨B, 0, none⟩ = some (.pointer (some p))) (h1 : w.cell? ⟨B, 1, none⟩ = some (.pointer q)) : Calls Try.prog 23 #[.slice (some ⟨B, 0, none⟩) 2 2] w fun e w' => e = .returned (.pointer (some p)) ∧ w' = w := by
  go_enter Try.func23, Try.ntmps23
  go_wp2_with fail
  go_loopg [8] 2 (fun g i wr => i = .int .i64 0 ∧ g = 2 ∧ wr = w)
  case atStart => exact ⟨rfl, rfl, rfl⟩
  case round =>
    obtain ⟨rfl, hg, rfl⟩ := hrel
    go_wp2_with fail
    go_ret
    exact ⟨rfl, rfl⟩

set_option maxRecDepth 100000 in
set_option maxHeartbeats 4000000 in
theorem or_second (B : Nat) (q : Addr) (w : World) (h0 : w.cell? ⟨B, 0, none⟩ = some (.pointer none)) (h1 : w.cell? ⟨B, 1, none⟩ = some (.pointer (some q))) : Calls Try.prog 23 #[.slice (some ⟨B, 0, none⟩) 2 2] w fun e w' => e = .returned (.pointer (some q)) ∧ w' = w := by
  go_enter Try.func23, Try.ntmps23
  go_wp2_with fail
  go_loopg [8] 2 (fun g i wr => ((i = .int .i64 0 ∧ g = 2) ∨ (i = .int .i64 1 ∧ g = 1)) ∧ wr = w)
  case atStart => exact ⟨.inl ⟨rfl, rfl⟩, rfl⟩
  case round =>
    obtain ⟨hrel, rfl⟩ := hrel
    rcases hrel with ⟨rfl, hg⟩ | ⟨rfl, hg⟩
    · have Hg : Hid _ := hg
      clear hg
      go_wp2_with fail
      go_roundg 1
      case measure => have := Hg.out; omega
      case rel => exact ⟨.inr ⟨rfl, rfl⟩, rfl⟩
    · clear hg
      go_wp2_with fail
      go_ret
      exact ⟨rfl, rfl⟩

/-- What Begin tells. -/
def BegPost (l : List VT) (w : World) (e : Ending) (w' : World) : Prop := ∃ b h v, e = .returned (.pointer (some ⟨b, 0, none⟩)) ∧ TV w' l b h v ∧ Below w.heap.size w w' ∧ w.heap.size ≤ h ∧ w.heap.size ≤ b

set_option maxRecDepth 100000 in
set_option maxHeartbeats 4000000 in
theorem begin_any (l : List VT) (p : Value) (w : World) (hv : VV w l p) : Calls Try.prog 7 #[p] w (BegPost l w) := by
  have HFin : Hid (∀ (V : World) (v : Nat), Below w.heap.size w V → VV V l (.pointer (some ⟨v, 0, none⟩)) → BegPost l w (.returned (.pointer (some ⟨V.heap.size + 1, 0, none⟩))) ((V.alloc (.cells #[.pointer (some ⟨v, 0, none⟩)] 62)).alloc (.cells #[.pointer (some ⟨V.heap.size, 0, none⟩)] 64))) := fun V v hV hv => by
    have hb : Below V.heap.size V ((V.alloc (.cells #[.pointer (some ⟨v, 0, none⟩)] 62)).alloc (.cells #[.pointer (some ⟨V.heap.size, 0, none⟩)] 64)) := (((Grew.refl V).alloc _).alloc _).below
    refine ⟨V.heap.size + 1, V.heap.size, v, rfl, ⟨?_, (Go.Boxed.new V 62 _).alloc _, hv.keeps hb, by omega⟩, hV.trans (hb.mono hV.size), hV.size, by have := hV.size; omega⟩
    have h1 := (Go.Boxed.new (V.alloc (.cells #[.pointer (some ⟨v, 0, none⟩)] 62)) 64 (.pointer (some ⟨V.heap.size, 0, none⟩))).cell
    rwa [World.size_alloc] at h1
  have HNw : Hid _ := newT_any w
  obtain ⟨po, rfl⟩ := hv.vc.shape
  cases po with
  | none =>
    have hl0 : l = [] := by
      rcases hv.vc with ⟨h, _⟩ | ⟨_, _, h, _⟩
      · exact h
      · cases h
    subst hl0
    clear hv
    go_enter Try.func7, Try.ntmps7
    go_wp2_with fail
    refine Calls.mono HNw.out ?_
    rintro e w1 ⟨rfl, hv1, hb1⟩
    obtain ⟨W1, hW1⟩ : ∃ W1, W1 = w1.alloc (.cells #[.pointer none, .pointer (some ⟨w.heap.size, 0, none⟩)] 24) := ⟨_, rfl⟩
    have hbx : Below w1.heap.size w1 W1 := by rw [hW1]; exact ((Grew.refl w1).alloc _).below
    have HOr : Hid (Calls Try.prog 23 #[.slice (some ⟨w1.heap.size, 0, none⟩) 2 2] W1 fun e w' => e = .returned (.pointer (some ⟨w.heap.size, 0, none⟩)) ∧ w' = W1) := or_second w1.heap.size _ W1 (by rw [hW1]; simp) (by rw [hW1]; simp)
    have HE : Hid _ := HFin.out W1 _ (hb1.trans (hbx.mono hb1.size)) (hv1.keeps hbx)
    have HW1 : Hid (W1 = w1.alloc (.cells #[.pointer none, .pointer (some ⟨w.heap.size, 0, none⟩)] 24)) := hW1
    rw [hW1] at HOr
    clear HNw hv1 hbx hW1 HFin
    go_wp2_with fail
    refine Calls.mono HOr.out ?_
    rintro e w2 ⟨rfl, hw2⟩
    rw [← HW1.out] at hw2
    subst hw2
    clear HOr
    go_wp2_with fail
    go_ret
    exact HE.out
  | some pa =>
    obtain ⟨v, hpa⟩ : ∃ v, pa = ⟨v, 0, none⟩ := by
      rcases hv.vc with ⟨_, h⟩ | ⟨v, _, h, _⟩
      · cases h
      · injection h with h; injection h with h; exact ⟨v, h⟩
    subst hpa
    have HV : Hid (VV w l (.pointer (some ⟨v, 0, none⟩))) := hv
    clear hv
    go_enter Try.func7, Try.ntmps7
    go_wp2_with fail
    refine Calls.mono HNw.out ?_
    rintro e w1 ⟨rfl, _, hb1⟩
    obtain ⟨W1, hW1⟩ : ∃ W1, W1 = w1.alloc (.cells #[.pointer (some ⟨v, 0, none⟩), .pointer (some ⟨w.heap.size, 0, none⟩)] 24) := ⟨_, rfl⟩
    have hbx : Below w1.heap.size w1 W1 := by rw [hW1]; exact ((Grew.refl w1).alloc _).below
    have HOr : Hid (Calls Try.prog 23 #[.slice (some ⟨w1.heap.size, 0, none⟩) 2 2] W1 fun e w' => e = .returned (.pointer (some ⟨v, 0, none⟩)) ∧ w' = W1) := or_first w1.heap.size _ (some ⟨w.heap.size, 0, none⟩) W1 (by rw [hW1]; simp) (by rw [hW1]; simp)
    have HE : Hid _ := HFin.out W1 v (hb1.trans (hbx.mono hb1.size)) ((HV.out.keeps hb1).keeps hbx)
    have HW1 : Hid (W1 = w1.alloc (.cells #[.pointer (some ⟨v, 0, none⟩), .pointer (some ⟨w.heap.size, 0, none⟩)] 24)) := hW1
    rw [hW1] at HOr
    clear HNw hbx hW1 HFin HV
    go_wp2_with fail
    refine Calls.mono HOr.out ?_
    rintro e w2 ⟨rfl, hw2⟩
    rw [← HW1.out] at hw2
    subst hw2
    clear HOr
    go_wp2_with fail
    go_ret
    exact HE.out

end Go.Proofs.Ytekoaiehhjgfiaa

