/-
  A transient that is open.
-/
import Derived.Test.YtekoaiehhjgfiaaGreatAppSeq
import Derived.Deep.RegionHeld3
import Derived.Test.YtekoaiehhjgfiaaGreatOfP
import Derived.BigRegion
import Derived.Test.YtekoaiehhjgfiaaGreatUtf
import Derived.Test.YtekoaiehhjgfiaaGreatVecM
import Derived.Test.YtekoaiehhjgfiaaGreatVals
import Derived.Test.YtekoaiehhjgfiaaGreatLevel
namespace Go.Proofs.YtekoaiehhjgfiaaGreat
open Go.RowKit Go.Shelf

set_option maxRecDepth 100000 in
theorem vfrom_any (p : Option Addr) (i : Int) (w : World) : Calls Tryz.prog 101 #[.pointer p, .int .i64 i] w fun e w' => e = .returned (.func (.func 144) #[] #[.pointer (some ⟨w.heap.size, 0, none⟩), .pointer (some ⟨w.heap.size + 1, 0, none⟩)]) ∧ w' = (w.alloc (.cells #[.pointer p] 24)).alloc (.cells #[.int .i64 i] 3) := by
  go_enter Tryz.func101, Tryz.ntmps101
  go_wp2_with fail
  go_ret
  exact ⟨rfl, rfl⟩

/-- What kept tells: the items as they lie, in a list of their own. -/
def KeptPost (d : Nat) (l : List VT) (w : World) (e : Ending) (w' : World) : Prop := ∃ v, e = .returned v ∧ (∃ ps : List (VT × Value), ps.map (·.1) = l ∧ w'.ownsRow w.heap.size 34 4 v ps.length (ps.flatMap encP) ∧ ∀ p ∈ ps, Sound d w p) ∧ Below w.heap.size w w'

set_option maxRecDepth 100000 in
set_option maxHeartbeats 8000000 in
theorem kept_any (d : Nat) (l : List VT) (p : Value) (w : World) (h : VC d w l p) (hbig : l.length ≤ 65536) : Calls Tryz.prog 52 #[p] w (KeptPost d l w) := by
  obtain ⟨qs, hq1, hst⟩ := from_stops d w (fun _ => True) l p 0 h (fun _ _ => trivial) (by omega)
  have hql : qs.length ≤ 65536 := by
    have := congrArg List.length hq1
    rw [List.length_map] at this
    rw [this]
    unfold fromL
    split
    · rw [List.length_drop]; omega
    · simp
  have hq2 : qs.map (·.1.1) = l := by
    rw [hq1]
    unfold fromL
    by_cases h0 : (0 : Int) ≤ 0 ∧ (0 : Int) < (l.length : Int)
    · rw [if_pos h0]; simp
    · rw [if_neg h0]
      exact (List.eq_nil_of_length_eq_zero (by omega)).symm
  obtain ⟨i0, hi, hz0, hz1, hz2⟩ := infoV
  obtain ⟨L, hL⟩ : ∃ L, L = l.length := ⟨_, rfl⟩
  obtain ⟨M, hM⟩ : ∃ M, M = madeCells (Value.agg #[.int .i64 0, .int .i64 0, .string ⟨#[]⟩, .slice none 0 0]).cells (((L : Nat) : Int).toNat * i0.size) := ⟨_, rfl⟩
  have hMs : M.size = L * 4 := by rw [hM, size_madeCells, hz1]; simp
  have hmk : ∀ W : World, (Instr.makeSlice 22 (.int .i64 0) (.int .i64 (L : Int))).run Tryz.prog W = .ok (.slice (some ⟨W.heap.size, 0, none⟩) 0 L) (W.alloc (.cells M 34)) := fun W => by
    have h := run_make (P := Tryz.prog) W 22 34 i0 _ Tryz.underlying22 hi hz0 .i64 .i64 0 (L : Int) (by omega) (by omega) (by rw [hz2]; omega) (by omega)
    rw [← hM] at h
    simpa using h
  obtain ⟨po, rfl⟩ := h.shape
  have HLen : Hid (∀ V, Below w.heap.size w V → Calls Tryz.prog 14 #[.pointer po] V (NumPost L V)) := fun V hV => by
    rw [hL]; exact vlen_any d l _ V (h.keeps hV)
  have HApp : Hid (∀ (V : World) (g Bv Bp : Nat), Below w.heap.size w V → V.ownsRow w.heap.size 34 4 (.slice (some ⟨g, 0, none⟩) 0 L) 0 [] → Bv < V.heap.size → Bp < V.heap.size → V.cell? ⟨Bv, 0, none⟩ = some (.pointer po) → V.cell? ⟨Bp, 0, none⟩ = some (.int .i64 0) →
      Calls Tryz.prog 100 #[.slice (some ⟨g, 0, none⟩) 0 L, .func (.func 144) #[] #[.pointer (some ⟨Bv, 0, none⟩), .pointer (some ⟨Bp, 0, none⟩)]] V (KeptPost d l w)) := fun V g Bv Bp hV hrow hlv hlp hv hp => by
    refine (appendSeq_any d w (fun _ => True) qs hql _ _ V hV hrow (fun W hW => hst 5 Bv Bp W (hV.trans (hW.mono hV.size)) (Nat.lt_of_lt_of_le hlv hW.size) (Nat.lt_of_lt_of_le hlp hW.size) (cell_keeps hW hv) (cell_keeps hW hp))).mono ?_
    rintro e w' ⟨v, rfl, ho, hb⟩
    refine ⟨v, rfl, ⟨qs.map (·.1), by rw [List.map_map]; exact hq2, by rw [List.length_map, List.flatMap_map]; exact ho, fun p hp => ?_⟩, hV.trans hb⟩
    obtain ⟨q, _, rfl⟩ := List.mem_map.1 hp
    exact q.2.1
  have HMd : Hid (∀ (V : World), Below w.heap.size w V → (V.alloc (.cells M 34)).ownsRow w.heap.size 34 4 (.slice (some ⟨V.heap.size, 0, none⟩) 0 L) 0 []) := fun V hV => World.ownsRow_made V M L hV.size (by unfold maxLen; omega) hMs
  have cell1 : ∀ (V : World) (x y z : Obj) (i : Value) (T : Nat), x = .cells #[i] T → ((V.alloc x).alloc y).cell? ⟨V.heap.size, 0, none⟩ = some i ∧ (((V.alloc x).alloc y).alloc z).cell? ⟨V.heap.size, 0, none⟩ = some i := fun V x y z i T e => by
    subst e
    have h1 := (Go.Boxed.new V T i).alloc y
    exact ⟨h1.cell, (h1.alloc z).cell⟩
  have HA : Hid (∀ V, Below w.heap.size w V → Below w.heap.size w (((V.alloc (.cells M 34)).alloc (.cells #[.pointer po] 24)).alloc (.cells #[.int .i64 0] 3)) ∧ (((V.alloc (.cells M 34)).alloc (.cells #[.pointer po] 24)).alloc (.cells #[.int .i64 0] 3)).ownsRow w.heap.size 34 4 (.slice (some ⟨V.heap.size, 0, none⟩) 0 L) 0 [] ∧ V.heap.size + 1 < (((V.alloc (.cells M 34)).alloc (.cells #[.pointer po] 24)).alloc (.cells #[.int .i64 0] 3)).heap.size ∧ V.heap.size + 1 + 1 < (((V.alloc (.cells M 34)).alloc (.cells #[.pointer po] 24)).alloc (.cells #[.int .i64 0] 3)).heap.size ∧
      (((V.alloc (.cells M 34)).alloc (.cells #[.pointer po] 24)).alloc (.cells #[.int .i64 0] 3)).cell? ⟨V.heap.size + 1, 0, none⟩ = some (.pointer po) ∧ (((V.alloc (.cells M 34)).alloc (.cells #[.pointer po] 24)).alloc (.cells #[.int .i64 0] 3)).cell? ⟨V.heap.size + 1 + 1, 0, none⟩ = some (.int .i64 0)) := fun V hV => by
    refine ⟨((hV.alloc hV.size _).alloc (by simp; have := hV.size; omega) _).alloc (by simp; have := hV.size; omega) _, ((HMd.out _ hV).alloc _).alloc _, by simp, by simp, ?_, ?_⟩
    · have h1 := (cell1 (V.alloc (.cells M 34)) _ (.cells #[.int .i64 0] 3) (.cells #[.int .i64 0] 3) (.pointer po) 24 rfl).1
      rwa [World.size_alloc] at h1
    · have h1 := (Go.Boxed.new ((V.alloc (.cells M 34)).alloc (.cells #[.pointer po] 24)) 3 (.int .i64 0)).cell
      rwa [World.size_alloc, World.size_alloc] at h1
  have HB : Hid (∀ V, Below w.heap.size w V → Below w.heap.size w (((V.alloc (.cells #[.pointer po] 24)).alloc (.cells #[.int .i64 0] 3)).alloc (.cells M 34)) ∧ (((V.alloc (.cells #[.pointer po] 24)).alloc (.cells #[.int .i64 0] 3)).alloc (.cells M 34)).ownsRow w.heap.size 34 4 (.slice (some ⟨V.heap.size + 1 + 1, 0, none⟩) 0 L) 0 [] ∧ V.heap.size < (((V.alloc (.cells #[.pointer po] 24)).alloc (.cells #[.int .i64 0] 3)).alloc (.cells M 34)).heap.size ∧ V.heap.size + 1 < (((V.alloc (.cells #[.pointer po] 24)).alloc (.cells #[.int .i64 0] 3)).alloc (.cells M 34)).heap.size ∧
      (((V.alloc (.cells #[.pointer po] 24)).alloc (.cells #[.int .i64 0] 3)).alloc (.cells M 34)).cell? ⟨V.heap.size, 0, none⟩ = some (.pointer po) ∧ (((V.alloc (.cells #[.pointer po] 24)).alloc (.cells #[.int .i64 0] 3)).alloc (.cells M 34)).cell? ⟨V.heap.size + 1, 0, none⟩ = some (.int .i64 0)) := fun V hV => by
    refine ⟨((hV.alloc hV.size _).alloc (by simp; have := hV.size; omega) _).alloc (by simp; have := hV.size; omega) _, ?_, (by first | (simp; done) | (simp; omega)), (by first | (simp; done) | (simp; omega)), (cell1 V _ _ _ _ _ rfl).2, ?_⟩
    · have h1 := HMd.out _ ((hV.alloc hV.size (.cells #[.pointer po] 24)).alloc (by simp; have := hV.size; omega) (.cells #[.int .i64 0] 3))
      rwa [World.size_alloc, World.size_alloc] at h1
    · have h1 := (cell1 (V.alloc (.cells #[.pointer po] 24)) _ (.cells M 34) (.cells M 34) (.int .i64 0) 3 rfl).1
      rwa [World.size_alloc] at h1
  clear cell1 hst hq1 hq2 hql hM hMs hi hz0 hz1 hz2 h hL
  go_enter Tryz.func52, Tryz.ntmps52
  go_wp2_with fail
  go_region_held3 (fun _ => True) (first | trivial | go_keep)
    (first
      | (go_at_call 101; refine (vfrom_any _ _ _).mono ?_; rintro e w3 ⟨rfl, rfl⟩)
      | (go_at_call 14; refine (HLen.out _ (Below.refl _ _).drew).mono ?_; rintro e w1 ⟨rfl, hb1'⟩; have hb1 : Below w.heap.size w w1 := (Below.refl _ _).drew.trans hb1'; clear hb1')
      | (go_at_call 100
         refine (HApp.out _ _ _ _ (by first | exact (HA.out w1 hb1).1 | exact (HB.out w1 hb1).1) (by first | exact (HA.out w1 hb1).2.1 | exact (HB.out w1 hb1).2.1) (by first | exact (HA.out w1 hb1).2.2.1 | exact (HB.out w1 hb1).2.2.1) (by first | exact (HA.out w1 hb1).2.2.2.1 | exact (HB.out w1 hb1).2.2.2.1) (by first | exact (HA.out w1 hb1).2.2.2.2.1 | exact (HB.out w1 hb1).2.2.2.2.1) (by first | exact (HA.out w1 hb1).2.2.2.2.2 | exact (HB.out w1 hb1).2.2.2.2.2)).mono ?_
         rintro e w4 ⟨v4, rfl, hx⟩
         have HE : Hid (KeptPost d l w (.returned v4) w4) := ⟨v4, rfl, hx⟩
         clear hx))
  all_goals (first | (go_ret; exact HE.out) | (go_wp2_with fail; go_ret; exact HE.out))

theorem KeptPost.lies {d : Nat} {l : List VT} {w : World} {e : Ending} {w' : World} (h : KeptPost d l w e w') (hbig : l.length ≤ 65536) : ∃ v, e = .returned v ∧ Lies (d + 1) w' l v ∧ Below w.heap.size w w' := by
  obtain ⟨v, rfl, ⟨ps, rfl, hown, hsd⟩, hb⟩ := h
  exact ⟨v, rfl, own_lies rfl hown (fun p hp => (hsd p hp).keeps hb) (by rw [List.length_map] at hbig; omega), hb⟩

/-- What Items tells: new lists throughout. -/
def ItemsPost (l : List VT) (w : World) (e : Ending) (w' : World) : Prop := ∃ v, e = .returned v ∧ LiesB w.heap.size 17 w' l v ∧ Below w.heap.size w w'

theorem LiesB.mono {b b' : Nat} (hb : b' ≤ b) {w : World} : ∀ (d : Nat) (l : List VT) (v : Value), LiesB b d w l v → LiesB b' d w l v := by
  intro d
  induction d with
  | zero => intro l v h; exact h
  | succ d ih =>
    intro l v h
    obtain ⟨a, c, e, h1, hr⟩ := h
    refine ⟨a, c, e, h1, fun hne => ?_⟩
    obtain ⟨bb, o, ha, hbb, h2, hall⟩ := hr hne
    refine ⟨bb, o, ha, by omega, h2, fun i hi => ?_⟩
    obtain ⟨u, c0, c1, c2, c3, hL, hs⟩ := hall i hi
    exact ⟨u, c0, c1, c2, c3, ih _ _ hL, hs⟩

set_option maxRecDepth 100000 in
set_option maxHeartbeats 4000000 in
theorem items_any (l : List VT) (p : Value) (w : World) (h : VC 16 w l p) (hbig : l.length ≤ 65536) (hR : l.all (rightV 16) = true) : Calls Tryz.prog 13 #[p] w (ItemsPost l w) := by
  obtain ⟨po, rfl⟩ := h.shape
  have HK : Hid (Calls Tryz.prog 52 #[.pointer po] w fun e w' => ∃ v, e = .returned v ∧ Lies 17 w' l v ∧ Below w.heap.size w w') := Calls.mono (kept_any 16 l _ w h hbig) (fun e w' h => h.lies hbig)
  have HC : Hid (∀ (V : World) (v : Value), Lies 17 V l v → Calls Tryz.prog 37 #[v] V fun e w' => ∃ u, e = .returned u ∧ LiesB V.heap.size 17 w' l u ∧ Below V.heap.size V w') := fun V v hv => copyAll_core 16 l v V hv hbig (fun x u W hx hu _ => copyR x u W hu (List.all_eq_true.1 hR x hx))
  clear h hR hbig
  go_enter Tryz.func13, Tryz.ntmps13
  go_wp2_with fail
  refine Calls.mono HK.out ?_
  rintro e w1 ⟨v1, rfl, hv1, hb1⟩
  obtain ⟨a1, c1, rfl, _⟩ := Lies.slice hv1
  have HC1 : Hid _ := HC.out w1 _ hv1
  clear hv1 HK HC
  go_wp2_with fail
  refine Calls.mono HC1.out ?_
  rintro e w2 ⟨v2, rfl, hv2, hb2⟩
  have HE : Hid (ItemsPost l w (.returned v2) w2) := ⟨v2, rfl, LiesB.mono hb1.size _ _ _ hv2, hb1.trans (hb2.mono hb1.size)⟩
  obtain ⟨a2, c2, rfl, _⟩ := Lies.slice (LiesB.lies _ _ _ hv2)
  clear hv2 HC1
  go_wp2_with fail
  go_ret
  exact HE.out

end Go.Proofs.YtekoaiehhjgfiaaGreat

namespace Go.Proofs.YtekoaiehhjgfiaaGreat
open Go.RowKit

/-- Is the value right, read to whatever depth it lies in? -/
def ofN (n : Nat) (l : List VT) : List VT ⊕ Nat := if 65536 < l.length then .inr 2 else if l.all (rightV n) then .inl l else .inr 3
def pushN (n : Nat) (l : List VT) (x : VT) : List VT ⊕ Nat := if rightV n x = true then (if l.length + 1 ≤ 65536 then .inl (l ++ [x]) else .inr 2) else .inr 3
def setN (n : Nat) (l : List VT) (i : Int) (x : VT) : List VT ⊕ Nat := if rightV n x = true then (if 0 ≤ i ∧ i < (l.length : Int) then .inl (l.set i.toNat x) else .inr 5) else .inr 3

theorem canonL {w : World} {n : Nat} {l : List VT} {u : Value} (h : Lies (n + 1) w l u) (hr : l.all (rightV n) = true) : Lies 17 w l u ∧ l.all (rightV 16) = true := by
  have hall : ∀ x ∈ l, Dp 16 x ∧ rightV 16 x = true := fun x hx => by
    obtain ⟨a, c, e, _, hr1⟩ := h
    obtain ⟨i, hi, rfl⟩ := List.getElem_of_mem hx
    obtain ⟨b, o, ha, hrow⟩ := hr1 (fun e => by rw [e] at hi; cases hi)
    obtain ⟨v, _, _, _, _, hL, _⟩ := hrow i hi
    have hd := Dp.of_lies n w _ v hL
    have hrx := List.all_eq_true.1 hr _ (List.getElem_mem hi)
    exact ⟨right_deep hrx hd, (canon hL hrx).2⟩
  exact ⟨Lies.lower 17 (n + 1) l u h (by omega) (fun x hx => (hall x hx).1), List.all_eq_true.2 fun x hx => (hall x hx).2⟩

set_option maxRecDepth 100000 in
set_option maxHeartbeats 4000000 in
theorem of_n (n : Nat) (l : List VT) (u : Value) (w : World) (hu : Lies (n + 1) w l u) : Calls Tryz.prog 7 #[u] w (VecPost 16 (ofN n l) w) := by
  by_cases hg : l.length ≤ 65536 ∧ l.all (rightV n) = true
  · obtain ⟨h1, h2⟩ := canonL hu hg.2
    have e : ofN n l = ofR l := by
      unfold ofN ofR
      rw [if_neg (show ¬ 65536 < l.length by omega), if_pos hg.2, if_neg (show ¬ 65536 < l.length by omega), if_pos h2]
    rw [e]
    exact of_any l u w h1
  · have HCk : Hid _ := checkAll_any n l u w hu
    obtain ⟨k, hk, hke⟩ : ∃ k : Nat, ofN n l = .inr k ∧ (k = 2 ∨ k = 3) ∧ listErr n l = (k : Int) := by
      unfold ofN listErr
      by_cases h1 : 65536 < l.length
      · exact ⟨2, by rw [if_pos h1], .inl rfl, by rw [if_pos h1]; rfl⟩
      · by_cases h2 : l.all (rightV n) = true
        · exact absurd ⟨by omega, h2⟩ hg
        · exact ⟨3, by rw [if_neg h1, if_neg h2], .inr rfl, by rw [if_neg h1, if_neg h2]; rfl⟩
    rw [hk]
    rw [hke.2] at HCk
    obtain ⟨a, c, rfl, _⟩ := Lies.slice hu
    clear hu hg hk
    rcases hke.1 with rfl | rfl
    all_goals
      go_enter Tryz.func7, Tryz.ntmps7
      go_wp2_with fail
      refine Calls.mono HCk.out ?_
      rintro e w1 ⟨rfl, hb1⟩
      clear HCk
      go_wp2_with fail
      go_ret2
      exact ⟨hb1, rfl⟩

theorem lies_oneN {n : Nat} {w : World} {t : VT} {u : Value} {b : Nat} (c0 : w.cell? ⟨b, 0, none⟩ = some (.int .i64 t.kind)) (c1 : w.cell? ⟨b, 1, none⟩ = some (.int .i64 t.num)) (c2 : w.cell? ⟨b, 2, none⟩ = some (.string t.text)) (c3 : w.cell? ⟨b, 3, none⟩ = some u) (hl : Lies n w t.items u) (hs : t.text.size ≤ 9223372036854775807) : Lies (n + 1) w [t] (.slice (some ⟨b, 0, none⟩) 1 1) := by
  refine ⟨_, 1, rfl, ⟨by simp, by simp⟩, fun _ => ⟨b, 0, rfl, fun i hi => ?_⟩⟩
  have : i = 0 := by simp at hi; omega
  subst this
  exact ⟨u, by simpa using c0, by simpa using c1, by simpa using c2, by simpa using c3, hl, hs⟩

set_option maxRecDepth 100000 in
set_option maxHeartbeats 4000000 in
theorem push_n (n : Nat) (l : List VT) (p : Value) (x : VT) (ax : Option Addr) (cx : Nat) (w : World) (h : VC 16 w l p) (hx : Lies n w x.items (.slice ax x.items.length cx)) (hts : x.text.size ≤ 9223372036854775807) (hlen : l.length ≤ 65536) :
    Calls Tryz.prog 96 #[p, .agg #[.int .i64 x.kind, .int .i64 x.num, .string x.text, .slice ax x.items.length cx]] w (VecPost 16 (pushN n l x) w) := by
  by_cases hr : rightV n x = true
  · obtain ⟨h1, h2⟩ := canon hx hr
    have e : pushN n l x = pushR l x := by
      unfold pushN pushR
      rw [if_pos hr, if_pos h2]
    rw [e]
    exact push_any l p x ax cx w h h1 hts hlen
  · have e : pushN n l x = .inr 3 := by unfold pushN; rw [if_neg hr]
    rw [e]
    obtain ⟨po, rfl⟩ := h.shape
    have hb1 : Below w.heap.size w ((w.alloc (.cells #[.int .i64 x.kind, .int .i64 x.num, .string x.text, .slice ax x.items.length cx] 34)).alloc (.cells #[.int .i64 x.kind, .int .i64 x.num, .string x.text, .slice ax x.items.length cx] 34)) := (((Grew.refl w).alloc _).alloc _).below
    have HOf : Hid (Calls Tryz.prog 7 #[.slice (some ⟨w.heap.size + 1, 0, none⟩) 1 1] ((w.alloc (.cells #[.int .i64 x.kind, .int .i64 x.num, .string x.text, .slice ax x.items.length cx] 34)).alloc (.cells #[.int .i64 x.kind, .int .i64 x.num, .string x.text, .slice ax x.items.length cx] 34)) (VecPost 16 (.inr 3) ((w.alloc (.cells #[.int .i64 x.kind, .int .i64 x.num, .string x.text, .slice ax x.items.length cx] 34)).alloc (.cells #[.int .i64 x.kind, .int .i64 x.num, .string x.text, .slice ax x.items.length cx] 34)))) := by
      have h9 := of_n n [x] _ _ (lies_oneN (u := .slice ax x.items.length cx) (b := w.heap.size + 1) (w := (w.alloc (.cells #[.int .i64 x.kind, .int .i64 x.num, .string x.text, .slice ax x.items.length cx] 34)).alloc (.cells #[.int .i64 x.kind, .int .i64 x.num, .string x.text, .slice ax x.items.length cx] 34)) (by simp) (by simp) (by simp) (by simp) (Lies.keeps hb1 _ _ _ hx) hts)
      have e2 : ofN n [x] = .inr 3 := by
        unfold ofN
        rw [if_neg (by simp), if_neg (by simpa using hr)]
      rw [e2] at h9
      exact h9
    have Hb1 : Hid (Below w.heap.size w ((w.alloc (.cells #[.int .i64 x.kind, .int .i64 x.num, .string x.text, .slice ax x.items.length cx] 34)).alloc (.cells #[.int .i64 x.kind, .int .i64 x.num, .string x.text, .slice ax x.items.length cx] 34))) := hb1
    obtain ⟨x0, x1, x2, x3, z0, z1, z2, z3⟩ := bx_alloc w x (.slice ax x.items.length cx)
    clear hx hts hr e h hb1 hlen
    go_enter Tryz.func96, Tryz.ntmps96
    go_wp2_with fail
    refine Calls.mono HOf.out ?_
    rintro e w1 ⟨hg1, rfl⟩
    have HE : Hid (VecPost 16 (.inr 3) w (.returned (.tuple #[.pointer none, .int .i64 3])) w1) := ⟨Hb1.out.trans (hg1.mono Hb1.out.size), rfl⟩
    clear HOf x0 x1 x2 x3 z0 z1 z2 z3
    go_wp2_with fail
    go_ret2
    exact HE.out

set_option maxRecDepth 100000 in
set_option maxHeartbeats 8000000 in
theorem vset_n (n : Nat) (l : List VT) (p : Value) (i : Int) (x : VT) (ax : Option Addr) (cx : Nat) (w : World) (h : VC 16 w l p) (hx : Lies n w x.items (.slice ax x.items.length cx)) (hts : x.text.size ≤ 9223372036854775807) (hbig : l.length ≤ 1099511627776) :
    Calls Tryz.prog 97 #[p, .int .i64 i, .agg #[.int .i64 x.kind, .int .i64 x.num, .string x.text, .slice ax x.items.length cx]] w (VecPost 16 (setN n l i x) w) := by
  by_cases hr : rightV n x = true
  · obtain ⟨h1, h2⟩ := canon hx hr
    have e : setN n l i x = setR l i x := by
      unfold setN setR
      rw [if_pos hr, if_pos h2]
    rw [e]
    exact vset_any l p i x ax cx w h h1 hts hbig
  · have e : setN n l i x = .inr 3 := by unfold setN; rw [if_neg hr]
    rw [e]
    have hb0 : Below w.heap.size w (w.alloc (.cells #[.int .i64 x.kind, .int .i64 x.num, .string x.text, .slice ax x.items.length cx] 34)) := ((Grew.refl w).alloc _).below
    have Hb0 : Hid (Below w.heap.size w (w.alloc (.cells #[.int .i64 x.kind, .int .i64 x.num, .string x.text, .slice ax x.items.length cx] 34))) := hb0
    have HCk : Hid _ := check_any n x (.slice ax x.items.length cx) _ (Lies.keeps hb0 _ _ _ hx) hts
    obtain ⟨x0, x1, x2, x3, z0, z1, z2, z3⟩ := bx_alloc w x (.slice ax x.items.length cx)
    have hr' : rightV n x = false := by simpa using hr
    rw [hr'] at HCk
    clear h hx hts hbig hr hr' hb0 e
    go_enter Tryz.func97, Tryz.ntmps97
    go_wp2_with fail
    refine Calls.mono HCk.out ?_
    rintro e w1 ⟨rfl, hg1⟩
    have HE : Hid (VecPost 16 (.inr 3) w (.returned (.tuple #[.pointer none, .int .i64 3])) w1) := ⟨Hb0.out.trans (hg1.mono Hb0.out.size), rfl⟩
    clear HCk x0 x1 x2 x3 z0 z1 z2 z3
    simp only [errOf]
    go_wp2_with fail
    go_ret2
    exact HE.out

end Go.Proofs.YtekoaiehhjgfiaaGreat

namespace Go.Proofs.YtekoaiehhjgfiaaGreat
open Go.RowKit

/-- A number as a value's tree. -/
def numT (n : Int) : VT := ⟨2, n, ⟨#[]⟩, []⟩
def numP (n : Int) : VT × Value := (numT n, .slice none 0 0)

theorem right_num (n : Int) : rightV 16 (numT n) = true := by
  simp [rightV, fw, fwL, rpV, ownV, okNum, okText, okItems, numT]

theorem nums_cells (zs : List Int) : zs.flatMap cellsInt = (zs.map numP).flatMap encP := by
  induction zs with
  | nil => rfl
  | cons z zs ih => rw [List.flatMap_cons, List.map_cons, List.flatMap_cons, ih]; rfl

theorem lies_nilD (d : Nat) (w : World) : Lies d w [] (.slice none 0 0) := by
  cases d with
  | zero => exact ⟨rfl, none, 0, rfl⟩
  | succ d => exact ⟨none, 0, rfl, by simp, fun h => absurd rfl h⟩

theorem nums_lies {w : World} {b c : Nat} (zs : List Int) (h : RowAt w b 0 (zs.map numP)) (hl : zs.length ≤ 1000) (hc : zs.length ≤ c) : Lies 17 w (zs.map numT) (.slice (some ⟨b, 0, none⟩) zs.length c) := by
  have := lies_of_row (d := 16) (c := c) h (fun p hp => by
    obtain ⟨z, _, rfl⟩ := List.mem_map.1 hp
    exact ⟨lies_nilD _ _, by show 0 ≤ 9223372036854775807; omega⟩) (by simp; omega) (by simpa using hc)
  simpa [List.map_map, Function.comp_def, numP] using this

theorem nums_right (zs : List Int) : (zs.map numT).all (rightV 16) = true := by
  rw [List.all_eq_true]
  intro x hx
  obtain ⟨z, _, rfl⟩ := List.mem_map.1 hx
  exact right_num z

theorem nums_of (zs : List Int) (h : zs.length ≤ 1000) : ofR (zs.map numT) = .inl (zs.map numT) := by
  unfold ofR
  rw [if_neg (by simp; omega), if_pos (nums_right zs)]

set_option maxHeartbeats 1000000 in
theorem nums_any (zs : List Int) (b cap : Nat) (w : World) (h0 : zs ≠ []) (hz : zs.length ≤ 1000) (hc : ∀ (i : Nat) (h : i < zs.length), w.cell? ⟨b, 0 + i, none⟩ = some (.int .i64 (zs[i]'h))) :
    Calls Tryz.prog 38 #[.slice (some ⟨b, 0, none⟩) zs.length cap] w fun e w' => ∃ g c, e = .returned (.slice (some ⟨g, 0, none⟩) zs.length c) ∧ Lies 17 w' (zs.map numT) (.slice (some ⟨g, 0, none⟩) zs.length c) ∧ Below w.heap.size w w' := by
  refine (ints_any b zs cap w hz hc).mono ?_
  rintro e w1 ⟨v, rfl, hown, hb⟩
  rw [nums_cells] at hown
  obtain ⟨g, c, rfl, _, hcp, _, hrow, _⟩ := own_row (ps := zs.map numP) (by simpa using hown) (by simpa using h0)
  refine ⟨g, c, by simp, nums_lies zs hrow hz (by simpa using hcp), hb⟩

/-- A vector whose items are right. -/
structure VV (w : World) (l : List VT) (p : Value) : Prop where
  vc : VC 16 w l p
  len : l.length ≤ 65536
  right : l.all (rightV 16) = true

theorem VV.keeps {w w' : World} {l : List VT} {p : Value} (h : VV w l p) (hb : Below w.heap.size w w') : VV w' l p := ⟨h.vc.keeps hb, h.len, h.right⟩

end Go.Proofs.YtekoaiehhjgfiaaGreat

namespace Go.Proofs.YtekoaiehhjgfiaaGreat
open Go.RowKit

/-- A vector whose items are right, or an error. -/
def VvPost (r : List VT ⊕ Nat) (w : World) (e : Ending) (w' : World) : Prop :=
  Below w.heap.size w w' ∧ match r with
  | .inl l => ∃ b, e = .returned (.tuple #[.pointer (some ⟨b, 0, none⟩), .int .i64 0]) ∧ VV w' l (.pointer (some ⟨b, 0, none⟩))
  | .inr n => e = .returned (.tuple #[.pointer none, .int .i64 (n : Int)])

theorem VecPost.vv {r : List VT ⊕ Nat} {w : World} {e : Ending} {w' : World} (h : VecPost 16 r w e w') (hr : ∀ l, r = .inl l → l.length ≤ 65536 ∧ l.all (rightV 16) = true) : VvPost r w e w' := by
  obtain ⟨hb, hp⟩ := h
  refine ⟨hb, ?_⟩
  cases r with
  | inl l =>
    obtain ⟨b, rfl, hv⟩ := hp
    exact ⟨b, rfl, hv, (hr l rfl).1, (hr l rfl).2⟩
  | inr n => exact hp

end Go.Proofs.YtekoaiehhjgfiaaGreat

namespace Go.Proofs.YtekoaiehhjgfiaaGreat
open Go.RowKit

/-- What holds no pointer is there as it was. -/
def KeepsNP (w w' : World) : Prop := ∀ a u, (∀ q, u ≠ .pointer q) → w.cell? a = some u → w'.cell? a = some u

theorem Lies.np {w w' : World} (hk : KeepsNP w w') : ∀ (d : Nat) (l : List VT) (v : Value), Lies d w l v → Lies d w' l v := by
  intro d
  induction d with
  | zero => intro l v h; exact h
  | succ d ih =>
    intro l v h
    obtain ⟨a, c, hv, hb, hr⟩ := h
    refine ⟨a, c, hv, hb, fun hne => ?_⟩
    obtain ⟨b, o, ha, hall⟩ := hr hne
    refine ⟨b, o, ha, fun i hi => ?_⟩
    obtain ⟨u, c0, c1, c2, c3, hL, hs⟩ := hall i hi
    obtain ⟨a', c', hu, _⟩ := Lies.slice hL
    exact ⟨u, hk _ _ (by intro q h; cases h) c0, hk _ _ (by intro q h; cases h) c1, hk _ _ (by intro q h; cases h) c2, hk _ _ (by intro q h; rw [hu] at h; cases h) c3, ih _ _ hL, hs⟩

theorem SlV.np {w w' : World} (hk : KeepsNP w w') {vs : List Value} {v : Value} (hn : ∀ u ∈ vs, ∀ q, u ≠ .pointer q) (h : SlV w vs v) : SlV w' vs v := by
  obtain ⟨a, c, hv, hc, hr⟩ := h
  refine ⟨a, c, hv, hc, fun hne => ?_⟩
  obtain ⟨b, o, ha, hcs⟩ := hr hne
  exact ⟨b, o, ha, fun i hi => hk _ _ (hn _ (List.getElem_mem hi)) (hcs i hi)⟩

theorem ND.np {d : Nat} {w w' : World} (hk : KeepsNP w w') : ∀ (h : Nat) (k : Bool) (l : List VT) (v : Value), ND d h k w l v → ND d h k w' l v := by
  intro h
  induction h with
  | zero =>
    intro k l v hn
    obtain ⟨b, a, c, hv, hc, hl, h1, h2, h3⟩ := hn
    exact ⟨b, a, c, hv, hk _ _ (by intro q h; cases h) hc, hl.np hk, h1, h2, h3⟩
  | succ h ih =>
    intro k l v hn
    obtain ⟨b, sl, el, ps, hv, hc0, hc1, hs, he, h1, h2, h3, hl, hp⟩ := hn
    obtain ⟨a1, c1, e1, _⟩ := hs.slice
    obtain ⟨a2, c2, e2, _⟩ := he.slice
    refine ⟨b, sl, el, ps, hv, hk _ _ (by intro q h; rw [e1] at h; cases h) hc0, hk _ _ (by intro q h; rw [e2] at h; cases h) hc1, hs.np hk (fun u hu q e => ?_), he.np hk (fun u hu q e => ?_), h1, h2, h3, hl, fun i hi => ih _ _ _ (hp i hi)⟩
    · obtain ⟨p, hpm, rfl⟩ := List.mem_map.1 hu
      obtain ⟨i, hi, rfl⟩ := List.getElem_of_mem hpm
      obtain ⟨T, q', e'⟩ := nd_iface (hp i hi)
      rw [e'] at e
      cases e
    · unfold ends at hu
      obtain ⟨n, _, rfl⟩ := List.mem_map.1 hu
      cases e

theorem VC.np {d : Nat} {w w' : World} (hk : KeepsNP w w') {l : List VT} {p : Value} (h : VC d w l p) : VC d w' l p := by
  rcases h with h | ⟨b, t, hp, hc, ht⟩
  · exact .inl h
  · refine .inr ⟨b, t, hp, ?_, ?_⟩
    · refine hk _ _ (fun q e => ?_) hc
      rcases ht with ⟨_, e'⟩ | ⟨h, hn, _⟩
      · rw [e'] at e; cases e
      · obtain ⟨T, q', e'⟩ := nd_iface hn
        rw [e'] at e; cases e
    · rcases ht with ht | ⟨h, hn, hw⟩
      · exact .inl ht
      · exact .inr ⟨h, hn.np hk _ _ _ _, hw⟩

theorem VV.np {w w' : World} (hk : KeepsNP w w') {l : List VT} {p : Value} (h : VV w l p) : VV w' l p := ⟨h.vc.np hk, h.len, h.right⟩

theorem KeepsNP.below {w w' : World} (h : Below w.heap.size w w') : KeepsNP w w' := fun _ _ _ hu => cell_keeps h hu
theorem KeepsNP.trans {a b c : World} (h : KeepsNP a b) (k : KeepsNP b c) : KeepsNP a c := fun x u hu hc => k x u hu (h x u hu hc)

theorem KeepsNP.set {w : World} {B T : Nat} {x : Option Addr} (y : Value) (hB : Go.Boxed w B T (.pointer x)) : KeepsNP w (w.setCell ⟨B, 0, none⟩ y) := by
  intro a u hu hc
  by_cases hab : a.block = B
  · exfalso
    have hB' : w.heap[B]? = some (.cells #[.pointer x] T (0, 0)) := hB
    unfold World.cell? at hc
    rw [hab, hB'] at hc
    obtain ⟨ab, ao, asp⟩ := a
    cases asp with
    | none =>
      cases ao with
      | zero => simp at hc; exact hu x hc.symm
      | succ n => simp at hc
    | some sp => simp at hc
  · exact (grownBy_setCell' w B y).cell hc (fun e => hab (by injection e))

/-- A transient that is open: where it lies, where its vector is held, and that vector. -/
structure TV (w : World) (l : List VT) (b h v : Nat) : Prop where
  c0 : w.cell? ⟨b, 0, none⟩ = some (.pointer (some ⟨h, 0, none⟩))
  bx : Go.Boxed w h 89 (.pointer (some ⟨v, 0, none⟩))
  vv : VV w l (.pointer (some ⟨v, 0, none⟩))
  ne : b ≠ h

theorem TV.keeps {w w' : World} {l : List VT} {b h v : Nat} (t : TV w l b h v) (hb : Below w.heap.size w w') : TV w' l b h v :=
  ⟨cell_keeps hb t.c0, (hb.block h t.bx.lt).trans t.bx, t.vv.keeps hb, t.ne⟩

/-- A transient that is sealed. -/
structure TS (w : World) (b h : Nat) : Prop where
  c0 : w.cell? ⟨b, 0, none⟩ = some (.pointer (some ⟨h, 0, none⟩))
  bx : Go.Boxed w h 89 (.pointer none)

theorem TS.keeps {w w' : World} {b h : Nat} (t : TS w b h) (hb : Below w.heap.size w w') : TS w' b h :=
  ⟨cell_keeps hb t.c0, (hb.block h t.bx.lt).trans t.bx⟩

set_option maxRecDepth 100000 in
theorem open_any (l : List VT) (b h v : Nat) (w : World) (t : TV w l b h v) : Calls Tryz.prog 51 #[.pointer (some ⟨b, 0, none⟩)] w fun e w' => e = .returned (.tuple #[.pointer (some ⟨h, 0, none⟩), .int .i64 0]) ∧ w' = w := by
  have h0 := t.c0
  have h1 := t.bx.cell
  clear t
  go_enter Tryz.func51, Tryz.ntmps51
  go_wp2_with fail
  go_ret2
  exact ⟨rfl, rfl⟩

set_option maxRecDepth 100000 in
theorem open_sealed (b h : Nat) (w : World) (t : TS w b h) : Calls Tryz.prog 51 #[.pointer (some ⟨b, 0, none⟩)] w fun e w' => e = .returned (.tuple #[.pointer none, .int .i64 7]) ∧ w' = w := by
  have h0 := t.c0
  have h1 := t.bx.cell
  clear t
  go_enter Tryz.func51, Tryz.ntmps51
  go_wp2_with fail
  go_ret2
  exact ⟨rfl, rfl⟩

/-- Shut: open says so. -/
def Shut13 (w : World) (p : Value) : Prop := (∃ o, p = .pointer o) ∧ ∀ V, Below w.heap.size w V → Calls Tryz.prog 51 #[p] V fun e w' => e = .returned (.tuple #[.pointer none, .int .i64 7]) ∧ w' = V

theorem TS.shut {w : World} {b h : Nat} (t : TS w b h) : Shut13 w (.pointer (some ⟨b, 0, none⟩)) := ⟨⟨_, rfl⟩, fun V hV => open_sealed b h V (t.keeps hV)⟩
theorem Shut13.keeps {w w' : World} {p : Value} (h : Shut13 w p) (hb : Below w.heap.size w w') : Shut13 w' p := ⟨h.1, fun V hV => h.2 V (hb.trans (hV.mono hb.size))⟩

set_option maxRecDepth 100000 in
set_option maxHeartbeats 4000000 in
theorem shut_push (p : Value) (x : VT) (ax : Option Addr) (cx : Nat) (w : World) (h : Shut13 w p) : Calls Tryz.prog 39 #[p, .agg #[.int .i64 x.kind, .int .i64 x.num, .string x.text, .slice ax x.items.length cx]] w fun e w' => e = .returned (.int .i64 7) ∧ Below w.heap.size w w' := by
  obtain ⟨po, rfl⟩ := h.1
  have hbz : Below w.heap.size w (w.alloc (.cells #[.int .i64 x.kind, .int .i64 x.num, .string x.text, .slice ax x.items.length cx] 34)) := ((Grew.refl w).alloc _).below
  have HO : Hid _ := h.2 _ hbz
  clear h
  go_enter Tryz.func39, Tryz.ntmps39
  go_wp2_with fail
  refine Calls.mono HO.out ?_
  rintro e w1 ⟨rfl, rfl⟩
  clear HO
  go_wp2_with fail
  go_ret
  exact ⟨rfl, hbz⟩

end Go.Proofs.YtekoaiehhjgfiaaGreat

namespace Go.Proofs.YtekoaiehhjgfiaaGreat
open Go.RowKit

/-- A list is told, or an error. -/
def LstPost (r : List VT ⊕ Nat) (w : World) (e : Ending) (w' : World) : Prop :=
  Below w.heap.size w w' ∧ match r with
  | .inl m => ∃ a c, e = .returned (.tuple #[.slice a m.length c, .int .i64 0]) ∧ Lies 17 w' m (.slice a m.length c)
  | .inr k => e = .returned (.tuple #[.slice none 0 0, .int .i64 (k : Int)])

theorem src_of {w : World} {l : List VT} {a : Option Addr} {c : Nat} (h : Lies 17 w l (.slice a l.length c)) : ∃ ps : List (VT × Value), ps.map (·.1) = l ∧ ps.length = l.length ∧ Src w a l.length 4 (ps.flatMap encP) ∧ ∀ p ∈ ps, Sound 16 w p := by
  obtain ⟨ps, h1, h2, h3⟩ := SlP.of_lies h
  obtain ⟨_, _, e, _, _, _, h4⟩ := id h3
  exact ⟨ps, h1, h2, SlP.src h3, h4⟩

set_option maxRecDepth 100000 in
set_option maxHeartbeats 8000000 in
theorem rpush_any (n : Nat) (l : List VT) (a : Option Addr) (c : Nat) (x : VT) (ax : Option Addr) (cx : Nat) (w : World) (hl : Lies 17 w l (.slice a l.length c)) (hlen : l.length ≤ 65536) (hx : Lies n w x.items (.slice ax x.items.length cx)) (hts : x.text.size ≤ 9223372036854775807) :
    Calls Tryz.prog 45 #[.slice a l.length c, .agg #[.int .i64 x.kind, .int .i64 x.num, .string x.text, .slice ax x.items.length cx]] w (LstPost (pushN n l x) w) := by
  obtain ⟨i0, hi, hz0, hz1, hz2⟩ := info24
  have Hi : Hid _ := hi; have Hz0 : Hid _ := hz0; have Hz1 : Hid _ := hz1; have Hz2 : Hid _ := hz2
  obtain ⟨wA, hwA⟩ : ∃ wA, wA = w.alloc (.cells #[.int .i64 x.kind, .int .i64 x.num, .string x.text, .slice ax x.items.length cx] 34) := ⟨_, rfl⟩
  have hbA : Below w.heap.size w wA := by rw [hwA]; exact ((Grew.refl w).alloc _).below
  have HRt : Hid _ := right_any n x (.slice ax x.items.length cx) wA (Lies.keeps hbA _ _ _ hx)
  have HBx : Hid (Bx wA w.heap.size x (.slice ax x.items.length cx)) := by rw [hwA]; exact bx_alloc w x _
  obtain ⟨x0, x1, x2, x3, _, _, _, _⟩ := HBx.out
  have HwA : Hid (wA = w.alloc (.cells #[.int .i64 x.kind, .int .i64 x.num, .string x.text, .slice ax x.items.length cx] 34)) := hwA
  obtain ⟨R, hR⟩ : ∃ R, R = pushN n l x := ⟨_, rfl⟩
  rw [← hR]
  unfold pushN at hR
  clear hi hz0 hz1 hz2
  rw [hwA] at HRt x0 x1 x2 x3
  by_cases hr : rightV n x = true
  · rw [if_pos hr] at hR
    rw [hr] at HRt
    by_cases hs : l.length + 1 ≤ 65536
    · rw [if_pos hs] at hR
      have HR : Hid (R = .inl (l ++ [x])) := hR
      obtain ⟨ps, hp1, hp2, hsrc, hsd⟩ := src_of hl
      have HS : Hid (Src w a l.length 4 (ps.flatMap encP)) := hsrc
      have Hx16 : Hid (Lies 16 w x.items (.slice ax x.items.length cx)) := (canon hx hr).1
      obtain ⟨L, hL⟩ : ∃ L, L = l.length := ⟨_, rfl⟩
      rw [← hL] at hs HS ⊢
      have hLi : ¬ ((L : Nat) : Int) = 65536 := by omega
      have HF : Hid (∀ (v : Value) (w' : World), w'.ownsRow w.heap.size 34 4 v (L + 1) (ps.flatMap encP ++ encP (x, .slice ax x.items.length cx)) → Below w.heap.size w w' → ∃ a c, v = .slice a (l ++ [x]).length c ∧ LstPost R w (.returned (.tuple #[v, .int .i64 0])) w') := fun v w' ho hb => by
        have hl9 := own_lies (ps := ps ++ [(x, .slice ax x.items.length cx)]) (d := 16) (n := L + 1) (by rw [List.length_append, hp2, hL]; rfl) (by rw [List.flatMap_append]; simpa using ho) (fun p hp => by
          rcases List.mem_append.1 hp with hp | hp
          · exact (hsd p hp).keeps hb
          · rw [List.mem_singleton.1 hp]
            exact ⟨Lies.keeps hb _ _ _ Hx16.out, hts⟩) (by rw [List.length_append, hp2]; simp; omega)
        have e9 : (ps ++ [(x, Value.slice ax x.items.length cx)]).map (·.1) = l ++ [x] := by rw [List.map_append, hp1]; rfl
        rw [e9] at hl9
        obtain ⟨a9, c9, rfl, _⟩ := Lies.slice hl9
        refine ⟨a9, c9, rfl, ?_⟩
        rw [HR.out]
        exact ⟨hb, a9, c9, rfl, hl9⟩
      clear hl hlen hx hr hR hp1 hsd hsrc hL hwA hts
      go_enter Tryz.func45, Tryz.ntmps45
      go_wp2_with fail
      refine Calls.mono HRt.out ?_
      rintro e w1 ⟨rfl, hg1⟩
      rw [← HwA.out] at hg1
      have hb1 : Below w.heap.size w w1 := hbA.trans (hg1.mono hbA.size)
      have HB1 : Hid (Bx w1 w.heap.size x (.slice ax x.items.length cx)) := HBx.out.keeps hg1
      have hs1 : w.heap.size ≤ w1.heap.size := hb1.size
      clear HRt x0 x1 x2 x3 HBx HwA hg1 hbA
      have Hnil : Hid (w1.ownsRow w.heap.size 34 4 (.slice none 0 0) 0 []) := World.ownsRow_nil _ _ _ _
      have HFa : Hid (∀ v2 w2, w2.ownsRow w.heap.size 34 4 v2 (0 + L) ([] ++ ps.flatMap encP) → w1.grownBy w2 (Value.slice none 0 0).ownBlock → Bx w2 w.heap.size x (.slice ax x.items.length cx) ∧ Below w.heap.size w (w2.alloc (.cells #[.int .i64 x.kind, .int .i64 x.num, .string x.text, .slice ax x.items.length cx] 34)) ∧ (w2.alloc (.cells #[.int .i64 x.kind, .int .i64 x.num, .string x.text, .slice ax x.items.length cx] 34)).ownsRow w.heap.size 34 4 v2 L (ps.flatMap encP) ∧ (∀ ad, some (⟨w2.heap.size, 0, none⟩ : Addr) = some ad → ∀ j u, (encP (x, .slice ax x.items.length cx))[j]? = some u → (w2.alloc (.cells #[.int .i64 x.kind, .int .i64 x.num, .string x.text, .slice ax x.items.length cx] 34)).cell? (ad.add j) = some u)) := fun v2 w2 hown2 hgrow2 => by
        have hb2 : Below w.heap.size w w2 := own_growM hb1 hs1 Hnil.out hgrow2
        have hbx : Below w2.heap.size w2 (w2.alloc (.cells #[.int .i64 x.kind, .int .i64 x.num, .string x.text, .slice ax x.items.length cx] 34)) := ((Grew.refl w2).alloc _).below
        refine ⟨HB1.out.keeps ⟨hgrow2.os, hgrow2.tape, hgrow2.output, hgrow2.size, fun k hk => hgrow2.block k hk (by simp [Value.ownBlock])⟩, hb2.trans (hbx.mono hb2.size), World.ownsRow.alloc (by simpa using hown2) _, fun ad e j u hu => ?_⟩
        injection e with e
        subst e
        match j, hu with
        | 0, hu => simp [encP] at hu; subst hu; simp [Addr.add]
        | 1, hu => simp [encP] at hu; subst hu; simp [Addr.add]
        | 2, hu => simp [encP] at hu; subst hu; simp [Addr.add]
        | 3, hu => simp [encP] at hu; subst hu; simp [Addr.add]
      go_wp2_with (first
        | (at_builtin; refine wpList_append_row rfl _ _ rfl w.heap.size i0 Hi.out Hz0.out Hz1.out Hz2.out v2 L (ps.flatMap encP) rfl Hown3.out (some ⟨w2.heap.size, 0, none⟩) 1 1 (encP (x, .slice ax x.items.length cx)) rfl (fun e => nomatch e) rfl Hnews.out (by intro u hu; simp [encP] at hu; rcases hu with rfl | rfl | rfl | rfl <;> rfl) (by unfold maxLen; omega) (by omega) Hb3.out.size ?_; intro v4 w4 hown4 hgrow4)
        | (at_builtin; refine wpList_append_row rfl _ _ rfl w.heap.size i0 Hi.out Hz0.out Hz1.out Hz2.out (.slice none 0 0) 0 [] rfl Hnil.out a L c (ps.flatMap encP) rfl HS.out.none HS.out.len (HS.out.cell hb1) HS.out.one (by unfold maxLen; omega) (by omega) hs1 ?_; intro v2 w2 hown2 hgrow2; obtain ⟨hBx2, hb3, hown3, hnews⟩ := HFa.out v2 w2 hown2 hgrow2; obtain ⟨x0, x1, x2, x3, _, _, _, _⟩ := hBx2; have Hb3 : Hid _ := hb3; have Hown3 : Hid _ := hown3; have Hnews : Hid _ := hnews; clear hown2 hgrow2 hb3 hown3 hnews HFa))
      have hb4 : Below w.heap.size w w4 := own_growM Hb3.out Hb3.out.size Hown3.out hgrow4
      obtain ⟨a4, c4, rfl, hfin⟩ := HF.out v4 w4 hown4 hb4
      have HE : Hid _ := hfin
      clear hown4 hgrow4 hfin
      go_wp2_with fail
      go_ret2
      exact HE.out
    · rw [if_neg hs] at hR
      have HR : Hid (R = .inr 2) := hR
      have hL : l.length = 65536 := by omega
      clear hl hx hr hR hwA hts hs hlen
      rw [hL]
      go_enter Tryz.func45, Tryz.ntmps45
      go_wp2_with fail
      refine Calls.mono HRt.out ?_
      rintro e w1 ⟨rfl, hg1⟩
      rw [← HwA.out] at hg1
      have HE : Hid (LstPost R w (.returned (.tuple #[.slice none 0 0, .int .i64 2])) w1) := by
        show LstPost _ _ _ _
        rw [HR.out]
        exact ⟨hbA.trans (hg1.mono hbA.size), rfl⟩
      clear HRt x0 x1 x2 x3 HBx HwA hg1 hbA
      go_wp2_with fail
      go_ret2
      exact HE.out
  · rw [if_neg hr] at hR
    have hr' : rightV n x = false := by simpa using hr
    rw [hr'] at HRt
    have HR : Hid (R = .inr 3) := hR
    clear hl hx hr hr' hR hwA hts hlen
    go_enter Tryz.func45, Tryz.ntmps45
    go_wp2_with fail
    refine Calls.mono HRt.out ?_
    rintro e w1 ⟨rfl, hg1⟩
    rw [← HwA.out] at hg1
    have HE : Hid (LstPost R w (.returned (.tuple #[.slice none 0 0, .int .i64 3])) w1) := by
      show LstPost _ _ _ _
      rw [HR.out]
      exact ⟨hbA.trans (hg1.mono hbA.size), rfl⟩
    clear HRt x0 x1 x2 x3 HBx HwA hg1 hbA
    go_wp2_with fail
    go_ret2
    exact HE.out

end Go.Proofs.YtekoaiehhjgfiaaGreat

namespace Go.Proofs.YtekoaiehhjgfiaaGreat
open Go.RowKit

/-- A step: its kind, its place, its value. -/
abbrev StepP : Type := Int × Int × (VT × Value)

/-- The six cells of a step. -/
def SixAt (w : World) (b o : Nat) (s : StepP) : Prop :=
  w.cell? ⟨b, o, none⟩ = some (.int .i64 s.1) ∧ w.cell? ⟨b, o + 1, none⟩ = some (.int .i64 s.2.1) ∧ w.cell? ⟨b, o + 2, none⟩ = some (.int .i64 s.2.2.1.kind) ∧ w.cell? ⟨b, o + 3, none⟩ = some (.int .i64 s.2.2.1.num) ∧ w.cell? ⟨b, o + 4, none⟩ = some (.string s.2.2.1.text) ∧ w.cell? ⟨b, o + 5, none⟩ = some s.2.2.2

/-- A slice of steps. -/
def SlS (n : Nat) (w : World) (ss : List StepP) (v : Value) : Prop :=
  ∃ a c, v = .slice a ss.length c ∧ ss.length ≤ c ∧ ss.length ≤ 9223372036854775807 ∧ (ss ≠ [] → ∃ b o, a = some ⟨b, o, none⟩ ∧ ∀ (i : Nat) (h : i < ss.length), SixAt w b (o + i * 6) (ss[i]'h)) ∧ ∀ s ∈ ss, Sound n w s.2.2

/-- What a step holds, wherever it is looked at. -/
theorem SlS.at {n : Nat} {w : World} {ss : List StepP} {v : Value} (h : SlS n w ss v) : ∃ a c, v = .slice a ss.length c ∧ ss.length ≤ c ∧ ss.length ≤ 9223372036854775807 ∧ ∀ (j : Nat), j < ss.length → ∃ (b o : Nat) (k t : Int) (x : VT) (ax : Option Addr) (cx : Nat), a = some ⟨b, o, none⟩ ∧ ss[j]? = some (k, t, (x, .slice ax x.items.length cx)) ∧ Lies n w x.items (.slice ax x.items.length cx) ∧ x.text.size ≤ 9223372036854775807 ∧ ∀ W, Below w.heap.size w W → SixAt W b (o + j * 6) (k, t, (x, .slice ax x.items.length cx)) ∧ b < W.heap.size := by
  obtain ⟨a, c, hv, h1, h2, hr, hs⟩ := h
  refine ⟨a, c, hv, h1, h2, fun j hj => ?_⟩
  obtain ⟨b, o, ha, hcs⟩ := hr (fun e => by rw [e] at hj; cases hj)
  obtain ⟨⟨k, t, x, u⟩, hx⟩ : ∃ x, x = ss[j] := ⟨_, rfl⟩
  have hc := hcs j hj
  have hsd := hs _ (List.getElem_mem hj)
  rw [← hx] at hc hsd
  obtain ⟨ax, cx, hu, _⟩ := Lies.slice hsd.1
  simp only at hu
  subst hu
  refine ⟨b, o, k, t, x, ax, cx, ha, by rw [List.getElem?_eq_getElem hj, hx], hsd.1, hsd.2, fun W hW => ?_⟩
  obtain ⟨c0, c1, c2, c3, c4, c5⟩ := hc
  exact ⟨⟨cell_keeps hW c0, cell_keeps hW c1, cell_keeps hW c2, cell_keeps hW c3, cell_keeps hW c4, cell_keeps hW c5⟩, cell_lt (cell_keeps hW c0)⟩

end Go.Proofs.YtekoaiehhjgfiaaGreat

namespace Go.Proofs.YtekoaiehhjgfiaaGreat
open Go.RowKit

theorem push_right {n : Nat} {l m : List VT} {x : VT} {w : World} {u : Value} (hx : Lies n w x.items u) (hr : l.all (rightV 16) = true) (h : pushN n l x = .inl m) : m.length ≤ 65536 ∧ m.all (rightV 16) = true := by
  unfold pushN at h
  by_cases h1 : rightV n x = true
  · rw [if_pos h1] at h
    by_cases h2 : l.length + 1 ≤ 65536
    · rw [if_pos h2] at h
      injection h with h
      subst h
      refine ⟨by rw [List.length_append]; exact h2, ?_⟩
      rw [List.all_append, hr]
      simpa using (canon hx h1).2
    · rw [if_neg h2] at h; cases h
  · rw [if_neg h1] at h; cases h

end Go.Proofs.YtekoaiehhjgfiaaGreat

namespace Go.Proofs.YtekoaiehhjgfiaaGreat
open Go.RowKit

set_option maxRecDepth 100000 in
theorem become_ok (h : Nat) (o v : Option Addr) (w : World) (hB : Go.Boxed w h 89 (.pointer o)) : Calls Tryz.prog 95 #[.pointer (some ⟨h, 0, none⟩), .pointer v, .int .i64 0] w fun e w' => e = .returned (.int .i64 0) ∧ w' = w.setCell ⟨h, 0, none⟩ (.pointer v) := by
  have h1 := hB.cell
  have h2 := hB.frozen
  clear hB
  go_enter Tryz.func95, Tryz.ntmps95
  go_wp2_with fail
  go_ret
  exact ⟨rfl, rfl⟩

set_option maxRecDepth 100000 in
theorem become_not (h : Nat) (v : Option Addr) (k : Nat) (hk : k ≠ 0) (w : World) : Calls Tryz.prog 95 #[.pointer (some ⟨h, 0, none⟩), .pointer v, .int .i64 (k : Int)] w fun e w' => e = .returned (.int .i64 (k : Int)) ∧ w' = w := by
  have hk0 : ¬ ((k : Nat) : Int) = 0 := by omega
  go_enter Tryz.func95, Tryz.ntmps95
  go_wp2_with fail
  go_ret
  exact ⟨rfl, rfl⟩

/-- What a call that may change a transient leaves. -/
def MvPost (N0 : Nat) (l m : List VT) (ok : Prop) (b h v : Nat) (w : World) (e : Ending) (w' : World) : Prop :=
  ∃ k : Nat, e = .returned (.int .i64 (k : Int)) ∧ Below N0 w w' ∧ KeepsNP w w' ∧ ((k = 0 ∧ ok ∧ ∃ v2, TV w' m b h v2) ∨ (k ≠ 0 ∧ ¬ ok ∧ TV w' l b h v))

theorem TV.moved {N0 : Nat} {l m : List VT} {b h v v2 : Nat} {w w1 : World} (t : TV w l b h v) (hN : N0 ≤ h) (hN2 : N0 ≤ w.heap.size) (hb : Below w.heap.size w w1) (hv : VV w1 m (.pointer (some ⟨v2, 0, none⟩))) : Below N0 w (w1.setCell ⟨h, 0, none⟩ (.pointer (some ⟨v2, 0, none⟩))) ∧ KeepsNP w (w1.setCell ⟨h, 0, none⟩ (.pointer (some ⟨v2, 0, none⟩))) ∧ TV (w1.setCell ⟨h, 0, none⟩ (.pointer (some ⟨v2, 0, none⟩))) m b h v2 := by
  have t1 := t.keeps hb
  have hk := KeepsNP.set (y := .pointer (some ⟨v2, 0, none⟩)) t1.bx
  refine ⟨(hb.mono hN2).setCell (p := ⟨h, 0, none⟩) hN _, (KeepsNP.below hb).trans hk, ⟨?_, t1.bx.set _, hv.np hk, t.ne⟩⟩
  exact (grownBy_setCell' w1 h _).cell t1.c0 (fun e => t.ne (by injection e))

set_option maxRecDepth 100000 in
set_option maxHeartbeats 8000000 in
theorem tpush_any (n : Nat) (l : List VT) (b h v : Nat) (x : VT) (ax : Option Addr) (cx : Nat) (N0 : Nat) (w : World) (t : TV w l b h v) (hN : N0 ≤ h) (hN2 : N0 ≤ w.heap.size) (hx : Lies n w x.items (.slice ax x.items.length cx)) (hts : x.text.size ≤ 9223372036854775807) :
    Calls Tryz.prog 39 #[.pointer (some ⟨b, 0, none⟩), .agg #[.int .i64 x.kind, .int .i64 x.num, .string x.text, .slice ax x.items.length cx]] w (MvPost N0 l (l ++ [x]) (rightV n x = true ∧ l.length + 1 ≤ 65536) b h v w) := by
  obtain ⟨wA, hwA⟩ : ∃ wA, wA = w.alloc (.cells #[.int .i64 x.kind, .int .i64 x.num, .string x.text, .slice ax x.items.length cx] 34) := ⟨_, rfl⟩
  have hbz : Below w.heap.size w wA := by rw [hwA]; exact ((Grew.refl w).alloc _).below
  have tA := t.keeps hbz
  have HO : Hid _ := open_any l b h v wA tA
  have HBx : Hid (Bx wA w.heap.size x (.slice ax x.items.length cx)) := by rw [hwA]; exact bx_alloc w x _
  have HP : Hid (Calls Tryz.prog 96 #[.pointer (some ⟨v, 0, none⟩), .agg #[.int .i64 x.kind, .int .i64 x.num, .string x.text, .slice ax x.items.length cx]] wA.drew fun e w1 => ∃ (o : Option Addr) (k : Nat), e = .returned (.tuple #[.pointer o, .int .i64 (k : Int)]) ∧ Calls Tryz.prog 95 #[.pointer (some ⟨h, 0, none⟩), .pointer o, .int .i64 (k : Int)] w1 (MvPost N0 l (l ++ [x]) (rightV n x = true ∧ l.length + 1 ≤ 65536) b h v w)) := by
    have hd : Below w.heap.size w wA.drew := hbz.drew
    have tD := t.keeps hd
    refine Calls.mono (push_n n l _ x ax cx wA.drew tD.vv.vc (Lies.keeps hd _ _ _ hx) hts t.vv.len) ?_
    rintro e w1 ⟨hg1, hp1⟩
    have hb1 : Below w.heap.size w w1 := hd.trans (hg1.mono hd.size)
    by_cases hr : rightV n x = true
    · by_cases hs : l.length + 1 ≤ 65536
      · have e9 : pushN n l x = .inl (l ++ [x]) := by unfold pushN; rw [if_pos hr, if_pos hs]
        rw [e9] at hp1
        obtain ⟨v2, rfl, hv2⟩ := hp1
        have hvv : VV w1 (l ++ [x]) (.pointer (some ⟨v2, 0, none⟩)) := ⟨hv2, by rw [List.length_append]; exact hs, by rw [List.all_append, t.vv.right]; simpa using (canon hx hr).2⟩
        obtain ⟨k1, k2, k3⟩ := t.moved hN hN2 hb1 hvv
        refine ⟨_, 0, rfl, Calls.mono (become_ok h _ _ w1 (t.keeps hb1).bx) ?_⟩
        rintro e w2 ⟨rfl, rfl⟩
        exact ⟨0, rfl, k1, k2, .inl ⟨rfl, ⟨hr, hs⟩, v2, k3⟩⟩
      · have e9 : pushN n l x = .inr 2 := by unfold pushN; rw [if_pos hr, if_neg hs]
        rw [e9] at hp1
        subst hp1
        refine ⟨_, 2, rfl, Calls.mono (become_not h _ 2 (by omega) w1) ?_⟩
        rintro e w2 ⟨rfl, rfl⟩
        exact ⟨2, rfl, hb1.mono hN2, KeepsNP.below hb1, .inr ⟨by omega, fun h => hs h.2, t.keeps hb1⟩⟩
    · have e9 : pushN n l x = .inr 3 := by unfold pushN; rw [if_neg hr]
      rw [e9] at hp1
      subst hp1
      refine ⟨_, 3, rfl, Calls.mono (become_not h _ 3 (by omega) w1) ?_⟩
      rintro e w2 ⟨rfl, rfl⟩
      exact ⟨3, rfl, hb1.mono hN2, KeepsNP.below hb1, .inr ⟨by omega, fun h => hr h.1, t.keeps hb1⟩⟩
  obtain ⟨x0, x1, x2, x3, _, _, _, _⟩ := HBx.out
  have h1 := tA.bx.cell
  obtain ⟨Q, hQ⟩ : ∃ Q, Q = MvPost N0 l (l ++ [x]) (rightV n x = true ∧ l.length + 1 ≤ 65536) b h v w := ⟨_, rfl⟩
  have HQ : Hid (∀ e w', Q e w' → ∃ k : Nat, e = .returned (.int .i64 (k : Int))) := fun e w' hq => by
    rw [hQ] at hq
    obtain ⟨k, he, _⟩ := hq
    exact ⟨k, he⟩
  rw [← hQ] at HP ⊢
  subst hwA
  clear t hN hN2 hx hts tA hQ HBx
  go_enter Tryz.func39, Tryz.ntmps39
  go_wp2_with fail
  refine Calls.mono HO.out ?_
  rintro e w1 ⟨rfl, rfl⟩
  clear HO
  go_wp2_with fail
  go_region_with (first
      | (go_at_call 95; refine Calls.mono HB9.out ?_; intro e w3 hq3; obtain ⟨k3, hk3⟩ := HQ.out e w3 hq3; subst hk3; have HE : Hid _ := hq3; clear hq3)
      | (go_at_call 96; refine Calls.mono HP.out ?_; rintro e w2 ⟨o2, k2, rfl, hbec⟩; have HB9 : Hid _ := hbec; clear hbec))
  all_goals (first | (go_ret; exact HE.out) | (go_wp2_with fail; go_ret; exact HE.out))

end Go.Proofs.YtekoaiehhjgfiaaGreat

