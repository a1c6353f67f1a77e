/-
  RrbHeight.
-/
import Derived.Test.YtegknglhfpgpoaaGreatAppSeq
import Derived.Deep.RegionHeld3
import Derived.Test.YtegknglhfpgpoaaGreatOfP
import Derived.Test.YtegknglhfpgpoaaGreatUtf
import Derived.Test.YtegknglhfpgpoaaGreatJoinV
import Derived.Test.YtegknglhfpgpoaaGreatVals
namespace Go.Proofs.YtegknglhfpgpoaaGreat
open Go.RowKit Go.Shelf

set_option maxRecDepth 100000 in
theorem vfrom_any (p : Option Addr) (i : Int) (w : World) : Calls Tryz.prog 101 #[.pointer p, .int .i64 i] w fun e w' => e = .returned (.func (.func 144) #[] #[.pointer (some ⟨w.heap.size, 0, none⟩), .pointer (some ⟨w.heap.size + 1, 0, none⟩)]) ∧ w' = (w.alloc (.cells #[.pointer p] 24)).alloc (.cells #[.int .i64 i] 3) := by
  go_enter Tryz.func101, Tryz.ntmps101
  go_wp2_with fail
  go_ret
  exact ⟨rfl, rfl⟩

/-- What kept tells: the items as they lie, in a list of their own. -/
def KeptPost (d : Nat) (l : List VT) (w : World) (e : Ending) (w' : World) : Prop := ∃ v, e = .returned v ∧ (∃ ps : List (VT × Value), ps.map (·.1) = l ∧ w'.ownsRow w.heap.size 34 4 v ps.length (ps.flatMap encP) ∧ ∀ p ∈ ps, Sound d w p) ∧ Below w.heap.size w w'

set_option maxRecDepth 100000 in
set_option maxHeartbeats 8000000 in
theorem kept_any (d : Nat) (l : List VT) (p : Value) (w : World) (h : VC d w l p) (hbig : l.length ≤ 65536) : Calls Tryz.prog 52 #[p] w (KeptPost d l w) := by
  obtain ⟨qs, hq1, hst⟩ := from_stops d w (fun _ => True) l p 0 h (fun _ _ => trivial) (by omega)
  have hql : qs.length ≤ 65536 := by
    have := congrArg List.length hq1
    rw [List.length_map] at this
    rw [this]
    unfold fromL
    split
    · rw [List.length_drop]; omega
    · simp
  have hq2 : qs.map (·.1.1) = l := by
    rw [hq1]
    unfold fromL
    by_cases h0 : (0 : Int) ≤ 0 ∧ (0 : Int) < (l.length : Int)
    · rw [if_pos h0]; simp
    · rw [if_neg h0]
      exact (List.eq_nil_of_length_eq_zero (by omega)).symm
  obtain ⟨i0, hi, hz0, hz1, hz2⟩ := infoV
  obtain ⟨L, hL⟩ : ∃ L, L = l.length := ⟨_, rfl⟩
  obtain ⟨M, hM⟩ : ∃ M, M = madeCells (Value.agg #[.int .i64 0, .int .i64 0, .string ⟨#[]⟩, .slice none 0 0]).cells (((L : Nat) : Int).toNat * i0.size) := ⟨_, rfl⟩
  have hMs : M.size = L * 4 := by rw [hM, size_madeCells, hz1]; simp
  have hmk : ∀ W : World, (Instr.makeSlice 22 (.int .i64 0) (.int .i64 (L : Int))).run Tryz.prog W = .ok (.slice (some ⟨W.heap.size, 0, none⟩) 0 L) (W.alloc (.cells M 34)) := fun W => by
    have h := run_make (P := Tryz.prog) W 22 34 i0 _ Tryz.underlying22 hi hz0 .i64 .i64 0 (L : Int) (by omega) (by omega) (by rw [hz2]; omega) (by omega)
    rw [← hM] at h
    simpa using h
  obtain ⟨po, rfl⟩ := h.shape
  have HLen : Hid (∀ V, Below w.heap.size w V → Calls Tryz.prog 14 #[.pointer po] V (NumPost L V)) := fun V hV => by
    rw [hL]; exact vlen_any d l _ V (h.keeps hV)
  have HApp : Hid (∀ (V : World) (g Bv Bp : Nat), Below w.heap.size w V → V.ownsRow w.heap.size 34 4 (.slice (some ⟨g, 0, none⟩) 0 L) 0 [] → Bv < V.heap.size → Bp < V.heap.size → V.cell? ⟨Bv, 0, none⟩ = some (.pointer po) → V.cell? ⟨Bp, 0, none⟩ = some (.int .i64 0) →
      Calls Tryz.prog 100 #[.slice (some ⟨g, 0, none⟩) 0 L, .func (.func 144) #[] #[.pointer (some ⟨Bv, 0, none⟩), .pointer (some ⟨Bp, 0, none⟩)]] V (KeptPost d l w)) := fun V g Bv Bp hV hrow hlv hlp hv hp => by
    refine (appendSeq_any d w (fun _ => True) qs hql _ _ V hV hrow (fun W hW => hst 5 Bv Bp W (hV.trans (hW.mono hV.size)) (Nat.lt_of_lt_of_le hlv hW.size) (Nat.lt_of_lt_of_le hlp hW.size) (cell_keeps hW hv) (cell_keeps hW hp))).mono ?_
    rintro e w' ⟨v, rfl, ho, hb⟩
    refine ⟨v, rfl, ⟨qs.map (·.1), by rw [List.map_map]; exact hq2, by rw [List.length_map, List.flatMap_map]; exact ho, fun p hp => ?_⟩, hV.trans hb⟩
    obtain ⟨q, _, rfl⟩ := List.mem_map.1 hp
    exact q.2.1
  have HMd : Hid (∀ (V : World), Below w.heap.size w V → (V.alloc (.cells M 34)).ownsRow w.heap.size 34 4 (.slice (some ⟨V.heap.size, 0, none⟩) 0 L) 0 []) := fun V hV => World.ownsRow_made V M L hV.size (by unfold maxLen; omega) hMs
  have cell1 : ∀ (V : World) (x y z : Obj) (i : Value) (T : Nat), x = .cells #[i] T → ((V.alloc x).alloc y).cell? ⟨V.heap.size, 0, none⟩ = some i ∧ (((V.alloc x).alloc y).alloc z).cell? ⟨V.heap.size, 0, none⟩ = some i := fun V x y z i T e => by
    subst e
    have h1 := (Go.Boxed.new V T i).alloc y
    exact ⟨h1.cell, (h1.alloc z).cell⟩
  have HA : Hid (∀ V, Below w.heap.size w V → Below w.heap.size w (((V.alloc (.cells M 34)).alloc (.cells #[.pointer po] 24)).alloc (.cells #[.int .i64 0] 3)) ∧ (((V.alloc (.cells M 34)).alloc (.cells #[.pointer po] 24)).alloc (.cells #[.int .i64 0] 3)).ownsRow w.heap.size 34 4 (.slice (some ⟨V.heap.size, 0, none⟩) 0 L) 0 [] ∧ V.heap.size + 1 < (((V.alloc (.cells M 34)).alloc (.cells #[.pointer po] 24)).alloc (.cells #[.int .i64 0] 3)).heap.size ∧ V.heap.size + 1 + 1 < (((V.alloc (.cells M 34)).alloc (.cells #[.pointer po] 24)).alloc (.cells #[.int .i64 0] 3)).heap.size ∧
      (((V.alloc (.cells M 34)).alloc (.cells #[.pointer po] 24)).alloc (.cells #[.int .i64 0] 3)).cell? ⟨V.heap.size + 1, 0, none⟩ = some (.pointer po) ∧ (((V.alloc (.cells M 34)).alloc (.cells #[.pointer po] 24)).alloc (.cells #[.int .i64 0] 3)).cell? ⟨V.heap.size + 1 + 1, 0, none⟩ = some (.int .i64 0)) := fun V hV => by
    refine ⟨((hV.alloc hV.size _).alloc (by simp; have := hV.size; omega) _).alloc (by simp; have := hV.size; omega) _, ((HMd.out _ hV).alloc _).alloc _, by simp, by simp, ?_, ?_⟩
    · have h1 := (cell1 (V.alloc (.cells M 34)) _ (.cells #[.int .i64 0] 3) (.cells #[.int .i64 0] 3) (.pointer po) 24 rfl).1
      rwa [World.size_alloc] at h1
    · have h1 := (Go.Boxed.new ((V.alloc (.cells M 34)).alloc (.cells #[.pointer po] 24)) 3 (.int .i64 0)).cell
      rwa [World.size_alloc, World.size_alloc] at h1
  have HB : Hid (∀ V, Below w.heap.size w V → Below w.heap.size w (((V.alloc (.cells #[.pointer po] 24)).alloc (.cells #[.int .i64 0] 3)).alloc (.cells M 34)) ∧ (((V.alloc (.cells #[.pointer po] 24)).alloc (.cells #[.int .i64 0] 3)).alloc (.cells M 34)).ownsRow w.heap.size 34 4 (.slice (some ⟨V.heap.size + 1 + 1, 0, none⟩) 0 L) 0 [] ∧ V.heap.size < (((V.alloc (.cells #[.pointer po] 24)).alloc (.cells #[.int .i64 0] 3)).alloc (.cells M 34)).heap.size ∧ V.heap.size + 1 < (((V.alloc (.cells #[.pointer po] 24)).alloc (.cells #[.int .i64 0] 3)).alloc (.cells M 34)).heap.size ∧
      (((V.alloc (.cells #[.pointer po] 24)).alloc (.cells #[.int .i64 0] 3)).alloc (.cells M 34)).cell? ⟨V.heap.size, 0, none⟩ = some (.pointer po) ∧ (((V.alloc (.cells #[.pointer po] 24)).alloc (.cells #[.int .i64 0] 3)).alloc (.cells M 34)).cell? ⟨V.heap.size + 1, 0, none⟩ = some (.int .i64 0)) := fun V hV => by
    refine ⟨((hV.alloc hV.size _).alloc (by simp; have := hV.size; omega) _).alloc (by simp; have := hV.size; omega) _, ?_, (by first | (simp; done) | (simp; omega)), (by first | (simp; done) | (simp; omega)), (cell1 V _ _ _ _ _ rfl).2, ?_⟩
    · have h1 := HMd.out _ ((hV.alloc hV.size (.cells #[.pointer po] 24)).alloc (by simp; have := hV.size; omega) (.cells #[.int .i64 0] 3))
      rwa [World.size_alloc, World.size_alloc] at h1
    · have h1 := (cell1 (V.alloc (.cells #[.pointer po] 24)) _ (.cells M 34) (.cells M 34) (.int .i64 0) 3 rfl).1
      rwa [World.size_alloc] at h1
  clear cell1 hst hq1 hq2 hql hM hMs hi hz0 hz1 hz2 h hL
  go_enter Tryz.func52, Tryz.ntmps52
  go_wp2_with fail
  go_region_held3 (fun _ => True) (first | trivial | go_keep)
    (first
      | (go_at_call 101; refine (vfrom_any _ _ _).mono ?_; rintro e w3 ⟨rfl, rfl⟩)
      | (go_at_call 14; refine (HLen.out _ (Below.refl _ _).drew).mono ?_; rintro e w1 ⟨rfl, hb1'⟩; have hb1 : Below w.heap.size w w1 := (Below.refl _ _).drew.trans hb1'; clear hb1')
      | (go_at_call 100
         refine (HApp.out _ _ _ _ (by first | exact (HA.out w1 hb1).1 | exact (HB.out w1 hb1).1) (by first | exact (HA.out w1 hb1).2.1 | exact (HB.out w1 hb1).2.1) (by first | exact (HA.out w1 hb1).2.2.1 | exact (HB.out w1 hb1).2.2.1) (by first | exact (HA.out w1 hb1).2.2.2.1 | exact (HB.out w1 hb1).2.2.2.1) (by first | exact (HA.out w1 hb1).2.2.2.2.1 | exact (HB.out w1 hb1).2.2.2.2.1) (by first | exact (HA.out w1 hb1).2.2.2.2.2 | exact (HB.out w1 hb1).2.2.2.2.2)).mono ?_
         rintro e w4 ⟨v4, rfl, hx⟩
         have HE : Hid (KeptPost d l w (.returned v4) w4) := ⟨v4, rfl, hx⟩
         clear hx))
  all_goals (first | (go_ret; exact HE.out) | (go_wp2_with fail; go_ret; exact HE.out))

theorem KeptPost.lies {d : Nat} {l : List VT} {w : World} {e : Ending} {w' : World} (h : KeptPost d l w e w') (hbig : l.length ≤ 65536) : ∃ v, e = .returned v ∧ Lies (d + 1) w' l v ∧ Below w.heap.size w w' := by
  obtain ⟨v, rfl, ⟨ps, rfl, hown, hsd⟩, hb⟩ := h
  exact ⟨v, rfl, own_lies rfl hown (fun p hp => (hsd p hp).keeps hb) (by rw [List.length_map] at hbig; omega), hb⟩

/-- What Items tells: new lists throughout. -/
def ItemsPost (l : List VT) (w : World) (e : Ending) (w' : World) : Prop := ∃ v, e = .returned v ∧ LiesB w.heap.size 17 w' l v ∧ Below w.heap.size w w'

theorem LiesB.mono {b b' : Nat} (hb : b' ≤ b) {w : World} : ∀ (d : Nat) (l : List VT) (v : Value), LiesB b d w l v → LiesB b' d w l v := by
  intro d
  induction d with
  | zero => intro l v h; exact h
  | succ d ih =>
    intro l v h
    obtain ⟨a, c, e, h1, hr⟩ := h
    refine ⟨a, c, e, h1, fun hne => ?_⟩
    obtain ⟨bb, o, ha, hbb, h2, hall⟩ := hr hne
    refine ⟨bb, o, ha, by omega, h2, fun i hi => ?_⟩
    obtain ⟨u, c0, c1, c2, c3, hL, hs⟩ := hall i hi
    exact ⟨u, c0, c1, c2, c3, ih _ _ hL, hs⟩

set_option maxRecDepth 100000 in
set_option maxHeartbeats 4000000 in
theorem items_any (l : List VT) (p : Value) (w : World) (h : VC 16 w l p) (hbig : l.length ≤ 65536) (hR : l.all (rightV 16) = true) : Calls Tryz.prog 13 #[p] w (ItemsPost l w) := by
  obtain ⟨po, rfl⟩ := h.shape
  have HK : Hid (Calls Tryz.prog 52 #[.pointer po] w fun e w' => ∃ v, e = .returned v ∧ Lies 17 w' l v ∧ Below w.heap.size w w') := Calls.mono (kept_any 16 l _ w h hbig) (fun e w' h => h.lies hbig)
  have HC : Hid (∀ (V : World) (v : Value), Lies 17 V l v → Calls Tryz.prog 37 #[v] V fun e w' => ∃ u, e = .returned u ∧ LiesB V.heap.size 17 w' l u ∧ Below V.heap.size V w') := fun V v hv => copyAll_core 16 l v V hv hbig (fun x u W hx hu _ => copyR x u W hu (List.all_eq_true.1 hR x hx))
  clear h hR hbig
  go_enter Tryz.func13, Tryz.ntmps13
  go_wp2_with fail
  refine Calls.mono HK.out ?_
  rintro e w1 ⟨v1, rfl, hv1, hb1⟩
  obtain ⟨a1, c1, rfl, _⟩ := Lies.slice hv1
  have HC1 : Hid _ := HC.out w1 _ hv1
  clear hv1 HK HC
  go_wp2_with fail
  refine Calls.mono HC1.out ?_
  rintro e w2 ⟨v2, rfl, hv2, hb2⟩
  have HE : Hid (ItemsPost l w (.returned v2) w2) := ⟨v2, rfl, LiesB.mono hb1.size _ _ _ hv2, hb1.trans (hb2.mono hb1.size)⟩
  obtain ⟨a2, c2, rfl, _⟩ := Lies.slice (LiesB.lies _ _ _ hv2)
  clear hv2 HC1
  go_wp2_with fail
  go_ret
  exact HE.out

end Go.Proofs.YtegknglhfpgpoaaGreat

namespace Go.Proofs.YtegknglhfpgpoaaGreat
open Go.RowKit

/-- Is the value right, read to whatever depth it lies in? -/
def ofN (n : Nat) (l : List VT) : List VT ⊕ Nat := if 65536 < l.length then .inr 2 else if l.all (rightV n) then .inl l else .inr 3
def pushN (n : Nat) (l : List VT) (x : VT) : List VT ⊕ Nat := if rightV n x = true then (if l.length + 1 ≤ 65536 then .inl (l ++ [x]) else .inr 2) else .inr 3
def setN (n : Nat) (l : List VT) (i : Int) (x : VT) : List VT ⊕ Nat := if rightV n x = true then (if 0 ≤ i ∧ i < (l.length : Int) then .inl (l.set i.toNat x) else .inr 5) else .inr 3

theorem canonL {w : World} {n : Nat} {l : List VT} {u : Value} (h : Lies (n + 1) w l u) (hr : l.all (rightV n) = true) : Lies 17 w l u ∧ l.all (rightV 16) = true := by
  have hall : ∀ x ∈ l, Dp 16 x ∧ rightV 16 x = true := fun x hx => by
    obtain ⟨a, c, e, _, hr1⟩ := h
    obtain ⟨i, hi, rfl⟩ := List.getElem_of_mem hx
    obtain ⟨b, o, ha, hrow⟩ := hr1 (fun e => by rw [e] at hi; cases hi)
    obtain ⟨v, _, _, _, _, hL, _⟩ := hrow i hi
    have hd := Dp.of_lies n w _ v hL
    have hrx := List.all_eq_true.1 hr _ (List.getElem_mem hi)
    exact ⟨right_deep hrx hd, (canon hL hrx).2⟩
  exact ⟨Lies.lower 17 (n + 1) l u h (by omega) (fun x hx => (hall x hx).1), List.all_eq_true.2 fun x hx => (hall x hx).2⟩

set_option maxRecDepth 100000 in
set_option maxHeartbeats 4000000 in
theorem of_n (n : Nat) (l : List VT) (u : Value) (w : World) (hu : Lies (n + 1) w l u) : Calls Tryz.prog 7 #[u] w (VecPost 16 (ofN n l) w) := by
  by_cases hg : l.length ≤ 65536 ∧ l.all (rightV n) = true
  · obtain ⟨h1, h2⟩ := canonL hu hg.2
    have e : ofN n l = ofR l := by
      unfold ofN ofR
      rw [if_neg (show ¬ 65536 < l.length by omega), if_pos hg.2, if_neg (show ¬ 65536 < l.length by omega), if_pos h2]
    rw [e]
    exact of_any l u w h1
  · have HCk : Hid _ := checkAll_any n l u w hu
    obtain ⟨k, hk, hke⟩ : ∃ k : Nat, ofN n l = .inr k ∧ (k = 2 ∨ k = 3) ∧ listErr n l = (k : Int) := by
      unfold ofN listErr
      by_cases h1 : 65536 < l.length
      · exact ⟨2, by rw [if_pos h1], .inl rfl, by rw [if_pos h1]; rfl⟩
      · by_cases h2 : l.all (rightV n) = true
        · exact absurd ⟨by omega, h2⟩ hg
        · exact ⟨3, by rw [if_neg h1, if_neg h2], .inr rfl, by rw [if_neg h1, if_neg h2]; rfl⟩
    rw [hk]
    rw [hke.2] at HCk
    obtain ⟨a, c, rfl, _⟩ := Lies.slice hu
    clear hu hg hk
    rcases hke.1 with rfl | rfl
    all_goals
      go_enter Tryz.func7, Tryz.ntmps7
      go_wp2_with fail
      refine Calls.mono HCk.out ?_
      rintro e w1 ⟨rfl, hb1⟩
      clear HCk
      go_wp2_with fail
      go_ret2
      exact ⟨hb1, rfl⟩

theorem lies_oneN {n : Nat} {w : World} {t : VT} {u : Value} {b : Nat} (c0 : w.cell? ⟨b, 0, none⟩ = some (.int .i64 t.kind)) (c1 : w.cell? ⟨b, 1, none⟩ = some (.int .i64 t.num)) (c2 : w.cell? ⟨b, 2, none⟩ = some (.string t.text)) (c3 : w.cell? ⟨b, 3, none⟩ = some u) (hl : Lies n w t.items u) (hs : t.text.size ≤ 9223372036854775807) : Lies (n + 1) w [t] (.slice (some ⟨b, 0, none⟩) 1 1) := by
  refine ⟨_, 1, rfl, ⟨by simp, by simp⟩, fun _ => ⟨b, 0, rfl, fun i hi => ?_⟩⟩
  have : i = 0 := by simp at hi; omega
  subst this
  exact ⟨u, by simpa using c0, by simpa using c1, by simpa using c2, by simpa using c3, hl, hs⟩

set_option maxRecDepth 100000 in
set_option maxHeartbeats 4000000 in
theorem push_n (n : Nat) (l : List VT) (p : Value) (x : VT) (ax : Option Addr) (cx : Nat) (w : World) (h : VC 16 w l p) (hx : Lies n w x.items (.slice ax x.items.length cx)) (hts : x.text.size ≤ 9223372036854775807) (hlen : l.length ≤ 65536) :
    Calls Tryz.prog 96 #[p, .agg #[.int .i64 x.kind, .int .i64 x.num, .string x.text, .slice ax x.items.length cx]] w (VecPost 16 (pushN n l x) w) := by
  by_cases hr : rightV n x = true
  · obtain ⟨h1, h2⟩ := canon hx hr
    have e : pushN n l x = pushR l x := by
      unfold pushN pushR
      rw [if_pos hr, if_pos h2]
    rw [e]
    exact push_any l p x ax cx w h h1 hts hlen
  · have e : pushN n l x = .inr 3 := by unfold pushN; rw [if_neg hr]
    rw [e]
    obtain ⟨po, rfl⟩ := h.shape
    have hb1 : Below w.heap.size w ((w.alloc (.cells #[.int .i64 x.kind, .int .i64 x.num, .string x.text, .slice ax x.items.length cx] 34)).alloc (.cells #[.int .i64 x.kind, .int .i64 x.num, .string x.text, .slice ax x.items.length cx] 34)) := (((Grew.refl w).alloc _).alloc _).below
    have HOf : Hid (Calls Tryz.prog 7 #[.slice (some ⟨w.heap.size + 1, 0, none⟩) 1 1] ((w.alloc (.cells #[.int .i64 x.kind, .int .i64 x.num, .string x.text, .slice ax x.items.length cx] 34)).alloc (.cells #[.int .i64 x.kind, .int .i64 x.num, .string x.text, .slice ax x.items.length cx] 34)) (VecPost 16 (.inr 3) ((w.alloc (.cells #[.int .i64 x.kind, .int .i64 x.num, .string x.text, .slice ax x.items.length cx] 34)).alloc (.cells #[.int .i64 x.kind, .int .i64 x.num, .string x.text, .slice ax x.items.length cx] 34)))) := by
      have h9 := of_n n [x] _ _ (lies_oneN (u := .slice ax x.items.length cx) (b := w.heap.size + 1) (w := (w.alloc (.cells #[.int .i64 x.kind, .int .i64 x.num, .string x.text, .slice ax x.items.length cx] 34)).alloc (.cells #[.int .i64 x.kind, .int .i64 x.num, .string x.text, .slice ax x.items.length cx] 34)) (by simp) (by simp) (by simp) (by simp) (Lies.keeps hb1 _ _ _ hx) hts)
      have e2 : ofN n [x] = .inr 3 := by
        unfold ofN
        rw [if_neg (by simp), if_neg (by simpa using hr)]
      rw [e2] at h9
      exact h9
    have Hb1 : Hid (Below w.heap.size w ((w.alloc (.cells #[.int .i64 x.kind, .int .i64 x.num, .string x.text, .slice ax x.items.length cx] 34)).alloc (.cells #[.int .i64 x.kind, .int .i64 x.num, .string x.text, .slice ax x.items.length cx] 34))) := hb1
    obtain ⟨x0, x1, x2, x3, z0, z1, z2, z3⟩ := bx_alloc w x (.slice ax x.items.length cx)
    clear hx hts hr e h hb1 hlen
    go_enter Tryz.func96, Tryz.ntmps96
    go_wp2_with fail
    refine Calls.mono HOf.out ?_
    rintro e w1 ⟨hg1, rfl⟩
    have HE : Hid (VecPost 16 (.inr 3) w (.returned (.tuple #[.pointer none, .int .i64 3])) w1) := ⟨Hb1.out.trans (hg1.mono Hb1.out.size), rfl⟩
    clear HOf x0 x1 x2 x3 z0 z1 z2 z3
    go_wp2_with fail
    go_ret2
    exact HE.out

set_option maxRecDepth 100000 in
set_option maxHeartbeats 8000000 in
theorem vset_n (n : Nat) (l : List VT) (p : Value) (i : Int) (x : VT) (ax : Option Addr) (cx : Nat) (w : World) (h : VC 16 w l p) (hx : Lies n w x.items (.slice ax x.items.length cx)) (hts : x.text.size ≤ 9223372036854775807) (hbig : l.length ≤ 1099511627776) :
    Calls Tryz.prog 97 #[p, .int .i64 i, .agg #[.int .i64 x.kind, .int .i64 x.num, .string x.text, .slice ax x.items.length cx]] w (VecPost 16 (setN n l i x) w) := by
  by_cases hr : rightV n x = true
  · obtain ⟨h1, h2⟩ := canon hx hr
    have e : setN n l i x = setR l i x := by
      unfold setN setR
      rw [if_pos hr, if_pos h2]
    rw [e]
    exact vset_any l p i x ax cx w h h1 hts hbig
  · have e : setN n l i x = .inr 3 := by unfold setN; rw [if_neg hr]
    rw [e]
    have hb0 : Below w.heap.size w (w.alloc (.cells #[.int .i64 x.kind, .int .i64 x.num, .string x.text, .slice ax x.items.length cx] 34)) := ((Grew.refl w).alloc _).below
    have Hb0 : Hid (Below w.heap.size w (w.alloc (.cells #[.int .i64 x.kind, .int .i64 x.num, .string x.text, .slice ax x.items.length cx] 34))) := hb0
    have HCk : Hid _ := check_any n x (.slice ax x.items.length cx) _ (Lies.keeps hb0 _ _ _ hx) hts
    obtain ⟨x0, x1, x2, x3, z0, z1, z2, z3⟩ := bx_alloc w x (.slice ax x.items.length cx)
    have hr' : rightV n x = false := by simpa using hr
    rw [hr'] at HCk
    clear h hx hts hbig hr hr' hb0 e
    go_enter Tryz.func97, Tryz.ntmps97
    go_wp2_with fail
    refine Calls.mono HCk.out ?_
    rintro e w1 ⟨rfl, hg1⟩
    have HE : Hid (VecPost 16 (.inr 3) w (.returned (.tuple #[.pointer none, .int .i64 3])) w1) := ⟨Hb0.out.trans (hg1.mono Hb0.out.size), rfl⟩
    clear HCk x0 x1 x2 x3 z0 z1 z2 z3
    simp only [errOf]
    go_wp2_with fail
    go_ret2
    exact HE.out

end Go.Proofs.YtegknglhfpgpoaaGreat

namespace Go.Proofs.YtegknglhfpgpoaaGreat
open Go.RowKit

/-- A number as a value's tree. -/
def numT (n : Int) : VT := ⟨2, n, ⟨#[]⟩, []⟩
def numP (n : Int) : VT × Value := (numT n, .slice none 0 0)

theorem right_num (n : Int) : rightV 16 (numT n) = true := by
  simp [rightV, fw, fwL, rpV, ownV, okNum, okText, okItems, numT]

theorem nums_cells (zs : List Int) : zs.flatMap cellsInt = (zs.map numP).flatMap encP := by
  induction zs with
  | nil => rfl
  | cons z zs ih => rw [List.flatMap_cons, List.map_cons, List.flatMap_cons, ih]; rfl

theorem lies_nilD (d : Nat) (w : World) : Lies d w [] (.slice none 0 0) := by
  cases d with
  | zero => exact ⟨rfl, none, 0, rfl⟩
  | succ d => exact ⟨none, 0, rfl, by simp, fun h => absurd rfl h⟩

theorem nums_lies {w : World} {b c : Nat} (zs : List Int) (h : RowAt w b 0 (zs.map numP)) (hl : zs.length ≤ 1000) (hc : zs.length ≤ c) : Lies 17 w (zs.map numT) (.slice (some ⟨b, 0, none⟩) zs.length c) := by
  have := lies_of_row (d := 16) (c := c) h (fun p hp => by
    obtain ⟨z, _, rfl⟩ := List.mem_map.1 hp
    exact ⟨lies_nilD _ _, by show 0 ≤ 9223372036854775807; omega⟩) (by simp; omega) (by simpa using hc)
  simpa [List.map_map, Function.comp_def, numP] using this

theorem nums_right (zs : List Int) : (zs.map numT).all (rightV 16) = true := by
  rw [List.all_eq_true]
  intro x hx
  obtain ⟨z, _, rfl⟩ := List.mem_map.1 hx
  exact right_num z

theorem nums_of (zs : List Int) (h : zs.length ≤ 1000) : ofR (zs.map numT) = .inl (zs.map numT) := by
  unfold ofR
  rw [if_neg (by simp; omega), if_pos (nums_right zs)]

set_option maxHeartbeats 1000000 in
theorem nums_any (zs : List Int) (b cap : Nat) (w : World) (h0 : zs ≠ []) (hz : zs.length ≤ 1000) (hc : ∀ (i : Nat) (h : i < zs.length), w.cell? ⟨b, 0 + i, none⟩ = some (.int .i64 (zs[i]'h))) :
    Calls Tryz.prog 38 #[.slice (some ⟨b, 0, none⟩) zs.length cap] w fun e w' => ∃ g c, e = .returned (.slice (some ⟨g, 0, none⟩) zs.length c) ∧ Lies 17 w' (zs.map numT) (.slice (some ⟨g, 0, none⟩) zs.length c) ∧ Below w.heap.size w w' := by
  refine (ints_any b zs cap w hz hc).mono ?_
  rintro e w1 ⟨v, rfl, hown, hb⟩
  rw [nums_cells] at hown
  obtain ⟨g, c, rfl, _, hcp, _, hrow, _⟩ := own_row (ps := zs.map numP) (by simpa using hown) (by simpa using h0)
  refine ⟨g, c, by simp, nums_lies zs hrow hz (by simpa using hcp), hb⟩

/-- A vector whose items are right. -/
structure VV (w : World) (l : List VT) (p : Value) : Prop where
  vc : VC 16 w l p
  len : l.length ≤ 65536
  right : l.all (rightV 16) = true

theorem VV.keeps {w w' : World} {l : List VT} {p : Value} (h : VV w l p) (hb : Below w.heap.size w w') : VV w' l p := ⟨h.vc.keeps hb, h.len, h.right⟩

theorem vpop_any (l : List VT) (p : Value) (w : World) (h : VV w l p) : Calls Tryz.prog 98 #[p] w (PopPost l w) := by
  rcases List.eq_nil_or_concat l with rfl | ⟨m, x, rfl⟩
  · exact vpop_nil p w h.vc
  · rw [List.concat_eq_append] at h ⊢
    have hr := h.right
    rw [List.all_append, Bool.and_eq_true] at hr
    have hl := h.len
    rw [List.length_append] at hl
    exact vpop_some m x p w h.vc (by simpa using hr.2) hl

end Go.Proofs.YtegknglhfpgpoaaGreat

namespace Go.Proofs.YtegknglhfpgpoaaGreat
open Go.RowKit

/-- A vector whose items are right, or an error. -/
def VvPost (r : List VT ⊕ Nat) (w : World) (e : Ending) (w' : World) : Prop :=
  Below w.heap.size w w' ∧ match r with
  | .inl l => ∃ b, e = .returned (.tuple #[.pointer (some ⟨b, 0, none⟩), .int .i64 0]) ∧ VV w' l (.pointer (some ⟨b, 0, none⟩))
  | .inr n => e = .returned (.tuple #[.pointer none, .int .i64 (n : Int)])

theorem VecPost.vv {r : List VT ⊕ Nat} {w : World} {e : Ending} {w' : World} (h : VecPost 16 r w e w') (hr : ∀ l, r = .inl l → l.length ≤ 65536 ∧ l.all (rightV 16) = true) : VvPost r w e w' := by
  obtain ⟨hb, hp⟩ := h
  refine ⟨hb, ?_⟩
  cases r with
  | inl l =>
    obtain ⟨b, rfl, hv⟩ := hp
    exact ⟨b, rfl, hv, (hr l rfl).1, (hr l rfl).2⟩
  | inr n => exact hp

theorem all_take {l : List VT} (h : l.all (rightV 16) = true) (n : Nat) : (l.take n).all (rightV 16) = true := List.all_eq_true.2 fun x hx => List.all_eq_true.1 h x (List.mem_of_mem_take hx)
theorem all_drop {l : List VT} (h : l.all (rightV 16) = true) (n : Nat) : (l.drop n).all (rightV 16) = true := List.all_eq_true.2 fun x hx => List.all_eq_true.1 h x (List.mem_of_mem_drop hx)

/-- Is a number an end of a list? -/
abbrev endB (l : List VT) (i : Int) : Prop := 0 ≤ i ∧ i ≤ (l.length : Int)

def firstR (l : List VT) (i : Int) : List VT ⊕ Nat := if endB l i then .inl (l.take i.toNat) else .inr 5
def restR (l : List VT) (i : Int) : List VT ⊕ Nat := if endB l i then .inl (l.drop i.toNat) else .inr 5

theorem vfirst_vv (l : List VT) (p : Value) (i : Int) (w : World) (h : VV w l p) : Calls Tryz.prog 142 #[p, .int .i64 i] w (VvPost (firstR l i) w) := by
  refine Calls.mono (vfirst_any 16 l p i w h.vc (by have := h.len; omega)) ?_
  intro e w' hp
  refine VecPost.vv hp (fun m hm => ?_)
  unfold firstR at hm
  by_cases hi : endB l i
  · rw [if_pos hi] at hm
    injection hm with hm
    subst hm
    exact ⟨by rw [List.length_take]; have := h.len; omega, all_take h.right _⟩
  · rw [if_neg hi] at hm; cases hm

/-- What Cut tells. -/
def CutPost (l : List VT) (i : Int) (w : World) (e : Ending) (w' : World) : Prop :=
  Below w.heap.size w w' ∧ ((endB l i ∧ ∃ b1 b2, e = .returned (.tuple #[.pointer (some ⟨b1, 0, none⟩), .pointer (some ⟨b2, 0, none⟩), .int .i64 0]) ∧ VV w' (l.take i.toNat) (.pointer (some ⟨b1, 0, none⟩)) ∧ VV w' (l.drop i.toNat) (.pointer (some ⟨b2, 0, none⟩))) ∨ (¬ endB l i ∧ e = .returned (.tuple #[.pointer none, .pointer none, .int .i64 5])))

/-- What Slice tells. -/
def sliceR (l : List VT) (i j : Int) : List VT ⊕ Nat := if endB l i ∧ endB l j ∧ i ≤ j then .inl ((l.take j.toNat).drop i.toNat) else .inr 5

end Go.Proofs.YtegknglhfpgpoaaGreat

namespace Go.Proofs.YtegknglhfpgpoaaGreat
open Go.RowKit

/-- What holds no pointer is there as it was. -/
def KeepsNP (w w' : World) : Prop := ∀ a u, (∀ q, u ≠ .pointer q) → w.cell? a = some u → w'.cell? a = some u

theorem Lies.np {w w' : World} (hk : KeepsNP w w') : ∀ (d : Nat) (l : List VT) (v : Value), Lies d w l v → Lies d w' l v := by
  intro d
  induction d with
  | zero => intro l v h; exact h
  | succ d ih =>
    intro l v h
    obtain ⟨a, c, hv, hb, hr⟩ := h
    refine ⟨a, c, hv, hb, fun hne => ?_⟩
    obtain ⟨b, o, ha, hall⟩ := hr hne
    refine ⟨b, o, ha, fun i hi => ?_⟩
    obtain ⟨u, c0, c1, c2, c3, hL, hs⟩ := hall i hi
    obtain ⟨a', c', hu, _⟩ := Lies.slice hL
    exact ⟨u, hk _ _ (by intro q h; cases h) c0, hk _ _ (by intro q h; cases h) c1, hk _ _ (by intro q h; cases h) c2, hk _ _ (by intro q h; rw [hu] at h; cases h) c3, ih _ _ hL, hs⟩

theorem SlV.np {w w' : World} (hk : KeepsNP w w') {vs : List Value} {v : Value} (hn : ∀ u ∈ vs, ∀ q, u ≠ .pointer q) (h : SlV w vs v) : SlV w' vs v := by
  obtain ⟨a, c, hv, hc, hr⟩ := h
  refine ⟨a, c, hv, hc, fun hne => ?_⟩
  obtain ⟨b, o, ha, hcs⟩ := hr hne
  exact ⟨b, o, ha, fun i hi => hk _ _ (hn _ (List.getElem_mem hi)) (hcs i hi)⟩

theorem ND.np {d : Nat} {w w' : World} (hk : KeepsNP w w') : ∀ (h : Nat) (k : Bool) (l : List VT) (v : Value), ND d h k w l v → ND d h k w' l v := by
  intro h
  induction h with
  | zero =>
    intro k l v hn
    obtain ⟨b, a, c, hv, hc, hl, h1, h2, h3⟩ := hn
    exact ⟨b, a, c, hv, hk _ _ (by intro q h; cases h) hc, hl.np hk, h1, h2, h3⟩
  | succ h ih =>
    intro k l v hn
    obtain ⟨b, sl, el, ps, hv, hc0, hc1, hs, he, h1, h2, h3, hl, hp⟩ := hn
    obtain ⟨a1, c1, e1, _⟩ := hs.slice
    obtain ⟨a2, c2, e2, _⟩ := he.slice
    refine ⟨b, sl, el, ps, hv, hk _ _ (by intro q h; rw [e1] at h; cases h) hc0, hk _ _ (by intro q h; rw [e2] at h; cases h) hc1, hs.np hk (fun u hu q e => ?_), he.np hk (fun u hu q e => ?_), h1, h2, h3, hl, fun i hi => ih _ _ _ (hp i hi)⟩
    · obtain ⟨p, hpm, rfl⟩ := List.mem_map.1 hu
      obtain ⟨i, hi, rfl⟩ := List.getElem_of_mem hpm
      obtain ⟨T, q', e'⟩ := nd_iface (hp i hi)
      rw [e'] at e
      cases e
    · unfold ends at hu
      obtain ⟨n, _, rfl⟩ := List.mem_map.1 hu
      cases e

theorem VC.np {d : Nat} {w w' : World} (hk : KeepsNP w w') {l : List VT} {p : Value} (h : VC d w l p) : VC d w' l p := by
  rcases h with h | ⟨b, t, hp, hc, ht⟩
  · exact .inl h
  · refine .inr ⟨b, t, hp, ?_, ?_⟩
    · refine hk _ _ (fun q e => ?_) hc
      rcases ht with ⟨_, e'⟩ | ⟨h, hn, _⟩
      · rw [e'] at e; cases e
      · obtain ⟨T, q', e'⟩ := nd_iface hn
        rw [e'] at e; cases e
    · rcases ht with ht | ⟨h, hn, hw⟩
      · exact .inl ht
      · exact .inr ⟨h, hn.np hk _ _ _ _, hw⟩

theorem VV.np {w w' : World} (hk : KeepsNP w w') {l : List VT} {p : Value} (h : VV w l p) : VV w' l p := ⟨h.vc.np hk, h.len, h.right⟩

theorem KeepsNP.below {w w' : World} (h : Below w.heap.size w w') : KeepsNP w w' := fun _ _ _ hu => cell_keeps h hu
theorem KeepsNP.trans {a b c : World} (h : KeepsNP a b) (k : KeepsNP b c) : KeepsNP a c := fun x u hu hc => k x u hu (h x u hu hc)

theorem KeepsNP.set {w : World} {B T : Nat} {x : Option Addr} (y : Value) (hB : Go.Boxed w B T (.pointer x)) : KeepsNP w (w.setCell ⟨B, 0, none⟩ y) := by
  intro a u hu hc
  by_cases hab : a.block = B
  · exfalso
    have hB' : w.heap[B]? = some (.cells #[.pointer x] T (0, 0)) := hB
    unfold World.cell? at hc
    rw [hab, hB'] at hc
    obtain ⟨ab, ao, asp⟩ := a
    cases asp with
    | none =>
      cases ao with
      | zero => simp at hc; exact hu x hc.symm
      | succ n => simp at hc
    | some sp => simp at hc
  · exact (grownBy_setCell' w B y).cell hc (fun e => hab (by injection e))

/-- A transient that is open: where it lies, where its vector is held, and that vector. -/
structure TV (w : World) (l : List VT) (b h v : Nat) : Prop where
  c0 : w.cell? ⟨b, 0, none⟩ = some (.pointer (some ⟨h, 0, none⟩))
  bx : Go.Boxed w h 89 (.pointer (some ⟨v, 0, none⟩))
  vv : VV w l (.pointer (some ⟨v, 0, none⟩))
  ne : b ≠ h

theorem TV.keeps {w w' : World} {l : List VT} {b h v : Nat} (t : TV w l b h v) (hb : Below w.heap.size w w') : TV w' l b h v :=
  ⟨cell_keeps hb t.c0, (hb.block h t.bx.lt).trans t.bx, t.vv.keeps hb, t.ne⟩

/-- A transient that is sealed. -/
structure TS (w : World) (b h : Nat) : Prop where
  c0 : w.cell? ⟨b, 0, none⟩ = some (.pointer (some ⟨h, 0, none⟩))
  bx : Go.Boxed w h 89 (.pointer none)

theorem TS.keeps {w w' : World} {b h : Nat} (t : TS w b h) (hb : Below w.heap.size w w') : TS w' b h :=
  ⟨cell_keeps hb t.c0, (hb.block h t.bx.lt).trans t.bx⟩

set_option maxRecDepth 100000 in
theorem open_any (l : List VT) (b h v : Nat) (w : World) (t : TV w l b h v) : Calls Tryz.prog 51 #[.pointer (some ⟨b, 0, none⟩)] w fun e w' => e = .returned (.tuple #[.pointer (some ⟨h, 0, none⟩), .int .i64 0]) ∧ w' = w := by
  have h0 := t.c0
  have h1 := t.bx.cell
  clear t
  go_enter Tryz.func51, Tryz.ntmps51
  go_wp2_with fail
  go_ret2
  exact ⟨rfl, rfl⟩

set_option maxRecDepth 100000 in
theorem open_nil (w : World) : Calls Tryz.prog 51 #[.pointer none] w fun e w' => e = .returned (.tuple #[.pointer none, .int .i64 7]) ∧ w' = w := by
  go_enter Tryz.func51, Tryz.ntmps51
  go_wp2_with fail
  go_ret2
  exact ⟨rfl, rfl⟩

set_option maxRecDepth 100000 in
theorem open_sealed (b h : Nat) (w : World) (t : TS w b h) : Calls Tryz.prog 51 #[.pointer (some ⟨b, 0, none⟩)] w fun e w' => e = .returned (.tuple #[.pointer none, .int .i64 7]) ∧ w' = w := by
  have h0 := t.c0
  have h1 := t.bx.cell
  clear t
  go_enter Tryz.func51, Tryz.ntmps51
  go_wp2_with fail
  go_ret2
  exact ⟨rfl, rfl⟩

/-- Shut: open says so. -/
def Shut13 (w : World) (p : Value) : Prop := (∃ o, p = .pointer o) ∧ ∀ V, Below w.heap.size w V → Calls Tryz.prog 51 #[p] V fun e w' => e = .returned (.tuple #[.pointer none, .int .i64 7]) ∧ w' = V

theorem shut_nil (w : World) : Shut13 w (.pointer none) := ⟨⟨_, rfl⟩, fun V _ => open_nil V⟩
theorem TS.shut {w : World} {b h : Nat} (t : TS w b h) : Shut13 w (.pointer (some ⟨b, 0, none⟩)) := ⟨⟨_, rfl⟩, fun V hV => open_sealed b h V (t.keeps hV)⟩
theorem Shut13.keeps {w w' : World} {p : Value} (h : Shut13 w p) (hb : Below w.heap.size w w') : Shut13 w' p := ⟨h.1, fun V hV => h.2 V (hb.trans (hV.mono hb.size))⟩

set_option maxRecDepth 100000 in
set_option maxHeartbeats 4000000 in
theorem shut_len (p : Value) (w : World) (h : Shut13 w p) : Calls Tryz.prog 50 #[p] w fun e w' => e = .returned (.tuple #[.int .i64 0, .int .i64 7]) ∧ Below w.heap.size w w' := by
  obtain ⟨po, rfl⟩ := h.1
  have HO : Hid _ := h.2 w (Below.refl _ _)
  clear h
  go_enter Tryz.func50, Tryz.ntmps50
  go_wp2_with fail
  refine Calls.mono HO.out ?_
  rintro e w1 ⟨rfl, rfl⟩
  clear HO
  go_wp2_with fail
  go_ret2
  exact ⟨rfl, Below.refl _ _⟩

set_option maxRecDepth 100000 in
set_option maxHeartbeats 4000000 in
theorem shut_seal (p : Value) (w : World) (h : Shut13 w p) : Calls Tryz.prog 11 #[p] w fun e w' => e = .returned (.tuple #[.pointer none, .int .i64 7]) ∧ Below w.heap.size w w' := by
  obtain ⟨po, rfl⟩ := h.1
  have HO : Hid _ := h.2 w (Below.refl _ _)
  clear h
  go_enter Tryz.func11, Tryz.ntmps11
  go_wp2_with fail
  refine Calls.mono HO.out ?_
  rintro e w1 ⟨rfl, rfl⟩
  clear HO
  go_wp2_with fail
  go_ret2
  exact ⟨rfl, Below.refl _ _⟩

set_option maxRecDepth 100000 in
set_option maxHeartbeats 4000000 in
theorem shut_push (p : Value) (x : VT) (ax : Option Addr) (cx : Nat) (w : World) (h : Shut13 w p) : Calls Tryz.prog 39 #[p, .agg #[.int .i64 x.kind, .int .i64 x.num, .string x.text, .slice ax x.items.length cx]] w fun e w' => e = .returned (.int .i64 7) ∧ Below w.heap.size w w' := by
  obtain ⟨po, rfl⟩ := h.1
  have hbz : Below w.heap.size w (w.alloc (.cells #[.int .i64 x.kind, .int .i64 x.num, .string x.text, .slice ax x.items.length cx] 34)) := ((Grew.refl w).alloc _).below
  have HO : Hid _ := h.2 _ hbz
  clear h
  go_enter Tryz.func39, Tryz.ntmps39
  go_wp2_with fail
  refine Calls.mono HO.out ?_
  rintro e w1 ⟨rfl, rfl⟩
  clear HO
  go_wp2_with fail
  go_ret
  exact ⟨rfl, hbz⟩

set_option maxRecDepth 100000 in
set_option maxHeartbeats 4000000 in
theorem shut_set (p : Value) (i : Int) (x : VT) (ax : Option Addr) (cx : Nat) (w : World) (h : Shut13 w p) : Calls Tryz.prog 41 #[p, .int .i64 i, .agg #[.int .i64 x.kind, .int .i64 x.num, .string x.text, .slice ax x.items.length cx]] w fun e w' => e = .returned (.int .i64 7) ∧ Below w.heap.size w w' := by
  obtain ⟨po, rfl⟩ := h.1
  have hbz : Below w.heap.size w (w.alloc (.cells #[.int .i64 x.kind, .int .i64 x.num, .string x.text, .slice ax x.items.length cx] 34)) := ((Grew.refl w).alloc _).below
  have HO : Hid _ := h.2 _ hbz
  clear h
  go_enter Tryz.func41, Tryz.ntmps41
  go_wp2_with fail
  refine Calls.mono HO.out ?_
  rintro e w1 ⟨rfl, rfl⟩
  clear HO
  go_wp2_with fail
  go_ret
  exact ⟨rfl, hbz⟩

/-- Zero and ErrSeal are told. -/
def SealPost (w : World) (e : Ending) (w' : World) : Prop := e = .returned (.tuple #[.agg #[.int .i64 0, .int .i64 0, .string ⟨#[]⟩, .slice none 0 0], .int .i64 7]) ∧ Below w.heap.size w w'

set_option maxRecDepth 100000 in
set_option maxHeartbeats 4000000 in
theorem shut_nth (p : Value) (i : Int) (w : World) (h : Shut13 w p) : Calls Tryz.prog 48 #[p, .int .i64 i] w (SealPost w) := by
  obtain ⟨po, rfl⟩ := h.1
  have hbz : Below w.heap.size w (w.alloc (.cells #[.int .i64 0, .int .i64 0, .string ⟨#[]⟩, .slice none 0 0] 34)) := ((Grew.refl w).alloc _).below
  have HO : Hid _ := h.2 _ hbz
  have HK : Hid (Bx (w.alloc (.cells #[.int .i64 0, .int .i64 0, .string ⟨#[]⟩, .slice none 0 0] 34)) w.heap.size zeroT (.slice none 0 0)) := bx_alloc w zeroT _
  obtain ⟨y0, y1, y2, y3, z0, z1, z2, z3⟩ := HK.out
  have Hbx : Hid (Bx ((w.alloc (.cells #[.int .i64 0, .int .i64 0, .string ⟨#[]⟩, .slice none 0 0] 34)).setCells w.heap.size 0 (encP (zeroT, .slice none 0 0))) w.heap.size zeroT (.slice none 0 0)) := HK.out.put (zeroT, .slice none 0 0)
  have Hbl : Hid (Below w.heap.size w ((w.alloc (.cells #[.int .i64 0, .int .i64 0, .string ⟨#[]⟩, .slice none 0 0] 34)).setCells w.heap.size 0 (encP (zeroT, .slice none 0 0)))) := below_put hbz (Nat.le_refl _) (zeroT, .slice none 0 0)
  clear h
  go_enter Tryz.func48, Tryz.ntmps48
  go_wp2_with fail
  refine Calls.mono HO.out ?_
  rintro e w1 ⟨rfl, rfl⟩
  clear HO
  go_wp2_with fail
  refine bodyPost_ret (v := .tuple #[.agg #[.int .i64 0, .int .i64 0, .string ⟨#[]⟩, .slice none 0 0], .int .i64 7]) ?_ rfl ?_
  · simp [results, Tryz.results48, go_sem]
  · refine ⟨rfl, ?_⟩
    first | exact hbz | exact Hbl.out

set_option maxRecDepth 100000 in
set_option maxHeartbeats 4000000 in
theorem shut_pop (p : Value) (w : World) (h : Shut13 w p) : Calls Tryz.prog 46 #[p] w (SealPost w) := by
  obtain ⟨po, rfl⟩ := h.1
  have hbz : Below w.heap.size w (w.alloc (.cells #[.int .i64 0, .int .i64 0, .string ⟨#[]⟩, .slice none 0 0] 34)) := ((Grew.refl w).alloc _).below
  have HO : Hid _ := h.2 _ hbz
  clear h
  go_enter Tryz.func46, Tryz.ntmps46
  go_wp2_with fail
  refine Calls.mono HO.out ?_
  rintro e w1 ⟨rfl, rfl⟩
  clear HO
  go_wp2_with fail
  refine bodyPost_ret (v := .tuple #[.agg #[.int .i64 0, .int .i64 0, .string ⟨#[]⟩, .slice none 0 0], .int .i64 7]) ?_ rfl ?_
  · simp [results, Tryz.results46, go_sem]
  · exact ⟨rfl, hbz⟩

end Go.Proofs.YtegknglhfpgpoaaGreat

namespace Go.Proofs.YtegknglhfpgpoaaGreat
open Go.RowKit

end Go.Proofs.YtegknglhfpgpoaaGreat

namespace Go.Proofs.YtegknglhfpgpoaaGreat
open Go.RowKit

/-- A step: its kind, its place, its value. -/
abbrev StepP : Type := Int × Int × (VT × Value)

/-- The six cells of a step. -/
def SixAt (w : World) (b o : Nat) (s : StepP) : Prop :=
  w.cell? ⟨b, o, none⟩ = some (.int .i64 s.1) ∧ w.cell? ⟨b, o + 1, none⟩ = some (.int .i64 s.2.1) ∧ w.cell? ⟨b, o + 2, none⟩ = some (.int .i64 s.2.2.1.kind) ∧ w.cell? ⟨b, o + 3, none⟩ = some (.int .i64 s.2.2.1.num) ∧ w.cell? ⟨b, o + 4, none⟩ = some (.string s.2.2.1.text) ∧ w.cell? ⟨b, o + 5, none⟩ = some s.2.2.2

/-- A slice of steps. -/
def SlS (n : Nat) (w : World) (ss : List StepP) (v : Value) : Prop :=
  ∃ a c, v = .slice a ss.length c ∧ ss.length ≤ c ∧ ss.length ≤ 9223372036854775807 ∧ (ss ≠ [] → ∃ b o, a = some ⟨b, o, none⟩ ∧ ∀ (i : Nat) (h : i < ss.length), SixAt w b (o + i * 6) (ss[i]'h)) ∧ ∀ s ∈ ss, Sound n w s.2.2

/-- What a step holds, wherever it is looked at. -/
theorem SlS.at {n : Nat} {w : World} {ss : List StepP} {v : Value} (h : SlS n w ss v) : ∃ a c, v = .slice a ss.length c ∧ ss.length ≤ c ∧ ss.length ≤ 9223372036854775807 ∧ ∀ (j : Nat), j < ss.length → ∃ (b o : Nat) (k t : Int) (x : VT) (ax : Option Addr) (cx : Nat), a = some ⟨b, o, none⟩ ∧ ss[j]? = some (k, t, (x, .slice ax x.items.length cx)) ∧ Lies n w x.items (.slice ax x.items.length cx) ∧ x.text.size ≤ 9223372036854775807 ∧ ∀ W, Below w.heap.size w W → SixAt W b (o + j * 6) (k, t, (x, .slice ax x.items.length cx)) ∧ b < W.heap.size := by
  obtain ⟨a, c, hv, h1, h2, hr, hs⟩ := h
  refine ⟨a, c, hv, h1, h2, fun j hj => ?_⟩
  obtain ⟨b, o, ha, hcs⟩ := hr (fun e => by rw [e] at hj; cases hj)
  obtain ⟨⟨k, t, x, u⟩, hx⟩ : ∃ x, x = ss[j] := ⟨_, rfl⟩
  have hc := hcs j hj
  have hsd := hs _ (List.getElem_mem hj)
  rw [← hx] at hc hsd
  obtain ⟨ax, cx, hu, _⟩ := Lies.slice hsd.1
  simp only at hu
  subst hu
  refine ⟨b, o, k, t, x, ax, cx, ha, by rw [List.getElem?_eq_getElem hj, hx], hsd.1, hsd.2, fun W hW => ?_⟩
  obtain ⟨c0, c1, c2, c3, c4, c5⟩ := hc
  exact ⟨⟨cell_keeps hW c0, cell_keeps hW c1, cell_keeps hW c2, cell_keeps hW c3, cell_keeps hW c4, cell_keeps hW c5⟩, cell_lt (cell_keeps hW c0)⟩

/-- As high as it may be. -/
def HtOK (l : List VT) (n : Nat) : Prop := (l = [] ∧ n = 0) ∨ (l ≠ [] ∧ ∃ h, n = h + 1 ∧ (h = 0 ∨ 16 ^ h ≤ l.length))

end Go.Proofs.YtegknglhfpgpoaaGreat

namespace Go.Proofs.YtegknglhfpgpoaaGreat
open Go.RowKit

/-- The vector's pointer as the walk writes it. -/
theorem VV.ptr {w : World} {l : List VT} {p : Value} (h : VV w l p) : ∃ o, p = .pointer o := h.vc.shape

theorem push_right {n : Nat} {l m : List VT} {x : VT} {w : World} {u : Value} (hx : Lies n w x.items u) (hr : l.all (rightV 16) = true) (h : pushN n l x = .inl m) : m.length ≤ 65536 ∧ m.all (rightV 16) = true := by
  unfold pushN at h
  by_cases h1 : rightV n x = true
  · rw [if_pos h1] at h
    by_cases h2 : l.length + 1 ≤ 65536
    · rw [if_pos h2] at h
      injection h with h
      subst h
      refine ⟨by rw [List.length_append]; exact h2, ?_⟩
      rw [List.all_append, hr]
      simpa using (canon hx h1).2
    · rw [if_neg h2] at h; cases h
  · rw [if_neg h1] at h; cases h

/-- What Push tells of a vector whose items are right. -/
theorem push_vv (n : Nat) (l : List VT) (p : Value) (x : VT) (ax : Option Addr) (cx : Nat) (w : World) (h : VV w l p) (hx : Lies n w x.items (.slice ax x.items.length cx)) (hts : x.text.size ≤ 9223372036854775807) :
    Calls Tryz.prog 96 #[p, .agg #[.int .i64 x.kind, .int .i64 x.num, .string x.text, .slice ax x.items.length cx]] w fun e w' => Below w.heap.size w w' ∧ ((∃ b, e = .returned (.tuple #[.pointer (some ⟨b, 0, none⟩), .int .i64 0]) ∧ VV w' (l ++ [x]) (.pointer (some ⟨b, 0, none⟩)) ∧ rightV n x = true ∧ l.length + 1 ≤ 65536) ∨ (∃ k : Nat, e = .returned (.tuple #[.pointer none, .int .i64 (k : Int)]) ∧ ((k = 3 ∧ rightV n x = false) ∨ (k = 2 ∧ rightV n x = true ∧ l.length = 65536)))) := by
  refine Calls.mono (push_n n l p x ax cx w h.vc hx hts h.len) ?_
  rintro e w' ⟨hb, hp⟩
  refine ⟨hb, ?_⟩
  by_cases h1 : rightV n x = true
  · by_cases h2 : l.length + 1 ≤ 65536
    · have e9 : pushN n l x = .inl (l ++ [x]) := by unfold pushN; rw [if_pos h1, if_pos h2]
      have h9 := push_right hx h.right e9
      rw [e9] at hp
      obtain ⟨b, rfl, hv⟩ := hp
      exact .inl ⟨b, rfl, ⟨hv, h9.1, h9.2⟩, h1, h2⟩
    · have e9 : pushN n l x = .inr 2 := by unfold pushN; rw [if_pos h1, if_neg h2]
      rw [e9] at hp
      exact .inr ⟨2, hp, .inr ⟨rfl, h1, by have := h.len; omega⟩⟩
  · have e9 : pushN n l x = .inr 3 := by unfold pushN; rw [if_neg h1]
    rw [e9] at hp
    exact .inr ⟨3, hp, .inl ⟨rfl, by simpa using h1⟩⟩

/-- What Pop tells of a vector whose items are right. -/
theorem pop_vv (l : List VT) (p : Value) (w : World) (h : VV w l p) : Calls Tryz.prog 98 #[p] w fun e w' => Below w.heap.size w w' ∧ ((l = [] ∧ e = .returned (.tuple #[.pointer none, .agg #[.int .i64 0, .int .i64 0, .string ⟨#[]⟩, .slice none 0 0], .int .i64 6])) ∨
    ∃ m x b a c, l = m ++ [x] ∧ e = .returned (.tuple #[.pointer (some ⟨b, 0, none⟩), .agg #[.int .i64 x.kind, .int .i64 x.num, .string x.text, .slice a x.items.length c], .int .i64 0]) ∧ VV w' m (.pointer (some ⟨b, 0, none⟩)) ∧ LiesB w.heap.size 16 w' x.items (.slice a x.items.length c)) := by
  refine Calls.mono (vpop_any l p w h) ?_
  rintro e w' ⟨hb, hp⟩
  refine ⟨hb, ?_⟩
  rcases hp with ⟨hl, he⟩ | ⟨m, x, b, v, hl, he, hv, hL⟩
  · exact .inl ⟨hl, he⟩
  · obtain ⟨a, c, rfl, _⟩ := Lies.slice (LiesB.lies _ _ _ hL)
    refine .inr ⟨m, x, b, a, c, hl, he, ⟨hv, ?_, ?_⟩, hL⟩
    · have := h.len
      rw [hl, List.length_append] at this
      omega
    · have := h.right
      rw [hl, List.all_append, Bool.and_eq_true] at this
      exact this.1

end Go.Proofs.YtegknglhfpgpoaaGreat

