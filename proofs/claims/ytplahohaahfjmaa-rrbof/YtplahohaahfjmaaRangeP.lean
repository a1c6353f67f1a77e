/-
  Ranges over functions that hand out new memory: a round may know of what it is handed in the world in which it is handed it.
-/
import Derived.Test.YtplahohaahfjmaaAppSeq
import Derived.Deep.RegionHeld3
import Derived.Test.YtplahohaahfjmaaVecS
import Derived.Test.YtplahohaahfjmaaUtf
import Derived.Test.YtplahohaahfjmaaJoinV
import Derived.Test.YtplahohaahfjmaaVals
import Derived.Test.YtplahohaahfjmaaAppSeqP
namespace Go.Proofs.Ytplahohaahfjmaa
open Go.RowKit Go.Shelf

set_option maxRecDepth 100000 in
theorem vfrom_any (p : Option Addr) (i : Int) (w : World) : Calls Try.prog 75 #[.pointer p, .int .i64 i] w fun e w' => e = .returned (.func (.func 96) #[] #[.pointer (some ⟨w.heap.size, 0, none⟩), .pointer (some ⟨w.heap.size + 1, 0, none⟩)]) ∧ w' = (w.alloc (.cells #[.pointer p] 23)).alloc (.cells #[.int .i64 i] 3) := by
  go_enter Try.func75, Try.ntmps75
  go_wp2_with fail
  go_ret
  exact ⟨rfl, rfl⟩

/-- What kept tells: the items as they lie, in a list of their own. -/
def KeptPost (d : Nat) (l : List VT) (w : World) (e : Ending) (w' : World) : Prop := ∃ v, e = .returned v ∧ (∃ ps : List (VT × Value), ps.map (·.1) = l ∧ w'.ownsRow w.heap.size 31 4 v ps.length (ps.flatMap encP) ∧ ∀ p ∈ ps, Sound d w p) ∧ Below w.heap.size w w'

set_option maxRecDepth 100000 in
set_option maxHeartbeats 8000000 in
theorem kept_any (d : Nat) (l : List VT) (p : Value) (w : World) (h : VC d w l p) (hbig : l.length ≤ 65536) : Calls Try.prog 59 #[p] w (KeptPost d l w) := by
  obtain ⟨qs, hq1, hst⟩ := from_stops d w (fun _ => True) l p 0 h (fun _ _ => trivial) (by omega)
  have hql : qs.length ≤ 65536 := by
    have := congrArg List.length hq1
    rw [List.length_map] at this
    rw [this]
    unfold fromL
    split
    · rw [List.length_drop]; omega
    · simp
  have hq2 : qs.map (·.1.1) = l := by
    rw [hq1]
    unfold fromL
    by_cases h0 : (0 : Int) ≤ 0 ∧ (0 : Int) < (l.length : Int)
    · rw [if_pos h0]; simp
    · rw [if_neg h0]
      exact (List.eq_nil_of_length_eq_zero (by omega)).symm
  obtain ⟨i0, hi, hz0, hz1, hz2⟩ := infoV
  obtain ⟨L, hL⟩ : ∃ L, L = l.length := ⟨_, rfl⟩
  obtain ⟨M, hM⟩ : ∃ M, M = madeCells (Value.agg #[.int .i64 0, .int .i64 0, .string ⟨#[]⟩, .slice none 0 0]).cells (((L : Nat) : Int).toNat * i0.size) := ⟨_, rfl⟩
  have hMs : M.size = L * 4 := by rw [hM, size_madeCells, hz1]; simp
  have hmk : ∀ W : World, (Instr.makeSlice 22 (.int .i64 0) (.int .i64 (L : Int))).run Try.prog W = .ok (.slice (some ⟨W.heap.size, 0, none⟩) 0 L) (W.alloc (.cells M 31)) := fun W => by
    have h := run_make (P := Try.prog) W 22 31 i0 _ Try.underlying22 hi hz0 .i64 .i64 0 (L : Int) (by omega) (by omega) (by rw [hz2]; omega) (by omega)
    rw [← hM] at h
    simpa using h
  obtain ⟨po, rfl⟩ := h.shape
  have HLen : Hid (∀ V, Below w.heap.size w V → Calls Try.prog 24 #[.pointer po] V (NumPost L V)) := fun V hV => by
    rw [hL]; exact vlen_any d l _ V (h.keeps hV)
  have HApp : Hid (∀ (V : World) (g Bv Bp : Nat), Below w.heap.size w V → V.ownsRow w.heap.size 31 4 (.slice (some ⟨g, 0, none⟩) 0 L) 0 [] → Bv < V.heap.size → Bp < V.heap.size → V.cell? ⟨Bv, 0, none⟩ = some (.pointer po) → V.cell? ⟨Bp, 0, none⟩ = some (.int .i64 0) →
      Calls Try.prog 81 #[.slice (some ⟨g, 0, none⟩) 0 L, .func (.func 96) #[] #[.pointer (some ⟨Bv, 0, none⟩), .pointer (some ⟨Bp, 0, none⟩)]] V (KeptPost d l w)) := fun V g Bv Bp hV hrow hlv hlp hv hp => by
    refine (appendSeq_any d w (fun _ => True) qs hql _ _ V hV hrow (fun W hW => hst 5 Bv Bp W (hV.trans (hW.mono hV.size)) (Nat.lt_of_lt_of_le hlv hW.size) (Nat.lt_of_lt_of_le hlp hW.size) (cell_keeps hW hv) (cell_keeps hW hp))).mono ?_
    rintro e w' ⟨v, rfl, ho, hb⟩
    refine ⟨v, rfl, ⟨qs.map (·.1), by rw [List.map_map]; exact hq2, by rw [List.length_map, List.flatMap_map]; exact ho, fun p hp => ?_⟩, hV.trans hb⟩
    obtain ⟨q, _, rfl⟩ := List.mem_map.1 hp
    exact q.2.1
  have HMd : Hid (∀ (V : World), Below w.heap.size w V → (V.alloc (.cells M 31)).ownsRow w.heap.size 31 4 (.slice (some ⟨V.heap.size, 0, none⟩) 0 L) 0 []) := fun V hV => World.ownsRow_made V M L hV.size (by unfold maxLen; omega) hMs
  have cell1 : ∀ (V : World) (x y z : Obj) (i : Value) (T : Nat), x = .cells #[i] T → ((V.alloc x).alloc y).cell? ⟨V.heap.size, 0, none⟩ = some i ∧ (((V.alloc x).alloc y).alloc z).cell? ⟨V.heap.size, 0, none⟩ = some i := fun V x y z i T e => by
    subst e
    have h1 := (Go.Boxed.new V T i).alloc y
    exact ⟨h1.cell, (h1.alloc z).cell⟩
  have HA : Hid (∀ V, Below w.heap.size w V → Below w.heap.size w (((V.alloc (.cells M 31)).alloc (.cells #[.pointer po] 23)).alloc (.cells #[.int .i64 0] 3)) ∧ (((V.alloc (.cells M 31)).alloc (.cells #[.pointer po] 23)).alloc (.cells #[.int .i64 0] 3)).ownsRow w.heap.size 31 4 (.slice (some ⟨V.heap.size, 0, none⟩) 0 L) 0 [] ∧ V.heap.size + 1 < (((V.alloc (.cells M 31)).alloc (.cells #[.pointer po] 23)).alloc (.cells #[.int .i64 0] 3)).heap.size ∧ V.heap.size + 1 + 1 < (((V.alloc (.cells M 31)).alloc (.cells #[.pointer po] 23)).alloc (.cells #[.int .i64 0] 3)).heap.size ∧
      (((V.alloc (.cells M 31)).alloc (.cells #[.pointer po] 23)).alloc (.cells #[.int .i64 0] 3)).cell? ⟨V.heap.size + 1, 0, none⟩ = some (.pointer po) ∧ (((V.alloc (.cells M 31)).alloc (.cells #[.pointer po] 23)).alloc (.cells #[.int .i64 0] 3)).cell? ⟨V.heap.size + 1 + 1, 0, none⟩ = some (.int .i64 0)) := fun V hV => by
    refine ⟨((hV.alloc hV.size _).alloc (by simp; have := hV.size; omega) _).alloc (by simp; have := hV.size; omega) _, ((HMd.out _ hV).alloc _).alloc _, by simp, by simp, ?_, ?_⟩
    · have h1 := (cell1 (V.alloc (.cells M 31)) _ (.cells #[.int .i64 0] 3) (.cells #[.int .i64 0] 3) (.pointer po) 23 rfl).1
      rwa [World.size_alloc] at h1
    · have h1 := (Go.Boxed.new ((V.alloc (.cells M 31)).alloc (.cells #[.pointer po] 23)) 3 (.int .i64 0)).cell
      rwa [World.size_alloc, World.size_alloc] at h1
  have HB : Hid (∀ V, Below w.heap.size w V → Below w.heap.size w (((V.alloc (.cells #[.pointer po] 23)).alloc (.cells #[.int .i64 0] 3)).alloc (.cells M 31)) ∧ (((V.alloc (.cells #[.pointer po] 23)).alloc (.cells #[.int .i64 0] 3)).alloc (.cells M 31)).ownsRow w.heap.size 31 4 (.slice (some ⟨V.heap.size + 1 + 1, 0, none⟩) 0 L) 0 [] ∧ V.heap.size < (((V.alloc (.cells #[.pointer po] 23)).alloc (.cells #[.int .i64 0] 3)).alloc (.cells M 31)).heap.size ∧ V.heap.size + 1 < (((V.alloc (.cells #[.pointer po] 23)).alloc (.cells #[.int .i64 0] 3)).alloc (.cells M 31)).heap.size ∧
      (((V.alloc (.cells #[.pointer po] 23)).alloc (.cells #[.int .i64 0] 3)).alloc (.cells M 31)).cell? ⟨V.heap.size, 0, none⟩ = some (.pointer po) ∧ (((V.alloc (.cells #[.pointer po] 23)).alloc (.cells #[.int .i64 0] 3)).alloc (.cells M 31)).cell? ⟨V.heap.size + 1, 0, none⟩ = some (.int .i64 0)) := fun V hV => by
    refine ⟨((hV.alloc hV.size _).alloc (by simp; have := hV.size; omega) _).alloc (by simp; have := hV.size; omega) _, ?_, (by first | (simp; done) | (simp; omega)), (by first | (simp; done) | (simp; omega)), (cell1 V _ _ _ _ _ rfl).2, ?_⟩
    · have h1 := HMd.out _ ((hV.alloc hV.size (.cells #[.pointer po] 23)).alloc (by simp; have := hV.size; omega) (.cells #[.int .i64 0] 3))
      rwa [World.size_alloc, World.size_alloc] at h1
    · have h1 := (cell1 (V.alloc (.cells #[.pointer po] 23)) _ (.cells M 31) (.cells M 31) (.int .i64 0) 3 rfl).1
      rwa [World.size_alloc] at h1
  clear cell1 hst hq1 hq2 hql hM hMs hi hz0 hz1 hz2 h hL
  go_enter Try.func59, Try.ntmps59
  go_wp2_with fail
  go_region_held3 (fun _ => True) (first | trivial | go_keep)
    (first
      | (go_at_call 75; refine (vfrom_any _ _ _).mono ?_; rintro e w3 ⟨rfl, rfl⟩)
      | (go_at_call 24; refine (HLen.out _ (Below.refl _ _).drew).mono ?_; rintro e w1 ⟨rfl, hb1'⟩; have hb1 : Below w.heap.size w w1 := (Below.refl _ _).drew.trans hb1'; clear hb1')
      | (go_at_call 81
         refine (HApp.out _ _ _ _ (by first | exact (HA.out w1 hb1).1 | exact (HB.out w1 hb1).1) (by first | exact (HA.out w1 hb1).2.1 | exact (HB.out w1 hb1).2.1) (by first | exact (HA.out w1 hb1).2.2.1 | exact (HB.out w1 hb1).2.2.1) (by first | exact (HA.out w1 hb1).2.2.2.1 | exact (HB.out w1 hb1).2.2.2.1) (by first | exact (HA.out w1 hb1).2.2.2.2.1 | exact (HB.out w1 hb1).2.2.2.2.1) (by first | exact (HA.out w1 hb1).2.2.2.2.2 | exact (HB.out w1 hb1).2.2.2.2.2)).mono ?_
         rintro e w4 ⟨v4, rfl, hx⟩
         have HE : Hid (KeptPost d l w (.returned v4) w4) := ⟨v4, rfl, hx⟩
         clear hx))
  all_goals (first | (go_ret; exact HE.out) | (go_wp2_with fail; go_ret; exact HE.out))

theorem KeptPost.lies {d : Nat} {l : List VT} {w : World} {e : Ending} {w' : World} (h : KeptPost d l w e w') (hbig : l.length ≤ 65536) : ∃ v, e = .returned v ∧ Lies (d + 1) w' l v ∧ Below w.heap.size w w' := by
  obtain ⟨v, rfl, ⟨ps, rfl, hown, hsd⟩, hb⟩ := h
  exact ⟨v, rfl, own_lies rfl hown (fun p hp => (hsd p hp).keeps hb) (by rw [List.length_map] at hbig; omega), hb⟩

/-- What Items tells: new lists throughout. -/
def ItemsPost (l : List VT) (w : World) (e : Ending) (w' : World) : Prop := ∃ v, e = .returned v ∧ LiesB w.heap.size 17 w' l v ∧ Below w.heap.size w w'

theorem LiesB.mono {b b' : Nat} (hb : b' ≤ b) {w : World} : ∀ (d : Nat) (l : List VT) (v : Value), LiesB b d w l v → LiesB b' d w l v := by
  intro d
  induction d with
  | zero => intro l v h; exact h
  | succ d ih =>
    intro l v h
    obtain ⟨a, c, e, h1, hr⟩ := h
    refine ⟨a, c, e, h1, fun hne => ?_⟩
    obtain ⟨bb, o, ha, hbb, h2, hall⟩ := hr hne
    refine ⟨bb, o, ha, by omega, h2, fun i hi => ?_⟩
    obtain ⟨u, c0, c1, c2, c3, hL, hs⟩ := hall i hi
    exact ⟨u, c0, c1, c2, c3, ih _ _ hL, hs⟩

set_option maxRecDepth 100000 in
set_option maxHeartbeats 4000000 in
theorem items_any (l : List VT) (p : Value) (w : World) (h : VC 16 w l p) (hbig : l.length ≤ 65536) (hR : l.all (rightV 16) = true) : Calls Try.prog 29 #[p] w (ItemsPost l w) := by
  obtain ⟨po, rfl⟩ := h.shape
  have HK : Hid (Calls Try.prog 59 #[.pointer po] w fun e w' => ∃ v, e = .returned v ∧ Lies 17 w' l v ∧ Below w.heap.size w w') := Calls.mono (kept_any 16 l _ w h hbig) (fun e w' h => h.lies hbig)
  have HC : Hid (∀ (V : World) (v : Value), Lies 17 V l v → Calls Try.prog 44 #[v] V fun e w' => ∃ u, e = .returned u ∧ LiesB V.heap.size 17 w' l u ∧ Below V.heap.size V w') := fun V v hv => copyAll_core 16 l v V hv hbig (fun x u W hx hu _ => copyR x u W hu (List.all_eq_true.1 hR x hx))
  clear h hR hbig
  go_enter Try.func29, Try.ntmps29
  go_wp2_with fail
  refine Calls.mono HK.out ?_
  rintro e w1 ⟨v1, rfl, hv1, hb1⟩
  obtain ⟨a1, c1, rfl, _⟩ := Lies.slice hv1
  have HC1 : Hid _ := HC.out w1 _ hv1
  clear hv1 HK HC
  go_wp2_with fail
  refine Calls.mono HC1.out ?_
  rintro e w2 ⟨v2, rfl, hv2, hb2⟩
  have HE : Hid (ItemsPost l w (.returned v2) w2) := ⟨v2, rfl, LiesB.mono hb1.size _ _ _ hv2, hb1.trans (hb2.mono hb1.size)⟩
  obtain ⟨a2, c2, rfl, _⟩ := Lies.slice (LiesB.lies _ _ _ hv2)
  clear hv2 HC1
  go_wp2_with fail
  go_ret
  exact HE.out

end Go.Proofs.Ytplahohaahfjmaa

namespace Go.Proofs.Ytplahohaahfjmaa
open Go.RowKit

/-- Is the value right, read to whatever depth it lies in? -/
def ofN (n : Nat) (l : List VT) : List VT ⊕ Nat := if 65536 < l.length then .inr 2 else if l.all (rightV n) then .inl l else .inr 3
def pushN (n : Nat) (l : List VT) (x : VT) : List VT ⊕ Nat := if rightV n x = true then (if l.length + 1 ≤ 65536 then .inl (l ++ [x]) else .inr 2) else .inr 3
def setN (n : Nat) (l : List VT) (i : Int) (x : VT) : List VT ⊕ Nat := if rightV n x = true then (if 0 ≤ i ∧ i < (l.length : Int) then .inl (l.set i.toNat x) else .inr 5) else .inr 3

theorem canonL {w : World} {n : Nat} {l : List VT} {u : Value} (h : Lies (n + 1) w l u) (hr : l.all (rightV n) = true) : Lies 17 w l u ∧ l.all (rightV 16) = true := by
  have hall : ∀ x ∈ l, Dp 16 x ∧ rightV 16 x = true := fun x hx => by
    obtain ⟨a, c, e, _, hr1⟩ := h
    obtain ⟨i, hi, rfl⟩ := List.getElem_of_mem hx
    obtain ⟨b, o, ha, hrow⟩ := hr1 (fun e => by rw [e] at hi; cases hi)
    obtain ⟨v, _, _, _, _, hL, _⟩ := hrow i hi
    have hd := Dp.of_lies n w _ v hL
    have hrx := List.all_eq_true.1 hr _ (List.getElem_mem hi)
    exact ⟨right_deep hrx hd, (canon hL hrx).2⟩
  exact ⟨Lies.lower 17 (n + 1) l u h (by omega) (fun x hx => (hall x hx).1), List.all_eq_true.2 fun x hx => (hall x hx).2⟩

set_option maxRecDepth 100000 in
set_option maxHeartbeats 4000000 in
theorem of_n (n : Nat) (l : List VT) (u : Value) (w : World) (hu : Lies (n + 1) w l u) : Calls Try.prog 9 #[u] w (VecPost 16 (ofN n l) w) := by
  by_cases hg : l.length ≤ 65536 ∧ l.all (rightV n) = true
  · obtain ⟨h1, h2⟩ := canonL hu hg.2
    have e : ofN n l = ofR l := by
      unfold ofN ofR
      rw [if_neg (show ¬ 65536 < l.length by omega), if_pos hg.2, if_neg (show ¬ 65536 < l.length by omega), if_pos h2]
    rw [e]
    exact of_any l u w h1
  · have HCk : Hid _ := checkAll_any n l u w hu
    obtain ⟨k, hk, hke⟩ : ∃ k : Nat, ofN n l = .inr k ∧ (k = 2 ∨ k = 3) ∧ listErr n l = (k : Int) := by
      unfold ofN listErr
      by_cases h1 : 65536 < l.length
      · exact ⟨2, by rw [if_pos h1], .inl rfl, by rw [if_pos h1]; rfl⟩
      · by_cases h2 : l.all (rightV n) = true
        · exact absurd ⟨by omega, h2⟩ hg
        · exact ⟨3, by rw [if_neg h1, if_neg h2], .inr rfl, by rw [if_neg h1, if_neg h2]; rfl⟩
    rw [hk]
    rw [hke.2] at HCk
    obtain ⟨a, c, rfl, _⟩ := Lies.slice hu
    clear hu hg hk
    rcases hke.1 with rfl | rfl
    all_goals
      go_enter Try.func9, Try.ntmps9
      go_wp2_with fail
      refine Calls.mono HCk.out ?_
      rintro e w1 ⟨rfl, hb1⟩
      clear HCk
      go_wp2_with fail
      go_ret2
      exact ⟨hb1, rfl⟩

theorem lies_oneN {n : Nat} {w : World} {t : VT} {u : Value} {b : Nat} (c0 : w.cell? ⟨b, 0, none⟩ = some (.int .i64 t.kind)) (c1 : w.cell? ⟨b, 1, none⟩ = some (.int .i64 t.num)) (c2 : w.cell? ⟨b, 2, none⟩ = some (.string t.text)) (c3 : w.cell? ⟨b, 3, none⟩ = some u) (hl : Lies n w t.items u) (hs : t.text.size ≤ 9223372036854775807) : Lies (n + 1) w [t] (.slice (some ⟨b, 0, none⟩) 1 1) := by
  refine ⟨_, 1, rfl, ⟨by simp, by simp⟩, fun _ => ⟨b, 0, rfl, fun i hi => ?_⟩⟩
  have : i = 0 := by simp at hi; omega
  subst this
  exact ⟨u, by simpa using c0, by simpa using c1, by simpa using c2, by simpa using c3, hl, hs⟩

set_option maxRecDepth 100000 in
set_option maxHeartbeats 4000000 in
theorem push_n (n : Nat) (l : List VT) (p : Value) (x : VT) (ax : Option Addr) (cx : Nat) (w : World) (h : VC 16 w l p) (hx : Lies n w x.items (.slice ax x.items.length cx)) (hts : x.text.size ≤ 9223372036854775807) (hlen : l.length ≤ 65536) :
    Calls Try.prog 20 #[p, .agg #[.int .i64 x.kind, .int .i64 x.num, .string x.text, .slice ax x.items.length cx]] w (VecPost 16 (pushN n l x) w) := by
  by_cases hr : rightV n x = true
  · obtain ⟨h1, h2⟩ := canon hx hr
    have e : pushN n l x = pushR l x := by
      unfold pushN pushR
      rw [if_pos hr, if_pos h2]
    rw [e]
    exact push_any l p x ax cx w h h1 hts hlen
  · have e : pushN n l x = .inr 3 := by unfold pushN; rw [if_neg hr]
    rw [e]
    obtain ⟨po, rfl⟩ := h.shape
    have hb1 : Below w.heap.size w ((w.alloc (.cells #[.int .i64 x.kind, .int .i64 x.num, .string x.text, .slice ax x.items.length cx] 31)).alloc (.cells #[.int .i64 x.kind, .int .i64 x.num, .string x.text, .slice ax x.items.length cx] 31)) := (((Grew.refl w).alloc _).alloc _).below
    have HOf : Hid (Calls Try.prog 9 #[.slice (some ⟨w.heap.size + 1, 0, none⟩) 1 1] ((w.alloc (.cells #[.int .i64 x.kind, .int .i64 x.num, .string x.text, .slice ax x.items.length cx] 31)).alloc (.cells #[.int .i64 x.kind, .int .i64 x.num, .string x.text, .slice ax x.items.length cx] 31)) (VecPost 16 (.inr 3) ((w.alloc (.cells #[.int .i64 x.kind, .int .i64 x.num, .string x.text, .slice ax x.items.length cx] 31)).alloc (.cells #[.int .i64 x.kind, .int .i64 x.num, .string x.text, .slice ax x.items.length cx] 31)))) := by
      have h9 := of_n n [x] _ _ (lies_oneN (u := .slice ax x.items.length cx) (b := w.heap.size + 1) (w := (w.alloc (.cells #[.int .i64 x.kind, .int .i64 x.num, .string x.text, .slice ax x.items.length cx] 31)).alloc (.cells #[.int .i64 x.kind, .int .i64 x.num, .string x.text, .slice ax x.items.length cx] 31)) (by simp) (by simp) (by simp) (by simp) (Lies.keeps hb1 _ _ _ hx) hts)
      have e2 : ofN n [x] = .inr 3 := by
        unfold ofN
        rw [if_neg (by simp), if_neg (by simpa using hr)]
      rw [e2] at h9
      exact h9
    have Hb1 : Hid (Below w.heap.size w ((w.alloc (.cells #[.int .i64 x.kind, .int .i64 x.num, .string x.text, .slice ax x.items.length cx] 31)).alloc (.cells #[.int .i64 x.kind, .int .i64 x.num, .string x.text, .slice ax x.items.length cx] 31))) := hb1
    obtain ⟨x0, x1, x2, x3, z0, z1, z2, z3⟩ := bx_alloc w x (.slice ax x.items.length cx)
    clear hx hts hr e h hb1 hlen
    go_enter Try.func20, Try.ntmps20
    go_wp2_with fail
    refine Calls.mono HOf.out ?_
    rintro e w1 ⟨hg1, rfl⟩
    have HE : Hid (VecPost 16 (.inr 3) w (.returned (.tuple #[.pointer none, .int .i64 3])) w1) := ⟨Hb1.out.trans (hg1.mono Hb1.out.size), rfl⟩
    clear HOf x0 x1 x2 x3 z0 z1 z2 z3
    go_wp2_with fail
    go_ret2
    exact HE.out

set_option maxRecDepth 100000 in
set_option maxHeartbeats 8000000 in
theorem vset_n (n : Nat) (l : List VT) (p : Value) (i : Int) (x : VT) (ax : Option Addr) (cx : Nat) (w : World) (h : VC 16 w l p) (hx : Lies n w x.items (.slice ax x.items.length cx)) (hts : x.text.size ≤ 9223372036854775807) (hbig : l.length ≤ 1099511627776) :
    Calls Try.prog 18 #[p, .int .i64 i, .agg #[.int .i64 x.kind, .int .i64 x.num, .string x.text, .slice ax x.items.length cx]] w (VecPost 16 (setN n l i x) w) := by
  by_cases hr : rightV n x = true
  · obtain ⟨h1, h2⟩ := canon hx hr
    have e : setN n l i x = setR l i x := by
      unfold setN setR
      rw [if_pos hr, if_pos h2]
    rw [e]
    exact vset_any l p i x ax cx w h h1 hts hbig
  · have e : setN n l i x = .inr 3 := by unfold setN; rw [if_neg hr]
    rw [e]
    have hb0 : Below w.heap.size w (w.alloc (.cells #[.int .i64 x.kind, .int .i64 x.num, .string x.text, .slice ax x.items.length cx] 31)) := ((Grew.refl w).alloc _).below
    have Hb0 : Hid (Below w.heap.size w (w.alloc (.cells #[.int .i64 x.kind, .int .i64 x.num, .string x.text, .slice ax x.items.length cx] 31))) := hb0
    have HCk : Hid _ := check_any n x (.slice ax x.items.length cx) _ (Lies.keeps hb0 _ _ _ hx) hts
    obtain ⟨x0, x1, x2, x3, z0, z1, z2, z3⟩ := bx_alloc w x (.slice ax x.items.length cx)
    have hr' : rightV n x = false := by simpa using hr
    rw [hr'] at HCk
    clear h hx hts hbig hr hr' hb0 e
    go_enter Try.func18, Try.ntmps18
    go_wp2_with fail
    refine Calls.mono HCk.out ?_
    rintro e w1 ⟨rfl, hg1⟩
    have HE : Hid (VecPost 16 (.inr 3) w (.returned (.tuple #[.pointer none, .int .i64 3])) w1) := ⟨Hb0.out.trans (hg1.mono Hb0.out.size), rfl⟩
    clear HCk x0 x1 x2 x3 z0 z1 z2 z3
    simp only [errOf]
    go_wp2_with fail
    go_ret2
    exact HE.out

end Go.Proofs.Ytplahohaahfjmaa

namespace Go.Proofs.Ytplahohaahfjmaa
open Go.RowKit

/-- A number as a value's tree. -/
def numT (n : Int) : VT := ⟨2, n, ⟨#[]⟩, []⟩
def numP (n : Int) : VT × Value := (numT n, .slice none 0 0)

theorem right_num (n : Int) : rightV 16 (numT n) = true := by
  simp [rightV, fw, fwL, rpV, ownV, okNum, okText, okItems, numT]

theorem nums_cells (zs : List Int) : zs.flatMap cellsInt = (zs.map numP).flatMap encP := by
  induction zs with
  | nil => rfl
  | cons z zs ih => rw [List.flatMap_cons, List.map_cons, List.flatMap_cons, ih]; rfl

theorem lies_nilD (d : Nat) (w : World) : Lies d w [] (.slice none 0 0) := by
  cases d with
  | zero => exact ⟨rfl, none, 0, rfl⟩
  | succ d => exact ⟨none, 0, rfl, by simp, fun h => absurd rfl h⟩

theorem nums_lies {w : World} {b c : Nat} (zs : List Int) (h : RowAt w b 0 (zs.map numP)) (hl : zs.length ≤ 1000) (hc : zs.length ≤ c) : Lies 17 w (zs.map numT) (.slice (some ⟨b, 0, none⟩) zs.length c) := by
  have := lies_of_row (d := 16) (c := c) h (fun p hp => by
    obtain ⟨z, _, rfl⟩ := List.mem_map.1 hp
    exact ⟨lies_nilD _ _, by show 0 ≤ 9223372036854775807; omega⟩) (by simp; omega) (by simpa using hc)
  simpa [List.map_map, Function.comp_def, numP] using this

theorem nums_right (zs : List Int) : (zs.map numT).all (rightV 16) = true := by
  rw [List.all_eq_true]
  intro x hx
  obtain ⟨z, _, rfl⟩ := List.mem_map.1 hx
  exact right_num z

theorem nums_of (zs : List Int) (h : zs.length ≤ 1000) : ofR (zs.map numT) = .inl (zs.map numT) := by
  unfold ofR
  rw [if_neg (by simp; omega), if_pos (nums_right zs)]

set_option maxHeartbeats 1000000 in
theorem nums_any (zs : List Int) (b cap : Nat) (w : World) (h0 : zs ≠ []) (hz : zs.length ≤ 1000) (hc : ∀ (i : Nat) (h : i < zs.length), w.cell? ⟨b, 0 + i, none⟩ = some (.int .i64 (zs[i]'h))) :
    Calls Try.prog 46 #[.slice (some ⟨b, 0, none⟩) zs.length cap] w fun e w' => ∃ g c, e = .returned (.slice (some ⟨g, 0, none⟩) zs.length c) ∧ Lies 17 w' (zs.map numT) (.slice (some ⟨g, 0, none⟩) zs.length c) ∧ Below w.heap.size w w' := by
  refine (ints_any b zs cap w hz hc).mono ?_
  rintro e w1 ⟨v, rfl, hown, hb⟩
  rw [nums_cells] at hown
  obtain ⟨g, c, rfl, _, hcp, _, hrow, _⟩ := own_row (ps := zs.map numP) (by simpa using hown) (by simpa using h0)
  refine ⟨g, c, by simp, nums_lies zs hrow hz (by simpa using hcp), hb⟩

/-- A vector whose items are right. -/
structure VV (w : World) (l : List VT) (p : Value) : Prop where
  vc : VC 16 w l p
  len : l.length ≤ 65536
  right : l.all (rightV 16) = true

theorem VV.keeps {w w' : World} {l : List VT} {p : Value} (h : VV w l p) (hb : Below w.heap.size w w') : VV w' l p := ⟨h.vc.keeps hb, h.len, h.right⟩

theorem vpop_any (l : List VT) (p : Value) (w : World) (h : VV w l p) : Calls Try.prog 22 #[p] w (PopPost l w) := by
  rcases List.eq_nil_or_concat l with rfl | ⟨m, x, rfl⟩
  · exact vpop_nil p w h.vc
  · rw [List.concat_eq_append] at h ⊢
    have hr := h.right
    rw [List.all_append, Bool.and_eq_true] at hr
    have hl := h.len
    rw [List.length_append] at hl
    exact vpop_some m x p w h.vc (by simpa using hr.2) hl

end Go.Proofs.Ytplahohaahfjmaa

namespace Go.Proofs.Ytplahohaahfjmaa
open Go.RowKit

/-- A vector whose items are right, or an error. -/
def VvPost (r : List VT ⊕ Nat) (w : World) (e : Ending) (w' : World) : Prop :=
  Below w.heap.size w w' ∧ match r with
  | .inl l => ∃ b, e = .returned (.tuple #[.pointer (some ⟨b, 0, none⟩), .int .i64 0]) ∧ VV w' l (.pointer (some ⟨b, 0, none⟩))
  | .inr n => e = .returned (.tuple #[.pointer none, .int .i64 (n : Int)])

theorem VecPost.vv {r : List VT ⊕ Nat} {w : World} {e : Ending} {w' : World} (h : VecPost 16 r w e w') (hr : ∀ l, r = .inl l → l.length ≤ 65536 ∧ l.all (rightV 16) = true) : VvPost r w e w' := by
  obtain ⟨hb, hp⟩ := h
  refine ⟨hb, ?_⟩
  cases r with
  | inl l =>
    obtain ⟨b, rfl, hv⟩ := hp
    exact ⟨b, rfl, hv, (hr l rfl).1, (hr l rfl).2⟩
  | inr n => exact hp

theorem all_take {l : List VT} (h : l.all (rightV 16) = true) (n : Nat) : (l.take n).all (rightV 16) = true := List.all_eq_true.2 fun x hx => List.all_eq_true.1 h x (List.mem_of_mem_take hx)
theorem all_drop {l : List VT} (h : l.all (rightV 16) = true) (n : Nat) : (l.drop n).all (rightV 16) = true := List.all_eq_true.2 fun x hx => List.all_eq_true.1 h x (List.mem_of_mem_drop hx)

/-- Is a number an end of a list? -/
abbrev endB (l : List VT) (i : Int) : Prop := 0 ≤ i ∧ i ≤ (l.length : Int)

def firstR (l : List VT) (i : Int) : List VT ⊕ Nat := if endB l i then .inl (l.take i.toNat) else .inr 5
def restR (l : List VT) (i : Int) : List VT ⊕ Nat := if endB l i then .inl (l.drop i.toNat) else .inr 5

theorem vfirst_vv (l : List VT) (p : Value) (i : Int) (w : World) (h : VV w l p) : Calls Try.prog 54 #[p, .int .i64 i] w (VvPost (firstR l i) w) := by
  refine Calls.mono (vfirst_any 16 l p i w h.vc (by have := h.len; omega)) ?_
  intro e w' hp
  refine VecPost.vv hp (fun m hm => ?_)
  unfold firstR at hm
  by_cases hi : endB l i
  · rw [if_pos hi] at hm
    injection hm with hm
    subst hm
    exact ⟨by rw [List.length_take]; have := h.len; omega, all_take h.right _⟩
  · rw [if_neg hi] at hm; cases hm

theorem vrest_vv (l : List VT) (p : Value) (i : Int) (w : World) (h : VV w l p) : Calls Try.prog 84 #[p, .int .i64 i] w (VvPost (restR l i) w) := by
  refine Calls.mono (vrest_any 16 l p i w h.vc (by have := h.len; omega)) ?_
  intro e w' hp
  refine VecPost.vv hp (fun m hm => ?_)
  unfold restR at hm
  by_cases hi : endB l i
  · rw [if_pos hi] at hm
    injection hm with hm
    subst hm
    exact ⟨by rw [List.length_drop]; have := h.len; omega, all_drop h.right _⟩
  · rw [if_neg hi] at hm; cases hm

/-- What Cut tells. -/
def CutPost (l : List VT) (i : Int) (w : World) (e : Ending) (w' : World) : Prop :=
  Below w.heap.size w w' ∧ ((endB l i ∧ ∃ b1 b2, e = .returned (.tuple #[.pointer (some ⟨b1, 0, none⟩), .pointer (some ⟨b2, 0, none⟩), .int .i64 0]) ∧ VV w' (l.take i.toNat) (.pointer (some ⟨b1, 0, none⟩)) ∧ VV w' (l.drop i.toNat) (.pointer (some ⟨b2, 0, none⟩))) ∨ (¬ endB l i ∧ e = .returned (.tuple #[.pointer none, .pointer none, .int .i64 5])))

set_option maxRecDepth 100000 in
set_option maxHeartbeats 4000000 in
theorem cut_any (l : List VT) (p : Value) (i : Int) (w : World) (h : VV w l p) : Calls Try.prog 62 #[p, .int .i64 i] w (CutPost l i w) := by
  obtain ⟨po, rfl⟩ := h.vc.shape
  have HF : Hid _ := vfirst_vv l _ i w h
  have HRs : Hid (∀ V, Below w.heap.size w V → Calls Try.prog 84 #[.pointer po, .int .i64 i] V (VvPost (restR l i) V)) := fun V hV => vrest_vv l _ i V (h.keeps hV)
  clear h
  by_cases hi : endB l i
  · have Hi : Hid (endB l i) := hi
    unfold firstR at HF
    unfold restR at HRs
    rw [if_pos hi] at HF HRs
    clear hi
    go_enter Try.func62, Try.ntmps62
    go_wp2_with fail
    refine Calls.mono HF.out ?_
    rintro e w1 ⟨hb1, b1, rfl, hv1⟩
    have HV1 : Hid (VV w1 (l.take i.toNat) (.pointer (some ⟨b1, 0, none⟩))) := hv1
    have HR1 : Hid _ := HRs.out w1 hb1
    clear HF hv1 HRs
    go_wp2_with fail
    refine Calls.mono HR1.out ?_
    rintro e w2 ⟨hb2, b2, rfl, hv2⟩
    have HE : Hid (CutPost l i w (.returned (.tuple #[.pointer (some ⟨b1, 0, none⟩), .pointer (some ⟨b2, 0, none⟩), .int .i64 0])) w2) := ⟨hb1.trans (hb2.mono hb1.size), .inl ⟨Hi.out, b1, b2, rfl, HV1.out.keeps hb2, hv2⟩⟩
    clear HR1 hv2
    go_wp2_with fail
    go_ret3
    exact HE.out
  · have Hi : Hid (¬ endB l i) := hi
    unfold firstR at HF
    rw [if_neg hi] at HF
    clear hi HRs
    go_enter Try.func62, Try.ntmps62
    go_wp2_with fail
    refine Calls.mono HF.out ?_
    rintro e w1 ⟨hb1, rfl⟩
    have HE : Hid (CutPost l i w (.returned (.tuple #[.pointer none, .pointer none, .int .i64 5])) w1) := ⟨hb1, .inr ⟨Hi.out, rfl⟩⟩
    clear HF
    go_wp2_with fail
    go_ret3
    exact HE.out

/-- What Slice tells. -/
def sliceR (l : List VT) (i j : Int) : List VT ⊕ Nat := if endB l i ∧ endB l j ∧ i ≤ j then .inl ((l.take j.toNat).drop i.toNat) else .inr 5

set_option maxRecDepth 100000 in
set_option maxHeartbeats 4000000 in
/-- A vector is just these items, and flat. -/
theorem is_some (l : List VT) (b : Nat) (u : Value) (w : World) (h : VV w l (.pointer (some ⟨b, 0, none⟩))) (hu : Lies 17 w l u) : Calls Try.prog 39 #[.pointer (some ⟨b, 0, none⟩), .int .i64 0, u, .int .i64 0] w fun e w' => e = .returned (.bool true) ∧ Below w.heap.size w w' := by
  obtain ⟨a, c, rfl, _⟩ := Lies.slice hu
  have HU : Hid (Lies 17 w l (.slice a l.length c)) := hu
  have HV : Hid (VV w l (.pointer (some ⟨b, 0, none⟩))) := h
  have hlen := h.len
  obtain ⟨L, hL⟩ : ∃ L, L = l.length := ⟨_, rfl⟩
  have HLn : Hid (Calls Try.prog 24 #[.pointer (some ⟨b, 0, none⟩)] w (NumPost L w)) := by rw [hL]; exact vlen_any 16 l _ w h.vc
  have HIt : Hid (∀ V, Below w.heap.size w V → Calls Try.prog 29 #[.pointer (some ⟨b, 0, none⟩)] V (ItemsPost l V)) := fun V hV => items_any l _ V (h.vc.keeps hV) h.len h.right
  have HVs : Hid (∀ V v, Below w.heap.size w V → Lies 17 V l v → Calls Try.prog 17 #[v, .slice a L c] V fun e w' => e = .returned (.bool true) ∧ Below V.heap.size V w') := fun V v hV hv => by
    rw [hL]; exact values_one 16 l v _ V hv (Lies.keeps hV _ _ _ HU.out) hlen
  have HHt : Hid (∀ V, Below w.heap.size w V → Calls Try.prog 25 #[.pointer (some ⟨b, 0, none⟩)] V (HeightPost l V)) := fun V hV => vheight_any 16 l _ V (h.vc.keeps hV) (by omega)
  have HHi : Hid (∀ V (n : Nat), HeightPost l w (.returned (.int .i64 (n : Int))) w → Calls Try.prog 26 #[.int .i64 (L : Int)] V fun e w' => ∃ g : Nat, e = .returned (.int .i64 (g : Int)) ∧ n ≤ g ∧ w' = V) := fun V n hn => by
    obtain ⟨n', e', hh, _⟩ := hn
    injection e' with e'
    injection e' with _ e'
    obtain rfl : n = n' := by omega
    rw [hL]
    cases l with
    | nil =>
      refine Calls.mono (high_zero V) ?_
      rintro e w' ⟨rfl, rfl⟩
      refine ⟨0, rfl, ?_, rfl⟩
      rcases hh with ⟨_, rfl⟩ | ⟨h, _⟩
      · exact Nat.le_refl _
      · exact absurd rfl h
    | cons x l =>
      refine Calls.mono (high_any (x :: l).length V (by simp) hlen) ?_
      rintro e w' ⟨⟨j, rfl, _, hj⟩, rfl⟩
      refine ⟨j / 4 + 3, rfl, ?_, rfl⟩
      rcases hh with ⟨h, _⟩ | ⟨_, h, rfl, hh⟩
      · cases h
      · exact height_low _ h j hh hj
  have heq : ((L : Nat) : Int) = (l.length : Nat) := by omega
  rw [← hL]
  clear hu h hlen hL heq
  go_enter Try.func39, Try.ntmps39
  go_wp2_with fail
  refine Calls.mono HLn.out ?_
  rintro e w1 ⟨rfl, hb1⟩
  have HI1 : Hid _ := HIt.out w1 hb1
  clear HLn HIt
  go_wp2_with fail
  refine Calls.mono HI1.out ?_
  rintro e w2 ⟨v2, rfl, hv2, hg2⟩
  have hb2 : Below w.heap.size w w2 := hb1.trans (hg2.mono hb1.size)
  have HV2 : Hid _ := HVs.out w2 v2 hb2 (LiesB.lies _ _ _ hv2)
  obtain ⟨a2, c2, rfl, _⟩ := Lies.slice (LiesB.lies _ _ _ hv2)
  clear HI1 hv2 hg2 HVs
  go_wp2_with fail
  refine Calls.mono HV2.out ?_
  rintro e w3 ⟨rfl, hg3⟩
  have hb3 : Below w.heap.size w w3 := hb2.trans (hg3.mono hb2.size)
  have HH3 : Hid _ := HHt.out w3 hb3
  clear HV2 hg3 HHt
  go_wp2_with fail
  refine Calls.mono HH3.out ?_
  rintro e w4 ⟨hN, rfl, hok, hg4⟩
  have hb4 : Below w.heap.size w w4 := hb3.trans (hg4.mono hb3.size)
  have HH4 : Hid (Calls Try.prog 26 #[.int .i64 (L : Int)] w4 fun e w' => ∃ g : Nat, e = .returned (.int .i64 (g : Int)) ∧ hN ≤ g ∧ w' = w4) := HHi.out w4 hN ⟨hN, rfl, hok, Below.refl _ _⟩
  clear HH3 hok hg4 HHi
  go_wp2_with fail
  refine Calls.mono HH4.out ?_
  rintro e w5 ⟨g, rfl, hle, rfl⟩
  have hlei : ((hN : Nat) : Int) ≤ (g : Nat) := by omega
  clear HH4
  go_wp2_with fail
  go_ret
  exact ⟨rfl, hb4⟩

set_option maxRecDepth 100000 in
theorem is_none (k : Nat) (hk : k ≠ 0) (a : Option Addr) (n c : Nat) (w : World) : Calls Try.prog 39 #[.pointer none, .int .i64 (k : Int), .slice a n c, .int .i64 (k : Int)] w fun e w' => e = .returned (.bool true) ∧ Below w.heap.size w w' := by
  have hk0 : ¬ ((k : Nat) : Int) = 0 := by omega
  have hne : (((k : Nat) : Int) != ((k : Nat) : Int)) = false := by simp
  go_enter Try.func39, Try.ntmps39
  go_wp2_with fail
  go_ret
  exact ⟨rfl, Below.refl _ _⟩

end Go.Proofs.Ytplahohaahfjmaa

namespace Go.Proofs.Ytplahohaahfjmaa
open Go.RowKit Go.Shelf

/-- What is said abides the turn of a block from B on that is no cells, or a box of one cell that holds no list of values. -/
def AbX {β : Type} (B : Nat) (I : β → World → Prop) : Prop :=
  ∀ s W W' row, I s W → W.grownBy W' row → (∀ r, row = some r → B ≤ r ∧ ∃ o : Obj, W.heap[r]? = some o ∧ (o.isCells = false ∨ ∃ T u, T ≠ 22 ∧ o = .cells #[u] T (0, 0))) → I s W'

theorem AbX.from {β : Type} {B : Nat} {I : β → World → Prop} (h : AbX B I) : OwnFrom B I := fun s W W' row hs hg hr => h s W W' row hs hg (fun r e => ⟨(hr r e).1, by obtain ⟨_, o, ho, hc⟩ := hr r e; exact ⟨o, ho, .inl hc⟩⟩)

/-- What an iterator does whose rounds all go on: Pre holds of what it hands out, of the world behind the last round and the one in which it hands it out. -/
def SeqP {α : Type} (F : Fence) (n : Nat) (P : Program) (g : Nat) (lb : Array Value) (encs : α → Array Value) (Kp : Nat → World → World → Prop) (Pre : List α → α → World → World → Prop) (S : List α → Prop) (N : Nat) (w : World) : Prop :=
  ∀ (l : Nat) (J : List α → World → Prop) (W : World), Below w.heap.size w W → AbX W.heap.size J →
    (∀ pre x V W1, J pre V → Below V.heap.size V W1 → Pre pre x V W1 → pre.length < N → YieldAt F (n - 1) P l (encs x) W1 fun e W' => e = .returned (.bool true) ∧ J (pre ++ [x]) W' ∧ Kp W.heap.size W1 W') →
    J [] W → CallsIn F n P g (#[.func (.yield l) #[] #[]] ++ lb) W fun e W' => (∃ v, e = .returned v) ∧ ∃ xs, S xs ∧ J xs W'

/-- A record of a loop. -/
def recP (fn : FuncId) (tmps : Array Value) (ps : Array Tmp) (assign body : Code) (D : Nat) (st : LoopState) (pe : Option Code) : Loop := { state := st, pending := pe, fn := fn, tmps := tmps, params := ps, assign := assign, body := body, defers := D }

/-- The two blocks that a loop keeps its books in. -/
def BooksP (D : Nat) (r : Loop) (W : World) : Prop := W.heap[D + 1]? = some (.loop r) ∧ W.heap[D]? = some (.deferred (some []))

theorem BooksP.others {D B : Nat} {r : Loop} {W W' : World} (h : BooksP D r W) (hk : KeepsFrom B W W') (hB : B ≤ D) : BooksP D r W' := ⟨hk.same _ _ (by omega) h.1 rfl, hk.same _ _ hB h.2 rfl⟩

theorem BooksP.put {D : Nat} {r r' : Loop} {W : World} (h : BooksP D r W) : BooksP D r' (W.putObj (D + 1) (.loop r')) :=
  ⟨World.putObj_heap_same (Array.getElem?_eq_some_iff.1 h.1).1, (World.putObj_heap_other (by omega)).trans h.2⟩

theorem rangeP {α : Type} {F : Fence} {n : Nat} {P : Program} {g : Operand} {ps : Array Tmp} {assign body : Code} {Q : Exit → Act → World → Prop} {a : Act} {w : World}
    (hro : F.round = none) (h1 : 1 ≤ n) {gf : Nat} {lb : Array Value} (hg : a.eval g = .func (.func gf) #[] lb) (hFg : F.fn gf) (eg : ∀ args w, (callFunc gf args).run P w = .ok (.enter gf args) w)
    {encs : α → Array Value} {Kp : Nat → World → World → Prop} {Pre : List α → α → World → World → Prop} {S : List α → Prop} {N : Nat} {w0 : World} (hseq : SeqP F (n - 1) P gf lb encs Kp Pre S N w0)
    (hKt : ∀ {A B C : World}, Kp (w.heap.size + 2) A B → Kp (w.heap.size + 2) B C → Kp (w.heap.size + 2) A C) (hKb : ∀ (W : World) (o o' : Obj), W.heap[w.heap.size + 1]? = some o → o.isCells = false → Kp (w.heap.size + 2) W (W.putObj (w.heap.size + 1) o')) (hb0 : Below w0.heap.size w0 w) (hps : ∀ x, (encs x).size = ps.size)
    (I : List α → World → Prop) (hIx : AbX w.heap.size I) (h0 : I [] w) (Ax : List α → α → Act → World → Prop) (hAx : ∀ pre x a', OwnFrom w.heap.size (fun (_ : Unit) W => Ax pre x a' W))
    (hassign : ∀ (l : Nat) (pre : List α) (x : α) (V W : World) (K : Act → World → Prop), I pre V → Below V.heap.size V W → Pre pre x V W → (∀ a' W', KeepsFrom w.heap.size W W' → Kp (w.heap.size + 2) W W' → I pre W' → Ax pre x a' W' → K a' W') →
      assign.wpIn (F.inRound l) (n - 1 - 1) P (Exit.then K (fun _ _ _ => False)) { tmps := (ps.zip (encs x)).foldl (fun t (p, v) => t.setIfInBounds p v) a.tmps, defers := [] } W)
    (hbody : ∀ (l : Nat) (pre : List α) (x : α) (a' : Act) (W : World), w.heap.size ≤ l → I pre W → Ax pre x a' W → pre.length < N → body.wpIn (F.inRound l) (n - 1 - 1) P (ownPostG w.heap.size (Kp (w.heap.size + 2)) I (fun _ _ _ => False) (pre ++ [x]) W) a' W)
    (hdone : ∀ (D : Nat) (xs : List α) (W : World), w.heap.size ≤ D → S xs → I xs W → W.heap[D]? = some (.deferred (some [])) → Q .normal { a with defers := { target := .collected D, args := #[] } :: a.defers } W) :
    (Code.rangeFunc g ps assign body).wpIn F n P Q a w := by
  have hI : OwnFrom w.heap.size I := hIx.from
  refine wpIn_rangeFunc fun fn hfn => ?_
  rw [hro]
  obtain ⟨rec, hrec⟩ : ∃ rec, rec = recP fn a.tmps ps assign body w.heap.size := ⟨_, rfl⟩
  obtain ⟨V, hV⟩ : ∃ V, V = (w.alloc (.deferred (some []))).alloc (.loop (rec .ready none)) := ⟨_, rfl⟩
  have hVs : V.heap.size = w.heap.size + 2 := by rw [hV]; simp
  have hbk : BooksP w.heap.size (rec .ready none) V := by
    rw [hV]
    refine ⟨?_, (Below.heap_alloc _ _ _ (by simp)).trans (World.alloc_heap_new w _)⟩
    have h9 := World.alloc_heap_new (w.alloc (.deferred (some []))) (.loop (rec .ready none))
    rwa [World.size_alloc] at h9
  have hIV : I [] V := by rw [hV]; exact hI.alloc _ (hI.alloc _ h0)
  have hbV : Below w0.heap.size w0 V := by
    rw [hV]
    exact hb0.trans ((((Below.refl _ w).alloc (Nat.le_refl _) _).alloc (by simp) _).mono hb0.size)
  refine ⟨w.heap.size + 1, [{ target := .collected w.heap.size, args := #[] }], V, { target := .fn (.func gf) lb, args := #[.func (.yield (w.heap.size + 1)) #[] #[]] }, V, gf, #[.func (.yield (w.heap.size + 1)) #[] #[]] ++ lb, V, ?_, ?_, ?_, ?_, fun _ => h1, ?_⟩
  · rw [hV, hrec]; exact run_enterLoop_outer _ _ _ _ _
  · simp only [resolve, hg]
    simp [go_sem]
  · intro f' hf'
    simp [Target.leads] at hf'
    subst hf'
    exact hFg
  · simp [invoke, go_sem, eg]
  · refine (hseq (w.heap.size + 1) (fun pre W => I pre W ∧ BooksP w.heap.size (rec .ready none) W) V hbV ?_ ?_ ⟨hIV, hbk⟩).mono ?_
    · rintro s A B row ⟨hi, hk⟩ hgr hr
      refine ⟨hIx s A B row hi hgr (fun r e => ⟨by have := (hr r e).1; omega, (hr r e).2⟩), ?_⟩
      have hsm : ∀ k o, k < w.heap.size + 2 → A.heap[k]? = some o → B.heap[k]? = some o := fun k o hk2 ho => (hgr.block k (Array.getElem?_eq_some_iff.1 ho).1 (fun e => by have := (hr k e.symm).1; omega)).trans ho
      exact ⟨hsm _ _ (by omega) hk.1, hsm _ _ (by omega) hk.2⟩
    · rintro pre x V0 W ⟨hi, hk0⟩ hb0W hpre hlen
      have hk : BooksP w.heap.size (rec .ready none) W := ⟨(hb0W.block _ (Array.getElem?_eq_some_iff.1 hk0.1).1).trans hk0.1, (hb0W.block _ (Array.getElem?_eq_some_iff.1 hk0.2).1).trans hk0.2⟩
      have hy := run_yield (P := P) (args := encs x) hk.1 (by rw [hrec]; exact hps x)
      rw [hrec] at hy
      refine ⟨fn, _, assign, body, hy, roundIn_of_wpIn hfn (hassign _ pre x V0 W _ hi hb0W hpre ?_)⟩
      intro a' Wa hkf hkp hia hax
      have hka := hk.others hkf (Nat.le_refl _)
      refine ⟨_, run_beginRound hka.1 (by rw [hrec]; rfl), ?_⟩
      have hk2 : BooksP w.heap.size { rec .ready none with state := .busy } (Wa.putObj (w.heap.size + 1) (.loop { rec .ready none with state := .busy })) := hka.put
      have hkp2 : Kp (w.heap.size + 2) Wa (Wa.putObj (w.heap.size + 1) (.loop { rec .ready none with state := .busy })) := hKb _ _ _ hka.1 rfl
      refine wpIn_mono (hbody _ pre x a' _ (by omega) (hI.putObj _ hia (by omega) hka.1 rfl) ((hAx pre x a').putObj (s := ()) _ hax (by omega) hka.1 rfl) hlen) ?_
      rintro e a3 W3 hp
      cases e with
      | normal =>
        obtain ⟨hk3, hkp3, hi3⟩ := hp
        have hb3 := hk2.others hk3 (Nat.le_refl _)
        have hrun := run_endRound (P := P) none hb3.1
        refine ⟨_, _, hrun, rfl, ⟨hI.putObj _ hi3 (by omega) hb3.1 rfl, ?_⟩, by rw [hVs]; exact hKt hkp (hKt (hKt hkp2 hkp3) (hKb _ _ _ hb3.1 rfl))⟩
        have h9 := hb3.put (r' := rec .ready none)
        rw [hrec] at h9 ⊢
        exact h9
      | ret => exact hp.2.elim
      | exit id => exact hp.2.elim
      | goto t => exact hp.2.elim
      | panic ch => exact hp.elim
      | outgrown => exact hp.elim
    · rintro e W2 ⟨⟨v, rfl⟩, xs, hS, hi, hk⟩
      have hrun := run_endLoop (P := P) hk.1 (by rw [hrec]; simp [recP])
      refine ⟨none, _, by rw [hrun, hrec]; rfl, hdone _ xs _ (Nat.le_refl _) hS (hI.putObj _ hi (by omega) hk.1 rfl) ((World.putObj_heap_other (by omega)).trans hk.2)⟩

end Go.Proofs.Ytplahohaahfjmaa

