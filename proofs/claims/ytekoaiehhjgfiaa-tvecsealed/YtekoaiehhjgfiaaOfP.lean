/-
  Of and Push, as soon as grown has its contract.
-/
import Derived.Test.YtekoaiehhjgfiaaJoinV
import Derived.Test.YtekoaiehhjgfiaaVList
import Derived.BigRegion
namespace Go.Proofs.Ytekoaiehhjgfiaa
open Go.RowKit

theorem right_len16 {t : VT} (hr : rightV 16 t = true) : Len 16 t := by
  have h := hr
  simp only [rightV, Bool.and_eq_true] at h
  exact sm_len 16 t (fw_small 16 t 16 1024 (by omega) (by omega) h.1)

theorem copyR (t : VT) (u : Value) (w : World) (hl : Lies 16 w t.items u) (hr : rightV 16 t = true) : Calls Try.prog 39 #[.agg #[.int .i64 t.kind, .int .i64 t.num, .string t.text, u]] w (CopyPost 16 t w) :=
  copyOf_any (fun s => s.size ≤ 281474976710656) txt_any 16 t u w hl (right_txt 16 t (right_rp hr)) (right_len16 hr)

end Go.Proofs.Ytekoaiehhjgfiaa

namespace Go.Proofs.Ytekoaiehhjgfiaa
open Go.RowKit

theorem TNX.tn {X : Nat → Prop} {d : Nat} {w : World} {l : List VT} {v : Value} (h : TNX X d w l v) : TN d w l v := by
  obtain ⟨h, hn, hp⟩ := h
  exact ⟨h, hn.nd _ _ _ _, hp⟩

theorem OTX.ot {X : Nat → Prop} {d : Nat} {w : World} {l : List VT} {v : Value} (h : OTX X d w l v) : OT d w l v := h.imp id TNX.tn

theorem OTX.stays {X : Nat → Prop} {d : Nat} {w w' : World} (hk : ∀ a v, X a.block → w.cell? a = some v → w'.cell? a = some v) {l : List VT} {v : Value} (h : OTX X d w l v) : OTX X d w' l v := by
  rcases h with h | ⟨h, hn, hp⟩
  · exact .inl h
  · exact .inr ⟨h, hn.stays (fun _ h => h) hk _ _ _ _, hp⟩

/-- As VC, in these blocks. -/
def VCX (X : Nat → Prop) (d : Nat) (w : World) (l : List VT) (p : Value) : Prop := (l = [] ∧ p = .pointer none) ∨ ∃ b t, p = .pointer (some ⟨b, 0, none⟩) ∧ X b ∧ w.cell? ⟨b, 0, none⟩ = some t ∧ OTX X d w l t

theorem VCX.vc {X : Nat → Prop} {d : Nat} {w : World} {l : List VT} {p : Value} (h : VCX X d w l p) : VC d w l p := by
  rcases h with h | ⟨b, t, hp, _, hc, ht⟩
  · exact .inl h
  · exact .inr ⟨b, t, hp, hc, ht.ot⟩

theorem VCX.stays {X : Nat → Prop} {d : Nat} {w w' : World} (hk : ∀ a v, X a.block → w.cell? a = some v → w'.cell? a = some v) {l : List VT} {p : Value} (h : VCX X d w l p) : VCX X d w' l p := by
  rcases h with h | ⟨b, t, hp, hx, hc, ht⟩
  · exact .inl h
  · exact .inr ⟨b, t, hp, hx, hk _ _ hx hc, ht.stays hk⟩

theorem VCX.keeps {X : Nat → Prop} {d : Nat} {w w' : World} {l : List VT} {p : Value} (h : VCX X d w l p) (hb : Below w.heap.size w w') : VCX X d w' l p := h.stays (fun _ _ _ hv => cell_keeps hb hv)

theorem VCX.made {X : Nat → Prop} {d : Nat} {w : World} {l : List VT} {t : Value} (hx : X w.heap.size) (ht : OTX X d w l t) (T : Nat) : VCX X d (w.alloc (.cells #[t] T)) l (.pointer (some ⟨w.heap.size, 0, none⟩)) :=
  .inr ⟨w.heap.size, t, rfl, hx, by simp, ht.stays (fun _ _ _ hv => cell_keeps ((Grew.refl w).alloc _).below hv)⟩

theorem VC.toX {d : Nat} {w : World} {l : List VT} {p : Value} (h : VC d w l p) {X : Nat → Prop} (hX : ∀ b, b < w.heap.size → X b) : VCX X d w l p := by
  rcases h with h | ⟨b, t, hp, hc, ht⟩
  · exact .inl h
  · refine .inr ⟨b, t, hp, hX b (cell_lt hc), hc, ?_⟩
    rcases ht with ht | ⟨h, hn, hpw⟩
    · exact .inl ht
    · exact .inr ⟨h, (ND.toX _ _ _ _ hn).mono hX _ _ _ _, hpw⟩

end Go.Proofs.Ytekoaiehhjgfiaa

namespace Go.Proofs.Ytekoaiehhjgfiaa
open Go.RowKit

/-- What Set tells. -/
def setR (l : List VT) (i : Int) (x : VT) : List VT ⊕ Nat := if rightV 16 x = true then (if 0 ≤ i ∧ i < (l.length : Int) then .inl (l.set i.toNat x) else .inr 5) else .inr 3

set_option maxRecDepth 100000 in
set_option maxHeartbeats 8000000 in
theorem vset_any (l : List VT) (p : Value) (i : Int) (x : VT) (ax : Option Addr) (cx : Nat) (w : World) (h : VC 16 w l p) (hx : Lies 16 w x.items (.slice ax x.items.length cx)) (hts : x.text.size ≤ 9223372036854775807) (hbig : l.length ≤ 1099511627776) :
    Calls Try.prog 31 #[p, .int .i64 i, .agg #[.int .i64 x.kind, .int .i64 x.num, .string x.text, .slice ax x.items.length cx]] w (VecPost 16 (setR l i x) w) := by
  have hb0 : Below w.heap.size w (w.alloc (.cells #[.int .i64 x.kind, .int .i64 x.num, .string x.text, .slice ax x.items.length cx] 33)) := ((Grew.refl w).alloc _).below
  have Hb0 : Hid (Below w.heap.size w (w.alloc (.cells #[.int .i64 x.kind, .int .i64 x.num, .string x.text, .slice ax x.items.length cx] 33))) := hb0
  have HCk : Hid _ := check_any 16 x (.slice ax x.items.length cx) _ (Lies.keeps hb0 _ _ _ hx) hts
  obtain ⟨x0, x1, x2, x3, z0, z1, z2, z3⟩ := bx_alloc w x (.slice ax x.items.length cx)
  obtain ⟨R, hR⟩ : ∃ R, R = setR l i x := ⟨_, rfl⟩
  rw [← hR]
  unfold setR at hR
  by_cases hr : rightV 16 x = true
  · rw [if_pos hr] at hR
    rw [hr] at HCk
    have HO : Hid (∀ V, Below w.heap.size w V → Calls Try.prog 44 #[p, .int .i64 i] V (BoolPost (decide (0 ≤ i ∧ i < (l.length : Int))) V)) := fun V hV => hasPlace_any 16 l p i V (h.keeps hV)
    by_cases hi : 0 ≤ i ∧ i < (l.length : Int)
    · rw [if_pos hi] at hR
      rw [decide_eq_true hi] at HO
      obtain ⟨n, rfl⟩ := Int.eq_ofNat_of_zero_le hi.1
      rw [Int.toNat_natCast] at hR
      have hl : l ≠ [] := fun e => by rw [e] at hi; simp at hi; omega
      rcases h with ⟨h0, _⟩ | ⟨b, t, rfl, hc, ht⟩
      · exact absurd h0 hl
      rcases ht with ⟨h0, _⟩ | ⟨hh, hnd, hpow⟩
      · exact absurd h0 hl
      have Hc : Hid (w.cell? ⟨b, 0, none⟩ = some t) := hc
      have HCp : Hid (∀ V, Below w.heap.size w V → Calls Try.prog 39 #[.agg #[.int .i64 x.kind, .int .i64 x.num, .string x.text, .slice ax x.items.length cx]] V (CopyPost 16 x V)) := fun V hV => copyR x _ V (Lies.keeps hV _ _ _ hx) hr
      have HW : Hid (∀ V av cv, Below w.heap.size w V → Lies 16 V x.items (.slice av x.items.length cv) → Calls Try.prog 47 #[t, .int .i64 (n : Int), .agg #[.int .i64 x.kind, .int .i64 x.num, .string x.text, .slice av x.items.length cv]] V (NodePost 16 hh false (l.set n x) V)) := fun V av cv hV hv => with_any 16 hh false l t n x av cv V (hnd.keeps hV _ _ _ _) (by omega) hbig hv hts
      have Hpow : Hid (hh = 0 ∨ 16 ^ hh ≤ (l.set n x).length) := by show _ ∨ _; rw [List.length_set]; exact hpow
      have HR : Hid (R = .inl (l.set n x)) := hR
      have hbl : b < w.heap.size := cell_lt hc
      have hnb : ¬ (b = w.heap.size) := by omega
      clear hx hts hbig hr hi hl hnd hpow hc hR hb0
      go_enter Try.func31, Try.ntmps31
      go_wp2_with fail
      refine Calls.mono HCk.out ?_
      rintro e w1 ⟨rfl, hg1⟩
      have hb1 : Below w.heap.size w w1 := Hb0.out.trans (hg1.mono Hb0.out.size)
      have y0 := cell_keeps hg1 x0
      have y1 := cell_keeps hg1 x1
      have y2 := cell_keeps hg1 x2
      have y3 := cell_keeps hg1 x3
      clear HCk x0 x1 x2 x3 z0 z1 z2 z3
      simp only [errOf]
      go_wp2_with fail
      refine (HO.out _ hb1).mono ?_
      rintro e w2 ⟨rfl, hg2⟩
      have hb2 : Below w.heap.size w w2 := hb1.trans (hg2.mono hb1.size)
      have x0 := cell_keeps hg2 y0
      have x1 := cell_keeps hg2 y1
      have x2 := cell_keeps hg2 y2
      have x3 := cell_keeps hg2 y3
      have hc := cell_keeps hb2 Hc.out
      clear HO y0 y1 y2 y3 hg1 hg2
      go_wp2_with fail
      go_region_held3 (fun w' => (w'.cell? ⟨b, 0, none⟩ = some t) ∧ (w'.cell? ⟨w.heap.size, 0, none⟩ = some (.int .i64 x.kind) ∧ w'.cell? ⟨w.heap.size, 1, none⟩ = some (.int .i64 x.num) ∧ w'.cell? ⟨w.heap.size, 2, none⟩ = some (.string x.text) ∧ w'.cell? ⟨w.heap.size, 3, none⟩ = some (.slice ax x.items.length cx))) (go_keep)
        (first
          | (go_at_call 47; refine Calls.mono HWc.out ?_; rintro e w4 ⟨T, q, rfl, hnd4, hg4⟩; have hb4 : Below w.heap.size w w4 := hb3.trans (hg4.mono hb3.size); have HN4 : Hid (ND 16 hh false w4 (l.set n x) (.iface T q)) := hnd4; clear hnd4; have hc := cell_keeps hg4 hc; have x0 := cell_keeps hg4 x0; have x1 := cell_keeps hg4 x1; have x2 := cell_keeps hg4 x2; have x3 := cell_keeps hg4 x3)
          | (go_at_call 39; refine (HCp.out _ hb2.drew).mono ?_; rintro e w3 ⟨v3, rfl, hLB, hg3⟩; have hbA : Below w2.heap.size w2 w3 := (Below.refl _ _).drew.trans hg3; have hb3 : Below w.heap.size w w3 := hb2.trans (hbA.mono hb2.size); have HL3 : Hid (Lies 16 w3 x.items v3) := LiesB.lies _ _ _ hLB; clear hLB hg3; obtain ⟨av, cv, rfl, _⟩ := Lies.slice HL3.out; have HWc : Hid _ := HW.out w3 av cv hb3 HL3.out; have hc := cell_keeps hbA hc; have x0 := cell_keeps hbA x0; have x1 := cell_keeps hbA x1; have x2 := cell_keeps hbA x2; have x3 := cell_keeps hbA x3))
      have HE : Hid (VecPost 16 R w (.returned (.tuple #[.pointer (some ⟨w4.heap.size, 0, none⟩), .int .i64 0])) (w4.alloc (.cells #[.iface T q] 53))) := by
        show VecPost _ _ _ _ _
        rw [HR.out]
        exact ⟨hb4.alloc hb4.size _, w4.heap.size, rfl, VC.made (.inr ⟨hh, HN4.out, Hpow.out⟩) _⟩
      clear x0 x1 x2 x3 hc HN4 HWc HW HCp
      go_wp2_with fail
      go_ret2
      exact HE.out
    · rw [if_neg hi] at hR
      rw [decide_eq_false hi] at HO
      have HR : Hid (R = .inr 5) := hR
      clear h hx hts hbig hr hi hR hb0
      go_enter Try.func31, Try.ntmps31
      go_wp2_with fail
      refine Calls.mono HCk.out ?_
      rintro e w1 ⟨rfl, hg1⟩
      have hb1 : Below w.heap.size w w1 := Hb0.out.trans (hg1.mono Hb0.out.size)
      clear HCk x0 x1 x2 x3 z0 z1 z2 z3
      simp only [errOf]
      go_wp2_with fail
      refine (HO.out _ hb1).mono ?_
      rintro e w2 ⟨rfl, hg2⟩
      have HE : Hid (VecPost 16 R w (.returned (.tuple #[.pointer none, .int .i64 5])) w2) := by
        show VecPost _ _ _ _ _
        rw [HR.out]
        exact ⟨hb1.trans (hg2.mono hb1.size), rfl⟩
      clear HO
      go_wp2_with fail
      go_ret2
      exact HE.out
  · rw [if_neg hr] at hR
    have hr' : rightV 16 x = false := by simpa using hr
    rw [hr'] at HCk
    have HR : Hid (R = .inr 3) := hR
    clear h hx hts hbig hr hr' hR hb0
    go_enter Try.func31, Try.ntmps31
    go_wp2_with fail
    refine Calls.mono HCk.out ?_
    rintro e w1 ⟨rfl, hg1⟩
    have HE : Hid (VecPost 16 R w (.returned (.tuple #[.pointer none, .int .i64 3])) w1) := by
      show VecPost _ _ _ _ _
      rw [HR.out]
      exact ⟨Hb0.out.trans (hg1.mono Hb0.out.size), rfl⟩
    clear HCk x0 x1 x2 x3 z0 z1 z2 z3
    simp only [errOf]
    go_wp2_with fail
    go_ret2
    exact HE.out

end Go.Proofs.Ytekoaiehhjgfiaa

namespace Go.Proofs.Ytekoaiehhjgfiaa
open Go.RowKit

/-- The contract of grown. -/
def GrC : Prop := ∀ (l : List VT) (u : Value) (w : World), Lies 17 w l u → l.length ≤ 65536 → Calls Try.prog 18 #[u] w (JoinPost 16 l w)

/-- What Of tells. -/
def ofR (l : List VT) : List VT ⊕ Nat := if 65536 < l.length then .inr 2 else if l.all (rightV 16) then .inl l else .inr 3

set_option maxRecDepth 100000 in
set_option maxHeartbeats 4000000 in
theorem of_core (hgr : GrC) (l : List VT) (u : Value) (w : World) (hu : Lies 17 w l u) : Calls Try.prog 5 #[u] w (VecPost 16 (ofR l) w) := by
  have HCk : Hid _ := checkAll_any 16 l u w hu
  obtain ⟨R, hR⟩ : ∃ R, R = ofR l := ⟨_, rfl⟩
  rw [← hR]
  unfold ofR at hR
  unfold listErr at HCk
  by_cases h1 : 65536 < l.length
  · rw [if_pos h1] at hR HCk
    have HR : Hid (R = .inr 2) := hR
    clear hR hu h1
    go_enter Try.func5, Try.ntmps5
    go_wp2_with fail
    refine Calls.mono HCk.out ?_
    rintro e w1 ⟨rfl, hb1⟩
    have HE : Hid (VecPost 16 R w (.returned (.tuple #[.pointer none, .int .i64 2])) w1) := by
      show VecPost _ _ _ _ _
      rw [HR.out]
      exact ⟨hb1, rfl⟩
    clear HCk
    go_wp2_with fail
    go_ret2
    exact HE.out
  · rw [if_neg h1] at hR HCk
    by_cases h2 : l.all (rightV 16) = true
    · rw [if_pos h2] at hR HCk
      have HR : Hid (R = .inl l) := hR
      have HCp : Hid (∀ V, Below w.heap.size w V → Calls Try.prog 19 #[u] V fun e w' => ∃ v, e = .returned v ∧ LiesB V.heap.size 17 w' l v ∧ Below V.heap.size V w') := fun V hV => copyAll_core 16 l u V (Lies.keeps hV _ _ _ hu) (by omega) (fun x v W hx hv _ => copyR x v W hv (List.all_eq_true.1 h2 x hx))
      have HGr : Hid (∀ V v, Lies 17 V l v → Calls Try.prog 18 #[v] V (JoinPost 16 l V)) := fun V v hv => hgr l v V hv (by omega)
      clear hR hu h1 h2
      go_enter Try.func5, Try.ntmps5
      go_wp2_with fail
      refine Calls.mono HCk.out ?_
      rintro e w1 ⟨rfl, hb1⟩
      clear HCk
      go_wp2_with fail
      refine (HCp.out _ hb1).mono ?_
      rintro e w2 ⟨v2, rfl, hLB, hb2⟩
      have hbw : Below w.heap.size w w2 := hb1.trans (hb2.mono hb1.size)
      have HG2 : Hid _ := HGr.out w2 v2 (LiesB.lies _ _ _ hLB)
      clear HCp HGr hLB
      go_wp2_with fail
      refine Calls.mono HG2.out ?_
      rintro e w3 ⟨v3, rfl, ht3, hb3⟩
      have hbx : Below w.heap.size w w3 := hbw.trans (hb3.mono hbw.size)
      have HE : Hid (VecPost 16 R w (.returned (.tuple #[.pointer (some ⟨w3.heap.size, 0, none⟩), .int .i64 0])) (w3.alloc (.cells #[v3] 53))) := by
        show VecPost _ _ _ _ _
        rw [HR.out]
        exact ⟨hbx.alloc hbx.size _, w3.heap.size, rfl, VC.made ht3 _⟩
      rcases ht3.shape with hz | ⟨T, q, hz⟩
      · subst hz
        clear ht3 HG2
        go_wp2_with fail
        go_ret2
        exact HE.out
      · subst hz
        clear ht3 HG2
        go_wp2_with fail
        go_ret2
        exact HE.out
    · rw [if_neg h2] at hR HCk
      have HR : Hid (R = .inr 3) := hR
      clear hR hu h1 h2
      go_enter Try.func5, Try.ntmps5
      go_wp2_with fail
      refine Calls.mono HCk.out ?_
      rintro e w1 ⟨rfl, hb1⟩
      have HE : Hid (VecPost 16 R w (.returned (.tuple #[.pointer none, .int .i64 3])) w1) := by
        show VecPost _ _ _ _ _
        rw [HR.out]
        exact ⟨hb1, rfl⟩
      clear HCk
      go_wp2_with fail
      go_ret2
      exact HE.out

/-- What Push tells. -/
def pushR (l : List VT) (x : VT) : List VT ⊕ Nat := if rightV 16 x = true then (if l.length + 1 ≤ 65536 then .inl (l ++ [x]) else .inr 2) else .inr 3

theorem VC.shape {d : Nat} {w : World} {l : List VT} {p : Value} (h : VC d w l p) : ∃ o, p = .pointer o := by
  rcases h with ⟨_, rfl⟩ | ⟨b, t, rfl, _⟩
  · exact ⟨_, rfl⟩
  · exact ⟨_, rfl⟩

theorem lies_one16 {w : World} {t : VT} {u : Value} {b : Nat} (c0 : w.cell? ⟨b, 0, none⟩ = some (.int .i64 t.kind)) (c1 : w.cell? ⟨b, 1, none⟩ = some (.int .i64 t.num)) (c2 : w.cell? ⟨b, 2, none⟩ = some (.string t.text)) (c3 : w.cell? ⟨b, 3, none⟩ = some u) (hl : Lies 16 w t.items u) (hs : t.text.size ≤ 9223372036854775807) : Lies 17 w [t] (.slice (some ⟨b, 0, none⟩) 1 1) := by
  refine ⟨_, 1, rfl, ⟨by simp, by simp⟩, fun _ => ⟨b, 0, rfl, fun i hi => ?_⟩⟩
  have : i = 0 := by simp at hi; omega
  subst this
  exact ⟨u, by simpa using c0, by simpa using c1, by simpa using c2, by simpa using c3, hl, hs⟩

set_option maxRecDepth 100000 in
set_option maxHeartbeats 4000000 in
theorem push_core (hgr : GrC) (l : List VT) (p : Value) (x : VT) (ax : Option Addr) (cx : Nat) (w : World) (h : VC 16 w l p) (hx : Lies 16 w x.items (.slice ax x.items.length cx)) (hts : x.text.size ≤ 9223372036854775807) (hlen : l.length ≤ 65536) :
    Calls Try.prog 27 #[p, .agg #[.int .i64 x.kind, .int .i64 x.num, .string x.text, .slice ax x.items.length cx]] w (VecPost 16 (pushR l x) w) := by
  obtain ⟨po, rfl⟩ := h.shape
  have hb0 : Below w.heap.size w (w.alloc (.cells #[.int .i64 x.kind, .int .i64 x.num, .string x.text, .slice ax x.items.length cx] 33)) := ((Grew.refl w).alloc _).below
  have hb1 : Below w.heap.size w ((w.alloc (.cells #[.int .i64 x.kind, .int .i64 x.num, .string x.text, .slice ax x.items.length cx] 33)).alloc (.cells #[.int .i64 x.kind, .int .i64 x.num, .string x.text, .slice ax x.items.length cx] 33)) := (((Grew.refl w).alloc _).alloc _).below
  have HOf : Hid (Calls Try.prog 5 #[.slice (some ⟨w.heap.size + 1, 0, none⟩) 1 1] ((w.alloc (.cells #[.int .i64 x.kind, .int .i64 x.num, .string x.text, .slice ax x.items.length cx] 33)).alloc (.cells #[.int .i64 x.kind, .int .i64 x.num, .string x.text, .slice ax x.items.length cx] 33)) (VecPost 16 (ofR [x]) ((w.alloc (.cells #[.int .i64 x.kind, .int .i64 x.num, .string x.text, .slice ax x.items.length cx] 33)).alloc (.cells #[.int .i64 x.kind, .int .i64 x.num, .string x.text, .slice ax x.items.length cx] 33)))) := by
    refine of_core hgr [x] _ _ (lies_one16 (u := .slice ax x.items.length cx) (by simp) (by simp) (by simp) (by simp) (Lies.keeps hb1 _ _ _ hx) hts)
  have Hb1 : Hid (Below w.heap.size w ((w.alloc (.cells #[.int .i64 x.kind, .int .i64 x.num, .string x.text, .slice ax x.items.length cx] 33)).alloc (.cells #[.int .i64 x.kind, .int .i64 x.num, .string x.text, .slice ax x.items.length cx] 33))) := hb1
  obtain ⟨x0, x1, x2, x3, z0, z1, z2, z3⟩ := bx_alloc w x (.slice ax x.items.length cx)
  obtain ⟨R, hR⟩ : ∃ R, R = pushR l x := ⟨_, rfl⟩
  rw [← hR]
  unfold pushR at hR
  have e1 : ofR [x] = if rightV 16 x = true then .inl [x] else .inr 3 := by
    unfold ofR; simp
  rw [e1] at HOf
  by_cases hr : rightV 16 x = true
  · rw [if_pos hr] at hR HOf
    have HJ : Hid (∀ (V : World) (b : Nat), Below w.heap.size w V → VC 16 V [x] (.pointer (some ⟨b, 0, none⟩)) → Calls Try.prog 41 #[.slice (some ⟨V.heap.size, 0, none⟩) 2 2] (V.alloc (.cells #[.pointer po, .pointer (some ⟨b, 0, none⟩)] 24)) (VecPost 16 R (V.alloc (.cells #[.pointer po, .pointer (some ⟨b, 0, none⟩)] 24)))) := fun V b hV hv => by
      have hba : Below V.heap.size V (V.alloc (.cells #[.pointer po, .pointer (some ⟨b, 0, none⟩)] 24)) := ((Grew.refl V).alloc _).below
      have h9 := join_any 16 [(l, .pointer po), ([x], .pointer (some ⟨b, 0, none⟩))] (.slice (some ⟨V.heap.size, 0, none⟩) 2 2) (V.alloc (.cells #[.pointer po, .pointer (some ⟨b, 0, none⟩)] 24)) ⟨_, 2, rfl, by simp, fun _ => ⟨V.heap.size, 0, rfl, fun i hi => by
        match i, hi with
        | 0, _ => simp
        | 1, _ => simp⟩⟩ (by simp) (by simp) (fun i hi => by
        match i, hi with
        | 0, _ => exact ⟨(h.keeps hV).keeps hba, hlen⟩
        | 1, _ => exact ⟨hv.keeps hba, by simp⟩)
      have e2 : joinR [(l, .pointer po), ([x], .pointer (some ⟨b, 0, none⟩))] = R := by
        rw [hR]; unfold joinR; simp
      rw [e2] at h9
      exact h9
    clear hR hx hts hr e1 h hb0 hb1 hlen
    go_enter Try.func27, Try.ntmps27
    go_wp2_with fail
    refine Calls.mono HOf.out ?_
    rintro e w1 ⟨hg1, b, rfl, hv⟩
    have hbw : Below w.heap.size w w1 := Hb1.out.trans (hg1.mono Hb1.out.size)
    have HJ1 : Hid _ := HJ.out w1 b hbw hv
    clear HOf HJ hv x0 x1 x2 x3 z0 z1 z2 z3
    go_wp2_with fail
    refine Calls.mono HJ1.out ?_
    intro e w2 hp
    have HP : Hid (VecPost 16 R w e w2) := ⟨hbw.trans (((((Grew.refl w1).alloc _).below).trans (hp.1.mono (by simp))).mono hbw.size), hp.2⟩
    obtain ⟨_, hp2⟩ := hp
    clear HJ1
    cases R with
    | inl m =>
      obtain ⟨b2, rfl, _⟩ := hp2
      go_wp2_with fail
      go_ret2
      exact HP.out
    | inr k =>
      subst hp2
      go_wp2_with fail
      go_ret2
      exact HP.out
  · rw [if_neg hr] at hR HOf
    have HR : Hid (R = .inr 3) := hR
    clear hR hx hts hr e1 h hb0 hb1 hlen
    go_enter Try.func27, Try.ntmps27
    go_wp2_with fail
    refine Calls.mono HOf.out ?_
    rintro e w1 ⟨hg1, rfl⟩
    have HE : Hid (VecPost 16 R w (.returned (.tuple #[.pointer none, .int .i64 3])) w1) := by
      show VecPost _ _ _ _ _
      rw [HR.out]
      exact ⟨Hb1.out.trans (hg1.mono Hb1.out.size), rfl⟩
    clear HOf x0 x1 x2 x3 z0 z1 z2 z3
    go_wp2_with fail
    go_ret2
    exact HE.out

end Go.Proofs.Ytekoaiehhjgfiaa

