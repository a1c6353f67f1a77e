/-
  Of and Push, as soon as grown has its contract.
-/
import Derived.Test.YtplahohaahfjmaaVecS
namespace Go.Proofs.Ytplahohaahfjmaa
open Go.RowKit

/-- The contract of grown. -/
def GrC : Prop := ∀ (l : List VT) (u : Value) (w : World), Lies 17 w l u → l.length ≤ 65536 → Calls Try.prog 43 #[u] w (JoinPost 16 l w)

/-- What Of tells. -/
def ofR (l : List VT) : List VT ⊕ Nat := if 65536 < l.length then .inr 2 else if l.all (rightV 16) then .inl l else .inr 3

set_option maxRecDepth 100000 in
set_option maxHeartbeats 4000000 in
theorem of_core (hgr : GrC) (l : List VT) (u : Value) (w : World) (hu : Lies 17 w l u) : Calls Try.prog 9 #[u] w (VecPost 16 (ofR l) w) := by
  have HCk : Hid _ := checkAll_any 16 l u w hu
  obtain ⟨R, hR⟩ : ∃ R, R = ofR l := ⟨_, rfl⟩
  rw [← hR]
  unfold ofR at hR
  unfold listErr at HCk
  by_cases h1 : 65536 < l.length
  · rw [if_pos h1] at hR HCk
    have HR : Hid (R = .inr 2) := hR
    clear hR hu h1
    go_enter Try.func9, Try.ntmps9
    go_wp2_with fail
    refine Calls.mono HCk.out ?_
    rintro e w1 ⟨rfl, hb1⟩
    have HE : Hid (VecPost 16 R w (.returned (.tuple #[.pointer none, .int .i64 2])) w1) := by
      show VecPost _ _ _ _ _
      rw [HR.out]
      exact ⟨hb1, rfl⟩
    clear HCk
    go_wp2_with fail
    go_ret2
    exact HE.out
  · rw [if_neg h1] at hR HCk
    by_cases h2 : l.all (rightV 16) = true
    · rw [if_pos h2] at hR HCk
      have HR : Hid (R = .inl l) := hR
      have HCp : Hid (∀ V, Below w.heap.size w V → Calls Try.prog 44 #[u] V fun e w' => ∃ v, e = .returned v ∧ LiesB V.heap.size 17 w' l v ∧ Below V.heap.size V w') := fun V hV => copyAll_core 16 l u V (Lies.keeps hV _ _ _ hu) (by omega) (fun x v W hx hv _ => copyR x v W hv (List.all_eq_true.1 h2 x hx))
      have HGr : Hid (∀ V v, Lies 17 V l v → Calls Try.prog 43 #[v] V (JoinPost 16 l V)) := fun V v hv => hgr l v V hv (by omega)
      clear hR hu h1 h2
      go_enter Try.func9, Try.ntmps9
      go_wp2_with fail
      refine Calls.mono HCk.out ?_
      rintro e w1 ⟨rfl, hb1⟩
      clear HCk
      go_wp2_with fail
      refine (HCp.out _ hb1).mono ?_
      rintro e w2 ⟨v2, rfl, hLB, hb2⟩
      have hbw : Below w.heap.size w w2 := hb1.trans (hb2.mono hb1.size)
      have HG2 : Hid _ := HGr.out w2 v2 (LiesB.lies _ _ _ hLB)
      clear HCp HGr hLB
      go_wp2_with fail
      refine Calls.mono HG2.out ?_
      rintro e w3 ⟨v3, rfl, ht3, hb3⟩
      have hbx : Below w.heap.size w w3 := hbw.trans (hb3.mono hbw.size)
      have HE : Hid (VecPost 16 R w (.returned (.tuple #[.pointer (some ⟨w3.heap.size, 0, none⟩), .int .i64 0])) (w3.alloc (.cells #[v3] 81))) := by
        show VecPost _ _ _ _ _
        rw [HR.out]
        exact ⟨hbx.alloc hbx.size _, w3.heap.size, rfl, VC.made ht3 _⟩
      rcases ht3.shape with hz | ⟨T, q, hz⟩
      · subst hz
        clear ht3 HG2
        go_wp2_with fail
        go_ret2
        exact HE.out
      · subst hz
        clear ht3 HG2
        go_wp2_with fail
        go_ret2
        exact HE.out
    · rw [if_neg h2] at hR HCk
      have HR : Hid (R = .inr 3) := hR
      clear hR hu h1 h2
      go_enter Try.func9, Try.ntmps9
      go_wp2_with fail
      refine Calls.mono HCk.out ?_
      rintro e w1 ⟨rfl, hb1⟩
      have HE : Hid (VecPost 16 R w (.returned (.tuple #[.pointer none, .int .i64 3])) w1) := by
        show VecPost _ _ _ _ _
        rw [HR.out]
        exact ⟨hb1, rfl⟩
      clear HCk
      go_wp2_with fail
      go_ret2
      exact HE.out

/-- What Push tells. -/
def pushR (l : List VT) (x : VT) : List VT ⊕ Nat := if rightV 16 x = true then (if l.length + 1 ≤ 65536 then .inl (l ++ [x]) else .inr 2) else .inr 3

theorem VC.shape {d : Nat} {w : World} {l : List VT} {p : Value} (h : VC d w l p) : ∃ o, p = .pointer o := by
  rcases h with ⟨_, rfl⟩ | ⟨b, t, rfl, _⟩
  · exact ⟨_, rfl⟩
  · exact ⟨_, rfl⟩

theorem lies_one16 {w : World} {t : VT} {u : Value} {b : Nat} (c0 : w.cell? ⟨b, 0, none⟩ = some (.int .i64 t.kind)) (c1 : w.cell? ⟨b, 1, none⟩ = some (.int .i64 t.num)) (c2 : w.cell? ⟨b, 2, none⟩ = some (.string t.text)) (c3 : w.cell? ⟨b, 3, none⟩ = some u) (hl : Lies 16 w t.items u) (hs : t.text.size ≤ 9223372036854775807) : Lies 17 w [t] (.slice (some ⟨b, 0, none⟩) 1 1) := by
  refine ⟨_, 1, rfl, ⟨by simp, by simp⟩, fun _ => ⟨b, 0, rfl, fun i hi => ?_⟩⟩
  have : i = 0 := by simp at hi; omega
  subst this
  exact ⟨u, by simpa using c0, by simpa using c1, by simpa using c2, by simpa using c3, hl, hs⟩

set_option maxRecDepth 100000 in
set_option maxHeartbeats 4000000 in
theorem push_core (hgr : GrC) (l : List VT) (p : Value) (x : VT) (ax : Option Addr) (cx : Nat) (w : World) (h : VC 16 w l p) (hx : Lies 16 w x.items (.slice ax x.items.length cx)) (hts : x.text.size ≤ 9223372036854775807) (hlen : l.length ≤ 65536) :
    Calls Try.prog 20 #[p, .agg #[.int .i64 x.kind, .int .i64 x.num, .string x.text, .slice ax x.items.length cx]] w (VecPost 16 (pushR l x) w) := by
  obtain ⟨po, rfl⟩ := h.shape
  have hb0 : Below w.heap.size w (w.alloc (.cells #[.int .i64 x.kind, .int .i64 x.num, .string x.text, .slice ax x.items.length cx] 31)) := ((Grew.refl w).alloc _).below
  have hb1 : Below w.heap.size w ((w.alloc (.cells #[.int .i64 x.kind, .int .i64 x.num, .string x.text, .slice ax x.items.length cx] 31)).alloc (.cells #[.int .i64 x.kind, .int .i64 x.num, .string x.text, .slice ax x.items.length cx] 31)) := (((Grew.refl w).alloc _).alloc _).below
  have HOf : Hid (Calls Try.prog 9 #[.slice (some ⟨w.heap.size + 1, 0, none⟩) 1 1] ((w.alloc (.cells #[.int .i64 x.kind, .int .i64 x.num, .string x.text, .slice ax x.items.length cx] 31)).alloc (.cells #[.int .i64 x.kind, .int .i64 x.num, .string x.text, .slice ax x.items.length cx] 31)) (VecPost 16 (ofR [x]) ((w.alloc (.cells #[.int .i64 x.kind, .int .i64 x.num, .string x.text, .slice ax x.items.length cx] 31)).alloc (.cells #[.int .i64 x.kind, .int .i64 x.num, .string x.text, .slice ax x.items.length cx] 31)))) := by
    refine of_core hgr [x] _ _ (lies_one16 (u := .slice ax x.items.length cx) (by simp) (by simp) (by simp) (by simp) (Lies.keeps hb1 _ _ _ hx) hts)
  have Hb1 : Hid (Below w.heap.size w ((w.alloc (.cells #[.int .i64 x.kind, .int .i64 x.num, .string x.text, .slice ax x.items.length cx] 31)).alloc (.cells #[.int .i64 x.kind, .int .i64 x.num, .string x.text, .slice ax x.items.length cx] 31))) := hb1
  obtain ⟨x0, x1, x2, x3, z0, z1, z2, z3⟩ := bx_alloc w x (.slice ax x.items.length cx)
  obtain ⟨R, hR⟩ : ∃ R, R = pushR l x := ⟨_, rfl⟩
  rw [← hR]
  unfold pushR at hR
  have e1 : ofR [x] = if rightV 16 x = true then .inl [x] else .inr 3 := by
    unfold ofR; simp
  rw [e1] at HOf
  by_cases hr : rightV 16 x = true
  · rw [if_pos hr] at hR HOf
    have HJ : Hid (∀ (V : World) (b : Nat), Below w.heap.size w V → VC 16 V [x] (.pointer (some ⟨b, 0, none⟩)) → Calls Try.prog 53 #[.slice (some ⟨V.heap.size, 0, none⟩) 2 2] (V.alloc (.cells #[.pointer po, .pointer (some ⟨b, 0, none⟩)] 23)) (VecPost 16 R (V.alloc (.cells #[.pointer po, .pointer (some ⟨b, 0, none⟩)] 23)))) := fun V b hV hv => by
      have hba : Below V.heap.size V (V.alloc (.cells #[.pointer po, .pointer (some ⟨b, 0, none⟩)] 23)) := ((Grew.refl V).alloc _).below
      have h9 := join_any 16 [(l, .pointer po), ([x], .pointer (some ⟨b, 0, none⟩))] (.slice (some ⟨V.heap.size, 0, none⟩) 2 2) (V.alloc (.cells #[.pointer po, .pointer (some ⟨b, 0, none⟩)] 23)) ⟨_, 2, rfl, by simp, fun _ => ⟨V.heap.size, 0, rfl, fun i hi => by
        match i, hi with
        | 0, _ => simp
        | 1, _ => simp⟩⟩ (by simp) (by simp) (fun i hi => by
        match i, hi with
        | 0, _ => exact ⟨(h.keeps hV).keeps hba, hlen⟩
        | 1, _ => exact ⟨hv.keeps hba, by simp⟩)
      have e2 : joinR [(l, .pointer po), ([x], .pointer (some ⟨b, 0, none⟩))] = R := by
        rw [hR]; unfold joinR; simp
      rw [e2] at h9
      exact h9
    clear hR hx hts hr e1 h hb0 hb1 hlen
    go_enter Try.func20, Try.ntmps20
    go_wp2_with fail
    refine Calls.mono HOf.out ?_
    rintro e w1 ⟨hg1, b, rfl, hv⟩
    have hbw : Below w.heap.size w w1 := Hb1.out.trans (hg1.mono Hb1.out.size)
    have HJ1 : Hid _ := HJ.out w1 b hbw hv
    clear HOf HJ hv x0 x1 x2 x3 z0 z1 z2 z3
    go_wp2_with fail
    refine Calls.mono HJ1.out ?_
    intro e w2 hp
    have HP : Hid (VecPost 16 R w e w2) := ⟨hbw.trans (((((Grew.refl w1).alloc _).below).trans (hp.1.mono (by simp))).mono hbw.size), hp.2⟩
    obtain ⟨_, hp2⟩ := hp
    clear HJ1
    cases R with
    | inl m =>
      obtain ⟨b2, rfl, _⟩ := hp2
      go_wp2_with fail
      go_ret2
      exact HP.out
    | inr k =>
      subst hp2
      go_wp2_with fail
      go_ret2
      exact HP.out
  · rw [if_neg hr] at hR HOf
    have HR : Hid (R = .inr 3) := hR
    clear hR hx hts hr e1 h hb0 hb1 hlen
    go_enter Try.func20, Try.ntmps20
    go_wp2_with fail
    refine Calls.mono HOf.out ?_
    rintro e w1 ⟨hg1, rfl⟩
    have HE : Hid (VecPost 16 R w (.returned (.tuple #[.pointer none, .int .i64 3])) w1) := by
      show VecPost _ _ _ _ _
      rw [HR.out]
      exact ⟨Hb1.out.trans (hg1.mono Hb1.out.size), rfl⟩
    clear HOf x0 x1 x2 x3 z0 z1 z2 z3
    go_wp2_with fail
    go_ret2
    exact HE.out

end Go.Proofs.Ytplahohaahfjmaa
