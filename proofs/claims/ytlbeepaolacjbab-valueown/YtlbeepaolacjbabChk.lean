/-
  The contract of Check: which values are right.
-/
import Derived.Test.YtlbeepaolacjbabUtf
import Derived.Test.YtlbeepaolacjbabRis
namespace Go.Proofs.Ytlbeepaolacjbab
open Go.RowKit

def okNum (t : VT) : Bool := if t.kind == 2 then true else if t.kind == 1 then (t.num == 0 || t.num == 1) else t.num == 0
def okText (t : VT) : Bool := if t.kind == 3 then (decide (t.text.size ≤ 256) && utfB t.text) else t.text.toList.isEmpty

set_option maxHeartbeats 400000 in
theorem rightNum_any (t : VT) (a : Option Addr) (l c : Nat) (w : World) : Calls Try.prog 40 #[.agg #[.int .i64 t.kind, .int .i64 t.num, .string t.text, .slice a l c]] w fun e w' => e = .returned (.bool (okNum t)) ∧ Grew w w' := by
  cases h2 : (t.kind == 2)
  · cases h1 : (t.kind == 1)
    · go_enter Try.func40, Try.ntmps40
      go_wp2_with fail
      go_ret
      exact ⟨by simp [okNum, h1, h2], (Grew.refl _).alloc _⟩
    · cases h0 : (t.num == 0)
      · go_enter Try.func40, Try.ntmps40
        go_wp2_with fail
        go_ret
        exact ⟨by simp [okNum, h1, h2, h0], (Grew.refl _).alloc _⟩
      · go_enter Try.func40, Try.ntmps40
        go_wp2_with fail
        go_ret
        exact ⟨by simp [okNum, h1, h2, h0], (Grew.refl _).alloc _⟩
  · go_enter Try.func40, Try.ntmps40
    go_wp2_with fail
    go_ret
    exact ⟨by simp [okNum, h2], (Grew.refl _).alloc _⟩

set_option maxHeartbeats 400000 in
theorem rightText_any (t : VT) (a : Option Addr) (l c : Nat) (w : World) (hs : t.text.size ≤ 9223372036854775807) : Calls Try.prog 41 #[.agg #[.int .i64 t.kind, .int .i64 t.num, .string t.text, .slice a l c]] w fun e w' => e = .returned (.bool (okText t)) ∧ Grew w w' := by
  cases h3 : (t.kind == 3)
  · have h3' : (t.kind != 3) = true := by simp [bne, h3]
    go_enter Try.func41, Try.ntmps41
    go_wp2_with fail
    go_ret
    exact ⟨by simp [okText, h3], (Grew.refl _).alloc _⟩
  · have h3' : (t.kind != 3) = false := by simp [bne, h3]
    by_cases hl : t.text.size ≤ 256
    · have hl' : (t.text.size : Int) ≤ 256 := by omega
      go_enter Try.func41, Try.ntmps41
      go_wp2_with fail
      refine (isUTF8_any _ _ hs).mono ?_
      rintro e w1 ⟨rfl, hb⟩
      go_wp2_with fail
      go_ret
      exact ⟨by simp [okText, h3, hl], ((Grew.refl _).alloc _).trans hb⟩
    · have hl' : ¬ (t.text.size : Int) ≤ 256 := by omega
      go_enter Try.func41, Try.ntmps41
      go_wp2_with fail
      go_ret
      exact ⟨by simp [okText, h3]; omega, (Grew.refl _).alloc _⟩

/-- Are a value's items as its kind asks? -/
def okItems (d : Nat) (t : VT) : Bool :=
  if t.kind == 4 then true else if t.kind == 5 then risF (cmpV d) 1 t.items t.items.length 0
  else if t.kind == 6 then ((t.items.length : Int) % 2 == 0 && risF (cmpV d) 2 t.items t.items.length 0) else (t.items.length : Int) == 0

set_option maxHeartbeats 1000000 in
theorem rightItems_any (d : Nat) (t : VT) (u : Value) (w : World) (hu : Lies (d + 1) w t.items u) (hlen : t.items.length ≤ 1024) :
    Calls Try.prog 42 #[.agg #[.int .i64 t.kind, .int .i64 t.num, .string t.text, u]] w fun e w' => e = .returned (.bool (okItems d t)) ∧ Grew w w' := by
  obtain ⟨a, c, rfl, _⟩ := Lies.slice hu
  have HL : Hid _ := fun o => Lies.keeps ((Grew.refl w).alloc o).below _ _ _ hu
  clear hu
  cases h4 : (t.kind == 4)
  · cases h5 : (t.kind == 5)
    · cases h6 : (t.kind == 6)
      · go_enter Try.func42, Try.ntmps42
        go_wp2_with fail
        go_ret
        exact ⟨by simp [okItems, h4, h5, h6], (Grew.refl _).alloc _⟩
      · cases hm : ((t.items.length : Int) % 2 == 0)
        · go_enter Try.func42, Try.ntmps42
          go_wp2_with fail
          go_ret
          exact ⟨by simp [okItems, h4, h5, h6, hm], (Grew.refl _).alloc _⟩
        · go_enter Try.func42, Try.ntmps42
          go_wp2_with fail
          refine (rising2 d t.items _ _ (HL.out _) hlen).mono ?_
          rintro e w1 ⟨rfl, hb⟩
          go_wp2_with fail
          go_ret
          exact ⟨by simp [okItems, h4, h5, h6, hm], ((Grew.refl _).alloc _).trans hb⟩
    · go_enter Try.func42, Try.ntmps42
      go_wp2_with fail
      refine (rising1 d t.items _ _ (HL.out _) hlen).mono ?_
      rintro e w1 ⟨rfl, hb⟩
      go_wp2_with fail
      go_ret
      exact ⟨by simp [okItems, h4, h5], ((Grew.refl _).alloc _).trans hb⟩
  · go_enter Try.func42, Try.ntmps42
    go_wp2_with fail
    go_ret
    exact ⟨by simp [okItems, h4], (Grew.refl _).alloc _⟩

def ownV (d : Nat) (t : VT) : Bool := decide (0 ≤ t.kind) && (decide (t.kind ≤ 6) && (okNum t && (okText t && okItems d t)))

def rpV : Nat → VT → Bool
  | 0, t => ownV 0 t
  | d + 1, t => t.items.all (rpV d) && ownV d t

def Sm : Nat → VT → Prop
  | 0, _ => True
  | d + 1, t => t.items.length ≤ 1024 ∧ ∀ x ∈ t.items, Sm d x

set_option maxHeartbeats 1000000 in
theorem rightParts_core (d : Nat) (f : VT → Bool) (t : VT) (u : Value) (w : World) (hu : Lies (d + 1) w t.items u) (hlen : t.items.length ≤ 1024) (hs : t.text.size ≤ 9223372036854775807)
    (hf : Hid (∀ (x : VT) (v : Value) (W : World), x ∈ t.items → Lies d W x.items v → x.text.size ≤ 9223372036854775807 →
      Calls Try.prog 31 #[.agg #[.int .i64 x.kind, .int .i64 x.num, .string x.text, v]] W fun e W' => e = .returned (.bool (f x)) ∧ Grew W W')) :
    Calls Try.prog 31 #[.agg #[.int .i64 t.kind, .int .i64 t.num, .string t.text, u]] w fun e w' => e = .returned (.bool (t.items.all f && ownV d t)) ∧ Grew w w' := by
  have HL : Hid _ := hu
  obtain ⟨a, c, rfl, hb1, hr1⟩ := hu
  have Hr : Hid _ := hr1
  clear hr1
  go_enter Try.func31, Try.ntmps31
  go_wp2_with fail
  go_loopg [8] t.items.length (fun g i wr => ∃ j : Nat, i = .int .i64 (j : Int) ∧ j ≤ t.items.length ∧ g = t.items.length - j ∧ Hid (t.items.all f = (t.items.drop j).all f) ∧ Grew w wr ∧ Boxed wr w.heap.size t.kind t.num t.text (.slice a t.items.length c))
  case atStart => exact ⟨0, rfl, by omega, by omega, rfl, (Grew.refl _).alloc _, boxed_alloc w t.kind t.num t.text _ 25⟩
  case round =>
    obtain ⟨j, rfl, hj, hk, Hc, hbw, hbx⟩ := hrel
    have Hk : Hid _ := hk
    clear hk
    by_cases hlt : j < t.items.length
    · obtain ⟨b1, o1, rfl, hall1⟩ := Hr.out (by intro e; simp [e] at hlt)
      obtain ⟨x, p0, p1, p2, p3, p4, p5⟩ := hall1 j hlt
      clear hall1
      obtain ⟨ax, cx, rfl, _⟩ := Lies.slice p4
      have p0 := cell_keeps hbw.below p0; have p1 := cell_keeps hbw.below p1; have p2 := cell_keeps hbw.below p2; have p3 := cell_keeps hbw.below p3
      have p4 : Hid (Lies d w t.items[j].items (.slice ax t.items[j].items.length cx)) := p4
      have hl1 : b1 < wr.heap.size := cell_lt p0
      have Hd : Hid (t.items.drop j = t.items[j] :: t.items.drop (j + 1)) := List.drop_eq_getElem_cons hlt
      have HB : Hid _ := hbx
      clear hbx
      go_wp2_with fail
      have hfc := hf.out t.items[j] (.slice ax t.items[j].items.length cx)
      refine (hfc _ (List.getElem_mem hlt) (Lies.keeps (hbw.alloc _).below _ _ _ p4.out) p5).mono ?_
      rintro e w1 ⟨rfl, hg⟩
      have hb2 : Grew w w1 := (hbw.alloc _).trans hg
      have HB1 : Hid _ := (HB.out.keeps ((Grew.refl _).alloc _).below).keeps hg.below
      clear hg hfc p0 p1 p2 p3 p4 HB hf
      cases hfx : f t.items[j]
      · go_wp2_with fail
        go_ret
        exact ⟨by rw [Hc.out, Hd.out, List.all_cons, hfx]; rfl, hb2⟩
      · go_wp2_with fail
        go_roundg (t.items.length - (j + 1))
        case measure => have := Hk.out; omega
        case rel =>
          refine ⟨j + 1, by go_num, by omega, rfl, ?_, hb2, HB1.out⟩
          show _ = _
          rw [Hc.out, Hd.out, List.all_cons, hfx]; rfl
    · have Hd : Hid (t.items.all f = true) := by
        show _ = _
        rw [Hc.out, List.drop_eq_nil_of_le (by omega)]; rfl
      clear Hc Hr hf
      obtain ⟨c0, c1, c2, c3⟩ := hbx
      have HB : Hid _ := Boxed.mk c0 c1 c2 c3
      by_cases k0 : 0 ≤ t.kind
      · by_cases k6 : t.kind ≤ 6
        · go_wp2_with fail
          refine (rightNum_any t _ _ _ _).mono ?_
          rintro e w1 ⟨rfl, hg⟩
          have hb2 := hbw.trans hg
          obtain ⟨c0, c1, c2, c3⟩ := HB.out.keeps hg.below
          have HB1 : Hid _ := Boxed.mk c0 c1 c2 c3
          clear HB hg
          cases hn : okNum t
          · go_wp2_with fail
            go_ret
            exact ⟨by rw [Hd.out]; simp [ownV, hn], hb2⟩
          · go_wp2_with fail
            refine (rightText_any t _ _ _ _ hs).mono ?_
            rintro e w2 ⟨rfl, hg⟩
            have hb3 := hb2.trans hg
            obtain ⟨c0, c1, c2, c3⟩ := HB1.out.keeps hg.below
            clear HB1 hg
            cases ht : okText t
            · go_wp2_with fail
              go_ret
              exact ⟨by rw [Hd.out]; simp [ownV, hn, ht], hb3⟩
            · go_wp2_with fail
              refine (rightItems_any d t _ _ (Lies.keeps hb3.below _ _ _ HL.out) hlen).mono ?_
              rintro e w3 ⟨rfl, hg⟩
              go_wp2_with fail
              go_ret
              exact ⟨by rw [Hd.out]; simp [ownV, hn, ht, k0, k6], hb3.trans hg⟩
        · go_wp2_with fail
          go_ret
          exact ⟨by rw [Hd.out]; simp [ownV]; omega, hbw⟩
      · go_wp2_with fail
        go_ret
        exact ⟨by rw [Hd.out]; simp [ownV]; omega, hbw⟩

theorem rightParts_any : ∀ (d : Nat) (t : VT) (u : Value) (w : World), Lies d w t.items u → Sm d t → t.text.size ≤ 9223372036854775807 →
    Calls Try.prog 31 #[.agg #[.int .i64 t.kind, .int .i64 t.num, .string t.text, u]] w fun e w' => e = .returned (.bool (rpV d t)) ∧ Grew w w' := by
  intro d
  induction d with
  | zero =>
    intro t u w hu _ hs
    have e1 : t.items = [] := hu.1
    have h := rightParts_core 0 (fun _ => true) t u w (Lies.deeper _ _ _ hu) (by rw [e1]; simp) hs (fun x _ _ hx => by rw [e1] at hx; cases hx)
    rw [e1] at h
    simpa [rpV] using h
  | succ d ih =>
    intro t u w hu hsm hs
    exact rightParts_core d (rpV d) t u w hu hsm.1 hs (fun x v W hx hl htx => ih x v W hl (hsm.2 x hx) htx)

end Go.Proofs.Ytlbeepaolacjbab
