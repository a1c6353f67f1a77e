/-
  The contracts of countParts and Parts.
-/
import Derived.Test.YtgmmocbgeilpiaaGreatRunesP
import Derived.Test.YtgmmocbgeilpiaaGreatRis
namespace Go.Proofs.YtgmmocbgeilpiaaGreat
open Go.RowKit

def okNum (t : VT) : Bool := if t.kind == 2 then true else if t.kind == 1 then (t.num == 0 || t.num == 1) else t.num == 0
def okText (t : VT) : Bool := if t.kind == 3 then (decide (t.text.size ≤ 256) && utfB t.text) else t.text.toList.isEmpty

set_option maxHeartbeats 400000 in
theorem rightNum_any (t : VT) (a : Option Addr) (l c : Nat) (w : World) : Calls Tryz.prog 54 #[.agg #[.int .i64 t.kind, .int .i64 t.num, .string t.text, .slice a l c]] w fun e w' => e = .returned (.bool (okNum t)) ∧ Grew w w' := by
  cases h2 : (t.kind == 2)
  · cases h1 : (t.kind == 1)
    · go_enter Tryz.func54, Tryz.ntmps54
      go_wp2_with fail
      go_ret
      exact ⟨by simp [okNum, h1, h2], (Grew.refl _).alloc _⟩
    · cases h0 : (t.num == 0)
      · go_enter Tryz.func54, Tryz.ntmps54
        go_wp2_with fail
        go_ret
        exact ⟨by simp [okNum, h1, h2, h0], (Grew.refl _).alloc _⟩
      · go_enter Tryz.func54, Tryz.ntmps54
        go_wp2_with fail
        go_ret
        exact ⟨by simp [okNum, h1, h2, h0], (Grew.refl _).alloc _⟩
  · go_enter Tryz.func54, Tryz.ntmps54
    go_wp2_with fail
    go_ret
    exact ⟨by simp [okNum, h2], (Grew.refl _).alloc _⟩

set_option maxHeartbeats 400000 in
theorem rightText_any (t : VT) (a : Option Addr) (l c : Nat) (w : World) (hs : t.text.size ≤ 9223372036854775807) : Calls Tryz.prog 55 #[.agg #[.int .i64 t.kind, .int .i64 t.num, .string t.text, .slice a l c]] w fun e w' => e = .returned (.bool (okText t)) ∧ Grew w w' := by
  cases h3 : (t.kind == 3)
  · have h3' : (t.kind != 3) = true := by simp [bne, h3]
    go_enter Tryz.func55, Tryz.ntmps55
    go_wp2_with fail
    go_ret
    exact ⟨by simp [okText, h3], (Grew.refl _).alloc _⟩
  · have h3' : (t.kind != 3) = false := by simp [bne, h3]
    by_cases hl : t.text.size ≤ 256
    · have hl' : (t.text.size : Int) ≤ 256 := by omega
      go_enter Tryz.func55, Tryz.ntmps55
      go_wp2_with fail
      refine (isUTF8_any _ _ hs).mono ?_
      rintro e w1 ⟨rfl, hb⟩
      go_wp2_with fail
      go_ret
      exact ⟨by simp [okText, h3, hl], ((Grew.refl _).alloc _).trans hb⟩
    · have hl' : ¬ (t.text.size : Int) ≤ 256 := by omega
      go_enter Tryz.func55, Tryz.ntmps55
      go_wp2_with fail
      go_ret
      exact ⟨by simp [okText, h3]; omega, (Grew.refl _).alloc _⟩

/-- Are a value's items as its kind asks? -/
def okItems (d : Nat) (t : VT) : Bool :=
  if t.kind == 4 then true else if t.kind == 5 then risF (cmpV d) 1 t.items t.items.length 0
  else if t.kind == 6 then ((t.items.length : Int) % 2 == 0 && risF (cmpV d) 2 t.items t.items.length 0) else (t.items.length : Int) == 0

set_option maxHeartbeats 1000000 in
theorem rightItems_any (d : Nat) (t : VT) (u : Value) (w : World) (hu : Lies (d + 1) w t.items u) (hlen : t.items.length ≤ 1024) :
    Calls Tryz.prog 56 #[.agg #[.int .i64 t.kind, .int .i64 t.num, .string t.text, u]] w fun e w' => e = .returned (.bool (okItems d t)) ∧ Grew w w' := by
  obtain ⟨a, c, rfl, _⟩ := Lies.slice hu
  have HL : Hid _ := fun o => Lies.keeps ((Grew.refl w).alloc o).below _ _ _ hu
  clear hu
  cases h4 : (t.kind == 4)
  · cases h5 : (t.kind == 5)
    · cases h6 : (t.kind == 6)
      · go_enter Tryz.func56, Tryz.ntmps56
        go_wp2_with fail
        go_ret
        exact ⟨by simp [okItems, h4, h5, h6], (Grew.refl _).alloc _⟩
      · cases hm : ((t.items.length : Int) % 2 == 0)
        · go_enter Tryz.func56, Tryz.ntmps56
          go_wp2_with fail
          go_ret
          exact ⟨by simp [okItems, h4, h5, h6, hm], (Grew.refl _).alloc _⟩
        · go_enter Tryz.func56, Tryz.ntmps56
          go_wp2_with fail
          refine (rising2 d t.items _ _ (HL.out _) hlen).mono ?_
          rintro e w1 ⟨rfl, hb⟩
          go_wp2_with fail
          go_ret
          exact ⟨by simp [okItems, h4, h5, h6, hm], ((Grew.refl _).alloc _).trans hb⟩
    · go_enter Tryz.func56, Tryz.ntmps56
      go_wp2_with fail
      refine (rising1 d t.items _ _ (HL.out _) hlen).mono ?_
      rintro e w1 ⟨rfl, hb⟩
      go_wp2_with fail
      go_ret
      exact ⟨by simp [okItems, h4, h5], ((Grew.refl _).alloc _).trans hb⟩
  · go_enter Tryz.func56, Tryz.ntmps56
    go_wp2_with fail
    go_ret
    exact ⟨by simp [okItems, h4], (Grew.refl _).alloc _⟩

def ownV (d : Nat) (t : VT) : Bool := decide (0 ≤ t.kind) && (decide (t.kind ≤ 6) && (okNum t && (okText t && okItems d t)))

def rpV : Nat → VT → Bool
  | 0, t => ownV 0 t
  | d + 1, t => t.items.all (rpV d) && ownV d t

def Sm : Nat → VT → Prop
  | 0, _ => True
  | d + 1, t => t.items.length ≤ 1024 ∧ ∀ x ∈ t.items, Sm d x

set_option maxHeartbeats 1000000 in
theorem rightParts_core (d : Nat) (f : VT → Bool) (t : VT) (u : Value) (w : World) (hu : Lies (d + 1) w t.items u) (hlen : t.items.length ≤ 1024) (hs : t.text.size ≤ 9223372036854775807)
    (hf : Hid (∀ (x : VT) (v : Value) (W : World), x ∈ t.items → Lies d W x.items v → x.text.size ≤ 9223372036854775807 →
      Calls Tryz.prog 42 #[.agg #[.int .i64 x.kind, .int .i64 x.num, .string x.text, v]] W fun e W' => e = .returned (.bool (f x)) ∧ Grew W W')) :
    Calls Tryz.prog 42 #[.agg #[.int .i64 t.kind, .int .i64 t.num, .string t.text, u]] w fun e w' => e = .returned (.bool (t.items.all f && ownV d t)) ∧ Grew w w' := by
  have HL : Hid _ := hu
  obtain ⟨a, c, rfl, hb1, hr1⟩ := hu
  have Hr : Hid _ := hr1
  clear hr1
  go_enter Tryz.func42, Tryz.ntmps42
  go_wp2_with fail
  go_loopg [8] t.items.length (fun g i wr => ∃ j : Nat, i = .int .i64 (j : Int) ∧ j ≤ t.items.length ∧ g = t.items.length - j ∧ Hid (t.items.all f = (t.items.drop j).all f) ∧ Grew w wr ∧ Boxed wr w.heap.size t.kind t.num t.text (.slice a t.items.length c))
  case atStart => exact ⟨0, rfl, by omega, by omega, rfl, (Grew.refl _).alloc _, boxed_alloc w t.kind t.num t.text _ 37⟩
  case round =>
    obtain ⟨j, rfl, hj, hk, Hc, hbw, hbx⟩ := hrel
    have Hk : Hid _ := hk
    clear hk
    by_cases hlt : j < t.items.length
    · obtain ⟨b1, o1, rfl, hall1⟩ := Hr.out (by intro e; simp [e] at hlt)
      obtain ⟨x, p0, p1, p2, p3, p4, p5⟩ := hall1 j hlt
      clear hall1
      obtain ⟨ax, cx, rfl, _⟩ := Lies.slice p4
      have p0 := cell_keeps hbw.below p0; have p1 := cell_keeps hbw.below p1; have p2 := cell_keeps hbw.below p2; have p3 := cell_keeps hbw.below p3
      have p4 : Hid (Lies d w t.items[j].items (.slice ax t.items[j].items.length cx)) := p4
      have hl1 : b1 < wr.heap.size := cell_lt p0
      have Hd : Hid (t.items.drop j = t.items[j] :: t.items.drop (j + 1)) := List.drop_eq_getElem_cons hlt
      have HB : Hid _ := hbx
      clear hbx
      go_wp2_with fail
      have hfc := hf.out t.items[j] (.slice ax t.items[j].items.length cx)
      refine (hfc _ (List.getElem_mem hlt) (Lies.keeps (hbw.alloc _).below _ _ _ p4.out) p5).mono ?_
      rintro e w1 ⟨rfl, hg⟩
      have hb2 : Grew w w1 := (hbw.alloc _).trans hg
      have HB1 : Hid _ := (HB.out.keeps ((Grew.refl _).alloc _).below).keeps hg.below
      clear hg hfc p0 p1 p2 p3 p4 HB hf
      cases hfx : f t.items[j]
      · go_wp2_with fail
        go_ret
        exact ⟨by rw [Hc.out, Hd.out, List.all_cons, hfx]; rfl, hb2⟩
      · go_wp2_with fail
        go_roundg (t.items.length - (j + 1))
        case measure => have := Hk.out; omega
        case rel =>
          refine ⟨j + 1, by go_num, by omega, rfl, ?_, hb2, HB1.out⟩
          show _ = _
          rw [Hc.out, Hd.out, List.all_cons, hfx]; rfl
    · have Hd : Hid (t.items.all f = true) := by
        show _ = _
        rw [Hc.out, List.drop_eq_nil_of_le (by omega)]; rfl
      clear Hc Hr hf
      obtain ⟨c0, c1, c2, c3⟩ := hbx
      have HB : Hid _ := Boxed.mk c0 c1 c2 c3
      by_cases k0 : 0 ≤ t.kind
      · by_cases k6 : t.kind ≤ 6
        · go_wp2_with fail
          refine (rightNum_any t _ _ _ _).mono ?_
          rintro e w1 ⟨rfl, hg⟩
          have hb2 := hbw.trans hg
          obtain ⟨c0, c1, c2, c3⟩ := HB.out.keeps hg.below
          have HB1 : Hid _ := Boxed.mk c0 c1 c2 c3
          clear HB hg
          cases hn : okNum t
          · go_wp2_with fail
            go_ret
            exact ⟨by rw [Hd.out]; simp [ownV, hn], hb2⟩
          · go_wp2_with fail
            refine (rightText_any t _ _ _ _ hs).mono ?_
            rintro e w2 ⟨rfl, hg⟩
            have hb3 := hb2.trans hg
            obtain ⟨c0, c1, c2, c3⟩ := HB1.out.keeps hg.below
            clear HB1 hg
            cases ht : okText t
            · go_wp2_with fail
              go_ret
              exact ⟨by rw [Hd.out]; simp [ownV, hn, ht], hb3⟩
            · go_wp2_with fail
              refine (rightItems_any d t _ _ (Lies.keeps hb3.below _ _ _ HL.out) hlen).mono ?_
              rintro e w3 ⟨rfl, hg⟩
              go_wp2_with fail
              go_ret
              exact ⟨by rw [Hd.out]; simp [ownV, hn, ht, k0, k6], hb3.trans hg⟩
        · go_wp2_with fail
          go_ret
          exact ⟨by rw [Hd.out]; simp [ownV]; omega, hbw⟩
      · go_wp2_with fail
        go_ret
        exact ⟨by rw [Hd.out]; simp [ownV]; omega, hbw⟩

theorem rightParts_any : ∀ (d : Nat) (t : VT) (u : Value) (w : World), Lies d w t.items u → Sm d t → t.text.size ≤ 9223372036854775807 →
    Calls Tryz.prog 42 #[.agg #[.int .i64 t.kind, .int .i64 t.num, .string t.text, u]] w fun e w' => e = .returned (.bool (rpV d t)) ∧ Grew w w' := by
  intro d
  induction d with
  | zero =>
    intro t u w hu _ hs
    have e1 : t.items = [] := hu.1
    have h := rightParts_core 0 (fun _ => true) t u w (Lies.deeper _ _ _ hu) (by rw [e1]; simp) hs (fun x _ _ hx => by rw [e1] at hx; cases hx)
    rw [e1] at h
    simpa [rpV] using h
  | succ d ih =>
    intro t u w hu hsm hs
    exact rightParts_core d (rpV d) t u w hu hsm.1 hs (fun x v W hx hl htx => ih x v W hl (hsm.2 x hx) htx)

end Go.Proofs.YtgmmocbgeilpiaaGreat

namespace Go.Proofs.YtgmmocbgeilpiaaGreat
open Go.RowKit

def fwL (f : VT → Int → Bool × Int) : List VT → Int → Bool × Int
  | [], n => (true, n)
  | x :: xs, n => if (f x n).1 = true then fwL f xs (f x n).2 else (false, (f x n).2)

def fw : Nat → VT → Int → Int → Bool × Int
  | 0, _, lv, n => if lv < 0 ∨ n = 0 then (false, n) else (true, n - 1)
  | d + 1, t, lv, n => if lv < 0 ∨ n = 0 then (false, n) else fwL (fun x m => fw d x (lv - 1) m) t.items (n - 1)

theorem fwL_range {f : VT → Int → Bool × Int} (hf : ∀ x m, 0 ≤ m → 0 ≤ (f x m).2 ∧ (f x m).2 ≤ m) : ∀ (l : List VT) (n : Int), 0 ≤ n → 0 ≤ (fwL f l n).2 ∧ (fwL f l n).2 ≤ n := by
  intro l
  induction l with
  | nil => intro n h; exact ⟨h, Int.le_refl _⟩
  | cons x l ih =>
    intro n h
    have h1 := hf x n h
    unfold fwL
    split
    · have h2 := ih (f x n).2 h1.1
      exact ⟨h2.1, Int.le_trans h2.2 h1.2⟩
    · exact h1

theorem fw_range : ∀ (d : Nat) (t : VT) (lv n : Int), 0 ≤ n → 0 ≤ (fw d t lv n).2 ∧ (fw d t lv n).2 ≤ n := by
  intro d
  induction d with
  | zero => intro t lv n h; unfold fw; split
            · exact ⟨h, Int.le_refl _⟩
            · exact ⟨by show 0 ≤ n - 1; omega, by show n - 1 ≤ n; omega⟩
  | succ d ih =>
    intro t lv n h
    unfold fw
    split
    · exact ⟨h, Int.le_refl _⟩
    · have h2 := fwL_range (f := fun x m => fw d x (lv - 1) m) (fun x m hm => ih x (lv - 1) m hm) t.items (n - 1) (by omega)
      exact ⟨h2.1, by omega⟩

theorem fw_start {w0 w : World} {B : Nat} {x v : Value} (hc : w.cell? ⟨B, 0, none⟩ = some x) (hz : w.frozen? ⟨B, 0, none⟩ = false) (hb : Grew w0 w) (hB : w0.heap.size ≤ B) (o : Obj) :
    ((w.setCell ⟨B, 0, none⟩ v).alloc o).cell? ⟨B, 0, none⟩ = some v ∧ ((w.setCell ⟨B, 0, none⟩ v).alloc o).frozen? ⟨B, 0, none⟩ = false ∧ Grew w0 ((w.setCell ⟨B, 0, none⟩ v).alloc o) := by
  have hlt : B < w.heap.size := cell_lt hc
  have hlt2 : B < (w.setCell ⟨B, 0, none⟩ v).heap.size := by simpa [World.setCell] using hlt
  have hbs : Grew w0 (w.setCell ⟨B, 0, none⟩ v) := ⟨hb.below.setCell hB v, hb.drawn⟩
  refine ⟨?_, ?_, hbs.alloc o⟩
  · rw [World.cell?_alloc_past o B 0 hlt2]
    unfold World.cell? World.setCell at *
    simp only [Array.getElem?_modify, if_true] at *
    cases hh : w.heap[B]? with
    | none => rw [hh] at hc; cases hc
    | some ob =>
      rw [hh] at hc
      cases ob <;> simp_all
      rename_i cc _ _
      have : 0 < cc.size := by
        by_cases hp : 0 < cc.size
        · exact hp
        · rw [Array.getElem?_eq_none (by omega)] at hc; cases hc
      rw [Array.getElem?_setIfInBounds_self_of_lt this]
  · rw [World.frozen?_alloc_past o B 0 hlt2]
    unfold World.frozen? World.setCell at *
    simp only [Array.getElem?_modify, if_true] at *
    cases hh : w.heap[B]? with
    | none => rfl
    | some ob =>
      rw [hh] at hz
      cases ob <;> simp_all

/-- What fitsWithin leaves: its answer, the number, and all that was there. -/
def FwPost (w0 : World) (B : Nat) (r : Bool × Int) (e : Ending) (W : World) : Prop :=
  e = .returned (.bool r.1) ∧ W.cell? ⟨B, 0, none⟩ = some (.int .i64 r.2) ∧ W.frozen? ⟨B, 0, none⟩ = false ∧ Grew w0 W

set_option maxHeartbeats 1000000 in
theorem fitsWithin_core (d : Nat) (f : VT → Int → Bool × Int) (hfr : Hid (∀ x m, 0 ≤ m → 0 ≤ (f x m).2 ∧ (f x m).2 ≤ m)) (t : VT) (u : Value) (w0 w : World) (B : Nat) (lv n : Int)
    (hu : Lies (d + 1) w0 t.items u) (hb : Grew w0 w) (hB : w0.heap.size ≤ B) (hc : w.cell? ⟨B, 0, none⟩ = some (.int .i64 n)) (hz : w.frozen? ⟨B, 0, none⟩ = false)
    (hlv1 : -1 ≤ lv) (hlv2 : lv ≤ 16) (hn1 : 0 ≤ n) (hn2 : n ≤ 1024)
    (hf : Hid (∀ (x : VT) (v : Value) (m : Int) (W : World), x ∈ t.items → 0 ≤ lv → Lies d w0 x.items v → Grew w0 W → W.cell? ⟨B, 0, none⟩ = some (.int .i64 m) → W.frozen? ⟨B, 0, none⟩ = false → 0 ≤ m → m ≤ 1024 →
      Calls Tryz.prog 53 #[.agg #[.int .i64 x.kind, .int .i64 x.num, .string x.text, v], .int .i64 (lv - 1), .pointer (some ⟨B, 0, none⟩)] W (FwPost w0 B (f x m)))) :
    Calls Tryz.prog 53 #[.agg #[.int .i64 t.kind, .int .i64 t.num, .string t.text, u], .int .i64 lv, .pointer (some ⟨B, 0, none⟩)] w (FwPost w0 B (if lv < 0 ∨ n = 0 then (false, n) else fwL f t.items (n - 1))) := by
  obtain ⟨a, c, rfl, hb1, hr1⟩ := hu
  have Hr : Hid _ := hr1
  clear hr1
  have hBw : B < w.heap.size := cell_lt hc
  have hws : w0.heap.size ≤ w.heap.size := hb.below.size
  by_cases h0 : lv < 0
  · rw [if_pos (Or.inl h0)]
    go_enter Tryz.func53, Tryz.ntmps53
    go_wp2_with fail
    go_ret
    exact ⟨rfl, by simpa using cell_keeps ((Below.refl _ _).alloc (Nat.le_refl _) _) hc, by rw [((Below.refl w.heap.size w).alloc (Nat.le_refl _) _).frozen hBw]; exact hz, hb.alloc _⟩
  · cases hn0 : (n == 0)
    · have hne : ¬ (lv < 0 ∨ n = 0) := by simp at hn0; omega
      rw [if_neg hne]
      have hn3 : 1 ≤ n := by simp at hn0; omega
      clear hne
      go_enter Tryz.func53, Tryz.ntmps53
      go_wp2_with fail
      go_loopg [25] t.items.length (fun g i wr => ∃ (j : Nat) (m : Int), i = .int .i64 (j : Int) ∧ j ≤ t.items.length ∧ g = t.items.length - j ∧ Hid (fwL f t.items (n - 1) = fwL f (t.items.drop j) m) ∧ 0 ≤ m ∧ m ≤ 1024 ∧ wr.cell? ⟨B, 0, none⟩ = some (.int .i64 m) ∧ wr.frozen? ⟨B, 0, none⟩ = false ∧ Grew w0 wr)
      case atStart =>
        obtain ⟨s1, s2, s3⟩ := fw_start (v := .int .i64 (n - 1)) hc hz hb hB (.cells #[.int .i64 t.kind, .int .i64 t.num, .string t.text, .slice a t.items.length c] 37)
        exact ⟨0, n - 1, rfl, by omega, by omega, rfl, by omega, by omega, s1, s2, s3⟩
      case round =>
        obtain ⟨j, m, rfl, hj, hk, Hc, hm1, hm2, hcr, hzr, hbw⟩ := hrel
        have Hk : Hid _ := hk
        clear hk hc hz hn0 hn1 hn2 hn3 hBw
        by_cases hlt : j < t.items.length
        · obtain ⟨b1, o1, rfl, hall1⟩ := Hr.out (by intro e; simp [e] at hlt)
          obtain ⟨x, p0, p1, p2, p3, p4, _⟩ := hall1 j hlt
          clear hall1
          obtain ⟨ax, cx, rfl, _⟩ := Lies.slice p4
          have p0 := cell_keeps hbw.below p0; have p1 := cell_keeps hbw.below p1; have p2 := cell_keeps hbw.below p2; have p3 := cell_keeps hbw.below p3
          have p4 : Hid (Lies d w0 t.items[j].items (.slice ax t.items[j].items.length cx)) := p4
          have hl1 : b1 < wr.heap.size := cell_lt p0
          have Hd : Hid (t.items.drop j = t.items[j] :: t.items.drop (j + 1)) := List.drop_eq_getElem_cons hlt
          have hlr : B < wr.heap.size := cell_lt hcr
          go_wp2_with fail
          have hfc := hf.out t.items[j] (.slice ax t.items[j].items.length cx) m
          refine (hfc _ (List.getElem_mem hlt) (by omega) p4.out (hbw.alloc _) ?_ ?_ hm1 hm2).mono ?_
          · rw [World.cell?_alloc_past _ B 0 hlr]; exact hcr
          · rw [World.frozen?_alloc_past _ B 0 hlr]; exact hzr
          · rintro e w1 ⟨rfl, hc1, hz1, hb2⟩
            have hrg := hfr.out t.items[j] m hm1
            clear hfc p0 p1 p2 p3 p4 hf hcr hzr hbw
            cases hfx : (f t.items[j] m).1
            · go_wp2_with fail
              go_ret
              have e1 : fwL f t.items (n - 1) = (false, (f t.items[j] m).2) := by
                rw [Hc.out, Hd.out]; unfold fwL; rw [if_neg (by simp [hfx])]
              rw [e1]
              exact ⟨rfl, hc1, hz1, hb2⟩
            · go_wp2_with fail
              go_roundg (t.items.length - (j + 1))
              case measure => have := Hk.out; omega
              case rel =>
                refine ⟨j + 1, (f t.items[j] m).2, by go_num, by omega, rfl, ?_, by omega, by omega, hc1, hz1, hb2⟩
                show _ = _
                rw [Hc.out, Hd.out]
                conv => lhs; unfold fwL
                rw [if_pos hfx]
        · have e1 : Hid (fwL f t.items (n - 1) = (true, m)) := by
            show _ = _
            rw [Hc.out, List.drop_eq_nil_of_le (by omega)]; rfl
          clear Hc Hr hf
          go_wp2_with fail
          go_ret
          rw [e1.out]
          exact ⟨rfl, hcr, hzr, hbw⟩
    · have hn4 : n = 0 := by simpa using hn0
      rw [if_pos (Or.inr hn4)]
      clear hn4
      go_enter Tryz.func53, Tryz.ntmps53
      go_wp2_with fail
      go_ret
      exact ⟨rfl, by simpa using cell_keeps ((Below.refl _ _).alloc (Nat.le_refl _) _) hc, by rw [((Below.refl w.heap.size w).alloc (Nat.le_refl _) _).frozen hBw]; exact hz, hb.alloc _⟩

theorem fitsWithin_any : ∀ (d : Nat) (t : VT) (u : Value) (w0 w : World) (B : Nat) (lv n : Int), Lies d w0 t.items u → Grew w0 w → w0.heap.size ≤ B → w.cell? ⟨B, 0, none⟩ = some (.int .i64 n) → w.frozen? ⟨B, 0, none⟩ = false →
    -1 ≤ lv → lv ≤ 16 → 0 ≤ n → n ≤ 1024 → Calls Tryz.prog 53 #[.agg #[.int .i64 t.kind, .int .i64 t.num, .string t.text, u], .int .i64 lv, .pointer (some ⟨B, 0, none⟩)] w (FwPost w0 B (fw d t lv n)) := by
  intro d
  induction d with
  | zero =>
    intro t u w0 w B lv n hu hb hB hc hz h1 h2 h3 h4
    have e1 : t.items = [] := hu.1
    have h := fitsWithin_core 0 (fun _ m => (true, m)) (fun _ m hm => ⟨hm, Int.le_refl _⟩) t u w0 w B lv n (Lies.deeper _ _ _ hu) hb hB hc hz h1 h2 h3 h4 (fun x _ _ _ hx => by rw [e1] at hx; cases hx)
    rw [e1] at h
    exact h
  | succ d ih =>
    intro t u w0 w B lv n hu hb hB hc hz h1 h2 h3 h4
    exact fitsWithin_core d (fun x m => fw d x (lv - 1) m) (fun x m hm => fw_range d x (lv - 1) m hm) t u w0 w B lv n hu hb hB hc hz h1 h2 h3 h4 (fun x v m W _ h0 hl hbW hcW hzW hm1 hm2 => ih x v w0 W B (lv - 1) m hl hbW hB hcW hzW (by omega) (by omega) hm1 hm2)

set_option maxHeartbeats 1000000 in
theorem fits_grew (d : Nat) (t : VT) (u : Value) (w : World) (hu : Lies d w t.items u) :
    Calls Tryz.prog 41 #[.agg #[.int .i64 t.kind, .int .i64 t.num, .string t.text, u]] w fun e w' => e = .returned (.bool (fw d t 16 1024).1) ∧ Grew w w' := by
  obtain ⟨a, c, rfl, _⟩ := Lies.slice hu
  have HL : Hid _ := hu
  clear hu
  go_enter Tryz.func41, Tryz.ntmps41
  go_wp2_with fail
  refine (fitsWithin_any d t _ w _ (w.heap.size + 1) 16 1024 HL.out (Grew.two _ _ _) (by omega) (by simp) (by simp) (by omega) (by omega) (by omega) (by omega)).mono ?_
  rintro e w1 ⟨rfl, _, _, hb⟩
  go_wp2_with fail
  go_ret
  exact ⟨rfl, hb⟩

/-- Whoever fits has no list longer than 1024. -/
theorem fwL_len {f : VT → Int → Bool × Int} (hf : ∀ x m, 0 ≤ m → 0 ≤ (f x m).2) (hg : ∀ x m, 0 ≤ m → (f x m).1 = true → (f x m).2 ≤ m - 1) : ∀ (l : List VT) (n : Int), 0 ≤ n → (fwL f l n).1 = true → (l.length : Int) ≤ n ∧ (fwL f l n).2 ≤ n - l.length ∧ ∀ x ∈ l, ∃ m, 0 ≤ m ∧ m ≤ n ∧ (f x m).1 = true := by
  intro l
  induction l with
  | nil => intro n h _; exact ⟨by simp; omega, by simp [fwL], fun x hx => by cases hx⟩
  | cons x l ih =>
    intro n h hh
    unfold fwL at hh ⊢
    by_cases hx : (f x n).1 = true
    · rw [if_pos hx] at hh ⊢
      have h1 := hf x n h
      have h2 := hg x n h hx
      obtain ⟨i1, i2, i3⟩ := ih (f x n).2 h1 hh
      refine ⟨by simp only [List.length_cons]; omega, by simp only [List.length_cons]; omega, fun y hy => ?_⟩
      rcases List.mem_cons.1 hy with rfl | hy
      · exact ⟨n, h, Int.le_refl _, hx⟩
      · obtain ⟨m, m1, m2, m3⟩ := i3 y hy
        exact ⟨m, m1, by omega, m3⟩
    · rw [if_neg hx] at hh; cases hh

theorem fw_less : ∀ (d : Nat) (t : VT) (lv n : Int), 0 ≤ n → (fw d t lv n).1 = true → (fw d t lv n).2 ≤ n - 1 := by
  intro d
  cases d with
  | zero =>
    intro t lv n h hh
    unfold fw at hh ⊢
    by_cases hx : lv < 0 ∨ n = 0
    · rw [if_pos hx] at hh; cases hh
    · rw [if_neg hx]; exact Int.le_refl _
  | succ d =>
    intro t lv n h hh
    unfold fw at hh ⊢
    by_cases hx : lv < 0 ∨ n = 0
    · rw [if_pos hx] at hh; cases hh
    · rw [if_neg hx]
      exact (fwL_range (f := fun x m => fw d x (lv - 1) m) (fun x m hm => fw_range d x (lv - 1) m hm) t.items (n - 1) (by omega)).2

theorem fw_small : ∀ (d : Nat) (t : VT) (lv n : Int), 0 ≤ n → n ≤ 1024 → (fw d t lv n).1 = true → Sm d t := by
  intro d
  induction d with
  | zero => intro t lv n _ _ _; trivial
  | succ d ih =>
    intro t lv n h h2 hh
    unfold fw at hh
    by_cases hx : lv < 0 ∨ n = 0
    · rw [if_pos hx] at hh; cases hh
    · rw [if_neg hx] at hh
      obtain ⟨i1, _, i3⟩ := fwL_len (f := fun x m => fw d x (lv - 1) m) (fun x m hm => (fw_range d x (lv - 1) m hm).1) (fun x m hm hb => fw_less d x (lv - 1) m hm hb) t.items (n - 1) (by omega) hh
      refine ⟨by omega, fun x hxm => ?_⟩
      obtain ⟨m, m1, m2, m3⟩ := i3 x hxm
      exact ih x (lv - 1) m m1 (by omega) m3

/-- Is a value right? -/
def rightV (d : Nat) (t : VT) : Bool := (fw d t 16 1024).1 && rpV d t

def errOf (b : Bool) : Int := if b then 0 else 3

set_option maxHeartbeats 1000000 in
theorem check_grew (d : Nat) (t : VT) (u : Value) (w : World) (hu : Lies d w t.items u) (hs : t.text.size ≤ 9223372036854775807) :
    Calls Tryz.prog 22 #[.agg #[.int .i64 t.kind, .int .i64 t.num, .string t.text, u]] w fun e w' => e = .returned (.int .i64 (errOf (rightV d t))) ∧ Grew w w' := by
  obtain ⟨a, c, rfl, _⟩ := Lies.slice hu
  have HL : Hid _ := fun (o : Obj) => Lies.keeps ((Grew.refl w).alloc o).below _ _ _ hu
  have HL0 : Hid _ := hu
  clear hu
  go_enter Tryz.func22, Tryz.ntmps22
  go_wp2_with fail
  refine (fits_grew d t _ _ (HL.out _)).mono ?_
  rintro e w1 ⟨rfl, hb⟩
  have hb1 : Grew w w1 := ((Grew.refl w).alloc _).trans hb
  obtain ⟨c0, c1, c2, c3⟩ := (boxed_alloc w t.kind t.num t.text (.slice a t.items.length c) 37).keeps hb.below
  clear hb
  cases hf : (fw d t 16 1024).1
  · go_wp2_with fail
    go_ret
    exact ⟨ret_int (by simp [rightV, hf, errOf]), hb1⟩
  · have hsm := fw_small d t 16 1024 (by omega) (by omega) hf
    have Hsm : Hid _ := hsm
    clear hsm
    go_wp2_with fail
    refine (rightParts_any d t _ _ (Lies.keeps hb1.below _ _ _ HL0.out) Hsm.out hs).mono ?_
    rintro e w2 ⟨rfl, hg⟩
    have hb2 : Grew w w2 := hb1.trans hg
    clear hg
    cases hp : rpV d t
    · go_wp2_with fail
      go_ret
      exact ⟨ret_int (by simp [rightV, hp, errOf]), hb2⟩
    · go_wp2_with fail
      go_ret
      exact ⟨ret_int (by simp [rightV, hf, hp, errOf]), hb2⟩

theorem check_any (d : Nat) (t : VT) (u : Value) (w : World) (hu : Lies d w t.items u) (hs : t.text.size ≤ 9223372036854775807) :
    Calls Tryz.prog 22 #[.agg #[.int .i64 t.kind, .int .i64 t.num, .string t.text, u]] w fun e w' => e = .returned (.int .i64 (errOf (rightV d t))) ∧ Below w.heap.size w w' :=
  Calls.mono (check_grew d t u w hu hs) fun _ _ h => ⟨h.1, h.2.below⟩

end Go.Proofs.YtgmmocbgeilpiaaGreat

namespace Go.Proofs.YtgmmocbgeilpiaaGreat
open Go.RowKit

/-- What rule R1 finds wrong first in a list. -/
def listErr (d : Nat) (l : List VT) : Int := if 65536 < l.length then 2 else if l.all (rightV d) then 0 else 3

set_option maxHeartbeats 1000000 in
theorem checkAll_any (d : Nat) (l : List VT) (u : Value) (w : World) (hu : Lies (d + 1) w l u) :
    Calls Tryz.prog 21 #[u, .func (.func 22) #[] #[]] w fun e w' => e = .returned (.int .i64 (listErr d l)) ∧ Below w.heap.size w w' := by
  obtain ⟨a, c, rfl, hb1, hr1⟩ := hu
  have Hr : Hid _ := hr1
  clear hr1
  by_cases hlong : 65536 < l.length
  · have hlong' : (65536 : Int) < (l.length : Int) := by omega
    have Hfin : Hid (listErr d l = 2) := if_pos hlong
    clear hlong
    go_enter Tryz.func21, Tryz.ntmps21
    go_wp2_with fail
    go_ret
    exact ⟨ret_int Hfin.out.symm, Below.refl _ _⟩
  · have hlong' : ¬ (65536 : Int) < (l.length : Int) := by omega
    have Hfin : Hid (listErr d l = if l.all (rightV d) then 0 else 3) := if_neg hlong
    go_enter Tryz.func21, Tryz.ntmps21
    go_wp2_with fail
    go_loopg [13] l.length (fun g i wr => ∃ j : Nat, i = .int .i64 (j : Int) ∧ j ≤ l.length ∧ g = l.length - j ∧ Hid (l.all (rightV d) = (l.drop j).all (rightV d)) ∧ Below w.heap.size w wr)
    case atStart => exact ⟨0, rfl, by omega, by omega, rfl, Below.refl _ _⟩
    case round =>
      obtain ⟨j, rfl, hj, hk, Hc, hbw⟩ := hrel
      have Hk : Hid _ := hk
      clear hk
      by_cases hlt : j < l.length
      · obtain ⟨b1, o1, rfl, hall1⟩ := Hr.out (by intro e; simp [e] at hlt)
        obtain ⟨x, p0, p1, p2, p3, p4, p5⟩ := hall1 j hlt
        clear hall1
        obtain ⟨ax, cx, rfl, _⟩ := Lies.slice p4
        have p0 := cell_keeps hbw p0; have p1 := cell_keeps hbw p1; have p2 := cell_keeps hbw p2; have p3 := cell_keeps hbw p3
        have p4 : Hid (Lies d w l[j].items (.slice ax l[j].items.length cx)) := p4
        have hl1 : b1 < wr.heap.size := cell_lt p0
        have Hd : Hid (l.drop j = l[j] :: l.drop (j + 1)) := List.drop_eq_getElem_cons hlt
        have hws2 : w.heap.size ≤ wr.heap.size := hbw.size
        go_wp2_with fail
        refine (check_any d l[j] _ _ (Lies.keeps (hbw.alloc hws2 _) _ _ _ p4.out) p5).mono ?_
        rintro e w1 ⟨rfl, hg⟩
        have hb2 : Below w.heap.size w w1 := (hbw.alloc hws2 _).trans (hg.mono (by simp; omega))
        clear hg p0 p1 p2 p3 p4
        cases hx : rightV d l[j]
        · have he : errOf false = 3 := rfl
          rw [he]
          clear he
          go_wp2_with fail
          go_ret
          exact ⟨ret_int (by rw [Hfin.out, Hc.out, Hd.out, List.all_cons, hx]; rfl), hb2⟩
        · have he : errOf true = 0 := rfl
          rw [he]
          clear he
          go_wp2_with fail
          go_roundg (l.length - (j + 1))
          case measure => have := Hk.out; omega
          case rel =>
            refine ⟨j + 1, by go_num, by omega, rfl, ?_, hb2⟩
            show _ = _
            rw [Hc.out, Hd.out, List.all_cons, hx]; rfl
      · have Hd : Hid (l.all (rightV d) = true) := by
          show _ = _
          rw [Hc.out, List.drop_eq_nil_of_le (by omega)]; rfl
        clear Hc Hr
        go_wp2_with fail
        go_ret
        exact ⟨ret_int (by rw [Hfin.out, Hd.out]; rfl), hbw⟩

end Go.Proofs.YtgmmocbgeilpiaaGreat

namespace Go.Proofs.YtgmmocbgeilpiaaGreat
open Go.RowKit

def sumI (f : VT → Int) : List VT → Int
  | [] => 0
  | x :: xs => f x + sumI f xs

def cpV : Nat → VT → Int
  | 0, _ => 1
  | d + 1, t => 1 + sumI (cpV d) t.items

theorem sumI_nonneg {f : VT → Int} (h : ∀ x, 0 ≤ f x) : ∀ l, 0 ≤ sumI f l := by
  intro l
  induction l with
  | nil => exact Int.le_refl _
  | cons x l ih => have := h x; unfold sumI; omega

theorem cpV_pos : ∀ (d : Nat) (t : VT), 1 ≤ cpV d t := by
  intro d
  induction d with
  | zero => intro t; exact Int.le_refl _
  | succ d ih => intro t; have := sumI_nonneg (f := cpV d) (fun x => by have := ih x; omega) t.items; unfold cpV; omega

theorem sumI_step (f : VT → Int) (l : List VT) (j : Nat) (h : j < l.length) : sumI f (l.take (j + 1)) = sumI f (l.take j) + f l[j] := by
  rw [List.take_succ_eq_append_getElem h]
  generalize l[j] = x
  generalize l.take j = m
  induction m with
  | nil => simp [sumI]
  | cons y m ih => simp only [List.cons_append, sumI, ih]; omega

theorem sumI_take {f : VT → Int} (hf : ∀ x, 0 ≤ f x) (l : List VT) (j : Nat) : sumI f (l.take j) ≤ sumI f l := by
  have e : sumI f l = sumI f (l.take j) + sumI f (l.drop j) := by
    conv => lhs; rw [← List.take_append_drop j l]
    generalize l.take j = m
    induction m with
    | nil => simp [sumI]
    | cons y m ih => simp only [List.cons_append, sumI, ih]; omega
  have := sumI_nonneg hf (l.drop j)
  omega

theorem sumI_mem {f : VT → Int} (hf : ∀ x, 0 ≤ f x) : ∀ (l : List VT) (x : VT), x ∈ l → f x ≤ sumI f l := by
  intro l
  induction l with
  | nil => intro x h; cases h
  | cons y l ih =>
    intro x h
    unfold sumI
    rcases List.mem_cons.1 h with rfl | h
    · have := sumI_nonneg hf l; omega
    · have := ih x h; have := hf y; omega

/-- Whoever fits has as many parts as were taken. -/
theorem fwL_count {f : VT → Int → Bool × Int} {g : VT → Int} (hf : ∀ x m, 0 ≤ m → 0 ≤ (f x m).2) (hg : ∀ x m, 0 ≤ m → (f x m).1 = true → (f x m).2 = m - g x) : ∀ (l : List VT) (n : Int), 0 ≤ n → (fwL f l n).1 = true → (fwL f l n).2 = n - sumI g l := by
  intro l
  induction l with
  | nil => intro n h _; simp [fwL, sumI]
  | cons x l ih =>
    intro n h hh
    unfold fwL at hh ⊢
    by_cases hx : (f x n).1 = true
    · rw [if_pos hx] at hh ⊢
      have h1 := hf x n h
      have h2 := hg x n h hx
      have h3 := ih (f x n).2 h1 hh
      unfold sumI
      omega
    · rw [if_neg hx] at hh; cases hh

theorem fw_count : ∀ (d : Nat) (t : VT) (lv n : Int), 0 ≤ n → (fw d t lv n).1 = true → (fw d t lv n).2 = n - cpV d t := by
  intro d
  induction d with
  | zero =>
    intro t lv n h hh
    unfold fw at hh ⊢
    by_cases hx : lv < 0 ∨ n = 0
    · rw [if_pos hx] at hh; cases hh
    · rw [if_neg hx]; rfl
  | succ d ih =>
    intro t lv n h hh
    unfold fw at hh ⊢
    by_cases hx : lv < 0 ∨ n = 0
    · rw [if_pos hx] at hh; cases hh
    · rw [if_neg hx] at hh ⊢
      have := fwL_count (f := fun x m => fw d x (lv - 1) m) (g := cpV d) (fun x m hm => (fw_range d x (lv - 1) m hm).1) (fun x m hm hb => ih x (lv - 1) m hm hb) t.items (n - 1) (by omega) hh
      unfold cpV
      omega

theorem fits_parts (d : Nat) (t : VT) (h : (fw d t 16 1024).1 = true) : cpV d t ≤ 1024 := by
  have h1 := fw_count d t 16 1024 (by omega) h
  have h2 := (fw_range d t 16 1024 (by omega)).1
  omega

set_option maxHeartbeats 1000000 in
theorem countParts_core (d : Nat) (f : VT → Int) (hf0 : Hid (∀ x, 1 ≤ f x)) (t : VT) (u : Value) (w : World) (hu : Lies (d + 1) w t.items u) (hsum : sumI f t.items ≤ 1024)
    (hf : Hid (∀ (x : VT) (v : Value) (W : World), x ∈ t.items → Lies d W x.items v →
      Calls Tryz.prog 106 #[.agg #[.int .i64 x.kind, .int .i64 x.num, .string x.text, v]] W fun e W' => e = .returned (.int .i64 (f x)) ∧ Grew W W')) :
    Calls Tryz.prog 106 #[.agg #[.int .i64 t.kind, .int .i64 t.num, .string t.text, u]] w fun e w' => e = .returned (.int .i64 (1 + sumI f t.items)) ∧ Grew w w' := by
  obtain ⟨a, c, rfl, hb1, hr1⟩ := hu
  have Hr : Hid _ := hr1
  clear hr1
  go_enter Tryz.func106, Tryz.ntmps106
  go_wp2_with fail
  go_loopg [3, 9] t.items.length (fun g v i wr => ∃ j : Nat, i = .int .i64 (j : Int) ∧ j ≤ t.items.length ∧ g = t.items.length - j ∧ v = .int .i64 (1 + sumI f (t.items.take j)) ∧ Grew w wr)
  case atStart => exact ⟨0, rfl, by omega, by omega, rfl, (Grew.refl _).alloc _⟩
  case round =>
    obtain ⟨j, rfl, hj, hk, rfl, hbw⟩ := hrel
    have Hk : Hid _ := hk
    clear hk
    by_cases hlt : j < t.items.length
    · obtain ⟨b1, o1, rfl, hall1⟩ := Hr.out (by intro e; simp [e] at hlt)
      obtain ⟨x, p0, p1, p2, p3, p4, p5⟩ := hall1 j hlt
      clear hall1
      obtain ⟨ax, cx, rfl, _⟩ := Lies.slice p4
      have p0 := cell_keeps hbw.below p0; have p1 := cell_keeps hbw.below p1; have p2 := cell_keeps hbw.below p2; have p3 := cell_keeps hbw.below p3
      have p4 : Hid (Lies d w t.items[j].items (.slice ax t.items[j].items.length cx)) := p4
      have hl1 : b1 < wr.heap.size := cell_lt p0
      have Hst : Hid _ := sumI_step f t.items j hlt
      have h1 := sumI_nonneg (f := f) (fun x => by have := hf0.out x; omega) (t.items.take j)
      have h2 := sumI_take (f := f) (fun x => by have := hf0.out x; omega) t.items (j + 1)
      rw [Hst.out] at h2
      have h3 := hf0.out t.items[j]
      go_wp2_with fail
      have hfc := hf.out t.items[j] (.slice ax t.items[j].items.length cx)
      refine (hfc _ (List.getElem_mem hlt) (Lies.keeps (hbw.alloc _).below _ _ _ p4.out)).mono ?_
      rintro e w1 ⟨rfl, hg⟩
      have hb2 : Grew w w1 := (hbw.alloc _).trans hg
      clear hg hfc p0 p1 p2 p3 p4 hf
      go_wp2_with fail
      go_roundg (t.items.length - (j + 1))
      case measure => have := Hk.out; omega
      case rel =>
        refine ⟨j + 1, by go_num, by omega, rfl, ?_, hb2⟩
        rw [Hst.out, Int.add_assoc]
    · have hjl : j = t.items.length := by omega
      have Hj : Hid _ := hjl
      clear hjl
      go_wp2_with fail
      go_ret
      exact ⟨ret_int (by rw [Hj.out, List.take_length]), hbw⟩

theorem countParts_any : ∀ (d : Nat) (t : VT) (u : Value) (w : World), Lies d w t.items u → cpV d t ≤ 1024 →
    Calls Tryz.prog 106 #[.agg #[.int .i64 t.kind, .int .i64 t.num, .string t.text, u]] w fun e w' => e = .returned (.int .i64 (cpV d t)) ∧ Grew w w' := by
  intro d
  induction d with
  | zero =>
    intro t u w hu _
    have e1 : t.items = [] := hu.1
    have h := countParts_core 0 (fun _ => 1) (fun _ => Int.le_refl _) t u w (Lies.deeper _ _ _ hu) (by rw [e1]; simp [sumI]) (fun x _ _ hx => by rw [e1] at hx; cases hx)
    rw [e1] at h
    exact h
  | succ d ih =>
    intro t u w hu hp
    have hpos : ∀ x, 0 ≤ cpV d x := fun x => by have := cpV_pos d x; omega
    unfold cpV at hp
    exact countParts_core d (cpV d) (cpV_pos d) t u w hu (by omega) (fun x v W hx hl => ih x v W hl (by have := sumI_mem hpos t.items x hx; omega))

set_option maxHeartbeats 1000000 in
theorem parts_any (d : Nat) (t : VT) (u : Value) (w : World) (hu : Lies d w t.items u) (hs : t.text.size ≤ 9223372036854775807) :
    Calls Tryz.prog 87 #[.agg #[.int .i64 t.kind, .int .i64 t.num, .string t.text, u]] w fun e w' => e = .returned (.tuple #[.int .i64 (if rightV d t then cpV d t else 0), .int .i64 (errOf (rightV d t))]) ∧ Below w.heap.size w w' := by
  obtain ⟨a, c, rfl, _⟩ := Lies.slice hu
  have HL : Hid _ := fun (o : Obj) => Lies.keeps ((Grew.refl w).alloc o).below _ _ _ hu
  have HL0 : Hid _ := hu
  clear hu
  have Hr : Hid (rightV d t = true → cpV d t ≤ 1024) := fun h => fits_parts d t (by unfold rightV at h; simp at h; exact h.1)
  cases hr : rightV d t
  · go_enter Tryz.func87, Tryz.ntmps87
    go_wp2_with fail
    refine (check_any d t _ _ (HL.out _) hs).mono ?_
    rintro e w1 ⟨rfl, hb⟩
    have hb1 : Below w.heap.size w w1 := ((Grew.refl w).alloc _).below.trans (hb.mono (by simp))
    clear hb
    have he : errOf (rightV d t) = 3 := by simp [errOf, hr]
    rw [he]
    clear he
    go_wp2_with fail
    go_ret2
    exact ⟨by simp [errOf], hb1⟩
  · go_enter Tryz.func87, Tryz.ntmps87
    go_wp2_with fail
    refine (check_any d t _ _ (HL.out _) hs).mono ?_
    rintro e w1 ⟨rfl, hb⟩
    have hb1 : Below w.heap.size w w1 := ((Grew.refl w).alloc _).below.trans (hb.mono (by simp))
    obtain ⟨c0, c1, c2, c3⟩ := (boxed_alloc w t.kind t.num t.text (.slice a t.items.length c) 37).keeps hb
    clear hb
    have he : errOf (rightV d t) = 0 := by simp [errOf, hr]
    rw [he]
    clear he
    go_wp2_with fail
    refine (countParts_any d t _ _ (Lies.keeps hb1 _ _ _ HL0.out) (Hr.out hr)).mono ?_
    rintro e w2 ⟨rfl, hg⟩
    go_wp2_with fail
    go_ret2
    exact ⟨by simp [errOf], hb1.trans (hg.below.mono hb1.size)⟩

end Go.Proofs.YtgmmocbgeilpiaaGreat

