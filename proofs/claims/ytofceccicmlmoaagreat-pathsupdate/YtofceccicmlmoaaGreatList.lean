/-
  The contracts of CheckAll and checkList.
-/
import Derived.Test.YtofceccicmlmoaaGreatSame
import Derived.Test.YtofceccicmlmoaaGreatLastP
namespace Go.Proofs.YtofceccicmlmoaaGreat
open Go.RowKit

def fwL (f : VT → Int → Bool × Int) : List VT → Int → Bool × Int
  | [], n => (true, n)
  | x :: xs, n => if (f x n).1 = true then fwL f xs (f x n).2 else (false, (f x n).2)

def fw : Nat → VT → Int → Int → Bool × Int
  | 0, _, lv, n => if lv < 0 ∨ n = 0 then (false, n) else (true, n - 1)
  | d + 1, t, lv, n => if lv < 0 ∨ n = 0 then (false, n) else fwL (fun x m => fw d x (lv - 1) m) t.items (n - 1)

theorem fwL_range {f : VT → Int → Bool × Int} (hf : ∀ x m, 0 ≤ m → 0 ≤ (f x m).2 ∧ (f x m).2 ≤ m) : ∀ (l : List VT) (n : Int), 0 ≤ n → 0 ≤ (fwL f l n).2 ∧ (fwL f l n).2 ≤ n := by
  intro l
  induction l with
  | nil => intro n h; exact ⟨h, Int.le_refl _⟩
  | cons x l ih =>
    intro n h
    have h1 := hf x n h
    unfold fwL
    split
    · have h2 := ih (f x n).2 h1.1
      exact ⟨h2.1, Int.le_trans h2.2 h1.2⟩
    · exact h1

theorem fw_range : ∀ (d : Nat) (t : VT) (lv n : Int), 0 ≤ n → 0 ≤ (fw d t lv n).2 ∧ (fw d t lv n).2 ≤ n := by
  intro d
  induction d with
  | zero => intro t lv n h; unfold fw; split
            · exact ⟨h, Int.le_refl _⟩
            · exact ⟨by show 0 ≤ n - 1; omega, by show n - 1 ≤ n; omega⟩
  | succ d ih =>
    intro t lv n h
    unfold fw
    split
    · exact ⟨h, Int.le_refl _⟩
    · have h2 := fwL_range (f := fun x m => fw d x (lv - 1) m) (fun x m hm => ih x (lv - 1) m hm) t.items (n - 1) (by omega)
      exact ⟨h2.1, by omega⟩

theorem fw_start {w0 w : World} {B : Nat} {x v : Value} (hc : w.cell? ⟨B, 0, none⟩ = some x) (hz : w.frozen? ⟨B, 0, none⟩ = false) (hb : Grew w0 w) (hB : w0.heap.size ≤ B) (o : Obj) :
    ((w.setCell ⟨B, 0, none⟩ v).alloc o).cell? ⟨B, 0, none⟩ = some v ∧ ((w.setCell ⟨B, 0, none⟩ v).alloc o).frozen? ⟨B, 0, none⟩ = false ∧ Grew w0 ((w.setCell ⟨B, 0, none⟩ v).alloc o) := by
  have hlt : B < w.heap.size := cell_lt hc
  have hlt2 : B < (w.setCell ⟨B, 0, none⟩ v).heap.size := by simpa [World.setCell] using hlt
  have hbs : Grew w0 (w.setCell ⟨B, 0, none⟩ v) := ⟨hb.below.setCell hB v, hb.drawn⟩
  refine ⟨?_, ?_, hbs.alloc o⟩
  · rw [World.cell?_alloc_past o B 0 hlt2]
    unfold World.cell? World.setCell at *
    simp only [Array.getElem?_modify, if_true] at *
    cases hh : w.heap[B]? with
    | none => rw [hh] at hc; cases hc
    | some ob =>
      rw [hh] at hc
      cases ob <;> simp_all
      rename_i cc _ _
      have : 0 < cc.size := by
        by_cases hp : 0 < cc.size
        · exact hp
        · rw [Array.getElem?_eq_none (by omega)] at hc; cases hc
      rw [Array.getElem?_setIfInBounds_self_of_lt this]
  · rw [World.frozen?_alloc_past o B 0 hlt2]
    unfold World.frozen? World.setCell at *
    simp only [Array.getElem?_modify, if_true] at *
    cases hh : w.heap[B]? with
    | none => rfl
    | some ob =>
      rw [hh] at hz
      cases ob <;> simp_all

/-- What fitsWithin leaves: its answer, the number, and all that was there. -/
def FwPost (w0 : World) (B : Nat) (r : Bool × Int) (e : Ending) (W : World) : Prop :=
  e = .returned (.bool r.1) ∧ W.cell? ⟨B, 0, none⟩ = some (.int .i64 r.2) ∧ W.frozen? ⟨B, 0, none⟩ = false ∧ Grew w0 W

set_option maxHeartbeats 1000000 in
theorem fitsWithin_core (d : Nat) (f : VT → Int → Bool × Int) (hfr : Hid (∀ x m, 0 ≤ m → 0 ≤ (f x m).2 ∧ (f x m).2 ≤ m)) (t : VT) (u : Value) (w0 w : World) (B : Nat) (lv n : Int)
    (hu : Lies (d + 1) w0 t.items u) (hb : Grew w0 w) (hB : w0.heap.size ≤ B) (hc : w.cell? ⟨B, 0, none⟩ = some (.int .i64 n)) (hz : w.frozen? ⟨B, 0, none⟩ = false)
    (hlv1 : -1 ≤ lv) (hlv2 : lv ≤ 16) (hn1 : 0 ≤ n) (hn2 : n ≤ 1024)
    (hf : Hid (∀ (x : VT) (v : Value) (m : Int) (W : World), x ∈ t.items → 0 ≤ lv → Lies d w0 x.items v → Grew w0 W → W.cell? ⟨B, 0, none⟩ = some (.int .i64 m) → W.frozen? ⟨B, 0, none⟩ = false → 0 ≤ m → m ≤ 1024 →
      Calls Tryz.prog 67 #[.agg #[.int .i64 x.kind, .int .i64 x.num, .string x.text, v], .int .i64 (lv - 1), .pointer (some ⟨B, 0, none⟩)] W (FwPost w0 B (f x m)))) :
    Calls Tryz.prog 67 #[.agg #[.int .i64 t.kind, .int .i64 t.num, .string t.text, u], .int .i64 lv, .pointer (some ⟨B, 0, none⟩)] w (FwPost w0 B (if lv < 0 ∨ n = 0 then (false, n) else fwL f t.items (n - 1))) := by
  obtain ⟨a, c, rfl, hb1, hr1⟩ := hu
  have Hr : Hid _ := hr1
  clear hr1
  have hBw : B < w.heap.size := cell_lt hc
  have hws : w0.heap.size ≤ w.heap.size := hb.below.size
  by_cases h0 : lv < 0
  · rw [if_pos (Or.inl h0)]
    go_enter Tryz.func67, Tryz.ntmps67
    go_wp2_with fail
    go_ret
    exact ⟨rfl, by simpa using cell_keeps ((Below.refl _ _).alloc (Nat.le_refl _) _) hc, by rw [((Below.refl w.heap.size w).alloc (Nat.le_refl _) _).frozen hBw]; exact hz, hb.alloc _⟩
  · cases hn0 : (n == 0)
    · have hne : ¬ (lv < 0 ∨ n = 0) := by simp at hn0; omega
      rw [if_neg hne]
      have hn3 : 1 ≤ n := by simp at hn0; omega
      clear hne
      go_enter Tryz.func67, Tryz.ntmps67
      go_wp2_with fail
      go_loopg [25] t.items.length (fun g i wr => ∃ (j : Nat) (m : Int), i = .int .i64 (j : Int) ∧ j ≤ t.items.length ∧ g = t.items.length - j ∧ Hid (fwL f t.items (n - 1) = fwL f (t.items.drop j) m) ∧ 0 ≤ m ∧ m ≤ 1024 ∧ wr.cell? ⟨B, 0, none⟩ = some (.int .i64 m) ∧ wr.frozen? ⟨B, 0, none⟩ = false ∧ Grew w0 wr)
      case atStart =>
        obtain ⟨s1, s2, s3⟩ := fw_start (v := .int .i64 (n - 1)) hc hz hb hB (.cells #[.int .i64 t.kind, .int .i64 t.num, .string t.text, .slice a t.items.length c] 24)
        exact ⟨0, n - 1, rfl, by omega, by omega, rfl, by omega, by omega, s1, s2, s3⟩
      case round =>
        obtain ⟨j, m, rfl, hj, hk, Hc, hm1, hm2, hcr, hzr, hbw⟩ := hrel
        have Hk : Hid _ := hk
        clear hk hc hz hn0 hn1 hn2 hn3 hBw
        by_cases hlt : j < t.items.length
        · obtain ⟨b1, o1, rfl, hall1⟩ := Hr.out (by intro e; simp [e] at hlt)
          obtain ⟨x, p0, p1, p2, p3, p4, _⟩ := hall1 j hlt
          clear hall1
          obtain ⟨ax, cx, rfl, _⟩ := Lies.slice p4
          have p0 := cell_keeps hbw.below p0; have p1 := cell_keeps hbw.below p1; have p2 := cell_keeps hbw.below p2; have p3 := cell_keeps hbw.below p3
          have p4 : Hid (Lies d w0 t.items[j].items (.slice ax t.items[j].items.length cx)) := p4
          have hl1 : b1 < wr.heap.size := cell_lt p0
          have Hd : Hid (t.items.drop j = t.items[j] :: t.items.drop (j + 1)) := List.drop_eq_getElem_cons hlt
          have hlr : B < wr.heap.size := cell_lt hcr
          go_wp2_with fail
          have hfc := hf.out t.items[j] (.slice ax t.items[j].items.length cx) m
          refine (hfc _ (List.getElem_mem hlt) (by omega) p4.out (hbw.alloc _) ?_ ?_ hm1 hm2).mono ?_
          · rw [World.cell?_alloc_past _ B 0 hlr]; exact hcr
          · rw [World.frozen?_alloc_past _ B 0 hlr]; exact hzr
          · rintro e w1 ⟨rfl, hc1, hz1, hb2⟩
            have hrg := hfr.out t.items[j] m hm1
            clear hfc p0 p1 p2 p3 p4 hf hcr hzr hbw
            cases hfx : (f t.items[j] m).1
            · go_wp2_with fail
              go_ret
              have e1 : fwL f t.items (n - 1) = (false, (f t.items[j] m).2) := by
                rw [Hc.out, Hd.out]; unfold fwL; rw [if_neg (by simp [hfx])]
              rw [e1]
              exact ⟨rfl, hc1, hz1, hb2⟩
            · go_wp2_with fail
              go_roundg (t.items.length - (j + 1))
              case measure => have := Hk.out; omega
              case rel =>
                refine ⟨j + 1, (f t.items[j] m).2, by go_num, by omega, rfl, ?_, by omega, by omega, hc1, hz1, hb2⟩
                show _ = _
                rw [Hc.out, Hd.out]
                conv => lhs; unfold fwL
                rw [if_pos hfx]
        · have e1 : Hid (fwL f t.items (n - 1) = (true, m)) := by
            show _ = _
            rw [Hc.out, List.drop_eq_nil_of_le (by omega)]; rfl
          clear Hc Hr hf
          go_wp2_with fail
          go_ret
          rw [e1.out]
          exact ⟨rfl, hcr, hzr, hbw⟩
    · have hn4 : n = 0 := by simpa using hn0
      rw [if_pos (Or.inr hn4)]
      clear hn4
      go_enter Tryz.func67, Tryz.ntmps67
      go_wp2_with fail
      go_ret
      exact ⟨rfl, by simpa using cell_keeps ((Below.refl _ _).alloc (Nat.le_refl _) _) hc, by rw [((Below.refl w.heap.size w).alloc (Nat.le_refl _) _).frozen hBw]; exact hz, hb.alloc _⟩

theorem fitsWithin_any : ∀ (d : Nat) (t : VT) (u : Value) (w0 w : World) (B : Nat) (lv n : Int), Lies d w0 t.items u → Grew w0 w → w0.heap.size ≤ B → w.cell? ⟨B, 0, none⟩ = some (.int .i64 n) → w.frozen? ⟨B, 0, none⟩ = false →
    -1 ≤ lv → lv ≤ 16 → 0 ≤ n → n ≤ 1024 → Calls Tryz.prog 67 #[.agg #[.int .i64 t.kind, .int .i64 t.num, .string t.text, u], .int .i64 lv, .pointer (some ⟨B, 0, none⟩)] w (FwPost w0 B (fw d t lv n)) := by
  intro d
  induction d with
  | zero =>
    intro t u w0 w B lv n hu hb hB hc hz h1 h2 h3 h4
    have e1 : t.items = [] := hu.1
    have h := fitsWithin_core 0 (fun _ m => (true, m)) (fun _ m hm => ⟨hm, Int.le_refl _⟩) t u w0 w B lv n (Lies.deeper _ _ _ hu) hb hB hc hz h1 h2 h3 h4 (fun x _ _ _ hx => by rw [e1] at hx; cases hx)
    rw [e1] at h
    exact h
  | succ d ih =>
    intro t u w0 w B lv n hu hb hB hc hz h1 h2 h3 h4
    exact fitsWithin_core d (fun x m => fw d x (lv - 1) m) (fun x m hm => fw_range d x (lv - 1) m hm) t u w0 w B lv n hu hb hB hc hz h1 h2 h3 h4 (fun x v m W _ h0 hl hbW hcW hzW hm1 hm2 => ih x v w0 W B (lv - 1) m hl hbW hB hcW hzW (by omega) (by omega) hm1 hm2)

set_option maxHeartbeats 1000000 in
theorem fits_grew (d : Nat) (t : VT) (u : Value) (w : World) (hu : Lies d w t.items u) :
    Calls Tryz.prog 45 #[.agg #[.int .i64 t.kind, .int .i64 t.num, .string t.text, u]] w fun e w' => e = .returned (.bool (fw d t 16 1024).1) ∧ Grew w w' := by
  obtain ⟨a, c, rfl, _⟩ := Lies.slice hu
  have HL : Hid _ := hu
  clear hu
  go_enter Tryz.func45, Tryz.ntmps45
  go_wp2_with fail
  refine (fitsWithin_any d t _ w _ (w.heap.size + 1) 16 1024 HL.out (Grew.two _ _ _) (by omega) (by simp) (by simp) (by omega) (by omega) (by omega) (by omega)).mono ?_
  rintro e w1 ⟨rfl, _, _, hb⟩
  go_wp2_with fail
  go_ret
  exact ⟨rfl, hb⟩

theorem fits_any (d : Nat) (t : VT) (u : Value) (w : World) (hu : Lies d w t.items u) :
    Calls Tryz.prog 45 #[.agg #[.int .i64 t.kind, .int .i64 t.num, .string t.text, u]] w fun e w' => e = .returned (.bool (fw d t 16 1024).1) ∧ Below w.heap.size w w' :=
  Calls.mono (fits_grew d t u w hu) fun _ _ h => ⟨h.1, h.2.below⟩

/-- Whoever fits has no list longer than 1024. -/
theorem fwL_len {f : VT → Int → Bool × Int} (hf : ∀ x m, 0 ≤ m → 0 ≤ (f x m).2) (hg : ∀ x m, 0 ≤ m → (f x m).1 = true → (f x m).2 ≤ m - 1) : ∀ (l : List VT) (n : Int), 0 ≤ n → (fwL f l n).1 = true → (l.length : Int) ≤ n ∧ (fwL f l n).2 ≤ n - l.length ∧ ∀ x ∈ l, ∃ m, 0 ≤ m ∧ m ≤ n ∧ (f x m).1 = true := by
  intro l
  induction l with
  | nil => intro n h _; exact ⟨by simp; omega, by simp [fwL], fun x hx => by cases hx⟩
  | cons x l ih =>
    intro n h hh
    unfold fwL at hh ⊢
    by_cases hx : (f x n).1 = true
    · rw [if_pos hx] at hh ⊢
      have h1 := hf x n h
      have h2 := hg x n h hx
      obtain ⟨i1, i2, i3⟩ := ih (f x n).2 h1 hh
      refine ⟨by simp only [List.length_cons]; omega, by simp only [List.length_cons]; omega, fun y hy => ?_⟩
      rcases List.mem_cons.1 hy with rfl | hy
      · exact ⟨n, h, Int.le_refl _, hx⟩
      · obtain ⟨m, m1, m2, m3⟩ := i3 y hy
        exact ⟨m, m1, by omega, m3⟩
    · rw [if_neg hx] at hh; cases hh

theorem fw_less : ∀ (d : Nat) (t : VT) (lv n : Int), 0 ≤ n → (fw d t lv n).1 = true → (fw d t lv n).2 ≤ n - 1 := by
  intro d
  cases d with
  | zero =>
    intro t lv n h hh
    unfold fw at hh ⊢
    by_cases hx : lv < 0 ∨ n = 0
    · rw [if_pos hx] at hh; cases hh
    · rw [if_neg hx]; exact Int.le_refl _
  | succ d =>
    intro t lv n h hh
    unfold fw at hh ⊢
    by_cases hx : lv < 0 ∨ n = 0
    · rw [if_pos hx] at hh; cases hh
    · rw [if_neg hx]
      exact (fwL_range (f := fun x m => fw d x (lv - 1) m) (fun x m hm => fw_range d x (lv - 1) m hm) t.items (n - 1) (by omega)).2

theorem fw_small : ∀ (d : Nat) (t : VT) (lv n : Int), 0 ≤ n → n ≤ 1024 → (fw d t lv n).1 = true → Sm d t := by
  intro d
  induction d with
  | zero => intro t lv n _ _ _; trivial
  | succ d ih =>
    intro t lv n h h2 hh
    unfold fw at hh
    by_cases hx : lv < 0 ∨ n = 0
    · rw [if_pos hx] at hh; cases hh
    · rw [if_neg hx] at hh
      obtain ⟨i1, _, i3⟩ := fwL_len (f := fun x m => fw d x (lv - 1) m) (fun x m hm => (fw_range d x (lv - 1) m hm).1) (fun x m hm hb => fw_less d x (lv - 1) m hm hb) t.items (n - 1) (by omega) hh
      refine ⟨by omega, fun x hxm => ?_⟩
      obtain ⟨m, m1, m2, m3⟩ := i3 x hxm
      exact ih x (lv - 1) m m1 (by omega) m3

/-- Is a value right? -/
def rightV (d : Nat) (t : VT) : Bool := (fw d t 16 1024).1 && rpV d t

def errOf (b : Bool) : Int := if b then 0 else 3

set_option maxHeartbeats 1000000 in
theorem check_grew (d : Nat) (t : VT) (u : Value) (w : World) (hu : Lies d w t.items u) (hs : t.text.size ≤ 9223372036854775807) :
    Calls Tryz.prog 22 #[.agg #[.int .i64 t.kind, .int .i64 t.num, .string t.text, u]] w fun e w' => e = .returned (.int .i64 (errOf (rightV d t))) ∧ Grew w w' := by
  obtain ⟨a, c, rfl, _⟩ := Lies.slice hu
  have HL : Hid _ := fun (o : Obj) => Lies.keeps ((Grew.refl w).alloc o).below _ _ _ hu
  have HL0 : Hid _ := hu
  clear hu
  go_enter Tryz.func22, Tryz.ntmps22
  go_wp2_with fail
  refine (fits_grew d t _ _ (HL.out _)).mono ?_
  rintro e w1 ⟨rfl, hb⟩
  have hb1 : Grew w w1 := ((Grew.refl w).alloc _).trans hb
  obtain ⟨c0, c1, c2, c3⟩ := (boxed_alloc w t.kind t.num t.text (.slice a t.items.length c) 24).keeps hb.below
  clear hb
  cases hf : (fw d t 16 1024).1
  · go_wp2_with fail
    go_ret
    exact ⟨ret_int (by simp [rightV, hf, errOf]), hb1⟩
  · have hsm := fw_small d t 16 1024 (by omega) (by omega) hf
    have Hsm : Hid _ := hsm
    clear hsm
    go_wp2_with fail
    refine (rightParts_any d t _ _ (Lies.keeps hb1.below _ _ _ HL0.out) Hsm.out hs).mono ?_
    rintro e w2 ⟨rfl, hg⟩
    have hb2 : Grew w w2 := hb1.trans hg
    clear hg
    cases hp : rpV d t
    · go_wp2_with fail
      go_ret
      exact ⟨ret_int (by simp [rightV, hp, errOf]), hb2⟩
    · go_wp2_with fail
      go_ret
      exact ⟨ret_int (by simp [rightV, hf, hp, errOf]), hb2⟩

theorem check_any (d : Nat) (t : VT) (u : Value) (w : World) (hu : Lies d w t.items u) (hs : t.text.size ≤ 9223372036854775807) :
    Calls Tryz.prog 22 #[.agg #[.int .i64 t.kind, .int .i64 t.num, .string t.text, u]] w fun e w' => e = .returned (.int .i64 (errOf (rightV d t))) ∧ Below w.heap.size w w' :=
  Calls.mono (check_grew d t u w hu hs) fun _ _ h => ⟨h.1, h.2.below⟩

end Go.Proofs.YtofceccicmlmoaaGreat

namespace Go.Proofs.YtofceccicmlmoaaGreat
open Go.RowKit

theorem cmpL_zero {f : VT → VT → Int} {g : VT → VT → Bool} : ∀ (l m : List VT), (∀ x ∈ l, ∀ y ∈ m, (f x y = 0 ↔ g x y = true)) → (cmpL f l m = 0 ↔ (l.length = m.length ∧ all2 g l m = true)) := by
  intro l
  induction l with
  | nil => intro m _; cases m <;> simp [cmpL, all2]
  | cons x l ih =>
    intro m h
    cases m with
    | nil => simp [cmpL]
    | cons y m =>
      have h0 := h x (List.mem_cons_self) y (List.mem_cons_self)
      have h1 := ih m (fun a ha b hb => h a (List.mem_cons_of_mem _ ha) b (List.mem_cons_of_mem _ hb))
      simp only [cmpL, all2, List.length_cons, Bool.and_eq_true]
      by_cases e : f x y = 0
      · rw [if_pos e, h1]
        have := h0.1 e
        constructor
        · rintro ⟨a, b⟩; exact ⟨by omega, this, b⟩
        · rintro ⟨a, _, b⟩; exact ⟨by omega, b⟩
      · rw [if_neg e]
        constructor
        · intro h; exact absurd h e
        · rintro ⟨_, hh, _⟩; exact absurd (h0.2 hh) e

theorem cmpS_zero (a b : ByteArray) : cmpS a b = 0 ↔ (a.toList == b.toList) = true := by
  unfold cmpS
  cases h1 : Op.bytesLess a.toList b.toList
  · cases h2 : (a.toList == b.toList) <;> simp
  · have : (a.toList == b.toList) = false := by
      rw [beq_eq_false_iff_ne]
      intro e
      rw [e, bl_irrefl] at h1; cases h1
    simp [this]

theorem cmpI_zero_iff (a b : Int) : cmpI a b = 0 ↔ (a == b) = true := by
  constructor
  · intro h; simp [cmpI_zero a b h]
  · intro h
    have : a = b := by simpa using h
    subst this
    unfold cmpI
    simp

/-- What a right part of each kind holds. -/
theorem own_facts {d : Nat} {t : VT} (h : ownV d t = true) : 0 ≤ t.kind ∧ t.kind ≤ 6 ∧ (t.kind ≠ 1 → t.kind ≠ 2 → t.num = 0) ∧ (t.kind ≠ 3 → t.text.toList = []) ∧ (t.kind ≠ 4 → t.kind ≠ 5 → t.kind ≠ 6 → t.items.length = 0) := by
  simp only [ownV, Bool.and_eq_true, decide_eq_true_eq] at h
  obtain ⟨h0, h6, hn, ht, hi⟩ := h
  refine ⟨h0, h6, fun n1 n2 => ?_, fun n3 => ?_, fun n4 n5 n6 => ?_⟩
  · simp only [okNum] at hn
    rw [if_neg (by simpa using n2), if_neg (by simpa using n1)] at hn
    simpa using hn
  · simp only [okText] at ht
    rw [if_neg (by simpa using n3)] at ht
    simpa using ht
  · simp only [okItems] at hi
    rw [if_neg (by simpa using n4), if_neg (by simpa using n5), if_neg (by simpa using n6)] at hi
    simp only [beq_iff_eq] at hi
    omega

theorem eq_core {d : Nat} {f : VT → VT → Int} {g : VT → VT → Bool} {a b : VT} (ha : ownV d a = true) (hb : ownV d b = true) (hfg : ∀ x ∈ a.items, ∀ y ∈ b.items, (f x y = 0 ↔ g x y = true)) :
    cmpN f a b = 0 ↔ (headS a b && all2 g a.items b.items) = true := by
  obtain ⟨a0, a6, an, at', ai⟩ := own_facts ha
  obtain ⟨b0, b6, bn, bt, bi⟩ := own_facts hb
  by_cases hk : a.kind = b.kind
  · rw [cmpN_same f a b hk]
    unfold sameK
    simp only [headS, Bool.and_eq_true, beq_iff_eq]
    by_cases k1 : a.kind = 1 ∨ a.kind = 2
    · rw [if_pos k1]
      have e1 := at' (by omega)
      have e2 := bt (by omega)
      have e3 := List.eq_nil_of_length_eq_zero (ai (by omega) (by omega) (by omega))
      have e4 := List.eq_nil_of_length_eq_zero (bi (by omega) (by omega) (by omega))
      rw [cmpI_zero_iff, e1, e2, e3, e4]
      simp [hk, all2]
    · rw [if_neg k1]
      have n1 := an (by omega) (by omega)
      have n2 := bn (by omega) (by omega)
      by_cases k3 : a.kind = 3
      · rw [if_pos k3]
        have e3 := List.eq_nil_of_length_eq_zero (ai (by omega) (by omega) (by omega))
        have e4 := List.eq_nil_of_length_eq_zero (bi (by omega) (by omega) (by omega))
        rw [cmpS_zero, n1, n2, e3, e4]
        simp [hk, all2]
      · rw [if_neg k3]
        have e1 := at' k3
        have e2 := bt (by omega)
        by_cases k4 : a.kind = 4 ∨ a.kind = 5 ∨ a.kind = 6
        · rw [if_pos k4, cmpL_zero a.items b.items hfg, n1, n2, e1, e2]
          simp [hk]
        · rw [if_neg k4]
          have e3 := List.eq_nil_of_length_eq_zero (ai (by omega) (by omega) (by omega))
          have e4 := List.eq_nil_of_length_eq_zero (bi (by omega) (by omega) (by omega))
          rw [n1, n2, e1, e2, e3, e4]
          simp [hk, all2]
  · have h1 : cmpN f a b ≠ 0 := by
      unfold cmpN
      rw [if_pos hk]
      exact fun e => hk (cmpI_zero _ _ e)
    have h2 : (headS a b && all2 g a.items b.items) = false := by simp [headS, hk]
    constructor
    · intro h; exact absurd h h1
    · intro h; rw [h2] at h; cases h

theorem eq_same : ∀ (d : Nat) (a b : VT), rpV d a = true → rpV d b = true → (cmpV d a b = 0 ↔ sameV d a b = true) := by
  intro d
  induction d with
  | zero =>
    intro a b ha hb
    have h := eq_core (f := fun _ _ => 0) (g := fun _ _ => true) ha hb (fun _ _ _ _ => by simp)
    have e : ∀ l m : List VT, all2 (fun _ _ => true) l m = true := by
      intro l
      induction l with
      | nil => intro m; rfl
      | cons x l ih => intro m; cases m with
        | nil => rfl
        | cons y m => simp [all2, ih]
    rw [e, Bool.and_true] at h
    exact h
  | succ d ih =>
    intro a b ha hb
    simp only [rpV, Bool.and_eq_true, List.all_eq_true] at ha hb
    exact eq_core ha.2 hb.2 (fun x hx y hy => ih x y (ha.1 x hx) (hb.1 y hy))

theorem right_same (d : Nat) (a b : VT) (ha : rightV d a = true) (hb : rightV d b = true) : (cmpV d a b == 0) = sameV d a b := by
  simp only [rightV, Bool.and_eq_true] at ha hb
  have h := eq_same d a b ha.2 hb.2
  rw [Bool.eq_iff_iff, beq_iff_eq]
  exact h

end Go.Proofs.YtofceccicmlmoaaGreat

namespace Go.Proofs.YtofceccicmlmoaaGreat
open Go.RowKit

/-- What rule R1 finds wrong first in a list. -/
def listErr (d : Nat) (l : List VT) : Int := if 65536 < l.length then 2 else if l.all (rightV d) then 0 else 3

set_option maxHeartbeats 1000000 in
theorem checkAll_any (d : Nat) (l : List VT) (u : Value) (w : World) (hu : Lies (d + 1) w l u) :
    Calls Tryz.prog 49 #[u, .func (.func 22) #[] #[]] w fun e w' => e = .returned (.int .i64 (listErr d l)) ∧ Below w.heap.size w w' := by
  obtain ⟨a, c, rfl, hb1, hr1⟩ := hu
  have Hr : Hid _ := hr1
  clear hr1
  by_cases hlong : 65536 < l.length
  · have hlong' : (65536 : Int) < (l.length : Int) := by omega
    have Hfin : Hid (listErr d l = 2) := if_pos hlong
    clear hlong
    go_enter Tryz.func49, Tryz.ntmps49
    go_wp2_with fail
    go_ret
    exact ⟨ret_int Hfin.out.symm, Below.refl _ _⟩
  · have hlong' : ¬ (65536 : Int) < (l.length : Int) := by omega
    have Hfin : Hid (listErr d l = if l.all (rightV d) then 0 else 3) := if_neg hlong
    go_enter Tryz.func49, Tryz.ntmps49
    go_wp2_with fail
    go_loopg [13] l.length (fun g i wr => ∃ j : Nat, i = .int .i64 (j : Int) ∧ j ≤ l.length ∧ g = l.length - j ∧ Hid (l.all (rightV d) = (l.drop j).all (rightV d)) ∧ Below w.heap.size w wr)
    case atStart => exact ⟨0, rfl, by omega, by omega, rfl, Below.refl _ _⟩
    case round =>
      obtain ⟨j, rfl, hj, hk, Hc, hbw⟩ := hrel
      have Hk : Hid _ := hk
      clear hk
      by_cases hlt : j < l.length
      · obtain ⟨b1, o1, rfl, hall1⟩ := Hr.out (by intro e; simp [e] at hlt)
        obtain ⟨x, p0, p1, p2, p3, p4, p5⟩ := hall1 j hlt
        clear hall1
        obtain ⟨ax, cx, rfl, _⟩ := Lies.slice p4
        have p0 := cell_keeps hbw p0; have p1 := cell_keeps hbw p1; have p2 := cell_keeps hbw p2; have p3 := cell_keeps hbw p3
        have p4 : Hid (Lies d w l[j].items (.slice ax l[j].items.length cx)) := p4
        have hl1 : b1 < wr.heap.size := cell_lt p0
        have Hd : Hid (l.drop j = l[j] :: l.drop (j + 1)) := List.drop_eq_getElem_cons hlt
        have hws2 : w.heap.size ≤ wr.heap.size := hbw.size
        go_wp2_with fail
        refine (check_any d l[j] _ _ (Lies.keeps (hbw.alloc hws2 _) _ _ _ p4.out) p5).mono ?_
        rintro e w1 ⟨rfl, hg⟩
        have hb2 : Below w.heap.size w w1 := (hbw.alloc hws2 _).trans (hg.mono (by simp; omega))
        clear hg p0 p1 p2 p3 p4
        cases hx : rightV d l[j]
        · have he : errOf false = 3 := rfl
          rw [he]
          clear he
          go_wp2_with fail
          go_ret
          exact ⟨ret_int (by rw [Hfin.out, Hc.out, Hd.out, List.all_cons, hx]; rfl), hb2⟩
        · have he : errOf true = 0 := rfl
          rw [he]
          clear he
          go_wp2_with fail
          go_roundg (l.length - (j + 1))
          case measure => have := Hk.out; omega
          case rel =>
            refine ⟨j + 1, by go_num, by omega, rfl, ?_, hb2⟩
            show _ = _
            rw [Hc.out, Hd.out, List.all_cons, hx]; rfl
      · have Hd : Hid (l.all (rightV d) = true) := by
          show _ = _
          rw [Hc.out, List.drop_eq_nil_of_le (by omega)]; rfl
        clear Hc Hr
        go_wp2_with fail
        go_ret
        exact ⟨ret_int (by rw [Hfin.out, Hd.out]; rfl), hbw⟩

theorem checkList_any (d : Nat) (l : List VT) (u : Value) (w : World) (hu : Lies (d + 1) w l u) :
    Calls Tryz.prog 103 #[u] w fun e w' => e = .returned (.int .i64 (listErr d l)) ∧ Below w.heap.size w w' := by
  obtain ⟨a, c, rfl, _⟩ := Lies.slice hu
  have HL : Hid (Lies (d + 1) w l (.slice a l.length c)) := hu
  clear hu
  go_enter Tryz.func103, Tryz.ntmps103
  go_wp2_with fail
  refine (checkAll_any d l _ _ HL.out).mono ?_
  rintro e w1 ⟨rfl, hb⟩
  go_wp2_with fail
  go_ret
  exact ⟨rfl, hb⟩

end Go.Proofs.YtofceccicmlmoaaGreat

