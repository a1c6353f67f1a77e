/-
  How deep a tree is; the contracts of depth, Deep, and of the document's Parts, Check and Deep.
-/
import Derived.Test.YtfedbbicolbngaaFits
import Derived.Test.YtfedbbicolbngaaParts
namespace Go.Proofs.Ytfedbbicolbngaa
open Go.RowKit

def dpS (f : VT → Int) (m : Int) (x : VT) : Int := if m < 1 + f x then 1 + f x else m

def dpV : Nat → VT → Int
  | 0, _ => 0
  | d + 1, t => t.items.foldl (dpS (dpV d)) 0

theorem dp_step {f : VT → Int} (l : List VT) (j : Nat) (h : j < l.length) : (l.take (j + 1)).foldl (dpS f) 0 = dpS f ((l.take j).foldl (dpS f) 0) l[j] := by
  rw [List.take_succ_eq_append_getElem h, List.foldl_append]
  rfl

theorem dp_fold {f : VT → Int} {B : Int} (l : List VT) (h : ∀ x ∈ l, 1 + f x ≤ B) : ∀ m, 0 ≤ m → m ≤ B → 0 ≤ l.foldl (dpS f) m ∧ l.foldl (dpS f) m ≤ B := by
  induction l with
  | nil => intro m h0 h1; exact ⟨h0, h1⟩
  | cons x l ih =>
    intro m h0 h1
    have hx := h x List.mem_cons_self
    refine ih (fun y hy => h y (List.mem_cons_of_mem _ hy)) _ ?_ ?_
    · unfold dpS; split <;> omega
    · unfold dpS; split <;> omega

theorem dp_fits : ∀ (d : Nat) (t : VT) (lv n : Int), 0 ≤ n → (fw d t lv n).1 = true → 0 ≤ dpV d t ∧ dpV d t ≤ lv := by
  intro d
  induction d with
  | zero =>
    intro t lv n h hh
    unfold fw at hh
    by_cases hx : lv < 0 ∨ n = 0
    · rw [if_pos hx] at hh; cases hh
    · exact ⟨Int.le_refl _, by show 0 ≤ lv; omega⟩
  | succ d ih =>
    intro t lv n h hh
    unfold fw at hh
    by_cases hx : lv < 0 ∨ n = 0
    · rw [if_pos hx] at hh; cases hh
    · rw [if_neg hx] at hh
      obtain ⟨_, _, i3⟩ := fwL_len (f := fun x m => fw d x (lv - 1) m) (fun x m hm => (fw_range d x (lv - 1) m hm).1) (fun x m hm hb => fw_less d x (lv - 1) m hm hb) t.items (n - 1) (by omega) hh
      refine dp_fold t.items (fun x hxm => ?_) 0 (by omega) (by omega)
      obtain ⟨m, m1, _, m3⟩ := i3 x hxm
      have := ih x (lv - 1) m m1 m3
      omega

/-- Nowhere deeper than 16, and no list longer than 1024. -/
def Shal : Nat → VT → Prop
  | 0, _ => True
  | d + 1, t => t.items.length ≤ 1024 ∧ ∀ x ∈ t.items, 0 ≤ dpV d x ∧ dpV d x ≤ 16 ∧ Shal d x

theorem shal_of : ∀ (d : Nat) (t : VT) (lv n : Int), 0 ≤ n → n ≤ 1024 → lv ≤ 16 → (fw d t lv n).1 = true → Shal d t := by
  intro d
  induction d with
  | zero => intro t lv n _ _ _ _; trivial
  | succ d ih =>
    intro t lv n h h2 hl hh
    unfold fw at hh
    by_cases hx : lv < 0 ∨ n = 0
    · rw [if_pos hx] at hh; cases hh
    · rw [if_neg hx] at hh
      obtain ⟨i1, _, i3⟩ := fwL_len (f := fun x m => fw d x (lv - 1) m) (fun x m hm => (fw_range d x (lv - 1) m hm).1) (fun x m hm hb => fw_less d x (lv - 1) m hm hb) t.items (n - 1) (by omega) hh
      refine ⟨by omega, fun x hxm => ?_⟩
      obtain ⟨m, m1, m2, m3⟩ := i3 x hxm
      have := dp_fits d x (lv - 1) m m1 m3
      exact ⟨this.1, by omega, ih x (lv - 1) m m1 (by omega) (by omega) m3⟩

theorem shal_right {d : Nat} {t : VT} (h : rightV d t = true) : Shal d t := by
  unfold rightV at h
  rw [Bool.and_eq_true] at h
  exact shal_of d t 16 1024 (by omega) (by omega) (by omega) h.1

set_option maxHeartbeats 1000000 in
theorem depth_core (d : Nat) (f : VT → Int) (t : VT) (u : Value) (w : World) (hu : Lies (d + 1) w t.items u) (hlen : t.items.length ≤ 1024) (hfb : Hid (∀ x ∈ t.items, 0 ≤ f x ∧ f x ≤ 16))
    (hf : Hid (∀ (x : VT) (v : Value) (W : World), x ∈ t.items → Lies d W x.items v →
      Calls Try.prog 34 #[.agg #[.int .i64 x.kind, .int .i64 x.num, .string x.text, v]] W fun e W' => e = .returned (.int .i64 (f x)) ∧ Below W.heap.size W W')) :
    Calls Try.prog 34 #[.agg #[.int .i64 t.kind, .int .i64 t.num, .string t.text, u]] w fun e w' => e = .returned (.int .i64 (t.items.foldl (dpS f) 0)) ∧ Below w.heap.size w w' := by
  obtain ⟨a, c, rfl, hb1, hr1⟩ := hu
  have Hr : Hid _ := hr1
  clear hr1
  have hal := ((Grew.refl w).alloc (.cells #[.int .i64 t.kind, .int .i64 t.num, .string t.text, .slice a t.items.length c] 24)).below
  go_enter Try.func34, Try.ntmps34
  go_wp2_with fail
  go_loopg [3, 9] t.items.length (fun g n i wr => ∃ (j : Nat) (m : Int), i = .int .i64 (j : Int) ∧ n = .int .i64 m ∧ j ≤ t.items.length ∧ g = t.items.length - j ∧ 0 ≤ m ∧ m ≤ 17 ∧ Hid ((t.items.take j).foldl (dpS f) 0 = m) ∧ Below w.heap.size w wr)
  case atStart => exact ⟨0, 0, rfl, rfl, by omega, by omega, by omega, by omega, rfl, hal⟩
  case round =>
    obtain ⟨j, m, rfl, rfl, hj, hk, hm1, hm2, Hc, hbw⟩ := hrel
    have Hk : Hid _ := hk
    clear hk
    by_cases hlt : j < t.items.length
    · obtain ⟨b1, o1, rfl, hall1⟩ := Hr.out (by intro e; simp [e] at hlt)
      obtain ⟨x, p0, p1, p2, p3, p4, _⟩ := hall1 j hlt
      clear hall1
      obtain ⟨ax, cx, rfl, _⟩ := Lies.slice p4
      have p0 := cell_keeps hbw p0; have p1 := cell_keeps hbw p1; have p2 := cell_keeps hbw p2; have p3 := cell_keeps hbw p3
      have p4 : Hid (Lies d w t.items[j].items (.slice ax t.items[j].items.length cx)) := p4
      have hws : w.heap.size ≤ wr.heap.size := hbw.size
      have hfx := hfb.out t.items[j] (List.getElem_mem hlt)
      have Hst : Hid ((t.items.take (j + 1)).foldl (dpS f) 0 = dpS f m t.items[j]) := by
        show _ = _
        rw [dp_step t.items j hlt, Hc.out]
      go_wp2_with fail
      have hfc := hf.out t.items[j] (.slice ax t.items[j].items.length cx)
      refine (hfc _ (List.getElem_mem hlt) (Lies.keeps (hbw.alloc hws _) _ _ _ p4.out)).mono ?_
      rintro e w1 ⟨rfl, hg⟩
      have hb2 : Below w.heap.size w w1 := (hbw.alloc hws _).trans (hg.mono (by simp; omega))
      clear hg hfc p0 p1 p2 p3 p4 hf Hc
      by_cases hmx : m < 1 + f t.items[j]
      · have h1 := Hst.out
        unfold dpS at h1
        rw [if_pos hmx] at h1
        have H1 : Hid ((t.items.take (j + 1)).foldl (dpS f) 0 = 1 + f t.items[j]) := h1
        clear h1 Hst
        generalize f t.items[j] = F at *
        have hc1 : m < F + 1 := by omega
        have hc2 : ¬ (F + 1 ≤ m) := by omega
        have hc3 : ¬ (F + 1 < m) := by omega
        have hmaxE : max m (F + 1) = F + 1 := by omega
        go_wp2_with fail
        go_roundg (t.items.length - (j + 1))
        case measure => have := Hk.out; omega
        case rel => exact ⟨j + 1, 1 + F, by go_num, by go_num, by omega, rfl, by omega, by omega, H1, hb2⟩
      · have h1 := Hst.out
        unfold dpS at h1
        rw [if_neg hmx] at h1
        have H1 : Hid ((t.items.take (j + 1)).foldl (dpS f) 0 = m) := h1
        clear h1 Hst
        generalize f t.items[j] = F at *
        have hc1 : ¬ (m < F + 1) := by omega
        have hc2 : F + 1 ≤ m := by omega
        have hmaxE : max m (F + 1) = m := by omega
        go_wp2_with fail
        go_roundg (t.items.length - (j + 1))
        case measure => have := Hk.out; omega
        case rel => exact ⟨j + 1, m, by go_num, by go_num, by omega, rfl, by omega, by omega, H1, hb2⟩
    · have hfin : Hid (t.items.foldl (dpS f) 0 = m) := by
        have := Hc.out
        rw [List.take_of_length_le (by omega)] at this
        exact this
      clear Hc hf
      go_wp2_with fail
      go_ret
      rw [hfin.out]
      exact ⟨rfl, hbw⟩

theorem depth_any : ∀ (d : Nat) (t : VT) (u : Value) (w : World), Lies d w t.items u → Shal d t →
    Calls Try.prog 34 #[.agg #[.int .i64 t.kind, .int .i64 t.num, .string t.text, u]] w fun e w' => e = .returned (.int .i64 (dpV d t)) ∧ Below w.heap.size w w' := by
  intro d
  induction d with
  | zero =>
    intro t u w hu _
    have e1 : t.items = [] := hu.1
    have h := depth_core 0 (fun _ => 0) t u w (Lies.deeper _ _ _ hu) (by rw [e1]; simp) (fun x hx => by rw [e1] at hx; cases hx) (fun x _ _ hx => by rw [e1] at hx; cases hx)
    rw [e1] at h
    exact h
  | succ d ih =>
    intro t u w hu hs
    exact depth_core d (dpV d) t u w hu hs.1 (fun x hx => ⟨(hs.2 x hx).1, (hs.2 x hx).2.1⟩) (fun x v W hx hl => ih x v W hl (hs.2 x hx).2.2)

set_option maxHeartbeats 1000000 in
theorem rdepth_core (d : Nat) (f : VT → Int) (t : VT) (u : Value) (w : World) (hu : Lies (d + 1) w t.items u) (hlen : t.items.length ≤ 1024) (hfb : Hid (∀ x ∈ t.items, 0 ≤ f x ∧ f x ≤ 16))
    (hf : Hid (∀ (x : VT) (v : Value) (W : World), x ∈ t.items → Lies d W x.items v →
      Calls Try.prog 36 #[.agg #[.int .i64 x.kind, .int .i64 x.num, .string x.text, v]] W fun e W' => e = .returned (.int .i64 (f x)) ∧ Below W.heap.size W W')) :
    Calls Try.prog 36 #[.agg #[.int .i64 t.kind, .int .i64 t.num, .string t.text, u]] w fun e w' => e = .returned (.int .i64 (t.items.foldl (dpS f) 0)) ∧ Below w.heap.size w w' := by
  obtain ⟨a, c, rfl, hb1, hr1⟩ := hu
  have Hr : Hid _ := hr1
  clear hr1
  have hal := ((Grew.refl w).alloc (.cells #[.int .i64 t.kind, .int .i64 t.num, .string t.text, .slice a t.items.length c] 24)).below
  go_enter Try.func36, Try.ntmps36
  go_wp2_with fail
  go_loopg [3, 10] t.items.length (fun g n i wr => ∃ (j : Nat) (m : Int), i = .int .i64 (j : Int) ∧ n = .int .i64 m ∧ j ≤ t.items.length ∧ g = t.items.length - j ∧ 0 ≤ m ∧ m ≤ 17 ∧ Hid ((t.items.take j).foldl (dpS f) 0 = m) ∧ Below w.heap.size w wr)
  case atStart => exact ⟨0, 0, rfl, rfl, by omega, by omega, by omega, by omega, rfl, hal⟩
  case round =>
    obtain ⟨j, m, rfl, rfl, hj, hk, hm1, hm2, Hc, hbw⟩ := hrel
    have Hk : Hid _ := hk
    clear hk
    by_cases hlt : j < t.items.length
    · obtain ⟨b1, o1, rfl, hall1⟩ := Hr.out (by intro e; simp [e] at hlt)
      obtain ⟨x, p0, p1, p2, p3, p4, _⟩ := hall1 j hlt
      clear hall1
      obtain ⟨ax, cx, rfl, _⟩ := Lies.slice p4
      have p0 := cell_keeps hbw p0; have p1 := cell_keeps hbw p1; have p2 := cell_keeps hbw p2; have p3 := cell_keeps hbw p3
      have p4 : Hid (Lies d w t.items[j].items (.slice ax t.items[j].items.length cx)) := p4
      have hws : w.heap.size ≤ wr.heap.size := hbw.size
      have hfx := hfb.out t.items[j] (List.getElem_mem hlt)
      have Hst : Hid ((t.items.take (j + 1)).foldl (dpS f) 0 = dpS f m t.items[j]) := by
        show _ = _
        rw [dp_step t.items j hlt, Hc.out]
      go_wp2_with fail
      have hfc := hf.out t.items[j] (.slice ax t.items[j].items.length cx)
      refine (hfc _ (List.getElem_mem hlt) (Lies.keeps (hbw.alloc hws _) _ _ _ p4.out)).mono ?_
      rintro e w1 ⟨rfl, hg⟩
      have hb2 : Below w.heap.size w w1 := (hbw.alloc hws _).trans (hg.mono (by simp; omega))
      clear hg hfc p0 p1 p2 p3 p4 hf Hc
      by_cases hmx : m < 1 + f t.items[j]
      · have h1 := Hst.out
        unfold dpS at h1
        rw [if_pos hmx] at h1
        have H1 : Hid ((t.items.take (j + 1)).foldl (dpS f) 0 = 1 + f t.items[j]) := h1
        clear h1 Hst
        generalize f t.items[j] = F at *
        have hc1 : m < F + 1 := by omega
        have hc2 : ¬ (F + 1 ≤ m) := by omega
        have hc3 : ¬ (F + 1 < m) := by omega
        have hmaxE : max m (F + 1) = F + 1 := by omega
        go_wp2_with fail
        go_roundg (t.items.length - (j + 1))
        case measure => have := Hk.out; omega
        case rel => exact ⟨j + 1, 1 + F, by go_num, by go_num, by omega, rfl, by omega, by omega, H1, hb2⟩
      · have h1 := Hst.out
        unfold dpS at h1
        rw [if_neg hmx] at h1
        have H1 : Hid ((t.items.take (j + 1)).foldl (dpS f) 0 = m) := h1
        clear h1 Hst
        generalize f t.items[j] = F at *
        have hc1 : ¬ (m < F + 1) := by omega
        have hc2 : F + 1 ≤ m := by omega
        have hmaxE : max m (F + 1) = m := by omega
        go_wp2_with fail
        go_roundg (t.items.length - (j + 1))
        case measure => have := Hk.out; omega
        case rel => exact ⟨j + 1, m, by go_num, by go_num, by omega, rfl, by omega, by omega, H1, hb2⟩
    · have hfin : Hid (t.items.foldl (dpS f) 0 = m) := by
        have := Hc.out
        rw [List.take_of_length_le (by omega)] at this
        exact this
      clear Hc hf
      go_wp2_with fail
      go_ret
      rw [hfin.out]
      exact ⟨rfl, hbw⟩

theorem rdepth_any : ∀ (d : Nat) (t : VT) (u : Value) (w : World), Lies d w t.items u → Shal d t →
    Calls Try.prog 36 #[.agg #[.int .i64 t.kind, .int .i64 t.num, .string t.text, u]] w fun e w' => e = .returned (.int .i64 (dpV d t)) ∧ Below w.heap.size w w' := by
  intro d
  induction d with
  | zero =>
    intro t u w hu _
    have e1 : t.items = [] := hu.1
    have h := rdepth_core 0 (fun _ => 0) t u w (Lies.deeper _ _ _ hu) (by rw [e1]; simp) (fun x hx => by rw [e1] at hx; cases hx) (fun x _ _ hx => by rw [e1] at hx; cases hx)
    rw [e1] at h
    exact h
  | succ d ih =>
    intro t u w hu hs
    exact rdepth_core d (dpV d) t u w hu hs.1 (fun x hx => ⟨(hs.2 x hx).1, (hs.2 x hx).2.1⟩) (fun x v W hx hl => ih x v W hl (hs.2 x hx).2.2)

end Go.Proofs.Ytfedbbicolbngaa
