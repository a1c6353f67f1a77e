/-
  What is said of a value does not hang on the depth by which it is said, if that is deep enough; a right value is no deeper than 16. Plain mathematics.
-/
import Derived.Test.YtgihglodekoddaaOwn
import Derived.Test.YtgihglodekoddaaSame
namespace Go.Proofs.Ytgihglodekoddaa
open Go.RowKit

def rfL (f : VT → Int → Int) (most : Int) : List VT → Int → Int
  | [], n => n
  | x :: xs, n => if f x (most - n) < 0 then -1 else rfL f most xs (n + f x (most - n))

def rfN (own : Bool) (f : VT → Int → Int) (t : VT) (deep most : Int) : Int :=
  if most < 1 ∨ (0 < t.items.length ∧ deep = 0) ∨ most < t.items.length then -1
  else if rfL f most t.items 1 < 0 then -1 else if own then rfL f most t.items 1 else -1

def rf : Nat → VT → Int → Int → Int
  | 0, t, deep, most => rfN (ownV 0 t) (fun _ _ => -1) t deep most
  | d + 1, t, deep, most => rfN (ownV d t) (fun x m => rf d x (deep - 1) m) t deep most

theorem rfL_step (f : VT → Int → Int) (most : Int) (l : List VT) (j : Nat) (n : Int) (h : j < l.length) : rfL f most (l.drop j) n = if f l[j] (most - n) < 0 then -1 else rfL f most (l.drop (j + 1)) (n + f l[j] (most - n)) := by
  rw [List.drop_eq_getElem_cons h]
  rfl

set_option maxHeartbeats 2000000 in
theorem rfits_core (d : Nat) (f : VT → Int → Int) (t : VT) (u : Value) (w : World) (deep most : Int) (hu : Lies (d + 1) w t.items u) (hd1 : 0 ≤ deep) (hd2 : deep ≤ 16) (hm1 : 0 ≤ most) (hm2 : most ≤ 1024)
    (hfr : Hid (∀ x m, 0 ≤ m → f x m ≤ m))
    (hf : Hid (∀ (x : VT) (v : Value) (m : Int) (W : World), x ∈ t.items → 1 ≤ deep → Lies d W x.items v → 0 ≤ m → m ≤ 1024 →
      Calls Try.prog 33 #[.agg #[.int .i64 x.kind, .int .i64 x.num, .string x.text, v], .int .i64 (deep - 1), .int .i64 m] W fun e W' => e = .returned (.int .i64 (f x m)) ∧ Below W.heap.size W W')) :
    Calls Try.prog 33 #[.agg #[.int .i64 t.kind, .int .i64 t.num, .string t.text, u], .int .i64 deep, .int .i64 most] w fun e w' => e = .returned (.int .i64 (rfN (ownV d t) f t deep most)) ∧ Below w.heap.size w w' := by
  have HL : Hid (Lies (d + 1) w t.items u) := hu
  obtain ⟨a, c, rfl, hb1, hr1⟩ := hu
  have Hr : Hid _ := hr1
  clear hr1
  have hal := ((Grew.refl w).alloc (.cells #[.int .i64 t.kind, .int .i64 t.num, .string t.text, .slice a t.items.length c] 24)).below
  have HX : Hid (Boxed (w.alloc (.cells #[.int .i64 t.kind, .int .i64 t.num, .string t.text, .slice a t.items.length c] 24)) w.heap.size t.kind t.num t.text (.slice a t.items.length c)) := boxed_alloc w _ _ _ _ 24
  by_cases h1 : most < 1
  · have hz : Hid (rfN (ownV d t) f t deep most = -1) := by show _ = _; unfold rfN; rw [if_pos (Or.inl h1)]
    clear hf Hr HX
    go_enter Try.func33, Try.ntmps33
    go_wp2_with fail
    go_ret
    rw [hz.out]
    exact ⟨rfl, hal⟩
  · by_cases h2 : 0 < t.items.length ∧ deep = 0
    · have hz : Hid (rfN (ownV d t) f t deep most = -1) := by show _ = _; unfold rfN; rw [if_pos (Or.inr (Or.inl h2))]
      obtain ⟨h2a, h2b⟩ := h2
      subst h2b
      have h2i : (0 : Int) < (t.items.length : Nat) := by omega
      clear hf Hr HX
      go_enter Try.func33, Try.ntmps33
      go_wp2_with fail
      go_ret
      rw [hz.out]
      exact ⟨rfl, hal⟩
    · by_cases h3 : most < t.items.length
      · have hz : Hid (rfN (ownV d t) f t deep most = -1) := by show _ = _; unfold rfN; rw [if_pos (Or.inr (Or.inr h3))]
        have h2i : (0 : Int) < (t.items.length : Nat) := by omega
        have h2n : 0 < t.items.length := by omega
        have hdz : (deep == 0) = false := by rw [beq_eq_false_iff_ne]; intro e; exact h2 ⟨h2n, e⟩
        clear hf Hr HX h2
        go_enter Try.func33, Try.ntmps33
        go_wp2_with fail
        go_ret
        rw [hz.out]
        exact ⟨rfl, hal⟩
      · have hz : Hid (rfN (ownV d t) f t deep most = if rfL f most t.items 1 < 0 then -1 else if ownV d t then rfL f most t.items 1 else -1) := by
          show _ = _; unfold rfN; rw [if_neg (by rintro (h | h | h); exact h1 h; exact h2 h; exact h3 h)]
        have hlen : t.items.length ≤ 1024 := by omega
        have hdp : 0 < t.items.length → 1 ≤ deep := fun h => by
          by_cases e : deep = 0
          · exact absurd ⟨h, e⟩ h2
          · omega
        have hdec : (0 < t.items.length ∧ (deep == 0) = false) ∨ t.items.length = 0 := by
          by_cases e : t.items.length = 0
          · exact .inr e
          · exact .inl ⟨by omega, by rw [beq_eq_false_iff_ne]; have := hdp (by omega); omega⟩
        have Hdp : Hid (0 < t.items.length → 1 ≤ deep) := hdp
        clear h2 hdp
        rcases hdec with ⟨hp, hdz⟩ | hze
        · have h2i : (0 : Int) < (t.items.length : Nat) := by omega
          go_enter Try.func33, Try.ntmps33
          go_wp2_with fail
          go_loopg [7, 33] t.items.length (fun g n i wr => ∃ (j : Nat) (m : Int), i = .int .i64 (j : Int) ∧ n = .int .i64 m ∧ j ≤ t.items.length ∧ g = t.items.length - j ∧ 1 ≤ m ∧ m ≤ most ∧ Hid (rfL f most t.items 1 = rfL f most (t.items.drop j) m) ∧ Below w.heap.size w wr ∧ Boxed wr w.heap.size t.kind t.num t.text (.slice a t.items.length c))
          case atStart => exact ⟨0, 1, rfl, rfl, by omega, by omega, by omega, by omega, rfl, hal, HX.out⟩
          case round =>
            obtain ⟨j, m, rfl, rfl, hj, hk, hn1, hn2, Hc, hbw, hbx⟩ := hrel
            have Hk : Hid _ := hk
            have HB : Hid (Boxed wr w.heap.size t.kind t.num t.text (.slice a t.items.length c)) := hbx
            clear hk hbx HX
            by_cases hlt : j < t.items.length
            · obtain ⟨b1, o1, rfl, hall1⟩ := Hr.out (by intro e; simp [e] at hlt)
              obtain ⟨x, p0, p1, p2, p3, p4, _⟩ := hall1 j hlt
              clear hall1
              obtain ⟨ax, cx, rfl, _⟩ := Lies.slice p4
              have p0 := cell_keeps hbw p0; have p1 := cell_keeps hbw p1; have p2 := cell_keeps hbw p2; have p3 := cell_keeps hbw p3
              have p4 : Hid (Lies d w t.items[j].items (.slice ax t.items[j].items.length cx)) := p4
              have hl1 : b1 < wr.heap.size := cell_lt p0
              have hws : w.heap.size ≤ wr.heap.size := hbw.size
              have hdd := Hdp.out (by omega)
              have Hst : Hid _ := rfL_step f most t.items j m hlt
              have hfb := hfr.out t.items[j] (most - m) (by omega)
              go_wp2_with fail
              have hfc := hf.out t.items[j] (.slice ax t.items[j].items.length cx) (most - m)
              refine (hfc _ (List.getElem_mem hlt) hdd (Lies.keeps (hbw.alloc hws _) _ _ _ p4.out) (by omega) (by omega)).mono ?_
              rintro e w1 ⟨rfl, hg⟩
              have hb2 : Below w.heap.size w w1 := (hbw.alloc hws _).trans (hg.mono (by simp; omega))
              have HB1 : Hid (Boxed w1 w.heap.size t.kind t.num t.text (.slice (some ⟨b1, o1, none⟩) t.items.length c)) := (HB.out.keeps ((Grew.refl _).alloc _).below).keeps hg
              clear hg hfc p0 p1 p2 p3 p4 HB hf
              generalize hK : f t.items[j] (most - m) = K at *
              have HK : Hid _ := hK
              clear hK
              by_cases hneg : K < 0
              · have hfin : Hid (rfL f most t.items 1 = -1) := by
                  show _ = _
                  rw [Hc.out, Hst.out, if_pos hneg]
                clear Hst Hc
                go_wp2_with fail
                go_ret
                rw [hz.out, hfin.out]
                exact ⟨rfl, hb2⟩
              · have hfin : Hid (rfL f most t.items 1 = rfL f most (t.items.drop (j + 1)) (m + K)) := by
                  show _ = _
                  rw [Hc.out, Hst.out, if_neg hneg]
                clear Hst Hc
                go_wp2_with fail
                go_roundg (t.items.length - (j + 1))
                case measure => have := Hk.out; omega
                case rel => exact ⟨j + 1, m + K, by go_num, by go_num, by omega, rfl, by omega, by omega, hfin, hb2, HB1.out⟩
            · have hfin : Hid (rfL f most t.items 1 = m) := by
                show _ = _
                rw [Hc.out, List.drop_eq_nil_of_le (by omega)]
                rfl
              obtain ⟨x0, x1, x2, x3⟩ := HB.out
              clear Hc hf Hr
              go_wp2_with fail
              refine (own_any d t _ _ (Lies.keeps hbw _ _ _ HL.out) hlen).mono ?_
              rintro e w2 ⟨rfl, hg⟩
              have hb2 : Below w.heap.size w w2 := hbw.trans (hg.mono hbw.size)
              clear hg x0 x1 x2 x3 HB
              have hz2 := hz.out
              rw [hfin.out, if_neg (by omega)] at hz2
              have Hz2 : Hid (rfN (ownV d t) f t deep most = if ownV d t then m else -1) := hz2
              clear hz2 hz
              cases ho : ownV d t
              · have h1 := Hz2.out
                rw [ho] at h1
                have H1 : Hid (rfN (ownV d t) f t deep most = -1) := by show _ = _; rw [ho]; exact h1
                clear h1 Hz2
                go_wp2_with fail
                go_ret
                have := H1.out
                rw [ho] at this
                first | (rw [this]; exact ⟨rfl, hb2⟩) | (rw [H1.out]; exact ⟨rfl, hb2⟩)
              · have h1 := Hz2.out
                rw [ho] at h1
                have H1 : Hid (rfN (ownV d t) f t deep most = m) := by show _ = _; rw [ho]; exact h1
                clear h1 Hz2
                go_wp2_with fail
                go_ret
                have := H1.out
                rw [ho] at this
                first | (rw [this]; exact ⟨rfl, hb2⟩) | (rw [H1.out]; exact ⟨rfl, hb2⟩)
        · have hz0 : ¬ ((0 : Int) < (t.items.length : Nat)) := by omega
          have hz1 : ¬ (0 < t.items.length) := by omega
          clear hze
          go_enter Try.func33, Try.ntmps33
          go_wp2_with fail
          go_loopg [7, 33] t.items.length (fun g n i wr => ∃ (j : Nat) (m : Int), i = .int .i64 (j : Int) ∧ n = .int .i64 m ∧ j ≤ t.items.length ∧ g = t.items.length - j ∧ 1 ≤ m ∧ m ≤ most ∧ Hid (rfL f most t.items 1 = rfL f most (t.items.drop j) m) ∧ Below w.heap.size w wr ∧ Boxed wr w.heap.size t.kind t.num t.text (.slice a t.items.length c))
          case atStart => exact ⟨0, 1, rfl, rfl, by omega, by omega, by omega, by omega, rfl, hal, HX.out⟩
          case round =>
            obtain ⟨j, m, rfl, rfl, hj, hk, hn1, hn2, Hc, hbw, hbx⟩ := hrel
            have Hk : Hid _ := hk
            have HB : Hid (Boxed wr w.heap.size t.kind t.num t.text (.slice a t.items.length c)) := hbx
            clear hk hbx HX
            by_cases hlt : j < t.items.length
            · exact absurd (Nat.lt_of_le_of_lt (Nat.zero_le _) hlt) hz1
            · have hfin : Hid (rfL f most t.items 1 = m) := by
                show _ = _
                rw [Hc.out, List.drop_eq_nil_of_le (by omega)]
                rfl
              obtain ⟨x0, x1, x2, x3⟩ := HB.out
              clear Hc hf Hr
              go_wp2_with fail
              refine (own_any d t _ _ (Lies.keeps hbw _ _ _ HL.out) hlen).mono ?_
              rintro e w2 ⟨rfl, hg⟩
              have hb2 : Below w.heap.size w w2 := hbw.trans (hg.mono hbw.size)
              clear hg x0 x1 x2 x3 HB
              have hz2 := hz.out
              rw [hfin.out, if_neg (by omega)] at hz2
              have Hz2 : Hid (rfN (ownV d t) f t deep most = if ownV d t then m else -1) := hz2
              clear hz2 hz
              cases ho : ownV d t
              · have h1 := Hz2.out
                rw [ho] at h1
                have H1 : Hid (rfN (ownV d t) f t deep most = -1) := by show _ = _; rw [ho]; exact h1
                clear h1 Hz2
                go_wp2_with fail
                go_ret
                have := H1.out
                rw [ho] at this
                first | (rw [this]; exact ⟨rfl, hb2⟩) | (rw [H1.out]; exact ⟨rfl, hb2⟩)
              · have h1 := Hz2.out
                rw [ho] at h1
                have H1 : Hid (rfN (ownV d t) f t deep most = m) := by show _ = _; rw [ho]; exact h1
                clear h1 Hz2
                go_wp2_with fail
                go_ret
                have := H1.out
                rw [ho] at this
                first | (rw [this]; exact ⟨rfl, hb2⟩) | (rw [H1.out]; exact ⟨rfl, hb2⟩)

theorem rfL_bound {f : VT → Int → Int} (hf : ∀ x m, 0 ≤ m → f x m ≤ m) (most : Int) : ∀ (l : List VT) (n : Int), 0 ≤ n → n ≤ most → rfL f most l n ≤ most := by
  intro l
  induction l with
  | nil => intro n _ h; exact h
  | cons x l ih =>
    intro n h0 h
    unfold rfL
    split
    · omega
    · have := hf x (most - n) (by omega)
      exact ih _ (by omega) (by omega)

theorem rfN_bound {o : Bool} {f : VT → Int → Int} (hf : ∀ x m, 0 ≤ m → f x m ≤ m) (t : VT) (deep most : Int) (hm : 0 ≤ most) : rfN o f t deep most ≤ most := by
  unfold rfN
  split
  · omega
  · split
    · omega
    · split
      · exact rfL_bound hf most _ 1 (by omega) (by omega)
      · omega

theorem rf_bound : ∀ (d : Nat) (t : VT) (deep most : Int), 0 ≤ most → rf d t deep most ≤ most := by
  intro d
  induction d with
  | zero => intro t deep most hm; exact rfN_bound (fun x m h => by omega) t deep most hm
  | succ d ih => intro t deep most hm; exact rfN_bound (fun x m h => ih x (deep - 1) m h) t deep most hm

theorem rfits_any : ∀ (d : Nat) (t : VT) (u : Value) (w : World) (deep most : Int), Lies d w t.items u → 0 ≤ deep → deep ≤ 16 → 0 ≤ most → most ≤ 1024 →
    Calls Try.prog 33 #[.agg #[.int .i64 t.kind, .int .i64 t.num, .string t.text, u], .int .i64 deep, .int .i64 most] w fun e w' => e = .returned (.int .i64 (rf d t deep most)) ∧ Below w.heap.size w w' := by
  intro d
  induction d with
  | zero =>
    intro t u w deep most hu h1 h2 h3 h4
    have e1 : t.items = [] := hu.1
    exact rfits_core 0 (fun _ _ => -1) t u w deep most (Lies.deeper _ _ _ hu) h1 h2 h3 h4 (fun _ m h => by show -1 ≤ m; omega) (fun x _ _ _ hx => by rw [e1] at hx; cases hx)
  | succ d ih =>
    intro t u w deep most hu h1 h2 h3 h4
    exact rfits_core d (fun x m => rf d x (deep - 1) m) t u w deep most hu h1 h2 h3 h4 (fun x m h => rf_bound d x _ m h) (fun x v m W _ hd hl hm1 hm2 => ih x v W (deep - 1) m hl (by omega) (by omega) hm1 hm2)

theorem rfL_fw {f : VT → Int → Int} {g : VT → Int → Bool × Int} {r : VT → Bool} (hg : ∀ x m, 0 ≤ m → 0 ≤ (g x m).2 ∧ (g x m).2 ≤ m) (most : Int) :
    ∀ (l : List VT), (∀ x ∈ l, ∀ m, 0 ≤ m → f x m = if (g x m).1 && r x then m - (g x m).2 else -1) → ∀ (n : Int), n ≤ most → rfL f most l n = if (fwL g l (most - n)).1 && l.all r then most - (fwL g l (most - n)).2 else -1 := by
  intro l
  induction l with
  | nil => intro _ n h; simp [rfL, fwL]; omega
  | cons x l ih =>
    intro hf n h
    have h0 := hf x List.mem_cons_self (most - n) (by omega)
    have hr := hg x (most - n) (by omega)
    unfold rfL fwL
    rw [List.all_cons]
    cases e1 : (g x (most - n)).1
    · rw [e1] at h0
      rw [h0]
      simp
    · rw [if_pos rfl]
      cases e2 : r x
      · rw [e1, e2] at h0
        rw [h0]
        simp
      · rw [e1, e2] at h0
        simp only [Bool.and_self, if_true] at h0
        rw [h0, if_neg (by omega), ih (fun y hy => hf y (List.mem_cons_of_mem _ hy)) _ (by omega), show most - (n + (most - n - (g x (most - n)).2)) = (g x (most - n)).2 by omega, Bool.true_and]

/-- No deeper than d. -/
def Dp : Nat → VT → Prop
  | 0, t => t.items = []
  | d + 1, t => ∀ x ∈ t.items, Dp d x

theorem Dp.of_lies : ∀ (d : Nat) (w : World) (t : VT) (u : Value), Lies d w t.items u → Dp d t := by
  intro d
  induction d with
  | zero => intro w t u h; exact h.1
  | succ d ih =>
    intro w t u h x hx
    obtain ⟨a, c, _, _, hr⟩ := h
    obtain ⟨b, o, _, hall⟩ := hr (fun e => by rw [e] at hx; cases hx)
    obtain ⟨i, hi, rfl⟩ := List.getElem_of_mem hx
    obtain ⟨v, _, _, _, _, hl, _⟩ := hall i hi
    exact ih w _ v hl

theorem fw_neg (d : Nat) (t : VT) (lv n : Int) (h : lv < 0) : fw d t lv n = (false, n) := by
  cases d with
  | zero => unfold fw; rw [if_pos (Or.inl h)]
  | succ d => unfold fw; rw [if_pos (Or.inl h)]

theorem rf_fw : ∀ (d : Nat) (t : VT) (deep most : Int), Dp d t → 0 ≤ deep → 0 ≤ most → rf d t deep most = if (fw d t deep most).1 && rpV d t then most - (fw d t deep most).2 else -1 := by
  intro d
  induction d with
  | zero =>
    intro t deep most ht h1 h2
    have e1 : t.items = [] := ht
    have hl : (t.items.length : Int) = 0 := by rw [e1]; rfl
    have hl2 : t.items.length = 0 := by rw [e1]; rfl
    have hrl : ∀ f, rfL f most t.items 1 = 1 := fun f => by rw [e1]; rfl
    unfold rf rfN fw
    by_cases hm : most < 1
    · rw [if_pos (Or.inl hm), if_pos (Or.inr (by omega))]
      rfl
    · rw [if_neg (by omega), if_neg (by omega : ¬ (deep < 0 ∨ most = 0)), hrl, if_neg (by omega)]
      show (if ownV 0 t = true then (1 : Int) else -1) = if (true && ownV 0 t) = true then most - (most - 1) else -1
      rw [Bool.true_and]
      cases ownV 0 t
      · rfl
      · rw [if_pos rfl, if_pos rfl]; omega
  | succ d ih =>
    intro t deep most ht h1 h2
    have hgr : ∀ x m, 0 ≤ m → 0 ≤ (fw d x (deep - 1) m).2 ∧ (fw d x (deep - 1) m).2 ≤ m := fun x m hm => fw_range d x (deep - 1) m hm
    unfold rf rfN fw
    by_cases hm : most < 1
    · rw [if_pos (Or.inl hm), if_pos (Or.inr (by omega))]
      rfl
    · rw [if_neg (by omega : ¬ (deep < 0 ∨ most = 0))]
      by_cases hd : 0 < t.items.length ∧ deep = 0
      · rw [if_pos (Or.inr (Or.inl hd))]
        have hff : (fwL (fun x m => fw d x (deep - 1) m) t.items (most - 1)).1 = false := by
          cases hit : t.items with
          | nil => rw [hit] at hd; simp at hd
          | cons x xs =>
            unfold fwL
            rw [fw_neg d x (deep - 1) _ (by omega)]
            rfl
        rw [hff]
        rfl
      · by_cases hl : most < t.items.length
        · rw [if_pos (Or.inr (Or.inr hl))]
          have hff : (fwL (fun x m => fw d x (deep - 1) m) t.items (most - 1)).1 = false := by
            cases e : (fwL (fun x m => fw d x (deep - 1) m) t.items (most - 1)).1
            · rfl
            · have := (fwL_len (f := fun x m => fw d x (deep - 1) m) (fun x m hm => (hgr x m hm).1) (fun x m hm hb => fw_less d x (deep - 1) m hm hb) t.items (most - 1) (by omega) e).1
              omega
          rw [hff]
          rfl
        · rw [if_neg (by rintro (h | h | h); exact hm h; exact hd h; exact hl h)]
          have hx := rfL_fw (f := fun x m => rf d x (deep - 1) m) (g := fun x m => fw d x (deep - 1) m) (r := rpV d) hgr most t.items (fun x hx m hm' => ih x (deep - 1) m (ht x hx) (by
            have : 0 < t.items.length := List.length_pos_of_mem hx
            by_cases e : deep = 0
            · exact absurd ⟨this, e⟩ hd
            · omega) hm') 1 (by omega)
          have hrg := (fwL_range (f := fun x m => fw d x (deep - 1) m) hgr t.items (most - 1) (by omega))
          rw [hx]
          show _ = if ((fwL (fun x m => fw d x (deep - 1) m) t.items (most - 1)).1 && (t.items.all (rpV d) && ownV d t)) = true then _ else _
          cases (fwL (fun x m => fw d x (deep - 1) m) t.items (most - 1)).1
          · simp
          · cases t.items.all (rpV d)
            · simp
            · rw [Bool.true_and, if_pos rfl, if_neg (by omega), Bool.true_and, Bool.true_and]

theorem rf_right (d : Nat) (t : VT) (h : Dp d t) : decide (0 ≤ rf d t 16 1024) = rightV d t := by
  rw [rf_fw d t 16 1024 h (by omega) (by omega)]
  have hr := fw_range d t 16 1024 (by omega)
  show _ = ((fw d t 16 1024).1 && rpV d t)
  cases ((fw d t 16 1024).1 && rpV d t)
  · rfl
  · rw [if_pos rfl, decide_eq_true (by omega)]

theorem right_any (d : Nat) (t : VT) (u : Value) (w : World) (hu : Lies d w t.items u) :
    Calls Try.prog 35 #[.agg #[.int .i64 t.kind, .int .i64 t.num, .string t.text, u]] w fun e w' => e = .returned (.bool (rightV d t)) ∧ Below w.heap.size w w' := by
  have HR : Hid (decide (0 ≤ rf d t 16 1024) = rightV d t) := rf_right d t (Dp.of_lies d w t u hu)
  obtain ⟨a, c, rfl, _⟩ := Lies.slice hu
  have HL : Hid (Lies d w t.items (.slice a t.items.length c)) := hu
  clear hu
  have hal := ((Grew.refl w).alloc (.cells #[.int .i64 t.kind, .int .i64 t.num, .string t.text, .slice a t.items.length c] 24)).below
  go_enter Try.func35, Try.ntmps35
  go_wp2_with fail
  refine (rfits_any d t _ _ 16 1024 (Lies.keeps hal _ _ _ HL.out) (by omega) (by omega) (by omega) (by omega)).mono ?_
  rintro e w1 ⟨rfl, hg⟩
  go_wp2_with fail
  go_ret
  exact ⟨ret_b HR.out, hal.trans (hg.mono hal.size)⟩

end Go.Proofs.Ytgihglodekoddaa

namespace Go.Proofs.Ytgihglodekoddaa
open Go.RowKit

theorem Dp.up : ∀ (d : Nat) (t : VT), Dp d t → Dp (d + 1) t := by
  intro d
  induction d with
  | zero => intro t h x hx; rw [show t.items = [] from h] at hx; cases hx
  | succ d ih => intro t h x hx; exact ih x (h x hx)

theorem Dp.mono {d e : Nat} {t : VT} (h : Dp d t) (hde : d ≤ e) : Dp e t := by
  induction e with
  | zero => have : d = 0 := by omega
            subst this; exact h
  | succ e ih =>
    by_cases hd : d = e + 1
    · subst hd; exact h
    · exact Dp.up _ _ (ih (by omega))

/-- A value is the same as itself. -/
theorem all2_self {f : VT → VT → Bool} : ∀ (l : List VT), (∀ x ∈ l, f x x = true) → all2 f l l = true := by
  intro l
  induction l with
  | nil => intro _; rfl
  | cons x l ih => intro h; unfold all2; rw [h x List.mem_cons_self, ih (fun y hy => h y (List.mem_cons_of_mem _ hy))]; rfl

theorem headS_self (a : VT) : headS a a = true := by simp [headS]

theorem sameV_self : ∀ (d : Nat) (a : VT), sameV d a a = true := by
  intro d
  induction d with
  | zero => intro a; exact headS_self a
  | succ d ih => intro a; unfold sameV; rw [headS_self, all2_self a.items (fun x _ => ih x)]; rfl

theorem Lies.lower {w : World} : ∀ (e d : Nat) (l : List VT) (v : Value), Lies d w l v → (e = 0 → l = []) → (∀ x ∈ l, Dp (e - 1) x) → Lies e w l v := by
  intro e
  induction e with
  | zero =>
    intro d l v h h0 _
    have hl := h0 rfl
    subst hl
    obtain ⟨a, c, hv, _⟩ := Lies.slice h
    exact ⟨rfl, a, c, hv⟩
  | succ e ih =>
    intro d l v h _ hx
    cases d with
    | zero =>
      obtain ⟨rfl, a, c, rfl⟩ := h
      exact ⟨a, c, rfl, by simp, fun h => absurd rfl h⟩
    | succ d =>
      obtain ⟨a, c, hv, hb, hr⟩ := h
      refine ⟨a, c, hv, hb, fun hne => ?_⟩
      obtain ⟨b, o, ha, hall⟩ := hr hne
      refine ⟨b, o, ha, fun i hi => ?_⟩
      obtain ⟨u, h0, h1, h2, h3, h4, h5⟩ := hall i hi
      have hd : Dp e l[i] := hx l[i] (List.getElem_mem hi)
      refine ⟨u, h0, h1, h2, h3, ih d _ _ h4 (fun e0 => ?_) (fun y hy => ?_), h5⟩
      · subst e0; exact hd
      · cases e with
        | zero => rw [show l[i].items = [] from hd] at hy; cases hy
        | succ e => exact hd y hy

end Go.Proofs.Ytgihglodekoddaa

