/-
  The contracts of countParts and Parts.
-/
import Derived.Test.YtlbeepaolacjbabFit
namespace Go.Proofs.Ytlbeepaolacjbab
open Go.RowKit

def sumI (f : VT → Int) : List VT → Int
  | [] => 0
  | x :: xs => f x + sumI f xs

def cpV : Nat → VT → Int
  | 0, _ => 1
  | d + 1, t => 1 + sumI (cpV d) t.items

theorem sumI_nonneg {f : VT → Int} (h : ∀ x, 0 ≤ f x) : ∀ l, 0 ≤ sumI f l := by
  intro l
  induction l with
  | nil => exact Int.le_refl _
  | cons x l ih => have := h x; unfold sumI; omega

theorem cpV_pos : ∀ (d : Nat) (t : VT), 1 ≤ cpV d t := by
  intro d
  induction d with
  | zero => intro t; exact Int.le_refl _
  | succ d ih => intro t; have := sumI_nonneg (f := cpV d) (fun x => by have := ih x; omega) t.items; unfold cpV; omega

theorem sumI_step (f : VT → Int) (l : List VT) (j : Nat) (h : j < l.length) : sumI f (l.take (j + 1)) = sumI f (l.take j) + f l[j] := by
  rw [List.take_succ_eq_append_getElem h]
  generalize l[j] = x
  generalize l.take j = m
  induction m with
  | nil => simp [sumI]
  | cons y m ih => simp only [List.cons_append, sumI, ih]; omega

theorem sumI_take {f : VT → Int} (hf : ∀ x, 0 ≤ f x) (l : List VT) (j : Nat) : sumI f (l.take j) ≤ sumI f l := by
  have e : sumI f l = sumI f (l.take j) + sumI f (l.drop j) := by
    conv => lhs; rw [← List.take_append_drop j l]
    generalize l.take j = m
    induction m with
    | nil => simp [sumI]
    | cons y m ih => simp only [List.cons_append, sumI, ih]; omega
  have := sumI_nonneg hf (l.drop j)
  omega

theorem sumI_mem {f : VT → Int} (hf : ∀ x, 0 ≤ f x) : ∀ (l : List VT) (x : VT), x ∈ l → f x ≤ sumI f l := by
  intro l
  induction l with
  | nil => intro x h; cases h
  | cons y l ih =>
    intro x h
    unfold sumI
    rcases List.mem_cons.1 h with rfl | h
    · have := sumI_nonneg hf l; omega
    · have := ih x h; have := hf y; omega

/-- Whoever fits has as many parts as were taken. -/
theorem fwL_count {f : VT → Int → Bool × Int} {g : VT → Int} (hf : ∀ x m, 0 ≤ m → 0 ≤ (f x m).2) (hg : ∀ x m, 0 ≤ m → (f x m).1 = true → (f x m).2 = m - g x) : ∀ (l : List VT) (n : Int), 0 ≤ n → (fwL f l n).1 = true → (fwL f l n).2 = n - sumI g l := by
  intro l
  induction l with
  | nil => intro n h _; simp [fwL, sumI]
  | cons x l ih =>
    intro n h hh
    unfold fwL at hh ⊢
    by_cases hx : (f x n).1 = true
    · rw [if_pos hx] at hh ⊢
      have h1 := hf x n h
      have h2 := hg x n h hx
      have h3 := ih (f x n).2 h1 hh
      unfold sumI
      omega
    · rw [if_neg hx] at hh; cases hh

theorem fw_count : ∀ (d : Nat) (t : VT) (lv n : Int), 0 ≤ n → (fw d t lv n).1 = true → (fw d t lv n).2 = n - cpV d t := by
  intro d
  induction d with
  | zero =>
    intro t lv n h hh
    unfold fw at hh ⊢
    by_cases hx : lv < 0 ∨ n = 0
    · rw [if_pos hx] at hh; cases hh
    · rw [if_neg hx]; rfl
  | succ d ih =>
    intro t lv n h hh
    unfold fw at hh ⊢
    by_cases hx : lv < 0 ∨ n = 0
    · rw [if_pos hx] at hh; cases hh
    · rw [if_neg hx] at hh ⊢
      have := fwL_count (f := fun x m => fw d x (lv - 1) m) (g := cpV d) (fun x m hm => (fw_range d x (lv - 1) m hm).1) (fun x m hm hb => ih x (lv - 1) m hm hb) t.items (n - 1) (by omega) hh
      unfold cpV
      omega

theorem fits_parts (d : Nat) (t : VT) (h : (fw d t 16 1024).1 = true) : cpV d t ≤ 1024 := by
  have h1 := fw_count d t 16 1024 (by omega) h
  have h2 := (fw_range d t 16 1024 (by omega)).1
  omega

set_option maxHeartbeats 1000000 in
theorem countParts_core (d : Nat) (f : VT → Int) (hf0 : Hid (∀ x, 1 ≤ f x)) (t : VT) (u : Value) (w : World) (hu : Lies (d + 1) w t.items u) (hsum : sumI f t.items ≤ 1024)
    (hf : Hid (∀ (x : VT) (v : Value) (W : World), x ∈ t.items → Lies d W x.items v →
      Calls Try.prog 30 #[.agg #[.int .i64 x.kind, .int .i64 x.num, .string x.text, v]] W fun e W' => e = .returned (.int .i64 (f x)) ∧ Grew W W')) :
    Calls Try.prog 30 #[.agg #[.int .i64 t.kind, .int .i64 t.num, .string t.text, u]] w fun e w' => e = .returned (.int .i64 (1 + sumI f t.items)) ∧ Grew w w' := by
  obtain ⟨a, c, rfl, hb1, hr1⟩ := hu
  have Hr : Hid _ := hr1
  clear hr1
  go_enter Try.func30, Try.ntmps30
  go_wp2_with fail
  go_loopg [3, 9] t.items.length (fun g v i wr => ∃ j : Nat, i = .int .i64 (j : Int) ∧ j ≤ t.items.length ∧ g = t.items.length - j ∧ v = .int .i64 (1 + sumI f (t.items.take j)) ∧ Grew w wr)
  case atStart => exact ⟨0, rfl, by omega, by omega, rfl, (Grew.refl _).alloc _⟩
  case round =>
    obtain ⟨j, rfl, hj, hk, rfl, hbw⟩ := hrel
    have Hk : Hid _ := hk
    clear hk
    by_cases hlt : j < t.items.length
    · obtain ⟨b1, o1, rfl, hall1⟩ := Hr.out (by intro e; simp [e] at hlt)
      obtain ⟨x, p0, p1, p2, p3, p4, p5⟩ := hall1 j hlt
      clear hall1
      obtain ⟨ax, cx, rfl, _⟩ := Lies.slice p4
      have p0 := cell_keeps hbw.below p0; have p1 := cell_keeps hbw.below p1; have p2 := cell_keeps hbw.below p2; have p3 := cell_keeps hbw.below p3
      have p4 : Hid (Lies d w t.items[j].items (.slice ax t.items[j].items.length cx)) := p4
      have hl1 : b1 < wr.heap.size := cell_lt p0
      have Hst : Hid _ := sumI_step f t.items j hlt
      have h1 := sumI_nonneg (f := f) (fun x => by have := hf0.out x; omega) (t.items.take j)
      have h2 := sumI_take (f := f) (fun x => by have := hf0.out x; omega) t.items (j + 1)
      rw [Hst.out] at h2
      have h3 := hf0.out t.items[j]
      go_wp2_with fail
      have hfc := hf.out t.items[j] (.slice ax t.items[j].items.length cx)
      refine (hfc _ (List.getElem_mem hlt) (Lies.keeps (hbw.alloc _).below _ _ _ p4.out)).mono ?_
      rintro e w1 ⟨rfl, hg⟩
      have hb2 : Grew w w1 := (hbw.alloc _).trans hg
      clear hg hfc p0 p1 p2 p3 p4 hf
      go_wp2_with fail
      go_roundg (t.items.length - (j + 1))
      case measure => have := Hk.out; omega
      case rel =>
        refine ⟨j + 1, by go_num, by omega, rfl, ?_, hb2⟩
        rw [Hst.out, Int.add_assoc]
    · have hjl : j = t.items.length := by omega
      have Hj : Hid _ := hjl
      clear hjl
      go_wp2_with fail
      go_ret
      exact ⟨ret_int (by rw [Hj.out, List.take_length]), hbw⟩

theorem countParts_any : ∀ (d : Nat) (t : VT) (u : Value) (w : World), Lies d w t.items u → cpV d t ≤ 1024 →
    Calls Try.prog 30 #[.agg #[.int .i64 t.kind, .int .i64 t.num, .string t.text, u]] w fun e w' => e = .returned (.int .i64 (cpV d t)) ∧ Grew w w' := by
  intro d
  induction d with
  | zero =>
    intro t u w hu _
    have e1 : t.items = [] := hu.1
    have h := countParts_core 0 (fun _ => 1) (fun _ => Int.le_refl _) t u w (Lies.deeper _ _ _ hu) (by rw [e1]; simp [sumI]) (fun x _ _ hx => by rw [e1] at hx; cases hx)
    rw [e1] at h
    exact h
  | succ d ih =>
    intro t u w hu hp
    have hpos : ∀ x, 0 ≤ cpV d x := fun x => by have := cpV_pos d x; omega
    unfold cpV at hp
    exact countParts_core d (cpV d) (cpV_pos d) t u w hu (by omega) (fun x v W hx hl => ih x v W hl (by have := sumI_mem hpos t.items x hx; omega))

set_option maxHeartbeats 1000000 in
theorem parts_any (d : Nat) (t : VT) (u : Value) (w : World) (hu : Lies d w t.items u) (hs : t.text.size ≤ 9223372036854775807) :
    Calls Try.prog 20 #[.agg #[.int .i64 t.kind, .int .i64 t.num, .string t.text, u]] w fun e w' => e = .returned (.tuple #[.int .i64 (if rightV d t then cpV d t else 0), .int .i64 (errOf (rightV d t))]) ∧ Below w.heap.size w w' := by
  obtain ⟨a, c, rfl, _⟩ := Lies.slice hu
  have HL : Hid _ := fun (o : Obj) => Lies.keeps ((Grew.refl w).alloc o).below _ _ _ hu
  have HL0 : Hid _ := hu
  clear hu
  have Hr : Hid (rightV d t = true → cpV d t ≤ 1024) := fun h => fits_parts d t (by unfold rightV at h; simp at h; exact h.1)
  cases hr : rightV d t
  · go_enter Try.func20, Try.ntmps20
    go_wp2_with fail
    refine (check_any d t _ _ (HL.out _) hs).mono ?_
    rintro e w1 ⟨rfl, hb⟩
    have hb1 : Below w.heap.size w w1 := ((Grew.refl w).alloc _).below.trans (hb.mono (by simp))
    clear hb
    have he : errOf (rightV d t) = 3 := by simp [errOf, hr]
    rw [he]
    clear he
    go_wp2_with fail
    go_ret2
    exact ⟨by simp [errOf], hb1⟩
  · go_enter Try.func20, Try.ntmps20
    go_wp2_with fail
    refine (check_any d t _ _ (HL.out _) hs).mono ?_
    rintro e w1 ⟨rfl, hb⟩
    have hb1 : Below w.heap.size w w1 := ((Grew.refl w).alloc _).below.trans (hb.mono (by simp))
    obtain ⟨c0, c1, c2, c3⟩ := (boxed_alloc w t.kind t.num t.text (.slice a t.items.length c) 25).keeps hb
    clear hb
    have he : errOf (rightV d t) = 0 := by simp [errOf, hr]
    rw [he]
    clear he
    go_wp2_with fail
    refine (countParts_any d t _ _ (Lies.keeps hb1 _ _ _ HL0.out) (Hr.out hr)).mono ?_
    rintro e w2 ⟨rfl, hg⟩
    go_wp2_with fail
    go_ret2
    exact ⟨by simp [errOf], hb1.trans (hg.below.mono hb1.size)⟩

end Go.Proofs.Ytlbeepaolacjbab
