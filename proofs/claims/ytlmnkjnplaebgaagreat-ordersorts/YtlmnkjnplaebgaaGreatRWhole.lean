/-
  The contract of the document's Whole at a right value: it is the program's full hash.
-/
import Derived.Test.YtlmnkjnplaebgaaGreatRMap
import Derived.Test.YtlmnkjnplaebgaaGreatWhole
namespace Go.Proofs.YtlmnkjnplaebgaaGreat
open Go.RowKit

set_option maxHeartbeats 2000000 in
theorem whole_core (d : Nat) (f : VT → Int) (t : VT) (u : Value) (w : World) (hu : Lies (d + 1) w t.items u) (hlen : t.items.length ≤ 1024) (hs : t.kind = 3 → t.text.size ≤ 256 ∧ utfB t.text = true) (hbn : t.kind = 1 → t.num = 0 ∨ t.num = 1)
    (hf : Hid (∀ (x : VT) (v : Value) (W : World), x ∈ t.items → Lies d W x.items v →
      Calls Tryz.prog 73 #[.agg #[.int .i64 x.kind, .int .i64 x.num, .string x.text, v]] W fun e W' => e = .returned (.int .u32 (f x)) ∧ Below W.heap.size W W')) :
    Calls Tryz.prog 73 #[.agg #[.int .i64 t.kind, .int .i64 t.num, .string t.text, u]] w fun e w' => e = .returned (.int .u32 (fullN f t)) ∧ Below w.heap.size w w' := by
  have hu0 := hu
  obtain ⟨a, c, rfl, _⟩ := Lies.slice hu
  have HL : Hid (∀ o, Lies (d + 1) (w.alloc o) t.items (.slice a t.items.length c)) := fun o => Lies.keeps ((Grew.refl w).alloc o).below _ _ _ hu
  have Hal : Hid (∀ o, Below w.heap.size w (w.alloc o)) := fun o => (Below.refl _ _).alloc (Nat.le_refl _) o
  by_cases h6 : t.kind = 6
  · have hz : fullN f t = unoZ (entL (t.items.map f)) := by unfold fullN; rw [if_neg (by omega), if_neg (by omega), if_neg (by omega), if_neg (by omega), if_neg (by omega), if_pos h6]
    rw [hz]
    exact whole_map d f t _ w hu0 hlen h6 hf
  · clear hu hu0
    by_cases h1 : t.kind = 1
    · rcases hbn h1 with hn | hn
      · have hz : Hid (fullN f t = 1237) := by show _ = _; unfold fullN; rw [if_pos h1, if_pos hn]
        clear hs hf hbn
        go_enter Tryz.func73, Tryz.ntmps73
        go_wp2_with fail
        go_ret
        rw [hz.out]
        exact ⟨rfl, Hal.out _⟩
      · have hz : Hid (fullN f t = 1231) := by show _ = _; unfold fullN; rw [if_pos h1, if_neg (by omega)]
        clear hs hf hbn
        go_enter Tryz.func73, Tryz.ntmps73
        go_wp2_with fail
        go_ret
        rw [hz.out]
        exact ⟨rfl, Hal.out _⟩
    · by_cases h2 : t.kind = 2
      · have hz : Hid (fullN f t = longZ t.num) := by show _ = _; unfold fullN; rw [if_neg h1, if_pos h2]
        clear hs hf hbn
        go_enter Tryz.func73, Tryz.ntmps73
        go_wp2_with fail
        refine (rlong_any _ _).mono ?_
        rintro e w1 ⟨rfl, hd⟩
        rw [← hz.out]
        have hb := hd.grew.below
        go_wp2_with fail
        go_ret
        exact ⟨rfl, (Hal.out _).trans (hb.mono (Hal.out _).size)⟩
      · by_cases h3 : t.kind = 3
        · have hz : Hid (fullN f t = intZ (javaZ (unL t.text))) := by show _ = _; unfold fullN; rw [if_neg h1, if_neg h2, if_pos h3]
          obtain ⟨hs3, hu3⟩ := hs h3
          have Hu3 : Hid (utfB t.text = true) := hu3
          clear hs hf hbn hu3
          go_enter Tryz.func73, Tryz.ntmps73
          go_wp2_with fail
          refine (runits_any _ _ hs3 Hu3.out).mono ?_
          rintro e w1 ⟨v, rfl, hi, hb⟩
          have hb1 : Below w.heap.size w w1 := (Hal.out _).trans (hb.mono (Hal.out _).size)
          have HI : Hid (IntsAt .u16 w1 (unL t.text) v) := hi
          clear hb hi
          go_wp2_with fail
          refine (rjava_any _ _ _ HI.out).mono ?_
          rintro e w2 ⟨rfl, hd⟩
          have hb2 : Below w.heap.size w w2 := hb1.trans (hd.grew.below.mono hb1.size)
          clear hd HI hb1
          go_wp2_with fail
          refine (rint_any _ _).mono ?_
          rintro e w3 ⟨rfl, hd⟩
          have hb3 : Below w.heap.size w w3 := hb2.trans (hd.grew.below.mono hb2.size)
          clear hd hb2
          rw [← hz.out]
          go_wp2_with fail
          go_ret
          exact ⟨rfl, hb3⟩
        · by_cases h4 : t.kind = 4
          · have hz : Hid (fullN f t = ordZ (t.items.map f)) := by show _ = _; unfold fullN; rw [if_neg h1, if_neg h2, if_neg h3, if_pos h4]
            clear hs hbn
            go_enter Tryz.func73, Tryz.ntmps73
            go_wp2_with fail
            refine (each_core d f t.items _ _ (HL.out _) hlen hf).mono ?_
            rintro e w1 ⟨v, rfl, hi, hb⟩
            have hb1 : Below w.heap.size w w1 := (Hal.out _).trans (hb.mono (Hal.out _).size)
            have HI : Hid (IntsAt .u32 w1 (t.items.map f) v) := hi
            clear hb hi hf
            go_wp2_with fail
            refine (rordered_any _ _ _ HI.out).mono ?_
            rintro e w2 ⟨rfl, hd⟩
            have hb2 : Below w.heap.size w w2 := hb1.trans (hd.grew.below.mono hb1.size)
            clear hd HI hb1
            rw [← hz.out]
            go_wp2_with fail
            go_ret
            exact ⟨rfl, hb2⟩
          · by_cases h5 : t.kind = 5
            · have hz : Hid (fullN f t = unoZ (t.items.map f)) := by show _ = _; unfold fullN; rw [if_neg h1, if_neg h2, if_neg h3, if_neg h4, if_pos h5]
              clear hs hbn
              go_enter Tryz.func73, Tryz.ntmps73
              go_wp2_with fail
              refine (each_core d f t.items _ _ (HL.out _) hlen hf).mono ?_
              rintro e w1 ⟨v, rfl, hi, hb⟩
              have hb1 : Below w.heap.size w w1 := (Hal.out _).trans (hb.mono (Hal.out _).size)
              have HI : Hid (IntsAt .u32 w1 (t.items.map f) v) := hi
              clear hb hi hf
              go_wp2_with fail
              refine (runordered_any _ _ _ HI.out).mono ?_
              rintro e w2 ⟨rfl, hd⟩
              have hb2 : Below w.heap.size w w2 := hb1.trans (hd.grew.below.mono hb1.size)
              clear hd HI hb1
              rw [← hz.out]
              go_wp2_with fail
              go_ret
              exact ⟨rfl, hb2⟩
            · have hz : Hid (fullN f t = 0) := by show _ = _; unfold fullN; rw [if_neg h1, if_neg h2, if_neg h3, if_neg h4, if_neg h5, if_neg h6]
              clear hs hf hbn
              go_enter Tryz.func73, Tryz.ntmps73
              go_wp2_with fail
              go_ret
              rw [hz.out]
              exact ⟨rfl, Hal.out _⟩

/-- A tree of right parts. -/
def Rex : Nat → VT → Prop
  | 0, t => (t.kind = 3 → t.text.size ≤ 256 ∧ utfB t.text = true) ∧ (t.kind = 1 → t.num = 0 ∨ t.num = 1)
  | d + 1, t => ((t.kind = 3 → t.text.size ≤ 256 ∧ utfB t.text = true) ∧ (t.kind = 1 → t.num = 0 ∨ t.num = 1)) ∧ t.items.length ≤ 1024 ∧ ∀ x ∈ t.items, Rex d x

theorem whole_any : ∀ (d : Nat) (t : VT) (u : Value) (w : World), Lies d w t.items u → Rex d t →
    Calls Tryz.prog 73 #[.agg #[.int .i64 t.kind, .int .i64 t.num, .string t.text, u]] w fun e w' => e = .returned (.int .u32 (fullZ d t)) ∧ Below w.heap.size w w' := by
  intro d
  induction d with
  | zero =>
    intro t u w hu ht
    have e1 : t.items = [] := hu.1
    exact whole_core 0 (fun _ => 0) t u w (Lies.deeper _ _ _ hu) (by rw [e1]; simp) ht.1 ht.2 (fun x _ _ hx => by rw [e1] at hx; cases hx)
  | succ d ih =>
    intro t u w hu ht
    exact whole_core d (fullZ d) t u w hu ht.2.1 ht.1.1 ht.1.2 (fun x v W hx hl => ih x v W hl (ht.2.2 x hx))

theorem own_rex {d : Nat} {t : VT} (h : ownV d t = true) : (t.kind = 3 → t.text.size ≤ 256 ∧ utfB t.text = true) ∧ (t.kind = 1 → t.num = 0 ∨ t.num = 1) := by
  simp only [ownV, Bool.and_eq_true, decide_eq_true_eq] at h
  obtain ⟨_, _, hn, ht, _⟩ := h
  refine ⟨fun h3 => ?_, fun h1 => ?_⟩
  · simp only [okText, h3] at ht
    simpa using ht
  · simpa [okNum, h1] using hn

theorem rex_of : ∀ (d : Nat) (t : VT), Sm d t → rpV d t = true → Rex d t := by
  intro d
  induction d with
  | zero => intro t _ hr; exact own_rex hr
  | succ d ih =>
    intro t hs hr
    simp only [rpV, Bool.and_eq_true, List.all_eq_true] at hr
    exact ⟨own_rex hr.2, hs.1, fun x hx => ih x (hs.2 x hx) (hr.1 x hx)⟩

theorem rex_right {d : Nat} {t : VT} (h : rightV d t = true) : Rex d t := by
  unfold rightV at h
  rw [Bool.and_eq_true] at h
  exact rex_of d t (fw_small d t 16 1024 (by omega) (by omega) h.1) h.2

end Go.Proofs.YtlmnkjnplaebgaaGreat
