/-
  The contract of List: a list of values.
-/
import Derived.Test.YtofceccicmlmoaaGreatMade
import Derived.Test.YtofceccicmlmoaaGreatList
import Derived.Test.YtofceccicmlmoaaGreatSameEq
namespace Go.Proofs.YtofceccicmlmoaaGreat
open Go.RowKit

/-- The zero value. -/
def zeroAgg : Value := .agg #[.int .i64 0, .int .i64 0, .string ⟨#[]⟩, .slice none 0 0]

theorem listErr_zero {d : Nat} {l : List VT} (h : listErr d l = 0) : l.length ≤ 65536 ∧ ∀ x ∈ l, rightV d x = true := by
  unfold listErr at h
  by_cases h1 : 65536 < l.length
  · rw [if_pos h1] at h; omega
  · rw [if_neg h1] at h
    cases h2 : l.all (rightV d)
    · rw [h2] at h; simp at h
    · exact ⟨by omega, List.all_eq_true.1 h2⟩

theorem right_txt : ∀ (d : Nat) (t : VT), rpV d t = true → Txt (fun s => s.size ≤ 281474976710656) d t := by
  intro d
  induction d with
  | zero => intro t h; have := (right_text (d := 0) h).1; exact Nat.le_trans this (by omega)
  | succ d ih =>
    intro t h
    simp only [rpV, Bool.and_eq_true, List.all_eq_true] at h
    exact ⟨Nat.le_trans (right_text h.2).1 (by omega), fun x hx => ih x (h.1 x hx)⟩

theorem right_rp {d : Nat} {t : VT} (h : rightV d t = true) : rpV d t = true := by
  simp only [rightV, Bool.and_eq_true] at h
  exact h.2

/-- What made left: an error, or the value in new memory. -/
theorem madeLies {d : Nat} {t : VT} {w : World} {e : Ending} {w' : World} (h : MadePost d t w e w') :
    Below w.heap.size w w' ∧ (((fw d t 16 1024).1 = false ∧ e = .returned (.tuple #[zeroAgg, .int .i64 2])) ∨ ((fw d t 16 1024).1 = true ∧ ∃ v, e = .returned (.tuple #[.agg #[.int .i64 t.kind, .int .i64 0, .string ⟨#[]⟩, v], .int .i64 0]) ∧ LiesB w.heap.size d w' t.items v)) := by
  unfold MadePost at h
  by_cases hf : (fw d t 16 1024).1 = true
  · rw [if_pos hf] at h
    obtain ⟨v, he, hl, hb⟩ := h
    exact ⟨hb, .inr ⟨hf, v, he, hl⟩⟩
  · rw [if_neg hf] at h
    exact ⟨h.2, .inl ⟨by simpa using hf, h.1⟩⟩

/-- A list's tree. -/
def listT (l : List VT) : VT := ⟨4, 0, ⟨#[]⟩, l⟩

/-- What List leaves. -/
def ListPost (d : Nat) (l : List VT) (w : World) (e : Ending) (w' : World) : Prop :=
  Below w.heap.size w w' ∧
  ((listErr d l ≠ 0 ∧ e = .returned (.tuple #[zeroAgg, .int .i64 (listErr d l)])) ∨
   (listErr d l = 0 ∧
     (((fw (d + 1) (listT l) 16 1024).1 = false ∧ e = .returned (.tuple #[zeroAgg, .int .i64 2])) ∨
      ((fw (d + 1) (listT l) 16 1024).1 = true ∧ ∃ v, e = .returned (.tuple #[.agg #[.int .i64 4, .int .i64 0, .string ⟨#[]⟩, v], .int .i64 0]) ∧ LiesB w.heap.size (d + 1) w' l v))))

set_option maxHeartbeats 2000000 in
theorem vlist_any (d : Nat) (l : List VT) (u : Value) (w : World) (hu : Lies (d + 1) w l u) : Calls Tryz.prog 99 #[u] w (ListPost d l w) := by
  obtain ⟨a, c, rfl, _⟩ := Lies.slice hu
  have HL : Hid (Lies (d + 1) w l (.slice a l.length c)) := hu
  have HK : Hid (Blank (w.alloc (.cells #[.int .i64 0, .int .i64 0, .string ⟨#[]⟩, .slice none 0 0] 24)) w.heap.size) := blank_alloc w
  have hbz : Below w.heap.size w (w.alloc (.cells #[.int .i64 0, .int .i64 0, .string ⟨#[]⟩, .slice none 0 0] 24)) := ((Grew.refl w).alloc _).below
  clear hu
  go_enter Tryz.func99, Tryz.ntmps99
  go_wp2_with fail
  refine (checkList_any d l (.slice a l.length c) _ (Lies.keeps hbz _ _ _ HL.out)).mono ?_
  rintro e w1 ⟨rfl, hb⟩
  have hb1 : Below w.heap.size w w1 := hbz.trans (hb.mono (by simp))
  have HK1 : Hid (Blank w1 w.heap.size) := HK.out.keeps hb
  have hsz1 : w.heap.size < w1.heap.size := by have := hb.size; simp at this; omega
  clear hb HK hbz
  by_cases herr : listErr d l = 0
  · have Herr : Hid (listErr d l = 0) := herr
    have Hgood : Hid (∀ x ∈ l, rightV d x = true) := (listErr_zero herr).2
    rw [herr]
    clear herr
    have Htx : Hid (Txt (fun s => s.size ≤ 281474976710656) (d + 1) ⟨4, 0, ⟨#[]⟩, l⟩) := ⟨(by show 0 ≤ 281474976710656; omega), fun x hx => right_txt d x (right_rp (Hgood.out x hx))⟩
    go_wp2_with fail
    refine (made_any (d + 1) 4 l (.slice a l.length c) _ (Lies.keeps hb1 _ _ _ HL.out) Htx.out).mono ?_
    intro e w4 hm
    obtain ⟨hb4, hm⟩ := madeLies hm
    have hbw4 : Below w.heap.size w w4 := hb1.trans (hb4.mono hb1.size)
    have HK4 : Hid (Blank w4 w.heap.size) := HK1.out.keeps hb4
    clear HK1 Htx hb4
    obtain ⟨y0, y1, y2, y3, z0, z1, z2, z3⟩ := HK4.out
    rcases hm with ⟨hf, rfl⟩ | ⟨hf, v, rfl, hLB⟩
    · have Hf : Hid ((fw (d + 1) (listT l) 16 1024).1 = false) := hf
      have Hbx : Hid _ := HK4.out.put (⟨0, 0, ⟨#[]⟩, []⟩, .slice none 0 0)
      have Hbl : Hid _ := below_put hbw4 (Nat.le_refl _) (⟨0, 0, ⟨#[]⟩, []⟩, .slice none 0 0)
      clear hf
      unfold zeroAgg
      go_wp2_with fail
      refine bodyPost_ret (v := .tuple #[.agg #[.int .i64 0, .int .i64 0, .string ⟨#[]⟩, .slice none 0 0], .int .i64 2]) ?_ rfl ⟨Hbl.out, .inr ⟨Herr.out, .inl ⟨Hf.out, rfl⟩⟩⟩
      obtain ⟨q0, q1, q2, q3⟩ := Hbx.out
      simp only [encP, World.setCells, Nat.zero_add, Nat.reduceAdd] at q0 q1 q2 q3
      simp [results, Tryz.results99, go_sem, q0, q1, q2, q3]
    · have Hf : Hid ((fw (d + 1) (listT l) 16 1024).1 = true) := hf
      have HLB : Hid (LiesB (w.heap.size + 1) (d + 1) w4 l v) := LiesB.lower (by omega) _ _ _ hLB
      clear hf hLB
      obtain ⟨av, cv, rfl, _⟩ := LiesB.slice HLB.out
      have Hbx : Hid _ := HK4.out.put (⟨4, 0, ⟨#[]⟩, l⟩, .slice av l.length cv)
      have Hbl : Hid _ := below_put hbw4 (Nat.le_refl _) (⟨4, 0, ⟨#[]⟩, l⟩, .slice av l.length cv)
      have Hfin : Hid (LiesB w.heap.size (d + 1) (w4.setCells w.heap.size 0 (encP (⟨4, 0, ⟨#[]⟩, l⟩, .slice av l.length cv))) l (.slice av l.length cv)) :=
        LiesB.lower (by omega) _ _ _ (LiesB.stays (base := w.heap.size + 1) (fun x v hx hv => ⟨by rw [World.cell?_setCells_out w.heap.size _ 0 w4 x (fun e _ => by omega)]; exact hv, World.frozen?_setCells ..⟩) _ _ _ HLB.out)
      go_wp2_with fail
      refine bodyPost_ret (v := .tuple #[.agg #[.int .i64 4, .int .i64 0, .string ⟨#[]⟩, .slice av l.length cv], .int .i64 0]) ?_ rfl ⟨Hbl.out, .inr ⟨Herr.out, .inr ⟨Hf.out, _, rfl, Hfin.out⟩⟩⟩
      obtain ⟨q0, q1, q2, q3⟩ := Hbx.out
      simp only [encP, World.setCells, Nat.zero_add, Nat.reduceAdd] at q0 q1 q2 q3
      simp [results, Tryz.results99, go_sem, q0, q1, q2, q3]
  · have Herr : Hid (listErr d l ≠ 0) := herr
    have hne : (listErr d l != 0) = true := by simpa using herr
    clear herr
    obtain ⟨y0, y1, y2, y3, z0, z1, z2, z3⟩ := HK1.out
    have Hbx : Hid _ := HK1.out.put (⟨0, 0, ⟨#[]⟩, []⟩, .slice none 0 0)
    have Hbl : Hid _ := below_put hb1 (Nat.le_refl _) (⟨0, 0, ⟨#[]⟩, []⟩, .slice none 0 0)
    go_wp2_with fail
    refine bodyPost_ret (v := .tuple #[.agg #[.int .i64 0, .int .i64 0, .string ⟨#[]⟩, .slice none 0 0], .int .i64 (listErr d l)]) ?_ rfl ⟨Hbl.out, .inl ⟨Herr.out, rfl⟩⟩
    obtain ⟨q0, q1, q2, q3⟩ := Hbx.out
    simp only [encP, World.setCells, Nat.zero_add, Nat.reduceAdd] at q0 q1 q2 q3
    simp [results, Tryz.results99, go_sem, q0, q1, q2, q3]

end Go.Proofs.YtofceccicmlmoaaGreat

