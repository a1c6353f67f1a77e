/-
  The contract of Two at every row.
-/
import Derived.Test.YtjlhgekckbdpjaaConj
import Derived.Test.YtjlhgekckbdpjaaTwo2
namespace Go.Proofs.Ytjlhgekckbdpjaa
open Go.RowKit

/-- The functions of two values. -/
def bothT : Nat → VT → VT → VT
  | 0 => addT
  | 1 => maxT
  | 2 => minT
  | 3 => conjT
  | 4 => fun t _ => t
  | 5 => fun _ s => s
  | 6 => addT
  | _ => fun t _ => countT t

def stopQ (q : Nat) (r : VT) : Bool := if q = 6 then stopB r else false

theorem both_right (q : Nat) {t s : VT} (hr : rightV 16 t = true) (hd : Dp 16 t) (hr2 : rightV 16 s = true) (hd2 : Dp 16 s) : rightV 16 (bothT q t s) = true ∧ Dp 16 (bothT q t s) := by
  have hadd : rightV 16 (addT t s) = true ∧ Dp 16 (addT t s) := by
    unfold addT
    split
    · exact ⟨int_right _, dp_leaf rfl⟩
    · exact ⟨hr, hd⟩
  unfold bothT
  split
  · exact hadd
  · unfold maxT; split
    · exact ⟨hr2, hd2⟩
    · exact ⟨hr, hd⟩
  · unfold minT; split
    · exact ⟨hr2, hd2⟩
    · exact ⟨hr, hd⟩
  · exact conj_right hr hd hr2 hd2
  · exact ⟨hr, hd⟩
  · exact ⟨hr2, hd2⟩
  · exact hadd
  · show rightV 16 (countT t) = true ∧ Dp 16 (countT t)
    unfold countT
    split
    · exact ⟨int_right _, dp_leaf rfl⟩
    · exact ⟨int_right _, dp_leaf rfl⟩

theorem both_any (X : Nat → Prop) (q : Nat) (hq : q < 8) (t s : VT) (u v : Value) (w : World) (hl : LiesX X 16 w t.items u) (hl2 : LiesX X 16 w s.items v) (hr : rightV 16 t = true) (hr2 : rightV 16 s = true) :
    Calls Try.prog (twoF q) #[.agg #[.int .i64 t.kind, .int .i64 t.num, .string t.text, u], .agg #[.int .i64 s.kind, .int .i64 s.num, .string s.text, v]] w (FnPost X (bothT q t s) w) := by
  obtain ⟨a, c, rfl, _⟩ := LiesX.slice hl
  obtain ⟨a2, c2, rfl, _⟩ := LiesX.slice hl2
  match q, hq with
  | 0, _ => exact add_any X t s a a2 _ c _ c2 w hl hl2
  | 1, _ => exact greater_any X t s a a2 _ c _ c2 w hl hl2
  | 2, _ => exact lesser_any X t s a a2 _ c _ c2 w hl hl2
  | 3, _ => exact conj_any X t s a a2 _ c _ c2 w hl hl2 hr hr2
  | 4, _ => exact left_any X t s a a2 _ c _ c2 w hl hl2
  | 5, _ => exact right_any2 X t s a a2 _ c _ c2 w hl hl2
  | 6, _ => exact add_any X t s a a2 _ c _ c2 w hl hl2
  | 7, _ => exact count_any X t s a a2 _ c _ c2 w hl hl2

theorem stops_any (q : Nat) (hq : q < 8) (r : VT) (u : Value) (w : World) (hl : Lies 16 w r.items u) : Calls Try.prog (stopF q) #[.agg #[.int .i64 r.kind, .int .i64 r.num, .string r.text, u]] w (QPost (stopQ q r) w) := by
  obtain ⟨a, c, rfl, _⟩ := Lies.slice hl
  match q, hq with
  | 0, _ => exact never_any r a _ c w
  | 1, _ => exact never_any r a _ c w
  | 2, _ => exact never_any r a _ c w
  | 3, _ => exact never_any r a _ c w
  | 4, _ => exact never_any r a _ c w
  | 5, _ => exact never_any r a _ c w
  | 6, _ => exact isGreat_any r a _ c w
  | 7, _ => exact never_any r a _ c w

def twoE (d : Nat) (q : Int) (t s : VT) : Int := if q < 0 ∨ 8 ≤ q then 4 else if rightV d t = true ∧ rightV d s = true then 0 else 3
def twoT (d : Nat) (q : Int) (t s : VT) : VT := if twoE d q t s = 0 then bothT q.toNat t s else nilT
def twoB (d : Nat) (q : Int) (t s : VT) : Bool := if twoE d q t s = 0 then stopQ q.toNat (bothT q.toNat t s) else false

theorem two_any (d : Nat) (q : Int) (t s : VT) (u v : Value) (w : World) (hu : Lies d w t.items u) (hv : Lies d w s.items v) (hs : t.text.size ≤ 9223372036854775807) (hs2 : s.text.size ≤ 9223372036854775807) :
    Calls Try.prog 16 #[.int .i64 q, .agg #[.int .i64 t.kind, .int .i64 t.num, .string t.text, u], .agg #[.int .i64 s.kind, .int .i64 s.num, .string s.text, v]] w (TPost (twoT d q t s) (twoB d q t s) (twoE d q t s) w) := by
  unfold twoT twoB
  by_cases hq : q < 0 ∨ 8 ≤ q
  · have e : twoE d q t s = 4 := by unfold twoE; rw [if_pos hq]
    rw [e]
    exact two_kind d q t s u v w hu hv hq
  · obtain ⟨Q, hQ, hQ8⟩ : ∃ Q : Nat, q = Q ∧ Q < 8 := ⟨q.toNat, by omega, by omega⟩
    subst hQ
    have h := two_core d Q (twoF Q) (stopF Q) t s (bothT Q t s) (stopQ Q (bothT Q t s)) u v w hu hv hs hs2 hQ8
      (fun x y => start4_row w _ _ x y Q hQ8) (fun x y => start4_row2 w _ _ x y Q hQ8) (twoF_enters Q hQ8) (stopF_enters Q hQ8)
      (fun h1 h2 W hW => both_any (fun _ => True) Q hQ8 t s u v W (((LiesX.of_lies (canon hu h1).1).keeps hW).mono (fun _ _ => trivial)) (((LiesX.of_lies (canon hv h2).1).keeps hW).mono (fun _ _ => trivial)) (canon hu h1).2 (canon hv h2).2)
      (fun x W hl => stops_any Q hQ8 _ x W hl)
      (fun h1 h2 => (both_right Q (canon hu h1).2 (right_deep h1 (Dp.of_lies d w t u hu)) (canon hv h2).2 (right_deep h2 (Dp.of_lies d w s v hv))).1)
    by_cases hr : rightV d t = true ∧ rightV d s = true
    · have e : twoE d Q t s = 0 := by unfold twoE; rw [if_neg hq, if_pos hr]
      rw [e]
      rw [if_pos hr] at h
      exact h
    · have e : twoE d Q t s = 3 := by unfold twoE; rw [if_neg hq, if_neg hr]
      rw [e]
      rw [if_neg hr] at h
      exact h

theorem two_right {d : Nat} {q : Int} {t s : VT} {w : World} {u v : Value} (hu : Lies d w t.items u) (hv : Lies d w s.items v) (h : twoE d q t s = 0) : rightV 16 (twoT d q t s) = true := by
  unfold twoT
  rw [if_pos h]
  unfold twoE at h
  by_cases hq : q < 0 ∨ 8 ≤ q
  · rw [if_pos hq] at h; omega
  · rw [if_neg hq] at h
    by_cases hr : rightV d t = true ∧ rightV d s = true
    · exact (both_right _ (canon hu hr.1).2 (right_deep hr.1 (Dp.of_lies d w t u hu)) (canon hv hr.2).2 (right_deep hr.2 (Dp.of_lies d w s v hv))).1
    · rw [if_neg hr] at h; omega

theorem times_right {d : Nat} {q n : Int} {t : VT} {w : World} {u : Value} (hu : Lies d w t.items u) (h : timesE d q n t = 0) : rightV 16 (timesT d q n t) = true := by
  unfold timesT
  rw [if_pos h]
  unfold timesE at h
  by_cases hq : q < 0 ∨ 8 ≤ q
  · rw [if_pos hq] at h; omega
  · rw [if_neg hq] at h
    by_cases hn : n < 0 ∨ 65536 < n
    · rw [if_pos hn] at h; omega
    · rw [if_neg hn] at h
      by_cases hr : rightV d t = true
      · exact (it_right _ (canon hu hr).2 (right_deep hr (Dp.of_lies d w t u hu)) _).1
      · rw [if_neg hr] at h; omega

end Go.Proofs.Ytjlhgekckbdpjaa
