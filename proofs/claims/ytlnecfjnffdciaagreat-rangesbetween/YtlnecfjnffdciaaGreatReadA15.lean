import Derived.Test.YtlnecfjnffdciaaGreatReadS
import Derived.Test.YtlnecfjnffdciaaGreatRowP
namespace Go.Proofs.YtlnecfjnffdciaaGreat
open Go.ChangeShapes Go.WideShapes Go.ChangeAt Go.RowKit Go.Deep Go.Joins

theorem Tryz.cellsPr : Tryz.prog.cellsOf 69 = 8 := by kernel_rfl

theorem QAt.of_eight {w : World} {b o : Nat} {qs : List PP} (h : ∀ (i : Nat) (hi : i < qs.length), Eight w b (o + i * 8) qs[i]) : QAt w b o qs := by
 intro j u hj
 have hlt : j < (qs.flatMap encQ).length := by
  by_cases hl : j < (qs.flatMap encQ).length
  ·exact hl
  ·rw [List.getElem?_eq_none (by omega)] at hj; cases hj
 rw [flat_lenQ] at hlt
 have hjj : j = j / 8 * 8 + j % 8 := by omega
 have e1 : j / 8 < qs.length := by omega
 have e2 : j % 8 < 8 := by omega
 rw [hjj, flat_atQ _ _ _ e1 e2] at hj
 obtain ⟨c0, c1, c2, c3, c4, c5, c6, c7⟩ := h (j / 8) e1
 generalize j / 8 = q at *
 generalize j % 8 = m at *
 rw [hjj, ← Nat.add_assoc]
 match m, e2 with
 | 0, _ => simp [encQ, encP] at hj; subst hj; exact c0
 | 1, _ => simp [encQ, encP] at hj; subst hj; exact c1
 | 2, _ => simp [encQ, encP] at hj; subst hj; exact c2
 | 3, _ => simp [encQ, encP] at hj; subst hj; exact c3
 | 4, _ => simp [encQ, encP] at hj; subst hj; exact c4
 | 5, _ => simp [encQ, encP] at hj; subst hj; exact c5
 | 6, _ => simp [encQ, encP] at hj; subst hj; exact c6
 | 7, _ => simp [encQ, encP] at hj; subst hj; exact c7

theorem cells_eight {w : World} {a : Addr} {cs : List Value} (h : w.cells? 0 a 8 = some cs) :
 ∃ c0 c1 c2 c3 c4 c5 c6 c7, cs = [c0, c1, c2, c3, c4, c5, c6, c7] ∧ w.cell? (a.add 0) = some c0 ∧ w.cell? (a.add 1) = some c1 ∧ w.cell? (a.add 2) = some c2 ∧ w.cell? (a.add 3) = some c3 ∧ w.cell? (a.add 4) = some c4 ∧ w.cell? (a.add 5) = some c5 ∧ w.cell? (a.add 6) = some c6 ∧ w.cell? (a.add 7) = some c7 := by
 unfold World.cells? at h
 rw [if_pos (Nat.zero_le _)] at h
 simp only [List.range, List.range.loop, List.mapM_cons, List.mapM_nil] at h
 simp only [Option.bind_eq_bind, Option.bind_eq_some_iff, Option.pure_def, Option.some.injEq] at h
 obtain ⟨c0, h0, _, ⟨c1, h1, _, ⟨c2, h2, _, ⟨c3, h3, _, ⟨c4, h4, _, ⟨c5, h5, _, ⟨c6, h6, _, ⟨c7, h7, _, rfl, rfl⟩, rfl⟩, rfl⟩, rfl⟩, rfl⟩, rfl⟩, rfl⟩, rfl⟩ := h
 exact ⟨c0, c1, c2, c3, c4, c5, c6, c7, rfl, h0, h1, h2, h3, h4, h5, h6, h7⟩

theorem read_four {H : Type} {enc : TypeId × Value → H} {w : World} {spare : Nat → Bool} {held : Bool} {m : Nat} {c0 c1 c2 c3 : Value} {x : DataW H × List MemPlace}
 (h : DataW.trod enc Tryz.prog w 0 spare held m 34 [c0, c1, c2, c3] = some x) : ∃ t : VT, c0 = .int .i64 t.kind ∧ c1 = .int .i64 t.num ∧ c2 = .string t.text ∧ Lies m w t.items c3 ∧ t.text.size ≤ 9223372036854775807 := by
 obtain ⟨xs, n', rfl, _, _, _, hf⟩ := DataW.trod_struct Tryz.underlying34 h
 obtain ⟨y0, y1, y2, y3, rfl⟩ := list_four (show xs.length = 4 by simpa using ‹xs.length = _›)
 have f0 : DataW.trod enc Tryz.prog w 0 spare held n' 3 [c0] = some y0 := by simpa [Tryz.cells3] using hf 0 _ rfl
 have f1 : DataW.trod enc Tryz.prog w 0 spare held n' 2 [c1] = some y1 := by simpa [Tryz.cells2] using hf 1 _ rfl
 have f2 : DataW.trod enc Tryz.prog w 0 spare held n' 9 [c2] = some y2 := by simpa [Tryz.cells9] using hf 2 _ rfl
 have f3 : DataW.trod enc Tryz.prog w 0 spare held n' 32 [c3] = some y3 := by simpa [Tryz.cells22] using hf 3 _ rfl
 obtain ⟨kd, e0, _, _⟩ := DataW.trod_int Tryz.underlying3 f0
 obtain ⟨nm, e1, _, _⟩ := DataW.trod_int Tryz.underlying2 f1
 obtain ⟨tx, e2, _, hs⟩ := DataW.trod_string Tryz.underlying9 f2
 obtain ⟨l, u, e3, hL⟩ := read_items n' n' (Nat.le_refl _) _ _ f3
 simp only [List.cons.injEq, and_true] at e0 e1 e2 e3
 subst e0 e1 e2 e3
 exact ⟨⟨kd, nm, tx, l⟩, rfl, rfl, rfl, hL.atLeast _ (by omega), by unfold maxLen at hs; show tx.size ≤ _; omega⟩

set_option maxRecDepth 100000 in
theorem read_pairs {H : Type} {enc : TypeId × Value → H} {w : World} {spare : Nat → Bool} {held : Bool} {r : Reach} {b0 : Nat} {v : Value} {d : DataW H} {p : List MemPlace}
 (hv : Value.okWide Tryz.prog w r b0 22 v) (h : DataW.Trod enc Tryz.prog w 0 spare held 22 v d p) : ∃ (n : Nat) (qs : List PP), SlQ 0 n w qs v := by
 obtain ⟨a0, len0, cap0, rfl⟩ := okWide_slice Tryz.underlying22 hv
 obtain ⟨fuel, hf⟩ := h
 rcases DataW.trod_slice Tryz.underlying22 hf with ⟨hcs, _⟩ | ⟨a, len, cap, elems, rest, n, _, hcs, _, _, hlc, hcm, hel, hall, _, _⟩
 ·have e : (Value.slice a0 len0 cap0) = .slice none 0 0 := by simpa [Value.cells] using hcs
  rw [e]
  exact ⟨0, [], none, 0, rfl, by simp, by simp, (fun h => absurd rfl h), (fun p hp => by cases hp)⟩
 ·have e : (Value.slice a0 len0 cap0) = .slice (some a) len cap := by simpa [Value.cells] using hcs
  rw [e]
  have hone : ∀ i, i < len → ∃ q : PP, (w.cell? (a.add (i * 8)) = some (.int .i64 q.1.1.kind) ∧ w.cell? (a.add (i * 8 + 1)) = some (.int .i64 q.1.1.num) ∧ w.cell? (a.add (i * 8 + 2)) = some (.string q.1.1.text) ∧ w.cell? (a.add (i * 8 + 3)) = some q.1.2 ∧ w.cell? (a.add (i * 8 + 4)) = some (.int .i64 q.2.1.kind) ∧ w.cell? (a.add (i * 8 + 5)) = some (.int .i64 q.2.1.num) ∧ w.cell? (a.add (i * 8 + 6)) = some (.string q.2.1.text) ∧ w.cell? (a.add (i * 8 + 7)) = some q.2.2) ∧ GoodQ n w q := by
   intro i hi
   have h1 := hall i hi
   rw [Tryz.cellsPr] at h1
   have hlt : i < elems.length := by omega
   rw [List.getElem?_eq_getElem hlt, Option.bind_eq_some_iff] at h1
   obtain ⟨cs, hcs, htr⟩ := h1
   obtain ⟨c0, c1, c2, c3, c4, c5, c6, c7, rfl, k0, k1, k2, k3, k4, k5, k6, k7⟩ := cells_eight hcs
   obtain ⟨xs, n', rfl, _, _, hxl, hff⟩ := DataW.trod_struct Tryz.underlying69 htr
   obtain ⟨y0, y1, rfl⟩ : ∃ y0 y1, xs = [y0, y1] := by
    match xs, hxl with
    | [y0, y1], _ => exact ⟨y0, y1, rfl⟩
   have g0 : DataW.trod enc Tryz.prog w 0 spare held n' 34 [c0, c1, c2, c3] = some y0 := by simpa [Tryz.cells24] using hff 0 _ rfl
   have g1 : DataW.trod enc Tryz.prog w 0 spare held n' 34 [c4, c5, c6, c7] = some y1 := by simpa [Tryz.cells24] using hff 1 _ rfl
   obtain ⟨t1, e0, e1, e2, hL1, hs1⟩ := read_four g0
   obtain ⟨t2, e4, e5, e6, hL2, hs2⟩ := read_four g1
   subst e0 e1 e2 e4 e5 e6
   simp only [add_add, Nat.add_zero] at k0 k1 k2 k3 k4 k5 k6 k7
   exact ⟨((t1, c3), (t2, c7)), ⟨k0, k1, k2, k3, k4, k5, k6, k7⟩, ⟨⟨hL1.atLeast _ (by omega), hs1⟩, ⟨hL2.atLeast _ (by omega), hs2⟩⟩⟩
  have hinh : Inhabited PP := ⟨((⟨0, 0, ByteArray.empty, []⟩, .bool false), (⟨0, 0, ByteArray.empty, []⟩, .bool false))⟩
  obtain ⟨f, hf⟩ := choose_lt hone
  refine ⟨n, (List.range len).map f, some a, cap, by simp, by simp; omega, by unfold maxLen at hcm; simp; omega, fun hne => ?_, fun p hp => ?_⟩
  ·obtain ⟨b, o, sp⟩ := a
   have hl0 : 0 < len := by
    rcases Nat.eq_zero_or_pos len with h0 | h0
    ·subst h0; simp at hne
    ·exact h0
   have z0 := (hf 0 hl0).1.1
   have hspot : sp = none := by simpa [Addr.add] using World.cell?_spot z0
   subst hspot
   refine ⟨b, o, rfl, Nat.zero_le _, QAt.of_eight fun i hi => ?_⟩
   have hi' : i < len := by simpa using hi
   obtain ⟨⟨q0, q1, q2, q3, q4, q5, q6, q7⟩, _⟩ := hf i hi'
   rw [add_addr5] at q0 q1 q2 q3 q4 q5 q6 q7
   simp only [List.getElem_map, List.getElem_range]
   exact ⟨q0, by rw [Nat.add_assoc]; exact q1, by rw [Nat.add_assoc]; exact q2, by rw [Nat.add_assoc]; exact q3, by rw [Nat.add_assoc]; exact q4, by rw [Nat.add_assoc]; exact q5, by rw [Nat.add_assoc]; exact q6, by rw [Nat.add_assoc]; exact q7⟩
  ·obtain ⟨i, hi, rfl⟩ := List.mem_map.1 hp
   exact (hf i (by simpa using hi)).2

end Go.Proofs.YtlnecfjnffdciaaGreat

namespace Go.Proofs.YtlnecfjnffdciaaGreat
open Go.ChangeShapes Go.WideShapes Go.ChangeAt Go.RowKit Go.Deep Go.Joins

theorem cells4A15 : Tryz.prog.cellsOf 4 = 1 := by kernel_rfl

theorem cellsAsk15 : Tryz.prog.cellsOf 75 = 10 := by kernel_rfl

set_option maxRecDepth 100000 in
theorem read_ask15 {H : Type} {enc : TypeId × Value → H} {w : World} {spare : Nat → Bool} {held : Bool} {r : Reach} {b0 : Nat} {v : Value} {d : DataW H} {p : List MemPlace}
 (hv : Value.okWide Tryz.prog w r b0 75 v) (h : DataW.Trod enc Tryz.prog w 0 spare held 75 v d p) :
 ∃ (n : Nat) (y z : VT) (yu zu : Value) (wf wt : Bool), v = .agg #[.int .i64 y.kind, .int .i64 y.num, .string y.text, yu, .int .i64 z.kind, .int .i64 z.num, .string z.text, zu, .bool wf, .bool wt] ∧ (Lies n w y.items yu ∧ y.text.size ≤ 9223372036854775807) ∧ (Lies n w z.items zu ∧ z.text.size ≤ 9223372036854775807) := by
 obtain ⟨cs, rfl, hsz⟩ := okWide_struct Tryz.underlying75 hv
 rw [cellsAsk15] at hsz
 obtain ⟨cl⟩ := cs
 obtain ⟨c0, c1, c2, c3, c4, c5, c6, c7, c8, c9, rfl⟩ : ∃ c0 c1 c2 c3 c4 c5 c6 c7 c8 c9, cl = [c0, c1, c2, c3, c4, c5, c6, c7, c8, c9] := by
  match cl, hsz with
  | [c0, c1, c2, c3, c4, c5, c6, c7, c8, c9], _ => exact ⟨c0, c1, c2, c3, c4, c5, c6, c7, c8, c9, rfl⟩
 obtain ⟨fuel, hf⟩ := h
 obtain ⟨xs, n', _, _, _, hxl, hff⟩ := DataW.trod_struct Tryz.underlying75 hf
 obtain ⟨y0, y1, y2, y3, rfl⟩ : ∃ y0 y1 y2 y3, xs = [y0, y1, y2, y3] := by
  match xs, hxl with
  | [y0, y1, y2, y3], _ => exact ⟨y0, y1, y2, y3, rfl⟩
 have f0 : DataW.trod enc Tryz.prog w 0 spare held n' 34 [c0, c1, c2, c3] = some y0 := by simpa [Tryz.cells24, Value.cells] using hff 0 _ rfl
 have f1 : DataW.trod enc Tryz.prog w 0 spare held n' 34 [c4, c5, c6, c7] = some y1 := by simpa [Tryz.cells24, Value.cells] using hff 1 _ rfl
 have f2 : DataW.trod enc Tryz.prog w 0 spare held n' 4 [c8] = some y2 := by simpa [cells4A15, Value.cells] using hff 2 _ rfl
 have f3 : DataW.trod enc Tryz.prog w 0 spare held n' 4 [c9] = some y3 := by simpa [cells4A15, Value.cells] using hff 3 _ rfl
 obtain ⟨t1, e0, e1, e2, hL1, hs1⟩ := read_four f0
 obtain ⟨t2, e4, e5, e6, hL2, hs2⟩ := read_four f1
 obtain ⟨wf, e8, _, _⟩ := DataW.trod_bool Tryz.underlying4 f2
 obtain ⟨wt, e9, _, _⟩ := DataW.trod_bool Tryz.underlying4 f3
 simp only [List.cons.injEq, and_true] at e8 e9
 subst e0 e1 e2 e4 e5 e6 e8 e9
 exact ⟨n', t1, t2, c3, c7, wf, wt, rfl, ⟨hL1.atLeast _ (by omega), hs1⟩, ⟨hL2.atLeast _ (by omega), hs2⟩⟩

end Go.Proofs.YtlnecfjnffdciaaGreat

