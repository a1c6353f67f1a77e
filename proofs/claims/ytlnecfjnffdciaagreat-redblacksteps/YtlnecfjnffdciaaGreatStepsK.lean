import Derived.Test.YtlnecfjnffdciaaGreatReadS
import Derived.Test.YtlnecfjnffdciaaGreatRowP
namespace Go.Proofs.YtlnecfjnffdciaaGreat
open Go.ChangeShapes Go.WideShapes Go.ChangeAt Go.RowKit Go.Deep Go.Joins

theorem read_four {H : Type} {enc : TypeId × Value → H} {w : World} {spare : Nat → Bool} {held : Bool} {m : Nat} {c0 c1 c2 c3 : Value} {x : DataW H × List MemPlace}
 (h : DataW.trod enc Tryz.prog w 0 spare held m 34 [c0, c1, c2, c3] = some x) : ∃ t : VT, c0 = .int .i64 t.kind ∧ c1 = .int .i64 t.num ∧ c2 = .string t.text ∧ Lies m w t.items c3 ∧ t.text.size ≤ 9223372036854775807 := by
 obtain ⟨xs, n', rfl, _, _, _, hf⟩ := DataW.trod_struct Tryz.underlying34 h
 obtain ⟨y0, y1, y2, y3, rfl⟩ := list_four (show xs.length = 4 by simpa using ‹xs.length = _›)
 have f0 : DataW.trod enc Tryz.prog w 0 spare held n' 3 [c0] = some y0 := by simpa [Tryz.cells3] using hf 0 _ rfl
 have f1 : DataW.trod enc Tryz.prog w 0 spare held n' 2 [c1] = some y1 := by simpa [Tryz.cells2] using hf 1 _ rfl
 have f2 : DataW.trod enc Tryz.prog w 0 spare held n' 9 [c2] = some y2 := by simpa [Tryz.cells9] using hf 2 _ rfl
 have f3 : DataW.trod enc Tryz.prog w 0 spare held n' 32 [c3] = some y3 := by simpa [Tryz.cells22] using hf 3 _ rfl
 obtain ⟨kd, e0, _, _⟩ := DataW.trod_int Tryz.underlying3 f0
 obtain ⟨nm, e1, _, _⟩ := DataW.trod_int Tryz.underlying2 f1
 obtain ⟨tx, e2, _, hs⟩ := DataW.trod_string Tryz.underlying9 f2
 obtain ⟨l, u, e3, hL⟩ := read_items n' n' (Nat.le_refl _) _ _ f3
 simp only [List.cons.injEq, and_true] at e0 e1 e2 e3
 subst e0 e1 e2 e3
 exact ⟨⟨kd, nm, tx, l⟩, rfl, rfl, rfl, hL.atLeast _ (by omega), by unfold maxLen at hs; show tx.size ≤ _; omega⟩

end Go.Proofs.YtlnecfjnffdciaaGreat

namespace Go.Proofs.YtlnecfjnffdciaaGreat
open Go.ChangeShapes Go.WideShapes Go.ChangeAt Go.RowKit Go.Deep Go.Joins

theorem Tryz.cellsSt14 : Tryz.prog.cellsOf 47 = 9 := by kernel_rfl
theorem Tryz.cells4b : Tryz.prog.cellsOf 4 = 1 := by kernel_rfl

end Go.Proofs.YtlnecfjnffdciaaGreat

namespace Go.Proofs.YtlnecfjnffdciaaGreat
open Go.ChangeShapes Go.WideShapes Go.ChangeAt Go.RowKit Go.Deep Go.Joins

abbrev StK : Type := (VT × Value) × (VT × Value) × Bool

def NineAt (w : World) (b o : Nat) (s : StK) : Prop :=
 w.cell? ⟨b, o, none⟩ = some (.int .i64 s.1.1.kind) ∧ w.cell? ⟨b, o + 1, none⟩ = some (.int .i64 s.1.1.num) ∧ w.cell? ⟨b, o + 2, none⟩ = some (.string s.1.1.text) ∧ w.cell? ⟨b, o + 3, none⟩ = some s.1.2 ∧
 w.cell? ⟨b, o + 4, none⟩ = some (.int .i64 s.2.1.1.kind) ∧ w.cell? ⟨b, o + 5, none⟩ = some (.int .i64 s.2.1.1.num) ∧ w.cell? ⟨b, o + 6, none⟩ = some (.string s.2.1.1.text) ∧ w.cell? ⟨b, o + 7, none⟩ = some s.2.1.2 ∧ w.cell? ⟨b, o + 8, none⟩ = some (.bool s.2.2)

theorem NineAt.keeps {w w' : World} {b o : Nat} {s : StK} (h : NineAt w b o s) (hb : Below w.heap.size w w') : NineAt w' b o s := by
 obtain ⟨h0, h1, h2, h3, h4, h5, h6, h7, h8⟩ := h
 exact ⟨cell_keeps hb h0, cell_keeps hb h1, cell_keeps hb h2, cell_keeps hb h3, cell_keeps hb h4, cell_keeps hb h5, cell_keeps hb h6, cell_keeps hb h7, cell_keeps hb h8⟩

def SlK (n : Nat) (w : World) (ss : List StK) (v : Value) : Prop :=
 ∃ a c, v = .slice a ss.length c ∧ ss.length ≤ c ∧ ss.length ≤ 9223372036854775807 ∧ (ss ≠ [] → ∃ b o, a = some ⟨b, o, none⟩ ∧ ∀ (i : Nat) (h : i < ss.length), NineAt w b (o + i * 9) (ss[i]'h)) ∧ ∀ s ∈ ss, Sound n w s.1 ∧ Sound n w s.2.1

theorem cells_nine {w : World} {a : Addr} {cs : List Value} (h : w.cells? 0 a 9 = some cs) :
 ∃ c0 c1 c2 c3 c4 c5 c6 c7 c8, cs = [c0, c1, c2, c3, c4, c5, c6, c7, c8] ∧ w.cell? (a.add 0) = some c0 ∧ w.cell? (a.add 1) = some c1 ∧ w.cell? (a.add 2) = some c2 ∧ w.cell? (a.add 3) = some c3 ∧ w.cell? (a.add 4) = some c4 ∧ w.cell? (a.add 5) = some c5 ∧ w.cell? (a.add 6) = some c6 ∧ w.cell? (a.add 7) = some c7 ∧ w.cell? (a.add 8) = some c8 := by
 unfold World.cells? at h
 rw [if_pos (Nat.zero_le _)] at h
 simp only [List.range, List.range.loop, List.mapM_cons, List.mapM_nil] at h
 simp only [Option.bind_eq_bind, Option.bind_eq_some_iff, Option.pure_def, Option.some.injEq] at h
 obtain ⟨c0, h0, _, ⟨c1, h1, _, ⟨c2, h2, _, ⟨c3, h3, _, ⟨c4, h4, _, ⟨c5, h5, _, ⟨c6, h6, _, ⟨c7, h7, _, ⟨c8, h8, _, rfl, rfl⟩, rfl⟩, rfl⟩, rfl⟩, rfl⟩, rfl⟩, rfl⟩, rfl⟩, rfl⟩ := h
 exact ⟨c0, c1, c2, c3, c4, c5, c6, c7, c8, rfl, h0, h1, h2, h3, h4, h5, h6, h7, h8⟩

theorem add_addrK (b o i k : Nat) : (⟨b, o, none⟩ : Addr).add (i * 9 + k) = ⟨b, o + (i * 9 + k), none⟩ := by
 unfold Addr.add
 split
 ·rename_i h; rw [h]; rfl
 ·rfl

set_option maxRecDepth 100000 in
theorem read_steps14 {H : Type} {enc : TypeId × Value → H} {w : World} {spare : Nat → Bool} {held : Bool} {r : Reach} {b0 : Nat} {v : Value} {d : DataW H} {p : List MemPlace}
 (hv : Value.okWide Tryz.prog w r b0 41 v) (h : DataW.Trod enc Tryz.prog w 0 spare held 41 v d p) : ∃ (n : Nat) (ss : List StK), SlK n w ss v := by
 obtain ⟨a0, len0, cap0, rfl⟩ := okWide_slice Tryz.underlying41 hv
 obtain ⟨fuel, hf⟩ := h
 rcases DataW.trod_slice Tryz.underlying41 hf with ⟨hcs, _⟩ | ⟨a, len, cap, elems, rest, n, _, hcs, _, _, hlc, hcm, hel, hall, _, _⟩
 ·have e : (Value.slice a0 len0 cap0) = .slice none 0 0 := by simpa [Value.cells] using hcs
  rw [e]
  exact ⟨0, [], none, 0, rfl, by simp, by simp, (fun h => absurd rfl h), (fun p hp => by cases hp)⟩
 ·have e : (Value.slice a0 len0 cap0) = .slice (some a) len cap := by simpa [Value.cells] using hcs
  rw [e]
  have hone : ∀ i, i < len → ∃ q : StK, (w.cell? (a.add (i * 9)) = some (.int .i64 q.1.1.kind) ∧ w.cell? (a.add (i * 9 + 1)) = some (.int .i64 q.1.1.num) ∧ w.cell? (a.add (i * 9 + 2)) = some (.string q.1.1.text) ∧ w.cell? (a.add (i * 9 + 3)) = some q.1.2 ∧ w.cell? (a.add (i * 9 + 4)) = some (.int .i64 q.2.1.1.kind) ∧ w.cell? (a.add (i * 9 + 5)) = some (.int .i64 q.2.1.1.num) ∧ w.cell? (a.add (i * 9 + 6)) = some (.string q.2.1.1.text) ∧ w.cell? (a.add (i * 9 + 7)) = some q.2.1.2 ∧ w.cell? (a.add (i * 9 + 8)) = some (.bool q.2.2)) ∧ Sound n w q.1 ∧ Sound n w q.2.1 := by
   intro i hi
   have h1 := hall i hi
   rw [Tryz.cellsSt14] at h1
   have hlt : i < elems.length := by omega
   rw [List.getElem?_eq_getElem hlt, Option.bind_eq_some_iff] at h1
   obtain ⟨cs, hcs, htr⟩ := h1
   obtain ⟨c0, c1, c2, c3, c4, c5, c6, c7, c8, rfl, k0, k1, k2, k3, k4, k5, k6, k7, k8⟩ := cells_nine hcs
   obtain ⟨xs, n', rfl, _, _, hxl, hff⟩ := DataW.trod_struct Tryz.underlying47 htr
   obtain ⟨y0, y1, y2, rfl⟩ : ∃ y0 y1 y2, xs = [y0, y1, y2] := by
    match xs, hxl with
    | [y0, y1, y2], _ => exact ⟨y0, y1, y2, rfl⟩
   have g0 : DataW.trod enc Tryz.prog w 0 spare held n' 34 [c0, c1, c2, c3] = some y0 := by simpa [Tryz.cells24] using hff 0 _ rfl
   have g1 : DataW.trod enc Tryz.prog w 0 spare held n' 34 [c4, c5, c6, c7] = some y1 := by simpa [Tryz.cells24] using hff 1 _ rfl
   have g2 : DataW.trod enc Tryz.prog w 0 spare held n' 4 [c8] = some y2 := by simpa [Tryz.cells4b] using hff 2 _ rfl
   obtain ⟨t1, e0, e1, e2, hL1, hs1⟩ := read_four g0
   obtain ⟨t2, e4, e5, e6, hL2, hs2⟩ := read_four g1
   obtain ⟨lb, e8, _⟩ := DataW.trod_bool Tryz.underlying4 g2
   simp only [List.cons.injEq, and_true] at e8
   subst e0 e1 e2 e4 e5 e6 e8
   simp only [add_add, Nat.add_zero] at k0 k1 k2 k3 k4 k5 k6 k7 k8
   exact ⟨((t1, c3), (t2, c7), lb), ⟨k0, k1, k2, k3, k4, k5, k6, k7, k8⟩, ⟨hL1.atLeast _ (by omega), hs1⟩, ⟨hL2.atLeast _ (by omega), hs2⟩⟩
  have hinh : Inhabited StK := ⟨((⟨0, 0, ByteArray.empty, []⟩, .bool false), (⟨0, 0, ByteArray.empty, []⟩, .bool false), false)⟩
  obtain ⟨f, hf⟩ := choose_lt hone
  refine ⟨n, (List.range len).map f, some a, cap, by simp, by simp; omega, by unfold maxLen at hcm; simp; omega, fun hne => ?_, fun p hp => ?_⟩
  ·obtain ⟨b, o, sp⟩ := a
   have hl0 : 0 < len := by
    rcases Nat.eq_zero_or_pos len with h0 | h0
    ·subst h0; simp at hne
    ·exact h0
   have z0 := (hf 0 hl0).1.1
   have hspot : sp = none := by simpa [Addr.add] using World.cell?_spot z0
   subst hspot
   refine ⟨b, o, rfl, fun i hi => ?_⟩
   have hi' : i < len := by simpa using hi
   obtain ⟨⟨q0, q1, q2, q3, q4, q5, q6, q7, q8⟩, _⟩ := hf i hi'
   have q0 : w.cell? ((⟨b, o, none⟩ : Addr).add (i * 9 + 0)) = some (.int .i64 (f i).1.1.kind) := q0
   rw [add_addrK] at q0 q1 q2 q3 q4 q5 q6 q7 q8
   simp only [List.getElem_map, List.getElem_range]
   unfold NineAt
   simp only [Nat.add_assoc]
   exact ⟨q0, q1, q2, q3, q4, q5, q6, q7, q8⟩
  ·obtain ⟨i, hi, rfl⟩ := List.mem_map.1 hp
   exact (hf i (by simpa using hi)).2

end Go.Proofs.YtlnecfjnffdciaaGreat

