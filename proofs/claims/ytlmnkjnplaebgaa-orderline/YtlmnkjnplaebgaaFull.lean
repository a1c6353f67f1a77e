/-
  The full hash of a tree, plain; the contracts of Entry and hashes.
-/
import Derived.Test.YtlmnkjnplaebgaaUnits2
import Derived.Test.YtlmnkjnplaebgaaFit
import Derived.Laws.MakeOwn
import Derived.Deep.RegionHeld
namespace Go.Proofs.Ytlmnkjnplaebgaa
open Go.RowKit

def entL : List Int → List Int
  | x :: y :: l => ordZ [x, y] :: entL l
  | _ => []

def fullN (f : VT → Int) (t : VT) : Int :=
  if t.kind = 1 then (if t.num = 0 then 1237 else 1231) else if t.kind = 2 then longZ t.num else if t.kind = 3 then intZ (javaZ (unL t.text))
  else if t.kind = 4 then ordZ (t.items.map f) else if t.kind = 5 then unoZ (t.items.map f) else if t.kind = 6 then unoZ (entL (t.items.map f)) else 0

/-- The full hash. -/
def fullZ : Nat → VT → Int
  | 0, t => fullN (fun _ => 0) t
  | d + 1, t => fullN (fullZ d) t

theorem two_at (w : World) (a b : Int) (t : Nat) : IntsAt .u32 (w.alloc (.cells #[.int .u32 a, .int .u32 b] t)) [a, b] (.slice (some ⟨w.heap.size, 0, none⟩) 2 2) :=
  ⟨_, _, rfl, by simp, by simp, fun _ => ⟨_, _, rfl, fun i hi => by
    match i, hi with
    | 0, _ => simp
    | 1, _ => simp⟩⟩

theorem entry_any (a b : Int) (w : World) : Calls Try.prog 76 #[.int .u32 a, .int .u32 b] w fun e w' => e = .returned (.int .u32 (ordZ [a, b])) ∧ Grew w w' := by
  go_enter Try.func76, Try.ntmps76
  go_wp2_with fail
  refine (ordered_any [a, b] _ _ (two_at w a b _)).mono ?_
  rintro e w1 ⟨rfl, h⟩
  go_wp2_with fail
  go_ret
  exact ⟨rfl, ((Grew.refl _).alloc _).trans h.grew⟩

/-- Block g has n cells, the first of them filled with zs. -/
structure Filled (g n : Nat) (w : World) (zs : List Int) : Prop where
  got : ∀ (i : Nat) (h : i < zs.length), w.cell? ⟨g, i, none⟩ = some (.int .u32 zs[i])
  there : ∀ i, i < n → (w.cell? ⟨g, i, none⟩).isSome = true
  soft : ∀ i, i < n → w.frozen? ⟨g, i, none⟩ = false
  lt : g < w.heap.size

theorem Filled.keeps {g n : Nat} {w w' : World} {zs : List Int} (h : Filled g n w zs) (hb : Below w.heap.size w w') : Filled g n w' zs :=
  ⟨fun i hi => cell_keeps hb (h.got i hi), fun i hi => by rw [hb.cell (p := ⟨g, i, none⟩) h.lt]; exact h.there i hi, fun i hi => by rw [hb.frozen (p := ⟨g, i, none⟩) h.lt]; exact h.soft i hi, Nat.lt_of_lt_of_le h.lt hb.size⟩

theorem addr_ne {g i k : Nat} (h : i ≠ k) : (⟨g, i, none⟩ : Addr) ≠ ⟨g, k, none⟩ := fun e => h (by injection e)

theorem Filled.put {g n : Nat} {w : World} {zs : List Int} (h : Filled g n w zs) (z : Int) (hn : zs.length < n) : Filled g n (w.setCell ⟨g, zs.length, none⟩ (.int .u32 z)) (zs ++ [z]) := by
  refine ⟨fun i hi => ?_, fun i hi => ?_, fun i hi => ?_, ?_⟩
  · by_cases e : i = zs.length
    · subst e
      rw [World.cell?_setCell_same' w _ _ (h.there _ hn)]
      simp
    · have hi' : i < zs.length := by simp at hi; omega
      rw [World.cell?_setCell_other _ _ _ _ (addr_ne (Ne.symm e)), h.got i hi', List.getElem_append_left hi']
  · by_cases e : i = zs.length
    · subst e
      rw [World.cell?_setCell_same' w _ _ (h.there _ hn)]
      rfl
    · rw [World.cell?_setCell_other _ _ _ _ (addr_ne (Ne.symm e))]
      exact h.there i hi
  · simp [h.soft i hi]
  · simpa [World.setCell] using h.lt

theorem Filled.done {g n : Nat} {w : World} {zs : List Int} (h : Filled g n w zs) (hn : zs.length = n) (hb : n ≤ 65536) : IntsAt .u32 w zs (.slice (some ⟨g, 0, none⟩) n n) := by
  subst hn
  exact ⟨_, _, rfl, by omega, Nat.le_refl _, fun _ => ⟨g, 0, rfl, fun i hi => by rw [Nat.zero_add]; exact h.got i hi⟩⟩

set_option maxRecDepth 100000 in
theorem infoU : ∃ i0, Try.prog.info? 74 = some i0 ∧ i0.zero = some (.int .u32 0) ∧ i0.size = 1 ∧ i0.bytes = 4 := by
  refine ⟨_, rfl, ?_, ?_, ?_⟩
  all_goals kernel_rfl

/-- make of n words. -/
theorem make_words (n : Nat) (hn : n ≤ 65536) : ∃ M : Array Value, M.size = n ∧ ∀ W : World, (Instr.makeSlice 97 (.int .i64 (n : Int)) (.int .i64 (n : Int))).run Try.prog W = .ok (.slice (some ⟨W.heap.size, 0, none⟩) n n) (W.alloc (.cells M 74)) := by
  obtain ⟨i0, hi, hz0, hz1, hz2⟩ := infoU
  refine ⟨madeCells (Value.int .u32 0).cells (((n : Nat) : Int).toNat * i0.size), ?_, fun W => ?_⟩
  · rw [size_madeCells, hz1]; simp
  · have h := run_make (P := Try.prog) W 97 74 i0 _ Try.underlying97 hi hz0 .i64 .i64 (n : Int) (n : Int) (by omega) (by omega) (by rw [hz2]; omega) (by omega)
    simpa using h

theorem filled_start (w : World) (M : Array Value) (n : Nat) (t : Nat) (hM : M.size = n) : Filled w.heap.size n (w.alloc (.cells M t)) [] := by
  refine ⟨fun i hi => (by cases hi), fun i hi => ?_, fun i hi => (by simp), (by simp)⟩
  have : i < M.size := by omega
  simp [this]

end Go.Proofs.Ytlmnkjnplaebgaa
