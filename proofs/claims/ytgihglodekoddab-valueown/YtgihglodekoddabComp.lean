/-
  The contract of CompactFunc by Equal, at any row.
-/
import Derived.Test.YtgihglodekoddabOwnRow
import Derived.Test.YtgihglodekoddabOrdered
import Derived.Maps.AppendAt
import Derived.Test.YtgihglodekoddabList
import Derived.Laws.IdiomCopy
import Derived.Deep.RegionHeld3
namespace Go.Proofs.Ytgihglodekoddab
open Go.RowKit

set_option maxHeartbeats 1000000 in
theorem clone_some (b o c : Nat) (ps : List (VT × Value)) (d : Nat) (w : World) (hrow : RowAt w b o ps) (hs : ∀ p ∈ ps, Sound d w p) (hlen : ps.length ≤ 65536) :
    Calls Try.prog 28 #[.slice (some ⟨b, o, none⟩) ps.length c] w fun e w' => ∃ v, e = .returned v ∧ w'.ownsRow w.heap.size 25 4 v ps.length (ps.flatMap encP) ∧ Below w.heap.size w w' := by
  obtain ⟨i0, hi, hz0, hz1, hz2⟩ := info24
  have Hi : Hid _ := hi; have Hz0 : Hid _ := hz0; have Hz1 : Hid _ := hz1; have Hz2 : Hid _ := hz2
  clear hi hz0 hz1 hz2
  have HR : Hid (RowAt w b o ps) := hrow
  have HS : Hid _ := hs
  clear hrow hs
  have q22 : ∀ (w : World) (a : Option Addr) (n c n' c' : Nat), (binOp .eql 22 (.slice a n c) (.slice none n' c')).run Try.prog w = .ok (.bool a.isNone) w := fun w a n c n' c' => Lib.run_eql_slice_nil w _ _ a n c n' c' Try.underlying22
  go_enter Try.func28, Try.ntmps28
  go_wp2_with (first
        | (at_builtin; refine wpList_append_own _ rfl _ _ 22 rfl w.heap.size 25 i0 (.agg #[.int .i64 0, .int .i64 0, .string ⟨#[]⟩, .slice none 0 0]) 4 56 Try.underlying22 Hi.out Hz0.out Hz1.out Hz2.out rfl (by decide) _ 0 [] rfl ?c0 ⟨b, o, none⟩ ps.length c (ps.flatMap encP) rfl (flat_len ps) ?c1 ?c2 ?c3 ?c4 ?c5 ?_))
  case c0 => exact World.ownsRow_lit w #[] 0 (Nat.le_refl _) (by unfold maxLen; omega) rfl
  case c1 =>
    intro j u hj
    have := RowAt.flat HR.out j u hj
    have hadd : (⟨b, o, none⟩ : Addr).add j = ⟨b, o + j, none⟩ := by
      unfold Addr.add
      by_cases hk : j = 0
      · subst hk; rfl
      · rw [if_neg hk]
    rw [hadd]
    exact cell_keeps ((Below.refl _ _).alloc (Nat.le_refl _) _) this
  case c2 =>
    intro u hu
    obtain ⟨p, hp, hup⟩ := List.mem_flatMap.1 hu
    exact encP_one (HS.out p hp) u hup
  case c3 => unfold maxLen; omega
  case c4 => omega
  case c5 => simp
  intro v' w2 hown' hgrow _
  have hb2 : Below w.heap.size w w2 := (((Below.refl _ _).alloc (Nat.le_refl _) _)).grown hgrow (by simp) (by
    intro k hk
    simp [Value.ownBlock] at hk; omega)
  clear hgrow
  have Hown : Hid (w2.ownsRow w.heap.size 25 4 v' ps.length (ps.flatMap encP)) := hown'
  clear hown'
  go_wp2_with fail
  go_ret
  exact ⟨_, rfl, Hown.out, hb2⟩

end Go.Proofs.Ytgihglodekoddab

namespace Go.Proofs.Ytgihglodekoddab
open Go.RowKit

abbrev PR : Type := VT × Value

/-- Behind 'prev': those that are not equal to the one ahead. -/
def uniqFrom (g : PR → PR → Bool) : PR → List PR → List PR
  | _, [] => []
  | prev, y :: ys => if g y prev then uniqFrom g y ys else y :: uniqFrom g y ys

def uniq (g : PR → PR → Bool) : List PR → List PR
  | [] => []
  | x :: xs => x :: uniqFrom g x xs

theorem uniqFrom_step (g : PR → PR → Bool) (ps : List PR) (k : Nat) (h0 : 0 < k) (h : k < ps.length) :
    uniqFrom g (ps[k - 1]'(by omega)) (ps.drop k) = if g ps[k] (ps[k - 1]'(by omega)) then uniqFrom g ps[k] (ps.drop (k + 1)) else ps[k] :: uniqFrom g ps[k] (ps.drop (k + 1)) := by
  rw [List.drop_eq_getElem_cons h]; rfl

theorem uniq_start (g : PR → PR → Bool) (ps : List PR) (h : 0 < ps.length) : uniq g ps = ps.take 1 ++ uniqFrom g ps[0] (ps.drop 1) := by
  cases ps with
  | nil => simp at h
  | cons x xs => rfl

theorem late_get (out ps : List PR) (i : Nat) (h1 : out.length ≤ i) (h2 : i < ps.length) (h3 : i < (out ++ ps.drop out.length).length) : (out ++ ps.drop out.length)[i] = ps[i] := by
  rw [List.getElem_append_right h1, List.getElem_drop]
  congr 1
  omega

theorem late_len (out ps : List PR) (h : out.length ≤ ps.length) : (out ++ ps.drop out.length).length = ps.length := by
  rw [List.length_append, List.length_drop]; omega

theorem late_set (out ps : List PR) (p : PR) (h : out.length < ps.length) : (out ++ ps.drop out.length).set out.length p = (out ++ [p]) ++ ps.drop (out ++ [p]).length := by
  rw [List.set_append_right _ _ (Nat.le_refl _), Nat.sub_self, List.drop_eq_getElem_cons h, List.append_assoc]
  simp only [List.length_append, List.length_singleton, List.set_cons_zero, List.singleton_append]

/-- The frozen marks of a row. -/
def Soft (w : World) (b n : Nat) : Prop := ∀ k, k < n * 4 → w.frozen? ⟨b, k, none⟩ = false

theorem Soft.keeps {w w' : World} {b n : Nat} (h : Soft w b n) (hl : b < w.heap.size) (hb : Below w.heap.size w w') : Soft w' b n := fun k hk => (hb.frozen (p := ⟨b, k, none⟩) hl).trans (h k hk)

theorem Soft.put {w : World} {b n : Nat} (h : Soft w b n) (o : Nat) (vs : List Value) : Soft (w.setCells b o vs) b n := fun k hk => by rw [World.frozen?_setCells]; exact h k hk

/-- One element of a row written over. -/
theorem RowAt.put {w : World} {b : Nat} {ps : List PR} (h : RowAt w b 0 ps) (k : Nat) (hk : k < ps.length) (p : PR) : RowAt (w.setCells b (k * 4) (encP p)) b 0 (ps.set k p) := by
  have hin : ∀ j (hj : j < (encP p).length), (w.setCells b (k * 4) (encP p)).cell? ⟨b, k * 4 + j, none⟩ = some ((encP p)[j]) := World.cell?_setCells_in b (encP p) (k * 4) w (fun j hj => by
    obtain ⟨k0, k1, k2, k3⟩ := h k hk
    simp only [Nat.zero_add] at k0 k1 k2 k3
    match j, hj with
    | 0, _ => rw [Nat.add_zero, k0]; rfl
    | 1, _ => rw [k1]; rfl
    | 2, _ => rw [k2]; rfl
    | 3, _ => rw [k3]; rfl)
  intro i hi
  have hi' : i < ps.length := by simpa using hi
  by_cases hik : i = k
  · subst hik
    rw [List.getElem_set_self]
    simp only [Nat.zero_add]
    exact ⟨hin 0 (by simp [encP]), hin 1 (by simp [encP]), hin 2 (by simp [encP]), hin 3 (by simp [encP])⟩
  · rw [List.getElem_set_ne (Ne.symm hik)]
    obtain ⟨k0, k1, k2, k3⟩ := h i hi'
    have out : ∀ r, r < 4 → (w.setCells b (k * 4) (encP p)).cell? ⟨b, 0 + i * 4 + r, none⟩ = w.cell? ⟨b, 0 + i * 4 + r, none⟩ := fun r hr => World.cell?_setCells_out b (encP p) _ w _ (fun _ _ => by simp [encP]; omega)
    exact ⟨(out 0 (by omega)).trans k0, (out 1 (by omega)).trans k1, (out 2 (by omega)).trans k2, (out 3 (by omega)).trans k3⟩

theorem RowAt.take {w : World} {b o : Nat} {ps : List PR} (h : RowAt w b o ps) (k : Nat) : RowAt w b o (ps.take k) := by
  intro i hi
  have hi' : i < ps.length := by simp at hi; omega
  rw [List.getElem_take]
  exact h i hi'

theorem below_setCellsB (b B : Nat) (hB : B ≤ b) : ∀ (vs : List Value) (o : Nat) (w0 w : World), Below B w0 w → Below B w0 (w.setCells b o vs) := by
  intro vs
  induction vs with
  | nil => intro o w0 w h; exact h
  | cons v vs ih => intro o w0 w h; exact ih (o + 1) w0 _ (h.setCell (p := ⟨b, o, none⟩) hB v)

/-- What is left when m elements are cleared. -/
def zeros : Nat → List Value
  | 0 => []
  | m + 1 => [.int .i64 0, .int .i64 0, .string ⟨#[]⟩, .slice none 0 0] ++ zeros m

theorem zeros_len (m : Nat) : (zeros m).length = m * 4 := by
  induction m with
  | zero => rfl
  | succ m ih => simp only [zeros, List.length_append, ih]; simp; omega

theorem zeros_cells (m : Nat) : (Builtin.zeroCells (Value.agg #[.int .i64 0, .int .i64 0, .string ⟨#[]⟩, .slice none 0 0]).cells m).toList = zeros m := by
  apply List.ext_getElem?
  intro i
  have hz : ∀ (m i : Nat), i < m * 4 → (zeros m)[i]? = ([.int .i64 0, .int .i64 0, .string ⟨#[]⟩, .slice none 0 0] : List Value)[i % 4]? := by
    intro m
    induction m with
    | zero => intro i h; omega
    | succ m ih =>
      intro i h
      simp only [zeros]
      by_cases hi : i < 4
      · rw [List.getElem?_append_left (by simpa using hi), Nat.mod_eq_of_lt hi]
      · rw [List.getElem?_append_right (by simp; omega)]
        rw [show i - ([Value.int .i64 0, Value.int .i64 0, Value.string ⟨#[]⟩, Value.slice none 0 0] : List Value).length = i - 4 from rfl, ih (i - 4) (by omega)]
        congr 1
        omega
  by_cases hi : i < m * 4
  · rw [hz m i hi]
    have e : (Value.agg #[.int .i64 0, .int .i64 0, .string ⟨#[]⟩, .slice none 0 0]).cells = #[.int .i64 0, .int .i64 0, .string ⟨#[]⟩, .slice none 0 0] := rfl
    simp only [Builtin.zeroCells, e]
    have hlt : i < m * 4 := hi
    rw [Array.getElem?_toList, Array.getElem?_map]
    have hr : (Array.range (m * (#[Value.int .i64 0, Value.int .i64 0, Value.string ⟨#[]⟩, Value.slice none 0 0] : Array Value).size))[i]? = some i := by
      rw [Array.getElem?_range]
      exact if_pos hlt
    rw [hr]
    simp only [Option.map_some]
    have h4 : i % 4 < 4 := by omega
    show some ((#[Value.int .i64 0, Value.int .i64 0, Value.string ⟨#[]⟩, Value.slice none 0 0] : Array Value)[i % 4]!) = _
    generalize i % 4 = q at h4
    match q, h4 with
    | 0, _ => rfl
    | 1, _ => rfl
    | 2, _ => rfl
    | 3, _ => rfl
  · have h1 : (Builtin.zeroCells (Value.agg #[.int .i64 0, .int .i64 0, .string ⟨#[]⟩, .slice none 0 0]).cells m).toList.length = m * 4 := by
      unfold Builtin.zeroCells
      rw [Array.length_toList, Array.size_map, Array.size_range]
      rfl
    rw [List.getElem?_eq_none (by rw [h1]; omega), List.getElem?_eq_none (by rw [zeros_len]; omega)]

theorem zeros_one (m : Nat) : ∀ v ∈ zeros m, v.oneCell' = true := by
  induction m with
  | zero => intro v h; cases h
  | succ m ih =>
    intro v h
    simp only [zeros, List.mem_append, List.mem_cons, List.not_mem_nil, or_false] at h
    rcases h with (rfl | rfl | rfl | rfl) | h
    · rfl
    · rfl
    · rfl
    · rfl
    · exact ih v h

theorem clear_many (w : World) (ty : TypeId) (b o m c : Nat) (hm : 0 < m) (hc : ∀ j, j < m * 4 → (w.cell? ⟨b, o + j, none⟩).isSome = true) (hf : ∀ j, j < m * 4 → w.frozen? ⟨b, o + j, none⟩ = false) :
    (Builtin.clear_ #[22] ty #[.slice (some ⟨b, o, none⟩) m c]).run Try.prog w = .ok (.tuple #[]) (w.setCells b o (zeros m)) := by
  have hzc := zeros_cells m
  have hst := run_storeCells_cells (P := Try.prog) b o (zeros m) 0 w (by simpa [zeros_len] using hc) (by simpa [zeros_len] using hf) (zeros_one m)
  simp only [Nat.add_zero] at hst
  obtain ⟨k, rfl⟩ : ∃ k, m = k + 1 := ⟨m - 1, by omega⟩
  simp [Builtin.clear_, run_underlying Try.underlying22, hzc, hst]

end Go.Proofs.Ytgihglodekoddab

namespace Go.Proofs.Ytgihglodekoddab
open Go.RowKit

def eqB (d : Nat) (x y : PR) : Bool := cmpV d x.1 y.1 == 0

theorem size_setCellsW (b : Nat) : ∀ (vs : List Value) (o : Nat) (w : World), (w.setCells b o vs).heap.size = w.heap.size := by
  intro vs
  induction vs with
  | nil => intro o w; rfl
  | cons v vs ih => intro o w; rw [World.setCells, ih]; simp [World.setCell]

/-- The world of the row: what is in it, and all that was there ahead. -/
structure RowW (w0 : World) (g n : Nat) (ps : List PR) (w : World) : Prop where
  row : RowAt w g 0 ps
  soft : Soft w g n
  lt : g < w.heap.size
  below : Below w0.heap.size w0 w

theorem RowW.keeps {w0 w w' : World} {g n : Nat} {ps : List PR} (h : RowW w0 g n ps w) (hb : Below w.heap.size w w') : RowW w0 g n ps w' :=
  ⟨h.row.keeps hb, h.soft.keeps h.lt hb, Nat.lt_of_lt_of_le h.lt hb.size, h.below.trans (hb.mono h.below.size)⟩

theorem RowW.at {w0 w : World} {g n : Nat} {ps : List PR} (h : RowW w0 g n ps w) (i : Nat) (hi : i < ps.length) :
    w.cell? ⟨g, i * 4, none⟩ = some (.int .i64 ps[i].1.kind) ∧ w.cell? ⟨g, i * 4 + 1, none⟩ = some (.int .i64 ps[i].1.num) ∧ w.cell? ⟨g, i * 4 + 2, none⟩ = some (.string ps[i].1.text) ∧ w.cell? ⟨g, i * 4 + 3, none⟩ = some ps[i].2 := by
  have := h.row i hi
  simpa only [Nat.zero_add] using this

theorem RowW.put {w0 w : World} {g n : Nat} {ps : List PR} (h : RowW w0 g n ps w) (hg : w0.heap.size ≤ g) (k : Nat) (hk : k < ps.length) (p : PR) : RowW w0 g n (ps.set k p) (w.setCells g (k * 4) (encP p)) :=
  ⟨h.row.put k hk p, h.soft.put _ _, by rw [size_setCellsW]; exact h.lt, below_setCellsB g w0.heap.size hg _ _ _ _ h.below⟩

theorem RowW.cut {w0 w : World} {g n : Nat} {ps : List PR} (h : RowW w0 g n ps w) (hg : w0.heap.size ≤ g) (m : Nat) (hm : m ≤ n) (vs : List Value) : RowW w0 g m (ps.take m) (w.setCells g (m * 4) vs) := by
  refine ⟨?_, fun k hk => ?_, by rw [size_setCellsW]; exact h.lt, below_setCellsB g w0.heap.size hg _ _ _ _ h.below⟩
  · intro i hi
    have hi' : i < ps.length ∧ i < m := by simp at hi; omega
    obtain ⟨k0, k1, k2, k3⟩ := h.row i hi'.1
    rw [List.getElem_take]
    have out : ∀ r, r < 4 → (w.setCells g (m * 4) vs).cell? ⟨g, 0 + i * 4 + r, none⟩ = w.cell? ⟨g, 0 + i * 4 + r, none⟩ := fun r hr => World.cell?_setCells_out g vs _ w _ (fun _ _ => .inl (by show 0 + i * 4 + r < m * 4; omega))
    exact ⟨(out 0 (by omega)).trans k0, (out 1 (by omega)).trans k1, (out 2 (by omega)).trans k2, (out 3 (by omega)).trans k3⟩
  · rw [World.frozen?_setCells]; exact h.soft k (by omega)

theorem RowW.there {w0 w : World} {g n : Nat} {ps : List PR} (h : RowW w0 g n ps w) (k : Nat) (hk : k < ps.length * 4) : (w.cell? ⟨g, k, none⟩).isSome = true := by
  have hl : k < (ps.flatMap encP).length := by rw [flat_len]; exact hk
  have := h.row.flat k _ (List.getElem?_eq_getElem hl)
  rw [Nat.zero_add] at this
  rw [this]; rfl

set_option maxHeartbeats 4000000 in
theorem compact_outer (d g cap : Nat) (w0 w : World) (ps : List PR) (hs : ∀ p ∈ ps, Sound d w0 p) (hg : w0.heap.size ≤ g) (hW : RowW w0 g ps.length ps w) (hlen : ps.length ≤ 65536) (hcap : ps.length ≤ cap) (h2 : 2 ≤ ps.length) :
    Calls Try.prog 14 #[.slice (some ⟨g, 0, none⟩) ps.length cap, .func (.func 16) #[] #[]] w fun e w' => ∃ k, e = .returned (.slice (some ⟨g, 0, none⟩) k cap) ∧ k = (uniq (eqB d) ps).length ∧ RowW w0 g k (uniq (eqB d) ps) w' := by
  have HS : Hid (∀ p ∈ ps, Sound d w0 p) := hs
  have HW : Hid (RowW w0 g ps.length ps w) := hW
  have Hst : Hid _ := uniq_start (eqB d) ps (by omega)
  clear hs hW
  go_enter Try.func14, Try.ntmps14
  go_wp2_with fail
  go_loopg [5] (ps.length - 1) (fun q i wr => ∃ k : Nat, i = .int .i64 (k : Int) ∧ 1 ≤ k ∧ k ≤ ps.length ∧ q = ps.length - k ∧ Hid (∃ (h : k - 1 < ps.length), uniq (eqB d) ps = ps.take k ++ uniqFrom (eqB d) (ps[k - 1]'h) (ps.drop k)) ∧ RowW w0 g ps.length ps wr)
  case atStart => exact ⟨1, rfl, by omega, by omega, by omega, ⟨by omega, Hst.out⟩, HW.out⟩
  case round =>
    obtain ⟨k, rfl, hk1, hk2, hq, Hu, hWr⟩ := hrel
    have Hq : Hid _ := hq
    have HWr : Hid (RowW w0 g ps.length ps wr) := hWr
    clear hq hWr Hst HW
    by_cases hlt : k < ps.length
    · have hlt1 : k - 1 < ps.length := by omega
      have hk4 : (k - 1) * 4 + 4 = k * 4 := by omega
      obtain ⟨p0, p1, p2, p3⟩ := HWr.out.at k hlt
      obtain ⟨q0, q1, q2, q3⟩ := HWr.out.at (k - 1) hlt1
      obtain ⟨s1, s2⟩ := HS.out ps[k] (List.getElem_mem hlt)
      obtain ⟨r1, r2⟩ := HS.out ps[k - 1] (List.getElem_mem hlt1)
      obtain ⟨ax, cx, ex, _⟩ := Lies.slice s1
      obtain ⟨ay, cy, ey, _⟩ := Lies.slice r1
      rw [ex] at p3 s1
      rw [ey] at q3 r1
      have hwr : IntKind.i64.wrap ((k : Int) - 1) = ((k - 1 : Nat) : Int) := by rw [IntKind.wrap_i64]; omega
      have hcall : Hid (Calls Try.prog 16 #[.agg #[.int .i64 ps[k].1.kind, .int .i64 ps[k].1.num, .string ps[k].1.text, .slice ax ps[k].1.items.length cx], .agg #[.int .i64 ps[k - 1].1.kind, .int .i64 ps[k - 1].1.num, .string ps[k - 1].1.text, .slice ay ps[k - 1].1.items.length cy]] wr.drew fun e w' => e = .returned (.bool (eqB d ps[k] ps[k - 1])) ∧ Grew wr.drew w') :=
        equal_any d ps[k].1 ps[k - 1].1 _ _ wr.drew (Lies.keeps HWr.out.below.drew _ _ _ s1) (Lies.keeps HWr.out.below.drew _ _ _ r1)
      generalize hkk : k - 1 = k' at *
      have Hkk : Hid (k - 1 = k') := hkk
      clear hkk s1 r1 s2 r2 ex ey hk4
      go_wp2_with fail
      go_region_held3 (fun w' => w'.cell? ⟨g, k * 4, none⟩ = some (.int .i64 ps[k].1.kind) ∧ w'.cell? ⟨g, k * 4 + 1, none⟩ = some (.int .i64 ps[k].1.num) ∧ w'.cell? ⟨g, k * 4 + 2, none⟩ = some (.string ps[k].1.text) ∧ w'.cell? ⟨g, k * 4 + 3, none⟩ = some (.slice ax ps[k].1.items.length cx)
          ∧ w'.cell? ⟨g, k' * 4, none⟩ = some (.int .i64 ps[k'].1.kind) ∧ w'.cell? ⟨g, k' * 4 + 1, none⟩ = some (.int .i64 ps[k'].1.num) ∧ w'.cell? ⟨g, k' * 4 + 2, none⟩ = some (.string ps[k'].1.text) ∧ w'.cell? ⟨g, k' * 4 + 3, none⟩ = some (.slice ay ps[k'].1.items.length cy)) (go_keep)
          (first | (go_at_call 16; refine Calls.mono hcall.out ?_; rintro e w1 ⟨rfl, hb1⟩; have hb2 : Grew wr w1 := ((Grew.refl wr).drew).trans hb1; clear hb1; have t0 := cell_keeps hb2.below p0; have t1 := cell_keeps hb2.below p1; have t2 := cell_keeps hb2.below p2; have t3 := cell_keeps hb2.below p3; have v0 := cell_keeps hb2.below q0; have v1 := cell_keeps hb2.below q1; have v2 := cell_keeps hb2.below q2; have v3 := cell_keeps hb2.below q3))
      have HW1 : Hid (RowW w0 g ps.length ps w1) := HWr.out.keeps hb2.below
      have Hstep : Hid (uniq (eqB d) ps = ps.take k ++ (if eqB d ps[k] ps[k'] then uniqFrom (eqB d) ps[k] (ps.drop (k + 1)) else ps[k] :: uniqFrom (eqB d) ps[k] (ps.drop (k + 1)))) := by
        obtain ⟨hh, hu⟩ := Hu.out
        show _ = _
        have e := uniqFrom_step (eqB d) ps k (by omega) hlt
        simp only [Hkk.out] at e
        rw [hu, e]
      clear hcall hb2 p0 p1 p2 p3 q0 q1 q2 q3 t0 t1 t2 t3 v0 v1 v2 v3 HWr hwr Hu
      cases hz : eqB d ps[k] ps[k']
      · go_wp2_with fail
        go_roundg (ps.length - (k + 1))
        case measure => have := Hq.out; omega
        case rel =>
          refine ⟨k + 1, by go_num, by omega, by omega, rfl, ⟨by omega, ?_⟩, HW1.out⟩
          rw [Hstep.out, hz]
          simp only [Bool.false_eq_true, if_false]
          rw [List.take_succ_eq_append_getElem hlt, List.append_assoc]
          rfl
      · have Hu0 : Hid (uniq (eqB d) ps = ps.take k ++ uniqFrom (eqB d) ps[k] (ps.drop (k + 1))) := by
          show _ = _
          rw [Hstep.out, hz]; rfl
        clear Hstep hz Hkk
        have htk : (ps.take k).length = k := by rw [List.length_take]; omega
        have Htk : Hid ((ps.take k).length = k) := htk
        clear htk
        go_wp2_with fail
        go_loopg [5, 7] (ps.length - k) (fun q v i wx => ∃ (m j : Nat) (out : List PR), v = .int .i64 (m : Int) ∧ i = .int .i64 (j : Int) ∧ 1 ≤ j ∧ j ≤ ps.length - k ∧ k ≤ m ∧ m + 1 ≤ k + j ∧ q = ps.length - k - j + 1 ∧ Hid (out.length = m ∧ ∃ h : k + j - 1 < ps.length, uniq (eqB d) ps = out ++ uniqFrom (eqB d) (ps[k + j - 1]'h) (ps.drop (k + j))) ∧ RowW w0 g ps.length (out ++ ps.drop m) wx)
        case atStart =>
          refine ⟨k, 1, ps.take k, rfl, rfl, by omega, by omega, by omega, by omega, by omega, ⟨Htk.out, by omega, ?_⟩, ?_⟩
          · simp only [Nat.add_sub_cancel]; exact Hu0.out
          · rw [List.take_append_drop]; exact HW1.out
        case round =>
          obtain ⟨m, j, out, rfl, rfl, hj1, hj2, hkm, hmj, hq2, Ho, hWx⟩ := hrel
          have Hq2 : Hid _ := hq2
          have HWx : Hid (RowW w0 g ps.length (out ++ ps.drop m) wr) := hWx
          clear hq2 hWx Hu0 HW1
          obtain ⟨hol, hbnd, hun⟩ := Ho.out
          have Hol : Hid (out.length = m) := hol
          have hm2 : m ≤ ps.length := by omega
          have Hll : Hid ((out ++ ps.drop m).length = ps.length) := by
            show _ = _
            have := late_len out ps (by omega)
            rw [hol] at this; exact this
          by_cases hltj : j < ps.length - k
          · have hik : k + j < ps.length := by omega
            have hik1 : k + j - 1 < ps.length := by omega
            have g1 : ∀ (i : Nat) (h : i < ps.length) (h' : i < (out ++ ps.drop m).length), m ≤ i → (out ++ ps.drop m)[i] = ps[i] := fun i h h' hmi => by
              subst hol
              exact late_get out ps i hmi h h'
            have a1 := HWx.out.at (k + j) (by rw [Hll.out]; exact hik)
            have a2 := HWx.out.at (k + j - 1) (by rw [Hll.out]; exact hik1)
            rw [g1 (k + j) hik _ (by omega)] at a1
            rw [g1 (k + j - 1) hik1 _ (by omega)] at a2
            have e1 : (k + j) * 4 = k * 4 + j * 4 := by omega
            obtain ⟨j', hj'⟩ : ∃ j', j = j' + 1 := ⟨j - 1, by omega⟩
            have e2 : (k + j - 1) * 4 = k * 4 + j' * 4 := by omega
            rw [e1] at a1
            rw [e2] at a2
            obtain ⟨p0, p1, p2, p3⟩ := a1
            obtain ⟨q0, q1, q2, q3⟩ := a2
            obtain ⟨s1, _⟩ := HS.out ps[k + j] (List.getElem_mem hik)
            obtain ⟨r1, _⟩ := HS.out ps[k + j - 1] (List.getElem_mem hik1)
            obtain ⟨bx, dx, ex, _⟩ := Lies.slice s1
            obtain ⟨by', dy, ey, _⟩ := Lies.slice r1
            have hst := uniqFrom_step (eqB d) ps (k + j) (by omega) hik
            have Hset : Hid _ := late_set out ps ps[k + j] (by omega)
            have Hpp : Hid (ps[k + j] = (ps[k + j].1, .slice bx ps[k + j].1.items.length dx)) := by show _ = _; rw [← ex]
            rw [ex] at p3 s1
            rw [ey] at q3 r1
            have hwr : IntKind.i64.wrap ((j : Int) - 1) = (j' : Int) := by rw [IntKind.wrap_i64]; omega
            have hcall : Hid (Calls Try.prog 16 #[.agg #[.int .i64 ps[k + j].1.kind, .int .i64 ps[k + j].1.num, .string ps[k + j].1.text, .slice bx ps[k + j].1.items.length dx], .agg #[.int .i64 ps[k + j - 1].1.kind, .int .i64 ps[k + j - 1].1.num, .string ps[k + j - 1].1.text, .slice by' ps[k + j - 1].1.items.length dy]] wr.drew fun e w' => e = .returned (.bool (eqB d ps[k + j] ps[k + j - 1])) ∧ Grew wr.drew w') :=
              equal_any d ps[k + j].1 ps[k + j - 1].1 _ _ wr.drew (Lies.keeps HWx.out.below.drew _ _ _ s1) (Lies.keeps HWx.out.below.drew _ _ _ r1)
            have Hun : Hid (uniq (eqB d) ps = out ++ (if eqB d ps[k + j] ps[k + j - 1] then uniqFrom (eqB d) ps[k + j] (ps.drop (k + j + 1)) else ps[k + j] :: uniqFrom (eqB d) ps[k + j] (ps.drop (k + j + 1)))) := by
              obtain ⟨_, _, hun0⟩ := Ho.out
              show _ = _
              rw [hun0, hst]
            have Hj' : Hid (j = j' + 1) := hj'
            generalize hX : ps[k + j] = X at *
            generalize hY : ps[k + j - 1] = Y at *
            have HX : Hid (ps[k + j] = X) := hX
            have hjj : j' < ps.length - k := by omega
            clear hX hY hun hst g1 s1 r1 ex ey e1 e2 hj' hol Ho
            go_wp2_with fail
            go_region_held3 (fun w' => w'.cell? ⟨g, k * 4 + j * 4, none⟩ = some (.int .i64 X.1.kind) ∧ w'.cell? ⟨g, k * 4 + j * 4 + 1, none⟩ = some (.int .i64 X.1.num) ∧ w'.cell? ⟨g, k * 4 + j * 4 + 2, none⟩ = some (.string X.1.text) ∧ w'.cell? ⟨g, k * 4 + j * 4 + 3, none⟩ = some (.slice bx X.1.items.length dx)
                ∧ w'.cell? ⟨g, k * 4 + j' * 4, none⟩ = some (.int .i64 Y.1.kind) ∧ w'.cell? ⟨g, k * 4 + j' * 4 + 1, none⟩ = some (.int .i64 Y.1.num) ∧ w'.cell? ⟨g, k * 4 + j' * 4 + 2, none⟩ = some (.string Y.1.text) ∧ w'.cell? ⟨g, k * 4 + j' * 4 + 3, none⟩ = some (.slice by' Y.1.items.length dy)) (go_keep)
                (first | (go_at_call 16; refine Calls.mono hcall.out ?_; rintro e w2 ⟨rfl, hb1⟩; have hb2 : Grew wr w2 := ((Grew.refl wr).drew).trans hb1; clear hb1; have t0 := cell_keeps hb2.below p0; have t1 := cell_keeps hb2.below p1; have t2 := cell_keeps hb2.below p2; have t3 := cell_keeps hb2.below p3; have v0 := cell_keeps hb2.below q0; have v1 := cell_keeps hb2.below q1; have v2 := cell_keeps hb2.below q2; have v3 := cell_keeps hb2.below q3))
            have HW2 : Hid (RowW w0 g ps.length (out ++ ps.drop m) w2) := HWx.out.keeps hb2.below
            clear hcall hb2 p0 p1 p2 p3 q0 q1 q2 q3 v0 v1 v2 v3 HWx hwr
            cases hz : eqB d X Y
            · have hml : m < ps.length := by omega
              have hm4 : ∀ r, r < 4 → m * 4 + r < (out ++ ps.drop m).length * 4 := fun r hr => by rw [Hll.out]; omega
              obtain ⟨o0, y0⟩ := Option.isSome_iff_exists.1 (HW2.out.there (m * 4) (hm4 0 (by omega)))
              obtain ⟨o1, y1⟩ := Option.isSome_iff_exists.1 (HW2.out.there (m * 4 + 1) (hm4 1 (by omega)))
              obtain ⟨o2, y2⟩ := Option.isSome_iff_exists.1 (HW2.out.there (m * 4 + 2) (hm4 2 (by omega)))
              obtain ⟨o3, y3⟩ := Option.isSome_iff_exists.1 (HW2.out.there (m * 4 + 3) (hm4 3 (by omega)))
              have z0 := HW2.out.soft (m * 4) (by omega)
              have z1 := HW2.out.soft (m * 4 + 1) (by omega)
              have z2 := HW2.out.soft (m * 4 + 2) (by omega)
              have z3 := HW2.out.soft (m * 4 + 3) (by omega)
              have hput := HW2.out.put hg m (by rw [Hll.out]; exact hml) X
              have hset := Hset.out
              rw [Hol.out] at hset
              rw [hset, Hpp.out] at hput
              have Hput : Hid (RowW w0 g ps.length (out ++ [X] ++ ps.drop (m + 1)) (w2.setCells g (m * 4) (encP (X.1, .slice bx X.1.items.length dx)))) := by
                have e : (out ++ [X]).length = m + 1 := by rw [List.length_append, Hol.out]; rfl
                rw [← Hpp.out, e] at hput
                rw [← Hpp.out]
                exact hput
              clear hput hset hm4 HW2
              go_wp2_with fail
              go_roundg (ps.length - k - (j + 1) + 1)
              case measure => have := Hq2.out; omega
              case rel =>
                refine ⟨m + 1, j + 1, out ++ [X], by go_num, by go_num, by omega, by omega, by omega, by omega, rfl, ⟨by rw [List.length_append, Hol.out]; rfl, by omega, ?_⟩, Hput.out⟩
                have e : ps[k + (j + 1) - 1]'(by omega) = X := by rw [← HX.out]; rfl
                rw [e, Hun.out, hz, List.append_assoc]; rfl
            · go_wp2_with fail
              go_roundg (ps.length - k - (j + 1) + 1)
              case measure => have := Hq2.out; omega
              case rel =>
                refine ⟨m, j + 1, out, rfl, by go_num, by omega, by omega, by omega, by omega, rfl, ⟨Hol.out, by omega, ?_⟩, HW2.out⟩
                have e : ps[k + (j + 1) - 1]'(by omega) = X := by rw [← HX.out]; rfl
                rw [e, Hun.out, hz]; rfl
          · have Hfin : Hid (uniq (eqB d) ps = out) := by
              show _ = _
              rw [hun, List.drop_eq_nil_of_le (by omega)]
              simp [uniqFrom]
            have hmn : 0 < ps.length - m := by omega
            have hcl : ∀ ty c, (Builtin.clear_ #[22] ty #[.slice (some ⟨g, m * 4, none⟩) (ps.length - m) c]).run Try.prog wr = .ok (.tuple #[]) (wr.setCells g (m * 4) (zeros (ps.length - m))) := fun ty c => clear_many wr ty g (m * 4) (ps.length - m) c hmn
              (fun q hq => HWx.out.there _ (by rw [Hll.out]; omega)) (fun q hq => HWx.out.soft _ (by omega))
            have Hcut : Hid (RowW w0 g m out (wr.setCells g (m * 4) (zeros (ps.length - m)))) := by
              have := HWx.out.cut hg m hm2 (zeros (ps.length - m))
              rw [List.take_append_of_le_length (by omega), List.take_of_length_le (by omega)] at this
              exact this
            clear hun hol Ho HWx
            go_wp2_with fail
            go_ret
            exact ⟨m, rfl, by rw [Hfin.out, Hol.out], by rw [Hfin.out]; exact Hcut.out⟩
    · have Hfin : Hid (uniq (eqB d) ps = ps) := by
        obtain ⟨hh, hu⟩ := Hu.out
        show _ = _
        rw [hu, List.drop_eq_nil_of_le (by omega), List.take_of_length_le (by omega)]
        simp [uniqFrom]
      clear Hu
      go_wp2_with fail
      go_ret
      exact ⟨ps.length, rfl, by rw [Hfin.out], by rw [Hfin.out]; exact HWr.out⟩

end Go.Proofs.Ytgihglodekoddab

