/-
  The contract of slices.rotateCmpFunc at pairs: two rows that lie one behind the other change places.
-/
import Derived.Test.YtgihglodekoddaaOwnRow
import Derived.Test.YtgihglodekoddaaSymC
import Derived.Maps.AppendAt
import Derived.Test.YtgihglodekoddaaRis
import Derived.Laws.IdiomCopy
import Derived.Deep.RegionHeld3
import Derived.BigRegion
namespace Go.Proofs.Ytgihglodekoddaa
open Go.RowKit

set_option maxHeartbeats 1000000 in
theorem clone_some (b o c : Nat) (ps : List (VT × Value)) (d : Nat) (w : World) (hrow : RowAt w b o ps) (hs : ∀ p ∈ ps, Sound d w p) (hlen : ps.length ≤ 65536) :
    Calls Try.prog 72 #[.slice (some ⟨b, o, none⟩) ps.length c] w fun e w' => ∃ v, e = .returned v ∧ w'.ownsRow w.heap.size 24 4 v ps.length (ps.flatMap encP) ∧ Below w.heap.size w w' := by
  obtain ⟨i0, hi, hz0, hz1, hz2⟩ := info24
  have Hi : Hid _ := hi; have Hz0 : Hid _ := hz0; have Hz1 : Hid _ := hz1; have Hz2 : Hid _ := hz2
  clear hi hz0 hz1 hz2
  have HR : Hid (RowAt w b o ps) := hrow
  have HS : Hid _ := hs
  clear hrow hs
  have q22 : ∀ (w : World) (a : Option Addr) (n c n' c' : Nat), (binOp .eql 22 (.slice a n c) (.slice none n' c')).run Try.prog w = .ok (.bool a.isNone) w := fun w a n c n' c' => Lib.run_eql_slice_nil w _ _ a n c n' c' Try.underlying22
  go_enter Try.func72, Try.ntmps72
  go_wp2_with (first
        | (at_builtin; refine wpList_append_own _ rfl _ _ 22 rfl w.heap.size 24 i0 (.agg #[.int .i64 0, .int .i64 0, .string ⟨#[]⟩, .slice none 0 0]) 4 56 Try.underlying22 Hi.out Hz0.out Hz1.out Hz2.out rfl (by decide) _ 0 [] rfl ?c0 ⟨b, o, none⟩ ps.length c (ps.flatMap encP) rfl (flat_len ps) ?c1 ?c2 ?c3 ?c4 ?c5 ?_))
  case c0 => exact World.ownsRow_lit w #[] 0 (Nat.le_refl _) (by unfold maxLen; omega) rfl
  case c1 =>
    intro j u hj
    have := RowAt.flat HR.out j u hj
    have hadd : (⟨b, o, none⟩ : Addr).add j = ⟨b, o + j, none⟩ := by
      unfold Addr.add
      by_cases hk : j = 0
      · subst hk; rfl
      · rw [if_neg hk]
    rw [hadd]
    exact cell_keeps ((Below.refl _ _).alloc (Nat.le_refl _) _) this
  case c2 =>
    intro u hu
    obtain ⟨p, hp, hup⟩ := List.mem_flatMap.1 hu
    exact encP_one (HS.out p hp) u hup
  case c3 => unfold maxLen; omega
  case c4 => omega
  case c5 => simp
  intro v' w2 hown' hgrow _
  have hb2 : Below w.heap.size w w2 := (((Below.refl _ _).alloc (Nat.le_refl _) _)).grown hgrow (by simp) (by
    intro k hk
    simp [Value.ownBlock] at hk; omega)
  clear hgrow
  have Hown : Hid (w2.ownsRow w.heap.size 24 4 v' ps.length (ps.flatMap encP)) := hown'
  clear hown'
  go_wp2_with fail
  go_ret
  exact ⟨_, rfl, Hown.out, hb2⟩

end Go.Proofs.Ytgihglodekoddaa

namespace Go.Proofs.Ytgihglodekoddaa
open Go.RowKit

abbrev PR : Type := VT × Value

/-- The frozen marks of a row. -/
def Soft (w : World) (b n : Nat) : Prop := ∀ k, k < n * 4 → w.frozen? ⟨b, k, none⟩ = false

theorem Soft.keeps {w w' : World} {b n : Nat} (h : Soft w b n) (hl : b < w.heap.size) (hb : Below w.heap.size w w') : Soft w' b n := fun k hk => (hb.frozen (p := ⟨b, k, none⟩) hl).trans (h k hk)

theorem Soft.put {w : World} {b n : Nat} (h : Soft w b n) (o : Nat) (vs : List Value) : Soft (w.setCells b o vs) b n := fun k hk => by rw [World.frozen?_setCells]; exact h k hk

/-- One element of a row written over. -/
theorem RowAt.put {w : World} {b : Nat} {ps : List PR} (h : RowAt w b 0 ps) (k : Nat) (hk : k < ps.length) (p : PR) : RowAt (w.setCells b (k * 4) (encP p)) b 0 (ps.set k p) := by
  have hin : ∀ j (hj : j < (encP p).length), (w.setCells b (k * 4) (encP p)).cell? ⟨b, k * 4 + j, none⟩ = some ((encP p)[j]) := World.cell?_setCells_in b (encP p) (k * 4) w (fun j hj => by
    obtain ⟨k0, k1, k2, k3⟩ := h k hk
    simp only [Nat.zero_add] at k0 k1 k2 k3
    match j, hj with
    | 0, _ => rw [Nat.add_zero, k0]; rfl
    | 1, _ => rw [k1]; rfl
    | 2, _ => rw [k2]; rfl
    | 3, _ => rw [k3]; rfl)
  intro i hi
  have hi' : i < ps.length := by simpa using hi
  by_cases hik : i = k
  · subst hik
    rw [List.getElem_set_self]
    simp only [Nat.zero_add]
    exact ⟨hin 0 (by simp [encP]), hin 1 (by simp [encP]), hin 2 (by simp [encP]), hin 3 (by simp [encP])⟩
  · rw [List.getElem_set_ne (Ne.symm hik)]
    obtain ⟨k0, k1, k2, k3⟩ := h i hi'
    have out : ∀ r, r < 4 → (w.setCells b (k * 4) (encP p)).cell? ⟨b, 0 + i * 4 + r, none⟩ = w.cell? ⟨b, 0 + i * 4 + r, none⟩ := fun r hr => World.cell?_setCells_out b (encP p) _ w _ (fun _ _ => by simp [encP]; omega)
    exact ⟨(out 0 (by omega)).trans k0, (out 1 (by omega)).trans k1, (out 2 (by omega)).trans k2, (out 3 (by omega)).trans k3⟩

theorem RowAt.take {w : World} {b o : Nat} {ps : List PR} (h : RowAt w b o ps) (k : Nat) : RowAt w b o (ps.take k) := by
  intro i hi
  have hi' : i < ps.length := by simp at hi; omega
  rw [List.getElem_take]
  exact h i hi'

theorem below_setCellsB (b B : Nat) (hB : B ≤ b) : ∀ (vs : List Value) (o : Nat) (w0 w : World), Below B w0 w → Below B w0 (w.setCells b o vs) := by
  intro vs
  induction vs with
  | nil => intro o w0 w h; exact h
  | cons v vs ih => intro o w0 w h; exact ih (o + 1) w0 _ (h.setCell (p := ⟨b, o, none⟩) hB v)

end Go.Proofs.Ytgihglodekoddaa

namespace Go.Proofs.Ytgihglodekoddaa
open Go.RowKit

theorem size_setCellsW (b : Nat) : ∀ (vs : List Value) (o : Nat) (w : World), (w.setCells b o vs).heap.size = w.heap.size := by
  intro vs
  induction vs with
  | nil => intro o w; rfl
  | cons v vs ih => intro o w; rw [World.setCells, ih]; simp [World.setCell]

/-- The world of the row: what is in it, and all that was there ahead. -/
structure RowW (w0 : World) (g n : Nat) (ps : List PR) (w : World) : Prop where
  row : RowAt w g 0 ps
  soft : Soft w g n
  lt : g < w.heap.size
  below : Below w0.heap.size w0 w

theorem RowW.keeps {w0 w w' : World} {g n : Nat} {ps : List PR} (h : RowW w0 g n ps w) (hb : Below w.heap.size w w') : RowW w0 g n ps w' :=
  ⟨h.row.keeps hb, h.soft.keeps h.lt hb, Nat.lt_of_lt_of_le h.lt hb.size, h.below.trans (hb.mono h.below.size)⟩

theorem RowW.at {w0 w : World} {g n : Nat} {ps : List PR} (h : RowW w0 g n ps w) (i : Nat) (hi : i < ps.length) :
    w.cell? ⟨g, i * 4, none⟩ = some (.int .i64 ps[i].1.kind) ∧ w.cell? ⟨g, i * 4 + 1, none⟩ = some (.int .i64 ps[i].1.num) ∧ w.cell? ⟨g, i * 4 + 2, none⟩ = some (.string ps[i].1.text) ∧ w.cell? ⟨g, i * 4 + 3, none⟩ = some ps[i].2 := by
  have := h.row i hi
  simpa only [Nat.zero_add] using this

theorem RowW.put {w0 w : World} {g n : Nat} {ps : List PR} (h : RowW w0 g n ps w) (hg : w0.heap.size ≤ g) (k : Nat) (hk : k < ps.length) (p : PR) : RowW w0 g n (ps.set k p) (w.setCells g (k * 4) (encP p)) :=
  ⟨h.row.put k hk p, h.soft.put _ _, by rw [size_setCellsW]; exact h.lt, below_setCellsB g w0.heap.size hg _ _ _ _ h.below⟩

theorem RowW.cut {w0 w : World} {g n : Nat} {ps : List PR} (h : RowW w0 g n ps w) (hg : w0.heap.size ≤ g) (m : Nat) (hm : m ≤ n) (vs : List Value) : RowW w0 g m (ps.take m) (w.setCells g (m * 4) vs) := by
  refine ⟨?_, fun k hk => ?_, by rw [size_setCellsW]; exact h.lt, below_setCellsB g w0.heap.size hg _ _ _ _ h.below⟩
  · intro i hi
    have hi' : i < ps.length ∧ i < m := by simp at hi; omega
    obtain ⟨k0, k1, k2, k3⟩ := h.row i hi'.1
    rw [List.getElem_take]
    have out : ∀ r, r < 4 → (w.setCells g (m * 4) vs).cell? ⟨g, 0 + i * 4 + r, none⟩ = w.cell? ⟨g, 0 + i * 4 + r, none⟩ := fun r hr => World.cell?_setCells_out g vs _ w _ (fun _ _ => .inl (by show 0 + i * 4 + r < m * 4; omega))
    exact ⟨(out 0 (by omega)).trans k0, (out 1 (by omega)).trans k1, (out 2 (by omega)).trans k2, (out 3 (by omega)).trans k3⟩
  · rw [World.frozen?_setCells]; exact h.soft k (by omega)

theorem RowW.there {w0 w : World} {g n : Nat} {ps : List PR} (h : RowW w0 g n ps w) (k : Nat) (hk : k < ps.length * 4) : (w.cell? ⟨g, k, none⟩).isSome = true := by
  have hl : k < (ps.flatMap encP).length := by rw [flat_len]; exact hk
  have := h.row.flat k _ (List.getElem?_eq_getElem hl)
  rw [Nat.zero_add] at this
  rw [this]; rfl

end Go.Proofs.Ytgihglodekoddaa

namespace Go.Proofs.Ytgihglodekoddaa
open Go.RowKit

/-- A pair: its key and its value, each with where its items lie. -/
abbrev PP := PR × PR

/-- A pair's eight cells. -/
def encQ (p : PP) : List Value := encP p.1 ++ encP p.2

theorem encQ_len (p : PP) : (encQ p).length = 8 := rfl

/-- Block g holds the pairs ps, to be written; what w0 had is as it was. -/
structure RowQ (w0 : World) (g : Nat) (ps : List PP) (w : World) : Prop where
  row : ∀ (i : Nat) (h : i < ps.length) (q : Nat) (hq : q < 8), w.cell? ⟨g, i * 8 + q, none⟩ = some ((encQ (ps[i]'h))[q]'(by rw [encQ_len]; exact hq))
  fz : ∀ k, k < ps.length * 8 → w.frozen? ⟨g, k, none⟩ = false
  lt : g < w.heap.size
  below : Below w0.heap.size w0 w

theorem RowQ.keeps {w0 w w' : World} {g : Nat} {ps : List PP} (h : RowQ w0 g ps w) (hb : Below w.heap.size w w') : RowQ w0 g ps w' :=
  ⟨fun i hi q hq => cell_keeps hb (h.row i hi q hq), fun k hk => (hb.frozen (p := ⟨g, k, none⟩) h.lt).trans (h.fz k hk), Nat.lt_of_lt_of_le h.lt hb.size, h.below.trans (hb.mono h.below.size)⟩

theorem RowQ.at {w0 w : World} {g : Nat} {ps : List PP} (h : RowQ w0 g ps w) (i : Nat) (hi : i < ps.length) :
    w.cell? ⟨g, i * 8, none⟩ = some (.int .i64 ps[i].1.1.kind) ∧ w.cell? ⟨g, i * 8 + 1, none⟩ = some (.int .i64 ps[i].1.1.num) ∧ w.cell? ⟨g, i * 8 + 2, none⟩ = some (.string ps[i].1.1.text) ∧ w.cell? ⟨g, i * 8 + 3, none⟩ = some ps[i].1.2 ∧
    w.cell? ⟨g, i * 8 + 4, none⟩ = some (.int .i64 ps[i].2.1.kind) ∧ w.cell? ⟨g, i * 8 + 5, none⟩ = some (.int .i64 ps[i].2.1.num) ∧ w.cell? ⟨g, i * 8 + 6, none⟩ = some (.string ps[i].2.1.text) ∧ w.cell? ⟨g, i * 8 + 7, none⟩ = some ps[i].2.2 :=
  ⟨h.row i hi 0 (by omega), h.row i hi 1 (by omega), h.row i hi 2 (by omega), h.row i hi 3 (by omega), h.row i hi 4 (by omega), h.row i hi 5 (by omega), h.row i hi 6 (by omega), h.row i hi 7 (by omega)⟩

theorem RowQ.fzs {w0 w : World} {g : Nat} {ps : List PP} (h : RowQ w0 g ps w) (i : Nat) (hi : i < ps.length) :
    w.frozen? ⟨g, i * 8, none⟩ = false ∧ w.frozen? ⟨g, i * 8 + 1, none⟩ = false ∧ w.frozen? ⟨g, i * 8 + 2, none⟩ = false ∧ w.frozen? ⟨g, i * 8 + 3, none⟩ = false ∧
    w.frozen? ⟨g, i * 8 + 4, none⟩ = false ∧ w.frozen? ⟨g, i * 8 + 5, none⟩ = false ∧ w.frozen? ⟨g, i * 8 + 6, none⟩ = false ∧ w.frozen? ⟨g, i * 8 + 7, none⟩ = false :=
  ⟨h.fz _ (by omega), h.fz _ (by omega), h.fz _ (by omega), h.fz _ (by omega), h.fz _ (by omega), h.fz _ (by omega), h.fz _ (by omega), h.fz _ (by omega)⟩

theorem RowQ.put {w0 w : World} {g : Nat} {ps : List PP} (h : RowQ w0 g ps w) (hg : w0.heap.size ≤ g) (k : Nat) (hk : k < ps.length) (p : PP) : RowQ w0 g (ps.set k p) (w.setCells g (k * 8) (encQ p)) := by
  have hin := World.cell?_setCells_in g (encQ p) (k * 8) w (fun q hq => by rw [h.row k hk q (by rw [encQ_len] at hq; exact hq)]; rfl)
  refine ⟨fun i hi q hq => ?_, fun j hj => ?_, ?_, below_setCellsB g w0.heap.size hg _ _ _ _ h.below⟩
  · rw [List.length_set] at hi
    by_cases e : i = k
    · subst e
      rw [hin q (by rw [encQ_len]; exact hq)]
      simp
    · rw [World.cell?_setCells_out g (encQ p) (k * 8) w ⟨g, i * 8 + q, none⟩ (fun _ _ => by rw [encQ_len]; show i * 8 + q < k * 8 ∨ k * 8 + 8 ≤ i * 8 + q; omega), h.row i hi q hq]
      simp [Ne.symm e]
  · rw [World.frozen?_setCells]
    rw [List.length_set] at hj
    exact h.fz j hj
  · have : ∀ (vs : List Value) (o : Nat) (W : World), (W.setCells g o vs).heap.size = W.heap.size := by
      intro vs
      induction vs with
      | nil => intro o W; rfl
      | cons v vs ih => intro o W; rw [World.setCells, ih]; simp [World.setCell]
    rw [this]; exact h.lt

/-- Two change places. -/
def swapL (ps : List PP) (i j : Nat) (hi : i < ps.length) (hj : j < ps.length) : List PP := (ps.set i ps[j]).set j ps[i]

theorem RowQ.swap {w0 w : World} {g : Nat} {ps : List PP} (h : RowQ w0 g ps w) (hg : w0.heap.size ≤ g) (i j : Nat) (hi : i < ps.length) (hj : j < ps.length) :
    RowQ w0 g (swapL ps i j hi hj) ((w.setCells g (i * 8) (encQ ps[j])).setCells g (j * 8) (encQ ps[i])) :=
  (h.put hg i hi ps[j]).put hg j (by rw [List.length_set]; exact hj) ps[i]

end Go.Proofs.Ytgihglodekoddaa

namespace Go.Proofs.Ytgihglodekoddaa
open Go.RowKit

/-- Two change places, if they are there. -/
def swp2 (ps : List PP) (i j : Nat) : List PP := if h : i < ps.length ∧ j < ps.length then swapL ps i j h.1 h.2 else ps

def swpN (ps : List PP) (a b : Nat) : Nat → List PP
  | 0 => ps
  | i + 1 => swp2 (swpN ps a b i) (a + i) (b + i)

theorem swp2_len (ps : List PP) (i j : Nat) : (swp2 ps i j).length = ps.length := by
  unfold swp2 swapL
  split
  · simp
  · rfl

theorem swpN_len (ps : List PP) (a b : Nat) : ∀ n, (swpN ps a b n).length = ps.length := by
  intro n
  induction n with
  | zero => rfl
  | succ n ih => show (swp2 _ _ _).length = _; rw [swp2_len, ih]

/-- Every pair's two lists are slices. -/
def Slq (ps : List PP) : Prop := ∀ p ∈ ps, (∃ a n c, p.1.2 = .slice a n c) ∧ ∃ a n c, p.2.2 = .slice a n c

set_option maxRecDepth 100000 in
set_option maxHeartbeats 16000000 in
theorem swapRange_any (w0 : World) (g cap a b n : Nat) (fv : Value) (ps : List PP) (w : World) (hg : w0.heap.size ≤ g) (hR : RowQ w0 g ps w) (hS : ∀ i, Slq (swpN ps a b i)) (hab : a + n ≤ b) (hb : b + n ≤ ps.length) (hlen : ps.length ≤ 65536) :
    Calls Try.prog 111 #[.slice (some ⟨g, 0, none⟩) ps.length cap, .int .i64 a, .int .i64 b, .int .i64 n, fv] w fun e w' => e = .returned (.tuple #[]) ∧ RowQ w0 g (swpN ps a b n) w' := by
  have HR0 : Hid (RowQ w0 g (swpN ps a b 0) w) := hR
  have HS : Hid (∀ i, Slq (swpN ps a b i)) := hS
  have HLn : Hid (∀ i, (swpN ps a b i).length = ps.length) := swpN_len ps a b
  have HSt : Hid (∀ i, swpN ps a b (i + 1) = swp2 (swpN ps a b i) (a + i) (b + i)) := fun _ => rfl
  clear hR hS
  generalize swpN ps a b = Q at *
  generalize ps.length = L at *
  go_enter Try.func111, Try.ntmps111
  go_wp2_with fail
  go_loopg [10] n (fun z i wr => ∃ (j : Nat), i = .int .i64 (j : Int) ∧ j ≤ n ∧ z = n - j ∧ Hid (RowQ w0 g (Q j) wr))
  case atStart => exact ⟨0, rfl, by omega, by omega, HR0⟩
  case round =>
    obtain ⟨j, rfl, hj, hk, HM⟩ := hrel
    have Hk : Hid _ := hk
    clear hk HR0
    by_cases hlt : j < n
    · obtain ⟨x, hx⟩ : ∃ x, x = a + j := ⟨_, rfl⟩
      obtain ⟨y, hy⟩ : ∃ y, y = b + j := ⟨_, rfl⟩
      have hxl : x < (Q j).length := by rw [HLn.out]; omega
      have hyl : y < (Q j).length := by rw [HLn.out]; omega
      have hne : ¬ x = y := by omega
      have HN : Hid (RowQ w0 g (Q (j + 1)) ((wr.setCells g (x * 8) (encQ (Q j)[y])).setCells g (y * 8) (encQ (Q j)[x])).drew) := by
        have := (HM.out.swap hg x y hxl hyl).keeps (Grew.refl _).drew.below
        rw [HSt.out, ← hx, ← hy]
        unfold swp2
        rw [dif_pos ⟨hxl, hyl⟩]
        exact this
      obtain ⟨p0, p1, p2, p3, p4, p5, p6, p7⟩ := HM.out.at x hxl
      obtain ⟨r0, r1, r2, r3, r4, r5, r6, r7⟩ := HM.out.at y hyl
      obtain ⟨f0, f1, f2, f3, f4, f5, f6, f7⟩ := HM.out.fzs x hxl
      obtain ⟨z0, z1, z2, z3, z4, z5, z6, z7⟩ := HM.out.fzs y hyl
      obtain ⟨⟨pa, pn, pc, e1⟩, ⟨pb, pm, pd, e2⟩⟩ := HS.out j _ (List.getElem_mem hxl)
      obtain ⟨⟨ra, rn, rc, e3⟩, ⟨rb, rm, rd, e4⟩⟩ := HS.out j _ (List.getElem_mem hyl)
      rw [e1] at p3; rw [e2] at p7; rw [e3] at r3; rw [e4] at r7
      simp only [encQ, encP, e1, e2, e3, e4] at HN
      generalize (Q j)[x] = p at *
      generalize (Q j)[y] = r at *
      clear e1 e2 e3 e4
      have hwx : IntKind.i64.wrap ((a : Int) + (j : Int)) = (x : Int) := by rw [IntKind.wrap_i64]; omega
      have hwy : IntKind.i64.wrap ((b : Int) + (j : Int)) = (y : Int) := by rw [IntKind.wrap_i64]; omega
      have hxi : (x : Int) < (L : Nat) := by rw [HLn.out] at hxl; omega
      have hyi : (y : Int) < (L : Nat) := by rw [HLn.out] at hyl; omega
      have hji : (j : Int) < (n : Nat) := by omega
      clear hx hy hxl hyl
      have n00 : ¬ (y * 8 = x * 8) := by omega
      have n01 : ¬ (y * 8 = x * 8 + 1) := by omega
      have n02 : ¬ (y * 8 = x * 8 + 2) := by omega
      have n03 : ¬ (y * 8 = x * 8 + 3) := by omega
      have n04 : ¬ (y * 8 = x * 8 + 4) := by omega
      have n05 : ¬ (y * 8 = x * 8 + 5) := by omega
      have n06 : ¬ (y * 8 = x * 8 + 6) := by omega
      have n07 : ¬ (y * 8 = x * 8 + 7) := by omega
      have n10 : ¬ (y * 8 + 1 = x * 8) := by omega
      have n11 : ¬ (y * 8 + 1 = x * 8 + 1) := by omega
      have n12 : ¬ (y * 8 + 1 = x * 8 + 2) := by omega
      have n13 : ¬ (y * 8 + 1 = x * 8 + 3) := by omega
      have n14 : ¬ (y * 8 + 1 = x * 8 + 4) := by omega
      have n15 : ¬ (y * 8 + 1 = x * 8 + 5) := by omega
      have n16 : ¬ (y * 8 + 1 = x * 8 + 6) := by omega
      have n17 : ¬ (y * 8 + 1 = x * 8 + 7) := by omega
      have n20 : ¬ (y * 8 + 2 = x * 8) := by omega
      have n21 : ¬ (y * 8 + 2 = x * 8 + 1) := by omega
      have n22 : ¬ (y * 8 + 2 = x * 8 + 2) := by omega
      have n23 : ¬ (y * 8 + 2 = x * 8 + 3) := by omega
      have n24 : ¬ (y * 8 + 2 = x * 8 + 4) := by omega
      have n25 : ¬ (y * 8 + 2 = x * 8 + 5) := by omega
      have n26 : ¬ (y * 8 + 2 = x * 8 + 6) := by omega
      have n27 : ¬ (y * 8 + 2 = x * 8 + 7) := by omega
      have n30 : ¬ (y * 8 + 3 = x * 8) := by omega
      have n31 : ¬ (y * 8 + 3 = x * 8 + 1) := by omega
      have n32 : ¬ (y * 8 + 3 = x * 8 + 2) := by omega
      have n33 : ¬ (y * 8 + 3 = x * 8 + 3) := by omega
      have n34 : ¬ (y * 8 + 3 = x * 8 + 4) := by omega
      have n35 : ¬ (y * 8 + 3 = x * 8 + 5) := by omega
      have n36 : ¬ (y * 8 + 3 = x * 8 + 6) := by omega
      have n37 : ¬ (y * 8 + 3 = x * 8 + 7) := by omega
      have n40 : ¬ (y * 8 + 4 = x * 8) := by omega
      have n41 : ¬ (y * 8 + 4 = x * 8 + 1) := by omega
      have n42 : ¬ (y * 8 + 4 = x * 8 + 2) := by omega
      have n43 : ¬ (y * 8 + 4 = x * 8 + 3) := by omega
      have n44 : ¬ (y * 8 + 4 = x * 8 + 4) := by omega
      have n45 : ¬ (y * 8 + 4 = x * 8 + 5) := by omega
      have n46 : ¬ (y * 8 + 4 = x * 8 + 6) := by omega
      have n47 : ¬ (y * 8 + 4 = x * 8 + 7) := by omega
      have n50 : ¬ (y * 8 + 5 = x * 8) := by omega
      have n51 : ¬ (y * 8 + 5 = x * 8 + 1) := by omega
      have n52 : ¬ (y * 8 + 5 = x * 8 + 2) := by omega
      have n53 : ¬ (y * 8 + 5 = x * 8 + 3) := by omega
      have n54 : ¬ (y * 8 + 5 = x * 8 + 4) := by omega
      have n55 : ¬ (y * 8 + 5 = x * 8 + 5) := by omega
      have n56 : ¬ (y * 8 + 5 = x * 8 + 6) := by omega
      have n57 : ¬ (y * 8 + 5 = x * 8 + 7) := by omega
      have n60 : ¬ (y * 8 + 6 = x * 8) := by omega
      have n61 : ¬ (y * 8 + 6 = x * 8 + 1) := by omega
      have n62 : ¬ (y * 8 + 6 = x * 8 + 2) := by omega
      have n63 : ¬ (y * 8 + 6 = x * 8 + 3) := by omega
      have n64 : ¬ (y * 8 + 6 = x * 8 + 4) := by omega
      have n65 : ¬ (y * 8 + 6 = x * 8 + 5) := by omega
      have n66 : ¬ (y * 8 + 6 = x * 8 + 6) := by omega
      have n67 : ¬ (y * 8 + 6 = x * 8 + 7) := by omega
      have n70 : ¬ (y * 8 + 7 = x * 8) := by omega
      have n71 : ¬ (y * 8 + 7 = x * 8 + 1) := by omega
      have n72 : ¬ (y * 8 + 7 = x * 8 + 2) := by omega
      have n73 : ¬ (y * 8 + 7 = x * 8 + 3) := by omega
      have n74 : ¬ (y * 8 + 7 = x * 8 + 4) := by omega
      have n75 : ¬ (y * 8 + 7 = x * 8 + 5) := by omega
      have n76 : ¬ (y * 8 + 7 = x * 8 + 6) := by omega
      have n77 : ¬ (y * 8 + 7 = x * 8 + 7) := by omega
      go_wp2_with fail
      go_region
      clear p0 p1 p2 p3 p4 p5 p6 p7 r0 r1 r2 r3 r4 r5 r6 r7 f0 f1 f2 f3 f4 f5 f6 f7 z0 z1 z2 z3 z4 z5 z6 z7 n00 n01 n02 n03 n04 n05 n06 n07 n10 n11 n12 n13 n14 n15 n16 n17 n20 n21 n22 n23 n24 n25 n26 n27 n30 n31 n32 n33 n34 n35 n36 n37 n40 n41 n42 n43 n44 n45 n46 n47 n50 n51 n52 n53 n54 n55 n56 n57 n60 n61 n62 n63 n64 n65 n66 n67 n70 n71 n72 n73 n74 n75 n76 n77
      simp only [World.setCells, List.cons_append, List.nil_append] at HN
      go_wp2_with fail
      go_roundg (n - (j + 1))
      case measure => have := Hk.out; omega
      case rel => exact ⟨j + 1, by go_num, by omega, rfl, HN⟩
    · have hjn : j = n := by omega
      subst hjn
      go_wp2_with fail
      exact bodyPost_end (v := .tuple #[]) (by simp [results, Try.results111, go_sem]) rfl ⟨rfl, HM.out⟩

end Go.Proofs.Ytgihglodekoddaa

namespace Go.Proofs.Ytgihglodekoddaa
open Go.RowKit

theorem swp2_app (A B C : List PP) (x y : PP) : swp2 (A ++ (x :: (B ++ (y :: C)))) A.length (A.length + 1 + B.length) = A ++ (y :: (B ++ (x :: C))) := by
  unfold swp2
  have h1 : A.length < (A ++ (x :: (B ++ (y :: C)))).length := by simp
  have h2 : A.length + 1 + B.length < (A ++ (x :: (B ++ (y :: C)))).length := by simp; omega
  rw [dif_pos ⟨h1, h2⟩]
  unfold swapL
  have e1 : (A ++ (x :: (B ++ (y :: C))))[A.length] = x := by simp
  have e2 : (A ++ (x :: (B ++ (y :: C))))[A.length + 1 + B.length] = y := by
    rw [List.getElem_append_right (by omega)]
    have : A.length + 1 + B.length - A.length = B.length + 1 := by omega
    simp only [this, List.getElem_cons_succ]
    simp
  rw [e1, e2]
  have s1 : (A ++ (x :: (B ++ (y :: C)))).set A.length y = A ++ (y :: (B ++ (y :: C))) := by
    rw [List.set_append_right _ _ (by omega)]
    simp
  rw [s1, List.set_append_right _ _ (by omega)]
  have : A.length + 1 + B.length - A.length = B.length + 1 := by omega
  rw [this, List.set_cons_succ, List.set_append_right _ _ (by omega)]
  simp

theorem swpN_app : ∀ (n : Nat) (A U B V C : List PP), U.length = n → V.length = n → swpN (A ++ (U ++ (B ++ (V ++ C)))) A.length (A.length + n + B.length) n = A ++ (V ++ (B ++ (U ++ C))) := by
  intro n
  induction n with
  | zero =>
    intro A U B V C hu hv
    have e1 : U = [] := List.eq_nil_of_length_eq_zero hu
    have e2 : V = [] := List.eq_nil_of_length_eq_zero hv
    subst e1 e2
    rfl
  | succ n ih =>
    intro A U B V C hu hv
    obtain ⟨U', u, rfl⟩ : ∃ U' u, U = U' ++ [u] := by
      rcases List.eq_nil_or_concat U with h | ⟨l, b, h⟩
      · subst h; simp at hu
      · exact ⟨l, b, by rw [h, List.concat_eq_append]⟩
    obtain ⟨V', v, rfl⟩ : ∃ V' v, V = V' ++ [v] := by
      rcases List.eq_nil_or_concat V with h | ⟨l, b, h⟩
      · subst h; simp at hv
      · exact ⟨l, b, by rw [h, List.concat_eq_append]⟩
    have hu' : U'.length = n := by simp at hu; omega
    have hv' : V'.length = n := by simp at hv; omega
    have hin : A ++ ((U' ++ [u]) ++ (B ++ ((V' ++ [v]) ++ C))) = A ++ (U' ++ ((u :: B) ++ (V' ++ (v :: C)))) := by simp
    show swp2 (swpN _ _ _ n) (A.length + n) (A.length + (n + 1) + B.length + n) = _
    have hb : A.length + (n + 1) + B.length = A.length + n + (u :: B).length := by simp; omega
    rw [hin, hb, ih A U' (u :: B) V' (v :: C) hu' hv']
    have e3 : A ++ (V' ++ ((u :: B) ++ (U' ++ (v :: C)))) = (A ++ V') ++ (u :: ((B ++ U') ++ (v :: C))) := by simp
    have e4 : A.length + n = (A ++ V').length := by simp [hv']
    have e5 : A.length + n + (u :: B).length + n = (A ++ V').length + 1 + (B ++ U').length := by simp [hv', hu']; omega
    rw [e3, e5, e4, swp2_app]
    simp

theorem swp2_mem {ps : List PP} {i j : Nat} {x : PP} (h : x ∈ swp2 ps i j) : x ∈ ps := by
  unfold swp2 at h
  split at h
  · unfold swapL at h
    rcases List.mem_or_eq_of_mem_set h with h | h
    · rcases List.mem_or_eq_of_mem_set h with h | h
      · exact h
      · rw [h]; exact List.getElem_mem _
    · rw [h]; exact List.getElem_mem _
  · exact h

theorem swpN_mem {ps : List PP} {a b : Nat} {x : PP} : ∀ n, x ∈ swpN ps a b n → x ∈ ps := by
  intro n
  induction n with
  | zero => intro h; exact h
  | succ n ih => intro h; exact ih (swp2_mem h)

/-- The same in parts. -/
theorem swapRange_parts (w0 : World) (g cap : Nat) (fv : Value) (A U B V C : List PP) (n a b L : Nat) (w : World) (hg : w0.heap.size ≤ g) (hU : U.length = n) (hV : V.length = n) (ha : a = A.length) (hb : b = A.length + n + B.length) (hL : L = (A ++ (U ++ (B ++ (V ++ C)))).length) (hR : RowQ w0 g (A ++ (U ++ (B ++ (V ++ C)))) w) (hS : Slq (A ++ (U ++ (B ++ (V ++ C))))) (hlen : L ≤ 65536) :
    Calls Try.prog 111 #[.slice (some ⟨g, 0, none⟩) L cap, .int .i64 a, .int .i64 b, .int .i64 n, fv] w fun e w' => e = .returned (.tuple #[]) ∧ RowQ w0 g (A ++ (V ++ (B ++ (U ++ C)))) w' := by
  subst ha hb hL
  have h := swapRange_any w0 g cap A.length (A.length + n + B.length) n fv (A ++ (U ++ (B ++ (V ++ C)))) w hg hR (fun i p hp => hS p (swpN_mem i hp)) (by omega) (by simp; omega) hlen
  rw [swpN_app n A U B V C hU hV] at h
  exact h

/-- What stands before a round: what is left to change places, and what will be. -/
structure Rot (w0 : World) (g L m : Nat) (T : List PP) (wr : World) (i j : Nat) (A X Y C : List PP) : Prop where
  ei : X.length = i
  ej : Y.length = j
  pi : 0 < i
  pj : 0 < j
  em : A.length + i = m
  el : (A ++ (X ++ (Y ++ C))).length = L
  row : RowQ w0 g (A ++ (X ++ (Y ++ C))) wr
  tgt : A ++ (Y ++ (X ++ C)) = T
  sl : Slq (A ++ (X ++ (Y ++ C)))

theorem Slq.perm {l m : List PP} (h : Slq l) (hm : ∀ x ∈ m, x ∈ l) : Slq m := fun p hp => h p (hm p hp)

theorem Rot.more {w0 : World} {g L m : Nat} {T : List PP} {wr : World} {i j : Nat} {A X1 X2 Y C : List PP} (h : Rot w0 g L m T wr i j A (X1 ++ X2) Y C) (hj : j < i) (h1 : X1.length = j) {W : World} (hR : RowQ w0 g (A ++ (Y ++ (X2 ++ (X1 ++ C)))) W) : Rot w0 g L m T W (i - j) j (A ++ Y) X2 X1 C := by
  have hei := h.ei
  have hej := h.ej
  have hem := h.em
  have hel := h.el
  simp at hei hel
  refine ⟨by omega, h1, by omega, h.pj, by simp; omega, by simp; omega, by simpa using hR, by rw [← h.tgt]; simp, h.sl.perm (fun x hx => ?_)⟩
  simp at hx ⊢
  rcases hx with hx | hx | hx | hx | hx <;> simp [hx]

theorem Rot.less {w0 : World} {g L m : Nat} {T : List PP} {wr : World} {i j : Nat} {A X Y1 Y2 C : List PP} (h : Rot w0 g L m T wr i j A X (Y1 ++ Y2) C) (hj : i < j) (h2 : Y2.length = i) {W : World} (hR : RowQ w0 g (A ++ (Y2 ++ (Y1 ++ (X ++ C)))) W) : Rot w0 g L m T W i (j - i) A Y2 Y1 (X ++ C) := by
  have hei := h.ei
  have hej := h.ej
  have hem := h.em
  have hel := h.el
  simp at hej hel
  refine ⟨h2, by omega, h.pi, by omega, hem, by simp; omega, by simpa using hR, by rw [← h.tgt]; simp, h.sl.perm (fun x hx => ?_)⟩
  simp at hx ⊢
  rcases hx with hx | hx | hx | hx | hx <;> simp [hx]

set_option maxRecDepth 100000 in
set_option maxHeartbeats 8000000 in
theorem rotate_any (w0 : World) (g cap a m b L : Nat) (fv : Value) (A X Y C : List PP) (w : World) (hg : w0.heap.size ≤ g) (ha : a = A.length) (hm : m = A.length + X.length) (hb : b = A.length + X.length + Y.length) (hX : 0 < X.length) (hY : 0 < Y.length) (hL : L = (A ++ (X ++ (Y ++ C))).length) (hR : RowQ w0 g (A ++ (X ++ (Y ++ C))) w) (hS : Slq (A ++ (X ++ (Y ++ C)))) (hlen : L ≤ 65536) :
    Calls Try.prog 110 #[.slice (some ⟨g, 0, none⟩) L cap, .int .i64 a, .int .i64 m, .int .i64 b, fv] w fun e w' => e = .returned (.tuple #[]) ∧ RowQ w0 g (A ++ (Y ++ (X ++ C))) w' := by
  have HR0 : Hid (Rot w0 g L m (A ++ (Y ++ (X ++ C))) w X.length Y.length A X Y C) := ⟨rfl, rfl, hX, hY, hm.symm, hL.symm, hR, rfl, hS⟩
  have hml : b ≤ L := by rw [hb, hL]; simp; omega
  have hw1 : IntKind.i64.wrap ((m : Int) - (a : Int)) = (X.length : Int) := by rw [IntKind.wrap_i64]; omega
  have hw2 : IntKind.i64.wrap ((b : Int) - (m : Int)) = (Y.length : Int) := by rw [IntKind.wrap_i64]; omega
  have hmL : m ≤ 65536 := by omega
  generalize X.length = i0 at *
  generalize Y.length = j0 at *
  generalize A ++ (Y ++ (X ++ C)) = T at *
  clear hR hS hL ha hm hb hml
  go_enter Try.func110, Try.ntmps110
  go_wp2_with fail
  go_loopg [10, 11] (i0 + j0) (fun z vi vj wr => ∃ (i j : Nat) (A X Y C : List PP), vi = .int .i64 (i : Int) ∧ vj = .int .i64 (j : Int) ∧ z = i + j ∧ Hid (Rot w0 g L m T wr i j A X Y C))
  case atStart => exact ⟨i0, j0, A, X, Y, C, rfl, rfl, rfl, HR0⟩
  case round =>
    obtain ⟨i, j, A, X, Y, C, rfl, rfl, hk, HM⟩ := hrel
    have Hk : Hid _ := hk
    clear hk HR0 hw1 hw2
    have pi := HM.out.pi
    have pj := HM.out.pj
    have em := HM.out.em
    have ei := HM.out.ei
    have ej := HM.out.ej
    have hLj : A.length + i + j ≤ L := by have := HM.out.el; simp at this; omega
    by_cases hij : i = j
    · subst hij
      have hwa : IntKind.i64.wrap ((m : Int) - (i : Int)) = (A.length : Int) := by rw [IntKind.wrap_i64]; omega
      have Hc : Hid _ := fun W (h : RowQ w0 g (A ++ (X ++ ([] ++ (Y ++ C)))) W) => swapRange_parts w0 g cap fv A X [] Y C i A.length m L W hg ei ej rfl (by simp; omega) (by have := HM.out.el; simp at this ⊢; omega) h (by simpa using HM.out.sl) hlen
      have HT : Hid (A ++ (Y ++ ([] ++ (X ++ C))) = T) := by show _ = _; rw [← HM.out.tgt]; simp
      have Hrow : Hid (RowQ w0 g (A ++ (X ++ ([] ++ (Y ++ C)))) wr) := by show RowQ _ _ _ _; simpa using HM.out.row
      clear HM ei ej em
      go_wp2_with fail
      refine (Hc.out _ Hrow.out).mono ?_
      rintro e w1 ⟨rfl, hr1⟩
      go_wp2_with fail
      exact bodyPost_end (v := .tuple #[]) (by simp [results, Try.results110, go_sem]) rfl ⟨rfl, by rw [← HT.out]; exact hr1⟩
    · have hij' : ¬ (i : Int) = (j : Int) := by omega
      by_cases hlt : j < i
      · have hlti : (j : Int) < (i : Int) := by omega
        obtain ⟨X1, X2, rfl, h1⟩ : ∃ X1 X2, X = X1 ++ X2 ∧ X1.length = j := ⟨X.take j, X.drop j, (List.take_append_drop j X).symm, by rw [List.length_take]; omega⟩
        have hwa : IntKind.i64.wrap ((m : Int) - (i : Int)) = (A.length : Int) := by rw [IntKind.wrap_i64]; omega
        have hwi : IntKind.i64.wrap ((i : Int) - (j : Int)) = ((i - j : Nat) : Int) := by rw [IntKind.wrap_i64]; omega
        have Hc : Hid _ := fun W (h : RowQ w0 g (A ++ (X1 ++ (X2 ++ (Y ++ C)))) W) => swapRange_parts w0 g cap fv A X1 X2 Y C j A.length m L W hg h1 ej rfl (by simp at ei; omega) (by have := HM.out.el; simp at this ⊢; omega) h (by simpa using HM.out.sl) hlen
        have HN : Hid (∀ W, RowQ w0 g (A ++ (Y ++ (X2 ++ (X1 ++ C)))) W → Rot w0 g L m T W (i - j) j (A ++ Y) X2 X1 C) := fun W h => HM.out.more hlt h1 h
        have Hrow : Hid (RowQ w0 g (A ++ (X1 ++ (X2 ++ (Y ++ C)))) wr) := by show RowQ _ _ _ _; simpa using HM.out.row
        clear HM ei ej em h1
        go_wp2_with fail
        refine (Hc.out _ Hrow.out).mono ?_
        rintro e w1 ⟨rfl, hr1⟩
        have HN1 : Hid _ := HN.out _ hr1
        clear hr1 HN Hc Hrow
        go_wp2_with fail
        go_roundg (i - j + j)
        case measure => have := Hk.out; omega
        case rel => exact ⟨i - j, j, _, _, _, _, rfl, rfl, rfl, HN1⟩
      · have hlti : ¬ (j : Int) < (i : Int) := by omega
        have hji : i < j := by omega
        obtain ⟨Y1, Y2, rfl, h2⟩ : ∃ Y1 Y2, Y = Y1 ++ Y2 ∧ Y2.length = i := ⟨Y.take (j - i), Y.drop (j - i), (List.take_append_drop _ Y).symm, by rw [List.length_drop]; omega⟩
        have hwa : IntKind.i64.wrap ((m : Int) - (i : Int)) = (A.length : Int) := by rw [IntKind.wrap_i64]; omega
        have hws : IntKind.i64.wrap ((m : Int) + (j : Int)) = ((m + j : Nat) : Int) := by rw [IntKind.wrap_i64]; omega
        have hwt : IntKind.i64.wrap (((m + j : Nat) : Int) - (i : Int)) = ((m + j - i : Nat) : Int) := by rw [IntKind.wrap_i64]; omega
        have hwi : IntKind.i64.wrap ((j : Int) - (i : Int)) = ((j - i : Nat) : Int) := by rw [IntKind.wrap_i64]; omega
        have Hc : Hid _ := fun W (h : RowQ w0 g (A ++ (X ++ (Y1 ++ (Y2 ++ C)))) W) => swapRange_parts w0 g cap fv A X Y1 Y2 C i A.length (m + j - i) L W hg ei h2 rfl (by simp at ej; omega) (by have := HM.out.el; simp at this ⊢; omega) h (by simpa using HM.out.sl) hlen
        have HN : Hid (∀ W, RowQ w0 g (A ++ (Y2 ++ (Y1 ++ (X ++ C)))) W → Rot w0 g L m T W i (j - i) A Y2 Y1 (X ++ C)) := fun W h => HM.out.less hji h2 h
        have Hrow : Hid (RowQ w0 g (A ++ (X ++ (Y1 ++ (Y2 ++ C)))) wr) := by show RowQ _ _ _ _; simpa using HM.out.row
        clear HM ei ej em h2
        generalize m + j = s at *
        go_wp2_with fail
        refine (Hc.out _ Hrow.out).mono ?_
        rintro e w1 ⟨rfl, hr1⟩
        have HN1 : Hid _ := HN.out _ hr1
        clear hr1 HN Hc Hrow
        go_wp2_with fail
        go_roundg (i + (j - i))
        case measure => have := Hk.out; omega
        case rel => exact ⟨i, j - i, _, _, _, _, rfl, rfl, rfl, HN1⟩

end Go.Proofs.Ytgihglodekoddaa

