/-
  seq.List: the items of a list as a seq.
-/
import Derived.Test.YtbhfbjbigafnpaaAppRow
import Derived.Test.YtbhfbjbigafnpaaSpeaks23
import Derived.RangeFuncNested
import Derived.RangeFuncBound
import Derived.RangeFuncCalls
import Derived.RangeFuncLeaves
import Derived.Shelf.Abstract
import Derived.Shelf.RegionOpen
import Derived.WalkKit
import Derived.OwnWalkIn
import Derived.TacticsInMore
import Derived.LoopNIn
import Derived.LoopIn
import Derived.Test.YtbhfbjbigafnpaaList
namespace Go.Proofs.Ytbhfbjbigafnpaa
open Go.RowKit Go.Shelf

attribute [local go_sem] Oper.semAt_some

/-- A place in a row. -/
def Bk (ps : List (VT × Value)) : Type := { i : Nat // i < ps.length }

/-- What is handed out there. -/
def encB (ps : List (VT × Value)) (x : Bk ps) : Array Value := #[.int .i64 (x.1 : Int), .agg #[.int .i64 (ps[x.1]'x.2).1.kind, .int .i64 (ps[x.1]'x.2).1.num, .string (ps[x.1]'x.2).1.text, (ps[x.1]'x.2).2]]

/-- The last so many places, from the last one on. -/
def bks (ps : List (VT × Value)) : Nat → List (Bk ps)
  | 0 => []
  | k + 1 => bks ps k ++ (if h : ps.length - 1 - k < ps.length then [⟨ps.length - 1 - k, h⟩] else [])

theorem bks_succ (ps : List (VT × Value)) (k : Nat) (h : k < ps.length) : bks ps (k + 1) = bks ps k ++ [⟨ps.length - 1 - k, by omega⟩] := by
  rw [bks, dif_pos (by omega)]

theorem bks_len (ps : List (VT × Value)) : ∀ k, k ≤ ps.length → (bks ps k).length = k
  | 0, _ => rfl
  | k + 1, h => by rw [bks_succ ps k (by omega), List.length_append, bks_len ps k (by omega)]; rfl

/-- All have come, or a round has said that it wants no more. -/
def BkPost (ps : List (VT × Value)) (J Jx : List (Bk ps) → World → Prop) (e : Ending) (W' : World) : Prop := (∃ v, e = .returned v) ∧ ((∃ ys, ys = bks ps ps.length ∧ J ys W') ∨ (∃ pre, True ∧ Jx pre W'))

set_option maxRecDepth 100000 in
set_option maxHeartbeats 4000000 in
theorem back1_in (n : Nat) (hn : 1 ≤ n) (l Bs : Nat) (aL : Option Addr) (cap : Nat) (w0 : World) (ps : List (VT × Value)) (hrow : ps ≠ [] → ∃ b o, aL = some ⟨b, o, none⟩ ∧ RowAt w0 b o ps) (hbig : ps.length ≤ 9223372036854775807) (Kp : World → World → Prop) (hK : ∀ W W', Kp W W' → W'.cell? ⟨Bs, 0, none⟩ = W.cell? ⟨Bs, 0, none⟩ ∧ Below w0.heap.size W W')
    (J Jx : List (Bk ps) → World → Prop)
    (hY : ∀ pre (x : Bk ps) W, J pre W → pre.length < ps.length → YieldAt Fence.wide (n - 1) Try.prog l (encB ps x) W fun e W' =>
      (e = .returned (.bool true) ∧ J (pre ++ [x]) W' ∧ Kp W W') ∨ (e = .returned (.bool false) ∧ Jx (pre ++ [x]) W'))
    (W : World) (hw0 : Below w0.heap.size w0 W) (hBs : W.cell? ⟨Bs, 0, none⟩ = some (.slice aL ps.length cap)) (h0 : J [] W) :
    CallsIn Fence.wide n Try.prog 32 #[.func (.yield l) #[] #[], .pointer (some ⟨Bs, 0, none⟩)] W (BkPost ps J Jx) := by
  obtain ⟨LL, hLL⟩ : ∃ LL, LL = ps.length := ⟨_, rfl⟩
  have HLL : Hid (LL = ps.length) := hLL
  have hw1 : IntKind.i64.wrap ((LL : Nat) - 1 : Int) = (LL : Int) - 1 := by rw [IntKind.wrap_i64]; omega
  rw [← hLL] at hBs
  clear hLL
  refine callsIn_of_wp Try.func32 rfl trivial ?_ rfl
  simp only [Try.ntmps32, List.size_toArray, List.length_cons, List.length_nil, Nat.reduceAdd, Nat.reduceSub, Array.replicate_succ, Array.replicate_zero, List.push_toArray, List.append_toArray, List.nil_append, List.cons_append]
  gi_wp2
  gi_loopw [3] (fun i wr => ∃ k : Nat, k ≤ LL ∧ i = .int .i64 ((LL : Int) - 1 - (k : Int)) ∧ J (bks ps k) wr ∧ wr.cell? ⟨Bs, 0, none⟩ = some (.slice aL LL cap) ∧ Below w0.heap.size w0 wr)
    (fun i _ => (intOf i + 1).toNat)
  case atStart => exact ⟨0, Nat.zero_le _, by simp, h0, hBs, hw0⟩
  case round =>
    obtain ⟨k, hk, rfl, hJs, hcs, hbw⟩ := hrel
    by_cases hlt : k < LL
    · obtain ⟨i, hi⟩ : ∃ i : Nat, i = LL - 1 - k := ⟨_, rfl⟩
      have ei : (LL : Int) - 1 - (k : Int) = (i : Int) := by omega
      rw [ei]
      have hip : i < ps.length := by have := HLL.out; omega
      have hne : ps ≠ [] := by intro h; rw [h] at hip; simp at hip
      obtain ⟨b, o, rfl, hr⟩ := hrow hne
      obtain ⟨r0, r1, r2, r3⟩ := hr i hip
      have r0 := cell_keeps hbw r0; have r1 := cell_keeps hbw r1; have r2 := cell_keeps hbw r2; have r3 := cell_keeps hbw r3
      have HYx : Hid (YieldAt Fence.wide (n - 1) Try.prog l #[.int .i64 (i : Int), .agg #[.int .i64 (ps[i]'hip).1.kind, .int .i64 (ps[i]'hip).1.num, .string (ps[i]'hip).1.text, (ps[i]'hip).2]] wr fun e W' =>
          (e = .returned (.bool true) ∧ J (bks ps (k + 1)) W' ∧ Kp wr W') ∨ (e = .returned (.bool false) ∧ Jx (bks ps (k + 1)) W')) := by
        have hYx := hY _ ⟨i, hip⟩ wr hJs (by rw [bks_len ps k (by have := HLL.out; omega)]; have := HLL.out; omega)
        have e9 : bks ps (k + 1) = bks ps k ++ [⟨i, hip⟩] := by rw [bks_succ ps k (by have := HLL.out; omega)]; congr 2; exact Subtype.ext (by show ps.length - 1 - k = i; have := HLL.out; omega)
        rw [e9]
        exact hYx
      have hi0 : (0 : Int) ≤ (i : Int) := by omega
      have hiL : (i : Int) < (LL : Int) := by omega
      have hw2 : IntKind.i64.wrap ((i : Int) - 1) = (LL : Int) - 1 - ((k + 1 : Nat) : Int) := by rw [IntKind.wrap_i64]; omega
      have HIk : Hid (i = LL - 1 - k ∧ k < LL) := ⟨hi, hlt⟩
      generalize (ps[i]'hip).1 = t at *
      generalize (ps[i]'hip).2 = u at *
      clear hY hJs hrow hr hne ei hlt hi
      obtain ⟨fn, tmps, assign, body, hy, hR⟩ := HYx.out
      clear HYx
      gi_wp2
      refine hR.mono ?_
      rintro e W3 (⟨rfl, hJ3, hk3⟩ | ⟨rfl, hJx3⟩)
      · have hc1 : W3.cell? ⟨Bs, 0, none⟩ = some (.slice (some ⟨b, o, none⟩) LL cap) := (hK _ _ hk3).1.trans hcs
        have hb3 : Below w0.heap.size w0 W3 := hbw.trans (hK _ _ hk3).2
        gi_wp2
        go_roundw
        case rel => exact ⟨k + 1, by have := HIk.out; omega, by first | rfl | rw [hw2], hJ3, hc1, hb3⟩
        case measure => have := HIk.out; simp [intOf]; omega
      · gi_wp2
        refine bodyPost_ret (results_none rfl _ _ _) rfl ?_
        exact ⟨⟨_, rfl⟩, .inr ⟨_, trivial, hJx3⟩⟩
    · have hIi : ¬ (0 : Int) ≤ (LL : Int) - 1 - (k : Int) := by omega
      have hke : k = ps.length := by have := HLL.out; omega
      have HJs : Hid (J (bks ps ps.length) wr) := by rw [← hke]; exact hJs
      clear hJs hY hke
      gi_wp2
      go_end0
      exact ⟨⟨_, rfl⟩, .inl ⟨_, rfl, HJs.out⟩⟩

/-- What a round of slices.Backward must keep. -/
def KpB (n0 Bs : Nat) (W W' : World) : Prop := Below n0 W W' ∧ W'.cell? ⟨Bs, 0, none⟩ = W.cell? ⟨Bs, 0, none⟩

theorem KpB.t {n0 Bs : Nat} {A B C : World} (h : KpB n0 Bs A B) (k : KpB n0 Bs B C) : KpB n0 Bs A C := ⟨h.1.trans k.1, k.2.trans h.2⟩

theorem back_stops (n : Nat) (hn : 1 ≤ n) (Bs : Nat) (aL : Option Addr) (cap : Nat) (w0 : World) (ps : List (VT × Value)) (hrow : ps ≠ [] → ∃ b o, aL = some ⟨b, o, none⟩ ∧ RowAt w0 b o ps) (hbig : ps.length ≤ 9223372036854775807) (w : World) (hw : Below w0.heap.size w0 w) (hs : Bs < w.heap.size) (hBs : w.cell? ⟨Bs, 0, none⟩ = some (.slice aL ps.length cap)) :
    SeqStopsK Fence.wide n Try.prog 32 #[.pointer (some ⟨Bs, 0, none⟩)] (encB ps) (KpB w0.heap.size Bs) (fun ys => ys = bks ps ps.length) (fun _ => True) ps.length w := fun l J Jx W hW _ _ hY h0 =>
  back1_in n hn l Bs aL cap w0 ps hrow hbig (KpB w0.heap.size Bs) (fun _ _ h => ⟨h.2, h.1⟩) J Jx hY W (hw.trans (hW.mono hw.size)) ((hW.cell (p := ⟨Bs, 0, none⟩) hs).trans hBs) h0

end Go.Proofs.Ytbhfbjbigafnpaa

namespace Go.Proofs.Ytbhfbjbigafnpaa
open Go.RowKit Go.Shelf

attribute [local go_sem] Oper.semAt_some

/-- What is a cell lies in no block that is none of cells. -/
theorem cell_notR {W : World} {row : Option Nat} (hr : ∀ r, row = some r → ∃ o : Obj, W.heap[r]? = some o ∧ o.isCells = false) {a : Addr} {v : Value} (h : W.cell? a = some v) : some a.block ≠ row := by
  intro e
  obtain ⟨o, ho, hoc⟩ := hr _ e.symm
  unfold World.cell? at h
  rw [ho] at h
  cases o <;> simp_all [Obj.isCells]

theorem Chn.own {Y : Nat → Prop} {W W' : World} {vs : List VT} {P : Nat → Nat} {row : Option Nat} (s : Chn pCK Y W vs none P) (hg : W.grownBy W' row) (hr : ∀ r, row = some r → ∃ o : Obj, W.heap[r]? = some o ∧ o.isCells = false) : Chn pCK Y W' vs none P := by
  have hk : KC (fun n => some n = row) W W' := ⟨hg.os, hg.tape, hg.output, hg.size, fun j hj hn => hg.block j hj hn⟩
  refine ⟨s.rights, s.inj, s.inY, fun i x hx => ?_, fun e => ?_, fun q x e => by cases e⟩
  · obtain ⟨a, c, hc, hl⟩ := s.known i x hx
    have hc' : CB W (P i) .nilIface 0 x (.slice a x.items.length c) (some ⟨P (i + 1), 0, none⟩) := hc
    exact ⟨a, c, pCK.knk hk (cell_notR hr hc'.c0) hc, LiesX.stays (fun _ h => h) (fun b v _ hv => hk.cell (cell_notR hr hv) hv) hl⟩
  · have hc : CB W (P vs.length) .nilIface 0 zeroT (.slice none 0 0) none := s.ende rfl
    exact pCK.enk hk (cell_notR hr hc.c0) (s.ende rfl)

/-- What the places that have come say. -/
def bkv (ps : List (VT × Value)) (pre : List (Bk ps)) : List VT := (pre.map fun x => (ps[x.1]'x.2).1).reverse

theorem bkv_snoc (ps : List (VT × Value)) (pre : List (Bk ps)) (x : Bk ps) : bkv ps (pre ++ [x]) = (ps[x.1]'x.2).1 :: bkv ps pre := by simp [bkv]

theorem bkv_bks (ps : List (VT × Value)) : ∀ k, k ≤ ps.length → bkv ps (bks ps k) = (ps.map (·.1)).drop (ps.length - k)
  | 0, _ => by
    have e : (ps.map (·.1)).drop (ps.length - 0) = [] := List.drop_eq_nil_of_le (by simp)
    rw [e]; rfl
  | k + 1, h => by
    have e1 : bkv ps (bks ps (k + 1)) = (ps[ps.length - 1 - k]'(by omega)).1 :: bkv ps (bks ps k) := by
      rw [bks_succ ps k (by omega)]
      exact bkv_snoc ps (bks ps k) ⟨ps.length - 1 - k, by omega⟩
    rw [e1, bkv_bks ps k (by omega)]
    have h1 : ps.length - (k + 1) < (ps.map (·.1)).length := by rw [List.length_map]; omega
    rw [List.drop_eq_getElem_cons h1, show ps.length - (k + 1) + 1 = ps.length - k by omega]
    congr 1
    rw [List.getElem_map]
    congr 2
    omega

/-- What stands between two rounds: the box holds a seq of what has come. -/
def LsI (ps : List (VT × Value)) (B : Nat) (w : World) (pre : List (Bk ps)) (W : World) : Prop :=
  ∃ P, Go.Boxed W B 23 (.pointer (some ⟨P 0, 0, none⟩)) ∧ Chn pCK (fun n => w.heap.size ≤ n ∧ n ≠ B) W (bkv ps pre) none P ∧ Below w.heap.size w W ∧ B + 1 < W.heap.size

theorem LsI.own (ps : List (VT × Value)) (B M : Nat) (w : World) (hw : w.heap.size ≤ M) : OwnFrom M (LsI ps B w) := by
  intro s A V row hs hg hr
  obtain ⟨P, bx, hC, hb, hz⟩ := hs
  refine ⟨P, bx.kept hg (cell_notR (fun r e => (hr r e).2) bx.cell), hC.own hg (fun r e => (hr r e).2), hb.grown hg hb.size (fun k e => ?_), Nat.lt_of_lt_of_le hz hg.size⟩
  have := (hr _ e).1
  omega

/-- The value that a round is at, in a block of its own. -/
def Box4 (W : World) (B : Nat) (p : VT × Value) : Prop := W.heap[B]? = some (.cells #[.int .i64 p.1.kind, .int .i64 p.1.num, .string p.1.text, p.2] 38 (0, 0))

theorem Box4.lt {W : World} {B : Nat} {p : VT × Value} (h : Box4 W B p) : B < W.heap.size := (Array.getElem?_eq_some_iff.1 h).1
theorem Box4.four {W : World} {B : Nat} {p : VT × Value} (h : Box4 W B p) : W.cell? ⟨B, 0, none⟩ = some (.int .i64 p.1.kind) ∧ W.cell? ⟨B, 1, none⟩ = some (.int .i64 p.1.num) ∧ W.cell? ⟨B, 2, none⟩ = some (.string p.1.text) ∧ W.cell? ⟨B, 3, none⟩ = some p.2 := by
  have h' : W.heap[B]? = some (.cells #[.int .i64 p.1.kind, .int .i64 p.1.num, .string p.1.text, p.2] 38 (0, 0)) := h
  refine ⟨?_, ?_, ?_, ?_⟩ <;> simp [World.cell?, h']

def LsA (ps : List (VT × Value)) (B : Nat) (f : Bk ps → Nat → Act) (x : Bk ps) (a : Act) (W : World) : Prop :=
  ∃ Bx, B < Bx ∧ Box4 W Bx (ps[x.1]'x.2) ∧ a = f x Bx

theorem LsA.own (ps : List (VT × Value)) (B M : Nat) (f : Bk ps → Nat → Act) (x : Bk ps) (a : Act) : OwnFrom M (fun (_ : Unit) W => LsA ps B f x a W) := by
  intro s A V row hs hg hr
  obtain ⟨Bx, hlt, b4, rfl⟩ := hs
  exact ⟨Bx, hlt, (hg.block Bx b4.lt (cell_notR (fun r e => (hr r e).2) b4.four.1)).trans b4, rfl⟩

theorem KpB.b {n0 Bs : Nat} {w : World} (hn : n0 ≤ w.heap.size) (hs : Bs < w.heap.size) (W : World) (l : Nat) (o o' : Obj) (hl : w.heap.size ≤ l) (h : W.heap[l]? = some o) (h1 : o.isCells = false) (h2 : o.isWalk = false) : KpB n0 Bs W (W.putObj l o') := by
  refine ⟨belowK_b hn W l o o' hl h h1 h2, ?_⟩
  have h9 := (belowK_b (Nat.le_refl w.heap.size) W l o o' hl h h1 h2).cell (p := ⟨Bs, 0, none⟩) hs
  exact h9

/-- What a round of seq.List keeps and brings. -/
theorem LsI.step {ps : List (VT × Value)} {B : Nat} {w : World} {pre : List (Bk ps)} {W w1 : World} {P : Nat → Nat} {x : Bk ps} (hB : w.heap.size ≤ B) (hBs : B + 1 < W.heap.size) (bx : Go.Boxed W B 23 (.pointer (some ⟨P 0, 0, none⟩))) (hC : Chn pCK (fun n => w.heap.size ≤ n ∧ n ≠ B) W (bkv ps pre) none P) (hw : Below w.heap.size w W) (hr : rightV 16 (ps[x.1]'x.2).1 = true) (hb : Below W.heap.size W w1)
    {e : Nat} {a : Option Addr} {c : Nat} (he : W.heap.size ≤ e) (hc : CB w1 e .nilIface 0 (ps[x.1]'x.2).1 (.slice a (ps[x.1]'x.2).1.items.length c) (some ⟨P 0, 0, none⟩)) (hl : LiesX (fun n => W.heap.size ≤ n ∧ n ≠ e) 16 w1 (ps[x.1]'x.2).1.items (.slice a (ps[x.1]'x.2).1.items.length c)) :
    KeepsOthers W (w1.setCell ⟨B, 0, none⟩ (.pointer (some ⟨e, 0, none⟩))) ∧ KpB w.heap.size (B + 1) W (w1.setCell ⟨B, 0, none⟩ (.pointer (some ⟨e, 0, none⟩))) ∧ LsI ps B w (pre ++ [x]) (w1.setCell ⟨B, 0, none⟩ (.pointer (some ⟨e, 0, none⟩))) := by
  have hlt := bx.lt
  have hko : KeepsOthers W w1 := ⟨hb.size, fun k o hk _ => (hb.block k (Array.getElem?_eq_some_iff.1 hk).1).trans hk⟩
  have hs := hw.size
  have bx1 : Go.Boxed w1 B 23 (.pointer (some ⟨P 0, 0, none⟩)) := (hb.block B hlt).trans bx
  have hC1 := hC.cons (fun n hn => ⟨by omega, by omega⟩) hb he hr hc (LiesX.mono (fun n hn => ⟨⟨⟨by omega, by omega⟩, hn.2⟩, fun j hj => by have := hC.lt j hj; omega⟩) hl)
  refine ⟨hko.trans (KeepsOthers.setCell _ _ _), ⟨(hb.mono hs).setCell (p := ⟨B, 0, none⟩) hB _, ?_⟩, ⟨fun i => if i = 0 then e else P (i - 1), bx1.set _, ?_, (hw.trans (hb.mono hs)).setCell (p := ⟨B, 0, none⟩) hB _, ?_⟩⟩
  · have h9 := (KC.of_below (B := fun n => n = B) hb).set (g := B) (o := 0) (.inl rfl) (.pointer (some ⟨e, 0, none⟩))
    exact World.cell?_of_block (a := ⟨B + 1, 0, none⟩) (h9.block (B + 1) hBs (by omega))
  · rw [bkv_snoc]
    exact hC1.kc (B := fun n => n = B) ((KC.refl (fun n => n = B) w1).set (g := B) (o := 0) (.inl rfl) _) (fun n _ hn => hn.2)
  · have h9 : (w1.setCell ⟨B, 0, none⟩ (.pointer (some ⟨e, 0, none⟩))).heap.size = w1.heap.size := by simp [World.setCell]
    have := hb.size
    omega

/-- The mark of a range over a function. -/
def mark23 (D : Nat) : Deferred := { target := .collected D, args := #[] }

theorem leaves_one23 {F : Fence} {n : Nat} {P : Program} {fn : Func} {tmps : Array Value} {R : Ending → World → Prop} (D : Nat) (W : World) (hD : W.heap[D]? = some (.deferred (some [])))
    (hend : ∃ v, (results fn tmps).run P (W.putObj D (.deferred none)) = .ok v (W.putObj D (.deferred none)) ∧ R (.returned v) (W.putObj D (.deferred none))) : LeavesInM F n P fn tmps R [mark23 D] .returning W :=
  ⟨by simp, .inl ⟨D, _, rfl, run_takeDeferred hD, hend⟩⟩

set_option maxRecDepth 100000 in
theorem backward_any (a : Option Addr) (n c : Nat) (w : World) : Calls Try.prog 16 #[.slice a n c] w fun e w' => e = .returned (.func (.func 32) #[] #[.pointer (some ⟨w.heap.size, 0, none⟩)]) ∧ w' = w.alloc (.cells #[.slice a n c] 22) := by
  go_enter Try.func16, Try.ntmps16
  go_wp2_with fail
  go_ret
  exact ⟨rfl, rfl⟩

set_option maxRecDepth 100000 in
set_option maxHeartbeats 4000000 in
theorem slist_wrong (d : Nat) (l : List VT) (a : Option Addr) (n c : Nat) (w : World) (hu : Lies (d + 1) w l (.slice a n c)) (he : listErr d l ≠ 0) :
    Calls Try.prog 5 #[.slice a n c] w fun e w' => e = .returned (.tuple #[.pointer none, .int .i64 (listErr d l)]) ∧ Below w.heap.size w w' := by
  have HCk : Hid _ := checkAll_any d l _ w hu
  clear hu
  generalize listErr d l = E at *
  go_enter Try.func5, Try.ntmps5
  go_wp2_with fail
  refine Calls.mono HCk.out ?_
  rintro e w1 ⟨rfl, hg1⟩
  clear HCk
  go_wp2_with fail
  refine bodyPost_ret (v := .tuple #[.pointer none, .int .i64 E]) ?_ rfl ⟨rfl, hg1⟩
  simp [results, Try.results5, go_sem]

/-- What seq.List tells of a list of right values. -/
def SListPost (l : List VT) (w : World) (e : Ending) (w' : World) : Prop :=
  Below w.heap.size w w' ∧ ∃ P, e = .returned (.tuple #[.pointer (some ⟨P 0, 0, none⟩), .int .i64 0]) ∧ Chn pCK (fun n => w.heap.size ≤ n) w' l none P

set_option maxRecDepth 100000 in
set_option maxHeartbeats 16000000 in
theorem slist_ok (d : Nat) (l : List VT) (a : Option Addr) (n c : Nat) (w : World) (hu : Lies (d + 1) w l (.slice a n c)) (he : listErr d l = 0) :
    Calls Try.prog 5 #[.slice a n c] w (SListPost l w) := by
  have HCk : Hid (Calls Try.prog 13 #[.slice a n c, .func (.func 14) #[] #[]] w fun e w' => e = .returned (.int .i64 0) ∧ Below w.heap.size w w') := by
    have h9 := checkAll_any d l _ w hu
    rw [he] at h9
    exact h9
  have HEm : Hid (∀ V, Calls Try.prog 15 #[] V fun e w' => e = .returned (.pointer (some ⟨V.heap.size, 0, none⟩)) ∧ Below V.heap.size V w' ∧ CB w' V.heap.size .nilIface 0 zeroT (.slice none 0 0) none) := fun V => (cempty_any V).mono fun e w' h => ⟨h.1, by rw [h.2]; exact ((Grew.refl _).alloc _).below, by rw [h.2]; exact cb_alloc V 71 .nilIface 0 zeroT (.slice none 0 0) none⟩
  have HBw : Hid (∀ V, Calls Try.prog 16 #[.slice a n c] V fun e w' => e = .returned (.func (.func 32) #[] #[.pointer (some ⟨V.heap.size, 0, none⟩)]) ∧ w' = V.alloc (.cells #[.slice a n c] 22)) := fun V => backward_any a n c V
  obtain ⟨a', c', ev, hlen, ps, rfl, hsd, hrow⟩ := hu.row
  obtain ⟨rfl, rfl, rfl⟩ : a = a' ∧ n = (ps.map (·.1)).length ∧ c = c' := by simpa using ev
  clear ev hu
  have hall : ∀ p ∈ ps, rightV d p.1 = true := by
    unfold listErr at he
    split at he
    · cases he
    · split at he
      · rename_i h
        intro p hp
        exact List.all_eq_true.1 h _ (List.mem_map_of_mem hp)
      · cases he
  rw [List.length_map] at *
  have HRow : Hid (ps ≠ [] → ∃ b o, a = some ⟨b, o, none⟩ ∧ RowAt w b o ps) := fun h => hrow (by simpa using h)
  have HSd : Hid (∀ p ∈ ps, Sound 16 w p ∧ rightV 16 p.1 = true) := fun p hp => ⟨⟨(canon (hsd p hp).1 (hall p hp)).1, (hsd p hp).2⟩, (canon (hsd p hp).1 (hall p hp)).2⟩
  obtain ⟨LL, hLL⟩ : ∃ LL, LL = ps.length := ⟨_, rfl⟩
  have HLL : Hid (LL = ps.length) := hLL
  rw [← hLL] at HCk HBw hlen ⊢
  clear hLL hrow hsd hall he
  refine (callsIn_wide (n := 6)).1 ?_
  refine callsIn_of_wp_marks Try.func5 rfl trivial ?_ rfl
  simp only [Try.ntmps5, List.size_toArray, List.length_cons, List.length_nil, Nat.reduceAdd, Nat.reduceSub, Array.replicate_succ, Array.replicate_zero, List.push_toArray, List.append_toArray, List.nil_append, List.cons_append]
  gi_wp2
  refine ⟨trivial, (callsIn_wide.2 HCk.out).mono ?_⟩
  rintro e w1 ⟨rfl, hg1⟩
  clear HCk
  gi_wp2
  refine ⟨trivial, (callsIn_wide.2 (HEm.out _)).mono ?_⟩
  rintro e w2 ⟨rfl, hg2, hen⟩
  have hb2 : Below w.heap.size w w2 := hg1.trans (hg2.mono hg1.size)
  have hs1 := hg1.size
  have hs2 := hen.lt
  have bx0 : Go.Boxed (w2.alloc (.cells #[.pointer (some ⟨w1.heap.size, 0, none⟩)] 23)) w2.heap.size 23 (.pointer (some ⟨w1.heap.size, 0, none⟩)) := Go.Boxed.new w2 _ _
  have hC0 : Chn pCK (fun n => w.heap.size ≤ n ∧ n ≠ w2.heap.size) w2 [] none (fun _ => w1.heap.size) := chn_nil ⟨hs1, by omega⟩ hen
  have HI : Hid (∀ o2, LsI ps w2.heap.size w [] ((w2.alloc (.cells #[.pointer (some ⟨w1.heap.size, 0, none⟩)] 23)).alloc o2)) := fun o2 => ⟨fun _ => w1.heap.size, bx0.alloc _, hC0.keeps (((Grew.refl w2).alloc _).alloc _).below, hb2.trans ((((Grew.refl w2).alloc _).alloc _).below.mono hb2.size), by simp⟩
  have Hb2 : Hid (Below w.heap.size w w2) := hb2
  have hws := hb2.size
  clear hg1 hg2 hen HEm bx0 hC0 hs1 hs2
  gi_wp2
  refine ⟨trivial, (callsIn_wide.2 (HBw.out _)).mono ?_⟩
  rintro e w3 ⟨rfl, hw3⟩
  obtain ⟨V, hV⟩ : ∃ V, V = (w2.alloc (.cells #[.pointer (some ⟨w1.heap.size, 0, none⟩)] 23)).alloc (.cells #[.slice a LL c] 22) := ⟨_, rfl⟩
  rw [← hV] at hw3
  subst hw3
  have hVs : w3.heap.size = w2.heap.size + 2 := by rw [hV]; simp
  have HI3 : Hid (LsI ps w2.heap.size w [] w3) := by rw [hV]; exact HI.out _
  have hc3 : w3.cell? ⟨w2.heap.size + 1, 0, none⟩ = some (.slice a LL c) := by rw [hV]; simp
  have hb3 : Below w.heap.size w w3 := by rw [hV]; exact hb2.trans ((((Grew.refl w2).alloc _).alloc _).below.mono hb2.size)
  clear hV HI HBw
  simp only [World.size_alloc]
  gi_wp2
  have HC3 : Hid (w3.cell? ⟨w2.heap.size + 1, 0, none⟩ = some (.slice a ps.length c)) := by rw [← HLL.out]; exact hc3
  have HLen : Hid (ps.length ≤ 9223372036854775807) := by rw [← HLL.out]; exact hlen
  refine wpIn_rangeFunc_ownH rfl (by omega) (gf := 32) (lb := #[.pointer (some ⟨w2.heap.size + 1, 0, none⟩)]) rfl trivial (enters_of Try.func32 (by kernel_rfl) rfl)
    (back_stops 5 (by omega) (w2.heap.size + 1) a c w ps HRow.out HLen.out w3 hb3 (by omega) HC3.out) KpB.t (KpB.b (by omega) (by omega)) (Below.refl _ _) (fun _ => rfl)
    (LsI ps w2.heap.size w) (fun _ _ _ => False)
    (LsI.own _ _ _ _ (by omega)) (fun _ _ _ _ _ hs _ _ => hs) HI3.out
    (LsA ps w2.heap.size (fun x Bx => { tmps := #[.slice a LL c, undef, .pointer none, .int .i64 0, .int .i64 0, .pointer (some ⟨w2.heap.size, 0, none⟩), undef, .pointer (some ⟨Bx, 0, none⟩), .slice a LL c, .int .i64 0, .int .i64 0, .bool false, undef, .pointer (some ⟨w1.heap.size, 0, none⟩), .slice a LL c, .func (.func 32) #[] #[.pointer (some ⟨w2.heap.size + 1, 0, none⟩)], .int .i64 (x.1 : Int), .agg #[.int .i64 (ps[x.1]'x.2).1.kind, .int .i64 (ps[x.1]'x.2).1.num, .string (ps[x.1]'x.2).1.text, (ps[x.1]'x.2).2], undef, undef, undef, undef, undef, undef, undef], defers := [] })) (fun x a' => LsA.own _ _ _ _ _ _) ?assign ?body ?done ?stop
  case assign =>
    rintro lp pre ⟨i, hi⟩ W K ⟨P, bx, hC, hB, hz⟩ hK
    have HK : Hid (K _ _) := hK _ _ ((KeepsOthers.alloc W (.cells #[.int .i64 (ps[i]'hi).1.kind, .int .i64 (ps[i]'hi).1.num, .string (ps[i]'hi).1.text, (ps[i]'hi).2] 38)).from _) ⟨(((Grew.refl W).alloc _).below).mono (by have := hB.size; omega), ((Grew.refl W).alloc _).below.cell (p := ⟨w2.heap.size + 1, 0, none⟩) hz⟩ ⟨P, bx.alloc _, hC.keeps ((Grew.refl W).alloc _).below, hB.trans ((((Grew.refl W).alloc _).below).mono hB.size), by simp; omega⟩ ⟨W.heap.size, bx.lt, World.alloc_heap_new W _, rfl⟩
    obtain ⟨ax, cx, hux, _⟩ := Lies.slice (HSd.out _ (List.getElem_mem hi)).1.1
    clear hK
    simp only [encB] at *
    generalize (ps[i]'hi) = p at *
    obtain ⟨t, u⟩ := p
    simp only at hux
    subst hux
    clear bx hC hB
    gi_wp2
    exact HK.out
  case body =>
    rintro lp pre ⟨i, hi⟩ a' W hlp ⟨r, hr⟩ ⟨P, bx, hC, hB, hz⟩ ⟨Bx, hBx, b4, rfl⟩ hlt
    have hright : rightV 16 (ps[i]'hi).1 = true := (HSd.out _ (List.getElem_mem hi)).2
    have HCo : Hid (Calls Try.prog 17 #[.agg #[.int .i64 (ps[i]'hi).1.kind, .int .i64 (ps[i]'hi).1.num, .string (ps[i]'hi).1.text, (ps[i]'hi).2], .pointer (some ⟨P 0, 0, none⟩)] W (ConsPost (ps[i]'hi).1 (P 0) W)) := cons_ok _ _ (P 0) W (Lies.keeps hB _ _ _ (HSd.out _ (List.getElem_mem hi)).1.1) hright
    have HSt : Hid (∀ (w4 : World) (e : Nat) (a4 : Option Addr) (c4 : Nat), Below W.heap.size W w4 → W.heap.size ≤ e → CB w4 e .nilIface 0 (ps[i]'hi).1 (.slice a4 (ps[i]'hi).1.items.length c4) (some ⟨P 0, 0, none⟩) → LiesX (fun n => W.heap.size ≤ n ∧ n ≠ e) 16 w4 (ps[i]'hi).1.items (.slice a4 (ps[i]'hi).1.items.length c4) →
        KeepsOthers W (w4.setCell ⟨w2.heap.size, 0, none⟩ (.pointer (some ⟨e, 0, none⟩))) ∧ KpB w.heap.size (w2.heap.size + 1) W (w4.setCell ⟨w2.heap.size, 0, none⟩ (.pointer (some ⟨e, 0, none⟩))) ∧ LsI ps w2.heap.size w (pre ++ [⟨i, hi⟩]) (w4.setCell ⟨w2.heap.size, 0, none⟩ (.pointer (some ⟨e, 0, none⟩)))) := fun w4 e a4 c4 h1 h2 h3 h4 => LsI.step (x := ⟨i, hi⟩) hws hz bx hC hB hright h1 h2 h3 h4
    obtain ⟨ax, cx, hux, _⟩ := Lies.slice (HSd.out _ (List.getElem_mem hi)).1.1
    obtain ⟨b0, b1, b2, b3⟩ := b4.four
    have hc := bx.cell
    have hf := bx.frozen
    have Hbx : Hid _ := bx
    have HI9 : Hid (∀ W', LsI ps w2.heap.size w (pre ++ [⟨i, hi⟩]) W' → LsI ps w2.heap.size w (pre ++ [⟨i, hi⟩]) W') := fun _ h => h
    simp only at b0 b1 b2 b3
    have HQ : Hid (∀ W', KeepsOthers W W' ∧ KpB w.heap.size (w2.heap.size + 1) W W' ∧ LsI ps w2.heap.size w (pre ++ [⟨i, hi⟩]) W' → KeepsFrom w3.heap.size W W' ∧ KpB w.heap.size (w2.heap.size + 1) W W' ∧ LsI ps w2.heap.size w (pre ++ [⟨i, hi⟩]) W') := fun W' h => ⟨h.1.from _, h.2⟩
    rw [hux] at b3 HCo
    simp only [hux]
    clear b4 bx hC hB hright hlt hr hlp HRow HSd HC3 HLen HI3 hux
    gi_wp2
    refine ⟨trivial, (CallsIn.inRound lp (callsIn_wide.2 HCo.out)).mono ?_⟩
    rintro e w4 ⟨hg4, b5, a5, c5, rfl, h5, hcb, hlx⟩
    have HE : Hid _ := HQ.out _ (HSt.out w4 b5 a5 c5 hg4 h5 hcb hlx)
    have hc := cell_keeps hg4 hc
    have hf : w4.frozen? ⟨w2.heap.size, 0, none⟩ = false := by
      have h9 := hg4.block w2.heap.size (by omega)
      unfold World.frozen? at hf ⊢
      rw [h9]
      exact hf
    clear HSt HQ HCo hcb hlx HI9 Hbx hg4
    gi_wp2
    exact HE.out
  case done =>
    rintro D ys W hD rfl ⟨P, bx, hC, hB, hz⟩ hK
    have hc := bx.cell
    have HT : Hid (Chn pCK (fun n => w.heap.size ≤ n) W (ps.map (·.1)) none P ∧ Below w.heap.size w W) := by
      refine ⟨?_, hB⟩
      have h9 := bkv_bks ps ps.length (Nat.le_refl _)
      rw [Nat.sub_self, List.drop_zero] at h9
      rw [h9] at hC
      exact hC.monoY (fun n _ h => h.1)
    have HKD : Hid (W.heap[D]? = some (.deferred (some []))) := hK
    have HD : Hid (w.heap.size ≤ D) := by show _ ≤ _; omega
    clear bx hC hB hK HRow HSd HI3 HC3
    gi_wp2
    refine leaves_one23 D W HKD.out ⟨.tuple #[.pointer (some ⟨P 0, 0, none⟩), .int .i64 0], (by simp [results, Try.results5, go_sem]), ?_⟩
    refine ⟨HT.out.2.trans (belowK_b (w := w) (Nat.le_refl _) W D _ _ HD.out HKD.out rfl rfl), P, rfl, ?_⟩
    exact HT.out.1.own (grownBy_putObj' W D _) (fun r e => by cases e; exact ⟨_, HKD.out, rfl⟩)
  case stop =>
    rintro D c pre W _ _ h _
    exact h.elim

end Go.Proofs.Ytbhfbjbigafnpaa

