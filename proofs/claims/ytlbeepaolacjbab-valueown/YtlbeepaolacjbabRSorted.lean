/-
  The contract of the document's Sorted.
-/
import Derived.Test.YtlbeepaolacjbabAppRow
import Derived.Test.YtlbeepaolacjbabOrdered
import Derived.Test.YtlbeepaolacjbabRef
import Derived.Deep.RegionHeld3
namespace Go.Proofs.Ytlbeepaolacjbab
open Go.RowKit

/-- Which of two values stands ahead. -/
def ltV (d : Nat) (y x : VT) : Bool := decide (cmpV d y x < 0)
def ltQ (d : Nat) (y x : PR) : Bool := decide (cmpV d y.1 x.1 < 0)

/-- What stands before a round: what is left of both lists, and what was put out. -/
structure Msr (DD B : Nat) (w : World) (g : PR → PR → Bool) (R : List PR) (wr : World) (nx ny no ba oa ca bb ob cb : Nat) (vo : Value) (xs ys ds : List PR) : Prop where
  ex : nx = xs.length
  ey : ny = ys.length
  eo : no = ds.length
  cx : nx ≤ ca
  cy : ny ≤ cb
  rx : RowAt w ba oa xs
  ry : RowAt w bb ob ys
  gx : ∀ p ∈ xs, Sound DD w p
  gy : ∀ p ∈ ys, Sound DD w p
  eq : ds ++ mrg g xs ys = R
  own : wr.ownsRow B 25 4 vo no (ds.flatMap encP)
  below : Below B w wr
  sum : nx + ny + no ≤ 65536

theorem rest_row4 {w : World} {b o o' n : Nat} {x : PR} {xs : List PR} (h : RowAt w b o (x :: xs)) (e : n = (x :: xs).length) (ho : n = 1 ∨ o' = o + 4) : RowAt w b o' xs := by
  rcases ho with ho | ho
  · have : xs = [] := List.eq_nil_of_length_eq_zero (by simp at e; omega)
    subst this
    intro i hi; cases hi
  · subst ho
    have := h.drop 1
    simpa using this

theorem Msr.stepY {DD : Nat} {B : Nat} {w : World} {g : PR → PR → Bool} {R : List PR} {wr : World} {nx ny no ba oa ca bb ob cb : Nat} {vo : Value} {x y : PR} {xs ys ds : List PR} (h : Msr DD B w g R wr nx ny no ba oa ca bb ob cb vo (x :: xs) (y :: ys) ds) {Z : Int} (hZ : g y x = decide (Z < 0)) (hz : Z < 0)
    (o' : Nat) (ho : ny = 1 ∨ o' = ob + 4) {W : World} {v' : Value} (hown : W.ownsRow B 25 4 v' (no + 1) ((ds ++ [y]).flatMap encP)) (hb : Below B w W) :
    Msr DD B w g R W nx (ny - 1) (no + 1) ba oa ca bb o' (cb - 1) v' (x :: xs) ys (ds ++ [y]) := by
  have h1 := h.ey
  have h2 := h.sum
  have h3 := h.cy
  simp at h1
  refine ⟨h.ex, by omega, by simp [h.eo], h.cx, by omega, h.rx, rest_row4 h.ry h.ey ho, h.gx, fun p hp => h.gy p (List.mem_cons_of_mem _ hp), ?_, hown, hb, by omega⟩
  have he := h.eq
  rw [mrg_step, if_pos (by rw [hZ]; exact decide_eq_true hz)] at he
  rw [← he]; simp

theorem Msr.stepX {DD : Nat} {B : Nat} {w : World} {g : PR → PR → Bool} {R : List PR} {wr : World} {nx ny no ba oa ca bb ob cb : Nat} {vo : Value} {x y : PR} {xs ys ds : List PR} (h : Msr DD B w g R wr nx ny no ba oa ca bb ob cb vo (x :: xs) (y :: ys) ds) {Z : Int} (hZ : g y x = decide (Z < 0)) (hz : ¬ Z < 0)
    (o' : Nat) (ho : nx = 1 ∨ o' = oa + 4) {W : World} {v' : Value} (hown : W.ownsRow B 25 4 v' (no + 1) ((ds ++ [x]).flatMap encP)) (hb : Below B w W) :
    Msr DD B w g R W (nx - 1) ny (no + 1) ba o' (ca - 1) bb ob cb v' xs (y :: ys) (ds ++ [x]) := by
  have h1 := h.ex
  have h2 := h.sum
  have h3 := h.cx
  simp at h1
  refine ⟨by omega, h.ey, by simp [h.eo], by omega, h.cy, rest_row4 h.rx h.ex ho, h.ry, fun p hp => h.gx p (List.mem_cons_of_mem _ hp), h.gy, ?_, hown, hb, by omega⟩
  have he := h.eq
  rw [mrg_step, if_neg (by rw [hZ, decide_eq_true_eq]; exact hz)] at he
  rw [← he]; simp

end Go.Proofs.Ytlbeepaolacjbab
