/-
  The program's comparison of pairs by their keys.
-/
import Derived.Test.YtofceccicmlmoaaGreatRotate
import Derived.Test.YtofceccicmlmoaaGreatLastP
import Derived.Deep.RegionHeld3
import Derived.BigQuiet
import Derived.Shelf.SlSortCmp.QuietGrown
import Derived.Shelf.RegionOpenPlain
import Derived.Test.YtofceccicmlmoaaGreatUtf
namespace Go.Proofs.YtofceccicmlmoaaGreat
open Go.RowKit

theorem RowQ.cells {w0 w : World} {g : Nat} {ps : List PP} (h : RowQ w0 g ps w) (i : Nat) (x : PP) (hx : ps[i]? = some x) :
    (w.cell? ⟨g, i * 8, none⟩ = some (.int .i64 x.1.1.kind) ∧ w.cell? ⟨g, i * 8 + 1, none⟩ = some (.int .i64 x.1.1.num) ∧ w.cell? ⟨g, i * 8 + 2, none⟩ = some (.string x.1.1.text) ∧ w.cell? ⟨g, i * 8 + 3, none⟩ = some x.1.2 ∧
    w.cell? ⟨g, i * 8 + 4, none⟩ = some (.int .i64 x.2.1.kind) ∧ w.cell? ⟨g, i * 8 + 5, none⟩ = some (.int .i64 x.2.1.num) ∧ w.cell? ⟨g, i * 8 + 6, none⟩ = some (.string x.2.1.text) ∧ w.cell? ⟨g, i * 8 + 7, none⟩ = some x.2.2) ∧
    (w.frozen? ⟨g, i * 8, none⟩ = false ∧ w.frozen? ⟨g, i * 8 + 1, none⟩ = false ∧ w.frozen? ⟨g, i * 8 + 2, none⟩ = false ∧ w.frozen? ⟨g, i * 8 + 3, none⟩ = false ∧
    w.frozen? ⟨g, i * 8 + 4, none⟩ = false ∧ w.frozen? ⟨g, i * 8 + 5, none⟩ = false ∧ w.frozen? ⟨g, i * 8 + 6, none⟩ = false ∧ w.frozen? ⟨g, i * 8 + 7, none⟩ = false) := by
  obtain ⟨hi, e⟩ := List.getElem?_eq_some_iff.1 hx
  have := h.at i hi
  rw [e] at this
  exact ⟨this, h.fzs i hi⟩

/-- A pair whose lists lie in a world. -/
def GoodQ (d : Nat) (W : World) (p : PP) : Prop := Sound d W p.1 ∧ Sound d W p.2

theorem GoodQ.keeps {d : Nat} {W W' : World} {p : PP} (h : GoodQ d W p) (hb : Below W.heap.size W W') : GoodQ d W' p := ⟨h.1.keeps hb, h.2.keeps hb⟩

theorem swp2_turn (A B C : List PP) (x y : PP) : swp2 (A ++ (x :: (B ++ (y :: C)))) (A.length + 1 + B.length) A.length = A ++ (y :: (B ++ (x :: C))) := by
  rw [← swp2_app A B C x y]
  unfold swp2
  have h1 : A.length < (A ++ (x :: (B ++ (y :: C)))).length := by simp
  have h2 : A.length + 1 + B.length < (A ++ (x :: (B ++ (y :: C)))).length := by simp; omega
  rw [dif_pos ⟨h2, h1⟩, dif_pos ⟨h1, h2⟩]
  unfold swapL
  rw [List.set_comm _ _ (by omega)]

/-- What stands before a round of the inner loop. -/
structure InI (lt : PP → PP → Bool) (w0 : World) (g j : Nat) (A S : List PP) (x : PP) (R : List PP) (wr : World) (S1 S2 : List PP) : Prop where
  ej : j = A.length + S1.length
  eq : S1 ++ S2 = S
  ahead : ∀ s ∈ S2, lt x s = true
  row : RowQ w0 g (A ++ (S1 ++ (x :: (S2 ++ R)))) wr

theorem InI.step {lt : PP → PP → Bool} {w0 : World} {g j : Nat} {A S : List PP} {x : PP} {R : List PP} {wr : World} {S1 S2 : List PP} {y : PP} (h : InI lt w0 g j A S x R wr (S1 ++ [y]) S2) (hlt : lt x y = true) {W : World} (hR : RowQ w0 g (swp2 (A ++ ((S1 ++ [y]) ++ (x :: (S2 ++ R)))) j (j - 1)) W) : InI lt w0 g (j - 1) A S x R W S1 (y :: S2) := by
  have hej := h.ej
  simp at hej
  refine ⟨by omega, by rw [← h.eq]; simp, fun s hs => ?_, ?_⟩
  · rcases List.mem_cons.1 hs with rfl | hs
    · exact hlt
    · exact h.ahead s hs
  · have e : A ++ ((S1 ++ [y]) ++ (x :: (S2 ++ R))) = (A ++ S1) ++ (y :: ([] ++ (x :: (S2 ++ R)))) := by simp
    have e1 : j = (A ++ S1).length + 1 + ([] : List PP).length := by simp; omega
    have e2 : j - 1 = (A ++ S1).length := by simp; omega
    rw [e, e2, e1, swp2_turn] at hR
    simpa using hR

end Go.Proofs.YtofceccicmlmoaaGreat

namespace Go.Proofs.YtofceccicmlmoaaGreat
open Go.RowKit

/-- How two pairs stand, by their keys. -/
def cmpQ (d : Nat) (p r : PP) : Int := cmpV d p.1.1 r.1.1

end Go.Proofs.YtofceccicmlmoaaGreat

