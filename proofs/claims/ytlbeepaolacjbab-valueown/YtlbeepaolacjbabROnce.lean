/-
  The contract of the document's Once.
-/
import Derived.Test.YtlbeepaolacjbabRSorted
import Derived.Test.YtlbeepaolacjbabOnceP
import Derived.Test.YtlbeepaolacjbabBox
namespace Go.Proofs.Ytlbeepaolacjbab
open Go.RowKit

/-- Are two the same? -/
def eqQ (d : Nat) (x y : PR) : Bool := cmpV d x.1 y.1 == 0

/-- The rest of Once, the last one that was kept at hand. -/
def cont (d : Nat) : Option PR → List PR → List PR
  | none, l => once (eqQ d) l
  | some p, l => onceFrom (eqQ d) p l

theorem cont_keep (d : Nat) (o : Option PR) (x : PR) (l : List PR) (h : ∀ p, o = some p → cmpV d p.1 x.1 ≠ 0) : cont d o (x :: l) = x :: cont d (some x) l := by
  cases o with
  | none => rfl
  | some p =>
    have := h p rfl
    show onceFrom _ p (x :: l) = _
    conv => lhs; unfold onceFrom
    rw [if_neg (by simpa [eqQ] using this)]
    rfl

theorem cont_pass (d : Nat) (p x : PR) (l : List PR) (h : cmpV d p.1 x.1 = 0) : cont d (some p) (x :: l) = cont d (some p) l := by
  show onceFrom _ p (x :: l) = _
  conv => lhs; unfold onceFrom
  rw [if_pos (by simpa [eqQ] using h)]
  rfl

theorem cont_nil (d : Nat) (o : Option PR) : cont d o [] = [] := by cases o <;> rfl

theorem onceFrom_mem (g : PR → PR → Bool) : ∀ (l : List PR) (p x : PR), x ∈ onceFrom g p l → x ∈ l := by
  intro l
  induction l with
  | nil => intro p x h; cases h
  | cons y l ih =>
    intro p x h
    unfold onceFrom at h
    split at h
    · exact List.mem_cons_of_mem _ (ih p x h)
    · rcases List.mem_cons.1 h with rfl | h
      · exact List.mem_cons_self
      · exact List.mem_cons_of_mem _ (ih y x h)

theorem once_mem (g : PR → PR → Bool) (l : List PR) (x : PR) (h : x ∈ once g l) : x ∈ l := by
  cases l with
  | nil => cases h
  | cons y l =>
    rcases List.mem_cons.1 h with rfl | h
    · exact List.mem_cons_self
    · exact List.mem_cons_of_mem _ (onceFrom_mem g l y x h)

/-- What stands before a round of Once. -/
structure Onc (d : Nat) (w : World) (R l : List PR) (wr : World) (j no : Nat) (vo : Value) (ds : List PR) : Prop where
  eo : no = ds.length
  le : no ≤ j
  eq : ds ++ cont d ds.getLast? (l.drop j) = R
  own : wr.ownsRow w.heap.size 25 4 vo no (ds.flatMap encP)
  gd : ∀ p ∈ ds, Sound d w p
  below : Below w.heap.size w wr

theorem Onc.keep {d : Nat} {w : World} {R l : List PR} {wr : World} {j no : Nat} {vo : Value} {ds : List PR} (h : Onc d w R l wr j no vo ds) (hj : j < l.length) (hg : Sound d w l[j]) (hc : ∀ p, ds.getLast? = some p → cmpV d p.1 l[j].1 ≠ 0)
    (v' : Value) (W : World) (hown : W.ownsRow w.heap.size 25 4 v' (no + 1) ((ds ++ [l[j]]).flatMap encP)) (hb : Below w.heap.size w W) : Onc d w R l W (j + 1) (no + 1) v' (ds ++ [l[j]]) := by
  refine ⟨by simp [h.eo], by have := h.le; omega, ?_, hown, fun p hp => ?_, hb⟩
  · have he := h.eq
    rw [List.drop_eq_getElem_cons hj, cont_keep d _ _ _ hc] at he
    rw [← he]; simp
  · rcases List.mem_append.1 hp with hp | hp
    · exact h.gd p hp
    · rw [List.mem_singleton.1 hp]; exact hg

theorem Onc.pass {d : Nat} {w : World} {R l : List PR} {wr : World} {j no : Nat} {vo : Value} {ds : List PR} (h : Onc d w R l wr j no vo ds) (hj : j < l.length) (p : PR) (hp : ds.getLast? = some p) (hc : cmpV d p.1 l[j].1 = 0)
    (W : World) (hown : W.ownsRow w.heap.size 25 4 vo no (ds.flatMap encP)) (hb : Below w.heap.size w W) : Onc d w R l W (j + 1) no vo ds := by
  refine ⟨h.eo, by have := h.le; omega, ?_, hown, h.gd, hb⟩
  have he := h.eq
  rw [List.drop_eq_getElem_cons hj, hp, cont_pass d p _ _ hc] at he
  rw [hp]
  exact he

theorem own_last {d : Nat} {w wr : World} {base no : Nat} {vo : Value} {ds : List PR} (h : wr.ownsRow base 25 4 vo no (ds.flatMap encP)) (hn : no = ds.length) (h0 : no ≠ 0) (hg : ∀ p ∈ ds, Sound d w p) :
    ∃ g cap s ay cy, vo = .slice (some ⟨g, 0, none⟩) no cap ∧ base ≤ g ∧ no ≤ cap ∧ g < wr.heap.size ∧ ds.getLast? = some (s, .slice ay s.items.length cy) ∧ Lies d w s.items (.slice ay s.items.length cy) ∧
      wr.cell? ⟨g, (no - 1) * 4, none⟩ = some (.int .i64 s.kind) ∧ wr.cell? ⟨g, (no - 1) * 4 + 1, none⟩ = some (.int .i64 s.num) ∧ wr.cell? ⟨g, (no - 1) * 4 + 2, none⟩ = some (.string s.text) ∧ wr.cell? ⟨g, (no - 1) * 4 + 3, none⟩ = some (.slice ay s.items.length cy) := by
  subst hn
  have hne : ds ≠ [] := fun e => h0 (by rw [e]; rfl)
  obtain ⟨g, cap, hv, hg1, hg2, hg3, hrow, _⟩ := own_row h hne
  have hl : ds.length - 1 < ds.length := by omega
  obtain ⟨q0, q1, q2, q3⟩ := hrow (ds.length - 1) hl
  have gl := hg ds[ds.length - 1] (List.getElem_mem _)
  obtain ⟨ay, cy, hyv, _⟩ := Lies.slice gl.1
  simp only [Nat.zero_add] at q0 q1 q2 q3
  refine ⟨g, cap, ds[ds.length - 1].1, ay, cy, hv, hg1, hg2, hg3, ?_, by rw [← hyv]; exact gl.1, q0, q1, q2, by rw [← hyv]; exact q3⟩
  rw [List.getLast?_eq_getElem?, List.getElem?_eq_getElem hl, ← hyv]

end Go.Proofs.Ytlbeepaolacjbab
