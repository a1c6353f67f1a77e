/-
  What is said of a value does not hang on the depth by which it is said, if that is deep enough; a right value is no deeper than 16. Plain mathematics.
-/
import Derived.Test.YtgihglodekoddabUtf
import Derived.PlainAid
import Derived.Laws.Strings
import Derived.Deep.LoopGhost
import Derived.Test.YtgihglodekoddabList
import Derived.Deep.RegionWith
import Derived.Deep.RegionHeld3
import Derived.Test.YtgihglodekoddabEq
namespace Go.Proofs.Ytgihglodekoddab
open Go.RowKit

/-- No deeper than d. -/
def Dp : Nat → VT → Prop
  | 0, t => t.items = []
  | d + 1, t => ∀ x ∈ t.items, Dp d x

theorem Dp.of_lies : ∀ (d : Nat) (w : World) (t : VT) (u : Value), Lies d w t.items u → Dp d t := by
  intro d
  induction d with
  | zero => intro w t u h; exact h.1
  | succ d ih =>
    intro w t u h x hx
    obtain ⟨a, c, _, _, hr⟩ := h
    obtain ⟨b, o, _, hall⟩ := hr (fun e => by rw [e] at hx; cases hx)
    obtain ⟨i, hi, rfl⟩ := List.getElem_of_mem hx
    obtain ⟨v, _, _, _, _, hl, _⟩ := hall i hi
    exact ih w _ v hl

end Go.Proofs.Ytgihglodekoddab

namespace Go.Proofs.Ytgihglodekoddab
open Go.RowKit

theorem Dp.up : ∀ (d : Nat) (t : VT), Dp d t → Dp (d + 1) t := by
  intro d
  induction d with
  | zero => intro t h x hx; rw [show t.items = [] from h] at hx; cases hx
  | succ d ih => intro t h x hx; exact ih x (h x hx)

theorem Dp.mono {d e : Nat} {t : VT} (h : Dp d t) (hde : d ≤ e) : Dp e t := by
  induction e with
  | zero => have : d = 0 := by omega
            subst this; exact h
  | succ e ih =>
    by_cases hd : d = e + 1
    · subst hd; exact h
    · exact Dp.up _ _ (ih (by omega))

/-- A value is the same as itself. -/
theorem all2_self {f : VT → VT → Bool} : ∀ (l : List VT), (∀ x ∈ l, f x x = true) → all2 f l l = true := by
  intro l
  induction l with
  | nil => intro _; rfl
  | cons x l ih => intro h; unfold all2; rw [h x List.mem_cons_self, ih (fun y hy => h y (List.mem_cons_of_mem _ hy))]; rfl

theorem headS_self (a : VT) : headS a a = true := by simp [headS]

theorem sameV_self : ∀ (d : Nat) (a : VT), sameV d a a = true := by
  intro d
  induction d with
  | zero => intro a; exact headS_self a
  | succ d ih => intro a; unfold sameV; rw [headS_self, all2_self a.items (fun x _ => ih x)]; rfl

theorem Lies.lower {w : World} : ∀ (e d : Nat) (l : List VT) (v : Value), Lies d w l v → (e = 0 → l = []) → (∀ x ∈ l, Dp (e - 1) x) → Lies e w l v := by
  intro e
  induction e with
  | zero =>
    intro d l v h h0 _
    have hl := h0 rfl
    subst hl
    obtain ⟨a, c, hv, _⟩ := Lies.slice h
    exact ⟨rfl, a, c, hv⟩
  | succ e ih =>
    intro d l v h _ hx
    cases d with
    | zero =>
      obtain ⟨rfl, a, c, rfl⟩ := h
      exact ⟨a, c, rfl, by simp, fun h => absurd rfl h⟩
    | succ d =>
      obtain ⟨a, c, hv, hb, hr⟩ := h
      refine ⟨a, c, hv, hb, fun hne => ?_⟩
      obtain ⟨b, o, ha, hall⟩ := hr hne
      refine ⟨b, o, ha, fun i hi => ?_⟩
      obtain ⟨u, h0, h1, h2, h3, h4, h5⟩ := hall i hi
      have hd : Dp e l[i] := hx l[i] (List.getElem_mem hi)
      refine ⟨u, h0, h1, h2, h3, ih d _ _ h4 (fun e0 => ?_) (fun y hy => ?_), h5⟩
      · subst e0; exact hd
      · cases e with
        | zero => rw [show l[i].items = [] from hd] at hy; cases hy
        | succ e => exact hd y hy

end Go.Proofs.Ytgihglodekoddab

