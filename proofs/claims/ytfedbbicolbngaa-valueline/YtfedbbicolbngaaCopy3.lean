/-
  The walk of copyOf.
-/
import Derived.Test.YtfedbbicolbngaaCopy2
namespace Go.Proofs.Ytfedbbicolbngaa
open Go.RowKit

/-- The box and the result's cells. -/
structure Desk (W : World) (n : Nat) (t : VT) (u : Value) : Prop where
  box : Boxed W n t.kind t.num t.text u
  c0 : W.cell? ⟨n + 1, 0, none⟩ = some (.int .i64 0)
  c1 : W.cell? ⟨n + 1, 1, none⟩ = some (.int .i64 0)
  c2 : W.cell? ⟨n + 1, 2, none⟩ = some (.string ⟨#[]⟩)
  c3 : W.cell? ⟨n + 1, 3, none⟩ = some (.slice none 0 0)
  f0 : W.frozen? ⟨n + 1, 0, none⟩ = false
  f1 : W.frozen? ⟨n + 1, 1, none⟩ = false
  f2 : W.frozen? ⟨n + 1, 2, none⟩ = false
  f3 : W.frozen? ⟨n + 1, 3, none⟩ = false

theorem Desk.keeps {W W' : World} {n : Nat} {t : VT} {u : Value} (h : Desk W n t u) (hb : Below W.heap.size W W') : Desk W' n t u := by
  have hl : n + 1 < W.heap.size := cell_lt h.c0
  exact ⟨h.box.keeps hb, cell_keeps hb h.c0, cell_keeps hb h.c1, cell_keeps hb h.c2, cell_keeps hb h.c3, (hb.frozen (p := ⟨n + 1, 0, none⟩) hl).trans h.f0, (hb.frozen (p := ⟨n + 1, 1, none⟩) hl).trans h.f1, (hb.frozen (p := ⟨n + 1, 2, none⟩) hl).trans h.f2, (hb.frozen (p := ⟨n + 1, 3, none⟩) hl).trans h.f3⟩

theorem desk_start (w : World) (t : VT) (u : Value) : Desk (((w.alloc (.cells #[.int .i64 t.kind, .int .i64 t.num, .string t.text, u] 24)).alloc (.cells #[.int .i64 0, .int .i64 0, .string ⟨#[]⟩, .slice none 0 0] 24)).drew) w.heap.size t u := by
  refine ⟨⟨?_, ?_, ?_, ?_⟩, ?_, ?_, ?_, ?_, ?_, ?_, ?_, ?_⟩ <;> simp

set_option maxHeartbeats 2000000 in
theorem copyOf_core (d : Nat) (t : VT) (a : Option Addr) (l c : Nat) (w : World) (hu : Lies d w t.items (.slice a l c))
    (hcl : Hid (∀ W : World, Calls Try.prog 79 #[.string t.text] W fun e W' => e = .returned (.string t.text) ∧ Below W.heap.size W W'))
    (hal : Hid (∀ W : World, Lies d W t.items (.slice a l c) → Calls Try.prog 54 #[.slice a l c] W fun e W' => ∃ v, e = .returned v ∧ LiesB W.heap.size d W' t.items v ∧ Below W.heap.size W W')) :
    Calls Try.prog 60 #[.agg #[.int .i64 t.kind, .int .i64 t.num, .string t.text, .slice a l c]] w (CopyPost d t w) := by
  have HL : Hid (Lies d w t.items (.slice a l c)) := hu
  clear hu
  have HD := desk_start w t (.slice a l c)
  have HD0 : Hid (Desk _ _ _ _) := HD
  have HB : Hid (Below w.heap.size w (((w.alloc (.cells #[.int .i64 t.kind, .int .i64 t.num, .string t.text, .slice a l c] 24)).alloc (.cells #[.int .i64 0, .int .i64 0, .string ⟨#[]⟩, .slice none 0 0] 24)).drew)) := (Grew.two w _ _).drew.below
  clear HD
  go_enter Try.func60, Try.ntmps60
  go_wp2_with fail
  go_region_held3 (fun w' => w'.cell? ⟨w.heap.size, 0, none⟩ = some (.int .i64 t.kind) ∧ w'.cell? ⟨w.heap.size, 1, none⟩ = some (.int .i64 t.num) ∧ w'.cell? ⟨w.heap.size, 2, none⟩ = some (.string t.text) ∧ w'.cell? ⟨w.heap.size, 3, none⟩ = some (.slice a l c)) (go_keep)
    (first | (go_at_call 79; refine (hcl.out _).mono ?_; rintro e w1 ⟨rfl, hb1⟩; have HD1 : Hid (Desk w1 w.heap.size t (.slice a l c)) := HD0.out.keeps hb1; have hbw1 : Below w.heap.size w w1 := HB.out.trans (hb1.mono (by simp; omega)); clear hb1 HD0 HB; obtain ⟨⟨x0, x1, x2, x3⟩, y0, y1, y2, y3, z0, z1, z2, z3⟩ := HD1.out) | (go_at_call 54; refine (hal.out _ (Lies.keeps hbw1 _ _ _ HL.out)).mono ?_; rintro e w2 ⟨v, rfl, hLB, hb2⟩; have HD2 : Hid (Desk w2 w.heap.size t (.slice a l c)) := HD1.out.keeps hb2; have hbw2 : Below w.heap.size w w2 := hbw1.trans (hb2.mono hbw1.size); have hsz1 : w.heap.size + 1 < w1.heap.size := cell_lt y0; clear hb2 HD1 x0 x1 x2 x3 y0 y1 y2 y3 z0 z1 z2 z3; obtain ⟨⟨x0, x1, x2, x3⟩, y0, y1, y2, y3, z0, z1, z2, z3⟩ := HD2.out; have HLB : Hid (LiesB (w.heap.size + 2) d w2 t.items v) := LiesB.lower (by omega) _ _ _ hLB; clear hLB HD2; obtain ⟨av, cv, rfl, _⟩ := LiesB.slice HLB.out))
  have hin : ∀ j (hj : j < (encP (t, .slice av t.items.length cv)).length), (w2.setCells (w.heap.size + 1) 0 (encP (t, .slice av t.items.length cv))).cell? ⟨w.heap.size + 1, 0 + j, none⟩ = some ((encP (t, .slice av t.items.length cv))[j]) :=
    World.cell?_setCells_in (w.heap.size + 1) _ 0 w2 (fun j hj => by
      match j, hj with
      | 0, _ => rw [y0]; rfl
      | 1, _ => rw [y1]; rfl
      | 2, _ => rw [y2]; rfl
      | 3, _ => rw [y3]; rfl)
  have hfin : LiesB w.heap.size d (w2.setCells (w.heap.size + 1) 0 (encP (t, .slice av t.items.length cv))) t.items (.slice av t.items.length cv) :=
    LiesB.lower (by omega) _ _ _ (LiesB.stays (fun x v hx hv => by rw [World.cell?_setCells_out (w.heap.size + 1) _ 0 w2 x (fun e _ => by omega)]; exact hv) _ _ _ HLB.out)
  have hbf : Below w.heap.size w (w2.setCells (w.heap.size + 1) 0 (encP (t, .slice av t.items.length cv))) :=
    (((hbw2.setCell (p := ⟨w.heap.size + 1, 0, none⟩) (by simp) _).setCell (p := ⟨w.heap.size + 1, 0 + 1, none⟩) (by simp) _).setCell (p := ⟨w.heap.size + 1, 0 + 1 + 1, none⟩) (by simp) _).setCell (p := ⟨w.heap.size + 1, 0 + 1 + 1 + 1, none⟩) (by simp) _
  have Hin : Hid _ := hin
  have Hfin : Hid (LiesB w.heap.size d (w2.setCells (w.heap.size + 1) 0 (encP (t, .slice av t.items.length cv))) t.items (.slice av t.items.length cv)) := hfin
  have Hbf : Hid (Below w.heap.size w (w2.setCells (w.heap.size + 1) 0 (encP (t, .slice av t.items.length cv)))) := hbf
  clear hin hfin hbf
  go_wp2_with fail
  refine bodyPost_ret (v := .agg #[.int .i64 t.kind, .int .i64 t.num, .string t.text, .slice av t.items.length cv]) ?_ rfl ⟨_, rfl, Hfin.out, Hbf.out⟩
  have q0 := Hin.out 0 (by simp [encP])
  have q1 := Hin.out 1 (by simp [encP])
  have q2 := Hin.out 2 (by simp [encP])
  have q3 := Hin.out 3 (by simp [encP])
  simp only [encP, World.setCells, Nat.zero_add, Nat.reduceAdd, List.getElem_cons_zero, List.getElem_cons_succ] at q0 q1 q2 q3
  simp [results, Try.results60, go_sem, q0, q1, q2, q3]

/-- All texts of a value meet T. -/
def Txt (T : ByteArray → Prop) : Nat → VT → Prop
  | 0, t => T t.text
  | d + 1, t => T t.text ∧ ∀ x ∈ t.items, Txt T d x

theorem Txt.head {T : ByteArray → Prop} {d : Nat} {t : VT} (h : Txt T d t) : T t.text := by
  cases d with
  | zero => exact h
  | succ d => exact h.1

def Len : Nat → VT → Prop
  | 0, _ => True
  | d + 1, t => t.items.length ≤ 65536 ∧ ∀ x ∈ t.items, Len d x

theorem copyOf_any (T : ByteArray → Prop) (hT : ∀ (s : ByteArray) (W : World), T s → Calls Try.prog 79 #[.string s] W fun e W' => e = .returned (.string s) ∧ Below W.heap.size W W') :
    ∀ (d : Nat) (t : VT) (u : Value) (w : World), Lies d w t.items u → Txt T d t → Len d t → Calls Try.prog 60 #[.agg #[.int .i64 t.kind, .int .i64 t.num, .string t.text, u]] w (CopyPost d t w) := by
  intro d
  induction d with
  | zero =>
    intro t u w hu ht _
    have e1 : t.items = [] := hu.1
    obtain ⟨a, c, rfl, _⟩ := Lies.slice hu
    refine copyOf_core 0 t _ _ _ w hu (fun W => hT t.text W ht) (fun W hW => ?_)
    have h := copyAll_core 0 t.items _ W (Lies.deeper _ _ _ hW) (by rw [e1]; simp) (fun x _ _ hx => by rw [e1] at hx; cases hx)
    refine h.mono fun e W' hh => ?_
    obtain ⟨v, he, hL, hb⟩ := hh
    obtain ⟨a', c', hv, _⟩ := LiesB.slice hL
    exact ⟨v, he, ⟨e1, a', c', by rw [hv, e1]; rfl⟩, hb⟩
  | succ d ih =>
    intro t u w hu ht hl
    obtain ⟨a, c, rfl, _⟩ := Lies.slice hu
    refine copyOf_core (d + 1) t _ _ _ w hu (fun W => hT t.text W ht.1) (fun W hW => ?_)
    exact copyAll_core d t.items _ W hW hl.1 (fun x v W' hx hLx _ => ih x v W' hLx (ht.2 x hx) (hl.2 x hx))

end Go.Proofs.Ytfedbbicolbngaa
