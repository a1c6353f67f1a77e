/-
  The walks of HashFull and HashKinds.
-/
import Derived.Test.YtaghmgeamhojbabRFull
namespace Go.Proofs.Ytaghmgeamhojbab
open Go.RowKit

/-- A call that answers a word and a number, from w on. -/
def Tells (f : Nat) (args : Array Value) (w : World) (z e : Int) : Prop :=
  ∀ W, Below w.heap.size w W → Calls Try.prog f args W fun r W' => r = .returned (.tuple #[.int .u32 z, .int .i64 e]) ∧ Below W.heap.size W W'

set_option maxHeartbeats 2000000 in
theorem fullLaw_core (t : VT) (s : ByteArray) (a : Option Addr) (l c : Nat) (w : World) (x e y g : Int)
    (H1 : Hid (Tells 9 #[.agg #[.int .i64 t.kind, .int .i64 t.num, .string t.text, .slice a l c]] w x e)) (H2 : Hid (Tells 10 #[.agg #[.int .i64 t.kind, .int .i64 t.num, .string t.text, .slice a l c]] w x e))
    (H3 : Hid (Tells 11 #[.string s] w y g)) (H4 : Hid (Tells 12 #[.string s] w y g)) :
    Calls Try.prog 3 #[.agg #[.int .i64 t.kind, .int .i64 t.num, .string t.text, .slice a l c], .string s] w fun e w' => e = .returned (.bool true) ∧ Below w.heap.size w w' := by
  have hal : Below w.heap.size w (w.alloc (.cells #[.int .i64 t.kind, .int .i64 t.num, .string t.text, .slice a l c] 24)) := ((Grew.refl w).alloc _).below
  have HB : Hid (Boxed (w.alloc (.cells #[.int .i64 t.kind, .int .i64 t.num, .string t.text, .slice a l c] 24)) w.heap.size t.kind t.num t.text (.slice a l c)) := boxed_alloc w _ _ _ _ 24
  go_enter Try.func3, Try.ntmps3
  go_wp2_with fail
  refine Calls.mono (H1.out _ hal) ?_
  rintro r w1 ⟨rfl, hg⟩
  have hb1 : Below w.heap.size w w1 := hal.trans (hg.mono hal.size)
  obtain ⟨x0, x1, x2, x3⟩ := HB.out.keeps hg
  clear hg HB
  go_wp2_with fail
  clear x0 x1 x2 x3
  refine Calls.mono (H2.out _ hb1) ?_
  rintro r w2 ⟨rfl, hg⟩
  have hb2 : Below w.heap.size w w2 := hb1.trans (hg.mono hb1.size)
  clear hg hb1
  go_wp2_with fail
  refine Calls.mono (H3.out _ hb2) ?_
  rintro r w3 ⟨rfl, hg⟩
  have hb3 : Below w.heap.size w w3 := hb2.trans (hg.mono hb2.size)
  clear hg hb2
  go_wp2_with fail
  refine Calls.mono (H4.out _ hb3) ?_
  rintro r w4 ⟨rfl, hg⟩
  have hb4 : Below w.heap.size w w4 := hb3.trans (hg.mono hb3.size)
  clear hg hb3
  go_wp2_with fail
  refine (speaks_any _).mono ?_
  rintro r w5 ⟨rfl, hg⟩
  have hb5 : Below w.heap.size w w5 := hb4.trans (hg.mono hb4.size)
  clear hg hb4
  go_wp2_with fail
  go_ret
  exact ⟨rfl, hb5⟩

theorem fullLaw_walk (d : Nat) (t : VT) (u : Value) (s : ByteArray) (w : World) (hu : Lies d w t.items u) (ht : t.text.size ≤ 9223372036854775807) (hs : s.size ≤ 9223372036854775807) :
    Calls Try.prog 3 #[.agg #[.int .i64 t.kind, .int .i64 t.num, .string t.text, u], .string s] w fun e w' => e = .returned (.bool true) ∧ Below w.heap.size w w' := by
  obtain ⟨a, c, rfl, _⟩ := Lies.slice hu
  exact fullLaw_core t s a t.items.length c w _ _ _ _ (fun W hW => pfull_any d t _ W (Lies.keeps hW _ _ _ hu) ht) (fun W hW => rfull_any d t _ W (Lies.keeps hW _ _ _ hu)) (fun W _ => ptext_any s W hs) (fun W _ => rtext_any s W)

set_option maxHeartbeats 2000000 in
theorem kindsLaw_core (k h : Int) (t : VT) (a : Option Addr) (l c : Nat) (w : World) (x e y g : Int)
    (H1 : Hid (Tells 14 #[.int .i64 k, .agg #[.int .i64 t.kind, .int .i64 t.num, .string t.text, .slice a l c]] w x e)) (H2 : Hid (Tells 15 #[.int .i64 k, .agg #[.int .i64 t.kind, .int .i64 t.num, .string t.text, .slice a l c]] w x e))
    (H3 : Hid (Tells 16 #[.int .i64 k, .int .u32 h] w y g)) (H4 : Hid (Tells 17 #[.int .i64 k, .int .u32 h] w y g)) :
    Calls Try.prog 4 #[.int .i64 k, .agg #[.int .i64 t.kind, .int .i64 t.num, .string t.text, .slice a l c], .int .u32 h] w fun e w' => e = .returned (.bool true) ∧ Below w.heap.size w w' := by
  have hal : Below w.heap.size w (w.alloc (.cells #[.int .i64 t.kind, .int .i64 t.num, .string t.text, .slice a l c] 24)) := ((Grew.refl w).alloc _).below
  have HB : Hid (Boxed (w.alloc (.cells #[.int .i64 t.kind, .int .i64 t.num, .string t.text, .slice a l c] 24)) w.heap.size t.kind t.num t.text (.slice a l c)) := boxed_alloc w _ _ _ _ 24
  go_enter Try.func4, Try.ntmps4
  go_wp2_with fail
  refine Calls.mono (H1.out _ hal) ?_
  rintro r w1 ⟨rfl, hg⟩
  have hb1 : Below w.heap.size w w1 := hal.trans (hg.mono hal.size)
  obtain ⟨x0, x1, x2, x3⟩ := HB.out.keeps hg
  clear hg HB
  go_wp2_with fail
  clear x0 x1 x2 x3
  refine Calls.mono (H2.out _ hb1) ?_
  rintro r w2 ⟨rfl, hg⟩
  have hb2 : Below w.heap.size w w2 := hb1.trans (hg.mono hb1.size)
  clear hg hb1
  go_wp2_with fail
  refine Calls.mono (H3.out _ hb2) ?_
  rintro r w3 ⟨rfl, hg⟩
  have hb3 : Below w.heap.size w w3 := hb2.trans (hg.mono hb2.size)
  clear hg hb2
  go_wp2_with fail
  refine Calls.mono (H4.out _ hb3) ?_
  rintro r w4 ⟨rfl, hg⟩
  have hb4 : Below w.heap.size w w4 := hb3.trans (hg.mono hb3.size)
  clear hg hb3
  go_wp2_with fail
  refine (speaks_any _).mono ?_
  rintro r w5 ⟨rfl, hg⟩
  have hb5 : Below w.heap.size w w5 := hb4.trans (hg.mono hb4.size)
  clear hg hb4
  go_wp2_with fail
  go_ret
  exact ⟨rfl, hb5⟩

theorem kindsLaw_walk (k h : Int) (d : Nat) (t : VT) (u : Value) (w : World) (hu : Lies d w t.items u) (ht : t.text.size ≤ 9223372036854775807) (hw : Word h) :
    Calls Try.prog 4 #[.int .i64 k, .agg #[.int .i64 t.kind, .int .i64 t.num, .string t.text, u], .int .u32 h] w fun e w' => e = .returned (.bool true) ∧ Below w.heap.size w w' := by
  obtain ⟨a, c, rfl, _⟩ := Lies.slice hu
  exact kindsLaw_core k h t a t.items.length c w _ _ _ _ (fun W hW => of_any d k t _ W (Lies.keeps hW _ _ _ hu) ht) (fun W hW => rof_any d k t _ W (Lies.keeps hW _ _ _ hu))
    (fun W _ => (pcut_any k h W hw).mono fun _ _ h => ⟨h.1, by rw [h.2]; exact Below.refl _ _⟩) (fun W _ => (rcut_any k h W hw).mono fun _ _ h => ⟨h.1, by rw [h.2]; exact Below.refl _ _⟩)

end Go.Proofs.Ytaghmgeamhojbab

