/-
  The walk of FnsIs.
-/
import Derived.Test.YtacnfmamjbmhcaaRIs
import Derived.Test.YtacnfmamjbmhcaaSpeaks
namespace Go.Proofs.Ytacnfmamjbmhcaa
open Go.RowKit

set_option maxHeartbeats 2000000 in
theorem isLaw_core (q : Int) (t : VT) (a : Option Addr) (l c : Nat) (w : World) (b : Bool) (r : Int)
    (H1 : Hid (∀ W, Below w.heap.size w W → Calls Try.prog 14 #[.int .i64 q, .agg #[.int .i64 t.kind, .int .i64 t.num, .string t.text, .slice a l c]] W (IPost b r W)))
    (H2 : Hid (∀ W, Below w.heap.size w W → Calls Try.prog 15 #[.int .i64 q, .agg #[.int .i64 t.kind, .int .i64 t.num, .string t.text, .slice a l c]] W (IPost b r W))) :
    Calls Try.prog 4 #[.int .i64 q, .agg #[.int .i64 t.kind, .int .i64 t.num, .string t.text, .slice a l c]] w fun e w' => e = .returned (.bool true) ∧ Below w.heap.size w w' := by
  have hal : Below w.heap.size w (w.alloc (.cells #[.int .i64 t.kind, .int .i64 t.num, .string t.text, .slice a l c] 24)) := ((Grew.refl w).alloc _).below
  have HX : Hid (Bx (w.alloc (.cells #[.int .i64 t.kind, .int .i64 t.num, .string t.text, .slice a l c] 24)) w.heap.size t (.slice a l c)) := bx_alloc w t _
  go_enter Try.func4, Try.ntmps4
  go_wp2_with fail
  refine Calls.mono (H1.out _ hal) ?_
  rintro e w1 ⟨rfl, hb⟩
  have hb1 : Below w.heap.size w w1 := hal.trans (hb.mono hal.size)
  obtain ⟨x0, x1, x2, x3, _, _, _, _⟩ := HX.out.keeps hb
  clear hb hal HX
  go_wp2_with fail
  refine Calls.mono (H2.out _ hb1) ?_
  rintro e w2 ⟨rfl, hb⟩
  have hb2 : Below w.heap.size w w2 := hb1.trans (hb.mono hb1.size)
  clear hb hb1 x0 x1 x2 x3
  have hbb : (b == b) = true := by simp
  have hrr : (r == r) = true := by simp
  go_wp2_with fail
  refine (speaks_any _).mono ?_
  rintro e w3 ⟨rfl, hb⟩
  have hb3 : Below w.heap.size w w3 := hb2.trans (hb.mono hb2.size)
  go_wp2_with fail
  go_ret
  exact ⟨rfl, hb3⟩

theorem isLaw_walk (q : Int) (d : Nat) (t : VT) (u : Value) (w : World) (hu : Lies d w t.items u) (hs : t.text.size ≤ 9223372036854775807) :
    Calls Try.prog 4 #[.int .i64 q, .agg #[.int .i64 t.kind, .int .i64 t.num, .string t.text, u]] w fun e w' => e = .returned (.bool true) ∧ Below w.heap.size w w' := by
  obtain ⟨a, c, rfl, _⟩ := Lies.slice hu
  exact isLaw_core q t a _ c w (isZ d q t) (isE d q t) (fun W hW => pis_any d q t _ W (Lies.keeps hW _ _ _ hu) hs) (fun W hW => ris_any d q t _ W (Lies.keeps hW _ _ _ hu))

end Go.Proofs.Ytacnfmamjbmhcaa

