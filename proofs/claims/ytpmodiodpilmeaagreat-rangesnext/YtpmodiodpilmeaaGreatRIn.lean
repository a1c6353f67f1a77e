/-
  The contracts of the document's Fit, In, Same and Place; the walk of OrderPlaces.
-/
import Derived.Test.YtpmodiodpilmeaaGreatROrd
import Derived.Test.YtpmodiodpilmeaaGreatSrch
import Derived.Test.YtpmodiodpilmeaaGreatLevel
import Derived.Deep.RegionHeld3
import Derived.Test.YtpmodiodpilmeaaGreatRunesP
import Derived.Test.YtpmodiodpilmeaaGreatSwapRange
import Derived.Test.YtpmodiodpilmeaaGreatParts
import Derived.Test.YtpmodiodpilmeaaGreatStable
import Derived.Lib.AppendZeros
namespace Go.Proofs.YtpmodiodpilmeaaGreat
open Go.RowKit Go.Shelf

theorem rsame_any (t s : VT) (x y : Value) (w : World) (hx : Lies 16 w t.items x) (hy : Lies 16 w s.items y) : Calls Tryz.prog 49 #[.agg #[.int .i64 t.kind, .int .i64 t.num, .string t.text, x], .agg #[.int .i64 s.kind, .int .i64 s.num, .string s.text, y]] w fun e w' => e = .returned (.bool (cmpV 16 t s == 0)) ∧ Below w.heap.size w w' := by
  obtain ⟨ax, cx, rfl, _⟩ := Lies.slice hx
  obtain ⟨ay, cy, rfl, _⟩ := Lies.slice hy
  have HX : Hid (Lies 16 w t.items (.slice ax t.items.length cx)) := hx
  have HY : Hid (Lies 16 w s.items (.slice ay s.items.length cy)) := hy
  clear hx hy
  go_enter Tryz.func49, Tryz.ntmps49
  go_wp2_with fail
  refine (ref_any 16 t s _ _ _ (Lies.keeps (Grew.two _ _ _).below _ _ _ HX.out) (Lies.keeps (Grew.two _ _ _).below _ _ _ HY.out)).mono ?_
  rintro e w1 ⟨rfl, hb⟩
  have hb1 : Below w.heap.size w w1 := (Grew.two w _ _).below.trans (hb.mono (by simp; omega))
  clear hb
  go_wp2_with fail
  go_ret
  exact ⟨rfl, hb1⟩

end Go.Proofs.YtpmodiodpilmeaaGreat

