/-
  The walk of ValueLine, all ways.
-/
import Derived.Test.YtfedbbicolbngaaLineW
import Derived.Test.YtfedbbicolbngaaLineX
import Derived.Test.YtfedbbicolbngaaLineY
namespace Go.Proofs.Ytfedbbicolbngaa
open Go.RowKit

theorem valueLine_any (hsp : Hid (∀ W : World, Calls Try.prog 15 #[] W fun e W' => e = .returned (.bool true) ∧ Below W.heap.size W W'))
    (d : Nat) (t s r : VT) (x y z : Value) (w : World) (hx : Lies d w t.items x) (hy : Lies d w s.items y) (hz : Lies d w r.items z) (hst : t.text.size ≤ 9223372036854775807) (hss : s.text.size ≤ 9223372036854775807) :
    Calls Try.prog 5 #[.agg #[.int .i64 t.kind, .int .i64 t.num, .string t.text, x], .agg #[.int .i64 s.kind, .int .i64 s.num, .string s.text, y], .agg #[.int .i64 r.kind, .int .i64 r.num, .string r.text, z]] w fun e w' => e = .returned (.bool true) ∧ Below w.heap.size w w' := by
  by_cases h1 : cmpV d t s ≤ 0
  · by_cases h2 : cmpV d s r ≤ 0
    · exact valueLine_A hsp d t s r x y z w hx hy hz hst hss h1 h2
    · exact valueLine_B hsp d t s r x y z w hx hy hz hst hss h1 h2
  · exact valueLine_C hsp d t s r x y z w hx hy hz hst hss h1

end Go.Proofs.Ytfedbbicolbngaa
