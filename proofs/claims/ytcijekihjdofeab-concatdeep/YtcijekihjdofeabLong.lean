/-
  The contracts of Long, the program's and the document's: one and the same plain number.
-/
import Derived.Test.YtcijekihjdofeabNum
import Derived.Laws.BitsAllLaws
namespace Go.Proofs.Ytcijekihjdofeab
open Go.RowKit

theorem upper_eq (x : Int) : (IntKind.u64.wrap x / 4294967296) % 4294967296 = x / 4294967296 % 4294967296 := by
  have h : IntKind.u64.wrap x = x % 18446744073709551616 := by simp [IntKind.wrap, IntKind.bits, IntKind.signed]
  rw [h]; omega

end Go.Proofs.Ytcijekihjdofeab
