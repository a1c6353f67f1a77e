/-
  The contracts of Long, the program's and the document's: one and the same plain number.
-/
import Derived.Test.YtplahohaahfjmabProg
import Derived.Test.YtplahohaahfjmabLine
import Derived.Deep.QuietTactic
import Derived.BigQuiet
import Derived.Laws.BitsAllLaws
namespace Go.Proofs.Ytplahohaahfjmab
open Go.RowKit

def t15 (x : Int) : Int := bits .or .u32 (x * 32768 % 4294967296) (x / 131072)
def t13 (x : Int) : Int := bits .or .u32 (x * 8192 % 4294967296) (x / 524288)
def xs16 (x : Int) : Int := bits .xor .u32 x (x / 65536)
def xs13 (x : Int) : Int := bits .xor .u32 x (x / 8192)
def mixK (k : Int) : Int := t15 (k * 3432918353 % 4294967296) * 461845907 % 4294967296
def mixH (h k : Int) : Int := (t13 (bits .xor .u32 h k) * 5 % 4294967296 + 3864292196) % 4294967296
def finZ (h n : Int) : Int := xs16 (xs13 (xs16 (bits .xor .u32 h n) * 2246822507 % 4294967296) * 3266489909 % 4294967296)
def intZ (x : Int) : Int := if x = 0 then 0 else finZ (mixH 0 (mixK (IntKind.u32.wrap x))) 4
def longZ (x : Int) : Int := if x = 0 then 0 else finZ (mixH (mixH 0 (mixK (IntKind.u32.wrap x))) (mixK (IntKind.u32.wrap (x / 4294967296)))) 8
def collZ (h n : Int) : Int := finZ (mixH 0 (mixK h)) (IntKind.u32.wrap n)

end Go.Proofs.Ytplahohaahfjmab

namespace Go.Proofs.Ytplahohaahfjmab
open Go.RowKit

theorem upper_eq (x : Int) : (IntKind.u64.wrap x / 4294967296) % 4294967296 = x / 4294967296 % 4294967296 := by
  have h : IntKind.u64.wrap x = x % 18446744073709551616 := by simp [IntKind.wrap, IntKind.bits, IntKind.signed]
  rw [h]; omega

end Go.Proofs.Ytplahohaahfjmab

