/-
  The contract of strings.Clone (off the shelf), and what 'made' leaves.
-/
import Derived.Shelf.LaysM
import Derived.Shelf.Strconv.Clone
import Derived.Test.YtffjdpbobkdmfaaUniq
namespace Go.Proofs
open Go.Shelf
open Go.RowKit in
theorem Try.stringslite_Clone (s : ByteArray) (w : World) (hlim : s.size ≤ 281474976710656) :
    Calls Try.prog 49 #[.string s] w fun e w' => e = .returned (.string s) ∧ Below w.heap.size w w' := Any.stringslite_Clone Try.laysM316 s w hlim
end Go.Proofs
namespace Go.Proofs.Ytffjdpbobkdmfaa
open Go.RowKit

set_option maxHeartbeats 1000000 in
theorem strclone (s : ByteArray) (w : World) (hlim : s.size ≤ 281474976710656) : Calls Try.prog 38 #[.string s] w fun e w' => e = .returned (.string s) ∧ Below w.heap.size w w' := by
  go_enter Try.func38, Try.ntmps38
  go_wp2_with fail
  refine (Try.stringslite_Clone s _ hlim).mono ?_
  rintro e w1 ⟨rfl, hb⟩
  go_wp2_with fail
  go_ret
  exact ⟨rfl, hb⟩

theorem txt_any (s : ByteArray) (W : World) (h : s.size ≤ 281474976710656) : Calls Try.prog 38 #[.string s] W fun e W' => e = .returned (.string s) ∧ Below W.heap.size W W' := strclone s W h

theorem sm_len : ∀ (d : Nat) (t : VT), Sm d t → Len d t := by
  intro d
  induction d with
  | zero => intro t _; trivial
  | succ d ih => intro t h; exact ⟨by have := h.1; omega, fun x hx => ih x (h.2 x hx)⟩

end Go.Proofs.Ytffjdpbobkdmfaa

