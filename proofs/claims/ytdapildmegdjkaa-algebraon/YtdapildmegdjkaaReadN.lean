/-
  How long a list that is read can be.
-/
import Derived.Test.YtdapildmegdjkaaRows
import Derived.Test.YtdapildmegdjkaaRead
import Derived.OpenShut
import Derived.ShutString
import Derived.ChangeOld
import Derived.Below
import Derived.SizedLaws
namespace Go.Proofs.Ytdapildmegdjkaa
open Go.ChangeShapes Go.WideShapes Go.ChangeAt Go.RowKit

theorem own : ownKnob Try.prog.godebug = none := by kernel_rfl
theorem laidOut : laidOutB Try.prog = true := by kernel_rfl

end Go.Proofs.Ytdapildmegdjkaa

namespace Go.Proofs.Ytdapildmegdjkaa
open Go.ChangeShapes Go.WideShapes Go.ChangeAt Go.RowKit Go.Deep Go.Joins

set_option maxRecDepth 100000 in
theorem read_list {H : Type} {enc : TypeId × Value → H} {w : World} {spare : Nat → Bool} {held : Bool} {r : Reach} {b0 : Nat} {v : Value} {d : DataW H} {p : List MemPlace}
    (hv : Value.okWide Try.prog w r b0 22 v) (h : DataW.Trod enc Try.prog w 0 spare held 22 v d p) : ∃ (n : Nat) (l : List VT) (a : Option Addr) (c : Nat), v = .slice a l.length c ∧ Lies (n + 1) w l v ∧ l.length ≤ 9223372036854775807 := by
  obtain ⟨a0, len, cap, rfl⟩ := okWide_slice Try.underlying22 hv
  obtain ⟨fuel, hf⟩ := h
  obtain ⟨l, u, e, hL⟩ := read_items fuel fuel (Nat.le_refl _) _ _ hf
  have e' : (Value.slice a0 len cap) = u := by simpa [Value.cells] using e
  subst e'
  obtain ⟨a, c, hs, hb⟩ := Lies.slice hL
  exact ⟨fuel, l, a, c, hs, Lies.deeper _ _ _ hL, hb⟩

end Go.Proofs.Ytdapildmegdjkaa

namespace Go.Proofs.Ytdapildmegdjkaa
open Go.ChangeShapes Go.WideShapes Go.ChangeAt Go.RowKit Go.Deep Go.Joins

theorem bytesV : Try.prog.bytesOf 25 = 56 := by kernel_rfl

set_option maxRecDepth 100000 in
theorem list_sized {H : Type} {enc : TypeId × Value → H} {w : World} {spare : Nat → Bool} {held : Bool} {a : Option Addr} {len cap : Nat} {d : DataW H} {p : List MemPlace} {ts : List TypeId} {ds : List (DataW H)}
    (h : DataW.Trod enc Try.prog w 0 spare held 22 (.slice a len cap) d p) (hw : (DataW.weightsEach Try.prog ts ds).all (· ≤ reachBytes) = true) (j : Nat) (ht : ts[j]? = some 22) (hd : ds[j]? = some d) : len * 56 ≤ 140737488355328 := by
  obtain ⟨fuel, hf⟩ := h
  rcases DataW.trod_slice Try.underlying22 hf with ⟨e, _⟩ | ⟨a', len', cap', elems, rest, n, rfl, e, hx, h4, hlc, hcm, hel, hall, h9, h10⟩
  · simp [Value.cells] at e
    omega
  · have e' : (Value.slice a len cap) = .slice (some a') len' cap' := by simpa [Value.cells] using e
    injection e' with e1 e2 e3
    subst e2
    injection hx with hx1 hx2
    subst hx1
    have h1 := sized_slice hw ht hd Try.underlying22
    rw [bytesV, List.length_map, hel] at h1
    unfold reachBytes at h1
    omega

end Go.Proofs.Ytdapildmegdjkaa

