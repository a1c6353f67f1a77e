/-
  The contract of the program's units: a text's units of 16 bits, letter by letter.
-/
import Derived.Test.YteldncblmoilkabFold
import Derived.Test.YteldncblmoilkabUtf
import Derived.Laws.AppendOwn
import Derived.Lib.OthersKept
namespace Go.Proofs.Yteldncblmoilkab
open Go.RowKit

def uHi (r : Int) : Int := IntKind.u16.wrap (bits .or .i32 55296 ((r - 65536) / 1024))
def uLo (r : Int) : Int := IntKind.u16.wrap (bits .or .i32 56320 (bits .and .i32 (r - 65536) 1023))
def uOne (r : Int) : Int := r

/-- A letter's units. -/
def unR (r : Int) : List Int := if 65535 < r then [uHi r, uLo r] else [uOne r]

def unS (s : ByteArray) : Nat → Nat → List Int
  | 0, _ => []
  | b + 1, pos => if pos < s.size then unR (Utf8.decode s pos).1 ++ unS s b (pos + (Utf8.decode s pos).2) else []

/-- A text's units. -/
def unL (s : ByteArray) : List Int := unS s s.size 0

theorem unS_end (s : ByteArray) (b pos : Nat) (h : ¬ pos < s.size) : unS s b pos = [] := by
  cases b with
  | zero => rfl
  | succ b => simp [unS, h]

set_option maxRecDepth 100000 in
theorem infoH : ∃ i0, Try.prog.info? 86 = some i0 ∧ i0.zero = some (.int .u16 0) ∧ i0.size = 1 ∧ i0.bytes = 2 := by
  refine ⟨_, rfl, ?_, ?_, ?_⟩
  all_goals kernel_rfl

theorem own_ints {w : World} {base : Nat} {v : Value} {l : List Int} {k : IntKind} {e : TypeId} (h : w.ownsRow base e 1 v l.length (l.map (Value.int k))) : IntsAt k w l v := by
  rcases h.2 with ⟨hv, h0⟩ | ⟨g, cap, cur, hv, hbs, hg, hcap, hmx, hsz, htk⟩
  · obtain rfl := List.eq_nil_of_length_eq_zero h0
    rw [hv]
    exact IntsAt.nil _ _
  · refine ⟨some ⟨g, 0, none⟩, cap, hv, by unfold maxLen at hmx; omega, hcap, fun _ => ⟨g, 0, rfl, fun i hi => ?_⟩⟩
    have hj : (l.map (Value.int k))[i]? = some (.int k l[i]) := by simp [hi]
    rw [← htk] at hj
    unfold World.cell?
    rw [hg]
    rw [List.getElem?_take] at hj
    split at hj
    · simpa using hj
    · cases hj

/-- An owned row, kept where the blocks below and its own are kept. -/
theorem own_iter {w : World} {base : Nat} {e : TypeId} {v : Value} {n : Nat} {xs : List Value} {K pos : Nat} {s : ByteArray} (h : w.ownsRow base e 1 v n xs) (hK : K < base) : (w.iterAt K s pos).ownsRow base e 1 v n xs := by
  refine ⟨h.1, ?_⟩
  rcases h.2 with hn | ⟨g, cap, cur, hv, hbs, hg, rest⟩
  · exact .inl hn
  · exact .inr ⟨g, cap, cur, hv, hbs, by rw [Lib.iterAt_other _ _ _ _ _ (by omega)]; exact hg, rest⟩

end Go.Proofs.Yteldncblmoilkab
