/-
  Lists of numbers in memory, and the contracts of Ordered, Unordered and Java, the program's and the document's.
-/
import Derived.Test.YtplahohaahfjmabLong
import Derived.Deep.LoopGhost
namespace Go.Proofs.Ytplahohaahfjmab
open Go.RowKit

/-- The slice v holds the numbers l, of kind k. -/
def IntsAt (k : IntKind) (w : World) (l : List Int) (v : Value) : Prop :=
  ∃ a c, v = .slice a l.length c ∧ l.length ≤ 9223372036854775807 ∧ l.length ≤ c ∧ (l ≠ [] → ∃ b o, a = some ⟨b, o, none⟩ ∧ ∀ (i : Nat) (h : i < l.length), w.cell? ⟨b, o + i, none⟩ = some (.int k (l[i]'h)))

theorem IntsAt.keeps {k : IntKind} {w w' : World} {l : List Int} {v : Value} (h : IntsAt k w l v) (hb : Below w.heap.size w w') : IntsAt k w' l v := by
  obtain ⟨a, c, hv, hl, hcap, hr⟩ := h
  refine ⟨a, c, hv, hl, hcap, fun hne => ?_⟩
  obtain ⟨b, o, ha, hall⟩ := hr hne
  exact ⟨b, o, ha, fun i hi => cell_keeps hb (hall i hi)⟩

theorem IntsAt.nil (k : IntKind) (w : World) : IntsAt k w [] (.slice none 0 0) := ⟨none, 0, rfl, by simp, by simp, fun h => absurd rfl h⟩

theorem fold_step {f : Int → Int → Int} {a : Int} (l : List Int) (j : Nat) (h : j < l.length) : (l.take (j + 1)).foldl f a = f ((l.take j).foldl f a) l[j] := by
  rw [List.take_succ_eq_append_getElem h, List.foldl_append]
  rfl

def stepO (m x : Int) : Int := (31 * m % 4294967296 + x) % 4294967296
def stepU (m x : Int) : Int := (m + x) % 4294967296
def stepJ (m x : Int) : Int := wrap32 (wrap32 (31 * m) + wrap32 x)
def ordZ (l : List Int) : Int := collZ (l.foldl stepO 1) l.length
def unoZ (l : List Int) : Int := collZ (l.foldl stepU 0) l.length
def javaZ (l : List Int) : Int := l.foldl stepJ 0

end Go.Proofs.Ytplahohaahfjmab
