/-
  The tables of the package fns, and the row that a number picks.
-/
import Derived.Test.YtofceccicmlmoaaLevel
import Derived.Laws.EntriesVeiled
import Derived.Shelf.Abstract
namespace Go.Proofs.Ytofceccicmlmoaa
open Go.RowKit Go.Shelf

/-- A function of the program as a value. -/
abbrev fv (n : Nat) : Value := .func (.func n) #[] #[]

end Go.Proofs.Ytofceccicmlmoaa

