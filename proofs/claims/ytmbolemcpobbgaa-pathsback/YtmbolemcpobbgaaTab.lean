/-
  The tables of the package fns, and the row that a number picks.
-/
import Derived.Test.YtmbolemcpobbgaaLevel
import Derived.Laws.EntriesVeiled
import Derived.Shelf.Abstract
namespace Go.Proofs.Ytmbolemcpobbgaa
open Go.RowKit Go.Shelf

/-- A function of the program as a value. -/
abbrev fv (n : Nat) : Value := .func (.func n) #[] #[]

end Go.Proofs.Ytmbolemcpobbgaa

