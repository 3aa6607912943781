/-
  Texts of mine, joined: what lies beneath the statement.
-/
import Derived.Test.YtnbocjbfieklhabGreatDoorJa67a8e36c5
import Derived.Test.YtnbocjbfieklhabGreatDoorJdc2d6ab556
import Derived.Laws.AppendOwnNone
namespace Go.Proofs.YtnbocjbfieklhabGreatDoor
open Go.RowKit

/-- A digit ahead of others. -/
def ahead (d : Int) (f : Nat → Int) : Nat → Int := fun i => if i = 0 then d else f (i - 1)
end Go.Proofs.YtnbocjbfieklhabGreatDoor
