/-
  Texts of mine, joined: what lies beneath the statement.
-/
import Derived.Test.YtieeneaebjihlaaGreatDoorJ248c78b7de
import Derived.Test.YtieeneaebjihlaaGreatDoorJb8c5873e6a
import Derived.Laws.AppendOwnNone
namespace Go.Proofs.YtieeneaebjihlaaGreatDoor
open Go.RowKit

/-- A digit ahead of others. -/
def ahead (d : Int) (f : Nat → Int) : Nat → Int := fun i => if i = 0 then d else f (i - 1)
end Go.Proofs.YtieeneaebjihlaaGreatDoor
