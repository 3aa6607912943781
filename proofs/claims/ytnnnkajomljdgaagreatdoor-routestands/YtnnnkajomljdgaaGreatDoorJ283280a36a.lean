/-
  Texts of mine, joined: what lies beneath the statement.
-/
import Derived.Test.YtnnnkajomljdgaaGreatDoorJfa3f4710df
import Derived.Test.YtnnnkajomljdgaaGreatDoorJdae08ebfb8
import Derived.Laws.AppendOwnNone
namespace Go.Proofs.YtnnnkajomljdgaaGreatDoor
open Go.RowKit

/-- A digit ahead of others. -/
def ahead (d : Int) (f : Nat → Int) : Nat → Int := fun i => if i = 0 then d else f (i - 1)
end Go.Proofs.YtnnnkajomljdgaaGreatDoor
