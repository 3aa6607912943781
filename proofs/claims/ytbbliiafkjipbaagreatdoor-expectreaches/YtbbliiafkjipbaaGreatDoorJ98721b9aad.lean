/-
  Texts of mine, joined: what lies beneath the statement.
-/
import Derived.Test.YtbbliiafkjipbaaGreatDoorJ3286969a4a
import Derived.Test.YtbbliiafkjipbaaGreatDoorJ02cbbf8899
import Derived.Laws.AppendOwnNone
namespace Go.Proofs.YtbbliiafkjipbaaGreatDoor
open Go.RowKit
def ahead (d : Int) (f : Nat → Int) : Nat → Int := fun i => if i = 0 then d else f (i - 1)
end Go.Proofs.YtbbliiafkjipbaaGreatDoor
