/-
  Texts of mine, joined: what lies beneath the statement.
-/
import Derived.Test.YtjmagcgobhaenaaGreatDoorJf90360e141
import Derived.Test.YtjmagcgobhaenaaGreatDoorJe0bba89bff
import Derived.Laws.AppendOwnNone
namespace Go.Proofs.YtjmagcgobhaenaaGreatDoor
open Go.RowKit
def ahead (d : Int) (f : Nat → Int) : Nat → Int := fun i => if i = 0 then d else f (i - 1)
end Go.Proofs.YtjmagcgobhaenaaGreatDoor
