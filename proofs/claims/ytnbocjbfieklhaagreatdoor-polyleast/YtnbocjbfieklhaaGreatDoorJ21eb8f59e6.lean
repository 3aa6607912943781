/-
  Texts of mine, joined: what lies beneath the statement.
-/
import Derived.Test.YtnbocjbfieklhaaGreatDoorJefed5c034d
import Derived.Test.YtnbocjbfieklhaaGreatDoorJce4a4e66aa
import Derived.Laws.AppendOwnNone
namespace Go.Proofs.YtnbocjbfieklhaaGreatDoor
open Go.RowKit
def ahead (d : Int) (f : Nat → Int) : Nat → Int := fun i => if i = 0 then d else f (i - 1)
end Go.Proofs.YtnbocjbfieklhaaGreatDoor
