/-
  Texts of mine.
-/
import Derived.Test.YthkamfddbiheoaaGreatDoorJf5fdd71e97
import Derived.Test.YthkamfddbiheoaaGreatDoorJeefed49211
import Derived.Laws.AppendOwnNone
namespace Go.Proofs.YthkamfddbiheoaaGreatDoor
open Go.RowKit

/-- A digit ahead of others. -/
def ahead (d : Int) (f : Nat → Int) : Nat → Int := fun i => if i = 0 then d else f (i - 1)
end Go.Proofs.YthkamfddbiheoaaGreatDoor
