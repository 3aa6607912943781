/-
  Texts of mine, joined: what lies beneath the statement.
-/
import Derived.Test.YtbbliiafkjipbaaGreatDoorJ498136ac33
import Derived.Lib.Strings
import Derived.WalkSmall
namespace Go.Proofs.YtbbliiafkjipbaaGreatDoor
open Go.RowKit

end Go.Proofs.YtbbliiafkjipbaaGreatDoor
