/-
  Texts of mine.
-/
import Derived.Test.YtbbliiafkjipbaaGreatDoorJ62310e1a23
import Derived.Lib.Strings
import Derived.WalkSmall
namespace Go.Proofs.YtbbliiafkjipbaaGreatDoor
open Go.RowKit

end Go.Proofs.YtbbliiafkjipbaaGreatDoor
