/-
  Texts of mine, joined: what lies beneath the statement.
-/
import Derived.Test.YtbbliiafkjipbaaGreatDoorJ02cbbf8899
import Derived.Test.YtbbliiafkjipbaaGreatDoorJ4819699d05
namespace Go.Proofs.YtbbliiafkjipbaaGreatDoor
open Go.RowKit
end Go.Proofs.YtbbliiafkjipbaaGreatDoor
