/-
  Texts of mine, joined: what lies beneath the statement.
-/
import Derived.Test.YtjmagcgobhaenaaGreatDoorJb301b44af6
import Derived.Lib.Strings
import Derived.WalkSmall
namespace Go.Proofs.YtjmagcgobhaenaaGreatDoor
open Go.RowKit

end Go.Proofs.YtjmagcgobhaenaaGreatDoor
