/-
  Texts of mine, joined: what lies beneath the statement.
-/
import Derived.Test.YtieeneaebjihlaaGreatDoorJd7033bc733
import Derived.Lib.Strings
import Derived.WalkSmall
namespace Go.Proofs.YtieeneaebjihlaaGreatDoor
open Go.RowKit

end Go.Proofs.YtieeneaebjihlaaGreatDoor
