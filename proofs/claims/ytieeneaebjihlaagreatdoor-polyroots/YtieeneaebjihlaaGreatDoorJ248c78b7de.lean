/-
  Texts of mine, joined: what lies beneath the statement.
-/
import Derived.Test.YtieeneaebjihlaaGreatDoorJb8c5873e6a
import Derived.Test.YtieeneaebjihlaaGreatDoorJ8a3182df48
namespace Go.Proofs.YtieeneaebjihlaaGreatDoor
open Go.RowKit

end Go.Proofs.YtieeneaebjihlaaGreatDoor
