/-
  Texts of mine, joined: what lies beneath the statement.
-/
import Derived.Test.YtieeneaebjihlaaGreatDoorJ39b7ab0dad
import Derived.Laws.BytesArg
namespace Go.Proofs.YtieeneaebjihlaaGreatDoor
open Go.RowKit

end Go.Proofs.YtieeneaebjihlaaGreatDoor
