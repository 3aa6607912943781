/-
  Texts of mine, joined: what lies beneath the statement.
-/
import Derived.Test.YtieeneaebjihlaaGreatDoorJ96f22dd196
import Derived.Test.YtieeneaebjihlaaGreatDoorJ3b04f0f464
namespace Go.Proofs.YtieeneaebjihlaaGreatDoor
open Go.RowKit
set_option linter.unusedVariables false

end Go.Proofs.YtieeneaebjihlaaGreatDoor
