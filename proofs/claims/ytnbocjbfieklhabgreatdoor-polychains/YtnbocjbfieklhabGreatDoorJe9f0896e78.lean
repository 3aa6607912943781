/-
  Texts of mine, joined: what lies beneath the statement.
-/
import Derived.Test.YtnbocjbfieklhabGreatDoorJe96f6bf891
import Derived.Test.YtnbocjbfieklhabGreatDoorJ1f845b42f0
namespace Go.Proofs.YtnbocjbfieklhabGreatDoor
open Go.RowKit
set_option linter.unusedVariables false

end Go.Proofs.YtnbocjbfieklhabGreatDoor
