/-
  Texts of mine, joined: what lies beneath the statement.
-/
import Derived.Test.YtnbocjbfieklhaaGreatDoorJ6fb6b03876
import Derived.Test.YtnbocjbfieklhaaGreatDoorJ21eb8f59e6
namespace Go.Proofs.YtnbocjbfieklhaaGreatDoor
open Go.RowKit
set_option linter.unusedVariables false
end Go.Proofs.YtnbocjbfieklhaaGreatDoor
