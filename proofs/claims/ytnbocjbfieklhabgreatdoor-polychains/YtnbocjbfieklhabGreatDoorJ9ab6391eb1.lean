/-
  Texts of mine, joined: what lies beneath the statement.
-/
import Derived.Test.YtnbocjbfieklhabGreatDoorJd2023a6622
import Derived.Lib.Strings
import Derived.WalkSmall
namespace Go.Proofs.YtnbocjbfieklhabGreatDoor
open Go.RowKit

end Go.Proofs.YtnbocjbfieklhabGreatDoor
