/-
  Texts of mine, joined: what lies beneath the statement.
-/
import Derived.Test.YtnbocjbfieklhabGreatDoorJdc2d6ab556
import Derived.Test.YtnbocjbfieklhabGreatDoorJ92545de831
namespace Go.Proofs.YtnbocjbfieklhabGreatDoor
open Go.RowKit

end Go.Proofs.YtnbocjbfieklhabGreatDoor
