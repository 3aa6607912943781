/-
  Texts of mine, joined: what lies beneath the statement.
-/
import Derived.Test.YtnbocjbfieklhabGreatDoorJ7c676b9c40
import Derived.Laws.BytesArg
namespace Go.Proofs.YtnbocjbfieklhabGreatDoor
open Go.RowKit

end Go.Proofs.YtnbocjbfieklhabGreatDoor
