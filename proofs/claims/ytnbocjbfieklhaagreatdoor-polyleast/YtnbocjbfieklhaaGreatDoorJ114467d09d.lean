/-
  Texts of mine, joined: what lies beneath the statement.
-/
import Derived.Test.YtnbocjbfieklhaaGreatDoorJ8668b5c0c2
import Derived.Lib.Strings
import Derived.WalkSmall
namespace Go.Proofs.YtnbocjbfieklhaaGreatDoor
open Go.RowKit

end Go.Proofs.YtnbocjbfieklhaaGreatDoor
