/-
  Texts of mine, joined: what lies beneath the statement.
-/
import Derived.Test.YtnbocjbfieklhaaGreatDoorJce4a4e66aa
import Derived.Test.YtnbocjbfieklhaaGreatDoorJ863a47282e
namespace Go.Proofs.YtnbocjbfieklhaaGreatDoor
open Go.RowKit
end Go.Proofs.YtnbocjbfieklhaaGreatDoor
