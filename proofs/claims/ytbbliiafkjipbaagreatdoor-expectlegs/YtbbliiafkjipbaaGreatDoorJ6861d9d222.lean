/-
  Texts of mine, joined: what lies beneath the statement.
-/
import Derived.Test.YtbbliiafkjipbaaGreatDoorJ9d6f8fc303
import Derived.WalkMore
namespace Go.Proofs.YtbbliiafkjipbaaGreatDoor
open Go.RowKit
set_option linter.unusedVariables false
set_option linter.unusedSimpArgs false
end Go.Proofs.YtbbliiafkjipbaaGreatDoor
