/-
  Texts of mine, joined: what lies beneath the statement.
-/
import Derived.Test.YtbbliiafkjipbaaGreatDoorJ13d6f970b3
import Derived.Test.YtbbliiafkjipbaaGreatDoorJ98721b9aad
namespace Go.Proofs.YtbbliiafkjipbaaGreatDoor
open Go.RowKit
set_option linter.unusedVariables false
end Go.Proofs.YtbbliiafkjipbaaGreatDoor
