/-
  Texts of mine.
-/
import Derived.Test.YtbbliiafkjipbaaGreatDoorJc3a7e342df
import Derived.WalkMore
namespace Go.Proofs.YtbbliiafkjipbaaGreatDoor
open Go.RowKit
set_option linter.unusedVariables false
set_option linter.unusedSimpArgs false
end Go.Proofs.YtbbliiafkjipbaaGreatDoor
