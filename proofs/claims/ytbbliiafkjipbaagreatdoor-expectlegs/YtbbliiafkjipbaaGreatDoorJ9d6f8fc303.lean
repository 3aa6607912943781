/-
  Texts of mine, joined: what lies beneath the statement.
-/
import Derived.Test.YtbbliiafkjipbaaGreatDoorJ2ae9d22861
import Derived.Test.YtbbliiafkjipbaaGreatDoorChecked
import Derived.Lib.Strings
import Derived.WalkSmall
namespace Go.Proofs.YtbbliiafkjipbaaGreatDoor
open Go.RowKit
set_option linter.unusedVariables false
set_option linter.unusedSimpArgs false
end Go.Proofs.YtbbliiafkjipbaaGreatDoor
