/-
  Texts of mine.
-/
import Derived.Test.YtbbliiafkjipbaaGreatDoorJa61d86bc3a
import Derived.Test.YtbbliiafkjipbaaGreatDoorChecked
import Derived.Lib.Strings
import Derived.WalkSmall
namespace Go.Proofs.YtbbliiafkjipbaaGreatDoor
open Go.RowKit
set_option linter.unusedVariables false
set_option linter.unusedSimpArgs false
end Go.Proofs.YtbbliiafkjipbaaGreatDoor
