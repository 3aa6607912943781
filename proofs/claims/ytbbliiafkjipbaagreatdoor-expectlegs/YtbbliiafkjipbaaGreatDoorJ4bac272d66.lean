/-
  Texts of mine.
-/
import Derived.Test.YtbbliiafkjipbaaGreatDoorJbea81810e9
import Derived.Lib.Bytealg
import Derived.Lib.IndexLaws
import Derived.Deep.Cut
namespace Go.Proofs.YtbbliiafkjipbaaGreatDoor
open Go.RowKit
set_option linter.unusedVariables false
set_option linter.unusedSimpArgs false

end Go.Proofs.YtbbliiafkjipbaaGreatDoor
