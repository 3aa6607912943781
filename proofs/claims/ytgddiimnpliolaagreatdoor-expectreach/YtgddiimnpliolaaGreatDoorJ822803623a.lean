/-
  Texts of mine, joined: what lies beneath the statement.
-/
import Derived.Test.YtgddiimnpliolaaGreatDoorJfe58308b9e
import Derived.Test.YtgddiimnpliolaaGreatDoorChecked
import Derived.Lib.Strings
import Derived.WalkSmall
namespace Go.Proofs.YtgddiimnpliolaaGreatDoor
open Go.RowKit
set_option linter.unusedVariables false
set_option linter.unusedSimpArgs false
end Go.Proofs.YtgddiimnpliolaaGreatDoor
