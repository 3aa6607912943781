/-
  Texts of mine, joined: what lies beneath the statement.
-/
import Derived.Test.YtnnnkajomljdgaaGreatDoorJa56a89cb74
import Derived.Test.YtnnnkajomljdgaaGreatDoorChecked
import Derived.Lib.Strings
import Derived.WalkSmall
namespace Go.Proofs.YtnnnkajomljdgaaGreatDoor
open Go.RowKit
set_option linter.unusedVariables false
set_option linter.unusedSimpArgs false

end Go.Proofs.YtnnnkajomljdgaaGreatDoor
