/-
  Texts of mine, joined: what lies beneath the statement.
-/
import Derived.Test.YtnnnkajomljdgaaGreatDoorJ206e37e96f
import Derived.Test.YtnnnkajomljdgaaGreatDoorChecked
import Derived.Lib.Strings
import Derived.WalkSmall
namespace Go.Proofs.YtnnnkajomljdgaaGreatDoor
open Go.RowKit
set_option linter.unusedVariables false
set_option linter.unusedSimpArgs false

end Go.Proofs.YtnnnkajomljdgaaGreatDoor
