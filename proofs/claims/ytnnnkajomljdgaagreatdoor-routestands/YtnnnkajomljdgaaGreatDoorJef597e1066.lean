/-
  Texts of mine, joined: what lies beneath the statement.
-/
import Derived.Test.YtnnnkajomljdgaaGreatDoorJb3ff5c4399
import Derived.Test.YtnnnkajomljdgaaGreatDoorJ283280a36a
namespace Go.Proofs.YtnnnkajomljdgaaGreatDoor
open Go.RowKit
set_option linter.unusedVariables false

end Go.Proofs.YtnnnkajomljdgaaGreatDoor
