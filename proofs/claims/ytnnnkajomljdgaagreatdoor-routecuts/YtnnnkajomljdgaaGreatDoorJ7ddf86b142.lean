/-
  Texts of mine, joined: what lies beneath the statement.
-/
import Derived.Test.YtnnnkajomljdgaaGreatDoorJ3dc5d309b4
import Derived.Lib.Bytealg
import Derived.Lib.IndexLaws
import Derived.Deep.Cut
namespace Go.Proofs.YtnnnkajomljdgaaGreatDoor
open Go.RowKit
set_option linter.unusedVariables false
set_option linter.unusedSimpArgs false

end Go.Proofs.YtnnnkajomljdgaaGreatDoor
