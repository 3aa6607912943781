/-
  Texts of mine, joined: what lies beneath the statement.
-/
import Derived.Test.YtjmagcgobhaenaaGreatDoorJb4058fed52
import Derived.WalkMore
namespace Go.Proofs.YtjmagcgobhaenaaGreatDoor
open Go.RowKit
set_option linter.unusedVariables false
set_option linter.unusedSimpArgs false
end Go.Proofs.YtjmagcgobhaenaaGreatDoor
