/-
  Texts of mine, joined: what lies beneath the statement.
-/
import Derived.Test.YtjmagcgobhaenaaGreatDoorJ54b10db5f9
import Derived.Test.YtjmagcgobhaenaaGreatDoorJ8e90a765fc
namespace Go.Proofs.YtjmagcgobhaenaaGreatDoor
open Go.RowKit
set_option linter.unusedVariables false
end Go.Proofs.YtjmagcgobhaenaaGreatDoor
