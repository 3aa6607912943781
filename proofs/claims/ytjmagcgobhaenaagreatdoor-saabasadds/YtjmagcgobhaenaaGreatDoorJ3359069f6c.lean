/-
  Texts of mine, joined: what lies beneath the statement.
-/
import Derived.Test.YtjmagcgobhaenaaGreatDoorJ05b7d49f83
import Derived.Test.YtjmagcgobhaenaaGreatDoorJ7a087c10f5
namespace Go.Proofs.YtjmagcgobhaenaaGreatDoor
open Go.RowKit
set_option linter.unusedVariables false
end Go.Proofs.YtjmagcgobhaenaaGreatDoor
