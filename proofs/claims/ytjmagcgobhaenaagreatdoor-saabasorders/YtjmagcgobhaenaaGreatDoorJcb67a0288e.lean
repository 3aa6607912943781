/-
  Texts of mine, joined: what lies beneath the statement.
-/
import Derived.Test.YtjmagcgobhaenaaGreatDoorJ986ed80efb
import Derived.Laws.BytesArg
namespace Go.Proofs.YtjmagcgobhaenaaGreatDoor
open Go.RowKit
end Go.Proofs.YtjmagcgobhaenaaGreatDoor
