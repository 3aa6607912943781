/-
  Texts of mine, joined: what lies beneath the statement.
-/
import Derived.Test.YtjmagcgobhaenaaGreatDoorJ94b9a5cff7
import Derived.Laws.BytesArg
namespace Go.Proofs.YtjmagcgobhaenaaGreatDoor
open Go.RowKit
end Go.Proofs.YtjmagcgobhaenaaGreatDoor
