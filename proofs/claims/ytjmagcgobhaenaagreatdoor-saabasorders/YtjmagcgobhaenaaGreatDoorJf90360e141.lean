/-
  Texts of mine, joined: what lies beneath the statement.
-/
import Derived.Test.YtjmagcgobhaenaaGreatDoorJe0bba89bff
import Derived.Test.YtjmagcgobhaenaaGreatDoorJfc85970dac
namespace Go.Proofs.YtjmagcgobhaenaaGreatDoor
open Go.RowKit
end Go.Proofs.YtjmagcgobhaenaaGreatDoor
