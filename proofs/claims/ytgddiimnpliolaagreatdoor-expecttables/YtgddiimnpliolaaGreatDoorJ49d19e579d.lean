/-
  Texts of mine, joined: what lies beneath the statement.
-/
import Derived.Test.YtgddiimnpliolaaGreatDoorJ1027041bbc
import Derived.Laws.BytesArg
namespace Go.Proofs.YtgddiimnpliolaaGreatDoor
open Go.RowKit
end Go.Proofs.YtgddiimnpliolaaGreatDoor
