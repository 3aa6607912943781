/-
  Texts of mine, joined: what lies beneath the statement.
-/
import Derived.Test.YtnnnkajomljdgaaGreatDoorJ5d8c216cd8
import Derived.Laws.BytesArg
namespace Go.Proofs.YtnnnkajomljdgaaGreatDoor
open Go.RowKit

end Go.Proofs.YtnnnkajomljdgaaGreatDoor
