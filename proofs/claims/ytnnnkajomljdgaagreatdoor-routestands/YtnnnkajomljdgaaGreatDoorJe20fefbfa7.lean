/-
  Texts of mine, joined: what lies beneath the statement.
-/
import Derived.Test.YtnnnkajomljdgaaGreatDoorJ3f5aeb1cc4
import Derived.Lib.Strings
import Derived.WalkSmall
namespace Go.Proofs.YtnnnkajomljdgaaGreatDoor
open Go.RowKit

end Go.Proofs.YtnnnkajomljdgaaGreatDoor
