/-
  Texts of mine, joined: what lies beneath the statement.
-/
import Derived.Test.YtnnnkajomljdgaaGreatDoorJdae08ebfb8
import Derived.Test.YtnnnkajomljdgaaGreatDoorJ1eda57a6e6
namespace Go.Proofs.YtnnnkajomljdgaaGreatDoor
open Go.RowKit

end Go.Proofs.YtnnnkajomljdgaaGreatDoor
