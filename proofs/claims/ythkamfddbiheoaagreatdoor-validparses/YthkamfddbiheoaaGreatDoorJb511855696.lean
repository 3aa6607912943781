/-
  Texts of mine.
-/
import Derived.Test.YthkamfddbiheoaaGreatDoorJ5b90dc4bf1
import Derived.Test.YthkamfddbiheoaaGreatDoorJ1ecfaddd90
namespace Go.Proofs.YthkamfddbiheoaaGreatDoor
open Go.RowKit
set_option linter.unusedVariables false

theorem nl_small7 (k : Nat) (h : k < 4294967296) : nl W32 k ≤ 1 := nl_le W32 k 1 (by decide) (by unfold W32; omega)

end Go.Proofs.YthkamfddbiheoaaGreatDoor
