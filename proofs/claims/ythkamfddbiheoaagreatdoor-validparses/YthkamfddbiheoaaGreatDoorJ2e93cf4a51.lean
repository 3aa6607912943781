/-
  Texts of mine.
-/
import Derived.Test.YthkamfddbiheoaaGreatDoorJ3cf35185d0
import Derived.Test.YthkamfddbiheoaaGreatDoorJ39577e7d21
namespace Go.Proofs.YthkamfddbiheoaaGreatDoor
open Go.RowKit
set_option linter.unusedVariables false

theorem zero_form (w : World) : Rep w (.slice none 0 0) 0 := by
 unfold Rep; rw [nl_zero]; exact Mine.nums (Mine.nil .u64 0 w _)

end Go.Proofs.YthkamfddbiheoaaGreatDoor
