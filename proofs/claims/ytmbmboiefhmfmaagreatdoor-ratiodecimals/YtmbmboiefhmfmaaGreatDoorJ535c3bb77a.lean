/-
  Texts of mine, joined: what lies beneath the statement.
-/
import Derived.Test.YtmbmboiefhmfmaaGreatDoorJ2e59edf8c7
import Derived.Test.YtmbmboiefhmfmaaGreatDoorJ2874e11277
namespace Go.Proofs.YtmbmboiefhmfmaaGreatDoor
open Go.RowKit
set_option linter.unusedVariables false
theorem zero_form (w : World) : Rep w (.slice none 0 0) 0 := by
 unfold Rep; rw [nl_zero]; exact Mine.nums (Mine.nil .u64 0 w _)
end Go.Proofs.YtmbmboiefhmfmaaGreatDoor
