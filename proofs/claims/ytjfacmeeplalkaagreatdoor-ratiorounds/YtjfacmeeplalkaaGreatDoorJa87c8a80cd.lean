/-
  Texts of mine, joined: what lies beneath the statement.
-/
import Derived.Test.YtjfacmeeplalkaaGreatDoorJ5c14db99ba
import Derived.Test.YtjfacmeeplalkaaGreatDoorJ1f82a974d7
/-
 What nat.Lcm and the document's Gcd answer.
-/
namespace Go.Proofs.YtjfacmeeplalkaaGreatDoor
open Go.RowKit
set_option linter.unusedVariables false

theorem zero_form (w : World) : Rep w (.slice none 0 0) 0 := by
 unfold Rep; rw [nl_zero]; exact Mine.nums (Mine.nil .u64 0 w _)

end Go.Proofs.YtjfacmeeplalkaaGreatDoor
