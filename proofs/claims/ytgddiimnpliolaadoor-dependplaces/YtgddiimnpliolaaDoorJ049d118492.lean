/-
  Texts of mine, joined: what lies beneath the statement.
-/
import Derived.Test.YtgddiimnpliolaaDoorJ2a39433548
import Derived.Test.YtgddiimnpliolaaDoorChecked
import Derived.Lib.Strings
import Derived.WalkSmall
namespace Go.Proofs.YtgddiimnpliolaaDoor
open Go.RowKit
set_option linter.unusedVariables false
set_option linter.unusedSimpArgs false
theorem inW_yes {c : Nat} (h1 : 32 < c) (h2 : c ≤ 126) (h3 : ¬ c = 35) : inW c = true := by simp [inW]; omega
theorem inW_low {c : Nat} (h1 : ¬ 32 < c) : inW c = false := by simp [inW]; omega
theorem inW_high {c : Nat} (h2 : ¬ c ≤ 126) : inW c = false := by simp [inW]; omega
theorem inW_hash {c : Nat} (h2 : c = 35) : inW c = false := by simp [inW]; omega
theorem blk_no {c : Nat} (h1 : ¬ c = 32) (h2 : ¬ c = 9) (h3 : ¬ c = 13) : blk c = false := by simp [blk]; omega
end Go.Proofs.YtgddiimnpliolaaDoor
