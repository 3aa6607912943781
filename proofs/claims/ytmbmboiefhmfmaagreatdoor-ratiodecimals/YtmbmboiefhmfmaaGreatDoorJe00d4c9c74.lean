/-
  Texts of mine, joined: what lies beneath the statement.
-/
import Derived.Test.YtmbmboiefhmfmaaGreatDoorJ1a1701f700
import Derived.Test.YtmbmboiefhmfmaaGreatDoorJc7c9e18681
import Derived.Test.YtmbmboiefhmfmaaGreatDoorJ6f3638ca5a
namespace Go.Proofs.YtmbmboiefhmfmaaGreatDoor
open Go.RowKit
set_option linter.unusedVariables false
theorem nl10_le (x n : Nat) (h : nl W32 x ≤ n) : nl 10000 x ≤ 3 * n := nl_small x n (Nat.lt_of_lt_of_le (lt_pow_nl W32 x (by decide)) (Nat.pow_le_pow_right (by decide) h))
theorem nl_small7 (k : Nat) (h : k < 4294967296) : nl W32 k ≤ 1 := nl_le W32 k 1 (by decide) (by unfold W32; omega)
end Go.Proofs.YtmbmboiefhmfmaaGreatDoor

namespace Go.Proofs.YtmbmboiefhmfmaaGreatDoor
open Go.RowKit
theorem nl10_pow (x l n : Nat) (h : x < W32 ^ l) : nl 10000 (x ^ n) ≤ 3 * (l * n + 1) := by
 refine nl_small _ _ ?_
 have h2 : x ^ n ≤ (W32 ^ l) ^ n := Nat.pow_le_pow_left (Nat.le_of_lt h) n
 rw [← Nat.pow_mul] at h2
 have h3 : W32 ^ (l * n) < W32 ^ (l * n + 1) := Nat.pow_lt_pow_right (by decide) (by omega)
 omega
end Go.Proofs.YtmbmboiefhmfmaaGreatDoor
