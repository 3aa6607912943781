/-
  Texts of mine, joined: what lies beneath the statement.
-/
import Derived.Test.YtnbocjbfieklhaaGreatDoorJd33586aa92
import Derived.Test.YtnbocjbfieklhaaGreatDoorJ114467d09d
import Derived.Deep.RegionHeld3
namespace Go.Proofs.YtnbocjbfieklhaaGreatDoor
open Go.RowKit
def RepD (w : World) (v : Value) (m : Nat) : Prop := Nums .i64 w v (nl 10000 m) (dg 10000 m)





theorem cmpI_zero (a b : Int) : (cmpI a b == 0) = decide (a = b) := by
 rcases (show a < b ∨ a = b ∨ b < a by omega) with h | h | h
 ·rw [cmpI_lt h]; simp; omega
 ·rw [cmpI_eq h]; simp [h]
 ·rw [cmpI_gt h]; simp; omega

end Go.Proofs.YtnbocjbfieklhaaGreatDoor
