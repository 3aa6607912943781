/-
  Texts of mine.
-/
import Derived.Test.YthkamfddbiheoaaGreatDoorJ40a0006782
import Derived.Test.YthkamfddbiheoaaGreatDoorJ659a77dd12
import Derived.Deep.RegionHeld3
namespace Go.Proofs.YthkamfddbiheoaaGreatDoor
open Go.RowKit

/-- The value v is the number m, by digits to the base 10000. -/
def RepD (w : World) (v : Value) (m : Nat) : Prop := Nums .i64 w v (nl 10000 m) (dg 10000 m)
theorem info_int : (Tryz.prog.info? 3).map (fun i => (i.zero, i.size, i.bytes)) = some (some (.int .i64 0), 1, 8) := by kernel_rfl





theorem cmpI_zero (a b : Int) : (cmpI a b == 0) = decide (a = b) := by
 rcases (show a < b ∨ a = b ∨ b < a by omega) with h | h | h
 ·rw [cmpI_lt h]; simp; omega
 ·rw [cmpI_eq h]; simp [h]
 ·rw [cmpI_gt h]; simp; omega

end Go.Proofs.YthkamfddbiheoaaGreatDoor
