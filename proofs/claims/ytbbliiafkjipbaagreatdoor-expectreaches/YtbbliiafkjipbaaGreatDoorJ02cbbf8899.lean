/-
  Texts of mine, joined: what lies beneath the statement.
-/
import Derived.Test.YtbbliiafkjipbaaGreatDoorJfb193377e3
import Derived.Test.YtbbliiafkjipbaaGreatDoorJ2039ae9735
import Derived.Deep.RegionHeld3
namespace Go.Proofs.YtbbliiafkjipbaaGreatDoor
open Go.RowKit
def RepD (w : World) (v : Value) (m : Nat) : Prop := Nums .i64 w v (nl 10000 m) (dg 10000 m)
theorem info_int : (Tryz.prog.info? 3).map (fun i => (i.zero,i.size,i.bytes)) = some (some (.int .i64 0),1,8) := by kernel_rfl





theorem cmpI_zero (a b : Int) : (cmpI a b == 0) = decide (a = b) := by
 rcases (show a < b ∨ a = b ∨ b < a by omega) with h | h | h
 ·rw [cmpI_lt h]; simp; omega
 ·rw [cmpI_eq h]; simp [h]
 ·rw [cmpI_gt h]; simp; omega

end Go.Proofs.YtbbliiafkjipbaaGreatDoor
