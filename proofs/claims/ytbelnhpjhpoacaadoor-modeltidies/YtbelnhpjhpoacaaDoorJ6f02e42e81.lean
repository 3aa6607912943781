/-
  Texts of mine.
-/
import Derived.Test.YtbelnhpjhpoacaaDoorJ85dd53da3a
import Derived.Test.YtbelnhpjhpoacaaDoorJ2652bde399
namespace Go.Proofs.YtbelnhpjhpoacaaDoor
open Go.RowKit
set_option linter.unusedVariables false

theorem gcd_rep (u v : Value) (x y : Nat) (w : World) (hu : Rep w u x) (hv : Rep w v y) (hx : nl W32 x ≤ 900000) (hy : nl W32 y ≤ 900000) (ht : Tab w) :
    Calls Tryd.prog 22 #[u, v] w fun e w' => ∃ r, e = .returned r ∧ Rep w' r (Nat.gcd x y) ∧ Below w.heap.size w w' := by
  have h := gcd_any u v _ _ _ _ w hu hv (u64_dg x _) (u64_dg y _) (by rw [num_nl]; exact hx) (by rw [num_nl]; exact hy) ht
  rw [num_nl, num_nl] at h; exact h

theorem zero_form (w : World) : Rep w (.slice none 0 0) 0 := by
  unfold Rep; rw [nl_zero]; exact Mine.nums (Mine.nil .u64 0 w _)

/-- The least number that both divide, as Lcm reckons it. -/
def lcmOf (x y : Nat) : Nat := x / Nat.gcd x y * y

end Go.Proofs.YtbelnhpjhpoacaaDoor
