/-
  Texts of mine.
-/
import Derived.Test.YtbbliiafkjipbaaGreatDoorJ170781294d
import Derived.Test.YtbbliiafkjipbaaGreatDoorJa7a6dc5483
namespace Go.Proofs.YtbbliiafkjipbaaGreatDoor
open Go.RowKit
set_option linter.unusedVariables false
theorem rightB_rep (m : Nat) : rightB (dg W32 m) (nl W32 m) = true := by
 simp only [rightB,decide_eq_true_eq]
 exact ⟨fun i _ => by have := dg_bounds W32 m i (by decide); unfold W32 at this ⊢; omega,fun h0 => nl_top W32 m h0⟩
theorem refRight_rep {w : World} {v : Value} {m : Nat} (h : Rep w v m) :
  Calls Tryz.prog 89 #[v] w fun e w' => e = .returned (.bool true) ∧ w' = w := by
 have g := refRight_any v _ _ w h
 rw [rightB_rep] at g; exact g
theorem nl10_le (x n : Nat) (h : nl W32 x ≤ n) : nl 10000 x ≤ 3 * n := nl_small x n (Nat.lt_of_lt_of_le (lt_pow_nl W32 x (by decide)) (Nat.pow_le_pow_right (by decide) h))
theorem nl_small7 (k : Nat) (h : k < 4294967296) : nl W32 k ≤ 1 := nl_le W32 k 1 (by decide) (by unfold W32; omega)
end Go.Proofs.YtbbliiafkjipbaaGreatDoor
