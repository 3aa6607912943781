/-
  Texts of mine.
-/
import Derived.Test.YtbelnhpjhpoacaaDoorJ27cbe186c9
import Derived.Test.YtbelnhpjhpoacaaDoorJ1522c3cdbc
namespace Go.Proofs.YtbelnhpjhpoacaaDoor
open Go.RowKit

theorem minus_step (B : Nat) (h f g : Nat → Int) (i : Nat) (c t : Int) (ht : t = f i - g i - c) (hv : val B h i - c * (B : Int) ^ i = val B f i - val B g i) :
    val B (put h i (t % B)) (i + 1) - (0 - t / B) * (B : Int) ^ (i + 1) = val B f (i + 1) - val B g (i + 1) := by
  have e1 : (B : Int) ^ (i + 1) = (B : Int) ^ i * B := Int.pow_succ _ _
  simp only [val]
  rw [put_same, val_congr i (fun j hj => put_other h i j _ (by omega)), e1, Int.zero_sub, Int.neg_mul, Int.sub_neg]
  have e := carry_step (B : Int) t 0 ((B : Int) ^ i) (val B h i)
  rw [Int.sub_zero, Int.sub_zero] at e
  rw [e, ht, Int.sub_mul, Int.sub_mul]; omega

end Go.Proofs.YtbelnhpjhpoacaaDoor
