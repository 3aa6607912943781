/-
  What nat.Pow and nat.PowMod answer, and the document's own Power.
-/
import Derived.Test.YthhabammejkjcaaDoorPower
import Derived.Test.YthhabammejkjcaaDoorLaw
namespace Go.Proofs.YthhabammejkjcaaDoor
open Go.RowKit

theorem nl_of_lt (x M l : Nat) (h : x < M) (hl : nl W32 M ≤ l) : nl W32 x ≤ l :=
  nl_le W32 _ _ (by decide) (Nat.lt_trans h (Nat.lt_of_lt_of_le (lt_pow_nl W32 M (by decide)) (Nat.pow_le_pow_right (by decide) hl)))
theorem nl_mul (x y a b : Nat) (hx : nl W32 x ≤ a) (hy : nl W32 y ≤ b) : nl W32 (x * y) ≤ a + b := by
  refine nl_le W32 _ _ (by decide) ?_
  rw [Nat.pow_add]
  exact Nat.mul_lt_mul_of_lt_of_lt (Nat.lt_of_lt_of_le (lt_pow_nl W32 x (by decide)) (Nat.pow_le_pow_right (by decide) hx)) (Nat.lt_of_lt_of_le (lt_pow_nl W32 y (by decide)) (Nat.pow_le_pow_right (by decide) hy))

theorem mod_step0 (x E i M : Nat) (h : E / 2 ^ i % 2 = 0) : (x ^ (E / 2 ^ (i + 1)) % M) * (x ^ (E / 2 ^ (i + 1)) % M) % M = x ^ (E / 2 ^ i) % M := by
  have hp := half_pow x E i
  rw [h, Nat.pow_zero, Nat.mul_one] at hp
  rw [← Nat.mul_mod, hp]
theorem mod_step1 (x E i M : Nat) (h : E / 2 ^ i % 2 = 1) : ((x ^ (E / 2 ^ (i + 1)) % M) * (x ^ (E / 2 ^ (i + 1)) % M) % M) * (x % M) % M = x ^ (E / 2 ^ i) % M := by
  have hp := half_pow x E i
  rw [h, Nat.pow_one] at hp
  rw [← Nat.mul_mod (x ^ (E / 2 ^ (i + 1))) (x ^ (E / 2 ^ (i + 1))) M, ← Nat.mul_mod _ x M, hp]

theorem nl10_pow (x l n : Nat) (h : x < W32 ^ l) : nl 10000 (x ^ n) ≤ 3 * (l * n + 1) := by
  refine nl_small _ _ ?_
  have h2 : x ^ n ≤ (W32 ^ l) ^ n := Nat.pow_le_pow_left (Nat.le_of_lt h) n
  rw [← Nat.pow_mul] at h2
  have h3 : W32 ^ (l * n) < W32 ^ (l * n + 1) := Nat.pow_lt_pow_right (by decide) (by omega)
  omega

end Go.Proofs.YthhabammejkjcaaDoor
