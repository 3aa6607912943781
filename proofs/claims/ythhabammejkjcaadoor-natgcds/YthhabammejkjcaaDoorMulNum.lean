/-
  Plain facts for sums and products digit by digit: what one digit's turn does to the worth of a row, and what a carry hands on.
-/
import Derived.Test.YthhabammejkjcaaDoorMem
namespace Go.Proofs.YthhabammejkjcaaDoor
open Go.RowKit

theorem val_put (B : Nat) (f : Nat → Int) (n j : Nat) (v : Int) (hj : j < n) : val B (put f j v) n = val B f n + (v - f j) * (B : Int) ^ j := by
  induction n with
  | zero => omega
  | succ n ih =>
    simp only [val]
    by_cases e : j = n
    · subst e
      rw [put_same, val_congr j (fun i hi => put_other f j i v (by omega)), Int.sub_mul]; omega
    · rw [put_other f j n v (by omega), ih (by omega)]; omega

theorem carry_step (W t h p V : Int) : V + (t % W - h) * p + t / W * (p * W) = V + (t - h) * p := by
  have e := Int.emod_add_mul_ediv t W
  have e2 : t / W * (p * W) = W * (t / W) * p := by rw [Int.mul_comm p W, ← Int.mul_assoc, Int.mul_comm (t / W) W]
  rw [e2, Int.add_assoc, ← Int.add_mul]
  have : t % W - h + W * (t / W) = t - h := by omega
  rw [this]

/-- One digit of a row of a product. -/
theorem mul_step (B : Nat) (h h0 fa : Nat → Int) (N i j : Nat) (c x t : Int) (hj : i + j < N) (ht : t = c + (x * fa j + h (i + j)))
    (hv : val B h N + c * (B : Int) ^ (i + j) = val B h0 N + x * val B fa j * (B : Int) ^ i) :
    val B (put h (i + j) (t % B)) N + t / B * (B : Int) ^ (i + (j + 1)) = val B h0 N + x * val B fa (j + 1) * (B : Int) ^ i := by
  have e1 : (B : Int) ^ (i + (j + 1)) = (B : Int) ^ (i + j) * B := by rw [← Nat.add_assoc, Int.pow_succ]
  rw [val_put B h N (i + j) _ hj, e1, carry_step, ht]
  have e2 : c + (x * fa j + h (i + j)) - h (i + j) = c + x * fa j := by omega
  simp only [val]
  rw [e2, Int.add_mul, ← Int.add_assoc, hv, Int.mul_add, Int.add_mul, Int.add_assoc]
  have e3 : x * fa j * (B : Int) ^ (i + j) = x * (fa j * (B : Int) ^ j) * (B : Int) ^ i := by
    rw [Nat.add_comm i j, Int.pow_add, ← Int.mul_assoc, ← Int.mul_assoc]
  rw [e3]

theorem mul_row_end (B : Nat) (h h0 fa fb : Nat → Int) (N i la : Nat) (c : Int) (hj : i + la < N) (hz : h (i + la) = 0)
    (hv : val B h N + c * (B : Int) ^ (i + la) = val B h0 N + fb i * val B fa la * (B : Int) ^ i) (h0v : val B h0 N = val B fa la * val B fb i) :
    val B (put h (i + la) c) N = val B fa la * val B fb (i + 1) := by
  rw [val_put B h N (i + la) c hj, hz, Int.sub_zero, hv, h0v]
  simp only [val]
  rw [Int.mul_add, Int.mul_comm (fb i) (val B fa la), Int.mul_assoc]

theorem mul_le_mul32 (x y : Int) (h0 : 0 ≤ x) (h1 : x < 4294967296) (h2 : 0 ≤ y) (h3 : y < 4294967296) : 0 ≤ x * y ∧ x * y ≤ 18446744065119617025 := by
  refine ⟨Int.mul_nonneg h0 h2, ?_⟩
  have a := Int.mul_le_mul_of_nonneg_right (show x ≤ 4294967295 by omega) h2
  omega

theorem put_bounds {B : Int} {f : Nat → Int} {n j : Nat} {v : Int} (h : ∀ i, i < n → 0 ≤ f i ∧ f i < B) (h0 : 0 ≤ v) (h1 : v < B) : ∀ i, i < n → 0 ≤ put f j v i ∧ put f j v i < B := by
  intro i hi
  unfold put; split
  · exact ⟨h0, h1⟩
  · exact h i hi

end Go.Proofs.YthhabammejkjcaaDoor
