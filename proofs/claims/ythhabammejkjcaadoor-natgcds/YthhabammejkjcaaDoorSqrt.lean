/-
  What math/bits.Len and nat.Sqrt answer.
-/
import Derived.Test.YthhabammejkjcaaDoorNewton
import Derived.Test.YthhabammejkjcaaDoorLenBit
import Derived.Test.YthhabammejkjcaaDoorDivAll
namespace Go.Proofs.YthhabammejkjcaaDoor
open Go.RowKit

set_option maxRecDepth 20000 in
set_option maxHeartbeats 400000 in
theorem blen_any (x : Int) (w : World) (h0 : 0 ≤ x) (h1 : x ≤ 4294967295) :
    Calls Tryd.prog 91 #[.int .u64 x] w fun e w' => e = .returned (.int .i64 (Lib.bitLen x.toNat)) ∧ w' = w := by
  go_enter Tryd.func91, Tryd.ntmps91
  go_wp2_with (go_at_call 92; refine (len64_any x _ h0 h1).mono ?_; rintro e w2 ⟨rfl, hw2⟩; subst hw2)
  go_ret
  exact ⟨rfl, rfl⟩

/-- A root's greatness. -/
theorem root_nl (x A k : Nat) (hx : x < W32 ^ 60) (h : (A - 1) * (A - 1) < x / 4 ^ k) : nl W32 A ≤ 31 := by
  refine nl_le W32 A 31 (by decide) ?_
  by_cases g : A < W32 ^ 31
  · exact g
  · exfalso
    have h1 : W32 ^ 30 ≤ A - 1 := by
      have e : W32 ^ 31 = W32 ^ 30 * W32 := Nat.pow_succ _ _
      have e2 : W32 ^ 30 * 2 ≤ W32 ^ 30 * W32 := Nat.mul_le_mul_left _ (by decide)
      have e3 : 0 < W32 ^ 30 := Nat.pow_pos (by decide)
      omega
    have h2 : W32 ^ 30 * W32 ^ 30 ≤ (A - 1) * (A - 1) := Nat.mul_le_mul h1 h1
    rw [← Nat.pow_add] at h2
    have h3 := Nat.div_le_self x (4 ^ k)
    have : W32 ^ (30 + 30) = W32 ^ 60 := rfl
    omega

/-- Where the root begins. -/
theorem root_start (x L c : Nat) (h1 : 2 ^ (L - 1) ≤ x) (h2 : x < 2 ^ L) (hL : 0 < L) (hc : c = (L - 1) / 2) : 4 ^ c ≤ x ∧ 0 < x / 4 ^ c ∧ x / 4 ^ c < 4 := by
  have e4 : (4 : Nat) ^ c = 2 ^ (2 * c) := by rw [Nat.pow_mul]
  have a1 : 4 ^ c ≤ x := by rw [e4]; exact Nat.le_trans (Nat.pow_le_pow_right (by omega) (by omega)) h1
  have a2 : x < 4 ^ c * 4 := by
    rw [e4, show 2 ^ (2 * c) * 4 = 2 ^ (2 * c + 2) by rw [Nat.pow_add]]
    exact Nat.lt_of_lt_of_le h2 (Nat.pow_le_pow_right (by omega) (by omega))
  exact ⟨a1, Nat.div_pos a1 (Nat.pow_pos (by omega)), Nat.div_lt_of_lt_mul a2⟩

/-- Of a number's bits one more. -/
theorem next_bit (c i : Nat) (h : 2 ^ i ≤ c) : c / 2 ^ (i + 1) < c / 2 ^ i ∧ c / 2 ^ i ≤ 2 * (c / 2 ^ (i + 1)) + 1 ∧ c / 2 ^ i ≤ c := by
  have h1 : 1 ≤ c / 2 ^ i := (Nat.le_div_iff_mul_le (Nat.two_pow_pos i)).2 (by omega)
  have e : c / 2 ^ (i + 1) = c / 2 ^ i / 2 := by rw [Nat.pow_succ, Nat.div_div_eq_div_mul]
  have h2 := Nat.div_le_self c (2 ^ i)
  rw [e]
  generalize c / 2 ^ i = d at *
  omega

end Go.Proofs.YthhabammejkjcaaDoor
