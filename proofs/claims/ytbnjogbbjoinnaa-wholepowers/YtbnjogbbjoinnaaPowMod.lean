/-
  What nat.Pow and nat.PowMod answer, and the document's own Power.
-/
import Derived.Test.YtbnjogbbjoinnaaPower
import Derived.Test.YtbnjogbbjoinnaaLaw
namespace Go.Proofs.Ytbnjogbbjoinnaa
open Go.RowKit

set_option maxRecDepth 20000 in
set_option maxHeartbeats 400000 in
theorem pow_range (u : Value) (k : Int) (w : World) (hk : k < 0 ∨ 4096 < k) :
    Calls Try.prog 56 #[u, .int .i64 k] w fun e w' => e = .returned (.tuple #[.slice none 0 0, .int .i64 8]) ∧ w' = w := by
  by_cases h0 : k < 0
  · go_enter Try.func56, Try.ntmps56
    go_wp2
    go_ret2
    exact ⟨rfl, rfl⟩
  · have h1 : 4096 < k := by omega
    go_enter Try.func56, Try.ntmps56
    go_wp2
    go_ret2
    exact ⟨rfl, rfl⟩

set_option maxRecDepth 20000 in
set_option maxHeartbeats 400000 in
theorem pow_ok (u : Value) (n k : Nat) (f : Nat → Int) (w : World) (hu : Nums .u64 w u n f) (hf : U64 n f) (hn : n ≤ 40) (hk : k ≤ 4096) :
    Calls Try.prog 56 #[u, .int .i64 (k : Int)] w fun e w' => ∃ r, e = .returned (.tuple #[r, .int .i64 0]) ∧ RepM w.heap.size w' r (num f n ^ k) ∧ Below w.heap.size w w' := by
  have hx := nl_le W32 (num f n) n (by decide) (num_lt f n)
  have h0 : ¬ (k : Int) < 0 := by omega
  have h1 : ¬ (4096 : Int) < (k : Int) := by omega
  go_enter Try.func56, Try.ntmps56
  go_wp2_with fail
  refine (plain_any _ _ _ _ hu hf).mono ?_
  rintro e w1 ⟨r1, rfl, hr1, hb1⟩
  go_wp2_with fail
  refine (power_any _ _ k _ hr1 hk (by omega)).mono ?_
  rintro e w2 ⟨r2, rfl, hr2, hb2⟩
  have s1 := hb1.size
  go_wp2
  go_ret2
  exact ⟨_, rfl, hr2.le s1, hb1.trans (hb2.mono s1)⟩

theorem nl_of_lt (x M l : Nat) (h : x < M) (hl : nl W32 M ≤ l) : nl W32 x ≤ l :=
  nl_le W32 _ _ (by decide) (Nat.lt_trans h (Nat.lt_of_lt_of_le (lt_pow_nl W32 M (by decide)) (Nat.pow_le_pow_right (by decide) hl)))
theorem nl_mul (x y a b : Nat) (hx : nl W32 x ≤ a) (hy : nl W32 y ≤ b) : nl W32 (x * y) ≤ a + b := by
  refine nl_le W32 _ _ (by decide) ?_
  rw [Nat.pow_add]
  exact Nat.mul_lt_mul_of_lt_of_lt (Nat.lt_of_lt_of_le (lt_pow_nl W32 x (by decide)) (Nat.pow_le_pow_right (by decide) hx)) (Nat.lt_of_lt_of_le (lt_pow_nl W32 y (by decide)) (Nat.pow_le_pow_right (by decide) hy))

theorem mod_step0 (x E i M : Nat) (h : E / 2 ^ i % 2 = 0) : (x ^ (E / 2 ^ (i + 1)) % M) * (x ^ (E / 2 ^ (i + 1)) % M) % M = x ^ (E / 2 ^ i) % M := by
  have hp := half_pow x E i
  rw [h, Nat.pow_zero, Nat.mul_one] at hp
  rw [← Nat.mul_mod, hp]
theorem mod_step1 (x E i M : Nat) (h : E / 2 ^ i % 2 = 1) : ((x ^ (E / 2 ^ (i + 1)) % M) * (x ^ (E / 2 ^ (i + 1)) % M) % M) * (x % M) % M = x ^ (E / 2 ^ i) % M := by
  have hp := half_pow x E i
  rw [h, Nat.pow_one] at hp
  rw [← Nat.mul_mod (x ^ (E / 2 ^ (i + 1))) (x ^ (E / 2 ^ (i + 1))) M, ← Nat.mul_mod _ x M, hp]

theorem nl10_pow (x l n : Nat) (h : x < W32 ^ l) : nl 10000 (x ^ n) ≤ 3 * (l * n + 1) := by
  refine nl_small _ _ ?_
  have h2 : x ^ n ≤ (W32 ^ l) ^ n := Nat.pow_le_pow_left (Nat.le_of_lt h) n
  rw [← Nat.pow_mul] at h2
  have h3 : W32 ^ (l * n) < W32 ^ (l * n + 1) := Nat.pow_lt_pow_right (by decide) (by omega)
  omega

end Go.Proofs.Ytbnjogbbjoinnaa
