/-
  Plain facts on Knuth's division: a limb of a quotient guessed from the highest limbs is right, or 1 too great.
-/
import Derived.Test.YthhabammejkjcaaDoorMulNum
namespace Go.Proofs.YthhabammejkjcaaDoor
open Go.RowKit

/-- What is known: the divisor's two highest limbs h, g and the rest's three highest, T (two of them) and e. -/
structure Kn (h g T e P D R : Int) : Prop where
  h0 : 2147483648 ≤ h
  h1 : h < 4294967296
  g0 : 0 ≤ g
  g1 : g < 4294967296
  T0 : 0 ≤ T
  e0 : 0 ≤ e
  e1 : e < 4294967296
  P0 : 1 ≤ P
  D0 : (h * 4294967296 + g) * P ≤ D
  D1 : D < (h * 4294967296 + g + 1) * P
  R0 : (T * 4294967296 + e) * P ≤ R
  R1 : R < (T * 4294967296 + e + 1) * P
  fit : R < D * 4294967296

theorem mul_mono {a b c : Int} (h : a ≤ b) (hc : 0 ≤ c) : a * c ≤ b * c := Int.mul_le_mul_of_nonneg_right h hc

theorem Kn.Dpos {h g T e P D R : Int} (k : Kn h g T e P D R) : 0 < D := by
  have h1 := k.D0
  have h2 : 1 * 1 ≤ (h * 4294967296 + g) * P := Int.mul_le_mul (by have := k.h0; have := k.g0; omega) k.P0 (by omega) (by have := k.h0; have := k.g0; omega)
  omega

theorem Kn.start {h g T e P D R : Int} (k : Kn h g T e P D R) : R < (T / h + 1) * D := by
  have hp : 0 < h := by have := k.h0; omega
  have e1 := Int.lt_ediv_add_one_mul_self T hp
  have hq : 0 ≤ T / h := Int.ediv_nonneg k.T0 (by omega)
  have a1 : (T * 4294967296 + e + 1) * P ≤ ((T / h + 1) * h * 4294967296) * P := mul_mono (by have := k.e1; omega) (by have := k.P0; omega)
  have a2 : (T / h + 1) * ((h * 4294967296 + g) * P) ≤ (T / h + 1) * D := Int.mul_le_mul_of_nonneg_left k.D0 (by omega)
  have a3 : ((T / h + 1) * h * 4294967296) * P ≤ (T / h + 1) * ((h * 4294967296 + g) * P) := by
    rw [Int.mul_assoc (T / h + 1) h, Int.mul_assoc (T / h + 1)]
    exact Int.mul_le_mul_of_nonneg_left (mul_mono (by have := k.g0; omega) (by have := k.P0; omega)) (by omega)
  have := k.R1
  omega

theorem Kn.big {h g T e P D R q : Int} (k : Kn h g T e P D R) (hq : 4294967296 ≤ q) : R < q * D := by
  have := k.fit
  have a := mul_mono hq (Int.le_of_lt k.Dpos)
  rw [Int.mul_comm D] at this
  omega

theorem Kn.test {h g T e P D R q r : Int} (k : Kn h g T e P D R) (hq : 0 ≤ q) (hr : q * h + r = T) (ht : r * 4294967296 + e < q * g) : R < q * D := by
  have a1 : q * ((h * 4294967296 + g) * P) ≤ q * D := Int.mul_le_mul_of_nonneg_left k.D0 hq
  have a2 : q * ((h * 4294967296 + g) * P) = (q * h * 4294967296 + q * g) * P := by
    rw [← Int.mul_assoc, Int.mul_add, ← Int.mul_assoc]
  have a3 : (T * 4294967296 + e + 1) * P ≤ (q * h * 4294967296 + q * g) * P := mul_mono (by omega) (by have := k.P0; omega)
  have := k.R1
  omega

theorem Kn.done {h g T e P D R q r : Int} (k : Kn h g T e P D R) (hq : 0 ≤ q) (hq1 : q < 4294967296) (hr : q * h + r = T) (ht : q * g ≤ r * 4294967296 + e) : q * D < R + D := by
  have b1 : q * D ≤ q * ((h * 4294967296 + g + 1) * P) := Int.mul_le_mul_of_nonneg_left (Int.le_of_lt k.D1) hq
  have b2 : q * ((h * 4294967296 + g + 1) * P) = (q * h * 4294967296 + q * g) * P + q * P := by
    rw [← Int.mul_assoc, Int.mul_add, Int.mul_add, ← Int.mul_assoc, Int.mul_one, Int.add_mul]
  have b3 : (q * h * 4294967296 + q * g) * P ≤ (T * 4294967296 + e) * P := mul_mono (by omega) (by have := k.P0; omega)
  have b4 : q * P < (h * 4294967296 + g) * P := Int.mul_lt_mul_of_pos_right (by have := k.h0; have := k.g0; omega) (by have := k.P0; omega)
  have := k.R0
  have := k.D0
  omega

/-- The first guess is at most two above what a limb holds. -/
theorem Kn.top {h g T e P D R rn rm : Int} (k : Kn h g T e P D R) (hT : T = rn * 4294967296 + rm) (h0 : 0 ≤ rm) (h1 : rm < 4294967296) : rn ≤ h := by
  by_cases q : rn ≤ h
  · exact q
  · exfalso
    have a1 : ((h + 1) * 4294967296 * 4294967296) * P ≤ (T * 4294967296 + e) * P := mul_mono (by have := k.e0; omega) (by have := k.P0; omega)
    have a2 : D * 4294967296 ≤ (h * 4294967296 + g + 1) * P * 4294967296 := mul_mono (Int.le_of_lt k.D1) (by omega)
    have a3 : (h * 4294967296 + g + 1) * P * 4294967296 ≤ ((h + 1) * 4294967296 * 4294967296) * P := by
      rw [Int.mul_assoc, Int.mul_comm P, ← Int.mul_assoc]
      exact mul_mono (by have := k.g1; omega) (by have := k.P0; omega)
    have := k.fit
    have := k.R0
    omega

/-- From rows of limbs. -/
theorem kn_rows (m : Nat) (fb fr : Nat → Int) (hb : ∀ i, i < m + 2 → 0 ≤ fb i ∧ fb i < (W32 : Int)) (hr : ∀ i, i < m + 3 → 0 ≤ fr i ∧ fr i < (W32 : Int)) (htop : 2147483648 ≤ fb (m + 1))
    (hfit : val W32 fr (m + 3) < val W32 fb (m + 2) * 4294967296) :
    Kn (fb (m + 1)) (fb m) (fr (m + 2) * 4294967296 + fr (m + 1)) (fr m) ((W32 : Int) ^ m) (val W32 fb (m + 2)) (val W32 fr (m + 3)) := by
  have c : (W32 : Int) = 4294967296 := rfl
  have hp := powB_pos W32 (by decide) m
  have v1 := val_bounds W32 fb m (fun i hi => hb i (by omega))
  have v2 := val_bounds W32 fr m (fun i hi => hr i (by omega))
  have b0 := hb m (by omega)
  have b1 := hb (m + 1) (by omega)
  have r0 := hr m (by omega)
  have r1 := hr (m + 1) (by omega)
  have r2 := hr (m + 2) (by omega)
  have eD : val W32 fb (m + 2) = val W32 fb m + (fb (m + 1) * 4294967296 + fb m) * (W32 : Int) ^ m := by
    simp only [val]
    rw [Int.pow_succ, Int.mul_comm ((W32 : Int) ^ m), ← Int.mul_assoc, Int.add_mul, c]; omega
  have eR : val W32 fr (m + 3) = val W32 fr m + ((fr (m + 2) * 4294967296 + fr (m + 1)) * 4294967296 + fr m) * (W32 : Int) ^ m := by
    simp only [val]
    have e1 : fr (m + 1) * (W32 : Int) ^ (m + 1) = fr (m + 1) * 4294967296 * (W32 : Int) ^ m := by rw [Int.pow_succ, Int.mul_comm ((W32 : Int) ^ m), ← Int.mul_assoc, c]
    have e2 : fr (m + 2) * (W32 : Int) ^ (m + 2) = fr (m + 2) * 4294967296 * 4294967296 * (W32 : Int) ^ m := by
      rw [Int.pow_succ, Int.pow_succ, Int.mul_comm ((W32 : Int) ^ m), Int.mul_comm _ (W32 : Int), ← Int.mul_assoc, ← Int.mul_assoc, c]
    rw [e1, e2, Int.add_mul, Int.add_mul, Int.add_mul]; omega
  rw [c] at b0 b1 r0 r1 r2
  generalize (W32 : Int) ^ m = P at *
  refine ⟨htop, b1.2, b0.1, b0.2, by omega, r0.1, r0.2, by omega, by omega, ?_, by omega, ?_, hfit⟩
  · rw [eD, Int.add_mul _ 1, Int.one_mul]; omega
  · rw [eR, Int.add_mul _ 1, Int.one_mul]; omega

end Go.Proofs.YthhabammejkjcaaDoor
