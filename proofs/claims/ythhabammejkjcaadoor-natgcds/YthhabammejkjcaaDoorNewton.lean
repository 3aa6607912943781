/-
  Newton's way to a root, plain: no program in sight.
-/
import Derived.Test.YthhabammejkjcaaDoorNum
namespace Go.Proofs.YthhabammejkjcaaDoor

theorem sq_le {a b : Int} (h0 : 0 ≤ a) (h : a ≤ b) : a * a ≤ b * b := Int.mul_le_mul h h h0 (by omega)

/-- One step, of half the old root's greatness A and of a number M that lies near. -/
theorem newton (M A P q : Int) (hP : 0 < P) (hA : P * P ≤ A) (hq0 : 0 ≤ q) (hq1 : 4 * A * q ≤ M) (hq2 : M < 4 * A * (q + 1)) (hl : 4 * ((A - P) * (A - P)) < M) (hu : M < 4 * ((A + P) * (A + P))) :
    (A + q - 1) * (A + q - 1) < M ∧ M < (A + q + 1) * (A + q + 1) := by
  have hA0 : 0 < A := Int.lt_of_lt_of_le (Int.mul_pos hP hP) hA
  constructor
  · by_cases hc : (A + q - 1) * (A + q - 1) < M
    · exact hc
    · exfalso
      have hc' : M ≤ (A + q - 1) * (A + q - 1) := by omega
      by_cases h1 : A + q - 1 ≤ 2 * A - 2 * P
      · have h2 := sq_le (show 0 ≤ A + q - 1 by omega) h1
        have e : (2 * A - 2 * P) * (2 * A - 2 * P) = 4 * ((A - P) * (A - P)) := by
          rw [show 2 * A - 2 * P = 2 * (A - P) by omega, Int.mul_assoc, Int.mul_left_comm (A - P), ← Int.mul_assoc]
          generalize (A - P) * (A - P) = t; omega
        omega
      · by_cases h2 : 2 * A + 2 * P ≤ A + q - 1
        · have h3 : A * (A + 2 * P + 1) ≤ A * q := Int.mul_le_mul_of_nonneg_left (by omega) (by omega)
          have e1 : (A + P) * (A + P) = A * A + 2 * (A * P) + P * P := by
            rw [Int.add_mul, Int.mul_add, Int.mul_add, Int.mul_comm P A]; omega
          have e2 : A * (A + 2 * P + 1) = A * A + 2 * (A * P) + A := by
            rw [Int.mul_add, Int.mul_add, Int.mul_one, Int.mul_left_comm]
          have e3 : 4 * A * q = 4 * (A * q) := Int.mul_assoc _ _ _
          omega
        · -- |x - 2 A| < 2 P
          have ht : -(2 * P) < A + q - 1 - 2 * A ∧ A + q - 1 - 2 * A < 2 * P := by omega
          generalize hz : A + q - 1 - 2 * A = z at *
          have hx : A + q - 1 = z + 2 * A := by omega
          have hqz : q = z + A + 1 := by omega
          rw [hx] at hc'
          have e1 : (z + 2 * A) * (z + 2 * A) = z * z + 4 * (A * z) + 4 * (A * A) := by
            rw [Int.add_mul, Int.mul_add, Int.mul_add, Int.mul_left_comm z 2 A, Int.mul_comm z A, Int.mul_assoc 2 A z, Int.mul_assoc 2 A (2 * A), Int.mul_left_comm A 2 A]; omega
          have e2 : 4 * A * q = 4 * (A * z) + 4 * (A * A) + 4 * A := by
            rw [hqz, Int.mul_assoc, show A * (z + A + 1) = A * z + A * A + A by rw [Int.mul_add, Int.mul_add, Int.mul_one]]; omega
          have h4 : 4 * A ≤ z * z := by omega
          have h5 : z * z < 4 * (P * P) := by
            have hzn : z * z = z.natAbs * z.natAbs := (Int.natAbs_mul_self' z).symm
            have h6 := sq_le (a := (z.natAbs : Int)) (b := 2 * P - 1) (by omega) (by omega)
            have e3 : (2 * P - 1) * (2 * P - 1) = 4 * (P * P) - 4 * P + 1 := by
              rw [Int.sub_mul, Int.mul_sub, Int.mul_sub, Int.mul_assoc, Int.mul_left_comm P 2 P]; omega
            omega
          omega
  · have e : (A + q + 1) * (A + q + 1) = (A - (q + 1)) * (A - (q + 1)) + 4 * A * (q + 1) := by
      generalize hz : q + 1 = z
      rw [show A + q + 1 = A + z by omega, Int.add_mul, Int.mul_add, Int.mul_add, Int.sub_mul, Int.mul_sub, Int.mul_sub, Int.mul_comm z A, Int.mul_assoc 4 A z]; omega
    have h1 : 0 ≤ (A - (q + 1)) * (A - (q + 1)) := by
      rw [← Int.natAbs_mul_self' (A - (q + 1))]
      exact Int.mul_nonneg (by omega) (by omega)
    omega

/-- One step of the root of n's highest bits: from e to d of c bits, a the root so far. -/
theorem newton_step (n c d e a : Nat) (hn : 4 ^ c ≤ n) (hed : e < d) (hd : d ≤ 2 * e + 1) (hdc : d ≤ c) (ha0 : 0 < a)
    (hl : (a - 1) * (a - 1) < n / 4 ^ (c - e)) (hu : n / 4 ^ (c - e) < (a + 1) * (a + 1)) :
    0 < a * 2 ^ (d - e - 1) + n / 2 ^ (2 * c - e - d + 1) / a ∧
    (a * 2 ^ (d - e - 1) + n / 2 ^ (2 * c - e - d + 1) / a - 1) * (a * 2 ^ (d - e - 1) + n / 2 ^ (2 * c - e - d + 1) / a - 1) < n / 4 ^ (c - d) ∧
    n / 4 ^ (c - d) < (a * 2 ^ (d - e - 1) + n / 2 ^ (2 * c - e - d + 1) / a + 1) * (a * 2 ^ (d - e - 1) + n / 2 ^ (2 * c - e - d + 1) / a + 1) := by
  have hP0 : 0 < 2 ^ (d - e - 1) := Nat.two_pow_pos _
  have e4 : ∀ k, (4 : Nat) ^ k = 2 ^ (2 * k) := fun k => by rw [Nat.pow_mul]
  -- the numbers at hand
  have q1 : n / 4 ^ (c - e) = n / 4 ^ (c - d) / (4 * (2 ^ (d - e - 1) * 2 ^ (d - e - 1))) := by
    rw [Nat.div_div_eq_div_mul]
    congr 1
    rw [e4, e4, ← Nat.pow_add, show (4 : Nat) = 2 ^ 2 from rfl, ← Nat.pow_add, ← Nat.pow_add]
    congr 1; omega
  have q2 : n / 2 ^ (2 * c - e - d + 1) / a = n / 4 ^ (c - d) / (4 * (a * 2 ^ (d - e - 1))) := by
    rw [Nat.div_div_eq_div_mul, Nat.div_div_eq_div_mul]
    congr 1
    rw [e4, Nat.mul_comm a, ← Nat.mul_assoc, ← Nat.mul_assoc, show (4 : Nat) = 2 ^ 2 from rfl, ← Nat.pow_add, ← Nat.pow_add]
    congr 2; omega
  have hbig : 4 ^ e ≤ n / 4 ^ (c - e) := by
    refine (Nat.le_div_iff_mul_le (Nat.pow_pos (by omega))).2 ?_
    rw [← Nat.pow_add, show e + (c - e) = c by omega]; exact hn
  have haP : 2 ^ (d - e - 1) ≤ a := by
    have h1 : 2 ^ (d - e - 1) ≤ 2 ^ e := Nat.pow_le_pow_right (by omega) (by omega)
    by_cases h2 : 2 ^ e ≤ a
    · omega
    · exfalso
      have h3 : (a + 1) * (a + 1) ≤ 2 ^ e * 2 ^ e := Nat.mul_le_mul (by omega) (by omega)
      have h4 : 2 ^ e * 2 ^ e = 4 ^ e := by rw [← Nat.mul_pow]
      omega
  rw [q2]
  rw [q1] at hl hu
  generalize n / 4 ^ (c - d) = M at *
  generalize 2 ^ (d - e - 1) = P at *
  have hAP : 0 < a * P := Nat.mul_pos ha0 hP0
  have hPP : P * P ≤ a * P := Nat.mul_le_mul_right _ haP
  have hPP0 : 0 < P * P := Nat.mul_pos hP0 hP0
  have r1 := Nat.div_add_mod M (4 * (a * P))
  have r2 := Nat.mod_lt M (show 4 * (a * P) > 0 by omega)
  generalize M / (4 * (a * P)) = q at *
  generalize M % (4 * (a * P)) = r at *
  have s1 := Nat.div_add_mod M (4 * (P * P))
  have s2 := Nat.mod_lt M (show 4 * (P * P) > 0 by omega)
  generalize M / (4 * (P * P)) = m at *
  generalize M % (4 * (P * P)) = t at *
  -- what the invariant says of M itself
  have l1 : (4 * (P * P)) * ((a - 1) * (a - 1) + 1) ≤ 4 * (P * P) * m := Nat.mul_le_mul_left _ hl
  have u1 : 4 * (P * P) * (m + 1) ≤ 4 * (P * P) * ((a + 1) * (a + 1)) := Nat.mul_le_mul_left _ hu
  have l2 : 4 * ((((a * P : Nat) : Int) - (P : Int)) * (((a * P : Nat) : Int) - (P : Int))) < (M : Int) := by
    obtain ⟨b, rfl⟩ : ∃ b, a = b + 1 := ⟨a - 1, by omega⟩
    rw [Nat.add_sub_cancel] at l1
    have e1 : (((b + 1) * P : Nat) : Int) - (P : Int) = ((b * P : Nat) : Int) := by rw [Nat.add_mul, Nat.one_mul]; omega
    rw [e1, ← Int.natCast_mul]
    have e2 : b * P * (b * P) = P * P * (b * b) := by rw [Nat.mul_mul_mul_comm, Nat.mul_comm]
    rw [e2]
    rw [Nat.mul_add, Nat.mul_one, Nat.mul_assoc] at l1
    generalize P * P * (b * b) = z at *
    omega
  have u2 : (M : Int) < 4 * ((((a * P : Nat) : Int) + (P : Int)) * (((a * P : Nat) : Int) + (P : Int))) := by
    have e1 : ((a * P : Nat) : Int) + (P : Int) = (((a + 1) * P : Nat) : Int) := by rw [Nat.add_mul, Nat.one_mul]; omega
    rw [e1, ← Int.natCast_mul]
    have e2 : (a + 1) * P * ((a + 1) * P) = P * P * ((a + 1) * (a + 1)) := by rw [Nat.mul_mul_mul_comm, Nat.mul_comm]
    rw [e2]
    rw [Nat.mul_add (4 * (P * P)) m 1, Nat.mul_one, Nat.mul_assoc 4 (P * P) ((a + 1) * (a + 1))] at u1
    generalize P * P * ((a + 1) * (a + 1)) = z at *
    generalize 4 * (P * P) * m = y at *
    omega
  have k := newton (M : Int) ((a * P : Nat) : Int) (P : Int) (q : Int) (by omega) (by rw [← Int.natCast_mul]; omega) (by omega)
    (by
      have : (4 * ((a * P : Nat) : Int) * (q : Int)) = ((4 * (a * P) * q : Nat) : Int) := by simp
      rw [this]; omega)
    (by
      have : (4 * ((a * P : Nat) : Int) * ((q : Int) + 1)) = ((4 * (a * P) * (q + 1) : Nat) : Int) := by simp
      rw [this, Nat.mul_add]; omega) l2 u2
  generalize a * P = A at *
  have e1 : ((A : Int) + (q : Int) - 1) = ((A + q - 1 : Nat) : Int) := by omega
  have e2 : ((A : Int) + (q : Int) + 1) = ((A + q + 1 : Nat) : Int) := by omega
  rw [e1, e2, ← Int.natCast_mul, ← Int.natCast_mul] at k
  exact ⟨by omega, by omega, by omega⟩

end Go.Proofs.YthhabammejkjcaaDoor
