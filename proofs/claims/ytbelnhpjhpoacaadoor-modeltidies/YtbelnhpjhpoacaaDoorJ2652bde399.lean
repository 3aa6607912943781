/-
  Texts of mine.
-/
import Derived.Test.YtbelnhpjhpoacaaDoorJ8180152aff
import Derived.Test.YtbelnhpjhpoacaaDoorJ27cbe186c9
import Derived.Laws.AppendOwnNone
namespace Go.Proofs.YtbelnhpjhpoacaaDoor
open Go.RowKit

/-- One digit of a quotient. -/
theorem over_digit (x y i : Nat) (hy : 0 < y) : (x / 10000 ^ (i + 1) % y * 10000 + (dg 10000 x i).toNat) / y < 10000 ∧ dg 10000 (x / y) i = (((x / 10000 ^ (i + 1) % y * 10000 + (dg 10000 x i).toNat) / y : Nat) : Int) ∧
    (x / 10000 ^ (i + 1) % y * 10000 + (dg 10000 x i).toNat) % y = x / 10000 ^ i % y ∧ x / 10000 ^ (i + 1) % y * 10000 + (dg 10000 x i).toNat < y * 10000 := by
  have e0 : (dg 10000 x i).toNat = x / 10000 ^ i % 10000 := by unfold dg; rw [Int.toNat_natCast]
  have e1 : x / 10000 ^ (i + 1) = x / 10000 ^ i / 10000 := by rw [Nat.pow_succ, Nat.div_div_eq_div_mul]
  have e2 : x / y / 10000 ^ i = x / 10000 ^ i / y := by rw [Nat.div_div_eq_div_mul, Nat.div_div_eq_div_mul, Nat.mul_comm]
  unfold dg
  rw [Int.toNat_natCast, e1, e2]
  generalize x / 10000 ^ i = X
  have h1 := Nat.div_add_mod X 10000
  have h2 := Nat.div_add_mod (X / 10000) y
  have h3 := Nat.mod_lt (X / 10000) hy
  have h4 := Nat.mod_lt X (show 10000 > 0 by omega)
  generalize X % 10000 = d at *
  generalize hR : X / 10000 % y = R at *
  generalize hQ : X / 10000 / y = Q at *
  have hN : X = y * (Q * 10000) + (R * 10000 + d) := by
    rw [← Nat.mul_assoc]
    have : y * Q * 10000 + R * 10000 = (y * Q + R) * 10000 := by rw [Nat.add_mul]
    omega
  have hlt : R * 10000 + d < y * 10000 := by omega
  have hq : (R * 10000 + d) / y < 10000 := Nat.div_lt_of_lt_mul hlt
  refine ⟨hq, ?_, ?_, hlt⟩
  · rw [hN, Nat.mul_add_div hy]
    generalize (R * 10000 + d) / y = q at *
    congr 1
    omega
  · rw [hN, Nat.mul_add_mod]

/-- A digit ahead of others. -/
def ahead (d : Int) (f : Nat → Int) : Nat → Int := fun i => if i = 0 then d else f (i - 1)
theorem valsOf_ahead (k : IntKind) (d : Int) (f : Nat → Int) (m : Nat) : [Value.int k d] ++ valsOf k f m = valsOf k (ahead d f) (1 + m) := by
  apply List.ext_getElem?
  intro i
  by_cases hi : i < 1 + m
  · rw [valsOf_at _ _ _ _ hi]
    cases i with
    | zero => simp [ahead]
    | succ i => rw [List.singleton_append, List.getElem?_cons_succ, valsOf_at _ _ _ _ (by omega)]; simp [ahead]
  · rw [List.getElem?_eq_none (by simp [valsOf_length]; omega), List.getElem?_eq_none (by rw [valsOf_length]; omega)]
theorem val_ahead (B : Nat) (d : Int) (f : Nat → Int) (m : Nat) : val B (ahead d f) (1 + m) = d + val B f m * B := by
  rw [val_add]; simp [val, ahead, Int.pow_succ]

theorem nl_mul_small (N y k : Nat) (h : N < y * 10000) (hy : nl 10000 y ≤ k) : nl 10000 N ≤ k + 1 := by
  refine nl_le 10000 _ _ (by decide) (Nat.lt_of_lt_of_le h ?_)
  rw [Nat.pow_succ]
  exact Nat.mul_le_mul_right _ (Nat.le_of_lt (Nat.lt_of_lt_of_le (lt_pow_nl 10000 y (by decide)) (Nat.pow_le_pow_right (by decide) hy)))

end Go.Proofs.YtbelnhpjhpoacaaDoor
