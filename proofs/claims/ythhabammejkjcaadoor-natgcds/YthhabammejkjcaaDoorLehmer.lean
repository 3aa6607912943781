/-
  Plain facts (no program in sight): Lehmer's steps with Collins' condition.
-/
import Derived.Test.YthhabammejkjcaaDoorNum
namespace Go.Proofs.YthhabammejkjcaaDoor

/-- The two numbers A and B behind some divisions: what they have become, and the cofactors. -/
structure Coll (A B a b u1 u2 v1 v2 : Nat) (ev : Bool) : Prop where
  hA : v2 * a + v1 * b = A
  hB : u2 * a + u1 * b = B
  le : b ≤ a
  uv : u2 ≤ v2
  one : 1 ≤ v2
  ord : B ≤ A
  det : if ev then u2 * v1 = u1 * v2 + 1 else u1 * v2 = u2 * v1 + 1
  more : 1 ≤ v1 → u1 ≤ v1 ∧ v1 ≤ v2 ∧ 1 ≤ u2

theorem Coll.start (A B : Nat) (h : B ≤ A) : Coll A B A B 1 0 0 1 false := ⟨by omega, by omega, h, by omega, by omega, h, by simp, by omega⟩

theorem Coll.step {A B a b u1 u2 v1 v2 : Nat} {ev : Bool} (h : Coll A B a b u1 u2 v1 v2 ev) (hb : 0 < b) :
    Coll A B b (a % b) u2 (u1 + a / b * u2) v2 (v1 + a / b * v2) (!ev) := by
  have hq := Nat.div_add_mod a b
  have hr := Nat.mod_lt a hb
  have hq1 : 1 ≤ a / b := (Nat.one_le_div_iff hb).2 h.le
  obtain ⟨hA, hB, hle, huv, h1, hord, hdet, hmore⟩ := h
  generalize a / b = q at *
  generalize a % b = r at *
  have hu1 : u1 ≤ v1 ∨ v1 = 0 := by
    rcases Nat.eq_zero_or_pos v1 with e | e
    · exact .inr e
    · exact .inl (hmore e).1
  have hqv : v2 ≤ q * v2 := Nat.le_mul_of_pos_left _ hq1
  have hquv : q * u2 ≤ q * v2 := Nat.mul_le_mul_left _ huv
  have hone : 1 ≤ u1 + q * u2 := by
    cases ev with
    | true =>
      simp only [if_true] at hdet
      have : 1 ≤ u2 := by
        rcases Nat.eq_zero_or_pos u2 with e | e
        · rw [e, Nat.zero_mul] at hdet; omega
        · exact e
      have := Nat.le_mul_of_pos_left u2 hq1
      omega
    | false =>
      simp only [Bool.false_eq_true, if_false] at hdet
      have : 1 ≤ u1 := by
        rcases Nat.eq_zero_or_pos u1 with e | e
        · rw [e, Nat.zero_mul] at hdet; omega
        · exact e
      omega
  refine ⟨by grind, by grind, by omega, ?_, by omega, hord, ?_, fun _ => ⟨huv, by omega, hone⟩⟩
  · rcases hu1 with h | h
    · omega
    · subst h
      -- at the start: u1 * v2 = 1
      cases ev with
      | true => simp at hdet
      | false =>
        simp only [Bool.false_eq_true, if_false, Nat.mul_zero] at hdet
        have e := Nat.eq_one_of_mul_eq_one_right hdet
        have e2 := Nat.eq_one_of_mul_eq_one_left hdet
        subst e
        subst e2
        have : u2 = 0 ∨ u2 = 1 := by omega
        rcases this with e | e
        · subst e; omega
        · subst e
          exfalso
          omega
  · cases ev with
    | true => simp only [if_true] at hdet; simp; grind
    | false => simp only [Bool.false_eq_true, if_false] at hdet; simp; grind

theorem mul_lt_lt {c d P β : Nat} (hc : 0 < c) (hcd : c ≤ d) (hβ : β < P) : c * β < d * P :=
  Nat.lt_of_lt_of_le (Nat.mul_lt_mul_of_pos_left hβ hc) (Nat.mul_le_mul_right _ hcd)

/-- What the cofactors make of the numbers themselves, of which A and B are the heads. -/
theorem lehmer_pos {A B a b u0 u1 v0 v1 : Nat} (h : Coll A B a b u0 u1 v0 v1 false) (hc1 : v1 ≤ b) (hc2 : v0 + v1 ≤ a - b) (hv0 : 1 ≤ v0)
    (x y P α β : Nat) (hx : x = A * P + α) (hy : y = B * P + β) (hα : α < P) (hβ : β < P) :
    ∃ X Y, u0 * x = v0 * y + X ∧ v1 * y = u1 * x + Y ∧ x = v1 * X + v0 * Y ∧ y = u1 * X + u0 * Y ∧ Y < X ∧ X ≤ y := by
  obtain ⟨hA, hB, hle, huv, h1, hord, hdet, hmore⟩ := h
  obtain ⟨m1, m2, m3⟩ := hmore hv0
  simp only [Bool.false_eq_true, if_false] at hdet
  have ea : u0 * A = v0 * B + a := by grind
  have eb : v1 * B = u1 * A + b := by grind
  have e1 : u0 * x + v0 * β = v0 * y + a * P + u0 * α := by grind
  have e2 : v1 * y + u1 * α = u1 * x + b * P + v1 * β := by grind
  have l1 : v0 * β ≤ a * P := Nat.mul_le_mul (by omega) (Nat.le_of_lt hβ)
  have l2 : u1 * α ≤ b * P := Nat.mul_le_mul (by omega) (Nat.le_of_lt hα)
  have l3 : (v0 + v1) * β < (a - b) * P := mul_lt_lt (by omega) hc2 hβ
  have l4 : (a - b) * P + b * P = a * P := by rw [← Nat.add_mul]; congr 1; omega
  have l5 : (v0 + v1) * β = v0 * β + v1 * β := Nat.add_mul _ _ _
  obtain ⟨X, hX⟩ : ∃ X, X = a * P + u0 * α - v0 * β := ⟨_, rfl⟩
  obtain ⟨Y, hY⟩ : ∃ Y, Y = b * P + v1 * β - u1 * α := ⟨_, rfl⟩
  have f1 : u0 * x = v0 * y + X := by omega
  have f2 : v1 * y = u1 * x + Y := by omega
  have f3 : x = v1 * X + v0 * Y := by grind
  have f4 : y = u1 * X + u0 * Y := by grind
  refine ⟨X, Y, f1, f2, f3, f4, by omega, ?_⟩
  have := Nat.le_mul_of_pos_left X m3
  omega

theorem lehmer_neg {A B a b u0 u1 v0 v1 : Nat} (h : Coll A B a b u0 u1 v0 v1 true) (hc1 : v1 ≤ b) (hc2 : v0 + v1 ≤ a - b) (hv0 : 1 ≤ v0)
    (x y P α β : Nat) (hx : x = A * P + α) (hy : y = B * P + β) (hα : α < P) (hβ : β < P) :
    ∃ X Y, v0 * y = u0 * x + X ∧ u1 * x = v1 * y + Y ∧ x = v1 * X + v0 * Y ∧ y = u1 * X + u0 * Y ∧ Y < X ∧ X ≤ y := by
  obtain ⟨hA, hB, hle, huv, h1, hord, hdet, hmore⟩ := h
  obtain ⟨m1, m2, m3⟩ := hmore hv0
  simp only [if_true] at hdet
  have ea : v0 * B = u0 * A + a := by grind
  have eb : u1 * A = v1 * B + b := by grind
  have e1 : v0 * y + u0 * α = u0 * x + a * P + v0 * β := by grind
  have e2 : u1 * x + v1 * β = v1 * y + b * P + u1 * α := by grind
  have l1 : u0 * α ≤ a * P := Nat.mul_le_mul (by omega) (Nat.le_of_lt hα)
  have l2 : v1 * β ≤ b * P := Nat.mul_le_mul (by omega) (Nat.le_of_lt hβ)
  have l0 : (u0 + u1) * α ≤ (v0 + v1) * α := Nat.mul_le_mul_right _ (by omega)
  have l3 : (v0 + v1) * α < (a - b) * P := mul_lt_lt (by omega) hc2 hα
  have l4 : (a - b) * P + b * P = a * P := by rw [← Nat.add_mul]; congr 1; omega
  have l5 : (u0 + u1) * α = u0 * α + u1 * α := Nat.add_mul _ _ _
  obtain ⟨X, hX⟩ : ∃ X, X = a * P + v0 * β - u0 * α := ⟨_, rfl⟩
  obtain ⟨Y, hY⟩ : ∃ Y, Y = b * P + u1 * α - v1 * β := ⟨_, rfl⟩
  have f1 : v0 * y = u0 * x + X := by omega
  have f2 : u1 * x = v1 * y + Y := by omega
  have f3 : x = v1 * X + v0 * Y := by grind
  have f4 : y = u1 * X + u0 * Y := by grind
  refine ⟨X, Y, f1, f2, f3, f4, by omega, ?_⟩
  have := Nat.le_mul_of_pos_left X m3
  omega

theorem gcd_pos {x y X Y u0 u1 v0 v1 : Nat} (f1 : u0 * x = v0 * y + X) (f2 : v1 * y = u1 * x + Y) (f3 : x = v1 * X + v0 * Y) (f4 : y = u1 * X + u0 * Y) : Nat.gcd X Y = Nat.gcd x y := by
  refine Nat.dvd_antisymm (Nat.dvd_gcd ?_ ?_) (Nat.dvd_gcd ?_ ?_)
  · rw [f3]; exact Nat.dvd_add (Nat.dvd_mul_left_of_dvd (Nat.gcd_dvd_left _ _) _) (Nat.dvd_mul_left_of_dvd (Nat.gcd_dvd_right _ _) _)
  · rw [f4]; exact Nat.dvd_add (Nat.dvd_mul_left_of_dvd (Nat.gcd_dvd_left _ _) _) (Nat.dvd_mul_left_of_dvd (Nat.gcd_dvd_right _ _) _)
  · refine (Nat.dvd_add_right (Nat.dvd_mul_left_of_dvd (Nat.gcd_dvd_right x y) v0)).1 ?_
    rw [← f1]; exact Nat.dvd_mul_left_of_dvd (Nat.gcd_dvd_left _ _) _
  · refine (Nat.dvd_add_right (Nat.dvd_mul_left_of_dvd (Nat.gcd_dvd_left x y) u1)).1 ?_
    rw [← f2]; exact Nat.dvd_mul_left_of_dvd (Nat.gcd_dvd_right _ _) _

theorem gcd_neg {x y X Y u0 u1 v0 v1 : Nat} (f1 : v0 * y = u0 * x + X) (f2 : u1 * x = v1 * y + Y) (f3 : x = v1 * X + v0 * Y) (f4 : y = u1 * X + u0 * Y) : Nat.gcd X Y = Nat.gcd x y := by
  refine Nat.dvd_antisymm (Nat.dvd_gcd ?_ ?_) (Nat.dvd_gcd ?_ ?_)
  · rw [f3]; exact Nat.dvd_add (Nat.dvd_mul_left_of_dvd (Nat.gcd_dvd_left _ _) _) (Nat.dvd_mul_left_of_dvd (Nat.gcd_dvd_right _ _) _)
  · rw [f4]; exact Nat.dvd_add (Nat.dvd_mul_left_of_dvd (Nat.gcd_dvd_left _ _) _) (Nat.dvd_mul_left_of_dvd (Nat.gcd_dvd_right _ _) _)
  · refine (Nat.dvd_add_right (Nat.dvd_mul_left_of_dvd (Nat.gcd_dvd_left x y) u0)).1 ?_
    rw [← f1]; exact Nat.dvd_mul_left_of_dvd (Nat.gcd_dvd_right _ _) _
  · refine (Nat.dvd_add_right (Nat.dvd_mul_left_of_dvd (Nat.gcd_dvd_right x y) v1)).1 ?_
    rw [← f2]; exact Nat.dvd_mul_left_of_dvd (Nat.gcd_dvd_left _ _) _

/-- How great the cofactors are. -/
theorem Coll.small {A B a b u1 u2 v1 v2 : Nat} {ev : Bool} (h : Coll A B a b u1 u2 v1 v2 ev) (hc1 : v2 ≤ b) (hA : A < 18446744073709551616) : v2 < 4294967296 := by
  have h1 : v2 * v2 ≤ v2 * a := Nat.mul_le_mul_left _ (Nat.le_trans hc1 h.le)
  have h2 := h.hA
  have h3 : v2 * v2 < 4294967296 * 4294967296 := by omega
  by_cases g : v2 < 4294967296
  · exact g
  · have := Nat.mul_le_mul (show 4294967296 ≤ v2 by omega) (show 4294967296 ≤ v2 by omega)
    omega
theorem Coll.sum {A B a b u1 u2 v1 v2 : Nat} {ev : Bool} (h : Coll A B a b u1 u2 v1 v2 ev) (hb : 0 < b) : v1 + v2 ≤ A := by
  have h1 : v2 * 1 ≤ v2 * a := Nat.mul_le_mul_left _ (Nat.le_trans hb h.le)
  have h2 : v1 * 1 ≤ v1 * b := Nat.mul_le_mul_left _ hb
  have h3 := h.hA
  omega

end Go.Proofs.YthhabammejkjcaaDoor
