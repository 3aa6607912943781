/-
  Texts of mine, joined: what lies beneath the statement.
-/
import Derived.Test.YtjfacmeeplalkaaDoorJ1
import Derived.Test.YtjfacmeeplalkaaDoorJ2
import Derived.ProofKit
import Derived.OpenShut
import Derived.Below
import Derived.Laws.AppendOwnNone
import Derived.Deep.Cut
import Derived.Laws.AppendOwn
import Derived.Laws.CopyOwn
import Derived.ChangeSame
/-
  Newton's way to a root, plain: no program in sight.
-/
namespace Go.Proofs.YtjfacmeeplalkaaDoor

theorem sq_le {a b : Int} (h0 : 0 ≤ a) (h : a ≤ b) : a * a ≤ b * b := Int.mul_le_mul h h h0 (by omega)

/-- One step, of half the old root's greatness A and of a number M that lies near. -/
theorem newton (M A P q : Int) (hP : 0 < P) (hA : P * P ≤ A) (hq0 : 0 ≤ q) (hq1 : 4 * A * q ≤ M) (hq2 : M < 4 * A * (q + 1)) (hl : 4 * ((A - P) * (A - P)) < M) (hu : M < 4 * ((A + P) * (A + P))) :
    (A + q - 1) * (A + q - 1) < M ∧ M < (A + q + 1) * (A + q + 1) := by
  have hA0 : 0 < A := Int.lt_of_lt_of_le (Int.mul_pos hP hP) hA
  constructor
  · by_cases hc : (A + q - 1) * (A + q - 1) < M
    · exact hc
    · exfalso
      have hc' : M ≤ (A + q - 1) * (A + q - 1) := by omega
      by_cases h1 : A + q - 1 ≤ 2 * A - 2 * P
      · have h2 := sq_le (show 0 ≤ A + q - 1 by omega) h1
        have e : (2 * A - 2 * P) * (2 * A - 2 * P) = 4 * ((A - P) * (A - P)) := by
          rw [show 2 * A - 2 * P = 2 * (A - P) by omega, Int.mul_assoc, Int.mul_left_comm (A - P), ← Int.mul_assoc]
          generalize (A - P) * (A - P) = t; omega
        omega
      · by_cases h2 : 2 * A + 2 * P ≤ A + q - 1
        · have h3 : A * (A + 2 * P + 1) ≤ A * q := Int.mul_le_mul_of_nonneg_left (by omega) (by omega)
          have e1 : (A + P) * (A + P) = A * A + 2 * (A * P) + P * P := by
            rw [Int.add_mul, Int.mul_add, Int.mul_add, Int.mul_comm P A]; omega
          have e2 : A * (A + 2 * P + 1) = A * A + 2 * (A * P) + A := by
            rw [Int.mul_add, Int.mul_add, Int.mul_one, Int.mul_left_comm]
          have e3 : 4 * A * q = 4 * (A * q) := Int.mul_assoc _ _ _
          omega
        · -- |x - 2 A| < 2 P
          have ht : -(2 * P) < A + q - 1 - 2 * A ∧ A + q - 1 - 2 * A < 2 * P := by omega
          generalize hz : A + q - 1 - 2 * A = z at *
          have hx : A + q - 1 = z + 2 * A := by omega
          have hqz : q = z + A + 1 := by omega
          rw [hx] at hc'
          have e1 : (z + 2 * A) * (z + 2 * A) = z * z + 4 * (A * z) + 4 * (A * A) := by
            rw [Int.add_mul, Int.mul_add, Int.mul_add, Int.mul_left_comm z 2 A, Int.mul_comm z A, Int.mul_assoc 2 A z, Int.mul_assoc 2 A (2 * A), Int.mul_left_comm A 2 A]; omega
          have e2 : 4 * A * q = 4 * (A * z) + 4 * (A * A) + 4 * A := by
            rw [hqz, Int.mul_assoc, show A * (z + A + 1) = A * z + A * A + A by rw [Int.mul_add, Int.mul_add, Int.mul_one]]; omega
          have h4 : 4 * A ≤ z * z := by omega
          have h5 : z * z < 4 * (P * P) := by
            have hzn : z * z = z.natAbs * z.natAbs := (Int.natAbs_mul_self' z).symm
            have h6 := sq_le (a := (z.natAbs : Int)) (b := 2 * P - 1) (by omega) (by omega)
            have e3 : (2 * P - 1) * (2 * P - 1) = 4 * (P * P) - 4 * P + 1 := by
              rw [Int.sub_mul, Int.mul_sub, Int.mul_sub, Int.mul_assoc, Int.mul_left_comm P 2 P]; omega
            omega
          omega
  · have e : (A + q + 1) * (A + q + 1) = (A - (q + 1)) * (A - (q + 1)) + 4 * A * (q + 1) := by
      generalize hz : q + 1 = z
      rw [show A + q + 1 = A + z by omega, Int.add_mul, Int.mul_add, Int.mul_add, Int.sub_mul, Int.mul_sub, Int.mul_sub, Int.mul_comm z A, Int.mul_assoc 4 A z]; omega
    have h1 : 0 ≤ (A - (q + 1)) * (A - (q + 1)) := by
      rw [← Int.natAbs_mul_self' (A - (q + 1))]
      exact Int.mul_nonneg (by omega) (by omega)
    omega

/-- One step of the root of n's highest bits: from e to d of c bits, a the root so far. -/
theorem newton_step (n c d e a : Nat) (hn : 4 ^ c ≤ n) (hed : e < d) (hd : d ≤ 2 * e + 1) (hdc : d ≤ c) (ha0 : 0 < a)
    (hl : (a - 1) * (a - 1) < n / 4 ^ (c - e)) (hu : n / 4 ^ (c - e) < (a + 1) * (a + 1)) :
    0 < a * 2 ^ (d - e - 1) + n / 2 ^ (2 * c - e - d + 1) / a ∧
    (a * 2 ^ (d - e - 1) + n / 2 ^ (2 * c - e - d + 1) / a - 1) * (a * 2 ^ (d - e - 1) + n / 2 ^ (2 * c - e - d + 1) / a - 1) < n / 4 ^ (c - d) ∧
    n / 4 ^ (c - d) < (a * 2 ^ (d - e - 1) + n / 2 ^ (2 * c - e - d + 1) / a + 1) * (a * 2 ^ (d - e - 1) + n / 2 ^ (2 * c - e - d + 1) / a + 1) := by
  have hP0 : 0 < 2 ^ (d - e - 1) := Nat.two_pow_pos _
  have e4 : ∀ k, (4 : Nat) ^ k = 2 ^ (2 * k) := fun k => by rw [Nat.pow_mul]
  -- the numbers at hand
  have q1 : n / 4 ^ (c - e) = n / 4 ^ (c - d) / (4 * (2 ^ (d - e - 1) * 2 ^ (d - e - 1))) := by
    rw [Nat.div_div_eq_div_mul]
    congr 1
    rw [e4, e4, ← Nat.pow_add, show (4 : Nat) = 2 ^ 2 from rfl, ← Nat.pow_add, ← Nat.pow_add]
    congr 1; omega
  have q2 : n / 2 ^ (2 * c - e - d + 1) / a = n / 4 ^ (c - d) / (4 * (a * 2 ^ (d - e - 1))) := by
    rw [Nat.div_div_eq_div_mul, Nat.div_div_eq_div_mul]
    congr 1
    rw [e4, Nat.mul_comm a, ← Nat.mul_assoc, ← Nat.mul_assoc, show (4 : Nat) = 2 ^ 2 from rfl, ← Nat.pow_add, ← Nat.pow_add]
    congr 2; omega
  have hbig : 4 ^ e ≤ n / 4 ^ (c - e) := by
    refine (Nat.le_div_iff_mul_le (Nat.pow_pos (by omega))).2 ?_
    rw [← Nat.pow_add, show e + (c - e) = c by omega]; exact hn
  have haP : 2 ^ (d - e - 1) ≤ a := by
    have h1 : 2 ^ (d - e - 1) ≤ 2 ^ e := Nat.pow_le_pow_right (by omega) (by omega)
    by_cases h2 : 2 ^ e ≤ a
    · omega
    · exfalso
      have h3 : (a + 1) * (a + 1) ≤ 2 ^ e * 2 ^ e := Nat.mul_le_mul (by omega) (by omega)
      have h4 : 2 ^ e * 2 ^ e = 4 ^ e := by rw [← Nat.mul_pow]
      omega
  rw [q2]
  rw [q1] at hl hu
  generalize n / 4 ^ (c - d) = M at *
  generalize 2 ^ (d - e - 1) = P at *
  have hAP : 0 < a * P := Nat.mul_pos ha0 hP0
  have hPP : P * P ≤ a * P := Nat.mul_le_mul_right _ haP
  have hPP0 : 0 < P * P := Nat.mul_pos hP0 hP0
  have r1 := Nat.div_add_mod M (4 * (a * P))
  have r2 := Nat.mod_lt M (show 4 * (a * P) > 0 by omega)
  generalize M / (4 * (a * P)) = q at *
  generalize M % (4 * (a * P)) = r at *
  have s1 := Nat.div_add_mod M (4 * (P * P))
  have s2 := Nat.mod_lt M (show 4 * (P * P) > 0 by omega)
  generalize M / (4 * (P * P)) = m at *
  generalize M % (4 * (P * P)) = t at *
  -- what the invariant says of M itself
  have l1 : (4 * (P * P)) * ((a - 1) * (a - 1) + 1) ≤ 4 * (P * P) * m := Nat.mul_le_mul_left _ hl
  have u1 : 4 * (P * P) * (m + 1) ≤ 4 * (P * P) * ((a + 1) * (a + 1)) := Nat.mul_le_mul_left _ hu
  have l2 : 4 * ((((a * P : Nat) : Int) - (P : Int)) * (((a * P : Nat) : Int) - (P : Int))) < (M : Int) := by
    obtain ⟨b, rfl⟩ : ∃ b, a = b + 1 := ⟨a - 1, by omega⟩
    rw [Nat.add_sub_cancel] at l1
    have e1 : (((b + 1) * P : Nat) : Int) - (P : Int) = ((b * P : Nat) : Int) := by rw [Nat.add_mul, Nat.one_mul]; omega
    rw [e1, ← Int.natCast_mul]
    have e2 : b * P * (b * P) = P * P * (b * b) := by rw [Nat.mul_mul_mul_comm, Nat.mul_comm]
    rw [e2]
    rw [Nat.mul_add, Nat.mul_one, Nat.mul_assoc] at l1
    generalize P * P * (b * b) = z at *
    omega
  have u2 : (M : Int) < 4 * ((((a * P : Nat) : Int) + (P : Int)) * (((a * P : Nat) : Int) + (P : Int))) := by
    have e1 : ((a * P : Nat) : Int) + (P : Int) = (((a + 1) * P : Nat) : Int) := by rw [Nat.add_mul, Nat.one_mul]; omega
    rw [e1, ← Int.natCast_mul]
    have e2 : (a + 1) * P * ((a + 1) * P) = P * P * ((a + 1) * (a + 1)) := by rw [Nat.mul_mul_mul_comm, Nat.mul_comm]
    rw [e2]
    rw [Nat.mul_add (4 * (P * P)) m 1, Nat.mul_one, Nat.mul_assoc 4 (P * P) ((a + 1) * (a + 1))] at u1
    generalize P * P * ((a + 1) * (a + 1)) = z at *
    generalize 4 * (P * P) * m = y at *
    omega
  have k := newton (M : Int) ((a * P : Nat) : Int) (P : Int) (q : Int) (by omega) (by rw [← Int.natCast_mul]; omega) (by omega)
    (by
      have : (4 * ((a * P : Nat) : Int) * (q : Int)) = ((4 * (a * P) * q : Nat) : Int) := by simp
      rw [this]; omega)
    (by
      have : (4 * ((a * P : Nat) : Int) * ((q : Int) + 1)) = ((4 * (a * P) * (q + 1) : Nat) : Int) := by simp
      rw [this, Nat.mul_add]; omega) l2 u2
  generalize a * P = A at *
  have e1 : ((A : Int) + (q : Int) - 1) = ((A + q - 1 : Nat) : Int) := by omega
  have e2 : ((A : Int) + (q : Int) + 1) = ((A + q + 1 : Nat) : Int) := by omega
  rw [e1, e2, ← Int.natCast_mul, ← Int.natCast_mul] at k
  exact ⟨by omega, by omega, by omega⟩

end Go.Proofs.YtjfacmeeplalkaaDoor

/-
  What math/bits.Len and nat.Sqrt answer.
-/
namespace Go.Proofs.YtjfacmeeplalkaaDoor
open Go.RowKit

set_option maxRecDepth 20000 in
set_option maxHeartbeats 400000 in
theorem blen_any (x : Int) (w : World) (h0 : 0 ≤ x) (h1 : x ≤ 4294967295) :
    Calls Tryd.prog 83 #[.int .u64 x] w fun e w' => e = .returned (.int .i64 (Lib.bitLen x.toNat)) ∧ w' = w := by
  go_enter Tryd.func83, Tryd.ntmps83
  go_wp2_with (go_at_call 84; refine (len64_any x _ h0 h1).mono ?_; rintro e w2 ⟨rfl, hw2⟩; subst hw2)
  go_ret
  exact ⟨rfl, rfl⟩

/-- A root's greatness. -/
theorem root_nl (x A k : Nat) (hx : x < W32 ^ 60) (h : (A - 1) * (A - 1) < x / 4 ^ k) : nl W32 A ≤ 31 := by
  refine nl_le W32 A 31 (by decide) ?_
  by_cases g : A < W32 ^ 31
  · exact g
  · exfalso
    have h1 : W32 ^ 30 ≤ A - 1 := by
      have e : W32 ^ 31 = W32 ^ 30 * W32 := Nat.pow_succ _ _
      have e2 : W32 ^ 30 * 2 ≤ W32 ^ 30 * W32 := Nat.mul_le_mul_left _ (by decide)
      have e3 : 0 < W32 ^ 30 := Nat.pow_pos (by decide)
      omega
    have h2 : W32 ^ 30 * W32 ^ 30 ≤ (A - 1) * (A - 1) := Nat.mul_le_mul h1 h1
    rw [← Nat.pow_add] at h2
    have h3 := Nat.div_le_self x (4 ^ k)
    have : W32 ^ (30 + 30) = W32 ^ 60 := rfl
    omega

/-- Where the root begins. -/
theorem root_start (x L c : Nat) (h1 : 2 ^ (L - 1) ≤ x) (h2 : x < 2 ^ L) (hL : 0 < L) (hc : c = (L - 1) / 2) : 4 ^ c ≤ x ∧ 0 < x / 4 ^ c ∧ x / 4 ^ c < 4 := by
  have e4 : (4 : Nat) ^ c = 2 ^ (2 * c) := by rw [Nat.pow_mul]
  have a1 : 4 ^ c ≤ x := by rw [e4]; exact Nat.le_trans (Nat.pow_le_pow_right (by omega) (by omega)) h1
  have a2 : x < 4 ^ c * 4 := by
    rw [e4, show 2 ^ (2 * c) * 4 = 2 ^ (2 * c + 2) by rw [Nat.pow_add]]
    exact Nat.lt_of_lt_of_le h2 (Nat.pow_le_pow_right (by omega) (by omega))
  exact ⟨a1, Nat.div_pos a1 (Nat.pow_pos (by omega)), Nat.div_lt_of_lt_mul a2⟩

/-- Of a number's bits one more. -/
theorem next_bit (c i : Nat) (h : 2 ^ i ≤ c) : c / 2 ^ (i + 1) < c / 2 ^ i ∧ c / 2 ^ i ≤ 2 * (c / 2 ^ (i + 1)) + 1 ∧ c / 2 ^ i ≤ c := by
  have h1 : 1 ≤ c / 2 ^ i := (Nat.le_div_iff_mul_le (Nat.two_pow_pos i)).2 (by omega)
  have e : c / 2 ^ (i + 1) = c / 2 ^ i / 2 := by rw [Nat.pow_succ, Nat.div_div_eq_div_mul]
  have h2 := Nat.div_le_self c (2 ^ i)
  rw [e]
  generalize c / 2 ^ i = d at *
  omega

end Go.Proofs.YtjfacmeeplalkaaDoor

/-
  What nat.power and nat.Pow answer.
-/
namespace Go.Proofs.YtjfacmeeplalkaaDoor
open Go.RowKit

theorem two63' : (2 : Int) ^ 63 = 9223372036854775808 := by decide
theorem and_one_int (i : Nat) (hi : i < 9223372036854775808) : bits BinOp.and IntKind.i64 (i : Int) 1 = ((i % 2 : Nat) : Int) := by
  have h := bits_mask .i64 63 (by decide) (fun n h0 h1 => by rw [two63'] at h1; rw [IntKind.wrap_i64]; omega) 1 (by decide) (i : Int) (by omega) (by rw [two63']; omega)
  have e : ((2 : Int) ^ 1 - 1) = 1 := by decide
  rw [e] at h
  rw [h]
  omega

theorem nl_pow (x l n : Nat) (h : nl W32 x ≤ l) : nl W32 (x ^ n) ≤ l * n + 1 := by
  refine nl_le W32 _ _ (by decide) ?_
  have h1 : x < W32 ^ l := Nat.lt_of_lt_of_le (lt_pow_nl W32 x (by decide)) (Nat.pow_le_pow_right (by decide) h)
  have h2 : x ^ n ≤ (W32 ^ l) ^ n := Nat.pow_le_pow_left (Nat.le_of_lt h1) n
  rw [← Nat.pow_mul] at h2
  have h3 : W32 ^ (l * n) < W32 ^ (l * n + 1) := Nat.pow_lt_pow_right (by decide) (by omega)
  omega

theorem half_pow (x n i : Nat) : x ^ (n / 2 ^ (i + 1)) * x ^ (n / 2 ^ (i + 1)) * x ^ (n / 2 ^ i % 2) = x ^ (n / 2 ^ i) := by
  rw [← Nat.pow_add, ← Nat.pow_add]
  congr 1
  rw [Nat.pow_succ, ← Nat.div_div_eq_div_mul]
  generalize n / 2 ^ i = m
  omega

set_option maxRecDepth 20000 in
set_option maxHeartbeats 2000000 in
theorem power_any (u : Value) (x n : Nat) (w : World) (hu : Rep w u x) (hn : n ≤ 4096) (hx : nl W32 x ≤ 40) :
    Calls Tryd.prog 79 #[u, .int .i64 (n : Int)] w fun e w' => ∃ r, e = .returned r ∧ RepM w.heap.size w' r (x ^ n) ∧ Below w.heap.size w w' := by
  have hT0 : n = 0 → Lib.bitLen n = 0 := fun e => by rw [e]; decide
  have hTb : n ≠ 0 → 2 ^ (Lib.bitLen n - 1) ≤ n ∧ n < 2 ^ Lib.bitLen n ∧ 0 < Lib.bitLen n := fun e => bitLen_pow n e (by omega)
  have hT32 : Lib.bitLen n ≤ 32 := Lib.bitLen_le n 32 (by omega) (by omega)
  have HT1 : Hid (n < 2 ^ Lib.bitLen n) := by
    show _ < _
    by_cases e : n = 0
    · rw [hT0 e, e]; omega
    · exact (hTb e).2.1
  clear hT0 hTb
  have HNL : Hid (∀ m, m ≤ n → nl W32 (x ^ m) ≤ 163841) := fun m hm => Nat.le_trans (nl_pow x 40 m hx) (by omega)
  go_enter Tryd.func79, Tryd.ntmps79
  go_wp2_with fail
  refine (of_any 1 _ (by omega) (by omega)).mono ?_
  rintro e w3 ⟨o3, rfl, ho3, hb3⟩
  go_wp2_with fail
  refine (blen_any (n : Int) _ (by omega) (by omega)).mono ?_
  rintro e w4 ⟨rfl, hw4⟩
  subst hw4
  rw [Int.toNat_natCast]
  generalize Lib.bitLen n = T at *
  go_wp2
  go_loopw [5, 6] (fun vo vi wr => ∃ k : Nat, k ≤ T ∧ vi = .int .i64 ((k : Int) - 1) ∧ RepM w.heap.size wr vo (x ^ (n / 2 ^ k)) ∧ Below w.heap.size w wr) (fun _ vi _ => (intOf vi + 1).toNat)
  case atStart =>
    have e : n / 2 ^ T = 0 := Nat.div_eq_of_lt HT1.out
    exact ⟨T, Nat.le_refl _, rfl, by rw [e]; exact ho3, hb3⟩
  case round =>
    clear ho3 hb3
    obtain ⟨k, hk, rfl, hro, hbel⟩ := hrel
    have hsz := hbel.size
    cases k with
    | zero =>
      have e1 : (((0 : Nat) : Int) - 1) = -1 := by omega
      go_wp2
      go_ret
      exact ⟨_, rfl, by simpa using hro, hbel⟩
    | succ i =>
      have e1 : (((i + 1 : Nat) : Int) - 1) = (i : Int) := by omega
      rw [e1]
      have hhp := half_pow x n i
      have hm1 : n / 2 ^ (i + 1) ≤ n := Nat.div_le_self _ _
      have hm0 : n / 2 ^ i ≤ n := Nat.div_le_self _ _
      have hdi : ((n : Int) / 2 ^ i) = ((n / 2 ^ i : Nat) : Int) := by rw [Int.natCast_ediv]; simp
      have hand := and_one_int (n / 2 ^ i) (by omega)
      have hN1 := HNL.out _ hm1
      have hN0 : nl W32 (x ^ (n / 2 ^ (i + 1)) * x ^ (n / 2 ^ (i + 1))) ≤ 163841 := by
        rw [← Nat.pow_add]
        refine HNL.out _ ?_
        rw [Nat.pow_succ, ← Nat.div_div_eq_div_mul]
        omega
      have HHP : Hid (x ^ (n / 2 ^ (i + 1)) * x ^ (n / 2 ^ (i + 1)) * x ^ (n / 2 ^ i % 2) = x ^ (n / 2 ^ i)) := hhp
      have hPP : Hid (ProdAt (x ^ (n / 2 ^ (i + 1))) (x ^ (n / 2 ^ (i + 1)))) := product_all _ _ (by omega)
      have hPX : Hid (ProdAt (x ^ (n / 2 ^ (i + 1)) * x ^ (n / 2 ^ (i + 1))) x) := product_all _ _ (by omega)
      clear hhp hN1 hN0 hm1
      generalize hm : n / 2 ^ i = m at *
      have HM : Hid (n / 2 ^ i = m) := hm
      clear hm
      generalize x ^ (n / 2 ^ (i + 1)) = A at *
      have hbit : m % 2 = 0 ∨ m % 2 = 1 := by omega
      rcases hbit with hb | hb
      · rw [hb] at hand HHP
        go_wp2_with fail
        refine (hPP.out _ _ _ hro.rep hro.rep).mono ?_
        rintro e w5 ⟨r5, rfl, hr5, hb5⟩
        have hr5' : RepM w.heap.size w5 r5 (A * A) := hr5.le hsz
        have bel5 : Below w.heap.size w w5 := hbel.trans (hb5.mono hsz)
        clear hr5 hb5 hro hbel
        go_wp2
        go_roundw
        case rel => exact ⟨i, by omega, by go_num, by rw [HM.out, ← HHP.out]; simpa using hr5', bel5⟩
        case measure => simp [intOf]
      · rw [hb] at hand HHP
        go_wp2_with fail
        refine (hPP.out _ _ _ hro.rep hro.rep).mono ?_
        rintro e w5 ⟨r5, rfl, hr5, hb5⟩
        have hs5 := hb5.size
        have hu5 := Nums.below (Nums.below hu hbel) hb5
        go_wp2_with fail
        refine (hPX.out _ _ _ hr5.rep hu5).mono ?_
        rintro e w6 ⟨r6, rfl, hr6, hb6⟩
        have hr6' : RepM w.heap.size w6 r6 (A * A * x) := hr6.le (by omega)
        have bel6 : Below w.heap.size w w6 := hbel.trans ((hb5.mono hsz).trans (hb6.mono (by omega)))
        clear hr5 hb5 hro hbel hr6 hb6 hu5
        go_wp2
        go_roundw
        case rel => exact ⟨i, by omega, by go_num, by rw [HM.out, ← HHP.out]; simpa using hr6', bel6⟩
        case measure => simp [intOf]

end Go.Proofs.YtjfacmeeplalkaaDoor

/-
  What nat.writeBlocks answers of any number and any powers of ten.
-/
namespace Go.Proofs.YtjfacmeeplalkaaDoor
open Go.RowKit

/-- The powers of ten that a number is cut by. -/
def ten (i : Nat) : Nat := 10 ^ (288 * 2 ^ i)
theorem ten_pos (i : Nat) : 0 < ten i := Nat.pow_pos (by decide)
theorem ten_succ (i : Nat) : ten i * ten i = ten (i + 1) := by
  unfold ten
  rw [← Nat.pow_add, Nat.pow_succ]; congr 1; omega

/-- A number whose limbs lie below B. -/
def RepB (B : Nat) (w : World) (v : Value) (m : Nat) : Prop :=
  ∃ ao c, v = .slice ao (nl W32 m) c ∧ nl W32 m ≤ c ∧ nl W32 m ≤ LIM ∧ (0 < nl W32 m → ∃ b off, ao = some ⟨b, off, none⟩ ∧ Cells w .u64 b off (nl W32 m) (dg W32 m) ∧ b < B)
theorem RepB.rep {B : Nat} {w : World} {v : Value} {m : Nat} (h : RepB B w v m) : Rep w v m := by
  obtain ⟨ao, c, h1, h2, h3, h4⟩ := h
  exact ⟨ao, c, h1, h2, h3, fun hn => let ⟨b, off, e, hc, _⟩ := h4 hn; ⟨b, off, e, hc⟩⟩
theorem RepB.below {B : Nat} {w w' : World} {v : Value} {m : Nat} (h : RepB B w v m) (hb : Below B w w') : RepB B w' v m := by
  obtain ⟨ao, c, h1, h2, h3, h4⟩ := h
  exact ⟨ao, c, h1, h2, h3, fun hn => let ⟨b, off, e, hc, hl⟩ := h4 hn; ⟨b, off, e, hc.below hb hl, hl⟩⟩
theorem RepB.mono {B B' : Nat} {w : World} {v : Value} {m : Nat} (h : RepB B w v m) (hb : B ≤ B') : RepB B' w v m := by
  obtain ⟨ao, c, h1, h2, h3, h4⟩ := h
  exact ⟨ao, c, h1, h2, h3, fun hn => let ⟨b, off, e, hc, hl⟩ := h4 hn; ⟨b, off, e, hc, by omega⟩⟩
theorem Rep.repB {w : World} {v : Value} {m : Nat} (h : Rep w v m) : RepB w.heap.size w v m := by
  obtain ⟨ao, c, h1, h2, h3, h4⟩ := h
  exact ⟨ao, c, h1, h2, h3, fun hn => let ⟨b, off, e, hc⟩ := h4 hn; ⟨b, off, e, hc, hc.lt hn⟩⟩

/-- A row of such powers, in memory below B. -/
def Tens (B : Nat) (w : World) (v : Value) (t : Nat) : Prop :=
  ∃ ao c, v = .slice ao t c ∧ t ≤ c ∧ (0 < t → ∃ b off, ao = some ⟨b, off, none⟩ ∧ b < B ∧ ∀ i, i < t → ∃ u, w.cell? ⟨b, off + i, none⟩ = some u ∧ RepB B w u (ten i))
theorem Tens.below {B : Nat} {w w' : World} {v : Value} {t : Nat} (h : Tens B w v t) (hb : Below B w w') : Tens B w' v t := by
  obtain ⟨ao, c, h1, h2, h4⟩ := h
  refine ⟨ao, c, h1, h2, fun hn => ?_⟩
  obtain ⟨b, off, e, hl, hc⟩ := h4 hn
  refine ⟨b, off, e, hl, fun i hi => ?_⟩
  obtain ⟨u, hu, hr⟩ := hc i hi
  exact ⟨u, (hb.cell hl).trans hu, hr.below hb⟩

theorem dd_hi (x p H : Nat) : dd (x / 10 ^ H) p = dd x (H + p) := by
  unfold dd
  rw [Nat.div_div_eq_div_mul, ← Nat.pow_add]
theorem dd_lo (x p H : Nat) (h : p < H) : dd (x % 10 ^ H) p = dd x p := by
  unfold dd
  have e : 10 ^ H = 10 ^ (p + 1) * 10 ^ (H - p - 1) := by rw [← Nat.pow_add]; congr 1; omega
  have e2 : x % 10 ^ H % 10 ^ (p + 1) = x % 10 ^ (p + 1) := by rw [e]; exact Nat.mod_mul_right_mod _ _ _
  have e3 : ∀ y, y / 10 ^ p % 10 = y % 10 ^ (p + 1) / 10 ^ p := fun y => by rw [Nat.pow_succ, Nat.mod_mul_right_div_self]
  rw [e3, e3 x, e2]

set_option maxRecDepth 20000 in
set_option maxHeartbeats 400000 in
theorem writeBlocks_base (go oo L c K cc : Nat) (ao : Option Addr) (va : Value) (x : Nat) (h0 : Nat → Int) (w : World) (hL : L = 9 * K) (hlim : L ≤ LIM) (hgo : go < w.heap.size)
    (hout : Cells w .u8 go oo L h0) (hsoft : Soft w go oo L) (ha : Rep w va x) :
    Calls Tryd.prog 67 #[.slice (some ⟨go, oo, none⟩) L c, va, .slice ao 0 cc] w fun e w' =>
      e = .returned (.tuple #[]) ∧ Cells w' .u8 go oo L (fun i => dd x (L - 1 - i)) ∧ UpdB w.heap.size w w' go oo L := by
  have HL : Hid (L = 9 * K) := hL
  clear hL
  go_enter Tryd.func67, Tryd.ntmps67
  go_wp2_with fail
  refine (clean_rep _ _ _ ha).mono ?_
  rintro e w1 ⟨v1, rfl, hv1, hb1⟩
  go_wp2_with fail
  refine (chunks_any w.heap.size _ _ _ _ K _ x h0 _ HL.out hlim hgo hb1.size (hout.below hb1 hgo) (hsoft.below hb1 hgo) hv1).mono ?_
  rintro e w2 ⟨rfl, hc2, hu2⟩
  go_wp2
  refine bodyPost_ret (results_none rfl _ _ _) rfl ?_
  exact ⟨rfl, hc2, (UpdB.of_below hb1 hgo).trans hu2⟩

/-- What writeBlocks is to do with t powers of ten. -/
def WritesAt (t : Nat) : Prop := ∀ (go oo c B : Nat) (va vt : Value) (x : Nat) (h0 : Nat → Int) (w : World), B ≤ go → go < w.heap.size → 288 * 2 ^ t ≤ c →
    Cells w .u8 go oo (288 * 2 ^ t) h0 → Soft w go oo (288 * 2 ^ t) → Rep w va x → nl W32 x ≤ 900000 → Tens B w vt t →
    Calls Tryd.prog 67 #[.slice (some ⟨go, oo, none⟩) (288 * 2 ^ t) c, va, vt] w fun e w' =>
      e = .returned (.tuple #[]) ∧ Cells w' .u8 go oo (288 * 2 ^ t) (fun i => dd x (288 * 2 ^ t - 1 - i)) ∧ UpdB w.heap.size w w' go oo (288 * 2 ^ t)

set_option maxRecDepth 20000 in
set_option maxHeartbeats 1000000 in
theorem writes_step (t : Nat) (ht : t ≤ 20) (IH : WritesAt t) : WritesAt (t + 1) := by
  intro go oo c B va vt x h0 w hB hgo hc hout hsoft ha hx htens
  have hH20 : 2 ^ t ≤ 2 ^ 20 := Nat.pow_le_pow_right (by omega) ht
  have hLs : 288 * 2 ^ (t + 1) = 2 * (288 * 2 ^ t) := by rw [Nat.pow_succ]; omega
  have hp : 0 < 2 ^ t := Nat.two_pow_pos t
  unfold WritesAt at IH
  have htn : ten t = 10 ^ (288 * 2 ^ t) := rfl
  rw [hLs] at hc hout hsoft ⊢
  generalize 288 * 2 ^ t = H at *
  have hHb : 288 ≤ H ∧ H ≤ 301989888 := by omega
  obtain ⟨hH1, hH2⟩ := hHb
  have htens0 := htens
  obtain ⟨ao, cc, rfl, htc, h4⟩ := htens
  obtain ⟨b, off, rfl, hbB, hcells⟩ := h4 (by omega)
  obtain ⟨u, hu, hru⟩ := hcells t (by omega)
  have hT0 : Tens B w (.slice (some ⟨b, off, none⟩) t cc) t := ⟨_, _, rfl, by omega, fun _ => ⟨_, _, rfl, hbB, fun i hi => hcells i (by omega)⟩⟩
  have hD : Hid (DivideOk x (ten t)) := divide_any x (ten t) (ten_pos t) (by omega)
  have hq : nl W32 (x / ten t) ≤ 900000 := Nat.le_trans (nl_le W32 _ (nl W32 x) (by decide) (Nat.lt_of_le_of_lt (Nat.div_le_self _ _) (lt_pow_nl W32 x (by decide)))) hx
  have hr : nl W32 (x % ten t) ≤ 900000 := Nat.le_trans (nl_le W32 _ (nl W32 x) (by decide) (Nat.lt_of_le_of_lt (Nat.mod_le _ _) (lt_pow_nl W32 x (by decide)))) hx
  have HQD : Hid (∀ p, dd (x / ten t) p = dd x (H + p)) := fun p => by rw [htn]; exact dd_hi x p H
  have HRD : Hid (∀ p, p < H → dd (x % ten t) p = dd x p) := fun p hp => by rw [htn]; exact dd_lo x p H hp
  have hru' := hru.rep
  clear hH20 hLs hp hcells htens0 hx h4 htn
  have hL2 : (2 * (H : Int)) / 2 = (H : Int) := by omega
  go_enter Tryd.func67, Tryd.ntmps67
  go_wp2_with fail
  refine (hD.out _ _ _ ha hru').mono ?_
  rintro e w1 ⟨vq, vr, rfl, hq1, hr1, hb1⟩
  have s1 := hb1.size
  have hgo1 : go < w1.heap.size := by omega
  have hout1 := hout.below hb1 hgo
  have hsoft1 := hsoft.below hb1 hgo
  have hT1 : Tens B w1 (.slice (some ⟨b, off, none⟩) t cc) t := hT0.below (hb1.mono (by omega))
  have hc1 : H ≤ c := by omega
  have hc2 : H ≤ c - H := by omega
  have hout1a := hout1.mono (show H ≤ 2 * H by omega)
  have hsoft1a := hsoft1.mono (show H ≤ 2 * H by omega)
  have hqr := hq1.rep
  have HIH : Hid (∀ (go oo c B : Nat) (va vt : Value) (x : Nat) (h0 : Nat → Int) (w : World), B ≤ go → go < w.heap.size → H ≤ c →
    Cells w .u8 go oo H h0 → Soft w go oo H → Rep w va x → nl W32 x ≤ 900000 → Tens B w vt t →
    Calls Tryd.prog 67 #[.slice (some ⟨go, oo, none⟩) H c, va, vt] w fun e w' =>
      e = .returned (.tuple #[]) ∧ Cells w' .u8 go oo H (fun i => dd x (H - 1 - i)) ∧ UpdB w.heap.size w w' go oo H) := IH
  clear IH hT0 hout hsoft ha hru hru' hu hD
  generalize hQ : x / ten t = Q at *
  generalize hR : x % ten t = R at *
  clear hQ hR
  have i1 : (0 : Int) ≤ (H : Int) := by omega
  have i2 : (H : Int) ≤ (c : Int) := by omega
  have i3 : (H : Int) ≤ 2 * (H : Int) := by omega
  have i4 : (t : Int) ≤ (cc : Int) := by omega
  have i5 : (0 : Int) ≤ (t : Int) := by omega
  have i6 : (t : Int) ≤ (t : Int) + 1 := by omega
  have i7 : 2 * (H : Int) ≤ (c : Int) := by omega
  have n1 : ¬ c = H := by omega
  have n2 : H ≤ 2 * H := by omega
  have n3 : t ≤ cc := by omega
  have n4 : 2 * H - H = H := by omega
  go_wp2
  go_region_held3 (fun _ => True) (trivial) (first
    | (go_at_call 67; refine (HIH.out go oo c B vq (.slice (some ⟨b, off, none⟩) t cc) Q h0 _ hB (by exact hgo1) hc1 (by exact hout1a) (by exact hsoft1a) (by exact hqr) hq (by exact hT1)).mono ?_; rintro e w2 ⟨rfl, hcq, hu20⟩; have hu2 : UpdB w1.heap.size w1 w2 go oo H := ⟨hu20.os, hu20.tape, hu20.output, hu20.size, hu20.block, hu20.cell, hu20.froz⟩))
  have s2 := hu2.size
  have hgo2 : go < w2.heap.size := by omega
  have hout2 : Cells w2 .u8 go (oo + H) H (fun i => h0 (H + i)) := fun i hi => by rw [hu2.cell _ (by omega)]; exact hout1.from H H (by omega) i hi
  have hsoft2 : Soft w2 go (oo + H) H := (hsoft1.from H H (by omega)).updB hu2
  have hT2 := hT1.below (hu2.below (B' := B) hB (by omega))
  have hr2 : Rep w2 vr R := by
    obtain ⟨ao, c', h1, h2, h3, h4⟩ := hr1
    refine ⟨ao, c', h1, h2, h3, fun hn => ?_⟩
    obtain ⟨b', off', e', hc', _, hB'⟩ := h4 hn
    refine ⟨b', off', e', fun i hi => ?_⟩
    rw [World.cell?_of_block (w := w1) (hu2.block b' (hc'.lt hn) (by omega))]
    exact hc' i hi
  clear hu20 hout1a hsoft1a hT1 hqr hq1 hr1
  go_wp2
  go_region_held3 (fun _ => True) (trivial) (first
    | (go_at_call 67; (try rw [n4]); refine (HIH.out go (oo + H) (c - H) B vr (.slice (some ⟨b, off, none⟩) t cc) R (fun i => h0 (H + i)) _ hB (by exact hgo2) hc2 (by exact hout2) (by exact hsoft2) (by exact hr2) hr (by exact hT2)).mono ?_; rintro e w3 ⟨rfl, hcr, hu30⟩; have hu3 : UpdB w2.heap.size w2 w3 go (oo + H) H := ⟨hu30.os, hu30.tape, hu30.output, hu30.size, hu30.block, hu30.cell, hu30.froz⟩))
  have hfin : Cells w3 .u8 go oo (2 * H) (fun i => dd x (2 * H - 1 - i)) := by
    intro i hi
    by_cases hiH : i < H
    · rw [hu3.cell _ (by omega), hcq i hiH]
      show some (Value.int IntKind.u8 (dd Q (H - 1 - i))) = some (Value.int IntKind.u8 (dd x (2 * H - 1 - i)))
      rw [HQD.out, show H + (H - 1 - i) = 2 * H - 1 - i by omega]
    · have h1 : w3.cell? ⟨go, oo + H + (i - H), none⟩ = some (Value.int IntKind.u8 (dd R (H - 1 - (i - H)))) := hcr (i - H) (by omega)
      rw [show oo + H + (i - H) = oo + i by omega, HRD.out _ (by omega), show H - 1 - (i - H) = 2 * H - 1 - i by omega] at h1
      exact h1
  have hU : UpdB w.heap.size w w3 go oo (2 * H) := (UpdB.of_below hb1 hgo).trans (((hu2.mono s1).wide (Nat.le_refl _) (by omega)).trans ((hu3.mono (by omega)).wide (by omega) (by omega)))
  clear hu30 hu3 hu2 hcr hcq hout2 hsoft2 hout1 hsoft1 hb1
  go_wp2
  go_end0
  exact ⟨rfl, hfin, hU⟩

theorem writes_all : ∀ t, t ≤ 21 → WritesAt t := by
  intro t
  induction t with
  | zero =>
    intro _ go oo c B va vt x h0 w hB hgo hc hout hsoft ha hx htens
    obtain ⟨ao, cc, rfl, _, _⟩ := htens
    exact writeBlocks_base go oo _ c 32 cc ao va x h0 w (by omega) (by unfold LIM; omega) hgo hout hsoft ha
  | succ t ih => exact fun h => writes_step t (by omega) (ih (by omega))

end Go.Proofs.YtjfacmeeplalkaaDoor

/-
  What nat.blockTens answers: the powers of ten that cut a number.
-/
namespace Go.Proofs.YtjfacmeeplalkaaDoor
open Go.RowKit

theorem info_nat : (Tryd.prog.info? 23).map (fun i => (i.zero, i.size, i.bytes)) = some (some (.slice none 0 0), 1, 24) := by kernel_rfl

/-- 'append' of one value to a row of the call's own: where the longer row lies. -/
theorem wpList_append_one {ops : Array Oper} {rest : List Oper} {o : Oper} {a : Act} {Q : Exit → Act → World → Prop} {w : World} (hgd : o.guard = none) (s x : Operand)
    (ho : o.op = .call { callee := .builtin .append, args := #[s, x], argTypes := #[89, 89] })
    (base g n cap : Nat) (us : List Value) (hs : a.eval s = .slice (some ⟨g, 0, none⟩) n cap) (hown : w.ownsRow base 23 1 (.slice (some ⟨g, 0, none⟩) n cap) n us)
    (ad : Addr) (c : Nat) (u : Value) (hx : a.eval x = .slice (some ad) 1 c) (hnew : ∀ j v, [u][j]? = some v → w.cell? (ad.add j) = some v) (hone : u.oneCell' = true) (hn : n ≤ 100000) (hbase : base ≤ w.heap.size)
    (h : ∀ g' cap' w', w'.ownsRow base 23 1 (.slice (some ⟨g', 0, none⟩) (n + 1) cap') (n + 1) (us ++ [u]) → w.grownBy w' (some g) → (g' = g ∨ g' = w.heap.size) → wpList Tryd.prog ops Q rest (a.put o.dst (.slice (some ⟨g', 0, none⟩) (n + 1) cap')) w') :
    wpList Tryd.prog ops Q (o :: rest) a w := by
  obtain ⟨i0, hi, hz0, hz1, hz2⟩ := info_parts info_nat
  have hone' : ∀ v ∈ [u], v.oneCell' = true := fun v hv => by simp at hv; rw [hv]; exact hone
  obtain ⟨v', w', hr, h2, h3, _⟩ := run_append_own (P := Tryd.prog) w base 89 o.type 23 i0 (.slice none 0 0) 1 24 Tryd.underlying89 hi hz0 hz1 hz2 rfl (by decide) _ n us hown ad 1 c [u] rfl hnew hone' (by unfold maxLen; omega) (by omega) hbase
  have hblk : ∃ g' cap', v' = .slice (some ⟨g', 0, none⟩) (n + 1) cap' ∧ (g' = g ∨ g' = w.heap.size) := by
    have hcells := hown.cells (g := g) rfl
    rcases hown.2 with ⟨h0, _⟩ | ⟨g0, cap0, cur, he, hbg, hg, hnc, hcm, hcs, htake⟩
    · cases h0
    · cases he
      by_cases hroom : n + 1 ≤ cap
      · have hr2 := run_append_room (P := Tryd.prog) w 89 o.type 23 i0 Tryd.underlying89 hi g n cap cur hg ad 1 c [u] (by rw [hz1]; rfl) hnew hone' hroom (by rw [hz1]; simp; omega)
        rw [hr2] at hr
        injection hr with hv hw
        exact ⟨g, cap, hv.symm, .inl rfl⟩
      · have hr2 := run_append_grow (P := Tryd.prog) w 89 o.type 23 i0 (.slice none 0 0) Tryd.underlying89 hi hz0 ⟨g, 0, none⟩ n cap us (by rw [hz1]; exact hown.1) hcells ad 1 c [u] (by rw [hz1]; rfl) hnew (by omega) (by omega) (growslice_fits (by omega) (by rw [hz2]; omega))
        rw [hr2] at hr
        injection hr with hv hw
        exact ⟨_, _, hv.symm, .inr rfl⟩
  obtain ⟨g', cap', rfl, hg'⟩ := hblk
  refine wpList_plain hgd fun K hK => ?_
  unfold Oper.wp execOp
  simp only [ho, resolve, invoke, builtin, Sem.run_bind, Sem.run_pure, Result.andThen_ok, List.map_toArray, List.map_cons, List.map_nil, hs, hx, hr]
  exact hK _ _ (h g' cap' w' h2 h3 hg')

/-- A number whose limbs do not lie in block g. -/
def RepN (g : Nat) (w : World) (v : Value) (m : Nat) : Prop :=
  ∃ ao c, v = .slice ao (nl W32 m) c ∧ nl W32 m ≤ c ∧ nl W32 m ≤ LIM ∧ (0 < nl W32 m → ∃ b off, ao = some ⟨b, off, none⟩ ∧ Cells w .u64 b off (nl W32 m) (dg W32 m) ∧ b ≠ g)
theorem RepN.rep {g : Nat} {w : World} {v : Value} {m : Nat} (h : RepN g w v m) : Rep w v m := by
  obtain ⟨ao, c, h1, h2, h3, h4⟩ := h
  exact ⟨ao, c, h1, h2, h3, fun hn => let ⟨b, off, e, hc, _⟩ := h4 hn; ⟨b, off, e, hc⟩⟩
theorem RepN.below {g : Nat} {w w' : World} {v : Value} {m : Nat} (h : RepN g w v m) (hb : Below w.heap.size w w') : RepN g w' v m := by
  obtain ⟨ao, c, h1, h2, h3, h4⟩ := h
  exact ⟨ao, c, h1, h2, h3, fun hn => let ⟨b, off, e, hc, hl⟩ := h4 hn; ⟨b, off, e, hc.below hb (hc.lt hn), hl⟩⟩
theorem RepN.grown {g g' : Nat} {w w' : World} {v : Value} {m : Nat} (h : RepN g w v m) (hg : w.grownBy w' (some g)) (h' : g' = g ∨ g' = w.heap.size) : RepN g' w' v m := by
  obtain ⟨ao, c, h1, h2, h3, h4⟩ := h
  refine ⟨ao, c, h1, h2, h3, fun hn => ?_⟩
  obtain ⟨b, off, e, hc, hl⟩ := h4 hn
  have hlt := hc.lt hn
  have hne : b ≠ g' := by
    rcases h' with h | h
    · rw [h]; exact hl
    · rw [h]; exact Nat.ne_of_lt hlt
  refine ⟨b, off, e, fun i hi => ?_, hne⟩
  rw [World.cell?_of_block (w := w) (hg.block b hlt (by simp; exact hl))]
  exact hc i hi
theorem RepM.repN {B g : Nat} {w : World} {v : Value} {m : Nat} (h : RepM B w v m) (hg : g < B) : RepN g w v m := by
  obtain ⟨ao, c, h1, h2, h3, h4⟩ := h
  exact ⟨ao, c, h1, h2, h3, fun hn => let ⟨b, off, e, hc, _, hB⟩ := h4 hn; ⟨b, off, e, hc, by omega⟩⟩
theorem Rep.repN {w : World} {v : Value} {m : Nat} (h : Rep w v m) : RepN w.heap.size w v m := by
  obtain ⟨ao, c, h1, h2, h3, h4⟩ := h
  exact ⟨ao, c, h1, h2, h3, fun hn => let ⟨b, off, e, hc⟩ := h4 hn; ⟨b, off, e, hc, Nat.ne_of_lt (hc.lt hn)⟩⟩
theorem rep_one {w : World} {v : Value} {m : Nat} (h : Rep w v m) : v.oneCell' = true := by
  obtain ⟨ao, c, rfl, _⟩ := h
  rfl

theorem owns_below {B : Nat} {e : TypeId} {w w' : World} {v : Value} {n : Nat} {us : List Value} (h : w.ownsRow B e 1 v n us) (hb : Below w.heap.size w w') : w'.ownsRow B e 1 v n us := by
  refine ⟨h.1, ?_⟩
  rcases h.2 with hn | ⟨g, cap, cur, rfl, hB, hg, rest⟩
  · exact .inl hn
  · refine .inr ⟨g, cap, cur, rfl, hB, ?_, rest⟩
    rw [hb.block g (Array.getElem?_eq_some_iff.1 hg).1]
    exact hg

/-- How long the powers are. -/
theorem ten_nl0 : nl W32 (ten 0) = 30 := by
  unfold ten
  rw [nl_spec W32 _ 30 (by decide) (by decide +kernel)]
  decide +kernel
theorem nl_square (p : Nat) (hp : 2 ≤ nl W32 p) : nl W32 p + 1 ≤ nl W32 (p * p) ∧ 2 * nl W32 p ≤ nl W32 (p * p) + 1 ∧ nl W32 (p * p) ≤ 2 * nl W32 p := by
  have h1 := pow_le_of_nl W32 p (by omega)
  have h2 := lt_pow_nl W32 p (by decide)
  have h3 : W32 ^ (nl W32 p - 1 + (nl W32 p - 1)) ≤ p * p := by rw [Nat.pow_add]; exact Nat.mul_le_mul h1 h1
  have h4 : nl W32 (p * p) ≤ nl W32 p + nl W32 p := nl_le W32 _ _ (by decide) (by rw [Nat.pow_add]; exact Nat.mul_lt_mul_of_lt_of_lt h2 h2)
  have h5 := lt_pow_nl W32 (p * p) (by decide)
  have h6 : nl W32 p - 1 + (nl W32 p - 1) < nl W32 (p * p) := by
    by_cases g : nl W32 p - 1 + (nl W32 p - 1) < nl W32 (p * p)
    · exact g
    · have := Nat.pow_le_pow_right (n := W32) (by decide) (show nl W32 (p * p) ≤ nl W32 p - 1 + (nl W32 p - 1) by omega)
      omega
  omega
theorem ten_fits (t n : Nat) (h : ¬ 2 * nl W32 (ten t) - 1 ≤ n) (h2 : 2 ≤ nl W32 (ten t)) : W32 ^ n ≤ ten (t + 1) := by
  rw [← ten_succ]
  have h1 := pow_le_of_nl W32 (ten t) (by omega)
  have h3 : W32 ^ (nl W32 (ten t) - 1 + (nl W32 (ten t) - 1)) ≤ ten t * ten t := by rw [Nat.pow_add]; exact Nat.mul_le_mul h1 h1
  exact Nat.le_trans (Nat.pow_le_pow_right (by decide) (by omega)) h3
theorem ten_bound (t : Nat) : 2 ^ t ≤ nl W32 (ten t) := by
  have h := lt_pow_nl W32 (ten t) (by decide)
  have h1 : W32 ^ 2 ^ t ≤ ten t := by
    unfold ten
    rw [Nat.pow_mul]
    exact Nat.pow_le_pow_left (by decide +kernel) _
  by_cases g : 2 ^ t ≤ nl W32 (ten t)
  · exact g
  · have := Nat.pow_le_pow_right (n := W32) (by decide) (show nl W32 (ten t) ≤ 2 ^ t by omega)
    omega

theorem power_ten (u : Value) (w : World) (hu : Rep w u 10) :
    Calls Tryd.prog 79 #[u, .int .i64 288] w fun e w' => ∃ r, e = .returned r ∧ RepM w.heap.size w' r (ten 0) ∧ Below w.heap.size w w' := by
  have h : ∀ K : Nat, K = 288 * 2 ^ 0 → Calls Tryd.prog 79 #[u, .int .i64 (K : Int)] w fun e w' => ∃ r, e = .returned r ∧ RepM w.heap.size w' r (10 ^ K) ∧ Below w.heap.size w w' :=
    fun K hK => power_any u 10 K w hu (by omega) (Nat.le_trans (nl_le W32 10 1 (by decide) (by decide)) (by omega))
  have hT : ∀ K : Nat, K = 288 * 2 ^ 0 → 10 ^ K = ten 0 := fun K hK => by rw [hK]; unfold ten; rfl
  have hI : ∀ K : Nat, K = 288 * 2 ^ 0 → (K : Int) = 288 := fun K hK => by omega
  obtain ⟨K, hK⟩ : ∃ K : Nat, K = 288 * 2 ^ 0 := ⟨_, rfl⟩
  have h' := h K hK
  rw [hT K hK, hI K hK] at h'
  exact h'

def vlen : Value → Nat
  | .slice _ n _ => n
  | _ => 0

set_option maxRecDepth 20000 in
set_option maxHeartbeats 1000000 in
theorem blockTens_any (n : Nat) (w : World) (h30 : 30 ≤ n) (hn : n ≤ 10000) :
    Calls Tryd.prog 66 #[.int .i64 (n : Int)] w fun e w' => ∃ v, e = .returned v ∧ ∃ t, Tens w'.heap.size w' v (t + 1) ∧ t ≤ 13 ∧ W32 ^ n ≤ ten (t + 1) ∧ Below w.heap.size w w' := by
  have i1 : ¬ (n : Int) ≤ 29 := by omega
  go_enter Tryd.func66, Tryd.ntmps66
  go_wp2_with fail
  refine (of_any 10 _ (by omega) (by omega)).mono ?_
  rintro e w1 ⟨o1, rfl, ho1, hb1⟩
  have ho1' : Rep w1 o1 10 := Mine.nums ho1
  go_wp2_with fail
  refine (power_ten o1 _ ho1').mono ?_
  rintro e w2 ⟨p2, rfl, hp2, hb2⟩
  have hp2' : Rep w2 p2 (ten 0) := hp2.rep
  have hs1 := hb1.size
  have B2 : Below w.heap.size w w2 := hb1.trans (hb2.mono hs1)
  clear hp2 hb1 hb2 ho1 ho1'
  obtain ⟨a2, c2, rfl, hl2⟩ := rep_val hp2'
  have hN0 : Hid (nl W32 (ten 0) = 30) := ten_nl0
  have hown0 : (w2.alloc (.cells #[.slice a2 (nl W32 (ten 0)) c2] 23)).ownsRow w.heap.size 23 1 (.slice (some ⟨w2.heap.size, 0, none⟩) 1 1) 1 [.slice a2 (nl W32 (ten 0)) c2] :=
    ⟨rfl, .inr ⟨_, 1, _, rfl, B2.size, heap_alloc_new _ _, Nat.le_refl _, by unfold maxLen; omega, rfl, rfl⟩⟩
  have hel0 : RepN w2.heap.size (w2.alloc (.cells #[.slice a2 (nl W32 (ten 0)) c2] 23)) (.slice a2 (nl W32 (ten 0)) c2) (ten 0) := (Rep.repN hp2').below ((Below.refl _ _).alloc (Nat.le_refl _) _)
  have B3 : Below w.heap.size w (w2.alloc (.cells #[.slice a2 (nl W32 (ten 0)) c2] 23)) := B2.alloc B2.size _
  go_wp2
  go_loopw [3, 4] (fun vp vo wr => ∃ (t g cap : Nat) (us : List Value), vo = .slice (some ⟨g, 0, none⟩) (t + 1) cap ∧ t + 30 ≤ nl W32 (ten t) ∧ nl W32 (ten t) ≤ n + 1 ∧ wr.ownsRow w.heap.size 23 1 vo (t + 1) us ∧ us[t]? = some vp ∧ (∀ i, i < t + 1 → ∃ u, us[i]? = some u ∧ RepN g wr u (ten i)) ∧ Below w.heap.size w wr) (fun _ vo _ => n + 2 - vlen vo)
  case atStart =>
    refine ⟨0, w2.heap.size, 1, [.slice a2 (nl W32 (ten 0)) c2], rfl, by rw [hN0.out]; omega, by rw [hN0.out]; omega, hown0, rfl, fun i hi => ?_, B3⟩
    obtain rfl : i = 0 := by omega
    exact ⟨_, rfl, hel0⟩
  case round =>
    clear hown0 hel0 B3 hp2' hl2
    obtain ⟨t, g, cap, us, rfl, ht1, ht2, hown, hlast, hels, hbel⟩ := hrel
    obtain ⟨u, hu1, hu2⟩ := hels t (by omega)
    rw [hlast] at hu1
    cases hu1
    have hsq := nl_square (ten t) (by omega)
    rw [ten_succ] at hsq
    have hfit := ten_fits t n
    have hbd := ten_bound t
    have hur := hu2.rep
    have hsz := hbel.size
    have hgl := World.ownsRow.lt hown g rfl
    have hus : us.length = t + 1 := by have := hown.1; omega
    have HP : Hid (ProdAt (ten t) (ten t)) := product_all _ _ (by omega)
    obtain ⟨a3, c3, rfl, hl3⟩ := rep_val hur
    have hq1 : t + 1 + 30 ≤ nl W32 (ten (t + 1)) := by omega
    have hq2 : 2 * nl W32 (ten t) - 1 ≤ n → nl W32 (ten (t + 1)) ≤ n + 1 := by omega
    have HQ1 : Hid (t + 1 + 30 ≤ nl W32 (ten (t + 1))) := hq1
    have HQ2 : Hid (2 * nl W32 (ten t) - 1 ≤ n → nl W32 (ten (t + 1)) ≤ n + 1) := hq2
    have HF : Hid (¬ 2 * nl W32 (ten t) - 1 ≤ n → 2 ≤ nl W32 (ten t) → W32 ^ n ≤ ten (t + 1)) := hfit
    have HE : Hid (∀ i, i < t + 1 → ∃ u, us[i]? = some u ∧ RepN g wr u (ten i)) := hels
    have HR : Hid (Rep wr (.slice a3 (nl W32 (ten t)) c3) (ten t)) := hur
    clear hq1 hq2 hfit hsq hels hur hu2 hlast
    generalize nl W32 (ten t) = l at *
    by_cases hgo : 2 * l - 1 ≤ n
    · have j1 : 2 * (l : Int) - 1 ≤ (n : Int) := by omega
      go_wp2_with fail
      refine (HP.out _ _ _ HR.out HR.out).mono ?_
      rintro e w4 ⟨p4, rfl, hp40, hb4⟩
      have hp4 : RepM wr.heap.size w4 p4 (ten (t + 1)) := by rw [← ten_succ]; exact hp40
      have s4 := hb4.size
      obtain ⟨a4, c4, rfl, hl4⟩ := rep_val hp4.rep
      have hown4 := owns_below hown hb4
      have hN4 : RepN g w4 (.slice a4 (nl W32 (ten (t + 1))) c4) (ten (t + 1)) := hp4.repN hgl.2
      have HN4 : Hid (RepN g w4 (.slice a4 (nl W32 (ten (t + 1))) c4) (ten (t + 1))) := hN4
      have hall : Hid (∀ i, i < t + 2 → ∃ u, (us ++ [.slice a4 (nl W32 (ten (t + 1))) c4])[i]? = some u ∧ RepN g w4 u (ten i)) := by
        intro i hi
        by_cases hit : i < t + 1
        · obtain ⟨u, h1, h2⟩ := HE.out i hit
          exact ⟨u, by rw [List.getElem?_append_left (by omega)]; exact h1, h2.below hb4⟩
        · obtain rfl : i = t + 1 := by omega
          exact ⟨_, by rw [List.getElem?_append_right (by omega), hus]; simp, HN4.out⟩
      have hlst : Hid ((us ++ [.slice a4 (nl W32 (ten (t + 1))) c4])[t + 1]? = some (.slice a4 (nl W32 (ten (t + 1))) c4)) := by
        show _ = _
        rw [List.getElem?_append_right (by omega), hus]; simp
      have hbel4 : Below w.heap.size w w4 := hbel.trans (hb4.mono hsz)
      clear hp40 hp4 hN4 HE HR hown hb4 HP hbel
      have HQ3 : Hid (nl W32 (ten (t + 1)) ≤ n + 1) := HQ2.out hgo
      generalize hl4' : nl W32 (ten (t + 1)) = l4 at *
      have HL4 : Hid (nl W32 (ten (t + 1)) = l4) := hl4'
      clear hl4'
      go_wp2_with (at_builtin; refine wpList_append_one rfl _ _ rfl w.heap.size g (t + 1) cap us rfl (hown4.alloc _) ⟨w4.heap.size, 0, none⟩ 1 (.slice a4 l4 c4) rfl (cell_one_new _ _ _) rfl (by omega) (by simp; omega) ?_)
      intro g' cap' w5 hown5 hgrow hg'
      have hb5 : Below w.heap.size w w5 := (hbel4.alloc (by omega) _).grown hgrow (by simp; omega) (fun k e => by simp at e; omega)
      have hall5 : ∀ i, i < t + 1 + 1 → ∃ u, (us ++ [.slice a4 l4 c4])[i]? = some u ∧ RepN g' w5 u (ten i) := fun i hi => by
        obtain ⟨u, h1, h2⟩ := hall.out i hi
        exact ⟨u, h1, (h2.below ((Below.refl _ _).alloc (Nat.le_refl _) _)).grown hgrow (by simpa using hg')⟩
      clear hgrow hown4 HN4 hbel4
      go_wp2
      go_roundw
      case rel => exact ⟨t + 1, g', cap', _, rfl, by rw [HL4.out]; exact HQ1.out, by rw [HL4.out]; exact HQ3.out, hown5, hlst.out, hall5, hb5⟩
      case measure => simp [vlen]; omega
    · have j1 : ¬ 2 * (l : Int) - 1 ≤ (n : Int) := by omega
      have hfin := HF.out hgo (by omega)
      have ht13 : t ≤ 13 := by
        by_cases q : t ≤ 13
        · exact q
        · have : 2 ^ 14 ≤ 2 ^ t := Nat.pow_le_pow_right (by omega) (by omega)
          omega
      have hT : Tens wr.heap.size wr (.slice (some ⟨g, 0, none⟩) (t + 1) cap) (t + 1) := by
        have hcells := hown.cells (g := g) rfl
        have hcap : t + 1 ≤ cap := by
          rcases hown.2 with ⟨h0, _⟩ | ⟨_, _, _, he, _, _, hnc, _⟩
          · cases h0
          · cases he; exact hnc
        refine ⟨_, _, rfl, hcap, fun _ => ⟨_, _, rfl, hgl.2, fun i hi => ?_⟩⟩
        obtain ⟨u, h1, h2⟩ := HE.out i hi
        refine ⟨u, ?_, Rep.repB h2.rep⟩
        have := hcells i u h1
        have e : (⟨g, 0, none⟩ : Addr).add i = ⟨g, 0 + i, none⟩ := by unfold Addr.add; split <;> simp_all
        rw [e] at this
        exact this
      have HFIN : Hid (W32 ^ n ≤ ten (t + 1)) := hfin
      clear hown HE HR HF hfin hgo HQ1 HQ2
      go_wp2
      go_ret
      exact ⟨_, rfl, t, hT, ht13, HFIN.out, hbel⟩

end Go.Proofs.YtjfacmeeplalkaaDoor

/-
  What nat.Print and nat.Digits answer of any number.
-/
namespace Go.Proofs.YtjfacmeeplalkaaDoor
open Go.RowKit

set_option maxRecDepth 20000 in
set_option maxHeartbeats 1000000 in
theorem print_long (v : Value) (n : Nat) (f : Nat → Int) (w : World) (hv : Nums .u64 w v n f) (hf : U64 n f) (h29 : 29 < nl W32 (num f n)) (hn : n ≤ 10000) :
    Calls Tryd.prog 50 #[v] w fun e w' => e = .returned (.string (txt (num f n))) ∧ Below w.heap.size w w' := by
  obtain ⟨i0, hi, hz0, hz1, hz2⟩ := info_parts info_u8
  have hxl := lt_pow_nl W32 (num f n) (by decide)
  have hxn := nl_le W32 (num f n) n (by decide) (num_lt f n)
  generalize hx : num f n = x at *
  go_enter Tryd.func50, Tryd.ntmps50
  go_wp2_with fail
  refine (plain_any _ _ _ _ hv hf).mono ?_
  rintro e w1 ⟨v1, rfl, hv1, hb1⟩
  rw [hx] at hv1
  have hv1' : Rep w1 v1 x := hv1
  obtain ⟨ao, c, rfl, hl⟩ := rep_val hv1
  have HRX : Hid (Rep w1 (.slice ao (nl W32 x) c) x) := hv1'
  have HX9 : Hid (nl W32 x ≤ 900000) := by show _ ≤ _; omega
  clear hv1 hv1'
  generalize hla : nl W32 x = la at *
  go_wp2_with fail
  refine (blockTens_any la _ (by omega) (by omega)).mono ?_
  rintro e w2 ⟨vt, rfl, t, hT, ht, hfit, hb2⟩
  have hxW : Hid (x < 10 ^ (288 * 2 ^ (t + 1))) := by show x < ten (t + 1); omega
  have hw9 : 2 ^ (t + 1) ≤ 2 ^ 14 := Nat.pow_le_pow_right (by omega) (by omega)
  have hw1 : 0 < 2 ^ (t + 1) := Nat.two_pow_pos _
  have HWR : Hid (WritesAt (t + 1)) := writes_all (t + 1) (by omega)
  obtain ⟨W, hW⟩ : ∃ W, W = 288 * 2 ^ (t + 1) := ⟨_, rfl⟩
  have hWb : 9 ≤ W ∧ W ≤ 10000000 := by omega
  have HW : Hid (W = 288 * 2 ^ (t + 1)) := hW
  have hwr : wrap64 ((288 : Int) * 2 ^ (t + 1)) = (W : Int) := by
    have e : ((288 : Int) * 2 ^ (t + 1)) = (W : Int) := by rw [hW]; simp
    rw [e]; unfold wrap64; omega
  have hWm : W ≤ maxLen := by unfold maxLen; omega
  have hWa : i0.bytes * W ≤ 281474976710656 := by rw [hz2]; omega
  rw [← hW] at hxW
  have hT' := hT
  obtain ⟨bo, tc, rfl, htc, hT4⟩ := hT'
  clear hT4 hW hw9 hw1 hfit hxl
  go_wp2_with (at_make; refine wpList_make_full _ rfl _ _ 91 rfl _ 5 i0 (.int .u8 0) 1 Tryd.underlying91 hi hz0 hz1 .i64 .i64 (wrap64 ((288 : Int) * 2 ^ (t + 1))) (wrap64 ((288 : Int) * 2 ^ (t + 1))) W rfl rfl hwr hwr hWa hWm (Nat.le_refl _) ?_; intro w3 hown hgrow)
  clear hwr hWa hWm
  have hb3 := below_grown hgrow
  obtain ⟨hc3, hs3⟩ := mine_made (k := .u8) (w := w2) hown (fun _ => 0) (fun i hi => made_zero .u8 W i hi)
  clear hown hgrow
  have hlt3 := hc3.lt (by omega)
  have hT3 := hT.below hb3
  have hx3 := Nums.below (Nums.below HRX.out hb2) hb3
  have hWR := HWR.out
  unfold WritesAt at hWR
  rw [← HW.out] at hWR
  have hX9 : nl W32 x ≤ 900000 := by rw [hla]; exact HX9.out
  have HCALL : Hid (Calls Tryd.prog 67 #[.slice (some ⟨w2.heap.size, 0, none⟩) W W, .slice ao la c, .slice bo (t + 1) tc] w3 fun e w' =>
      e = .returned (.tuple #[]) ∧ Cells w' .u8 w2.heap.size 0 W (fun i => dd x (W - 1 - i)) ∧ UpdB w3.heap.size w3 w' w2.heap.size 0 W) :=
    hWR w2.heap.size 0 W w2.heap.size _ _ x _ w3 (Nat.le_refl _) hlt3 (Nat.le_refl _) hc3 hs3 hx3 hX9 hT3
  clear hWR HWR hT hT3 hx3 HRX hX9 HX9 hla HW
  refine (HCALL.out).mono ?_
  rintro e w4 ⟨rfl, hc4, hu4⟩
  have s1 := hb1.size
  have s2 := hb2.size
  have s3 := hb3.size
  have s4 := hu4.size
  have hbel : Below w.heap.size w w4 := hb1.trans ((hb2.mono s1).trans ((hb3.mono (by omega)).trans (hu4.below (by omega) (by omega))))
  clear hc3 hs3 hb3 hu4 HCALL
  go_wp2
  go_loop [6] (fun v => ∃ a : Nat, a < W ∧ v = .int .i64 (a : Int) ∧ ∀ i, i < a → dd x (W - 1 - i) = 48) (fun v => W - (intOf v).toNat)
  case atStart => exact ⟨0, by omega, rfl, fun i hi => by omega⟩
  case round =>
    obtain ⟨a, ha, rfl, hz⟩ := hrel
    have HZ : Hid (∀ i, i < a → dd x (W - 1 - i) = 48) := hz
    clear hz
    have hcell : w4.cell? ⟨w2.heap.size, a, none⟩ = some (.int .u8 (dd x (W - 1 - a))) := by have := hc4 a ha; rw [Nat.zero_add] at this; exact this
    have hconv := run_convert_bytes_arg (P := Tryd.prog) w4 91 5 Tryd.underlying91 Tryd.underlying5 w2.heap.size a (W - a) (W - a) (decs x (W - a)) (decs_length _ _)
      (fun i hi => by rw [decs_at _ _ _ hi]; have := hc4 (a + i) (by omega); rw [Nat.zero_add] at this; rw [show W - a - 1 - i = W - 1 - (a + i) by omega]; exact this) 9 Tryd.underlying9
    by_cases hlast : a + 1 < W
    · have hg : decide ((a : Int) < (W : Int) - 1) = true := by simp; omega
      by_cases h48 : dd x (W - 1 - a) = 48
      · have hbq : (dd x (W - 1 - a) == 48) = true := by simp [h48]
        have H48 : Hid (dd x (W - 1 - a) = 48) := h48
        clear h48
        go_wp2
        go_round
        case rel => exact ⟨a + 1, by omega, by go_num, fun i hi => by by_cases e : i = a; exact e ▸ H48.out; exact HZ.out i (by omega)⟩
        case measure => simp [intOf]; omega
      · have hbq : (dd x (W - 1 - a) == 48) = false := by simp [h48]
        go_wp2
        go_ret
        have hend := strip_end x W a hxW.out ha HZ.out (.inr h48)
        refine ⟨?_, hbel⟩
        show Ending.returned (.string (strOfNums (decs x (W - a)))) = _
        rw [hend]; rfl
    · have hg : decide ((a : Int) < (W : Int) - 1) = false := by simp; omega
      go_wp2
      go_ret
      have hend := strip_end x W a hxW.out ha HZ.out (.inl (by omega))
      refine ⟨?_, hbel⟩
      show Ending.returned (.string (strOfNums (decs x (W - a)))) = _
      rw [hend]; rfl

theorem print_any (v : Value) (n : Nat) (f : Nat → Int) (w : World) (hv : Nums .u64 w v n f) (hf : U64 n f) (hn : n ≤ 10000) :
    Calls Tryd.prog 50 #[v] w fun e w' => e = .returned (.string (txt (num f n))) ∧ Below w.heap.size w w' := by
  by_cases h : nl W32 (num f n) ≤ 29
  · exact print_short v n f w hv hf h
  · exact print_long v n f w hv hf (by omega) hn

theorem txt_size (x : Nat) : (txt x).size = ndec x := by
  unfold txt strOfNums
  simp [ByteArray.size, decs_length]

end Go.Proofs.YtjfacmeeplalkaaDoor

/-
  What whole.Of, To, Cmp, Print answer.
-/
namespace Go.Proofs.YtjfacmeeplalkaaDoor
open Go.RowKit

theorem zof_of_neg (k : Int) (h : k < 0) : zof true (-k).toNat = k := by rw [zof_true]; omega
theorem zof_of_pos (k : Int) (h : 0 ≤ k) : zof false k.toNat = k := by rw [zof_false]; omega

set_option maxRecDepth 20000 in
set_option maxHeartbeats 400000 in
theorem wof_any (k : Int) (w : World) (h0 : -9223372036854775808 ≤ k) (h1 : k ≤ 9223372036854775807) :
    Calls Tryd.prog 20 #[.int .i64 k] w fun e w' => ∃ r, e = .returned r ∧ RepI w' r k ∧ Below w.heap.size w w' := by
  have hA : ∀ o, Below w.heap.size w (w.alloc o) := fun o => (Below.refl _ _).alloc (Nat.le_refl _) _
  by_cases hk : k < 0
  · have e1 : IntKind.u64.wrap k = k + 18446744073709551616 := by rw [IntKind.wrap_u64]; omega
    have e2 : IntKind.u64.wrap (-(k + 18446744073709551616)) = -k := by rw [IntKind.wrap_u64]; omega
    go_enter Tryd.func20, Tryd.ntmps20
    go_wp2_with fail
    refine (of_any _ _ (by omega) (by omega)).mono ?_
    rintro e w1 ⟨s, rfl, hs, hb1⟩
    have hk1 := keepW hb1 (by simp) (resW w _ _ _)
    have B1 := (hA _).trans (hb1.mono (by simp))
    go_wp2_with fail
    refine (signed_any _ _ _ _ hs.nums).mono ?_
    rintro e w2 ⟨r, rfl, hr, hb2⟩
    obtain ⟨b2, ao2, n2, c2, rfl⟩ := hr.open
    obtain ⟨q1, q2, q3, q4⟩ := keepW hb2 (Nat.le_refl _) hk1
    go_wp2
    (try simp only [Exit.inBlock, Exit.then])
    refine bodyPost_ret (v := .agg #[.bool b2, .slice ao2 n2 c2]) (by simp [results, go_sem, q1, q2]) rfl ?_
    have B2 := B1.trans (hb2.mono B1.size)
    rw [zof_of_neg k hk] at hr
    exact ⟨_, rfl, hr.store2 q1 q2 _ _, below_store2 B2 (by omega) _ _⟩
  · have e1 : IntKind.u64.wrap k = k := by rw [IntKind.wrap_u64]; omega
    go_enter Tryd.func20, Tryd.ntmps20
    go_wp2_with fail
    refine (of_any _ _ (by omega) (by omega)).mono ?_
    rintro e w1 ⟨s, rfl, hs, hb1⟩
    have hk1 := keepW hb1 (by simp) (resW w _ _ _)
    have B1 := (hA _).trans (hb1.mono (by simp))
    go_wp2_with fail
    refine (signed_any _ _ _ _ hs.nums).mono ?_
    rintro e w2 ⟨r, rfl, hr, hb2⟩
    obtain ⟨b2, ao2, n2, c2, rfl⟩ := hr.open
    obtain ⟨q1, q2, q3, q4⟩ := keepW hb2 (Nat.le_refl _) hk1
    go_wp2
    (try simp only [Exit.inBlock, Exit.then])
    refine bodyPost_ret (v := .agg #[.bool b2, .slice ao2 n2 c2]) (by simp [results, go_sem, q1, q2]) rfl ?_
    have B2 := B1.trans (hb2.mono B1.size)
    rw [zof_of_pos k (by omega)] at hr
    exact ⟨_, rfl, hr.store2 q1 q2 _ _, below_store2 B2 (by omega) _ _⟩

theorem toV_num (f : Nat → Int) (n : Nat) (h : sz (lo f) n ≤ 2) : toV f n = (num f n : Int) := by
  have hv := num_val f n
  rw [val_sz] at hv
  unfold toV
  rw [if_pos h]
  have key : ∀ i, at0 f n i % 4294967296 = if i < n then lo f i else 0 := by
    intro i; unfold at0 lo; split <;> simp
  have hz : ∀ i, sz (lo f) n ≤ i → (if i < n then lo f i else 0) = 0 := by
    intro i hi
    by_cases g : i < n
    · rw [if_pos g]; exact sz_above (lo f) n i hi g
    · rw [if_neg g]
  have hle := sz_le (lo f) n
  rw [key 1, key 0]
  rcases (show sz (lo f) n = 0 ∨ sz (lo f) n = 1 ∨ sz (lo f) n = 2 by omega) with e | e | e
  · rw [hz 0 (by omega), hz 1 (by omega)]
    rw [e] at hv; simp [val] at hv; omega
  · rw [hz 1 (by omega), if_pos (show 0 < n by omega)]
    rw [e] at hv; simp [val] at hv; omega
  · rw [if_pos (show 0 < n by omega), if_pos (show 1 < n by omega)]
    rw [e] at hv; simp [val] at hv; omega
theorem nl_two (x : Nat) : nl W32 x ≤ 2 ↔ x < 18446744073709551616 := by
  constructor
  · intro h
    have h1 := lt_pow_nl W32 x (by decide)
    have h2 : W32 ^ nl W32 x ≤ W32 ^ 2 := Nat.pow_le_pow_right (by decide) h
    unfold W32 at *; omega
  · intro h; exact nl_le W32 x 2 (by decide) (by unfold W32; omega)

/-- Is a number small? -/
def fitsB (z : Int) : Bool := decide (-9223372036854775808 ≤ z ∧ z ≤ 9223372036854775807)
/-- The number as a small one; 0, if it is not. -/
def toI (z : Int) : Int := if fitsB z = true then z else 0

/-- A number's text. -/
def ztxt (z : Int) : ByteArray := if z < 0 then { data := #[45] } ++ txt z.natAbs else txt z.natAbs

theorem ndec_le (x n : Nat) (h : x < W32 ^ n) : ndec x ≤ 10 * n + 1 := by
  have h1 : W32 ^ n ≤ 10 ^ (10 * n) := by rw [Nat.pow_mul]; exact Nat.pow_le_pow_left (by decide) n
  have h2 := nl_le 10 x (10 * n) (by omega) (by omega)
  unfold ndec; split <;> omega

set_option maxRecDepth 20000 in
set_option maxHeartbeats 1000000 in
theorem wprint_any (v : Value) (z : Int) (L : Nat) (w : World) (h : IntAt w v z L) (hL : L ≤ 10000) :
    Calls Tryd.prog 33 #[v] w fun e w' => e = .returned (.string (ztxt z)) ∧ Below w.heap.size w w' := by
  obtain ⟨neg, ao, n, c, f, rfl, h, hf, rfl, hn⟩ := h
  have hA : ∀ o, Below w.heap.size w (w.alloc o) := fun o => (Below.refl _ _).alloc (Nat.le_refl _) _
  obtain ⟨c1, c2, _, _⟩ := resW w 25 (.bool neg) (.slice ao n c)
  go_enter Tryd.func33, Tryd.ntmps33
  go_wp2_with fail
  refine (sign_any _ (zof neg (num f n)) L _ ⟨_, _, _, _, _, rfl, h.below (hA _), hf, rfl, hn⟩).mono ?_
  rintro e w1 ⟨rfl, hb1⟩
  obtain ⟨d1, d2⟩ := keep2 hb1 (by simp) ⟨c1, c2⟩
  have B1 := (hA _).trans (hb1.mono (by simp))
  clear c1 c2
  by_cases hz : zof neg (num f n) < 0
  · rw [cmpI_lt hz]
    go_wp2_with fail
    refine (print_any _ _ _ _ (h.below B1) hf (by omega)).mono ?_
    rintro e w2 ⟨rfl, hb2⟩
    have HZ : Hid (ztxt (zof neg (num f n)) = { data := #[45] } ++ txt (num f n)) := by show _ = _; unfold ztxt; rw [if_pos hz, zof_abs]
    clear hz
    have hts : (txt (num f n)).size ≤ 1000000 := by
      rw [txt_size]; have := ndec_le _ _ (num_lt f n); omega
    generalize hT : txt (num f n) = T at *
    go_wp2
    go_ret
    exact ⟨by rw [HZ.out]; rfl, B1.trans (hb2.mono B1.size)⟩
  · have hc : ¬ cmpI (zof neg (num f n)) 0 < 0 := by unfold cmpI; rw [if_neg hz]; split <;> omega
    have HZ : Hid (ztxt (zof neg (num f n)) = txt (num f n)) := by show _ = _; unfold ztxt; rw [if_neg hz, zof_abs]
    clear hz
    generalize cmpI (zof neg (num f n)) 0 = C at *
    go_wp2_with fail
    refine (print_any _ _ _ _ (h.below B1) hf (by omega)).mono ?_
    rintro e w2 ⟨rfl, hb2⟩
    go_wp2
    go_ret
    exact ⟨by rw [HZ.out]; rfl, B1.trans (hb2.mono B1.size)⟩

theorem cmp_sign {x y : Int} (h : ¬ cmpI x 0 = cmpI y 0) : cmpI (cmpI x 0) (cmpI y 0) = cmpI x y := by
  unfold cmpI at *; repeat' split <;> simp_all <;> omega

end Go.Proofs.YtjfacmeeplalkaaDoor

/-
  What whole.DivMod answers.
-/
namespace Go.Proofs.YtjfacmeeplalkaaDoor
open Go.RowKit
set_option linter.unusedVariables false

theorem nl_mono (B x y : Nat) (hB : 2 ≤ B) (h : x ≤ y) : nl B x ≤ nl B y := nl_le B x _ hB (Nat.lt_of_le_of_lt h (lt_pow_nl B y hB))
theorem nl_one : nl W32 1 ≤ 1 := nl_le W32 1 1 (by decide) (by decide)

theorem floor_pos {x y q r : Int} (h : x = y * q + r) (hy : 0 < y) (h0 : 0 ≤ r) (h1 : r < y) : q = x.fdiv y ∧ r = x.fmod y := by
  have e1 : x / y = q ∧ x % y = r := (Int.ediv_emod_unique hy).2 ⟨by rw [Int.add_comm]; exact h.symm, h0, h1⟩
  rw [Int.fdiv_eq_ediv_of_nonneg _ (by omega), Int.fmod_eq_emod_of_nonneg _ (by omega)]
  exact ⟨e1.1.symm, e1.2.symm⟩
theorem floor_neg {x y q r : Int} (h : x = y * q + r) (hy : y < 0) (h0 : r ≤ 0) (h1 : y < r) : q = x.fdiv y ∧ r = x.fmod y := by
  have e := floor_pos (x := -x) (y := -y) (q := q) (r := -r) (by rw [h, Int.neg_mul]; omega) (by omega) (by omega) (by omega)
  have e1 : q = x.fdiv y := by rw [e.1, Int.neg_fdiv_neg]
  refine ⟨e1, ?_⟩
  have e2 := Int.mul_fdiv_add_fmod x y
  rw [← e1] at e2; omega

theorem floor_same (p : Bool) (X Y : Nat) (hY : 0 < Y) : (zof p X).fdiv (zof p Y) = zof false (X / Y) ∧ (zof p X).fmod (zof p Y) = zof p (X % Y) := by
  have h1 := Nat.div_add_mod X Y
  have h2 := Nat.mod_lt X hY
  have h3 : (X : Int) = (Y : Int) * ((X / Y : Nat) : Int) + ((X % Y : Nat) : Int) := by rw [← Int.natCast_mul]; omega
  generalize X / Y = Q at *
  generalize X % Y = R at *
  cases p with
  | false =>
    simp only [zof_false]
    have := floor_pos h3 (by omega) (by omega) (by omega)
    exact ⟨this.1.symm, this.2.symm⟩
  | true =>
    simp only [zof_true, zof_false]
    have := floor_neg (x := -(X : Int)) (y := -(Y : Int)) (q := Q) (r := -(R : Int)) (by rw [h3, Int.neg_mul]; omega) (by omega) (by omega) (by omega)
    exact ⟨this.1.symm, this.2.symm⟩
theorem floor_even (p : Bool) (X Y : Nat) (hY : 0 < Y) (hR : X % Y = 0) : (zof p X).fdiv (zof (!p) Y) = zof true (X / Y) ∧ (zof p X).fmod (zof (!p) Y) = 0 := by
  have h1 := Nat.div_add_mod X Y
  have h3 : (X : Int) = (Y : Int) * ((X / Y : Nat) : Int) := by rw [← Int.natCast_mul]; omega
  generalize X / Y = Q at *
  cases p with
  | false =>
    simp only [zof_false, Bool.not_false, zof_true]
    have := floor_neg (x := (X : Int)) (y := -(Y : Int)) (q := -(Q : Int)) (r := 0) (by rw [h3, Int.neg_mul_neg]; omega) (by omega) (by omega) (by omega)
    exact ⟨this.1.symm, this.2.symm⟩
  | true =>
    simp only [zof_true, Bool.not_true, zof_false]
    have := floor_pos (x := -(X : Int)) (y := (Y : Int)) (q := -(Q : Int)) (r := 0) (by rw [h3, Int.mul_neg]; omega) (by omega) (by omega) (by omega)
    exact ⟨this.1.symm, this.2.symm⟩
theorem floor_odd (p : Bool) (X Y : Nat) (hY : 0 < Y) (hR : X % Y ≠ 0) : (zof p X).fdiv (zof (!p) Y) = zof true (X / Y + 1) ∧ (zof p X).fmod (zof (!p) Y) = zof (!p) (Y - X % Y) := by
  have h1 := Nat.div_add_mod X Y
  have h2 := Nat.mod_lt X hY
  have h3 : (X : Int) = (Y : Int) * ((X / Y : Nat) : Int) + ((X % Y : Nat) : Int) := by rw [← Int.natCast_mul]; omega
  generalize X / Y = Q at *
  generalize X % Y = R at *
  cases p with
  | false =>
    simp only [zof_false, Bool.not_false, zof_true]
    have := floor_neg (x := (X : Int)) (y := -(Y : Int)) (q := -((Q + 1 : Nat) : Int)) (r := -((Y - R : Nat) : Int)) (by rw [h3, Int.neg_mul_neg, Int.natCast_add, Int.mul_add]; omega) (by omega) (by omega) (by omega)
    exact ⟨this.1.symm, this.2.symm⟩
  | true =>
    simp only [zof_true, Bool.not_true, zof_false]
    have := floor_pos (x := -(X : Int)) (y := (Y : Int)) (q := -((Q + 1 : Nat) : Int)) (r := ((Y - R : Nat) : Int)) (by rw [h3, Int.mul_neg, Int.natCast_add, Int.mul_add]; omega) (by omega) (by omega) (by omega)
    exact ⟨this.1.symm, this.2.symm⟩

/-- Two variables for structs laid behind two others. -/
theorem res34 (w : World) (o o' : Obj) (t t' : TypeId) (x y x' y' : Value) :
    ((((w.alloc o).alloc o').alloc (.cells #[x, y] t)).alloc (.cells #[x', y'] t')).cell? ⟨w.heap.size + 1 + 1, 0, none⟩ = some x ∧
    ((((w.alloc o).alloc o').alloc (.cells #[x, y] t)).alloc (.cells #[x', y'] t')).cell? ⟨w.heap.size + 1 + 1, 1, none⟩ = some y ∧
    ((((w.alloc o).alloc o').alloc (.cells #[x, y] t)).alloc (.cells #[x', y'] t')).frozen? ⟨w.heap.size + 1 + 1, 0, none⟩ = false ∧
    ((((w.alloc o).alloc o').alloc (.cells #[x, y] t)).alloc (.cells #[x', y'] t')).frozen? ⟨w.heap.size + 1 + 1, 1, none⟩ = false := by
  refine keepW (B := w.heap.size + 1 + 1 + 1) ((Below.refl _ _).alloc (by simp) _) (by simp) (res2 w o o' t x y)
theorem res4 (w : World) (o o' o'' : Obj) (t : TypeId) (x y : Value) :
    ((((w.alloc o).alloc o').alloc o'').alloc (.cells #[x, y] t)).cell? ⟨w.heap.size + 1 + 1 + 1, 0, none⟩ = some x ∧ ((((w.alloc o).alloc o').alloc o'').alloc (.cells #[x, y] t)).cell? ⟨w.heap.size + 1 + 1 + 1, 1, none⟩ = some y ∧
    ((((w.alloc o).alloc o').alloc o'').alloc (.cells #[x, y] t)).frozen? ⟨w.heap.size + 1 + 1 + 1, 0, none⟩ = false ∧ ((((w.alloc o).alloc o').alloc o'').alloc (.cells #[x, y] t)).frozen? ⟨w.heap.size + 1 + 1 + 1, 1, none⟩ = false := by
  have h := resW (((w.alloc o).alloc o').alloc o'') t x y
  rw [World.size_alloc, World.size_alloc, World.size_alloc] at h; exact h


theorem box_b (w : World) (t t' : TypeId) (p q p' q' : Value) (o o' : Obj) :
    ((((w.alloc (.cells #[p, q] t)).alloc (.cells #[p', q'] t')).alloc o).alloc o').cell? ⟨w.heap.size, 0, none⟩ = some p ∧
    ((((w.alloc (.cells #[p, q] t)).alloc (.cells #[p', q'] t')).alloc o).alloc o').cell? ⟨w.heap.size, 1, none⟩ = some q ∧
    ((((w.alloc (.cells #[p, q] t)).alloc (.cells #[p', q'] t')).alloc o).alloc o').cell? ⟨w.heap.size + 1, 0, none⟩ = some p' ∧
    ((((w.alloc (.cells #[p, q] t)).alloc (.cells #[p', q'] t')).alloc o).alloc o').cell? ⟨w.heap.size + 1, 1, none⟩ = some q' := by
  have h0 := resW w t p q
  have h1 := res1 w (.cells #[p, q] t) t' p' q'
  have b1 : Below (w.heap.size + 1) (w.alloc (.cells #[p, q] t)) ((((w.alloc (.cells #[p, q] t)).alloc (.cells #[p', q'] t')).alloc o).alloc o') :=
    (((Below.refl _ _).alloc (by simp) _).alloc (by simp) _).alloc (by simp <;> omega) _
  have b2 : Below (w.heap.size + 1 + 1) ((w.alloc (.cells #[p, q] t)).alloc (.cells #[p', q'] t')) ((((w.alloc (.cells #[p, q] t)).alloc (.cells #[p', q'] t')).alloc o).alloc o') :=
    ((Below.refl _ _).alloc (by simp) _).alloc (by simp) _
  have k0 := keep2 b1 (by simp) ⟨h0.1, h0.2.1⟩
  have k1 := keep2 b2 (by simp) ⟨h1.1, h1.2.1⟩
  exact ⟨k0.1, k0.2, k1.1, k1.2⟩

/-- Two answers stored. -/
theorem RepI.store4 {w : World} {v : Value} {z : Int} (h : RepI w v z) {R R' m c m' c' : Nat} {p p' : Bool} {ao ao' : Option Addr} (q1 : w.cell? ⟨R, 0, none⟩ = some (.bool p)) (q2 : w.cell? ⟨R, 1, none⟩ = some (.slice ao m c))
    (q3 : w.cell? ⟨R', 0, none⟩ = some (.bool p')) (q4 : w.cell? ⟨R', 1, none⟩ = some (.slice ao' m' c')) (hne : R' ≠ R) (x y x' y' : Value) :
    RepI ((((w.setCell ⟨R, 0, none⟩ x).setCell ⟨R, 1, none⟩ y).setCell ⟨R', 0, none⟩ x').setCell ⟨R', 1, none⟩ y') v z := by
  have a1 : ((w.setCell ⟨R, 0, none⟩ x).setCell ⟨R, 1, none⟩ y).cell? ⟨R', 0, none⟩ = some (.bool p') := by
    rw [World.cell?_setCell_other _ _ _ _ (fun e => by injection e; omega), World.cell?_setCell_other _ _ _ _ (fun e => by injection e; omega)]; exact q3
  have a2 : ((w.setCell ⟨R, 0, none⟩ x).setCell ⟨R, 1, none⟩ y).cell? ⟨R', 1, none⟩ = some (.slice ao' m' c') := by
    rw [World.cell?_setCell_other _ _ _ _ (fun e => by injection e; omega), World.cell?_setCell_other _ _ _ _ (fun e => by injection e; omega)]; exact q4
  exact (h.store2 q1 q2 x y).store2 a1 a2 x' y'

/-- What DivMod answers where there is a quotient. -/
def DivOut (x y : Int) (B : Nat) (w : World) (e : Ending) (w' : World) : Prop :=
  ∃ q r, e = .returned (.tuple #[q, r, .int .i64 0]) ∧ RepI w' q (x.fdiv y) ∧ RepI w' r (x.fmod y) ∧ Below B w w'

set_option maxRecDepth 20000 in
set_option maxHeartbeats 2000000 in
theorem wdiv_zero (p q : Bool) (ao : Option Addr) (n c : Nat) (f : Nat → Int) (bo : Option Addr) (m d : Nat) (g : Nat → Int) (w : World)
    (hu : Nums .u64 w (.slice ao n c) n f) (hf : U64 n f) (hv : Nums .u64 w (.slice bo m d) m g) (hg : U64 m g) (h0 : num g m = 0) :
    Calls Tryd.prog 22 #[.agg #[.bool p, .slice ao n c], .agg #[.bool q, .slice bo m d]] w fun e w' => ∃ q r, e = .returned (.tuple #[q, r, .int .i64 2]) ∧ RepI w' q 0 ∧ RepI w' r 0 ∧ Below w.heap.size w w' := by
  have hA : ∀ o o' o'' o3, Below w.heap.size w ((((w.alloc o).alloc o').alloc o'').alloc o3) := fun o o' o'' o3 => ((((Below.refl _ _).alloc (Nat.le_refl _) _).alloc (by simp) _).alloc (by simp; omega) _).alloc (by simp; omega) _
  have ne1 : ¬ w.heap.size = w.heap.size + 1 + 1 := by omega
  have ne2 : ¬ w.heap.size + 1 + 1 = w.heap.size := by omega
  have ne3 : ¬ w.heap.size = w.heap.size + 1 + 1 + 1 := by omega
  have ne4 : ¬ w.heap.size + 1 + 1 + 1 = w.heap.size := by omega
  have ne5 : ¬ w.heap.size + 1 = w.heap.size + 1 + 1 + 1 := by omega
  have ne6 : ¬ w.heap.size + 1 + 1 + 1 = w.heap.size + 1 := by omega
  obtain ⟨c1, c2, c3, c4⟩ := box_b w 25 25 (.bool p) (.slice ao n c) (.bool q) (.slice bo m d) (.cells #[.bool false, .slice none 0 0] 25) (.cells #[.bool false, .slice none 0 0] 25)
  go_enter Tryd.func22, Tryd.ntmps22
  go_wp2_with fail
  refine (divMod_zero _ _ _ _ _ (hv.below (hA _ _ _ _)) hg h0).mono ?_
  rintro e w0 ⟨rfl, hw⟩
  subst hw
  go_wp2
  (try simp only [Exit.inBlock, Exit.then])
  refine bodyPost_ret (v := .tuple #[.agg #[.bool false, .slice none 0 0], .agg #[.bool false, .slice none 0 0], .int .i64 2]) (by simp [results, go_sem]) rfl ?_
  exact ⟨_, _, rfl, RepI.nil _, RepI.nil _, hA _ _ _ _⟩

set_option maxRecDepth 20000 in
set_option maxHeartbeats 2000000 in
theorem wdiv_same (p : Bool) (ao : Option Addr) (n c : Nat) (f : Nat → Int) (bo : Option Addr) (m d : Nat) (g : Nat → Int) (w : World)
    (hu : Nums .u64 w (.slice ao n c) n f) (hf : U64 n f) (hv : Nums .u64 w (.slice bo m d) m g) (hg : U64 m g) (h0 : num g m ≠ 0) (hl : nl W32 (num f n) ≤ 999999) :
    Calls Tryd.prog 22 #[.agg #[.bool p, .slice ao n c], .agg #[.bool p, .slice bo m d]] w fun e w' => DivOut (zof p (num f n)) (zof p (num g m)) w.heap.size w e w' := by
  have hA : ∀ o o' o'' o3, Below w.heap.size w ((((w.alloc o).alloc o').alloc o'').alloc o3) := fun o o' o'' o3 => ((((Below.refl _ _).alloc (Nat.le_refl _) _).alloc (by simp) _).alloc (by simp; omega) _).alloc (by simp; omega) _
  have ne1 : ¬ w.heap.size = w.heap.size + 1 + 1 := by omega
  have ne2 : ¬ w.heap.size + 1 + 1 = w.heap.size := by omega
  have ne3 : ¬ w.heap.size = w.heap.size + 1 + 1 + 1 := by omega
  have ne4 : ¬ w.heap.size + 1 + 1 + 1 = w.heap.size := by omega
  have ne5 : ¬ w.heap.size + 1 = w.heap.size + 1 + 1 + 1 := by omega
  have ne6 : ¬ w.heap.size + 1 + 1 + 1 = w.heap.size + 1 := by omega
  obtain ⟨c1, c2, c3, c4⟩ := box_b w 25 25 (.bool p) (.slice ao n c) (.bool p) (.slice bo m d) (.cells #[.bool false, .slice none 0 0] 25) (.cells #[.bool false, .slice none 0 0] 25)
  go_enter Tryd.func22, Tryd.ntmps22
  go_wp2_with fail
  refine (divMod_of _ _ _ _ _ _ _ (hu.below (hA _ _ _ _)) (hv.below (hA _ _ _ _)) hf hg h0 (divide_any _ _ (by omega) hl)).mono ?_
  rintro e w0 ⟨qv, rv, rfl, hqv, hrv, hb0⟩
  have hj0 := keepW hb0 (by simp) (res34 w _ _ _ _ _ _ _ _)
  have hk0 := keepW hb0 (by simp) (res4 w _ _ _ _ _ _)
  obtain ⟨d1, d2, d3, d4⟩ := keep4 hb0 (by simp) ⟨c1, c2, c3, c4⟩
  have B0 : Below w.heap.size w w0 := (hA _ _ _ _).trans (hb0.mono (by simp; omega))
  clear c1 c2 c3 c4
  go_wp2
  go_region_held3 (fun w' => w'.cell? ⟨w.heap.size, 0, none⟩ = some (.bool p) ∧ w'.cell? ⟨w.heap.size, 1, none⟩ = some (.slice ao n c) ∧ w'.cell? ⟨w.heap.size + 1, 0, none⟩ = some (.bool p) ∧ w'.cell? ⟨w.heap.size + 1, 1, none⟩ = some (.slice bo m d)) (first | exact keep4 (by assumption) (by simp) (by assumption) | go_keep) (first
    | (go_at_call_of 29 qv; refine (signed_any false _ _ _ (hqv.nums.below (Below.refl _ w0).drew)).mono ?_; rintro e w1 ⟨r1, rfl, hr1, hb1⟩; obtain ⟨b1, ao1, n1, e1, rfl⟩ := hr1.open; have hj1 := keepW hb1 (Nat.le_refl _) hj0; have hk1 := keepW hb1 (Nat.le_refl _) hk0)
    | (go_at_call_of 29 rv; refine (signed_any p _ _ _ ((hrv.nums.below (Below.refl _ w0).drew).below hb1)).mono ?_; rintro e w2 ⟨r2, rfl, hr2, hb2⟩; obtain ⟨b2, ao2, n2, e2, rfl⟩ := hr2.open; obtain ⟨q1, q2, q3, q4⟩ := keepW hb2 (Nat.le_refl _) hj1; obtain ⟨q5, q6, q7, q8⟩ := keepW hb2 (Nat.le_refl _) hk1))
  go_wp2
  (try simp only [Exit.inBlock, Exit.then])
  refine bodyPost_ret (v := .tuple #[.agg #[.bool b1, .slice ao1 n1 e1], .agg #[.bool b2, .slice ao2 n2 e2], .int .i64 0]) (by simp [results, go_sem, q1, q2, q5, q6]) rfl ?_
  have B1 := B0.drew.trans (hb1.mono B0.size)
  have B2 := B1.trans (hb2.mono B1.size)
  have hfl := floor_same p (num f n) (num g m) (by omega)
  refine ⟨_, _, rfl, ?_, ?_, below_store2 (below_store2 B2 (by omega) _ _) (by omega) _ _⟩
  · rw [hfl.1]; exact (hr1.below hb2).store4 q1 q2 q5 q6 (by omega) _ _ _ _
  · rw [hfl.2]; exact hr2.store4 q1 q2 q5 q6 (by omega) _ _ _ _

set_option maxRecDepth 20000 in
set_option maxHeartbeats 2000000 in
theorem wdiv_even (p : Bool) (ao : Option Addr) (n c : Nat) (f : Nat → Int) (bo : Option Addr) (m d : Nat) (g : Nat → Int) (w : World)
    (hu : Nums .u64 w (.slice ao n c) n f) (hf : U64 n f) (hv : Nums .u64 w (.slice bo m d) m g) (hg : U64 m g) (h0 : num g m ≠ 0) (hl : nl W32 (num f n) ≤ 999999) (hR : num f n % num g m = 0) :
    Calls Tryd.prog 22 #[.agg #[.bool p, .slice ao n c], .agg #[.bool (!p), .slice bo m d]] w fun e w' => DivOut (zof p (num f n)) (zof (!p) (num g m)) w.heap.size w e w' := by
  have hA : ∀ o o' o'' o3, Below w.heap.size w ((((w.alloc o).alloc o').alloc o'').alloc o3) := fun o o' o'' o3 => ((((Below.refl _ _).alloc (Nat.le_refl _) _).alloc (by simp) _).alloc (by simp; omega) _).alloc (by simp; omega) _
  have ne1 : ¬ w.heap.size = w.heap.size + 1 + 1 := by omega
  have ne2 : ¬ w.heap.size + 1 + 1 = w.heap.size := by omega
  have ne3 : ¬ w.heap.size = w.heap.size + 1 + 1 + 1 := by omega
  have ne4 : ¬ w.heap.size + 1 + 1 + 1 = w.heap.size := by omega
  have ne5 : ¬ w.heap.size + 1 = w.heap.size + 1 + 1 + 1 := by omega
  have ne6 : ¬ w.heap.size + 1 + 1 + 1 = w.heap.size + 1 := by omega
  have hpq : (p == !p) = false := by cases p <;> rfl
  obtain ⟨c1, c2, c3, c4⟩ := box_b w 25 25 (.bool p) (.slice ao n c) (.bool (!p)) (.slice bo m d) (.cells #[.bool false, .slice none 0 0] 25) (.cells #[.bool false, .slice none 0 0] 25)
  have hfl : Hid (_ ∧ _) := floor_even p (num f n) (num g m) (by omega) hR
  generalize hq : (!p) = q at *
  go_enter Tryd.func22, Tryd.ntmps22
  go_wp2_with fail
  refine (divMod_of _ _ _ _ _ _ _ (hu.below (hA _ _ _ _)) (hv.below (hA _ _ _ _)) hf hg h0 (divide_any _ _ (by omega) hl)).mono ?_
  rintro e w0 ⟨qv, rv, rfl, hqv, hrv, hb0⟩
  have hj0 := keepW hb0 (by simp) (res34 w _ _ _ _ _ _ _ _)
  have hk0 := keepW hb0 (by simp) (res4 w _ _ _ _ _ _)
  obtain ⟨d1, d2, d3, d4⟩ := keep4 hb0 (by simp) ⟨c1, c2, c3, c4⟩
  have B0 : Below w.heap.size w w0 := (hA _ _ _ _).trans (hb0.mono (by simp; omega))
  clear c1 c2 c3 c4 hq
  go_wp2_with fail
  refine (nat_zero_rep hrv.rep).mono ?_
  rintro e w1 ⟨rfl, hw⟩
  subst hw
  rw [decide_eq_true hR]
  go_wp2_with fail
  refine (signed_any true _ _ _ hqv.nums).mono ?_
  rintro e w1 ⟨r1, rfl, hr1, hb1⟩
  obtain ⟨b1, ao1, n1, e1, rfl⟩ := hr1.open
  obtain ⟨q1, q2, q3, q4⟩ := keepW hb1 (Nat.le_refl _) hj0
  obtain ⟨q5, q6, q7, q8⟩ := keepW hb1 (Nat.le_refl _) hk0
  go_wp2
  (try simp only [Exit.inBlock, Exit.then])
  refine bodyPost_ret (v := .tuple #[.agg #[.bool b1, .slice ao1 n1 e1], .agg #[.bool false, .slice none 0 0], .int .i64 0]) (by simp [results, go_sem, q1, q2, q5, q6]) rfl ?_
  have B1 := B0.trans (hb1.mono B0.size)
  refine ⟨_, _, rfl, ?_, ?_, below_store2 (below_store2 B1 (by omega) _ _) (by omega) _ _⟩
  · rw [hfl.out.1]; exact hr1.store4 q1 q2 q5 q6 (by omega) _ _ _ _
  · rw [hfl.out.2]; exact RepI.nil _

set_option maxRecDepth 20000 in
set_option maxHeartbeats 2000000 in
theorem wdiv_odd (p : Bool) (ao : Option Addr) (n c : Nat) (f : Nat → Int) (bo : Option Addr) (m d : Nat) (g : Nat → Int) (w : World)
    (hu : Nums .u64 w (.slice ao n c) n f) (hf : U64 n f) (hv : Nums .u64 w (.slice bo m d) m g) (hg : U64 m g) (h0 : num g m ≠ 0) (hl : nl W32 (num f n) ≤ 999999) (hR : num f n % num g m ≠ 0) :
    Calls Tryd.prog 22 #[.agg #[.bool p, .slice ao n c], .agg #[.bool (!p), .slice bo m d]] w fun e w' => DivOut (zof p (num f n)) (zof (!p) (num g m)) w.heap.size w e w' := by
  have hA : ∀ o o' o'' o3, Below w.heap.size w ((((w.alloc o).alloc o').alloc o'').alloc o3) := fun o o' o'' o3 => ((((Below.refl _ _).alloc (Nat.le_refl _) _).alloc (by simp) _).alloc (by simp; omega) _).alloc (by simp; omega) _
  have ne1 : ¬ w.heap.size = w.heap.size + 1 + 1 := by omega
  have ne2 : ¬ w.heap.size + 1 + 1 = w.heap.size := by omega
  have ne3 : ¬ w.heap.size = w.heap.size + 1 + 1 + 1 := by omega
  have ne4 : ¬ w.heap.size + 1 + 1 + 1 = w.heap.size := by omega
  have ne5 : ¬ w.heap.size + 1 = w.heap.size + 1 + 1 + 1 := by omega
  have ne6 : ¬ w.heap.size + 1 + 1 + 1 = w.heap.size + 1 := by omega
  have hpq : (p == !p) = false := by cases p <;> rfl
  obtain ⟨c1, c2, c3, c4⟩ := box_b w 25 25 (.bool p) (.slice ao n c) (.bool (!p)) (.slice bo m d) (.cells #[.bool false, .slice none 0 0] 25) (.cells #[.bool false, .slice none 0 0] 25)
  have hfl : Hid (_ ∧ _) := floor_odd p (num f n) (num g m) (by omega) hR
  generalize hq : (!p) = q at *
  go_enter Tryd.func22, Tryd.ntmps22
  go_wp2_with fail
  refine (divMod_of _ _ _ _ _ _ _ (hu.below (hA _ _ _ _)) (hv.below (hA _ _ _ _)) hf hg h0 (divide_any _ _ (by omega) hl)).mono ?_
  rintro e w0 ⟨qv, rv, rfl, hqv, hrv, hb0⟩
  have hj0 := keepW hb0 (by simp) (res34 w _ _ _ _ _ _ _ _)
  have hk0 := keepW hb0 (by simp) (res4 w _ _ _ _ _ _)
  obtain ⟨d1, d2, d3, d4⟩ := keep4 hb0 (by simp) ⟨c1, c2, c3, c4⟩
  have B0 : Below w.heap.size w w0 := (hA _ _ _ _).trans (hb0.mono (by simp; omega))
  clear c1 c2 c3 c4 hq
  have hlm : num f n % num g m < num g m := Nat.mod_lt _ (by omega)
  have hq1 : nl W32 (num f n / num g m) ≤ 999999 := Nat.le_trans (nl_mono W32 _ _ (by decide) (Nat.div_le_self _ _)) hl
  have hn1 := nl_one
  go_wp2_with fail
  refine (nat_zero_rep hrv.rep).mono ?_
  rintro e wz ⟨rfl, hw⟩
  subst hw
  rw [decide_eq_false hR]
  have i1 : Rep wz.drew qv (num f n / num g m) := hqv.nums.below (Below.refl _ wz).drew
  have i2 : Rep wz.drew rv (num f n % num g m) := hrv.nums.below (Below.refl _ wz).drew
  have i3 : Nums .u64 wz.drew (.slice bo m d) m g := hv.below B0.drew
  go_wp2
  go_region_held3 (fun w' => w'.cell? ⟨w.heap.size, 0, none⟩ = some (.bool p) ∧ w'.cell? ⟨w.heap.size, 1, none⟩ = some (.slice ao n c) ∧ w'.cell? ⟨w.heap.size + 1, 0, none⟩ = some (.bool q) ∧ w'.cell? ⟨w.heap.size + 1, 1, none⟩ = some (.slice bo m d)) (first | exact keep4 (by assumption) (by simp) (by assumption) | go_keep) (first
    | (go_at_call 37; refine (of_any _ _ (by omega) (by omega)).mono ?_; rintro e w1 ⟨s1, rfl, hs1, hb1⟩; rw [show (1 : Int).toNat = 1 from rfl] at hs1; have hj1 := keepW hb1 (Nat.le_refl _) hj0; have hk1 := keepW hb1 (Nat.le_refl _) hk0)
    | (go_at_call 39; refine (add_any _ _ _ _ _ _ _ (Nums.below i1 hb1) hs1.nums (u64_dg _ _) (u64_dg _ _) (by omega) (by omega)).mono ?_; rw [num_nl, num_nl]; rintro e w2 ⟨s2, rfl, hs2, hb2⟩; have hj2 := keepW hb2 (Nat.le_refl _) hj1; have hk2 := keepW hb2 (Nat.le_refl _) hk1)
    | (go_at_call_of 29 s2; refine (signed_any true _ _ _ hs2.rep).mono ?_; rintro e w3 ⟨r1, rfl, hr1, hb3⟩; obtain ⟨b1, ao1, n1, e1, rfl⟩ := hr1.open; have hj3 := keepW hb3 (Nat.le_refl _) hj2; have hk3 := keepW hb3 (Nat.le_refl _) hk2)
    | (go_at_call 41; refine (less_any _ _ _ _ _ _ _ (((i3.below hb1).below hb2).below hb3) (Nums.below (Nums.below (Nums.below i2 hb1) hb2) hb3) hg (u64_dg _ _) (by rw [num_nl]; omega)).mono ?_; rw [num_nl]; rintro e w4 ⟨s4, rfl, hs4, hb4⟩; have hj4 := keepW hb4 (Nat.le_refl _) hj3; have hk4 := keepW hb4 (Nat.le_refl _) hk3)
    | (go_at_call_of 29 s4; refine (signed_any q _ _ _ hs4.rep).mono ?_; rintro e w5 ⟨r2, rfl, hr2, hb5⟩; obtain ⟨b2, ao2, n2, e2, rfl⟩ := hr2.open; obtain ⟨q1, q2, q3, q4⟩ := keepW hb5 (Nat.le_refl _) hj4; obtain ⟨q5, q6, q7, q8⟩ := keepW hb5 (Nat.le_refl _) hk4))
  go_wp2
  (try simp only [Exit.inBlock, Exit.then])
  refine bodyPost_ret (v := .tuple #[.agg #[.bool b1, .slice ao1 n1 e1], .agg #[.bool b2, .slice ao2 n2 e2], .int .i64 0]) (by simp [results, go_sem, q1, q2, q5, q6]) rfl ?_
  have B1 := B0.drew.trans (hb1.mono B0.size)
  have B2 := B1.trans (hb2.mono B1.size)
  have B3 := B2.trans (hb3.mono B2.size)
  have B4 := B3.trans (hb4.mono B3.size)
  have B5 := B4.trans (hb5.mono B4.size)
  refine ⟨_, _, rfl, ?_, ?_, below_store2 (below_store2 B5 (by omega) _ _) (by omega) _ _⟩
  · rw [hfl.out.1]; exact ((hr1.below hb4).below hb5).store4 q1 q2 q5 q6 (by omega) _ _ _ _
  · rw [hfl.out.2]; exact hr2.store4 q1 q2 q5 q6 (by omega) _ _ _ _

theorem wdivMod_any (u v : Value) (x y : Int) (L M : Nat) (w : World) (hu : IntAt w u x L) (hv : IntAt w v y M) (hL : L ≤ 999998) (hy : y ≠ 0) :
    Calls Tryd.prog 22 #[u, v] w fun e w' => DivOut x y w.heap.size w e w' := by
  obtain ⟨p, ao, n, c, f, rfl, hu, hf, rfl, hn⟩ := hu
  obtain ⟨q, bo, m, d, g, rfl, hv, hg, rfl, hm⟩ := hv
  have h0 : num g m ≠ 0 := fun h => hy (by rw [h]; cases q <;> simp [zof])
  have hl : nl W32 (num f n) ≤ 999999 := Nat.le_trans (nl_le W32 _ _ (by decide) (num_lt f n)) (by omega)
  by_cases hpq : p = q
  · subst hpq
    exact wdiv_same p ao n c f bo m d g w hu hf hv hg h0 hl
  · obtain rfl : q = !p := by cases p <;> cases q <;> simp_all
    by_cases hR : num f n % num g m = 0
    · exact wdiv_even p ao n c f bo m d g w hu hf hv hg h0 hl hR
    · exact wdiv_odd p ao n c f bo m d g w hu hf hv hg h0 hl hR
theorem wdivMod_zero (u v : Value) (x : Int) (L M : Nat) (w : World) (hu : IntAt w u x L) (hv : IntAt w v 0 M) :
    Calls Tryd.prog 22 #[u, v] w fun e w' => ∃ q r, e = .returned (.tuple #[q, r, .int .i64 2]) ∧ RepI w' q 0 ∧ RepI w' r 0 ∧ Below w.heap.size w w' := by
  obtain ⟨p, ao, n, c, f, rfl, hu, hf, _, hn⟩ := hu
  obtain ⟨q, bo, m, d, g, rfl, hv, hg, h0, hm⟩ := hv
  exact wdiv_zero p q ao n c f bo m d g w hu hf hv hg (by have := zof_abs q (num g m); rw [h0] at this; simpa using this.symm)

end Go.Proofs.YtjfacmeeplalkaaDoor

/-
  Whole numbers as the document's own answers have them; what dendronref02.Make, From, Small, Minus, Order, Plus, Times answer.
-/
namespace Go.Proofs.YtjfacmeeplalkaaDoor
open Go.RowKit
set_option linter.unusedVariables false

/-- The value v is the whole number z, to the base 10000. -/
def RepJ (w : World) (v : Value) (z : Int) : Prop :=
  ∃ ao c, v = .agg #[.bool (decide (z < 0)), .slice ao (nl 10000 z.natAbs) c] ∧ RepD w (.slice ao (nl 10000 z.natAbs) c) z.natAbs
theorem RepJ.below {w w' : World} {v : Value} {z : Int} (h : RepJ w v z) (hb : Below w.heap.size w w') : RepJ w' v z := by
  obtain ⟨ao, c, h1, h2⟩ := h
  exact ⟨ao, c, h1, Nums.below h2 hb⟩
theorem RepJ.open {w : World} {v : Value} {z : Int} (h : RepJ w v z) : ∃ b ao n c, v = .agg #[.bool b, .slice ao n c] := by
  obtain ⟨ao, c, h1, _⟩ := h
  exact ⟨_, _, _, _, h1⟩
theorem RepJ.mk {w : World} {s : Value} {m : Nat} (neg : Bool) (hs : RepD w s m) : RepJ w (.agg #[.bool (neg && !decide (m = 0)), s]) (zof neg m) := by
  obtain ⟨ao, c, rfl, h2⟩ := hs
  refine ⟨ao, c, ?_, ?_⟩
  · rw [zof_abs, zof_neg]
  · rw [zof_abs]; exact ⟨ao, c, rfl, h2⟩
theorem RepJ.nil (w : World) : RepJ w (.agg #[.bool false, .slice none 0 0]) 0 :=
  ⟨none, 0, by simp [nl_zero], by show RepD w (.slice none (nl 10000 0) 0) 0; rw [nl_zero]; unfold RepD; rw [nl_zero]; exact Nums.nil _ _ _⟩
theorem RepJ.store2 {w : World} {v : Value} {z : Int} (h : RepJ w v z) {R m c : Nat} {p : Bool} {ao : Option Addr} (q1 : w.cell? ⟨R, 0, none⟩ = some (.bool p)) (q2 : w.cell? ⟨R, 1, none⟩ = some (.slice ao m c)) (x y : Value) :
    RepJ ((w.setCell ⟨R, 0, none⟩ x).setCell ⟨R, 1, none⟩ y) v z := by
  obtain ⟨ao, c, h1, h2⟩ := h
  exact ⟨ao, c, h1, Nums.store2 h2 q1 q2 x y⟩

set_option maxRecDepth 20000 in
set_option maxHeartbeats 400000 in
theorem rmake_any (neg : Bool) (s : Value) (m : Nat) (w : World) (hs : RepD w s m) :
    Calls Tryd.prog 6 #[.bool neg, s] w fun e w' => ∃ r, e = .returned r ∧ RepJ w' r (zof neg m) ∧ Below w.heap.size w w' := by
  have hs0 := hs
  obtain ⟨ao, c, rfl, _⟩ := hs
  have hA : ∀ o, Below w.heap.size w (w.alloc o) := fun o => (Below.refl _ _).alloc (Nat.le_refl _) _
  cases neg with
  | false =>
    go_enter Tryd.func6, Tryd.ntmps6
    go_wp2
    refine bodyPost_ret (v := .agg #[.bool false, .slice ao (nl 10000 m) c]) (by simp [results, go_sem]) rfl ?_
    exact ⟨_, rfl, RepJ.mk false (Nums.below hs0 (hA _)), hA _⟩
  | true =>
    have hz := nl_eq_zero 10000 m (by decide)
    by_cases h0 : m = 0
    · have hn : nl 10000 m = 0 := hz.2 h0
      have J := RepJ.mk true hs0
      rw [decide_eq_true h0] at J
      rw [hn] at J hs0 ⊢
      go_enter Tryd.func6, Tryd.ntmps6
      go_wp2
      refine bodyPost_ret (v := .agg #[.bool false, .slice ao 0 c]) (by simp [results, go_sem]) rfl ?_
      exact ⟨_, rfl, J.below (hA _), hA _⟩
    · have hn : (0 : Int) < (nl 10000 m : Int) := by have : nl 10000 m ≠ 0 := fun h => h0 (hz.1 h); omega
      have J := RepJ.mk true hs0
      rw [decide_eq_false h0] at J
      generalize nl 10000 m = N at *
      go_enter Tryd.func6, Tryd.ntmps6
      go_wp2
      refine bodyPost_ret (v := .agg #[.bool true, .slice ao N c]) (by have hn2 : 0 < N := (by omega); simp [results, go_sem, hn2]) rfl ?_
      exact ⟨_, rfl, J.below (hA _), hA _⟩

set_option maxRecDepth 20000 in
set_option maxHeartbeats 1000000 in
theorem rfrom_any (v : Value) (z : Int) (L : Nat) (w : World) (h : IntAt w v z L) (hL : L ≤ 1000) :
    Calls Tryd.prog 5 #[v] w fun e w' => ∃ r, e = .returned r ∧ RepJ w' r z ∧ Below w.heap.size w w' := by
  obtain ⟨neg, ao, n, c, f, rfl, h, hf, rfl, hn⟩ := h
  have hA : ∀ o o', Below w.heap.size w ((w.alloc o).alloc o') := fun o o' => ((Below.refl _ _).alloc (Nat.le_refl _) _).alloc (by simp) _
  go_enter Tryd.func5, Tryd.ntmps5
  go_wp2
  go_region_held3 (fun w' => w'.cell? ⟨w.heap.size, 0, none⟩ = some (.bool neg) ∧ w'.cell? ⟨w.heap.size, 1, none⟩ = some (.slice ao n c)) (first | exact keep2 (by assumption) (by simp) (by assumption) | go_keep) (first
    | (go_at_call 16; refine (from_any _ _ _ _ (h.below (hA _ _).drew) hf (by omega)).mono ?_; rintro e w1 ⟨s, rfl, hs, hb1⟩; have hk1 := keepW hb1 (by simp) (res1 w _ _ _ _))
    | (go_at_call 6; refine (rmake_any _ _ _ _ hs).mono ?_; rintro e w2 ⟨r, rfl, hr, hb2⟩; obtain ⟨b2, ao2, n2, c2, rfl⟩ := hr.open; obtain ⟨q1, q2, q3, q4⟩ := keepW hb2 (Nat.le_refl _) hk1))
  go_wp2
  refine bodyPost_ret (v := .agg #[.bool b2, .slice ao2 n2 c2]) (by simp [results, go_sem, q1, q2]) rfl ?_
  have B1 := (hA _ _).drew.trans (hb1.mono (by simp; omega))
  have B2 := B1.trans (hb2.mono B1.size)
  exact ⟨_, rfl, hr.store2 q1 q2 _ _, below_store2 B2 (by omega) _ _⟩

set_option maxRecDepth 20000 in
set_option maxHeartbeats 1000000 in
theorem rorder_any (u v : Value) (x y : Int) (w : World) (hu : RepJ w u x) (hv : RepJ w v y) :
    Calls Tryd.prog 14 #[u, v] w fun e w' => e = .returned (.int .i64 (cmpI x y)) ∧ Below w.heap.size w w' := by
  obtain ⟨ao, c, rfl, hu⟩ := hu
  obtain ⟨bo, d, rfl, hv⟩ := hv
  have hA : ∀ o o', Below w.heap.size w ((w.alloc o).alloc o') := fun o o' => ((Below.refl _ _).alloc (Nat.le_refl _) _).alloc (by simp) _
  by_cases hx : x < 0
  · rw [decide_eq_true hx]
    by_cases hy : y < 0
    · rw [decide_eq_true hy]
      have HE : Hid (cmpI x y = cmpI y.natAbs x.natAbs) := by show _ = _; unfold cmpI; repeat' split <;> omega
      clear hx hy
      go_enter Tryd.func14, Tryd.ntmps14
      go_wp2_with fail
      refine (order_any _ _ _ _ _ (Nums.below hv (hA _ _)) (Nums.below hu (hA _ _))).mono ?_
      rintro e w1 ⟨rfl, hb1⟩
      go_wp2
      go_ret
      exact ⟨by rw [HE.out]; rfl, (hA _ _).trans (hb1.mono (by simp; omega))⟩
    · rw [decide_eq_false hy]
      have HE : Hid (cmpI x y = -1) := cmpI_lt (by omega)
      clear hx hy
      go_enter Tryd.func14, Tryd.ntmps14
      go_wp2
      go_ret
      exact ⟨by rw [HE.out]; rfl, hA _ _⟩
  · rw [decide_eq_false hx]
    by_cases hy : y < 0
    · rw [decide_eq_true hy]
      have HE : Hid (cmpI x y = 1) := cmpI_gt (by omega)
      clear hx hy
      go_enter Tryd.func14, Tryd.ntmps14
      go_wp2
      go_ret
      exact ⟨by rw [HE.out]; rfl, hA _ _⟩
    · rw [decide_eq_false hy]
      have HE : Hid (cmpI x y = cmpI x.natAbs y.natAbs) := by show _ = _; unfold cmpI; repeat' split <;> omega
      clear hx hy
      go_enter Tryd.func14, Tryd.ntmps14
      go_wp2_with fail
      refine (order_any _ _ _ _ _ (Nums.below hu (hA _ _)) (Nums.below hv (hA _ _))).mono ?_
      rintro e w1 ⟨rfl, hb1⟩
      go_wp2
      go_ret
      exact ⟨by rw [HE.out]; rfl, (hA _ _).trans (hb1.mono (by simp; omega))⟩

set_option maxRecDepth 20000 in
set_option maxHeartbeats 2000000 in
theorem rplus_same (p : Bool) (ao : Option Addr) (n c X : Nat) (bo : Option Addr) (m d Y : Nat) (w : World)
    (hu : RepD w (.slice ao n c) X) (hv : RepD w (.slice bo m d) Y) (hX : nl 10000 X ≤ 1000000) (hY : nl 10000 Y ≤ 1000000) :
    Calls Tryd.prog 9 #[.agg #[.bool p, .slice ao n c], .agg #[.bool p, .slice bo m d]] w fun e w' => ∃ r, e = .returned r ∧ RepJ w' r (zof p (X + Y)) ∧ Below w.heap.size w w' := by
  have hA : ∀ o o' o'', Below w.heap.size w (((w.alloc o).alloc o').alloc o'') := fun o o' o'' => (((Below.refl _ _).alloc (Nat.le_refl _) _).alloc (by simp) _).alloc (by simp; omega) _
  have ne1 : ¬ w.heap.size = w.heap.size + 1 + 1 := by omega
  have ne2 : ¬ w.heap.size + 1 + 1 = w.heap.size := by omega
  obtain ⟨c1, c2, c3, c4⟩ := box_a w 30 30 30 (.bool p) (.slice ao n c) (.bool p) (.slice bo m d) (.bool false) (.slice none 0 0)
  go_enter Tryd.func9, Tryd.ntmps9
  go_wp2
  go_region_held3 (fun w' => w'.cell? ⟨w.heap.size, 0, none⟩ = some (.bool p) ∧ w'.cell? ⟨w.heap.size, 1, none⟩ = some (.slice ao n c) ∧ w'.cell? ⟨w.heap.size + 1, 0, none⟩ = some (.bool p) ∧ w'.cell? ⟨w.heap.size + 1, 1, none⟩ = some (.slice bo m d)) (first | exact keep4 (by assumption) (by simp) (by assumption) | go_keep) (first
    | (go_at_call 24; refine (plus_any _ _ _ _ _ (Nums.below hu (hA _ _ _).drew) (Nums.below hv (hA _ _ _).drew) hX hY).mono ?_; rintro e w1 ⟨s, rfl, hs, hb1⟩; have hk1 := keepW hb1 (by simp) (res2 w _ _ _ _ _))
    | (go_at_call 6; refine (rmake_any _ _ _ _ hs).mono ?_; rintro e w2 ⟨r, rfl, hr, hb2⟩; obtain ⟨b2, ao2, n2, c2, rfl⟩ := hr.open; obtain ⟨q1, q2, q3, q4⟩ := keepW hb2 (Nat.le_refl _) hk1))
  go_wp2
  (try simp only [Exit.inBlock, Exit.then])
  refine bodyPost_ret (v := .agg #[.bool b2, .slice ao2 n2 c2]) (by simp [results, go_sem, q1, q2]) rfl ?_
  have B1 := (hA _ _ _).drew.trans (hb1.mono (by simp; omega))
  have B2 := B1.trans (hb2.mono B1.size)
  exact ⟨_, rfl, hr.store2 q1 q2 _ _, below_store2 B2 (by omega) _ _⟩

set_option maxRecDepth 20000 in
set_option maxHeartbeats 2000000 in
theorem rplus_lt (p : Bool) (ao : Option Addr) (n c X : Nat) (bo : Option Addr) (m d Y : Nat) (w : World)
    (hu : RepD w (.slice ao n c) X) (hv : RepD w (.slice bo m d) Y) (hX : nl 10000 X ≤ 1000000) (hY : nl 10000 Y ≤ 1000000) (hc0 : X < Y) :
    Calls Tryd.prog 9 #[.agg #[.bool p, .slice ao n c], .agg #[.bool (!p), .slice bo m d]] w fun e w' => ∃ r, e = .returned r ∧ RepJ w' r (zof (!p) (Y - X)) ∧ Below w.heap.size w w' := by
  have hA : ∀ o o' o'', Below w.heap.size w (((w.alloc o).alloc o').alloc o'') := fun o o' o'' => (((Below.refl _ _).alloc (Nat.le_refl _) _).alloc (by simp) _).alloc (by simp; omega) _
  have ne1 : ¬ w.heap.size = w.heap.size + 1 + 1 := by omega
  have ne2 : ¬ w.heap.size + 1 + 1 = w.heap.size := by omega
  obtain ⟨c1, c2, c3, c4⟩ := box_a w 30 30 30 (.bool p) (.slice ao n c) (.bool (!p)) (.slice bo m d) (.bool false) (.slice none 0 0)
  have hpq : (p == !p) = false := by cases p <;> rfl
  have hc : cmpI X Y < 0 := by rw [cmpI_lt (by omega)]; omega
  generalize hq : (!p) = q at *
  go_enter Tryd.func9, Tryd.ntmps9
  go_wp2_with fail
  refine (order_any _ _ _ _ _ (Nums.below hu (hA _ _ _)) (Nums.below hv (hA _ _ _))).mono ?_
  rintro e w0 ⟨rfl, hb0⟩
  have hk0 := keepW hb0 (by simp) (res2 w _ _ _ _ _)
  obtain ⟨d1, d2, d3, d4⟩ := keep4 hb0 (by simp) ⟨c1, c2, c3, c4⟩
  have B0 : Below w.heap.size w w0 := (hA _ _ _).trans (hb0.mono (by simp; omega))
  clear c1 c2 c3 c4 hq
  generalize cmpI X Y = C at *
  go_wp2
  go_region_held3 (fun w' => w'.cell? ⟨w.heap.size, 0, none⟩ = some (.bool p) ∧ w'.cell? ⟨w.heap.size, 1, none⟩ = some (.slice ao n c) ∧ w'.cell? ⟨w.heap.size + 1, 0, none⟩ = some (.bool q) ∧ w'.cell? ⟨w.heap.size + 1, 1, none⟩ = some (.slice bo m d)) (first | exact keep4 (by assumption) (by simp) (by assumption) | go_keep) (first
    | (go_at_call 26; refine (minus_any _ _ _ _ _ (Nums.below hv B0.drew) (Nums.below hu B0.drew) hY (by omega)).mono ?_; rintro e w1 ⟨s, rfl, hs, hb1⟩; have hk1 := keepW hb1 (Nat.le_refl _) hk0)
    | (go_at_call 6; refine (rmake_any _ _ _ _ hs).mono ?_; rintro e w2 ⟨r, rfl, hr, hb2⟩; obtain ⟨b2, ao2, n2, c2, rfl⟩ := hr.open; obtain ⟨q1, q2, q3, q4⟩ := keepW hb2 (Nat.le_refl _) hk1))
  go_wp2
  (try simp only [Exit.inBlock, Exit.then])
  refine bodyPost_ret (v := .agg #[.bool b2, .slice ao2 n2 c2]) (by simp [results, go_sem, q1, q2]) rfl ?_
  have B1 := B0.drew.trans (hb1.mono B0.size)
  have B2 := B1.trans (hb2.mono B1.size)
  exact ⟨_, rfl, hr.store2 q1 q2 _ _, below_store2 B2 (by omega) _ _⟩

set_option maxRecDepth 20000 in
set_option maxHeartbeats 2000000 in
theorem rplus_ge (p : Bool) (ao : Option Addr) (n c X : Nat) (bo : Option Addr) (m d Y : Nat) (w : World)
    (hu : RepD w (.slice ao n c) X) (hv : RepD w (.slice bo m d) Y) (hX : nl 10000 X ≤ 1000000) (hY : nl 10000 Y ≤ 1000000) (hc0 : Y ≤ X) :
    Calls Tryd.prog 9 #[.agg #[.bool p, .slice ao n c], .agg #[.bool (!p), .slice bo m d]] w fun e w' => ∃ r, e = .returned r ∧ RepJ w' r (zof p (X - Y)) ∧ Below w.heap.size w w' := by
  have hA : ∀ o o' o'', Below w.heap.size w (((w.alloc o).alloc o').alloc o'') := fun o o' o'' => (((Below.refl _ _).alloc (Nat.le_refl _) _).alloc (by simp) _).alloc (by simp; omega) _
  have ne1 : ¬ w.heap.size = w.heap.size + 1 + 1 := by omega
  have ne2 : ¬ w.heap.size + 1 + 1 = w.heap.size := by omega
  obtain ⟨c1, c2, c3, c4⟩ := box_a w 30 30 30 (.bool p) (.slice ao n c) (.bool (!p)) (.slice bo m d) (.bool false) (.slice none 0 0)
  have hpq : (p == !p) = false := by cases p <;> rfl
  have hc : ¬ cmpI X Y < 0 := by unfold cmpI; rw [if_neg (by omega)]; split <;> omega
  generalize hq : (!p) = q at *
  go_enter Tryd.func9, Tryd.ntmps9
  go_wp2_with fail
  refine (order_any _ _ _ _ _ (Nums.below hu (hA _ _ _)) (Nums.below hv (hA _ _ _))).mono ?_
  rintro e w0 ⟨rfl, hb0⟩
  have hk0 := keepW hb0 (by simp) (res2 w _ _ _ _ _)
  obtain ⟨d1, d2, d3, d4⟩ := keep4 hb0 (by simp) ⟨c1, c2, c3, c4⟩
  have B0 : Below w.heap.size w w0 := (hA _ _ _).trans (hb0.mono (by simp; omega))
  clear c1 c2 c3 c4 hq
  generalize cmpI X Y = C at *
  go_wp2
  go_region_held3 (fun w' => w'.cell? ⟨w.heap.size, 0, none⟩ = some (.bool p) ∧ w'.cell? ⟨w.heap.size, 1, none⟩ = some (.slice ao n c) ∧ w'.cell? ⟨w.heap.size + 1, 0, none⟩ = some (.bool q) ∧ w'.cell? ⟨w.heap.size + 1, 1, none⟩ = some (.slice bo m d)) (first | exact keep4 (by assumption) (by simp) (by assumption) | go_keep) (first
    | (go_at_call 26; refine (minus_any _ _ _ _ _ (Nums.below hu B0.drew) (Nums.below hv B0.drew) hX (by omega)).mono ?_; rintro e w1 ⟨s, rfl, hs, hb1⟩; have hk1 := keepW hb1 (Nat.le_refl _) hk0)
    | (go_at_call 6; refine (rmake_any _ _ _ _ hs).mono ?_; rintro e w2 ⟨r, rfl, hr, hb2⟩; obtain ⟨b2, ao2, n2, c2, rfl⟩ := hr.open; obtain ⟨q1, q2, q3, q4⟩ := keepW hb2 (Nat.le_refl _) hk1))
  go_wp2
  (try simp only [Exit.inBlock, Exit.then])
  refine bodyPost_ret (v := .agg #[.bool b2, .slice ao2 n2 c2]) (by simp [results, go_sem, q1, q2]) rfl ?_
  have B1 := B0.drew.trans (hb1.mono B0.size)
  have B2 := B1.trans (hb2.mono B1.size)
  exact ⟨_, rfl, hr.store2 q1 q2 _ _, below_store2 B2 (by omega) _ _⟩

theorem rplus_any (u v : Value) (x y : Int) (w : World) (hu : RepJ w u x) (hv : RepJ w v y) (hX : nl 10000 x.natAbs ≤ 1000000) (hY : nl 10000 y.natAbs ≤ 1000000) :
    Calls Tryd.prog 9 #[u, v] w fun e w' => ∃ r, e = .returned r ∧ RepJ w' r (x + y) ∧ Below w.heap.size w w' := by
  obtain ⟨ao, c, rfl, hu⟩ := hu
  obtain ⟨bo, d, rfl, hv⟩ := hv
  have e1 := zof_self x
  have e2 := zof_self y
  generalize decide (x < 0) = p at *
  generalize decide (y < 0) = q at *
  rw [← e1, ← e2]
  simp only [zof_abs]
  by_cases hpq : p = q
  · subst hpq
    rw [← zof_add]
    exact rplus_same p ao _ c _ bo _ d _ w hu hv hX hY
  · obtain rfl : q = !p := by cases p <;> cases q <;> simp_all
    by_cases hlt : x.natAbs < y.natAbs
    · rw [Int.add_comm, ← Bool.not_not p, Bool.not_not (!p), ← zof_less _ _ _ (by omega), Bool.not_not p]
      exact rplus_lt p ao _ c _ bo _ d _ w hu hv hX hY hlt
    · rw [← zof_less _ _ _ (by omega)]
      exact rplus_ge p ao _ c _ bo _ d _ w hu hv hX hY (by omega)

set_option maxRecDepth 20000 in
set_option maxHeartbeats 2000000 in
theorem rtimes_raw (p q : Bool) (ao : Option Addr) (n c X : Nat) (bo : Option Addr) (m d Y : Nat) (w : World)
    (hu : RepD w (.slice ao n c) X) (hv : RepD w (.slice bo m d) Y) (hX : nl 10000 X ≤ 1000000) (hY : nl 10000 Y ≤ 1000000) :
    Calls Tryd.prog 10 #[.agg #[.bool p, .slice ao n c], .agg #[.bool q, .slice bo m d]] w fun e w' => ∃ r, e = .returned r ∧ RepJ w' r (zof p X * zof q Y) ∧ Below w.heap.size w w' := by
  have hA : ∀ o o' o'', Below w.heap.size w (((w.alloc o).alloc o').alloc o'') := fun o o' o'' => (((Below.refl _ _).alloc (Nat.le_refl _) _).alloc (by simp) _).alloc (by simp; omega) _
  have ne1 : ¬ w.heap.size = w.heap.size + 1 + 1 := by omega
  have ne2 : ¬ w.heap.size + 1 + 1 = w.heap.size := by omega
  obtain ⟨c1, c2, c3, c4⟩ := box_a w 30 30 30 (.bool p) (.slice ao n c) (.bool q) (.slice bo m d) (.bool false) (.slice none 0 0)
  go_enter Tryd.func10, Tryd.ntmps10
  go_wp2
  go_region_held3 (fun w' => w'.cell? ⟨w.heap.size, 0, none⟩ = some (.bool p) ∧ w'.cell? ⟨w.heap.size, 1, none⟩ = some (.slice ao n c) ∧ w'.cell? ⟨w.heap.size + 1, 0, none⟩ = some (.bool q) ∧ w'.cell? ⟨w.heap.size + 1, 1, none⟩ = some (.slice bo m d)) (first | exact keep4 (by assumption) (by simp) (by assumption) | go_keep) (first
    | (go_at_call 27; refine (times_any _ _ _ _ _ (Nums.below hu (hA _ _ _).drew) (Nums.below hv (hA _ _ _).drew) hX hY).mono ?_; rintro e w1 ⟨s, rfl, hs, hb1⟩; have hk1 := keepW hb1 (by simp) (res2 w _ _ _ _ _))
    | (go_at_call 6; refine (rmake_any _ _ _ _ hs).mono ?_; rintro e w2 ⟨r, rfl, hr, hb2⟩; obtain ⟨b2, ao2, n2, c2, rfl⟩ := hr.open; obtain ⟨q1, q2, q3, q4⟩ := keepW hb2 (Nat.le_refl _) hk1))
  go_wp2
  (try simp only [Exit.inBlock, Exit.then])
  refine bodyPost_ret (v := .agg #[.bool b2, .slice ao2 n2 c2]) (by simp [results, go_sem, q1, q2]) rfl ?_
  have B1 := (hA _ _ _).drew.trans (hb1.mono (by simp; omega))
  have B2 := B1.trans (hb2.mono B1.size)
  rw [zof_mul] at hr
  exact ⟨_, rfl, hr.store2 q1 q2 _ _, below_store2 B2 (by omega) _ _⟩
theorem rtimes_any (u v : Value) (x y : Int) (w : World) (hu : RepJ w u x) (hv : RepJ w v y) (hX : nl 10000 x.natAbs ≤ 1000000) (hY : nl 10000 y.natAbs ≤ 1000000) :
    Calls Tryd.prog 10 #[u, v] w fun e w' => ∃ r, e = .returned r ∧ RepJ w' r (x * y) ∧ Below w.heap.size w w' := by
  obtain ⟨ao, c, rfl, hu⟩ := hu
  obtain ⟨bo, d, rfl, hv⟩ := hv
  have h := rtimes_raw (decide (x < 0)) (decide (y < 0)) ao _ c _ bo _ d _ w hu hv hX hY
  rw [zof_self, zof_self] at h; exact h

end Go.Proofs.YtjfacmeeplalkaaDoor

/-
  What the statements' own few and kept answer, and limbs as they come in.
-/
namespace Go.Proofs.YtjfacmeeplalkaaDoor
open Go.RowKit

/-- Limbs as they come in, of whatever length. -/
def Raw (w : World) (v : Value) (n : Nat) (f : Nat → Int) : Prop :=
  ∃ ao c, v = .slice ao n c ∧ (ao = none → c = 0) ∧ n ≤ c ∧ c ≤ maxLen ∧ U64 n f ∧ (0 < n → ∃ b off, ao = some ⟨b, off, none⟩ ∧ Cells w .u64 b off n f)

theorem raw_nil (w : World) : Raw w (.slice none 0 0) 0 (fun _ => 0) := ⟨_, _, rfl, fun _ => rfl, Nat.le_refl _, by unfold maxLen; omega, fun i hi => by omega, fun h => by omega⟩
theorem raw_row (w : World) (x : Addr) (len cap : Nat) (zs : List Int) (hl : len ≤ cap) (hm : cap ≤ maxLen) (hz : zs.length = cap)
    (hcell : ∀ i, i < zs.length → w.cell? (x.add i) = some (.int .u64 (zs.getD i 0))) (hw : ∀ n ∈ zs, (Lit.int .u64 n).wf = true) : Raw w (.slice (some x) len cap) len (fun i => zs.getD i 0) := by
  refine ⟨_, _, rfl, fun h => by (cases h), hl, hm, fun i hi => ?_, fun h0 => ?_⟩
  · have hi' : i < zs.length := by omega
    have hmem : zs.getD i 0 ∈ zs := by rw [List.getD_eq_getElem?_getD, List.getElem?_eq_getElem hi']; exact List.getElem_mem hi'
    have := bounds_u64 (hw _ hmem); show 0 ≤ zs.getD i 0 ∧ zs.getD i 0 < 18446744073709551616; omega
  · obtain ⟨b, off, spot⟩ := x
    have hc := hcell 0 (by omega)
    have hspot : spot = none := by simpa [Addr.add] using World.cell?_spot hc
    subst hspot
    refine ⟨b, off, rfl, fun i hi => ?_⟩
    have := hcell i (by omega)
    have e : (⟨b, off, none⟩ : Addr).add i = ⟨b, off + i, none⟩ := by unfold Addr.add; split <;> simp_all
    rw [e] at this; exact this

/-- A slice without an address has no room. -/
def NilOk (v : Value) : Prop := ∀ n c, v = .slice none n c → c = 0
end Go.Proofs.YtjfacmeeplalkaaDoor

/-
  What the statements' own few and awake answer for whole numbers, and dendronref02.Is of a number in its one form.
-/
namespace Go.Proofs.YtjfacmeeplalkaaDoor
open Go.RowKit
set_option linter.unusedVariables false

theorem rightB_rep (m : Nat) : rightB (dg W32 m) (nl W32 m) = true := by
  simp only [rightB, decide_eq_true_eq]
  exact ⟨fun i _ => by have := dg_bounds W32 m i (by decide); unfold W32 at this ⊢; omega, fun h0 => nl_top W32 m h0⟩
theorem refRight_rep {w : World} {v : Value} {m : Nat} (h : Rep w v m) :
    Calls Tryd.prog 28 #[v] w fun e w' => e = .returned (.bool true) ∧ w' = w := by
  have g := refRight_any v _ _ w h
  rw [rightB_rep] at g; exact g

set_option maxRecDepth 20000 in
set_option maxHeartbeats 2000000 in
theorem ris_rep (u v : Value) (x : Int) (w : World) (hu : RepI w u x) (hx : nl W32 x.natAbs ≤ 1000) (hv : RepJ w v x) :
    Calls Tryd.prog 11 #[u, v] w fun e w' => e = .returned (.bool true) ∧ Below w.heap.size w w' := by
  have hI := hu.at 1000 hx
  have hJ := hv
  obtain ⟨ao, c, rfl, hu⟩ := hu
  obtain ⟨bo, d, rfl, hv⟩ := hv
  have hA : ∀ o o', Below w.heap.size w ((w.alloc o).alloc o') := fun o o' => ((Below.refl _ _).alloc (Nat.le_refl _) _).alloc (by simp) _
  have c1 := (resW w 25 (.bool (decide (x < 0))) (.slice ao (nl W32 x.natAbs) c))
  have c2 := (res1 w (.cells #[.bool (decide (x < 0)), .slice ao (nl W32 x.natAbs) c] 25) 30 (.bool (decide (x < 0))) (.slice bo (nl 10000 x.natAbs) d))
  have b1 : Below (w.heap.size + 1) (w.alloc (.cells #[.bool (decide (x < 0)), .slice ao (nl W32 x.natAbs) c] 25)) ((w.alloc (.cells #[.bool (decide (x < 0)), .slice ao (nl W32 x.natAbs) c] 25)).alloc (.cells #[.bool (decide (x < 0)), .slice bo (nl 10000 x.natAbs) d] 30)) := (Below.refl _ _).alloc (by simp) _
  have k1 := keep2 b1 (by simp) ⟨c1.1, c1.2.1⟩
  have hSS := And.intro k1.1 (And.intro k1.2 (And.intro c2.1 c2.2.1))
  clear c1 c2 b1 k1
  have hN : nl W32 x.natAbs = 0 ∨ 0 < nl W32 x.natAbs := by omega
  have hzero : nl W32 x.natAbs = 0 → decide (x < 0) = false := fun h => by
    have := (nl_eq_zero W32 x.natAbs (by decide)).1 h
    rw [decide_eq_false_iff_not]; omega
  generalize hn : nl W32 x.natAbs = n at *
  generalize nl 10000 x.natAbs = m at *
  generalize decide (x < 0) = p at *
  have hR : ∀ W, Below w.heap.size w W → Calls Tryd.prog 28 #[.slice ao n c] W fun e w' => e = .returned (.bool true) ∧ w' = W := fun W hW => refRight_rep (Nums.below hu hW)
  rcases hN with h0 | h0
  · obtain rfl := hzero h0
    subst h0
    have BA : Below w.heap.size w ((w.alloc (.cells #[.bool false, .slice ao 0 c] 25)).alloc (.cells #[.bool false, .slice bo m d] 30)).drew := (hA _ _).drew
    clear hzero
    go_enter Tryd.func11, Tryd.ntmps11
    go_wp2
    go_region_held3 (fun w' => w'.cell? ⟨w.heap.size, 0, none⟩ = some (.bool false) ∧ w'.cell? ⟨w.heap.size, 1, none⟩ = some (.slice ao 0 c) ∧ w'.cell? ⟨w.heap.size + 1, 0, none⟩ = some (.bool false) ∧ w'.cell? ⟨w.heap.size + 1, 1, none⟩ = some (.slice bo m d)) (first | exact keep4 (by assumption) (by simp) (by assumption) | exact hSS | go_keep) (first
      | (go_at_call 28; refine (hR _ BA).mono ?_; rintro e w0 ⟨rfl, hw⟩; subst hw)
      | (go_at_call 5; refine (rfrom_any _ _ _ _ (hI.below BA) (Nat.le_refl _)).mono ?_; rintro e w1 ⟨r1, rfl, hr1, hb1⟩)
      | (go_at_call 14; refine (rorder_any _ _ _ _ _ hr1 ((hJ.below BA).below hb1)).mono ?_; rintro e w2 ⟨rfl, hb2⟩; rw [cmpI_eq rfl]))
    go_wp2
    go_ret
    have B1 := BA.trans (hb1.mono BA.size)
    exact ⟨rfl, B1.trans (hb2.mono B1.size)⟩
  · have h0' : decide ((0 : Int) < (n : Int)) = true := by rw [decide_eq_true_eq]; omega
    have h1' : decide (0 < n) = true := by rw [decide_eq_true_eq]; omega
    have BA : Below w.heap.size w ((w.alloc (.cells #[.bool p, .slice ao n c] 25)).alloc (.cells #[.bool p, .slice bo m d] 30)).drew := (hA _ _).drew
    clear hzero
    go_enter Tryd.func11, Tryd.ntmps11
    go_wp2
    first
    | go_region_with (first
      | (go_at_call 28; refine (hR _ BA).mono ?_; rintro e w0 ⟨rfl, hw⟩; subst hw)
      | (go_at_call 5; refine (rfrom_any _ _ _ _ (hI.below BA) (Nat.le_refl _)).mono ?_; rintro e w1 ⟨r1, rfl, hr1, hb1⟩; obtain ⟨d1, d2, d3, d4⟩ := keep4 hb1 (by simp) hSS)
      | (go_at_call 14; refine (rorder_any _ _ _ _ _ hr1 ((hJ.below BA).below hb1)).mono ?_; rintro e w2 ⟨rfl, hb2⟩; rw [cmpI_eq rfl]))
    | fail
    all_goals
      go_wp2
      go_ret
      have B1 := BA.trans (hb1.mono BA.size)
      exact ⟨rfl, B1.trans (hb2.mono B1.size)⟩

set_option maxRecDepth 20000 in
set_option maxHeartbeats 400000 in
theorem wfew_any (neg : Bool) (s : Value) (n K : Nat) (f : Nat → Int) (w : World) (h : Raw w s n f) (hK : K ≤ 1000) :
    Calls Tryd.prog 4 #[.agg #[.bool neg, s], .int .i64 (K : Int)] w fun e w' => ∃ ao c, e = .returned (.agg #[.bool neg, .slice ao (min n K) c]) ∧ Nums .u64 w' (.slice ao (min n K) c) (min n K) f ∧ U64 (min n K) f ∧ Below w.heap.size w w' := by
  have hA : ∀ o o', Below w.heap.size w ((w.alloc o).alloc o') := fun o o' => ((Below.refl _ _).alloc (Nat.le_refl _) _).alloc (by simp) _
  obtain ⟨ao, c, rfl, hnil, hnc, hcm, hu, h4⟩ := h
  unfold maxLen at hcm
  by_cases hlt : K < n
  · obtain ⟨b, off, rfl, hc⟩ := h4 (by omega)
    have hN : Nums .u64 w (.slice (some ⟨b, off, none⟩) K c) K f := ⟨_, _, rfl, by omega, by unfold LIM; omega, fun _ => ⟨_, _, rfl, hc.mono (by omega)⟩⟩
    have hi : (K : Int) < (n : Int) := by omega
    go_enter Tryd.func4, Tryd.ntmps4
    go_wp2
    rw [show min n K = K by omega]
    refine bodyPost_ret (v := .agg #[.bool neg, .slice (some ⟨b, off, none⟩) K c]) (by simp [results, go_sem]) rfl ?_
    exact ⟨_, _, rfl, hN.below (hA _ _), fun i hi => hu i (by omega), hA _ _⟩
  · have hN : Nums .u64 w (.slice ao n c) n f := ⟨_, _, rfl, hnc, by unfold LIM; omega, h4⟩
    have hi : ¬ (K : Int) < (n : Int) := by omega
    go_enter Tryd.func4, Tryd.ntmps4
    go_wp2
    rw [show min n K = n by omega]
    refine bodyPost_ret (v := .agg #[.bool neg, .slice ao n c]) (by simp [results, go_sem]) rfl ?_
    exact ⟨_, _, rfl, hN.below (hA _ _), hu, hA _ _⟩


theorem nl10_le (x n : Nat) (h : nl W32 x ≤ n) : nl 10000 x ≤ 3 * n := nl_small x n (Nat.lt_of_lt_of_le (lt_pow_nl W32 x (by decide)) (Nat.pow_le_pow_right (by decide) h))
theorem ztxt_q : (ztxt (-4)).toList = [45, 52] := by
  have e : ndec 4 = 1 := by unfold ndec; rw [nl_spec 10 _ 1 (by decide) (by decide)]; decide +kernel
  rw [Lib.toList_data]
  show (({ data := #[45] } : ByteArray) ++ txt 4).data.toList = _
  rw [ByteArray.data_append, Array.toList_append]
  unfold txt; rw [e, strOfNums_data]; decide +kernel
theorem ztxt_r : (ztxt 1).toList = [49] := by
  have e : ndec 1 = 1 := by unfold ndec; rw [nl_spec 10 _ 1 (by decide) (by decide)]; decide +kernel
  rw [Lib.toList_data]
  show (txt 1).data.toList = _
  unfold txt; rw [e, strOfNums_data]; decide +kernel
theorem nl_small7 (k : Nat) (h : k < 4294967296) : nl W32 k ≤ 1 := nl_le W32 k 1 (by decide) (by unfold W32; omega)

set_option maxRecDepth 20000 in
set_option maxHeartbeats 2000000 in
theorem wawake_any (w : World) : Calls Tryd.prog 15 #[] w fun e w' => e = .returned (.bool true) ∧ Below w.heap.size w w' := by
  go_enter Tryd.func15, Tryd.ntmps15
  go_wp2_with fail
  refine (wof_any _ _ (by omega) (by omega)).mono ?_
  rintro e w1 ⟨v1, rfl, hv1, hb1⟩
  go_wp2_with fail
  refine (wof_any _ _ (by omega) (by omega)).mono ?_
  rintro e w2 ⟨v2, rfl, hv2, hb2⟩
  go_wp2_with fail
  refine (wdivMod_any _ _ _ _ 1 1 _ ((hv1.below hb2).at 1 (nl_small7 _ (by decide))) (hv2.at 1 (nl_small7 _ (by decide))) (by omega) (by omega)).mono ?_
  rintro e w3 ⟨q, r, rfl, hq, hr, hb3⟩
  rw [show Int.fdiv (-7) 2 = -4 from rfl] at hq
  rw [show Int.fmod (-7) 2 = 1 from rfl] at hr
  have B1 := hb1
  have B2 := B1.trans (hb2.mono B1.size)
  have B3 := B2.trans (hb3.mono B2.size)
  have hA : ∀ o o', Below w3.heap.size w3 ((w3.alloc o).alloc o') := fun o o' => ((Below.refl _ _).alloc (Nat.le_refl _) _).alloc (by simp) _
  have tq := ztxt_q
  have tr := ztxt_r
  clear hv1 hv2 hb1 hb2 hb3 B1 B2
  obtain ⟨b1, ao1, n1, c1, rfl⟩ := hq.open
  obtain ⟨b2, ao2, n2, c2, rfl⟩ := hr.open
  go_wp2_with fail
  refine (wprint_any _ _ 1 _ ((hq.below (hA _ _)).at 1 (nl_small7 _ (by decide))) (by omega)).mono ?_
  rintro e w4 ⟨rfl, hb4⟩
  obtain ⟨d1, d2, _, _⟩ := keepW hb4 (by simp) (res1 w3 _ _ _ _)
  go_wp2_with fail
  refine (wprint_any _ _ 1 _ (((hr.below (hA _ _)).below hb4).at 1 (nl_small7 _ (by decide))) (by omega)).mono ?_
  rintro e w5 ⟨rfl, hb5⟩
  have B4 := (B3.trans ((hA _ _).mono B3.size)).trans (hb4.mono (by have := B3.size; simp; omega))
  have B5 := B4.trans (hb5.mono B4.size)
  go_wp2
  go_ret
  exact ⟨rfl, B5⟩

end Go.Proofs.YtjfacmeeplalkaaDoor

/-
  Limbs as they come in, variables that are set, and what two numbers are to the document, from world to world.
-/
namespace Go.Proofs.YtjfacmeeplalkaaDoor
open Go.RowKit

theorem Raw.below {w w' : World} {v : Value} {n : Nat} {f : Nat → Int} (h : Raw w v n f) (hb : Below w.heap.size w w') : Raw w' v n f := by
  obtain ⟨ao, c, h1, h2, h3, h4, h5, h6⟩ := h
  exact ⟨ao, c, h1, h2, h3, h4, h5, fun hn => let ⟨b, off, e, hc⟩ := h6 hn; ⟨b, off, e, hc.below hb (hc.lt hn)⟩⟩
theorem Raw.store2 {w : World} {v : Value} {n : Nat} {f : Nat → Int} (h : Raw w v n f) {R m c : Nat} {p : Bool} {ao : Option Addr} (q1 : w.cell? ⟨R, 0, none⟩ = some (.bool p)) (q2 : w.cell? ⟨R, 1, none⟩ = some (.slice ao m c)) (x y : Value) :
    Raw ((w.setCell ⟨R, 0, none⟩ x).setCell ⟨R, 1, none⟩ y) v n f := by
  obtain ⟨bo, d, h1, h2, h3, h4, h5, h6⟩ := h
  refine ⟨bo, d, h1, h2, h3, h4, h5, fun hn => ?_⟩
  obtain ⟨b, off, e, hc⟩ := h6 hn
  refine ⟨b, off, e, fun i hi => ?_⟩
  have hi' := hc i hi
  rw [World.cell?_setCell_other _ _ _ _ (fun e' => by rw [← e', q2] at hi'; cases hi'), World.cell?_setCell_other _ _ _ _ (fun e' => by rw [← e', q1] at hi'; cases hi')]
  exact hi'

/-- A variable for a struct of two cells that may be written, set. -/
theorem put2_same {w : World} {R : Nat} {x y x' y' : Value} (h : w.cell? ⟨R, 0, none⟩ = some x ∧ w.cell? ⟨R, 1, none⟩ = some y ∧ w.frozen? ⟨R, 0, none⟩ = false ∧ w.frozen? ⟨R, 1, none⟩ = false) :
    ((w.setCell ⟨R, 0, none⟩ x').setCell ⟨R, 1, none⟩ y').cell? ⟨R, 0, none⟩ = some x' ∧ ((w.setCell ⟨R, 0, none⟩ x').setCell ⟨R, 1, none⟩ y').cell? ⟨R, 1, none⟩ = some y' ∧
    ((w.setCell ⟨R, 0, none⟩ x').setCell ⟨R, 1, none⟩ y').frozen? ⟨R, 0, none⟩ = false ∧ ((w.setCell ⟨R, 0, none⟩ x').setCell ⟨R, 1, none⟩ y').frozen? ⟨R, 1, none⟩ = false := by
  obtain ⟨h1, h2, h3, h4⟩ := h
  refine ⟨?_, ?_, by simp [h3], by simp [h4]⟩
  · rw [World.cell?_setCell_other _ _ _ _ (fun e => by injection e; omega)]; exact World.cell?_setCell_same _ _ _ h1
  · exact World.cell?_setCell_same _ _ _ (show (w.setCell ⟨R, 0, none⟩ x').cell? ⟨R, 1, none⟩ = some y by rw [World.cell?_setCell_other _ _ _ _ (fun e => by injection e; omega)]; exact h2)
theorem put2_other {w : World} {R R' : Nat} {x y x' y' : Value} (hne : R' ≠ R) (h : w.cell? ⟨R', 0, none⟩ = some x ∧ w.cell? ⟨R', 1, none⟩ = some y ∧ w.frozen? ⟨R', 0, none⟩ = false ∧ w.frozen? ⟨R', 1, none⟩ = false) :
    ((w.setCell ⟨R, 0, none⟩ x').setCell ⟨R, 1, none⟩ y').cell? ⟨R', 0, none⟩ = some x ∧ ((w.setCell ⟨R, 0, none⟩ x').setCell ⟨R, 1, none⟩ y').cell? ⟨R', 1, none⟩ = some y ∧
    ((w.setCell ⟨R, 0, none⟩ x').setCell ⟨R, 1, none⟩ y').frozen? ⟨R', 0, none⟩ = false ∧ ((w.setCell ⟨R, 0, none⟩ x').setCell ⟨R, 1, none⟩ y').frozen? ⟨R', 1, none⟩ = false := by
  obtain ⟨h1, h2, h3, h4⟩ := h
  refine ⟨?_, ?_, by simp [h3], by simp [h4]⟩
  · rw [World.cell?_setCell_other _ _ _ _ (fun e => by injection e; omega), World.cell?_setCell_other _ _ _ _ (fun e => by injection e; omega)]; exact h1
  · rw [World.cell?_setCell_other _ _ _ _ (fun e => by injection e; omega), World.cell?_setCell_other _ _ _ _ (fun e => by injection e; omega)]; exact h2

/-- Two numbers that came in and what they are to the document, in a world behind wb. -/
structure Four (B : Nat) (wb : World) (va vb vx vy : Value) (x y : Int) (L : Nat) (w : World) : Prop where
  bel : Below B wb w
  a : IntAt w va x L
  b : IntAt w vb y L
  jx : RepJ w vx x
  jy : RepJ w vy y
theorem Four.next {B : Nat} {wb : World} {va vb vx vy : Value} {x y : Int} {L : Nat} {w w' : World} (h : Four B wb va vb vx vy x y L w) (hB : B ≤ w.heap.size) (hb : Below w.heap.size w w') : Four B wb va vb vx vy x y L w' :=
  ⟨h.bel.trans (hb.mono hB), h.a.below hb, h.b.below hb, h.jx.below hb, h.jy.below hb⟩
theorem keep44 {w w' : World} {B : Nat} {a b c d a' b' c' d' : Addr} {x y z t x' y' z' t' : Value} (hb : Below B w w') (hB : w.heap.size ≤ B) (h : w.cell? a = some x ∧ w.cell? b = some y ∧ w.cell? c = some z ∧ w.cell? d = some t ∧ w.cell? a' = some x' ∧ w.cell? b' = some y' ∧ w.cell? c' = some z' ∧ w.cell? d' = some t') :
    w'.cell? a = some x ∧ w'.cell? b = some y ∧ w'.cell? c = some z ∧ w'.cell? d = some t ∧ w'.cell? a' = some x' ∧ w'.cell? b' = some y' ∧ w'.cell? c' = some z' ∧ w'.cell? d' = some t' :=
  ⟨(keep2 hb hB ⟨h.1, h.2.1⟩).1, (keep2 hb hB ⟨h.1, h.2.1⟩).2, (keep2 hb hB ⟨h.2.2.1, h.2.2.2.1⟩).1, (keep2 hb hB ⟨h.2.2.1, h.2.2.2.1⟩).2, keep4 hb hB h.2.2.2.2⟩


theorem IntAt.nl {w : World} {v : Value} {z : Int} {L : Nat} (h : IntAt w v z L) : nl W32 z.natAbs ≤ L := by
  obtain ⟨neg, ao, n, c, f, _, _, _, rfl, hn⟩ := h
  rw [zof_abs]
  exact Nat.le_trans (nl_le W32 _ n (by decide) (num_lt f n)) hn
theorem abs_lt_pow {z : Int} {a : Nat} (h : nl W32 z.natAbs ≤ a) : z.natAbs < W32 ^ a :=
  Nat.lt_of_lt_of_le (lt_pow_nl W32 _ (by decide)) (Nat.pow_le_pow_right (by decide) h)
theorem nlz_add {x y : Int} {a b c : Nat} (hx : nl W32 x.natAbs ≤ a) (hy : nl W32 y.natAbs ≤ b) (h1 : a < c) (h2 : b < c) : nl W32 (x + y).natAbs ≤ c := by
  apply nl_le W32 _ _ (by decide)
  obtain ⟨c, rfl⟩ : ∃ k, c = k + 1 := ⟨c - 1, by omega⟩
  have h3 := Nat.lt_of_lt_of_le (abs_lt_pow hx) (Nat.pow_le_pow_right (n := W32) (by decide) (show a ≤ c by omega))
  have h4 := Nat.lt_of_lt_of_le (abs_lt_pow hy) (Nat.pow_le_pow_right (n := W32) (by decide) (show b ≤ c by omega))
  have h5 : W32 ^ (c + 1) = W32 ^ c * W32 := Nat.pow_succ _ _
  have h6 : W32 ^ c * 2 ≤ W32 ^ c * W32 := Nat.mul_le_mul_left _ (by decide)
  generalize W32 ^ c = P at *
  omega
theorem nlz_mul {x y : Int} {a b c : Nat} (hx : nl W32 x.natAbs ≤ a) (hy : nl W32 y.natAbs ≤ b) (h : a + b ≤ c) : nl W32 (x * y).natAbs ≤ c := by
  apply nl_le W32 _ _ (by decide)
  rw [Int.natAbs_mul]
  have h1 : x.natAbs * y.natAbs < W32 ^ a * W32 ^ b := Nat.mul_lt_mul'' (abs_lt_pow hx) (abs_lt_pow hy)
  rw [← Nat.pow_add] at h1
  exact Nat.lt_of_lt_of_le h1 (Nat.pow_le_pow_right (by decide) h)
theorem nlz_neg {x : Int} {a : Nat} (hx : nl W32 x.natAbs ≤ a) : nl W32 (-x).natAbs ≤ a := by rw [Int.natAbs_neg]; exact hx
theorem nlj {x : Int} {a : Nat} (hx : nl W32 x.natAbs ≤ a) (ha : a ≤ 1000) : nl 10000 x.natAbs ≤ 1000000 := Nat.le_trans (nl10_le _ _ hx) (by omega)

end Go.Proofs.YtjfacmeeplalkaaDoor

/-
  What whole.euclid and whole.Gcd answer.
-/
namespace Go.Proofs.YtjfacmeeplalkaaDoor
open Go.RowKit
set_option linter.unusedVariables false

/-- What euclid keeps: the two numbers are their multiples of the first but for multiples of the second; the amounts stay small. -/
structure Eu (x y A B P Q : Nat) (neg : Bool) : Prop where
  a : ∃ s : Int, (A : Int) = zof neg P * x + s * y
  b : ∃ t : Int, (B : Int) = zof (!neg) Q * x + t * y
  g : Nat.gcd A B = Nat.gcd x y
  s : P * B + Q * A = y
  p : P ≤ y + 1
  q : Q ≤ y + 1
  m : A ≤ x + y
  l : B ≤ y

theorem Eu.start (x y : Nat) : Eu x y x y 1 0 false := by
  refine ⟨⟨0, ?_⟩, ⟨1, ?_⟩, rfl, by omega, by omega, by omega, by omega, by omega⟩
  · rw [zof_false]; omega
  · rw [show (!false) = true from rfl, zof_true]; omega

theorem Eu.next {x y A B P Q : Nat} {neg : Bool} (h : Eu x y A B P Q neg) (hB : 0 < B) : Eu x y B (A % B) Q (P + A / B * Q) (!neg) := by
  have hd := Nat.div_add_mod A B
  have hs := h.s
  have key : Q * (A % B) + (P + A / B * Q) * B = y := by
    generalize A / B = q at *
    generalize A % B = r at *
    subst hd
    rw [← hs]; grind
  refine ⟨h.b, ?_, ?_, key, h.q, ?_, by have := h.l; omega, ?_⟩
  · obtain ⟨s, hs'⟩ := h.a
    obtain ⟨t, ht⟩ := h.b
    refine ⟨s - (A / B : Nat) * t, ?_⟩
    have hr : ((A % B : Nat) : Int) = (A : Int) - (A / B : Nat) * (B : Int) := by
      have : ((B * (A / B) + A % B : Nat) : Int) = (A : Int) := by rw [hd]
      rw [Int.natCast_add, Int.natCast_mul] at this
      grind
    rw [hr, hs', ht, Bool.not_not, zof_add]
    have e : zof neg (A / B * Q) = -((A / B : Nat) * zof (!neg) Q : Int) := by
      rw [zof_not]; cases neg <;> simp [zof] <;> grind
    rw [e]; grind
  · rw [← h.g, Nat.gcd_comm A B, Nat.gcd_rec B A, Nat.gcd_comm]
  · have : P + A / B * Q ≤ (P + A / B * Q) * B := Nat.le_mul_of_pos_right _ hB
    omega
  · have := Nat.mod_lt A hB; have := h.l; omega

/-- What euclid answers. -/
def EuOut (x y B : Nat) (w : World) (e : Ending) (w' : World) : Prop :=
  ∃ (rg rx : Value) (X s : Int), e = .returned (.tuple #[rg, rx]) ∧ RepI w' rg ((Nat.gcd x y : Nat) : Int) ∧ RepI w' rx X ∧ ((Nat.gcd x y : Nat) : Int) = X * x + s * y ∧ X.natAbs ≤ y + 1 ∧ Below B w w'

theorem nl_up (x y : Nat) (h : x ≤ y + 1) : nl W32 x ≤ nl W32 y + 1 := by
  refine nl_le W32 _ _ (by decide) ?_
  have h1 := lt_pow_nl W32 y (by decide)
  have h2 : 1 ≤ W32 ^ nl W32 y := Nat.pow_pos (by decide)
  rw [Nat.pow_succ]
  generalize W32 ^ nl W32 y = E at *
  unfold W32; omega

theorem nl_sum (x y A k : Nat) (hx : nl W32 x ≤ k) (hy : nl W32 y ≤ k) (h : A ≤ x + y) : nl W32 A ≤ k + 1 := by
  refine nl_le W32 _ _ (by decide) ?_
  have e1 := Nat.lt_of_lt_of_le (lt_pow_nl W32 x (by decide)) (Nat.pow_le_pow_right (n := W32) (by decide) hx)
  have e2 := Nat.lt_of_lt_of_le (lt_pow_nl W32 y (by decide)) (Nat.pow_le_pow_right (n := W32) (by decide) hy)
  rw [Nat.pow_succ]
  generalize W32 ^ k = E at *
  unfold W32; omega

set_option maxRecDepth 20000 in
set_option maxHeartbeats 2000000 in
theorem euclid_any (u v : Value) (n m : Nat) (f g : Nat → Int) (w : World) (hu : Nums .u64 w u n f) (hv : Nums .u64 w v m g) (hf : U64 n f) (hg : U64 m g) (hx : nl W32 (num f n) ≤ 1000) (hy : nl W32 (num g m) ≤ 1000) :
    Calls Tryd.prog 18 #[u, v] w fun e w' => EuOut (num f n) (num g m) w.heap.size w e w' := by
  obtain ⟨x, hx'⟩ : ∃ x, x = num f n := ⟨_, rfl⟩
  obtain ⟨y, hy'⟩ : ∃ y, y = num g m := ⟨_, rfl⟩
  have HCU : Hid (∀ W, Below w.heap.size w W → Calls Tryd.prog 36 #[u] W fun e w' => ∃ v', e = .returned v' ∧ RepM W.heap.size w' v' x ∧ Below W.heap.size W w') := fun W hb => by
    rw [hx']; exact clean_any _ _ _ W (hu.below hb) hf
  have HCV : Hid (∀ W, Below w.heap.size w W → Calls Tryd.prog 36 #[v] W fun e w' => ∃ v', e = .returned v' ∧ RepM W.heap.size w' v' y ∧ Below W.heap.size W w') := fun W hb => by
    rw [hy']; exact clean_any _ _ _ W (hv.below hb) hg
  rw [← hx', ← hy']
  rw [← hx'] at hx
  rw [← hy'] at hy
  clear hx' hy' hu hv hf hg
  have b0 : Below w.heap.size w (w.alloc (.cells #[.bool false, .slice none 0 0] 25)) := (Below.refl _ _).alloc (Nat.le_refl _) _
  have b1 : Below (w.heap.size + 1) (w.alloc (.cells #[.bool false, .slice none 0 0] 25)) ((w.alloc (.cells #[.bool false, .slice none 0 0] 25)).alloc (.cells #[.bool false, .slice none 0 0] 25)) := (Below.refl _ _).alloc (by simp) _
  have k1 := keepW b1 (by simp) (resW w 25 (.bool false) (.slice none 0 0))
  have k2 := res1 w (.cells #[.bool false, .slice none 0 0] 25) 25 (.bool false) (.slice none 0 0)
  have B0 := b0.trans (b1.mono (by omega))
  have hs0 : ((w.alloc (.cells #[.bool false, .slice none 0 0] 25)).alloc (.cells #[.bool false, .slice none 0 0] 25)).heap.size = w.heap.size + 1 + 1 := by simp
  clear b0 b1
  have HK : Hid (((w.alloc (.cells #[.bool false, .slice none 0 0] 25)).alloc (.cells #[.bool false, .slice none 0 0] 25)).heap.size = w.heap.size + 1 + 1) := hs0
  clear hs0
  go_enter Tryd.func18, Tryd.ntmps18
  go_wp2_with fail
  generalize (w.alloc (.cells #[.bool false, .slice none 0 0] 25)).alloc (.cells #[.bool false, .slice none 0 0] 25) = W0 at *
  refine (HCU.out _ B0).mono ?_
  rintro e w1 ⟨r1, rfl, hr1, hb1⟩
  have B1 : Below w.heap.size w w1 := B0.trans (hb1.mono B0.size)
  have C1 := hb1
  go_wp2_with fail
  refine (HCV.out _ B1).mono ?_
  rintro e w2 ⟨r2, rfl, hr2, hb2⟩
  have C2 := C1.trans (hb2.mono C1.size)
  replace hr1 : Rep w2 r1 x := Nums.below hr1.rep hb2
  replace hr2 : Rep w2 r2 y := hr2.rep
  clear B1 C1 hb1 hb2 HCU HCV
  go_wp2_with fail
  refine (of_any 1 _ (by omega) (by omega)).mono ?_
  rintro e w3 ⟨r3, rfl, hr3, hb3⟩
  have C3 := C2.trans (hb3.mono C2.size)
  replace hr1 : Rep w3 r1 x := Nums.below hr1 hb3
  replace hr2 : Rep w3 r2 y := Nums.below hr2 hb3
  replace hr3 : Rep w3 r3 1 := hr3.nums
  go_wp2_with fail
  refine (of_any 0 _ (by omega) (by omega)).mono ?_
  rintro e w4 ⟨r4, rfl, hr4, hb4⟩
  have C4 := C3.trans (hb4.mono C3.size)
  replace hr1 : Rep w4 r1 x := Nums.below hr1 hb4
  replace hr2 : Rep w4 r2 y := Nums.below hr2 hb4
  replace hr3 : Rep w4 r3 1 := Nums.below hr3 hb4
  replace hr4 : Rep w4 r4 0 := hr4.nums
  clear C2 C3 hb3 hb4
  have HE : Hid (Eu x y x y 1 0 false) := Eu.start x y
  go_wp2
  go_loopg [0, 1, 6, 7, 8] y (fun k va vb vp vq vn wr => ∃ (A P Q : Nat) (neg : Bool), vn = .bool neg ∧ Rep wr va A ∧ Rep wr vb k ∧ Rep wr vp P ∧ Rep wr vq Q ∧ Hid (Eu x y A k P Q neg) ∧ Below W0.heap.size W0 wr)
  case atStart => exact ⟨x, 1, 0, false, rfl, hr1, hr2, hr3, hr4, HE, C4⟩
  case round =>
    clear hr1 hr2 hr3 hr4 HE C4
    obtain ⟨A, P, Q, neg, rfl, hA, hB, hP, hQ, hE, C⟩ := hrel
    obtain ⟨b, hgk⟩ : ∃ b, b = gk := ⟨_, rfl⟩
    have HGK : Hid (b = gk) := hgk
    rw [← hgk] at hB hE
    clear hgk
    have hPl := Nat.le_trans (nl_up P y hE.out.p) (show nl W32 y + 1 ≤ 1001 by omega)
    have hQl := Nat.le_trans (nl_up Q y hE.out.q) (show nl W32 y + 1 ≤ 1001 by omega)
    have hAl : nl W32 A ≤ 2002 := Nat.le_trans (nl_sum x y A _ hx hy hE.out.m) (by omega)
    have hbl : nl W32 b ≤ 1000 := Nat.le_trans (nl_mono W32 b y (by decide) hE.out.l) hy
    go_wp2_with fail
    refine (nat_zero_rep hB).mono ?_
    rintro e wz ⟨rfl, hw⟩
    subst hw
    by_cases h0 : b = 0
    · rw [decide_eq_true h0]
      have hG : Hid (A = Nat.gcd x y ∧ ∃ s : Int, (A : Int) = zof neg P * x + s * y) := ⟨by rw [← hE.out.g, h0, Nat.gcd_zero_right], hE.out.a⟩
      have hPy := hE.out.p
      clear hE hQ hB h0 HGK hQl hAl hbl hPl
      go_wp2_with fail
      refine (signed_any false _ _ _ hA).mono ?_
      rintro e w5 ⟨r5, rfl, hr5, hb5⟩
      have C5 := C.trans (hb5.mono C.size)
      go_wp2_with fail
      refine (signed_any neg _ _ _ (Nums.below hP hb5)).mono ?_
      rintro e w6 ⟨r6, rfl, hr6, hb6⟩
      have C6 := C5.trans (hb6.mono C5.size)
      replace hr5 := hr5.below hb6
      obtain ⟨p1, ao1, n1, c1, rfl⟩ := hr5.open
      obtain ⟨p2, ao2, n2, c2, rfl⟩ := hr6.open
      obtain ⟨q1, q2, q3, q4⟩ := keepW C6 (Nat.le_refl _) k1
      obtain ⟨q5, q6, q7, q8⟩ := keepW C6 (Nat.le_refl _) k2
      have BF : Below w.heap.size w w6 := B0.trans (C6.mono B0.size)
      clear C C5 C6 hb5 hb6 k1 k2 B0
      go_wp2
      (try simp only [Exit.inBlock, Exit.then])
      refine bodyPost_ret (v := .tuple #[.agg #[.bool p1, .slice ao1 n1 c1], .agg #[.bool p2, .slice ao2 n2 c2]]) (by simp [results, go_sem, q1, q2, q5, q6]) rfl ?_
      obtain ⟨eA, s, hs⟩ := hG.out
      rw [zof_false] at hr5
      refine ⟨_, _, zof neg P, s, rfl, ?_, hr6.store4 q1 q2 q5 q6 (by omega) _ _ _ _, ?_, by rw [zof_abs]; exact hPy, below_store2 (below_store2 BF (by omega) _ _) (by omega) _ _⟩
      · rw [← eA]; exact hr5.store4 q1 q2 q5 q6 (by omega) _ _ _ _
      · rw [← eA]; exact hs
    · rw [decide_eq_false h0]
      have hb0 : 0 < b := by omega
      have hE2 : Hid (Eu x y b (A % b) Q (P + A / b * Q) (!neg)) := hE.out.next hb0
      have hql : nl W32 (A / b) ≤ 2002 := Nat.le_trans (nl_mono W32 _ _ (by decide) (Nat.div_le_self _ _)) hAl
      have hpl : nl W32 (A / b * Q) ≤ 4000 := by
        refine Nat.le_trans (nl_up _ y ?_) (by omega)
        have := hE2.out.q; omega
      have hrl : A % b < b := Nat.mod_lt _ hb0
      have hDM : Hid (∀ W u v, Rep W u A → Rep W v b → Calls Tryd.prog 38 #[u, v] W fun e w' => ∃ q r, e = .returned (.tuple #[q, r, .int .i64 0]) ∧ RepM W.heap.size w' q (A / b) ∧ RepM W.heap.size w' r (A % b) ∧ Below W.heap.size W w') := fun W u v h1 h2 => by
        have h := divMod_of u v _ _ _ _ W h1 h2 (u64_dg A _) (u64_dg b _) (by rw [num_nl]; exact h0) (by rw [num_nl, num_nl]; exact divide_any A b hb0 (by omega))
        rw [num_nl, num_nl] at h; exact h
      clear hE h0
      go_wp2_with fail
      refine (hDM.out _ _ _ hA hB).mono ?_
      rintro e w5 ⟨qv, rv, rfl, hqv, hrv, hb5⟩
      have C5 := C.trans (hb5.mono C.size)
      replace hB : Rep w5 _ b := Nums.below hB hb5
      replace hP : Rep w5 _ P := Nums.below hP hb5
      replace hQ : Rep w5 _ Q := Nums.below hQ hb5
      replace hqv : Rep w5 qv (A / b) := hqv.rep
      replace hrv : Rep w5 rv (A % b) := hrv.rep
      clear hA hb5 C hDM
      generalize A / b = q at *
      generalize A % b = r at *
      go_wp2_with fail
      refine (mul_wide _ _ _ _ _ _ _ hqv hQ (u64_dg _ _) (u64_dg _ _) (by omega)).mono ?_
      rw [num_nl, num_nl]
      rintro e w6 ⟨r6, rfl, hr6, hb6⟩
      have C6 := C5.trans (hb6.mono C5.size)
      go_wp2_with fail
      refine (add_any _ _ _ _ _ _ _ (Nums.below hP hb6) hr6.nums (u64_dg _ _) (u64_dg _ _) (by omega) (by omega)).mono ?_
      rw [num_nl, num_nl]
      rintro e w7 ⟨r7, rfl, hr7, hb7⟩
      have C7 := C6.trans (hb7.mono C6.size)
      have g1 : Rep w7 _ b := Nums.below (Nums.below hB hb6) hb7
      have g2 : Rep w7 _ r := Nums.below (Nums.below hrv hb6) hb7
      have g3 : Rep w7 _ Q := Nums.below (Nums.below hQ hb6) hb7
      have g4 : Rep w7 _ (P + q * Q) := hr7.rep
      clear hB hrv hQ hr7 hP hqv hr6 hb6 hb7 C5 C6
      go_wp2
      go_roundg r
      case measure => have := HGK.out; omega
      case rel => exact ⟨b, Q, P + q * Q, !neg, rfl, g1, g2, g3, g4, hE2, C7⟩

set_option maxRecDepth 20000 in
set_option maxHeartbeats 2000000 in
theorem wgcd_any (u v : Value) (x y : Int) (L M : Nat) (w : World) (hu : IntAt w u x L) (hv : IntAt w v y M) (hL : L ≤ 900000) (hM : M ≤ 900000) (ht : Tab w) :
    Calls Tryd.prog 12 #[u, v] w fun e w' => ∃ r, e = .returned r ∧ RepI w' r ((Nat.gcd x.natAbs y.natAbs : Nat) : Int) ∧ Below w.heap.size w w' := by
  obtain ⟨p, ao, n, c, f, rfl, hu, hf, rfl, hn⟩ := hu
  obtain ⟨q, bo, m, d, g, rfl, hv, hg, rfl, hm⟩ := hv
  have hx : nl W32 (num f n) ≤ 900000 := Nat.le_trans (nl_le W32 _ _ (by decide) (num_lt f n)) (by omega)
  have hy : nl W32 (num g m) ≤ 900000 := Nat.le_trans (nl_le W32 _ _ (by decide) (num_lt g m)) (by omega)
  rw [zof_abs, zof_abs]
  have hA : ∀ o o' o'', Below w.heap.size w (((w.alloc o).alloc o').alloc o'') := fun o o' o'' => (((Below.refl _ _).alloc (Nat.le_refl _) _).alloc (by simp) _).alloc (by simp; omega) _
  have ne1 : ¬ w.heap.size = w.heap.size + 1 + 1 := by omega
  have ne2 : ¬ w.heap.size + 1 + 1 = w.heap.size := by omega
  obtain ⟨c1, c2, c3, c4⟩ := box_a w 25 25 25 (.bool p) (.slice ao n c) (.bool q) (.slice bo m d) (.bool false) (.slice none 0 0)
  go_enter Tryd.func12, Tryd.ntmps12
  go_wp2_with fail
  refine (gcd_any _ _ _ _ _ _ _ (hu.below (hA _ _ _)) (hv.below (hA _ _ _)) hf hg hx hy (ht.below (hA _ _ _))).mono ?_
  rintro e w1 ⟨s, rfl, hs, hb1⟩
  have hk1 := keepW hb1 (by simp) (res2 w _ _ _ _ _)
  go_wp2_with fail
  refine (signed_any false _ _ _ hs).mono ?_
  rintro e w2 ⟨r, rfl, hr, hb2⟩
  obtain ⟨b2, ao2, n2, e2, rfl⟩ := hr.open
  obtain ⟨q1, q2, q3, q4⟩ := keepW hb2 (Nat.le_refl _) hk1
  have B1 := (hA _ _ _).trans (hb1.mono (by simp; omega))
  have B2 := B1.trans (hb2.mono B1.size)
  go_wp2
  (try simp only [Exit.inBlock, Exit.then])
  refine bodyPost_ret (v := .agg #[.bool b2, .slice ao2 n2 e2]) (by simp [results, go_sem, q1, q2]) rfl ?_
  rw [zof_false] at hr
  exact ⟨_, rfl, hr.store2 q1 q2 _ _, below_store2 B2 (by omega) _ _⟩

end Go.Proofs.YtjfacmeeplalkaaDoor

/-
  'append' of one value (of any number of cells) to a row of the call's own: where the longer row lies, and that no number's limbs turn by it. No program in sight.
-/
namespace Go.Proofs.YtjfacmeeplalkaaDoor
open Go.RowKit
set_option linter.unusedVariables false

/-- No cell of block g holds such a value. -/
def PureB (Q : Value → Prop) (w : World) (g : Nat) : Prop := ∀ o v, w.cell? ⟨g, o, none⟩ = some v → ¬ Q v
/-- Cells that hold such a value still do. -/
def KeepQ (Q : Value → Prop) (w w' : World) : Prop := ∀ b o v, Q v → w.cell? ⟨b, o, none⟩ = some v → w'.cell? ⟨b, o, none⟩ = some v
/-- A number. -/
def IsNum (v : Value) : Prop := ∃ k x, v = .int k x
theorem num_bool (b : Bool) : ¬ IsNum (.bool b) := fun ⟨_, _, h⟩ => by cases h
theorem num_slice (a : Option Addr) (n c : Nat) : ¬ IsNum (.slice a n c) := fun ⟨_, _, h⟩ => by cases h
theorem num_string (s : ByteArray) : ¬ IsNum (.string s) := fun ⟨_, _, h⟩ => by cases h
theorem num_pointer (a : Option Addr) : ¬ IsNum (.pointer a) := fun ⟨_, _, h⟩ => by cases h

theorem KeepQ.refl (Q : Value → Prop) (w : World) : KeepQ Q w w := fun _ _ _ _ h => h
theorem KeepQ.trans {Q : Value → Prop} {w w1 w2 : World} (h : KeepQ Q w w1) (g : KeepQ Q w1 w2) : KeepQ Q w w2 := fun b o v hq hv => g b o v hq (h b o v hq hv)
theorem KeepQ.below {Q : Value → Prop} {w w' : World} (h : Below w.heap.size w w') : KeepQ Q w w' := fun _ _ _ _ hv => (h.cell (World.block_lt_of_cell? w _ hv)).trans hv
theorem PureB.below {Q : Value → Prop} {w w' : World} {g : Nat} (h : PureB Q w g) (hb : Below w.heap.size w w') (hg : g < w.heap.size) : PureB Q w' g := fun o v hv => h o v ((hb.cell hg).symm.trans hv)
theorem pure_of_cells {Q : Value → Prop} {w : World} {g : Nat} {cur : Array Value} {e : TypeId} {fr : Nat × Nat} (hg : w.heap[g]? = some (.cells cur e fr)) (h : ∀ u ∈ cur.toList, ¬ Q u) : PureB Q w g := by
  intro o v hv
  rw [cell_of_row w g o cur e fr hg] at hv
  exact h v (by rw [← Array.getElem?_toList] at hv; exact List.mem_of_getElem? hv)
theorem pure_cells {Q : Value → Prop} {w : World} {g : Nat} {cur : Array Value} {e : TypeId} {fr : Nat × Nat} (hg : w.heap[g]? = some (.cells cur e fr)) (h : PureB Q w g) : ∀ u ∈ cur.toList, ¬ Q u := by
  intro u hu
  obtain ⟨i, hi⟩ := List.getElem?_of_mem hu
  exact h i u (by rw [cell_of_row w g i cur e fr hg, ← Array.getElem?_toList]; exact hi)
theorem mem_zeroCells {z : Array Value} {n : Nat} {u : Value} (hz : 0 < z.size) (h : u ∈ (Builtin.zeroCells z n).toList) : u ∈ z.toList := by
  simp only [Builtin.zeroCells, Array.toList_map, List.mem_map] at h
  obtain ⟨i, _, rfl⟩ := h
  have hlt : i % z.size < z.size := Nat.mod_lt _ hz
  rw [getElem!_pos z (i % z.size) hlt]
  exact Array.mem_toList_iff.2 (Array.getElem_mem hlt)

theorem keep_alloc {Q : Value → Prop} (w : World) (o : Obj) : KeepQ Q w (w.drew.alloc o) := fun b p v _ hv =>
  (World.cell?_of_block (w := w) (Below.heap_alloc w.drew o b (World.block_lt_of_cell? w _ hv))).trans hv

/-- 'append' of m values at once, a row of the call's own ahead. -/
theorem append_pure {P : Program} {Q : Value → Prop} (w : World) (base : Nat) (t ty e : TypeId) (i : TypeInfo) (z : Value) (size bytes : Nat) (ht : P.underlying t = some (.slice e)) (hi : P.info? e = some i) (hz : i.zero = some z)
    (hsize : i.size = size) (hby : i.bytes = bytes) (hzs : z.cells.size = size) (hsz : 0 < size)
    (v : Value) (n : Nat) (xs : List Value) (hown : w.ownsRow base e size v n xs) (hpure : ∀ g, v.ownBlock = some g → PureB Q w g)
    (a : Addr) (c : Nat) (news : List Value) (hl : news.length = size) (hnews : ∀ j u, news[j]? = some u → w.cell? (a.add j) = some u) (h1 : ∀ u ∈ news, u.oneCell' = true)
    (hq : ∀ u ∈ news, ¬ Q u) (hqz : ∀ u ∈ z.cells.toList, ¬ Q u)
    (h63 : n ≤ 1000000000) (hbytes : bytes ≤ 1000) (hbase : base ≤ w.heap.size) :
    ∃ g' cap' w', (Builtin.append_ #[t, t] ty #[v, .slice (some a) 1 c]).run P w = .ok (.slice (some ⟨g', 0, none⟩) (n + 1) cap') w' ∧ w'.ownsRow base e size (.slice (some ⟨g', 0, none⟩) (n + 1) cap') (n + 1) (xs ++ news) ∧
      w.grownBy w' v.ownBlock ∧ (v.ownBlock = some g' ∨ g' = w.heap.size) ∧ PureB Q w' g' ∧ KeepQ Q w w' := by
  have hb2 : (n + 1) * bytes ≤ 140737488355328 := Nat.le_trans (Nat.mul_le_mul (show n + 1 ≤ 1000000001 by omega) hbytes) (by decide)
  have hb1 : 1 * bytes ≤ 281474976710656 := by omega
  have hmx : n + 1 ≤ maxLen := by unfold maxLen; omega
  obtain ⟨v', w', hr, h2, h3, _⟩ := run_append_own (P := P) w base t ty e i z size bytes ht hi hz hsize hby hzs hsz v n xs hown a 1 c news (by omega) hnews h1 hmx hb2 hbase
  subst hsize
  subst hby
  have hz0 : ∀ k, ∀ u ∈ (Builtin.zeroCells z.cells k).toList, ¬ Q u := fun k u hu => hqz u (mem_zeroCells (by omega) hu)
  rcases hown.2 with ⟨rfl, rfl⟩ | ⟨g, cap, cur, rfl, hbg, hg, hnc, hcm, hcs, htake⟩
  · have hr2 := run_append_nil (P := P) w t ty e i z ht hi hz a 1 c news (by omega) hnews (by omega) (by omega) hb1
    rw [hr2] at hr
    injection hr with hv hw
    subst hw
    subst hv
    simp only [Nat.zero_add] at h2 hr2 ⊢
    refine ⟨_, _, _, hr2, h2, h3, .inr rfl, ?_, keep_alloc w _⟩
    refine pure_of_cells (heap_alloc_new w.drew _) fun u hu => ?_
    rw [Array.toList_append, List.mem_append] at hu
    rcases hu with hu | hu
    · exact hq u (by simpa using hu)
    · exact hz0 _ u hu
  · have hpg := hpure g rfl
    have hcur := pure_cells hg hpg
    have hxs : ∀ u ∈ xs, ¬ Q u := fun u hu => hcur u (by rw [← htake] at hu; exact List.mem_of_mem_take hu)
    by_cases hroom : n + 1 ≤ cap
    · have hfit : n * i.size + news.length ≤ cur.size := by
        rw [hl, hcs]
        have := Nat.mul_le_mul_right i.size hroom
        rw [Nat.add_mul] at this; omega
      have hr2 := run_append_room (P := P) w t ty e i ht hi g n cap cur hg a 1 c news (by omega) hnews h1 hroom hfit
      rw [hr2] at hr
      injection hr with hv hw
      subst hw
      subst hv
      refine ⟨g, cap, _, hr2, h2, h3, .inl rfl, ?_, ?_⟩
      · refine pure_of_cells (setRow_heap w g cur _ e _ hg) fun u hu => ?_
        simp only [List.mem_append] at hu
        rcases hu with (hu | hu) | hu
        · exact hcur u (List.mem_of_mem_take hu)
        · exact hq u hu
        · exact hcur u (List.mem_of_mem_drop hu)
      · intro b o u hu hc
        by_cases hbg' : b = g
        · subst hbg'; exact absurd hu (hpg o u hc)
        · exact (World.cell?_of_block (w := w) (setRow_other w g b _ hbg')).trans hc
    · have holds : ∀ j u, xs[j]? = some u → w.cell? ((⟨g, 0, none⟩ : Addr).add j) = some u := hown.cells (g := g) rfl
      have hr2 := run_append_grow (P := P) w t ty e i z ht hi hz ⟨g, 0, none⟩ n cap xs hown.1 holds a 1 c news (by omega) hnews (by omega) (by omega) (growslice_fits (by omega) hb2)
      rw [hr2] at hr
      injection hr with hv hw
      subst hw
      subst hv
      refine ⟨_, _, _, hr2, h2, h3, .inr rfl, ?_, keep_alloc w _⟩
      refine pure_of_cells (heap_alloc_new w.drew _) fun u hu => ?_
      rw [Array.toList_append, Array.toList_append, List.mem_append, List.mem_append] at hu
      rcases hu with (hu | hu) | hu
      · exact hxs u (by simpa using hu)
      · exact hq u (by simpa using hu)
      · exact hz0 _ u hu

/-- The same, in a walk. -/
theorem wpList_append_pure {P : Program} {Q' : Value → Prop} {ops : Array Oper} {rest : List Oper} {o : Oper} {a : Act} {Q : Exit → Act → World → Prop} {w : World} (hgd : o.guard = none) (s x : Operand) (t : TypeId)
    (ho : o.op = .call { callee := .builtin .append, args := #[s, x], argTypes := #[t, t] }) (base : Nat) (e : TypeId) (z : Value) (size bytes : Nat) (ht : P.underlying t = some (.slice e))
    (hinfo : (P.info? e).map (fun i => (i.zero, i.size, i.bytes)) = some (some z, size, bytes)) (hzs : z.cells.size = size) (hsz : 0 < size)
    (v : Value) (hs : a.eval s = v) (n : Nat) (xs : List Value) (hown : w.ownsRow base e size v n xs) (hpure : ∀ g, v.ownBlock = some g → PureB Q' w g)
    (ad : Addr) (c : Nat) (hx : a.eval x = .slice (some ad) 1 c) (news : List Value) (hl : news.length = size) (hnews : ∀ j u, news[j]? = some u → w.cell? (ad.add j) = some u) (h1 : ∀ u ∈ news, u.oneCell' = true)
    (hq : ∀ u ∈ news, ¬ Q' u) (hqz : ∀ u ∈ z.cells.toList, ¬ Q' u) (h63 : n ≤ 1000000000) (hbytes : bytes ≤ 1000) (hbase : base ≤ w.heap.size)
    (h : ∀ g' cap' w', w'.ownsRow base e size (.slice (some ⟨g', 0, none⟩) (n + 1) cap') (n + 1) (xs ++ news) → w.grownBy w' v.ownBlock → (v.ownBlock = some g' ∨ g' = w.heap.size) → PureB Q' w' g' → KeepQ Q' w w' →
      wpList P ops Q rest (a.put o.dst (.slice (some ⟨g', 0, none⟩) (n + 1) cap')) w') :
    wpList P ops Q (o :: rest) a w := by
  obtain ⟨i0, hi, hz0, hz1, hz2⟩ := info_parts hinfo
  obtain ⟨g', cap', w', hr, h2, h3, h4, h5, h6⟩ := append_pure (P := P) (Q := Q') w base t o.type e i0 z size bytes ht hi hz0 hz1 hz2 hzs hsz v n xs hown hpure ad c news hl hnews h1 hq hqz h63 hbytes hbase
  refine wpList_plain hgd fun K hK => ?_
  unfold Oper.wp execOp
  simp only [ho, resolve, invoke, builtin, Sem.run_bind, Sem.run_pure, Result.andThen_ok, List.map_toArray, List.map_cons, List.map_nil, hs, hx, hr]
  exact hK _ _ (h g' cap' w' h2 h3 h4 h5 h6)

/-- The same, at a step of a region that draws its order. -/
theorem step_append_pure {P : Program} {Q' : Value → Prop} {ops : Array Oper} {o : Oper} {a : Act} {K : Act → World → Prop} {Q : Exit → Act → World → Prop} {E : Prop} {w : World} (hgd : o.guard = none) (s x : Operand) (t : TypeId)
    (ho : o.op = .call { callee := .builtin .append, args := #[s, x], argTypes := #[t, t] }) (base : Nat) (e : TypeId) (z : Value) (size bytes : Nat) (ht : P.underlying t = some (.slice e))
    (hinfo : (P.info? e).map (fun i => (i.zero, i.size, i.bytes)) = some (some z, size, bytes)) (hzs : z.cells.size = size) (hsz : 0 < size)
    (v : Value) (hs : a.eval s = v) (n : Nat) (xs : List Value) (hown : w.ownsRow base e size v n xs) (hpure : ∀ g, v.ownBlock = some g → PureB Q' w g)
    (ad : Addr) (c : Nat) (hx : a.eval x = .slice (some ad) 1 c) (news : List Value) (hl : news.length = size) (hnews : ∀ j u, news[j]? = some u → w.cell? (ad.add j) = some u) (h1 : ∀ u ∈ news, u.oneCell' = true)
    (hq : ∀ u ∈ news, ¬ Q' u) (hqz : ∀ u ∈ z.cells.toList, ¬ Q' u) (h63 : n ≤ 1000000000) (hbytes : bytes ≤ 1000) (hbase : base ≤ w.heap.size)
    (h : ∀ g' cap' w', w'.ownsRow base e size (.slice (some ⟨g', 0, none⟩) (n + 1) cap') (n + 1) (xs ++ news) → w.grownBy w' v.ownBlock → (v.ownBlock = some g' ∨ g' = w.heap.size) → PureB Q' w' g' → KeepQ Q' w w' →
      K (a.put o.dst (.slice (some ⟨g', 0, none⟩) (n + 1) cap')) w') :
    if Region.wanted o (yielded ops a.tmps) = true then Oper.wp P o a w K Q else E := by
  have hw : Region.wanted o (yielded ops a.tmps) = true := by simp [Region.wanted, hgd]
  rw [if_pos hw]
  obtain ⟨i0, hi, hz0, hz1, hz2⟩ := info_parts hinfo
  obtain ⟨g', cap', w', hr, h2, h3, h4, h5, h6⟩ := append_pure (P := P) (Q := Q') w base t o.type e i0 z size bytes ht hi hz0 hz1 hz2 hzs hsz v n xs hown hpure ad c news hl hnews h1 hq hqz h63 hbytes hbase
  unfold Oper.wp execOp
  simp only [ho, resolve, invoke, builtin, Sem.run_bind, Sem.run_pure, Result.andThen_ok, List.map_toArray, List.map_cons, List.map_nil, hs, hx, hr]
  exact h g' cap' w' h2 h3 h4 h5 h6

theorem Nums.keep {k : IntKind} {w w' : World} {v : Value} {n : Nat} {f : Nat → Int} (h : Nums k w v n f) (hk : KeepQ IsNum w w') : Nums k w' v n f := by
  obtain ⟨ao, c, h1, h2, h3, h4⟩ := h
  exact ⟨ao, c, h1, h2, h3, fun hn => let ⟨b, off, e, hc⟩ := h4 hn; ⟨b, off, e, fun i hi => hk _ _ _ ⟨_, _, rfl⟩ (hc i hi)⟩⟩
theorem owns_later {B k : Nat} {e : TypeId} {w w' : World} {v : Value} {n : Nat} {us : List Value} (h : w.ownsRow B e k v n us) (hb : Below w.heap.size w w') : w'.ownsRow B e k v n us := by
  refine ⟨h.1, ?_⟩
  rcases h.2 with hn | ⟨g, cap, cur, rfl, hB, hg, rest⟩
  · exact .inl hn
  · refine .inr ⟨g, cap, cur, rfl, hB, ?_, rest⟩
    rw [hb.block g (Array.getElem?_eq_some_iff.1 hg).1]
    exact hg
theorem below_grownB {B : Nat} {wb w w' : World} {row : Option Nat} (h : Below B wb w) (hg : w.grownBy w' row) (hB : B ≤ w.heap.size) (hr : ∀ g, row = some g → B ≤ g) : Below B wb w' :=
  h.grown hg hB hr

/-- What was appended lay in a block of its own. -/
theorem news_block {w : World} {B : Nat} {cs : Array Value} {t : TypeId} (hb : w.heap[B]? = some (.cells cs t (0, 0))) : ∀ j u, cs.toList[j]? = some u → w.cell? ((⟨B, 0, none⟩ : Addr).add j) = some u := fun j u hu => by
  have hadd : (⟨B, 0, none⟩ : Addr).add j = ⟨B, j, none⟩ := by unfold Addr.add; split <;> simp_all
  rw [hadd, cell_of_row w B j cs t _ hb]
  simpa using hu
theorem owns_cell {w : World} {base k : Nat} {e : TypeId} {g n cap : Nat} {xs : List Value} (h : w.ownsRow base e k (.slice (some ⟨g, 0, none⟩) n cap) n xs) {j : Nat} {u : Value} (hu : xs[j]? = some u) : w.cell? ⟨g, j, none⟩ = some u := by
  have := h.cells (g := g) rfl j u hu
  have hadd : (⟨g, 0, none⟩ : Addr).add j = ⟨g, j, none⟩ := by unfold Addr.add; split <;> simp_all
  rw [hadd] at this; exact this
theorem owns_cap {w : World} {base k : Nat} {e : TypeId} {g n cap : Nat} {xs : List Value} (h : w.ownsRow base e k (.slice (some ⟨g, 0, none⟩) n cap) n xs) : n ≤ cap ∧ base ≤ g ∧ g < w.heap.size := by
  have h2 := h.lt g rfl
  rcases h.2 with ⟨h0, _⟩ | ⟨_, _, _, he, _, _, hnc, _⟩
  · cases h0
  · cases he; exact ⟨hnc, h2.1, h2.2⟩
theorem owns_new (w : World) (base k : Nat) (e : TypeId) (cs : Array Value) (hb : base ≤ w.heap.size) (hk : cs.size = k) : (w.alloc (.cells cs e)).ownsRow base e k (.slice (some ⟨w.heap.size, 0, none⟩) 1 1) 1 cs.toList :=
  ⟨by simp [hk], .inr ⟨_, 1, cs, rfl, hb, heap_alloc_new _ _, Nat.le_refl _, by unfold maxLen; omega, by omega, by rw [Nat.one_mul, ← hk, ← Array.length_toList]; exact List.take_length⟩⟩

end Go.Proofs.YtjfacmeeplalkaaDoor

/-
  Variables that hold structs of two or three cells; numbers stay when such a variable is set.
-/
namespace Go.Proofs.YtjfacmeeplalkaaDoor
open Go.RowKit
set_option linter.unusedVariables false

/-- A variable for a struct of two cells that may be written, and what it holds. -/
def V2 (w : World) (R : Nat) (x y : Value) : Prop := w.cell? ⟨R, 0, none⟩ = some x ∧ w.cell? ⟨R, 1, none⟩ = some y ∧ w.frozen? ⟨R, 0, none⟩ = false ∧ w.frozen? ⟨R, 1, none⟩ = false
theorem V2.later {w w' : World} {R : Nat} {x y : Value} (h : V2 w R x y) (hb : Below w.heap.size w w') : V2 w' R x y := keepW hb (Nat.le_refl _) h
theorem V2.same {w : World} {R : Nat} {x y : Value} (h : V2 w R x y) (x' y' : Value) : V2 ((w.setCell ⟨R, 0, none⟩ x').setCell ⟨R, 1, none⟩ y') R x' y' := put2_same h
theorem V2.other {w : World} {R R' : Nat} {x y : Value} (h : V2 w R' x y) (hne : R' ≠ R) (x' y' : Value) : V2 ((w.setCell ⟨R, 0, none⟩ x').setCell ⟨R, 1, none⟩ y') R' x y := put2_other hne h
theorem V2.lay (w : World) (t : TypeId) (x y : Value) : ∃ W, W = w.alloc (.cells #[x, y] t) ∧ W.heap.size = w.heap.size + 1 ∧ Below w.heap.size w W ∧ V2 W w.heap.size x y :=
  ⟨_, rfl, by simp, (Below.refl _ _).alloc (Nat.le_refl _) _, resW w t x y⟩

theorem V2.below {w w' : World} {R : Nat} {x y : Value} (h : V2 w R x y) (hb : Below w.heap.size w w') : V2 w' R x y := h.later hb
theorem V2.lt {w : World} {R : Nat} {x y : Value} (h : V2 w R x y) : R < w.heap.size := World.block_lt_of_cell? _ _ h.1
theorem keep_set {w : World} {a : Addr} {old : Value} (h : w.cell? a = some old) (hn : ¬ IsNum old) (x : Value) : KeepQ IsNum w (w.setCell a x) := by
  intro b o v hv hc
  rw [World.cell?_setCell_other _ _ _ _ (fun e => by rw [← e, h] at hc; cases hc; exact hn hv)]
  exact hc
/-- What stands in a variable of bools, slices and the like. -/
theorem V2.keep {w : World} {R : Nat} {x y : Value} (h : V2 w R x y) (hx : ¬ IsNum x) (hy : ¬ IsNum y) (x' y' : Value) : KeepQ IsNum w ((w.setCell ⟨R, 0, none⟩ x').setCell ⟨R, 1, none⟩ y') := by
  refine (keep_set h.1 hx x').trans (keep_set (old := y) ?_ hy y')
  rw [World.cell?_setCell_other _ _ _ _ (fun e => by injection e; omega)]; exact h.2.1
theorem V2.keepJ {w : World} {R : Nat} {p : Bool} {ao : Option Addr} {n c : Nat} (h : V2 w R (.bool p) (.slice ao n c)) (x' y' : Value) : KeepQ IsNum w ((w.setCell ⟨R, 0, none⟩ x').setCell ⟨R, 1, none⟩ y') :=
  h.keep (num_bool _) (num_slice _ _ _) x' y'
theorem RepI.keep {w w' : World} {v : Value} {z : Int} (h : RepI w v z) (hk : KeepQ IsNum w w') : RepI w' v z := by
  obtain ⟨ao, c, h1, h2⟩ := h
  exact ⟨ao, c, h1, Nums.keep h2 hk⟩
theorem RepJ.keep {w w' : World} {v : Value} {z : Int} (h : RepJ w v z) (hk : KeepQ IsNum w w') : RepJ w' v z := by
  obtain ⟨ao, c, h1, h2⟩ := h
  exact ⟨ao, c, h1, Nums.keep h2 hk⟩
theorem IntAt.keep {w w' : World} {v : Value} {z : Int} {L : Nat} (h : IntAt w v z L) (hk : KeepQ IsNum w w') : IntAt w' v z L := by
  obtain ⟨neg, ao, n, c, f, h1, h2, h3⟩ := h
  exact ⟨neg, ao, n, c, f, h1, Nums.keep h2 hk, h3⟩
theorem Raw.keep {w w' : World} {v : Value} {n : Nat} {f : Nat → Int} (h : Raw w v n f) (hk : KeepQ IsNum w w') : Raw w' v n f := by
  obtain ⟨ao, c, h1, h2, h3, h4, h5, h6⟩ := h
  exact ⟨ao, c, h1, h2, h3, h4, h5, fun hn => let ⟨b, off, e, hc⟩ := h6 hn; ⟨b, off, e, fun i hi => hk _ _ _ ⟨_, _, rfl⟩ (hc i hi)⟩⟩

/-- A variable for a struct of three cells that may be written, and what it holds. -/
def V3 (w : World) (R : Nat) (x y z : Value) : Prop := w.cell? ⟨R, 0, none⟩ = some x ∧ w.cell? ⟨R, 1, none⟩ = some y ∧ w.cell? ⟨R, 2, none⟩ = some z ∧ w.frozen? ⟨R, 0, none⟩ = false ∧ w.frozen? ⟨R, 1, none⟩ = false ∧ w.frozen? ⟨R, 2, none⟩ = false
theorem V3.lt {w : World} {R : Nat} {x y z : Value} (h : V3 w R x y z) : R < w.heap.size := World.block_lt_of_cell? _ _ h.1
theorem V3.below {w w' : World} {R : Nat} {x y z : Value} (h : V3 w R x y z) (hb : Below w.heap.size w w') : V3 w' R x y z := by
  have hl := h.lt
  obtain ⟨h1, h2, h3, h4, h5, h6⟩ := h
  exact ⟨(hb.cell hl).trans h1, (hb.cell hl).trans h2, (hb.cell hl).trans h3, (hb.frozen hl).trans h4, (hb.frozen hl).trans h5, (hb.frozen hl).trans h6⟩
theorem V3.lay (w : World) (t : TypeId) (x y z : Value) : ∃ W, W = w.alloc (.cells #[x, y, z] t) ∧ W.heap.size = w.heap.size + 1 ∧ Below w.heap.size w W ∧ V3 W w.heap.size x y z := by
  refine ⟨_, rfl, by simp, (Below.refl _ _).alloc (Nat.le_refl _) _, ?_⟩
  have hb := heap_alloc_new w (.cells #[x, y, z] t)
  refine ⟨?_, ?_, ?_, ?_, ?_, ?_⟩
  · rw [cell_of_row _ _ _ _ _ _ hb]; rfl
  · rw [cell_of_row _ _ _ _ _ _ hb]; rfl
  · rw [cell_of_row _ _ _ _ _ _ hb]; rfl
  all_goals (simp only [World.frozen?]; rw [hb]; simp)
/-- A variable of two cells, of three cells, set. -/
abbrev World.set2 (w : World) (R : Nat) (x y : Value) : World := (w.setCell ⟨R, 0, none⟩ x).setCell ⟨R, 1, none⟩ y
abbrev World.set3 (w : World) (R : Nat) (x y z : Value) : World := ((w.setCell ⟨R, 0, none⟩ x).setCell ⟨R, 1, none⟩ y).setCell ⟨R, 2, none⟩ z
theorem V3.keep {w : World} {R : Nat} {x y z : Value} (h : V3 w R x y z) (hx : ¬ IsNum x) (hy : ¬ IsNum y) (hz : ¬ IsNum z) (x' y' z' : Value) : KeepQ IsNum w (((w.setCell ⟨R, 0, none⟩ x').setCell ⟨R, 1, none⟩ y').setCell ⟨R, 2, none⟩ z') := by
  refine ((keep_set h.1 hx x').trans (keep_set (old := y) ?_ hy y')).trans (keep_set (old := z) ?_ hz z')
  · rw [World.cell?_setCell_other _ _ _ _ (fun e => by injection e; omega)]; exact h.2.1
  · rw [World.cell?_setCell_other _ _ _ _ (fun e => by injection e; omega), World.cell?_setCell_other _ _ _ _ (fun e => by injection e; omega)]; exact h.2.2.1
theorem V3.keepJ {w : World} {R : Nat} {p : Bool} {ao bo : Option Addr} {n c m d : Nat} (h : V3 w R (.bool p) (.slice ao n c) (.slice bo m d)) (x' y' z' : Value) : KeepQ IsNum w (((w.setCell ⟨R, 0, none⟩ x').setCell ⟨R, 1, none⟩ y').setCell ⟨R, 2, none⟩ z') :=
  h.keep (num_bool _) (num_slice _ _ _) (num_slice _ _ _) x' y' z'
theorem set_cell_block {w : World} {a b : Addr} {x u : Value} (h : w.cell? a = some u) (hne : a.block ≠ b.block) : (w.setCell b x).cell? a = some u := by
  rw [World.cell?_setCell_other _ _ _ _ (fun e => hne (by rw [e]))]; exact h
theorem V3.same {w : World} {R : Nat} {x y z : Value} (h : V3 w R x y z) (x' y' z' : Value) : V3 (((w.setCell ⟨R, 0, none⟩ x').setCell ⟨R, 1, none⟩ y').setCell ⟨R, 2, none⟩ z') R x' y' z' := by
  obtain ⟨h1, h2, h3, h4, h5, h6⟩ := h
  refine ⟨?_, ?_, ?_, by simp [h4], by simp [h5], by simp [h6]⟩
  · rw [World.cell?_setCell_other _ _ _ _ (fun e => by injection e; omega), World.cell?_setCell_other _ _ _ _ (fun e => by injection e; omega)]; exact World.cell?_setCell_same _ _ _ h1
  · rw [World.cell?_setCell_other _ _ _ _ (fun e => by injection e; omega)]
    exact World.cell?_setCell_same _ _ _ (show (w.setCell ⟨R, 0, none⟩ x').cell? ⟨R, 1, none⟩ = some y by rw [World.cell?_setCell_other _ _ _ _ (fun e => by injection e; omega)]; exact h2)
  · exact World.cell?_setCell_same _ _ _ (show ((w.setCell ⟨R, 0, none⟩ x').setCell ⟨R, 1, none⟩ y').cell? ⟨R, 2, none⟩ = some z by
      rw [World.cell?_setCell_other _ _ _ _ (fun e => by injection e; omega), World.cell?_setCell_other _ _ _ _ (fun e => by injection e; omega)]; exact h3)
/-- Another variable was set. -/
theorem V3.other2 {w : World} {R R' : Nat} {x y z : Value} (h : V3 w R' x y z) (hne : R' ≠ R) (x' y' : Value) : V3 ((w.setCell ⟨R, 0, none⟩ x').setCell ⟨R, 1, none⟩ y') R' x y z := by
  obtain ⟨h1, h2, h3, h4, h5, h6⟩ := h
  exact ⟨set_cell_block (set_cell_block h1 hne) hne, set_cell_block (set_cell_block h2 hne) hne, set_cell_block (set_cell_block h3 hne) hne, by simp [h4], by simp [h5], by simp [h6]⟩
theorem V3.other3 {w : World} {R R' : Nat} {x y z : Value} (h : V3 w R' x y z) (hne : R' ≠ R) (x' y' z' : Value) : V3 (((w.setCell ⟨R, 0, none⟩ x').setCell ⟨R, 1, none⟩ y').setCell ⟨R, 2, none⟩ z') R' x y z := by
  obtain ⟨h1, h2, h3, h4, h5, h6⟩ := h
  exact ⟨set_cell_block (set_cell_block (set_cell_block h1 hne) hne) hne, set_cell_block (set_cell_block (set_cell_block h2 hne) hne) hne, set_cell_block (set_cell_block (set_cell_block h3 hne) hne) hne, by simp [h4], by simp [h5], by simp [h6]⟩
theorem V2.other3 {w : World} {R R' : Nat} {x y : Value} (h : V2 w R' x y) (hne : R' ≠ R) (x' y' z' : Value) : V2 (((w.setCell ⟨R, 0, none⟩ x').setCell ⟨R, 1, none⟩ y').setCell ⟨R, 2, none⟩ z') R' x y := by
  obtain ⟨h1, h2, h3, h4⟩ := h
  exact ⟨set_cell_block (set_cell_block (set_cell_block h1 hne) hne) hne, set_cell_block (set_cell_block (set_cell_block h2 hne) hne) hne, by simp [h3], by simp [h4]⟩
theorem below_store3 {B R : Nat} {w w' : World} (h : Below B w w') (hR : B ≤ R) (x y z : Value) : Below B w (((w'.setCell ⟨R, 0, none⟩ x).setCell ⟨R, 1, none⟩ y).setCell ⟨R, 2, none⟩ z) := ((h.setCell hR _).setCell hR _).setCell hR _

end Go.Proofs.YtjfacmeeplalkaaDoor

/-
  What whole.Bezout answers.
-/
namespace Go.Proofs.YtjfacmeeplalkaaDoor
open Go.RowKit
set_option linter.unusedVariables false

/-- The three multipliers fit. -/
theorem bez_key (x y X s g : Int) (hg : g = X * (x.natAbs : Int) + s * (y.natAbs : Int)) : ∃ t : Int, g - x * (X * cmpI x 0) = y * t := by
  have hx : x * cmpI x 0 = (x.natAbs : Int) := by
    unfold cmpI; split
    · omega
    · split <;> omega
  have hy : (y.natAbs : Int) = y * cmpI y 0 := by
    unfold cmpI; split
    · omega
    · split <;> omega
  refine ⟨s * cmpI y 0, ?_⟩
  rw [hg, ← hx, hy]; grind

/-- What Bezout answers. -/
def BezOut (x y : Int) (B : Nat) (w : World) (e : Ending) (w' : World) : Prop :=
  ∃ (rg rs rt : Value) (S T : Int), e = .returned (.tuple #[rg, rs, rt]) ∧ RepI w' rg ((Nat.gcd x.natAbs y.natAbs : Nat) : Int) ∧ RepI w' rs S ∧ RepI w' rt T ∧ x * S + y * T = ((Nat.gcd x.natAbs y.natAbs : Nat) : Int) ∧ nl W32 S.natAbs ≤ 320 ∧ nl W32 T.natAbs ≤ 700 ∧ Below B w w'

theorem wdiv_ex (u v : Value) (z y t : Int) (L M : Nat) (w : World) (hu : IntAt w u z L) (hv : IntAt w v y M) (hL : L ≤ 999998) (hz : z = y * t) :
    Calls Tryd.prog 22 #[u, v] w fun e w' => ∃ (q r : Value) (k T : Int), e = .returned (.tuple #[q, r, .int .i64 k]) ∧ RepI w' q T ∧ (∃ ρ, RepI w' r ρ) ∧ y * T = z ∧ T.natAbs ≤ z.natAbs ∧ Below w.heap.size w w' := by
  by_cases hy : y = 0
  · rw [hy] at hv
    refine (wdivMod_zero u v z L M w hu hv).mono ?_
    rintro e w1 ⟨q, r, rfl, hq, hr, hb⟩
    exact ⟨q, r, 2, 0, rfl, hq, ⟨_, hr⟩, by rw [hz, hy]; simp, by simp, hb⟩
  · refine (wdivMod_any u v z y L M w hu hv hL hy).mono ?_
    rintro e w1 ⟨q, r, rfl, hq, hr, hb⟩
    have e1 : z.fdiv y = t := by rw [hz]; exact Int.mul_fdiv_cancel_left t hy
    rw [e1] at hq
    refine ⟨q, r, 0, t, rfl, hq, ⟨_, hr⟩, hz.symm, ?_, hb⟩
    rw [hz, Int.natAbs_mul]
    exact Nat.le_mul_of_pos_left _ (by omega)

end Go.Proofs.YtjfacmeeplalkaaDoor

/-
  The walk of whole.Bezout.
-/
namespace Go.Proofs.YtjfacmeeplalkaaDoor
open Go.RowKit
set_option linter.unusedVariables false

theorem gcd_lt2 (x y M : Nat) (hx : x < M) (hy : y < M) : Nat.gcd x y < M := by
  rcases Nat.eq_zero_or_pos x with e | e
  · rw [e, Nat.gcd_zero_left]; exact hy
  · exact Nat.lt_of_le_of_lt (Nat.gcd_le_left _ e) hx

theorem gcd_nl (x y k : Nat) (hx : nl W32 x ≤ k) (hy : nl W32 y ≤ k) : nl W32 (Nat.gcd x y) ≤ k :=
  nl_le W32 _ k (by decide) (gcd_lt2 _ _ _ (Nat.lt_of_lt_of_le (lt_pow_nl W32 _ (by decide)) (Nat.pow_le_pow_right (by decide) hx)) (Nat.lt_of_lt_of_le (lt_pow_nl W32 _ (by decide)) (Nat.pow_le_pow_right (by decide) hy)))
theorem put1 {w : World} {R a i : Nat} {v : Value} (h : w.cell? ⟨a, i, none⟩ = some v) (ha : a ≠ R) (x' y' : Value) : ((w.setCell ⟨R, 0, none⟩ x').setCell ⟨R, 1, none⟩ y').cell? ⟨a, i, none⟩ = some v := by
  rw [World.cell?_setCell_other _ _ _ _ (fun e => by injection e; omega), World.cell?_setCell_other _ _ _ _ (fun e => by injection e; omega)]; exact h
theorem put44 {w : World} {R a b c d : Nat} {x y z t x1 y1 z1 t1 : Value} (ha : a ≠ R) (hb : b ≠ R) (hc : c ≠ R) (hd : d ≠ R) (x' y' : Value)
    (h : w.cell? ⟨a, 0, none⟩ = some x ∧ w.cell? ⟨a, 1, none⟩ = some y ∧ w.cell? ⟨b, 0, none⟩ = some z ∧ w.cell? ⟨b, 1, none⟩ = some t ∧ w.cell? ⟨c, 0, none⟩ = some x1 ∧ w.cell? ⟨c, 1, none⟩ = some y1 ∧ w.cell? ⟨d, 0, none⟩ = some z1 ∧ w.cell? ⟨d, 1, none⟩ = some t1) :
    ((w.setCell ⟨R, 0, none⟩ x').setCell ⟨R, 1, none⟩ y').cell? ⟨a, 0, none⟩ = some x ∧ ((w.setCell ⟨R, 0, none⟩ x').setCell ⟨R, 1, none⟩ y').cell? ⟨a, 1, none⟩ = some y ∧ ((w.setCell ⟨R, 0, none⟩ x').setCell ⟨R, 1, none⟩ y').cell? ⟨b, 0, none⟩ = some z ∧ ((w.setCell ⟨R, 0, none⟩ x').setCell ⟨R, 1, none⟩ y').cell? ⟨b, 1, none⟩ = some t ∧
    ((w.setCell ⟨R, 0, none⟩ x').setCell ⟨R, 1, none⟩ y').cell? ⟨c, 0, none⟩ = some x1 ∧ ((w.setCell ⟨R, 0, none⟩ x').setCell ⟨R, 1, none⟩ y').cell? ⟨c, 1, none⟩ = some y1 ∧ ((w.setCell ⟨R, 0, none⟩ x').setCell ⟨R, 1, none⟩ y').cell? ⟨d, 0, none⟩ = some z1 ∧ ((w.setCell ⟨R, 0, none⟩ x').setCell ⟨R, 1, none⟩ y').cell? ⟨d, 1, none⟩ = some t1 :=
  ⟨put1 h.1 ha _ _, put1 h.2.1 ha _ _, put1 h.2.2.1 hb _ _, put1 h.2.2.2.1 hb _ _, put1 h.2.2.2.2.1 hc _ _, put1 h.2.2.2.2.2.1 hc _ _, put1 h.2.2.2.2.2.2.1 hd _ _, put1 h.2.2.2.2.2.2.2 hd _ _⟩

/-- What holds behind the second statement. -/
structure Mid (w : World) (x y X : Int) (p q : Bool) (ao bo : Option Addr) (n c m d : Nat) (p1 : Bool) (ao1 : Option Addr) (n1 c1 L M : Nat) (p4 : Bool) (ao4 : Option Addr) (n4 c4 : Nat) (wc : World) : Prop where
  v2 : V2 wc w.heap.size (.bool p) (.slice ao n c)
  v3 : V2 wc (w.heap.size + 1) (.bool q) (.slice bo m d)
  v4 : V2 wc (w.heap.size + 1 + 1) (.bool p1) (.slice ao1 n1 c1)
  v5 : V2 wc (w.heap.size + 1 + 1 + 1) (.bool p4) (.slice ao4 n4 c4)
  v6 : V2 wc (w.heap.size + 1 + 1 + 1 + 1) (.bool false) (.slice none 0 0)
  g : RepI wc (.agg #[.bool p1, .slice ao1 n1 c1]) ((Nat.gcd x.natAbs y.natAbs : Nat) : Int)
  s : RepI wc (.agg #[.bool p4, .slice ao4 n4 c4]) (X * cmpI x 0)
  a : IntAt wc (.agg #[.bool p, .slice ao n c]) x L
  b : IntAt wc (.agg #[.bool q, .slice bo m d]) y M
  bel : Below w.heap.size w wc

set_option maxRecDepth 20000 in
set_option maxHeartbeats 2000000 in
theorem wbezout_any (u v : Value) (x y : Int) (L M : Nat) (w : World) (hu : IntAt w u x L) (hv : IntAt w v y M) (hL : L ≤ 300) (hM : M ≤ 300) :
    Calls Tryd.prog 8 #[u, v] w fun e w' => BezOut x y w.heap.size w e w' := by
  have HU := hu
  have HV := hv
  obtain ⟨p, ao, n, c, f, rfl, hu, hf, hx, hn⟩ := hu
  obtain ⟨q, bo, m, d, g, rfl, hv, hg, hy, hm⟩ := hv
  have hxa : num f n = x.natAbs := by rw [← hx, zof_abs]
  have hya : num g m = y.natAbs := by rw [← hy, zof_abs]
  have hlx : nl W32 (num f n) ≤ 300 := Nat.le_trans (nl_le W32 _ _ (by decide) (num_lt f n)) (by omega)
  have hly : nl W32 (num g m) ≤ 300 := Nat.le_trans (nl_le W32 _ _ (by decide) (num_lt g m)) (by omega)
  have HE : Hid (∀ W, Below w.heap.size w W → Calls Tryd.prog 18 #[.slice ao n c, .slice bo m d] W fun e w' => EuOut x.natAbs y.natAbs W.heap.size W e w') := fun W hb => by
    have h := euclid_any _ _ _ _ _ _ W (hu.below hb) (hv.below hb) hf hg (by omega) (by omega)
    rw [hxa, hya] at h; exact h
  rw [hxa] at hlx
  rw [hya] at hly
  clear hu hv hf hg hx hy hxa hya hn hm
  obtain ⟨W1, e1, s1, b1, A2⟩ := V2.lay w 25 (.bool p) (.slice ao n c)
  obtain ⟨W2, e2, s2, b2, A3⟩ := V2.lay W1 25 (.bool q) (.slice bo m d)
  obtain ⟨W3, e3, s3, b3, A4⟩ := V2.lay W2 25 (.bool false) (.slice none 0 0)
  obtain ⟨W4, e4, s4, b4, A5⟩ := V2.lay W3 25 (.bool false) (.slice none 0 0)
  obtain ⟨W5, e5, s5, b5, A6⟩ := V2.lay W4 25 (.bool false) (.slice none 0 0)
  replace A2 := (((A2.later b2).later b3).later b4).later b5
  replace A3 := ((A3.later b3).later b4).later b5
  replace A4 := (A4.later b4).later b5
  replace A5 := A5.later b5
  have B2 := b1.trans (b2.mono b1.size)
  have B3 := B2.trans (b3.mono B2.size)
  have B4 := B3.trans (b4.mono B3.size)
  have B5 := B4.trans (b5.mono B4.size)
  rw [s4, s3, s2, s1] at A6
  rw [s3, s2, s1] at A5
  rw [s2, s1] at A4
  rw [s1] at A3
  have HU5 := HU.below B5
  have HV5 := HV.below B5
  have hz : w.heap.size ≤ W5.heap.size := B5.size
  have HS : Hid (W5.heap.size = w.heap.size + 1 + 1 + 1 + 1 + 1) := by show _ = _; omega
  clear b1 b2 b3 b4 b5 B2 B3 B4 s1 s2 s3 s4 s5 HU HV hz
  have A2' := A2
  have A3' := A3
  obtain ⟨a1, a2, a3, a4⟩ := A2'
  obtain ⟨a5, a6, a7, a8⟩ := A3'
  rw [e5, e4, e3, e2, e1] at a1 a2 a3 a4 a5 a6 a7 a8
  have EW : Hid (W5 = ((((w.alloc (.cells #[.bool p, .slice ao n c] 25)).alloc (.cells #[.bool q, .slice bo m d] 25)).alloc (.cells #[.bool false, .slice none 0 0] 25)).alloc (.cells #[.bool false, .slice none 0 0] 25)).alloc (.cells #[.bool false, .slice none 0 0] 25)) := by show _ = _; rw [e5, e4, e3, e2, e1]
  clear e5 e4 e3 e2 e1
  go_enter Tryd.func8, Tryd.ntmps8
  go_wp2_with fail
  rw [← EW.out]
  rw [← EW.out] at a1 a2 a3 a4 a5 a6 a7 a8
  clear EW a1 a2 a3 a4 a5 a6 a7 a8
  refine (HE.out _ B5).mono ?_
  rintro e w1 ⟨rg, rx, X, s, rfl, hg1, hx1, heq, hbd', hb1⟩
  have B1 := B5.trans (hb1.mono B5.size)
  replace A2 := A2.later hb1
  replace A3 := A3.later hb1
  replace A4 := A4.later hb1
  replace A5 := A5.later hb1
  replace A6 := A6.later hb1
  replace HU5 := HU5.below hb1
  replace HV5 := HV5.below hb1
  obtain ⟨p1, ao1, n1, c1, rfl⟩ := hg1.open
  obtain ⟨p2, ao2, n2, c2, rfl⟩ := hx1.open
  have HQ : Hid (((Nat.gcd x.natAbs y.natAbs : Nat) : Int) = X * (x.natAbs : Int) + s * (y.natAbs : Int)) := heq
  have hz1 : w.heap.size + 1 + 1 + 1 + 1 + 1 ≤ w1.heap.size := by have := hb1.size; have := HS.out; omega
  clear heq hb1 B5 HE HS
  -- the stores
  have A4' := A4
  have A5' := A5
  obtain ⟨q1, q2, q3, q4⟩ := A4'
  obtain ⟨q5, q6, q7, q8⟩ := A5'
  have D2 := (A2.other (R := w.heap.size + 1 + 1) (by omega) (.bool p1) (.slice ao1 n1 c1)).other (R := w.heap.size + 1 + 1 + 1) (by omega) (.bool p2) (.slice ao2 n2 c2)
  have D3 := (A3.other (R := w.heap.size + 1 + 1) (by omega) (.bool p1) (.slice ao1 n1 c1)).other (R := w.heap.size + 1 + 1 + 1) (by omega) (.bool p2) (.slice ao2 n2 c2)
  have D4 := (A4.same (.bool p1) (.slice ao1 n1 c1)).other (R := w.heap.size + 1 + 1 + 1) (by omega) (.bool p2) (.slice ao2 n2 c2)
  have D5 := (A5.other (R := w.heap.size + 1 + 1) (by omega) (.bool p1) (.slice ao1 n1 c1)).same (.bool p2) (.slice ao2 n2 c2)
  have D6 := (A6.other (R := w.heap.size + 1 + 1) (by omega) (.bool p1) (.slice ao1 n1 c1)).other (R := w.heap.size + 1 + 1 + 1) (by omega) (.bool p2) (.slice ao2 n2 c2)
  have G1 := hg1.store4 q1 q2 q5 q6 (by omega) (.bool p1) (.slice ao1 n1 c1) (.bool p2) (.slice ao2 n2 c2)
  have X1 := hx1.store4 q1 q2 q5 q6 (by omega) (.bool p1) (.slice ao1 n1 c1) (.bool p2) (.slice ao2 n2 c2)
  have U1 := (HU5.store2 q1 q2 (.bool p1) (.slice ao1 n1 c1)).store2 (A5.other (R := w.heap.size + 1 + 1) (by omega) (.bool p1) (.slice ao1 n1 c1)).1 (A5.other (R := w.heap.size + 1 + 1) (by omega) (.bool p1) (.slice ao1 n1 c1)).2.1 (.bool p2) (.slice ao2 n2 c2)
  have V1 := (HV5.store2 q1 q2 (.bool p1) (.slice ao1 n1 c1)).store2 (A5.other (R := w.heap.size + 1 + 1) (by omega) (.bool p1) (.slice ao1 n1 c1)).1 (A5.other (R := w.heap.size + 1 + 1) (by omega) (.bool p1) (.slice ao1 n1 c1)).2.1 (.bool p2) (.slice ao2 n2 c2)
  have BB := below_store2 (below_store2 B1 (show w.heap.size ≤ w.heap.size + 1 + 1 by omega) (.bool p1) (.slice ao1 n1 c1)) (show w.heap.size ≤ w.heap.size + 1 + 1 + 1 by omega) (.bool p2) (.slice ao2 n2 c2)
  clear A2 A3 A4 A5 A6 HU5 HV5 hg1 hx1 B1
  go_wp2
  clear q1 q2 q3 q4 q5 q6 q7 q8
  generalize (((w1.setCell ⟨w.heap.size + 1 + 1, 0, none⟩ (.bool p1)).setCell ⟨w.heap.size + 1 + 1, 1, none⟩ (.slice ao1 n1 c1)).setCell ⟨w.heap.size + 1 + 1 + 1, 0, none⟩ (.bool p2)).setCell ⟨w.heap.size + 1 + 1 + 1, 1, none⟩ (.slice ao2 n2 c2) = W6 at *
  have hbd : Below W6.heap.size W6 W6.drew := (Below.refl _ _).drew
  have B6 := BB.trans (hbd.mono BB.size)
  replace D2 := D2.later hbd
  replace D3 := D3.later hbd
  replace D4 := D4.later hbd
  replace D5 := D5.later hbd
  replace D6 := D6.later hbd
  replace G1 := G1.below hbd
  replace X1 := X1.below hbd
  replace U1 := U1.below hbd
  replace V1 := V1.below hbd
  have HB6 : Hid (Below w.heap.size w W6.drew) := B6
  clear hbd B6 BB
  have cb : -1 ≤ cmpI x 0 ∧ cmpI x 0 ≤ 1 := by unfold cmpI; split <;> (try split) <;> omega
  have hXl : nl W32 X.natAbs ≤ 301 := Nat.le_trans (nl_up _ _ hbd') (by omega)
  have hCl : nl W32 (cmpI x 0).natAbs ≤ 1 := nl_le W32 _ 1 (by decide) (by unfold W32; omega)
  have D2' := D2
  obtain ⟨z1, z2, _, _⟩ := D2
  have D5' := D5
  obtain ⟨z3, z4, _, _⟩ := D5
  have hcs : w.heap.size ≤ W6.drew.heap.size := HB6.out.size
  go_cut [] from 15 (fun wc => ∃ (p4 : Bool) (ao4 : Option Addr) (n4 c4 : Nat), Mid w x y X p q ao bo n c m d p1 ao1 n1 c1 L M p4 ao4 n4 c4 wc)
  case first =>
    go_region_with (first
      | (go_at_call 21; refine (sign_any _ _ _ _ U1).mono ?_; rintro e w2 ⟨rfl, hb2⟩; obtain ⟨y1, y2, _, _⟩ := V2.later D5' hb2)
      | (go_at_call 20; refine (wof_any _ _ (by omega) (by omega)).mono ?_; rintro e w3 ⟨r3, rfl, hr3, hb3⟩; obtain ⟨y3, y4, _, _⟩ := (V2.later D5' hb2).later hb3)
      | (go_at_call 19; refine (wmul_any _ _ X (cmpI x 0) 301 1 _ (((X1.below hb2).below hb3).at 301 hXl) (hr3.at 1 hCl) (by omega)).mono ?_; rintro e w4 ⟨r4, rfl, hr4, hb4⟩; obtain ⟨p4, ao4, n4, c4, rfl⟩ := hr4.open; obtain ⟨q1, q2, q3, q4⟩ := (((V2.later D5' hb2).later hb3).later hb4)))
    all_goals
      have F2 := HB6.out.trans (hb2.mono HB6.out.size)
      have F3 := F2.trans (hb3.mono F2.size)
      have F4 := F3.trans (hb4.mono F3.size)
      have FF : Mid w x y X p q ao bo n c m d p1 ao1 n1 c1 L M p4 ao4 n4 c4 ((w4.setCell ⟨w.heap.size + 1 + 1 + 1, 0, none⟩ (.bool p4)).setCell ⟨w.heap.size + 1 + 1 + 1, 1, none⟩ (.slice ao4 n4 c4)) :=
        ⟨((((D2'.later hb2).later hb3).later hb4).other (by omega) _ _), ((((D3.later hb2).later hb3).later hb4).other (by omega) _ _), ((((D4.later hb2).later hb3).later hb4).other (by omega) _ _), ((((D5'.later hb2).later hb3).later hb4).same _ _), ((((D6.later hb2).later hb3).later hb4).other (by omega) _ _),
          ((((G1.below hb2).below hb3).below hb4).store2 q1 q2 _ _), (hr4.store2 q1 q2 _ _), ((((U1.below hb2).below hb3).below hb4).store2 q1 q2 _ _), ((((V1.below hb2).below hb3).below hb4).store2 q1 q2 _ _), below_store2 F4 (by omega) _ _⟩
      go_wp2_with fail
      go_meet
      exact ⟨p4, ao4, n4, c4, FF⟩
  case rest =>
    obtain ⟨p4, ao4, n4, c4, H⟩ := hcut
    clear D2' D3 D4 D5' D6 G1 X1 U1 V1 HB6 z1 z2 z3 z4
    obtain ⟨t, ht⟩ := bez_key x y X s _ HQ.out
    have HT : Hid (((Nat.gcd x.natAbs y.natAbs : Nat) : Int) - x * (X * cmpI x 0) = y * t) := ht
    clear ht HQ hcs
    have lS : nl W32 (X * cmpI x 0).natAbs ≤ 302 := nlz_mul hXl hCl (by omega)
    have lx' : nl W32 x.natAbs ≤ 300 := hlx
    have lP : nl W32 (x * (X * cmpI x 0)).natAbs ≤ 602 := nlz_mul hlx lS (by omega)
    have lG : nl W32 ((Nat.gcd x.natAbs y.natAbs : Nat) : Int).natAbs ≤ 300 := by
      rw [Int.natAbs_natCast]
      exact gcd_nl _ _ _ hlx hly
    have lD : nl W32 (((Nat.gcd x.natAbs y.natAbs : Nat) : Int) - x * (X * cmpI x 0)).natAbs ≤ 650 := by
      rw [Int.sub_eq_add_neg]; exact nlz_add lG (nlz_neg lP) (by omega) (by omega)
    have hbd2 : Below wc.heap.size wc wc.drew := (Below.refl _ _).drew
    obtain ⟨v2, v3, v4, v5, v6, g1, s1, a1, b1, bel⟩ := H
    have F1 := bel.trans (hbd2.mono bel.size)
    have HF1 : Hid (Below w.heap.size w wc.drew) := F1
    replace v2 := v2.later hbd2
    replace v3 := v3.later hbd2
    replace v4 := v4.later hbd2
    replace v5 := v5.later hbd2
    replace v6 := v6.later hbd2
    replace g1 := g1.below hbd2
    replace s1 := s1.below hbd2
    replace a1 := a1.below hbd2
    replace b1 := b1.below hbd2
    clear F1 bel hbd2
    have v2' := v2
    have v3' := v3
    have v4' := v4
    have v5' := v5
    obtain ⟨i1, i2, _, _⟩ := v2'
    obtain ⟨i3, i4, _, _⟩ := v3'
    obtain ⟨i5, i6, _, _⟩ := v4'
    obtain ⟨i7, i8, _, _⟩ := v5'
    go_wp2
    go_region_held3 (fun w' => w'.cell? ⟨w.heap.size, 0, none⟩ = some (.bool p) ∧ w'.cell? ⟨w.heap.size, 1, none⟩ = some (.slice ao n c) ∧ w'.cell? ⟨w.heap.size + 1, 0, none⟩ = some (.bool q) ∧ w'.cell? ⟨w.heap.size + 1, 1, none⟩ = some (.slice bo m d) ∧ w'.cell? ⟨w.heap.size + 1 + 1, 0, none⟩ = some (.bool p1) ∧ w'.cell? ⟨w.heap.size + 1 + 1, 1, none⟩ = some (.slice ao1 n1 c1) ∧ w'.cell? ⟨w.heap.size + 1 + 1 + 1, 0, none⟩ = some (.bool p4) ∧ w'.cell? ⟨w.heap.size + 1 + 1 + 1, 1, none⟩ = some (.slice ao4 n4 c4)) (first | exact keep44 (by assumption) (by exact Nat.le_refl _) (by assumption) | exact ⟨i1, i2, i3, i4, i5, i6, i7, i8⟩ | exact put44 (by omega) (by omega) (by omega) (by omega) _ _ (by assumption) | go_keep) (first
      | (go_at_call 19; refine (wmul_any _ _ x (X * cmpI x 0) L 302 _ a1 (s1.at 302 lS) (by omega)).mono ?_; rintro e w5 ⟨r5, rfl, hr5, hb5⟩)
      | (go_at_call 23; refine (wsub_any _ _ _ _ 300 602 _ ((g1.below hb5).at 300 lG) (hr5.at 602 lP) (by omega) (by omega)).mono ?_; rintro e w6 ⟨r6, rfl, hr6, hb6⟩)
      | (go_at_call 22; refine (wdiv_ex _ _ _ y t 650 M _ (hr6.at 650 lD) ((b1.below hb5).below hb6) (by omega) HT.out).mono ?_; rintro e w7 ⟨q7, r7, k7, T, rfl, hq7, ⟨ρ, hr7⟩, hT, hTl, hb7⟩; obtain ⟨p7, ao7, n7, c7, rfl⟩ := hq7.open; obtain ⟨p8, ao8, n8, c8, rfl⟩ := hr7.open; obtain ⟨q1, q2, q3, q4⟩ := ((v6.later hb5).later hb6).later hb7))
    have F5 := HF1.out.trans (hb5.mono HF1.out.size)
    have F6 := F5.trans (hb6.mono F5.size)
    have F7 := F6.trans (hb7.mono F6.size)
    have K4 := (((v4.later hb5).later hb6).later hb7).other (R := w.heap.size + 1 + 1 + 1 + 1) (by omega) (.bool p7) (.slice ao7 n7 c7)
    have K5 := (((v5.later hb5).later hb6).later hb7).other (R := w.heap.size + 1 + 1 + 1 + 1) (by omega) (.bool p7) (.slice ao7 n7 c7)
    have K6 := (((v6.later hb5).later hb6).later hb7).same (.bool p7) (.slice ao7 n7 c7)
    have GG := (((g1.below hb5).below hb6).below hb7).store2 q1 q2 (.bool p7) (.slice ao7 n7 c7)
    have SS := (((s1.below hb5).below hb6).below hb7).store2 q1 q2 (.bool p7) (.slice ao7 n7 c7)
    have TT := hq7.store2 q1 q2 (.bool p7) (.slice ao7 n7 c7)
    have BF := below_store2 F7 (show w.heap.size ≤ w.heap.size + 1 + 1 + 1 + 1 by omega) (.bool p7) (.slice ao7 n7 c7)
    clear v2 v3 v4 v5 v6 g1 s1 a1 b1 i1 i2 i3 i4 i5 i6 i7 i8 hb5 hb6 hb7 F5 F6 F7 q1 q2 q3 q4 hr5 hr6 hq7 hr7
    generalize (w7.setCell ⟨w.heap.size + 1 + 1 + 1 + 1, 0, none⟩ (.bool p7)).setCell ⟨w.heap.size + 1 + 1 + 1 + 1, 1, none⟩ (.slice ao7 n7 c7) = W8 at *
    have K4' := K4
    have K5' := K5
    have K6' := K6
    obtain ⟨j1, j2, j3, j4⟩ := K4'
    obtain ⟨j5, j6, j7, j8⟩ := K5'
    obtain ⟨j9, j10, j11, j12⟩ := K6'
    have N5 := K5.other (R := w.heap.size + 1 + 1) (by omega) (.bool p1) (.slice ao1 n1 c1)
    have N6 := (K6.other (R := w.heap.size + 1 + 1) (by omega) (.bool p1) (.slice ao1 n1 c1)).other (R := w.heap.size + 1 + 1 + 1) (by omega) (.bool p4) (.slice ao4 n4 c4)
    have M4 := ((K4.same (.bool p1) (.slice ao1 n1 c1)).other (R := w.heap.size + 1 + 1 + 1) (by omega) (.bool p4) (.slice ao4 n4 c4)).other (R := w.heap.size + 1 + 1 + 1 + 1) (by omega) (.bool p7) (.slice ao7 n7 c7)
    have M5 := (N5.same (.bool p4) (.slice ao4 n4 c4)).other (R := w.heap.size + 1 + 1 + 1 + 1) (by omega) (.bool p7) (.slice ao7 n7 c7)
    have M6 := N6.same (.bool p7) (.slice ao7 n7 c7)
    have GF := ((GG.store2 j1 j2 (.bool p1) (.slice ao1 n1 c1)).store2 N5.1 N5.2.1 (.bool p4) (.slice ao4 n4 c4)).store2 N6.1 N6.2.1 (.bool p7) (.slice ao7 n7 c7)
    have SF := ((SS.store2 j1 j2 (.bool p1) (.slice ao1 n1 c1)).store2 N5.1 N5.2.1 (.bool p4) (.slice ao4 n4 c4)).store2 N6.1 N6.2.1 (.bool p7) (.slice ao7 n7 c7)
    have TF := ((TT.store2 j1 j2 (.bool p1) (.slice ao1 n1 c1)).store2 N5.1 N5.2.1 (.bool p4) (.slice ao4 n4 c4)).store2 N6.1 N6.2.1 (.bool p7) (.slice ao7 n7 c7)
    have BFF := below_store2 (below_store2 (below_store2 BF (show w.heap.size ≤ w.heap.size + 1 + 1 by omega) (.bool p1) (.slice ao1 n1 c1)) (show w.heap.size ≤ w.heap.size + 1 + 1 + 1 by omega) (.bool p4) (.slice ao4 n4 c4)) (show w.heap.size ≤ w.heap.size + 1 + 1 + 1 + 1 by omega) (.bool p7) (.slice ao7 n7 c7)
    clear BF GG SS TT N5 N6
    go_wp2
    go_region
    clear j1 j2 j3 j4 j5 j6 j7 j8 j9 j10 j11 j12 K4 K5 K6
    generalize (((((W8.setCell ⟨w.heap.size + 1 + 1, 0, none⟩ (.bool p1)).setCell ⟨w.heap.size + 1 + 1, 1, none⟩ (.slice ao1 n1 c1)).setCell ⟨w.heap.size + 1 + 1 + 1, 0, none⟩ (.bool p4)).setCell ⟨w.heap.size + 1 + 1 + 1, 1, none⟩ (.slice ao4 n4 c4)).setCell ⟨w.heap.size + 1 + 1 + 1 + 1, 0, none⟩ (.bool p7)).setCell ⟨w.heap.size + 1 + 1 + 1 + 1, 1, none⟩ (.slice ao7 n7 c7) = W9 at *
    have hbd9 : Below W9.heap.size W9 W9.drew := (Below.refl _ _).drew
    obtain ⟨m1, m2, _, _⟩ := M4.later hbd9
    obtain ⟨m3, m4, _, _⟩ := M5.later hbd9
    obtain ⟨m5, m6, _, _⟩ := M6.later hbd9
    go_wp2
    (try simp only [Exit.inBlock, Exit.then])
    refine bodyPost_ret (v := .tuple #[.agg #[.bool p1, .slice ao1 n1 c1], .agg #[.bool p4, .slice ao4 n4 c4], .agg #[.bool p7, .slice ao7 n7 c7]]) (by simp [results, go_sem, m1, m2, m3, m4, m5, m6]) rfl ?_
    refine ⟨_, _, _, X * cmpI x 0, T, rfl, GF.below hbd9, SF.below hbd9, TF.below hbd9, by rw [hT]; omega, Nat.le_trans lS (by omega), ?_, BFF.trans (hbd9.mono BFF.size)⟩
    exact Nat.le_trans (nl_mono W32 _ _ (by decide) hTl) (Nat.le_trans lD (by omega))

end Go.Proofs.YtjfacmeeplalkaaDoor

/-
  A whole number that comes in, as an argument: a sign and limbs of whatever length.
-/
namespace Go.Proofs.YtjfacmeeplalkaaDoor
open Go.ChangeShapes Go.WideShapes Go.ChangeAt Go.RowKit

theorem cells_wint : Tryd.prog.cellsOf 25 = 2 := by kernel_rfl
theorem cells_bool : Tryd.prog.cellsOf 4 = 1 := by kernel_rfl
theorem cells_nat : Tryd.prog.cellsOf 23 = 1 := by kernel_rfl
theorem cells_u64 : Tryd.prog.cellsOf 59 = 1 := by kernel_rfl
theorem agg2 {cs : Array Value} (h : cs.size = 2) : ∃ a b, cs = #[a, b] := by
  obtain ⟨l⟩ := cs
  match l, h with
  | [a, b], _ => exact ⟨a, b, rfl⟩

/-- Limbs, as they are read. -/
theorem open_nat {H : Type} {enc : TypeId × Value → H} {W : World} {base : Nat} {fuel : Nat} {cs : List Value} {x : DataW H × List MemPlace}
    (h : DataW.trod enc Tryd.prog W base (fun _ => true) true fuel 23 cs = some x) : ∃ ao n c f, cs = [.slice ao n c] ∧ Raw W (.slice ao n c) n f := by
  rcases open_ints Tryd.underlying23 Tryd.underlying59 cells_u64 h with ⟨hcs, _⟩ | ⟨x, l, c, zs, hcs, _, hl, hm, hz, _, hcell, hwz⟩
  · exact ⟨_, _, _, _, hcs, raw_nil W⟩
  · exact ⟨_, _, _, _, hcs, raw_row W x _ _ zs hl hm (by simpa using hz) hcell hwz⟩
set_option maxRecDepth 100000 in
theorem open_wint {H : Type} {enc : TypeId × Value → H} {W : World} {base b0 : Nat} {r : Reach} {v : Value} {d : DataW H} {ps : List MemPlace}
    (hval : Value.okWide Tryd.prog W r b0 25 v) (h : DataW.Trod enc Tryd.prog W base (fun _ => true) true 25 v d ps) :
    ∃ neg ao n c f, v = .agg #[.bool neg, .slice ao n c] ∧ Raw W (.slice ao n c) n f := by
  obtain ⟨cs, rfl, hsz⟩ := okWide_struct Tryd.underlying25 hval
  rw [cells_wint] at hsz
  obtain ⟨c0, c1, rfl⟩ := agg2 hsz
  obtain ⟨fuel, hf⟩ := h
  obtain ⟨y0, y1, m, hx, _, hy0, hy1⟩ := trod_struct2 Tryd.underlying25 hf
  obtain ⟨b, e0, _⟩ := DataW.trod_bool Tryd.underlying4 hy0
  obtain ⟨ao, n, c, f, e1, hraw⟩ := open_nat hy1
  simp [Value.cells, cells_bool, cells_nat] at e0 e1
  subst e0 e1
  exact ⟨b, ao, n, c, f, rfl, hraw⟩

end Go.Proofs.YtjfacmeeplalkaaDoor

/-
  Small facts that walks carry: the table, digits, numbers in their form.
-/
namespace Go.Proofs.YtjfacmeeplalkaaDoor
open Go.RowKit
set_option linter.unusedVariables false

theorem RepJ.num {w : World} {p : Bool} {ao : Option Addr} {n c : Nat} {z : Int} (h : RepJ w (.agg #[.bool p, .slice ao n c]) z) : RepD w (.slice ao n c) z.natAbs := by
  obtain ⟨ao', c', e, hd⟩ := h
  simp only [Value.agg.injEq, Array.mk.injEq, List.cons.injEq, Value.slice.injEq, and_true] at e
  obtain ⟨_, rfl, rfl, rfl⟩ := e
  exact hd
theorem nlj6 {x : Int} {a : Nat} (hx : nl W32 x.natAbs ≤ a) (ha : a ≤ 1000 := by omega) : nl 10000 x.natAbs ≤ 400000 := Nat.le_trans (nl10_le _ _ hx) (by omega)
theorem Tab.keep {w w' : World} (h : Tab w) (hk : KeepQ IsNum w w') : Tab w' := fun i hi => hk _ _ _ ⟨_, _, rfl⟩ (h i hi)
theorem RepD.below {w w' : World} {v : Value} {m : Nat} (h : RepD w v m) (hb : Below w.heap.size w w') : RepD w' v m := Nums.below h hb
theorem wright_rep (v : Value) (z : Int) (w : World) (h : RepI w v z) : Calls Tryd.prog 13 #[v] w fun e w' => e = .returned (.bool true) ∧ Below w.heap.size w w' := by
  obtain ⟨ao, c, rfl, h2⟩ := h
  have g := wright_any (decide (z < 0)) ao _ c _ w h2 (u64_dg _ _)
  rw [rightB_rep, num_nl] at g
  have e : (decide (z < 0) && decide (z.natAbs = 0)) = false := by
    by_cases hz : z < 0
    · have : ¬ z.natAbs = 0 := by omega
      simp [this]
    · simp [hz]
  rw [e] at g
  exact g

theorem RepD.keep {w w' : World} {v : Value} {m : Nat} (h : RepD w v m) (hk : KeepQ IsNum w w') : RepD w' v m := Nums.keep h hk
theorem Rep.below {w w' : World} {v : Value} {m : Nat} (h : Rep w v m) (hb : Below w.heap.size w w') : Rep w' v m := Nums.below h hb
theorem Rep.keep {w w' : World} {v : Value} {m : Nat} (h : Rep w v m) (hk : KeepQ IsNum w w') : Rep w' v m := Nums.keep h hk

end Go.Proofs.YtjfacmeeplalkaaDoor
