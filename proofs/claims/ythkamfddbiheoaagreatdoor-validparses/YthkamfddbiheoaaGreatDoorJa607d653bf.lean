/-
  Texts of mine.
-/
import Derived.WalkKit
namespace Go.Proofs.YthkamfddbiheoaaGreatDoor
theorem xL1 {α : Type _} {xs : List α} {i : Nat} : xs.toArray[i]? = xs[i]? := List.getElem?_toArray
theorem xL2 {α : Type _} {a : α} {i : Nat} {l : List α} : (a :: l)[i + 1]? = l[i]? := rfl
theorem xL3 {α : Type _} {a : α} {l : List α} : (a :: l)[0]? = some a := rfl
theorem xL4 {α : Type _} (l : List α) (i : Nat) (a : α) : l.toArray.setIfInBounds i a = (l.set i a).toArray := List.setIfInBounds_toArray l i a
theorem xL5 {α : Type _} {x : α} {xs : List α} {a : α} : (x :: xs).set 0 a = a :: xs := rfl
theorem xL6 {α : Type _} {x : α} {xs : List α} {i : Nat} {a : α} : (x :: xs).set (i + 1) a = x :: xs.set i a := rfl
end Go.Proofs.YthkamfddbiheoaaGreatDoor

namespace Go.Proofs.YthkamfddbiheoaaGreatDoor
open Go.RowKit

/-- What the first n digits f are worth to the base B, the lowest first. -/
def val (B : Nat) (f : Nat → Int) : Nat → Int
 | 0 => 0
 | n + 1 => val B f n + f n * (B : Int) ^ n

/-- The digit i of m to the base B. -/
def dg (B m i : Nat) : Int := ((m / B ^ i % B : Nat) : Int)

/-- How many digits are left of the first n without zeros on top. -/
def sz (f : Nat → Int) : Nat → Nat
 | 0 => 0
 | n + 1 => if f n = 0 then sz f n else n + 1

/-- How many digits m has to the base B: by counting up to m (B is at least 2). -/
def nl (B m : Nat) : Nat := sz (dg B m) m

theorem sz_le (f : Nat → Int) (n : Nat) : sz f n ≤ n := by
 induction n with
 | zero => simp [sz]
 | succ n ih => simp only [sz]; split <;> omega

theorem sz_top (f : Nat → Int) (n : Nat) (h : 0 < sz f n) : f (sz f n - 1) ≠ 0 := by
 induction n with
 | zero => simp [sz] at h
 | succ n ih =>
  simp only [sz] at h ⊢
  split
  ·rename_i e; rw [if_pos e] at h; exact ih h
  ·simpa using ‹_›

theorem sz_above (f : Nat → Int) (n i : Nat) (h : sz f n ≤ i) (hi : i < n) : f i = 0 := by
 induction n with
 | zero => omega
 | succ n ih =>
  simp only [sz] at h
  split at h
  ·rename_i e
   by_cases hin : i = n
   ·rw [hin]; exact e
   ·exact ih h (by omega)
  ·omega

theorem sz_congr {f g : Nat → Int} (n : Nat) (h : ∀ i, i < n → f i = g i) : sz f n = sz g n := by
 induction n with
 | zero => rfl
 | succ n ih => simp only [sz]; rw [h n (by omega), ih (fun i hi => h i (by omega))]

/-- The number of digits is told by its two properties. -/
theorem sz_unique (f : Nat → Int) (n k : Nat) (hk : k ≤ n) (htop : 0 < k → f (k - 1) ≠ 0) (hz : ∀ i, k ≤ i → i < n → f i = 0) : sz f n = k := by
 have h1 := sz_le f n
 by_cases h : sz f n < k
 ·have := sz_above f n (k - 1) (by omega) (by omega)
  exact absurd this (htop (by omega))
 ·by_cases h' : k < sz f n
  ·have := sz_top f n (by omega)
   exact absurd (hz (sz f n - 1) (by omega) (by omega)) this
  ·omega

theorem sz_stays (f : Nat → Int) (n k : Nat) (hk : k ≤ n) (hz : ∀ i, k ≤ i → i < n → f i = 0) : sz f n = sz f k := by
 refine sz_unique f n (sz f k) (Nat.le_trans (sz_le f k) hk) (fun h => sz_top f k h) (fun i h1 h2 => ?_)
 by_cases h : i < k
 ·exact sz_above f k i h1 h
 ·exact hz i (by omega) h2

theorem val_congr {B : Nat} {f g : Nat → Int} (n : Nat) (h : ∀ i, i < n → f i = g i) : val B f n = val B g n := by
 induction n with
 | zero => rfl
 | succ n ih => simp only [val]; rw [h n (by omega), ih (fun i hi => h i (by omega))]

theorem val_zero {B : Nat} {f : Nat → Int} (n : Nat) (h : ∀ i, i < n → f i = 0) : val B f n = 0 := by
 induction n with
 | zero => rfl
 | succ n ih => simp only [val]; rw [h n (by omega), ih (fun i hi => h i (by omega))]; simp

theorem val_add (B : Nat) (f : Nat → Int) (n k : Nat) : val B f (n + k) = val B f n + val B (fun i => f (n + i)) k * (B : Int) ^ n := by
 induction k with
 | zero => simp [val]
 | succ k ih =>
  rw [show n + (k + 1) = (n + k) + 1 from rfl]
  simp only [val]
  rw [ih, Int.add_mul, Int.mul_assoc, ← Int.pow_add, Nat.add_comm k n, Int.add_assoc]

theorem val_stays (B : Nat) (f : Nat → Int) (n k : Nat) (hk : k ≤ n) (hz : ∀ i, k ≤ i → i < n → f i = 0) : val B f n = val B f k := by
 obtain ⟨d, rfl⟩ := Nat.exists_eq_add_of_le hk
 rw [val_add, val_zero d (fun i hi => hz _ (by omega) (by omega))]; simp

theorem val_sz (B : Nat) (f : Nat → Int) (n : Nat) : val B f n = val B f (sz f n) :=
 val_stays B f n _ (sz_le f n) (fun i h1 h2 => sz_above f n i h1 h2)

theorem powB_pos (B : Nat) (hB : 0 < B) (n : Nat) : 0 < (B : Int) ^ n := by
 have : 0 < B ^ n := Nat.pow_pos hB
 have e : ((B ^ n : Nat) : Int) = (B : Int) ^ n := by simp
 omega

theorem val_bounds (B : Nat) (f : Nat → Int) (n : Nat) (h : ∀ i, i < n → 0 ≤ f i ∧ f i < B) : 0 ≤ val B f n ∧ val B f n < (B : Int) ^ n := by
 induction n with
 | zero => simp [val]
 | succ n ih =>
  have ⟨h1, h2⟩ := ih (fun i hi => h i (by omega))
  have ⟨h3, h4⟩ := h n (by omega)
  have hp : 0 < (B : Int) ^ n := by
   apply powB_pos
   have := h n (by omega); omega
  simp only [val]
  have e : (B : Int) ^ (n + 1) = B * (B : Int) ^ n := by rw [Int.pow_succ, Int.mul_comm]
  rw [e]
  constructor
  ·have := Int.mul_nonneg h3 (Int.le_of_lt hp); omega
  ·have h5 : f n * (B : Int) ^ n ≤ ((B : Int) - 1) * (B : Int) ^ n := Int.mul_le_mul_of_nonneg_right (by omega) (Int.le_of_lt hp)
   rw [Int.sub_mul, Int.one_mul] at h5
   omega

/-- Digits are told by what they are worth. -/
theorem val_digit (B : Nat) (f : Nat → Int) (n m : Nat) (h : ∀ i, i < n → 0 ≤ f i ∧ f i < B) (hm : val B f n = (m : Int)) : ∀ i, i < n → f i = dg B m i := by
 intro i hi
 have hB : 0 < B := by have := h i hi; omega
 obtain ⟨d, rfl⟩ := Nat.exists_eq_add_of_le (show i + 1 ≤ n by omega)
 have hlow := val_bounds B f i (fun j hj => h j (by omega))
 rw [val_add] at hm
 simp only [val] at hm
 have hp := powB_pos B hB i
 have e : (B : Int) ^ (i + 1) = (B : Int) * (B : Int) ^ i := by rw [Int.pow_succ, Int.mul_comm]
 rw [e] at hm
 have hd := (h i hi)
 generalize val B (fun j => f (i + 1 + j)) d = t at hm
 have hq : (m : Int) / (B : Int) ^ i = f i + t * B := by
  have : (m : Int) = val B f i + (f i + t * B) * (B : Int) ^ i := by
   rw [← hm, Int.add_mul, Int.mul_assoc]; omega
  rw [this, Int.add_mul_ediv_right _ _ (by omega), Int.ediv_eq_zero_of_lt hlow.1 hlow.2]; omega
 unfold dg
 simp only [Int.natCast_emod, Int.natCast_ediv, Int.natCast_pow]
 rw [hq, Int.add_mul_emod_self_right, Int.emod_eq_of_lt hd.1 hd.2]

theorem dg_bounds (B m i : Nat) (hB : 0 < B) : 0 ≤ dg B m i ∧ dg B m i < B := by
 unfold dg
 have := Nat.mod_lt (m / B ^ i) hB
 omega

theorem val_dg (B m n : Nat) : val B (dg B m) n = ((m % B ^ n : Nat) : Int) := by
 induction n with
 | zero => simp [val, Nat.mod_one]
 | succ n ih =>
  simp only [val]
  rw [ih]
  unfold dg
  have : m % B ^ (n + 1) = m % B ^ n + B ^ n * (m / B ^ n % B) := by rw [Nat.pow_succ, Nat.mod_mul]
  rw [this]
  simp [Int.mul_comm]

theorem lt_pow_self' (B m : Nat) (hB : 2 ≤ B) : m < B ^ m := Nat.lt_pow_self (by omega)

theorem dg_high (B m i : Nat) (h : m < B ^ i) : dg B m i = 0 := by
 unfold dg; rw [Nat.div_eq_of_lt h]; simp

theorem nl_spec (B m n : Nat) (hB : 2 ≤ B) (h : m < B ^ n) : nl B m = sz (dg B m) n := by
 unfold nl
 have hz : ∀ i k, m < B ^ k → k ≤ i → dg B m i = 0 := fun i k hk hi =>
  dg_high B m i (Nat.lt_of_lt_of_le hk (Nat.pow_le_pow_right (by omega) hi))
 by_cases hmn : m ≤ n
 ·exact (sz_stays _ n m hmn (fun i h1 _ => hz i m (lt_pow_self' B m hB) h1)).symm
 ·exact sz_stays _ m n (by omega) (fun i h1 _ => hz i n h h1)

theorem lt_pow_nl (B m : Nat) (hB : 2 ≤ B) : m < B ^ nl B m := by
 have h := val_dg B m m
 rw [Nat.mod_eq_of_lt (lt_pow_self' B m hB), val_sz] at h
 have hb := val_bounds B (dg B m) (sz (dg B m) m) (fun i _ => dg_bounds B m i (by omega))
 unfold nl
 rw [h] at hb
 have e : ((B ^ sz (dg B m) m : Nat) : Int) = (B : Int) ^ sz (dg B m) m := by simp
 omega

theorem nl_le (B m n : Nat) (hB : 2 ≤ B) (h : m < B ^ n) : nl B m ≤ n := by rw [nl_spec B m n hB h]; exact sz_le _ _

theorem nl_top (B m : Nat) (h : 0 < nl B m) : dg B m (nl B m - 1) ≠ 0 := sz_top _ _ h

theorem pow_le_of_nl (B m : Nat) (h : 0 < nl B m) : B ^ (nl B m - 1) ≤ m := by
 by_cases hlt : m < B ^ (nl B m - 1)
 ·exact absurd (dg_high B m _ hlt) (nl_top B m h)
 ·omega

theorem nl_zero (B : Nat) : nl B 0 = 0 := by simp [nl, sz]
theorem nl_eq_zero (B m : Nat) (hB : 2 ≤ B) : nl B m = 0 ↔ m = 0 := by
 constructor
 ·intro h; have := lt_pow_nl B m hB; rw [h] at this; simp at this; exact this
 ·intro h; rw [h]; exact nl_zero B

theorem val_nl (B m : Nat) (hB : 2 ≤ B) : val B (dg B m) (nl B m) = (m : Int) := by
 rw [val_dg, Nat.mod_eq_of_lt (lt_pow_nl B m hB)]

/-- Digits without zeros on top that are worth m: just those of m, just so many. -/
theorem sz_val (B : Nat) (hB : 2 ≤ B) (f : Nat → Int) (n m : Nat) (h : ∀ i, i < n → 0 ≤ f i ∧ f i < B) (hm : val B f n = (m : Int)) : sz f n = nl B m := by
 have hlt : m < B ^ n := by
  have hb := (val_bounds B f n h).2
  rw [hm] at hb
  have e : ((B ^ n : Nat) : Int) = (B : Int) ^ n := by simp
  omega
 rw [nl_spec B m n hB hlt]
 exact sz_congr n (val_digit B f n m h hm)

/-! ### limbs of 32 bits -/
/-- The base of the limbs. -/
abbrev W32 : Nat := 4294967296

theorem and_mask (x : Int) (h0 : 0 ≤ x) (h1 : x < 18446744073709551616) : bits .and .u64 x 4294967295 = x % 4294967296 := by
 rw [u64_and x 4294967295 h0 h1 (by omega) (by omega)]
 have : (4294967295 : Int).toNat = 2 ^ 32 - 1 := by decide
 rw [this, Nat.and_two_pow_sub_one_eq_mod]
 omega

theorem or_join (x y : Int) (h0 : 0 ≤ y) (h1 : y < 4294967296) : bits .or .u64 (IntKind.u64.wrap (x * 4294967296)) y = x % 4294967296 * 4294967296 + y := by
 rw [IntKind.wrap_u64]
 have e : x * 4294967296 % 18446744073709551616 = x % 4294967296 * 4294967296 := by omega
 rw [e, u64_or _ _ (by omega) (by omega) h0 (by omega)]
 have hn := nat_join 32 (x % 4294967296 * 4294967296).toNat y.toNat (by
  have : (x % 4294967296 * 4294967296).toNat = (x % 4294967296).toNat * 2 ^ 32 := by omega
  rw [this]; exact Nat.mul_mod_left _ _) (by omega)
 rw [hn]; omega

theorem or_join' (x y : Int) (g0 : 0 ≤ x) (g1 : x < 4294967296) (h0 : 0 ≤ y) (h1 : y < 4294967296) : bits .or .u64 (x * 4294967296) y = x * 4294967296 + y := by
 have e := or_join x y h0 h1
 have : IntKind.u64.wrap (x * 4294967296) = x * 4294967296 := by rw [IntKind.wrap_u64]; omega
 rw [this] at e; rw [e]; omega

/-- The lowest 32 bits of each limb. -/
def lo (f : Nat → Int) : Nat → Int := fun i => f i % 4294967296
theorem lo_bounds (f : Nat → Int) (i : Nat) : 0 ≤ lo f i ∧ lo f i < (W32 : Int) := by unfold lo W32; omega

/-- The number that any limbs are. -/
def num (f : Nat → Int) (n : Nat) : Nat := (val W32 (lo f) n).toNat
theorem num_val (f : Nat → Int) (n : Nat) : val W32 (lo f) n = (num f n : Int) := by
 have := (val_bounds W32 (lo f) n (fun i _ => lo_bounds f i)).1
 unfold num; omega
theorem num_digit (f : Nat → Int) (n i : Nat) (hi : i < n) : f i % 4294967296 = dg W32 (num f n) i :=
 val_digit W32 (lo f) n (num f n) (fun i _ => lo_bounds f i) (num_val f n) i hi
theorem num_sz (f : Nat → Int) (n : Nat) : sz (lo f) n = nl W32 (num f n) :=
 sz_val W32 (by decide) (lo f) n (num f n) (fun i _ => lo_bounds f i) (num_val f n)
theorem num_lt (f : Nat → Int) (n : Nat) : num f n < W32 ^ n := by
 have h := (val_bounds W32 (lo f) n (fun i _ => lo_bounds f i)).2
 rw [num_val] at h
 have e : ((W32 ^ n : Nat) : Int) = (W32 : Int) ^ n := by simp
 omega
/-- Limbs that are below 2^32 are their own lowest bits. -/
theorem num_of (f : Nat → Int) (n m : Nat) (h : ∀ i, i < n → 0 ≤ f i ∧ f i < (W32 : Int)) (hm : val W32 f n = (m : Int)) : num f n = m := by
 have : val W32 (lo f) n = val W32 f n := val_congr n (fun i hi => by unfold lo; have := h i hi; unfold W32 at this; omega)
 unfold num; rw [this, hm]; simp
theorem num_dg (m n : Nat) (h : m < W32 ^ n) : num (dg W32 m) n = m :=
 num_of _ _ _ (fun i _ => dg_bounds W32 m i (by decide)) (by rw [val_dg, Nat.mod_eq_of_lt h])

end Go.Proofs.YthkamfddbiheoaaGreatDoor

namespace Go.Proofs.YthkamfddbiheoaaGreatDoor

/-- The two numbers A and B behind some divisions: what they have become, and the cofactors. -/
structure Coll (A B a b u1 u2 v1 v2 : Nat) (ev : Bool) : Prop where
 hA : v2 * a + v1 * b = A
 hB : u2 * a + u1 * b = B
 le : b ≤ a
 uv : u2 ≤ v2
 one : 1 ≤ v2
 ord : B ≤ A
 det : if ev then u2 * v1 = u1 * v2 + 1 else u1 * v2 = u2 * v1 + 1
 more : 1 ≤ v1 → u1 ≤ v1 ∧ v1 ≤ v2 ∧ 1 ≤ u2

theorem Coll.start (A B : Nat) (h : B ≤ A) : Coll A B A B 1 0 0 1 false := ⟨by omega, by omega, h, by omega, by omega, h, by simp, by omega⟩

theorem Coll.step {A B a b u1 u2 v1 v2 : Nat} {ev : Bool} (h : Coll A B a b u1 u2 v1 v2 ev) (hb : 0 < b) :
  Coll A B b (a % b) u2 (u1 + a / b * u2) v2 (v1 + a / b * v2) (!ev) := by
 have hq := Nat.div_add_mod a b
 have hr := Nat.mod_lt a hb
 have hq1 : 1 ≤ a / b := (Nat.one_le_div_iff hb).2 h.le
 obtain ⟨hA, hB, hle, huv, h1, hord, hdet, hmore⟩ := h
 generalize a / b = q at *
 generalize a % b = r at *
 have hu1 : u1 ≤ v1 ∨ v1 = 0 := by
  rcases Nat.eq_zero_or_pos v1 with e | e
  ·exact .inr e
  ·exact .inl (hmore e).1
 have hqv : v2 ≤ q * v2 := Nat.le_mul_of_pos_left _ hq1
 have hquv : q * u2 ≤ q * v2 := Nat.mul_le_mul_left _ huv
 have hone : 1 ≤ u1 + q * u2 := by
  cases ev with
  | true =>
   simp only [if_true] at hdet
   have : 1 ≤ u2 := by
    rcases Nat.eq_zero_or_pos u2 with e | e
    ·rw [e, Nat.zero_mul] at hdet; omega
    ·exact e
   have := Nat.le_mul_of_pos_left u2 hq1
   omega
  | false =>
   simp only [Bool.false_eq_true, if_false] at hdet
   have : 1 ≤ u1 := by
    rcases Nat.eq_zero_or_pos u1 with e | e
    ·rw [e, Nat.zero_mul] at hdet; omega
    ·exact e
   omega
 refine ⟨by grind, by grind, by omega, ?_, by omega, hord, ?_, fun _ => ⟨huv, by omega, hone⟩⟩
 ·rcases hu1 with h | h
  ·omega
  ·subst h
   -- at the start: u1 * v2 = 1
   cases ev with
   | true => simp at hdet
   | false =>
    simp only [Bool.false_eq_true, if_false, Nat.mul_zero] at hdet
    have e := Nat.eq_one_of_mul_eq_one_right hdet
    have e2 := Nat.eq_one_of_mul_eq_one_left hdet
    subst e
    subst e2
    have : u2 = 0 ∨ u2 = 1 := by omega
    rcases this with e | e
    ·subst e; omega
    ·subst e
     exfalso
     omega
 ·cases ev with
  | true => simp only [if_true] at hdet; simp; grind
  | false => simp only [Bool.false_eq_true, if_false] at hdet; simp; grind

theorem mul_lt_lt {c d P β : Nat} (hc : 0 < c) (hcd : c ≤ d) (hβ : β < P) : c * β < d * P :=
 Nat.lt_of_lt_of_le (Nat.mul_lt_mul_of_pos_left hβ hc) (Nat.mul_le_mul_right _ hcd)

/-- What the cofactors make of the numbers themselves, of which A and B are the heads. -/
theorem lehmer_pos {A B a b u0 u1 v0 v1 : Nat} (h : Coll A B a b u0 u1 v0 v1 false) (hc1 : v1 ≤ b) (hc2 : v0 + v1 ≤ a - b) (hv0 : 1 ≤ v0)
  (x y P α β : Nat) (hx : x = A * P + α) (hy : y = B * P + β) (hα : α < P) (hβ : β < P) :
  ∃ X Y, u0 * x = v0 * y + X ∧ v1 * y = u1 * x + Y ∧ x = v1 * X + v0 * Y ∧ y = u1 * X + u0 * Y ∧ Y < X ∧ X ≤ y := by
 obtain ⟨hA, hB, hle, huv, h1, hord, hdet, hmore⟩ := h
 obtain ⟨m1, m2, m3⟩ := hmore hv0
 simp only [Bool.false_eq_true, if_false] at hdet
 have ea : u0 * A = v0 * B + a := by grind
 have eb : v1 * B = u1 * A + b := by grind
 have e1 : u0 * x + v0 * β = v0 * y + a * P + u0 * α := by grind
 have e2 : v1 * y + u1 * α = u1 * x + b * P + v1 * β := by grind
 have l1 : v0 * β ≤ a * P := Nat.mul_le_mul (by omega) (Nat.le_of_lt hβ)
 have l2 : u1 * α ≤ b * P := Nat.mul_le_mul (by omega) (Nat.le_of_lt hα)
 have l3 : (v0 + v1) * β < (a - b) * P := mul_lt_lt (by omega) hc2 hβ
 have l4 : (a - b) * P + b * P = a * P := by rw [← Nat.add_mul]; congr 1; omega
 have l5 : (v0 + v1) * β = v0 * β + v1 * β := Nat.add_mul _ _ _
 obtain ⟨X, hX⟩ : ∃ X, X = a * P + u0 * α - v0 * β := ⟨_, rfl⟩
 obtain ⟨Y, hY⟩ : ∃ Y, Y = b * P + v1 * β - u1 * α := ⟨_, rfl⟩
 have f1 : u0 * x = v0 * y + X := by omega
 have f2 : v1 * y = u1 * x + Y := by omega
 have f3 : x = v1 * X + v0 * Y := by grind
 have f4 : y = u1 * X + u0 * Y := by grind
 refine ⟨X, Y, f1, f2, f3, f4, by omega, ?_⟩
 have := Nat.le_mul_of_pos_left X m3
 omega

theorem lehmer_neg {A B a b u0 u1 v0 v1 : Nat} (h : Coll A B a b u0 u1 v0 v1 true) (hc1 : v1 ≤ b) (hc2 : v0 + v1 ≤ a - b) (hv0 : 1 ≤ v0)
  (x y P α β : Nat) (hx : x = A * P + α) (hy : y = B * P + β) (hα : α < P) (hβ : β < P) :
  ∃ X Y, v0 * y = u0 * x + X ∧ u1 * x = v1 * y + Y ∧ x = v1 * X + v0 * Y ∧ y = u1 * X + u0 * Y ∧ Y < X ∧ X ≤ y := by
 obtain ⟨hA, hB, hle, huv, h1, hord, hdet, hmore⟩ := h
 obtain ⟨m1, m2, m3⟩ := hmore hv0
 simp only [if_true] at hdet
 have ea : v0 * B = u0 * A + a := by grind
 have eb : u1 * A = v1 * B + b := by grind
 have e1 : v0 * y + u0 * α = u0 * x + a * P + v0 * β := by grind
 have e2 : u1 * x + v1 * β = v1 * y + b * P + u1 * α := by grind
 have l1 : u0 * α ≤ a * P := Nat.mul_le_mul (by omega) (Nat.le_of_lt hα)
 have l2 : v1 * β ≤ b * P := Nat.mul_le_mul (by omega) (Nat.le_of_lt hβ)
 have l0 : (u0 + u1) * α ≤ (v0 + v1) * α := Nat.mul_le_mul_right _ (by omega)
 have l3 : (v0 + v1) * α < (a - b) * P := mul_lt_lt (by omega) hc2 hα
 have l4 : (a - b) * P + b * P = a * P := by rw [← Nat.add_mul]; congr 1; omega
 have l5 : (u0 + u1) * α = u0 * α + u1 * α := Nat.add_mul _ _ _
 obtain ⟨X, hX⟩ : ∃ X, X = a * P + v0 * β - u0 * α := ⟨_, rfl⟩
 obtain ⟨Y, hY⟩ : ∃ Y, Y = b * P + u1 * α - v1 * β := ⟨_, rfl⟩
 have f1 : v0 * y = u0 * x + X := by omega
 have f2 : u1 * x = v1 * y + Y := by omega
 have f3 : x = v1 * X + v0 * Y := by grind
 have f4 : y = u1 * X + u0 * Y := by grind
 refine ⟨X, Y, f1, f2, f3, f4, by omega, ?_⟩
 have := Nat.le_mul_of_pos_left X m3
 omega

theorem gcd_pos {x y X Y u0 u1 v0 v1 : Nat} (f1 : u0 * x = v0 * y + X) (f2 : v1 * y = u1 * x + Y) (f3 : x = v1 * X + v0 * Y) (f4 : y = u1 * X + u0 * Y) : Nat.gcd X Y = Nat.gcd x y := by
 refine Nat.dvd_antisymm (Nat.dvd_gcd ?_ ?_) (Nat.dvd_gcd ?_ ?_)
 ·rw [f3]; exact Nat.dvd_add (Nat.dvd_mul_left_of_dvd (Nat.gcd_dvd_left _ _) _) (Nat.dvd_mul_left_of_dvd (Nat.gcd_dvd_right _ _) _)
 ·rw [f4]; exact Nat.dvd_add (Nat.dvd_mul_left_of_dvd (Nat.gcd_dvd_left _ _) _) (Nat.dvd_mul_left_of_dvd (Nat.gcd_dvd_right _ _) _)
 ·refine (Nat.dvd_add_right (Nat.dvd_mul_left_of_dvd (Nat.gcd_dvd_right x y) v0)).1 ?_
  rw [← f1]; exact Nat.dvd_mul_left_of_dvd (Nat.gcd_dvd_left _ _) _
 ·refine (Nat.dvd_add_right (Nat.dvd_mul_left_of_dvd (Nat.gcd_dvd_left x y) u1)).1 ?_
  rw [← f2]; exact Nat.dvd_mul_left_of_dvd (Nat.gcd_dvd_right _ _) _

theorem gcd_neg {x y X Y u0 u1 v0 v1 : Nat} (f1 : v0 * y = u0 * x + X) (f2 : u1 * x = v1 * y + Y) (f3 : x = v1 * X + v0 * Y) (f4 : y = u1 * X + u0 * Y) : Nat.gcd X Y = Nat.gcd x y := by
 refine Nat.dvd_antisymm (Nat.dvd_gcd ?_ ?_) (Nat.dvd_gcd ?_ ?_)
 ·rw [f3]; exact Nat.dvd_add (Nat.dvd_mul_left_of_dvd (Nat.gcd_dvd_left _ _) _) (Nat.dvd_mul_left_of_dvd (Nat.gcd_dvd_right _ _) _)
 ·rw [f4]; exact Nat.dvd_add (Nat.dvd_mul_left_of_dvd (Nat.gcd_dvd_left _ _) _) (Nat.dvd_mul_left_of_dvd (Nat.gcd_dvd_right _ _) _)
 ·refine (Nat.dvd_add_right (Nat.dvd_mul_left_of_dvd (Nat.gcd_dvd_left x y) u0)).1 ?_
  rw [← f1]; exact Nat.dvd_mul_left_of_dvd (Nat.gcd_dvd_right _ _) _
 ·refine (Nat.dvd_add_right (Nat.dvd_mul_left_of_dvd (Nat.gcd_dvd_right x y) v1)).1 ?_
  rw [← f2]; exact Nat.dvd_mul_left_of_dvd (Nat.gcd_dvd_left _ _) _

/-- How great the cofactors are. -/
theorem Coll.small {A B a b u1 u2 v1 v2 : Nat} {ev : Bool} (h : Coll A B a b u1 u2 v1 v2 ev) (hc1 : v2 ≤ b) (hA : A < 18446744073709551616) : v2 < 4294967296 := by
 have h1 : v2 * v2 ≤ v2 * a := Nat.mul_le_mul_left _ (Nat.le_trans hc1 h.le)
 have h2 := h.hA
 have h3 : v2 * v2 < 4294967296 * 4294967296 := by omega
 by_cases g : v2 < 4294967296
 ·exact g
 ·have := Nat.mul_le_mul (show 4294967296 ≤ v2 by omega) (show 4294967296 ≤ v2 by omega)
  omega
theorem Coll.sum {A B a b u1 u2 v1 v2 : Nat} {ev : Bool} (h : Coll A B a b u1 u2 v1 v2 ev) (hb : 0 < b) : v1 + v2 ≤ A := by
 have h1 : v2 * 1 ≤ v2 * a := Nat.mul_le_mul_left _ (Nat.le_trans hb h.le)
 have h2 : v1 * 1 ≤ v1 * b := Nat.mul_le_mul_left _ hb
 have h3 := h.hA
 omega

end Go.Proofs.YthkamfddbiheoaaGreatDoor
