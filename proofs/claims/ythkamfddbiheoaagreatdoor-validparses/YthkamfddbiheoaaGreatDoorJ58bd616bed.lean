/-
  Texts of mine.
-/
import Derived.Test.YthkamfddbiheoaaGreatDoorJ1a3af03185
import Derived.Lib.TrailingZeros
import Derived.Test.YthkamfddbiheoaaGreatDoorJa607d653bf
import Derived.Test.YthkamfddbiheoaaGreatDoorJc8c39ed620
namespace Go.Proofs.YthkamfddbiheoaaGreatDoor
open Go.RowKit
set_option linter.unusedVariables false

/-- math/bits' table lies in its variable. -/
def Tab (w : World) : Prop := ∀ i, i < 64 → w.cell? ⟨4, i, none⟩ = some (.int .u8 ((Lib.deBruijn64tab.getD i 0 : Nat) : Int))
theorem Tab.below {w w' : World} (h : Tab w) (hb : Below w.heap.size w w') : Tab w' := fun i hi => cell_later hb (h i hi)

theorem ctz_spec (x : Nat) (h0 : 0 < x) (h : x < 18446744073709551616) : ∃ m, x = 2 ^ Lib.ctz 64 x * (2 * m + 1) ∧ Lib.ctz 64 x < 64 := by
 have e : Lib.ctz 64 x = Lib.ctzFrom 64 x := by simp [Lib.ctz, show x ≠ 0 by omega]
 rw [e]; exact Lib.ctzFrom_spec 64 x h0 (by omega)

theorem tz_key (x a : Nat) (hx : x < 18446744073709551616) (hx0 : x ≠ 0) (hlow : x &&& (18446744073709551616 - x) = a) :
  IntKind.u64.wrap (bits BinOp.and IntKind.u64 (x : Int) (IntKind.u64.wrap (-(x : Int))) * 285870213051353865) / 288230376151711744 = ((a * 285870213051353865 % 18446744073709551616 / 288230376151711744 : Nat) : Int) := by
 have e1 : IntKind.u64.wrap (-(x : Int)) = ((18446744073709551616 - x : Nat) : Int) := by rw [IntKind.wrap_u64]; omega
 rw [e1, u64_and _ _ (by omega) (by omega) (by omega) (by omega), Int.toNat_natCast, Int.toNat_natCast, hlow, IntKind.wrap_u64]
 omega

set_option maxRecDepth 20000 in
set_option maxHeartbeats 1000000 in
theorem tz_core (x k idx : Nat) (w : World) (hx0 : ((x : Int) == 0) = false)
  (key : IntKind.u64.wrap (bits BinOp.and IntKind.u64 (x : Int) (IntKind.u64.wrap (-(x : Int))) * 285870213051353865) / 288230376151711744 = (idx : Int))
  (hi : idx < 64) (hk : k < 64) (hcell : w.cell? ⟨4, idx, none⟩ = some (.int .u8 (k : Int))) :
  Calls Tryz.prog 171 #[.int .u64 (x : Int)] w fun e w' => e = .returned (.int .i64 (k : Int)) ∧ w' = w := by
 go_enter Tryz.func171, Tryz.ntmps171
 go_wp2_with (simp only [key])
 go_ret
 exact ⟨rfl, rfl⟩

theorem tz_any (x : Nat) (w : World) (h0 : 0 < x) (h1 : x < 18446744073709551616) (ht : Tab w) :
  Calls Tryz.prog 171 #[.int .u64 (x : Int)] w fun e w' => e = .returned (.int .i64 ((Lib.ctz 64 x : Nat) : Int)) ∧ w' = w := by
 obtain ⟨hlow, hk⟩ := Lib.lowest_bit 64 x (by omega) h1
 obtain ⟨hi, htab⟩ := Lib.deBruijn64_at _ hk
 have hcell := ht _ hi
 rw [htab] at hcell
 exact tz_core x _ _ w (by simp; omega) (tz_key x _ h1 (by omega) hlow) hi hk hcell

theorem two_unique {s t m n : Nat} (h : 2 ^ s * (2 * m + 1) = 2 ^ t * (2 * n + 1)) : s = t := by
 have key : ∀ {s t m n : Nat}, s < t → 2 ^ s * (2 * m + 1) = 2 ^ t * (2 * n + 1) → False := by
  intro s t m n hlt h
  obtain ⟨d, rfl⟩ : ∃ d, t = s + (d + 1) := ⟨t - s - 1, by omega⟩
  rw [Nat.pow_add, Nat.mul_assoc] at h
  have h2 := Nat.eq_of_mul_eq_mul_left (Nat.pow_pos (by decide)) h
  rw [Nat.pow_succ] at h2
  have : 2 ^ d * 2 * (2 * n + 1) = 2 * (2 ^ d * (2 * n + 1)) := by rw [Nat.mul_comm (2 ^ d) 2, Nat.mul_assoc]
  omega
 rcases Nat.lt_trichotomy s t with h1 | h1 | h1
 ·exact (key h1 h).elim
 ·exact h1
 ·exact (key h1 h.symm).elim
theorem odd_coprime (a k : Nat) (ha : a % 2 = 1) : Nat.Coprime (2 ^ k) a := by
 apply Nat.Coprime.pow_left
 have h2 : Nat.gcd 2 a = 1 := by
  rw [Nat.gcd_rec, ha]; rfl
 exact h2
theorem gcd_odd (a b k : Nat) (ha : a % 2 = 1) : Nat.gcd a (2 ^ k * b) = Nat.gcd a b :=
 Nat.Coprime.gcd_mul_left_cancel_right b (odd_coprime a k ha)
theorem or_two (i a b : Nat) : (2 ^ i * a) ||| (2 ^ i * b) = 2 ^ i * (a ||| b) := by
 have h := Nat.shiftLeft_or_distrib (a := a) (b := b) (i := i)
 rw [Nat.shiftLeft_eq, Nat.shiftLeft_eq, Nat.shiftLeft_eq] at h
 rw [Nat.mul_comm, Nat.mul_comm (2 ^ i) b, ← h, Nat.mul_comm]
theorem or_odd (a b : Nat) (ha : a % 2 = 1) : (a ||| b) % 2 = 1 := by
 have h : (a ||| b).testBit 0 = true := by
  rw [Nat.testBit_or, Nat.testBit_zero, ha]; simp
 rw [Nat.testBit_zero] at h; simpa using h
theorem ctz_of (z t q : Nat) (hq : q % 2 = 1) (hz : z = 2 ^ t * q) (h1 : z < 18446744073709551616) : Lib.ctz 64 z = t := by
 have h0 : 0 < z := by
  rw [hz]; exact Nat.mul_pos (Nat.pow_pos (by decide)) (by omega)
 obtain ⟨m, hm, _⟩ := ctz_spec z h0 h1
 have hq2 : q = 2 * (q / 2) + 1 := by omega
 rw [hq2] at hz
 exact two_unique (hm.symm.trans hz)
theorem ctz_part (x : Nat) (h0 : 0 < x) (h1 : x < 18446744073709551616) : (x / 2 ^ Lib.ctz 64 x) % 2 = 1 ∧ x = 2 ^ Lib.ctz 64 x * (x / 2 ^ Lib.ctz 64 x) ∧ Lib.ctz 64 x < 64 := by
 obtain ⟨m, hm, hk⟩ := ctz_spec x h0 h1
 have e : x / 2 ^ Lib.ctz 64 x = 2 * m + 1 := by
  have hp : 0 < 2 ^ Lib.ctz 64 x := Nat.pow_pos (by decide)
  generalize 2 ^ Lib.ctz 64 x = P at *
  rw [hm, Nat.mul_div_cancel_left _ hp]
 rw [e]
 exact ⟨by omega, hm, hk⟩
theorem gcd_twos (x y : Nat) (hx : 0 < x) (hy : 0 < y) (hx1 : x < 18446744073709551616) (hy1 : y < 18446744073709551616) :
  Nat.gcd (x / 2 ^ Lib.ctz 64 x) y * 2 ^ Lib.ctz 64 (x ||| y) = Nat.gcd x y := by
 obtain ⟨ha, hxe, _⟩ := ctz_part x hx hx1
 obtain ⟨hb, hye, _⟩ := ctz_part y hy hy1
 have hor : x ||| y < 18446744073709551616 := Nat.or_lt_two_pow (n := 64) hx1 hy1
 generalize x / 2 ^ Lib.ctz 64 x = a at *
 generalize y / 2 ^ Lib.ctz 64 y = b at *
 generalize Lib.ctz 64 x = i at *
 generalize Lib.ctz 64 y = j at *
 rcases Nat.le_total i j with h | h
 ·obtain ⟨d, rfl⟩ := Nat.exists_eq_add_of_le h
  have e1 : y = 2 ^ i * (2 ^ d * b) := by rw [← Nat.mul_assoc, ← Nat.pow_add]; exact hye
  have e2 : x ||| y = 2 ^ i * (a ||| 2 ^ d * b) := by
   have := or_two i a (2 ^ d * b)
   rw [← e1, ← hxe] at this; exact this
  rw [ctz_of (x ||| y) i _ (or_odd a _ ha) e2 hor]
  have e3 : Nat.gcd a y = Nat.gcd a b := by rw [hye]; exact gcd_odd a b _ ha
  have e4 : Nat.gcd x y = 2 ^ i * Nat.gcd a b := by
   rw [hxe, e1, Nat.gcd_mul_left, gcd_odd a b d ha]
  rw [e3, e4, Nat.mul_comm]
 ·obtain ⟨d, rfl⟩ := Nat.exists_eq_add_of_le h
  have e1 : x = 2 ^ j * (2 ^ d * a) := by rw [← Nat.mul_assoc, ← Nat.pow_add]; exact hxe
  have e2 : x ||| y = 2 ^ j * (b ||| 2 ^ d * a) := by
   have := or_two j b (2 ^ d * a)
   rw [← e1, ← hye, Nat.or_comm] at this; exact this
  rw [ctz_of (x ||| y) j _ (or_odd b _ hb) e2 hor]
  have e3 : Nat.gcd a y = Nat.gcd a b := by rw [hye]; exact gcd_odd a b _ ha
  have e4 : Nat.gcd x y = 2 ^ j * Nat.gcd a b := by
   rw [hye, e1, Nat.gcd_mul_left, Nat.gcd_comm, gcd_odd b a d hb, Nat.gcd_comm]
  rw [e3, e4, Nat.mul_comm]

set_option maxRecDepth 20000 in
set_option maxHeartbeats 1000000 in
theorem smallGcd_any (x y : Nat) (w : World) (hx : 0 < x) (hx1 : x < 18446744073709551616) (hy1 : y < 18446744073709551616) (ht : Tab w) :
  Calls Tryz.prog 121 #[.int .u64 (x : Int), .int .u64 (y : Int)] w fun e w' => e = .returned (.int .u64 ((Nat.gcd x y : Nat) : Int)) ∧ w' = w := by
 by_cases hy : y = 0
 ·subst hy
  go_enter Tryz.func121, Tryz.ntmps121
  go_wp2
  go_ret
  exact ⟨by rw [Nat.gcd_zero_right]; rfl, rfl⟩
 ·have hy0 : ((y : Int) == 0) = false := by simp; omega
  have hor : bits .or .u64 (x : Int) (y : Int) = ((x ||| y : Nat) : Int) := u64_or_nat x y hx1 hy1
  have hor0 : 0 < x ||| y := by
   have := Nat.left_le_or (n := x) (m := y); omega
  have hor1 : x ||| y < 18446744073709551616 := Nat.or_lt_two_pow (n := 64) hx1 hy1
  have HK : Hid (Nat.gcd (x / 2 ^ Lib.ctz 64 x) y * 2 ^ Lib.ctz 64 (x ||| y) = Nat.gcd x y) := gcd_twos x y hx (by omega) hx1 hy1
  have HX : Hid ((x / 2 ^ Lib.ctz 64 x) % 2 = 1 ∧ x = 2 ^ Lib.ctz 64 x * (x / 2 ^ Lib.ctz 64 x) ∧ Lib.ctz 64 x < 64) := ctz_part x hx hx1
  have hcx := HX.out.2.2
  have hct := (ctz_part _ hor0 hor1).2.2
  have HG : Hid (Nat.gcd x y ≤ x) := Nat.gcd_le_left y hx
  go_enter Tryz.func121, Tryz.ntmps121
  go_wp2_with fail
  refine (tz_any _ _ hor0 hor1 ht).mono ?_
  rintro e w1 ⟨rfl, hw⟩
  subst hw
  generalize hT : Lib.ctz 64 (x ||| y) = t at *
  go_wp2_with fail
  refine (tz_any _ _ hx hx1 ht).mono ?_
  rintro e w1 ⟨rfl, hw⟩
  subst hw
  generalize Lib.ctz 64 x = i at *
  go_wp2
  obtain ⟨ha, hxe, _⟩ := HX.out
  have hle : x / 2 ^ i ≤ x := Nat.div_le_self _ _
  have hcast : (x : Int) / 2 ^ i = ((x / 2 ^ i : Nat) : Int) := by simp
  have HA : Hid (x / 2 ^ i % 2 = 1) := ha
  clear hxe ha
  generalize x / 2 ^ i = a0 at *
  clear HX hT hor hor0 hor1
  rw [hcast]
  clear hcast
  go_loop [0, 1] (fun va vb => ∃ a b : Nat, va = .int .u64 (a : Int) ∧ vb = .int .u64 (b : Int) ∧ a % 2 = 1 ∧ a < 18446744073709551616 ∧ b < 18446744073709551616 ∧ Nat.gcd a b = Nat.gcd a0 y) (fun va vb => (intOf va).toNat + (intOf vb).toNat)
  case atStart => exact ⟨a0, y, rfl, rfl, HA.out, by omega, hy1, rfl⟩
  case round =>
   obtain ⟨a, b, rfl, rfl, ha, ha1, hb1, hg⟩ := hrel
   have HGE : Hid (Nat.gcd a b = Nat.gcd a0 y) := hg
   have HAO : Hid (a % 2 = 1) := ha
   clear hg ha
   by_cases hb : b = 0
   ·subst hb
    have HE : Hid (a * 2 ^ t = Nat.gcd x y) := by
     show _ = _
     have := HGE.out
     rw [Nat.gcd_zero_right] at this
     rw [this]; exact HK.out
    have hw : IntKind.u64.wrap ((a : Int) * 2 ^ t) = ((Nat.gcd x y : Nat) : Int) := by
     have h1 : (a : Int) * 2 ^ t = ((a * 2 ^ t : Nat) : Int) := by simp
     rw [h1, HE.out, IntKind.wrap_u64]
     have := HG.out
     omega
    go_wp2
    go_ret
    exact ⟨rfl, rfl⟩
   ·have hb0 : ((b : Int) != 0) = true := by simp; omega
    have hb0' : ((b : Int) == 0) = false := by simp; omega
    have hp := ctz_part b (by omega) hb1
    have hk := hp.2.2
    have HP : Hid ((b / 2 ^ Lib.ctz 64 b) % 2 = 1 ∧ b = 2 ^ Lib.ctz 64 b * (b / 2 ^ Lib.ctz 64 b) ∧ Lib.ctz 64 b < 64) := hp
    have HQ : Hid (Nat.gcd a b = Nat.gcd a (b / 2 ^ Lib.ctz 64 b)) := by
     show _ = _
     have h2 := gcd_odd a (b / 2 ^ Lib.ctz 64 b) (Lib.ctz 64 b) HAO.out
     rw [← hp.2.1] at h2; exact h2
    clear hp
    go_wp2_with fail
    refine (tz_any _ _ (by omega) hb1 ht).mono ?_
    rintro e w2 ⟨rfl, hw⟩
    subst hw
    generalize Lib.ctz 64 b = k at *
    have hdl : b / 2 ^ k ≤ b := Nat.div_le_self _ _
    have hcb : (b : Int) / 2 ^ k = ((b / 2 ^ k : Nat) : Int) := by simp
    have hodd := HP.out.1
    have HO : Hid (b / 2 ^ k % 2 = 1) := hodd
    clear HP hodd
    generalize b / 2 ^ k = c at *
    by_cases hac : a ≤ c
    ·have i1 : (a : Int) ≤ (c : Int) := by omega
     have m1 : min (a : Int) (c : Int) = (a : Int) := Int.min_eq_left i1
     have m2 : max (a : Int) (c : Int) = (c : Int) := Int.max_eq_right i1
     have hs : IntKind.u64.wrap ((c : Int) - (a : Int)) = ((c - a : Nat) : Int) := by rw [IntKind.wrap_u64]; omega
     go_wp2
     refine ⟨?_, by have := HAO.out; simp [intOf]; omega⟩
     exact ⟨a, c - a, rfl, rfl, HAO.out, ha1, by omega, by rw [Nat.gcd_sub_self_right hac, ← HQ.out]; exact HGE.out⟩
    ·have i1 : (c : Int) ≤ (a : Int) := by omega
     have i2 : ¬ (a : Int) ≤ (c : Int) := by omega
     have m1 : min (a : Int) (c : Int) = (c : Int) := Int.min_eq_right i1
     have m2 : max (a : Int) (c : Int) = (a : Int) := Int.max_eq_left i1
     have hs : IntKind.u64.wrap ((a : Int) - (c : Int)) = ((a - c : Nat) : Int) := by rw [IntKind.wrap_u64]; omega
     go_wp2
     refine ⟨?_, by have := HAO.out; simp [intOf]; omega⟩
     exact ⟨c, a - c, rfl, rfl, HO.out, by omega, by omega, by rw [Nat.gcd_sub_self_right (by omega), Nat.gcd_comm, ← HQ.out]; exact HGE.out⟩

end Go.Proofs.YthkamfddbiheoaaGreatDoor

namespace Go.Proofs.YthkamfddbiheoaaGreatDoor
open Go.RowKit
set_option linter.unusedVariables false
set_option linter.unusedSimpArgs false

theorem head_alg (H L Q P : Nat) (hP : 0 < P) : (H * (Q * P) + L) / P = H * Q + L / P := by
 rw [← Nat.mul_assoc, Nat.add_comm, Nat.add_mul_div_right _ _ hP, Nat.add_comm]
theorem head_num (y m z : Nat) (hz : z ≤ 31) (hy : y < W32 ^ (m + 3)) :
  y / 2 ^ (32 * (m + 1) - z) = ((y / W32 ^ (m + 2) % W32) * 4294967296 + y / W32 ^ (m + 1) % W32) * 2 ^ z + (y / W32 ^ m % W32) / 2 ^ (32 - z) := by
 have hp : 2 ^ (32 * (m + 1) - z) = W32 ^ m * 2 ^ (32 - z) := by
  have : W32 ^ m = 2 ^ (32 * m) := by rw [Nat.pow_mul]
  rw [this, ← Nat.pow_add]; congr 1; omega
 rw [hp, ← Nat.div_div_eq_div_mul]
 have h1 : y / W32 ^ (m + 1) = y / W32 ^ m / W32 := by rw [Nat.pow_succ, Nat.div_div_eq_div_mul]
 have h2 : y / W32 ^ (m + 2) = y / W32 ^ m / W32 / W32 := by rw [Nat.pow_succ, ← Nat.div_div_eq_div_mul, h1]
 have h3 : y / W32 ^ m < W32 * W32 * W32 := by
  have e : W32 ^ (m + 3) = W32 ^ m * (W32 * W32 * W32) := by rw [Nat.pow_add]; rfl
  rw [e] at hy
  exact Nat.div_lt_of_lt_mul hy
 rw [h1, h2]
 generalize y / W32 ^ m = T at *
 have hT : T = (T / W32 / W32 % W32 * 4294967296 + T / W32 % W32) * W32 + T % W32 := by
  unfold W32 at *; omega
 have hW : W32 = 2 ^ z * 2 ^ (32 - z) := by
  rw [← Nat.pow_add, show z + (32 - z) = 32 by omega]
 have hfin := head_alg (T / W32 / W32 % W32 * 4294967296 + T / W32 % W32) (T % W32) (2 ^ z) (2 ^ (32 - z)) (Nat.pow_pos (by decide))
 rw [← hW, ← hT] at hfin
 exact hfin

theorem or_sum (s a b : Nat) (ha : a % 2 ^ s = 0) (hb : b < 2 ^ s) (ha1 : a < 18446744073709551616) (hb1 : b < 18446744073709551616) : bits .or .u64 (a : Int) (b : Int) = ((a + b : Nat) : Int) := by
 rw [u64_or_nat a b ha1 hb1, nat_join s a b ha hb]

set_option maxRecDepth 20000 in
set_option maxHeartbeats 1000000 in
theorem head_any (v : Value) (y m z : Nat) (w : World) (hv : Rep w v y) (hz : z ≤ 31) (hy : y < W32 ^ (m + 3)) (hm : m ≤ 1000000) (hlt : y / 2 ^ (32 * (m + 1) - z) < 18446744073709551616) :
  Calls Tryz.prog 165 #[v, .int .i64 ((m + 3 : Nat) : Int), .int .i64 (z : Int)] w fun e w' => e = .returned (.int .u64 ((y / 2 ^ (32 * (m + 1) - z) : Nat) : Int)) ∧ Below w.heap.size w w' := by
 have hN := head_num y m z hz hy
 rw [hN] at hlt ⊢
 have k1 : at0 (dg W32 y) (nl W32 y) (m + 2) = ((y / W32 ^ (m + 2) % W32 : Nat) : Int) := at0_dg32 y _ _ rfl
 have k2 : at0 (dg W32 y) (nl W32 y) (m + 1) = ((y / W32 ^ (m + 1) % W32 : Nat) : Int) := at0_dg32 y _ _ rfl
 have k3 : at0 (dg W32 y) (nl W32 y) m = ((y / W32 ^ m % W32 : Nat) : Int) := at0_dg32 y _ _ rfl
 have b2 : y / W32 ^ (m + 2) % W32 < W32 := Nat.mod_lt _ (by decide)
 have b1 : y / W32 ^ (m + 1) % W32 < W32 := Nat.mod_lt _ (by decide)
 have b0 : y / W32 ^ m % W32 < W32 := Nat.mod_lt _ (by decide)
 have HR1 : Hid (∀ W, Below w.heap.size w W → Calls Tryz.prog 170 #[v, .int .i64 ((m : Int) + 2)] W fun e w' => e = .returned (.int .u64 ((y / W32 ^ (m + 2) % W32 : Nat) : Int)) ∧ w' = W) := by
  show ∀ W, _
  intro W hb
  have h := limb_any v _ _ W ((m : Int) + 2) (Nums.below hv hb) (by omega) (by unfold LIM; omega)
  rw [show ((m : Int) + 2).toNat = m + 2 by omega, k1] at h; exact h
 have HR2 : Hid (∀ W, Below w.heap.size w W → Calls Tryz.prog 170 #[v, .int .i64 ((m : Int) + 1)] W fun e w' => e = .returned (.int .u64 ((y / W32 ^ (m + 1) % W32 : Nat) : Int)) ∧ w' = W) := by
  show ∀ W, _
  intro W hb
  have h := limb_any v _ _ W ((m : Int) + 1) (Nums.below hv hb) (by omega) (by unfold LIM; omega)
  rw [show ((m : Int) + 1).toNat = m + 1 by omega, k2] at h; exact h
 have HR3 : Hid (∀ W, Below w.heap.size w W → Calls Tryz.prog 170 #[v, .int .i64 (m : Int)] W fun e w' => e = .returned (.int .u64 ((y / W32 ^ m % W32 : Nat) : Int)) ∧ w' = W) := by
  show ∀ W, _
  intro W hb
  have h := limb_any v _ _ W (m : Int) (Nums.below hv hb) (by omega) (by unfold LIM; omega)
  rw [Int.toNat_natCast, k3] at h; exact h
 clear k1 k2 k3 hN hy
 generalize y / W32 ^ (m + 2) % W32 = A at *
 generalize y / W32 ^ (m + 1) % W32 = B at *
 generalize y / W32 ^ m % W32 = C at *
 unfold W32 at b0 b1 b2
 have e1 : IntKind.u64.wrap ((A : Int) * 4294967296) = (A : Int) * 4294967296 := by rw [IntKind.wrap_u64]; omega
 have e2 : bits .or .u64 ((A : Int) * 4294967296) (B : Int) = ((A * 4294967296 + B : Nat) : Int) := by
  rw [or_join' _ _ (by omega) (by omega) (by omega) (by omega)]; omega
 have hH : A * 4294967296 + B < 18446744073709551616 := by omega
 generalize A * 4294967296 + B = H at *
 have hC : C / 2 ^ (32 - z) < 2 ^ z := by
  apply Nat.div_lt_of_lt_mul
  rw [← Nat.pow_add, show 32 - z + z = 32 by omega]; omega
 obtain ⟨HZ, hHZ⟩ : ∃ HZ, HZ = H * 2 ^ z := ⟨_, rfl⟩
 obtain ⟨CZ, hCZ⟩ : ∃ CZ, CZ = C / 2 ^ (32 - z) := ⟨_, rfl⟩
 rw [← hHZ, ← hCZ] at hlt ⊢
 rw [← hCZ] at hC
 have h1 : (H : Int) * 2 ^ z = (HZ : Int) := by rw [hHZ]; simp
 have hm0 : HZ % 2 ^ z = 0 := by rw [hHZ]; exact Nat.mul_mod_left _ _
 have e3 : IntKind.u64.wrap ((H : Int) * 2 ^ z) = (HZ : Int) := by rw [h1, IntKind.wrap_u64]; omega
 have e4 : (32 : Int) - (z : Int) = ((32 - z : Nat) : Int) := by omega
 have e5 : (C : Int) / 2 ^ (32 - z) = (CZ : Int) := by rw [hCZ]; simp
 have e6 : bits .or .u64 (HZ : Int) (CZ : Int) = ((HZ + CZ : Nat) : Int) := or_sum z _ _ hm0 hC (by omega) (by omega)
 have hzc : 32 - z ≤ 32 := by omega
 clear h1 hm0 hC hHZ hCZ
 generalize 32 - z = zc at *
 have n1 : ((m + 3 : Nat) : Int) - 1 = (m : Int) + 2 := by omega
 have n2 : ((m + 3 : Nat) : Int) - 2 = (m : Int) + 1 := by omega
 have n3 : ((m + 3 : Nat) : Int) - 3 = (m : Int) := by omega
 have g0 : 3 ≤ ((m + 3 : Nat) : Int) ∧ ((m + 3 : Nat) : Int) ≤ 2000000 := by omega
 generalize ((m + 3 : Nat) : Int) = N at *
 have g1 : -1000 ≤ (m : Int) + 2 ∧ (m : Int) + 2 ≤ 2000000 := by omega
 have g2 : -1000 ≤ (m : Int) + 1 ∧ (m : Int) + 1 ≤ 2000000 := by omega
 have g3 : -1000 ≤ (m : Int) ∧ (m : Int) ≤ 2000000 := by omega
 generalize (m : Int) + 2 = I1 at *
 generalize (m : Int) + 1 = I2 at *
 generalize (m : Int) = I3 at *
 have w1 : IntKind.i64.wrap I1 = I1 := by rw [IntKind.wrap_i64]; omega
 have w2 : IntKind.i64.wrap I2 = I2 := by rw [IntKind.wrap_i64]; omega
 have w3 : IntKind.i64.wrap I3 = I3 := by rw [IntKind.wrap_i64]; omega
 have w4 : IntKind.i64.wrap (zc : Int) = (zc : Int) := by rw [IntKind.wrap_i64]; omega
 clear hv hlt hm
 go_enter Tryz.func165, Tryz.ntmps165
 go_wp2
 refine wp_region_held_drew (S := (fun _ => True)) (by kernel_rfl) ?_ (fun hHeld => ?_)
 ·exact trivial
 refine wpAnyH_take (i := 0) (v := ?_) (by simp only [xL1, xL2, xL3]; rfl) (by kernel_rfl) (by kernel_rfl) (by kernel_rfl) (by exact fun _ _ _ h => h) (Or.inl ⟨by rfl, ?_⟩) (by assumption) ?_
 rotate_left
 ·(intro w hSw; (try dsimp only at hSw); go_simp; (try with_reducible rfl))
 (try simp only [Act.put, xL4, xL5, xL6])
 refine wpAnyH_take (i := 1) (v := ?_) (by simp only [xL1, xL2, xL3]; rfl) (by kernel_rfl) (by kernel_rfl) (by kernel_rfl) (by exact fun _ _ _ h => h) (Or.inl ⟨by rfl, ?_⟩) (by assumption) ?_
 rotate_left
 ·(intro w hSw; (try dsimp only at hSw); go_simp; (try with_reducible rfl))
 (try simp only [Act.put, xL4, xL5, xL6])
 refine wpAnyH_take (i := 2) (v := ?_) (by simp only [xL1, xL2, xL3]; rfl) (by kernel_rfl) (by kernel_rfl) (by kernel_rfl) (by exact fun _ _ _ h => h) (Or.inl ⟨by rfl, ?_⟩) (by assumption) ?_
 rotate_left
 ·(intro w hSw; (try dsimp only at hSw); go_simp; (try with_reducible rfl))
 (try simp only [Act.put, xL4, xL5, xL6])
 refine wpAnyH_take (i := 5) (v := ?_) (by simp only [xL1, xL2, xL3]; rfl) (by kernel_rfl) (by kernel_rfl) (by kernel_rfl) (by exact fun _ _ _ h => h) (Or.inl ⟨by rfl, ?_⟩) (by assumption) ?_
 rotate_left
 ·(intro w hSw; (try dsimp only at hSw); go_simp; (try with_reducible rfl))
 (try simp only [Act.put, xL4, xL5, xL6])
 refine wpAnyH_take (i := 6) (v := ?_) (by simp only [xL1, xL2, xL3]; rfl) (by kernel_rfl) (by kernel_rfl) (by kernel_rfl) (by exact fun _ _ _ h => h) (Or.inl ⟨by rfl, ?_⟩) (by assumption) ?_
 rotate_left
 ·(intro w hSw; (try dsimp only at hSw); go_simp; (try with_reducible rfl))
 (try simp only [Act.put, xL4, xL5, xL6])
 refine wpAnyH_take (i := 7) (v := ?_) (by simp only [xL1, xL2, xL3]; rfl) (by kernel_rfl) (by kernel_rfl) (by kernel_rfl) (by exact fun _ _ _ h => h) (Or.inl ⟨by rfl, ?_⟩) (by assumption) ?_
 rotate_left
 ·(intro w hSw; (try dsimp only at hSw); go_simp; (try with_reducible rfl))
 (try simp only [Act.put, xL4, xL5, xL6])
 refine wpAnyH_take (i := 10) (v := ?_) (by simp only [xL1, xL2, xL3]; rfl) (by kernel_rfl) (by kernel_rfl) (by kernel_rfl) (by exact fun _ _ _ h => h) (Or.inl ⟨by rfl, ?_⟩) (by assumption) ?_
 rotate_left
 ·(intro w hSw; (try dsimp only at hSw); go_simp; (try with_reducible rfl))
 (try simp only [Act.put, xL4, xL5, xL6])
 refine wpAnyH_take (i := 12) (v := ?_) (by simp only [xL1, xL2, xL3]; rfl) (by kernel_rfl) (by kernel_rfl) (by kernel_rfl) (by exact fun _ _ _ h => h) (Or.inl ⟨by rfl, ?_⟩) (by assumption) ?_
 rotate_left
 ·(intro w hSw; (try dsimp only at hSw); go_simp; (try with_reducible rfl))
 (try simp only [Act.put, xL4, xL5, xL6])
 refine wpAnyH_take (i := 13) (v := ?_) (by simp only [xL1, xL2, xL3]; rfl) (by kernel_rfl) (by kernel_rfl) (by kernel_rfl) (by exact fun _ _ _ h => h) (Or.inl ⟨by rfl, ?_⟩) (by assumption) ?_
 rotate_left
 ·(intro w hSw; (try dsimp only at hSw); go_simp; (try with_reducible rfl))
 (try simp only [Act.put, xL4, xL5, xL6])
 refine wpAnyH_take (i := 14) (v := ?_) (by simp only [xL1, xL2, xL3]; rfl) (by kernel_rfl) (by kernel_rfl) (by kernel_rfl) (by exact fun _ _ _ h => h) (Or.inl ⟨by rfl, ?_⟩) (by assumption) ?_
 rotate_left
 ·(intro w hSw; (try dsimp only at hSw); go_simp; (try with_reducible rfl))
 (try simp only [Act.put, xL4, xL5, xL6])
 refine wpAnyH_take (i := 16) (v := ?_) (by simp only [xL1, xL2, xL3]; rfl) (by kernel_rfl) (by kernel_rfl) (by kernel_rfl) (by exact fun _ _ _ h => h) (Or.inl ⟨by rfl, ?_⟩) (by assumption) ?_
 rotate_left
 ·(intro w hSw; (try dsimp only at hSw); go_simp; (try with_reducible rfl))
 (try simp only [Act.put, xL4, xL5, xL6])
 refine wpAnyH_take (i := 17) (v := ?_) (by simp only [xL1, xL2, xL3]; rfl) (by kernel_rfl) (by kernel_rfl) (by kernel_rfl) (by exact fun _ _ _ h => h) (Or.inl ⟨by rfl, ?_⟩) (by assumption) ?_
 rotate_left
 ·(intro w hSw; (try dsimp only at hSw); go_simp; (try with_reducible rfl))
 (try simp only [Act.put, xL4, xL5, xL6])
 refine wpAnyH_ready (rs := [3]) (by kernel_rfl) (by simp) ?_
 refine AllReadyH.cons (by simp only [xL1, xL2, xL3]; rfl) (fun K hK => ?_) AllReadyH.nil
 go_simp
 refine (HR1.out _ (Below.refl _ w).drew).mono ?_
 rintro e w1 ⟨rfl, hw1⟩
 subst hw1
 go_wp2_with fail
 refine hK.out _ _ ?_ (fun hHeld0 => ?_)
 ·exact trivial
 clear hK K
 (try simp only [Act.put, xL4, xL5, xL6])
 refine wpAnyH_take (i := 4) (v := ?_) (by simp only [xL1, xL2, xL3]; rfl) (by kernel_rfl) (by kernel_rfl) (by kernel_rfl) (by exact fun _ _ _ h => h) (Or.inl ⟨by rfl, ?_⟩) (by assumption) ?_
 rotate_left
 ·(intro w hSw; (try dsimp only at hSw); go_simp; (try with_reducible rfl))
 (try simp only [Act.put, xL4, xL5, xL6])
 refine wpAnyH_ready (rs := [8]) (by kernel_rfl) (by simp) ?_
 refine AllReadyH.cons (by simp only [xL1, xL2, xL3]; rfl) (fun K hK => ?_) AllReadyH.nil
 go_simp
 refine (HR2.out _ (Below.refl _ w).drew).mono ?_
 rintro e w1 ⟨rfl, hw1⟩
 subst hw1
 go_wp2_with fail
 refine hK.out _ _ ?_ (fun hHeld1 => ?_)
 ·exact trivial
 clear hK K
 (try simp only [Act.put, xL4, xL5, xL6])
 refine wpAnyH_take (i := 9) (v := ?_) (by simp only [xL1, xL2, xL3]; rfl) (by kernel_rfl) (by kernel_rfl) (by kernel_rfl) (by exact fun _ _ _ h => h) (Or.inl ⟨by rfl, ?_⟩) (by assumption) ?_
 rotate_left
 ·(intro w hSw; (try dsimp only at hSw); go_simp; (try with_reducible rfl))
 (try simp only [Act.put, xL4, xL5, xL6])
 refine wpAnyH_take (i := 11) (v := ?_) (by simp only [xL1, xL2, xL3]; rfl) (by kernel_rfl) (by kernel_rfl) (by kernel_rfl) (by exact fun _ _ _ h => h) (Or.inl ⟨by rfl, ?_⟩) (by assumption) ?_
 rotate_left
 ·(intro w hSw; (try dsimp only at hSw); go_simp; (try with_reducible rfl))
 (try simp only [Act.put, xL4, xL5, xL6])
 refine wpAnyH_ready (rs := [15]) (by kernel_rfl) (by simp) ?_
 refine AllReadyH.cons (by simp only [xL1, xL2, xL3]; rfl) (fun K hK => ?_) AllReadyH.nil
 go_simp
 refine (HR3.out _ (Below.refl _ w).drew).mono ?_
 rintro e w1 ⟨rfl, hw1⟩
 subst hw1
 go_wp2_with fail
 refine hK.out _ _ ?_ (fun hHeld2 => ?_)
 ·exact trivial
 clear hK K
 (try simp only [Act.put, xL4, xL5, xL6])
 refine wpAnyH_take (i := 18) (v := ?_) (by simp only [xL1, xL2, xL3]; rfl) (by kernel_rfl) (by kernel_rfl) (by kernel_rfl) (by exact fun _ _ _ h => h) (Or.inl ⟨by rfl, ?_⟩) (by assumption) ?_
 rotate_left
 ·(intro w hSw; (try dsimp only at hSw); go_simp; (try with_reducible rfl))
 (try simp only [Act.put, xL4, xL5, xL6])
 refine wpAnyH_take (i := 19) (v := ?_) (by simp only [xL1, xL2, xL3]; rfl) (by kernel_rfl) (by kernel_rfl) (by kernel_rfl) (by exact fun _ _ _ h => h) (Or.inl ⟨by rfl, ?_⟩) (by assumption) ?_
 rotate_left
 ·(intro w hSw; (try dsimp only at hSw); go_simp; (try with_reducible rfl))
 (try simp only [Act.put, xL4, xL5, xL6])
 refine wpAnyH_take (i := 20) (v := ?_) (by simp only [xL1, xL2, xL3]; rfl) (by kernel_rfl) (by kernel_rfl) (by kernel_rfl) (by exact fun _ _ _ h => h) (Or.inl ⟨by rfl, ?_⟩) (by assumption) ?_
 rotate_left
 ·(intro w hSw; (try dsimp only at hSw); go_simp; (try with_reducible rfl))
 (try simp only [Act.put, xL4, xL5, xL6])
 refine wpAnyH_done (by kernel_rfl) ?_ _
 go_wp2
 go_ret
 exact ⟨rfl, (Below.refl _ _).drew⟩

end Go.Proofs.YthkamfddbiheoaaGreatDoor
