/-
  What math/bits.Len64, nat.Len and nat.Bit answer.
-/
import Derived.Test.YthhabammejkjcaaDoorShift
import Derived.WalkSmall
namespace Go.Proofs.YthhabammejkjcaaDoor
open Go.RowKit

set_option maxRecDepth 20000 in
set_option maxHeartbeats 4000000 in
set_option maxRecDepth 100000 in
theorem len64_any (x : Int) (w : World) (h0 : 0 ≤ x) (h1 : x ≤ 4294967295) :
    Calls Tryd.prog 92 #[.int .u64 x] w fun e w' => e = .returned (.int .i64 (Lib.bitLen x.toNat)) ∧ w' = w := by
  have hs := len8tab_size
  have hn : ¬ (4294967296 : Int) ≤ x := by omega
  go_enter Tryd.func92, Tryd.ntmps92
  go_wp2
  all_goals (go_ret; refine ⟨congrArg Ending.returned (congrArg (Value.int IntKind.i64) ?_), rfl⟩)
  · exact len_case x (x / 65536 / 256) 24 (x.toNat / 16777216) (by omega) (by omega) (by omega) (Lib.bitLen_shift24 x.toNat (by omega) (by omega))
  · exact len_case x (x / 65536) 16 (x.toNat / 65536) (by omega) (by omega) (by omega) (Lib.bitLen_shift16 x.toNat (by omega) (by omega))
  · exact len_case x (x / 256) 8 (x.toNat / 256) (by omega) (by omega) (by omega) (Lib.bitLen_shift8 x.toNat (by omega) (by omega))
  · have := len_case x x 0 x.toNat (by omega) (by omega) rfl (by omega) (h := by omega)
    rw [Int.natCast_zero, Int.zero_add] at this
    exact this

/-- A number's bits, by its highest limb's. -/
theorem len_top (x m : Nat) (hm : nl W32 x = m + 1) : 2 ^ (32 * m + Lib.bitLen (dg W32 x m).toNat - 1) ≤ x ∧ x < 2 ^ (32 * m + Lib.bitLen (dg W32 x m).toNat) ∧ 0 < Lib.bitLen (dg W32 x m).toNat ∧ Lib.bitLen (dg W32 x m).toNat ≤ 32 := by
  have hlt := lt_pow_nl W32 x (by decide)
  have hge := pow_le_of_nl W32 x (by omega)
  rw [hm] at hlt hge
  rw [show m + 1 - 1 = m by omega] at hge
  have hP : 0 < W32 ^ m := Nat.pow_pos (by decide)
  have e2 : W32 ^ (m + 1) = W32 ^ m * 4294967296 := Nat.pow_succ _ _
  have etop : (dg W32 x m).toNat = x / W32 ^ m := by
    unfold dg
    rw [Int.toNat_natCast, Nat.mod_eq_of_lt]
    exact Nat.div_lt_of_lt_mul (by rw [e2] at hlt; exact hlt)
  rw [etop]
  have hdm := Nat.div_add_mod x (W32 ^ m)
  have hml := Nat.mod_lt x hP
  have ht1 : 1 ≤ x / W32 ^ m := (Nat.le_div_iff_mul_le hP).2 (by omega)
  have ht2 : x / W32 ^ m < 4294967296 := Nat.div_lt_of_lt_mul (by rw [e2] at hlt; exact hlt)
  generalize x / W32 ^ m = t at *
  generalize x % W32 ^ m = r at *
  obtain ⟨b1, b2, b3⟩ := bitLen_pow t (by omega) (by omega)
  have b4 : Lib.bitLen t ≤ 32 := Lib.bitLen_le t 32 (by omega) (by omega)
  generalize Lib.bitLen t = L at *
  have eP : W32 ^ m = 2 ^ (32 * m) := by rw [Nat.pow_mul]
  have p1 : 2 ^ (32 * m + L - 1) = 2 ^ (32 * m) * 2 ^ (L - 1) := by rw [← Nat.pow_add]; congr 1; omega
  have p2 : 2 ^ (32 * m + L) = 2 ^ (32 * m) * 2 ^ L := Nat.pow_add _ _ _
  rw [p1, p2, ← eP]
  clear p1 p2 eP
  generalize W32 ^ m = P at *
  have h1 : P * 2 ^ (L - 1) ≤ P * t := Nat.mul_le_mul_left _ b1
  have h2 : P * (t + 1) ≤ P * 2 ^ L := Nat.mul_le_mul_left _ b2
  rw [Nat.mul_add, Nat.mul_one] at h2
  exact ⟨by omega, by omega, b3, b4⟩

/-- One bit of a limb is one bit of the number. -/
theorem bit_of (y s : Nat) (hs : s < 32) : y % 4294967296 / 2 ^ s % 2 = y / 2 ^ s % 2 := by
  have hp : 0 < 2 ^ s := Nat.two_pow_pos s
  have e : 4294967296 = 2 ^ s * 2 ^ (32 - s) := by rw [← Nat.pow_add, show s + (32 - s) = 32 by omega]
  have e2 : 2 ^ (32 - s) = 2 * 2 ^ (31 - s) := by rw [Nat.mul_comm, ← Nat.pow_succ]; congr 1; omega
  have h1 := Nat.div_add_mod y 4294967296
  have h2 : y = 2 ^ s * (2 * (2 ^ (31 - s) * (y / 4294967296))) + y % 4294967296 := by
    rw [← Nat.mul_assoc 2, ← e2, ← Nat.mul_assoc, ← e]; omega
  generalize y % 4294967296 = r at *
  generalize 2 ^ (31 - s) * (y / 4294967296) = z at *
  rw [h2, Nat.mul_add_div hp, Nat.mul_add_mod]
theorem bit_num (x i : Nat) : (dg W32 x (i / 32)).toNat / 2 ^ (i % 32) % 2 = x / 2 ^ i % 2 := by
  unfold dg
  rw [Int.toNat_natCast, show (W32 : Nat) = 4294967296 from rfl, bit_of _ _ (Nat.mod_lt _ (by omega)), Nat.div_div_eq_div_mul]
  have e : 4294967296 ^ (i / 32) * 2 ^ (i % 32) = 2 ^ i := by
    have : (4294967296 : Nat) = 2 ^ 32 := rfl
    rw [this, ← Nat.pow_mul, ← Nat.pow_add, Nat.div_add_mod]
  rw [e]

set_option maxRecDepth 20000 in
set_option maxHeartbeats 400000 in
theorem limb_far (v : Value) (n : Nat) (f : Nat → Int) (w : World) (i : Nat) (h : Nums .u64 w v n f) (h1 : i ≤ 9223372036854775807) :
    Calls Tryd.prog 65 #[v, .int .i64 (i : Int)] w fun e w' => e = .returned (.int .u64 (at0 f n i)) ∧ w' = w := by
  obtain ⟨ao, c, rfl, _, hl, h4⟩ := h
  unfold LIM at hl
  by_cases hi : i < n
  · obtain ⟨b, off, rfl, hc⟩ := h4 (by omega)
    have hcell := hc i hi
    go_enter Tryd.func65, Tryd.ntmps65
    go_wp2
    go_ret
    exact ⟨by simp [at0, hi], rfl⟩
  · go_enter Tryd.func65, Tryd.ntmps65
    go_wp2
    go_ret
    exact ⟨by simp [at0, hi], rfl⟩

end Go.Proofs.YthhabammejkjcaaDoor
