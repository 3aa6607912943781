/-
  Texts of mine.
-/
import Derived.Test.YthkamfddbiheoaaGreatDoorJc8c39ed620
import Derived.Lib.Walk
import Derived.Lib.BitFns
namespace Go.Proofs.YthkamfddbiheoaaGreatDoor
open Go.RowKit

theorem len8tab_size : (Lib.len8tab.size : Int) = 256 := by
 have : Lib.len8tab.size = 256 := by decide +kernel
 omega
theorem len8_get (y : Int) (h : y.toNat < Lib.len8tab.size) : ((Lib.len8tab[y.toNat]'h).toNat : Int) = Lib.len8 y := by
 unfold Lib.len8
 rw [getElem?_pos Lib.len8tab y.toNat h]; rfl

theorem len_case (x y : Int) (k m : Nat) (h0 : 0 ≤ y) (h1 : y < 256) (hm : y.toNat = m) (hs : Lib.bitLen x.toNat = k + Lib.bitLen m) {h : y.toNat < Lib.len8tab.size} (hk : k ≤ 100 := by omega) :
  wrap64 ((k : Int) + wrap64 (((Lib.len8tab[y.toNat]'h).toNat : Nat) : Int)) = (Lib.bitLen x.toNat : Int) := by
 rw [len8_get, Lib.len8_of y h0 (by omega), hs, hm]
 have l := Lib.bitLen_le8' y h0 (by omega)
 rw [hm] at l
 have e1 : wrap64 ((Lib.bitLen m : Nat) : Int) = (Lib.bitLen m : Int) := IntWalk.wrap64_in _ ⟨by omega, by omega⟩
 rw [e1, IntWalk.wrap64_in _ ⟨by omega, by omega⟩]; omega

set_option maxRecDepth 20000 in
set_option maxHeartbeats 4000000 in
set_option maxRecDepth 100000 in
theorem len32_any (x : Int) (w : World) (h0 : 0 ≤ x) (h1 : x ≤ 4294967295) :
  Calls Tryz.prog 195 #[.int .u32 x] w fun e w' => e = .returned (.int .i64 (Lib.bitLen x.toNat)) ∧ w' = w := by
 have hs := len8tab_size
 go_enter Tryz.func195, Tryz.ntmps195
 go_wp2
 all_goals (go_ret; refine ⟨congrArg Ending.returned (congrArg (Value.int IntKind.i64) ?_), rfl⟩)
 ·exact len_case x (x / 65536 / 256) 24 (x.toNat / 16777216) (by omega) (by omega) (by omega) (Lib.bitLen_shift24 x.toNat (by omega) (by omega))
 ·exact len_case x (x / 65536) 16 (x.toNat / 65536) (by omega) (by omega) (by omega) (Lib.bitLen_shift16 x.toNat (by omega) (by omega))
 ·exact len_case x (x / 256) 8 (x.toNat / 256) (by omega) (by omega) (by omega) (Lib.bitLen_shift8 x.toNat (by omega) (by omega))
 ·have := len_case x x 0 x.toNat (by omega) (by omega) rfl (by omega) (h := by omega)
  rw [Int.natCast_zero, Int.zero_add] at this
  exact this

set_option maxRecDepth 20000 in
set_option maxHeartbeats 400000 in
theorem lead32_any (x : Int) (w : World) (h0 : 0 ≤ x) (h1 : x ≤ 4294967295) :
  Calls Tryz.prog 163 #[.int .u32 x] w fun e w' => e = .returned (.int .i64 (32 - (Lib.bitLen x.toNat : Int))) ∧ w' = w := by
 have hb := Lib.bitLen_le x.toNat 32 (by omega) (by omega)
 go_enter Tryz.func163, Tryz.ntmps163
 go_wp2_with (go_at_call 195; refine (len32_any _ _ h0 h1).mono ?_; rintro e w' ⟨rfl, rfl⟩)
 go_ret
 exact ⟨rfl, rfl⟩

/-- A number that is not 0 lies between two powers of two. -/
theorem bitLen_lo : ∀ (f x : Nat), x ≠ 0 → x < 2 ^ f → 2 ^ (Lib.bitLenAux f x - 1) ≤ x ∧ x < 2 ^ Lib.bitLenAux f x ∧ 0 < Lib.bitLenAux f x
 | 0, x, h, hx => by simp at hx; omega
 | f + 1, x, h, hx => by
  unfold Lib.bitLenAux
  rw [if_neg h]
  by_cases h2 : x / 2 = 0
  ·rw [h2]
   have e : Lib.bitLenAux f 0 = 0 := by cases f <;> simp [Lib.bitLenAux]
   rw [e]; simp; omega
  ·have hx2 : x / 2 < 2 ^ f := by rw [Nat.pow_succ] at hx; omega
   obtain ⟨a, b, c⟩ := bitLen_lo f (x / 2) h2 hx2
   have e : 2 ^ (1 + Lib.bitLenAux f (x / 2) - 1) = 2 ^ (Lib.bitLenAux f (x / 2) - 1) * 2 := by rw [← Nat.pow_succ]; congr 1; omega
   have e2 : 2 ^ (1 + Lib.bitLenAux f (x / 2)) = 2 ^ Lib.bitLenAux f (x / 2) * 2 := by rw [Nat.add_comm, Nat.pow_succ]
   rw [e, e2]; omega
theorem bitLen_pow (x : Nat) (h : x ≠ 0) (hx : x < 18446744073709551616) : 2 ^ (Lib.bitLen x - 1) ≤ x ∧ x < 2 ^ Lib.bitLen x ∧ 0 < Lib.bitLen x := bitLen_lo 64 x h (by omega)

end Go.Proofs.YthkamfddbiheoaaGreatDoor
