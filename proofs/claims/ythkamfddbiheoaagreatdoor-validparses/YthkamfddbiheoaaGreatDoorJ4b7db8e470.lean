/-
  Texts of mine.
-/
import Derived.Test.YthkamfddbiheoaaGreatDoorJf527f16646
import Derived.Test.YthkamfddbiheoaaGreatDoorChecked
import Derived.Lib.Strings
import Derived.WalkSmall
namespace Go.Proofs.YthkamfddbiheoaaGreatDoor
open Go.RowKit
set_option linter.unusedVariables false
set_option linter.unusedSimpArgs false

theorem inW_yes {c : Nat} (h1 : 32 < c) (h2 : c ≤ 126) (h3 : ¬ c = 35) : inW c = true := by simp [inW]; omega
theorem inW_low {c : Nat} (h1 : ¬ 32 < c) : inW c = false := by simp [inW]; omega
theorem inW_high {c : Nat} (h2 : ¬ c ≤ 126) : inW c = false := by simp [inW]; omega
theorem inW_hash {c : Nat} (h2 : c = 35) : inW c = false := by simp [inW]; omega
set_option maxRecDepth 20000 in
set_option maxHeartbeats 1000000 in
theorem linw_at (c : Nat) (w : World) :
  Calls Tryz.prog 114 #[.int .u8 (c : Int)] w fun e w' => e = .returned (.bool (inW c)) ∧ w' = w := by
 by_cases h1 : 32 < c
 ·have i1 : (32 : Int) < (c : Int) := by omega
  by_cases h2 : c ≤ 126
  ·have i2 : (c : Int) ≤ 126 := by omega
   by_cases h3 : c = 35
   ·rw [inW_hash h3]
    subst h3
    go_enter Tryz.func114, Tryz.ntmps114
    go_wp2
    go_ret
    exact ⟨rfl, rfl⟩
   ·rw [inW_yes h1 h2 h3]
    have i3 : ((c : Int) != 35) = true := by simp; omega
    have i4 : ¬ (c : Int) = 35 := by omega
    go_enter Tryz.func114, Tryz.ntmps114
    go_wp2
    go_ret
    exact ⟨rfl, rfl⟩
  ·rw [inW_high h2]
   have i2 : ¬ (c : Int) ≤ 126 := by omega
   have i5 : decide ((c : Int) ≤ 126) = false := by simp; omega
   go_enter Tryz.func114, Tryz.ntmps114
   go_wp2
   go_ret
   exact ⟨rfl, rfl⟩
 ·rw [inW_low h1]
  have i1 : ¬ (32 : Int) < (c : Int) := by omega
  have i5 : decide ((32 : Int) < (c : Int)) = false := by simp; omega
  go_enter Tryz.func114, Tryz.ntmps114
  go_wp2
  go_ret
  exact ⟨rfl, rfl⟩

theorem blk_no {c : Nat} (h1 : ¬ c = 32) (h2 : ¬ c = 9) (h3 : ¬ c = 13) : blk c = false := by simp [blk]; omega
set_option maxRecDepth 20000 in
set_option maxHeartbeats 1000000 in
theorem blank_at (c : Nat) (w : World) :
  Calls Tryz.prog 113 #[.int .u8 (c : Int)] w fun e w' => e = .returned (.bool (blk c)) ∧ w' = w := by
 by_cases h1 : c = 32
 ·subst h1
  go_enter Tryz.func113, Tryz.ntmps113
  go_wp2
  go_ret
  exact ⟨rfl, rfl⟩
 ·have i1 : ((c : Int) == 32) = false := by simp; omega
  by_cases h2 : c = 9
  ·subst h2
   go_enter Tryz.func113, Tryz.ntmps113
   go_wp2
   go_ret
   exact ⟨rfl, rfl⟩
  ·have i2 : ((c : Int) == 9) = false := by simp; omega
   by_cases h3 : c = 13
   ·subst h3
    go_enter Tryz.func113, Tryz.ntmps113
    go_wp2
    go_ret
    exact ⟨rfl, rfl⟩
   ·have i3 : ((c : Int) == 13) = false := by simp; omega
    rw [blk_no h1 h2 h3]
    go_enter Tryz.func113, Tryz.ntmps113
    go_wp2
    go_ret
    exact ⟨rfl, rfl⟩

set_option maxRecDepth 20000 in
set_option maxHeartbeats 1000000 in
theorem wordEnd_at (s : ByteArray) (i : Nat) (w : World) (hi : i ≤ s.size) (hs : s.size ≤ 2000000) :
  Calls Tryz.prog 115 #[.string s, .int .i64 (i : Int)] w fun e w' => e = .returned (.int .i64 (wEnd s i : Int)) ∧ w' = w := by
 go_enter Tryz.func115, Tryz.ntmps115
 go_wp2
 go_loop [1] (fun t => ∃ k : Nat, k ≤ s.size ∧ t = .int .i64 (k : Int) ∧ Hid (wEnd s i = wEnd s k)) (fun t => s.size - (intOf t).toNat)
 case atStart => exact ⟨i, hi, rfl, rfl⟩
 case round =>
  obtain ⟨k, hk, rfl, HK⟩ := hrel
  by_cases hlt : k < s.size
  ·have hb := bt_at s k hlt
   have hlti : (k : Int) < (s.size : Int) := by omega
   by_cases hw : inW (bt s k) = true
   ·have HW : Hid (wEnd s k = wEnd s (k + 1)) := wEnd_in hlt hw
    rw [hb] at hw
    clear hb
    go_wp2_with (go_at_call 114; refine (linw_at _ _).mono ?_; rintro e w' ⟨rfl, rfl⟩; rw [hw])
    go_round
    case rel => exact ⟨k + 1, by omega, by go_num, HK.out.trans HW.out⟩
    case measure => simp [intOf]; omega
   ·have HW : Hid (wEnd s k = k) := wEnd_out (fun h => hw h.2)
    rw [hb] at hw
    have hw' : inW (s[k]).toNat = false := by simpa using hw
    clear hb hw
    go_wp2_with (go_at_call 114; refine (linw_at _ _).mono ?_; rintro e w' ⟨rfl, rfl⟩; rw [hw'])
    go_ret
    exact ⟨ret_int (by rw [HK.out, HW.out]), rfl⟩
  ·have HW : Hid (wEnd s k = k) := wEnd_out (fun h => hlt h.1)
   have hlti : ¬ (k : Int) < (s.size : Int) := by omega
   have hltb : decide ((k : Int) < (s.size : Int)) = false := by simp; omega
   have hltc : decide (k < s.size) = false := by simp; omega
   go_wp2
   go_ret
   exact ⟨ret_int (by rw [HK.out, HW.out]), rfl⟩

end Go.Proofs.YthkamfddbiheoaaGreatDoor
