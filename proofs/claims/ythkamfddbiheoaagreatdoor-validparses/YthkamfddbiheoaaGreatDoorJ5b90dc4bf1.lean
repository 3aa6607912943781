/-
  Texts of mine.
-/
import Derived.Test.YthkamfddbiheoaaGreatDoorJ01b28f7a7d
import Derived.Test.YthkamfddbiheoaaGreatDoorJf5fdd71e97
import Derived.Test.YthkamfddbiheoaaGreatDoorJeefed49211
namespace Go.Proofs.YthkamfddbiheoaaGreatDoor
open Go.RowKit
set_option linter.unusedVariables false

/-- The value v is the whole number z, to the base 10000. -/
def RepJ (w : World) (v : Value) (z : Int) : Prop :=
 ∃ ao c, v = .agg #[.bool (decide (z < 0)), .slice ao (nl 10000 z.natAbs) c] ∧ RepD w (.slice ao (nl 10000 z.natAbs) c) z.natAbs
theorem RepJ.below {w w' : World} {v : Value} {z : Int} (h : RepJ w v z) (hb : Below w.heap.size w w') : RepJ w' v z := by
 obtain ⟨ao, c, h1, h2⟩ := h
 exact ⟨ao, c, h1, Nums.below h2 hb⟩
theorem RepJ.open {w : World} {v : Value} {z : Int} (h : RepJ w v z) : ∃ b ao n c, v = .agg #[.bool b, .slice ao n c] := by
 obtain ⟨ao, c, h1, _⟩ := h
 exact ⟨_, _, _, _, h1⟩
theorem RepJ.mk {w : World} {s : Value} {m : Nat} (neg : Bool) (hs : RepD w s m) : RepJ w (.agg #[.bool (neg && !decide (m = 0)), s]) (zof neg m) := by
 obtain ⟨ao, c, rfl, h2⟩ := hs
 refine ⟨ao, c, ?_, ?_⟩
 ·rw [zof_abs, zof_neg]
 ·rw [zof_abs]; exact ⟨ao, c, rfl, h2⟩
theorem RepJ.nil (w : World) : RepJ w (.agg #[.bool false, .slice none 0 0]) 0 :=
 ⟨none, 0, by simp [nl_zero], by show RepD w (.slice none (nl 10000 0) 0) 0; rw [nl_zero]; unfold RepD; rw [nl_zero]; exact Nums.nil _ _ _⟩
theorem RepJ.store2 {w : World} {v : Value} {z : Int} (h : RepJ w v z) {R m c : Nat} {p : Bool} {ao : Option Addr} (q1 : w.cell? ⟨R, 0, none⟩ = some (.bool p)) (q2 : w.cell? ⟨R, 1, none⟩ = some (.slice ao m c)) (x y : Value) :
  RepJ ((w.setCell ⟨R, 0, none⟩ x).setCell ⟨R, 1, none⟩ y) v z := by
 obtain ⟨ao, c, h1, h2⟩ := h
 exact ⟨ao, c, h1, Nums.store2 h2 q1 q2 x y⟩

end Go.Proofs.YthkamfddbiheoaaGreatDoor

namespace Go.Proofs.YthkamfddbiheoaaGreatDoor
open Go.RowKit

end Go.Proofs.YthkamfddbiheoaaGreatDoor

namespace Go.Proofs.YthkamfddbiheoaaGreatDoor
open Go.RowKit
set_option linter.unusedVariables false

/-- Does a minus stand ahead? -/
def pneg (s : ByteArray) : Bool := decide (0 < s.size) && (s.data.toList.getD 0 0 == 45)
/-- What stands behind it. -/
def pdig (s : ByteArray) : ByteArray := if pneg s = true then s.extract 1 s.size else s
theorem pdig_pos {s : ByteArray} (h : pneg s = true) : pdig s = s.extract 1 s.size := by unfold pdig; rw [if_pos h]
theorem pdig_neg {s : ByteArray} (h : pneg s = false) : pdig s = s := by unfold pdig; rw [h]; rfl
theorem pdig_size (s : ByteArray) : (pdig s).size ≤ s.size := by
 unfold pdig; split
 ·rw [ByteArray.size_extract]; omega
 ·omega
theorem first_byte (s : ByteArray) (h : 0 < s.size) : (s.extract 0 1).toList = [s[0]] := by
 rw [Lib.toList_data, ByteArray.data_extract]
 rw [Array.toList_extract]
 have hl : 0 < s.data.toList.length := by simpa using h
 match hs : s.data.toList, hl with
 | a :: l, _ =>
  have : s[0] = a := by
   have := byte_at s 0 h
   rw [hs] at this; simpa using this.symm
  simp [this]

set_option maxRecDepth 20000 in
set_option maxHeartbeats 1000000 in
theorem hasPrefix_any (s : ByteArray) (w : World) : Calls Tryz.prog 179 #[.string s, .string { data := #[45] }] w fun e w' => e = .returned (.bool (pneg s)) ∧ w' = w := by
 by_cases h0 : 0 < s.size
 ·have hb := first_byte s h0
  have hc : (1 : Int) ≤ (s.size : Int) := by omega
  have hc2 : 1 ≤ s.size := h0
  go_enter Tryz.func179, Tryz.ntmps179
  go_wp2
  go_ret
  exact ⟨ret_bool (by unfold pneg; rw [decide_eq_true h0, byte_at s 0 h0]; rfl), rfl⟩
 ·have hc : ¬ (1 : Int) ≤ (s.size : Int) := by omega
  go_enter Tryz.func179, Tryz.ntmps179
  go_wp2
  go_ret
  exact ⟨ret_bool (by unfold pneg; rw [decide_eq_false h0]; rfl), rfl⟩

theorem pneg_size {s : ByteArray} (h : pneg s = true) : 0 < s.size := by
 unfold pneg at h; rw [Bool.and_eq_true, decide_eq_true_eq] at h; exact h.1

set_option maxRecDepth 20000 in
set_option maxHeartbeats 1000000 in
theorem cutLite_any (s : ByteArray) (w : World) : Calls Tryz.prog 136 #[.string s, .string { data := #[45] }] w fun e w' => e = .returned (.tuple #[.string (pdig s), .bool (pneg s)]) ∧ w' = w := by
 cases h : pneg s with
 | true =>
  have h1 := pneg_size h
  have hc : (1 : Int) ≤ (s.size : Int) := by omega
  rw [pdig_pos h]
  go_enter Tryz.func136, Tryz.ntmps136
  go_wp2_with fail
  refine (hasPrefix_any s _).mono ?_
  rintro e w1 ⟨rfl, hw⟩
  subst hw
  rw [h]
  go_wp2
  go_ret2
  exact ⟨rfl, rfl⟩
 | false =>
  rw [pdig_neg h]
  go_enter Tryz.func136, Tryz.ntmps136
  go_wp2_with fail
  refine (hasPrefix_any s _).mono ?_
  rintro e w1 ⟨rfl, hw⟩
  subst hw
  rw [h]
  go_wp2
  go_ret2
  exact ⟨rfl, rfl⟩

set_option maxRecDepth 20000 in
set_option maxHeartbeats 1000000 in
theorem cutPrefix_any (s : ByteArray) (w : World) : Calls Tryz.prog 88 #[.string s, .string { data := #[45] }] w fun e w' => e = .returned (.tuple #[.string (pdig s), .bool (pneg s)]) ∧ w' = w := by
 go_enter Tryz.func88, Tryz.ntmps88
 go_wp2_with fail
 refine (cutLite_any s _).mono ?_
 rintro e w1 ⟨rfl, hw⟩
 subst hw
 go_wp2
 go_ret2
 exact ⟨rfl, rfl⟩

end Go.Proofs.YthkamfddbiheoaaGreatDoor
