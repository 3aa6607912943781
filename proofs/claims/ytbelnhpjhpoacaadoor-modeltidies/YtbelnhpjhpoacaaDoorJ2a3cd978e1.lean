/-
  Texts of mine.
-/
import Derived.Test.YtbelnhpjhpoacaaDoorJaafab003f3
import Derived.Test.YtbelnhpjhpoacaaDoorJ8180152aff
import Derived.Test.YtbelnhpjhpoacaaDoorJ27cbe186c9
namespace Go.Proofs.YtbelnhpjhpoacaaDoor
open Go.RowKit
set_option linter.unusedVariables false

/-- The value v is the whole number z, to the base 10000. -/
def RepJ (w : World) (v : Value) (z : Int) : Prop :=
  ∃ ao c, v = .agg #[.bool (decide (z < 0)), .slice ao (nl 10000 z.natAbs) c] ∧ RepD w (.slice ao (nl 10000 z.natAbs) c) z.natAbs
theorem RepJ.below {w w' : World} {v : Value} {z : Int} (h : RepJ w v z) (hb : Below w.heap.size w w') : RepJ w' v z := by
  obtain ⟨ao, c, h1, h2⟩ := h
  exact ⟨ao, c, h1, Nums.below h2 hb⟩
theorem RepJ.open {w : World} {v : Value} {z : Int} (h : RepJ w v z) : ∃ b ao n c, v = .agg #[.bool b, .slice ao n c] := by
  obtain ⟨ao, c, h1, _⟩ := h
  exact ⟨_, _, _, _, h1⟩
theorem RepJ.mk {w : World} {s : Value} {m : Nat} (neg : Bool) (hs : RepD w s m) : RepJ w (.agg #[.bool (neg && !decide (m = 0)), s]) (zof neg m) := by
  obtain ⟨ao, c, rfl, h2⟩ := hs
  refine ⟨ao, c, ?_, ?_⟩
  · rw [zof_abs, zof_neg]
  · rw [zof_abs]; exact ⟨ao, c, rfl, h2⟩
theorem RepJ.nil (w : World) : RepJ w (.agg #[.bool false, .slice none 0 0]) 0 :=
  ⟨none, 0, by simp [nl_zero], by show RepD w (.slice none (nl 10000 0) 0) 0; rw [nl_zero]; unfold RepD; rw [nl_zero]; exact Nums.nil _ _ _⟩
theorem RepJ.store2 {w : World} {v : Value} {z : Int} (h : RepJ w v z) {R m c : Nat} {p : Bool} {ao : Option Addr} (q1 : w.cell? ⟨R, 0, none⟩ = some (.bool p)) (q2 : w.cell? ⟨R, 1, none⟩ = some (.slice ao m c)) (x y : Value) :
    RepJ ((w.setCell ⟨R, 0, none⟩ x).setCell ⟨R, 1, none⟩ y) v z := by
  obtain ⟨ao, c, h1, h2⟩ := h
  exact ⟨ao, c, h1, Nums.store2 h2 q1 q2 x y⟩

end Go.Proofs.YtbelnhpjhpoacaaDoor

namespace Go.Proofs.YtbelnhpjhpoacaaDoor
open Go.RowKit

theorem dd_ref (x i k : Nat) (hk : k < 4) : 48 + ((x / 10000 ^ i % 10000 / 10 ^ k % 10 : Nat) : Int) = dd x (4 * i + k) := by
  unfold dd
  have e1 : (10000 : Nat) ^ i = 10 ^ (4 * i) := by rw [Nat.pow_mul]
  have e2 : (10000 : Nat) = 10 ^ k * 10 ^ (4 - k) := by rw [← Nat.pow_add, show k + (4 - k) = 4 by omega]
  have e3 : x / 10000 ^ i % 10000 / 10 ^ k % 10 = x / 10 ^ (4 * i + k) % 10 := by
    rw [e1, Nat.pow_add, ← Nat.div_div_eq_div_mul]
    generalize x / 10 ^ (4 * i) = y
    have h1 : y % 10000 / 10 ^ k = y / 10 ^ k % 10 ^ (4 - k) := by
      have := Nat.mod_mul_right_div_self y (10 ^ k) (10 ^ (4 - k))
      rw [← e2] at this; exact this
    rw [h1]
    exact Nat.mod_mod_of_dvd _ (by
      refine ⟨10 ^ (4 - k - 1), ?_⟩
      rw [Nat.mul_comm, ← Nat.pow_succ]; congr 1; omega)
  rw [e3]

theorem txt_zero : txt 0 = { data := #[48] } := by
  have h : ndec 0 = 1 := by unfold ndec; rw [if_pos (nl_zero 10)]
  unfold txt
  rw [h]
  rfl

end Go.Proofs.YtbelnhpjhpoacaaDoor

namespace Go.Proofs.YtbelnhpjhpoacaaDoor
open Go.RowKit
set_option linter.unusedVariables false

/-- Does a minus stand ahead? -/
def pneg (s : ByteArray) : Bool := decide (0 < s.size) && (s.data.toList.getD 0 0 == 45)
/-- What stands behind it. -/
def pdig (s : ByteArray) : ByteArray := if pneg s = true then s.extract 1 s.size else s
theorem pdig_pos {s : ByteArray} (h : pneg s = true) : pdig s = s.extract 1 s.size := by unfold pdig; rw [if_pos h]
theorem pdig_neg {s : ByteArray} (h : pneg s = false) : pdig s = s := by unfold pdig; rw [h]; rfl
theorem pdig_size (s : ByteArray) : (pdig s).size ≤ s.size := by
  unfold pdig; split
  · rw [ByteArray.size_extract]; omega
  · omega
theorem first_byte (s : ByteArray) (h : 0 < s.size) : (s.extract 0 1).toList = [s[0]] := by
  rw [Lib.toList_data, ByteArray.data_extract]
  rw [Array.toList_extract]
  have hl : 0 < s.data.toList.length := by simpa using h
  match hs : s.data.toList, hl with
  | a :: l, _ =>
    have : s[0] = a := by
      have := byte_at s 0 h
      rw [hs] at this; simpa using this.symm
    simp [this]

theorem pneg_size {s : ByteArray} (h : pneg s = true) : 0 < s.size := by
  unfold pneg at h; rw [Bool.and_eq_true, decide_eq_true_eq] at h; exact h.1

theorem pdig_yes (s : ByteArray) (h0 : 0 < s.size) (h : s[0] = 45) : pneg s = true := by
  unfold pneg; rw [decide_eq_true h0, byte_at s 0 h0, h]; rfl
theorem pdig_no (s : ByteArray) (h0 : 0 < s.size) (h : ¬ s[0] = 45) : pneg s = false := by
  unfold pneg; rw [decide_eq_true h0, byte_at s 0 h0]; simp [h]
theorem u8_eq (a : UInt8) : ((a.toNat : Int) == 45) = (a == 45) := by
  rw [Bool.eq_iff_iff]; simp
  constructor
  · intro h; apply UInt8.toNat.inj; simpa using (by omega : a.toNat = 45)
  · intro h; rw [h]; rfl

end Go.Proofs.YtbelnhpjhpoacaaDoor
