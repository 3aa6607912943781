/-
  Texts of mine, joined: what lies beneath the statement.
-/
import Derived.Test.YtgddiimnpliolaaDoorJe950d5ff60
import Derived.Lib.Bytealg
import Derived.Lib.IndexLaws
import Derived.Deep.Cut
namespace Go.Proofs.YtgddiimnpliolaaDoor
open Go.RowKit
set_option linter.unusedVariables false
set_option linter.unusedSimpArgs false
def firstAt (s : ByteArray) (c : Nat) : Int := Lib.indexByte s.data.toList c.toUInt8
theorem firstAt_one (c : Nat) (s : ByteArray) (h : [c.toUInt8] = s.toList) : firstAt s c = 0 := by
  rw [Lib.toList_data] at h; unfold firstAt; rw [← h]; simp [Lib.indexByte]
theorem firstAt_lt (s : ByteArray) (c i : Nat) (h : firstAt s c = (i : Int)) : i < s.size := by
  have h1 := (Lib.indexByte_some h).1
  have h2 := (List.getElem?_eq_some_iff.1 h1).1
  simpa using h2
theorem firstAt_cases (s : ByteArray) (c : Nat) : firstAt s c = -1 ∨ ∃ i : Nat, firstAt s c = (i : Int) := by
  have h := Lib.indexByte_ge s.data.toList c.toUInt8
  by_cases g : firstAt s c = -1
  · exact .inl g
  · exact .inr ⟨(firstAt s c).toNat, by unfold firstAt at *; omega⟩
def errN (s : ByteArray) : Int := if digitsB s = true then 0 else 4
def nval (s : ByteArray) : Nat := if digitsB s = true then dval s s.size else 0
theorem nval_nl (s : ByteArray) : nl W32 (nval s) ≤ s.size + 1 := by
  unfold nval
  split
  · rename_i h
    simp only [digitsB, decide_eq_true_eq] at h
    exact Nat.le_trans (nl_mono W32 _ _ (by decide) (Nat.le_of_lt (dval_lt s s.size h.2))) (nl_ten s.size (s.size + 1) (by omega))
  · rw [nl_zero]; omega
def twoErr (s t : ByteArray) : Int := if errN s = 0 then errN t else errN s
def ppOf (s : ByteArray) : Int × Nat × Nat :=
  if 0 ≤ firstAt s 47 then (twoErr (s.extract 0 (firstAt s 47).toNat) (s.extract ((firstAt s 47).toNat + 1) s.size), nval (s.extract 0 (firstAt s 47).toNat), nval (s.extract ((firstAt s 47).toNat + 1) s.size))
  else if 0 ≤ firstAt s 46 then (twoErr (s.extract 0 (firstAt s 46).toNat) (s.extract ((firstAt s 46).toNat + 1) s.size), nval (s.extract 0 (firstAt s 46).toNat) * 10 ^ (s.extract ((firstAt s 46).toNat + 1) s.size).size + nval (s.extract ((firstAt s 46).toNat + 1) s.size), 10 ^ (s.extract ((firstAt s 46).toNat + 1) s.size).size)
  else (errN s, nval s, 1)
theorem ext_le (s : ByteArray) (i j : Nat) : (s.extract i j).size ≤ s.size := by rw [ByteArray.size_extract]; omega
theorem pp_nl (s : ByteArray) (hs : s.size ≤ 9000) : nl W32 (ppOf s).2.1 ≤ 20000 ∧ nl W32 (ppOf s).2.2 ≤ 20000 := by
  have key : ∀ A C : ByteArray, A.size ≤ 9000 → C.size ≤ 9000 → nl W32 (nval A) ≤ 20000 ∧ nl W32 (nval C) ≤ 20000 ∧ nl W32 (nval A * 10 ^ C.size + nval C) ≤ 20000 ∧ nl W32 (10 ^ C.size) ≤ 20000 := fun A C h1 h2 => by
    have n1 := nval_nl A
    have n2 := nval_nl C
    have n3 := nl_ten C.size (C.size + 1) (by omega)
    have n4 := nln_mul n1 n3
    have n5 := nlz_add (x := ((nval A * 10 ^ C.size : Nat) : Int)) (y := ((nval C : Nat) : Int)) (c := A.size + 1 + (C.size + 1) + 1) (by rw [Int.natAbs_natCast]; exact n4) (by rw [Int.natAbs_natCast]; exact n2) (by omega) (by omega)
    rw [← Int.natCast_add, Int.natAbs_natCast] at n5
    exact ⟨by omega, by omega, by omega, by omega⟩
  unfold ppOf
  have e1 := ext_le s 0 (firstAt s 47).toNat
  have e2 := ext_le s ((firstAt s 47).toNat + 1) s.size
  have e3 := ext_le s 0 (firstAt s 46).toNat
  have e4 := ext_le s ((firstAt s 46).toNat + 1) s.size
  split
  · have := key _ _ (Nat.le_trans e1 hs) (Nat.le_trans e2 hs); exact ⟨this.1, this.2.1⟩
  · split
    · have := key _ _ (Nat.le_trans e3 hs) (Nat.le_trans e4 hs); exact ⟨this.2.2.1, this.2.2.2⟩
    · have := key _ _ hs hs; exact ⟨this.1, Nat.le_trans nlw_one (by omega)⟩
def qerr (s : ByteArray) : Int := if (ppOf (pdig s)).1 = 0 then (if (ppOf (pdig s)).2.2 = 0 then 2 else 0) else (ppOf (pdig s)).1
def qval (s : ByteArray) : Rat := mkRat (zof (pneg s) (ppOf (pdig s)).2.1) (ppOf (pdig s)).2.2
theorem two_err (s t : ByteArray) : twoErr s t = 0 ∨ twoErr s t = 4 := by
  unfold twoErr errN; repeat split
  all_goals simp
theorem pp_err (s : ByteArray) : (ppOf s).1 = 0 ∨ (ppOf s).1 = 4 := by
  unfold ppOf
  split
  · exact two_err _ _
  · split
    · exact two_err _ _
    · unfold errN; split <;> simp

theorem mkRat_scale (z : Int) (x t : Nat) : mkRat (z * (t : Int)) x = mkRat z x * (t : Rat) := by
  rw [Rat.mkRat_eq_div, Rat.mkRat_eq_div, Rat.intCast_mul, Rat.intCast_natCast, Rat.div_def, Rat.div_def, Rat.mul_assoc, Rat.mul_assoc, Rat.mul_comm (t : Rat)]
theorem round_eighth (q : Rat) (h : q = (1 : Rat) / 8) : roundQ (q * ((100 : Nat) : Rat)) = 12 := by rw [h]; decide +kernel
theorem dec_bytes : (({ data := #[48] } ++ { data := #[49, 50] } : ByteArray).extract 0 1 ++ { data := #[46] } ++ ({ data := #[48] } ++ { data := #[49, 50] } : ByteArray).extract 1 3) = { data := #[48, 46, 49, 50] } := by decide +kernel
theorem txt_12 : txt 12 = { data := #[49, 50] } := by
  have e : ndec 12 = 2 := by unfold ndec; rw [nl_spec 10 _ 2 (by decide) (by decide)]; decide +kernel
  unfold txt; rw [e]; decide +kernel
end Go.Proofs.YtgddiimnpliolaaDoor
