/-
  Texts of mine.
-/
import Derived.Test.YtbelnhpjhpoacaaDoorJ2a3cd978e1
import Derived.Test.YtbelnhpjhpoacaaDoorJc6f1048f80
namespace Go.Proofs.YtbelnhpjhpoacaaDoor
open Go.RowKit
set_option linter.unusedVariables false

theorem rightB_rep (m : Nat) : rightB (dg W32 m) (nl W32 m) = true := by
  simp only [rightB, decide_eq_true_eq]
  exact ⟨fun i _ => by have := dg_bounds W32 m i (by decide); unfold W32 at this ⊢; omega, fun h0 => nl_top W32 m h0⟩
theorem nl10_le (x n : Nat) (h : nl W32 x ≤ n) : nl 10000 x ≤ 3 * n := nl_small x n (Nat.lt_of_lt_of_le (lt_pow_nl W32 x (by decide)) (Nat.pow_le_pow_right (by decide) h))
theorem ztxt_q : (ztxt (-4)).toList = [45, 52] := by
  have e : ndec 4 = 1 := by unfold ndec; rw [nl_spec 10 _ 1 (by decide) (by decide)]; decide +kernel
  rw [Lib.toList_data]
  show (({ data := #[45] } : ByteArray) ++ txt 4).data.toList = _
  rw [ByteArray.data_append, Array.toList_append]
  unfold txt; rw [e, strOfNums_data]; decide +kernel
theorem ztxt_r : (ztxt 1).toList = [49] := by
  have e : ndec 1 = 1 := by unfold ndec; rw [nl_spec 10 _ 1 (by decide) (by decide)]; decide +kernel
  rw [Lib.toList_data]
  show (txt 1).data.toList = _
  unfold txt; rw [e, strOfNums_data]; decide +kernel
theorem nl_small7 (k : Nat) (h : k < 4294967296) : nl W32 k ≤ 1 := nl_le W32 k 1 (by decide) (by unfold W32; omega)

end Go.Proofs.YtbelnhpjhpoacaaDoor
