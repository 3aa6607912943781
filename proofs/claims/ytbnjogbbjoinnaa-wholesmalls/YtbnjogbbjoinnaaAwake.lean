/-
  What the statements' own awake answers: true: chapter 1's examples hold.
-/
import Derived.Test.YtbnjogbbjoinnaaParse
namespace Go.Proofs.Ytbnjogbbjoinnaa
open Go.RowKit

/-- The text of 10^20. -/
def s20 : ByteArray := { data := #[49, 48, 48, 48, 48, 48, 48, 48, 48, 48, 48, 48, 48, 48, 48, 48, 48, 48, 48, 48, 48] }
theorem s20_digits : digitsB s20 = true := by decide +kernel
theorem s20_val : dval s20 s20.size = 100000000000000000000 := by decide +kernel
theorem nl_a : nl W32 (4294967296 * 4294967296) = 3 := by rw [nl_spec W32 _ 3 (by decide) (by decide)]; decide +kernel
theorem nl_b : nl W32 100000000000000000000 = 3 := by rw [nl_spec W32 _ 3 (by decide) (by decide)]; decide +kernel
theorem nl_7 : nl W32 7 = 1 := by rw [nl_spec W32 _ 1 (by decide) (by decide)]; decide +kernel
theorem nl_q : nl W32 14285714285714285714 = 2 := by rw [nl_spec W32 _ 2 (by decide) (by decide)]; decide +kernel
theorem nl_2 : nl W32 2 = 1 := by rw [nl_spec W32 _ 1 (by decide) (by decide)]; decide +kernel
theorem nl_u : nl W32 4294967296 = 2 := by rw [nl_spec W32 _ 2 (by decide) (by decide)]; decide +kernel
theorem txt_q : (txt 14285714285714285714).data.toList = [49, 52, 50, 56, 53, 55, 49, 52, 50, 56, 53, 55, 49, 52, 50, 56, 53, 55, 49, 52] := by
  have e : ndec 14285714285714285714 = 20 := by
    unfold ndec; rw [nl_spec 10 _ 20 (by decide) (by decide)]; decide +kernel
  unfold txt; rw [e, strOfNums_data]; decide +kernel
theorem txt_2 : (txt 2).data.toList = [50] := by
  have e : ndec 2 = 1 := by
    unfold ndec; rw [nl_spec 10 _ 1 (by decide) (by decide)]; decide +kernel
  unfold txt; rw [e, strOfNums_data]; decide +kernel
theorem dg_a : dg W32 (4294967296 * 4294967296) 0 = 0 ∧ dg W32 (4294967296 * 4294967296) 1 = 0 ∧ dg W32 (4294967296 * 4294967296) 2 = 1 := by decide +kernel

theorem print_rep (v : Value) (x : Nat) (w : World) (hv : Rep w v x) (h29 : nl W32 x ≤ 29) :
    Calls Try.prog 59 #[v] w fun e w' => e = .returned (.string (txt x)) ∧ Below w.heap.size w w' := by
  have h := print_short v _ _ w hv (u64_dg x _) (by rw [num_nl]; exact h29)
  rw [num_nl] at h; exact h

end Go.Proofs.Ytbnjogbbjoinnaa
