/-
  What the statements' own awake answers: true: chapter 1's examples hold.
-/
import Derived.Test.YthhabammejkjcaaDoorParse
namespace Go.Proofs.YthhabammejkjcaaDoor
open Go.RowKit

/-- The text of 10^20. -/
def s20 : ByteArray := { data := #[49, 48, 48, 48, 48, 48, 48, 48, 48, 48, 48, 48, 48, 48, 48, 48, 48, 48, 48, 48, 48] }
theorem s20_digits : digitsB s20 = true := by decide +kernel
theorem s20_val : dval s20 s20.size = 100000000000000000000 := by decide +kernel
theorem nl_a : nl W32 (4294967296 * 4294967296) = 3 := by rw [nl_spec W32 _ 3 (by decide) (by decide)]; decide +kernel
theorem nl_b : nl W32 100000000000000000000 = 3 := by rw [nl_spec W32 _ 3 (by decide) (by decide)]; decide +kernel
theorem nl_7 : nl W32 7 = 1 := by rw [nl_spec W32 _ 1 (by decide) (by decide)]; decide +kernel
theorem nl_q : nl W32 14285714285714285714 = 2 := by rw [nl_spec W32 _ 2 (by decide) (by decide)]; decide +kernel
theorem nl_2 : nl W32 2 = 1 := by rw [nl_spec W32 _ 1 (by decide) (by decide)]; decide +kernel
theorem nl_u : nl W32 4294967296 = 2 := by rw [nl_spec W32 _ 2 (by decide) (by decide)]; decide +kernel
theorem txt_q : (txt 14285714285714285714).data.toList = [49, 52, 50, 56, 53, 55, 49, 52, 50, 56, 53, 55, 49, 52, 50, 56, 53, 55, 49, 52] := by
  have e : ndec 14285714285714285714 = 20 := by
    unfold ndec; rw [nl_spec 10 _ 20 (by decide) (by decide)]; decide +kernel
  unfold txt; rw [e, strOfNums_data]; decide +kernel
theorem txt_2 : (txt 2).data.toList = [50] := by
  have e : ndec 2 = 1 := by
    unfold ndec; rw [nl_spec 10 _ 1 (by decide) (by decide)]; decide +kernel
  unfold txt; rw [e, strOfNums_data]; decide +kernel
theorem dg_a : dg W32 (4294967296 * 4294967296) 0 = 0 ∧ dg W32 (4294967296 * 4294967296) 1 = 0 ∧ dg W32 (4294967296 * 4294967296) 2 = 1 := by decide +kernel

theorem print_rep (v : Value) (x : Nat) (w : World) (hv : Rep w v x) (h29 : nl W32 x ≤ 29) :
    Calls Tryd.prog 41 #[v] w fun e w' => e = .returned (.string (txt x)) ∧ Below w.heap.size w w' := by
  have h := print_short v _ _ w hv (u64_dg x _) (by rw [num_nl]; exact h29)
  rw [num_nl] at h; exact h

set_option maxRecDepth 20000 in
set_option maxHeartbeats 2000000 in
theorem awake_any (w : World) : Calls Tryd.prog 11 #[] w fun e w' => e = .returned (.bool true) ∧ Below w.heap.size w w' := by
  go_enter Tryd.func11, Tryd.ntmps11
  go_wp2_with fail
  refine (of_any _ _ (by omega) (by omega)).mono ?_
  rintro e w1 ⟨v1, rfl, hv1, hb1⟩
  rw [show (4294967296 : Int).toNat = 4294967296 from rfl] at hv1
  go_wp2_with fail
  refine (of_any _ _ (by omega) (by omega)).mono ?_
  rintro e w2 ⟨v2, rfl, hv2, hb2⟩
  rw [show (4294967296 : Int).toNat = 4294967296 from rfl] at hv2
  go_wp2_with fail
  refine (mul_any _ _ _ _ _ _ _ (hv1.nums.below hb2) hv2.nums (u64_dg _ _) (u64_dg _ _) (by rw [nl_u]; omega) (by rw [nl_u]; omega) (by rw [nl_u]; omega)).mono ?_
  rintro e w3 ⟨va, rfl, hva, hb3⟩
  rw [num_nl] at hva
  have s1 := hb1.size
  have s2 := hb2.size
  have s3 := hb3.size
  have B3 : Below w.heap.size w w3 := hb1.trans ((hb2.mono (by omega)).trans (hb3.mono (by omega)))
  clear hv1 hv2 hb1 hb2 hb3
  go_wp2_with fail
  refine (parse_yes s20 _ (by decide) s20_digits).mono ?_
  rintro e w4 ⟨vb, rfl, hvb, hb4⟩
  rw [s20_val] at hvb
  go_wp2_with fail
  refine (of_any _ _ (by omega) (by omega)).mono ?_
  rintro e w5 ⟨v7, rfl, hv7, hb5⟩
  rw [show (7 : Int).toNat = 7 from rfl] at hv7
  go_wp2_with fail
  refine (divMod_of _ _ _ _ _ _ _ (hvb.nums.below hb5) hv7.nums (u64_dg _ _) (u64_dg _ _) (by rw [num_nl]; omega) (by rw [num_nl, num_nl]; exact fun u v w hu hv => divide_limb u v _ _ w hu hv (by omega) (by rw [nl_b]; omega) nl_7)).mono ?_
  rintro e w6 ⟨q, r, rfl, hq, hr, hb6⟩
  rw [num_nl, num_nl] at hq hr
  rw [show 100000000000000000000 / 7 = 14285714285714285714 from rfl] at hq
  rw [show 100000000000000000000 % 7 = 2 from rfl] at hr
  have s4 := hb4.size
  have s5 := hb5.size
  have s6 := hb6.size
  have B36 : Below w3.heap.size w3 w6 := hb4.trans ((hb5.mono (by omega)).trans (hb6.mono (by omega)))
  have B6 : Below w.heap.size w w6 := B3.trans (B36.mono (by omega))
  have hva6 := hva.below B36
  clear hvb hv7 hb4 hb5 hb6 hva B3 B36
  unfold RepM at hva6
  rw [nl_a] at hva6
  obtain ⟨ao, c, rfl, _, _, h4⟩ := hva6
  obtain ⟨b, off, rfl, hc, _⟩ := h4 (by omega)
  have c0 := hc 0 (by omega)
  have c1 := hc 1 (by omega)
  have c2 := hc 2 (by omega)
  rw [dg_a.1, Nat.add_zero] at c0
  rw [dg_a.2.1] at c1
  rw [dg_a.2.2] at c2
  clear hc h4
  have tq : (txt 14285714285714285714).toList = [49, 52, 50, 56, 53, 55, 49, 52, 50, 56, 53, 55, 49, 52, 50, 56, 53, 55, 49, 52] := by rw [Lib.toList_data, txt_q]
  have t2 : (txt 2).toList = [50] := by rw [Lib.toList_data, txt_2]
  go_wp2_with fail
  refine (print_rep _ _ _ hq.nums (by rw [nl_q]; omega)).mono ?_
  rintro e w7 ⟨rfl, hb7⟩
  go_wp2_with fail
  refine (print_rep _ _ _ (hr.nums.below hb7) (by rw [nl_2]; omega)).mono ?_
  rintro e w8 ⟨rfl, hb8⟩
  have s7 := hb7.size
  have s8 := hb8.size
  have B8 : Below w.heap.size w w8 := B6.trans ((hb7.mono (by have := B6.size; omega)).trans (hb8.mono (by have := B6.size; omega)))
  go_wp2
  go_ret
  exact ⟨rfl, B8⟩

end Go.Proofs.YthhabammejkjcaaDoor
