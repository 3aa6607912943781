/-
  The walk of the statement NatGcds, the table of math/bits lying as it is laid.
-/
import Derived.Test.YthhabammejkjcaaDoorLcm
import Derived.Test.YthhabammejkjcaaDoorLaw
namespace Go.Proofs.YthhabammejkjcaaDoor
open Go.RowKit
set_option linter.unusedVariables false

theorem gcd_lt (x y M : Nat) (hx : x < M) (hy : y < M) : Nat.gcd x y < M := by
  rcases Nat.eq_zero_or_pos x with e | e
  · rw [e, Nat.gcd_zero_left]; exact hy
  · exact Nat.lt_of_le_of_lt (Nat.gcd_le_left _ e) hx
theorem lcm_div (x y : Nat) : lcmOf x y = x * y / Nat.gcd x y := Nat.div_mul_right_comm (Nat.gcd_dvd_left x y) y
theorem zero_row (w : World) (a : Option Addr) : RepD w (.slice a 0 0) 0 := by
  unfold RepD; rw [nl_zero]; exact ⟨a, 0, rfl, Nat.le_refl _, Nat.zero_le _, fun h => absurd h (by omega)⟩
theorem lcm_zero_l (y : Nat) : lcmOf 0 y = 0 := by unfold lcmOf; rw [Nat.zero_div, Nat.zero_mul]
theorem lcm_zero_r (x : Nat) : lcmOf x 0 = 0 := by unfold lcmOf; rw [Nat.mul_zero]

set_option maxRecDepth 20000 in
set_option maxHeartbeats 2000000 in
theorem gcds_walk (u : Value) (n0 : Nat) (f : Nat → Int) (v : Value) (m0 : Nat) (g : Nat → Int) (w : World) (hu0 : Raw w u n0 f) (hv0 : Raw w v m0 g) (ht : Tab w) :
    Calls Tryd.prog 3 #[u, v] w fun e w' => e = .returned (.bool true) ∧ Below w.heap.size w w' := by
  go_enter Tryd.func3, Tryd.ntmps3
  go_wp2_with fail
  refine (few_any _ _ 10 _ _ hu0 (by omega)).mono ?_
  rintro e w' ⟨u1, rfl, hu, uf, _, rfl⟩
  have hn : min n0 10 ≤ 10 := Nat.min_le_right _ _
  generalize min n0 10 = n at *
  go_wp2_with fail
  refine (few_any _ _ 10 _ _ hv0 (by omega)).mono ?_
  rintro e w' ⟨v1, rfl, hv, vf, _, rfl⟩
  have hm : min m0 10 ≤ 10 := Nat.min_le_right _ _
  generalize min m0 10 = m at *
  clear hu0 hv0
  have hxl : num f n < W32 ^ 10 := Nat.lt_of_lt_of_le (num_lt f n) (Nat.pow_le_pow_right (by decide) hn)
  have hyl : num g m < W32 ^ 10 := Nat.lt_of_lt_of_le (num_lt g m) (Nat.pow_le_pow_right (by decide) hm)
  have hx := nl_le W32 (num f n) 10 (by decide) hxl
  have hy := nl_le W32 (num g m) 10 (by decide) hyl
  have hbx := nl_num f n (by omega)
  have hby := nl_num g m (by omega)
  have hxy : num f n * num g m < W32 ^ 20 := by
    rw [show W32 ^ 20 = W32 ^ 10 * W32 ^ 10 from rfl]; exact Nat.mul_lt_mul_of_lt_of_lt hxl hyl
  have hgl := gcd_lt _ _ _ hxl hyl
  have hg1 := nl_le W32 _ 10 (by decide) hgl
  have hg2 := nl_small _ 10 hgl
  have hp2 := nl_small _ 20 hxy
  have HLl : nl W32 (lcmOf (num f n) (num g m)) ≤ 20 := nl_le W32 _ 20 (by decide) (by rw [lcm_div]; exact Nat.lt_of_le_of_lt (Nat.div_le_self _ _) hxy)
  have HLC : Hid (∀ W, Below w'.heap.size w' W → Calls Tryd.prog 10 #[u1, v1] W fun e w' => ∃ r, e = .returned r ∧ Rep w' r (lcmOf (num f n) (num g m)) ∧ Below W.heap.size W w') :=
    fun W hb => lcm_any _ _ _ _ _ _ W (hu.below hb) (hv.below hb) uf vf (by omega) (by omega) (ht.below hb)
  have HGC : Hid (∀ W, Below w'.heap.size w' W → Calls Tryd.prog 9 #[u1, v1] W fun e w' => ∃ r, e = .returned r ∧ Rep w' r (Nat.gcd (num f n) (num g m)) ∧ Below W.heap.size W w') :=
    fun W hb => gcd_any _ _ _ _ _ _ W (hu.below hb) (hv.below hb) uf vf (by omega) (by omega) (ht.below hb)
  go_wp2_with fail
  refine (from_any _ _ _ _ hu uf (by omega)).mono ?_
  rintro e w1 ⟨r1, rfl, hr1, hb1⟩
  go_wp2_with fail
  refine (from_any _ _ _ _ (hv.below hb1) vf (by omega)).mono ?_
  rintro e w2 ⟨r2, rfl, hr2, hb2⟩
  have B2 : Below w'.heap.size w' w2 := hb1.trans (hb2.mono hb1.size)
  replace hr1 := hr1.below hb2
  have HL : Hid (lcmOf (num f n) (num g m) = num f n * num g m / Nat.gcd (num f n) (num g m)) := lcm_div _ _
  clear hb1 hb2 hu hv uf vf hxl hyl hgl hxy ht
  generalize num f n = x at *
  generalize num g m = y at *
  go_wp2_with fail
  refine (rgcd_any _ _ x y _ hr1 hr2 (by omega) (by omega)).mono ?_
  rintro e w3 ⟨r3, rfl, hr3, hb3⟩
  have B3 : Below w'.heap.size w' w3 := B2.trans (hb3.mono B2.size)
  replace hr1 := hr1.below hb3
  replace hr2 := hr2.below hb3
  clear B2 hb3
  go_wp2_with fail
  refine (HGC.out _ B3).mono ?_
  rintro e w4 ⟨r4, rfl, hr4, hb4⟩
  have B4 : Below w'.heap.size w' w4 := B3.trans (hb4.mono B3.size)
  replace hr1 := hr1.below hb4
  replace hr2 := hr2.below hb4
  replace hr3 := hr3.below hb4
  clear B3 hb4 HGC
  go_wp2_with fail
  refine (is_rep _ _ _ _ _ hr4 (by omega) hr3 rfl).mono ?_
  rintro e w5 ⟨rfl, hb5⟩
  have B5 : Below w'.heap.size w' w5 := B4.trans (hb5.mono B4.size)
  replace hr1 := hr1.below hb5
  replace hr2 := hr2.below hb5
  replace hr3 := hr3.below hb5
  clear B4 hb5 hr4
  have hr1' := hr1
  have hr2' := hr2
  obtain ⟨ao, c, rfl, _⟩ := hr1'
  obtain ⟨bo, d, rfl, _⟩ := hr2'
  by_cases h1 : x = 0
  · have hl0 : lcmOf x y = 0 := by rw [h1]; exact lcm_zero_l y
    have k1 : nl 10000 x = 0 := by rw [h1]; exact nl_zero _
    rw [k1]
    clear h1 k1
    go_wp2_with fail
    refine (HLC.out _ B5).mono ?_
    rintro e w8 ⟨r8, rfl, hr8, hb8⟩
    have B8 : Below w'.heap.size w' w8 := B5.trans (hb8.mono B5.size)
    rw [hl0] at hr8
    clear HLC hr1 hr2 hr3 HL
    go_wp2_with fail
    have b9 : Below w8.heap.size w8 (w8.alloc (Obj.cells #[] 3)) := (Below.refl _ _).alloc (Nat.le_refl _) _
    have B9 : Below w'.heap.size w' (w8.alloc (Obj.cells #[] 3)) := B8.trans (b9.mono B8.size)
    refine (is_rep _ _ 0 0 _ (Nums.below hr8 b9) (by rw [nl_zero]; omega) (zero_row _ _) rfl).mono ?_
    rintro e w9 ⟨rfl, hb9⟩
    have B10 : Below w'.heap.size w' w9 := B9.trans (hb9.mono B9.size)
    go_wp2_with fail
    refine (awake_any _).mono ?_
    rintro e w10 ⟨rfl, hb10⟩
    go_wp2
    go_ret
    exact ⟨rfl, B10.trans (hb10.mono B10.size)⟩
  by_cases h2 : y = 0
  · have hl0 : lcmOf x y = 0 := by rw [h2]; exact lcm_zero_r x
    have k2 : nl 10000 y = 0 := by rw [h2]; exact nl_zero _
    rw [k2]
    have k1 : (((nl 10000 x : Nat) : Int) == 0) = false := by
      have := mt (nl_eq_zero 10000 x (by decide)).1 h1
      simp; omega
    clear h1 h2 k2
    go_wp2_with fail
    refine (HLC.out _ B5).mono ?_
    rintro e w8 ⟨r8, rfl, hr8, hb8⟩
    have B8 : Below w'.heap.size w' w8 := B5.trans (hb8.mono B5.size)
    rw [hl0] at hr8
    clear HLC hr1 hr2 hr3 HL
    go_wp2_with fail
    have b9 : Below w8.heap.size w8 (w8.alloc (Obj.cells #[] 3)) := (Below.refl _ _).alloc (Nat.le_refl _) _
    have B9 : Below w'.heap.size w' (w8.alloc (Obj.cells #[] 3)) := B8.trans (b9.mono B8.size)
    refine (is_rep _ _ 0 0 _ (Nums.below hr8 b9) (by rw [nl_zero]; omega) (zero_row _ _) rfl).mono ?_
    rintro e w9 ⟨rfl, hb9⟩
    have B10 : Below w'.heap.size w' w9 := B9.trans (hb9.mono B9.size)
    go_wp2_with fail
    refine (awake_any _).mono ?_
    rintro e w10 ⟨rfl, hb10⟩
    go_wp2
    go_ret
    exact ⟨rfl, B10.trans (hb10.mono B10.size)⟩
  · have k1 : (((nl 10000 x : Nat) : Int) == 0) = false := by
      have := mt (nl_eq_zero 10000 x (by decide)).1 (by omega)
      simp; omega
    have k2 : (((nl 10000 y : Nat) : Int) == 0) = false := by
      have := mt (nl_eq_zero 10000 y (by decide)).1 (by omega)
      simp; omega
    have hG0 : 0 < Nat.gcd x y := Nat.gcd_pos_of_pos_left _ (by omega)
    clear h1 h2
    go_wp2_with fail
    refine (times_any _ _ x y _ hr1 hr2 (by omega) (by omega)).mono ?_
    rintro e w6 ⟨r6, rfl, hr6, hb6⟩
    have B6 : Below w'.heap.size w' w6 := B5.trans (hb6.mono B5.size)
    replace hr3 := hr3.below hb6
    clear hr1 hr2 hb6
    go_wp2_with fail
    refine (over_any _ _ _ _ _ hr6 hr3 hG0 (by omega) (by omega)).mono ?_
    rintro e w7 ⟨r7, q7, rfl, hr7, hq7, hb7⟩
    have B7 : Below w'.heap.size w' w7 := B6.trans (hb7.mono B6.size)
    clear hr6 hr3 hb7 hq7
    rw [← HL.out] at hr7
    go_wp2_with fail
    refine (HLC.out _ B7).mono ?_
    rintro e w8 ⟨r8, rfl, hr8, hb8⟩
    have B8 : Below w'.heap.size w' w8 := B7.trans (hb8.mono B7.size)
    replace hr7 := hr7.below hb8
    clear HLC
    go_wp2_with fail
    refine (is_rep _ _ _ _ _ hr8 (by omega) hr7 rfl).mono ?_
    rintro e w9 ⟨rfl, hb9⟩
    have B9 : Below w'.heap.size w' w9 := B8.trans (hb9.mono B8.size)
    go_wp2_with fail
    refine (awake_any _).mono ?_
    rintro e w10 ⟨rfl, hb10⟩
    go_wp2
    go_ret
    exact ⟨rfl, B9.trans (hb10.mono B9.size)⟩

end Go.Proofs.YthhabammejkjcaaDoor
