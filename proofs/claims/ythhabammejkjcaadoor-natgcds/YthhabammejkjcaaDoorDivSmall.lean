/-
  What nat.divide answers where both numbers are small.
-/
import Derived.Test.YthhabammejkjcaaDoorDivide
import Derived.Deep.RegionHeld3
namespace Go.Proofs.YthhabammejkjcaaDoor
open Go.RowKit

theorem wrap_tdiv (x y : Int) (h0 : 0 ≤ x) (h1 : x < 18446744073709551616) (hy : 0 < y) : IntKind.u64.wrap (x.tdiv y) = x / y := by
  rw [Int.tdiv_eq_ediv_of_nonneg h0]
  have b0 : 0 ≤ x / y := Int.ediv_nonneg h0 (by omega)
  have b1 : x / y ≤ x := Int.ediv_le_self y h0
  exact IntWalk.u64_in _ ⟨b0, by omega⟩

set_option maxRecDepth 20000 in
set_option maxHeartbeats 2000000 in
theorem divide_small (u v : Value) (x y : Nat) (w : World) (hu : Rep w u x) (hv : Rep w v y) (hy : 0 < y) (h : y ≤ x) (h2 : nl W32 x ≤ 2) :
    Calls Tryd.prog 32 #[u, v] w fun e w' => ∃ q r, e = .returned (.tuple #[q, r]) ∧ RepM w.heap.size w' q (x / y) ∧ RepM w.heap.size w' r (x % y) ∧ Below w.heap.size w w' := by
  have hc : ¬ cmpI x y < 0 := by unfold cmpI; rw [if_neg (by omega)]; split <;> omega
  have hy2 : nl W32 y ≤ 2 := by
    by_cases g : nl W32 x < nl W32 y
    · have := lt_of_nl W32 x y (by decide) g; omega
    · omega
  have hx64 : x < 18446744073709551616 := by
    have h1 := lt_pow_nl W32 x (by decide)
    have h3 : W32 ^ nl W32 x ≤ W32 ^ 2 := Nat.pow_le_pow_right (by decide) h2
    unfold W32 at *; omega
  have hu0 := hu
  have hv0 := hv
  obtain ⟨ao, c, rfl, hl⟩ := rep_val hu0
  obtain ⟨bo, d, rfl, kl⟩ := rep_val hv0
  have hyne : ¬ (y : Int) = 0 := by omega
  have b1 : x / y ≤ x := Nat.div_le_self x y
  have b2 : x % y < y := Nat.mod_lt x hy
  have B1 : 0 ≤ (x : Int) / (y : Int) ∧ (x : Int) / (y : Int) < 18446744073709551616 := by rw [← Int.natCast_ediv]; generalize x / y = q at *; omega
  have B2 : 0 ≤ (x : Int) % (y : Int) ∧ (x : Int) % (y : Int) < 18446744073709551616 := by rw [← Int.natCast_emod]; generalize x % y = q at *; omega
  clear hu0 hv0
  go_enter Tryd.func32, Tryd.ntmps32
  go_wp2_with fail
  refine (cmp_rep _ _ _ _ _ hu hv).mono ?_
  rintro e w1 ⟨rfl, hb1⟩
  go_wp2_with fail
  refine (to_rep _ _ _ (Nums.below hu hb1) h2).mono ?_
  rintro e w2 ⟨rfl, rfl⟩
  go_wp2_with fail
  refine (to_rep _ _ _ (Nums.below hv hb1) hy2).mono ?_
  rintro e w3 ⟨rfl, rfl⟩
  have q1 : Hid (((x : Int) / (y : Int)).toNat = x / y) := by show _ = _; rw [← Int.natCast_ediv]; rfl
  have q2 : Hid (((x : Int) % (y : Int)).toNat = x % y) := by show _ = _; rw [← Int.natCast_emod]; rfl
  have hY0 : (0 : Int) < (y : Int) := by omega
  have hX0 : (0 : Int) ≤ (x : Int) := by omega
  have hX1 : (x : Int) < 18446744073709551616 := by omega
  generalize (x : Int) = X at *
  generalize (y : Int) = Y at *
  have ht : X.tmod Y = X % Y := Int.tmod_eq_emod_of_nonneg hX0
  have hq0 := wrap_tdiv X Y hX0 hX1 hY0
  go_wp2_with fail
  go_region_held3 (fun _ => True) (trivial) (first | (go_at_call_of 34 (X / Y); refine (of_any _ _ B1.1 B1.2).mono ?_; rintro e wq ⟨q, rfl, hq, hbq⟩) | (go_at_call_of 34 (X % Y); refine (of_any _ _ B2.1 B2.2).mono ?_; rintro e wq2 ⟨r, rfl, hr, hbr⟩))
  go_wp2
  go_ret2
  rw [q1.out] at hq
  rw [q2.out] at hr
  have := hb1.size
  have s1 := hbq.size
  simp only [World.size_drew] at s1 hbq hq
  have hD : Below w.heap.size w w3.drew := hb1.drew
  refine ⟨_, _, rfl, (hq.below hbr).le (by omega), hr.le (by omega), hD.trans ((hbq.mono (by omega)).trans (hbr.mono (by omega)))⟩

end Go.Proofs.YthhabammejkjcaaDoor
