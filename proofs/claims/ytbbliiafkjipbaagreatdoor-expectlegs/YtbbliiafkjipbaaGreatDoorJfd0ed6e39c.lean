/-
  Texts of mine.
-/
import Derived.Test.YtbbliiafkjipbaaGreatDoorJe1b848227b
import Derived.Test.YtbbliiafkjipbaaGreatDoorJb389192f6e
import Derived.Test.YtbbliiafkjipbaaGreatDoorJd5ba4d852a
namespace Go.Proofs.YtbbliiafkjipbaaGreatDoor
open Go.RowKit
set_option linter.unusedVariables false
set_option linter.unusedSimpArgs false
theorem head_alg (H L Q P : Nat) (hP : 0 < P) : (H * (Q * P) + L) / P = H * Q + L / P := by
 rw [← Nat.mul_assoc,Nat.add_comm,Nat.add_mul_div_right _ _ hP,Nat.add_comm]
theorem head_num (y m z : Nat) (hz : z ≤ 31) (hy : y < W32 ^ (m + 3)) :
  y / 2 ^ (32 * (m + 1) - z) = ((y / W32 ^ (m + 2) % W32) * 4294967296 + y / W32 ^ (m + 1) % W32) * 2 ^ z + (y / W32 ^ m % W32) / 2 ^ (32 - z) := by
 have hp : 2 ^ (32 * (m + 1) - z) = W32 ^ m * 2 ^ (32 - z) := by
  have : W32 ^ m = 2 ^ (32 * m) := by rw [Nat.pow_mul]
  rw [this,← Nat.pow_add]; congr 1; omega
 rw [hp,← Nat.div_div_eq_div_mul]
 have h1 : y / W32 ^ (m + 1) = y / W32 ^ m / W32 := by rw [Nat.pow_succ,Nat.div_div_eq_div_mul]
 have h2 : y / W32 ^ (m + 2) = y / W32 ^ m / W32 / W32 := by rw [Nat.pow_succ,← Nat.div_div_eq_div_mul,h1]
 have h3 : y / W32 ^ m < W32 * W32 * W32 := by
  have e : W32 ^ (m + 3) = W32 ^ m * (W32 * W32 * W32) := by rw [Nat.pow_add]; rfl
  rw [e] at hy
  exact Nat.div_lt_of_lt_mul hy
 rw [h1,h2]
 generalize y / W32 ^ m = T at *
 have hT : T = (T / W32 / W32 % W32 * 4294967296 + T / W32 % W32) * W32 + T % W32 := by
  unfold W32 at *; omega
 have hW : W32 = 2 ^ z * 2 ^ (32 - z) := by
  rw [← Nat.pow_add,show z + (32 - z) = 32 by omega]
 have hfin := head_alg (T / W32 / W32 % W32 * 4294967296 + T / W32 % W32) (T % W32) (2 ^ z) (2 ^ (32 - z)) (Nat.pow_pos (by decide))
 rw [← hW,← hT] at hfin
 exact hfin
theorem or_sum (s a b : Nat) (ha : a % 2 ^ s = 0) (hb : b < 2 ^ s) (ha1 : a < 18446744073709551616) (hb1 : b < 18446744073709551616) : bits .or .u64 (a : Int) (b : Int) = ((a + b : Nat) : Int) := by
 rw [u64_or_nat a b ha1 hb1,nat_join s a b ha hb]
set_option maxRecDepth 20000 in
set_option maxHeartbeats 1000000 in
theorem head_any (v : Value) (y m z : Nat) (w : World) (hv : Rep w v y) (hz : z ≤ 31) (hy : y < W32 ^ (m + 3)) (hm : m ≤ 1000000) (hlt : y / 2 ^ (32 * (m + 1) - z) < 18446744073709551616) :
  Calls Tryz.prog 127 #[v,.int .i64 ((m + 3 : Nat) : Int),.int .i64 (z : Int)] w fun e w' => e = .returned (.int .u64 ((y / 2 ^ (32 * (m + 1) - z) : Nat) : Int)) ∧ Below w.heap.size w w' := by
 have hN := head_num y m z hz hy
 rw [hN] at hlt ⊢
 have k1 : at0 (dg W32 y) (nl W32 y) (m + 2) = ((y / W32 ^ (m + 2) % W32 : Nat) : Int) := at0_dg32 y _ _ rfl
 have k2 : at0 (dg W32 y) (nl W32 y) (m + 1) = ((y / W32 ^ (m + 1) % W32 : Nat) : Int) := at0_dg32 y _ _ rfl
 have k3 : at0 (dg W32 y) (nl W32 y) m = ((y / W32 ^ m % W32 : Nat) : Int) := at0_dg32 y _ _ rfl
 have b2 : y / W32 ^ (m + 2) % W32 < W32 := Nat.mod_lt _ (by decide)
 have b1 : y / W32 ^ (m + 1) % W32 < W32 := Nat.mod_lt _ (by decide)
 have b0 : y / W32 ^ m % W32 < W32 := Nat.mod_lt _ (by decide)
 have HR1 : Hid (∀ W,Below w.heap.size w W → Calls Tryz.prog 131 #[v,.int .i64 ((m : Int) + 2)] W fun e w' => e = .returned (.int .u64 ((y / W32 ^ (m + 2) % W32 : Nat) : Int)) ∧ w' = W) := by
  show ∀ W,_
  intro W hb
  have h := limb_any v _ _ W ((m : Int) + 2) (Nums.below hv hb) (by omega) (by unfold LIM; omega)
  rw [show ((m : Int) + 2).toNat = m + 2 by omega,k1] at h; exact h
 have HR2 : Hid (∀ W,Below w.heap.size w W → Calls Tryz.prog 131 #[v,.int .i64 ((m : Int) + 1)] W fun e w' => e = .returned (.int .u64 ((y / W32 ^ (m + 1) % W32 : Nat) : Int)) ∧ w' = W) := by
  show ∀ W,_
  intro W hb
  have h := limb_any v _ _ W ((m : Int) + 1) (Nums.below hv hb) (by omega) (by unfold LIM; omega)
  rw [show ((m : Int) + 1).toNat = m + 1 by omega,k2] at h; exact h
 have HR3 : Hid (∀ W,Below w.heap.size w W → Calls Tryz.prog 131 #[v,.int .i64 (m : Int)] W fun e w' => e = .returned (.int .u64 ((y / W32 ^ m % W32 : Nat) : Int)) ∧ w' = W) := by
  show ∀ W,_
  intro W hb
  have h := limb_any v _ _ W (m : Int) (Nums.below hv hb) (by omega) (by unfold LIM; omega)
  rw [Int.toNat_natCast,k3] at h; exact h
 clear k1 k2 k3 hN hy
 generalize y / W32 ^ (m + 2) % W32 = A at *
 generalize y / W32 ^ (m + 1) % W32 = B at *
 generalize y / W32 ^ m % W32 = C at *
 unfold W32 at b0 b1 b2
 have e1 : IntKind.u64.wrap ((A : Int) * 4294967296) = (A : Int) * 4294967296 := by rw [IntKind.wrap_u64]; omega
 have e2 : bits .or .u64 ((A : Int) * 4294967296) (B : Int) = ((A * 4294967296 + B : Nat) : Int) := by
  rw [or_join' _ _ (by omega) (by omega) (by omega) (by omega)]; omega
 have hH : A * 4294967296 + B < 18446744073709551616 := by omega
 generalize A * 4294967296 + B = H at *
 have hC : C / 2 ^ (32 - z) < 2 ^ z := by
  apply Nat.div_lt_of_lt_mul
  rw [← Nat.pow_add,show 32 - z + z = 32 by omega]; omega
 obtain ⟨HZ,hHZ⟩ : ∃ HZ,HZ = H * 2 ^ z := ⟨_,rfl⟩
 obtain ⟨CZ,hCZ⟩ : ∃ CZ,CZ = C / 2 ^ (32 - z) := ⟨_,rfl⟩
 rw [← hHZ,← hCZ] at hlt ⊢
 rw [← hCZ] at hC
 have h1 : (H : Int) * 2 ^ z = (HZ : Int) := by rw [hHZ]; simp
 have hm0 : HZ % 2 ^ z = 0 := by rw [hHZ]; exact Nat.mul_mod_left _ _
 have e3 : IntKind.u64.wrap ((H : Int) * 2 ^ z) = (HZ : Int) := by rw [h1,IntKind.wrap_u64]; omega
 have e4 : (32 : Int) - (z : Int) = ((32 - z : Nat) : Int) := by omega
 have e5 : (C : Int) / 2 ^ (32 - z) = (CZ : Int) := by rw [hCZ]; simp
 have e6 : bits .or .u64 (HZ : Int) (CZ : Int) = ((HZ + CZ : Nat) : Int) := or_sum z _ _ hm0 hC (by omega) (by omega)
 have hzc : 32 - z ≤ 32 := by omega
 clear h1 hm0 hC hHZ hCZ
 generalize 32 - z = zc at *
 have n1 : ((m + 3 : Nat) : Int) - 1 = (m : Int) + 2 := by omega
 have n2 : ((m + 3 : Nat) : Int) - 2 = (m : Int) + 1 := by omega
 have n3 : ((m + 3 : Nat) : Int) - 3 = (m : Int) := by omega
 have g0 : 3 ≤ ((m + 3 : Nat) : Int) ∧ ((m + 3 : Nat) : Int) ≤ 2000000 := by omega
 generalize ((m + 3 : Nat) : Int) = N at *
 have g1 : -1000 ≤ (m : Int) + 2 ∧ (m : Int) + 2 ≤ 2000000 := by omega
 have g2 : -1000 ≤ (m : Int) + 1 ∧ (m : Int) + 1 ≤ 2000000 := by omega
 have g3 : -1000 ≤ (m : Int) ∧ (m : Int) ≤ 2000000 := by omega
 generalize (m : Int) + 2 = I1 at *
 generalize (m : Int) + 1 = I2 at *
 generalize (m : Int) = I3 at *
 have w1 : IntKind.i64.wrap I1 = I1 := by rw [IntKind.wrap_i64]; omega
 have w2 : IntKind.i64.wrap I2 = I2 := by rw [IntKind.wrap_i64]; omega
 have w3 : IntKind.i64.wrap I3 = I3 := by rw [IntKind.wrap_i64]; omega
 have w4 : IntKind.i64.wrap (zc : Int) = (zc : Int) := by rw [IntKind.wrap_i64]; omega
 clear hv hlt hm
 go_enter Tryz.func127,Tryz.ntmps127
 go_wp2
 refine wp_region_held_drew (S := (fun _ => True)) (by kernel_rfl) ?_ (fun hHeld => ?_)
 ·exact trivial
 refine xV 0 (h := ?_)
 refine xV 1 (h := ?_)
 refine xV 2 (h := ?_)
 refine xV 5 (h := ?_)
 refine xV 6 (h := ?_)
 refine xV 7 (h := ?_)
 refine xV 10 (h := ?_)
 refine xV 12 (h := ?_)
 refine xV 13 (h := ?_)
 refine xV 14 (h := ?_)
 refine xV 16 (h := ?_)
 refine xV 17 (h := ?_)
 refine xR [3] (h := ?_)
 refine xN (h := fun K hK => ?_)
 go_simp
 refine (HR1.out _ (Below.refl _ w).drew).mono ?_
 rintro e w1 ⟨rfl,hw1⟩
 subst hw1
 go_wp2_with fail
 refine hK.out _ _ ?_ (fun hHeld0 => ?_)
 ·exact trivial
 clear hK K
 (try simp only [Act.put,xL4,xL5,xL6])
 refine xV 4 (h := ?_)
 refine xR [8] (h := ?_)
 refine xN (h := fun K hK => ?_)
 go_simp
 refine (HR2.out _ (Below.refl _ w).drew).mono ?_
 rintro e w1 ⟨rfl,hw1⟩
 subst hw1
 go_wp2_with fail
 refine hK.out _ _ ?_ (fun hHeld1 => ?_)
 ·exact trivial
 clear hK K
 (try simp only [Act.put,xL4,xL5,xL6])
 refine xV 9 (h := ?_)
 refine xV 11 (h := ?_)
 refine xR [15] (h := ?_)
 refine xN (h := fun K hK => ?_)
 go_simp
 refine (HR3.out _ (Below.refl _ w).drew).mono ?_
 rintro e w1 ⟨rfl,hw1⟩
 subst hw1
 go_wp2_with fail
 refine hK.out _ _ ?_ (fun hHeld2 => ?_)
 ·exact trivial
 clear hK K
 (try simp only [Act.put,xL4,xL5,xL6])
 refine xV 18 (h := ?_)
 refine xV 19 (h := ?_)
 refine xV 20 (h := ?_)
 refine wpAnyH_done (by kernel_rfl) ?_ _
 go_wp2
 go_ret
 exact ⟨rfl,(Below.refl _ _).drew⟩
end Go.Proofs.YtbbliiafkjipbaaGreatDoor
