/-
  What nat.divide answers where no long division is needed: the number is less than the divisor, or both are small, or the divisor has one limb.
-/
import Derived.Test.YthhabammejkjcaaDoorDivLimb
import Derived.Deep.RegionWith
namespace Go.Proofs.YthhabammejkjcaaDoor
open Go.RowKit

theorem num_nl (m : Nat) : num (dg W32 m) (nl W32 m) = m := num_dg m _ (lt_pow_nl W32 m (by decide))

theorem cmp_rep (u v : Value) (x y : Nat) (w : World) (hu : Rep w u x) (hv : Rep w v y) :
    Calls Tryd.prog 30 #[u, v] w fun e w' => e = .returned (.int .i64 (cmpI x y)) ∧ Below w.heap.size w w' := by
  have h := cmp_any u v _ _ _ _ w hu hv (u64_dg x _) (u64_dg y _)
  rw [num_nl, num_nl] at h; exact h

theorem clean_rep (u : Value) (x : Nat) (w : World) (hu : Rep w u x) :
    Calls Tryd.prog 29 #[u] w fun e w' => ∃ v', e = .returned v' ∧ RepM w.heap.size w' v' x ∧ Below w.heap.size w w' := by
  have h := clean_any u _ _ w hu (u64_dg x _)
  rw [num_nl] at h; exact h

theorem toV_nl (m : Nat) (h : nl W32 m ≤ 2) : toV (dg W32 m) (nl W32 m) = m := by
  have hs : sz (lo (dg W32 m)) (nl W32 m) = nl W32 m := by rw [num_sz, num_nl]
  have hv := val_nl W32 m (by decide)
  have b0 := dg_bounds W32 m 0 (by decide)
  have b1 := dg_bounds W32 m 1 (by decide)
  unfold W32 at b0 b1
  unfold toV at0
  rw [hs, if_pos h]
  rcases (show nl W32 m = 0 ∨ nl W32 m = 1 ∨ nl W32 m = 2 by omega) with e | e | e
  · rw [e] at hv ⊢; simp [val] at hv ⊢; omega
  · rw [e] at hv ⊢; simp [val] at hv ⊢; unfold W32 at *; omega
  · rw [e] at hv ⊢; simp [val] at hv ⊢; unfold W32 at *; omega

theorem to_rep (u : Value) (x : Nat) (w : World) (hu : Rep w u x) (h : nl W32 x ≤ 2) :
    Calls Tryd.prog 33 #[u] w fun e w' => e = .returned (.tuple #[.int .u64 x, .bool true]) ∧ w' = w := by
  have g := to_any u _ _ w hu (u64_dg x _)
  have hs : sz (lo (dg W32 x)) (nl W32 x) = nl W32 x := by rw [num_sz, num_nl]
  rw [toV_nl x h, hs, decide_eq_true h] at g; exact g

set_option maxRecDepth 20000 in
set_option maxHeartbeats 400000 in
theorem divide_less (u v : Value) (x y : Nat) (w : World) (hu : Rep w u x) (hv : Rep w v y) (h : x < y) :
    Calls Tryd.prog 32 #[u, v] w fun e w' => ∃ q r, e = .returned (.tuple #[q, r]) ∧ RepM w.heap.size w' q (x / y) ∧ RepM w.heap.size w' r (x % y) ∧ Below w.heap.size w w' := by
  have hc : cmpI x y = -1 := cmpI_lt (by omega)
  go_enter Tryd.func32, Tryd.ntmps32
  go_wp2_with fail
  refine (cmp_rep _ _ _ _ _ hu hv).mono ?_
  rintro e w1 ⟨rfl, hb1⟩
  rw [hc]
  go_wp2_with fail
  refine (clean_rep _ _ _ (Nums.below hu hb1)).mono ?_
  rintro e w2 ⟨r, rfl, hr, hb2⟩
  go_wp2
  go_ret2
  have := hb1.size
  refine ⟨_, _, rfl, ?_, ?_, hb1.trans (hb2.mono (by omega))⟩
  · rw [Nat.div_eq_of_lt h]; unfold RepM; rw [nl_zero]; exact Mine.nil _ _ _ _
  · rw [Nat.mod_eq_of_lt h]; exact hr.le (by omega)

theorem quo_rem (x y : Nat) (r q : Int) (hy : 0 < y) (h0 : 0 ≤ r) (h1 : r < y) (h : (x : Int) = q * y + r) : q = ((x / y : Nat) : Int) ∧ r = ((x % y : Nat) : Int) := by
  have e1 : (x : Int) / y = q := by
    rw [h, Int.add_comm, Int.add_mul_ediv_right _ _ (by omega), Int.ediv_eq_zero_of_lt h0 h1]; omega
  have e2 : (x : Int) % y = r := by
    rw [h, Int.add_comm, Int.add_mul_emod_self_right, Int.emod_eq_of_lt h0 h1]
  exact ⟨by rw [Int.natCast_ediv, e1], by rw [Int.natCast_emod, e2]⟩

set_option maxRecDepth 20000 in
set_option maxHeartbeats 1000000 in
theorem divide_limb (u v : Value) (x y : Nat) (w : World) (hu : Rep w u x) (hv : Rep w v y) (h : y ≤ x) (h2 : 2 < nl W32 x) (hy1 : nl W32 y = 1) :
    Calls Tryd.prog 32 #[u, v] w fun e w' => ∃ q r, e = .returned (.tuple #[q, r]) ∧ RepM w.heap.size w' q (x / y) ∧ RepM w.heap.size w' r (x % y) ∧ Below w.heap.size w w' := by
  have hc : ¬ cmpI x y < 0 := by unfold cmpI; rw [if_neg (by omega)]; split <;> omega
  have hd := val_nl W32 y (by decide)
  have hdb := dg_bounds W32 y 0 (by decide)
  rw [hy1] at hd
  simp [val] at hd
  have hypos : 0 < y := by
    rcases Nat.eq_zero_or_pos y with e | e
    · subst e; rw [nl_zero] at hy1; omega
    · exact e
  have hu0 := hu
  have hv0 := hv
  obtain ⟨ao, c, rfl, hl⟩ := rep_val hu0
  obtain ⟨bo, d, rfl, _, kl, k4⟩ := hv0
  obtain ⟨b2, o2, rfl, kc⟩ := k4 (by omega)
  have kcell := kc 0 (by omega)
  rw [hd, Nat.add_zero] at kcell
  have hb2 := kc.lt (by omega)
  rw [hd] at hdb
  unfold W32 at hdb
  have HD : Hid (dg W32 y 0 = (y : Int)) := hd
  clear hd hu0 k4 kc
  rw [hy1] at *
  go_enter Tryd.func32, Tryd.ntmps32
  go_wp2_with fail
  refine (cmp_rep _ _ _ _ _ hu hv).mono ?_
  rintro e w1 ⟨rfl, hb1⟩
  have s1 := hb1.size
  go_wp2_with fail
  refine (clean_rep _ _ _ (Nums.below hu hb1)).mono ?_
  rintro e w2 ⟨q, rfl, hq, hbq⟩
  have s2 := hbq.size
  have kcell2 : w2.cell? ⟨b2, o2, none⟩ = some (.int .u64 (y : Int)) := (hbq.cell (by exact Nat.lt_of_lt_of_le hb2 s1)).trans ((hb1.cell (by exact hb2)).trans kcell)
  clear kcell
  go_wp2_with fail
  refine (divLimb_mine _ _ _ _ _ _ hq s2 (u32_dg _ _) (by omega) (by omega)).mono ?_
  rintro e w3 ⟨r, h, rfl, hr0, hr1, hmine, huh, hvh, bel23⟩
  rw [val_nl W32 x (by decide)] at hvh
  obtain ⟨hq1, hr2⟩ := quo_rem x y r _ hypos hr0 hr1 hvh
  have hQ : Hid (val W32 h (nl W32 x) = ((x / y : Nat) : Int)) := hq1
  have hR : Hid (r = ((x % y : Nat) : Int)) := hr2
  have bel3 : Below w.heap.size w w3 := hb1.trans ((hbq.mono (by omega)).trans (bel23.mono (by omega)))
  clear hq1 hr2 hvh kcell2
  go_wp2_with (first | (go_at_call 63; refine (cut_mine _ _ _ _ _ (x / y) hmine huh hQ.out).mono ?_; rintro e w4 ⟨q2, rfl, hq2, rfl⟩) | (go_at_call 34; refine (of_any _ _ hr0 (by omega)).mono ?_; rintro e w5 ⟨r2, rfl, hr2, hb5⟩))
  go_ret2
  have s4 := bel3.size
  rw [show r.toNat = x % y by rw [hR.out]; rfl] at hr2
  exact ⟨_, _, rfl, (hq2.below hb5).le (by omega), hr2.le (by omega), bel3.trans (hb5.mono (by omega))⟩

end Go.Proofs.YthhabammejkjcaaDoor
