/-
  Texts of mine, joined: what lies beneath the statement.
-/
import Derived.Test.YthlogenaienkhaaGreatDoorJ90ce424f96
import Derived.Test.YthlogenaienkhaaGreatDoorJ74e2cec073
/-
 What the statements' own few and awake answer for whole numbers,and dendronref02.Is of a number in its one form.
-/
namespace Go.Proofs.YthlogenaienkhaaGreatDoor
open Go.RowKit
set_option linter.unusedVariables false

theorem rightB_rep (m : Nat) : rightB (dg W32 m) (nl W32 m) = true := by
 simp only [rightB,decide_eq_true_eq]
 exact ⟨fun i _ => by have := dg_bounds W32 m i (by decide); unfold W32 at this ⊢; omega,fun h0 => nl_top W32 m h0⟩
theorem refRight_rep {w : World} {v : Value} {m : Nat} (h : Rep w v m) :
  Calls Tryz.prog 76 #[v] w fun e w' => e = .returned (.bool true) ∧ w' = w := by
 have g := refRight_any v _ _ w h
 rw [rightB_rep] at g; exact g

set_option maxRecDepth 20000 in
set_option maxHeartbeats 2000000 in
theorem ris_rep (u v : Value) (x : Int) (w : World) (hu : RepI w u x) (hx : nl W32 x.natAbs ≤ 1000) (hv : RepJ w v x) :
  Calls Tryz.prog 29 #[u,v] w fun e w' => e = .returned (.bool true) ∧ Below w.heap.size w w' := by
 have hI := hu.at 1000 hx
 have hJ := hv
 obtain ⟨ao,c,rfl,hu⟩ := hu
 obtain ⟨bo,d,rfl,hv⟩ := hv
 have hA : ∀ o o',Below w.heap.size w ((w.alloc o).alloc o') := fun o o' => ((Below.refl _ _).alloc (Nat.le_refl _) _).alloc (by simp) _
 have c1 := (resW w 33 (.bool (decide (x < 0))) (.slice ao (nl W32 x.natAbs) c))
 have c2 := (res1 w (.cells #[.bool (decide (x < 0)),.slice ao (nl W32 x.natAbs) c] 33) 26 (.bool (decide (x < 0))) (.slice bo (nl 10000 x.natAbs) d))
 have b1 : Below (w.heap.size + 1) (w.alloc (.cells #[.bool (decide (x < 0)),.slice ao (nl W32 x.natAbs) c] 33)) ((w.alloc (.cells #[.bool (decide (x < 0)),.slice ao (nl W32 x.natAbs) c] 33)).alloc (.cells #[.bool (decide (x < 0)),.slice bo (nl 10000 x.natAbs) d] 26)) := (Below.refl _ _).alloc (by simp) _
 have k1 := keep2 b1 (by simp) ⟨c1.1,c1.2.1⟩
 have hSS := And.intro k1.1 (And.intro k1.2 (And.intro c2.1 c2.2.1))
 clear c1 c2 b1 k1
 have hN : nl W32 x.natAbs = 0 ∨ 0 < nl W32 x.natAbs := by omega
 have hzero : nl W32 x.natAbs = 0 → decide (x < 0) = false := fun h => by
  have := (nl_eq_zero W32 x.natAbs (by decide)).1 h
  rw [decide_eq_false_iff_not]; omega
 generalize hn : nl W32 x.natAbs = n at *
 generalize nl 10000 x.natAbs = m at *
 generalize decide (x < 0) = p at *
 have hR : ∀ W,Below w.heap.size w W → Calls Tryz.prog 76 #[.slice ao n c] W fun e w' => e = .returned (.bool true) ∧ w' = W := fun W hW => refRight_rep (Nums.below hu hW)
 rcases hN with h0 | h0
 ·obtain rfl := hzero h0
  subst h0
  have BA : Below w.heap.size w ((w.alloc (.cells #[.bool false,.slice ao 0 c] 33)).alloc (.cells #[.bool false,.slice bo m d] 26)).drew := (hA _ _).drew
  clear hzero
  go_enter Tryz.func29,Tryz.ntmps29
  go_wp2
  go_region_held3 (fun w' => w'.cell? ⟨w.heap.size,0,none⟩ = some (.bool false) ∧ w'.cell? ⟨w.heap.size,1,none⟩ = some (.slice ao 0 c) ∧ w'.cell? ⟨w.heap.size + 1,0,none⟩ = some (.bool false) ∧ w'.cell? ⟨w.heap.size + 1,1,none⟩ = some (.slice bo m d)) (first | exact keep4 (by assumption) (by simp) (by assumption) | exact hSS | go_keep) (first
   | (go_at_call 76; refine (hR _ BA).mono ?_; rintro e w0 ⟨rfl,hw⟩; subst hw)
   | (go_at_call 31; refine (rfrom_any _ _ _ _ (hI.below BA) (Nat.le_refl _)).mono ?_; rintro e w1 ⟨r1,rfl,hr1,hb1⟩)
   | (go_at_call 77; refine (rorder_any _ _ _ _ _ hr1 ((hJ.below BA).below hb1)).mono ?_; rintro e w2 ⟨rfl,hb2⟩; rw [cmpI_eq rfl]))
  go_wp2
  go_ret
  have B1 := BA.trans (hb1.mono BA.size)
  exact ⟨rfl,B1.trans (hb2.mono B1.size)⟩
 ·have h0' : decide ((0 : Int) < (n : Int)) = true := by rw [decide_eq_true_eq]; omega
  have h1' : decide (0 < n) = true := by rw [decide_eq_true_eq]; omega
  have BA : Below w.heap.size w ((w.alloc (.cells #[.bool p,.slice ao n c] 33)).alloc (.cells #[.bool p,.slice bo m d] 26)).drew := (hA _ _).drew
  clear hzero
  go_enter Tryz.func29,Tryz.ntmps29
  go_wp2
  first
  | go_region_with (first
   | (go_at_call 76; refine (hR _ BA).mono ?_; rintro e w0 ⟨rfl,hw⟩; subst hw)
   | (go_at_call 31; refine (rfrom_any _ _ _ _ (hI.below BA) (Nat.le_refl _)).mono ?_; rintro e w1 ⟨r1,rfl,hr1,hb1⟩; obtain ⟨d1,d2,d3,d4⟩ := keep4 hb1 (by simp) hSS)
   | (go_at_call 77; refine (rorder_any _ _ _ _ _ hr1 ((hJ.below BA).below hb1)).mono ?_; rintro e w2 ⟨rfl,hb2⟩; rw [cmpI_eq rfl]))
  | fail
  all_goals
   go_wp2
   go_ret
   have B1 := BA.trans (hb1.mono BA.size)
   exact ⟨rfl,B1.trans (hb2.mono B1.size)⟩

theorem nl10_le (x n : Nat) (h : nl W32 x ≤ n) : nl 10000 x ≤ 3 * n := nl_small x n (Nat.lt_of_lt_of_le (lt_pow_nl W32 x (by decide)) (Nat.pow_le_pow_right (by decide) h))
theorem nl_small7 (k : Nat) (h : k < 4294967296) : nl W32 k ≤ 1 := nl_le W32 k 1 (by decide) (by unfold W32; omega)

end Go.Proofs.YthlogenaienkhaaGreatDoor
