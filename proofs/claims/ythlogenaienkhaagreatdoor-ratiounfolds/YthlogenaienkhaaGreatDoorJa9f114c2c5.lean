/-
  Texts of mine, joined: what lies beneath the statement.
-/
import Derived.Test.YthlogenaienkhaaGreatDoorJ33e6031e1e
import Derived.Test.YthlogenaienkhaaGreatDoorJfa82818505
/-
 What whole.Pow and dendronref02.Power answer.
-/
namespace Go.Proofs.YthlogenaienkhaaGreatDoor
open Go.RowKit
set_option linter.unusedVariables false

theorem zof_pow (p : Bool) (X k : Nat) : zof (p && decide (k % 2 = 1)) (X ^ k) = (zof p X) ^ k := by
 cases p with
 | false => simp [zof]
 | true =>
  simp only [Bool.true_and,zof_true]
  induction k with
  | zero => simp [zof]
  | succ k ih =>
   rw [Int.pow_succ,← ih,Nat.pow_succ]
   rcases Nat.mod_two_eq_zero_or_one k with h | h
   ·have e1 : decide (k % 2 = 1) = false := by rw [decide_eq_false_iff_not]; omega
    have e2 : decide ((k + 1) % 2 = 1) = true := by rw [decide_eq_true_eq]; omega
    rw [e1,e2,zof_false,zof_true,Int.natCast_mul,Int.mul_neg]
   ·have e1 : decide (k % 2 = 1) = true := by rw [decide_eq_true_eq]; omega
    have e2 : decide ((k + 1) % 2 = 1) = false := by rw [decide_eq_false_iff_not]; omega
    rw [e1,e2,zof_false,zof_true,Int.natCast_mul,Int.neg_mul_neg]

set_option maxRecDepth 20000 in
set_option maxHeartbeats 1000000 in
theorem wpow_any (v : Value) (z : Int) (L k : Nat) (w : World) (h : IntAt w v z L) (hL : L ≤ 40) (hk : k ≤ 4096) :
  Calls Tryz.prog 98 #[v,.int .i64 (k : Int)] w fun e w' => ∃ r,e = .returned (.tuple #[r,.int .i64 0]) ∧ RepI w' r (z ^ k) ∧ Below w.heap.size w w' := by
 obtain ⟨neg,ao,n,c,f,rfl,h,hf,rfl,hn⟩ := h
 have hA : ∀ o o',Below w.heap.size w ((w.alloc o).alloc o') := fun o o' => ((Below.refl _ _).alloc (Nat.le_refl _) _).alloc (by simp) _
 have c1 := resW w 33 (.bool neg) (.slice ao n c)
 have c1' := keepW (B := w.heap.size + 1) (w' := (w.alloc (.cells #[.bool neg,.slice ao n c] 33)).alloc (.cells #[.bool false,.slice none 0 0] 33)) ((Below.refl _ _).alloc (by simp) _) (by simp) c1
 have h2 : ((k : Int).tmod 2 == 1) = decide (k % 2 = 1) := by
  rw [Int.tmod_eq_emod_of_nonneg (by omega),Bool.eq_iff_iff]; simp; omega
 have h3 : ((k : Int) % 2 == 1) = decide (k % 2 = 1) := by rw [Bool.eq_iff_iff]; simp; omega
 have HZ : Hid (zof (neg && decide (k % 2 = 1)) (num f n ^ k) = (zof neg (num f n)) ^ k) := zof_pow _ _ _
 go_enter Tryz.func98,Tryz.ntmps98
 go_wp2_with fail
 refine (pow_ok _ _ _ _ _ (h.below (hA _ _)) hf (by omega) hk).mono ?_
 rintro e w1 ⟨s,rfl,hs,hb1⟩
 obtain ⟨d1,d2,_,_⟩ := keepW hb1 (by simp) c1'
 have hk1 := keepW hb1 (by simp) (res1 w _ _ _ _)
 have B1 := (hA _ _).trans (hb1.mono (by simp; omega))
 clear c1 c1'
 generalize decide (k % 2 = 1) = D at *
 cases neg with
 | false =>
  go_wp2_with fail
  refine (signed_any _ _ _ _ hs.rep).mono ?_
  rintro e w2 ⟨r,rfl,hr,hb2⟩
  obtain ⟨b2,ao2,n2,c2,rfl⟩ := hr.open
  obtain ⟨q1,q2,q3,q4⟩ := keepW hb2 (Nat.le_refl _) hk1
  go_wp2
  (try simp only [Exit.inBlock,Exit.then])
  refine bodyPost_ret (v := .tuple #[.agg #[.bool b2,.slice ao2 n2 c2],.int .i64 0]) (by simp [results,go_sem,q1,q2]) rfl ?_
  have B2 := B1.trans (hb2.mono B1.size)
  refine ⟨_,rfl,?_,below_store2 B2 (by omega) _ _⟩
  rw [← HZ.out]; exact hr.store2 q1 q2 _ _
 | true =>
  go_wp2_with fail
  refine (signed_any _ _ _ _ hs.rep).mono ?_
  rintro e w2 ⟨r,rfl,hr,hb2⟩
  obtain ⟨b2,ao2,n2,c2,rfl⟩ := hr.open
  obtain ⟨q1,q2,q3,q4⟩ := keepW hb2 (Nat.le_refl _) hk1
  go_wp2
  (try simp only [Exit.inBlock,Exit.then])
  refine bodyPost_ret (v := .tuple #[.agg #[.bool b2,.slice ao2 n2 c2],.int .i64 0]) (by simp [results,go_sem,q1,q2]) rfl ?_
  have B2 := B1.trans (hb2.mono B1.size)
  refine ⟨_,rfl,?_,below_store2 B2 (by omega) _ _⟩
  rw [← HZ.out]; exact hr.store2 q1 q2 _ _

end Go.Proofs.YthlogenaienkhaaGreatDoor
