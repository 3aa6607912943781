/-
  What whole.Pow and dendronref02.Power answer.
-/
import Derived.Test.YtbnjogbbjoinnaaWMem
import Derived.Test.YtbnjogbbjoinnaaPowMod
namespace Go.Proofs.Ytbnjogbbjoinnaa
open Go.RowKit
set_option linter.unusedVariables false

theorem zof_pow (p : Bool) (X k : Nat) : zof (p && decide (k % 2 = 1)) (X ^ k) = (zof p X) ^ k := by
  cases p with
  | false => simp [zof]
  | true =>
    simp only [Bool.true_and, zof_true]
    induction k with
    | zero => simp [zof]
    | succ k ih =>
      rw [Int.pow_succ, ← ih, Nat.pow_succ]
      rcases Nat.mod_two_eq_zero_or_one k with h | h
      · have e1 : decide (k % 2 = 1) = false := by rw [decide_eq_false_iff_not]; omega
        have e2 : decide ((k + 1) % 2 = 1) = true := by rw [decide_eq_true_eq]; omega
        rw [e1, e2, zof_false, zof_true, Int.natCast_mul, Int.mul_neg]
      · have e1 : decide (k % 2 = 1) = true := by rw [decide_eq_true_eq]; omega
        have e2 : decide ((k + 1) % 2 = 1) = false := by rw [decide_eq_false_iff_not]; omega
        rw [e1, e2, zof_false, zof_true, Int.natCast_mul, Int.neg_mul_neg]

set_option maxRecDepth 20000 in
set_option maxHeartbeats 1000000 in
theorem wpow_range (v : Value) (z : Int) (L : Nat) (k : Int) (w : World) (h : IntAt w v z L) (hk : k < 0 ∨ 4096 < k) :
    Calls Try.prog 34 #[v, .int .i64 k] w fun e w' => ∃ r, e = .returned (.tuple #[r, .int .i64 8]) ∧ RepI w' r 0 ∧ Below w.heap.size w w' := by
  obtain ⟨neg, ao, n, c, f, rfl, h, hf, rfl, _⟩ := h
  have hA : ∀ o o', Below w.heap.size w ((w.alloc o).alloc o') := fun o o' => ((Below.refl _ _).alloc (Nat.le_refl _) _).alloc (by simp) _
  go_enter Try.func34, Try.ntmps34
  go_wp2_with fail
  refine (pow_range _ _ _ hk).mono ?_
  rintro e w1 ⟨rfl, hw⟩
  subst hw
  go_wp2
  (try simp only [Exit.inBlock, Exit.then])
  refine bodyPost_ret (v := .tuple #[.agg #[.bool false, .slice none 0 0], .int .i64 8]) (by simp [results, go_sem]) rfl ?_
  exact ⟨_, rfl, RepI.nil _, hA _ _⟩

set_option maxRecDepth 20000 in
set_option maxHeartbeats 1000000 in
theorem wpow_any (v : Value) (z : Int) (L k : Nat) (w : World) (h : IntAt w v z L) (hL : L ≤ 40) (hk : k ≤ 4096) :
    Calls Try.prog 34 #[v, .int .i64 (k : Int)] w fun e w' => ∃ r, e = .returned (.tuple #[r, .int .i64 0]) ∧ RepI w' r (z ^ k) ∧ Below w.heap.size w w' := by
  obtain ⟨neg, ao, n, c, f, rfl, h, hf, rfl, hn⟩ := h
  have hA : ∀ o o', Below w.heap.size w ((w.alloc o).alloc o') := fun o o' => ((Below.refl _ _).alloc (Nat.le_refl _) _).alloc (by simp) _
  have c1 := resW w 25 (.bool neg) (.slice ao n c)
  have c1' := keepW (B := w.heap.size + 1) (w' := (w.alloc (.cells #[.bool neg, .slice ao n c] 25)).alloc (.cells #[.bool false, .slice none 0 0] 25)) ((Below.refl _ _).alloc (by simp) _) (by simp) c1
  have h2 : ((k : Int).tmod 2 == 1) = decide (k % 2 = 1) := by
    rw [Int.tmod_eq_emod_of_nonneg (by omega), Bool.eq_iff_iff]; simp; omega
  have h3 : ((k : Int) % 2 == 1) = decide (k % 2 = 1) := by rw [Bool.eq_iff_iff]; simp; omega
  have HZ : Hid (zof (neg && decide (k % 2 = 1)) (num f n ^ k) = (zof neg (num f n)) ^ k) := zof_pow _ _ _
  go_enter Try.func34, Try.ntmps34
  go_wp2_with fail
  refine (pow_ok _ _ _ _ _ (h.below (hA _ _)) hf (by omega) hk).mono ?_
  rintro e w1 ⟨s, rfl, hs, hb1⟩
  obtain ⟨d1, d2, _, _⟩ := keepW hb1 (by simp) c1'
  have hk1 := keepW hb1 (by simp) (res1 w _ _ _ _)
  have B1 := (hA _ _).trans (hb1.mono (by simp; omega))
  clear c1 c1'
  generalize decide (k % 2 = 1) = D at *
  cases neg with
  | false =>
    go_wp2_with fail
    refine (signed_any _ _ _ _ hs.rep).mono ?_
    rintro e w2 ⟨r, rfl, hr, hb2⟩
    obtain ⟨b2, ao2, n2, c2, rfl⟩ := hr.open
    obtain ⟨q1, q2, q3, q4⟩ := keepW hb2 (Nat.le_refl _) hk1
    go_wp2
    (try simp only [Exit.inBlock, Exit.then])
    refine bodyPost_ret (v := .tuple #[.agg #[.bool b2, .slice ao2 n2 c2], .int .i64 0]) (by simp [results, go_sem, q1, q2]) rfl ?_
    have B2 := B1.trans (hb2.mono B1.size)
    refine ⟨_, rfl, ?_, below_store2 B2 (by omega) _ _⟩
    rw [← HZ.out]; exact hr.store2 q1 q2 _ _
  | true =>
    go_wp2_with fail
    refine (signed_any _ _ _ _ hs.rep).mono ?_
    rintro e w2 ⟨r, rfl, hr, hb2⟩
    obtain ⟨b2, ao2, n2, c2, rfl⟩ := hr.open
    obtain ⟨q1, q2, q3, q4⟩ := keepW hb2 (Nat.le_refl _) hk1
    go_wp2
    (try simp only [Exit.inBlock, Exit.then])
    refine bodyPost_ret (v := .tuple #[.agg #[.bool b2, .slice ao2 n2 c2], .int .i64 0]) (by simp [results, go_sem, q1, q2]) rfl ?_
    have B2 := B1.trans (hb2.mono B1.size)
    refine ⟨_, rfl, ?_, below_store2 B2 (by omega) _ _⟩
    rw [← HZ.out]; exact hr.store2 q1 q2 _ _

theorem nlz_pow {x : Int} {l n : Nat} (h : nl W32 x.natAbs ≤ l) : nl W32 (x ^ n).natAbs ≤ l * n + 1 := by
  rw [Int.natAbs_pow]; exact nl_pow _ _ _ h

set_option maxRecDepth 20000 in
set_option maxHeartbeats 2000000 in
theorem rpower_any (v : Value) (z : Int) (k : Nat) (w : World) (h : RepJ w v z) (hz : nl W32 z.natAbs ≤ 10) (hk : k ≤ 100) :
    Calls Try.prog 35 #[v, .int .i64 (k : Int)] w fun e w' => ∃ r, e = .returned r ∧ RepJ w' r (z ^ k) ∧ Below w.heap.size w w' := by
  obtain ⟨p, ao, n, c, rfl⟩ := h.open
  have hA : ∀ o o', Below w.heap.size w ((w.alloc o).alloc o') := fun o o' => ((Below.refl _ _).alloc (Nat.le_refl _) _).alloc (by simp) _
  have c0 := keepW (B := w.heap.size + 1) (w' := (w.alloc (.cells #[.bool p, .slice ao n c] 30)).alloc (.cells #[.bool false, .slice none 0 0] 30)) ((Below.refl _ _).alloc (by simp) _) (by simp) (resW w 30 (.bool p) (.slice ao n c))
  go_enter Try.func35, Try.ntmps35
  go_wp2_with fail
  refine (rsmall_any 1 _ (by omega) (by omega)).mono ?_
  rintro e w1 ⟨r1, rfl, hr1, hb1⟩
  obtain ⟨b1, ao1, n1, e1, rfl⟩ := hr1.open
  have B1 : Below w.heap.size w w1 := (hA _ _).trans (hb1.mono (by simp; omega))
  have HA1 : Below w1.heap.size w1 (w1.alloc (.cells #[.bool b1, .slice ao1 n1 e1] 30)) := (Below.refl _ _).alloc (Nat.le_refl _) _
  have B1' := B1.trans (HA1.mono B1.size)
  have D0 := keepW HA1 (Nat.le_refl _) (keepW hb1 (by simp) c0)
  have D1 := keepW HA1 (Nat.le_refl _) (keepW hb1 (by simp) (res1 w _ _ _ _))
  have D2 := resW w1 30 (.bool b1) (.slice ao1 n1 e1)
  have J1 := hr1.below HA1
  have hge : w.heap.size + 1 < w1.heap.size := by have := hb1.size; simp at this; omega
  clear c0 hr1 B1 HA1
  go_wp2
  clear hb1
  generalize w1.heap.size = R at *
  generalize w1.alloc (.cells #[.bool b1, .slice ao1 n1 e1] 30) = W1 at *
  go_loopw [6] (fun vi wr => ∃ (i : Nat) (bb : Bool) (oo : Option Addr) (mm cc : Nat), i ≤ k ∧ vi = .int .i64 (i : Int) ∧ RepJ wr (.agg #[.bool bb, .slice oo mm cc]) (z ^ i) ∧
      (wr.cell? ⟨R, 0, none⟩ = some (.bool bb) ∧ wr.cell? ⟨R, 1, none⟩ = some (.slice oo mm cc) ∧ wr.frozen? ⟨R, 0, none⟩ = false ∧ wr.frozen? ⟨R, 1, none⟩ = false) ∧
      (wr.cell? ⟨w.heap.size, 0, none⟩ = some (.bool p) ∧ wr.cell? ⟨w.heap.size, 1, none⟩ = some (.slice ao n c) ∧ wr.frozen? ⟨w.heap.size, 0, none⟩ = false ∧ wr.frozen? ⟨w.heap.size, 1, none⟩ = false) ∧
      (wr.cell? ⟨w.heap.size + 1, 0, none⟩ = some (.bool false) ∧ wr.cell? ⟨w.heap.size + 1, 1, none⟩ = some (.slice none 0 0) ∧ wr.frozen? ⟨w.heap.size + 1, 0, none⟩ = false ∧ wr.frozen? ⟨w.heap.size + 1, 1, none⟩ = false) ∧ Below w.heap.size w wr) (fun vi _ => k - (intOf vi).toNat)
  case atStart => exact ⟨0, b1, ao1, n1, e1, Nat.zero_le _, rfl, by simpa using J1, D2, D0, D1, B1'⟩
  case round =>
    clear D0 D1 D2 J1 B1'
    obtain ⟨i, bb, oo, mm, cc, hi, rfl, hj, hR, hS, hT, hbel⟩ := hrel
    obtain ⟨g1, g2, g3, g4⟩ := hR
    obtain ⟨g5, g6, g7, g8⟩ := hS
    obtain ⟨g9, g10, g11, g12⟩ := hT
    by_cases hlt : i < k
    · have hlt' : (i : Int) < (k : Int) := by omega
      have hb := nlz_pow (n := i) hz
      have hb' : nl W32 (z ^ i).natAbs ≤ 1001 := by
        have : 10 * i ≤ 1000 := by omega
        omega
      go_wp2_with fail
      refine (rtimes_any _ _ _ _ _ hj (h.below hbel) (Nat.le_trans (nl10_le _ _ hb') (by omega)) (Nat.le_trans (nl10_le _ _ hz) (by omega))).mono ?_
      rintro e w2 ⟨r, rfl, hr, hb2⟩
      obtain ⟨b2, ao2, n2, c2, rfl⟩ := hr.open
      have kR := keepW hb2 (Nat.le_refl _) ⟨g1, g2, g3, g4⟩
      have kS := keepW hb2 (Nat.le_refl _) ⟨g5, g6, g7, g8⟩
      have kT := keepW hb2 (Nat.le_refl _) ⟨g9, g10, g11, g12⟩
      obtain ⟨q1, q2, q3, q4⟩ := kR
      go_wp2
      go_roundw
      case rel =>
        refine ⟨i + 1, b2, ao2, n2, c2, by omega, by go_num, ?_, put2_same ⟨q1, q2, q3, q4⟩, put2_other (by omega) kS, put2_other (by omega) kT, below_store2 (hbel.trans (hb2.mono hbel.size)) (by omega) _ _⟩
        rw [Int.pow_succ]; exact hr.store2 q1 q2 _ _
      case measure => simp [intOf]; omega
    · have hlt' : ¬ (i : Int) < (k : Int) := by omega
      obtain rfl : i = k := by omega
      go_wp2
      (try simp only [Exit.inBlock, Exit.then])
      refine bodyPost_ret (v := .agg #[.bool bb, .slice oo mm cc]) (by simp [results, go_sem, g9, g10]) rfl ?_
      exact ⟨_, rfl, hj.store2 g9 g10 _ _, below_store2 hbel (by omega) _ _⟩

end Go.Proofs.Ytbnjogbbjoinnaa
