/-
  Proves that DivMod answers quotient, rounded down, and rest of any two whole numbers of up to 10 limbs each, or that there are none, whatever comes in (the statement WholeQuotients); no condition.
-/
import Derived.Test.YtbnjogbbjoinnaaRows
import Derived.Test.YtbnjogbbjoinnaaWRef2
import Derived.Test.YtbnjogbbjoinnaaWOpen
import Derived.WalkKit
import Derived.ProofKit
import Derived.OpenShut
import Derived.ShutString
import Derived.ChangeOld
import Derived.Below
namespace Go.Proofs.Ytbnjogbbjoinnaa.wholeQuotients
open Go.ChangeShapes Go.WideShapes Go.ChangeAt Go.RowKit
open Go.ChangeMaps (open_string shut_string)
set_option linter.unusedVariables false
set_option linter.unusedSimpArgs false

theorem keep10 {w w' : World} {B : Nat} {a b c d a' b' c' d' e f : Addr} {x y z t x' y' z' t' u v : Value} (hb : Below B w w') (hB : w.heap.size ≤ B) (h : w.cell? a = some x ∧ w.cell? b = some y ∧ w.cell? c = some z ∧ w.cell? d = some t ∧ w.cell? a' = some x' ∧ w.cell? b' = some y' ∧ w.cell? c' = some z' ∧ w.cell? d' = some t' ∧ w.cell? e = some u ∧ w.cell? f = some v) :
    w'.cell? a = some x ∧ w'.cell? b = some y ∧ w'.cell? c = some z ∧ w'.cell? d = some t ∧ w'.cell? a' = some x' ∧ w'.cell? b' = some y' ∧ w'.cell? c' = some z' ∧ w'.cell? d' = some t' ∧ w'.cell? e = some u ∧ w'.cell? f = some v :=
  ⟨(keep2 hb hB ⟨h.1, h.2.1⟩).1, (keep2 hb hB ⟨h.1, h.2.1⟩).2, keep44 hb hB h.2.2⟩
theorem nl_fdiv {x y : Int} {a b : Nat} (hx : nl W32 x.natAbs ≤ a) (hab : a < b) : nl W32 (x.fdiv y).natAbs ≤ b := by
  by_cases hy : y = 0
  · subst hy; simp [nl_zero]
  have h0 : (x.fdiv y).natAbs ≤ x.natAbs + 1 := by
    have hX := zof_self x
    have hY := zof_self y
    have hY0 : 0 < y.natAbs := by omega
    generalize decide (x < 0) = p at *
    generalize decide (y < 0) = q at *
    rw [← hX, ← hY]
    have hd := Nat.div_le_self x.natAbs y.natAbs
    by_cases hpq : p = q
    · subst hpq; rw [(floor_same p _ _ hY0).1]; simp only [zof_abs]; omega
    · obtain rfl : q = !p := by cases p <;> cases q <;> simp_all
      by_cases hR : x.natAbs % y.natAbs = 0
      · rw [(floor_even p _ _ hY0 hR).1]; simp only [zof_abs]; omega
      · rw [(floor_odd p _ _ hY0 hR).1]; simp only [zof_abs]; omega
  exact Nat.le_trans (nl_mono W32 _ _ (by decide) h0) (Nat.le_trans (nl_succ _) (by omega))
theorem fmod_abs {x y : Int} (hy : y ≠ 0) : (x.fmod y).natAbs < y.natAbs := by
  have hX := zof_self x
  have hY := zof_self y
  have hY0 : 0 < y.natAbs := by omega
  generalize decide (x < 0) = p at *
  generalize decide (y < 0) = q at *
  have hm := Nat.mod_lt x.natAbs hY0
  have goal : (x.fmod y).natAbs = ((zof p x.natAbs).fmod (zof q y.natAbs)).natAbs := by rw [hX, hY]
  rw [goal]
  by_cases hpq : p = q
  · subst hpq; rw [(floor_same p _ _ hY0).2, zof_abs]; omega
  · obtain rfl : q = !p := by cases p <;> cases q <;> simp_all
    by_cases hR : x.natAbs % y.natAbs = 0
    · rw [(floor_even p _ _ hY0 hR).2]; simp; omega
    · rw [(floor_odd p _ _ hY0 hR).2, zof_abs]; omega
theorem fmod_sign {x y : Int} (hy : y ≠ 0) (hr : x.fmod y ≠ 0) : cmpI (x.fmod y) 0 = cmpI y 0 := by
  rcases (show 0 < y ∨ y < 0 by omega) with h | h
  · have := Int.fmod_nonneg_of_pos x h
    rw [cmpI_gt (by omega), cmpI_gt h]
  · have h1 := Int.mul_fdiv_add_fmod x y
    have h2 : x.fmod y ≤ 0 := by
      have h3 := Int.fmod_nonneg_of_pos (-x) (show (0:Int) < -y by omega)
      have h4 : (-x).fmod (-y) = -(x.fmod y) := Int.neg_fmod_neg _ _
      omega
    rw [cmpI_lt (by omega), cmpI_lt h]

set_option maxRecDepth 20000 in
set_option maxHeartbeats 4000000 in
theorem walk (p : Bool) (s : Value) (n0 : Nat) (f : Nat → Int) (q : Bool) (t : Value) (m0 : Nat) (g : Nat → Int) (w : World) (hs0 : Raw w s n0 f) (ht0 : Raw w t m0 g) :
    Calls Try.prog 6 #[.agg #[.bool p, s], .agg #[.bool q, t]] w fun e w' => e = .returned (.bool true) ∧ Below w.heap.size w w' := by
  have hs := hs0
  have ht := ht0
  obtain ⟨ao0, c0, rfl, _⟩ := hs0
  obtain ⟨bo0, d0, rfl, _⟩ := ht0
  have hA : ∀ o o', Below w.heap.size w ((w.alloc o).alloc o') := fun o o' => ((Below.refl _ _).alloc (Nat.le_refl _) _).alloc (by simp) _
  have r1 := res1 w (.cells #[.bool p, .slice ao0 n0 c0] 25) 25 (.bool q) (.slice bo0 m0 d0)
  have r0 := keepW (B := w.heap.size + 1) (w' := (w.alloc (.cells #[.bool p, .slice ao0 n0 c0] 25)).alloc (.cells #[.bool q, .slice bo0 m0 d0] 25)) ((Below.refl _ _).alloc (by simp) _) (by simp) (resW w 25 (.bool p) (.slice ao0 n0 c0))
  go_enter Try.func6, Try.ntmps6
  go_wp2_with fail
  refine (wfew_any _ _ _ 10 _ _ (hs.below (hA _ _)) (by omega)).mono ?_
  rintro e w1 ⟨ao, c, rfl, hu, uf, hb1⟩
  have hn : min n0 10 ≤ 10 := Nat.min_le_right _ _
  generalize min n0 10 = n at *
  have B1 : Below w.heap.size w w1 := (hA _ _).trans (hb1.mono (by simp; omega))
  obtain ⟨a1, a2, a3, a4⟩ := keepW hb1 (by simp) r0
  obtain ⟨b1, b2, b3, b4⟩ := keepW hb1 (by simp) r1
  have A0 := put2_same (x' := .bool p) (y' := .slice ao n c) ⟨a1, a2, a3, a4⟩
  have A1 := put2_other (R := w.heap.size) (R' := w.heap.size + 1) (x' := .bool p) (y' := .slice ao n c) (by omega) ⟨b1, b2, b3, b4⟩
  have I1 : IntAt ((w1.setCell ⟨w.heap.size, 0, none⟩ (.bool p)).setCell ⟨w.heap.size, 1, none⟩ (.slice ao n c)) (.agg #[.bool p, .slice ao n c]) (zof p (num f n)) 10 := ⟨_, _, _, _, _, rfl, hu.store2 a1 a2 _ _, uf, rfl, hn⟩
  have T1 := (ht.below B1).store2 a1 a2 (.bool p) (.slice ao n c)
  have B1' := below_store2 (R := w.heap.size) B1 (Nat.le_refl _) (.bool p) (.slice ao n c)
  clear r0 r1
  go_wp2_with fail
  clear a1 a2 a3 a4 b1 b2 b3 b4 hs ht hb1 hu B1
  generalize (w1.setCell ⟨w.heap.size, 0, none⟩ (.bool p)).setCell ⟨w.heap.size, 1, none⟩ (.slice ao n c) = W1 at *
  refine (wfew_any _ _ _ 10 _ _ T1 (by omega)).mono ?_
  rintro e w2 ⟨bo, d, rfl, hv, vf, hb2⟩
  have hm : min m0 10 ≤ 10 := Nat.min_le_right _ _
  generalize min m0 10 = m at *
  have B2 : Below w.heap.size w w2 := B1'.trans (hb2.mono B1'.size)
  obtain ⟨a1, a2, a3, a4⟩ := keepW hb2 (Nat.le_refl _) A0
  obtain ⟨b1, b2, b3, b4⟩ := keepW hb2 (Nat.le_refl _) A1
  have A2 := put2_same (x' := .bool q) (y' := .slice bo m d) ⟨b1, b2, b3, b4⟩
  have A3 := put2_other (R := w.heap.size + 1) (R' := w.heap.size) (x' := .bool q) (y' := .slice bo m d) (by omega) ⟨a1, a2, a3, a4⟩
  have I2 := (I1.below hb2).store2 b1 b2 (.bool q) (.slice bo m d)
  have I3 : IntAt ((w2.setCell ⟨w.heap.size + 1, 0, none⟩ (.bool q)).setCell ⟨w.heap.size + 1, 1, none⟩ (.slice bo m d)) (.agg #[.bool q, .slice bo m d]) (zof q (num g m)) 10 := ⟨_, _, _, _, _, rfl, hv.store2 b1 b2 _ _, vf, rfl, hm⟩
  have B2' := below_store2 (R := w.heap.size + 1) B2 (by omega) (.bool q) (.slice bo m d)
  clear A0 A1 I1 T1 B1'
  go_wp2_with fail
  clear a1 a2 a3 a4 b1 b2 b3 b4 hb2 hv B2
  generalize (w2.setCell ⟨w.heap.size + 1, 0, none⟩ (.bool q)).setCell ⟨w.heap.size + 1, 1, none⟩ (.slice bo m d) = W2 at *
  generalize hx : zof p (num f n) = x at *
  generalize hy : zof q (num g m) = y at *
  by_cases hy0 : y = 0
  · subst hy0
    refine (wdivMod_zero _ _ _ _ _ _ I2 I3).mono ?_
    rintro e w3 ⟨vq, vr, rfl, hq3, hr3, hb3⟩
    obtain ⟨pq, aoq, nq, cq, rfl⟩ := hq3.open
    obtain ⟨pr, aor, nr, cr, rfl⟩ := hr3.open
    have hA3 : ∀ o o', Below w3.heap.size w3 ((w3.alloc o).alloc o') := fun o o' => ((Below.refl _ _).alloc (Nat.le_refl _) _).alloc (by simp) _
    have HA3 := hA3 (.cells #[.bool pq, .slice aoq nq cq] 25) (.cells #[.bool pr, .slice aor nr cr] 25)
    have B3 : Below w.heap.size w w3 := B2'.trans (hb3.mono B2'.size)
    have B3' := B3.trans (HA3.mono B3.size)
    have C0 := keepW HA3 (Nat.le_refl _) (keepW hb3 (Nat.le_refl _) A3)
    have C1 := keepW HA3 (Nat.le_refl _) (keepW hb3 (Nat.le_refl _) A2)
    have C3 := res1 w3 (.cells #[.bool pq, .slice aoq nq cq] 25) 25 (.bool pr) (.slice aor nr cr)
    have C2 := keepW (B := w3.heap.size + 1) (w' := (w3.alloc (.cells #[.bool pq, .slice aoq nq cq] 25)).alloc (.cells #[.bool pr, .slice aor nr cr] 25)) ((Below.refl _ _).alloc (by simp) _) (by simp) (resW w3 25 (.bool pq) (.slice aoq nq cq))
    have I4 := (I2.below hb3).below HA3
    have I5 := (I3.below hb3).below HA3
    have Q4 := hq3.below HA3
    have R4 := hr3.below HA3
    have z3 : w.heap.size ≤ w3.heap.size := B3.size
    clear A2 A3 I2 I3 hq3 hr3 B2' B3 HA3 hA3
    go_wp2_with fail
    clear hb3
    generalize w3.heap.size = RQ at *
    generalize (w3.alloc (.cells #[.bool pq, .slice aoq nq cq] 25)).alloc (.cells #[.bool pr, .slice aor nr cr] 25) = W3 at *
    refine (rfrom_any _ _ _ _ I5 (by omega)).mono ?_
    rintro e w4 ⟨vy, rfl, hy4, hb4⟩
    obtain ⟨py, aoy, cy, rfl⟩ : ∃ py aoy cy, vy = .agg #[.bool py, .slice aoy 0 cy] := by
      obtain ⟨ao, c, h1, _⟩ := hy4; rw [Int.natAbs_zero, nl_zero] at h1; exact ⟨_, _, _, h1⟩
    have HA4 : Below w4.heap.size w4 (w4.alloc (.cells #[.bool py, .slice aoy 0 cy] 30)) := (Below.refl _ _).alloc (Nat.le_refl _) _
    have B4 : Below w.heap.size w w4 := B3'.trans (hb4.mono B3'.size)
    have B4' := B4.trans (HA4.mono B4.size)
    have D0 := keepW HA4 (Nat.le_refl _) (keepW hb4 (Nat.le_refl _) C0)
    have D1 := keepW HA4 (Nat.le_refl _) (keepW hb4 (Nat.le_refl _) C1)
    have D2 := keepW HA4 (Nat.le_refl _) (keepW hb4 (Nat.le_refl _) C2)
    have D3 := keepW HA4 (Nat.le_refl _) (keepW hb4 (Nat.le_refl _) C3)
    have D4 := resW w4 30 (.bool py) (.slice aoy 0 cy)
    have I6 := (I4.below hb4).below HA4
    have I7 := (I5.below hb4).below HA4
    have Q6 := (Q4.below hb4).below HA4
    have R6 := (R4.below hb4).below HA4
    have Y6 := hy4.below HA4
    have z5 : w4.heap.size + 1 = (w4.alloc (.cells #[.bool py, .slice aoy 0 cy] 30)).heap.size := by simp
    have z6 : w.heap.size ≤ w4.heap.size := B4.size
    clear C0 C1 C2 C3 I4 I5 Q4 R4 hy4 B3' B4 HA4
    go_wp2
    clear hb4
    have lx := I6.nl
    have ly := I7.nl
    generalize w4.heap.size = RY at *
    generalize w4.alloc (.cells #[.bool py, .slice aoy 0 cy] 30) = W4 at *
    have S0 := And.intro D2.1 (And.intro D2.2.1 (And.intro D3.1 D3.2.1))
    have BD := B4'.drew
    clear D0 D1 D2 D3 D4 I6 I7 Y6 B4'
    go_region_held3 (fun w' => w'.cell? ⟨RQ, 0, none⟩ = some (.bool pq) ∧ w'.cell? ⟨RQ, 1, none⟩ = some (.slice aoq nq cq) ∧ w'.cell? ⟨RQ + 1, 0, none⟩ = some (.bool pr) ∧ w'.cell? ⟨RQ + 1, 1, none⟩ = some (.slice aor nr cr)) (first | exact keep4 (by assumption) (by exact Nat.le_refl _) (by assumption) | exact S0) (first
      | (go_at_call_of 15 aoq; refine (ris_rep _ _ _ _ ((Q6.below (Below.refl _ _).drew).below k1) (by decide) hz1).mono ?_; rintro e y2 ⟨rfl, k2⟩)
      | (go_at_call_of 15 aor; refine (ris_rep _ _ _ _ ((((R6.below (Below.refl _ _).drew).below k1).below k2).below k3) (by decide) hz3).mono ?_; rintro e y4 ⟨rfl, k4⟩)
      | (go_at_call 22; refine (wawake_any _).mono ?_; rintro e y5 ⟨rfl, k5⟩)
      | (go_at_call 13; refine (rsmall_any 0 W4.drew (by omega) (by omega)).mono ?_; rintro e y1 ⟨z1, rfl, hz1, k1⟩)
      | (go_at_call 13; refine (rsmall_any 0 y2 (by omega) (by omega)).mono ?_; rintro e y3 ⟨z3, rfl, hz3, k3⟩))
    go_wp2
    go_ret
    have X1 := BD.trans (k1.mono BD.size)
    have X2 := X1.trans (k2.mono X1.size)
    have X3 := X2.trans (k3.mono X2.size)
    have X4 := X3.trans (k4.mono X3.size)
    exact ⟨rfl, X4.trans (k5.mono X4.size)⟩
  · refine (wdivMod_any _ _ _ _ _ _ _ I2 I3 (by omega) hy0).mono ?_
    rintro e w3 ⟨vq, vr, rfl, hq3, hr3, hb3⟩
    obtain ⟨pq, aoq, nq, cq, rfl⟩ := hq3.open
    obtain ⟨pr, aor, nr, cr, rfl⟩ := hr3.open
    have hA3 : ∀ o o', Below w3.heap.size w3 ((w3.alloc o).alloc o') := fun o o' => ((Below.refl _ _).alloc (Nat.le_refl _) _).alloc (by simp) _
    have HA3 := hA3 (.cells #[.bool pq, .slice aoq nq cq] 25) (.cells #[.bool pr, .slice aor nr cr] 25)
    have B3 : Below w.heap.size w w3 := B2'.trans (hb3.mono B2'.size)
    have B3' := B3.trans (HA3.mono B3.size)
    have C0 := keepW HA3 (Nat.le_refl _) (keepW hb3 (Nat.le_refl _) A3)
    have C1 := keepW HA3 (Nat.le_refl _) (keepW hb3 (Nat.le_refl _) A2)
    have C3 := res1 w3 (.cells #[.bool pq, .slice aoq nq cq] 25) 25 (.bool pr) (.slice aor nr cr)
    have C2 := keepW (B := w3.heap.size + 1) (w' := (w3.alloc (.cells #[.bool pq, .slice aoq nq cq] 25)).alloc (.cells #[.bool pr, .slice aor nr cr] 25)) ((Below.refl _ _).alloc (by simp) _) (by simp) (resW w3 25 (.bool pq) (.slice aoq nq cq))
    have I4 := (I2.below hb3).below HA3
    have I5 := (I3.below hb3).below HA3
    have Q4 := hq3.below HA3
    have R4 := hr3.below HA3
    have z3 : w.heap.size ≤ w3.heap.size := B3.size
    clear A2 A3 I2 I3 hq3 hr3 B2' B3 HA3 hA3
    go_wp2_with fail
    clear hb3
    generalize w3.heap.size = RQ at *
    generalize (w3.alloc (.cells #[.bool pq, .slice aoq nq cq] 25)).alloc (.cells #[.bool pr, .slice aor nr cr] 25) = W3 at *
    refine (rfrom_any _ _ _ _ I5 (by omega)).mono ?_
    rintro e w4 ⟨vy, rfl, hy4, hb4⟩
    have hny : nl 10000 y.natAbs ≠ 0 := fun h => hy0 (by have := (nl_eq_zero 10000 _ (by decide)).1 h; omega)
    obtain ⟨py, aoy, ny, cy, rfl, hny⟩ : ∃ py aoy ny cy, vy = .agg #[.bool py, .slice aoy ny cy] ∧ ny ≠ 0 := by
      obtain ⟨ao, c, h1, _⟩ := hy4; exact ⟨_, _, _, _, h1, hny⟩
    have hny' : ((ny : Int) == 0) = false := by simp; omega
    have HA4 : Below w4.heap.size w4 (w4.alloc (.cells #[.bool py, .slice aoy ny cy] 30)) := (Below.refl _ _).alloc (Nat.le_refl _) _
    have B4 : Below w.heap.size w w4 := B3'.trans (hb4.mono B3'.size)
    have B4' := B4.trans (HA4.mono B4.size)
    have D0 := keepW HA4 (Nat.le_refl _) (keepW hb4 (Nat.le_refl _) C0)
    have D1 := keepW HA4 (Nat.le_refl _) (keepW hb4 (Nat.le_refl _) C1)
    have D2 := keepW HA4 (Nat.le_refl _) (keepW hb4 (Nat.le_refl _) C2)
    have D3 := keepW HA4 (Nat.le_refl _) (keepW hb4 (Nat.le_refl _) C3)
    have D4 := resW w4 30 (.bool py) (.slice aoy ny cy)
    have I6 := (I4.below hb4).below HA4
    have I7 := (I5.below hb4).below HA4
    have Q6 := (Q4.below hb4).below HA4
    have R6 := (R4.below hb4).below HA4
    have Y6 := hy4.below HA4
    have z5 : w4.heap.size + 1 = (w4.alloc (.cells #[.bool py, .slice aoy ny cy] 30)).heap.size := by simp
    have z6 : w.heap.size ≤ w4.heap.size := B4.size
    clear C0 C1 C2 C3 I4 I5 Q4 R4 hy4 B3' B4 HA4
    go_wp2
    clear hb4
    have lx := I6.nl
    have ly := I7.nl
    generalize w4.heap.size = RY at *
    generalize w4.alloc (.cells #[.bool py, .slice aoy ny cy] 30) = W4 at *
    have S0 := And.intro D0.1 (And.intro D0.2.1 (And.intro D4.1 D4.2.1))
    go_cut [9, 10] from 43 (fun s9 s10 wx => ∃ (RU RV : Nat) (pu : Bool) (aou : Option Addr) (nu cu : Nat) (pv : Bool) (aov : Option Addr) (nv cv : Nat), s9 = .pointer (some ⟨RU, 0, none⟩) ∧ s10 = .pointer (some ⟨RV, 0, none⟩) ∧
      wx.cell? ⟨RU, 0, none⟩ = some (.bool pu) ∧ wx.cell? ⟨RU, 1, none⟩ = some (.slice aou nu cu) ∧ wx.cell? ⟨RV, 0, none⟩ = some (.bool pv) ∧ wx.cell? ⟨RV, 1, none⟩ = some (.slice aov nv cv) ∧
      RepJ wx (.agg #[.bool pu, .slice aou nu cu]) (x.fdiv y) ∧ RepJ wx (.agg #[.bool pv, .slice aov nv cv]) (x.fmod y) ∧ Below W4.heap.size W4 wx)
    case first =>
      have IA0 := I6.below (Below.refl _ _).drew
      have YY0 := Y6.below (Below.refl _ _).drew
      have BB0 : Below W4.heap.size W4 W4.drew := (Below.refl _ _).drew
      have zy0 : W4.heap.size ≤ W4.drew.heap.size := Nat.le_refl _
      clear D0 D1 D2 D3 D4 I6 I7 Q6 R6 Y6 B4' hny hny'
      refine wp_region_held_drew (S := (fun w' => w'.cell? ⟨w.heap.size, 0, none⟩ = some (.bool p) ∧ w'.cell? ⟨w.heap.size, 1, none⟩ = some (.slice ao n c) ∧ w'.cell? ⟨RY, 0, none⟩ = some (.bool py) ∧ w'.cell? ⟨RY, 1, none⟩ = some (.slice aoy ny cy))) (by kernel_rfl) ?_ (fun hHeld => ?_)
      · exact S0
      generalize W4.drew = y0 at *
      refine wpAnyH_take (i := 0) (v := ?_) (by simp only [List.getElem?_toArray, List.getElem?_cons_succ, List.getElem?_cons_zero]; rfl) (by kernel_rfl) (by kernel_rfl) (by kernel_rfl) (by exact fun _ _ _ h => h) (Or.inl ⟨by rfl, ?_⟩) (by assumption) ?_
      rotate_left
      · (intro w hSw; (try dsimp only at hSw); go_simp; (try with_reducible rfl))
      (try simp only [Act.put, List.setIfInBounds_toArray, List.set_cons_zero, List.set_cons_succ])
      refine wpAnyH_take (i := 2) (v := ?_) (by simp only [List.getElem?_toArray, List.getElem?_cons_succ, List.getElem?_cons_zero]; rfl) (by kernel_rfl) (by kernel_rfl) (by kernel_rfl) (by exact fun _ _ _ h => h) (Or.inl ⟨by rfl, ?_⟩) (by assumption) ?_
      rotate_left
      · (intro w hSw; (try dsimp only at hSw); go_simp; (try with_reducible rfl))
      (try simp only [Act.put, List.setIfInBounds_toArray, List.set_cons_zero, List.set_cons_succ])
      refine wpAnyH_ready (rs := [1, 7, 8]) (by kernel_rfl) (by simp) ?_
      refine AllReadyH.cons (by simp only [List.getElem?_toArray, List.getElem?_cons_succ, List.getElem?_cons_zero]; rfl) (fun K hK => ?_) ?_
      ·
        go_simp
        refine (rfrom_any _ _ _ _ IA0 (by omega)).mono ?_
        rintro e y1 ⟨vx, rfl, XX1, k1⟩
        go_wp2_with fail
        have BB1 := BB0.trans (k1.mono BB0.size)
        have IA1 := IA0.below k1
        have YY1 := YY0.below k1
        have zy1 : W4.heap.size ≤ y1.heap.size := BB1.size
        have zk1 : y0.heap.size ≤ y1.heap.size := by have := k1.size; omega
        refine hK.out _ _ ?_ (fun hHeld0 => ?_)
        · exact keep4 k1 (Nat.le_refl _) (by assumption)
        clear hK K
        (try simp only [Act.put, List.setIfInBounds_toArray, List.set_cons_zero, List.set_cons_succ])
        refine wpAnyH_ready (rs := [3, 7, 8]) (by kernel_rfl) (by simp) ?_
        refine AllReadyH.cons (by simp only [List.getElem?_toArray, List.getElem?_cons_succ, List.getElem?_cons_zero]; rfl) (fun K hK => ?_) ?_
        ·
          go_simp
          refine (rover_any _ _ _ _ _ XX1 YY1 hy0 (by omega) (by omega)).mono ?_
          rintro e y2 ⟨vu, vv, rfl, UU2, VV2, k2⟩
          obtain ⟨pu, aou, nu, cu, rfl⟩ := UU2.open
          obtain ⟨pv, aov, nv, cv, rfl⟩ := VV2.open
          go_wp2_with fail
          have BB2 := BB1.trans (k2.mono BB1.size)
          have IA2 := IA1.below k2
          have YY2 := YY1.below k2
          have XX2 := XX1.below k2
          have zy2 : W4.heap.size ≤ y2.heap.size := BB2.size
          have zk2 : y1.heap.size ≤ y2.heap.size := by have := k2.size; omega
          refine hK.out _ _ ?_ (fun hHeld1 => ?_)
          · exact keep4 k2 (Nat.le_refl _) (by assumption)
          clear hK K
          (try simp only [Act.put, List.setIfInBounds_toArray, List.set_cons_zero, List.set_cons_succ])
          refine wpAnyH_take (i := 4) (v := ?_) (by simp only [List.getElem?_toArray, List.getElem?_cons_succ, List.getElem?_cons_zero]; rfl) (by kernel_rfl) (by kernel_rfl) (by kernel_rfl) (by exact fun _ _ _ h => h) (Or.inl ⟨by rfl, ?_⟩) (by assumption) ?_
          rotate_left
          · (intro w hSw; (try dsimp only at hSw); go_simp; (try with_reducible rfl))
          (try simp only [Act.put, List.setIfInBounds_toArray, List.set_cons_zero, List.set_cons_succ])
          refine wpAnyH_take (i := 5) (v := ?_) (by simp only [List.getElem?_toArray, List.getElem?_cons_succ, List.getElem?_cons_zero]; rfl) (by kernel_rfl) (by kernel_rfl) (by kernel_rfl) (by exact fun _ _ _ h => h) (Or.inl ⟨by rfl, ?_⟩) (by assumption) ?_
          rotate_left
          · (intro w hSw; (try dsimp only at hSw); go_simp; (try with_reducible rfl))
          (try simp only [Act.put, List.setIfInBounds_toArray, List.set_cons_zero, List.set_cons_succ])
          refine wpAnyH_take (i := 6) (v := ?_) (by simp only [List.getElem?_toArray, List.getElem?_cons_succ, List.getElem?_cons_zero]; rfl) (by kernel_rfl) (by kernel_rfl) (by kernel_rfl) (by exact fun _ _ _ h => h) (Or.inl ⟨by rfl, ?_⟩) (by assumption) ?_
          rotate_left
          · (intro w hSw; (try dsimp only at hSw); go_simp; (try with_reducible rfl))
          (try simp only [Act.put, List.setIfInBounds_toArray, List.set_cons_zero, List.set_cons_succ])
          refine wpAnyH_ready (rs := [7, 8]) (by kernel_rfl) (by simp) ?_
          refine AllReadyH.cons (by simp only [List.getElem?_toArray, List.getElem?_cons_succ, List.getElem?_cons_zero]; rfl) (fun K hK => ?_) ?_
          ·
            go_simp
            have k3 : Below y2.heap.size y2 (y2.alloc (.cells #[.bool false, .slice none 0 0] 30)) := (Below.refl _ _).alloc (Nat.le_refl _) _
            have zz3 : y2.heap.size < (y2.alloc (.cells #[.bool false, .slice none 0 0] 30)).heap.size := by simp
            have FU3 := resW y2 30 (.bool false) (.slice none 0 0)
            have BB3 := BB2.trans (k3.mono BB2.size)
            have IA3 := IA2.below k3
            have YY3 := YY2.below k3
            have XX3 := XX2.below k3
            have UU3 := UU2.below k3
            have VV3 := VV2.below k3
            generalize y2.alloc (.cells #[.bool false, .slice none 0 0] 30) = y3 at *
            have zy3 : W4.heap.size ≤ y3.heap.size := BB3.size
            have zk3 : y2.heap.size < y3.heap.size := zz3
            refine hK.out _ _ ?_ (fun hHeld2 => ?_)
            · exact keep4 k3 (Nat.le_refl _) (by assumption)
            clear hK K
            (try simp only [Act.put, List.setIfInBounds_toArray, List.set_cons_zero, List.set_cons_succ])
            refine wpAnyH_ready (rs := [8]) (by kernel_rfl) (by simp) ?_
            refine AllReadyH.cons (by simp only [List.getElem?_toArray, List.getElem?_cons_succ, List.getElem?_cons_zero]; rfl) (fun K hK => ?_) AllReadyH.nil
            go_simp
            have k4 : Below y3.heap.size y3 (y3.alloc (.cells #[.bool false, .slice none 0 0] 30)) := (Below.refl _ _).alloc (Nat.le_refl _) _
            have zz4 : y3.heap.size < (y3.alloc (.cells #[.bool false, .slice none 0 0] 30)).heap.size := by simp
            have FV4 := resW y3 30 (.bool false) (.slice none 0 0)
            have BB4 := BB3.trans (k4.mono BB3.size)
            have IA4 := IA3.below k4
            have YY4 := YY3.below k4
            have XX4 := XX3.below k4
            have UU4 := UU3.below k4
            have VV4 := VV3.below k4
            have FU4 := keepW k4 (Nat.le_refl _) FU3
            generalize y3.alloc (.cells #[.bool false, .slice none 0 0] 30) = y4 at *
            have zy4 : W4.heap.size ≤ y4.heap.size := BB4.size
            have zk4 : y3.heap.size < y4.heap.size := zz4
            refine hK.out _ _ ?_ (fun hHeld3 => ?_)
            · exact keep4 k4 (Nat.le_refl _) (by assumption)
            clear hK K
            (try simp only [Act.put, List.setIfInBounds_toArray, List.set_cons_zero, List.set_cons_succ])
            refine wpAnyH_ready (rs := [9]) (by kernel_rfl) (by simp) ?_
            refine AllReadyH.cons (by simp only [List.getElem?_toArray, List.getElem?_cons_succ, List.getElem?_cons_zero]; rfl) (fun K hK => ?_) AllReadyH.nil
            go_simp
            have q0 := FU4
            have HS5 : y4.cell? ⟨w.heap.size, 0, none⟩ = some (.bool p) ∧ y4.cell? ⟨w.heap.size, 1, none⟩ = some (.slice ao n c) ∧ y4.cell? ⟨RY, 0, none⟩ = some (.bool py) ∧ y4.cell? ⟨RY, 1, none⟩ = some (.slice aoy ny cy) := by assumption
            have FU5 := put2_same (x' := .bool pu) (y' := .slice aou nu cu) q0
            have sz5 : W4.heap.size ≤ y2.heap.size ∧ W4.heap.size ≤ y3.heap.size ∧ y3.heap.size ≠ y2.heap.size := ⟨zy2, zy3, by omega⟩
            have FV5 := put2_other (R := y2.heap.size) (x' := .bool pu) (y' := .slice aou nu cu) (by omega) FV4
            have UU5 := UU4.store2 q0.1 q0.2.1 (.bool pu) (.slice aou nu cu)
            have VV5 := VV4.store2 q0.1 q0.2.1 (.bool pu) (.slice aou nu cu)
            have BB5 := below_store2 (R := y2.heap.size) BB4 (by omega) (.bool pu) (.slice aou nu cu)
            have KS5 := And.intro (put2_cells (R := y2.heap.size) (x' := .bool pu) (y' := .slice aou nu cu) (by omega) ⟨HS5.1, HS5.2.1⟩) (put2_cells (R := y2.heap.size) (x' := .bool pu) (y' := .slice aou nu cu) (by omega) ⟨HS5.2.2.1, HS5.2.2.2⟩)
            clear q0 HS5
            generalize (y4.setCell ⟨y2.heap.size, 0, none⟩ (.bool pu)).setCell ⟨y2.heap.size, 1, none⟩ (.slice aou nu cu) = y5 at *
            refine hK.out _ _ ?_ (fun hHeld4 => ?_)
            · exact ⟨KS5.1.1, KS5.1.2, KS5.2.1, KS5.2.2⟩
            clear hK K
            (try simp only [Act.put, List.setIfInBounds_toArray, List.set_cons_zero, List.set_cons_succ])
            refine wpAnyH_ready (rs := [10]) (by kernel_rfl) (by simp) ?_
            refine AllReadyH.cons (by simp only [List.getElem?_toArray, List.getElem?_cons_succ, List.getElem?_cons_zero]; rfl) (fun K hK => ?_) AllReadyH.nil
            go_simp
            have q0 := FV5
            have HS6 : y5.cell? ⟨w.heap.size, 0, none⟩ = some (.bool p) ∧ y5.cell? ⟨w.heap.size, 1, none⟩ = some (.slice ao n c) ∧ y5.cell? ⟨RY, 0, none⟩ = some (.bool py) ∧ y5.cell? ⟨RY, 1, none⟩ = some (.slice aoy ny cy) := by assumption
            have FV6 := put2_same (x' := .bool pv) (y' := .slice aov nv cv) q0
            have sz6 : W4.heap.size ≤ y3.heap.size ∧ W4.heap.size ≤ y2.heap.size ∧ y2.heap.size ≠ y3.heap.size := ⟨zy3, zy2, by omega⟩
            have FU6 := put2_other (R := y3.heap.size) (x' := .bool pv) (y' := .slice aov nv cv) (by omega) FU5
            have UU6 := UU5.store2 q0.1 q0.2.1 (.bool pv) (.slice aov nv cv)
            have VV6 := VV5.store2 q0.1 q0.2.1 (.bool pv) (.slice aov nv cv)
            have BB6 := below_store2 (R := y3.heap.size) BB5 (by omega) (.bool pv) (.slice aov nv cv)
            have KS6 := And.intro (put2_cells (R := y3.heap.size) (x' := .bool pv) (y' := .slice aov nv cv) (by omega) ⟨HS6.1, HS6.2.1⟩) (put2_cells (R := y3.heap.size) (x' := .bool pv) (y' := .slice aov nv cv) (by omega) ⟨HS6.2.2.1, HS6.2.2.2⟩)
            clear q0 HS6
            generalize (y5.setCell ⟨y3.heap.size, 0, none⟩ (.bool pv)).setCell ⟨y3.heap.size, 1, none⟩ (.slice aov nv cv) = y6 at *
            refine hK.out _ _ ?_ (fun hHeld5 => ?_)
            · exact ⟨KS6.1.1, KS6.1.2, KS6.2.1, KS6.2.2⟩
            clear hK K
            (try simp only [Act.put, List.setIfInBounds_toArray, List.set_cons_zero, List.set_cons_succ])
            refine wpAnyH_done (by kernel_rfl) ?_ _
            go_wp2_with fail
            go_meet
            exact ⟨y2.heap.size, y3.heap.size, pu, aou, nu, cu, pv, aov, nv, cv, rfl, rfl, FU6.1, FU6.2.1, FV6.1, FV6.2.1, UU6, VV6, BB6⟩
          refine AllReadyH.cons (by simp only [List.getElem?_toArray, List.getElem?_cons_succ, List.getElem?_cons_zero]; rfl) (fun K hK => ?_) ?_
          ·
            go_simp
            have k3 : Below y2.heap.size y2 (y2.alloc (.cells #[.bool false, .slice none 0 0] 30)) := (Below.refl _ _).alloc (Nat.le_refl _) _
            have zz3 : y2.heap.size < (y2.alloc (.cells #[.bool false, .slice none 0 0] 30)).heap.size := by simp
            have FV3 := resW y2 30 (.bool false) (.slice none 0 0)
            have BB3 := BB2.trans (k3.mono BB2.size)
            have IA3 := IA2.below k3
            have YY3 := YY2.below k3
            have XX3 := XX2.below k3
            have UU3 := UU2.below k3
            have VV3 := VV2.below k3
            generalize y2.alloc (.cells #[.bool false, .slice none 0 0] 30) = y3 at *
            have zy3 : W4.heap.size ≤ y3.heap.size := BB3.size
            have zk3 : y2.heap.size < y3.heap.size := zz3
            refine hK.out _ _ ?_ (fun hHeld2 => ?_)
            · exact keep4 k3 (Nat.le_refl _) (by assumption)
            clear hK K
            (try simp only [Act.put, List.setIfInBounds_toArray, List.set_cons_zero, List.set_cons_succ])
            refine wpAnyH_ready (rs := [7]) (by kernel_rfl) (by simp) ?_
            refine AllReadyH.cons (by simp only [List.getElem?_toArray, List.getElem?_cons_succ, List.getElem?_cons_zero]; rfl) (fun K hK => ?_) AllReadyH.nil
            go_simp
            have k4 : Below y3.heap.size y3 (y3.alloc (.cells #[.bool false, .slice none 0 0] 30)) := (Below.refl _ _).alloc (Nat.le_refl _) _
            have zz4 : y3.heap.size < (y3.alloc (.cells #[.bool false, .slice none 0 0] 30)).heap.size := by simp
            have FU4 := resW y3 30 (.bool false) (.slice none 0 0)
            have BB4 := BB3.trans (k4.mono BB3.size)
            have IA4 := IA3.below k4
            have YY4 := YY3.below k4
            have XX4 := XX3.below k4
            have UU4 := UU3.below k4
            have VV4 := VV3.below k4
            have FV4 := keepW k4 (Nat.le_refl _) FV3
            generalize y3.alloc (.cells #[.bool false, .slice none 0 0] 30) = y4 at *
            have zy4 : W4.heap.size ≤ y4.heap.size := BB4.size
            have zk4 : y3.heap.size < y4.heap.size := zz4
            refine hK.out _ _ ?_ (fun hHeld3 => ?_)
            · exact keep4 k4 (Nat.le_refl _) (by assumption)
            clear hK K
            (try simp only [Act.put, List.setIfInBounds_toArray, List.set_cons_zero, List.set_cons_succ])
            refine wpAnyH_ready (rs := [9]) (by kernel_rfl) (by simp) ?_
            refine AllReadyH.cons (by simp only [List.getElem?_toArray, List.getElem?_cons_succ, List.getElem?_cons_zero]; rfl) (fun K hK => ?_) AllReadyH.nil
            go_simp
            have q0 := FU4
            have HS5 : y4.cell? ⟨w.heap.size, 0, none⟩ = some (.bool p) ∧ y4.cell? ⟨w.heap.size, 1, none⟩ = some (.slice ao n c) ∧ y4.cell? ⟨RY, 0, none⟩ = some (.bool py) ∧ y4.cell? ⟨RY, 1, none⟩ = some (.slice aoy ny cy) := by assumption
            have FU5 := put2_same (x' := .bool pu) (y' := .slice aou nu cu) q0
            have sz5 : W4.heap.size ≤ y3.heap.size ∧ W4.heap.size ≤ y2.heap.size ∧ y2.heap.size ≠ y3.heap.size := ⟨zy3, zy2, by omega⟩
            have FV5 := put2_other (R := y3.heap.size) (x' := .bool pu) (y' := .slice aou nu cu) (by omega) FV4
            have UU5 := UU4.store2 q0.1 q0.2.1 (.bool pu) (.slice aou nu cu)
            have VV5 := VV4.store2 q0.1 q0.2.1 (.bool pu) (.slice aou nu cu)
            have BB5 := below_store2 (R := y3.heap.size) BB4 (by omega) (.bool pu) (.slice aou nu cu)
            have KS5 := And.intro (put2_cells (R := y3.heap.size) (x' := .bool pu) (y' := .slice aou nu cu) (by omega) ⟨HS5.1, HS5.2.1⟩) (put2_cells (R := y3.heap.size) (x' := .bool pu) (y' := .slice aou nu cu) (by omega) ⟨HS5.2.2.1, HS5.2.2.2⟩)
            clear q0 HS5
            generalize (y4.setCell ⟨y3.heap.size, 0, none⟩ (.bool pu)).setCell ⟨y3.heap.size, 1, none⟩ (.slice aou nu cu) = y5 at *
            refine hK.out _ _ ?_ (fun hHeld4 => ?_)
            · exact ⟨KS5.1.1, KS5.1.2, KS5.2.1, KS5.2.2⟩
            clear hK K
            (try simp only [Act.put, List.setIfInBounds_toArray, List.set_cons_zero, List.set_cons_succ])
            refine wpAnyH_ready (rs := [10]) (by kernel_rfl) (by simp) ?_
            refine AllReadyH.cons (by simp only [List.getElem?_toArray, List.getElem?_cons_succ, List.getElem?_cons_zero]; rfl) (fun K hK => ?_) AllReadyH.nil
            go_simp
            have q0 := FV5
            have HS6 : y5.cell? ⟨w.heap.size, 0, none⟩ = some (.bool p) ∧ y5.cell? ⟨w.heap.size, 1, none⟩ = some (.slice ao n c) ∧ y5.cell? ⟨RY, 0, none⟩ = some (.bool py) ∧ y5.cell? ⟨RY, 1, none⟩ = some (.slice aoy ny cy) := by assumption
            have FV6 := put2_same (x' := .bool pv) (y' := .slice aov nv cv) q0
            have sz6 : W4.heap.size ≤ y2.heap.size ∧ W4.heap.size ≤ y3.heap.size ∧ y3.heap.size ≠ y2.heap.size := ⟨zy2, zy3, by omega⟩
            have FU6 := put2_other (R := y2.heap.size) (x' := .bool pv) (y' := .slice aov nv cv) (by omega) FU5
            have UU6 := UU5.store2 q0.1 q0.2.1 (.bool pv) (.slice aov nv cv)
            have VV6 := VV5.store2 q0.1 q0.2.1 (.bool pv) (.slice aov nv cv)
            have BB6 := below_store2 (R := y2.heap.size) BB5 (by omega) (.bool pv) (.slice aov nv cv)
            have KS6 := And.intro (put2_cells (R := y2.heap.size) (x' := .bool pv) (y' := .slice aov nv cv) (by omega) ⟨HS6.1, HS6.2.1⟩) (put2_cells (R := y2.heap.size) (x' := .bool pv) (y' := .slice aov nv cv) (by omega) ⟨HS6.2.2.1, HS6.2.2.2⟩)
            clear q0 HS6
            generalize (y5.setCell ⟨y2.heap.size, 0, none⟩ (.bool pv)).setCell ⟨y2.heap.size, 1, none⟩ (.slice aov nv cv) = y6 at *
            refine hK.out _ _ ?_ (fun hHeld5 => ?_)
            · exact ⟨KS6.1.1, KS6.1.2, KS6.2.1, KS6.2.2⟩
            clear hK K
            (try simp only [Act.put, List.setIfInBounds_toArray, List.set_cons_zero, List.set_cons_succ])
            refine wpAnyH_done (by kernel_rfl) ?_ _
            go_wp2_with fail
            go_meet
            exact ⟨y3.heap.size, y2.heap.size, pu, aou, nu, cu, pv, aov, nv, cv, rfl, rfl, FU6.1, FU6.2.1, FV6.1, FV6.2.1, UU6, VV6, BB6⟩
          exact AllReadyH.nil
        refine AllReadyH.cons (by simp only [List.getElem?_toArray, List.getElem?_cons_succ, List.getElem?_cons_zero]; rfl) (fun K hK => ?_) ?_
        ·
          go_simp
          have k2 : Below y1.heap.size y1 (y1.alloc (.cells #[.bool false, .slice none 0 0] 30)) := (Below.refl _ _).alloc (Nat.le_refl _) _
          have zz2 : y1.heap.size < (y1.alloc (.cells #[.bool false, .slice none 0 0] 30)).heap.size := by simp
          have FU2 := resW y1 30 (.bool false) (.slice none 0 0)
          have BB2 := BB1.trans (k2.mono BB1.size)
          have IA2 := IA1.below k2
          have YY2 := YY1.below k2
          have XX2 := XX1.below k2
          generalize y1.alloc (.cells #[.bool false, .slice none 0 0] 30) = y2 at *
          have zy2 : W4.heap.size ≤ y2.heap.size := BB2.size
          have zk2 : y1.heap.size < y2.heap.size := zz2
          refine hK.out _ _ ?_ (fun hHeld1 => ?_)
          · exact keep4 k2 (Nat.le_refl _) (by assumption)
          clear hK K
          (try simp only [Act.put, List.setIfInBounds_toArray, List.set_cons_zero, List.set_cons_succ])
          refine wpAnyH_ready (rs := [3, 8]) (by kernel_rfl) (by simp) ?_
          refine AllReadyH.cons (by simp only [List.getElem?_toArray, List.getElem?_cons_succ, List.getElem?_cons_zero]; rfl) (fun K hK => ?_) ?_
          ·
            go_simp
            refine (rover_any _ _ _ _ _ XX2 YY2 hy0 (by omega) (by omega)).mono ?_
            rintro e y3 ⟨vu, vv, rfl, UU3, VV3, k3⟩
            obtain ⟨pu, aou, nu, cu, rfl⟩ := UU3.open
            obtain ⟨pv, aov, nv, cv, rfl⟩ := VV3.open
            go_wp2_with fail
            have BB3 := BB2.trans (k3.mono BB2.size)
            have IA3 := IA2.below k3
            have YY3 := YY2.below k3
            have XX3 := XX2.below k3
            have FU3 := keepW k3 (Nat.le_refl _) FU2
            have zy3 : W4.heap.size ≤ y3.heap.size := BB3.size
            have zk3 : y2.heap.size ≤ y3.heap.size := by have := k3.size; omega
            refine hK.out _ _ ?_ (fun hHeld2 => ?_)
            · exact keep4 k3 (Nat.le_refl _) (by assumption)
            clear hK K
            (try simp only [Act.put, List.setIfInBounds_toArray, List.set_cons_zero, List.set_cons_succ])
            refine wpAnyH_take (i := 4) (v := ?_) (by simp only [List.getElem?_toArray, List.getElem?_cons_succ, List.getElem?_cons_zero]; rfl) (by kernel_rfl) (by kernel_rfl) (by kernel_rfl) (by exact fun _ _ _ h => h) (Or.inl ⟨by rfl, ?_⟩) (by assumption) ?_
            rotate_left
            · (intro w hSw; (try dsimp only at hSw); go_simp; (try with_reducible rfl))
            (try simp only [Act.put, List.setIfInBounds_toArray, List.set_cons_zero, List.set_cons_succ])
            refine wpAnyH_take (i := 5) (v := ?_) (by simp only [List.getElem?_toArray, List.getElem?_cons_succ, List.getElem?_cons_zero]; rfl) (by kernel_rfl) (by kernel_rfl) (by kernel_rfl) (by exact fun _ _ _ h => h) (Or.inl ⟨by rfl, ?_⟩) (by assumption) ?_
            rotate_left
            · (intro w hSw; (try dsimp only at hSw); go_simp; (try with_reducible rfl))
            (try simp only [Act.put, List.setIfInBounds_toArray, List.set_cons_zero, List.set_cons_succ])
            refine wpAnyH_take (i := 6) (v := ?_) (by simp only [List.getElem?_toArray, List.getElem?_cons_succ, List.getElem?_cons_zero]; rfl) (by kernel_rfl) (by kernel_rfl) (by kernel_rfl) (by exact fun _ _ _ h => h) (Or.inl ⟨by rfl, ?_⟩) (by assumption) ?_
            rotate_left
            · (intro w hSw; (try dsimp only at hSw); go_simp; (try with_reducible rfl))
            (try simp only [Act.put, List.setIfInBounds_toArray, List.set_cons_zero, List.set_cons_succ])
            refine wpAnyH_ready (rs := [8]) (by kernel_rfl) (by simp) ?_
            refine AllReadyH.cons (by simp only [List.getElem?_toArray, List.getElem?_cons_succ, List.getElem?_cons_zero]; rfl) (fun K hK => ?_) AllReadyH.nil
            go_simp
            have k4 : Below y3.heap.size y3 (y3.alloc (.cells #[.bool false, .slice none 0 0] 30)) := (Below.refl _ _).alloc (Nat.le_refl _) _
            have zz4 : y3.heap.size < (y3.alloc (.cells #[.bool false, .slice none 0 0] 30)).heap.size := by simp
            have FV4 := resW y3 30 (.bool false) (.slice none 0 0)
            have BB4 := BB3.trans (k4.mono BB3.size)
            have IA4 := IA3.below k4
            have YY4 := YY3.below k4
            have XX4 := XX3.below k4
            have UU4 := UU3.below k4
            have VV4 := VV3.below k4
            have FU4 := keepW k4 (Nat.le_refl _) FU3
            generalize y3.alloc (.cells #[.bool false, .slice none 0 0] 30) = y4 at *
            have zy4 : W4.heap.size ≤ y4.heap.size := BB4.size
            have zk4 : y3.heap.size < y4.heap.size := zz4
            refine hK.out _ _ ?_ (fun hHeld3 => ?_)
            · exact keep4 k4 (Nat.le_refl _) (by assumption)
            clear hK K
            (try simp only [Act.put, List.setIfInBounds_toArray, List.set_cons_zero, List.set_cons_succ])
            refine wpAnyH_ready (rs := [9]) (by kernel_rfl) (by simp) ?_
            refine AllReadyH.cons (by simp only [List.getElem?_toArray, List.getElem?_cons_succ, List.getElem?_cons_zero]; rfl) (fun K hK => ?_) AllReadyH.nil
            go_simp
            have q0 := FU4
            have HS5 : y4.cell? ⟨w.heap.size, 0, none⟩ = some (.bool p) ∧ y4.cell? ⟨w.heap.size, 1, none⟩ = some (.slice ao n c) ∧ y4.cell? ⟨RY, 0, none⟩ = some (.bool py) ∧ y4.cell? ⟨RY, 1, none⟩ = some (.slice aoy ny cy) := by assumption
            have FU5 := put2_same (x' := .bool pu) (y' := .slice aou nu cu) q0
            have sz5 : W4.heap.size ≤ y1.heap.size ∧ W4.heap.size ≤ y3.heap.size ∧ y3.heap.size ≠ y1.heap.size := ⟨zy1, zy3, by omega⟩
            have FV5 := put2_other (R := y1.heap.size) (x' := .bool pu) (y' := .slice aou nu cu) (by omega) FV4
            have UU5 := UU4.store2 q0.1 q0.2.1 (.bool pu) (.slice aou nu cu)
            have VV5 := VV4.store2 q0.1 q0.2.1 (.bool pu) (.slice aou nu cu)
            have BB5 := below_store2 (R := y1.heap.size) BB4 (by omega) (.bool pu) (.slice aou nu cu)
            have KS5 := And.intro (put2_cells (R := y1.heap.size) (x' := .bool pu) (y' := .slice aou nu cu) (by omega) ⟨HS5.1, HS5.2.1⟩) (put2_cells (R := y1.heap.size) (x' := .bool pu) (y' := .slice aou nu cu) (by omega) ⟨HS5.2.2.1, HS5.2.2.2⟩)
            clear q0 HS5
            generalize (y4.setCell ⟨y1.heap.size, 0, none⟩ (.bool pu)).setCell ⟨y1.heap.size, 1, none⟩ (.slice aou nu cu) = y5 at *
            refine hK.out _ _ ?_ (fun hHeld4 => ?_)
            · exact ⟨KS5.1.1, KS5.1.2, KS5.2.1, KS5.2.2⟩
            clear hK K
            (try simp only [Act.put, List.setIfInBounds_toArray, List.set_cons_zero, List.set_cons_succ])
            refine wpAnyH_ready (rs := [10]) (by kernel_rfl) (by simp) ?_
            refine AllReadyH.cons (by simp only [List.getElem?_toArray, List.getElem?_cons_succ, List.getElem?_cons_zero]; rfl) (fun K hK => ?_) AllReadyH.nil
            go_simp
            have q0 := FV5
            have HS6 : y5.cell? ⟨w.heap.size, 0, none⟩ = some (.bool p) ∧ y5.cell? ⟨w.heap.size, 1, none⟩ = some (.slice ao n c) ∧ y5.cell? ⟨RY, 0, none⟩ = some (.bool py) ∧ y5.cell? ⟨RY, 1, none⟩ = some (.slice aoy ny cy) := by assumption
            have FV6 := put2_same (x' := .bool pv) (y' := .slice aov nv cv) q0
            have sz6 : W4.heap.size ≤ y3.heap.size ∧ W4.heap.size ≤ y1.heap.size ∧ y1.heap.size ≠ y3.heap.size := ⟨zy3, zy1, by omega⟩
            have FU6 := put2_other (R := y3.heap.size) (x' := .bool pv) (y' := .slice aov nv cv) (by omega) FU5
            have UU6 := UU5.store2 q0.1 q0.2.1 (.bool pv) (.slice aov nv cv)
            have VV6 := VV5.store2 q0.1 q0.2.1 (.bool pv) (.slice aov nv cv)
            have BB6 := below_store2 (R := y3.heap.size) BB5 (by omega) (.bool pv) (.slice aov nv cv)
            have KS6 := And.intro (put2_cells (R := y3.heap.size) (x' := .bool pv) (y' := .slice aov nv cv) (by omega) ⟨HS6.1, HS6.2.1⟩) (put2_cells (R := y3.heap.size) (x' := .bool pv) (y' := .slice aov nv cv) (by omega) ⟨HS6.2.2.1, HS6.2.2.2⟩)
            clear q0 HS6
            generalize (y5.setCell ⟨y3.heap.size, 0, none⟩ (.bool pv)).setCell ⟨y3.heap.size, 1, none⟩ (.slice aov nv cv) = y6 at *
            refine hK.out _ _ ?_ (fun hHeld5 => ?_)
            · exact ⟨KS6.1.1, KS6.1.2, KS6.2.1, KS6.2.2⟩
            clear hK K
            (try simp only [Act.put, List.setIfInBounds_toArray, List.set_cons_zero, List.set_cons_succ])
            refine wpAnyH_done (by kernel_rfl) ?_ _
            go_wp2_with fail
            go_meet
            exact ⟨y1.heap.size, y3.heap.size, pu, aou, nu, cu, pv, aov, nv, cv, rfl, rfl, FU6.1, FU6.2.1, FV6.1, FV6.2.1, UU6, VV6, BB6⟩
          refine AllReadyH.cons (by simp only [List.getElem?_toArray, List.getElem?_cons_succ, List.getElem?_cons_zero]; rfl) (fun K hK => ?_) ?_
          ·
            go_simp
            have k3 : Below y2.heap.size y2 (y2.alloc (.cells #[.bool false, .slice none 0 0] 30)) := (Below.refl _ _).alloc (Nat.le_refl _) _
            have zz3 : y2.heap.size < (y2.alloc (.cells #[.bool false, .slice none 0 0] 30)).heap.size := by simp
            have FV3 := resW y2 30 (.bool false) (.slice none 0 0)
            have BB3 := BB2.trans (k3.mono BB2.size)
            have IA3 := IA2.below k3
            have YY3 := YY2.below k3
            have XX3 := XX2.below k3
            have FU3 := keepW k3 (Nat.le_refl _) FU2
            generalize y2.alloc (.cells #[.bool false, .slice none 0 0] 30) = y3 at *
            have zy3 : W4.heap.size ≤ y3.heap.size := BB3.size
            have zk3 : y2.heap.size < y3.heap.size := zz3
            refine hK.out _ _ ?_ (fun hHeld2 => ?_)
            · exact keep4 k3 (Nat.le_refl _) (by assumption)
            clear hK K
            (try simp only [Act.put, List.setIfInBounds_toArray, List.set_cons_zero, List.set_cons_succ])
            refine wpAnyH_ready (rs := [3]) (by kernel_rfl) (by simp) ?_
            refine AllReadyH.cons (by simp only [List.getElem?_toArray, List.getElem?_cons_succ, List.getElem?_cons_zero]; rfl) (fun K hK => ?_) AllReadyH.nil
            go_simp
            refine (rover_any _ _ _ _ _ XX3 YY3 hy0 (by omega) (by omega)).mono ?_
            rintro e y4 ⟨vu, vv, rfl, UU4, VV4, k4⟩
            obtain ⟨pu, aou, nu, cu, rfl⟩ := UU4.open
            obtain ⟨pv, aov, nv, cv, rfl⟩ := VV4.open
            go_wp2_with fail
            have BB4 := BB3.trans (k4.mono BB3.size)
            have IA4 := IA3.below k4
            have YY4 := YY3.below k4
            have XX4 := XX3.below k4
            have FU4 := keepW k4 (Nat.le_refl _) FU3
            have FV4 := keepW k4 (Nat.le_refl _) FV3
            have zy4 : W4.heap.size ≤ y4.heap.size := BB4.size
            have zk4 : y3.heap.size ≤ y4.heap.size := by have := k4.size; omega
            refine hK.out _ _ ?_ (fun hHeld3 => ?_)
            · exact keep4 k4 (Nat.le_refl _) (by assumption)
            clear hK K
            (try simp only [Act.put, List.setIfInBounds_toArray, List.set_cons_zero, List.set_cons_succ])
            refine wpAnyH_take (i := 4) (v := ?_) (by simp only [List.getElem?_toArray, List.getElem?_cons_succ, List.getElem?_cons_zero]; rfl) (by kernel_rfl) (by kernel_rfl) (by kernel_rfl) (by exact fun _ _ _ h => h) (Or.inl ⟨by rfl, ?_⟩) (by assumption) ?_
            rotate_left
            · (intro w hSw; (try dsimp only at hSw); go_simp; (try with_reducible rfl))
            (try simp only [Act.put, List.setIfInBounds_toArray, List.set_cons_zero, List.set_cons_succ])
            refine wpAnyH_take (i := 5) (v := ?_) (by simp only [List.getElem?_toArray, List.getElem?_cons_succ, List.getElem?_cons_zero]; rfl) (by kernel_rfl) (by kernel_rfl) (by kernel_rfl) (by exact fun _ _ _ h => h) (Or.inl ⟨by rfl, ?_⟩) (by assumption) ?_
            rotate_left
            · (intro w hSw; (try dsimp only at hSw); go_simp; (try with_reducible rfl))
            (try simp only [Act.put, List.setIfInBounds_toArray, List.set_cons_zero, List.set_cons_succ])
            refine wpAnyH_take (i := 6) (v := ?_) (by simp only [List.getElem?_toArray, List.getElem?_cons_succ, List.getElem?_cons_zero]; rfl) (by kernel_rfl) (by kernel_rfl) (by kernel_rfl) (by exact fun _ _ _ h => h) (Or.inl ⟨by rfl, ?_⟩) (by assumption) ?_
            rotate_left
            · (intro w hSw; (try dsimp only at hSw); go_simp; (try with_reducible rfl))
            (try simp only [Act.put, List.setIfInBounds_toArray, List.set_cons_zero, List.set_cons_succ])
            refine wpAnyH_ready (rs := [9]) (by kernel_rfl) (by simp) ?_
            refine AllReadyH.cons (by simp only [List.getElem?_toArray, List.getElem?_cons_succ, List.getElem?_cons_zero]; rfl) (fun K hK => ?_) AllReadyH.nil
            go_simp
            have q0 := FU4
            have HS5 : y4.cell? ⟨w.heap.size, 0, none⟩ = some (.bool p) ∧ y4.cell? ⟨w.heap.size, 1, none⟩ = some (.slice ao n c) ∧ y4.cell? ⟨RY, 0, none⟩ = some (.bool py) ∧ y4.cell? ⟨RY, 1, none⟩ = some (.slice aoy ny cy) := by assumption
            have FU5 := put2_same (x' := .bool pu) (y' := .slice aou nu cu) q0
            have sz5 : W4.heap.size ≤ y1.heap.size ∧ W4.heap.size ≤ y2.heap.size ∧ y2.heap.size ≠ y1.heap.size := ⟨zy1, zy2, by omega⟩
            have FV5 := put2_other (R := y1.heap.size) (x' := .bool pu) (y' := .slice aou nu cu) (by omega) FV4
            have UU5 := UU4.store2 q0.1 q0.2.1 (.bool pu) (.slice aou nu cu)
            have VV5 := VV4.store2 q0.1 q0.2.1 (.bool pu) (.slice aou nu cu)
            have BB5 := below_store2 (R := y1.heap.size) BB4 (by omega) (.bool pu) (.slice aou nu cu)
            have KS5 := And.intro (put2_cells (R := y1.heap.size) (x' := .bool pu) (y' := .slice aou nu cu) (by omega) ⟨HS5.1, HS5.2.1⟩) (put2_cells (R := y1.heap.size) (x' := .bool pu) (y' := .slice aou nu cu) (by omega) ⟨HS5.2.2.1, HS5.2.2.2⟩)
            clear q0 HS5
            generalize (y4.setCell ⟨y1.heap.size, 0, none⟩ (.bool pu)).setCell ⟨y1.heap.size, 1, none⟩ (.slice aou nu cu) = y5 at *
            refine hK.out _ _ ?_ (fun hHeld4 => ?_)
            · exact ⟨KS5.1.1, KS5.1.2, KS5.2.1, KS5.2.2⟩
            clear hK K
            (try simp only [Act.put, List.setIfInBounds_toArray, List.set_cons_zero, List.set_cons_succ])
            refine wpAnyH_ready (rs := [10]) (by kernel_rfl) (by simp) ?_
            refine AllReadyH.cons (by simp only [List.getElem?_toArray, List.getElem?_cons_succ, List.getElem?_cons_zero]; rfl) (fun K hK => ?_) AllReadyH.nil
            go_simp
            have q0 := FV5
            have HS6 : y5.cell? ⟨w.heap.size, 0, none⟩ = some (.bool p) ∧ y5.cell? ⟨w.heap.size, 1, none⟩ = some (.slice ao n c) ∧ y5.cell? ⟨RY, 0, none⟩ = some (.bool py) ∧ y5.cell? ⟨RY, 1, none⟩ = some (.slice aoy ny cy) := by assumption
            have FV6 := put2_same (x' := .bool pv) (y' := .slice aov nv cv) q0
            have sz6 : W4.heap.size ≤ y2.heap.size ∧ W4.heap.size ≤ y1.heap.size ∧ y1.heap.size ≠ y2.heap.size := ⟨zy2, zy1, by omega⟩
            have FU6 := put2_other (R := y2.heap.size) (x' := .bool pv) (y' := .slice aov nv cv) (by omega) FU5
            have UU6 := UU5.store2 q0.1 q0.2.1 (.bool pv) (.slice aov nv cv)
            have VV6 := VV5.store2 q0.1 q0.2.1 (.bool pv) (.slice aov nv cv)
            have BB6 := below_store2 (R := y2.heap.size) BB5 (by omega) (.bool pv) (.slice aov nv cv)
            have KS6 := And.intro (put2_cells (R := y2.heap.size) (x' := .bool pv) (y' := .slice aov nv cv) (by omega) ⟨HS6.1, HS6.2.1⟩) (put2_cells (R := y2.heap.size) (x' := .bool pv) (y' := .slice aov nv cv) (by omega) ⟨HS6.2.2.1, HS6.2.2.2⟩)
            clear q0 HS6
            generalize (y5.setCell ⟨y2.heap.size, 0, none⟩ (.bool pv)).setCell ⟨y2.heap.size, 1, none⟩ (.slice aov nv cv) = y6 at *
            refine hK.out _ _ ?_ (fun hHeld5 => ?_)
            · exact ⟨KS6.1.1, KS6.1.2, KS6.2.1, KS6.2.2⟩
            clear hK K
            (try simp only [Act.put, List.setIfInBounds_toArray, List.set_cons_zero, List.set_cons_succ])
            refine wpAnyH_done (by kernel_rfl) ?_ _
            go_wp2_with fail
            go_meet
            exact ⟨y1.heap.size, y2.heap.size, pu, aou, nu, cu, pv, aov, nv, cv, rfl, rfl, FU6.1, FU6.2.1, FV6.1, FV6.2.1, UU6, VV6, BB6⟩
          exact AllReadyH.nil
        refine AllReadyH.cons (by simp only [List.getElem?_toArray, List.getElem?_cons_succ, List.getElem?_cons_zero]; rfl) (fun K hK => ?_) ?_
        ·
          go_simp
          have k2 : Below y1.heap.size y1 (y1.alloc (.cells #[.bool false, .slice none 0 0] 30)) := (Below.refl _ _).alloc (Nat.le_refl _) _
          have zz2 : y1.heap.size < (y1.alloc (.cells #[.bool false, .slice none 0 0] 30)).heap.size := by simp
          have FV2 := resW y1 30 (.bool false) (.slice none 0 0)
          have BB2 := BB1.trans (k2.mono BB1.size)
          have IA2 := IA1.below k2
          have YY2 := YY1.below k2
          have XX2 := XX1.below k2
          generalize y1.alloc (.cells #[.bool false, .slice none 0 0] 30) = y2 at *
          have zy2 : W4.heap.size ≤ y2.heap.size := BB2.size
          have zk2 : y1.heap.size < y2.heap.size := zz2
          refine hK.out _ _ ?_ (fun hHeld1 => ?_)
          · exact keep4 k2 (Nat.le_refl _) (by assumption)
          clear hK K
          (try simp only [Act.put, List.setIfInBounds_toArray, List.set_cons_zero, List.set_cons_succ])
          refine wpAnyH_ready (rs := [3, 7]) (by kernel_rfl) (by simp) ?_
          refine AllReadyH.cons (by simp only [List.getElem?_toArray, List.getElem?_cons_succ, List.getElem?_cons_zero]; rfl) (fun K hK => ?_) ?_
          ·
            go_simp
            refine (rover_any _ _ _ _ _ XX2 YY2 hy0 (by omega) (by omega)).mono ?_
            rintro e y3 ⟨vu, vv, rfl, UU3, VV3, k3⟩
            obtain ⟨pu, aou, nu, cu, rfl⟩ := UU3.open
            obtain ⟨pv, aov, nv, cv, rfl⟩ := VV3.open
            go_wp2_with fail
            have BB3 := BB2.trans (k3.mono BB2.size)
            have IA3 := IA2.below k3
            have YY3 := YY2.below k3
            have XX3 := XX2.below k3
            have FV3 := keepW k3 (Nat.le_refl _) FV2
            have zy3 : W4.heap.size ≤ y3.heap.size := BB3.size
            have zk3 : y2.heap.size ≤ y3.heap.size := by have := k3.size; omega
            refine hK.out _ _ ?_ (fun hHeld2 => ?_)
            · exact keep4 k3 (Nat.le_refl _) (by assumption)
            clear hK K
            (try simp only [Act.put, List.setIfInBounds_toArray, List.set_cons_zero, List.set_cons_succ])
            refine wpAnyH_take (i := 4) (v := ?_) (by simp only [List.getElem?_toArray, List.getElem?_cons_succ, List.getElem?_cons_zero]; rfl) (by kernel_rfl) (by kernel_rfl) (by kernel_rfl) (by exact fun _ _ _ h => h) (Or.inl ⟨by rfl, ?_⟩) (by assumption) ?_
            rotate_left
            · (intro w hSw; (try dsimp only at hSw); go_simp; (try with_reducible rfl))
            (try simp only [Act.put, List.setIfInBounds_toArray, List.set_cons_zero, List.set_cons_succ])
            refine wpAnyH_take (i := 5) (v := ?_) (by simp only [List.getElem?_toArray, List.getElem?_cons_succ, List.getElem?_cons_zero]; rfl) (by kernel_rfl) (by kernel_rfl) (by kernel_rfl) (by exact fun _ _ _ h => h) (Or.inl ⟨by rfl, ?_⟩) (by assumption) ?_
            rotate_left
            · (intro w hSw; (try dsimp only at hSw); go_simp; (try with_reducible rfl))
            (try simp only [Act.put, List.setIfInBounds_toArray, List.set_cons_zero, List.set_cons_succ])
            refine wpAnyH_take (i := 6) (v := ?_) (by simp only [List.getElem?_toArray, List.getElem?_cons_succ, List.getElem?_cons_zero]; rfl) (by kernel_rfl) (by kernel_rfl) (by kernel_rfl) (by exact fun _ _ _ h => h) (Or.inl ⟨by rfl, ?_⟩) (by assumption) ?_
            rotate_left
            · (intro w hSw; (try dsimp only at hSw); go_simp; (try with_reducible rfl))
            (try simp only [Act.put, List.setIfInBounds_toArray, List.set_cons_zero, List.set_cons_succ])
            refine wpAnyH_ready (rs := [7]) (by kernel_rfl) (by simp) ?_
            refine AllReadyH.cons (by simp only [List.getElem?_toArray, List.getElem?_cons_succ, List.getElem?_cons_zero]; rfl) (fun K hK => ?_) AllReadyH.nil
            go_simp
            have k4 : Below y3.heap.size y3 (y3.alloc (.cells #[.bool false, .slice none 0 0] 30)) := (Below.refl _ _).alloc (Nat.le_refl _) _
            have zz4 : y3.heap.size < (y3.alloc (.cells #[.bool false, .slice none 0 0] 30)).heap.size := by simp
            have FU4 := resW y3 30 (.bool false) (.slice none 0 0)
            have BB4 := BB3.trans (k4.mono BB3.size)
            have IA4 := IA3.below k4
            have YY4 := YY3.below k4
            have XX4 := XX3.below k4
            have UU4 := UU3.below k4
            have VV4 := VV3.below k4
            have FV4 := keepW k4 (Nat.le_refl _) FV3
            generalize y3.alloc (.cells #[.bool false, .slice none 0 0] 30) = y4 at *
            have zy4 : W4.heap.size ≤ y4.heap.size := BB4.size
            have zk4 : y3.heap.size < y4.heap.size := zz4
            refine hK.out _ _ ?_ (fun hHeld3 => ?_)
            · exact keep4 k4 (Nat.le_refl _) (by assumption)
            clear hK K
            (try simp only [Act.put, List.setIfInBounds_toArray, List.set_cons_zero, List.set_cons_succ])
            refine wpAnyH_ready (rs := [9]) (by kernel_rfl) (by simp) ?_
            refine AllReadyH.cons (by simp only [List.getElem?_toArray, List.getElem?_cons_succ, List.getElem?_cons_zero]; rfl) (fun K hK => ?_) AllReadyH.nil
            go_simp
            have q0 := FU4
            have HS5 : y4.cell? ⟨w.heap.size, 0, none⟩ = some (.bool p) ∧ y4.cell? ⟨w.heap.size, 1, none⟩ = some (.slice ao n c) ∧ y4.cell? ⟨RY, 0, none⟩ = some (.bool py) ∧ y4.cell? ⟨RY, 1, none⟩ = some (.slice aoy ny cy) := by assumption
            have FU5 := put2_same (x' := .bool pu) (y' := .slice aou nu cu) q0
            have sz5 : W4.heap.size ≤ y3.heap.size ∧ W4.heap.size ≤ y1.heap.size ∧ y1.heap.size ≠ y3.heap.size := ⟨zy3, zy1, by omega⟩
            have FV5 := put2_other (R := y3.heap.size) (x' := .bool pu) (y' := .slice aou nu cu) (by omega) FV4
            have UU5 := UU4.store2 q0.1 q0.2.1 (.bool pu) (.slice aou nu cu)
            have VV5 := VV4.store2 q0.1 q0.2.1 (.bool pu) (.slice aou nu cu)
            have BB5 := below_store2 (R := y3.heap.size) BB4 (by omega) (.bool pu) (.slice aou nu cu)
            have KS5 := And.intro (put2_cells (R := y3.heap.size) (x' := .bool pu) (y' := .slice aou nu cu) (by omega) ⟨HS5.1, HS5.2.1⟩) (put2_cells (R := y3.heap.size) (x' := .bool pu) (y' := .slice aou nu cu) (by omega) ⟨HS5.2.2.1, HS5.2.2.2⟩)
            clear q0 HS5
            generalize (y4.setCell ⟨y3.heap.size, 0, none⟩ (.bool pu)).setCell ⟨y3.heap.size, 1, none⟩ (.slice aou nu cu) = y5 at *
            refine hK.out _ _ ?_ (fun hHeld4 => ?_)
            · exact ⟨KS5.1.1, KS5.1.2, KS5.2.1, KS5.2.2⟩
            clear hK K
            (try simp only [Act.put, List.setIfInBounds_toArray, List.set_cons_zero, List.set_cons_succ])
            refine wpAnyH_ready (rs := [10]) (by kernel_rfl) (by simp) ?_
            refine AllReadyH.cons (by simp only [List.getElem?_toArray, List.getElem?_cons_succ, List.getElem?_cons_zero]; rfl) (fun K hK => ?_) AllReadyH.nil
            go_simp
            have q0 := FV5
            have HS6 : y5.cell? ⟨w.heap.size, 0, none⟩ = some (.bool p) ∧ y5.cell? ⟨w.heap.size, 1, none⟩ = some (.slice ao n c) ∧ y5.cell? ⟨RY, 0, none⟩ = some (.bool py) ∧ y5.cell? ⟨RY, 1, none⟩ = some (.slice aoy ny cy) := by assumption
            have FV6 := put2_same (x' := .bool pv) (y' := .slice aov nv cv) q0
            have sz6 : W4.heap.size ≤ y1.heap.size ∧ W4.heap.size ≤ y3.heap.size ∧ y3.heap.size ≠ y1.heap.size := ⟨zy1, zy3, by omega⟩
            have FU6 := put2_other (R := y1.heap.size) (x' := .bool pv) (y' := .slice aov nv cv) (by omega) FU5
            have UU6 := UU5.store2 q0.1 q0.2.1 (.bool pv) (.slice aov nv cv)
            have VV6 := VV5.store2 q0.1 q0.2.1 (.bool pv) (.slice aov nv cv)
            have BB6 := below_store2 (R := y1.heap.size) BB5 (by omega) (.bool pv) (.slice aov nv cv)
            have KS6 := And.intro (put2_cells (R := y1.heap.size) (x' := .bool pv) (y' := .slice aov nv cv) (by omega) ⟨HS6.1, HS6.2.1⟩) (put2_cells (R := y1.heap.size) (x' := .bool pv) (y' := .slice aov nv cv) (by omega) ⟨HS6.2.2.1, HS6.2.2.2⟩)
            clear q0 HS6
            generalize (y5.setCell ⟨y1.heap.size, 0, none⟩ (.bool pv)).setCell ⟨y1.heap.size, 1, none⟩ (.slice aov nv cv) = y6 at *
            refine hK.out _ _ ?_ (fun hHeld5 => ?_)
            · exact ⟨KS6.1.1, KS6.1.2, KS6.2.1, KS6.2.2⟩
            clear hK K
            (try simp only [Act.put, List.setIfInBounds_toArray, List.set_cons_zero, List.set_cons_succ])
            refine wpAnyH_done (by kernel_rfl) ?_ _
            go_wp2_with fail
            go_meet
            exact ⟨y3.heap.size, y1.heap.size, pu, aou, nu, cu, pv, aov, nv, cv, rfl, rfl, FU6.1, FU6.2.1, FV6.1, FV6.2.1, UU6, VV6, BB6⟩
          refine AllReadyH.cons (by simp only [List.getElem?_toArray, List.getElem?_cons_succ, List.getElem?_cons_zero]; rfl) (fun K hK => ?_) ?_
          ·
            go_simp
            have k3 : Below y2.heap.size y2 (y2.alloc (.cells #[.bool false, .slice none 0 0] 30)) := (Below.refl _ _).alloc (Nat.le_refl _) _
            have zz3 : y2.heap.size < (y2.alloc (.cells #[.bool false, .slice none 0 0] 30)).heap.size := by simp
            have FU3 := resW y2 30 (.bool false) (.slice none 0 0)
            have BB3 := BB2.trans (k3.mono BB2.size)
            have IA3 := IA2.below k3
            have YY3 := YY2.below k3
            have XX3 := XX2.below k3
            have FV3 := keepW k3 (Nat.le_refl _) FV2
            generalize y2.alloc (.cells #[.bool false, .slice none 0 0] 30) = y3 at *
            have zy3 : W4.heap.size ≤ y3.heap.size := BB3.size
            have zk3 : y2.heap.size < y3.heap.size := zz3
            refine hK.out _ _ ?_ (fun hHeld2 => ?_)
            · exact keep4 k3 (Nat.le_refl _) (by assumption)
            clear hK K
            (try simp only [Act.put, List.setIfInBounds_toArray, List.set_cons_zero, List.set_cons_succ])
            refine wpAnyH_ready (rs := [3]) (by kernel_rfl) (by simp) ?_
            refine AllReadyH.cons (by simp only [List.getElem?_toArray, List.getElem?_cons_succ, List.getElem?_cons_zero]; rfl) (fun K hK => ?_) AllReadyH.nil
            go_simp
            refine (rover_any _ _ _ _ _ XX3 YY3 hy0 (by omega) (by omega)).mono ?_
            rintro e y4 ⟨vu, vv, rfl, UU4, VV4, k4⟩
            obtain ⟨pu, aou, nu, cu, rfl⟩ := UU4.open
            obtain ⟨pv, aov, nv, cv, rfl⟩ := VV4.open
            go_wp2_with fail
            have BB4 := BB3.trans (k4.mono BB3.size)
            have IA4 := IA3.below k4
            have YY4 := YY3.below k4
            have XX4 := XX3.below k4
            have FU4 := keepW k4 (Nat.le_refl _) FU3
            have FV4 := keepW k4 (Nat.le_refl _) FV3
            have zy4 : W4.heap.size ≤ y4.heap.size := BB4.size
            have zk4 : y3.heap.size ≤ y4.heap.size := by have := k4.size; omega
            refine hK.out _ _ ?_ (fun hHeld3 => ?_)
            · exact keep4 k4 (Nat.le_refl _) (by assumption)
            clear hK K
            (try simp only [Act.put, List.setIfInBounds_toArray, List.set_cons_zero, List.set_cons_succ])
            refine wpAnyH_take (i := 4) (v := ?_) (by simp only [List.getElem?_toArray, List.getElem?_cons_succ, List.getElem?_cons_zero]; rfl) (by kernel_rfl) (by kernel_rfl) (by kernel_rfl) (by exact fun _ _ _ h => h) (Or.inl ⟨by rfl, ?_⟩) (by assumption) ?_
            rotate_left
            · (intro w hSw; (try dsimp only at hSw); go_simp; (try with_reducible rfl))
            (try simp only [Act.put, List.setIfInBounds_toArray, List.set_cons_zero, List.set_cons_succ])
            refine wpAnyH_take (i := 5) (v := ?_) (by simp only [List.getElem?_toArray, List.getElem?_cons_succ, List.getElem?_cons_zero]; rfl) (by kernel_rfl) (by kernel_rfl) (by kernel_rfl) (by exact fun _ _ _ h => h) (Or.inl ⟨by rfl, ?_⟩) (by assumption) ?_
            rotate_left
            · (intro w hSw; (try dsimp only at hSw); go_simp; (try with_reducible rfl))
            (try simp only [Act.put, List.setIfInBounds_toArray, List.set_cons_zero, List.set_cons_succ])
            refine wpAnyH_take (i := 6) (v := ?_) (by simp only [List.getElem?_toArray, List.getElem?_cons_succ, List.getElem?_cons_zero]; rfl) (by kernel_rfl) (by kernel_rfl) (by kernel_rfl) (by exact fun _ _ _ h => h) (Or.inl ⟨by rfl, ?_⟩) (by assumption) ?_
            rotate_left
            · (intro w hSw; (try dsimp only at hSw); go_simp; (try with_reducible rfl))
            (try simp only [Act.put, List.setIfInBounds_toArray, List.set_cons_zero, List.set_cons_succ])
            refine wpAnyH_ready (rs := [9]) (by kernel_rfl) (by simp) ?_
            refine AllReadyH.cons (by simp only [List.getElem?_toArray, List.getElem?_cons_succ, List.getElem?_cons_zero]; rfl) (fun K hK => ?_) AllReadyH.nil
            go_simp
            have q0 := FU4
            have HS5 : y4.cell? ⟨w.heap.size, 0, none⟩ = some (.bool p) ∧ y4.cell? ⟨w.heap.size, 1, none⟩ = some (.slice ao n c) ∧ y4.cell? ⟨RY, 0, none⟩ = some (.bool py) ∧ y4.cell? ⟨RY, 1, none⟩ = some (.slice aoy ny cy) := by assumption
            have FU5 := put2_same (x' := .bool pu) (y' := .slice aou nu cu) q0
            have sz5 : W4.heap.size ≤ y2.heap.size ∧ W4.heap.size ≤ y1.heap.size ∧ y1.heap.size ≠ y2.heap.size := ⟨zy2, zy1, by omega⟩
            have FV5 := put2_other (R := y2.heap.size) (x' := .bool pu) (y' := .slice aou nu cu) (by omega) FV4
            have UU5 := UU4.store2 q0.1 q0.2.1 (.bool pu) (.slice aou nu cu)
            have VV5 := VV4.store2 q0.1 q0.2.1 (.bool pu) (.slice aou nu cu)
            have BB5 := below_store2 (R := y2.heap.size) BB4 (by omega) (.bool pu) (.slice aou nu cu)
            have KS5 := And.intro (put2_cells (R := y2.heap.size) (x' := .bool pu) (y' := .slice aou nu cu) (by omega) ⟨HS5.1, HS5.2.1⟩) (put2_cells (R := y2.heap.size) (x' := .bool pu) (y' := .slice aou nu cu) (by omega) ⟨HS5.2.2.1, HS5.2.2.2⟩)
            clear q0 HS5
            generalize (y4.setCell ⟨y2.heap.size, 0, none⟩ (.bool pu)).setCell ⟨y2.heap.size, 1, none⟩ (.slice aou nu cu) = y5 at *
            refine hK.out _ _ ?_ (fun hHeld4 => ?_)
            · exact ⟨KS5.1.1, KS5.1.2, KS5.2.1, KS5.2.2⟩
            clear hK K
            (try simp only [Act.put, List.setIfInBounds_toArray, List.set_cons_zero, List.set_cons_succ])
            refine wpAnyH_ready (rs := [10]) (by kernel_rfl) (by simp) ?_
            refine AllReadyH.cons (by simp only [List.getElem?_toArray, List.getElem?_cons_succ, List.getElem?_cons_zero]; rfl) (fun K hK => ?_) AllReadyH.nil
            go_simp
            have q0 := FV5
            have HS6 : y5.cell? ⟨w.heap.size, 0, none⟩ = some (.bool p) ∧ y5.cell? ⟨w.heap.size, 1, none⟩ = some (.slice ao n c) ∧ y5.cell? ⟨RY, 0, none⟩ = some (.bool py) ∧ y5.cell? ⟨RY, 1, none⟩ = some (.slice aoy ny cy) := by assumption
            have FV6 := put2_same (x' := .bool pv) (y' := .slice aov nv cv) q0
            have sz6 : W4.heap.size ≤ y1.heap.size ∧ W4.heap.size ≤ y2.heap.size ∧ y2.heap.size ≠ y1.heap.size := ⟨zy1, zy2, by omega⟩
            have FU6 := put2_other (R := y1.heap.size) (x' := .bool pv) (y' := .slice aov nv cv) (by omega) FU5
            have UU6 := UU5.store2 q0.1 q0.2.1 (.bool pv) (.slice aov nv cv)
            have VV6 := VV5.store2 q0.1 q0.2.1 (.bool pv) (.slice aov nv cv)
            have BB6 := below_store2 (R := y1.heap.size) BB5 (by omega) (.bool pv) (.slice aov nv cv)
            have KS6 := And.intro (put2_cells (R := y1.heap.size) (x' := .bool pv) (y' := .slice aov nv cv) (by omega) ⟨HS6.1, HS6.2.1⟩) (put2_cells (R := y1.heap.size) (x' := .bool pv) (y' := .slice aov nv cv) (by omega) ⟨HS6.2.2.1, HS6.2.2.2⟩)
            clear q0 HS6
            generalize (y5.setCell ⟨y1.heap.size, 0, none⟩ (.bool pv)).setCell ⟨y1.heap.size, 1, none⟩ (.slice aov nv cv) = y6 at *
            refine hK.out _ _ ?_ (fun hHeld5 => ?_)
            · exact ⟨KS6.1.1, KS6.1.2, KS6.2.1, KS6.2.2⟩
            clear hK K
            (try simp only [Act.put, List.setIfInBounds_toArray, List.set_cons_zero, List.set_cons_succ])
            refine wpAnyH_done (by kernel_rfl) ?_ _
            go_wp2_with fail
            go_meet
            exact ⟨y2.heap.size, y1.heap.size, pu, aou, nu, cu, pv, aov, nv, cv, rfl, rfl, FU6.1, FU6.2.1, FV6.1, FV6.2.1, UU6, VV6, BB6⟩
          exact AllReadyH.nil
        exact AllReadyH.nil
      refine AllReadyH.cons (by simp only [List.getElem?_toArray, List.getElem?_cons_succ, List.getElem?_cons_zero]; rfl) (fun K hK => ?_) ?_
      ·
        go_simp
        have k1 : Below y0.heap.size y0 (y0.alloc (.cells #[.bool false, .slice none 0 0] 30)) := (Below.refl _ _).alloc (Nat.le_refl _) _
        have zz1 : y0.heap.size < (y0.alloc (.cells #[.bool false, .slice none 0 0] 30)).heap.size := by simp
        have FU1 := resW y0 30 (.bool false) (.slice none 0 0)
        have BB1 := BB0.trans (k1.mono BB0.size)
        have IA1 := IA0.below k1
        have YY1 := YY0.below k1
        generalize y0.alloc (.cells #[.bool false, .slice none 0 0] 30) = y1 at *
        have zy1 : W4.heap.size ≤ y1.heap.size := BB1.size
        have zk1 : y0.heap.size < y1.heap.size := zz1
        refine hK.out _ _ ?_ (fun hHeld0 => ?_)
        · exact keep4 k1 (Nat.le_refl _) (by assumption)
        clear hK K
        (try simp only [Act.put, List.setIfInBounds_toArray, List.set_cons_zero, List.set_cons_succ])
        refine wpAnyH_ready (rs := [1, 8]) (by kernel_rfl) (by simp) ?_
        refine AllReadyH.cons (by simp only [List.getElem?_toArray, List.getElem?_cons_succ, List.getElem?_cons_zero]; rfl) (fun K hK => ?_) ?_
        ·
          go_simp
          refine (rfrom_any _ _ _ _ IA1 (by omega)).mono ?_
          rintro e y2 ⟨vx, rfl, XX2, k2⟩
          go_wp2_with fail
          have BB2 := BB1.trans (k2.mono BB1.size)
          have IA2 := IA1.below k2
          have YY2 := YY1.below k2
          have FU2 := keepW k2 (Nat.le_refl _) FU1
          have zy2 : W4.heap.size ≤ y2.heap.size := BB2.size
          have zk2 : y1.heap.size ≤ y2.heap.size := by have := k2.size; omega
          refine hK.out _ _ ?_ (fun hHeld1 => ?_)
          · exact keep4 k2 (Nat.le_refl _) (by assumption)
          clear hK K
          (try simp only [Act.put, List.setIfInBounds_toArray, List.set_cons_zero, List.set_cons_succ])
          refine wpAnyH_ready (rs := [3, 8]) (by kernel_rfl) (by simp) ?_
          refine AllReadyH.cons (by simp only [List.getElem?_toArray, List.getElem?_cons_succ, List.getElem?_cons_zero]; rfl) (fun K hK => ?_) ?_
          ·
            go_simp
            refine (rover_any _ _ _ _ _ XX2 YY2 hy0 (by omega) (by omega)).mono ?_
            rintro e y3 ⟨vu, vv, rfl, UU3, VV3, k3⟩
            obtain ⟨pu, aou, nu, cu, rfl⟩ := UU3.open
            obtain ⟨pv, aov, nv, cv, rfl⟩ := VV3.open
            go_wp2_with fail
            have BB3 := BB2.trans (k3.mono BB2.size)
            have IA3 := IA2.below k3
            have YY3 := YY2.below k3
            have XX3 := XX2.below k3
            have FU3 := keepW k3 (Nat.le_refl _) FU2
            have zy3 : W4.heap.size ≤ y3.heap.size := BB3.size
            have zk3 : y2.heap.size ≤ y3.heap.size := by have := k3.size; omega
            refine hK.out _ _ ?_ (fun hHeld2 => ?_)
            · exact keep4 k3 (Nat.le_refl _) (by assumption)
            clear hK K
            (try simp only [Act.put, List.setIfInBounds_toArray, List.set_cons_zero, List.set_cons_succ])
            refine wpAnyH_take (i := 4) (v := ?_) (by simp only [List.getElem?_toArray, List.getElem?_cons_succ, List.getElem?_cons_zero]; rfl) (by kernel_rfl) (by kernel_rfl) (by kernel_rfl) (by exact fun _ _ _ h => h) (Or.inl ⟨by rfl, ?_⟩) (by assumption) ?_
            rotate_left
            · (intro w hSw; (try dsimp only at hSw); go_simp; (try with_reducible rfl))
            (try simp only [Act.put, List.setIfInBounds_toArray, List.set_cons_zero, List.set_cons_succ])
            refine wpAnyH_take (i := 5) (v := ?_) (by simp only [List.getElem?_toArray, List.getElem?_cons_succ, List.getElem?_cons_zero]; rfl) (by kernel_rfl) (by kernel_rfl) (by kernel_rfl) (by exact fun _ _ _ h => h) (Or.inl ⟨by rfl, ?_⟩) (by assumption) ?_
            rotate_left
            · (intro w hSw; (try dsimp only at hSw); go_simp; (try with_reducible rfl))
            (try simp only [Act.put, List.setIfInBounds_toArray, List.set_cons_zero, List.set_cons_succ])
            refine wpAnyH_take (i := 6) (v := ?_) (by simp only [List.getElem?_toArray, List.getElem?_cons_succ, List.getElem?_cons_zero]; rfl) (by kernel_rfl) (by kernel_rfl) (by kernel_rfl) (by exact fun _ _ _ h => h) (Or.inl ⟨by rfl, ?_⟩) (by assumption) ?_
            rotate_left
            · (intro w hSw; (try dsimp only at hSw); go_simp; (try with_reducible rfl))
            (try simp only [Act.put, List.setIfInBounds_toArray, List.set_cons_zero, List.set_cons_succ])
            refine wpAnyH_ready (rs := [8]) (by kernel_rfl) (by simp) ?_
            refine AllReadyH.cons (by simp only [List.getElem?_toArray, List.getElem?_cons_succ, List.getElem?_cons_zero]; rfl) (fun K hK => ?_) AllReadyH.nil
            go_simp
            have k4 : Below y3.heap.size y3 (y3.alloc (.cells #[.bool false, .slice none 0 0] 30)) := (Below.refl _ _).alloc (Nat.le_refl _) _
            have zz4 : y3.heap.size < (y3.alloc (.cells #[.bool false, .slice none 0 0] 30)).heap.size := by simp
            have FV4 := resW y3 30 (.bool false) (.slice none 0 0)
            have BB4 := BB3.trans (k4.mono BB3.size)
            have IA4 := IA3.below k4
            have YY4 := YY3.below k4
            have XX4 := XX3.below k4
            have UU4 := UU3.below k4
            have VV4 := VV3.below k4
            have FU4 := keepW k4 (Nat.le_refl _) FU3
            generalize y3.alloc (.cells #[.bool false, .slice none 0 0] 30) = y4 at *
            have zy4 : W4.heap.size ≤ y4.heap.size := BB4.size
            have zk4 : y3.heap.size < y4.heap.size := zz4
            refine hK.out _ _ ?_ (fun hHeld3 => ?_)
            · exact keep4 k4 (Nat.le_refl _) (by assumption)
            clear hK K
            (try simp only [Act.put, List.setIfInBounds_toArray, List.set_cons_zero, List.set_cons_succ])
            refine wpAnyH_ready (rs := [9]) (by kernel_rfl) (by simp) ?_
            refine AllReadyH.cons (by simp only [List.getElem?_toArray, List.getElem?_cons_succ, List.getElem?_cons_zero]; rfl) (fun K hK => ?_) AllReadyH.nil
            go_simp
            have q0 := FU4
            have HS5 : y4.cell? ⟨w.heap.size, 0, none⟩ = some (.bool p) ∧ y4.cell? ⟨w.heap.size, 1, none⟩ = some (.slice ao n c) ∧ y4.cell? ⟨RY, 0, none⟩ = some (.bool py) ∧ y4.cell? ⟨RY, 1, none⟩ = some (.slice aoy ny cy) := by assumption
            have FU5 := put2_same (x' := .bool pu) (y' := .slice aou nu cu) q0
            have sz5 : W4.heap.size ≤ y0.heap.size ∧ W4.heap.size ≤ y3.heap.size ∧ y3.heap.size ≠ y0.heap.size := ⟨zy0, zy3, by omega⟩
            have FV5 := put2_other (R := y0.heap.size) (x' := .bool pu) (y' := .slice aou nu cu) (by omega) FV4
            have UU5 := UU4.store2 q0.1 q0.2.1 (.bool pu) (.slice aou nu cu)
            have VV5 := VV4.store2 q0.1 q0.2.1 (.bool pu) (.slice aou nu cu)
            have BB5 := below_store2 (R := y0.heap.size) BB4 (by omega) (.bool pu) (.slice aou nu cu)
            have KS5 := And.intro (put2_cells (R := y0.heap.size) (x' := .bool pu) (y' := .slice aou nu cu) (by omega) ⟨HS5.1, HS5.2.1⟩) (put2_cells (R := y0.heap.size) (x' := .bool pu) (y' := .slice aou nu cu) (by omega) ⟨HS5.2.2.1, HS5.2.2.2⟩)
            clear q0 HS5
            generalize (y4.setCell ⟨y0.heap.size, 0, none⟩ (.bool pu)).setCell ⟨y0.heap.size, 1, none⟩ (.slice aou nu cu) = y5 at *
            refine hK.out _ _ ?_ (fun hHeld4 => ?_)
            · exact ⟨KS5.1.1, KS5.1.2, KS5.2.1, KS5.2.2⟩
            clear hK K
            (try simp only [Act.put, List.setIfInBounds_toArray, List.set_cons_zero, List.set_cons_succ])
            refine wpAnyH_ready (rs := [10]) (by kernel_rfl) (by simp) ?_
            refine AllReadyH.cons (by simp only [List.getElem?_toArray, List.getElem?_cons_succ, List.getElem?_cons_zero]; rfl) (fun K hK => ?_) AllReadyH.nil
            go_simp
            have q0 := FV5
            have HS6 : y5.cell? ⟨w.heap.size, 0, none⟩ = some (.bool p) ∧ y5.cell? ⟨w.heap.size, 1, none⟩ = some (.slice ao n c) ∧ y5.cell? ⟨RY, 0, none⟩ = some (.bool py) ∧ y5.cell? ⟨RY, 1, none⟩ = some (.slice aoy ny cy) := by assumption
            have FV6 := put2_same (x' := .bool pv) (y' := .slice aov nv cv) q0
            have sz6 : W4.heap.size ≤ y3.heap.size ∧ W4.heap.size ≤ y0.heap.size ∧ y0.heap.size ≠ y3.heap.size := ⟨zy3, zy0, by omega⟩
            have FU6 := put2_other (R := y3.heap.size) (x' := .bool pv) (y' := .slice aov nv cv) (by omega) FU5
            have UU6 := UU5.store2 q0.1 q0.2.1 (.bool pv) (.slice aov nv cv)
            have VV6 := VV5.store2 q0.1 q0.2.1 (.bool pv) (.slice aov nv cv)
            have BB6 := below_store2 (R := y3.heap.size) BB5 (by omega) (.bool pv) (.slice aov nv cv)
            have KS6 := And.intro (put2_cells (R := y3.heap.size) (x' := .bool pv) (y' := .slice aov nv cv) (by omega) ⟨HS6.1, HS6.2.1⟩) (put2_cells (R := y3.heap.size) (x' := .bool pv) (y' := .slice aov nv cv) (by omega) ⟨HS6.2.2.1, HS6.2.2.2⟩)
            clear q0 HS6
            generalize (y5.setCell ⟨y3.heap.size, 0, none⟩ (.bool pv)).setCell ⟨y3.heap.size, 1, none⟩ (.slice aov nv cv) = y6 at *
            refine hK.out _ _ ?_ (fun hHeld5 => ?_)
            · exact ⟨KS6.1.1, KS6.1.2, KS6.2.1, KS6.2.2⟩
            clear hK K
            (try simp only [Act.put, List.setIfInBounds_toArray, List.set_cons_zero, List.set_cons_succ])
            refine wpAnyH_done (by kernel_rfl) ?_ _
            go_wp2_with fail
            go_meet
            exact ⟨y0.heap.size, y3.heap.size, pu, aou, nu, cu, pv, aov, nv, cv, rfl, rfl, FU6.1, FU6.2.1, FV6.1, FV6.2.1, UU6, VV6, BB6⟩
          refine AllReadyH.cons (by simp only [List.getElem?_toArray, List.getElem?_cons_succ, List.getElem?_cons_zero]; rfl) (fun K hK => ?_) ?_
          ·
            go_simp
            have k3 : Below y2.heap.size y2 (y2.alloc (.cells #[.bool false, .slice none 0 0] 30)) := (Below.refl _ _).alloc (Nat.le_refl _) _
            have zz3 : y2.heap.size < (y2.alloc (.cells #[.bool false, .slice none 0 0] 30)).heap.size := by simp
            have FV3 := resW y2 30 (.bool false) (.slice none 0 0)
            have BB3 := BB2.trans (k3.mono BB2.size)
            have IA3 := IA2.below k3
            have YY3 := YY2.below k3
            have XX3 := XX2.below k3
            have FU3 := keepW k3 (Nat.le_refl _) FU2
            generalize y2.alloc (.cells #[.bool false, .slice none 0 0] 30) = y3 at *
            have zy3 : W4.heap.size ≤ y3.heap.size := BB3.size
            have zk3 : y2.heap.size < y3.heap.size := zz3
            refine hK.out _ _ ?_ (fun hHeld2 => ?_)
            · exact keep4 k3 (Nat.le_refl _) (by assumption)
            clear hK K
            (try simp only [Act.put, List.setIfInBounds_toArray, List.set_cons_zero, List.set_cons_succ])
            refine wpAnyH_ready (rs := [3]) (by kernel_rfl) (by simp) ?_
            refine AllReadyH.cons (by simp only [List.getElem?_toArray, List.getElem?_cons_succ, List.getElem?_cons_zero]; rfl) (fun K hK => ?_) AllReadyH.nil
            go_simp
            refine (rover_any _ _ _ _ _ XX3 YY3 hy0 (by omega) (by omega)).mono ?_
            rintro e y4 ⟨vu, vv, rfl, UU4, VV4, k4⟩
            obtain ⟨pu, aou, nu, cu, rfl⟩ := UU4.open
            obtain ⟨pv, aov, nv, cv, rfl⟩ := VV4.open
            go_wp2_with fail
            have BB4 := BB3.trans (k4.mono BB3.size)
            have IA4 := IA3.below k4
            have YY4 := YY3.below k4
            have XX4 := XX3.below k4
            have FU4 := keepW k4 (Nat.le_refl _) FU3
            have FV4 := keepW k4 (Nat.le_refl _) FV3
            have zy4 : W4.heap.size ≤ y4.heap.size := BB4.size
            have zk4 : y3.heap.size ≤ y4.heap.size := by have := k4.size; omega
            refine hK.out _ _ ?_ (fun hHeld3 => ?_)
            · exact keep4 k4 (Nat.le_refl _) (by assumption)
            clear hK K
            (try simp only [Act.put, List.setIfInBounds_toArray, List.set_cons_zero, List.set_cons_succ])
            refine wpAnyH_take (i := 4) (v := ?_) (by simp only [List.getElem?_toArray, List.getElem?_cons_succ, List.getElem?_cons_zero]; rfl) (by kernel_rfl) (by kernel_rfl) (by kernel_rfl) (by exact fun _ _ _ h => h) (Or.inl ⟨by rfl, ?_⟩) (by assumption) ?_
            rotate_left
            · (intro w hSw; (try dsimp only at hSw); go_simp; (try with_reducible rfl))
            (try simp only [Act.put, List.setIfInBounds_toArray, List.set_cons_zero, List.set_cons_succ])
            refine wpAnyH_take (i := 5) (v := ?_) (by simp only [List.getElem?_toArray, List.getElem?_cons_succ, List.getElem?_cons_zero]; rfl) (by kernel_rfl) (by kernel_rfl) (by kernel_rfl) (by exact fun _ _ _ h => h) (Or.inl ⟨by rfl, ?_⟩) (by assumption) ?_
            rotate_left
            · (intro w hSw; (try dsimp only at hSw); go_simp; (try with_reducible rfl))
            (try simp only [Act.put, List.setIfInBounds_toArray, List.set_cons_zero, List.set_cons_succ])
            refine wpAnyH_take (i := 6) (v := ?_) (by simp only [List.getElem?_toArray, List.getElem?_cons_succ, List.getElem?_cons_zero]; rfl) (by kernel_rfl) (by kernel_rfl) (by kernel_rfl) (by exact fun _ _ _ h => h) (Or.inl ⟨by rfl, ?_⟩) (by assumption) ?_
            rotate_left
            · (intro w hSw; (try dsimp only at hSw); go_simp; (try with_reducible rfl))
            (try simp only [Act.put, List.setIfInBounds_toArray, List.set_cons_zero, List.set_cons_succ])
            refine wpAnyH_ready (rs := [9]) (by kernel_rfl) (by simp) ?_
            refine AllReadyH.cons (by simp only [List.getElem?_toArray, List.getElem?_cons_succ, List.getElem?_cons_zero]; rfl) (fun K hK => ?_) AllReadyH.nil
            go_simp
            have q0 := FU4
            have HS5 : y4.cell? ⟨w.heap.size, 0, none⟩ = some (.bool p) ∧ y4.cell? ⟨w.heap.size, 1, none⟩ = some (.slice ao n c) ∧ y4.cell? ⟨RY, 0, none⟩ = some (.bool py) ∧ y4.cell? ⟨RY, 1, none⟩ = some (.slice aoy ny cy) := by assumption
            have FU5 := put2_same (x' := .bool pu) (y' := .slice aou nu cu) q0
            have sz5 : W4.heap.size ≤ y0.heap.size ∧ W4.heap.size ≤ y2.heap.size ∧ y2.heap.size ≠ y0.heap.size := ⟨zy0, zy2, by omega⟩
            have FV5 := put2_other (R := y0.heap.size) (x' := .bool pu) (y' := .slice aou nu cu) (by omega) FV4
            have UU5 := UU4.store2 q0.1 q0.2.1 (.bool pu) (.slice aou nu cu)
            have VV5 := VV4.store2 q0.1 q0.2.1 (.bool pu) (.slice aou nu cu)
            have BB5 := below_store2 (R := y0.heap.size) BB4 (by omega) (.bool pu) (.slice aou nu cu)
            have KS5 := And.intro (put2_cells (R := y0.heap.size) (x' := .bool pu) (y' := .slice aou nu cu) (by omega) ⟨HS5.1, HS5.2.1⟩) (put2_cells (R := y0.heap.size) (x' := .bool pu) (y' := .slice aou nu cu) (by omega) ⟨HS5.2.2.1, HS5.2.2.2⟩)
            clear q0 HS5
            generalize (y4.setCell ⟨y0.heap.size, 0, none⟩ (.bool pu)).setCell ⟨y0.heap.size, 1, none⟩ (.slice aou nu cu) = y5 at *
            refine hK.out _ _ ?_ (fun hHeld4 => ?_)
            · exact ⟨KS5.1.1, KS5.1.2, KS5.2.1, KS5.2.2⟩
            clear hK K
            (try simp only [Act.put, List.setIfInBounds_toArray, List.set_cons_zero, List.set_cons_succ])
            refine wpAnyH_ready (rs := [10]) (by kernel_rfl) (by simp) ?_
            refine AllReadyH.cons (by simp only [List.getElem?_toArray, List.getElem?_cons_succ, List.getElem?_cons_zero]; rfl) (fun K hK => ?_) AllReadyH.nil
            go_simp
            have q0 := FV5
            have HS6 : y5.cell? ⟨w.heap.size, 0, none⟩ = some (.bool p) ∧ y5.cell? ⟨w.heap.size, 1, none⟩ = some (.slice ao n c) ∧ y5.cell? ⟨RY, 0, none⟩ = some (.bool py) ∧ y5.cell? ⟨RY, 1, none⟩ = some (.slice aoy ny cy) := by assumption
            have FV6 := put2_same (x' := .bool pv) (y' := .slice aov nv cv) q0
            have sz6 : W4.heap.size ≤ y2.heap.size ∧ W4.heap.size ≤ y0.heap.size ∧ y0.heap.size ≠ y2.heap.size := ⟨zy2, zy0, by omega⟩
            have FU6 := put2_other (R := y2.heap.size) (x' := .bool pv) (y' := .slice aov nv cv) (by omega) FU5
            have UU6 := UU5.store2 q0.1 q0.2.1 (.bool pv) (.slice aov nv cv)
            have VV6 := VV5.store2 q0.1 q0.2.1 (.bool pv) (.slice aov nv cv)
            have BB6 := below_store2 (R := y2.heap.size) BB5 (by omega) (.bool pv) (.slice aov nv cv)
            have KS6 := And.intro (put2_cells (R := y2.heap.size) (x' := .bool pv) (y' := .slice aov nv cv) (by omega) ⟨HS6.1, HS6.2.1⟩) (put2_cells (R := y2.heap.size) (x' := .bool pv) (y' := .slice aov nv cv) (by omega) ⟨HS6.2.2.1, HS6.2.2.2⟩)
            clear q0 HS6
            generalize (y5.setCell ⟨y2.heap.size, 0, none⟩ (.bool pv)).setCell ⟨y2.heap.size, 1, none⟩ (.slice aov nv cv) = y6 at *
            refine hK.out _ _ ?_ (fun hHeld5 => ?_)
            · exact ⟨KS6.1.1, KS6.1.2, KS6.2.1, KS6.2.2⟩
            clear hK K
            (try simp only [Act.put, List.setIfInBounds_toArray, List.set_cons_zero, List.set_cons_succ])
            refine wpAnyH_done (by kernel_rfl) ?_ _
            go_wp2_with fail
            go_meet
            exact ⟨y0.heap.size, y2.heap.size, pu, aou, nu, cu, pv, aov, nv, cv, rfl, rfl, FU6.1, FU6.2.1, FV6.1, FV6.2.1, UU6, VV6, BB6⟩
          exact AllReadyH.nil
        refine AllReadyH.cons (by simp only [List.getElem?_toArray, List.getElem?_cons_succ, List.getElem?_cons_zero]; rfl) (fun K hK => ?_) ?_
        ·
          go_simp
          have k2 : Below y1.heap.size y1 (y1.alloc (.cells #[.bool false, .slice none 0 0] 30)) := (Below.refl _ _).alloc (Nat.le_refl _) _
          have zz2 : y1.heap.size < (y1.alloc (.cells #[.bool false, .slice none 0 0] 30)).heap.size := by simp
          have FV2 := resW y1 30 (.bool false) (.slice none 0 0)
          have BB2 := BB1.trans (k2.mono BB1.size)
          have IA2 := IA1.below k2
          have YY2 := YY1.below k2
          have FU2 := keepW k2 (Nat.le_refl _) FU1
          generalize y1.alloc (.cells #[.bool false, .slice none 0 0] 30) = y2 at *
          have zy2 : W4.heap.size ≤ y2.heap.size := BB2.size
          have zk2 : y1.heap.size < y2.heap.size := zz2
          refine hK.out _ _ ?_ (fun hHeld1 => ?_)
          · exact keep4 k2 (Nat.le_refl _) (by assumption)
          clear hK K
          (try simp only [Act.put, List.setIfInBounds_toArray, List.set_cons_zero, List.set_cons_succ])
          refine wpAnyH_ready (rs := [1]) (by kernel_rfl) (by simp) ?_
          refine AllReadyH.cons (by simp only [List.getElem?_toArray, List.getElem?_cons_succ, List.getElem?_cons_zero]; rfl) (fun K hK => ?_) AllReadyH.nil
          go_simp
          refine (rfrom_any _ _ _ _ IA2 (by omega)).mono ?_
          rintro e y3 ⟨vx, rfl, XX3, k3⟩
          go_wp2_with fail
          have BB3 := BB2.trans (k3.mono BB2.size)
          have IA3 := IA2.below k3
          have YY3 := YY2.below k3
          have FU3 := keepW k3 (Nat.le_refl _) FU2
          have FV3 := keepW k3 (Nat.le_refl _) FV2
          have zy3 : W4.heap.size ≤ y3.heap.size := BB3.size
          have zk3 : y2.heap.size ≤ y3.heap.size := by have := k3.size; omega
          refine hK.out _ _ ?_ (fun hHeld2 => ?_)
          · exact keep4 k3 (Nat.le_refl _) (by assumption)
          clear hK K
          (try simp only [Act.put, List.setIfInBounds_toArray, List.set_cons_zero, List.set_cons_succ])
          refine wpAnyH_ready (rs := [3]) (by kernel_rfl) (by simp) ?_
          refine AllReadyH.cons (by simp only [List.getElem?_toArray, List.getElem?_cons_succ, List.getElem?_cons_zero]; rfl) (fun K hK => ?_) AllReadyH.nil
          go_simp
          refine (rover_any _ _ _ _ _ XX3 YY3 hy0 (by omega) (by omega)).mono ?_
          rintro e y4 ⟨vu, vv, rfl, UU4, VV4, k4⟩
          obtain ⟨pu, aou, nu, cu, rfl⟩ := UU4.open
          obtain ⟨pv, aov, nv, cv, rfl⟩ := VV4.open
          go_wp2_with fail
          have BB4 := BB3.trans (k4.mono BB3.size)
          have IA4 := IA3.below k4
          have YY4 := YY3.below k4
          have XX4 := XX3.below k4
          have FU4 := keepW k4 (Nat.le_refl _) FU3
          have FV4 := keepW k4 (Nat.le_refl _) FV3
          have zy4 : W4.heap.size ≤ y4.heap.size := BB4.size
          have zk4 : y3.heap.size ≤ y4.heap.size := by have := k4.size; omega
          refine hK.out _ _ ?_ (fun hHeld3 => ?_)
          · exact keep4 k4 (Nat.le_refl _) (by assumption)
          clear hK K
          (try simp only [Act.put, List.setIfInBounds_toArray, List.set_cons_zero, List.set_cons_succ])
          refine wpAnyH_take (i := 4) (v := ?_) (by simp only [List.getElem?_toArray, List.getElem?_cons_succ, List.getElem?_cons_zero]; rfl) (by kernel_rfl) (by kernel_rfl) (by kernel_rfl) (by exact fun _ _ _ h => h) (Or.inl ⟨by rfl, ?_⟩) (by assumption) ?_
          rotate_left
          · (intro w hSw; (try dsimp only at hSw); go_simp; (try with_reducible rfl))
          (try simp only [Act.put, List.setIfInBounds_toArray, List.set_cons_zero, List.set_cons_succ])
          refine wpAnyH_take (i := 5) (v := ?_) (by simp only [List.getElem?_toArray, List.getElem?_cons_succ, List.getElem?_cons_zero]; rfl) (by kernel_rfl) (by kernel_rfl) (by kernel_rfl) (by exact fun _ _ _ h => h) (Or.inl ⟨by rfl, ?_⟩) (by assumption) ?_
          rotate_left
          · (intro w hSw; (try dsimp only at hSw); go_simp; (try with_reducible rfl))
          (try simp only [Act.put, List.setIfInBounds_toArray, List.set_cons_zero, List.set_cons_succ])
          refine wpAnyH_take (i := 6) (v := ?_) (by simp only [List.getElem?_toArray, List.getElem?_cons_succ, List.getElem?_cons_zero]; rfl) (by kernel_rfl) (by kernel_rfl) (by kernel_rfl) (by exact fun _ _ _ h => h) (Or.inl ⟨by rfl, ?_⟩) (by assumption) ?_
          rotate_left
          · (intro w hSw; (try dsimp only at hSw); go_simp; (try with_reducible rfl))
          (try simp only [Act.put, List.setIfInBounds_toArray, List.set_cons_zero, List.set_cons_succ])
          refine wpAnyH_ready (rs := [9]) (by kernel_rfl) (by simp) ?_
          refine AllReadyH.cons (by simp only [List.getElem?_toArray, List.getElem?_cons_succ, List.getElem?_cons_zero]; rfl) (fun K hK => ?_) AllReadyH.nil
          go_simp
          have q0 := FU4
          have HS5 : y4.cell? ⟨w.heap.size, 0, none⟩ = some (.bool p) ∧ y4.cell? ⟨w.heap.size, 1, none⟩ = some (.slice ao n c) ∧ y4.cell? ⟨RY, 0, none⟩ = some (.bool py) ∧ y4.cell? ⟨RY, 1, none⟩ = some (.slice aoy ny cy) := by assumption
          have FU5 := put2_same (x' := .bool pu) (y' := .slice aou nu cu) q0
          have sz5 : W4.heap.size ≤ y0.heap.size ∧ W4.heap.size ≤ y1.heap.size ∧ y1.heap.size ≠ y0.heap.size := ⟨zy0, zy1, by omega⟩
          have FV5 := put2_other (R := y0.heap.size) (x' := .bool pu) (y' := .slice aou nu cu) (by omega) FV4
          have UU5 := UU4.store2 q0.1 q0.2.1 (.bool pu) (.slice aou nu cu)
          have VV5 := VV4.store2 q0.1 q0.2.1 (.bool pu) (.slice aou nu cu)
          have BB5 := below_store2 (R := y0.heap.size) BB4 (by omega) (.bool pu) (.slice aou nu cu)
          have KS5 := And.intro (put2_cells (R := y0.heap.size) (x' := .bool pu) (y' := .slice aou nu cu) (by omega) ⟨HS5.1, HS5.2.1⟩) (put2_cells (R := y0.heap.size) (x' := .bool pu) (y' := .slice aou nu cu) (by omega) ⟨HS5.2.2.1, HS5.2.2.2⟩)
          clear q0 HS5
          generalize (y4.setCell ⟨y0.heap.size, 0, none⟩ (.bool pu)).setCell ⟨y0.heap.size, 1, none⟩ (.slice aou nu cu) = y5 at *
          refine hK.out _ _ ?_ (fun hHeld4 => ?_)
          · exact ⟨KS5.1.1, KS5.1.2, KS5.2.1, KS5.2.2⟩
          clear hK K
          (try simp only [Act.put, List.setIfInBounds_toArray, List.set_cons_zero, List.set_cons_succ])
          refine wpAnyH_ready (rs := [10]) (by kernel_rfl) (by simp) ?_
          refine AllReadyH.cons (by simp only [List.getElem?_toArray, List.getElem?_cons_succ, List.getElem?_cons_zero]; rfl) (fun K hK => ?_) AllReadyH.nil
          go_simp
          have q0 := FV5
          have HS6 : y5.cell? ⟨w.heap.size, 0, none⟩ = some (.bool p) ∧ y5.cell? ⟨w.heap.size, 1, none⟩ = some (.slice ao n c) ∧ y5.cell? ⟨RY, 0, none⟩ = some (.bool py) ∧ y5.cell? ⟨RY, 1, none⟩ = some (.slice aoy ny cy) := by assumption
          have FV6 := put2_same (x' := .bool pv) (y' := .slice aov nv cv) q0
          have sz6 : W4.heap.size ≤ y1.heap.size ∧ W4.heap.size ≤ y0.heap.size ∧ y0.heap.size ≠ y1.heap.size := ⟨zy1, zy0, by omega⟩
          have FU6 := put2_other (R := y1.heap.size) (x' := .bool pv) (y' := .slice aov nv cv) (by omega) FU5
          have UU6 := UU5.store2 q0.1 q0.2.1 (.bool pv) (.slice aov nv cv)
          have VV6 := VV5.store2 q0.1 q0.2.1 (.bool pv) (.slice aov nv cv)
          have BB6 := below_store2 (R := y1.heap.size) BB5 (by omega) (.bool pv) (.slice aov nv cv)
          have KS6 := And.intro (put2_cells (R := y1.heap.size) (x' := .bool pv) (y' := .slice aov nv cv) (by omega) ⟨HS6.1, HS6.2.1⟩) (put2_cells (R := y1.heap.size) (x' := .bool pv) (y' := .slice aov nv cv) (by omega) ⟨HS6.2.2.1, HS6.2.2.2⟩)
          clear q0 HS6
          generalize (y5.setCell ⟨y1.heap.size, 0, none⟩ (.bool pv)).setCell ⟨y1.heap.size, 1, none⟩ (.slice aov nv cv) = y6 at *
          refine hK.out _ _ ?_ (fun hHeld5 => ?_)
          · exact ⟨KS6.1.1, KS6.1.2, KS6.2.1, KS6.2.2⟩
          clear hK K
          (try simp only [Act.put, List.setIfInBounds_toArray, List.set_cons_zero, List.set_cons_succ])
          refine wpAnyH_done (by kernel_rfl) ?_ _
          go_wp2_with fail
          go_meet
          exact ⟨y0.heap.size, y1.heap.size, pu, aou, nu, cu, pv, aov, nv, cv, rfl, rfl, FU6.1, FU6.2.1, FV6.1, FV6.2.1, UU6, VV6, BB6⟩
        exact AllReadyH.nil
      refine AllReadyH.cons (by simp only [List.getElem?_toArray, List.getElem?_cons_succ, List.getElem?_cons_zero]; rfl) (fun K hK => ?_) ?_
      ·
        go_simp
        have k1 : Below y0.heap.size y0 (y0.alloc (.cells #[.bool false, .slice none 0 0] 30)) := (Below.refl _ _).alloc (Nat.le_refl _) _
        have zz1 : y0.heap.size < (y0.alloc (.cells #[.bool false, .slice none 0 0] 30)).heap.size := by simp
        have FV1 := resW y0 30 (.bool false) (.slice none 0 0)
        have BB1 := BB0.trans (k1.mono BB0.size)
        have IA1 := IA0.below k1
        have YY1 := YY0.below k1
        generalize y0.alloc (.cells #[.bool false, .slice none 0 0] 30) = y1 at *
        have zy1 : W4.heap.size ≤ y1.heap.size := BB1.size
        have zk1 : y0.heap.size < y1.heap.size := zz1
        refine hK.out _ _ ?_ (fun hHeld0 => ?_)
        · exact keep4 k1 (Nat.le_refl _) (by assumption)
        clear hK K
        (try simp only [Act.put, List.setIfInBounds_toArray, List.set_cons_zero, List.set_cons_succ])
        refine wpAnyH_ready (rs := [1, 7]) (by kernel_rfl) (by simp) ?_
        refine AllReadyH.cons (by simp only [List.getElem?_toArray, List.getElem?_cons_succ, List.getElem?_cons_zero]; rfl) (fun K hK => ?_) ?_
        ·
          go_simp
          refine (rfrom_any _ _ _ _ IA1 (by omega)).mono ?_
          rintro e y2 ⟨vx, rfl, XX2, k2⟩
          go_wp2_with fail
          have BB2 := BB1.trans (k2.mono BB1.size)
          have IA2 := IA1.below k2
          have YY2 := YY1.below k2
          have FV2 := keepW k2 (Nat.le_refl _) FV1
          have zy2 : W4.heap.size ≤ y2.heap.size := BB2.size
          have zk2 : y1.heap.size ≤ y2.heap.size := by have := k2.size; omega
          refine hK.out _ _ ?_ (fun hHeld1 => ?_)
          · exact keep4 k2 (Nat.le_refl _) (by assumption)
          clear hK K
          (try simp only [Act.put, List.setIfInBounds_toArray, List.set_cons_zero, List.set_cons_succ])
          refine wpAnyH_ready (rs := [3, 7]) (by kernel_rfl) (by simp) ?_
          refine AllReadyH.cons (by simp only [List.getElem?_toArray, List.getElem?_cons_succ, List.getElem?_cons_zero]; rfl) (fun K hK => ?_) ?_
          ·
            go_simp
            refine (rover_any _ _ _ _ _ XX2 YY2 hy0 (by omega) (by omega)).mono ?_
            rintro e y3 ⟨vu, vv, rfl, UU3, VV3, k3⟩
            obtain ⟨pu, aou, nu, cu, rfl⟩ := UU3.open
            obtain ⟨pv, aov, nv, cv, rfl⟩ := VV3.open
            go_wp2_with fail
            have BB3 := BB2.trans (k3.mono BB2.size)
            have IA3 := IA2.below k3
            have YY3 := YY2.below k3
            have XX3 := XX2.below k3
            have FV3 := keepW k3 (Nat.le_refl _) FV2
            have zy3 : W4.heap.size ≤ y3.heap.size := BB3.size
            have zk3 : y2.heap.size ≤ y3.heap.size := by have := k3.size; omega
            refine hK.out _ _ ?_ (fun hHeld2 => ?_)
            · exact keep4 k3 (Nat.le_refl _) (by assumption)
            clear hK K
            (try simp only [Act.put, List.setIfInBounds_toArray, List.set_cons_zero, List.set_cons_succ])
            refine wpAnyH_take (i := 4) (v := ?_) (by simp only [List.getElem?_toArray, List.getElem?_cons_succ, List.getElem?_cons_zero]; rfl) (by kernel_rfl) (by kernel_rfl) (by kernel_rfl) (by exact fun _ _ _ h => h) (Or.inl ⟨by rfl, ?_⟩) (by assumption) ?_
            rotate_left
            · (intro w hSw; (try dsimp only at hSw); go_simp; (try with_reducible rfl))
            (try simp only [Act.put, List.setIfInBounds_toArray, List.set_cons_zero, List.set_cons_succ])
            refine wpAnyH_take (i := 5) (v := ?_) (by simp only [List.getElem?_toArray, List.getElem?_cons_succ, List.getElem?_cons_zero]; rfl) (by kernel_rfl) (by kernel_rfl) (by kernel_rfl) (by exact fun _ _ _ h => h) (Or.inl ⟨by rfl, ?_⟩) (by assumption) ?_
            rotate_left
            · (intro w hSw; (try dsimp only at hSw); go_simp; (try with_reducible rfl))
            (try simp only [Act.put, List.setIfInBounds_toArray, List.set_cons_zero, List.set_cons_succ])
            refine wpAnyH_take (i := 6) (v := ?_) (by simp only [List.getElem?_toArray, List.getElem?_cons_succ, List.getElem?_cons_zero]; rfl) (by kernel_rfl) (by kernel_rfl) (by kernel_rfl) (by exact fun _ _ _ h => h) (Or.inl ⟨by rfl, ?_⟩) (by assumption) ?_
            rotate_left
            · (intro w hSw; (try dsimp only at hSw); go_simp; (try with_reducible rfl))
            (try simp only [Act.put, List.setIfInBounds_toArray, List.set_cons_zero, List.set_cons_succ])
            refine wpAnyH_ready (rs := [7]) (by kernel_rfl) (by simp) ?_
            refine AllReadyH.cons (by simp only [List.getElem?_toArray, List.getElem?_cons_succ, List.getElem?_cons_zero]; rfl) (fun K hK => ?_) AllReadyH.nil
            go_simp
            have k4 : Below y3.heap.size y3 (y3.alloc (.cells #[.bool false, .slice none 0 0] 30)) := (Below.refl _ _).alloc (Nat.le_refl _) _
            have zz4 : y3.heap.size < (y3.alloc (.cells #[.bool false, .slice none 0 0] 30)).heap.size := by simp
            have FU4 := resW y3 30 (.bool false) (.slice none 0 0)
            have BB4 := BB3.trans (k4.mono BB3.size)
            have IA4 := IA3.below k4
            have YY4 := YY3.below k4
            have XX4 := XX3.below k4
            have UU4 := UU3.below k4
            have VV4 := VV3.below k4
            have FV4 := keepW k4 (Nat.le_refl _) FV3
            generalize y3.alloc (.cells #[.bool false, .slice none 0 0] 30) = y4 at *
            have zy4 : W4.heap.size ≤ y4.heap.size := BB4.size
            have zk4 : y3.heap.size < y4.heap.size := zz4
            refine hK.out _ _ ?_ (fun hHeld3 => ?_)
            · exact keep4 k4 (Nat.le_refl _) (by assumption)
            clear hK K
            (try simp only [Act.put, List.setIfInBounds_toArray, List.set_cons_zero, List.set_cons_succ])
            refine wpAnyH_ready (rs := [9]) (by kernel_rfl) (by simp) ?_
            refine AllReadyH.cons (by simp only [List.getElem?_toArray, List.getElem?_cons_succ, List.getElem?_cons_zero]; rfl) (fun K hK => ?_) AllReadyH.nil
            go_simp
            have q0 := FU4
            have HS5 : y4.cell? ⟨w.heap.size, 0, none⟩ = some (.bool p) ∧ y4.cell? ⟨w.heap.size, 1, none⟩ = some (.slice ao n c) ∧ y4.cell? ⟨RY, 0, none⟩ = some (.bool py) ∧ y4.cell? ⟨RY, 1, none⟩ = some (.slice aoy ny cy) := by assumption
            have FU5 := put2_same (x' := .bool pu) (y' := .slice aou nu cu) q0
            have sz5 : W4.heap.size ≤ y3.heap.size ∧ W4.heap.size ≤ y0.heap.size ∧ y0.heap.size ≠ y3.heap.size := ⟨zy3, zy0, by omega⟩
            have FV5 := put2_other (R := y3.heap.size) (x' := .bool pu) (y' := .slice aou nu cu) (by omega) FV4
            have UU5 := UU4.store2 q0.1 q0.2.1 (.bool pu) (.slice aou nu cu)
            have VV5 := VV4.store2 q0.1 q0.2.1 (.bool pu) (.slice aou nu cu)
            have BB5 := below_store2 (R := y3.heap.size) BB4 (by omega) (.bool pu) (.slice aou nu cu)
            have KS5 := And.intro (put2_cells (R := y3.heap.size) (x' := .bool pu) (y' := .slice aou nu cu) (by omega) ⟨HS5.1, HS5.2.1⟩) (put2_cells (R := y3.heap.size) (x' := .bool pu) (y' := .slice aou nu cu) (by omega) ⟨HS5.2.2.1, HS5.2.2.2⟩)
            clear q0 HS5
            generalize (y4.setCell ⟨y3.heap.size, 0, none⟩ (.bool pu)).setCell ⟨y3.heap.size, 1, none⟩ (.slice aou nu cu) = y5 at *
            refine hK.out _ _ ?_ (fun hHeld4 => ?_)
            · exact ⟨KS5.1.1, KS5.1.2, KS5.2.1, KS5.2.2⟩
            clear hK K
            (try simp only [Act.put, List.setIfInBounds_toArray, List.set_cons_zero, List.set_cons_succ])
            refine wpAnyH_ready (rs := [10]) (by kernel_rfl) (by simp) ?_
            refine AllReadyH.cons (by simp only [List.getElem?_toArray, List.getElem?_cons_succ, List.getElem?_cons_zero]; rfl) (fun K hK => ?_) AllReadyH.nil
            go_simp
            have q0 := FV5
            have HS6 : y5.cell? ⟨w.heap.size, 0, none⟩ = some (.bool p) ∧ y5.cell? ⟨w.heap.size, 1, none⟩ = some (.slice ao n c) ∧ y5.cell? ⟨RY, 0, none⟩ = some (.bool py) ∧ y5.cell? ⟨RY, 1, none⟩ = some (.slice aoy ny cy) := by assumption
            have FV6 := put2_same (x' := .bool pv) (y' := .slice aov nv cv) q0
            have sz6 : W4.heap.size ≤ y0.heap.size ∧ W4.heap.size ≤ y3.heap.size ∧ y3.heap.size ≠ y0.heap.size := ⟨zy0, zy3, by omega⟩
            have FU6 := put2_other (R := y0.heap.size) (x' := .bool pv) (y' := .slice aov nv cv) (by omega) FU5
            have UU6 := UU5.store2 q0.1 q0.2.1 (.bool pv) (.slice aov nv cv)
            have VV6 := VV5.store2 q0.1 q0.2.1 (.bool pv) (.slice aov nv cv)
            have BB6 := below_store2 (R := y0.heap.size) BB5 (by omega) (.bool pv) (.slice aov nv cv)
            have KS6 := And.intro (put2_cells (R := y0.heap.size) (x' := .bool pv) (y' := .slice aov nv cv) (by omega) ⟨HS6.1, HS6.2.1⟩) (put2_cells (R := y0.heap.size) (x' := .bool pv) (y' := .slice aov nv cv) (by omega) ⟨HS6.2.2.1, HS6.2.2.2⟩)
            clear q0 HS6
            generalize (y5.setCell ⟨y0.heap.size, 0, none⟩ (.bool pv)).setCell ⟨y0.heap.size, 1, none⟩ (.slice aov nv cv) = y6 at *
            refine hK.out _ _ ?_ (fun hHeld5 => ?_)
            · exact ⟨KS6.1.1, KS6.1.2, KS6.2.1, KS6.2.2⟩
            clear hK K
            (try simp only [Act.put, List.setIfInBounds_toArray, List.set_cons_zero, List.set_cons_succ])
            refine wpAnyH_done (by kernel_rfl) ?_ _
            go_wp2_with fail
            go_meet
            exact ⟨y3.heap.size, y0.heap.size, pu, aou, nu, cu, pv, aov, nv, cv, rfl, rfl, FU6.1, FU6.2.1, FV6.1, FV6.2.1, UU6, VV6, BB6⟩
          refine AllReadyH.cons (by simp only [List.getElem?_toArray, List.getElem?_cons_succ, List.getElem?_cons_zero]; rfl) (fun K hK => ?_) ?_
          ·
            go_simp
            have k3 : Below y2.heap.size y2 (y2.alloc (.cells #[.bool false, .slice none 0 0] 30)) := (Below.refl _ _).alloc (Nat.le_refl _) _
            have zz3 : y2.heap.size < (y2.alloc (.cells #[.bool false, .slice none 0 0] 30)).heap.size := by simp
            have FU3 := resW y2 30 (.bool false) (.slice none 0 0)
            have BB3 := BB2.trans (k3.mono BB2.size)
            have IA3 := IA2.below k3
            have YY3 := YY2.below k3
            have XX3 := XX2.below k3
            have FV3 := keepW k3 (Nat.le_refl _) FV2
            generalize y2.alloc (.cells #[.bool false, .slice none 0 0] 30) = y3 at *
            have zy3 : W4.heap.size ≤ y3.heap.size := BB3.size
            have zk3 : y2.heap.size < y3.heap.size := zz3
            refine hK.out _ _ ?_ (fun hHeld2 => ?_)
            · exact keep4 k3 (Nat.le_refl _) (by assumption)
            clear hK K
            (try simp only [Act.put, List.setIfInBounds_toArray, List.set_cons_zero, List.set_cons_succ])
            refine wpAnyH_ready (rs := [3]) (by kernel_rfl) (by simp) ?_
            refine AllReadyH.cons (by simp only [List.getElem?_toArray, List.getElem?_cons_succ, List.getElem?_cons_zero]; rfl) (fun K hK => ?_) AllReadyH.nil
            go_simp
            refine (rover_any _ _ _ _ _ XX3 YY3 hy0 (by omega) (by omega)).mono ?_
            rintro e y4 ⟨vu, vv, rfl, UU4, VV4, k4⟩
            obtain ⟨pu, aou, nu, cu, rfl⟩ := UU4.open
            obtain ⟨pv, aov, nv, cv, rfl⟩ := VV4.open
            go_wp2_with fail
            have BB4 := BB3.trans (k4.mono BB3.size)
            have IA4 := IA3.below k4
            have YY4 := YY3.below k4
            have XX4 := XX3.below k4
            have FU4 := keepW k4 (Nat.le_refl _) FU3
            have FV4 := keepW k4 (Nat.le_refl _) FV3
            have zy4 : W4.heap.size ≤ y4.heap.size := BB4.size
            have zk4 : y3.heap.size ≤ y4.heap.size := by have := k4.size; omega
            refine hK.out _ _ ?_ (fun hHeld3 => ?_)
            · exact keep4 k4 (Nat.le_refl _) (by assumption)
            clear hK K
            (try simp only [Act.put, List.setIfInBounds_toArray, List.set_cons_zero, List.set_cons_succ])
            refine wpAnyH_take (i := 4) (v := ?_) (by simp only [List.getElem?_toArray, List.getElem?_cons_succ, List.getElem?_cons_zero]; rfl) (by kernel_rfl) (by kernel_rfl) (by kernel_rfl) (by exact fun _ _ _ h => h) (Or.inl ⟨by rfl, ?_⟩) (by assumption) ?_
            rotate_left
            · (intro w hSw; (try dsimp only at hSw); go_simp; (try with_reducible rfl))
            (try simp only [Act.put, List.setIfInBounds_toArray, List.set_cons_zero, List.set_cons_succ])
            refine wpAnyH_take (i := 5) (v := ?_) (by simp only [List.getElem?_toArray, List.getElem?_cons_succ, List.getElem?_cons_zero]; rfl) (by kernel_rfl) (by kernel_rfl) (by kernel_rfl) (by exact fun _ _ _ h => h) (Or.inl ⟨by rfl, ?_⟩) (by assumption) ?_
            rotate_left
            · (intro w hSw; (try dsimp only at hSw); go_simp; (try with_reducible rfl))
            (try simp only [Act.put, List.setIfInBounds_toArray, List.set_cons_zero, List.set_cons_succ])
            refine wpAnyH_take (i := 6) (v := ?_) (by simp only [List.getElem?_toArray, List.getElem?_cons_succ, List.getElem?_cons_zero]; rfl) (by kernel_rfl) (by kernel_rfl) (by kernel_rfl) (by exact fun _ _ _ h => h) (Or.inl ⟨by rfl, ?_⟩) (by assumption) ?_
            rotate_left
            · (intro w hSw; (try dsimp only at hSw); go_simp; (try with_reducible rfl))
            (try simp only [Act.put, List.setIfInBounds_toArray, List.set_cons_zero, List.set_cons_succ])
            refine wpAnyH_ready (rs := [9]) (by kernel_rfl) (by simp) ?_
            refine AllReadyH.cons (by simp only [List.getElem?_toArray, List.getElem?_cons_succ, List.getElem?_cons_zero]; rfl) (fun K hK => ?_) AllReadyH.nil
            go_simp
            have q0 := FU4
            have HS5 : y4.cell? ⟨w.heap.size, 0, none⟩ = some (.bool p) ∧ y4.cell? ⟨w.heap.size, 1, none⟩ = some (.slice ao n c) ∧ y4.cell? ⟨RY, 0, none⟩ = some (.bool py) ∧ y4.cell? ⟨RY, 1, none⟩ = some (.slice aoy ny cy) := by assumption
            have FU5 := put2_same (x' := .bool pu) (y' := .slice aou nu cu) q0
            have sz5 : W4.heap.size ≤ y2.heap.size ∧ W4.heap.size ≤ y0.heap.size ∧ y0.heap.size ≠ y2.heap.size := ⟨zy2, zy0, by omega⟩
            have FV5 := put2_other (R := y2.heap.size) (x' := .bool pu) (y' := .slice aou nu cu) (by omega) FV4
            have UU5 := UU4.store2 q0.1 q0.2.1 (.bool pu) (.slice aou nu cu)
            have VV5 := VV4.store2 q0.1 q0.2.1 (.bool pu) (.slice aou nu cu)
            have BB5 := below_store2 (R := y2.heap.size) BB4 (by omega) (.bool pu) (.slice aou nu cu)
            have KS5 := And.intro (put2_cells (R := y2.heap.size) (x' := .bool pu) (y' := .slice aou nu cu) (by omega) ⟨HS5.1, HS5.2.1⟩) (put2_cells (R := y2.heap.size) (x' := .bool pu) (y' := .slice aou nu cu) (by omega) ⟨HS5.2.2.1, HS5.2.2.2⟩)
            clear q0 HS5
            generalize (y4.setCell ⟨y2.heap.size, 0, none⟩ (.bool pu)).setCell ⟨y2.heap.size, 1, none⟩ (.slice aou nu cu) = y5 at *
            refine hK.out _ _ ?_ (fun hHeld4 => ?_)
            · exact ⟨KS5.1.1, KS5.1.2, KS5.2.1, KS5.2.2⟩
            clear hK K
            (try simp only [Act.put, List.setIfInBounds_toArray, List.set_cons_zero, List.set_cons_succ])
            refine wpAnyH_ready (rs := [10]) (by kernel_rfl) (by simp) ?_
            refine AllReadyH.cons (by simp only [List.getElem?_toArray, List.getElem?_cons_succ, List.getElem?_cons_zero]; rfl) (fun K hK => ?_) AllReadyH.nil
            go_simp
            have q0 := FV5
            have HS6 : y5.cell? ⟨w.heap.size, 0, none⟩ = some (.bool p) ∧ y5.cell? ⟨w.heap.size, 1, none⟩ = some (.slice ao n c) ∧ y5.cell? ⟨RY, 0, none⟩ = some (.bool py) ∧ y5.cell? ⟨RY, 1, none⟩ = some (.slice aoy ny cy) := by assumption
            have FV6 := put2_same (x' := .bool pv) (y' := .slice aov nv cv) q0
            have sz6 : W4.heap.size ≤ y0.heap.size ∧ W4.heap.size ≤ y2.heap.size ∧ y2.heap.size ≠ y0.heap.size := ⟨zy0, zy2, by omega⟩
            have FU6 := put2_other (R := y0.heap.size) (x' := .bool pv) (y' := .slice aov nv cv) (by omega) FU5
            have UU6 := UU5.store2 q0.1 q0.2.1 (.bool pv) (.slice aov nv cv)
            have VV6 := VV5.store2 q0.1 q0.2.1 (.bool pv) (.slice aov nv cv)
            have BB6 := below_store2 (R := y0.heap.size) BB5 (by omega) (.bool pv) (.slice aov nv cv)
            have KS6 := And.intro (put2_cells (R := y0.heap.size) (x' := .bool pv) (y' := .slice aov nv cv) (by omega) ⟨HS6.1, HS6.2.1⟩) (put2_cells (R := y0.heap.size) (x' := .bool pv) (y' := .slice aov nv cv) (by omega) ⟨HS6.2.2.1, HS6.2.2.2⟩)
            clear q0 HS6
            generalize (y5.setCell ⟨y0.heap.size, 0, none⟩ (.bool pv)).setCell ⟨y0.heap.size, 1, none⟩ (.slice aov nv cv) = y6 at *
            refine hK.out _ _ ?_ (fun hHeld5 => ?_)
            · exact ⟨KS6.1.1, KS6.1.2, KS6.2.1, KS6.2.2⟩
            clear hK K
            (try simp only [Act.put, List.setIfInBounds_toArray, List.set_cons_zero, List.set_cons_succ])
            refine wpAnyH_done (by kernel_rfl) ?_ _
            go_wp2_with fail
            go_meet
            exact ⟨y2.heap.size, y0.heap.size, pu, aou, nu, cu, pv, aov, nv, cv, rfl, rfl, FU6.1, FU6.2.1, FV6.1, FV6.2.1, UU6, VV6, BB6⟩
          exact AllReadyH.nil
        refine AllReadyH.cons (by simp only [List.getElem?_toArray, List.getElem?_cons_succ, List.getElem?_cons_zero]; rfl) (fun K hK => ?_) ?_
        ·
          go_simp
          have k2 : Below y1.heap.size y1 (y1.alloc (.cells #[.bool false, .slice none 0 0] 30)) := (Below.refl _ _).alloc (Nat.le_refl _) _
          have zz2 : y1.heap.size < (y1.alloc (.cells #[.bool false, .slice none 0 0] 30)).heap.size := by simp
          have FU2 := resW y1 30 (.bool false) (.slice none 0 0)
          have BB2 := BB1.trans (k2.mono BB1.size)
          have IA2 := IA1.below k2
          have YY2 := YY1.below k2
          have FV2 := keepW k2 (Nat.le_refl _) FV1
          generalize y1.alloc (.cells #[.bool false, .slice none 0 0] 30) = y2 at *
          have zy2 : W4.heap.size ≤ y2.heap.size := BB2.size
          have zk2 : y1.heap.size < y2.heap.size := zz2
          refine hK.out _ _ ?_ (fun hHeld1 => ?_)
          · exact keep4 k2 (Nat.le_refl _) (by assumption)
          clear hK K
          (try simp only [Act.put, List.setIfInBounds_toArray, List.set_cons_zero, List.set_cons_succ])
          refine wpAnyH_ready (rs := [1]) (by kernel_rfl) (by simp) ?_
          refine AllReadyH.cons (by simp only [List.getElem?_toArray, List.getElem?_cons_succ, List.getElem?_cons_zero]; rfl) (fun K hK => ?_) AllReadyH.nil
          go_simp
          refine (rfrom_any _ _ _ _ IA2 (by omega)).mono ?_
          rintro e y3 ⟨vx, rfl, XX3, k3⟩
          go_wp2_with fail
          have BB3 := BB2.trans (k3.mono BB2.size)
          have IA3 := IA2.below k3
          have YY3 := YY2.below k3
          have FU3 := keepW k3 (Nat.le_refl _) FU2
          have FV3 := keepW k3 (Nat.le_refl _) FV2
          have zy3 : W4.heap.size ≤ y3.heap.size := BB3.size
          have zk3 : y2.heap.size ≤ y3.heap.size := by have := k3.size; omega
          refine hK.out _ _ ?_ (fun hHeld2 => ?_)
          · exact keep4 k3 (Nat.le_refl _) (by assumption)
          clear hK K
          (try simp only [Act.put, List.setIfInBounds_toArray, List.set_cons_zero, List.set_cons_succ])
          refine wpAnyH_ready (rs := [3]) (by kernel_rfl) (by simp) ?_
          refine AllReadyH.cons (by simp only [List.getElem?_toArray, List.getElem?_cons_succ, List.getElem?_cons_zero]; rfl) (fun K hK => ?_) AllReadyH.nil
          go_simp
          refine (rover_any _ _ _ _ _ XX3 YY3 hy0 (by omega) (by omega)).mono ?_
          rintro e y4 ⟨vu, vv, rfl, UU4, VV4, k4⟩
          obtain ⟨pu, aou, nu, cu, rfl⟩ := UU4.open
          obtain ⟨pv, aov, nv, cv, rfl⟩ := VV4.open
          go_wp2_with fail
          have BB4 := BB3.trans (k4.mono BB3.size)
          have IA4 := IA3.below k4
          have YY4 := YY3.below k4
          have XX4 := XX3.below k4
          have FU4 := keepW k4 (Nat.le_refl _) FU3
          have FV4 := keepW k4 (Nat.le_refl _) FV3
          have zy4 : W4.heap.size ≤ y4.heap.size := BB4.size
          have zk4 : y3.heap.size ≤ y4.heap.size := by have := k4.size; omega
          refine hK.out _ _ ?_ (fun hHeld3 => ?_)
          · exact keep4 k4 (Nat.le_refl _) (by assumption)
          clear hK K
          (try simp only [Act.put, List.setIfInBounds_toArray, List.set_cons_zero, List.set_cons_succ])
          refine wpAnyH_take (i := 4) (v := ?_) (by simp only [List.getElem?_toArray, List.getElem?_cons_succ, List.getElem?_cons_zero]; rfl) (by kernel_rfl) (by kernel_rfl) (by kernel_rfl) (by exact fun _ _ _ h => h) (Or.inl ⟨by rfl, ?_⟩) (by assumption) ?_
          rotate_left
          · (intro w hSw; (try dsimp only at hSw); go_simp; (try with_reducible rfl))
          (try simp only [Act.put, List.setIfInBounds_toArray, List.set_cons_zero, List.set_cons_succ])
          refine wpAnyH_take (i := 5) (v := ?_) (by simp only [List.getElem?_toArray, List.getElem?_cons_succ, List.getElem?_cons_zero]; rfl) (by kernel_rfl) (by kernel_rfl) (by kernel_rfl) (by exact fun _ _ _ h => h) (Or.inl ⟨by rfl, ?_⟩) (by assumption) ?_
          rotate_left
          · (intro w hSw; (try dsimp only at hSw); go_simp; (try with_reducible rfl))
          (try simp only [Act.put, List.setIfInBounds_toArray, List.set_cons_zero, List.set_cons_succ])
          refine wpAnyH_take (i := 6) (v := ?_) (by simp only [List.getElem?_toArray, List.getElem?_cons_succ, List.getElem?_cons_zero]; rfl) (by kernel_rfl) (by kernel_rfl) (by kernel_rfl) (by exact fun _ _ _ h => h) (Or.inl ⟨by rfl, ?_⟩) (by assumption) ?_
          rotate_left
          · (intro w hSw; (try dsimp only at hSw); go_simp; (try with_reducible rfl))
          (try simp only [Act.put, List.setIfInBounds_toArray, List.set_cons_zero, List.set_cons_succ])
          refine wpAnyH_ready (rs := [9]) (by kernel_rfl) (by simp) ?_
          refine AllReadyH.cons (by simp only [List.getElem?_toArray, List.getElem?_cons_succ, List.getElem?_cons_zero]; rfl) (fun K hK => ?_) AllReadyH.nil
          go_simp
          have q0 := FU4
          have HS5 : y4.cell? ⟨w.heap.size, 0, none⟩ = some (.bool p) ∧ y4.cell? ⟨w.heap.size, 1, none⟩ = some (.slice ao n c) ∧ y4.cell? ⟨RY, 0, none⟩ = some (.bool py) ∧ y4.cell? ⟨RY, 1, none⟩ = some (.slice aoy ny cy) := by assumption
          have FU5 := put2_same (x' := .bool pu) (y' := .slice aou nu cu) q0
          have sz5 : W4.heap.size ≤ y1.heap.size ∧ W4.heap.size ≤ y0.heap.size ∧ y0.heap.size ≠ y1.heap.size := ⟨zy1, zy0, by omega⟩
          have FV5 := put2_other (R := y1.heap.size) (x' := .bool pu) (y' := .slice aou nu cu) (by omega) FV4
          have UU5 := UU4.store2 q0.1 q0.2.1 (.bool pu) (.slice aou nu cu)
          have VV5 := VV4.store2 q0.1 q0.2.1 (.bool pu) (.slice aou nu cu)
          have BB5 := below_store2 (R := y1.heap.size) BB4 (by omega) (.bool pu) (.slice aou nu cu)
          have KS5 := And.intro (put2_cells (R := y1.heap.size) (x' := .bool pu) (y' := .slice aou nu cu) (by omega) ⟨HS5.1, HS5.2.1⟩) (put2_cells (R := y1.heap.size) (x' := .bool pu) (y' := .slice aou nu cu) (by omega) ⟨HS5.2.2.1, HS5.2.2.2⟩)
          clear q0 HS5
          generalize (y4.setCell ⟨y1.heap.size, 0, none⟩ (.bool pu)).setCell ⟨y1.heap.size, 1, none⟩ (.slice aou nu cu) = y5 at *
          refine hK.out _ _ ?_ (fun hHeld4 => ?_)
          · exact ⟨KS5.1.1, KS5.1.2, KS5.2.1, KS5.2.2⟩
          clear hK K
          (try simp only [Act.put, List.setIfInBounds_toArray, List.set_cons_zero, List.set_cons_succ])
          refine wpAnyH_ready (rs := [10]) (by kernel_rfl) (by simp) ?_
          refine AllReadyH.cons (by simp only [List.getElem?_toArray, List.getElem?_cons_succ, List.getElem?_cons_zero]; rfl) (fun K hK => ?_) AllReadyH.nil
          go_simp
          have q0 := FV5
          have HS6 : y5.cell? ⟨w.heap.size, 0, none⟩ = some (.bool p) ∧ y5.cell? ⟨w.heap.size, 1, none⟩ = some (.slice ao n c) ∧ y5.cell? ⟨RY, 0, none⟩ = some (.bool py) ∧ y5.cell? ⟨RY, 1, none⟩ = some (.slice aoy ny cy) := by assumption
          have FV6 := put2_same (x' := .bool pv) (y' := .slice aov nv cv) q0
          have sz6 : W4.heap.size ≤ y0.heap.size ∧ W4.heap.size ≤ y1.heap.size ∧ y1.heap.size ≠ y0.heap.size := ⟨zy0, zy1, by omega⟩
          have FU6 := put2_other (R := y0.heap.size) (x' := .bool pv) (y' := .slice aov nv cv) (by omega) FU5
          have UU6 := UU5.store2 q0.1 q0.2.1 (.bool pv) (.slice aov nv cv)
          have VV6 := VV5.store2 q0.1 q0.2.1 (.bool pv) (.slice aov nv cv)
          have BB6 := below_store2 (R := y0.heap.size) BB5 (by omega) (.bool pv) (.slice aov nv cv)
          have KS6 := And.intro (put2_cells (R := y0.heap.size) (x' := .bool pv) (y' := .slice aov nv cv) (by omega) ⟨HS6.1, HS6.2.1⟩) (put2_cells (R := y0.heap.size) (x' := .bool pv) (y' := .slice aov nv cv) (by omega) ⟨HS6.2.2.1, HS6.2.2.2⟩)
          clear q0 HS6
          generalize (y5.setCell ⟨y0.heap.size, 0, none⟩ (.bool pv)).setCell ⟨y0.heap.size, 1, none⟩ (.slice aov nv cv) = y6 at *
          refine hK.out _ _ ?_ (fun hHeld5 => ?_)
          · exact ⟨KS6.1.1, KS6.1.2, KS6.2.1, KS6.2.2⟩
          clear hK K
          (try simp only [Act.put, List.setIfInBounds_toArray, List.set_cons_zero, List.set_cons_succ])
          refine wpAnyH_done (by kernel_rfl) ?_ _
          go_wp2_with fail
          go_meet
          exact ⟨y1.heap.size, y0.heap.size, pu, aou, nu, cu, pv, aov, nv, cv, rfl, rfl, FU6.1, FU6.2.1, FV6.1, FV6.2.1, UU6, VV6, BB6⟩
        exact AllReadyH.nil
      exact AllReadyH.nil
    case rest =>
      obtain ⟨RU, RV, pu, aou, nu, cu, pv, aov, nv, cv, rfl, rfl, g1, g2, g3, g4, U, V, hbW⟩ := hcut
      have E1 := keepW hbW (Nat.le_refl _) D1
      have E2 := keepW hbW (Nat.le_refl _) D2
      have E3 := keepW hbW (Nat.le_refl _) D3
      have S80 := And.intro E2.1 (And.intro E2.2.1 (And.intro E3.1 (And.intro E3.2.1 (And.intro E1.1 (And.intro E1.2.1 (And.intro g1 (And.intro g2 (And.intro g3 g4))))))))
      have Q0 := (Q6.below hbW).below (Below.refl _ _).drew
      have R0 := (R6.below hbW).below (Below.refl _ _).drew
      have J0 := (I7.below hbW).below (Below.refl _ _).drew
      have U0 := U.below (Below.refl _ _).drew
      have V0 := V.below (Below.refl _ _).drew
      have X0 := (B4'.trans (hbW.mono B4'.size)).drew
      have lq : nl W32 (x.fdiv y).natAbs ≤ 1000 := nl_fdiv lx (by omega)
      have lr : nl W32 (x.fmod y).natAbs ≤ 1000 := Nat.le_trans (nl_mono W32 _ _ (by decide) (Nat.le_of_lt (fmod_abs hy0))) (by omega)
      clear D0 D1 D2 D3 D4 E1 E2 E3 g1 g2 g3 g4 U V hbW Q6 R6 I6 I7 Y6 B4' S0
      by_cases hr0 : x.fmod y = 0
      · have hsr : cmpI (x.fmod y) 0 = 0 := cmpI_eq hr0
        go_wp2
        refine wp_region_held_drew (S := (fun w' => w'.cell? ⟨RQ, 0, none⟩ = some (.bool pq) ∧ w'.cell? ⟨RQ, 1, none⟩ = some (.slice aoq nq cq) ∧ w'.cell? ⟨RQ + 1, 0, none⟩ = some (.bool pr) ∧ w'.cell? ⟨RQ + 1, 1, none⟩ = some (.slice aor nr cr) ∧ w'.cell? ⟨w.heap.size + 1, 0, none⟩ = some (.bool q) ∧ w'.cell? ⟨w.heap.size + 1, 1, none⟩ = some (.slice bo m d) ∧ w'.cell? ⟨RU, 0, none⟩ = some (.bool pu) ∧ w'.cell? ⟨RU, 1, none⟩ = some (.slice aou nu cu) ∧ w'.cell? ⟨RV, 0, none⟩ = some (.bool pv) ∧ w'.cell? ⟨RV, 1, none⟩ = some (.slice aov nv cv))) (by kernel_rfl) ?_ (fun hHeld => ?_)
        · exact S80
        refine wpAnyH_take (i := 0) (v := ?_) (by simp only [List.getElem?_toArray, List.getElem?_cons_succ, List.getElem?_cons_zero]; rfl) (by kernel_rfl) (by kernel_rfl) (by kernel_rfl) (by exact fun _ _ _ h => h) (Or.inl ⟨by rfl, ?_⟩) (by assumption) ?_
        rotate_left
        · (intro w hSw; (try dsimp only at hSw); go_simp; (try with_reducible rfl))
        (try simp only [Act.put, List.setIfInBounds_toArray, List.set_cons_zero, List.set_cons_succ])
        refine wpAnyH_take (i := 1) (v := ?_) (by simp only [List.getElem?_toArray, List.getElem?_cons_succ, List.getElem?_cons_zero]; rfl) (by kernel_rfl) (by kernel_rfl) (by kernel_rfl) (by exact fun _ _ _ h => h) (Or.inl ⟨by rfl, ?_⟩) (by assumption) ?_
        rotate_left
        · (intro w hSw; (try dsimp only at hSw); go_simp; (try with_reducible rfl))
        (try simp only [Act.put, List.setIfInBounds_toArray, List.set_cons_zero, List.set_cons_succ])
        refine wpAnyH_take (i := 2) (v := ?_) (by simp only [List.getElem?_toArray, List.getElem?_cons_succ, List.getElem?_cons_zero]; rfl) (by kernel_rfl) (by kernel_rfl) (by kernel_rfl) (by exact fun _ _ _ h => h) (Or.inl ⟨by rfl, ?_⟩) (by assumption) ?_
        rotate_left
        · (intro w hSw; (try dsimp only at hSw); go_simp; (try with_reducible rfl))
        (try simp only [Act.put, List.setIfInBounds_toArray, List.set_cons_zero, List.set_cons_succ])
        refine wpAnyH_take (i := 3) (v := ?_) (by simp only [List.getElem?_toArray, List.getElem?_cons_succ, List.getElem?_cons_zero]; rfl) (by kernel_rfl) (by kernel_rfl) (by kernel_rfl) (by exact fun _ _ _ h => h) (Or.inl ⟨by rfl, ?_⟩) (by assumption) ?_
        rotate_left
        · (intro w hSw; (try dsimp only at hSw); go_simp; (try with_reducible rfl))
        (try simp only [Act.put, List.setIfInBounds_toArray, List.set_cons_zero, List.set_cons_succ])
        refine wpAnyH_take (i := 4) (v := ?_) (by simp only [List.getElem?_toArray, List.getElem?_cons_succ, List.getElem?_cons_zero]; rfl) (by kernel_rfl) (by kernel_rfl) (by kernel_rfl) (by exact fun _ _ _ h => h) (Or.inl ⟨by rfl, ?_⟩) (by assumption) ?_
        rotate_left
        · (intro w hSw; (try dsimp only at hSw); go_simp; (try with_reducible rfl))
        (try simp only [Act.put, List.setIfInBounds_toArray, List.set_cons_zero, List.set_cons_succ])
        refine wpAnyH_ready (rs := [5]) (by kernel_rfl) (by simp) ?_
        refine AllReadyH.cons (by simp only [List.getElem?_toArray, List.getElem?_cons_succ, List.getElem?_cons_zero]; rfl) (fun K hK => ?_) AllReadyH.nil
        go_simp
        refine (ris_rep _ _ _ _ Q0 lq U0).mono ?_
        rintro e y1 ⟨rfl, k1⟩
        go_wp2_with fail
        have Q1 := Q0.below k1
        have R1 := R0.below k1
        have U1 := U0.below k1
        have V1 := V0.below k1
        have J1 := J0.below k1
        have X1 := X0.trans (k1.mono X0.size)
        refine hK.out _ _ ?_ (fun hHeld0 => ?_)
        · exact keep10 k1 (Nat.le_refl _) (by assumption)
        clear hK K
        (try simp only [Act.put, List.setIfInBounds_toArray, List.set_cons_zero, List.set_cons_succ])
        refine wpAnyH_take (i := 6) (v := ?_) (by simp only [List.getElem?_toArray, List.getElem?_cons_succ, List.getElem?_cons_zero]; rfl) (by kernel_rfl) (by kernel_rfl) (by kernel_rfl) (by exact fun _ _ _ h => h) (Or.inl ⟨by rfl, ?_⟩) (by assumption) ?_
        rotate_left
        · (intro w hSw; (try dsimp only at hSw); go_simp; (try with_reducible rfl))
        (try simp only [Act.put, List.setIfInBounds_toArray, List.set_cons_zero, List.set_cons_succ])
        refine wpAnyH_take (i := 7) (v := ?_) (by simp only [List.getElem?_toArray, List.getElem?_cons_succ, List.getElem?_cons_zero]; rfl) (by kernel_rfl) (by kernel_rfl) (by kernel_rfl) (by exact fun _ _ _ h => h) (Or.inl ⟨by rfl, ?_⟩) (by assumption) ?_
        rotate_left
        · (intro w hSw; (try dsimp only at hSw); go_simp; (try with_reducible rfl))
        (try simp only [Act.put, List.setIfInBounds_toArray, List.set_cons_zero, List.set_cons_succ])
        refine wpAnyH_take (i := 8) (v := ?_) (by simp only [List.getElem?_toArray, List.getElem?_cons_succ, List.getElem?_cons_zero]; rfl) (by kernel_rfl) (by kernel_rfl) (by kernel_rfl) (by exact fun _ _ _ h => h) (Or.inl ⟨by rfl, ?_⟩) (by assumption) ?_
        rotate_left
        · (intro w hSw; (try dsimp only at hSw); go_simp; (try with_reducible rfl))
        (try simp only [Act.put, List.setIfInBounds_toArray, List.set_cons_zero, List.set_cons_succ])
        refine wpAnyH_take (i := 9) (v := ?_) (by simp only [List.getElem?_toArray, List.getElem?_cons_succ, List.getElem?_cons_zero]; rfl) (by kernel_rfl) (by kernel_rfl) (by kernel_rfl) (by exact fun _ _ _ h => h) (Or.inl ⟨by rfl, ?_⟩) (by assumption) ?_
        rotate_left
        · (intro w hSw; (try dsimp only at hSw); go_simp; (try with_reducible rfl))
        (try simp only [Act.put, List.setIfInBounds_toArray, List.set_cons_zero, List.set_cons_succ])
        refine wpAnyH_ready (rs := [10]) (by kernel_rfl) (by simp) ?_
        refine AllReadyH.cons (by simp only [List.getElem?_toArray, List.getElem?_cons_succ, List.getElem?_cons_zero]; rfl) (fun K hK => ?_) AllReadyH.nil
        go_simp
        refine (ris_rep _ _ _ _ R1 lr V1).mono ?_
        rintro e y2 ⟨rfl, k2⟩
        go_wp2_with fail
        have Q2 := Q1.below k2
        have R2 := R1.below k2
        have U2 := U1.below k2
        have V2 := V1.below k2
        have J2 := J1.below k2
        have X2 := X1.trans (k2.mono X1.size)
        refine hK.out _ _ ?_ (fun hHeld1 => ?_)
        · exact keep10 k2 (Nat.le_refl _) (by assumption)
        clear hK K
        (try simp only [Act.put, List.setIfInBounds_toArray, List.set_cons_zero, List.set_cons_succ])
        refine wpAnyH_take (i := 11) (v := ?_) (by simp only [List.getElem?_toArray, List.getElem?_cons_succ, List.getElem?_cons_zero]; rfl) (by kernel_rfl) (by kernel_rfl) (by kernel_rfl) (by exact fun _ _ _ h => h) (Or.inl ⟨by rfl, ?_⟩) (by assumption) ?_
        rotate_left
        · (intro w hSw; (try dsimp only at hSw); go_simp; (try with_reducible rfl))
        (try simp only [Act.put, List.setIfInBounds_toArray, List.set_cons_zero, List.set_cons_succ])
        refine wpAnyH_take (i := 12) (v := ?_) (by simp only [List.getElem?_toArray, List.getElem?_cons_succ, List.getElem?_cons_zero]; rfl) (by kernel_rfl) (by kernel_rfl) (by kernel_rfl) (by exact fun _ _ _ h => h) (Or.inl ⟨by rfl, ?_⟩) (by assumption) ?_
        rotate_left
        · (intro w hSw; (try dsimp only at hSw); go_simp; (try with_reducible rfl))
        (try simp only [Act.put, List.setIfInBounds_toArray, List.set_cons_zero, List.set_cons_succ])
        refine wpAnyH_take (i := 13) (v := ?_) (by simp only [List.getElem?_toArray, List.getElem?_cons_succ, List.getElem?_cons_zero]; rfl) (by kernel_rfl) (by kernel_rfl) (by kernel_rfl) (by exact fun _ _ _ h => h) (Or.inl ⟨by rfl, ?_⟩) (by assumption) ?_
        rotate_left
        · (intro w hSw; (try dsimp only at hSw); go_simp; (try with_reducible rfl))
        (try simp only [Act.put, List.setIfInBounds_toArray, List.set_cons_zero, List.set_cons_succ])
        refine wpAnyH_ready (rs := [14]) (by kernel_rfl) (by simp) ?_
        refine AllReadyH.cons (by simp only [List.getElem?_toArray, List.getElem?_cons_succ, List.getElem?_cons_zero]; rfl) (fun K hK => ?_) AllReadyH.nil
        go_simp
        refine (sign_any _ _ 1000 _ (R2.at 1000 lr)).mono ?_
        rintro e y3 ⟨rfl, k3⟩
        rw [hsr]
        go_wp2_with fail
        have Q3 := Q2.below k3
        have R3 := R2.below k3
        have U3 := U2.below k3
        have V3 := V2.below k3
        have J3 := J2.below k3
        have X3 := X2.trans (k3.mono X2.size)
        refine hK.out _ _ ?_ (fun hHeld2 => ?_)
        · exact keep10 k3 (Nat.le_refl _) (by assumption)
        clear hK K
        (try simp only [Act.put, List.setIfInBounds_toArray, List.set_cons_zero, List.set_cons_succ])
        refine wpAnyH_take (i := 15) (v := ?_) (by simp only [List.getElem?_toArray, List.getElem?_cons_succ, List.getElem?_cons_zero]; rfl) (by kernel_rfl) (by kernel_rfl) (by kernel_rfl) (by exact fun _ _ _ h => h) (Or.inl ⟨by rfl, ?_⟩) (by assumption) ?_
        rotate_left
        · (intro w hSw; (try dsimp only at hSw); go_simp; (try with_reducible rfl))
        (try simp only [Act.put, List.setIfInBounds_toArray, List.set_cons_zero, List.set_cons_succ])
        refine wpAnyH_take (i := 16) (v := ?_) (by simp only [List.getElem?_toArray, List.getElem?_cons_succ, List.getElem?_cons_zero]; rfl) (by kernel_rfl) (by kernel_rfl) (by kernel_rfl) (by exact fun _ _ _ h => h) (Or.inl ⟨by rfl, ?_⟩) (by assumption) ?_
        rotate_left
        · (intro w hSw; (try dsimp only at hSw); go_simp; (try with_reducible rfl))
        (try simp only [Act.put, List.setIfInBounds_toArray, List.set_cons_zero, List.set_cons_succ])
        refine wpAnyH_take (i := 17) (v := undef) (by simp only [List.getElem?_toArray, List.getElem?_cons_succ, List.getElem?_cons_zero]; rfl) (by kernel_rfl) (by kernel_rfl) (by kernel_rfl) (by exact fun _ _ _ h => h) (Or.inr ⟨by rfl, rfl⟩) (by assumption) ?_
        (try simp only [Act.put, List.setIfInBounds_toArray, List.set_cons_zero, List.set_cons_succ])
        refine wpAnyH_take (i := 18) (v := undef) (by simp only [List.getElem?_toArray, List.getElem?_cons_succ, List.getElem?_cons_zero]; rfl) (by kernel_rfl) (by kernel_rfl) (by kernel_rfl) (by exact fun _ _ _ h => h) (Or.inr ⟨by rfl, rfl⟩) (by assumption) ?_
        (try simp only [Act.put, List.setIfInBounds_toArray, List.set_cons_zero, List.set_cons_succ])
        refine wpAnyH_take (i := 19) (v := undef) (by simp only [List.getElem?_toArray, List.getElem?_cons_succ, List.getElem?_cons_zero]; rfl) (by kernel_rfl) (by kernel_rfl) (by kernel_rfl) (by exact fun _ _ _ h => h) (Or.inr ⟨by rfl, rfl⟩) (by assumption) ?_
        (try simp only [Act.put, List.setIfInBounds_toArray, List.set_cons_zero, List.set_cons_succ])
        refine wpAnyH_take (i := 20) (v := undef) (by simp only [List.getElem?_toArray, List.getElem?_cons_succ, List.getElem?_cons_zero]; rfl) (by kernel_rfl) (by kernel_rfl) (by kernel_rfl) (by exact fun _ _ _ h => h) (Or.inr ⟨by rfl, rfl⟩) (by assumption) ?_
        (try simp only [Act.put, List.setIfInBounds_toArray, List.set_cons_zero, List.set_cons_succ])
        refine wpAnyH_take (i := 21) (v := undef) (by simp only [List.getElem?_toArray, List.getElem?_cons_succ, List.getElem?_cons_zero]; rfl) (by kernel_rfl) (by kernel_rfl) (by kernel_rfl) (by exact fun _ _ _ h => h) (Or.inr ⟨by rfl, rfl⟩) (by assumption) ?_
        (try simp only [Act.put, List.setIfInBounds_toArray, List.set_cons_zero, List.set_cons_succ])
        refine wpAnyH_take (i := 22) (v := ?_) (by simp only [List.getElem?_toArray, List.getElem?_cons_succ, List.getElem?_cons_zero]; rfl) (by kernel_rfl) (by kernel_rfl) (by kernel_rfl) (by exact fun _ _ _ h => h) (Or.inl ⟨by rfl, ?_⟩) (by assumption) ?_
        rotate_left
        · (intro w hSw; (try dsimp only at hSw); go_simp; (try with_reducible rfl))
        (try simp only [Act.put, List.setIfInBounds_toArray, List.set_cons_zero, List.set_cons_succ])
        refine wpAnyH_take (i := 23) (v := ?_) (by simp only [List.getElem?_toArray, List.getElem?_cons_succ, List.getElem?_cons_zero]; rfl) (by kernel_rfl) (by kernel_rfl) (by kernel_rfl) (by exact fun _ _ _ h => h) (Or.inl ⟨by rfl, ?_⟩) (by assumption) ?_
        rotate_left
        · (intro w hSw; (try dsimp only at hSw); go_simp; (try with_reducible rfl))
        (try simp only [Act.put, List.setIfInBounds_toArray, List.set_cons_zero, List.set_cons_succ])
        refine wpAnyH_take (i := 24) (v := ?_) (by simp only [List.getElem?_toArray, List.getElem?_cons_succ, List.getElem?_cons_zero]; rfl) (by kernel_rfl) (by kernel_rfl) (by kernel_rfl) (by exact fun _ _ _ h => h) (Or.inl ⟨by rfl, ?_⟩) (by assumption) ?_
        rotate_left
        · (intro w hSw; (try dsimp only at hSw); go_simp; (try with_reducible rfl))
        (try simp only [Act.put, List.setIfInBounds_toArray, List.set_cons_zero, List.set_cons_succ])
        refine wpAnyH_ready (rs := [25]) (by kernel_rfl) (by simp) ?_
        refine AllReadyH.cons (by simp only [List.getElem?_toArray, List.getElem?_cons_succ, List.getElem?_cons_zero]; rfl) (fun K hK => ?_) AllReadyH.nil
        go_simp
        refine (wawake_any _).mono ?_
        rintro e y4 ⟨rfl, k4⟩
        go_wp2_with fail
        have Q4 := Q3.below k4
        have R4 := R3.below k4
        have U4 := U3.below k4
        have V4 := V3.below k4
        have J4 := J3.below k4
        have X4 := X3.trans (k4.mono X3.size)
        refine hK.out _ _ ?_ (fun hHeld3 => ?_)
        · exact keep10 k4 (Nat.le_refl _) (by assumption)
        clear hK K
        (try simp only [Act.put, List.setIfInBounds_toArray, List.set_cons_zero, List.set_cons_succ])
        refine wpAnyH_take (i := 26) (v := ?_) (by simp only [List.getElem?_toArray, List.getElem?_cons_succ, List.getElem?_cons_zero]; rfl) (by kernel_rfl) (by kernel_rfl) (by kernel_rfl) (by exact fun _ _ _ h => h) (Or.inl ⟨by rfl, ?_⟩) (by assumption) ?_
        rotate_left
        · (intro w hSw; (try dsimp only at hSw); go_simp; (try with_reducible rfl))
        (try simp only [Act.put, List.setIfInBounds_toArray, List.set_cons_zero, List.set_cons_succ])
        refine wpAnyH_take (i := 27) (v := ?_) (by simp only [List.getElem?_toArray, List.getElem?_cons_succ, List.getElem?_cons_zero]; rfl) (by kernel_rfl) (by kernel_rfl) (by kernel_rfl) (by exact fun _ _ _ h => h) (Or.inl ⟨by rfl, ?_⟩) (by assumption) ?_
        rotate_left
        · (intro w hSw; (try dsimp only at hSw); go_simp; (try with_reducible rfl))
        (try simp only [Act.put, List.setIfInBounds_toArray, List.set_cons_zero, List.set_cons_succ])
        refine wpAnyH_done (by kernel_rfl) ?_ _
        go_wp2
        go_ret
        exact ⟨rfl, X4⟩
      · obtain ⟨C, hsr, hC, hsb⟩ : ∃ C, cmpI (x.fmod y) 0 = C ∧ (C == 0) = false ∧ cmpI y 0 = C := ⟨_, rfl, by rw [cmpI_zero]; exact decide_eq_false hr0, (fmod_sign hy0 hr0).symm⟩
        go_wp2
        refine wp_region_held_drew (S := (fun w' => w'.cell? ⟨RQ, 0, none⟩ = some (.bool pq) ∧ w'.cell? ⟨RQ, 1, none⟩ = some (.slice aoq nq cq) ∧ w'.cell? ⟨RQ + 1, 0, none⟩ = some (.bool pr) ∧ w'.cell? ⟨RQ + 1, 1, none⟩ = some (.slice aor nr cr) ∧ w'.cell? ⟨w.heap.size + 1, 0, none⟩ = some (.bool q) ∧ w'.cell? ⟨w.heap.size + 1, 1, none⟩ = some (.slice bo m d) ∧ w'.cell? ⟨RU, 0, none⟩ = some (.bool pu) ∧ w'.cell? ⟨RU, 1, none⟩ = some (.slice aou nu cu) ∧ w'.cell? ⟨RV, 0, none⟩ = some (.bool pv) ∧ w'.cell? ⟨RV, 1, none⟩ = some (.slice aov nv cv))) (by kernel_rfl) ?_ (fun hHeld => ?_)
        · exact S80
        refine wpAnyH_take (i := 0) (v := ?_) (by simp only [List.getElem?_toArray, List.getElem?_cons_succ, List.getElem?_cons_zero]; rfl) (by kernel_rfl) (by kernel_rfl) (by kernel_rfl) (by exact fun _ _ _ h => h) (Or.inl ⟨by rfl, ?_⟩) (by assumption) ?_
        rotate_left
        · (intro w hSw; (try dsimp only at hSw); go_simp; (try with_reducible rfl))
        (try simp only [Act.put, List.setIfInBounds_toArray, List.set_cons_zero, List.set_cons_succ])
        refine wpAnyH_take (i := 1) (v := ?_) (by simp only [List.getElem?_toArray, List.getElem?_cons_succ, List.getElem?_cons_zero]; rfl) (by kernel_rfl) (by kernel_rfl) (by kernel_rfl) (by exact fun _ _ _ h => h) (Or.inl ⟨by rfl, ?_⟩) (by assumption) ?_
        rotate_left
        · (intro w hSw; (try dsimp only at hSw); go_simp; (try with_reducible rfl))
        (try simp only [Act.put, List.setIfInBounds_toArray, List.set_cons_zero, List.set_cons_succ])
        refine wpAnyH_take (i := 2) (v := ?_) (by simp only [List.getElem?_toArray, List.getElem?_cons_succ, List.getElem?_cons_zero]; rfl) (by kernel_rfl) (by kernel_rfl) (by kernel_rfl) (by exact fun _ _ _ h => h) (Or.inl ⟨by rfl, ?_⟩) (by assumption) ?_
        rotate_left
        · (intro w hSw; (try dsimp only at hSw); go_simp; (try with_reducible rfl))
        (try simp only [Act.put, List.setIfInBounds_toArray, List.set_cons_zero, List.set_cons_succ])
        refine wpAnyH_take (i := 3) (v := ?_) (by simp only [List.getElem?_toArray, List.getElem?_cons_succ, List.getElem?_cons_zero]; rfl) (by kernel_rfl) (by kernel_rfl) (by kernel_rfl) (by exact fun _ _ _ h => h) (Or.inl ⟨by rfl, ?_⟩) (by assumption) ?_
        rotate_left
        · (intro w hSw; (try dsimp only at hSw); go_simp; (try with_reducible rfl))
        (try simp only [Act.put, List.setIfInBounds_toArray, List.set_cons_zero, List.set_cons_succ])
        refine wpAnyH_take (i := 4) (v := ?_) (by simp only [List.getElem?_toArray, List.getElem?_cons_succ, List.getElem?_cons_zero]; rfl) (by kernel_rfl) (by kernel_rfl) (by kernel_rfl) (by exact fun _ _ _ h => h) (Or.inl ⟨by rfl, ?_⟩) (by assumption) ?_
        rotate_left
        · (intro w hSw; (try dsimp only at hSw); go_simp; (try with_reducible rfl))
        (try simp only [Act.put, List.setIfInBounds_toArray, List.set_cons_zero, List.set_cons_succ])
        refine wpAnyH_ready (rs := [5]) (by kernel_rfl) (by simp) ?_
        refine AllReadyH.cons (by simp only [List.getElem?_toArray, List.getElem?_cons_succ, List.getElem?_cons_zero]; rfl) (fun K hK => ?_) AllReadyH.nil
        go_simp
        refine (ris_rep _ _ _ _ Q0 lq U0).mono ?_
        rintro e y1 ⟨rfl, k1⟩
        go_wp2_with fail
        have Q1 := Q0.below k1
        have R1 := R0.below k1
        have U1 := U0.below k1
        have V1 := V0.below k1
        have J1 := J0.below k1
        have X1 := X0.trans (k1.mono X0.size)
        refine hK.out _ _ ?_ (fun hHeld0 => ?_)
        · exact keep10 k1 (Nat.le_refl _) (by assumption)
        clear hK K
        (try simp only [Act.put, List.setIfInBounds_toArray, List.set_cons_zero, List.set_cons_succ])
        refine wpAnyH_take (i := 6) (v := ?_) (by simp only [List.getElem?_toArray, List.getElem?_cons_succ, List.getElem?_cons_zero]; rfl) (by kernel_rfl) (by kernel_rfl) (by kernel_rfl) (by exact fun _ _ _ h => h) (Or.inl ⟨by rfl, ?_⟩) (by assumption) ?_
        rotate_left
        · (intro w hSw; (try dsimp only at hSw); go_simp; (try with_reducible rfl))
        (try simp only [Act.put, List.setIfInBounds_toArray, List.set_cons_zero, List.set_cons_succ])
        refine wpAnyH_take (i := 7) (v := ?_) (by simp only [List.getElem?_toArray, List.getElem?_cons_succ, List.getElem?_cons_zero]; rfl) (by kernel_rfl) (by kernel_rfl) (by kernel_rfl) (by exact fun _ _ _ h => h) (Or.inl ⟨by rfl, ?_⟩) (by assumption) ?_
        rotate_left
        · (intro w hSw; (try dsimp only at hSw); go_simp; (try with_reducible rfl))
        (try simp only [Act.put, List.setIfInBounds_toArray, List.set_cons_zero, List.set_cons_succ])
        refine wpAnyH_take (i := 8) (v := ?_) (by simp only [List.getElem?_toArray, List.getElem?_cons_succ, List.getElem?_cons_zero]; rfl) (by kernel_rfl) (by kernel_rfl) (by kernel_rfl) (by exact fun _ _ _ h => h) (Or.inl ⟨by rfl, ?_⟩) (by assumption) ?_
        rotate_left
        · (intro w hSw; (try dsimp only at hSw); go_simp; (try with_reducible rfl))
        (try simp only [Act.put, List.setIfInBounds_toArray, List.set_cons_zero, List.set_cons_succ])
        refine wpAnyH_take (i := 9) (v := ?_) (by simp only [List.getElem?_toArray, List.getElem?_cons_succ, List.getElem?_cons_zero]; rfl) (by kernel_rfl) (by kernel_rfl) (by kernel_rfl) (by exact fun _ _ _ h => h) (Or.inl ⟨by rfl, ?_⟩) (by assumption) ?_
        rotate_left
        · (intro w hSw; (try dsimp only at hSw); go_simp; (try with_reducible rfl))
        (try simp only [Act.put, List.setIfInBounds_toArray, List.set_cons_zero, List.set_cons_succ])
        refine wpAnyH_ready (rs := [10]) (by kernel_rfl) (by simp) ?_
        refine AllReadyH.cons (by simp only [List.getElem?_toArray, List.getElem?_cons_succ, List.getElem?_cons_zero]; rfl) (fun K hK => ?_) AllReadyH.nil
        go_simp
        refine (ris_rep _ _ _ _ R1 lr V1).mono ?_
        rintro e y2 ⟨rfl, k2⟩
        go_wp2_with fail
        have Q2 := Q1.below k2
        have R2 := R1.below k2
        have U2 := U1.below k2
        have V2 := V1.below k2
        have J2 := J1.below k2
        have X2 := X1.trans (k2.mono X1.size)
        refine hK.out _ _ ?_ (fun hHeld1 => ?_)
        · exact keep10 k2 (Nat.le_refl _) (by assumption)
        clear hK K
        (try simp only [Act.put, List.setIfInBounds_toArray, List.set_cons_zero, List.set_cons_succ])
        refine wpAnyH_take (i := 11) (v := ?_) (by simp only [List.getElem?_toArray, List.getElem?_cons_succ, List.getElem?_cons_zero]; rfl) (by kernel_rfl) (by kernel_rfl) (by kernel_rfl) (by exact fun _ _ _ h => h) (Or.inl ⟨by rfl, ?_⟩) (by assumption) ?_
        rotate_left
        · (intro w hSw; (try dsimp only at hSw); go_simp; (try with_reducible rfl))
        (try simp only [Act.put, List.setIfInBounds_toArray, List.set_cons_zero, List.set_cons_succ])
        refine wpAnyH_take (i := 12) (v := ?_) (by simp only [List.getElem?_toArray, List.getElem?_cons_succ, List.getElem?_cons_zero]; rfl) (by kernel_rfl) (by kernel_rfl) (by kernel_rfl) (by exact fun _ _ _ h => h) (Or.inl ⟨by rfl, ?_⟩) (by assumption) ?_
        rotate_left
        · (intro w hSw; (try dsimp only at hSw); go_simp; (try with_reducible rfl))
        (try simp only [Act.put, List.setIfInBounds_toArray, List.set_cons_zero, List.set_cons_succ])
        refine wpAnyH_take (i := 13) (v := ?_) (by simp only [List.getElem?_toArray, List.getElem?_cons_succ, List.getElem?_cons_zero]; rfl) (by kernel_rfl) (by kernel_rfl) (by kernel_rfl) (by exact fun _ _ _ h => h) (Or.inl ⟨by rfl, ?_⟩) (by assumption) ?_
        rotate_left
        · (intro w hSw; (try dsimp only at hSw); go_simp; (try with_reducible rfl))
        (try simp only [Act.put, List.setIfInBounds_toArray, List.set_cons_zero, List.set_cons_succ])
        refine wpAnyH_ready (rs := [14]) (by kernel_rfl) (by simp) ?_
        refine AllReadyH.cons (by simp only [List.getElem?_toArray, List.getElem?_cons_succ, List.getElem?_cons_zero]; rfl) (fun K hK => ?_) AllReadyH.nil
        go_simp
        refine (sign_any _ _ 1000 _ (R2.at 1000 lr)).mono ?_
        rintro e y3 ⟨rfl, k3⟩
        rw [hsr]
        go_wp2_with fail
        have Q3 := Q2.below k3
        have R3 := R2.below k3
        have U3 := U2.below k3
        have V3 := V2.below k3
        have J3 := J2.below k3
        have X3 := X2.trans (k3.mono X2.size)
        refine hK.out _ _ ?_ (fun hHeld2 => ?_)
        · exact keep10 k3 (Nat.le_refl _) (by assumption)
        clear hK K
        (try simp only [Act.put, List.setIfInBounds_toArray, List.set_cons_zero, List.set_cons_succ])
        refine wpAnyH_take (i := 15) (v := ?_) (by simp only [List.getElem?_toArray, List.getElem?_cons_succ, List.getElem?_cons_zero]; rfl) (by kernel_rfl) (by kernel_rfl) (by kernel_rfl) (by exact fun _ _ _ h => h) (Or.inl ⟨by rfl, ?_⟩) (by assumption) ?_
        rotate_left
        · (intro w hSw; (try dsimp only at hSw); go_simp; (try with_reducible rfl))
        (try simp only [Act.put, List.setIfInBounds_toArray, List.set_cons_zero, List.set_cons_succ])
        refine wpAnyH_take (i := 16) (v := ?_) (by simp only [List.getElem?_toArray, List.getElem?_cons_succ, List.getElem?_cons_zero]; rfl) (by kernel_rfl) (by kernel_rfl) (by kernel_rfl) (by exact fun _ _ _ h => h) (Or.inl ⟨by rfl, ?_⟩) (by assumption) ?_
        rotate_left
        · (intro w hSw; (try dsimp only at hSw); go_simp; (try with_reducible rfl))
        (try simp only [Act.put, List.setIfInBounds_toArray, List.set_cons_zero, List.set_cons_succ])
        refine wpAnyH_take (i := 17) (v := ?_) (by simp only [List.getElem?_toArray, List.getElem?_cons_succ, List.getElem?_cons_zero]; rfl) (by kernel_rfl) (by kernel_rfl) (by kernel_rfl) (by exact fun _ _ _ h => h) (Or.inl ⟨by rfl, ?_⟩) (by assumption) ?_
        rotate_left
        · (intro w hSw; (try dsimp only at hSw); go_simp; (try with_reducible rfl))
        (try simp only [Act.put, List.setIfInBounds_toArray, List.set_cons_zero, List.set_cons_succ])
        refine wpAnyH_take (i := 19) (v := ?_) (by simp only [List.getElem?_toArray, List.getElem?_cons_succ, List.getElem?_cons_zero]; rfl) (by kernel_rfl) (by kernel_rfl) (by kernel_rfl) (by exact fun _ _ _ h => h) (Or.inl ⟨by rfl, ?_⟩) (by assumption) ?_
        rotate_left
        · (intro w hSw; (try dsimp only at hSw); go_simp; (try with_reducible rfl))
        (try simp only [Act.put, List.setIfInBounds_toArray, List.set_cons_zero, List.set_cons_succ])
        refine wpAnyH_ready (rs := [18]) (by kernel_rfl) (by simp) ?_
        refine AllReadyH.cons (by simp only [List.getElem?_toArray, List.getElem?_cons_succ, List.getElem?_cons_zero]; rfl) (fun K hK => ?_) AllReadyH.nil
        go_simp
        refine (sign_any _ _ 1000 _ (R3.at 1000 lr)).mono ?_
        rintro e y4 ⟨rfl, k4⟩
        rw [hsr]
        go_wp2_with fail
        have Q4 := Q3.below k4
        have R4 := R3.below k4
        have U4 := U3.below k4
        have V4 := V3.below k4
        have J4 := J3.below k4
        have X4 := X3.trans (k4.mono X3.size)
        refine hK.out _ _ ?_ (fun hHeld3 => ?_)
        · exact keep10 k4 (Nat.le_refl _) (by assumption)
        clear hK K
        (try simp only [Act.put, List.setIfInBounds_toArray, List.set_cons_zero, List.set_cons_succ])
        refine wpAnyH_ready (rs := [20]) (by kernel_rfl) (by simp) ?_
        refine AllReadyH.cons (by simp only [List.getElem?_toArray, List.getElem?_cons_succ, List.getElem?_cons_zero]; rfl) (fun K hK => ?_) AllReadyH.nil
        go_simp
        refine (sign_any _ _ _ _ J4).mono ?_
        rintro e y5 ⟨rfl, k5⟩
        rw [hsb]
        go_wp2_with fail
        have Q5 := Q4.below k5
        have R5 := R4.below k5
        have U5 := U4.below k5
        have V5 := V4.below k5
        have J5 := J4.below k5
        have X5 := X4.trans (k5.mono X4.size)
        refine hK.out _ _ ?_ (fun hHeld4 => ?_)
        · exact keep10 k5 (Nat.le_refl _) (by assumption)
        clear hK K
        (try simp only [Act.put, List.setIfInBounds_toArray, List.set_cons_zero, List.set_cons_succ])
        refine wpAnyH_take (i := 21) (v := ?_) (by simp only [List.getElem?_toArray, List.getElem?_cons_succ, List.getElem?_cons_zero]; rfl) (by kernel_rfl) (by kernel_rfl) (by kernel_rfl) (by exact fun _ _ _ h => h) (Or.inl ⟨by rfl, ?_⟩) (by assumption) ?_
        rotate_left
        · (intro w hSw; (try dsimp only at hSw); go_simp; (try with_reducible rfl))
        (try simp only [Act.put, List.setIfInBounds_toArray, List.set_cons_zero, List.set_cons_succ])
        refine wpAnyH_take (i := 22) (v := ?_) (by simp only [List.getElem?_toArray, List.getElem?_cons_succ, List.getElem?_cons_zero]; rfl) (by kernel_rfl) (by kernel_rfl) (by kernel_rfl) (by exact fun _ _ _ h => h) (Or.inl ⟨by rfl, ?_⟩) (by assumption) ?_
        rotate_left
        · (intro w hSw; (try dsimp only at hSw); go_simp; (try with_reducible rfl))
        (try simp only [Act.put, List.setIfInBounds_toArray, List.set_cons_zero, List.set_cons_succ])
        refine wpAnyH_take (i := 23) (v := ?_) (by simp only [List.getElem?_toArray, List.getElem?_cons_succ, List.getElem?_cons_zero]; rfl) (by kernel_rfl) (by kernel_rfl) (by kernel_rfl) (by exact fun _ _ _ h => h) (Or.inl ⟨by rfl, ?_⟩) (by assumption) ?_
        rotate_left
        · (intro w hSw; (try dsimp only at hSw); go_simp; (try with_reducible rfl))
        (try simp only [Act.put, List.setIfInBounds_toArray, List.set_cons_zero, List.set_cons_succ])
        refine wpAnyH_take (i := 24) (v := ?_) (by simp only [List.getElem?_toArray, List.getElem?_cons_succ, List.getElem?_cons_zero]; rfl) (by kernel_rfl) (by kernel_rfl) (by kernel_rfl) (by exact fun _ _ _ h => h) (Or.inl ⟨by rfl, ?_⟩) (by assumption) ?_
        rotate_left
        · (intro w hSw; (try dsimp only at hSw); go_simp; (try with_reducible rfl))
        (try simp only [Act.put, List.setIfInBounds_toArray, List.set_cons_zero, List.set_cons_succ])
        refine wpAnyH_ready (rs := [25]) (by kernel_rfl) (by simp) ?_
        refine AllReadyH.cons (by simp only [List.getElem?_toArray, List.getElem?_cons_succ, List.getElem?_cons_zero]; rfl) (fun K hK => ?_) AllReadyH.nil
        go_simp
        refine (wawake_any _).mono ?_
        rintro e y6 ⟨rfl, k6⟩
        go_wp2_with fail
        have Q6 := Q5.below k6
        have R6 := R5.below k6
        have U6 := U5.below k6
        have V6 := V5.below k6
        have J6 := J5.below k6
        have X6 := X5.trans (k6.mono X5.size)
        refine hK.out _ _ ?_ (fun hHeld5 => ?_)
        · exact keep10 k6 (Nat.le_refl _) (by assumption)
        clear hK K
        (try simp only [Act.put, List.setIfInBounds_toArray, List.set_cons_zero, List.set_cons_succ])
        refine wpAnyH_take (i := 26) (v := ?_) (by simp only [List.getElem?_toArray, List.getElem?_cons_succ, List.getElem?_cons_zero]; rfl) (by kernel_rfl) (by kernel_rfl) (by kernel_rfl) (by exact fun _ _ _ h => h) (Or.inl ⟨by rfl, ?_⟩) (by assumption) ?_
        rotate_left
        · (intro w hSw; (try dsimp only at hSw); go_simp; (try with_reducible rfl))
        (try simp only [Act.put, List.setIfInBounds_toArray, List.set_cons_zero, List.set_cons_succ])
        refine wpAnyH_take (i := 27) (v := ?_) (by simp only [List.getElem?_toArray, List.getElem?_cons_succ, List.getElem?_cons_zero]; rfl) (by kernel_rfl) (by kernel_rfl) (by kernel_rfl) (by exact fun _ _ _ h => h) (Or.inl ⟨by rfl, ?_⟩) (by assumption) ?_
        rotate_left
        · (intro w hSw; (try dsimp only at hSw); go_simp; (try with_reducible rfl))
        (try simp only [Act.put, List.setIfInBounds_toArray, List.set_cons_zero, List.set_cons_succ])
        refine wpAnyH_done (by kernel_rfl) ?_ _
        go_wp2
        go_ret
        exact ⟨rfl, X6⟩

theorem own : ownKnob Try.prog.godebug = none := by kernel_rfl
theorem laidOut : laidOutB Try.prog = true := by kernel_rfl

set_option maxRecDepth 100000 in
theorem lifted (os : Os) (started : os.Started) (H : Type) (enc : TypeId × Value → H) :
    ReturnsInHanded {} Try.checked os 6 .any (Rows.wholeQuotientsSpec.pre6 enc Try.prog Try.f6 Rows.wholeQuotientsRow.domain false) (Rows.wholeQuotientsSpec.post enc Try.prog Try.f6 false true false false) := by
  refine returnsInHanded_of_change (C := Try.checked) own started (by kernel_rfl) Try.func6
    (ChangeSpec.witness6 (enc := enc) (C := Try.checked) false ⟨#[], #[.agg #[.bool false, .slice none 0 0], .agg #[.bool false, .slice none 0 0]], []⟩ 8 (by kernel_rfl) (by kernel_rfl) (by kernel_rfl) (by kernel_rfl)) ?_
  intro W base args ds gs before hval0 hW hcnd _
  have hval : ∀ (j : Nat) t v, Try.f6.params[j]? = some t → args[j]? = some v → Value.okWide Try.prog W .any base t v := hval0
  have hW' := hW
  obtain ⟨p, q, hA0, hV, rfl, hfz, hnd⟩ := hW
  have hA : DataW.TrodAll enc Try.prog W 0 (fun _ => true) true Try.f6.params.toList args.toList ds p := hA0
  rw [Try.params6] at hA hval
  obtain ⟨v0, vs0, d0, ds0, p0, q0, hargs, rfl, rfl, h0, r0⟩ := trodAll_cons hA
  obtain ⟨v1, vs1, d1, ds1, p1, q1, rfl, rfl, rfl, h1, r1⟩ := trodAll_cons r0
  obtain ⟨rfl, rfl, rfl⟩ := trodAll_nil r1
  obtain rfl : args = #[v0, v1] := by cases args; simp_all
  obtain ⟨rfl, rfl⟩ := trodVars_none hV
  have k0 := h0
  have lt0 : ∀ x ∈ p0, x.block < W.heap.size := by obtain ⟨m, hm⟩ := k0; exact DataW.trod_lt m _ _ _ hm
  obtain ⟨neg0, ao0, n0, c0, f0, rfl, w0⟩ := open_wint (hval 0 25 v0 rfl rfl) h0
  have k1 := h1
  have lt1 : ∀ x ∈ p1, x.block < W.heap.size := by obtain ⟨m, hm⟩ := k1; exact DataW.trod_lt m _ _ _ hm
  obtain ⟨neg1, ao1, n1, c1, f1, rfl, w1⟩ := open_wint (hval 1 25 v1 rfl rfl) h1
  clear hA0 hval0
  refine (walk _ _ _ _ _ _ _ _ W w0 w1).mono fun e W' ⟨he, bel⟩ => ?_
  subst he
  exact ⟨_, rfl, _, _, _, [], _, [], hW', trodAll_mk1 (shut_bool Try.underlying4 _), (trodAll_cons_mk (Below.trod laidOut (by kernel_rfl) (of_decide_eq_true (by kernel_rfl)) k0 bel lt0) (trodAll_cons_mk (Below.trod laidOut (by kernel_rfl) (of_decide_eq_true (by kernel_rfl)) k1 bel lt1) trodAll_mk0)), rfl, bel.frame _, fun h => by cases h⟩

theorem over : Rows.wholeQuotientsRow.holds Try.pinned (OpenSpec.ofChange Rows.wholeQuotientsSpec) :=
  OpenClaim.holds_of_wide 6 Try.f6 rfl rfl rfl rfl rfl rfl rfl ⟨rfl, rfl, rfl, rfl, rfl⟩ rfl rfl rfl rfl rfl (by kernel_rfl) Try.func6 (by kernel_rfl)
    (of_decide_eq_true (by kernel_rfl)) (by unfold Func.isWrapper; first | (rw [if_pos (by decide +kernel)]; kernel_rfl) | (rw [if_neg (by decide +kernel)]; exact ⟨rfl, rfl⟩))
    (fun os started H enc _ => lifted os started H enc)

end Go.Proofs.Ytbnjogbbjoinnaa.wholeQuotients
namespace Go.Proofs.Ytbnjogbbjoinnaa
/-- The statement. -/
theorem wholeQuotients_holds : Rows.WholeQuotientsSaid := wholeQuotients.over
end Go.Proofs.Ytbnjogbbjoinnaa
