/-
  Proves that Need answers what one gets of 1 that is there if all of some are in and none of others, that it comes to 1, -1 or 0, or that there is no such number, whatever comes in (the statement WeighNeeds, its tied card); the table of math/bits lies as the program's text lays it; no other condition.
-/
import Derived.Test.YtfibpckhbgemcaaGreatDoorRows
import Derived.Test.YtfibpckhbgemcaaGreatDoorJ66aded052d
import Derived.WalkKit
import Derived.ProofKit
import Derived.OpenShut
import Derived.ShutString
import Derived.ChangeOld
import Derived.Below
import Derived.Test.YtfibpckhbgemcaaGreatDoorTie
import Derived.Test.YtfibpckhbgemcaaGreatDoorCards
import Derived.LaidByTextLater
import Derived.LaidHandle
import Derived.Lib.LaidTab
import Derived.SevenTiedAt
namespace Go.Proofs.YtfibpckhbgemcaaGreatDoor.weighNeeds
open Go.ChangeShapes Go.WideShapes Go.ChangeAt Go.RowKit
open Go.ChangeMaps (open_string shut_string)
set_option linter.unusedVariables false
set_option linter.unusedSimpArgs false

theorem tneed_no (b : Nat) (s n : Int) (w : World) (h : s < 0 ∨ 64 < s ∨ n < 0 ∨ 64 - s < n) : Calls Tryz.prog 23 #[.pointer (some ⟨b, 0, none⟩), .int .i64 s, .int .i64 n] w fun e w' => e = .returned (.tuple #[.agg #[.bool false, .slice none 0 0, .slice none 0 0], .agg #[.bool false, .slice none 0 0, .slice none 0 0], .int .i64 8]) ∧ Below w.heap.size w w' := by
  by_cases h1 : s < 0 ∨ 64 < s
  · exact tneed_u b s n w h1
  · exact tneed_v b s n w (by omega) (by omega) (by omega)
theorem iz {i : Nat} (h : i ≤ 64) : qsz ((i : Int) : Rat) ≤ 10 := qsz_int _ (Nat.le_trans ((nl_two _).2 (by omega)) (by omega : 2 ≤ 10)) (by omega)
theorem want_sz0 : qsz ((-1 : Int) : Rat) ≤ 10 := by decide +kernel
theorem want_sz1 : qsz ((0 : Int) : Rat) ≤ 10 := by decide +kernel
theorem want_sz2 : qsz ((1 : Int) : Rat) ≤ 10 := by decide +kernel
theorem step_sh {i : Nat} (h : 0 < i) : ((i : Int) : Rat) * ((fct (i - 1) : Nat) : Rat) = ((fct i : Nat) : Rat) := by
  obtain ⟨k, rfl⟩ : ∃ k, i = k + 1 := ⟨i - 1, by omega⟩
  rw [show k + 1 - 1 = k by omega, fctR_succ, Rat.intCast_natCast, Rat.mul_comm]
theorem need_uv {i j : Nat} (hi : 0 < i) (hj : 0 < j) (h : i + j ≤ 64) : ((i : Int) : Rat) * (shQ (i - 1) j (i + j)) + ((j : Int) : Rat) * (-shQ i (j - 1) (i + j)) = ((0 : Int) : Rat) := by
  have e1 := step_sh hi
  have e2 := step_sh hj
  unfold shQ
  rw [Rat.div_def, Rat.div_def]
  generalize ((fct (i + j) : Nat) : Rat)⁻¹ = D
  generalize ((fct (i - 1) : Nat) : Rat) = A at *
  generalize ((fct (j - 1) : Nat) : Rat) = C at *
  rw [← e1, ← e2]
  generalize ((i : Int) : Rat) = I
  generalize ((j : Int) : Rat) = J
  show _ = (0 : Rat)
  grind
theorem fct_zero : ((fct 0 : Nat) : Rat) = 1 := by decide +kernel
theorem need_u0 {i j : Nat} (hi : 0 < i) (hj : j = 0) (h : i + j ≤ 64) : ((i : Int) : Rat) * (shQ (i - 1) j (i + j)) + ((j : Int) : Rat) * ((0 : Rat)) = ((1 : Int) : Rat) := by
  subst hj
  have e1 := step_sh hi
  have n1 := fctR_ne i
  unfold shQ
  rw [Rat.mul_zero, Rat.add_zero, show i + 0 = i from rfl, fct_zero, Rat.mul_one, Rat.div_def, ← Rat.mul_assoc, e1, Rat.mul_inv_cancel _ n1]
  rfl
theorem need_0v {i j : Nat} (hi : i = 0) (hj : 0 < j) (h : i + j ≤ 64) : ((i : Int) : Rat) * ((0 : Rat)) + ((j : Int) : Rat) * (-shQ i (j - 1) (i + j)) = ((-1 : Int) : Rat) := by
  subst hi
  have e1 := step_sh hj
  have n1 := fctR_ne j
  unfold shQ
  rw [Rat.mul_zero, Rat.zero_add, Nat.zero_add, fct_zero, Rat.one_mul, Rat.div_def, Rat.mul_neg, ← Rat.mul_assoc, e1, Rat.mul_inv_cancel _ n1]
  rfl
theorem need_00 {i j : Nat} (hi : i = 0) (hj : j = 0) (h : i + j ≤ 64) : ((i : Int) : Rat) * ((0 : Rat)) + ((j : Int) : Rat) * ((0 : Rat)) = ((0 : Int) : Rat) := by
  rw [Rat.mul_zero, Rat.mul_zero, Rat.add_zero]
  rfl

set_option maxRecDepth 100000 in
set_option maxHeartbeats 16000000 in
theorem walk (u v : Int) (w : World) (wu : (Lit.int .i64 u).wf = true) (wv : (Lit.int .i64 v).wf = true) (ht : Tab w) :
    Calls Tryz.prog 6 #[.int .i64 u, .int .i64 v] w fun e w' => e = .returned (.bool true) ∧ Below w.heap.size w w' := by
  have hu2 := bounds_i64 wu
  have hv2 := bounds_i64 wv
  clear wu wv
  by_cases hc : 0 ≤ u ∧ 0 ≤ v ∧ v ≤ 64 - u
  · obtain ⟨i, rfl⟩ : ∃ i : Nat, u = (i : Int) := ⟨u.toNat, by omega⟩
    obtain ⟨j, rfl⟩ : ∃ j : Nat, v = (j : Int) := ⟨v.toNat, by omega⟩
    have hij : i + j ≤ 64 := by omega
    clear hc hu2 hv2
    by_cases hpi : 0 < i
    · by_cases hpj : 0 < j
      · have pi : (0 : Int) < (i : Int) := by omega
        have pib : decide ((0 : Int) < (i : Int)) = true := by simp; omega
        have pie : ((i : Int) == 0) = false := by simp; omega
        have pin : decide (0 < i) = true := by simp; omega
        have pj : (0 : Int) < (j : Int) := by omega
        have pjb : decide ((0 : Int) < (j : Int)) = true := by simp; omega
        have pje : ((j : Int) == 0) = false := by simp; omega
        have pjn : decide (0 < j) = true := by simp; omega
        have wx : IntKind.i64.wrap (64 - (i : Int)) = ((64 - i : Nat) : Int) := by rw [IntKind.wrap_i64]; omega
        have ws : IntKind.i64.wrap ((i : Int) + (j : Int)) = ((i + j : Nat) : Int) := by rw [IntKind.wrap_i64]; omega
        have wi : IntKind.i64.wrap ((i : Int) - 1) = ((i - 1 : Nat) : Int) := by rw [IntKind.wrap_i64]; omega
        have wj : IntKind.i64.wrap ((j : Int) - 1) = ((j - 1 : Nat) : Int) := by rw [IntKind.wrap_i64]; omega
        have g1 : ¬ (i : Int) < 0 := by omega
        have g2 : ¬ (j : Int) < 0 := by omega
        have g3 : ¬ (64 : Int) < (i : Int) := by omega
        have g4 : ¬ ((64 - i : Nat) : Int) < (j : Int) := by omega
        have q1 : decide ((i : Int) < 0) = false := decide_eq_false g1
        have q2 : decide ((j : Int) < 0) = false := decide_eq_false g2
        have q3 : decide ((64 : Int) < (i : Int)) = false := decide_eq_false g3
        have q4 : decide (((64 - i : Nat) : Int) < (j : Int)) = false := decide_eq_false g4
        have HS : Hid (((i : Int) : Rat) * (shQ (i - 1) j (i + j)) + ((j : Int) : Rat) * (-shQ i (j - 1) (i + j)) = ((0 : Int) : Rat)) := need_uv hpi hpj hij
        have HI : Hid (0 < i) := hpi
        have HJ : Hid (0 < j) := hpj
        have s0 : qsz (shQ (i - 1) j (i + j)) ≤ 10 := shQ_sz (by omega) hij
        have s1 : qsz (-shQ i (j - 1) (i + j)) ≤ 10 := by rw [qsz_neg]; exact shQ_sz (by omega) hij
        have hi64 : i ≤ 64 := by omega
        have hj64 : j ≤ 64 := by omega
        have BB : Below w.heap.size w w := Below.refl _ _
        go_enter Tryz.func6, Tryz.ntmps6
        go_wp2_with fail
        refine (new_at _).mono ?_
        rintro e w1 ⟨rfl, hsz, HN, b1⟩
        replace ht := ht.below b1
        replace BB := BB.trans (b1.mono BB.size)
        clear b1
        obtain ⟨b, hb⟩ : ∃ b, b = w.heap.size := ⟨_, rfl⟩
        have hbw : w.heap.size ≤ b := by omega
        rw [← hb] at HN
        have HT : WT w1 b false := HN
        rw [← hb]
        clear HN hb hsz
        go_wp2_with fail
        refine (tneed_uv b i j false _ HT hij hpi hpj ht).mono ?_
        rintro e w2 ⟨r2, r3, rfl, h2, h3, HT2, ho⟩
        replace ht := ht.keepL ho.keep
        replace BB := BB.trans (ho.low hbw BB.size)
        clear ho HT HT2
        obtain ⟨p2, a2, n2, c2, y2, m2, d2, rfl⟩ := h2.open
        obtain ⟨p3, a3, n3, c3, y3, m3, d3, rfl⟩ := h3.open
        have hZ1 : w.heap.size ≤ w2.heap.size := BB.size
        obtain ⟨W2, hW2, hS2, hL2, VA⟩ := V3.lay w2 35 (.bool p2) (.slice a2 n2 c2) (.slice y2 m2 d2)
        replace ht := ht.below hL2
        replace h2 := h2.below hL2
        replace h3 := h3.below hL2
        replace BB := BB.trans (hL2.mono BB.size)
        clear hL2
        obtain ⟨W3, hW3, hS3, hL3, VB⟩ := V3.lay W2 35 (.bool p3) (.slice a3 n3 c3) (.slice y3 m3 d3)
        replace ht := ht.below hL3
        replace h2 := h2.below hL3
        replace h3 := h3.below hL3
        replace VA := VA.below hL3
        replace BB := BB.trans (hL3.mono BB.size)
        clear hL3
        rw [hS2] at VB
        go_wp2_with fail
        rw [← hW2]
        rw [← hW3]
        generalize w2.heap.size = R1 at *
        clear hW2 hS2 hW3 hS3
        refine (qzero_at _).mono ?_
        rintro e w4 ⟨r4, rfl, h4, b4⟩
        replace ht := ht.below b4
        replace h2 := h2.below b4
        replace h3 := h3.below b4
        replace VA := VA.below b4
        replace VB := VB.below b4
        replace BB := BB.trans (b4.mono BB.size)
        clear b4
        obtain ⟨p4, a4, n4, c4, y4, m4, d4, rfl⟩ := h4.open
        have hZ4 : w.heap.size ≤ w4.heap.size := BB.size
        have hN4VA : R1 ≠ w4.heap.size := Nat.ne_of_lt VA.lt
        have hN4VB : R1 + 1 ≠ w4.heap.size := Nat.ne_of_lt VB.lt
        obtain ⟨W4, hW4, hS4, hL4, VX⟩ := V3.lay w4 35 (.bool p4) (.slice a4 n4 c4) (.slice y4 m4 d4)
        replace ht := ht.below hL4
        replace h2 := h2.below hL4
        replace h3 := h3.below hL4
        replace h4 := h4.below hL4
        replace VA := VA.below hL4
        replace VB := VB.below hL4
        replace BB := BB.trans (hL4.mono BB.size)
        clear hL4
        go_wp2_with fail
        rw [← hW4]
        generalize w4.heap.size = R4 at *
        clear hW4 hS4
        refine (qzero_at _).mono ?_
        rintro e w5 ⟨r5, rfl, h5, b5⟩
        replace ht := ht.below b5
        replace h2 := h2.below b5
        replace h3 := h3.below b5
        replace h4 := h4.below b5
        replace VA := VA.below b5
        replace VB := VB.below b5
        replace VX := VX.below b5
        replace BB := BB.trans (b5.mono BB.size)
        clear b5
        obtain ⟨p5, a5, n5, c5, y5, m5, d5, rfl⟩ := h5.open
        have hZ5 : w.heap.size ≤ w5.heap.size := BB.size
        have hN5VA : R1 ≠ w5.heap.size := Nat.ne_of_lt VA.lt
        have hN5VB : R1 + 1 ≠ w5.heap.size := Nat.ne_of_lt VB.lt
        have hN5VX : R4 ≠ w5.heap.size := Nat.ne_of_lt VX.lt
        obtain ⟨W5, hW5, hS5, hL5, VY⟩ := V3.lay w5 35 (.bool p5) (.slice a5 n5 c5) (.slice y5 m5 d5)
        replace ht := ht.below hL5
        replace h2 := h2.below hL5
        replace h3 := h3.below hL5
        replace h4 := h4.below hL5
        replace h5 := h5.below hL5
        replace VA := VA.below hL5
        replace VB := VB.below hL5
        replace VX := VX.below hL5
        replace BB := BB.trans (hL5.mono BB.size)
        clear hL5
        go_wp2_with fail
        rw [← hW5]
        generalize w5.heap.size = R5 at *
        clear hW5 hS5
        have hLX : w.heap.size ≤ R4 := by omega
        have hLY : w.heap.size ≤ R5 := by omega
        refine (lfact_at (i - 1) _ (by omega) ht).mono ?_
        rintro e w6 ⟨r6, rfl, h6, b6⟩
        replace ht := ht.below b6
        replace h2 := h2.below b6
        replace h3 := h3.below b6
        replace h4 := h4.below b6
        replace h5 := h5.below b6
        replace VA := VA.below b6
        replace VB := VB.below b6
        replace VX := VX.below b6
        replace VY := VY.below b6
        replace BB := BB.trans (b6.mono BB.size)
        clear b6
        go_wp2_with fail
        refine (lfact_at j _ hj64 ht).mono ?_
        rintro e w7 ⟨r7, rfl, h7, b7⟩
        replace ht := ht.below b7
        replace h2 := h2.below b7
        replace h3 := h3.below b7
        replace h4 := h4.below b7
        replace h5 := h5.below b7
        replace h6 := h6.below b7
        replace VA := VA.below b7
        replace VB := VB.below b7
        replace VX := VX.below b7
        replace VY := VY.below b7
        replace BB := BB.trans (b7.mono BB.size)
        clear b7
        go_wp2_with fail
        refine (lfact_at (i + j) _ hij ht).mono ?_
        rintro e w8 ⟨r8, rfl, h8, b8⟩
        replace ht := ht.below b8
        replace h2 := h2.below b8
        replace h3 := h3.below b8
        replace h4 := h4.below b8
        replace h5 := h5.below b8
        replace h6 := h6.below b8
        replace h7 := h7.below b8
        replace VA := VA.below b8
        replace VB := VB.below b8
        replace VX := VX.below b8
        replace VY := VY.below b8
        replace BB := BB.trans (b8.mono BB.size)
        clear b8
        go_wp2_with fail
        refine (lquot_at _ _ _ _ _ _ _ h6 h7 h8 (Nat.le_trans (fctR_sz (by omega)) (by omega)) (Nat.le_trans (fctR_sz (by omega)) (by omega)) (Nat.le_trans (fctR_sz (by omega)) (by omega)) (fctR_ne _) ht).mono ?_
        rintro e w9 ⟨r9, rfl, h9, b9⟩
        replace ht := ht.below b9
        replace h2 := h2.below b9
        replace h3 := h3.below b9
        replace h4 := h4.below b9
        replace h5 := h5.below b9
        replace h6 := h6.below b9
        replace h7 := h7.below b9
        replace h8 := h8.below b9
        replace VA := VA.below b9
        replace VB := VB.below b9
        replace VX := VX.below b9
        replace VY := VY.below b9
        replace BB := BB.trans (b9.mono BB.size)
        clear b9
        obtain ⟨p9, a9, n9, c9, y9, m9, d9, rfl⟩ := h9.open
        clear h6 h7 h8 h4
        have hKp := VX.keepJ (.bool p9) (.slice a9 n9 c9) (.slice y9 m9 d9)
        have VA_n := VA.other3 (R := R4) (by omega) (.bool p9) (.slice a9 n9 c9) (.slice y9 m9 d9)
        have VB_n := VB.other3 (R := R4) (by omega) (.bool p9) (.slice a9 n9 c9) (.slice y9 m9 d9)
        have VY_n := VY.other3 (R := R4) (by omega) (.bool p9) (.slice a9 n9 c9) (.slice y9 m9 d9)
        have VX_n := VX.same (.bool p9) (.slice a9 n9 c9) (.slice y9 m9 d9)
        have ht_n := ht.keep hKp
        have h2_n := h2.keep hKp
        have h3_n := h3.keep hKp
        have h5_n := h5.keep hKp
        have h9_n := h9.keep hKp
        have BB_n := below_store3 (R := R4) BB (by omega) (.bool p9) (.slice a9 n9 c9) (.slice y9 m9 d9)
        clear hKp
        obtain ⟨VX_0, VX_1, VX_2, VX_3, VX_4, VX_5⟩ := id VX
        go_wp2_with fail
        clear VX_0 VX_1 VX_2 VX_3 VX_4 VX_5
        clear BB ht h2 h3 h5 h9 VA VB VX VY
        generalize ((w9.setCell ⟨R4, 0, none⟩ (.bool p9)).setCell ⟨R4, 1, none⟩ (.slice a9 n9 c9)).setCell ⟨R4, 2, none⟩ (.slice y9 m9 d9) = W6 at *
        have BB := BB_n
        have ht := ht_n
        have h2 := h2_n
        have h3 := h3_n
        have h5 := h5_n
        have h9 := h9_n
        have VA := VA_n
        have VB := VB_n
        have VX := VX_n
        have VY := VY_n
        clear BB_n ht_n h2_n h3_n h5_n h9_n VA_n VB_n VX_n VY_n
        refine (lfact_at i _ hi64 ht).mono ?_
        rintro e w10 ⟨s6, rfl, k6, b10⟩
        replace ht := ht.below b10
        replace h2 := h2.below b10
        replace h3 := h3.below b10
        replace h5 := h5.below b10
        replace h9 := h9.below b10
        replace VA := VA.below b10
        replace VB := VB.below b10
        replace VX := VX.below b10
        replace VY := VY.below b10
        replace BB := BB.trans (b10.mono BB.size)
        clear b10
        go_wp2_with fail
        refine (lfact_at (j - 1) _ (by omega) ht).mono ?_
        rintro e w11 ⟨s7, rfl, k7, b11⟩
        replace ht := ht.below b11
        replace h2 := h2.below b11
        replace h3 := h3.below b11
        replace h5 := h5.below b11
        replace h9 := h9.below b11
        replace k6 := k6.below b11
        replace VA := VA.below b11
        replace VB := VB.below b11
        replace VX := VX.below b11
        replace VY := VY.below b11
        replace BB := BB.trans (b11.mono BB.size)
        clear b11
        go_wp2_with fail
        refine (lfact_at (i + j) _ hij ht).mono ?_
        rintro e w12 ⟨s8, rfl, k8, b12⟩
        replace ht := ht.below b12
        replace h2 := h2.below b12
        replace h3 := h3.below b12
        replace h5 := h5.below b12
        replace h9 := h9.below b12
        replace k6 := k6.below b12
        replace k7 := k7.below b12
        replace VA := VA.below b12
        replace VB := VB.below b12
        replace VX := VX.below b12
        replace VY := VY.below b12
        replace BB := BB.trans (b12.mono BB.size)
        clear b12
        go_wp2_with fail
        refine (lquot_at _ _ _ _ _ _ _ k6 k7 k8 (Nat.le_trans (fctR_sz (by omega)) (by omega)) (Nat.le_trans (fctR_sz (by omega)) (by omega)) (Nat.le_trans (fctR_sz (by omega)) (by omega)) (fctR_ne _) ht).mono ?_
        rintro e w13 ⟨s9, rfl, k9, b13⟩
        replace ht := ht.below b13
        replace h2 := h2.below b13
        replace h3 := h3.below b13
        replace h5 := h5.below b13
        replace h9 := h9.below b13
        replace k6 := k6.below b13
        replace k7 := k7.below b13
        replace k8 := k8.below b13
        replace VA := VA.below b13
        replace VB := VB.below b13
        replace VX := VX.below b13
        replace VY := VY.below b13
        replace BB := BB.trans (b13.mono BB.size)
        clear b13
        go_wp2_with fail
        clear k6 k7 k8 h5
        refine (qneg_at _ _ 10 _ (k9.at 10 (shQ_sz (a := i) (c := j - 1) (n := i + j) (by omega) hij)) (by omega) (by omega) ht).mono ?_
        rintro e w14 ⟨t9, rfl, l9, b14⟩
        replace ht := ht.below b14
        replace h2 := h2.below b14
        replace h3 := h3.below b14
        replace h9 := h9.below b14
        replace k9 := k9.below b14
        replace VA := VA.below b14
        replace VB := VB.below b14
        replace VX := VX.below b14
        replace VY := VY.below b14
        replace BB := BB.trans (b14.mono BB.size)
        clear b14
        obtain ⟨p8, a8, n8, c8, y8, m8, d8, rfl⟩ := l9.open
        clear k9
        have hKp := VY.keepJ (.bool p8) (.slice a8 n8 c8) (.slice y8 m8 d8)
        have VA_n := VA.other3 (R := R5) (by omega) (.bool p8) (.slice a8 n8 c8) (.slice y8 m8 d8)
        have VB_n := VB.other3 (R := R5) (by omega) (.bool p8) (.slice a8 n8 c8) (.slice y8 m8 d8)
        have VX_n := VX.other3 (R := R5) (by omega) (.bool p8) (.slice a8 n8 c8) (.slice y8 m8 d8)
        have VY_n := VY.same (.bool p8) (.slice a8 n8 c8) (.slice y8 m8 d8)
        have ht_n := ht.keep hKp
        have h2_n := h2.keep hKp
        have h3_n := h3.keep hKp
        have h9_n := h9.keep hKp
        have l9_n := l9.keep hKp
        have BB_n := below_store3 (R := R5) BB (by omega) (.bool p8) (.slice a8 n8 c8) (.slice y8 m8 d8)
        clear hKp
        obtain ⟨VY_0, VY_1, VY_2, VY_3, VY_4, VY_5⟩ := id VY
        go_wp2
        clear VY_0 VY_1 VY_2 VY_3 VY_4 VY_5
        clear BB ht h2 h3 h9 l9 VA VB VX VY
        generalize ((w14.setCell ⟨R5, 0, none⟩ (.bool p8)).setCell ⟨R5, 1, none⟩ (.slice a8 n8 c8)).setCell ⟨R5, 2, none⟩ (.slice y8 m8 d8) = W7 at *
        have BB := BB_n
        have ht := ht_n
        have h2 := h2_n
        have h3 := h3_n
        have h9 := h9_n
        have l9 := l9_n
        have VA := VA_n
        have VB := VB_n
        have VX := VX_n
        have VY := VY_n
        clear BB_n ht_n h2_n h3_n h9_n l9_n VA_n VB_n VX_n VY_n
        (try simp only [pib, pjb, pin, pjn])
        refine wp_region_until 10 #[true, true, true, true, true, true, true, true, true, true, false] (fun aF lsd a' w' => ∃ vu0 vu1 vu2 vu3 vu4 vu5 vu6 vu7 vu8 vu9 : Value, a' = (((((((((aF.put (some 78) vu0).put (some 79) vu1).put (some 80) vu2).put (some 81) vu3).put (some 82) vu4).put (some 83) vu5).put (some 84) vu6).put (some 85) vu7).put (some 86) vu8).put (some 10) vu9 ∧ Below W7.heap.size W7 w' ∧ (lsd.getD 0 false = true → vu0 = .int .i64 (i : Int)) ∧ (lsd.getD 1 false = true → RepQ w' vu1 ((i : Int) : Rat)) ∧ (lsd.getD 2 false = true → vu2 = .agg #[.bool p2, .slice a2 n2 c2, .slice y2 m2 d2]) ∧ (lsd.getD 3 false = true → RepQ w' vu3 (((i : Int) : Rat) * (shQ (i - 1) j (i + j)))) ∧ (lsd.getD 4 false = true → vu4 = .int .i64 (j : Int)) ∧ (lsd.getD 5 false = true → RepQ w' vu5 ((j : Int) : Rat)) ∧ (lsd.getD 6 false = true → vu6 = .agg #[.bool p3, .slice a3 n3 c3, .slice y3 m3 d3]) ∧ (lsd.getD 7 false = true → RepQ w' vu7 (((j : Int) : Rat) * (-shQ i (j - 1) (i + j)))) ∧ (lsd.getD 8 false = true → RepQ w' vu8 (((i : Int) : Rat) * (shQ (i - 1) j (i + j)) + ((j : Int) : Rat) * (-shQ i (j - 1) (i + j)))) ∧ (lsd.getD 9 false = true → New3 W7.heap.size w' vu9 (.bool false) (.slice none 0 0) (.slice none 0 0))) (by kernel_rfl) (by decide) (by kernel_rfl) (by rfl) (by kernel_rfl) ?_ ?_ ?_
        · exact ⟨_, _, _, _, _, _, _, _, _, _, by simp only [Act.put, List.setIfInBounds_toArray, List.set_cons_zero, List.set_cons_succ]; rfl, (Below.refl _ _).drew, fun h => absurd h (fun h => mark_none h), fun h => absurd h (fun h => mark_none h), fun h => absurd h (fun h => mark_none h), fun h => absurd h (fun h => mark_none h), fun h => absurd h (fun h => mark_none h), fun h => absurd h (fun h => mark_none h), fun h => absurd h (fun h => mark_none h), fun h => absurd h (fun h => mark_none h), fun h => absurd h (fun h => mark_none h), fun h => absurd h (fun h => mark_none h)⟩
        · rintro lsd au wn iu hszu ⟨vu0, vu1, vu2, vu3, vu4, vu5, vu6, vu7, vu8, vu9, rfl, hbu, fu0, fu1, fu2, fu3, fu4, fu5, fu6, fu7, fu8, fu9⟩ himu hru
          rcases (show iu = 0 ∨ iu = 1 ∨ iu = 2 ∨ iu = 3 ∨ iu = 4 ∨ iu = 5 ∨ iu = 6 ∨ iu = 7 ∨ iu = 8 ∨ iu = 9 by omega) with rfl | rfl | rfl | rfl | rfl | rfl | rfl | rfl | rfl | rfl
          · refine wpOp_shut (by rfl) (fun K hK => ?_)
            simp only [Act.put, List.setIfInBounds_toArray, List.set_cons_zero, List.set_cons_succ]
            go_simp
            exact hK.out _ _ ⟨(.int .i64 (i : Int)), vu1, vu2, vu3, vu4, vu5, vu6, vu7, vu8, vu9, by simp only [Act.put, List.setIfInBounds_toArray, List.set_cons_zero, List.set_cons_succ], hbu, fun _ => rfl, fun h => fu1 (mark_of (by decide) h), fun h => fu2 (mark_of (by decide) h), fun h => fu3 (mark_of (by decide) h), fun h => fu4 (mark_of (by decide) h), fun h => fu5 (mark_of (by decide) h), fun h => fu6 (mark_of (by decide) h), fun h => fu7 (mark_of (by decide) h), fun h => fu8 (mark_of (by decide) h), fun h => fu9 (mark_of (by decide) h)⟩
          · have eu0 := fu0 (dep_of 0 hru rfl (by kernel_rfl))
            replace eu0 := eu0.symm
            subst eu0
            refine wpOp_shut (by rfl) (fun K hK => ?_)
            simp only [Act.put, List.setIfInBounds_toArray, List.set_cons_zero, List.set_cons_succ]
            go_simp
            refine (qof_at (i : Int) _ (by omega) (by omega)).mono ?_
            rintro eu wx ⟨x1, rfl, e1, bu⟩
            go_wp2_with fail
            have hbu2 := hbu.trans (bu.mono hbu.size)
            exact hK.out _ _ ⟨(.int .i64 (i : Int)), _, vu2, vu3, vu4, vu5, vu6, vu7, vu8, vu9, by simp only [Act.put, List.setIfInBounds_toArray, List.set_cons_zero, List.set_cons_succ], hbu2, fun _ => rfl, fun _ => e1, fun h => fu2 (mark_of (by decide) h), fun h => (fu3 (mark_of (by decide) h)).below bu, fun h => fu4 (mark_of (by decide) h), fun h => (fu5 (mark_of (by decide) h)).below bu, fun h => fu6 (mark_of (by decide) h), fun h => (fu7 (mark_of (by decide) h)).below bu, fun h => (fu8 (mark_of (by decide) h)).below bu, fun h => (fu9 (mark_of (by decide) h)).below bu⟩
          · refine wpOp_shut (by rfl) (fun K hK => ?_)
            simp only [Act.put, List.setIfInBounds_toArray, List.set_cons_zero, List.set_cons_succ]
            obtain ⟨VA_0, VA_1, VA_2, VA_3, VA_4, VA_5⟩ := VA.below hbu
            go_simp
            exact hK.out _ _ ⟨vu0, vu1, (.agg #[.bool p2, .slice a2 n2 c2, .slice y2 m2 d2]), vu3, vu4, vu5, vu6, vu7, vu8, vu9, by simp only [Act.put, List.setIfInBounds_toArray, List.set_cons_zero, List.set_cons_succ], hbu, fun h => fu0 (mark_of (by decide) h), fun h => fu1 (mark_of (by decide) h), fun _ => rfl, fun h => fu3 (mark_of (by decide) h), fun h => fu4 (mark_of (by decide) h), fun h => fu5 (mark_of (by decide) h), fun h => fu6 (mark_of (by decide) h), fun h => fu7 (mark_of (by decide) h), fun h => fu8 (mark_of (by decide) h), fun h => fu9 (mark_of (by decide) h)⟩
          · have eu2 := fu2 (dep_of 2 hru rfl (by kernel_rfl))
            replace eu2 := eu2.symm
            subst eu2
            have e1 := fu1 (dep_of 1 hru rfl (by kernel_rfl))
            refine wpOp_shut (by rfl) (fun K hK => ?_)
            simp only [Act.put, List.setIfInBounds_toArray, List.set_cons_zero, List.set_cons_succ]
            have ht := ht.below hbu
            have h2 := h2.below hbu
            go_simp
            refine (qmul_at _ _ _ _ 10 _ (e1.at 10 (iz hi64)) (h2.at 10 s0) (by omega) (by omega) ht).mono ?_
            rintro eu wx ⟨x3, rfl, e3, bu⟩
            go_wp2_with fail
            have hbu2 := hbu.trans (bu.mono hbu.size)
            exact hK.out _ _ ⟨vu0, vu1, (.agg #[.bool p2, .slice a2 n2 c2, .slice y2 m2 d2]), _, vu4, vu5, vu6, vu7, vu8, vu9, by simp only [Act.put, List.setIfInBounds_toArray, List.set_cons_zero, List.set_cons_succ], hbu2, fun h => fu0 (mark_of (by decide) h), fun h => (fu1 (mark_of (by decide) h)).below bu, fun _ => rfl, fun _ => e3, fun h => fu4 (mark_of (by decide) h), fun h => (fu5 (mark_of (by decide) h)).below bu, fun h => fu6 (mark_of (by decide) h), fun h => (fu7 (mark_of (by decide) h)).below bu, fun h => (fu8 (mark_of (by decide) h)).below bu, fun h => (fu9 (mark_of (by decide) h)).below bu⟩
          · refine wpOp_shut (by rfl) (fun K hK => ?_)
            simp only [Act.put, List.setIfInBounds_toArray, List.set_cons_zero, List.set_cons_succ]
            go_simp
            exact hK.out _ _ ⟨vu0, vu1, vu2, vu3, (.int .i64 (j : Int)), vu5, vu6, vu7, vu8, vu9, by simp only [Act.put, List.setIfInBounds_toArray, List.set_cons_zero, List.set_cons_succ], hbu, fun h => fu0 (mark_of (by decide) h), fun h => fu1 (mark_of (by decide) h), fun h => fu2 (mark_of (by decide) h), fun h => fu3 (mark_of (by decide) h), fun _ => rfl, fun h => fu5 (mark_of (by decide) h), fun h => fu6 (mark_of (by decide) h), fun h => fu7 (mark_of (by decide) h), fun h => fu8 (mark_of (by decide) h), fun h => fu9 (mark_of (by decide) h)⟩
          · have eu4 := fu4 (dep_of 4 hru rfl (by kernel_rfl))
            replace eu4 := eu4.symm
            subst eu4
            have e3 := fu3 (dep_of 3 hru rfl (by kernel_rfl))
            refine wpOp_shut (by rfl) (fun K hK => ?_)
            simp only [Act.put, List.setIfInBounds_toArray, List.set_cons_zero, List.set_cons_succ]
            go_simp
            refine (qof_at (j : Int) _ (by omega) (by omega)).mono ?_
            rintro eu wx ⟨x5, rfl, e5, bu⟩
            go_wp2_with fail
            have hbu2 := hbu.trans (bu.mono hbu.size)
            exact hK.out _ _ ⟨vu0, vu1, vu2, vu3, (.int .i64 (j : Int)), _, vu6, vu7, vu8, vu9, by simp only [Act.put, List.setIfInBounds_toArray, List.set_cons_zero, List.set_cons_succ], hbu2, fun h => fu0 (mark_of (by decide) h), fun h => (fu1 (mark_of (by decide) h)).below bu, fun h => fu2 (mark_of (by decide) h), fun h => (fu3 (mark_of (by decide) h)).below bu, fun _ => rfl, fun _ => e5, fun h => fu6 (mark_of (by decide) h), fun h => (fu7 (mark_of (by decide) h)).below bu, fun h => (fu8 (mark_of (by decide) h)).below bu, fun h => (fu9 (mark_of (by decide) h)).below bu⟩
          · refine wpOp_shut (by rfl) (fun K hK => ?_)
            simp only [Act.put, List.setIfInBounds_toArray, List.set_cons_zero, List.set_cons_succ]
            obtain ⟨VB_0, VB_1, VB_2, VB_3, VB_4, VB_5⟩ := VB.below hbu
            go_simp
            exact hK.out _ _ ⟨vu0, vu1, vu2, vu3, vu4, vu5, (.agg #[.bool p3, .slice a3 n3 c3, .slice y3 m3 d3]), vu7, vu8, vu9, by simp only [Act.put, List.setIfInBounds_toArray, List.set_cons_zero, List.set_cons_succ], hbu, fun h => fu0 (mark_of (by decide) h), fun h => fu1 (mark_of (by decide) h), fun h => fu2 (mark_of (by decide) h), fun h => fu3 (mark_of (by decide) h), fun h => fu4 (mark_of (by decide) h), fun h => fu5 (mark_of (by decide) h), fun _ => rfl, fun h => fu7 (mark_of (by decide) h), fun h => fu8 (mark_of (by decide) h), fun h => fu9 (mark_of (by decide) h)⟩
          · have eu6 := fu6 (dep_of 6 hru rfl (by kernel_rfl))
            replace eu6 := eu6.symm
            subst eu6
            have e5 := fu5 (dep_of 5 hru rfl (by kernel_rfl))
            refine wpOp_shut (by rfl) (fun K hK => ?_)
            simp only [Act.put, List.setIfInBounds_toArray, List.set_cons_zero, List.set_cons_succ]
            have ht := ht.below hbu
            have h3 := h3.below hbu
            go_simp
            refine (qmul_at _ _ _ _ 10 _ (e5.at 10 (iz hj64)) (h3.at 10 s1) (by omega) (by omega) ht).mono ?_
            rintro eu wx ⟨x7, rfl, e7, bu⟩
            go_wp2_with fail
            have hbu2 := hbu.trans (bu.mono hbu.size)
            exact hK.out _ _ ⟨vu0, vu1, vu2, vu3, vu4, vu5, (.agg #[.bool p3, .slice a3 n3 c3, .slice y3 m3 d3]), _, vu8, vu9, by simp only [Act.put, List.setIfInBounds_toArray, List.set_cons_zero, List.set_cons_succ], hbu2, fun h => fu0 (mark_of (by decide) h), fun h => (fu1 (mark_of (by decide) h)).below bu, fun h => fu2 (mark_of (by decide) h), fun h => (fu3 (mark_of (by decide) h)).below bu, fun h => fu4 (mark_of (by decide) h), fun h => (fu5 (mark_of (by decide) h)).below bu, fun _ => rfl, fun _ => e7, fun h => (fu8 (mark_of (by decide) h)).below bu, fun h => (fu9 (mark_of (by decide) h)).below bu⟩
          · have e3 := fu3 (dep_of 3 hru rfl (by kernel_rfl))
            have e7 := fu7 (dep_of 7 hru rfl (by kernel_rfl))
            refine wpOp_shut (by rfl) (fun K hK => ?_)
            simp only [Act.put, List.setIfInBounds_toArray, List.set_cons_zero, List.set_cons_succ]
            have ht := ht.below hbu
            go_simp
            refine (qadd_at _ _ _ _ 20 _ (e3.at 20 (qsz_mul _ _ (iz hi64) s0)) (e7.at 20 (qsz_mul _ _ (iz hj64) s1)) (by omega) (by omega) ht).mono ?_
            rintro eu wx ⟨x8, rfl, e8, bu⟩
            go_wp2_with fail
            have hbu2 := hbu.trans (bu.mono hbu.size)
            exact hK.out _ _ ⟨vu0, vu1, vu2, vu3, vu4, vu5, vu6, vu7, _, vu9, by simp only [Act.put, List.setIfInBounds_toArray, List.set_cons_zero, List.set_cons_succ], hbu2, fun h => fu0 (mark_of (by decide) h), fun h => (fu1 (mark_of (by decide) h)).below bu, fun h => fu2 (mark_of (by decide) h), fun h => (fu3 (mark_of (by decide) h)).below bu, fun h => fu4 (mark_of (by decide) h), fun h => (fu5 (mark_of (by decide) h)).below bu, fun h => fu6 (mark_of (by decide) h), fun h => (fu7 (mark_of (by decide) h)).below bu, fun _ => e8, fun h => (fu9 (mark_of (by decide) h)).below bu⟩
          · refine wpOp_shut (by rfl) (fun K hK => ?_)
            simp only [Act.put, List.setIfInBounds_toArray, List.set_cons_zero, List.set_cons_succ]
            go_simp
            obtain ⟨wx, hWx, hSx, bu, VXu⟩ := V3.lay wn 35 (.bool false) (.slice none 0 0) (.slice none 0 0)
            rw [← hWx]
            have hbu2 := hbu.trans (bu.mono hbu.size)
            exact hK.out _ _ ⟨vu0, vu1, vu2, vu3, vu4, vu5, vu6, vu7, vu8, _, by simp only [Act.put, List.setIfInBounds_toArray, List.set_cons_zero, List.set_cons_succ], hbu2, fun h => fu0 (mark_of (by decide) h), fun h => (fu1 (mark_of (by decide) h)).below bu, fun h => fu2 (mark_of (by decide) h), fun h => (fu3 (mark_of (by decide) h)).below bu, fun h => fu4 (mark_of (by decide) h), fun h => (fu5 (mark_of (by decide) h)).below bu, fun h => fu6 (mark_of (by decide) h), fun h => (fu7 (mark_of (by decide) h)).below bu, fun h => (fu8 (mark_of (by decide) h)).below bu, fun _ => ⟨_, rfl, hbu.size, VXu⟩⟩
        rintro au Wu8 ⟨vu0, vu1, vu2, vu3, vu4, vu5, vu6, vu7, vu8, vu9, rfl, hbu, fu0, fu1, fu2, fu3, fu4, fu5, fu6, fu7, fu8, fu9⟩
        have eu0 := (fu0 rfl).symm
        subst eu0
        have e1 := fu1 rfl
        have eu2 := (fu2 rfl).symm
        subst eu2
        have e3 := fu3 rfl
        have eu4 := (fu4 rfl).symm
        subst eu4
        have e5 := fu5 rfl
        have eu6 := (fu6 rfl).symm
        subst eu6
        have e7 := fu7 rfl
        have e8 := fu8 rfl
        obtain ⟨RVS, rfl, hRVS, VS⟩ := fu9 rfl
        clear fu0 fu1 fu2 fu3 fu4 fu5 fu6 fu7 fu8 fu9
        have hlVA : R1 < W7.heap.size := VA.lt
        have hlVB : R1 + 1 < W7.heap.size := VB.lt
        have hlVX : R4 < W7.heap.size := VX.lt
        have hlVY : R5 < W7.heap.size := VY.lt
        rw [HS.out] at e8
        obtain ⟨p6, a6, n6, c6, y6, m6, d6, rfl⟩ := e8.open
        simp only [Act.put, List.setIfInBounds_toArray, List.set_cons_zero, List.set_cons_succ]
        refine wpAnyH_ready (rs := [10]) (by kernel_rfl) (by simp) ?_
        refine AllReadyH.cons (by rfl) (fun K hK => ?_) AllReadyH.nil
        have hKp := VS.keepJ (.bool p6) (.slice a6 n6 c6) (.slice y6 m6 d6)
        have VS_n := VS.same (.bool p6) (.slice a6 n6 c6) (.slice y6 m6 d6)
        have e1_n := e1.keep hKp
        have e3_n := e3.keep hKp
        have e5_n := e5.keep hKp
        have e7_n := e7.keep hKp
        have e8_n := e8.keep hKp
        have hbu_n := below_store3 (R := RVS) hbu (by omega) (.bool p6) (.slice a6 n6 c6) (.slice y6 m6 d6)
        clear hKp
        obtain ⟨VS_0, VS_1, VS_2, VS_3, VS_4, VS_5⟩ := id VS
        go_simp
        clear VS_0 VS_1 VS_2 VS_3 VS_4 VS_5
        clear hbu e1 e3 e5 e7 e8 VS
        generalize ((Wu8.setCell ⟨RVS, 0, none⟩ (.bool p6)).setCell ⟨RVS, 1, none⟩ (.slice a6 n6 c6)).setCell ⟨RVS, 2, none⟩ (.slice y6 m6 d6) = W9 at *
        have hbu := hbu_n
        have e1 := e1_n
        have e3 := e3_n
        have e5 := e5_n
        have e7 := e7_n
        have e8 := e8_n
        have VS := VS_n
        clear hbu_n e1_n e3_n e5_n e7_n e8_n VS_n
        refine hK.out _ _ trivial (fun _ => ?_)
        clear hK K
        simp only [Act.put, List.setIfInBounds_toArray, List.set_cons_zero, List.set_cons_succ]
        replace ht := ht.below hbu
        replace h2 := h2.below hbu
        replace h3 := h3.below hbu
        replace h9 := h9.below hbu
        replace l9 := l9.below hbu
        replace VA := VA.below hbu
        replace VB := VB.below hbu
        replace VX := VX.below hbu
        replace VY := VY.below hbu
        replace BB := BB.trans (hbu.mono BB.size)
        clear hbu
        refine wpAnyH_done (by kernel_rfl) ?_ _
        clear e1 e3 e5 e7
        go_wp2
        have hDr : Below W9.heap.size W9 W9.drew := (Below.refl _ _).drew
        replace ht := ht.below hDr
        replace h2 := h2.below hDr
        replace h3 := h3.below hDr
        replace h9 := h9.below hDr
        replace l9 := l9.below hDr
        replace e8 := e8.below hDr
        replace VA := VA.below hDr
        replace VB := VB.below hDr
        replace VX := VX.below hDr
        replace VY := VY.below hDr
        replace VS := VS.below hDr
        replace BB := BB.trans (hDr.mono BB.size)
        clear hDr
        refine wp_region_held_drew (S := (fun w' => w'.cell? ⟨R1, 0, none⟩ = some (.bool p2) ∧ w'.cell? ⟨R1, 1, none⟩ = some (.slice a2 n2 c2) ∧ w'.cell? ⟨R1, 2, none⟩ = some (.slice y2 m2 d2) ∧ w'.cell? ⟨R1 + 1, 0, none⟩ = some (.bool p3) ∧ w'.cell? ⟨R1 + 1, 1, none⟩ = some (.slice a3 n3 c3) ∧ w'.cell? ⟨R1 + 1, 2, none⟩ = some (.slice y3 m3 d3) ∧ w'.cell? ⟨R4, 0, none⟩ = some (.bool p9) ∧ w'.cell? ⟨R4, 1, none⟩ = some (.slice a9 n9 c9) ∧ w'.cell? ⟨R4, 2, none⟩ = some (.slice y9 m9 d9) ∧ w'.cell? ⟨R5, 0, none⟩ = some (.bool p8) ∧ w'.cell? ⟨R5, 1, none⟩ = some (.slice a8 n8 c8) ∧ w'.cell? ⟨R5, 2, none⟩ = some (.slice y8 m8 d8) ∧ w'.cell? ⟨RVS, 0, none⟩ = some (.bool p6) ∧ w'.cell? ⟨RVS, 1, none⟩ = some (.slice a6 n6 c6) ∧ w'.cell? ⟨RVS, 2, none⟩ = some (.slice y6 m6 d6))) (by kernel_rfl) ?_ (fun hHeld => ?_)
        · exact ⟨VA.1, VA.2.1, VA.2.2.1, VB.1, VB.2.1, VB.2.2.1, VX.1, VX.2.1, VX.2.2.1, VY.1, VY.2.1, VY.2.2.1, VS.1, VS.2.1, VS.2.2.1⟩
        generalize W9.drew = W10 at *
        refine wpAnyH_take (i := 0) (v := ?_) (by simp only [List.getElem?_toArray, List.getElem?_cons_succ, List.getElem?_cons_zero]; rfl) (by kernel_rfl) (by kernel_rfl) (by kernel_rfl) (by exact fun _ _ _ h => h) (Or.inl ⟨by rfl, ?_⟩) (by assumption) ?_
        rotate_left
        · (intro w hSw; (try dsimp only at hSw); go_simp; (try with_reducible rfl))
        (try simp only [Act.put, List.setIfInBounds_toArray, List.set_cons_zero, List.set_cons_succ])
        refine wpAnyH_take (i := 1) (v := ?_) (by simp only [List.getElem?_toArray, List.getElem?_cons_succ, List.getElem?_cons_zero]; rfl) (by kernel_rfl) (by kernel_rfl) (by kernel_rfl) (by exact fun _ _ _ h => h) (Or.inl ⟨by rfl, ?_⟩) (by assumption) ?_
        rotate_left
        · (intro w hSw; (try dsimp only at hSw); go_simp; (try with_reducible rfl))
        (try simp only [Act.put, List.setIfInBounds_toArray, List.set_cons_zero, List.set_cons_succ])
        refine wpAnyH_take (i := 2) (v := ?_) (by simp only [List.getElem?_toArray, List.getElem?_cons_succ, List.getElem?_cons_zero]; rfl) (by kernel_rfl) (by kernel_rfl) (by kernel_rfl) (by exact fun _ _ _ h => h) (Or.inl ⟨by rfl, ?_⟩) (by assumption) ?_
        rotate_left
        · (intro w hSw; (try dsimp only at hSw); go_simp; (try with_reducible rfl))
        (try simp only [Act.put, List.setIfInBounds_toArray, List.set_cons_zero, List.set_cons_succ])
        refine wpAnyH_take (i := 3) (v := ?_) (by simp only [List.getElem?_toArray, List.getElem?_cons_succ, List.getElem?_cons_zero]; rfl) (by kernel_rfl) (by kernel_rfl) (by kernel_rfl) (by exact fun _ _ _ h => h) (Or.inl ⟨by rfl, ?_⟩) (by assumption) ?_
        rotate_left
        · (intro w hSw; (try dsimp only at hSw); go_simp; (try with_reducible rfl))
        (try simp only [Act.put, List.setIfInBounds_toArray, List.set_cons_zero, List.set_cons_succ])
        refine wpAnyH_take (i := 4) (v := ?_) (by simp only [List.getElem?_toArray, List.getElem?_cons_succ, List.getElem?_cons_zero]; rfl) (by kernel_rfl) (by kernel_rfl) (by kernel_rfl) (by exact fun _ _ _ h => h) (Or.inl ⟨by rfl, ?_⟩) (by assumption) ?_
        rotate_left
        · (intro w hSw; (try dsimp only at hSw); go_simp; (try with_reducible rfl))
        (try simp only [Act.put, List.setIfInBounds_toArray, List.set_cons_zero, List.set_cons_succ])
        refine wpAnyH_ready (rs := [5]) (by kernel_rfl) (by simp) ?_
        refine AllReadyH.cons (by simp only [List.getElem?_toArray, List.getElem?_cons_succ, List.getElem?_cons_zero]; rfl) (fun K hK => ?_) AllReadyH.nil
        go_simp
        refine (lis14_at _ _ _ _ _ h2 h9 (Nat.le_trans s0 (by omega)) (Nat.le_trans s0 (by omega)) rfl ht).mono ?_
        rintro e w15 ⟨rfl, b15⟩
        go_wp2_with fail
        replace ht := ht.below b15
        replace h2 := h2.below b15
        replace h3 := h3.below b15
        replace h9 := h9.below b15
        replace l9 := l9.below b15
        replace e8 := e8.below b15
        replace VA := VA.below b15
        replace VB := VB.below b15
        replace VX := VX.below b15
        replace VY := VY.below b15
        replace VS := VS.below b15
        replace BB := BB.trans (b15.mono BB.size)
        clear b15
        refine hK.out _ _ ?_ (fun hH1 => ?_)
        · exact ⟨VA.1, VA.2.1, VA.2.2.1, VB.1, VB.2.1, VB.2.2.1, VX.1, VX.2.1, VX.2.2.1, VY.1, VY.2.1, VY.2.2.1, VS.1, VS.2.1, VS.2.2.1⟩
        clear hK K hHeld
        (try simp only [Act.put, List.setIfInBounds_toArray, List.set_cons_zero, List.set_cons_succ])
        refine wpAnyH_take (i := 6) (v := ?_) (by simp only [List.getElem?_toArray, List.getElem?_cons_succ, List.getElem?_cons_zero]; rfl) (by kernel_rfl) (by kernel_rfl) (by kernel_rfl) (by exact fun _ _ _ h => h) (Or.inl ⟨by rfl, ?_⟩) (by assumption) ?_
        rotate_left
        · (intro w hSw; (try dsimp only at hSw); go_simp; (try with_reducible rfl))
        (try simp only [Act.put, List.setIfInBounds_toArray, List.set_cons_zero, List.set_cons_succ])
        refine wpAnyH_take (i := 7) (v := ?_) (by simp only [List.getElem?_toArray, List.getElem?_cons_succ, List.getElem?_cons_zero]; rfl) (by kernel_rfl) (by kernel_rfl) (by kernel_rfl) (by exact fun _ _ _ h => h) (Or.inl ⟨by rfl, ?_⟩) (by assumption) ?_
        rotate_left
        · (intro w hSw; (try dsimp only at hSw); go_simp; (try with_reducible rfl))
        (try simp only [Act.put, List.setIfInBounds_toArray, List.set_cons_zero, List.set_cons_succ])
        refine wpAnyH_take (i := 8) (v := ?_) (by simp only [List.getElem?_toArray, List.getElem?_cons_succ, List.getElem?_cons_zero]; rfl) (by kernel_rfl) (by kernel_rfl) (by kernel_rfl) (by exact fun _ _ _ h => h) (Or.inl ⟨by rfl, ?_⟩) (by assumption) ?_
        rotate_left
        · (intro w hSw; (try dsimp only at hSw); go_simp; (try with_reducible rfl))
        (try simp only [Act.put, List.setIfInBounds_toArray, List.set_cons_zero, List.set_cons_succ])
        refine wpAnyH_take (i := 9) (v := ?_) (by simp only [List.getElem?_toArray, List.getElem?_cons_succ, List.getElem?_cons_zero]; rfl) (by kernel_rfl) (by kernel_rfl) (by kernel_rfl) (by exact fun _ _ _ h => h) (Or.inl ⟨by rfl, ?_⟩) (by assumption) ?_
        rotate_left
        · (intro w hSw; (try dsimp only at hSw); go_simp; (try with_reducible rfl))
        (try simp only [Act.put, List.setIfInBounds_toArray, List.set_cons_zero, List.set_cons_succ])
        refine wpAnyH_ready (rs := [10]) (by kernel_rfl) (by simp) ?_
        refine AllReadyH.cons (by simp only [List.getElem?_toArray, List.getElem?_cons_succ, List.getElem?_cons_zero]; rfl) (fun K hK => ?_) AllReadyH.nil
        go_simp
        refine (lis14_at _ _ _ _ _ h3 l9 (Nat.le_trans s1 (by omega)) (Nat.le_trans s1 (by omega)) rfl ht).mono ?_
        rintro e w16 ⟨rfl, b16⟩
        go_wp2_with fail
        replace ht := ht.below b16
        replace h2 := h2.below b16
        replace h3 := h3.below b16
        replace h9 := h9.below b16
        replace l9 := l9.below b16
        replace e8 := e8.below b16
        replace VA := VA.below b16
        replace VB := VB.below b16
        replace VX := VX.below b16
        replace VY := VY.below b16
        replace VS := VS.below b16
        replace BB := BB.trans (b16.mono BB.size)
        clear b16
        refine hK.out _ _ ?_ (fun hH2 => ?_)
        · exact ⟨VA.1, VA.2.1, VA.2.2.1, VB.1, VB.2.1, VB.2.2.1, VX.1, VX.2.1, VX.2.2.1, VY.1, VY.2.1, VY.2.2.1, VS.1, VS.2.1, VS.2.2.1⟩
        clear hK K hH1
        (try simp only [Act.put, List.setIfInBounds_toArray, List.set_cons_zero, List.set_cons_succ])
        refine wpAnyH_take (i := 11) (v := ?_) (by simp only [List.getElem?_toArray, List.getElem?_cons_succ, List.getElem?_cons_zero]; rfl) (by kernel_rfl) (by kernel_rfl) (by kernel_rfl) (by exact fun _ _ _ h => h) (Or.inl ⟨by rfl, ?_⟩) (by assumption) ?_
        rotate_left
        · (intro w hSw; (try dsimp only at hSw); go_simp; (try with_reducible rfl))
        (try simp only [Act.put, List.setIfInBounds_toArray, List.set_cons_zero, List.set_cons_succ])
        refine wpAnyH_take (i := 12) (v := ?_) (by simp only [List.getElem?_toArray, List.getElem?_cons_succ, List.getElem?_cons_zero]; rfl) (by kernel_rfl) (by kernel_rfl) (by kernel_rfl) (by exact fun _ _ _ h => h) (Or.inl ⟨by rfl, ?_⟩) (by assumption) ?_
        rotate_left
        · (intro w hSw; (try dsimp only at hSw); go_simp; (try with_reducible rfl))
        (try simp only [Act.put, List.setIfInBounds_toArray, List.set_cons_zero, List.set_cons_succ])
        refine wpAnyH_take (i := 13) (v := ?_) (by simp only [List.getElem?_toArray, List.getElem?_cons_succ, List.getElem?_cons_zero]; rfl) (by kernel_rfl) (by kernel_rfl) (by kernel_rfl) (by exact fun _ _ _ h => h) (Or.inl ⟨by rfl, ?_⟩) (by assumption) ?_
        rotate_left
        · (intro w hSw; (try dsimp only at hSw); go_simp; (try with_reducible rfl))
        (try simp only [Act.put, List.setIfInBounds_toArray, List.set_cons_zero, List.set_cons_succ])
        refine wpAnyH_take (i := 14) (v := ?_) (by simp only [List.getElem?_toArray, List.getElem?_cons_succ, List.getElem?_cons_zero]; rfl) (by kernel_rfl) (by kernel_rfl) (by kernel_rfl) (by exact fun _ _ _ h => h) (Or.inl ⟨by rfl, ?_⟩) (by assumption) ?_
        rotate_left
        · (intro w hSw; (try dsimp only at hSw); go_simp; (try with_reducible rfl))
        (try simp only [Act.put, List.setIfInBounds_toArray, List.set_cons_zero, List.set_cons_succ])
        refine wpAnyH_ready (rs := [15]) (by kernel_rfl) (by simp) ?_
        refine AllReadyH.cons (by simp only [List.getElem?_toArray, List.getElem?_cons_succ, List.getElem?_cons_zero]; rfl) (fun K hK => ?_) AllReadyH.nil
        go_simp
        refine (qof_at (0) _ (by omega) (by omega)).mono ?_
        rintro e w17 ⟨z1, rfl, z1_, b17⟩
        go_wp2_with fail
        replace ht := ht.below b17
        replace h2 := h2.below b17
        replace h3 := h3.below b17
        replace h9 := h9.below b17
        replace l9 := l9.below b17
        replace e8 := e8.below b17
        replace VA := VA.below b17
        replace VB := VB.below b17
        replace VX := VX.below b17
        replace VY := VY.below b17
        replace VS := VS.below b17
        replace BB := BB.trans (b17.mono BB.size)
        clear b17
        refine hK.out _ _ ?_ (fun hH3 => ?_)
        · exact ⟨VA.1, VA.2.1, VA.2.2.1, VB.1, VB.2.1, VB.2.2.1, VX.1, VX.2.1, VX.2.2.1, VY.1, VY.2.1, VY.2.2.1, VS.1, VS.2.1, VS.2.2.1⟩
        clear hK K hH2
        (try simp only [Act.put, List.setIfInBounds_toArray, List.set_cons_zero, List.set_cons_succ])
        refine wpAnyH_ready (rs := [16]) (by kernel_rfl) (by simp) ?_
        refine AllReadyH.cons (by simp only [List.getElem?_toArray, List.getElem?_cons_succ, List.getElem?_cons_zero]; rfl) (fun K hK => ?_) AllReadyH.nil
        go_simp
        refine (qsame_at _ _ _ _ 10 _ (e8.at 10 want_sz1) (z1_.at 10 want_sz1) (by omega) (by omega)).mono ?_
        rintro e w18 ⟨rfl, b18⟩
        rw [decide_eq_true rfl]
        go_wp2_with fail
        replace ht := ht.below b18
        replace h2 := h2.below b18
        replace h3 := h3.below b18
        replace h9 := h9.below b18
        replace l9 := l9.below b18
        replace e8 := e8.below b18
        replace z1_ := z1_.below b18
        replace VA := VA.below b18
        replace VB := VB.below b18
        replace VX := VX.below b18
        replace VY := VY.below b18
        replace VS := VS.below b18
        replace BB := BB.trans (b18.mono BB.size)
        clear b18
        refine hK.out _ _ ?_ (fun hH4 => ?_)
        · exact ⟨VA.1, VA.2.1, VA.2.2.1, VB.1, VB.2.1, VB.2.2.1, VX.1, VX.2.1, VX.2.2.1, VY.1, VY.2.1, VY.2.2.1, VS.1, VS.2.1, VS.2.2.1⟩
        clear hK K hH3
        (try simp only [Act.put, List.setIfInBounds_toArray, List.set_cons_zero, List.set_cons_succ])
        refine wpAnyH_take (i := 17) (v := ?_) (by simp only [List.getElem?_toArray, List.getElem?_cons_succ, List.getElem?_cons_zero]; rfl) (by kernel_rfl) (by kernel_rfl) (by kernel_rfl) (by exact fun _ _ _ h => h) (Or.inl ⟨by rfl, ?_⟩) (by assumption) ?_
        rotate_left
        · (intro w hSw; (try dsimp only at hSw); go_simp; (try with_reducible rfl))
        (try simp only [Act.put, List.setIfInBounds_toArray, List.set_cons_zero, List.set_cons_succ])
        refine wpAnyH_take (i := 18) (v := ?_) (by simp only [List.getElem?_toArray, List.getElem?_cons_succ, List.getElem?_cons_zero]; rfl) (by kernel_rfl) (by kernel_rfl) (by kernel_rfl) (by exact fun _ _ _ h => h) (Or.inl ⟨by rfl, ?_⟩) (by assumption) ?_
        rotate_left
        · (intro w hSw; (try dsimp only at hSw); go_simp; (try with_reducible rfl))
        (try simp only [Act.put, List.setIfInBounds_toArray, List.set_cons_zero, List.set_cons_succ])
        refine wpAnyH_ready (rs := [19]) (by kernel_rfl) (by simp) ?_
        refine AllReadyH.cons (by simp only [List.getElem?_toArray, List.getElem?_cons_succ, List.getElem?_cons_zero]; rfl) (fun K hK => ?_) AllReadyH.nil
        go_simp
        refine (awake14_at _ ht).mono ?_
        rintro e w19 ⟨rfl, b19⟩
        go_wp2_with fail
        replace ht := ht.below b19
        replace h2 := h2.below b19
        replace h3 := h3.below b19
        replace h9 := h9.below b19
        replace l9 := l9.below b19
        replace e8 := e8.below b19
        replace z1_ := z1_.below b19
        replace VA := VA.below b19
        replace VB := VB.below b19
        replace VX := VX.below b19
        replace VY := VY.below b19
        replace VS := VS.below b19
        replace BB := BB.trans (b19.mono BB.size)
        clear b19
        refine hK.out _ _ ?_ (fun hH5 => ?_)
        · exact ⟨VA.1, VA.2.1, VA.2.2.1, VB.1, VB.2.1, VB.2.2.1, VX.1, VX.2.1, VX.2.2.1, VY.1, VY.2.1, VY.2.2.1, VS.1, VS.2.1, VS.2.2.1⟩
        clear hK K hH4
        (try simp only [Act.put, List.setIfInBounds_toArray, List.set_cons_zero, List.set_cons_succ])
        refine wpAnyH_take (i := 20) (v := ?_) (by simp only [List.getElem?_toArray, List.getElem?_cons_succ, List.getElem?_cons_zero]; rfl) (by kernel_rfl) (by kernel_rfl) (by kernel_rfl) (by exact fun _ _ _ h => h) (Or.inl ⟨by rfl, ?_⟩) (by assumption) ?_
        rotate_left
        · (intro w hSw; (try dsimp only at hSw); go_simp; (try with_reducible rfl))
        (try simp only [Act.put, List.setIfInBounds_toArray, List.set_cons_zero, List.set_cons_succ])
        refine wpAnyH_take (i := 21) (v := ?_) (by simp only [List.getElem?_toArray, List.getElem?_cons_succ, List.getElem?_cons_zero]; rfl) (by kernel_rfl) (by kernel_rfl) (by kernel_rfl) (by exact fun _ _ _ h => h) (Or.inl ⟨by rfl, ?_⟩) (by assumption) ?_
        rotate_left
        · (intro w hSw; (try dsimp only at hSw); go_simp; (try with_reducible rfl))
        (try simp only [Act.put, List.setIfInBounds_toArray, List.set_cons_zero, List.set_cons_succ])
        refine wpAnyH_done (by kernel_rfl) ?_ _
        clear hH5
        go_wp2
        go_ret
        exact ⟨rfl, BB⟩
      · replace hpj : j = 0 := by omega
        have pi : (0 : Int) < (i : Int) := by omega
        have pib : decide ((0 : Int) < (i : Int)) = true := by simp; omega
        have pie : ((i : Int) == 0) = false := by simp; omega
        have pin : decide (0 < i) = true := by simp; omega
        have pj : ¬ (0 : Int) < (j : Int) := by omega
        have pjb : decide ((0 : Int) < (j : Int)) = false := by simp; omega
        have pje : ((j : Int) == 0) = true := by simp; omega
        have pjn : decide (0 < j) = false := by simp; omega
        have wx : IntKind.i64.wrap (64 - (i : Int)) = ((64 - i : Nat) : Int) := by rw [IntKind.wrap_i64]; omega
        have ws : IntKind.i64.wrap ((i : Int) + (j : Int)) = ((i + j : Nat) : Int) := by rw [IntKind.wrap_i64]; omega
        have wi : IntKind.i64.wrap ((i : Int) - 1) = ((i - 1 : Nat) : Int) := by rw [IntKind.wrap_i64]; omega
        have g1 : ¬ (i : Int) < 0 := by omega
        have g2 : ¬ (j : Int) < 0 := by omega
        have g3 : ¬ (64 : Int) < (i : Int) := by omega
        have g4 : ¬ ((64 - i : Nat) : Int) < (j : Int) := by omega
        have q1 : decide ((i : Int) < 0) = false := decide_eq_false g1
        have q2 : decide ((j : Int) < 0) = false := decide_eq_false g2
        have q3 : decide ((64 : Int) < (i : Int)) = false := decide_eq_false g3
        have q4 : decide (((64 - i : Nat) : Int) < (j : Int)) = false := decide_eq_false g4
        have HS : Hid (((i : Int) : Rat) * (shQ (i - 1) j (i + j)) + ((j : Int) : Rat) * ((0 : Rat)) = ((1 : Int) : Rat)) := need_u0 hpi hpj hij
        have HI : Hid (0 < i) := hpi
        have HJ : Hid (j = 0) := hpj
        have s0 : qsz (shQ (i - 1) j (i + j)) ≤ 10 := shQ_sz (by omega) hij
        have s1 : qsz (0 : Rat) ≤ 10 := by decide +kernel
        have hi64 : i ≤ 64 := by omega
        have hj64 : j ≤ 64 := by omega
        clear hpj
        have BB : Below w.heap.size w w := Below.refl _ _
        go_enter Tryz.func6, Tryz.ntmps6
        go_wp2_with fail
        refine (new_at _).mono ?_
        rintro e w1 ⟨rfl, hsz, HN, b1⟩
        replace ht := ht.below b1
        replace BB := BB.trans (b1.mono BB.size)
        clear b1
        obtain ⟨b, hb⟩ : ∃ b, b = w.heap.size := ⟨_, rfl⟩
        have hbw : w.heap.size ≤ b := by omega
        rw [← hb] at HN
        have HT : WT w1 b false := HN
        rw [← hb]
        clear HN hb hsz
        go_wp2_with fail
        refine (tneed_u0 b i j false _ HT hij hpi HJ.out ht).mono ?_
        rintro e w2 ⟨r2, r3, rfl, h2, h3, HT2, ho⟩
        replace ht := ht.keepL ho.keep
        replace BB := BB.trans (ho.low hbw BB.size)
        clear ho HT HT2
        obtain ⟨p2, a2, n2, c2, y2, m2, d2, rfl⟩ := h2.open
        obtain ⟨p3, a3, n3, c3, y3, m3, d3, rfl⟩ := h3.open
        have hZ1 : w.heap.size ≤ w2.heap.size := BB.size
        obtain ⟨W2, hW2, hS2, hL2, VA⟩ := V3.lay w2 35 (.bool p2) (.slice a2 n2 c2) (.slice y2 m2 d2)
        replace ht := ht.below hL2
        replace h2 := h2.below hL2
        replace h3 := h3.below hL2
        replace BB := BB.trans (hL2.mono BB.size)
        clear hL2
        obtain ⟨W3, hW3, hS3, hL3, VB⟩ := V3.lay W2 35 (.bool p3) (.slice a3 n3 c3) (.slice y3 m3 d3)
        replace ht := ht.below hL3
        replace h2 := h2.below hL3
        replace h3 := h3.below hL3
        replace VA := VA.below hL3
        replace BB := BB.trans (hL3.mono BB.size)
        clear hL3
        rw [hS2] at VB
        go_wp2_with fail
        rw [← hW2]
        rw [← hW3]
        generalize w2.heap.size = R1 at *
        clear hW2 hS2 hW3 hS3
        refine (qzero_at _).mono ?_
        rintro e w4 ⟨r4, rfl, h4, b4⟩
        replace ht := ht.below b4
        replace h2 := h2.below b4
        replace h3 := h3.below b4
        replace VA := VA.below b4
        replace VB := VB.below b4
        replace BB := BB.trans (b4.mono BB.size)
        clear b4
        obtain ⟨p4, a4, n4, c4, y4, m4, d4, rfl⟩ := h4.open
        have hZ4 : w.heap.size ≤ w4.heap.size := BB.size
        have hN4VA : R1 ≠ w4.heap.size := Nat.ne_of_lt VA.lt
        have hN4VB : R1 + 1 ≠ w4.heap.size := Nat.ne_of_lt VB.lt
        obtain ⟨W4, hW4, hS4, hL4, VX⟩ := V3.lay w4 35 (.bool p4) (.slice a4 n4 c4) (.slice y4 m4 d4)
        replace ht := ht.below hL4
        replace h2 := h2.below hL4
        replace h3 := h3.below hL4
        replace h4 := h4.below hL4
        replace VA := VA.below hL4
        replace VB := VB.below hL4
        replace BB := BB.trans (hL4.mono BB.size)
        clear hL4
        go_wp2_with fail
        rw [← hW4]
        generalize w4.heap.size = R4 at *
        clear hW4 hS4
        refine (qzero_at _).mono ?_
        rintro e w5 ⟨r5, rfl, h5, b5⟩
        replace ht := ht.below b5
        replace h2 := h2.below b5
        replace h3 := h3.below b5
        replace h4 := h4.below b5
        replace VA := VA.below b5
        replace VB := VB.below b5
        replace VX := VX.below b5
        replace BB := BB.trans (b5.mono BB.size)
        clear b5
        obtain ⟨p5, a5, n5, c5, y5, m5, d5, rfl⟩ := h5.open
        have hZ5 : w.heap.size ≤ w5.heap.size := BB.size
        have hN5VA : R1 ≠ w5.heap.size := Nat.ne_of_lt VA.lt
        have hN5VB : R1 + 1 ≠ w5.heap.size := Nat.ne_of_lt VB.lt
        have hN5VX : R4 ≠ w5.heap.size := Nat.ne_of_lt VX.lt
        obtain ⟨W5, hW5, hS5, hL5, VY⟩ := V3.lay w5 35 (.bool p5) (.slice a5 n5 c5) (.slice y5 m5 d5)
        replace ht := ht.below hL5
        replace h2 := h2.below hL5
        replace h3 := h3.below hL5
        replace h4 := h4.below hL5
        replace h5 := h5.below hL5
        replace VA := VA.below hL5
        replace VB := VB.below hL5
        replace VX := VX.below hL5
        replace BB := BB.trans (hL5.mono BB.size)
        clear hL5
        go_wp2_with fail
        rw [← hW5]
        generalize w5.heap.size = R5 at *
        clear hW5 hS5
        have hLX : w.heap.size ≤ R4 := by omega
        have hLY : w.heap.size ≤ R5 := by omega
        refine (lfact_at (i - 1) _ (by omega) ht).mono ?_
        rintro e w6 ⟨r6, rfl, h6, b6⟩
        replace ht := ht.below b6
        replace h2 := h2.below b6
        replace h3 := h3.below b6
        replace h4 := h4.below b6
        replace h5 := h5.below b6
        replace VA := VA.below b6
        replace VB := VB.below b6
        replace VX := VX.below b6
        replace VY := VY.below b6
        replace BB := BB.trans (b6.mono BB.size)
        clear b6
        go_wp2_with fail
        refine (lfact_at j _ hj64 ht).mono ?_
        rintro e w7 ⟨r7, rfl, h7, b7⟩
        replace ht := ht.below b7
        replace h2 := h2.below b7
        replace h3 := h3.below b7
        replace h4 := h4.below b7
        replace h5 := h5.below b7
        replace h6 := h6.below b7
        replace VA := VA.below b7
        replace VB := VB.below b7
        replace VX := VX.below b7
        replace VY := VY.below b7
        replace BB := BB.trans (b7.mono BB.size)
        clear b7
        go_wp2_with fail
        refine (lfact_at (i + j) _ hij ht).mono ?_
        rintro e w8 ⟨r8, rfl, h8, b8⟩
        replace ht := ht.below b8
        replace h2 := h2.below b8
        replace h3 := h3.below b8
        replace h4 := h4.below b8
        replace h5 := h5.below b8
        replace h6 := h6.below b8
        replace h7 := h7.below b8
        replace VA := VA.below b8
        replace VB := VB.below b8
        replace VX := VX.below b8
        replace VY := VY.below b8
        replace BB := BB.trans (b8.mono BB.size)
        clear b8
        go_wp2_with fail
        refine (lquot_at _ _ _ _ _ _ _ h6 h7 h8 (Nat.le_trans (fctR_sz (by omega)) (by omega)) (Nat.le_trans (fctR_sz (by omega)) (by omega)) (Nat.le_trans (fctR_sz (by omega)) (by omega)) (fctR_ne _) ht).mono ?_
        rintro e w9 ⟨r9, rfl, h9, b9⟩
        replace ht := ht.below b9
        replace h2 := h2.below b9
        replace h3 := h3.below b9
        replace h4 := h4.below b9
        replace h5 := h5.below b9
        replace h6 := h6.below b9
        replace h7 := h7.below b9
        replace h8 := h8.below b9
        replace VA := VA.below b9
        replace VB := VB.below b9
        replace VX := VX.below b9
        replace VY := VY.below b9
        replace BB := BB.trans (b9.mono BB.size)
        clear b9
        obtain ⟨p9, a9, n9, c9, y9, m9, d9, rfl⟩ := h9.open
        clear h6 h7 h8 h4
        have hKp := VX.keepJ (.bool p9) (.slice a9 n9 c9) (.slice y9 m9 d9)
        have VA_n := VA.other3 (R := R4) (by omega) (.bool p9) (.slice a9 n9 c9) (.slice y9 m9 d9)
        have VB_n := VB.other3 (R := R4) (by omega) (.bool p9) (.slice a9 n9 c9) (.slice y9 m9 d9)
        have VY_n := VY.other3 (R := R4) (by omega) (.bool p9) (.slice a9 n9 c9) (.slice y9 m9 d9)
        have VX_n := VX.same (.bool p9) (.slice a9 n9 c9) (.slice y9 m9 d9)
        have ht_n := ht.keep hKp
        have h2_n := h2.keep hKp
        have h3_n := h3.keep hKp
        have h5_n := h5.keep hKp
        have h9_n := h9.keep hKp
        have BB_n := below_store3 (R := R4) BB (by omega) (.bool p9) (.slice a9 n9 c9) (.slice y9 m9 d9)
        clear hKp
        obtain ⟨VX_0, VX_1, VX_2, VX_3, VX_4, VX_5⟩ := id VX
        go_wp2
        clear VX_0 VX_1 VX_2 VX_3 VX_4 VX_5
        clear BB ht h2 h3 h5 h9 VA VB VX VY
        generalize ((w9.setCell ⟨R4, 0, none⟩ (.bool p9)).setCell ⟨R4, 1, none⟩ (.slice a9 n9 c9)).setCell ⟨R4, 2, none⟩ (.slice y9 m9 d9) = W6 at *
        have BB := BB_n
        have ht := ht_n
        have h2 := h2_n
        have h3 := h3_n
        have h5 := h5_n
        have h9 := h9_n
        have VA := VA_n
        have VB := VB_n
        have VX := VX_n
        have VY := VY_n
        clear BB_n ht_n h2_n h3_n h5_n h9_n VA_n VB_n VX_n VY_n
        (try simp only [pib, pjb, pin, pjn])
        refine wp_region_until 10 #[true, true, true, true, true, true, true, true, true, true, false] (fun aF lsd a' w' => ∃ vu0 vu1 vu2 vu3 vu4 vu5 vu6 vu7 vu8 vu9 : Value, a' = (((((((((aF.put (some 78) vu0).put (some 79) vu1).put (some 80) vu2).put (some 81) vu3).put (some 82) vu4).put (some 83) vu5).put (some 84) vu6).put (some 85) vu7).put (some 86) vu8).put (some 10) vu9 ∧ Below W6.heap.size W6 w' ∧ (lsd.getD 0 false = true → vu0 = .int .i64 (i : Int)) ∧ (lsd.getD 1 false = true → RepQ w' vu1 ((i : Int) : Rat)) ∧ (lsd.getD 2 false = true → vu2 = .agg #[.bool p2, .slice a2 n2 c2, .slice y2 m2 d2]) ∧ (lsd.getD 3 false = true → RepQ w' vu3 (((i : Int) : Rat) * (shQ (i - 1) j (i + j)))) ∧ (lsd.getD 4 false = true → vu4 = .int .i64 (j : Int)) ∧ (lsd.getD 5 false = true → RepQ w' vu5 ((j : Int) : Rat)) ∧ (lsd.getD 6 false = true → vu6 = .agg #[.bool p3, .slice a3 n3 c3, .slice y3 m3 d3]) ∧ (lsd.getD 7 false = true → RepQ w' vu7 (((j : Int) : Rat) * ((0 : Rat)))) ∧ (lsd.getD 8 false = true → RepQ w' vu8 (((i : Int) : Rat) * (shQ (i - 1) j (i + j)) + ((j : Int) : Rat) * ((0 : Rat)))) ∧ (lsd.getD 9 false = true → New3 W6.heap.size w' vu9 (.bool false) (.slice none 0 0) (.slice none 0 0))) (by kernel_rfl) (by decide) (by kernel_rfl) (by rfl) (by kernel_rfl) ?_ ?_ ?_
        · exact ⟨_, _, _, _, _, _, _, _, _, _, by simp only [Act.put, List.setIfInBounds_toArray, List.set_cons_zero, List.set_cons_succ]; rfl, (Below.refl _ _).drew, fun h => absurd h (fun h => mark_none h), fun h => absurd h (fun h => mark_none h), fun h => absurd h (fun h => mark_none h), fun h => absurd h (fun h => mark_none h), fun h => absurd h (fun h => mark_none h), fun h => absurd h (fun h => mark_none h), fun h => absurd h (fun h => mark_none h), fun h => absurd h (fun h => mark_none h), fun h => absurd h (fun h => mark_none h), fun h => absurd h (fun h => mark_none h)⟩
        · rintro lsd au wn iu hszu ⟨vu0, vu1, vu2, vu3, vu4, vu5, vu6, vu7, vu8, vu9, rfl, hbu, fu0, fu1, fu2, fu3, fu4, fu5, fu6, fu7, fu8, fu9⟩ himu hru
          rcases (show iu = 0 ∨ iu = 1 ∨ iu = 2 ∨ iu = 3 ∨ iu = 4 ∨ iu = 5 ∨ iu = 6 ∨ iu = 7 ∨ iu = 8 ∨ iu = 9 by omega) with rfl | rfl | rfl | rfl | rfl | rfl | rfl | rfl | rfl | rfl
          · refine wpOp_shut (by rfl) (fun K hK => ?_)
            simp only [Act.put, List.setIfInBounds_toArray, List.set_cons_zero, List.set_cons_succ]
            go_simp
            exact hK.out _ _ ⟨(.int .i64 (i : Int)), vu1, vu2, vu3, vu4, vu5, vu6, vu7, vu8, vu9, by simp only [Act.put, List.setIfInBounds_toArray, List.set_cons_zero, List.set_cons_succ], hbu, fun _ => rfl, fun h => fu1 (mark_of (by decide) h), fun h => fu2 (mark_of (by decide) h), fun h => fu3 (mark_of (by decide) h), fun h => fu4 (mark_of (by decide) h), fun h => fu5 (mark_of (by decide) h), fun h => fu6 (mark_of (by decide) h), fun h => fu7 (mark_of (by decide) h), fun h => fu8 (mark_of (by decide) h), fun h => fu9 (mark_of (by decide) h)⟩
          · have eu0 := fu0 (dep_of 0 hru rfl (by kernel_rfl))
            replace eu0 := eu0.symm
            subst eu0
            refine wpOp_shut (by rfl) (fun K hK => ?_)
            simp only [Act.put, List.setIfInBounds_toArray, List.set_cons_zero, List.set_cons_succ]
            go_simp
            refine (qof_at (i : Int) _ (by omega) (by omega)).mono ?_
            rintro eu wx ⟨x1, rfl, e1, bu⟩
            go_wp2_with fail
            have hbu2 := hbu.trans (bu.mono hbu.size)
            exact hK.out _ _ ⟨(.int .i64 (i : Int)), _, vu2, vu3, vu4, vu5, vu6, vu7, vu8, vu9, by simp only [Act.put, List.setIfInBounds_toArray, List.set_cons_zero, List.set_cons_succ], hbu2, fun _ => rfl, fun _ => e1, fun h => fu2 (mark_of (by decide) h), fun h => (fu3 (mark_of (by decide) h)).below bu, fun h => fu4 (mark_of (by decide) h), fun h => (fu5 (mark_of (by decide) h)).below bu, fun h => fu6 (mark_of (by decide) h), fun h => (fu7 (mark_of (by decide) h)).below bu, fun h => (fu8 (mark_of (by decide) h)).below bu, fun h => (fu9 (mark_of (by decide) h)).below bu⟩
          · refine wpOp_shut (by rfl) (fun K hK => ?_)
            simp only [Act.put, List.setIfInBounds_toArray, List.set_cons_zero, List.set_cons_succ]
            obtain ⟨VA_0, VA_1, VA_2, VA_3, VA_4, VA_5⟩ := VA.below hbu
            go_simp
            exact hK.out _ _ ⟨vu0, vu1, (.agg #[.bool p2, .slice a2 n2 c2, .slice y2 m2 d2]), vu3, vu4, vu5, vu6, vu7, vu8, vu9, by simp only [Act.put, List.setIfInBounds_toArray, List.set_cons_zero, List.set_cons_succ], hbu, fun h => fu0 (mark_of (by decide) h), fun h => fu1 (mark_of (by decide) h), fun _ => rfl, fun h => fu3 (mark_of (by decide) h), fun h => fu4 (mark_of (by decide) h), fun h => fu5 (mark_of (by decide) h), fun h => fu6 (mark_of (by decide) h), fun h => fu7 (mark_of (by decide) h), fun h => fu8 (mark_of (by decide) h), fun h => fu9 (mark_of (by decide) h)⟩
          · have eu2 := fu2 (dep_of 2 hru rfl (by kernel_rfl))
            replace eu2 := eu2.symm
            subst eu2
            have e1 := fu1 (dep_of 1 hru rfl (by kernel_rfl))
            refine wpOp_shut (by rfl) (fun K hK => ?_)
            simp only [Act.put, List.setIfInBounds_toArray, List.set_cons_zero, List.set_cons_succ]
            have ht := ht.below hbu
            have h2 := h2.below hbu
            go_simp
            refine (qmul_at _ _ _ _ 10 _ (e1.at 10 (iz hi64)) (h2.at 10 s0) (by omega) (by omega) ht).mono ?_
            rintro eu wx ⟨x3, rfl, e3, bu⟩
            go_wp2_with fail
            have hbu2 := hbu.trans (bu.mono hbu.size)
            exact hK.out _ _ ⟨vu0, vu1, (.agg #[.bool p2, .slice a2 n2 c2, .slice y2 m2 d2]), _, vu4, vu5, vu6, vu7, vu8, vu9, by simp only [Act.put, List.setIfInBounds_toArray, List.set_cons_zero, List.set_cons_succ], hbu2, fun h => fu0 (mark_of (by decide) h), fun h => (fu1 (mark_of (by decide) h)).below bu, fun _ => rfl, fun _ => e3, fun h => fu4 (mark_of (by decide) h), fun h => (fu5 (mark_of (by decide) h)).below bu, fun h => fu6 (mark_of (by decide) h), fun h => (fu7 (mark_of (by decide) h)).below bu, fun h => (fu8 (mark_of (by decide) h)).below bu, fun h => (fu9 (mark_of (by decide) h)).below bu⟩
          · refine wpOp_shut (by rfl) (fun K hK => ?_)
            simp only [Act.put, List.setIfInBounds_toArray, List.set_cons_zero, List.set_cons_succ]
            go_simp
            exact hK.out _ _ ⟨vu0, vu1, vu2, vu3, (.int .i64 (j : Int)), vu5, vu6, vu7, vu8, vu9, by simp only [Act.put, List.setIfInBounds_toArray, List.set_cons_zero, List.set_cons_succ], hbu, fun h => fu0 (mark_of (by decide) h), fun h => fu1 (mark_of (by decide) h), fun h => fu2 (mark_of (by decide) h), fun h => fu3 (mark_of (by decide) h), fun _ => rfl, fun h => fu5 (mark_of (by decide) h), fun h => fu6 (mark_of (by decide) h), fun h => fu7 (mark_of (by decide) h), fun h => fu8 (mark_of (by decide) h), fun h => fu9 (mark_of (by decide) h)⟩
          · have eu4 := fu4 (dep_of 4 hru rfl (by kernel_rfl))
            replace eu4 := eu4.symm
            subst eu4
            have e3 := fu3 (dep_of 3 hru rfl (by kernel_rfl))
            refine wpOp_shut (by rfl) (fun K hK => ?_)
            simp only [Act.put, List.setIfInBounds_toArray, List.set_cons_zero, List.set_cons_succ]
            go_simp
            refine (qof_at (j : Int) _ (by omega) (by omega)).mono ?_
            rintro eu wx ⟨x5, rfl, e5, bu⟩
            go_wp2_with fail
            have hbu2 := hbu.trans (bu.mono hbu.size)
            exact hK.out _ _ ⟨vu0, vu1, vu2, vu3, (.int .i64 (j : Int)), _, vu6, vu7, vu8, vu9, by simp only [Act.put, List.setIfInBounds_toArray, List.set_cons_zero, List.set_cons_succ], hbu2, fun h => fu0 (mark_of (by decide) h), fun h => (fu1 (mark_of (by decide) h)).below bu, fun h => fu2 (mark_of (by decide) h), fun h => (fu3 (mark_of (by decide) h)).below bu, fun _ => rfl, fun _ => e5, fun h => fu6 (mark_of (by decide) h), fun h => (fu7 (mark_of (by decide) h)).below bu, fun h => (fu8 (mark_of (by decide) h)).below bu, fun h => (fu9 (mark_of (by decide) h)).below bu⟩
          · refine wpOp_shut (by rfl) (fun K hK => ?_)
            simp only [Act.put, List.setIfInBounds_toArray, List.set_cons_zero, List.set_cons_succ]
            obtain ⟨VB_0, VB_1, VB_2, VB_3, VB_4, VB_5⟩ := VB.below hbu
            go_simp
            exact hK.out _ _ ⟨vu0, vu1, vu2, vu3, vu4, vu5, (.agg #[.bool p3, .slice a3 n3 c3, .slice y3 m3 d3]), vu7, vu8, vu9, by simp only [Act.put, List.setIfInBounds_toArray, List.set_cons_zero, List.set_cons_succ], hbu, fun h => fu0 (mark_of (by decide) h), fun h => fu1 (mark_of (by decide) h), fun h => fu2 (mark_of (by decide) h), fun h => fu3 (mark_of (by decide) h), fun h => fu4 (mark_of (by decide) h), fun h => fu5 (mark_of (by decide) h), fun _ => rfl, fun h => fu7 (mark_of (by decide) h), fun h => fu8 (mark_of (by decide) h), fun h => fu9 (mark_of (by decide) h)⟩
          · have eu6 := fu6 (dep_of 6 hru rfl (by kernel_rfl))
            replace eu6 := eu6.symm
            subst eu6
            have e5 := fu5 (dep_of 5 hru rfl (by kernel_rfl))
            refine wpOp_shut (by rfl) (fun K hK => ?_)
            simp only [Act.put, List.setIfInBounds_toArray, List.set_cons_zero, List.set_cons_succ]
            have ht := ht.below hbu
            have h3 := h3.below hbu
            go_simp
            refine (qmul_at _ _ _ _ 10 _ (e5.at 10 (iz hj64)) (h3.at 10 s1) (by omega) (by omega) ht).mono ?_
            rintro eu wx ⟨x7, rfl, e7, bu⟩
            go_wp2_with fail
            have hbu2 := hbu.trans (bu.mono hbu.size)
            exact hK.out _ _ ⟨vu0, vu1, vu2, vu3, vu4, vu5, (.agg #[.bool p3, .slice a3 n3 c3, .slice y3 m3 d3]), _, vu8, vu9, by simp only [Act.put, List.setIfInBounds_toArray, List.set_cons_zero, List.set_cons_succ], hbu2, fun h => fu0 (mark_of (by decide) h), fun h => (fu1 (mark_of (by decide) h)).below bu, fun h => fu2 (mark_of (by decide) h), fun h => (fu3 (mark_of (by decide) h)).below bu, fun h => fu4 (mark_of (by decide) h), fun h => (fu5 (mark_of (by decide) h)).below bu, fun _ => rfl, fun _ => e7, fun h => (fu8 (mark_of (by decide) h)).below bu, fun h => (fu9 (mark_of (by decide) h)).below bu⟩
          · have e3 := fu3 (dep_of 3 hru rfl (by kernel_rfl))
            have e7 := fu7 (dep_of 7 hru rfl (by kernel_rfl))
            refine wpOp_shut (by rfl) (fun K hK => ?_)
            simp only [Act.put, List.setIfInBounds_toArray, List.set_cons_zero, List.set_cons_succ]
            have ht := ht.below hbu
            go_simp
            refine (qadd_at _ _ _ _ 20 _ (e3.at 20 (qsz_mul _ _ (iz hi64) s0)) (e7.at 20 (qsz_mul _ _ (iz hj64) s1)) (by omega) (by omega) ht).mono ?_
            rintro eu wx ⟨x8, rfl, e8, bu⟩
            go_wp2_with fail
            have hbu2 := hbu.trans (bu.mono hbu.size)
            exact hK.out _ _ ⟨vu0, vu1, vu2, vu3, vu4, vu5, vu6, vu7, _, vu9, by simp only [Act.put, List.setIfInBounds_toArray, List.set_cons_zero, List.set_cons_succ], hbu2, fun h => fu0 (mark_of (by decide) h), fun h => (fu1 (mark_of (by decide) h)).below bu, fun h => fu2 (mark_of (by decide) h), fun h => (fu3 (mark_of (by decide) h)).below bu, fun h => fu4 (mark_of (by decide) h), fun h => (fu5 (mark_of (by decide) h)).below bu, fun h => fu6 (mark_of (by decide) h), fun h => (fu7 (mark_of (by decide) h)).below bu, fun _ => e8, fun h => (fu9 (mark_of (by decide) h)).below bu⟩
          · refine wpOp_shut (by rfl) (fun K hK => ?_)
            simp only [Act.put, List.setIfInBounds_toArray, List.set_cons_zero, List.set_cons_succ]
            go_simp
            obtain ⟨wx, hWx, hSx, bu, VXu⟩ := V3.lay wn 35 (.bool false) (.slice none 0 0) (.slice none 0 0)
            rw [← hWx]
            have hbu2 := hbu.trans (bu.mono hbu.size)
            exact hK.out _ _ ⟨vu0, vu1, vu2, vu3, vu4, vu5, vu6, vu7, vu8, _, by simp only [Act.put, List.setIfInBounds_toArray, List.set_cons_zero, List.set_cons_succ], hbu2, fun h => fu0 (mark_of (by decide) h), fun h => (fu1 (mark_of (by decide) h)).below bu, fun h => fu2 (mark_of (by decide) h), fun h => (fu3 (mark_of (by decide) h)).below bu, fun h => fu4 (mark_of (by decide) h), fun h => (fu5 (mark_of (by decide) h)).below bu, fun h => fu6 (mark_of (by decide) h), fun h => (fu7 (mark_of (by decide) h)).below bu, fun h => (fu8 (mark_of (by decide) h)).below bu, fun _ => ⟨_, rfl, hbu.size, VXu⟩⟩
        rintro au Wu7 ⟨vu0, vu1, vu2, vu3, vu4, vu5, vu6, vu7, vu8, vu9, rfl, hbu, fu0, fu1, fu2, fu3, fu4, fu5, fu6, fu7, fu8, fu9⟩
        have eu0 := (fu0 rfl).symm
        subst eu0
        have e1 := fu1 rfl
        have eu2 := (fu2 rfl).symm
        subst eu2
        have e3 := fu3 rfl
        have eu4 := (fu4 rfl).symm
        subst eu4
        have e5 := fu5 rfl
        have eu6 := (fu6 rfl).symm
        subst eu6
        have e7 := fu7 rfl
        have e8 := fu8 rfl
        obtain ⟨RVS, rfl, hRVS, VS⟩ := fu9 rfl
        clear fu0 fu1 fu2 fu3 fu4 fu5 fu6 fu7 fu8 fu9
        have hlVA : R1 < W6.heap.size := VA.lt
        have hlVB : R1 + 1 < W6.heap.size := VB.lt
        have hlVX : R4 < W6.heap.size := VX.lt
        have hlVY : R5 < W6.heap.size := VY.lt
        rw [HS.out] at e8
        obtain ⟨p6, a6, n6, c6, y6, m6, d6, rfl⟩ := e8.open
        simp only [Act.put, List.setIfInBounds_toArray, List.set_cons_zero, List.set_cons_succ]
        refine wpAnyH_ready (rs := [10]) (by kernel_rfl) (by simp) ?_
        refine AllReadyH.cons (by rfl) (fun K hK => ?_) AllReadyH.nil
        have hKp := VS.keepJ (.bool p6) (.slice a6 n6 c6) (.slice y6 m6 d6)
        have VS_n := VS.same (.bool p6) (.slice a6 n6 c6) (.slice y6 m6 d6)
        have e1_n := e1.keep hKp
        have e3_n := e3.keep hKp
        have e5_n := e5.keep hKp
        have e7_n := e7.keep hKp
        have e8_n := e8.keep hKp
        have hbu_n := below_store3 (R := RVS) hbu (by omega) (.bool p6) (.slice a6 n6 c6) (.slice y6 m6 d6)
        clear hKp
        obtain ⟨VS_0, VS_1, VS_2, VS_3, VS_4, VS_5⟩ := id VS
        go_simp
        clear VS_0 VS_1 VS_2 VS_3 VS_4 VS_5
        clear hbu e1 e3 e5 e7 e8 VS
        generalize ((Wu7.setCell ⟨RVS, 0, none⟩ (.bool p6)).setCell ⟨RVS, 1, none⟩ (.slice a6 n6 c6)).setCell ⟨RVS, 2, none⟩ (.slice y6 m6 d6) = W8 at *
        have hbu := hbu_n
        have e1 := e1_n
        have e3 := e3_n
        have e5 := e5_n
        have e7 := e7_n
        have e8 := e8_n
        have VS := VS_n
        clear hbu_n e1_n e3_n e5_n e7_n e8_n VS_n
        refine hK.out _ _ trivial (fun _ => ?_)
        clear hK K
        simp only [Act.put, List.setIfInBounds_toArray, List.set_cons_zero, List.set_cons_succ]
        replace ht := ht.below hbu
        replace h2 := h2.below hbu
        replace h3 := h3.below hbu
        replace h5 := h5.below hbu
        replace h9 := h9.below hbu
        replace VA := VA.below hbu
        replace VB := VB.below hbu
        replace VX := VX.below hbu
        replace VY := VY.below hbu
        replace BB := BB.trans (hbu.mono BB.size)
        clear hbu
        refine wpAnyH_done (by kernel_rfl) ?_ _
        clear e1 e3 e5 e7
        go_wp2
        have hDr : Below W8.heap.size W8 W8.drew := (Below.refl _ _).drew
        replace ht := ht.below hDr
        replace h2 := h2.below hDr
        replace h3 := h3.below hDr
        replace h5 := h5.below hDr
        replace h9 := h9.below hDr
        replace e8 := e8.below hDr
        replace VA := VA.below hDr
        replace VB := VB.below hDr
        replace VX := VX.below hDr
        replace VY := VY.below hDr
        replace VS := VS.below hDr
        replace BB := BB.trans (hDr.mono BB.size)
        clear hDr
        refine wp_region_held_drew (S := (fun w' => w'.cell? ⟨R1, 0, none⟩ = some (.bool p2) ∧ w'.cell? ⟨R1, 1, none⟩ = some (.slice a2 n2 c2) ∧ w'.cell? ⟨R1, 2, none⟩ = some (.slice y2 m2 d2) ∧ w'.cell? ⟨R1 + 1, 0, none⟩ = some (.bool p3) ∧ w'.cell? ⟨R1 + 1, 1, none⟩ = some (.slice a3 n3 c3) ∧ w'.cell? ⟨R1 + 1, 2, none⟩ = some (.slice y3 m3 d3) ∧ w'.cell? ⟨R4, 0, none⟩ = some (.bool p9) ∧ w'.cell? ⟨R4, 1, none⟩ = some (.slice a9 n9 c9) ∧ w'.cell? ⟨R4, 2, none⟩ = some (.slice y9 m9 d9) ∧ w'.cell? ⟨R5, 0, none⟩ = some (.bool p5) ∧ w'.cell? ⟨R5, 1, none⟩ = some (.slice a5 n5 c5) ∧ w'.cell? ⟨R5, 2, none⟩ = some (.slice y5 m5 d5) ∧ w'.cell? ⟨RVS, 0, none⟩ = some (.bool p6) ∧ w'.cell? ⟨RVS, 1, none⟩ = some (.slice a6 n6 c6) ∧ w'.cell? ⟨RVS, 2, none⟩ = some (.slice y6 m6 d6))) (by kernel_rfl) ?_ (fun hHeld => ?_)
        · exact ⟨VA.1, VA.2.1, VA.2.2.1, VB.1, VB.2.1, VB.2.2.1, VX.1, VX.2.1, VX.2.2.1, VY.1, VY.2.1, VY.2.2.1, VS.1, VS.2.1, VS.2.2.1⟩
        generalize W8.drew = W9 at *
        refine wpAnyH_take (i := 0) (v := ?_) (by simp only [List.getElem?_toArray, List.getElem?_cons_succ, List.getElem?_cons_zero]; rfl) (by kernel_rfl) (by kernel_rfl) (by kernel_rfl) (by exact fun _ _ _ h => h) (Or.inl ⟨by rfl, ?_⟩) (by assumption) ?_
        rotate_left
        · (intro w hSw; (try dsimp only at hSw); go_simp; (try with_reducible rfl))
        (try simp only [Act.put, List.setIfInBounds_toArray, List.set_cons_zero, List.set_cons_succ])
        refine wpAnyH_take (i := 1) (v := ?_) (by simp only [List.getElem?_toArray, List.getElem?_cons_succ, List.getElem?_cons_zero]; rfl) (by kernel_rfl) (by kernel_rfl) (by kernel_rfl) (by exact fun _ _ _ h => h) (Or.inl ⟨by rfl, ?_⟩) (by assumption) ?_
        rotate_left
        · (intro w hSw; (try dsimp only at hSw); go_simp; (try with_reducible rfl))
        (try simp only [Act.put, List.setIfInBounds_toArray, List.set_cons_zero, List.set_cons_succ])
        refine wpAnyH_take (i := 2) (v := ?_) (by simp only [List.getElem?_toArray, List.getElem?_cons_succ, List.getElem?_cons_zero]; rfl) (by kernel_rfl) (by kernel_rfl) (by kernel_rfl) (by exact fun _ _ _ h => h) (Or.inl ⟨by rfl, ?_⟩) (by assumption) ?_
        rotate_left
        · (intro w hSw; (try dsimp only at hSw); go_simp; (try with_reducible rfl))
        (try simp only [Act.put, List.setIfInBounds_toArray, List.set_cons_zero, List.set_cons_succ])
        refine wpAnyH_take (i := 3) (v := ?_) (by simp only [List.getElem?_toArray, List.getElem?_cons_succ, List.getElem?_cons_zero]; rfl) (by kernel_rfl) (by kernel_rfl) (by kernel_rfl) (by exact fun _ _ _ h => h) (Or.inl ⟨by rfl, ?_⟩) (by assumption) ?_
        rotate_left
        · (intro w hSw; (try dsimp only at hSw); go_simp; (try with_reducible rfl))
        (try simp only [Act.put, List.setIfInBounds_toArray, List.set_cons_zero, List.set_cons_succ])
        refine wpAnyH_take (i := 4) (v := ?_) (by simp only [List.getElem?_toArray, List.getElem?_cons_succ, List.getElem?_cons_zero]; rfl) (by kernel_rfl) (by kernel_rfl) (by kernel_rfl) (by exact fun _ _ _ h => h) (Or.inl ⟨by rfl, ?_⟩) (by assumption) ?_
        rotate_left
        · (intro w hSw; (try dsimp only at hSw); go_simp; (try with_reducible rfl))
        (try simp only [Act.put, List.setIfInBounds_toArray, List.set_cons_zero, List.set_cons_succ])
        refine wpAnyH_ready (rs := [5]) (by kernel_rfl) (by simp) ?_
        refine AllReadyH.cons (by simp only [List.getElem?_toArray, List.getElem?_cons_succ, List.getElem?_cons_zero]; rfl) (fun K hK => ?_) AllReadyH.nil
        go_simp
        refine (lis14_at _ _ _ _ _ h2 h9 (Nat.le_trans s0 (by omega)) (Nat.le_trans s0 (by omega)) rfl ht).mono ?_
        rintro e w10 ⟨rfl, b10⟩
        go_wp2_with fail
        replace ht := ht.below b10
        replace h2 := h2.below b10
        replace h3 := h3.below b10
        replace h5 := h5.below b10
        replace h9 := h9.below b10
        replace e8 := e8.below b10
        replace VA := VA.below b10
        replace VB := VB.below b10
        replace VX := VX.below b10
        replace VY := VY.below b10
        replace VS := VS.below b10
        replace BB := BB.trans (b10.mono BB.size)
        clear b10
        refine hK.out _ _ ?_ (fun hH1 => ?_)
        · exact ⟨VA.1, VA.2.1, VA.2.2.1, VB.1, VB.2.1, VB.2.2.1, VX.1, VX.2.1, VX.2.2.1, VY.1, VY.2.1, VY.2.2.1, VS.1, VS.2.1, VS.2.2.1⟩
        clear hK K hHeld
        (try simp only [Act.put, List.setIfInBounds_toArray, List.set_cons_zero, List.set_cons_succ])
        refine wpAnyH_take (i := 6) (v := ?_) (by simp only [List.getElem?_toArray, List.getElem?_cons_succ, List.getElem?_cons_zero]; rfl) (by kernel_rfl) (by kernel_rfl) (by kernel_rfl) (by exact fun _ _ _ h => h) (Or.inl ⟨by rfl, ?_⟩) (by assumption) ?_
        rotate_left
        · (intro w hSw; (try dsimp only at hSw); go_simp; (try with_reducible rfl))
        (try simp only [Act.put, List.setIfInBounds_toArray, List.set_cons_zero, List.set_cons_succ])
        refine wpAnyH_take (i := 7) (v := ?_) (by simp only [List.getElem?_toArray, List.getElem?_cons_succ, List.getElem?_cons_zero]; rfl) (by kernel_rfl) (by kernel_rfl) (by kernel_rfl) (by exact fun _ _ _ h => h) (Or.inl ⟨by rfl, ?_⟩) (by assumption) ?_
        rotate_left
        · (intro w hSw; (try dsimp only at hSw); go_simp; (try with_reducible rfl))
        (try simp only [Act.put, List.setIfInBounds_toArray, List.set_cons_zero, List.set_cons_succ])
        refine wpAnyH_take (i := 8) (v := ?_) (by simp only [List.getElem?_toArray, List.getElem?_cons_succ, List.getElem?_cons_zero]; rfl) (by kernel_rfl) (by kernel_rfl) (by kernel_rfl) (by exact fun _ _ _ h => h) (Or.inl ⟨by rfl, ?_⟩) (by assumption) ?_
        rotate_left
        · (intro w hSw; (try dsimp only at hSw); go_simp; (try with_reducible rfl))
        (try simp only [Act.put, List.setIfInBounds_toArray, List.set_cons_zero, List.set_cons_succ])
        refine wpAnyH_take (i := 9) (v := ?_) (by simp only [List.getElem?_toArray, List.getElem?_cons_succ, List.getElem?_cons_zero]; rfl) (by kernel_rfl) (by kernel_rfl) (by kernel_rfl) (by exact fun _ _ _ h => h) (Or.inl ⟨by rfl, ?_⟩) (by assumption) ?_
        rotate_left
        · (intro w hSw; (try dsimp only at hSw); go_simp; (try with_reducible rfl))
        (try simp only [Act.put, List.setIfInBounds_toArray, List.set_cons_zero, List.set_cons_succ])
        refine wpAnyH_ready (rs := [10]) (by kernel_rfl) (by simp) ?_
        refine AllReadyH.cons (by simp only [List.getElem?_toArray, List.getElem?_cons_succ, List.getElem?_cons_zero]; rfl) (fun K hK => ?_) AllReadyH.nil
        go_simp
        refine (lis14_at _ _ _ _ _ h3 h5 (Nat.le_trans s1 (by omega)) (Nat.le_trans s1 (by omega)) rfl ht).mono ?_
        rintro e w11 ⟨rfl, b11⟩
        go_wp2_with fail
        replace ht := ht.below b11
        replace h2 := h2.below b11
        replace h3 := h3.below b11
        replace h5 := h5.below b11
        replace h9 := h9.below b11
        replace e8 := e8.below b11
        replace VA := VA.below b11
        replace VB := VB.below b11
        replace VX := VX.below b11
        replace VY := VY.below b11
        replace VS := VS.below b11
        replace BB := BB.trans (b11.mono BB.size)
        clear b11
        refine hK.out _ _ ?_ (fun hH2 => ?_)
        · exact ⟨VA.1, VA.2.1, VA.2.2.1, VB.1, VB.2.1, VB.2.2.1, VX.1, VX.2.1, VX.2.2.1, VY.1, VY.2.1, VY.2.2.1, VS.1, VS.2.1, VS.2.2.1⟩
        clear hK K hH1
        (try simp only [Act.put, List.setIfInBounds_toArray, List.set_cons_zero, List.set_cons_succ])
        refine wpAnyH_take (i := 11) (v := ?_) (by simp only [List.getElem?_toArray, List.getElem?_cons_succ, List.getElem?_cons_zero]; rfl) (by kernel_rfl) (by kernel_rfl) (by kernel_rfl) (by exact fun _ _ _ h => h) (Or.inl ⟨by rfl, ?_⟩) (by assumption) ?_
        rotate_left
        · (intro w hSw; (try dsimp only at hSw); go_simp; (try with_reducible rfl))
        (try simp only [Act.put, List.setIfInBounds_toArray, List.set_cons_zero, List.set_cons_succ])
        refine wpAnyH_take (i := 12) (v := ?_) (by simp only [List.getElem?_toArray, List.getElem?_cons_succ, List.getElem?_cons_zero]; rfl) (by kernel_rfl) (by kernel_rfl) (by kernel_rfl) (by exact fun _ _ _ h => h) (Or.inl ⟨by rfl, ?_⟩) (by assumption) ?_
        rotate_left
        · (intro w hSw; (try dsimp only at hSw); go_simp; (try with_reducible rfl))
        (try simp only [Act.put, List.setIfInBounds_toArray, List.set_cons_zero, List.set_cons_succ])
        refine wpAnyH_take (i := 13) (v := ?_) (by simp only [List.getElem?_toArray, List.getElem?_cons_succ, List.getElem?_cons_zero]; rfl) (by kernel_rfl) (by kernel_rfl) (by kernel_rfl) (by exact fun _ _ _ h => h) (Or.inl ⟨by rfl, ?_⟩) (by assumption) ?_
        rotate_left
        · (intro w hSw; (try dsimp only at hSw); go_simp; (try with_reducible rfl))
        (try simp only [Act.put, List.setIfInBounds_toArray, List.set_cons_zero, List.set_cons_succ])
        refine wpAnyH_take (i := 14) (v := ?_) (by simp only [List.getElem?_toArray, List.getElem?_cons_succ, List.getElem?_cons_zero]; rfl) (by kernel_rfl) (by kernel_rfl) (by kernel_rfl) (by exact fun _ _ _ h => h) (Or.inl ⟨by rfl, ?_⟩) (by assumption) ?_
        rotate_left
        · (intro w hSw; (try dsimp only at hSw); go_simp; (try with_reducible rfl))
        (try simp only [Act.put, List.setIfInBounds_toArray, List.set_cons_zero, List.set_cons_succ])
        refine wpAnyH_ready (rs := [15]) (by kernel_rfl) (by simp) ?_
        refine AllReadyH.cons (by simp only [List.getElem?_toArray, List.getElem?_cons_succ, List.getElem?_cons_zero]; rfl) (fun K hK => ?_) AllReadyH.nil
        go_simp
        refine (qof_at (1) _ (by omega) (by omega)).mono ?_
        rintro e w12 ⟨z1, rfl, z1_, b12⟩
        go_wp2_with fail
        replace ht := ht.below b12
        replace h2 := h2.below b12
        replace h3 := h3.below b12
        replace h5 := h5.below b12
        replace h9 := h9.below b12
        replace e8 := e8.below b12
        replace VA := VA.below b12
        replace VB := VB.below b12
        replace VX := VX.below b12
        replace VY := VY.below b12
        replace VS := VS.below b12
        replace BB := BB.trans (b12.mono BB.size)
        clear b12
        refine hK.out _ _ ?_ (fun hH3 => ?_)
        · exact ⟨VA.1, VA.2.1, VA.2.2.1, VB.1, VB.2.1, VB.2.2.1, VX.1, VX.2.1, VX.2.2.1, VY.1, VY.2.1, VY.2.2.1, VS.1, VS.2.1, VS.2.2.1⟩
        clear hK K hH2
        (try simp only [Act.put, List.setIfInBounds_toArray, List.set_cons_zero, List.set_cons_succ])
        refine wpAnyH_ready (rs := [16]) (by kernel_rfl) (by simp) ?_
        refine AllReadyH.cons (by simp only [List.getElem?_toArray, List.getElem?_cons_succ, List.getElem?_cons_zero]; rfl) (fun K hK => ?_) AllReadyH.nil
        go_simp
        refine (qsame_at _ _ _ _ 10 _ (e8.at 10 want_sz2) (z1_.at 10 want_sz2) (by omega) (by omega)).mono ?_
        rintro e w13 ⟨rfl, b13⟩
        rw [decide_eq_true rfl]
        go_wp2_with fail
        replace ht := ht.below b13
        replace h2 := h2.below b13
        replace h3 := h3.below b13
        replace h5 := h5.below b13
        replace h9 := h9.below b13
        replace e8 := e8.below b13
        replace z1_ := z1_.below b13
        replace VA := VA.below b13
        replace VB := VB.below b13
        replace VX := VX.below b13
        replace VY := VY.below b13
        replace VS := VS.below b13
        replace BB := BB.trans (b13.mono BB.size)
        clear b13
        refine hK.out _ _ ?_ (fun hH4 => ?_)
        · exact ⟨VA.1, VA.2.1, VA.2.2.1, VB.1, VB.2.1, VB.2.2.1, VX.1, VX.2.1, VX.2.2.1, VY.1, VY.2.1, VY.2.2.1, VS.1, VS.2.1, VS.2.2.1⟩
        clear hK K hH3
        (try simp only [Act.put, List.setIfInBounds_toArray, List.set_cons_zero, List.set_cons_succ])
        refine wpAnyH_take (i := 17) (v := ?_) (by simp only [List.getElem?_toArray, List.getElem?_cons_succ, List.getElem?_cons_zero]; rfl) (by kernel_rfl) (by kernel_rfl) (by kernel_rfl) (by exact fun _ _ _ h => h) (Or.inl ⟨by rfl, ?_⟩) (by assumption) ?_
        rotate_left
        · (intro w hSw; (try dsimp only at hSw); go_simp; (try with_reducible rfl))
        (try simp only [Act.put, List.setIfInBounds_toArray, List.set_cons_zero, List.set_cons_succ])
        refine wpAnyH_take (i := 18) (v := ?_) (by simp only [List.getElem?_toArray, List.getElem?_cons_succ, List.getElem?_cons_zero]; rfl) (by kernel_rfl) (by kernel_rfl) (by kernel_rfl) (by exact fun _ _ _ h => h) (Or.inl ⟨by rfl, ?_⟩) (by assumption) ?_
        rotate_left
        · (intro w hSw; (try dsimp only at hSw); go_simp; (try with_reducible rfl))
        (try simp only [Act.put, List.setIfInBounds_toArray, List.set_cons_zero, List.set_cons_succ])
        refine wpAnyH_ready (rs := [19]) (by kernel_rfl) (by simp) ?_
        refine AllReadyH.cons (by simp only [List.getElem?_toArray, List.getElem?_cons_succ, List.getElem?_cons_zero]; rfl) (fun K hK => ?_) AllReadyH.nil
        go_simp
        refine (awake14_at _ ht).mono ?_
        rintro e w14 ⟨rfl, b14⟩
        go_wp2_with fail
        replace ht := ht.below b14
        replace h2 := h2.below b14
        replace h3 := h3.below b14
        replace h5 := h5.below b14
        replace h9 := h9.below b14
        replace e8 := e8.below b14
        replace z1_ := z1_.below b14
        replace VA := VA.below b14
        replace VB := VB.below b14
        replace VX := VX.below b14
        replace VY := VY.below b14
        replace VS := VS.below b14
        replace BB := BB.trans (b14.mono BB.size)
        clear b14
        refine hK.out _ _ ?_ (fun hH5 => ?_)
        · exact ⟨VA.1, VA.2.1, VA.2.2.1, VB.1, VB.2.1, VB.2.2.1, VX.1, VX.2.1, VX.2.2.1, VY.1, VY.2.1, VY.2.2.1, VS.1, VS.2.1, VS.2.2.1⟩
        clear hK K hH4
        (try simp only [Act.put, List.setIfInBounds_toArray, List.set_cons_zero, List.set_cons_succ])
        refine wpAnyH_take (i := 20) (v := ?_) (by simp only [List.getElem?_toArray, List.getElem?_cons_succ, List.getElem?_cons_zero]; rfl) (by kernel_rfl) (by kernel_rfl) (by kernel_rfl) (by exact fun _ _ _ h => h) (Or.inl ⟨by rfl, ?_⟩) (by assumption) ?_
        rotate_left
        · (intro w hSw; (try dsimp only at hSw); go_simp; (try with_reducible rfl))
        (try simp only [Act.put, List.setIfInBounds_toArray, List.set_cons_zero, List.set_cons_succ])
        refine wpAnyH_take (i := 21) (v := ?_) (by simp only [List.getElem?_toArray, List.getElem?_cons_succ, List.getElem?_cons_zero]; rfl) (by kernel_rfl) (by kernel_rfl) (by kernel_rfl) (by exact fun _ _ _ h => h) (Or.inl ⟨by rfl, ?_⟩) (by assumption) ?_
        rotate_left
        · (intro w hSw; (try dsimp only at hSw); go_simp; (try with_reducible rfl))
        (try simp only [Act.put, List.setIfInBounds_toArray, List.set_cons_zero, List.set_cons_succ])
        refine wpAnyH_done (by kernel_rfl) ?_ _
        clear hH5
        go_wp2
        go_ret
        exact ⟨rfl, BB⟩
    · replace hpi : i = 0 := by omega
      by_cases hpj : 0 < j
      · have pi : ¬ (0 : Int) < (i : Int) := by omega
        have pib : decide ((0 : Int) < (i : Int)) = false := by simp; omega
        have pie : ((i : Int) == 0) = true := by simp; omega
        have pin : decide (0 < i) = false := by simp; omega
        have pj : (0 : Int) < (j : Int) := by omega
        have pjb : decide ((0 : Int) < (j : Int)) = true := by simp; omega
        have pje : ((j : Int) == 0) = false := by simp; omega
        have pjn : decide (0 < j) = true := by simp; omega
        have wx : IntKind.i64.wrap (64 - (i : Int)) = ((64 - i : Nat) : Int) := by rw [IntKind.wrap_i64]; omega
        have ws : IntKind.i64.wrap ((i : Int) + (j : Int)) = ((i + j : Nat) : Int) := by rw [IntKind.wrap_i64]; omega
        have wj : IntKind.i64.wrap ((j : Int) - 1) = ((j - 1 : Nat) : Int) := by rw [IntKind.wrap_i64]; omega
        have g1 : ¬ (i : Int) < 0 := by omega
        have g2 : ¬ (j : Int) < 0 := by omega
        have g3 : ¬ (64 : Int) < (i : Int) := by omega
        have g4 : ¬ ((64 - i : Nat) : Int) < (j : Int) := by omega
        have q1 : decide ((i : Int) < 0) = false := decide_eq_false g1
        have q2 : decide ((j : Int) < 0) = false := decide_eq_false g2
        have q3 : decide ((64 : Int) < (i : Int)) = false := decide_eq_false g3
        have q4 : decide (((64 - i : Nat) : Int) < (j : Int)) = false := decide_eq_false g4
        have HS : Hid (((i : Int) : Rat) * ((0 : Rat)) + ((j : Int) : Rat) * (-shQ i (j - 1) (i + j)) = ((-1 : Int) : Rat)) := need_0v hpi hpj hij
        have HI : Hid (i = 0) := hpi
        have HJ : Hid (0 < j) := hpj
        have s0 : qsz (0 : Rat) ≤ 10 := by decide +kernel
        have s1 : qsz (-shQ i (j - 1) (i + j)) ≤ 10 := by rw [qsz_neg]; exact shQ_sz (by omega) hij
        have hi64 : i ≤ 64 := by omega
        have hj64 : j ≤ 64 := by omega
        clear hpi
        have BB : Below w.heap.size w w := Below.refl _ _
        go_enter Tryz.func6, Tryz.ntmps6
        go_wp2_with fail
        refine (new_at _).mono ?_
        rintro e w1 ⟨rfl, hsz, HN, b1⟩
        replace ht := ht.below b1
        replace BB := BB.trans (b1.mono BB.size)
        clear b1
        obtain ⟨b, hb⟩ : ∃ b, b = w.heap.size := ⟨_, rfl⟩
        have hbw : w.heap.size ≤ b := by omega
        rw [← hb] at HN
        have HT : WT w1 b false := HN
        rw [← hb]
        clear HN hb hsz
        go_wp2_with fail
        refine (tneed_0v b i j false _ HT hij HI.out hpj ht).mono ?_
        rintro e w2 ⟨r2, r3, rfl, h2, h3, HT2, ho⟩
        replace ht := ht.keepL ho.keep
        replace BB := BB.trans (ho.low hbw BB.size)
        clear ho HT HT2
        obtain ⟨p2, a2, n2, c2, y2, m2, d2, rfl⟩ := h2.open
        obtain ⟨p3, a3, n3, c3, y3, m3, d3, rfl⟩ := h3.open
        have hZ1 : w.heap.size ≤ w2.heap.size := BB.size
        obtain ⟨W2, hW2, hS2, hL2, VA⟩ := V3.lay w2 35 (.bool p2) (.slice a2 n2 c2) (.slice y2 m2 d2)
        replace ht := ht.below hL2
        replace h2 := h2.below hL2
        replace h3 := h3.below hL2
        replace BB := BB.trans (hL2.mono BB.size)
        clear hL2
        obtain ⟨W3, hW3, hS3, hL3, VB⟩ := V3.lay W2 35 (.bool p3) (.slice a3 n3 c3) (.slice y3 m3 d3)
        replace ht := ht.below hL3
        replace h2 := h2.below hL3
        replace h3 := h3.below hL3
        replace VA := VA.below hL3
        replace BB := BB.trans (hL3.mono BB.size)
        clear hL3
        rw [hS2] at VB
        go_wp2_with fail
        rw [← hW2]
        rw [← hW3]
        generalize w2.heap.size = R1 at *
        clear hW2 hS2 hW3 hS3
        refine (qzero_at _).mono ?_
        rintro e w4 ⟨r4, rfl, h4, b4⟩
        replace ht := ht.below b4
        replace h2 := h2.below b4
        replace h3 := h3.below b4
        replace VA := VA.below b4
        replace VB := VB.below b4
        replace BB := BB.trans (b4.mono BB.size)
        clear b4
        obtain ⟨p4, a4, n4, c4, y4, m4, d4, rfl⟩ := h4.open
        have hZ4 : w.heap.size ≤ w4.heap.size := BB.size
        have hN4VA : R1 ≠ w4.heap.size := Nat.ne_of_lt VA.lt
        have hN4VB : R1 + 1 ≠ w4.heap.size := Nat.ne_of_lt VB.lt
        obtain ⟨W4, hW4, hS4, hL4, VX⟩ := V3.lay w4 35 (.bool p4) (.slice a4 n4 c4) (.slice y4 m4 d4)
        replace ht := ht.below hL4
        replace h2 := h2.below hL4
        replace h3 := h3.below hL4
        replace h4 := h4.below hL4
        replace VA := VA.below hL4
        replace VB := VB.below hL4
        replace BB := BB.trans (hL4.mono BB.size)
        clear hL4
        go_wp2_with fail
        rw [← hW4]
        generalize w4.heap.size = R4 at *
        clear hW4 hS4
        refine (qzero_at _).mono ?_
        rintro e w5 ⟨r5, rfl, h5, b5⟩
        replace ht := ht.below b5
        replace h2 := h2.below b5
        replace h3 := h3.below b5
        replace h4 := h4.below b5
        replace VA := VA.below b5
        replace VB := VB.below b5
        replace VX := VX.below b5
        replace BB := BB.trans (b5.mono BB.size)
        clear b5
        obtain ⟨p5, a5, n5, c5, y5, m5, d5, rfl⟩ := h5.open
        have hZ5 : w.heap.size ≤ w5.heap.size := BB.size
        have hN5VA : R1 ≠ w5.heap.size := Nat.ne_of_lt VA.lt
        have hN5VB : R1 + 1 ≠ w5.heap.size := Nat.ne_of_lt VB.lt
        have hN5VX : R4 ≠ w5.heap.size := Nat.ne_of_lt VX.lt
        obtain ⟨W5, hW5, hS5, hL5, VY⟩ := V3.lay w5 35 (.bool p5) (.slice a5 n5 c5) (.slice y5 m5 d5)
        replace ht := ht.below hL5
        replace h2 := h2.below hL5
        replace h3 := h3.below hL5
        replace h4 := h4.below hL5
        replace h5 := h5.below hL5
        replace VA := VA.below hL5
        replace VB := VB.below hL5
        replace VX := VX.below hL5
        replace BB := BB.trans (hL5.mono BB.size)
        clear hL5
        go_wp2_with fail
        rw [← hW5]
        generalize w5.heap.size = R5 at *
        clear hW5 hS5
        have hLX : w.heap.size ≤ R4 := by omega
        have hLY : w.heap.size ≤ R5 := by omega
        refine (lfact_at i _ hi64 ht).mono ?_
        rintro e w6 ⟨s6, rfl, k6, b6⟩
        replace ht := ht.below b6
        replace h2 := h2.below b6
        replace h3 := h3.below b6
        replace h4 := h4.below b6
        replace h5 := h5.below b6
        replace VA := VA.below b6
        replace VB := VB.below b6
        replace VX := VX.below b6
        replace VY := VY.below b6
        replace BB := BB.trans (b6.mono BB.size)
        clear b6
        go_wp2_with fail
        refine (lfact_at (j - 1) _ (by omega) ht).mono ?_
        rintro e w7 ⟨s7, rfl, k7, b7⟩
        replace ht := ht.below b7
        replace h2 := h2.below b7
        replace h3 := h3.below b7
        replace h4 := h4.below b7
        replace h5 := h5.below b7
        replace k6 := k6.below b7
        replace VA := VA.below b7
        replace VB := VB.below b7
        replace VX := VX.below b7
        replace VY := VY.below b7
        replace BB := BB.trans (b7.mono BB.size)
        clear b7
        go_wp2_with fail
        refine (lfact_at (i + j) _ hij ht).mono ?_
        rintro e w8 ⟨s8, rfl, k8, b8⟩
        replace ht := ht.below b8
        replace h2 := h2.below b8
        replace h3 := h3.below b8
        replace h4 := h4.below b8
        replace h5 := h5.below b8
        replace k6 := k6.below b8
        replace k7 := k7.below b8
        replace VA := VA.below b8
        replace VB := VB.below b8
        replace VX := VX.below b8
        replace VY := VY.below b8
        replace BB := BB.trans (b8.mono BB.size)
        clear b8
        go_wp2_with fail
        refine (lquot_at _ _ _ _ _ _ _ k6 k7 k8 (Nat.le_trans (fctR_sz (by omega)) (by omega)) (Nat.le_trans (fctR_sz (by omega)) (by omega)) (Nat.le_trans (fctR_sz (by omega)) (by omega)) (fctR_ne _) ht).mono ?_
        rintro e w9 ⟨s9, rfl, k9, b9⟩
        replace ht := ht.below b9
        replace h2 := h2.below b9
        replace h3 := h3.below b9
        replace h4 := h4.below b9
        replace h5 := h5.below b9
        replace k6 := k6.below b9
        replace k7 := k7.below b9
        replace k8 := k8.below b9
        replace VA := VA.below b9
        replace VB := VB.below b9
        replace VX := VX.below b9
        replace VY := VY.below b9
        replace BB := BB.trans (b9.mono BB.size)
        clear b9
        go_wp2_with fail
        clear k6 k7 k8 h5
        refine (qneg_at _ _ 10 _ (k9.at 10 (shQ_sz (a := i) (c := j - 1) (n := i + j) (by omega) hij)) (by omega) (by omega) ht).mono ?_
        rintro e w10 ⟨t9, rfl, l9, b10⟩
        replace ht := ht.below b10
        replace h2 := h2.below b10
        replace h3 := h3.below b10
        replace h4 := h4.below b10
        replace k9 := k9.below b10
        replace VA := VA.below b10
        replace VB := VB.below b10
        replace VX := VX.below b10
        replace VY := VY.below b10
        replace BB := BB.trans (b10.mono BB.size)
        clear b10
        obtain ⟨p8, a8, n8, c8, y8, m8, d8, rfl⟩ := l9.open
        clear k9
        have hKp := VY.keepJ (.bool p8) (.slice a8 n8 c8) (.slice y8 m8 d8)
        have VA_n := VA.other3 (R := R5) (by omega) (.bool p8) (.slice a8 n8 c8) (.slice y8 m8 d8)
        have VB_n := VB.other3 (R := R5) (by omega) (.bool p8) (.slice a8 n8 c8) (.slice y8 m8 d8)
        have VX_n := VX.other3 (R := R5) (by omega) (.bool p8) (.slice a8 n8 c8) (.slice y8 m8 d8)
        have VY_n := VY.same (.bool p8) (.slice a8 n8 c8) (.slice y8 m8 d8)
        have ht_n := ht.keep hKp
        have h2_n := h2.keep hKp
        have h3_n := h3.keep hKp
        have h4_n := h4.keep hKp
        have l9_n := l9.keep hKp
        have BB_n := below_store3 (R := R5) BB (by omega) (.bool p8) (.slice a8 n8 c8) (.slice y8 m8 d8)
        clear hKp
        obtain ⟨VY_0, VY_1, VY_2, VY_3, VY_4, VY_5⟩ := id VY
        go_wp2
        clear VY_0 VY_1 VY_2 VY_3 VY_4 VY_5
        clear BB ht h2 h3 h4 l9 VA VB VX VY
        generalize ((w10.setCell ⟨R5, 0, none⟩ (.bool p8)).setCell ⟨R5, 1, none⟩ (.slice a8 n8 c8)).setCell ⟨R5, 2, none⟩ (.slice y8 m8 d8) = W6 at *
        have BB := BB_n
        have ht := ht_n
        have h2 := h2_n
        have h3 := h3_n
        have h4 := h4_n
        have l9 := l9_n
        have VA := VA_n
        have VB := VB_n
        have VX := VX_n
        have VY := VY_n
        clear BB_n ht_n h2_n h3_n h4_n l9_n VA_n VB_n VX_n VY_n
        (try simp only [pib, pjb, pin, pjn])
        refine wp_region_until 10 #[true, true, true, true, true, true, true, true, true, true, false] (fun aF lsd a' w' => ∃ vu0 vu1 vu2 vu3 vu4 vu5 vu6 vu7 vu8 vu9 : Value, a' = (((((((((aF.put (some 78) vu0).put (some 79) vu1).put (some 80) vu2).put (some 81) vu3).put (some 82) vu4).put (some 83) vu5).put (some 84) vu6).put (some 85) vu7).put (some 86) vu8).put (some 10) vu9 ∧ Below W6.heap.size W6 w' ∧ (lsd.getD 0 false = true → vu0 = .int .i64 (i : Int)) ∧ (lsd.getD 1 false = true → RepQ w' vu1 ((i : Int) : Rat)) ∧ (lsd.getD 2 false = true → vu2 = .agg #[.bool p2, .slice a2 n2 c2, .slice y2 m2 d2]) ∧ (lsd.getD 3 false = true → RepQ w' vu3 (((i : Int) : Rat) * ((0 : Rat)))) ∧ (lsd.getD 4 false = true → vu4 = .int .i64 (j : Int)) ∧ (lsd.getD 5 false = true → RepQ w' vu5 ((j : Int) : Rat)) ∧ (lsd.getD 6 false = true → vu6 = .agg #[.bool p3, .slice a3 n3 c3, .slice y3 m3 d3]) ∧ (lsd.getD 7 false = true → RepQ w' vu7 (((j : Int) : Rat) * (-shQ i (j - 1) (i + j)))) ∧ (lsd.getD 8 false = true → RepQ w' vu8 (((i : Int) : Rat) * ((0 : Rat)) + ((j : Int) : Rat) * (-shQ i (j - 1) (i + j)))) ∧ (lsd.getD 9 false = true → New3 W6.heap.size w' vu9 (.bool false) (.slice none 0 0) (.slice none 0 0))) (by kernel_rfl) (by decide) (by kernel_rfl) (by rfl) (by kernel_rfl) ?_ ?_ ?_
        · exact ⟨_, _, _, _, _, _, _, _, _, _, by simp only [Act.put, List.setIfInBounds_toArray, List.set_cons_zero, List.set_cons_succ]; rfl, (Below.refl _ _).drew, fun h => absurd h (fun h => mark_none h), fun h => absurd h (fun h => mark_none h), fun h => absurd h (fun h => mark_none h), fun h => absurd h (fun h => mark_none h), fun h => absurd h (fun h => mark_none h), fun h => absurd h (fun h => mark_none h), fun h => absurd h (fun h => mark_none h), fun h => absurd h (fun h => mark_none h), fun h => absurd h (fun h => mark_none h), fun h => absurd h (fun h => mark_none h)⟩
        · rintro lsd au wn iu hszu ⟨vu0, vu1, vu2, vu3, vu4, vu5, vu6, vu7, vu8, vu9, rfl, hbu, fu0, fu1, fu2, fu3, fu4, fu5, fu6, fu7, fu8, fu9⟩ himu hru
          rcases (show iu = 0 ∨ iu = 1 ∨ iu = 2 ∨ iu = 3 ∨ iu = 4 ∨ iu = 5 ∨ iu = 6 ∨ iu = 7 ∨ iu = 8 ∨ iu = 9 by omega) with rfl | rfl | rfl | rfl | rfl | rfl | rfl | rfl | rfl | rfl
          · refine wpOp_shut (by rfl) (fun K hK => ?_)
            simp only [Act.put, List.setIfInBounds_toArray, List.set_cons_zero, List.set_cons_succ]
            go_simp
            exact hK.out _ _ ⟨(.int .i64 (i : Int)), vu1, vu2, vu3, vu4, vu5, vu6, vu7, vu8, vu9, by simp only [Act.put, List.setIfInBounds_toArray, List.set_cons_zero, List.set_cons_succ], hbu, fun _ => rfl, fun h => fu1 (mark_of (by decide) h), fun h => fu2 (mark_of (by decide) h), fun h => fu3 (mark_of (by decide) h), fun h => fu4 (mark_of (by decide) h), fun h => fu5 (mark_of (by decide) h), fun h => fu6 (mark_of (by decide) h), fun h => fu7 (mark_of (by decide) h), fun h => fu8 (mark_of (by decide) h), fun h => fu9 (mark_of (by decide) h)⟩
          · have eu0 := fu0 (dep_of 0 hru rfl (by kernel_rfl))
            replace eu0 := eu0.symm
            subst eu0
            refine wpOp_shut (by rfl) (fun K hK => ?_)
            simp only [Act.put, List.setIfInBounds_toArray, List.set_cons_zero, List.set_cons_succ]
            go_simp
            refine (qof_at (i : Int) _ (by omega) (by omega)).mono ?_
            rintro eu wx ⟨x1, rfl, e1, bu⟩
            go_wp2_with fail
            have hbu2 := hbu.trans (bu.mono hbu.size)
            exact hK.out _ _ ⟨(.int .i64 (i : Int)), _, vu2, vu3, vu4, vu5, vu6, vu7, vu8, vu9, by simp only [Act.put, List.setIfInBounds_toArray, List.set_cons_zero, List.set_cons_succ], hbu2, fun _ => rfl, fun _ => e1, fun h => fu2 (mark_of (by decide) h), fun h => (fu3 (mark_of (by decide) h)).below bu, fun h => fu4 (mark_of (by decide) h), fun h => (fu5 (mark_of (by decide) h)).below bu, fun h => fu6 (mark_of (by decide) h), fun h => (fu7 (mark_of (by decide) h)).below bu, fun h => (fu8 (mark_of (by decide) h)).below bu, fun h => (fu9 (mark_of (by decide) h)).below bu⟩
          · refine wpOp_shut (by rfl) (fun K hK => ?_)
            simp only [Act.put, List.setIfInBounds_toArray, List.set_cons_zero, List.set_cons_succ]
            obtain ⟨VA_0, VA_1, VA_2, VA_3, VA_4, VA_5⟩ := VA.below hbu
            go_simp
            exact hK.out _ _ ⟨vu0, vu1, (.agg #[.bool p2, .slice a2 n2 c2, .slice y2 m2 d2]), vu3, vu4, vu5, vu6, vu7, vu8, vu9, by simp only [Act.put, List.setIfInBounds_toArray, List.set_cons_zero, List.set_cons_succ], hbu, fun h => fu0 (mark_of (by decide) h), fun h => fu1 (mark_of (by decide) h), fun _ => rfl, fun h => fu3 (mark_of (by decide) h), fun h => fu4 (mark_of (by decide) h), fun h => fu5 (mark_of (by decide) h), fun h => fu6 (mark_of (by decide) h), fun h => fu7 (mark_of (by decide) h), fun h => fu8 (mark_of (by decide) h), fun h => fu9 (mark_of (by decide) h)⟩
          · have eu2 := fu2 (dep_of 2 hru rfl (by kernel_rfl))
            replace eu2 := eu2.symm
            subst eu2
            have e1 := fu1 (dep_of 1 hru rfl (by kernel_rfl))
            refine wpOp_shut (by rfl) (fun K hK => ?_)
            simp only [Act.put, List.setIfInBounds_toArray, List.set_cons_zero, List.set_cons_succ]
            have ht := ht.below hbu
            have h2 := h2.below hbu
            go_simp
            refine (qmul_at _ _ _ _ 10 _ (e1.at 10 (iz hi64)) (h2.at 10 s0) (by omega) (by omega) ht).mono ?_
            rintro eu wx ⟨x3, rfl, e3, bu⟩
            go_wp2_with fail
            have hbu2 := hbu.trans (bu.mono hbu.size)
            exact hK.out _ _ ⟨vu0, vu1, (.agg #[.bool p2, .slice a2 n2 c2, .slice y2 m2 d2]), _, vu4, vu5, vu6, vu7, vu8, vu9, by simp only [Act.put, List.setIfInBounds_toArray, List.set_cons_zero, List.set_cons_succ], hbu2, fun h => fu0 (mark_of (by decide) h), fun h => (fu1 (mark_of (by decide) h)).below bu, fun _ => rfl, fun _ => e3, fun h => fu4 (mark_of (by decide) h), fun h => (fu5 (mark_of (by decide) h)).below bu, fun h => fu6 (mark_of (by decide) h), fun h => (fu7 (mark_of (by decide) h)).below bu, fun h => (fu8 (mark_of (by decide) h)).below bu, fun h => (fu9 (mark_of (by decide) h)).below bu⟩
          · refine wpOp_shut (by rfl) (fun K hK => ?_)
            simp only [Act.put, List.setIfInBounds_toArray, List.set_cons_zero, List.set_cons_succ]
            go_simp
            exact hK.out _ _ ⟨vu0, vu1, vu2, vu3, (.int .i64 (j : Int)), vu5, vu6, vu7, vu8, vu9, by simp only [Act.put, List.setIfInBounds_toArray, List.set_cons_zero, List.set_cons_succ], hbu, fun h => fu0 (mark_of (by decide) h), fun h => fu1 (mark_of (by decide) h), fun h => fu2 (mark_of (by decide) h), fun h => fu3 (mark_of (by decide) h), fun _ => rfl, fun h => fu5 (mark_of (by decide) h), fun h => fu6 (mark_of (by decide) h), fun h => fu7 (mark_of (by decide) h), fun h => fu8 (mark_of (by decide) h), fun h => fu9 (mark_of (by decide) h)⟩
          · have eu4 := fu4 (dep_of 4 hru rfl (by kernel_rfl))
            replace eu4 := eu4.symm
            subst eu4
            have e3 := fu3 (dep_of 3 hru rfl (by kernel_rfl))
            refine wpOp_shut (by rfl) (fun K hK => ?_)
            simp only [Act.put, List.setIfInBounds_toArray, List.set_cons_zero, List.set_cons_succ]
            go_simp
            refine (qof_at (j : Int) _ (by omega) (by omega)).mono ?_
            rintro eu wx ⟨x5, rfl, e5, bu⟩
            go_wp2_with fail
            have hbu2 := hbu.trans (bu.mono hbu.size)
            exact hK.out _ _ ⟨vu0, vu1, vu2, vu3, (.int .i64 (j : Int)), _, vu6, vu7, vu8, vu9, by simp only [Act.put, List.setIfInBounds_toArray, List.set_cons_zero, List.set_cons_succ], hbu2, fun h => fu0 (mark_of (by decide) h), fun h => (fu1 (mark_of (by decide) h)).below bu, fun h => fu2 (mark_of (by decide) h), fun h => (fu3 (mark_of (by decide) h)).below bu, fun _ => rfl, fun _ => e5, fun h => fu6 (mark_of (by decide) h), fun h => (fu7 (mark_of (by decide) h)).below bu, fun h => (fu8 (mark_of (by decide) h)).below bu, fun h => (fu9 (mark_of (by decide) h)).below bu⟩
          · refine wpOp_shut (by rfl) (fun K hK => ?_)
            simp only [Act.put, List.setIfInBounds_toArray, List.set_cons_zero, List.set_cons_succ]
            obtain ⟨VB_0, VB_1, VB_2, VB_3, VB_4, VB_5⟩ := VB.below hbu
            go_simp
            exact hK.out _ _ ⟨vu0, vu1, vu2, vu3, vu4, vu5, (.agg #[.bool p3, .slice a3 n3 c3, .slice y3 m3 d3]), vu7, vu8, vu9, by simp only [Act.put, List.setIfInBounds_toArray, List.set_cons_zero, List.set_cons_succ], hbu, fun h => fu0 (mark_of (by decide) h), fun h => fu1 (mark_of (by decide) h), fun h => fu2 (mark_of (by decide) h), fun h => fu3 (mark_of (by decide) h), fun h => fu4 (mark_of (by decide) h), fun h => fu5 (mark_of (by decide) h), fun _ => rfl, fun h => fu7 (mark_of (by decide) h), fun h => fu8 (mark_of (by decide) h), fun h => fu9 (mark_of (by decide) h)⟩
          · have eu6 := fu6 (dep_of 6 hru rfl (by kernel_rfl))
            replace eu6 := eu6.symm
            subst eu6
            have e5 := fu5 (dep_of 5 hru rfl (by kernel_rfl))
            refine wpOp_shut (by rfl) (fun K hK => ?_)
            simp only [Act.put, List.setIfInBounds_toArray, List.set_cons_zero, List.set_cons_succ]
            have ht := ht.below hbu
            have h3 := h3.below hbu
            go_simp
            refine (qmul_at _ _ _ _ 10 _ (e5.at 10 (iz hj64)) (h3.at 10 s1) (by omega) (by omega) ht).mono ?_
            rintro eu wx ⟨x7, rfl, e7, bu⟩
            go_wp2_with fail
            have hbu2 := hbu.trans (bu.mono hbu.size)
            exact hK.out _ _ ⟨vu0, vu1, vu2, vu3, vu4, vu5, (.agg #[.bool p3, .slice a3 n3 c3, .slice y3 m3 d3]), _, vu8, vu9, by simp only [Act.put, List.setIfInBounds_toArray, List.set_cons_zero, List.set_cons_succ], hbu2, fun h => fu0 (mark_of (by decide) h), fun h => (fu1 (mark_of (by decide) h)).below bu, fun h => fu2 (mark_of (by decide) h), fun h => (fu3 (mark_of (by decide) h)).below bu, fun h => fu4 (mark_of (by decide) h), fun h => (fu5 (mark_of (by decide) h)).below bu, fun _ => rfl, fun _ => e7, fun h => (fu8 (mark_of (by decide) h)).below bu, fun h => (fu9 (mark_of (by decide) h)).below bu⟩
          · have e3 := fu3 (dep_of 3 hru rfl (by kernel_rfl))
            have e7 := fu7 (dep_of 7 hru rfl (by kernel_rfl))
            refine wpOp_shut (by rfl) (fun K hK => ?_)
            simp only [Act.put, List.setIfInBounds_toArray, List.set_cons_zero, List.set_cons_succ]
            have ht := ht.below hbu
            go_simp
            refine (qadd_at _ _ _ _ 20 _ (e3.at 20 (qsz_mul _ _ (iz hi64) s0)) (e7.at 20 (qsz_mul _ _ (iz hj64) s1)) (by omega) (by omega) ht).mono ?_
            rintro eu wx ⟨x8, rfl, e8, bu⟩
            go_wp2_with fail
            have hbu2 := hbu.trans (bu.mono hbu.size)
            exact hK.out _ _ ⟨vu0, vu1, vu2, vu3, vu4, vu5, vu6, vu7, _, vu9, by simp only [Act.put, List.setIfInBounds_toArray, List.set_cons_zero, List.set_cons_succ], hbu2, fun h => fu0 (mark_of (by decide) h), fun h => (fu1 (mark_of (by decide) h)).below bu, fun h => fu2 (mark_of (by decide) h), fun h => (fu3 (mark_of (by decide) h)).below bu, fun h => fu4 (mark_of (by decide) h), fun h => (fu5 (mark_of (by decide) h)).below bu, fun h => fu6 (mark_of (by decide) h), fun h => (fu7 (mark_of (by decide) h)).below bu, fun _ => e8, fun h => (fu9 (mark_of (by decide) h)).below bu⟩
          · refine wpOp_shut (by rfl) (fun K hK => ?_)
            simp only [Act.put, List.setIfInBounds_toArray, List.set_cons_zero, List.set_cons_succ]
            go_simp
            obtain ⟨wx, hWx, hSx, bu, VXu⟩ := V3.lay wn 35 (.bool false) (.slice none 0 0) (.slice none 0 0)
            rw [← hWx]
            have hbu2 := hbu.trans (bu.mono hbu.size)
            exact hK.out _ _ ⟨vu0, vu1, vu2, vu3, vu4, vu5, vu6, vu7, vu8, _, by simp only [Act.put, List.setIfInBounds_toArray, List.set_cons_zero, List.set_cons_succ], hbu2, fun h => fu0 (mark_of (by decide) h), fun h => (fu1 (mark_of (by decide) h)).below bu, fun h => fu2 (mark_of (by decide) h), fun h => (fu3 (mark_of (by decide) h)).below bu, fun h => fu4 (mark_of (by decide) h), fun h => (fu5 (mark_of (by decide) h)).below bu, fun h => fu6 (mark_of (by decide) h), fun h => (fu7 (mark_of (by decide) h)).below bu, fun h => (fu8 (mark_of (by decide) h)).below bu, fun _ => ⟨_, rfl, hbu.size, VXu⟩⟩
        rintro au Wu7 ⟨vu0, vu1, vu2, vu3, vu4, vu5, vu6, vu7, vu8, vu9, rfl, hbu, fu0, fu1, fu2, fu3, fu4, fu5, fu6, fu7, fu8, fu9⟩
        have eu0 := (fu0 rfl).symm
        subst eu0
        have e1 := fu1 rfl
        have eu2 := (fu2 rfl).symm
        subst eu2
        have e3 := fu3 rfl
        have eu4 := (fu4 rfl).symm
        subst eu4
        have e5 := fu5 rfl
        have eu6 := (fu6 rfl).symm
        subst eu6
        have e7 := fu7 rfl
        have e8 := fu8 rfl
        obtain ⟨RVS, rfl, hRVS, VS⟩ := fu9 rfl
        clear fu0 fu1 fu2 fu3 fu4 fu5 fu6 fu7 fu8 fu9
        have hlVA : R1 < W6.heap.size := VA.lt
        have hlVB : R1 + 1 < W6.heap.size := VB.lt
        have hlVX : R4 < W6.heap.size := VX.lt
        have hlVY : R5 < W6.heap.size := VY.lt
        rw [HS.out] at e8
        obtain ⟨p6, a6, n6, c6, y6, m6, d6, rfl⟩ := e8.open
        simp only [Act.put, List.setIfInBounds_toArray, List.set_cons_zero, List.set_cons_succ]
        refine wpAnyH_ready (rs := [10]) (by kernel_rfl) (by simp) ?_
        refine AllReadyH.cons (by rfl) (fun K hK => ?_) AllReadyH.nil
        have hKp := VS.keepJ (.bool p6) (.slice a6 n6 c6) (.slice y6 m6 d6)
        have VS_n := VS.same (.bool p6) (.slice a6 n6 c6) (.slice y6 m6 d6)
        have e1_n := e1.keep hKp
        have e3_n := e3.keep hKp
        have e5_n := e5.keep hKp
        have e7_n := e7.keep hKp
        have e8_n := e8.keep hKp
        have hbu_n := below_store3 (R := RVS) hbu (by omega) (.bool p6) (.slice a6 n6 c6) (.slice y6 m6 d6)
        clear hKp
        obtain ⟨VS_0, VS_1, VS_2, VS_3, VS_4, VS_5⟩ := id VS
        go_simp
        clear VS_0 VS_1 VS_2 VS_3 VS_4 VS_5
        clear hbu e1 e3 e5 e7 e8 VS
        generalize ((Wu7.setCell ⟨RVS, 0, none⟩ (.bool p6)).setCell ⟨RVS, 1, none⟩ (.slice a6 n6 c6)).setCell ⟨RVS, 2, none⟩ (.slice y6 m6 d6) = W8 at *
        have hbu := hbu_n
        have e1 := e1_n
        have e3 := e3_n
        have e5 := e5_n
        have e7 := e7_n
        have e8 := e8_n
        have VS := VS_n
        clear hbu_n e1_n e3_n e5_n e7_n e8_n VS_n
        refine hK.out _ _ trivial (fun _ => ?_)
        clear hK K
        simp only [Act.put, List.setIfInBounds_toArray, List.set_cons_zero, List.set_cons_succ]
        replace ht := ht.below hbu
        replace h2 := h2.below hbu
        replace h3 := h3.below hbu
        replace h4 := h4.below hbu
        replace l9 := l9.below hbu
        replace VA := VA.below hbu
        replace VB := VB.below hbu
        replace VX := VX.below hbu
        replace VY := VY.below hbu
        replace BB := BB.trans (hbu.mono BB.size)
        clear hbu
        refine wpAnyH_done (by kernel_rfl) ?_ _
        clear e1 e3 e5 e7
        go_wp2
        have hDr : Below W8.heap.size W8 W8.drew := (Below.refl _ _).drew
        replace ht := ht.below hDr
        replace h2 := h2.below hDr
        replace h3 := h3.below hDr
        replace h4 := h4.below hDr
        replace l9 := l9.below hDr
        replace e8 := e8.below hDr
        replace VA := VA.below hDr
        replace VB := VB.below hDr
        replace VX := VX.below hDr
        replace VY := VY.below hDr
        replace VS := VS.below hDr
        replace BB := BB.trans (hDr.mono BB.size)
        clear hDr
        refine wp_region_held_drew (S := (fun w' => w'.cell? ⟨R1, 0, none⟩ = some (.bool p2) ∧ w'.cell? ⟨R1, 1, none⟩ = some (.slice a2 n2 c2) ∧ w'.cell? ⟨R1, 2, none⟩ = some (.slice y2 m2 d2) ∧ w'.cell? ⟨R1 + 1, 0, none⟩ = some (.bool p3) ∧ w'.cell? ⟨R1 + 1, 1, none⟩ = some (.slice a3 n3 c3) ∧ w'.cell? ⟨R1 + 1, 2, none⟩ = some (.slice y3 m3 d3) ∧ w'.cell? ⟨R4, 0, none⟩ = some (.bool p4) ∧ w'.cell? ⟨R4, 1, none⟩ = some (.slice a4 n4 c4) ∧ w'.cell? ⟨R4, 2, none⟩ = some (.slice y4 m4 d4) ∧ w'.cell? ⟨R5, 0, none⟩ = some (.bool p8) ∧ w'.cell? ⟨R5, 1, none⟩ = some (.slice a8 n8 c8) ∧ w'.cell? ⟨R5, 2, none⟩ = some (.slice y8 m8 d8) ∧ w'.cell? ⟨RVS, 0, none⟩ = some (.bool p6) ∧ w'.cell? ⟨RVS, 1, none⟩ = some (.slice a6 n6 c6) ∧ w'.cell? ⟨RVS, 2, none⟩ = some (.slice y6 m6 d6))) (by kernel_rfl) ?_ (fun hHeld => ?_)
        · exact ⟨VA.1, VA.2.1, VA.2.2.1, VB.1, VB.2.1, VB.2.2.1, VX.1, VX.2.1, VX.2.2.1, VY.1, VY.2.1, VY.2.2.1, VS.1, VS.2.1, VS.2.2.1⟩
        generalize W8.drew = W9 at *
        refine wpAnyH_take (i := 0) (v := ?_) (by simp only [List.getElem?_toArray, List.getElem?_cons_succ, List.getElem?_cons_zero]; rfl) (by kernel_rfl) (by kernel_rfl) (by kernel_rfl) (by exact fun _ _ _ h => h) (Or.inl ⟨by rfl, ?_⟩) (by assumption) ?_
        rotate_left
        · (intro w hSw; (try dsimp only at hSw); go_simp; (try with_reducible rfl))
        (try simp only [Act.put, List.setIfInBounds_toArray, List.set_cons_zero, List.set_cons_succ])
        refine wpAnyH_take (i := 1) (v := ?_) (by simp only [List.getElem?_toArray, List.getElem?_cons_succ, List.getElem?_cons_zero]; rfl) (by kernel_rfl) (by kernel_rfl) (by kernel_rfl) (by exact fun _ _ _ h => h) (Or.inl ⟨by rfl, ?_⟩) (by assumption) ?_
        rotate_left
        · (intro w hSw; (try dsimp only at hSw); go_simp; (try with_reducible rfl))
        (try simp only [Act.put, List.setIfInBounds_toArray, List.set_cons_zero, List.set_cons_succ])
        refine wpAnyH_take (i := 2) (v := ?_) (by simp only [List.getElem?_toArray, List.getElem?_cons_succ, List.getElem?_cons_zero]; rfl) (by kernel_rfl) (by kernel_rfl) (by kernel_rfl) (by exact fun _ _ _ h => h) (Or.inl ⟨by rfl, ?_⟩) (by assumption) ?_
        rotate_left
        · (intro w hSw; (try dsimp only at hSw); go_simp; (try with_reducible rfl))
        (try simp only [Act.put, List.setIfInBounds_toArray, List.set_cons_zero, List.set_cons_succ])
        refine wpAnyH_take (i := 3) (v := ?_) (by simp only [List.getElem?_toArray, List.getElem?_cons_succ, List.getElem?_cons_zero]; rfl) (by kernel_rfl) (by kernel_rfl) (by kernel_rfl) (by exact fun _ _ _ h => h) (Or.inl ⟨by rfl, ?_⟩) (by assumption) ?_
        rotate_left
        · (intro w hSw; (try dsimp only at hSw); go_simp; (try with_reducible rfl))
        (try simp only [Act.put, List.setIfInBounds_toArray, List.set_cons_zero, List.set_cons_succ])
        refine wpAnyH_take (i := 4) (v := ?_) (by simp only [List.getElem?_toArray, List.getElem?_cons_succ, List.getElem?_cons_zero]; rfl) (by kernel_rfl) (by kernel_rfl) (by kernel_rfl) (by exact fun _ _ _ h => h) (Or.inl ⟨by rfl, ?_⟩) (by assumption) ?_
        rotate_left
        · (intro w hSw; (try dsimp only at hSw); go_simp; (try with_reducible rfl))
        (try simp only [Act.put, List.setIfInBounds_toArray, List.set_cons_zero, List.set_cons_succ])
        refine wpAnyH_ready (rs := [5]) (by kernel_rfl) (by simp) ?_
        refine AllReadyH.cons (by simp only [List.getElem?_toArray, List.getElem?_cons_succ, List.getElem?_cons_zero]; rfl) (fun K hK => ?_) AllReadyH.nil
        go_simp
        refine (lis14_at _ _ _ _ _ h2 h4 (Nat.le_trans s0 (by omega)) (Nat.le_trans s0 (by omega)) rfl ht).mono ?_
        rintro e w11 ⟨rfl, b11⟩
        go_wp2_with fail
        replace ht := ht.below b11
        replace h2 := h2.below b11
        replace h3 := h3.below b11
        replace h4 := h4.below b11
        replace l9 := l9.below b11
        replace e8 := e8.below b11
        replace VA := VA.below b11
        replace VB := VB.below b11
        replace VX := VX.below b11
        replace VY := VY.below b11
        replace VS := VS.below b11
        replace BB := BB.trans (b11.mono BB.size)
        clear b11
        refine hK.out _ _ ?_ (fun hH1 => ?_)
        · exact ⟨VA.1, VA.2.1, VA.2.2.1, VB.1, VB.2.1, VB.2.2.1, VX.1, VX.2.1, VX.2.2.1, VY.1, VY.2.1, VY.2.2.1, VS.1, VS.2.1, VS.2.2.1⟩
        clear hK K hHeld
        (try simp only [Act.put, List.setIfInBounds_toArray, List.set_cons_zero, List.set_cons_succ])
        refine wpAnyH_take (i := 6) (v := ?_) (by simp only [List.getElem?_toArray, List.getElem?_cons_succ, List.getElem?_cons_zero]; rfl) (by kernel_rfl) (by kernel_rfl) (by kernel_rfl) (by exact fun _ _ _ h => h) (Or.inl ⟨by rfl, ?_⟩) (by assumption) ?_
        rotate_left
        · (intro w hSw; (try dsimp only at hSw); go_simp; (try with_reducible rfl))
        (try simp only [Act.put, List.setIfInBounds_toArray, List.set_cons_zero, List.set_cons_succ])
        refine wpAnyH_take (i := 7) (v := ?_) (by simp only [List.getElem?_toArray, List.getElem?_cons_succ, List.getElem?_cons_zero]; rfl) (by kernel_rfl) (by kernel_rfl) (by kernel_rfl) (by exact fun _ _ _ h => h) (Or.inl ⟨by rfl, ?_⟩) (by assumption) ?_
        rotate_left
        · (intro w hSw; (try dsimp only at hSw); go_simp; (try with_reducible rfl))
        (try simp only [Act.put, List.setIfInBounds_toArray, List.set_cons_zero, List.set_cons_succ])
        refine wpAnyH_take (i := 8) (v := ?_) (by simp only [List.getElem?_toArray, List.getElem?_cons_succ, List.getElem?_cons_zero]; rfl) (by kernel_rfl) (by kernel_rfl) (by kernel_rfl) (by exact fun _ _ _ h => h) (Or.inl ⟨by rfl, ?_⟩) (by assumption) ?_
        rotate_left
        · (intro w hSw; (try dsimp only at hSw); go_simp; (try with_reducible rfl))
        (try simp only [Act.put, List.setIfInBounds_toArray, List.set_cons_zero, List.set_cons_succ])
        refine wpAnyH_take (i := 9) (v := ?_) (by simp only [List.getElem?_toArray, List.getElem?_cons_succ, List.getElem?_cons_zero]; rfl) (by kernel_rfl) (by kernel_rfl) (by kernel_rfl) (by exact fun _ _ _ h => h) (Or.inl ⟨by rfl, ?_⟩) (by assumption) ?_
        rotate_left
        · (intro w hSw; (try dsimp only at hSw); go_simp; (try with_reducible rfl))
        (try simp only [Act.put, List.setIfInBounds_toArray, List.set_cons_zero, List.set_cons_succ])
        refine wpAnyH_ready (rs := [10]) (by kernel_rfl) (by simp) ?_
        refine AllReadyH.cons (by simp only [List.getElem?_toArray, List.getElem?_cons_succ, List.getElem?_cons_zero]; rfl) (fun K hK => ?_) AllReadyH.nil
        go_simp
        refine (lis14_at _ _ _ _ _ h3 l9 (Nat.le_trans s1 (by omega)) (Nat.le_trans s1 (by omega)) rfl ht).mono ?_
        rintro e w12 ⟨rfl, b12⟩
        go_wp2_with fail
        replace ht := ht.below b12
        replace h2 := h2.below b12
        replace h3 := h3.below b12
        replace h4 := h4.below b12
        replace l9 := l9.below b12
        replace e8 := e8.below b12
        replace VA := VA.below b12
        replace VB := VB.below b12
        replace VX := VX.below b12
        replace VY := VY.below b12
        replace VS := VS.below b12
        replace BB := BB.trans (b12.mono BB.size)
        clear b12
        refine hK.out _ _ ?_ (fun hH2 => ?_)
        · exact ⟨VA.1, VA.2.1, VA.2.2.1, VB.1, VB.2.1, VB.2.2.1, VX.1, VX.2.1, VX.2.2.1, VY.1, VY.2.1, VY.2.2.1, VS.1, VS.2.1, VS.2.2.1⟩
        clear hK K hH1
        (try simp only [Act.put, List.setIfInBounds_toArray, List.set_cons_zero, List.set_cons_succ])
        refine wpAnyH_take (i := 11) (v := ?_) (by simp only [List.getElem?_toArray, List.getElem?_cons_succ, List.getElem?_cons_zero]; rfl) (by kernel_rfl) (by kernel_rfl) (by kernel_rfl) (by exact fun _ _ _ h => h) (Or.inl ⟨by rfl, ?_⟩) (by assumption) ?_
        rotate_left
        · (intro w hSw; (try dsimp only at hSw); go_simp; (try with_reducible rfl))
        (try simp only [Act.put, List.setIfInBounds_toArray, List.set_cons_zero, List.set_cons_succ])
        refine wpAnyH_take (i := 12) (v := ?_) (by simp only [List.getElem?_toArray, List.getElem?_cons_succ, List.getElem?_cons_zero]; rfl) (by kernel_rfl) (by kernel_rfl) (by kernel_rfl) (by exact fun _ _ _ h => h) (Or.inl ⟨by rfl, ?_⟩) (by assumption) ?_
        rotate_left
        · (intro w hSw; (try dsimp only at hSw); go_simp; (try with_reducible rfl))
        (try simp only [Act.put, List.setIfInBounds_toArray, List.set_cons_zero, List.set_cons_succ])
        refine wpAnyH_take (i := 13) (v := ?_) (by simp only [List.getElem?_toArray, List.getElem?_cons_succ, List.getElem?_cons_zero]; rfl) (by kernel_rfl) (by kernel_rfl) (by kernel_rfl) (by exact fun _ _ _ h => h) (Or.inl ⟨by rfl, ?_⟩) (by assumption) ?_
        rotate_left
        · (intro w hSw; (try dsimp only at hSw); go_simp; (try with_reducible rfl))
        (try simp only [Act.put, List.setIfInBounds_toArray, List.set_cons_zero, List.set_cons_succ])
        refine wpAnyH_take (i := 14) (v := ?_) (by simp only [List.getElem?_toArray, List.getElem?_cons_succ, List.getElem?_cons_zero]; rfl) (by kernel_rfl) (by kernel_rfl) (by kernel_rfl) (by exact fun _ _ _ h => h) (Or.inl ⟨by rfl, ?_⟩) (by assumption) ?_
        rotate_left
        · (intro w hSw; (try dsimp only at hSw); go_simp; (try with_reducible rfl))
        (try simp only [Act.put, List.setIfInBounds_toArray, List.set_cons_zero, List.set_cons_succ])
        refine wpAnyH_ready (rs := [15]) (by kernel_rfl) (by simp) ?_
        refine AllReadyH.cons (by simp only [List.getElem?_toArray, List.getElem?_cons_succ, List.getElem?_cons_zero]; rfl) (fun K hK => ?_) AllReadyH.nil
        go_simp
        refine (qof_at (-1) _ (by omega) (by omega)).mono ?_
        rintro e w13 ⟨z1, rfl, z1_, b13⟩
        go_wp2_with fail
        replace ht := ht.below b13
        replace h2 := h2.below b13
        replace h3 := h3.below b13
        replace h4 := h4.below b13
        replace l9 := l9.below b13
        replace e8 := e8.below b13
        replace VA := VA.below b13
        replace VB := VB.below b13
        replace VX := VX.below b13
        replace VY := VY.below b13
        replace VS := VS.below b13
        replace BB := BB.trans (b13.mono BB.size)
        clear b13
        refine hK.out _ _ ?_ (fun hH3 => ?_)
        · exact ⟨VA.1, VA.2.1, VA.2.2.1, VB.1, VB.2.1, VB.2.2.1, VX.1, VX.2.1, VX.2.2.1, VY.1, VY.2.1, VY.2.2.1, VS.1, VS.2.1, VS.2.2.1⟩
        clear hK K hH2
        (try simp only [Act.put, List.setIfInBounds_toArray, List.set_cons_zero, List.set_cons_succ])
        refine wpAnyH_ready (rs := [16]) (by kernel_rfl) (by simp) ?_
        refine AllReadyH.cons (by simp only [List.getElem?_toArray, List.getElem?_cons_succ, List.getElem?_cons_zero]; rfl) (fun K hK => ?_) AllReadyH.nil
        go_simp
        refine (qsame_at _ _ _ _ 10 _ (e8.at 10 want_sz0) (z1_.at 10 want_sz0) (by omega) (by omega)).mono ?_
        rintro e w14 ⟨rfl, b14⟩
        rw [decide_eq_true rfl]
        go_wp2_with fail
        replace ht := ht.below b14
        replace h2 := h2.below b14
        replace h3 := h3.below b14
        replace h4 := h4.below b14
        replace l9 := l9.below b14
        replace e8 := e8.below b14
        replace z1_ := z1_.below b14
        replace VA := VA.below b14
        replace VB := VB.below b14
        replace VX := VX.below b14
        replace VY := VY.below b14
        replace VS := VS.below b14
        replace BB := BB.trans (b14.mono BB.size)
        clear b14
        refine hK.out _ _ ?_ (fun hH4 => ?_)
        · exact ⟨VA.1, VA.2.1, VA.2.2.1, VB.1, VB.2.1, VB.2.2.1, VX.1, VX.2.1, VX.2.2.1, VY.1, VY.2.1, VY.2.2.1, VS.1, VS.2.1, VS.2.2.1⟩
        clear hK K hH3
        (try simp only [Act.put, List.setIfInBounds_toArray, List.set_cons_zero, List.set_cons_succ])
        refine wpAnyH_take (i := 17) (v := ?_) (by simp only [List.getElem?_toArray, List.getElem?_cons_succ, List.getElem?_cons_zero]; rfl) (by kernel_rfl) (by kernel_rfl) (by kernel_rfl) (by exact fun _ _ _ h => h) (Or.inl ⟨by rfl, ?_⟩) (by assumption) ?_
        rotate_left
        · (intro w hSw; (try dsimp only at hSw); go_simp; (try with_reducible rfl))
        (try simp only [Act.put, List.setIfInBounds_toArray, List.set_cons_zero, List.set_cons_succ])
        refine wpAnyH_take (i := 18) (v := ?_) (by simp only [List.getElem?_toArray, List.getElem?_cons_succ, List.getElem?_cons_zero]; rfl) (by kernel_rfl) (by kernel_rfl) (by kernel_rfl) (by exact fun _ _ _ h => h) (Or.inl ⟨by rfl, ?_⟩) (by assumption) ?_
        rotate_left
        · (intro w hSw; (try dsimp only at hSw); go_simp; (try with_reducible rfl))
        (try simp only [Act.put, List.setIfInBounds_toArray, List.set_cons_zero, List.set_cons_succ])
        refine wpAnyH_ready (rs := [19]) (by kernel_rfl) (by simp) ?_
        refine AllReadyH.cons (by simp only [List.getElem?_toArray, List.getElem?_cons_succ, List.getElem?_cons_zero]; rfl) (fun K hK => ?_) AllReadyH.nil
        go_simp
        refine (awake14_at _ ht).mono ?_
        rintro e w15 ⟨rfl, b15⟩
        go_wp2_with fail
        replace ht := ht.below b15
        replace h2 := h2.below b15
        replace h3 := h3.below b15
        replace h4 := h4.below b15
        replace l9 := l9.below b15
        replace e8 := e8.below b15
        replace z1_ := z1_.below b15
        replace VA := VA.below b15
        replace VB := VB.below b15
        replace VX := VX.below b15
        replace VY := VY.below b15
        replace VS := VS.below b15
        replace BB := BB.trans (b15.mono BB.size)
        clear b15
        refine hK.out _ _ ?_ (fun hH5 => ?_)
        · exact ⟨VA.1, VA.2.1, VA.2.2.1, VB.1, VB.2.1, VB.2.2.1, VX.1, VX.2.1, VX.2.2.1, VY.1, VY.2.1, VY.2.2.1, VS.1, VS.2.1, VS.2.2.1⟩
        clear hK K hH4
        (try simp only [Act.put, List.setIfInBounds_toArray, List.set_cons_zero, List.set_cons_succ])
        refine wpAnyH_take (i := 20) (v := ?_) (by simp only [List.getElem?_toArray, List.getElem?_cons_succ, List.getElem?_cons_zero]; rfl) (by kernel_rfl) (by kernel_rfl) (by kernel_rfl) (by exact fun _ _ _ h => h) (Or.inl ⟨by rfl, ?_⟩) (by assumption) ?_
        rotate_left
        · (intro w hSw; (try dsimp only at hSw); go_simp; (try with_reducible rfl))
        (try simp only [Act.put, List.setIfInBounds_toArray, List.set_cons_zero, List.set_cons_succ])
        refine wpAnyH_take (i := 21) (v := ?_) (by simp only [List.getElem?_toArray, List.getElem?_cons_succ, List.getElem?_cons_zero]; rfl) (by kernel_rfl) (by kernel_rfl) (by kernel_rfl) (by exact fun _ _ _ h => h) (Or.inl ⟨by rfl, ?_⟩) (by assumption) ?_
        rotate_left
        · (intro w hSw; (try dsimp only at hSw); go_simp; (try with_reducible rfl))
        (try simp only [Act.put, List.setIfInBounds_toArray, List.set_cons_zero, List.set_cons_succ])
        refine wpAnyH_done (by kernel_rfl) ?_ _
        clear hH5
        go_wp2
        go_ret
        exact ⟨rfl, BB⟩
      · replace hpj : j = 0 := by omega
        have pi : ¬ (0 : Int) < (i : Int) := by omega
        have pib : decide ((0 : Int) < (i : Int)) = false := by simp; omega
        have pie : ((i : Int) == 0) = true := by simp; omega
        have pin : decide (0 < i) = false := by simp; omega
        have pj : ¬ (0 : Int) < (j : Int) := by omega
        have pjb : decide ((0 : Int) < (j : Int)) = false := by simp; omega
        have pje : ((j : Int) == 0) = true := by simp; omega
        have pjn : decide (0 < j) = false := by simp; omega
        have wx : IntKind.i64.wrap (64 - (i : Int)) = ((64 - i : Nat) : Int) := by rw [IntKind.wrap_i64]; omega
        have ws : IntKind.i64.wrap ((i : Int) + (j : Int)) = ((i + j : Nat) : Int) := by rw [IntKind.wrap_i64]; omega
        have g1 : ¬ (i : Int) < 0 := by omega
        have g2 : ¬ (j : Int) < 0 := by omega
        have g3 : ¬ (64 : Int) < (i : Int) := by omega
        have g4 : ¬ ((64 - i : Nat) : Int) < (j : Int) := by omega
        have q1 : decide ((i : Int) < 0) = false := decide_eq_false g1
        have q2 : decide ((j : Int) < 0) = false := decide_eq_false g2
        have q3 : decide ((64 : Int) < (i : Int)) = false := decide_eq_false g3
        have q4 : decide (((64 - i : Nat) : Int) < (j : Int)) = false := decide_eq_false g4
        have HS : Hid (((i : Int) : Rat) * ((0 : Rat)) + ((j : Int) : Rat) * ((0 : Rat)) = ((0 : Int) : Rat)) := need_00 hpi hpj hij
        have HI : Hid (i = 0) := hpi
        have HJ : Hid (j = 0) := hpj
        have s0 : qsz (0 : Rat) ≤ 10 := by decide +kernel
        have s1 : qsz (0 : Rat) ≤ 10 := by decide +kernel
        have hi64 : i ≤ 64 := by omega
        have hj64 : j ≤ 64 := by omega
        clear hpi
        clear hpj
        have BB : Below w.heap.size w w := Below.refl _ _
        go_enter Tryz.func6, Tryz.ntmps6
        go_wp2_with fail
        refine (new_at _).mono ?_
        rintro e w1 ⟨rfl, hsz, HN, b1⟩
        replace ht := ht.below b1
        replace BB := BB.trans (b1.mono BB.size)
        clear b1
        obtain ⟨b, hb⟩ : ∃ b, b = w.heap.size := ⟨_, rfl⟩
        have hbw : w.heap.size ≤ b := by omega
        rw [← hb] at HN
        have HT : WT w1 b false := HN
        rw [← hb]
        clear HN hb hsz
        go_wp2_with fail
        refine (tneed_00 b i j false _ HT hij HI.out HJ.out ht).mono ?_
        rintro e w2 ⟨r2, r3, rfl, h2, h3, HT2, ho⟩
        replace ht := ht.keepL ho.keep
        replace BB := BB.trans (ho.low hbw BB.size)
        clear ho HT HT2
        obtain ⟨p2, a2, n2, c2, y2, m2, d2, rfl⟩ := h2.open
        obtain ⟨p3, a3, n3, c3, y3, m3, d3, rfl⟩ := h3.open
        have hZ1 : w.heap.size ≤ w2.heap.size := BB.size
        obtain ⟨W2, hW2, hS2, hL2, VA⟩ := V3.lay w2 35 (.bool p2) (.slice a2 n2 c2) (.slice y2 m2 d2)
        replace ht := ht.below hL2
        replace h2 := h2.below hL2
        replace h3 := h3.below hL2
        replace BB := BB.trans (hL2.mono BB.size)
        clear hL2
        obtain ⟨W3, hW3, hS3, hL3, VB⟩ := V3.lay W2 35 (.bool p3) (.slice a3 n3 c3) (.slice y3 m3 d3)
        replace ht := ht.below hL3
        replace h2 := h2.below hL3
        replace h3 := h3.below hL3
        replace VA := VA.below hL3
        replace BB := BB.trans (hL3.mono BB.size)
        clear hL3
        rw [hS2] at VB
        go_wp2_with fail
        rw [← hW2]
        rw [← hW3]
        generalize w2.heap.size = R1 at *
        clear hW2 hS2 hW3 hS3
        refine (qzero_at _).mono ?_
        rintro e w4 ⟨r4, rfl, h4, b4⟩
        replace ht := ht.below b4
        replace h2 := h2.below b4
        replace h3 := h3.below b4
        replace VA := VA.below b4
        replace VB := VB.below b4
        replace BB := BB.trans (b4.mono BB.size)
        clear b4
        obtain ⟨p4, a4, n4, c4, y4, m4, d4, rfl⟩ := h4.open
        have hZ4 : w.heap.size ≤ w4.heap.size := BB.size
        have hN4VA : R1 ≠ w4.heap.size := Nat.ne_of_lt VA.lt
        have hN4VB : R1 + 1 ≠ w4.heap.size := Nat.ne_of_lt VB.lt
        obtain ⟨W4, hW4, hS4, hL4, VX⟩ := V3.lay w4 35 (.bool p4) (.slice a4 n4 c4) (.slice y4 m4 d4)
        replace ht := ht.below hL4
        replace h2 := h2.below hL4
        replace h3 := h3.below hL4
        replace h4 := h4.below hL4
        replace VA := VA.below hL4
        replace VB := VB.below hL4
        replace BB := BB.trans (hL4.mono BB.size)
        clear hL4
        go_wp2_with fail
        rw [← hW4]
        generalize w4.heap.size = R4 at *
        clear hW4 hS4
        refine (qzero_at _).mono ?_
        rintro e w5 ⟨r5, rfl, h5, b5⟩
        replace ht := ht.below b5
        replace h2 := h2.below b5
        replace h3 := h3.below b5
        replace h4 := h4.below b5
        replace VA := VA.below b5
        replace VB := VB.below b5
        replace VX := VX.below b5
        replace BB := BB.trans (b5.mono BB.size)
        clear b5
        obtain ⟨p5, a5, n5, c5, y5, m5, d5, rfl⟩ := h5.open
        have hZ5 : w.heap.size ≤ w5.heap.size := BB.size
        have hN5VA : R1 ≠ w5.heap.size := Nat.ne_of_lt VA.lt
        have hN5VB : R1 + 1 ≠ w5.heap.size := Nat.ne_of_lt VB.lt
        have hN5VX : R4 ≠ w5.heap.size := Nat.ne_of_lt VX.lt
        obtain ⟨W5, hW5, hS5, hL5, VY⟩ := V3.lay w5 35 (.bool p5) (.slice a5 n5 c5) (.slice y5 m5 d5)
        replace ht := ht.below hL5
        replace h2 := h2.below hL5
        replace h3 := h3.below hL5
        replace h4 := h4.below hL5
        replace h5 := h5.below hL5
        replace VA := VA.below hL5
        replace VB := VB.below hL5
        replace VX := VX.below hL5
        replace BB := BB.trans (hL5.mono BB.size)
        clear hL5
        go_wp2
        rw [← hW5]
        generalize w5.heap.size = R5 at *
        clear hW5 hS5
        have hLX : w.heap.size ≤ R4 := by omega
        have hLY : w.heap.size ≤ R5 := by omega
        (try simp only [pib, pjb, pin, pjn])
        refine wp_region_until 10 #[true, true, true, true, true, true, true, true, true, true, false] (fun aF lsd a' w' => ∃ vu0 vu1 vu2 vu3 vu4 vu5 vu6 vu7 vu8 vu9 : Value, a' = (((((((((aF.put (some 78) vu0).put (some 79) vu1).put (some 80) vu2).put (some 81) vu3).put (some 82) vu4).put (some 83) vu5).put (some 84) vu6).put (some 85) vu7).put (some 86) vu8).put (some 10) vu9 ∧ Below W5.heap.size W5 w' ∧ (lsd.getD 0 false = true → vu0 = .int .i64 (i : Int)) ∧ (lsd.getD 1 false = true → RepQ w' vu1 ((i : Int) : Rat)) ∧ (lsd.getD 2 false = true → vu2 = .agg #[.bool p2, .slice a2 n2 c2, .slice y2 m2 d2]) ∧ (lsd.getD 3 false = true → RepQ w' vu3 (((i : Int) : Rat) * ((0 : Rat)))) ∧ (lsd.getD 4 false = true → vu4 = .int .i64 (j : Int)) ∧ (lsd.getD 5 false = true → RepQ w' vu5 ((j : Int) : Rat)) ∧ (lsd.getD 6 false = true → vu6 = .agg #[.bool p3, .slice a3 n3 c3, .slice y3 m3 d3]) ∧ (lsd.getD 7 false = true → RepQ w' vu7 (((j : Int) : Rat) * ((0 : Rat)))) ∧ (lsd.getD 8 false = true → RepQ w' vu8 (((i : Int) : Rat) * ((0 : Rat)) + ((j : Int) : Rat) * ((0 : Rat)))) ∧ (lsd.getD 9 false = true → New3 W5.heap.size w' vu9 (.bool false) (.slice none 0 0) (.slice none 0 0))) (by kernel_rfl) (by decide) (by kernel_rfl) (by rfl) (by kernel_rfl) ?_ ?_ ?_
        · exact ⟨_, _, _, _, _, _, _, _, _, _, by simp only [Act.put, List.setIfInBounds_toArray, List.set_cons_zero, List.set_cons_succ]; rfl, (Below.refl _ _).drew, fun h => absurd h (fun h => mark_none h), fun h => absurd h (fun h => mark_none h), fun h => absurd h (fun h => mark_none h), fun h => absurd h (fun h => mark_none h), fun h => absurd h (fun h => mark_none h), fun h => absurd h (fun h => mark_none h), fun h => absurd h (fun h => mark_none h), fun h => absurd h (fun h => mark_none h), fun h => absurd h (fun h => mark_none h), fun h => absurd h (fun h => mark_none h)⟩
        · rintro lsd au wn iu hszu ⟨vu0, vu1, vu2, vu3, vu4, vu5, vu6, vu7, vu8, vu9, rfl, hbu, fu0, fu1, fu2, fu3, fu4, fu5, fu6, fu7, fu8, fu9⟩ himu hru
          rcases (show iu = 0 ∨ iu = 1 ∨ iu = 2 ∨ iu = 3 ∨ iu = 4 ∨ iu = 5 ∨ iu = 6 ∨ iu = 7 ∨ iu = 8 ∨ iu = 9 by omega) with rfl | rfl | rfl | rfl | rfl | rfl | rfl | rfl | rfl | rfl
          · refine wpOp_shut (by rfl) (fun K hK => ?_)
            simp only [Act.put, List.setIfInBounds_toArray, List.set_cons_zero, List.set_cons_succ]
            go_simp
            exact hK.out _ _ ⟨(.int .i64 (i : Int)), vu1, vu2, vu3, vu4, vu5, vu6, vu7, vu8, vu9, by simp only [Act.put, List.setIfInBounds_toArray, List.set_cons_zero, List.set_cons_succ], hbu, fun _ => rfl, fun h => fu1 (mark_of (by decide) h), fun h => fu2 (mark_of (by decide) h), fun h => fu3 (mark_of (by decide) h), fun h => fu4 (mark_of (by decide) h), fun h => fu5 (mark_of (by decide) h), fun h => fu6 (mark_of (by decide) h), fun h => fu7 (mark_of (by decide) h), fun h => fu8 (mark_of (by decide) h), fun h => fu9 (mark_of (by decide) h)⟩
          · have eu0 := fu0 (dep_of 0 hru rfl (by kernel_rfl))
            replace eu0 := eu0.symm
            subst eu0
            refine wpOp_shut (by rfl) (fun K hK => ?_)
            simp only [Act.put, List.setIfInBounds_toArray, List.set_cons_zero, List.set_cons_succ]
            go_simp
            refine (qof_at (i : Int) _ (by omega) (by omega)).mono ?_
            rintro eu wx ⟨x1, rfl, e1, bu⟩
            go_wp2_with fail
            have hbu2 := hbu.trans (bu.mono hbu.size)
            exact hK.out _ _ ⟨(.int .i64 (i : Int)), _, vu2, vu3, vu4, vu5, vu6, vu7, vu8, vu9, by simp only [Act.put, List.setIfInBounds_toArray, List.set_cons_zero, List.set_cons_succ], hbu2, fun _ => rfl, fun _ => e1, fun h => fu2 (mark_of (by decide) h), fun h => (fu3 (mark_of (by decide) h)).below bu, fun h => fu4 (mark_of (by decide) h), fun h => (fu5 (mark_of (by decide) h)).below bu, fun h => fu6 (mark_of (by decide) h), fun h => (fu7 (mark_of (by decide) h)).below bu, fun h => (fu8 (mark_of (by decide) h)).below bu, fun h => (fu9 (mark_of (by decide) h)).below bu⟩
          · refine wpOp_shut (by rfl) (fun K hK => ?_)
            simp only [Act.put, List.setIfInBounds_toArray, List.set_cons_zero, List.set_cons_succ]
            obtain ⟨VA_0, VA_1, VA_2, VA_3, VA_4, VA_5⟩ := VA.below hbu
            go_simp
            exact hK.out _ _ ⟨vu0, vu1, (.agg #[.bool p2, .slice a2 n2 c2, .slice y2 m2 d2]), vu3, vu4, vu5, vu6, vu7, vu8, vu9, by simp only [Act.put, List.setIfInBounds_toArray, List.set_cons_zero, List.set_cons_succ], hbu, fun h => fu0 (mark_of (by decide) h), fun h => fu1 (mark_of (by decide) h), fun _ => rfl, fun h => fu3 (mark_of (by decide) h), fun h => fu4 (mark_of (by decide) h), fun h => fu5 (mark_of (by decide) h), fun h => fu6 (mark_of (by decide) h), fun h => fu7 (mark_of (by decide) h), fun h => fu8 (mark_of (by decide) h), fun h => fu9 (mark_of (by decide) h)⟩
          · have eu2 := fu2 (dep_of 2 hru rfl (by kernel_rfl))
            replace eu2 := eu2.symm
            subst eu2
            have e1 := fu1 (dep_of 1 hru rfl (by kernel_rfl))
            refine wpOp_shut (by rfl) (fun K hK => ?_)
            simp only [Act.put, List.setIfInBounds_toArray, List.set_cons_zero, List.set_cons_succ]
            have ht := ht.below hbu
            have h2 := h2.below hbu
            go_simp
            refine (qmul_at _ _ _ _ 10 _ (e1.at 10 (iz hi64)) (h2.at 10 s0) (by omega) (by omega) ht).mono ?_
            rintro eu wx ⟨x3, rfl, e3, bu⟩
            go_wp2_with fail
            have hbu2 := hbu.trans (bu.mono hbu.size)
            exact hK.out _ _ ⟨vu0, vu1, (.agg #[.bool p2, .slice a2 n2 c2, .slice y2 m2 d2]), _, vu4, vu5, vu6, vu7, vu8, vu9, by simp only [Act.put, List.setIfInBounds_toArray, List.set_cons_zero, List.set_cons_succ], hbu2, fun h => fu0 (mark_of (by decide) h), fun h => (fu1 (mark_of (by decide) h)).below bu, fun _ => rfl, fun _ => e3, fun h => fu4 (mark_of (by decide) h), fun h => (fu5 (mark_of (by decide) h)).below bu, fun h => fu6 (mark_of (by decide) h), fun h => (fu7 (mark_of (by decide) h)).below bu, fun h => (fu8 (mark_of (by decide) h)).below bu, fun h => (fu9 (mark_of (by decide) h)).below bu⟩
          · refine wpOp_shut (by rfl) (fun K hK => ?_)
            simp only [Act.put, List.setIfInBounds_toArray, List.set_cons_zero, List.set_cons_succ]
            go_simp
            exact hK.out _ _ ⟨vu0, vu1, vu2, vu3, (.int .i64 (j : Int)), vu5, vu6, vu7, vu8, vu9, by simp only [Act.put, List.setIfInBounds_toArray, List.set_cons_zero, List.set_cons_succ], hbu, fun h => fu0 (mark_of (by decide) h), fun h => fu1 (mark_of (by decide) h), fun h => fu2 (mark_of (by decide) h), fun h => fu3 (mark_of (by decide) h), fun _ => rfl, fun h => fu5 (mark_of (by decide) h), fun h => fu6 (mark_of (by decide) h), fun h => fu7 (mark_of (by decide) h), fun h => fu8 (mark_of (by decide) h), fun h => fu9 (mark_of (by decide) h)⟩
          · have eu4 := fu4 (dep_of 4 hru rfl (by kernel_rfl))
            replace eu4 := eu4.symm
            subst eu4
            have e3 := fu3 (dep_of 3 hru rfl (by kernel_rfl))
            refine wpOp_shut (by rfl) (fun K hK => ?_)
            simp only [Act.put, List.setIfInBounds_toArray, List.set_cons_zero, List.set_cons_succ]
            go_simp
            refine (qof_at (j : Int) _ (by omega) (by omega)).mono ?_
            rintro eu wx ⟨x5, rfl, e5, bu⟩
            go_wp2_with fail
            have hbu2 := hbu.trans (bu.mono hbu.size)
            exact hK.out _ _ ⟨vu0, vu1, vu2, vu3, (.int .i64 (j : Int)), _, vu6, vu7, vu8, vu9, by simp only [Act.put, List.setIfInBounds_toArray, List.set_cons_zero, List.set_cons_succ], hbu2, fun h => fu0 (mark_of (by decide) h), fun h => (fu1 (mark_of (by decide) h)).below bu, fun h => fu2 (mark_of (by decide) h), fun h => (fu3 (mark_of (by decide) h)).below bu, fun _ => rfl, fun _ => e5, fun h => fu6 (mark_of (by decide) h), fun h => (fu7 (mark_of (by decide) h)).below bu, fun h => (fu8 (mark_of (by decide) h)).below bu, fun h => (fu9 (mark_of (by decide) h)).below bu⟩
          · refine wpOp_shut (by rfl) (fun K hK => ?_)
            simp only [Act.put, List.setIfInBounds_toArray, List.set_cons_zero, List.set_cons_succ]
            obtain ⟨VB_0, VB_1, VB_2, VB_3, VB_4, VB_5⟩ := VB.below hbu
            go_simp
            exact hK.out _ _ ⟨vu0, vu1, vu2, vu3, vu4, vu5, (.agg #[.bool p3, .slice a3 n3 c3, .slice y3 m3 d3]), vu7, vu8, vu9, by simp only [Act.put, List.setIfInBounds_toArray, List.set_cons_zero, List.set_cons_succ], hbu, fun h => fu0 (mark_of (by decide) h), fun h => fu1 (mark_of (by decide) h), fun h => fu2 (mark_of (by decide) h), fun h => fu3 (mark_of (by decide) h), fun h => fu4 (mark_of (by decide) h), fun h => fu5 (mark_of (by decide) h), fun _ => rfl, fun h => fu7 (mark_of (by decide) h), fun h => fu8 (mark_of (by decide) h), fun h => fu9 (mark_of (by decide) h)⟩
          · have eu6 := fu6 (dep_of 6 hru rfl (by kernel_rfl))
            replace eu6 := eu6.symm
            subst eu6
            have e5 := fu5 (dep_of 5 hru rfl (by kernel_rfl))
            refine wpOp_shut (by rfl) (fun K hK => ?_)
            simp only [Act.put, List.setIfInBounds_toArray, List.set_cons_zero, List.set_cons_succ]
            have ht := ht.below hbu
            have h3 := h3.below hbu
            go_simp
            refine (qmul_at _ _ _ _ 10 _ (e5.at 10 (iz hj64)) (h3.at 10 s1) (by omega) (by omega) ht).mono ?_
            rintro eu wx ⟨x7, rfl, e7, bu⟩
            go_wp2_with fail
            have hbu2 := hbu.trans (bu.mono hbu.size)
            exact hK.out _ _ ⟨vu0, vu1, vu2, vu3, vu4, vu5, (.agg #[.bool p3, .slice a3 n3 c3, .slice y3 m3 d3]), _, vu8, vu9, by simp only [Act.put, List.setIfInBounds_toArray, List.set_cons_zero, List.set_cons_succ], hbu2, fun h => fu0 (mark_of (by decide) h), fun h => (fu1 (mark_of (by decide) h)).below bu, fun h => fu2 (mark_of (by decide) h), fun h => (fu3 (mark_of (by decide) h)).below bu, fun h => fu4 (mark_of (by decide) h), fun h => (fu5 (mark_of (by decide) h)).below bu, fun _ => rfl, fun _ => e7, fun h => (fu8 (mark_of (by decide) h)).below bu, fun h => (fu9 (mark_of (by decide) h)).below bu⟩
          · have e3 := fu3 (dep_of 3 hru rfl (by kernel_rfl))
            have e7 := fu7 (dep_of 7 hru rfl (by kernel_rfl))
            refine wpOp_shut (by rfl) (fun K hK => ?_)
            simp only [Act.put, List.setIfInBounds_toArray, List.set_cons_zero, List.set_cons_succ]
            have ht := ht.below hbu
            go_simp
            refine (qadd_at _ _ _ _ 20 _ (e3.at 20 (qsz_mul _ _ (iz hi64) s0)) (e7.at 20 (qsz_mul _ _ (iz hj64) s1)) (by omega) (by omega) ht).mono ?_
            rintro eu wx ⟨x8, rfl, e8, bu⟩
            go_wp2_with fail
            have hbu2 := hbu.trans (bu.mono hbu.size)
            exact hK.out _ _ ⟨vu0, vu1, vu2, vu3, vu4, vu5, vu6, vu7, _, vu9, by simp only [Act.put, List.setIfInBounds_toArray, List.set_cons_zero, List.set_cons_succ], hbu2, fun h => fu0 (mark_of (by decide) h), fun h => (fu1 (mark_of (by decide) h)).below bu, fun h => fu2 (mark_of (by decide) h), fun h => (fu3 (mark_of (by decide) h)).below bu, fun h => fu4 (mark_of (by decide) h), fun h => (fu5 (mark_of (by decide) h)).below bu, fun h => fu6 (mark_of (by decide) h), fun h => (fu7 (mark_of (by decide) h)).below bu, fun _ => e8, fun h => (fu9 (mark_of (by decide) h)).below bu⟩
          · refine wpOp_shut (by rfl) (fun K hK => ?_)
            simp only [Act.put, List.setIfInBounds_toArray, List.set_cons_zero, List.set_cons_succ]
            go_simp
            obtain ⟨wx, hWx, hSx, bu, VXu⟩ := V3.lay wn 35 (.bool false) (.slice none 0 0) (.slice none 0 0)
            rw [← hWx]
            have hbu2 := hbu.trans (bu.mono hbu.size)
            exact hK.out _ _ ⟨vu0, vu1, vu2, vu3, vu4, vu5, vu6, vu7, vu8, _, by simp only [Act.put, List.setIfInBounds_toArray, List.set_cons_zero, List.set_cons_succ], hbu2, fun h => fu0 (mark_of (by decide) h), fun h => (fu1 (mark_of (by decide) h)).below bu, fun h => fu2 (mark_of (by decide) h), fun h => (fu3 (mark_of (by decide) h)).below bu, fun h => fu4 (mark_of (by decide) h), fun h => (fu5 (mark_of (by decide) h)).below bu, fun h => fu6 (mark_of (by decide) h), fun h => (fu7 (mark_of (by decide) h)).below bu, fun h => (fu8 (mark_of (by decide) h)).below bu, fun _ => ⟨_, rfl, hbu.size, VXu⟩⟩
        rintro au Wu6 ⟨vu0, vu1, vu2, vu3, vu4, vu5, vu6, vu7, vu8, vu9, rfl, hbu, fu0, fu1, fu2, fu3, fu4, fu5, fu6, fu7, fu8, fu9⟩
        have eu0 := (fu0 rfl).symm
        subst eu0
        have e1 := fu1 rfl
        have eu2 := (fu2 rfl).symm
        subst eu2
        have e3 := fu3 rfl
        have eu4 := (fu4 rfl).symm
        subst eu4
        have e5 := fu5 rfl
        have eu6 := (fu6 rfl).symm
        subst eu6
        have e7 := fu7 rfl
        have e8 := fu8 rfl
        obtain ⟨RVS, rfl, hRVS, VS⟩ := fu9 rfl
        clear fu0 fu1 fu2 fu3 fu4 fu5 fu6 fu7 fu8 fu9
        have hlVA : R1 < W5.heap.size := VA.lt
        have hlVB : R1 + 1 < W5.heap.size := VB.lt
        have hlVX : R4 < W5.heap.size := VX.lt
        have hlVY : R5 < W5.heap.size := VY.lt
        rw [HS.out] at e8
        obtain ⟨p6, a6, n6, c6, y6, m6, d6, rfl⟩ := e8.open
        simp only [Act.put, List.setIfInBounds_toArray, List.set_cons_zero, List.set_cons_succ]
        refine wpAnyH_ready (rs := [10]) (by kernel_rfl) (by simp) ?_
        refine AllReadyH.cons (by rfl) (fun K hK => ?_) AllReadyH.nil
        have hKp := VS.keepJ (.bool p6) (.slice a6 n6 c6) (.slice y6 m6 d6)
        have VS_n := VS.same (.bool p6) (.slice a6 n6 c6) (.slice y6 m6 d6)
        have e1_n := e1.keep hKp
        have e3_n := e3.keep hKp
        have e5_n := e5.keep hKp
        have e7_n := e7.keep hKp
        have e8_n := e8.keep hKp
        have hbu_n := below_store3 (R := RVS) hbu (by omega) (.bool p6) (.slice a6 n6 c6) (.slice y6 m6 d6)
        clear hKp
        obtain ⟨VS_0, VS_1, VS_2, VS_3, VS_4, VS_5⟩ := id VS
        go_simp
        clear VS_0 VS_1 VS_2 VS_3 VS_4 VS_5
        clear hbu e1 e3 e5 e7 e8 VS
        generalize ((Wu6.setCell ⟨RVS, 0, none⟩ (.bool p6)).setCell ⟨RVS, 1, none⟩ (.slice a6 n6 c6)).setCell ⟨RVS, 2, none⟩ (.slice y6 m6 d6) = W7 at *
        have hbu := hbu_n
        have e1 := e1_n
        have e3 := e3_n
        have e5 := e5_n
        have e7 := e7_n
        have e8 := e8_n
        have VS := VS_n
        clear hbu_n e1_n e3_n e5_n e7_n e8_n VS_n
        refine hK.out _ _ trivial (fun _ => ?_)
        clear hK K
        simp only [Act.put, List.setIfInBounds_toArray, List.set_cons_zero, List.set_cons_succ]
        replace ht := ht.below hbu
        replace h2 := h2.below hbu
        replace h3 := h3.below hbu
        replace h4 := h4.below hbu
        replace h5 := h5.below hbu
        replace VA := VA.below hbu
        replace VB := VB.below hbu
        replace VX := VX.below hbu
        replace VY := VY.below hbu
        replace BB := BB.trans (hbu.mono BB.size)
        clear hbu
        refine wpAnyH_done (by kernel_rfl) ?_ _
        clear e1 e3 e5 e7
        go_wp2
        have hDr : Below W7.heap.size W7 W7.drew := (Below.refl _ _).drew
        replace ht := ht.below hDr
        replace h2 := h2.below hDr
        replace h3 := h3.below hDr
        replace h4 := h4.below hDr
        replace h5 := h5.below hDr
        replace e8 := e8.below hDr
        replace VA := VA.below hDr
        replace VB := VB.below hDr
        replace VX := VX.below hDr
        replace VY := VY.below hDr
        replace VS := VS.below hDr
        replace BB := BB.trans (hDr.mono BB.size)
        clear hDr
        refine wp_region_held_drew (S := (fun w' => w'.cell? ⟨R1, 0, none⟩ = some (.bool p2) ∧ w'.cell? ⟨R1, 1, none⟩ = some (.slice a2 n2 c2) ∧ w'.cell? ⟨R1, 2, none⟩ = some (.slice y2 m2 d2) ∧ w'.cell? ⟨R1 + 1, 0, none⟩ = some (.bool p3) ∧ w'.cell? ⟨R1 + 1, 1, none⟩ = some (.slice a3 n3 c3) ∧ w'.cell? ⟨R1 + 1, 2, none⟩ = some (.slice y3 m3 d3) ∧ w'.cell? ⟨R4, 0, none⟩ = some (.bool p4) ∧ w'.cell? ⟨R4, 1, none⟩ = some (.slice a4 n4 c4) ∧ w'.cell? ⟨R4, 2, none⟩ = some (.slice y4 m4 d4) ∧ w'.cell? ⟨R5, 0, none⟩ = some (.bool p5) ∧ w'.cell? ⟨R5, 1, none⟩ = some (.slice a5 n5 c5) ∧ w'.cell? ⟨R5, 2, none⟩ = some (.slice y5 m5 d5) ∧ w'.cell? ⟨RVS, 0, none⟩ = some (.bool p6) ∧ w'.cell? ⟨RVS, 1, none⟩ = some (.slice a6 n6 c6) ∧ w'.cell? ⟨RVS, 2, none⟩ = some (.slice y6 m6 d6))) (by kernel_rfl) ?_ (fun hHeld => ?_)
        · exact ⟨VA.1, VA.2.1, VA.2.2.1, VB.1, VB.2.1, VB.2.2.1, VX.1, VX.2.1, VX.2.2.1, VY.1, VY.2.1, VY.2.2.1, VS.1, VS.2.1, VS.2.2.1⟩
        generalize W7.drew = W8 at *
        refine wpAnyH_take (i := 0) (v := ?_) (by simp only [List.getElem?_toArray, List.getElem?_cons_succ, List.getElem?_cons_zero]; rfl) (by kernel_rfl) (by kernel_rfl) (by kernel_rfl) (by exact fun _ _ _ h => h) (Or.inl ⟨by rfl, ?_⟩) (by assumption) ?_
        rotate_left
        · (intro w hSw; (try dsimp only at hSw); go_simp; (try with_reducible rfl))
        (try simp only [Act.put, List.setIfInBounds_toArray, List.set_cons_zero, List.set_cons_succ])
        refine wpAnyH_take (i := 1) (v := ?_) (by simp only [List.getElem?_toArray, List.getElem?_cons_succ, List.getElem?_cons_zero]; rfl) (by kernel_rfl) (by kernel_rfl) (by kernel_rfl) (by exact fun _ _ _ h => h) (Or.inl ⟨by rfl, ?_⟩) (by assumption) ?_
        rotate_left
        · (intro w hSw; (try dsimp only at hSw); go_simp; (try with_reducible rfl))
        (try simp only [Act.put, List.setIfInBounds_toArray, List.set_cons_zero, List.set_cons_succ])
        refine wpAnyH_take (i := 2) (v := ?_) (by simp only [List.getElem?_toArray, List.getElem?_cons_succ, List.getElem?_cons_zero]; rfl) (by kernel_rfl) (by kernel_rfl) (by kernel_rfl) (by exact fun _ _ _ h => h) (Or.inl ⟨by rfl, ?_⟩) (by assumption) ?_
        rotate_left
        · (intro w hSw; (try dsimp only at hSw); go_simp; (try with_reducible rfl))
        (try simp only [Act.put, List.setIfInBounds_toArray, List.set_cons_zero, List.set_cons_succ])
        refine wpAnyH_take (i := 3) (v := ?_) (by simp only [List.getElem?_toArray, List.getElem?_cons_succ, List.getElem?_cons_zero]; rfl) (by kernel_rfl) (by kernel_rfl) (by kernel_rfl) (by exact fun _ _ _ h => h) (Or.inl ⟨by rfl, ?_⟩) (by assumption) ?_
        rotate_left
        · (intro w hSw; (try dsimp only at hSw); go_simp; (try with_reducible rfl))
        (try simp only [Act.put, List.setIfInBounds_toArray, List.set_cons_zero, List.set_cons_succ])
        refine wpAnyH_take (i := 4) (v := ?_) (by simp only [List.getElem?_toArray, List.getElem?_cons_succ, List.getElem?_cons_zero]; rfl) (by kernel_rfl) (by kernel_rfl) (by kernel_rfl) (by exact fun _ _ _ h => h) (Or.inl ⟨by rfl, ?_⟩) (by assumption) ?_
        rotate_left
        · (intro w hSw; (try dsimp only at hSw); go_simp; (try with_reducible rfl))
        (try simp only [Act.put, List.setIfInBounds_toArray, List.set_cons_zero, List.set_cons_succ])
        refine wpAnyH_ready (rs := [5]) (by kernel_rfl) (by simp) ?_
        refine AllReadyH.cons (by simp only [List.getElem?_toArray, List.getElem?_cons_succ, List.getElem?_cons_zero]; rfl) (fun K hK => ?_) AllReadyH.nil
        go_simp
        refine (lis14_at _ _ _ _ _ h2 h4 (Nat.le_trans s0 (by omega)) (Nat.le_trans s0 (by omega)) rfl ht).mono ?_
        rintro e w6 ⟨rfl, b6⟩
        go_wp2_with fail
        replace ht := ht.below b6
        replace h2 := h2.below b6
        replace h3 := h3.below b6
        replace h4 := h4.below b6
        replace h5 := h5.below b6
        replace e8 := e8.below b6
        replace VA := VA.below b6
        replace VB := VB.below b6
        replace VX := VX.below b6
        replace VY := VY.below b6
        replace VS := VS.below b6
        replace BB := BB.trans (b6.mono BB.size)
        clear b6
        refine hK.out _ _ ?_ (fun hH1 => ?_)
        · exact ⟨VA.1, VA.2.1, VA.2.2.1, VB.1, VB.2.1, VB.2.2.1, VX.1, VX.2.1, VX.2.2.1, VY.1, VY.2.1, VY.2.2.1, VS.1, VS.2.1, VS.2.2.1⟩
        clear hK K hHeld
        (try simp only [Act.put, List.setIfInBounds_toArray, List.set_cons_zero, List.set_cons_succ])
        refine wpAnyH_take (i := 6) (v := ?_) (by simp only [List.getElem?_toArray, List.getElem?_cons_succ, List.getElem?_cons_zero]; rfl) (by kernel_rfl) (by kernel_rfl) (by kernel_rfl) (by exact fun _ _ _ h => h) (Or.inl ⟨by rfl, ?_⟩) (by assumption) ?_
        rotate_left
        · (intro w hSw; (try dsimp only at hSw); go_simp; (try with_reducible rfl))
        (try simp only [Act.put, List.setIfInBounds_toArray, List.set_cons_zero, List.set_cons_succ])
        refine wpAnyH_take (i := 7) (v := ?_) (by simp only [List.getElem?_toArray, List.getElem?_cons_succ, List.getElem?_cons_zero]; rfl) (by kernel_rfl) (by kernel_rfl) (by kernel_rfl) (by exact fun _ _ _ h => h) (Or.inl ⟨by rfl, ?_⟩) (by assumption) ?_
        rotate_left
        · (intro w hSw; (try dsimp only at hSw); go_simp; (try with_reducible rfl))
        (try simp only [Act.put, List.setIfInBounds_toArray, List.set_cons_zero, List.set_cons_succ])
        refine wpAnyH_take (i := 8) (v := ?_) (by simp only [List.getElem?_toArray, List.getElem?_cons_succ, List.getElem?_cons_zero]; rfl) (by kernel_rfl) (by kernel_rfl) (by kernel_rfl) (by exact fun _ _ _ h => h) (Or.inl ⟨by rfl, ?_⟩) (by assumption) ?_
        rotate_left
        · (intro w hSw; (try dsimp only at hSw); go_simp; (try with_reducible rfl))
        (try simp only [Act.put, List.setIfInBounds_toArray, List.set_cons_zero, List.set_cons_succ])
        refine wpAnyH_take (i := 9) (v := ?_) (by simp only [List.getElem?_toArray, List.getElem?_cons_succ, List.getElem?_cons_zero]; rfl) (by kernel_rfl) (by kernel_rfl) (by kernel_rfl) (by exact fun _ _ _ h => h) (Or.inl ⟨by rfl, ?_⟩) (by assumption) ?_
        rotate_left
        · (intro w hSw; (try dsimp only at hSw); go_simp; (try with_reducible rfl))
        (try simp only [Act.put, List.setIfInBounds_toArray, List.set_cons_zero, List.set_cons_succ])
        refine wpAnyH_ready (rs := [10]) (by kernel_rfl) (by simp) ?_
        refine AllReadyH.cons (by simp only [List.getElem?_toArray, List.getElem?_cons_succ, List.getElem?_cons_zero]; rfl) (fun K hK => ?_) AllReadyH.nil
        go_simp
        refine (lis14_at _ _ _ _ _ h3 h5 (Nat.le_trans s1 (by omega)) (Nat.le_trans s1 (by omega)) rfl ht).mono ?_
        rintro e w7 ⟨rfl, b7⟩
        go_wp2_with fail
        replace ht := ht.below b7
        replace h2 := h2.below b7
        replace h3 := h3.below b7
        replace h4 := h4.below b7
        replace h5 := h5.below b7
        replace e8 := e8.below b7
        replace VA := VA.below b7
        replace VB := VB.below b7
        replace VX := VX.below b7
        replace VY := VY.below b7
        replace VS := VS.below b7
        replace BB := BB.trans (b7.mono BB.size)
        clear b7
        refine hK.out _ _ ?_ (fun hH2 => ?_)
        · exact ⟨VA.1, VA.2.1, VA.2.2.1, VB.1, VB.2.1, VB.2.2.1, VX.1, VX.2.1, VX.2.2.1, VY.1, VY.2.1, VY.2.2.1, VS.1, VS.2.1, VS.2.2.1⟩
        clear hK K hH1
        (try simp only [Act.put, List.setIfInBounds_toArray, List.set_cons_zero, List.set_cons_succ])
        refine wpAnyH_take (i := 11) (v := ?_) (by simp only [List.getElem?_toArray, List.getElem?_cons_succ, List.getElem?_cons_zero]; rfl) (by kernel_rfl) (by kernel_rfl) (by kernel_rfl) (by exact fun _ _ _ h => h) (Or.inl ⟨by rfl, ?_⟩) (by assumption) ?_
        rotate_left
        · (intro w hSw; (try dsimp only at hSw); go_simp; (try with_reducible rfl))
        (try simp only [Act.put, List.setIfInBounds_toArray, List.set_cons_zero, List.set_cons_succ])
        refine wpAnyH_take (i := 12) (v := ?_) (by simp only [List.getElem?_toArray, List.getElem?_cons_succ, List.getElem?_cons_zero]; rfl) (by kernel_rfl) (by kernel_rfl) (by kernel_rfl) (by exact fun _ _ _ h => h) (Or.inl ⟨by rfl, ?_⟩) (by assumption) ?_
        rotate_left
        · (intro w hSw; (try dsimp only at hSw); go_simp; (try with_reducible rfl))
        (try simp only [Act.put, List.setIfInBounds_toArray, List.set_cons_zero, List.set_cons_succ])
        refine wpAnyH_take (i := 13) (v := ?_) (by simp only [List.getElem?_toArray, List.getElem?_cons_succ, List.getElem?_cons_zero]; rfl) (by kernel_rfl) (by kernel_rfl) (by kernel_rfl) (by exact fun _ _ _ h => h) (Or.inl ⟨by rfl, ?_⟩) (by assumption) ?_
        rotate_left
        · (intro w hSw; (try dsimp only at hSw); go_simp; (try with_reducible rfl))
        (try simp only [Act.put, List.setIfInBounds_toArray, List.set_cons_zero, List.set_cons_succ])
        refine wpAnyH_take (i := 14) (v := ?_) (by simp only [List.getElem?_toArray, List.getElem?_cons_succ, List.getElem?_cons_zero]; rfl) (by kernel_rfl) (by kernel_rfl) (by kernel_rfl) (by exact fun _ _ _ h => h) (Or.inl ⟨by rfl, ?_⟩) (by assumption) ?_
        rotate_left
        · (intro w hSw; (try dsimp only at hSw); go_simp; (try with_reducible rfl))
        (try simp only [Act.put, List.setIfInBounds_toArray, List.set_cons_zero, List.set_cons_succ])
        refine wpAnyH_ready (rs := [15]) (by kernel_rfl) (by simp) ?_
        refine AllReadyH.cons (by simp only [List.getElem?_toArray, List.getElem?_cons_succ, List.getElem?_cons_zero]; rfl) (fun K hK => ?_) AllReadyH.nil
        go_simp
        refine (qof_at (0) _ (by omega) (by omega)).mono ?_
        rintro e w8 ⟨z1, rfl, z1_, b8⟩
        go_wp2_with fail
        replace ht := ht.below b8
        replace h2 := h2.below b8
        replace h3 := h3.below b8
        replace h4 := h4.below b8
        replace h5 := h5.below b8
        replace e8 := e8.below b8
        replace VA := VA.below b8
        replace VB := VB.below b8
        replace VX := VX.below b8
        replace VY := VY.below b8
        replace VS := VS.below b8
        replace BB := BB.trans (b8.mono BB.size)
        clear b8
        refine hK.out _ _ ?_ (fun hH3 => ?_)
        · exact ⟨VA.1, VA.2.1, VA.2.2.1, VB.1, VB.2.1, VB.2.2.1, VX.1, VX.2.1, VX.2.2.1, VY.1, VY.2.1, VY.2.2.1, VS.1, VS.2.1, VS.2.2.1⟩
        clear hK K hH2
        (try simp only [Act.put, List.setIfInBounds_toArray, List.set_cons_zero, List.set_cons_succ])
        refine wpAnyH_ready (rs := [16]) (by kernel_rfl) (by simp) ?_
        refine AllReadyH.cons (by simp only [List.getElem?_toArray, List.getElem?_cons_succ, List.getElem?_cons_zero]; rfl) (fun K hK => ?_) AllReadyH.nil
        go_simp
        refine (qsame_at _ _ _ _ 10 _ (e8.at 10 want_sz1) (z1_.at 10 want_sz1) (by omega) (by omega)).mono ?_
        rintro e w9 ⟨rfl, b9⟩
        rw [decide_eq_true rfl]
        go_wp2_with fail
        replace ht := ht.below b9
        replace h2 := h2.below b9
        replace h3 := h3.below b9
        replace h4 := h4.below b9
        replace h5 := h5.below b9
        replace e8 := e8.below b9
        replace z1_ := z1_.below b9
        replace VA := VA.below b9
        replace VB := VB.below b9
        replace VX := VX.below b9
        replace VY := VY.below b9
        replace VS := VS.below b9
        replace BB := BB.trans (b9.mono BB.size)
        clear b9
        refine hK.out _ _ ?_ (fun hH4 => ?_)
        · exact ⟨VA.1, VA.2.1, VA.2.2.1, VB.1, VB.2.1, VB.2.2.1, VX.1, VX.2.1, VX.2.2.1, VY.1, VY.2.1, VY.2.2.1, VS.1, VS.2.1, VS.2.2.1⟩
        clear hK K hH3
        (try simp only [Act.put, List.setIfInBounds_toArray, List.set_cons_zero, List.set_cons_succ])
        refine wpAnyH_take (i := 17) (v := ?_) (by simp only [List.getElem?_toArray, List.getElem?_cons_succ, List.getElem?_cons_zero]; rfl) (by kernel_rfl) (by kernel_rfl) (by kernel_rfl) (by exact fun _ _ _ h => h) (Or.inl ⟨by rfl, ?_⟩) (by assumption) ?_
        rotate_left
        · (intro w hSw; (try dsimp only at hSw); go_simp; (try with_reducible rfl))
        (try simp only [Act.put, List.setIfInBounds_toArray, List.set_cons_zero, List.set_cons_succ])
        refine wpAnyH_take (i := 18) (v := ?_) (by simp only [List.getElem?_toArray, List.getElem?_cons_succ, List.getElem?_cons_zero]; rfl) (by kernel_rfl) (by kernel_rfl) (by kernel_rfl) (by exact fun _ _ _ h => h) (Or.inl ⟨by rfl, ?_⟩) (by assumption) ?_
        rotate_left
        · (intro w hSw; (try dsimp only at hSw); go_simp; (try with_reducible rfl))
        (try simp only [Act.put, List.setIfInBounds_toArray, List.set_cons_zero, List.set_cons_succ])
        refine wpAnyH_ready (rs := [19]) (by kernel_rfl) (by simp) ?_
        refine AllReadyH.cons (by simp only [List.getElem?_toArray, List.getElem?_cons_succ, List.getElem?_cons_zero]; rfl) (fun K hK => ?_) AllReadyH.nil
        go_simp
        refine (awake14_at _ ht).mono ?_
        rintro e w10 ⟨rfl, b10⟩
        go_wp2_with fail
        replace ht := ht.below b10
        replace h2 := h2.below b10
        replace h3 := h3.below b10
        replace h4 := h4.below b10
        replace h5 := h5.below b10
        replace e8 := e8.below b10
        replace z1_ := z1_.below b10
        replace VA := VA.below b10
        replace VB := VB.below b10
        replace VX := VX.below b10
        replace VY := VY.below b10
        replace VS := VS.below b10
        replace BB := BB.trans (b10.mono BB.size)
        clear b10
        refine hK.out _ _ ?_ (fun hH5 => ?_)
        · exact ⟨VA.1, VA.2.1, VA.2.2.1, VB.1, VB.2.1, VB.2.2.1, VX.1, VX.2.1, VX.2.2.1, VY.1, VY.2.1, VY.2.2.1, VS.1, VS.2.1, VS.2.2.1⟩
        clear hK K hH4
        (try simp only [Act.put, List.setIfInBounds_toArray, List.set_cons_zero, List.set_cons_succ])
        refine wpAnyH_take (i := 20) (v := ?_) (by simp only [List.getElem?_toArray, List.getElem?_cons_succ, List.getElem?_cons_zero]; rfl) (by kernel_rfl) (by kernel_rfl) (by kernel_rfl) (by exact fun _ _ _ h => h) (Or.inl ⟨by rfl, ?_⟩) (by assumption) ?_
        rotate_left
        · (intro w hSw; (try dsimp only at hSw); go_simp; (try with_reducible rfl))
        (try simp only [Act.put, List.setIfInBounds_toArray, List.set_cons_zero, List.set_cons_succ])
        refine wpAnyH_take (i := 21) (v := ?_) (by simp only [List.getElem?_toArray, List.getElem?_cons_succ, List.getElem?_cons_zero]; rfl) (by kernel_rfl) (by kernel_rfl) (by kernel_rfl) (by exact fun _ _ _ h => h) (Or.inl ⟨by rfl, ?_⟩) (by assumption) ?_
        rotate_left
        · (intro w hSw; (try dsimp only at hSw); go_simp; (try with_reducible rfl))
        (try simp only [Act.put, List.setIfInBounds_toArray, List.set_cons_zero, List.set_cons_succ])
        refine wpAnyH_done (by kernel_rfl) ?_ _
        clear hH5
        go_wp2
        go_ret
        exact ⟨rfl, BB⟩
  · by_cases h0 : u < 0
    · have HC : Hid (u < 0 ∨ 64 < u ∨ v < 0 ∨ 64 - u < v) := by show _ ∨ _; omega
      have g0 : u < 0 := h0
      have q0 : decide (u < 0) = true := decide_eq_true g0
      clear hc hu2 hv2 h0
      have BB : Below w.heap.size w w := Below.refl _ _
      go_enter Tryz.func6, Tryz.ntmps6
      go_wp2_with fail
      refine (new_at _).mono ?_
      rintro e w1 ⟨rfl, hsz, HN, b1⟩
      replace ht := ht.below b1
      replace BB := BB.trans (b1.mono BB.size)
      clear b1
      obtain ⟨b, hb⟩ : ∃ b, b = w.heap.size := ⟨_, rfl⟩
      have hbw : w.heap.size ≤ b := by omega
      rw [← hb] at HN
      have HT : WT w1 b false := HN
      rw [← hb]
      clear HN hb hsz
      go_wp2_with fail
      refine (tneed_no b u v _ HC.out).mono ?_
      rintro e w3 ⟨rfl, b3⟩
      replace ht := ht.below b3
      replace BB := BB.trans (b3.mono BB.size)
      clear b3 HT
      obtain ⟨W8, hW8, hS8, hL8, VA⟩ := V3.lay w3 35 (.bool false) (.slice none 0 0) (.slice none 0 0)
      obtain ⟨W9, hW9, hS9, hL9, VB⟩ := V3.lay W8 35 (.bool false) (.slice none 0 0) (.slice none 0 0)
      rw [hS8] at VB hS9
      replace VA := VA.below hL9
      replace ht := (ht.below hL8).below hL9
      replace BB := (BB.trans (hL8.mono BB.size)).trans (hL9.mono (by have := BB.size; omega))
      obtain ⟨x0, x1, x2, x3, x4, x5⟩ := id VA
      obtain ⟨y0, y1, y2, y3, y4, y5⟩ := id VB
      rw [hW9, hW8] at x0 x1 x2 x3 x4 x5 y0 y1 y2 y3 y4 y5
      clear hL8 hL9
      go_wp2_with fail
      rw [← hW8, ← hW9]
      clear hW8 hW9 x0 x1 x2 x3 x4 x5 y0 y1 y2 y3 y4 y5 VA VB
      refine (awake14_at _ ht).mono ?_
      rintro e w4 ⟨rfl, b4⟩
      replace ht := ht.below b4
      replace BB := BB.trans (b4.mono BB.size)
      clear b4
      go_wp2
      go_ret
      exact ⟨rfl, BB⟩
    by_cases h1 : v < 0
    · have HC : Hid (u < 0 ∨ 64 < u ∨ v < 0 ∨ 64 - u < v) := by show _ ∨ _; omega
      have g0 : ¬ u < 0 := h0
      have q0 : decide (u < 0) = false := decide_eq_false g0
      have g1 : v < 0 := h1
      have q1 : decide (v < 0) = true := decide_eq_true g1
      clear hc hu2 hv2 h0 h1
      have BB : Below w.heap.size w w := Below.refl _ _
      go_enter Tryz.func6, Tryz.ntmps6
      go_wp2_with fail
      refine (new_at _).mono ?_
      rintro e w1 ⟨rfl, hsz, HN, b1⟩
      replace ht := ht.below b1
      replace BB := BB.trans (b1.mono BB.size)
      clear b1
      obtain ⟨b, hb⟩ : ∃ b, b = w.heap.size := ⟨_, rfl⟩
      have hbw : w.heap.size ≤ b := by omega
      rw [← hb] at HN
      have HT : WT w1 b false := HN
      rw [← hb]
      clear HN hb hsz
      go_wp2_with fail
      refine (tneed_no b u v _ HC.out).mono ?_
      rintro e w3 ⟨rfl, b3⟩
      replace ht := ht.below b3
      replace BB := BB.trans (b3.mono BB.size)
      clear b3 HT
      obtain ⟨W8, hW8, hS8, hL8, VA⟩ := V3.lay w3 35 (.bool false) (.slice none 0 0) (.slice none 0 0)
      obtain ⟨W9, hW9, hS9, hL9, VB⟩ := V3.lay W8 35 (.bool false) (.slice none 0 0) (.slice none 0 0)
      rw [hS8] at VB hS9
      replace VA := VA.below hL9
      replace ht := (ht.below hL8).below hL9
      replace BB := (BB.trans (hL8.mono BB.size)).trans (hL9.mono (by have := BB.size; omega))
      obtain ⟨x0, x1, x2, x3, x4, x5⟩ := id VA
      obtain ⟨y0, y1, y2, y3, y4, y5⟩ := id VB
      rw [hW9, hW8] at x0 x1 x2 x3 x4 x5 y0 y1 y2 y3 y4 y5
      clear hL8 hL9
      go_wp2_with fail
      rw [← hW8, ← hW9]
      clear hW8 hW9 x0 x1 x2 x3 x4 x5 y0 y1 y2 y3 y4 y5 VA VB
      refine (awake14_at _ ht).mono ?_
      rintro e w4 ⟨rfl, b4⟩
      replace ht := ht.below b4
      replace BB := BB.trans (b4.mono BB.size)
      clear b4
      go_wp2
      go_ret
      exact ⟨rfl, BB⟩
    by_cases h2 : 64 < u
    · have HC : Hid (u < 0 ∨ 64 < u ∨ v < 0 ∨ 64 - u < v) := by show _ ∨ _; omega
      have g0 : ¬ u < 0 := h0
      have q0 : decide (u < 0) = false := decide_eq_false g0
      have g1 : ¬ v < 0 := h1
      have q1 : decide (v < 0) = false := decide_eq_false g1
      have g2 : 64 < u := h2
      have q2 : decide (64 < u) = true := decide_eq_true g2
      clear hc hu2 hv2 h0 h1 h2
      have BB : Below w.heap.size w w := Below.refl _ _
      go_enter Tryz.func6, Tryz.ntmps6
      go_wp2_with fail
      refine (new_at _).mono ?_
      rintro e w1 ⟨rfl, hsz, HN, b1⟩
      replace ht := ht.below b1
      replace BB := BB.trans (b1.mono BB.size)
      clear b1
      obtain ⟨b, hb⟩ : ∃ b, b = w.heap.size := ⟨_, rfl⟩
      have hbw : w.heap.size ≤ b := by omega
      rw [← hb] at HN
      have HT : WT w1 b false := HN
      rw [← hb]
      clear HN hb hsz
      go_wp2_with fail
      refine (tneed_no b u v _ HC.out).mono ?_
      rintro e w3 ⟨rfl, b3⟩
      replace ht := ht.below b3
      replace BB := BB.trans (b3.mono BB.size)
      clear b3 HT
      obtain ⟨W8, hW8, hS8, hL8, VA⟩ := V3.lay w3 35 (.bool false) (.slice none 0 0) (.slice none 0 0)
      obtain ⟨W9, hW9, hS9, hL9, VB⟩ := V3.lay W8 35 (.bool false) (.slice none 0 0) (.slice none 0 0)
      rw [hS8] at VB hS9
      replace VA := VA.below hL9
      replace ht := (ht.below hL8).below hL9
      replace BB := (BB.trans (hL8.mono BB.size)).trans (hL9.mono (by have := BB.size; omega))
      obtain ⟨x0, x1, x2, x3, x4, x5⟩ := id VA
      obtain ⟨y0, y1, y2, y3, y4, y5⟩ := id VB
      rw [hW9, hW8] at x0 x1 x2 x3 x4 x5 y0 y1 y2 y3 y4 y5
      clear hL8 hL9
      go_wp2_with fail
      rw [← hW8, ← hW9]
      clear hW8 hW9 x0 x1 x2 x3 x4 x5 y0 y1 y2 y3 y4 y5 VA VB
      refine (awake14_at _ ht).mono ?_
      rintro e w4 ⟨rfl, b4⟩
      replace ht := ht.below b4
      replace BB := BB.trans (b4.mono BB.size)
      clear b4
      go_wp2
      go_ret
      exact ⟨rfl, BB⟩
    have HC : Hid (u < 0 ∨ 64 < u ∨ v < 0 ∨ 64 - u < v) := by show _ ∨ _; omega
    have g0 : ¬ u < 0 := h0
    have q0 : decide (u < 0) = false := decide_eq_false g0
    have g1 : ¬ v < 0 := h1
    have q1 : decide (v < 0) = false := decide_eq_false g1
    have g2 : ¬ 64 < u := h2
    have q2 : decide (64 < u) = false := decide_eq_false g2
    have wx : IntKind.i64.wrap (64 - u) = 64 - u := by rw [IntKind.wrap_i64]; omega
    have g3 : 64 - u < v := by omega
    have q3 : decide (64 - u < v) = true := decide_eq_true g3
    clear hc hu2 hv2 h0 h1 h2
    have BB : Below w.heap.size w w := Below.refl _ _
    go_enter Tryz.func6, Tryz.ntmps6
    go_wp2_with fail
    refine (new_at _).mono ?_
    rintro e w1 ⟨rfl, hsz, HN, b1⟩
    replace ht := ht.below b1
    replace BB := BB.trans (b1.mono BB.size)
    clear b1
    obtain ⟨b, hb⟩ : ∃ b, b = w.heap.size := ⟨_, rfl⟩
    have hbw : w.heap.size ≤ b := by omega
    rw [← hb] at HN
    have HT : WT w1 b false := HN
    rw [← hb]
    clear HN hb hsz
    go_wp2_with fail
    refine (tneed_no b u v _ HC.out).mono ?_
    rintro e w3 ⟨rfl, b3⟩
    replace ht := ht.below b3
    replace BB := BB.trans (b3.mono BB.size)
    clear b3 HT
    obtain ⟨W8, hW8, hS8, hL8, VA⟩ := V3.lay w3 35 (.bool false) (.slice none 0 0) (.slice none 0 0)
    obtain ⟨W9, hW9, hS9, hL9, VB⟩ := V3.lay W8 35 (.bool false) (.slice none 0 0) (.slice none 0 0)
    rw [hS8] at VB hS9
    replace VA := VA.below hL9
    replace ht := (ht.below hL8).below hL9
    replace BB := (BB.trans (hL8.mono BB.size)).trans (hL9.mono (by have := BB.size; omega))
    obtain ⟨x0, x1, x2, x3, x4, x5⟩ := id VA
    obtain ⟨y0, y1, y2, y3, y4, y5⟩ := id VB
    rw [hW9, hW8] at x0 x1 x2 x3 x4 x5 y0 y1 y2 y3 y4 y5
    clear hL8 hL9
    go_wp2_with fail
    rw [← hW8, ← hW9]
    clear hW8 hW9 x0 x1 x2 x3 x4 x5 y0 y1 y2 y3 y4 y5 VA VB
    refine (awake14_at _ ht).mono ?_
    rintro e w4 ⟨rfl, b4⟩
    replace ht := ht.below b4
    replace BB := BB.trans (b4.mono BB.size)
    clear b4
    go_wp2
    go_ret
    exact ⟨rfl, BB⟩
theorem own : ownKnob Tryz.prog.godebug = none := by kernel_rfl

abbrev laid1 : List (String × DataW Unit) := [("math/bits.deBruijn64tab", Rows.laid_math_bits_deBruijn64tab)]
theorem gTab : Tryz.prog.globalNamed "math/bits.deBruijn64tab" = some 0 := by kernel_rfl
theorem gTabType : (Tryz.prog.globals[0]?).map (·.type) = some 129 := by kernel_rfl
theorem uTab : Tryz.prog.underlying 129 = some (.array 64 5) := by kernel_rfl
theorem uCell : Tryz.prog.underlying 5 = some (.int .u8) := by kernel_rfl
theorem cCell : Tryz.prog.cellsOf 5 = 1 := by kernel_rfl
theorem cTab : Tryz.prog.cellsOf 129 = 64 := by kernel_rfl
/-- The listed table lies in its cells. -/
theorem tab_of {W : World} (h : laidMetH Tryz.prog laid1 W) : Tab W := by
  rw [MakeChecks.laidMetH_plain _ _ _ (by kernel_rfl)] at h
  have hd : laid1 = [("math/bits.deBruijn64tab", Lib.tabData .u8 (Lib.deBruijn64tab.map fun (n : Nat) => Int.ofNat n))] := rfl
  rw [hd] at h
  have hT := Lib.tabIs_of_head gTab gTabType uTab uCell cCell cTab h
  intro i hi
  have hc := hT.cell gTab i (by rw [List.length_map]; exact hi)
  rw [hc]
  congr 2
  rw [List.getD_eq_getElem?_getD, List.getElem?_map, List.getD_eq_getElem?_getD]
  cases Lib.deBruijn64tab[i]? <;> rfl
/-- A start for the witness: the heap that the run of the program's own initialisers leaves. -/
noncomputable def startW (os : Os) : World := { World.holding Tryz.prog os ⟨#[], #[], []⟩ with heap := (varsWorld Tryz.prog 400 (varsId Tryz.prog) os (fun _ _ => 0)).heap }
theorem start_met (os : Os) (args : Array Value) : laidMetH Tryz.prog laid1 ((startW os).forCall (fun _ _ => 0) ⟨#[], args, []⟩).memory :=
  laidMetH_of_parts3 (fuel := 8) (laidMet_of_run' 8 (by kernel_rfl) (by kernel_rfl)) (by kernel_rfl) (by kernel_rfl)

set_option maxRecDepth 100000 in
theorem lifted (os : Os) (started : os.Started) (H : Type) (enc : TypeId × Value → H) :
    ReturnsInHanded {} Tryz.checked os 6 .any (fun w args => (Rows.weighNeedsSpec.pre enc Tryz.prog Tryz.f6 [] false w args ∧ laidMetH Tryz.prog laid1 w) ∧ sizedMet enc Tryz.prog Tryz.f6 (OpenSpec.ofChange Rows.weighNeedsSpec) false w args) (Rows.weighNeedsSpec.post enc Tryz.prog Tryz.f6 false true false false) := by
  refine returnsInHanded_of_change_and (C := Tryz.checked) (X := fun w _ => laidMetH Tryz.prog laid1 w) (fun _ _ _ hh h => h.of_heap hh) own started (by kernel_rfl) Tryz.func6
    (ChangeSpec.witness_shaped (enc := enc) (C := Tryz.checked) (os := os) (X := fun w _ => laidMetH Tryz.prog laid1 w) false (startW os) #[.int .i64 0, .int .i64 0] 8 rfl (World.shaped_of_RefB (by kernel_rfl) (by kernel_rfl)) (by kernel_rfl) (by kernel_rfl) (by kernel_rfl) (start_met os _)) ?_
  intro W base args ds gs before hval0 hW _ _ hL _
  have hval : ∀ (j : Nat) t v, Tryz.f6.params[j]? = some t → args[j]? = some v → Value.okWide Tryz.prog W .any base t v := hval0
  have hW' := hW
  obtain ⟨p, q, hA0, hV, rfl, hfz, hnd⟩ := hW
  have hA : DataW.TrodAll enc Tryz.prog W 0 (fun _ => true) true Tryz.f6.params.toList args.toList ds p := hA0
  rw [Tryz.params6] at hA hval
  obtain ⟨v0, vs0, d0, ds0, p0, q0, hargs, rfl, rfl, h0, r0⟩ := trodAll_cons hA
  obtain ⟨v1, vs1, d1, ds1, p1, q1, rfl, rfl, rfl, h1, r1⟩ := trodAll_cons r0
  obtain ⟨rfl, rfl, rfl⟩ := trodAll_nil r1
  obtain rfl : args = #[v0, v1] := by cases args; simp_all
  obtain ⟨rfl, rfl⟩ := trodVars_none hV
  obtain ⟨a0, rfl, rfl, rfl, w0⟩ := open_int Tryz.underlying3 (hval 0 3 v0 rfl rfl) h0
  obtain ⟨a1, rfl, rfl, rfl, w1⟩ := open_int Tryz.underlying3 (hval 1 3 v1 rfl rfl) h1
  clear hA0 hval0
  refine (walk a0 a1 W w0 w1 (tab_of hL)).mono fun e W' ⟨he, bel⟩ => ?_
  subst he
  exact ⟨_, rfl, _, _, _, [], _, [], hW', trodAll_mk1 (shut_bool Tryz.underlying4 _), (trodAll_cons_mk (shut_int Tryz.underlying3 w0) (trodAll_cons_mk (shut_int Tryz.underlying3 w1) trodAll_mk0)), rfl, bel.frame _, fun h => by cases h⟩

theorem over : Rows.weighNeedsRow.holds Tryz.pinned (OpenSpec.ofChange Rows.weighNeedsSpec) :=
  OpenClaim.holds_of_wide 6 Tryz.f6 rfl rfl rfl rfl rfl rfl rfl ⟨rfl, rfl, rfl, rfl, rfl⟩ rfl rfl rfl rfl rfl (by kernel_rfl) Tryz.func6 (by kernel_rfl)
    (of_decide_eq_true (by kernel_rfl)) (by unfold Func.isWrapper; first | (rw [if_pos (by decide +kernel)]; kernel_rfl) | (rw [if_neg (by decide +kernel)]; exact ⟨rfl, rfl⟩))
    (fun os started H enc _ => lifted os started H enc)

end Go.Proofs.YtfibpckhbgemcaaGreatDoor.weighNeeds
namespace Go.Proofs.YtfibpckhbgemcaaGreatDoor
/-- The statement: the row, tied to the text of the program. -/
theorem weighNeeds_holds : Rows.WeighNeedsCardSaid :=
  Claim7.holds_tied_plain_at .later [] [.data] true (true, "eeffd6bd899e8edb0c7b9ed8e33ff2a95ce20abacf21bee988a273f730e03bab") false
    weighNeeds.over (fun _ h => by cases h) (by kernel_rfl) (fun _ h => by cases h) weighNeeds_row_tie rfl ⟨rfl, rfl⟩ (by kernel_rfl) rfl
    (fun f fn hf hfn => by
      obtain rfl : f = 6 := Option.some.inj ((show Tryz.prog.funcNamed "dendron/dendronlaw14.WeighNeeds" = some 6 by kernel_rfl).symm.trans hf) |>.symm
      obtain rfl : fn = Tryz.f6 := (Option.some.inj (Tryz.func6.symm.trans hfn)).symm
      exact ⟨by kernel_rfl, fun j t ht => by
        rw [Tryz.params6] at ht
        have hm : t ∈ [3, 3] := by simpa using Array.mem_of_getElem? ht
        have hall : ([3, 3].all fun u => !Tryz.prog.wantsStandIn u) = true := by kernel_rfl
        exact (show Tryz.prog.wantsStandIn t = false by simpa using List.all_eq_true.1 hall t hm)⟩)
    (by kernel_rfl)
end Go.Proofs.YtfibpckhbgemcaaGreatDoor
