/-
  Texts of mine, joined: what lies beneath the statement.
-/
import Derived.Test.YtnnnkajomljdgaaGreatDoorJ676efeb1f6
import Derived.Test.YtnnnkajomljdgaaGreatDoorJ1ffa724cb6
import Derived.Test.YtnnnkajomljdgaaGreatDoorJ88b258d9b9
import Derived.Test.YtnnnkajomljdgaaGreatDoorJc7911dde7a
namespace Go.Proofs.YtnnnkajomljdgaaGreatDoor
open Go.RowKit
set_option linter.unusedVariables false
set_option linter.unusedSimpArgs false

set_option maxRecDepth 20000 in
set_option maxHeartbeats 1000000 in
theorem qright_k (K : Nat) (hK : K ≤ 900000) (p : Bool) (ao : Option Addr) (n c : Nat) (bo : Option Addr) (m d : Nat) (f g : Nat → Int) (w : World) (h1 : Nums .u64 w (.slice ao n c) n f) (f1 : U64 n f) (k1 : n ≤ K) (h2 : Nums .u64 w (.slice bo m d) m g) (f2 : U64 m g) (k2 : m ≤ K) (ht : Tab w) (hA : (rightB f n && !(p && decide (num f n = 0))) = true) (hB : rightB g m = true) (hC : num g m ≠ 0) :
  Calls Tryz.prog 28 #[.agg #[.bool p, .slice ao n c, .slice bo m d]] w fun e w' => e = .returned (.bool (decide (Nat.gcd (num f n) (num g m) = 1))) ∧ Below w.heap.size w w' := by
 have BB : Below w.heap.size w w := Below.refl _ _
 obtain ⟨Wb0, hW0, hS0, hL0, VA⟩ := V3.lay w 44 (.bool p) (.slice ao n c) (.slice bo m d)
 replace h1 := h1.below hL0
 replace h2 := h2.below hL0
 replace ht := ht.below hL0
 replace BB := BB.trans (hL0.mono BB.size)
 clear hL0
 go_enter Tryz.func28, Tryz.ntmps28
 go_wp2_with fail
 rw [← hW0]
 clear hW0 hS0
 refine (wright_any p ao n c f _ h1 f1).mono ?_
 rintro e w1 ⟨rfl, b1⟩
 replace h1 := h1.below b1
 replace h2 := h2.below b1
 replace ht := ht.below b1
 replace VA := VA.below b1
 replace BB := BB.trans (b1.mono BB.size)
 clear b1
 rw [hA]
 obtain ⟨VA_0, VA_1, VA_2, VA_3, VA_4, VA_5⟩ := id VA
 go_wp2_with fail
 clear VA_0 VA_1 VA_2 VA_3 VA_4 VA_5
 refine (right_any _ _ _ _ h2).mono ?_
 rintro e wx ⟨rfl, hwx⟩
 replace hwx := hwx.symm
 subst hwx
 rw [hB]
 obtain ⟨VA_0, VA_1, VA_2, VA_3, VA_4, VA_5⟩ := id VA
 go_wp2_with fail
 clear VA_0 VA_1 VA_2 VA_3 VA_4 VA_5
 refine (nzero_at _ (num g m) K _ ⟨_, _, h2, f2, rfl, k2⟩).mono ?_
 rintro e wx ⟨rfl, hwx⟩
 replace hwx := hwx.symm
 subst hwx
 rw [decide_eq_false hC]
 obtain ⟨VA_0, VA_1, VA_2, VA_3, VA_4, VA_5⟩ := id VA
 go_wp2_with fail
 clear VA_0 VA_1 VA_2 VA_3 VA_4 VA_5
 refine (ngcd_at _ _ (num f n) (num g m) K K _ ⟨_, _, h1, f1, rfl, k1⟩ ⟨_, _, h2, f2, rfl, k2⟩ (by omega) (by omega) ht).mono ?_
 rintro e w2 ⟨r, rfl, hr, b2⟩
 replace h1 := h1.below b2
 replace h2 := h2.below b2
 replace ht := ht.below b2
 replace VA := VA.below b2
 replace BB := BB.trans (b2.mono BB.size)
 clear b2
 go_wp2_with fail
 refine (isOne_at _ _ _ _ (hr.at _ (Nat.le_refl _))).mono ?_
 rintro e w3 ⟨rfl, b3⟩
 replace h1 := h1.below b3
 replace h2 := h2.below b3
 replace ht := ht.below b3
 replace hr := hr.below b3
 replace VA := VA.below b3
 replace BB := BB.trans (b3.mono BB.size)
 clear b3
 go_wp2
 go_ret
 exact ⟨rfl, BB⟩

theorem qright_rep (v : Value) (q : Rat) (w : World) (hv : RepQ w v q) (hL : qsz q ≤ 900000) (ht : Tab w) :
  Calls Tryz.prog 28 #[v] w fun e w' => e = .returned (.bool true) ∧ Below w.heap.size w w' := by
 obtain ⟨p, ao, n, c, bo, m, d, rfl⟩ := hv.open
 obtain ⟨h1, h2⟩ := hv.parts
 unfold qsz at hL
 obtain ⟨a1, c1, e1, hR⟩ := h1
 simp only [Value.agg.injEq, Array.mk.injEq, List.cons.injEq, Value.bool.injEq, Value.slice.injEq, and_true] at e1
 obtain ⟨rfl, rfl, rfl, rfl⟩ := e1
 obtain ⟨a2, c2, e2, _⟩ := id h2
 simp only [Value.slice.injEq] at e2
 obtain ⟨rfl, rfl, rfl⟩ := e2
 obtain ⟨K, hK⟩ : ∃ K, K = max (nl W32 q.num.natAbs) (nl W32 q.den) := ⟨_, rfl⟩
 rw [← hK] at hL
 have hg : Nat.gcd q.num.natAbs q.den = 1 := q.reduced
 have hA : (!(decide (q.num < 0) && decide (q.num.natAbs = 0))) = true := by
  by_cases h : q.num < 0
  ·rw [decide_eq_true h, decide_eq_false (by omega)]; rfl
  ·rw [decide_eq_false h]; rfl
 have r := qright_k K hL (decide (q.num < 0)) ao (nl W32 q.num.natAbs) c bo (nl W32 q.den) d (dg W32 q.num.natAbs) (dg W32 q.den) w hR (u64_dg _ _) (by omega) h2 (u64_dg _ _) (by omega) ht (by rw [rightB_rep, num_nl, Bool.true_and]; exact hA) (rightB_rep _) (by rw [num_nl]; exact q.den_nz)
 rw [num_nl, num_nl, decide_eq_true hg] at r
 exact r

theorem mrow_nil (w : World) (N : Nat → Nat) (T : Nat → Nat → Nd) (L : Nat) : MRow w (.slice none 0 0) 0 N T L := ⟨fun _ _ => undef, ⟨none, 0, rfl, Nat.le_refl _, by omega, fun h => by omega⟩, fun i hi => by omega⟩
theorem crow_nil (w : World) (r : Nat → Cl) (L : Nat) : CRow w (.slice none 0 0) 0 r L := ⟨fun _ _ => undef, ⟨none, 0, rfl, Nat.le_refl _, by omega, fun h => by omega⟩, fun i hi => by omega⟩
theorem may_nil (N : Nat → Nat) (T : Nat → Nat → Nd) : mayB 0 0 N T = true := by
 unfold mayB
 refine @decide_eq_true _ (Classical.propDecidable _) (.inr ⟨mfit_yes (by omega) (by omega) (fun j hj => by omega), none, .inl ⟨rfl, fun r hr i hi => by omega⟩, rfl⟩)
theorem half_sz : qsz (((1 : Int) : Rat) / ((2 : Int) : Rat)) ≤ 2 := qsz_frac 1 2 (by decide) (by decide)
theorem zero_sz : qsz (0 : Rat) ≤ 2 := Nat.le_trans (qsz_int 0 (L := 1) (by decide) (by omega)) (by omega)
theorem goL_half : goL ⟨false, 0, ((1 : Int) : Rat) / ((2 : Int) : Rat), 0, 0, false, 0, 0⟩ ⟨false, ((1 : Int) : Rat) / ((2 : Int) : Rat)⟩ = false := by decide +kernel
theorem goL_zero : goL ⟨false, 0, ((1 : Int) : Rat) / ((2 : Int) : Rat), 0, 0, false, 0, 0⟩ ⟨false, 0⟩ = true := by decide +kernel


set_option maxRecDepth 100000 in
set_option maxHeartbeats 8000000 in
theorem awake10_at (w : World) (ht : Tab w) :
  Calls Tryz.prog 13 #[] w fun e w' => e = .returned (.bool true) ∧ Below w.heap.size w w' := by
 have BB : Below w.heap.size w w := Below.refl _ _
 go_enter Tryz.func13, Tryz.ntmps13
 go_wp2_with fail
 refine (qfrac_at 1 2 _ (by omega) (by omega) (by omega) (by omega) ht).mono ?_
 rintro e w1 ⟨v1, rfl, h1, b1⟩
 replace ht := ht.below b1
 replace BB := BB.trans (b1.mono BB.size)
 clear b1
 obtain ⟨p1, a1, n1, c1, y1, m1, d1, rfl⟩ := h1.open
 obtain ⟨W5, hW5, hS5, hL5, VN, FN⟩ := V14.lay w1 67 (.bool false) (.int .i64 0) (.bool p1) (.slice a1 n1 c1) (.slice y1 m1 d1) (.int .i64 0) (.int .i64 0) (.bool false) (.bool false) (.slice none 0 0) (.slice none 0 0) (.bool false) (.slice none 0 0) (.slice none 0 0)
 replace ht := ht.below hL5
 replace h1 := h1.below hL5
 replace BB := BB.trans (hL5.mono BB.size)
 clear hL5
 obtain ⟨V_0, V_1, V_2, V_3, V_4, V_5, V_6, V_7, V_8, V_9, V_10, V_11, V_12, V_13⟩ := id VN
 rw [hW5] at V_0 V_1 V_2 V_3 V_4 V_5 V_6 V_7 V_8 V_9 V_10 V_11 V_12 V_13
 go_wp2_with fail
 clear V_0 V_1 V_2 V_3 V_4 V_5 V_6 V_7 V_8 V_9 V_10 V_11 V_12 V_13
 rw [← hW5]
 generalize w1.heap.size = RN at *
 clear hW5 hS5 FN
 refine (rpredict_yes 0 _ _ 0 0 (fun _ => 0) (fun _ _ => ⟨false, 0, 0, 0, 0, false, 0, 0⟩) (fun _ => ⟨false, 0⟩) 2 _ (mrow_nil _ _ _ _) (crow_nil _ _ _) ht (by omega) (by omega) (whyI_yes (may_nil _ _) rfl) (by omega) (fun i hi => by omega) (by omega)).mono ?_
 rintro e w2 ⟨v2, rfl, h2, b2⟩
 replace ht := ht.below b2
 replace h1 := h1.below b2
 replace VN := VN.below b2
 replace BB := BB.trans (b2.mono BB.size)
 clear b2
 obtain ⟨p2, a2, n2, c2, y2, m2, d2, rfl⟩ := h2.open
 have h2 : RepQ w2 (.agg #[.bool p2, .slice a2 n2 c2, .slice y2 m2 d2]) 0 := h2
 have hZ1 : w.heap.size ≤ w2.heap.size := BB.size
 obtain ⟨W1, hW1, hS1, hL1, VX⟩ := V3.lay w2 44 (.bool p2) (.slice a2 n2 c2) (.slice y2 m2 d2)
 replace ht := ht.below hL1
 replace h1 := h1.below hL1
 replace VN := VN.below hL1
 replace h2 := h2.below hL1
 replace BB := BB.trans (hL1.mono BB.size)
 clear hL1
 obtain ⟨VX_0, VX_1, VX_2, VX_3, VX_4, VX_5⟩ := id VX
 rw [hW1] at VX_0 VX_1 VX_2 VX_3 VX_4 VX_5
 go_wp2_with fail
 clear VX_0 VX_1 VX_2 VX_3 VX_4 VX_5
 rw [← hW1]
 generalize w2.heap.size = R1 at *
 clear hW1 hS1
 have hDr : Below W1.heap.size W1 W1.drew := (Below.refl _ _).drew
 replace ht := ht.below hDr
 replace h1 := h1.below hDr
 replace VN := VN.below hDr
 replace h2 := h2.below hDr
 replace VX := VX.below hDr
 replace BB := BB.trans (hDr.mono BB.size)
 clear hDr
 refine wp_region_held_drew (S := (fun w' => w'.cell? ⟨R1, 0, none⟩ = some (.bool p2) ∧ w'.cell? ⟨R1, 1, none⟩ = some (.slice a2 n2 c2) ∧ w'.cell? ⟨R1, 2, none⟩ = some (.slice y2 m2 d2) ∧ w'.cell? ⟨RN, 0, none⟩ = some (.bool false) ∧ w'.cell? ⟨RN, 1, none⟩ = some (.int .i64 0) ∧ w'.cell? ⟨RN, 2, none⟩ = some (.bool p1) ∧ w'.cell? ⟨RN, 3, none⟩ = some (.slice a1 n1 c1) ∧ w'.cell? ⟨RN, 4, none⟩ = some (.slice y1 m1 d1) ∧ w'.cell? ⟨RN, 5, none⟩ = some (.int .i64 0) ∧ w'.cell? ⟨RN, 6, none⟩ = some (.int .i64 0) ∧ w'.cell? ⟨RN, 7, none⟩ = some (.bool false) ∧ w'.cell? ⟨RN, 8, none⟩ = some (.bool false) ∧ w'.cell? ⟨RN, 9, none⟩ = some (.slice none 0 0) ∧ w'.cell? ⟨RN, 10, none⟩ = some (.slice none 0 0) ∧ w'.cell? ⟨RN, 11, none⟩ = some (.bool false) ∧ w'.cell? ⟨RN, 12, none⟩ = some (.slice none 0 0) ∧ w'.cell? ⟨RN, 13, none⟩ = some (.slice none 0 0))) (by kernel_rfl) ?_ (fun hHeld => ?_)
 ·exact ⟨VX.1, VX.2.1, VX.2.2.1, VN.c0, VN.c1, VN.c2, VN.c3, VN.c4, VN.c5, VN.c6, VN.c7, VN.c8, VN.c9, VN.c10, VN.c11, VN.c12, VN.c13⟩
 generalize W1.drew = W2 at *
 refine wpAnyH_take (i := 0) (v := ?_) (by simp only [xL1, xL2, xL3]; rfl) (by kernel_rfl) (by kernel_rfl) (by kernel_rfl) (by exact fun _ _ _ h => h) (Or.inl ⟨by rfl, ?_⟩) (by assumption) ?_
 rotate_left
 ·(intro w hSw; (try dsimp only at hSw); go_simp; (try with_reducible rfl))
 (try simp only [Act.put, xL4, xL5, xL6])
 refine wpAnyH_ready (rs := [1]) (by kernel_rfl) (by simp) ?_
 refine AllReadyH.cons (by simp only [xL1, xL2, xL3]; rfl) (fun K hK => ?_) AllReadyH.nil
 go_simp
 refine (qfrac_at 1 2 _ (by omega) (by omega) (by omega) (by omega) ht).mono ?_
 rintro e w3 ⟨v3, rfl, h3, b3⟩
 obtain ⟨p3, a3, n3, c3, y3, m3, d3, rfl⟩ := h3.open
 go_wp2_with fail
 replace ht := ht.below b3
 replace h1 := h1.below b3
 replace VN := VN.below b3
 replace h2 := h2.below b3
 replace VX := VX.below b3
 replace BB := BB.trans (b3.mono BB.size)
 clear b3
 refine hK.out _ _ ?_ (fun hH1 => ?_)
 ·exact ⟨VX.1, VX.2.1, VX.2.2.1, VN.c0, VN.c1, VN.c2, VN.c3, VN.c4, VN.c5, VN.c6, VN.c7, VN.c8, VN.c9, VN.c10, VN.c11, VN.c12, VN.c13⟩
 clear hK K hHeld
 (try simp only [Act.put, xL4, xL5, xL6])
 refine wpAnyH_take (i := 2) (v := ?_) (by simp only [xL1, xL2, xL3]; rfl) (by kernel_rfl) (by kernel_rfl) (by kernel_rfl) (by exact fun _ _ _ h => h) (Or.inl ⟨by rfl, ?_⟩) (by assumption) ?_
 rotate_left
 ·(intro w hSw; (try dsimp only at hSw); go_simp; (try with_reducible rfl))
 (try simp only [Act.put, xL4, xL5, xL6])
 refine wpAnyH_ready (rs := [3]) (by kernel_rfl) (by simp) ?_
 refine AllReadyH.cons (by simp only [xL1, xL2, xL3]; rfl) (fun K hK => ?_) AllReadyH.nil
 go_simp
 refine (rleft_at ⟨false, 0, ((1 : Int) : Rat) / ((2 : Int) : Rat), 0, 0, false, 0, 0⟩ ⟨false, ((1 : Int) : Rat) / ((2 : Int) : Rat)⟩ p1 false false p3 a1 y1 none none none none a3 y3 n1 c1 m1 d1 0 0 0 0 0 0 0 0 n3 c3 m3 d3 2 _ (h1.at 2 half_sz) (h3.at 2 half_sz) (by omega) (by omega)).mono ?_
 rintro e w4 ⟨rfl, b4⟩
 rw [goL_half]
 go_wp2_with fail
 replace ht := ht.below b4
 replace h1 := h1.below b4
 replace VN := VN.below b4
 replace h2 := h2.below b4
 replace h3 := h3.below b4
 replace VX := VX.below b4
 replace BB := BB.trans (b4.mono BB.size)
 clear b4
 refine hK.out _ _ ?_ (fun hH2 => ?_)
 ·exact ⟨VX.1, VX.2.1, VX.2.2.1, VN.c0, VN.c1, VN.c2, VN.c3, VN.c4, VN.c5, VN.c6, VN.c7, VN.c8, VN.c9, VN.c10, VN.c11, VN.c12, VN.c13⟩
 clear hK K hH1
 (try simp only [Act.put, xL4, xL5, xL6])
 refine wpAnyH_take (i := 4) (v := ?_) (by simp only [xL1, xL2, xL3]; rfl) (by kernel_rfl) (by kernel_rfl) (by kernel_rfl) (by exact fun _ _ _ h => h) (Or.inl ⟨by rfl, ?_⟩) (by assumption) ?_
 rotate_left
 ·(intro w hSw; (try dsimp only at hSw); go_simp; (try with_reducible rfl))
 (try simp only [Act.put, xL4, xL5, xL6])
 refine wpAnyH_take (i := 5) (v := ?_) (by simp only [xL1, xL2, xL3]; rfl) (by kernel_rfl) (by kernel_rfl) (by kernel_rfl) (by exact fun _ _ _ h => h) (Or.inl ⟨by rfl, ?_⟩) (by assumption) ?_
 rotate_left
 ·(intro w hSw; (try dsimp only at hSw); go_simp; (try with_reducible rfl))
 (try simp only [Act.put, xL4, xL5, xL6])
 refine wpAnyH_take (i := 6) (v := ?_) (by simp only [xL1, xL2, xL3]; rfl) (by kernel_rfl) (by kernel_rfl) (by kernel_rfl) (by exact fun _ _ _ h => h) (Or.inl ⟨by rfl, ?_⟩) (by assumption) ?_
 rotate_left
 ·(intro w hSw; (try dsimp only at hSw); go_simp; (try with_reducible rfl))
 (try simp only [Act.put, xL4, xL5, xL6])
 refine wpAnyH_ready (rs := [7]) (by kernel_rfl) (by simp) ?_
 refine AllReadyH.cons (by simp only [xL1, xL2, xL3]; rfl) (fun K hK => ?_) AllReadyH.nil
 go_simp
 refine (qzero_at _).mono ?_
 rintro e w5 ⟨v4, rfl, h4, b5⟩
 obtain ⟨p4, a4, n4, c4, y4, m4, d4, rfl⟩ := h4.open
 go_wp2_with fail
 replace ht := ht.below b5
 replace h1 := h1.below b5
 replace VN := VN.below b5
 replace h2 := h2.below b5
 replace h3 := h3.below b5
 replace VX := VX.below b5
 replace BB := BB.trans (b5.mono BB.size)
 clear b5
 refine hK.out _ _ ?_ (fun hH3 => ?_)
 ·exact ⟨VX.1, VX.2.1, VX.2.2.1, VN.c0, VN.c1, VN.c2, VN.c3, VN.c4, VN.c5, VN.c6, VN.c7, VN.c8, VN.c9, VN.c10, VN.c11, VN.c12, VN.c13⟩
 clear hK K hH2
 (try simp only [Act.put, xL4, xL5, xL6])
 refine wpAnyH_take (i := 8) (v := ?_) (by simp only [xL1, xL2, xL3]; rfl) (by kernel_rfl) (by kernel_rfl) (by kernel_rfl) (by exact fun _ _ _ h => h) (Or.inl ⟨by rfl, ?_⟩) (by assumption) ?_
 rotate_left
 ·(intro w hSw; (try dsimp only at hSw); go_simp; (try with_reducible rfl))
 (try simp only [Act.put, xL4, xL5, xL6])
 refine wpAnyH_ready (rs := [9]) (by kernel_rfl) (by simp) ?_
 refine AllReadyH.cons (by simp only [xL1, xL2, xL3]; rfl) (fun K hK => ?_) AllReadyH.nil
 go_simp
 refine (rleft_at ⟨false, 0, ((1 : Int) : Rat) / ((2 : Int) : Rat), 0, 0, false, 0, 0⟩ ⟨false, 0⟩ p1 false false p4 a1 y1 none none none none a4 y4 n1 c1 m1 d1 0 0 0 0 0 0 0 0 n4 c4 m4 d4 2 _ (h1.at 2 half_sz) (h4.at 2 zero_sz) (by omega) (by omega)).mono ?_
 rintro e w6 ⟨rfl, b6⟩
 rw [goL_zero]
 go_wp2_with fail
 replace ht := ht.below b6
 replace h1 := h1.below b6
 replace VN := VN.below b6
 replace h2 := h2.below b6
 replace h3 := h3.below b6
 replace h4 := h4.below b6
 replace VX := VX.below b6
 replace BB := BB.trans (b6.mono BB.size)
 clear b6
 refine hK.out _ _ ?_ (fun hH4 => ?_)
 ·exact ⟨VX.1, VX.2.1, VX.2.2.1, VN.c0, VN.c1, VN.c2, VN.c3, VN.c4, VN.c5, VN.c6, VN.c7, VN.c8, VN.c9, VN.c10, VN.c11, VN.c12, VN.c13⟩
 clear hK K hH3
 (try simp only [Act.put, xL4, xL5, xL6])
 refine wpAnyH_take (i := 10) (v := ?_) (by simp only [xL1, xL2, xL3]; rfl) (by kernel_rfl) (by kernel_rfl) (by kernel_rfl) (by exact fun _ _ _ h => h) (Or.inl ⟨by rfl, ?_⟩) (by assumption) ?_
 rotate_left
 ·(intro w hSw; (try dsimp only at hSw); go_simp; (try with_reducible rfl))
 (try simp only [Act.put, xL4, xL5, xL6])
 refine wpAnyH_take (i := 11) (v := ?_) (by simp only [xL1, xL2, xL3]; rfl) (by kernel_rfl) (by kernel_rfl) (by kernel_rfl) (by exact fun _ _ _ h => h) (Or.inl ⟨by rfl, ?_⟩) (by assumption) ?_
 rotate_left
 ·(intro w hSw; (try dsimp only at hSw); go_simp; (try with_reducible rfl))
 (try simp only [Act.put, xL4, xL5, xL6])
 refine wpAnyH_take (i := 12) (v := ?_) (by simp only [xL1, xL2, xL3]; rfl) (by kernel_rfl) (by kernel_rfl) (by kernel_rfl) (by exact fun _ _ _ h => h) (Or.inl ⟨by rfl, ?_⟩) (by assumption) ?_
 rotate_left
 ·(intro w hSw; (try dsimp only at hSw); go_simp; (try with_reducible rfl))
 (try simp only [Act.put, xL4, xL5, xL6])
 refine wpAnyH_take (i := 13) (v := ?_) (by simp only [xL1, xL2, xL3]; rfl) (by kernel_rfl) (by kernel_rfl) (by kernel_rfl) (by exact fun _ _ _ h => h) (Or.inl ⟨by rfl, ?_⟩) (by assumption) ?_
 rotate_left
 ·(intro w hSw; (try dsimp only at hSw); go_simp; (try with_reducible rfl))
 (try simp only [Act.put, xL4, xL5, xL6])
 refine wpAnyH_take (i := 14) (v := ?_) (by simp only [xL1, xL2, xL3]; rfl) (by kernel_rfl) (by kernel_rfl) (by kernel_rfl) (by exact fun _ _ _ h => h) (Or.inl ⟨by rfl, ?_⟩) (by assumption) ?_
 rotate_left
 ·(intro w hSw; (try dsimp only at hSw); go_simp; (try with_reducible rfl))
 (try simp only [Act.put, xL4, xL5, xL6])
 refine wpAnyH_take (i := 15) (v := ?_) (by simp only [xL1, xL2, xL3]; rfl) (by kernel_rfl) (by kernel_rfl) (by kernel_rfl) (by exact fun _ _ _ h => h) (Or.inl ⟨by rfl, ?_⟩) (by assumption) ?_
 rotate_left
 ·(intro w hSw; (try dsimp only at hSw); go_simp; (try with_reducible rfl))
 (try simp only [Act.put, xL4, xL5, xL6])
 refine wpAnyH_take (i := 16) (v := ?_) (by simp only [xL1, xL2, xL3]; rfl) (by kernel_rfl) (by kernel_rfl) (by kernel_rfl) (by exact fun _ _ _ h => h) (Or.inl ⟨by rfl, ?_⟩) (by assumption) ?_
 rotate_left
 ·(intro w hSw; (try dsimp only at hSw); go_simp; (try with_reducible rfl))
 (try simp only [Act.put, xL4, xL5, xL6])
 refine wpAnyH_ready (rs := [17]) (by kernel_rfl) (by simp) ?_
 refine AllReadyH.cons (by simp only [xL1, xL2, xL3]; rfl) (fun K hK => ?_) AllReadyH.nil
 go_simp
 refine (qright_rep _ 0 _ h2 (Nat.le_trans zero_sz (by omega)) ht).mono ?_
 rintro e w7 ⟨rfl, b7⟩
 go_wp2_with fail
 replace ht := ht.below b7
 replace h1 := h1.below b7
 replace VN := VN.below b7
 replace h2 := h2.below b7
 replace h3 := h3.below b7
 replace h4 := h4.below b7
 replace VX := VX.below b7
 replace BB := BB.trans (b7.mono BB.size)
 clear b7
 refine hK.out _ _ ?_ (fun hH5 => ?_)
 ·exact ⟨VX.1, VX.2.1, VX.2.2.1, VN.c0, VN.c1, VN.c2, VN.c3, VN.c4, VN.c5, VN.c6, VN.c7, VN.c8, VN.c9, VN.c10, VN.c11, VN.c12, VN.c13⟩
 clear hK K hH4
 (try simp only [Act.put, xL4, xL5, xL6])
 refine wpAnyH_take (i := 18) (v := ?_) (by simp only [xL1, xL2, xL3]; rfl) (by kernel_rfl) (by kernel_rfl) (by kernel_rfl) (by exact fun _ _ _ h => h) (Or.inl ⟨by rfl, ?_⟩) (by assumption) ?_
 rotate_left
 ·(intro w hSw; (try dsimp only at hSw); go_simp; (try with_reducible rfl))
 (try simp only [Act.put, xL4, xL5, xL6])
 refine wpAnyH_take (i := 19) (v := ?_) (by simp only [xL1, xL2, xL3]; rfl) (by kernel_rfl) (by kernel_rfl) (by kernel_rfl) (by exact fun _ _ _ h => h) (Or.inl ⟨by rfl, ?_⟩) (by assumption) ?_
 rotate_left
 ·(intro w hSw; (try dsimp only at hSw); go_simp; (try with_reducible rfl))
 (try simp only [Act.put, xL4, xL5, xL6])
 refine wpAnyH_done (by kernel_rfl) ?_ _
 clear hH5
 go_wp2
 go_ret
 exact ⟨rfl, BB⟩

end Go.Proofs.YtnnnkajomljdgaaGreatDoor
