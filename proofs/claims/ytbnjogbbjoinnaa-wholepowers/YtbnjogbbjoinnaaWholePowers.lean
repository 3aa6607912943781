/-
  Proves that Pow answers any power up to 20 of any whole number of up to 3 limbs, and that there is none beyond the limits, whatever comes in (the statement WholePowers); no condition.
-/
import Derived.Test.YtbnjogbbjoinnaaRows
import Derived.Test.YtbnjogbbjoinnaaWhole5
import Derived.Test.YtbnjogbbjoinnaaWOpen
import Derived.WalkKit
import Derived.ProofKit
import Derived.OpenShut
import Derived.ShutString
import Derived.ChangeOld
import Derived.Below
namespace Go.Proofs.Ytbnjogbbjoinnaa.wholePowers
open Go.ChangeShapes Go.WideShapes Go.ChangeAt Go.RowKit
open Go.ChangeMaps (open_string shut_string)
set_option linter.unusedVariables false

set_option maxRecDepth 20000 in
set_option maxHeartbeats 4000000 in
theorem walk (p : Bool) (s : Value) (n0 : Nat) (f : Nat → Int) (k : Int) (w : World) (hs0 : Raw w s n0 f) (wk : (Lit.int .i64 k).wf = true) :
    Calls Try.prog 8 #[.agg #[.bool p, s], .int .i64 k] w fun e w' => e = .returned (.bool true) ∧ Below w.heap.size w w' := by
  have hs := hs0
  obtain ⟨ao0, c0, rfl, _⟩ := hs0
  have hA : ∀ o, Below w.heap.size w (w.alloc o) := fun o => (Below.refl _ _).alloc (Nat.le_refl _) _
  have r0 := resW w 25 (.bool p) (.slice ao0 n0 c0)
  have hkb := bounds_i64 wk
  go_enter Try.func8, Try.ntmps8
  go_wp2_with fail
  refine (wfew_any _ _ _ 3 _ _ (hs.below (hA _)) (by omega)).mono ?_
  rintro e w1 ⟨ao, c, rfl, hu, uf, hb1⟩
  have hn : min n0 3 ≤ 3 := Nat.min_le_right _ _
  generalize min n0 3 = n at *
  have B1 : Below w.heap.size w w1 := (hA _).trans (hb1.mono (by simp))
  obtain ⟨a1, a2, a3, a4⟩ := keepW hb1 (by simp) r0
  have A0 := put2_same (x' := .bool p) (y' := .slice ao n c) ⟨a1, a2, a3, a4⟩
  have N1 := hu.store2 a1 a2 (.bool p) (.slice ao n c)
  have I1 : IntAt ((w1.setCell ⟨w.heap.size, 0, none⟩ (.bool p)).setCell ⟨w.heap.size, 1, none⟩ (.slice ao n c)) (.agg #[.bool p, .slice ao n c]) (zof p (num f n)) 3 := ⟨_, _, _, _, _, rfl, N1, uf, rfl, hn⟩
  have B1' := below_store2 (R := w.heap.size) B1 (Nat.le_refl _) (.bool p) (.slice ao n c)
  clear r0
  by_cases hm : 20 < k ∧ k ≤ 4096
  · have h1 : 20 < k := hm.1
    have h2 : k ≤ 4096 := hm.2
    go_wp2_with fail
    clear a1 a2 a3 a4 hs hb1 hu B1 N1
    generalize (w1.setCell ⟨w.heap.size, 0, none⟩ (.bool p)).setCell ⟨w.heap.size, 1, none⟩ (.slice ao n c) = W1 at *
    refine (wawake_any _).mono ?_
    rintro e w2 ⟨rfl, hb2⟩
    go_wp2
    go_ret
    exact ⟨rfl, B1'.trans (hb2.mono B1'.size)⟩
  by_cases hr : k < 0 ∨ 4096 < k
  · have h1 : ¬ 20 < k ∨ ¬ k ≤ 4096 := by omega
    have hr1 : decide (k < 0) = true ∨ decide (k < 0) = false ∧ decide (4096 < k) = true := by
      rcases hr with h | h
      · left; rw [decide_eq_true_eq]; exact h
      · right; exact ⟨by rw [decide_eq_false_iff_not]; omega, by rw [decide_eq_true_eq]; exact h⟩
    have hg1 : decide (20 < k) = false ∨ decide (20 < k) = true ∧ decide (k ≤ 4096) = false := by
      rcases hr with h | h
      · left; rw [decide_eq_false_iff_not]; omega
      · right; exact ⟨by rw [decide_eq_true_eq]; omega, by rw [decide_eq_false_iff_not]; omega⟩
    have hpow : ∀ (v : Value) (z : Int) (L : Nat) (w : World), IntAt w v z L → _ := fun v z L w h => wpow_range v z L k w h hr
    clear hm h1
    rcases hr with hneg | hbig
    · have g1 : ¬ 20 < k := by omega
      have g2 : k < 0 := hneg
      clear hr1 hg1
      go_wp2_with fail
      clear a1 a2 a3 a4 hs hb1 hu B1 N1
      generalize (w1.setCell ⟨w.heap.size, 0, none⟩ (.bool p)).setCell ⟨w.heap.size, 1, none⟩ (.slice ao n c) = W1 at *
      generalize hx : zof p (num f n) = x at *
      refine (hpow _ _ _ _ I1).mono ?_
      rintro e w2 ⟨vr, rfl, hr2, hb2⟩
      obtain ⟨pr, aor, nr, cr, rfl⟩ := hr2.open
      have HA2 : Below w2.heap.size w2 (w2.alloc (.cells #[.bool pr, .slice aor nr cr] 25)) := (Below.refl _ _).alloc (Nat.le_refl _) _
      have B2 : Below w.heap.size w w2 := B1'.trans (hb2.mono B1'.size)
      have B2' := B2.trans (HA2.mono B2.size)
      have C0 := keepW HA2 (Nat.le_refl _) (keepW hb2 (Nat.le_refl _) A0)
      have C1 := resW w2 25 (.bool pr) (.slice aor nr cr)
      have I2 := ((I1.below hb2).below HA2).below (Below.refl _ _).drew
      have R2 := (hr2.below HA2).below (Below.refl _ _).drew
      clear A0 I1 hr2 B1' B2 HA2
      go_wp2
      clear hb2
      generalize w2.heap.size = RR at *
      generalize w2.alloc (.cells #[.bool pr, .slice aor nr cr] 25) = W2 at *
      have S0 := And.intro C0.1 (And.intro C0.2.1 (And.intro C1.1 C1.2.1))
      have BD := B2'.drew
      have BS : w.heap.size ≤ W2.drew.heap.size := BD.size
      go_region_held3 (fun w' => w'.cell? ⟨w.heap.size, 0, none⟩ = some (.bool p) ∧ w'.cell? ⟨w.heap.size, 1, none⟩ = some (.slice ao n c) ∧ w'.cell? ⟨RR, 0, none⟩ = some (.bool pr) ∧ w'.cell? ⟨RR, 1, none⟩ = some (.slice aor nr cr)) (first | exact keep4 (by assumption) (by exact Nat.le_refl _) (by assumption) | exact S0) (first
        | (go_at_call 13; refine (rsmall_any 0 _ (by omega) (by omega)).mono ?_; rintro e u1 ⟨z1, rfl, hz1, k1⟩)
        | (go_at_call 15; refine (ris_rep _ _ _ _ (R2.below k1) (by decide) hz1).mono ?_; rintro e u2 ⟨rfl, k2⟩)
        | (go_at_call 22; refine (wawake_any _).mono ?_; rintro e u9 ⟨rfl, k9⟩))
      go_wp2
      go_ret
      have U1 := BD.trans (k1.mono BD.size)
      have U2 := U1.trans (k2.mono U1.size)
      exact ⟨rfl, U2.trans (k9.mono U2.size)⟩
    · have g0 : 20 < k := by omega
      have g1 : ¬ k ≤ 4096 := by omega
      have g2 : ¬ k < 0 := by omega
      clear hr1 hg1
      go_wp2_with fail
      clear a1 a2 a3 a4 hs hb1 hu B1 N1
      generalize (w1.setCell ⟨w.heap.size, 0, none⟩ (.bool p)).setCell ⟨w.heap.size, 1, none⟩ (.slice ao n c) = W1 at *
      generalize hx : zof p (num f n) = x at *
      refine (hpow _ _ _ _ I1).mono ?_
      rintro e w2 ⟨vr, rfl, hr2, hb2⟩
      obtain ⟨pr, aor, nr, cr, rfl⟩ := hr2.open
      have HA2 : Below w2.heap.size w2 (w2.alloc (.cells #[.bool pr, .slice aor nr cr] 25)) := (Below.refl _ _).alloc (Nat.le_refl _) _
      have B2 : Below w.heap.size w w2 := B1'.trans (hb2.mono B1'.size)
      have B2' := B2.trans (HA2.mono B2.size)
      have C0 := keepW HA2 (Nat.le_refl _) (keepW hb2 (Nat.le_refl _) A0)
      have C1 := resW w2 25 (.bool pr) (.slice aor nr cr)
      have I2 := ((I1.below hb2).below HA2).below (Below.refl _ _).drew
      have R2 := (hr2.below HA2).below (Below.refl _ _).drew
      clear A0 I1 hr2 B1' B2 HA2
      go_wp2
      clear hb2
      generalize w2.heap.size = RR at *
      generalize w2.alloc (.cells #[.bool pr, .slice aor nr cr] 25) = W2 at *
      have S0 := And.intro C0.1 (And.intro C0.2.1 (And.intro C1.1 C1.2.1))
      have BD := B2'.drew
      have BS : w.heap.size ≤ W2.drew.heap.size := BD.size
      go_region_held3 (fun w' => w'.cell? ⟨w.heap.size, 0, none⟩ = some (.bool p) ∧ w'.cell? ⟨w.heap.size, 1, none⟩ = some (.slice ao n c) ∧ w'.cell? ⟨RR, 0, none⟩ = some (.bool pr) ∧ w'.cell? ⟨RR, 1, none⟩ = some (.slice aor nr cr)) (first | exact keep4 (by assumption) (by exact Nat.le_refl _) (by assumption) | exact S0) (first
        | (go_at_call 13; refine (rsmall_any 0 _ (by omega) (by omega)).mono ?_; rintro e u1 ⟨z1, rfl, hz1, k1⟩)
        | (go_at_call 15; refine (ris_rep _ _ _ _ (R2.below k1) (by decide) hz1).mono ?_; rintro e u2 ⟨rfl, k2⟩)
        | (go_at_call 22; refine (wawake_any _).mono ?_; rintro e u9 ⟨rfl, k9⟩))
      go_wp2
      go_ret
      have U1 := BD.trans (k1.mono BD.size)
      have U2 := U1.trans (k2.mono U1.size)
      exact ⟨rfl, U2.trans (k9.mono U2.size)⟩
  · obtain ⟨K, rfl⟩ : ∃ K : Nat, k = (K : Int) := ⟨k.toNat, by omega⟩
    have hK : K ≤ 20 := by omega
    have g0 : ¬ (20 : Int) < (K : Int) := by omega
    have g1 : ¬ (K : Int) < 0 := by omega
    have g2 : ¬ (4096 : Int) < (K : Int) := by omega
    clear hm hr hkb wk
    go_wp2_with fail
    clear a1 a2 a3 a4 hs hb1 hu B1 N1
    generalize (w1.setCell ⟨w.heap.size, 0, none⟩ (.bool p)).setCell ⟨w.heap.size, 1, none⟩ (.slice ao n c) = W1 at *
    generalize hx : zof p (num f n) = x at *
    refine (wpow_any _ _ _ K _ I1 (by omega) (by omega)).mono ?_
    rintro e w2 ⟨vr, rfl, hr2, hb2⟩
    obtain ⟨pr, aor, nr, cr, rfl⟩ := hr2.open
    have HA2 : Below w2.heap.size w2 (w2.alloc (.cells #[.bool pr, .slice aor nr cr] 25)) := (Below.refl _ _).alloc (Nat.le_refl _) _
    have B2 : Below w.heap.size w w2 := B1'.trans (hb2.mono B1'.size)
    have B2' := B2.trans (HA2.mono B2.size)
    have C0 := keepW HA2 (Nat.le_refl _) (keepW hb2 (Nat.le_refl _) A0)
    have C1 := resW w2 25 (.bool pr) (.slice aor nr cr)
    have I2 := ((I1.below hb2).below HA2).below (Below.refl _ _).drew
    have R2 := (hr2.below HA2).below (Below.refl _ _).drew
    clear A0 I1 hr2 B1' B2 HA2
    go_wp2
    clear hb2
    generalize w2.heap.size = RR at *
    generalize w2.alloc (.cells #[.bool pr, .slice aor nr cr] 25) = W2 at *
    have S0 := And.intro C0.1 (And.intro C0.2.1 (And.intro C1.1 C1.2.1))
    have BD := B2'.drew
    have BS : w.heap.size ≤ W2.drew.heap.size := BD.size
    have lx := I2.nl
    have lp : nl W32 (x ^ K).natAbs ≤ 1000 := Nat.le_trans (nlz_pow lx) (by omega)
    go_region_held3 (fun w' => w'.cell? ⟨w.heap.size, 0, none⟩ = some (.bool p) ∧ w'.cell? ⟨w.heap.size, 1, none⟩ = some (.slice ao n c) ∧ w'.cell? ⟨RR, 0, none⟩ = some (.bool pr) ∧ w'.cell? ⟨RR, 1, none⟩ = some (.slice aor nr cr)) (first | exact keep4 (by assumption) (by exact Nat.le_refl _) (by assumption) | exact S0) (first
      | (go_at_call 10; refine (rfrom_any _ _ _ _ I2 (by omega)).mono ?_; rintro e u1 ⟨z1, rfl, hz1, k1⟩)
      | (go_at_call 35; refine (rpower_any _ _ K _ hz1 (by omega) (by omega)).mono ?_; rintro e u2 ⟨z2, rfl, hz2, k2⟩)
      | (go_at_call 15; refine (ris_rep _ _ _ _ ((R2.below k1).below k2) lp hz2).mono ?_; rintro e u3 ⟨rfl, k3⟩)
      | (go_at_call 22; refine (wawake_any _).mono ?_; rintro e u9 ⟨rfl, k9⟩))
    go_wp2
    go_ret
    have U1 := BD.trans (k1.mono BD.size)
    have U2 := U1.trans (k2.mono U1.size)
    have U3 := U2.trans (k3.mono U2.size)
    exact ⟨rfl, U3.trans (k9.mono U3.size)⟩

theorem own : ownKnob Try.prog.godebug = none := by kernel_rfl
theorem laidOut : laidOutB Try.prog = true := by kernel_rfl

set_option maxRecDepth 100000 in
theorem lifted (os : Os) (started : os.Started) (H : Type) (enc : TypeId × Value → H) :
    ReturnsInHanded {} Try.checked os 8 .any (Rows.wholePowersSpec.pre6 enc Try.prog Try.f8 Rows.wholePowersRow.domain false) (Rows.wholePowersSpec.post enc Try.prog Try.f8 false true false false) := by
  refine returnsInHanded_of_change (C := Try.checked) own started (by kernel_rfl) Try.func8
    (ChangeSpec.witness6 (enc := enc) (C := Try.checked) false ⟨#[], #[.agg #[.bool false, .slice none 0 0], .int .i64 0], []⟩ 8 (by kernel_rfl) (by kernel_rfl) (by kernel_rfl) (by kernel_rfl)) ?_
  intro W base args ds gs before hval0 hW hcnd _
  have hval : ∀ (j : Nat) t v, Try.f8.params[j]? = some t → args[j]? = some v → Value.okWide Try.prog W .any base t v := hval0
  have hW' := hW
  obtain ⟨p, q, hA0, hV, rfl, hfz, hnd⟩ := hW
  have hA : DataW.TrodAll enc Try.prog W 0 (fun _ => true) true Try.f8.params.toList args.toList ds p := hA0
  rw [Try.params8] at hA hval
  obtain ⟨v0, vs0, d0, ds0, p0, q0, hargs, rfl, rfl, h0, r0⟩ := trodAll_cons hA
  obtain ⟨v1, vs1, d1, ds1, p1, q1, rfl, rfl, rfl, h1, r1⟩ := trodAll_cons r0
  obtain ⟨rfl, rfl, rfl⟩ := trodAll_nil r1
  obtain rfl : args = #[v0, v1] := by cases args; simp_all
  obtain ⟨rfl, rfl⟩ := trodVars_none hV
  have k0 := h0
  have lt0 : ∀ x ∈ p0, x.block < W.heap.size := by obtain ⟨m, hm⟩ := k0; exact DataW.trod_lt m _ _ _ hm
  obtain ⟨neg0, ao0, n0, c0, f0, rfl, w0⟩ := open_wint (hval 0 25 v0 rfl rfl) h0
  obtain ⟨a1, rfl, rfl, rfl, w1⟩ := open_int Try.underlying3 (hval 1 3 v1 rfl rfl) h1
  clear hA0 hval0
  refine (walk _ _ _ _ a1 W w0 w1).mono fun e W' ⟨he, bel⟩ => ?_
  subst he
  exact ⟨_, rfl, _, _, _, [], _, [], hW', trodAll_mk1 (shut_bool Try.underlying4 _), (trodAll_cons_mk (Below.trod laidOut (by kernel_rfl) (of_decide_eq_true (by kernel_rfl)) k0 bel lt0) (trodAll_cons_mk (shut_int Try.underlying3 w1) trodAll_mk0)), rfl, bel.frame _, fun h => by cases h⟩

theorem over : Rows.wholePowersRow.holds Try.pinned (OpenSpec.ofChange Rows.wholePowersSpec) :=
  OpenClaim.holds_of_wide 8 Try.f8 rfl rfl rfl rfl rfl rfl rfl ⟨rfl, rfl, rfl, rfl, rfl⟩ rfl rfl rfl rfl rfl (by kernel_rfl) Try.func8 (by kernel_rfl)
    (of_decide_eq_true (by kernel_rfl)) (by unfold Func.isWrapper; first | (rw [if_pos (by decide +kernel)]; kernel_rfl) | (rw [if_neg (by decide +kernel)]; exact ⟨rfl, rfl⟩))
    (fun os started H enc _ => lifted os started H enc)

end Go.Proofs.Ytbnjogbbjoinnaa.wholePowers
namespace Go.Proofs.Ytbnjogbbjoinnaa
/-- The statement. -/
theorem wholePowers_holds : Rows.WholePowersSaid := wholePowers.over
end Go.Proofs.Ytbnjogbbjoinnaa
