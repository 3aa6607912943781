/-
  Proves that Sqrt answers the root of any number, rounded down, of up to 10 limbs, whatever limbs come in (the statement NatRoots); no condition.
-/
import Derived.Test.YtagphmhgceajhabRows
import Derived.Test.YtagphmhgceajhabLaw
import Derived.Test.YtagphmhgceajhabSqrt
import Derived.WalkKit
import Derived.ProofKit
import Derived.OpenShut
import Derived.ShutString
import Derived.ChangeOld
import Derived.Below
namespace Go.Proofs.Ytagphmhgceajhab.natRoots
open Go.ChangeShapes Go.WideShapes Go.ChangeAt Go.RowKit
open Go.ChangeMaps (open_string shut_string)
set_option linter.unusedVariables false

theorem rep_right (m : Nat) : rightB (dg W32 m) (nl W32 m) = true := by
  unfold rightB
  refine decide_eq_true ⟨fun i _ => ?_, fun h => nl_top W32 m h⟩
  have := dg_bounds W32 m i (by decide)
  unfold W32 at this ⊢; omega

theorem root_small (x R : Nat) (hx : x < W32 ^ 10) (h : R * R ≤ x) : R < W32 ^ 10 := by
  by_cases g : R < W32 ^ 10
  · exact g
  · have : R * 1 ≤ R * R := Nat.mul_le_mul_left _ (by have : 0 < W32 ^ 10 := Nat.pow_pos (by decide); omega)
    omega

set_option maxHeartbeats 2000000 in
theorem walk (u : Value) (n0 : Nat) (f : Nat → Int) (w : World) (hu0 : Raw w u n0 f) :
    Calls Try.prog 7 #[u] w fun e w' => e = .returned (.bool true) ∧ Below w.heap.size w w' := by
  go_enter Try.func7, Try.ntmps7
  go_wp2_with fail
  refine (few_any _ _ 10 _ _ hu0 (by omega)).mono ?_
  rintro e w' ⟨u1, rfl, hu, uf, _, rfl⟩
  have hn : min n0 10 ≤ 10 := Nat.min_le_right _ _
  generalize min n0 10 = n at *
  clear hu0
  have hxl : num f n < W32 ^ 10 := Nat.lt_of_lt_of_le (num_lt f n) (Nat.pow_le_pow_right (by decide) hn)
  have hbx := nl_num f n (by omega)
  go_wp2_with fail
  refine (from_any _ _ _ _ hu uf (by omega)).mono ?_
  rintro e w1 ⟨rx, rfl, hrx, hb1⟩
  go_wp2_with fail
  refine (sqrt_any _ _ _ _ (hu.below hb1) uf (by omega)).mono ?_
  rintro e w2 ⟨r, R, rfl, hr, h1, h2, hb2⟩
  have hR := root_small _ _ hxl h1
  have hnR : nl W32 R ≤ 1000 := Nat.le_trans (nl_le W32 R 10 (by decide) hR) (by omega)
  have hdR : nl 10000 R ≤ 1000000 := Nat.le_trans (nl_small R 10 hR) (by omega)
  have hdR1 : nl 10000 (R + 1) ≤ 1000000 := Nat.le_trans (nl_small (R + 1) 11 (by
    have e : W32 ^ 11 = W32 ^ 10 * W32 := Nat.pow_succ _ _
    have e2 : W32 ^ 10 * 2 ≤ W32 ^ 10 * W32 := Nat.mul_le_mul_left _ (by decide)
    have e3 : 0 < W32 ^ 10 := Nat.pow_pos (by decide)
    omega)) (by omega)
  have hd1 : nl 10000 1 ≤ 1000000 := Nat.le_trans (nl_small 1 1 (by decide)) (by omega)
  have hrep := hr.rep
  have c1 : cmpI ((R * R : Nat) : Int) (num f n : Int) ≤ 0 := by unfold cmpI; split <;> (try split) <;> omega
  have c2 : (0 : Int) < cmpI (((R + 1) * (R + 1) : Nat) : Int) (num f n : Int) := by rw [cmpI_gt (by omega)]; omega
  have C1 : Hid (cmpI ((R * R : Nat) : Int) (num f n : Int) ≤ 0) := c1
  have C2 : Hid ((0 : Int) < cmpI (((R + 1) * (R + 1) : Nat) : Int) (num f n : Int)) := c2
  clear c1 c2 h1 h2 hR hxl
  have hfr := from_any r (nl W32 R) (dg W32 R) w2 hrep (u64_dg _ _) hnR
  rw [num_nl] at hfr
  have B2 : Below w'.heap.size w' w2 := hb1.trans (hb2.mono hb1.size)
  have HF : Hid (Calls Try.prog 18 #[r] w2 fun e w' => ∃ v, e = .returned v ∧ RepD w' v R ∧ Below w2.heap.size w2 w') := hfr
  clear hfr
  go_wp2_with fail
  refine (Hid.out HF).mono ?_
  rintro e w3 ⟨rn, rfl, hrn, hb3⟩
  have B3 : Below w'.heap.size w' w3 := B2.trans (hb3.mono B2.size)
  go_wp2_with fail
  refine (small_any 1 _ (by omega)).mono ?_
  rintro e w4 ⟨r4, rfl, hr4, hb4⟩
  have B4 : Below w'.heap.size w' w4 := B3.trans (hb4.mono B3.size)
  go_wp2_with fail
  refine (plus_any _ _ _ _ _ (hrn.below hb4) hr4 hdR hd1).mono ?_
  rintro e w5 ⟨rm, rfl, hrm, hb5⟩
  have B5 : Below w'.heap.size w' w5 := B4.trans (hb5.mono B4.size)
  go_wp2_with fail
  refine (refRight_any _ _ _ _ (((hrep.below hb3).below hb4).below hb5)).mono ?_
  rintro e w6 ⟨rfl, hw6⟩
  subst hw6
  rw [rep_right]
  go_wp2_with fail
  refine (times_any _ _ R R _ ((hrn.below hb4).below hb5) ((hrn.below hb4).below hb5) hdR hdR).mono ?_
  rintro e w7 ⟨r7, rfl, hr7, hb7⟩
  have B7 : Below w'.heap.size w' w7 := B5.trans (hb7.mono B5.size)
  go_wp2_with fail
  refine (order_any _ _ _ _ _ hr7 (((((hrx.below hb2).below hb3).below hb4).below hb5).below hb7)).mono ?_
  rintro e w8 ⟨rfl, hb8⟩
  have B8 : Below w'.heap.size w' w8 := B7.trans (hb8.mono B7.size)
  have c1 := C1.out
  generalize cmpI ((R * R : Nat) : Int) (num f n : Int) = Q1 at *
  go_wp2_with fail
  refine (times_any _ _ (R + 1) (R + 1) _ ((hrm.below hb7).below hb8) ((hrm.below hb7).below hb8) hdR1 hdR1).mono ?_
  rintro e w9 ⟨r9, rfl, hr9, hb9⟩
  have B9 : Below w'.heap.size w' w9 := B8.trans (hb9.mono B8.size)
  go_wp2_with fail
  refine (order_any _ _ _ _ _ hr9 (((((((hrx.below hb2).below hb3).below hb4).below hb5).below hb7).below hb8).below hb9)).mono ?_
  rintro e w10 ⟨rfl, hb10⟩
  have B10 : Below w'.heap.size w' w10 := B9.trans (hb10.mono B9.size)
  have c2 := C2.out
  generalize cmpI (((R + 1) * (R + 1) : Nat) : Int) (num f n : Int) = Q2 at *
  go_wp2_with fail
  refine (awake_any _).mono ?_
  rintro e w11 ⟨rfl, hb11⟩
  go_wp2
  go_ret
  exact ⟨rfl, B10.trans (hb11.mono B10.size)⟩

theorem own : ownKnob Try.prog.godebug = none := by kernel_rfl
theorem laidOut : laidOutB Try.prog = true := by kernel_rfl

set_option maxRecDepth 100000 in
theorem lifted (os : Os) (started : os.Started) (H : Type) (enc : TypeId × Value → H) :
    ReturnsInHanded {} Try.checked os 7 .any (Rows.natRootsSpec.pre6 enc Try.prog Try.f7 Rows.natRootsRow.domain false) (Rows.natRootsSpec.post enc Try.prog Try.f7 false true false false) := by
  refine returnsInHanded_of_change (C := Try.checked) own started (by kernel_rfl) Try.func7
    (ChangeSpec.witness6 (enc := enc) (C := Try.checked) false ⟨#[], #[.slice none 0 0], []⟩ 8 (by kernel_rfl) (by kernel_rfl) (by kernel_rfl) (by kernel_rfl)) ?_
  intro W base args ds gs before hval0 hW hcnd _
  have hval : ∀ (j : Nat) t v, Try.f7.params[j]? = some t → args[j]? = some v → Value.okWide Try.prog W .any base t v := hval0
  have hW' := hW
  obtain ⟨p, q, hA0, hV, rfl, hfz, hnd⟩ := hW
  have hA : DataW.TrodAll enc Try.prog W 0 (fun _ => true) true Try.f7.params.toList args.toList ds p := hA0
  rw [Try.params7] at hA hval
  obtain ⟨v0, vs0, d0, ds0, p0, q0, hargs, rfl, rfl, h0, r0⟩ := trodAll_cons hA
  obtain ⟨rfl, rfl, rfl⟩ := trodAll_nil r0
  obtain rfl : args = #[v0] := by cases args; simp_all
  obtain ⟨rfl, rfl⟩ := trodVars_none hV
  obtain ⟨a0, len0, cap0, rfl⟩ := okWide_slice Try.underlying23 (hval 0 23 v0 rfl rfl)
  have k0 := h0
  have lt0 : ∀ x ∈ p0, x.block < W.heap.size := by obtain ⟨m, hm⟩ := k0; exact DataW.trod_lt m _ _ _ hm
  obtain ⟨z0, w0⟩ : ∃ f, Raw W (.slice a0 len0 cap0) len0 f := by
    obtain ⟨fuel, hf⟩ := h0
    rcases open_ints Try.underlying23 Try.underlying50 (by kernel_rfl) hf with ⟨hcs, _⟩ | ⟨x, l, c, zs, hcs, _, hl, hm, hz, _, hcell, hwz⟩
    · simp [Value.cells] at hcs
      obtain ⟨rfl, rfl, rfl⟩ := hcs
      exact ⟨_, raw_nil W⟩
    · simp [Value.cells] at hcs
      obtain ⟨rfl, rfl, rfl⟩ := hcs
      exact ⟨_, raw_row W x _ _ zs hl hm (by simpa using hz) hcell hwz⟩
  clear hA0 hval0
  refine (walk _ _ _ W w0).mono fun e W' ⟨he, bel⟩ => ?_
  subst he
  exact ⟨_, rfl, _, _, _, [], _, [], hW', trodAll_mk1 (shut_bool Try.underlying4 _), (trodAll_cons_mk (Below.trod laidOut (by kernel_rfl) (of_decide_eq_true (by kernel_rfl)) k0 bel lt0) trodAll_mk0), rfl, bel.frame _, fun h => by cases h⟩

theorem over : Rows.natRootsRow.holds Try.pinned (OpenSpec.ofChange Rows.natRootsSpec) :=
  OpenClaim.holds_of_wide 7 Try.f7 rfl rfl rfl rfl rfl rfl rfl ⟨rfl, rfl, rfl, rfl, rfl⟩ rfl rfl rfl rfl rfl (by kernel_rfl) Try.func7 (by kernel_rfl)
    (of_decide_eq_true (by kernel_rfl)) (by unfold Func.isWrapper; first | (rw [if_pos (by decide +kernel)]; kernel_rfl) | (rw [if_neg (by decide +kernel)]; exact ⟨rfl, rfl⟩))
    (fun os started H enc _ => lifted os started H enc)

end Go.Proofs.Ytagphmhgceajhab.natRoots
namespace Go.Proofs.Ytagphmhgceajhab
/-- The statement. -/
theorem natRoots_holds : Rows.NatRootsSaid := natRoots.over
end Go.Proofs.Ytagphmhgceajhab
