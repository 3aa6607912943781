/-
  Proves that quotient times divisor, and the rest, is the number, the rest being less than the divisor, of any two numbers of up to 60 limbs each, whatever limbs come in (the statement NatDivides); no condition.
-/
import Derived.Test.YtagphmhgceajhabRows
import Derived.Test.YtagphmhgceajhabLaw
import Derived.Test.YtagphmhgceajhabSum
import Derived.Test.YtagphmhgceajhabDivAll
import Derived.WalkKit
import Derived.ProofKit
import Derived.OpenShut
import Derived.ShutString
import Derived.ChangeOld
import Derived.Below
namespace Go.Proofs.Ytagphmhgceajhab.natDivides
open Go.ChangeShapes Go.WideShapes Go.ChangeAt Go.RowKit
open Go.ChangeMaps (open_string shut_string)
set_option linter.unusedVariables false

theorem short_one (x y : Nat) (hx : x < W32 ^ 60) : nl W32 (x / y) < 40 ∨ nl W32 y < 40 := by
  by_cases h1 : nl W32 (x / y) < 40
  · exact .inl h1
  · by_cases h2 : nl W32 y < 40
    · exact .inr h2
    · exfalso
      have a1 := pow_le_of_nl W32 (x / y) (by omega)
      have a2 := pow_le_of_nl W32 y (by omega)
      have b1 : W32 ^ 39 ≤ x / y := Nat.le_trans (Nat.pow_le_pow_right (by decide) (by omega)) a1
      have b2 : W32 ^ 39 ≤ y := Nat.le_trans (Nat.pow_le_pow_right (by decide) (by omega)) a2
      have b3 : W32 ^ 39 * W32 ^ 39 ≤ x / y * y := Nat.mul_le_mul b1 b2
      have b4 := Nat.div_mul_le_self x y
      have b5 : W32 ^ 60 ≤ W32 ^ 39 * W32 ^ 39 := by decide +kernel
      omega

theorem rep_right (m : Nat) : rightB (dg W32 m) (nl W32 m) = true := by
  unfold rightB
  refine decide_eq_true ⟨fun i _ => ?_, fun h => nl_top W32 m h⟩
  have := dg_bounds W32 m i (by decide)
  unfold W32 at this ⊢; omega

set_option maxHeartbeats 400000 in
theorem mul_nl (u v : Value) (n m : Nat) (f g : Nat → Int) (w : World) (hu : Nums .u64 w u n f) (hv : Nums .u64 w v m g) (hf : U64 n f) (hg : U64 m g) (h40 : nl W32 (num f n) < 40 ∨ nl W32 (num g m) < 40) (hn : n ≤ 1000000) (hm : m ≤ 1000000) :
    Calls Try.prog 15 #[u, v] w fun e w' => ∃ r, e = .returned r ∧ RepM w.heap.size w' r (num f n * num g m) ∧ Below w.heap.size w w' := by
  have hx := nl_le W32 (num f n) n (by decide) (num_lt f n)
  have hy := nl_le W32 (num g m) m (by decide) (num_lt g m)
  go_enter Try.func15, Try.ntmps15
  go_wp2_with fail
  refine (plain_any _ _ _ _ hu hf).mono ?_
  rintro e w1 ⟨r1, rfl, hr1, hb1⟩
  go_wp2_with fail
  refine (plain_any _ _ _ _ (hv.below hb1) hg).mono ?_
  rintro e w2 ⟨r2, rfl, hr2, hb2⟩
  go_wp2_with fail
  refine (product_any _ _ _ _ _ (Nums.below hr1 hb2) hr2 h40 (by omega) (by omega)).mono ?_
  rintro e w3 ⟨r, rfl, hr, hb3⟩
  go_wp2
  go_ret
  have := hb1.size
  have := hb2.size
  exact ⟨_, rfl, hr.le (by omega), hb1.trans ((hb2.mono (by omega)).trans (hb3.mono (by omega)))⟩

set_option maxHeartbeats 2000000 in
theorem walk (u : Value) (n0 : Nat) (f : Nat → Int) (v : Value) (m0 : Nat) (g : Nat → Int) (w : World) (hu0 : Raw w u n0 f) (hv0 : Raw w v m0 g) :
    Calls Try.prog 3 #[u, v] w fun e w' => e = .returned (.bool true) ∧ Below w.heap.size w w' := by
  go_enter Try.func3, Try.ntmps3
  go_wp2_with fail
  refine (few_any _ _ 60 _ _ hu0 (by omega)).mono ?_
  rintro e w' ⟨u1, rfl, hu, uf, _, rfl⟩
  have hn : min n0 60 ≤ 60 := Nat.min_le_right _ _
  generalize min n0 60 = n at *
  go_wp2_with fail
  refine (few_any _ _ 60 _ _ hv0 (by omega)).mono ?_
  rintro e w' ⟨v1, rfl, hv, vf, _, rfl⟩
  have hm : min m0 60 ≤ 60 := Nat.min_le_right _ _
  generalize min m0 60 = m at *
  clear hu0 hv0
  have hx := nl_le W32 (num f n) n (by decide) (num_lt f n)
  have hy := nl_le W32 (num g m) m (by decide) (num_lt g m)
  have hxl : num f n < W32 ^ 60 := Nat.lt_of_lt_of_le (num_lt f n) (Nat.pow_le_pow_right (by decide) hn)
  by_cases h0 : num g m = 0
  · have hz : decide (sz (lo g) m = 0) = true := by
      rw [num_sz]; simp only [decide_eq_true_eq]; rw [nl_eq_zero W32 _ (by decide)]; exact h0
    go_wp2_with fail
    refine (divMod_zero _ _ _ _ _ hv vf h0).mono ?_
    rintro e w1 ⟨rfl, rfl⟩
    go_wp2_with fail
    refine (zero_any _ _ _ _ hv vf).mono ?_
    rintro e w1 ⟨rfl, rfl⟩
    rw [hz]
    go_wp2_with fail
    refine (awake_any _).mono ?_
    rintro e w7 ⟨rfl, hb7⟩
    go_wp2
    go_ret
    exact ⟨rfl, hb7⟩
  · have hz : decide (sz (lo g) m = 0) = false := by
      rw [num_sz]; simp only [decide_eq_false_iff_not]; rw [nl_eq_zero W32 _ (by decide)]; exact h0
    have h40 := short_one (num f n) (num g m) hxl
    have hql : nl W32 (num f n / num g m) ≤ 60 := nl_le W32 _ _ (by decide) (Nat.lt_of_le_of_lt (Nat.div_le_self _ _) hxl)
    have hrl : nl W32 (num f n % num g m) ≤ 60 := nl_le W32 _ _ (by decide) (Nat.lt_of_le_of_lt (Nat.mod_le _ _) hxl)
    have hdm : num f n / num g m * num g m + num f n % num g m = num f n := by rw [Nat.mul_comm]; exact Nat.div_add_mod _ _
    have hpl : nl W32 (num f n / num g m * num g m) ≤ 60 := nl_le W32 _ _ (by decide) (by omega)
    have hrm := Nat.mod_lt (num f n) (show num g m > 0 by omega)
    go_wp2_with fail
    refine (divMod_of _ _ _ _ _ _ _ hu hv uf vf h0 (divide_any _ _ (by omega) (by omega))).mono ?_
    rintro e w1 ⟨q, r, rfl, hq, hr, hb1⟩
    go_wp2_with fail
    refine (zero_any _ _ _ _ (hv.below hb1) vf).mono ?_
    rintro e w2 ⟨rfl, hw2⟩
    subst hw2
    rw [hz]
    go_wp2_with fail
    refine (refRight_any _ _ _ _ hq.rep).mono ?_
    rintro e w3 ⟨rfl, hw3⟩
    subst hw3
    rw [rep_right]
    go_wp2_with fail
    refine (refRight_any _ _ _ _ hr.rep).mono ?_
    rintro e w3 ⟨rfl, hw3⟩
    subst hw3
    rw [rep_right]
    go_wp2_with fail
    refine (cmp_any _ _ _ _ _ _ _ hr.rep (hv.below hb1) (u64_dg _ _) vf).mono ?_
    rintro e w4 ⟨rfl, hb4⟩
    rw [num_nl, cmpI_lt (by omega)]
    have hs1 := hb1.size
    have hs4 := hb4.size
    have q4 : Nums .u64 w4 q _ _ := hq.rep.below hb4
    have r4 : Nums .u64 w4 r _ _ := hr.rep.below hb4
    have B4 : Below w'.heap.size w' w4 := hb1.trans (hb4.mono hs1)
    clear hq hr hb1 hb4
    go_wp2_with fail
    refine (mul_nl _ _ _ _ _ _ _ q4 (hv.below B4) (u64_dg _ _) vf (by rw [num_nl]; exact h40) (by omega) (by omega)).mono ?_
    rintro e w5 ⟨p, rfl, hp, hb5⟩
    rw [num_nl] at hp
    have B5 : Below w'.heap.size w' w5 := B4.trans (hb5.mono B4.size)
    go_wp2_with fail
    refine (add_any _ _ _ _ _ _ _ hp.rep (r4.below hb5) (u64_dg _ _) (u64_dg _ _) (by omega) (by omega)).mono ?_
    rintro e w6 ⟨t, rfl, ht, hb6⟩
    rw [num_nl, num_nl, hdm] at ht
    have B6 : Below w'.heap.size w' w6 := B5.trans (hb6.mono B5.size)
    go_wp2_with fail
    refine (cmp_any _ _ _ _ _ _ _ ht.rep (hu.below B6) (u64_dg _ _) uf).mono ?_
    rintro e w7 ⟨rfl, hb7⟩
    rw [num_nl, cmpI_eq rfl]
    have B7 : Below w'.heap.size w' w7 := B6.trans (hb7.mono B6.size)
    go_wp2_with fail
    refine (awake_any _).mono ?_
    rintro e w8 ⟨rfl, hb8⟩
    go_wp2
    go_ret
    exact ⟨rfl, B7.trans (hb8.mono B7.size)⟩

theorem own : ownKnob Try.prog.godebug = none := by kernel_rfl
theorem laidOut : laidOutB Try.prog = true := by kernel_rfl

set_option maxRecDepth 100000 in
theorem lifted (os : Os) (started : os.Started) (H : Type) (enc : TypeId × Value → H) :
    ReturnsInHanded {} Try.checked os 3 .any (Rows.natDividesSpec.pre6 enc Try.prog Try.f3 Rows.natDividesRow.domain false) (Rows.natDividesSpec.post enc Try.prog Try.f3 false true false false) := by
  refine returnsInHanded_of_change (C := Try.checked) own started (by kernel_rfl) Try.func3
    (ChangeSpec.witness6 (enc := enc) (C := Try.checked) false ⟨#[], #[.slice none 0 0, .slice none 0 0], []⟩ 8 (by kernel_rfl) (by kernel_rfl) (by kernel_rfl) (by kernel_rfl)) ?_
  intro W base args ds gs before hval0 hW hcnd _
  have hval : ∀ (j : Nat) t v, Try.f3.params[j]? = some t → args[j]? = some v → Value.okWide Try.prog W .any base t v := hval0
  have hW' := hW
  obtain ⟨p, q, hA0, hV, rfl, hfz, hnd⟩ := hW
  have hA : DataW.TrodAll enc Try.prog W 0 (fun _ => true) true Try.f3.params.toList args.toList ds p := hA0
  rw [Try.params3] at hA hval
  obtain ⟨v0, vs0, d0, ds0, p0, q0, hargs, rfl, rfl, h0, r0⟩ := trodAll_cons hA
  obtain ⟨v1, vs1, d1, ds1, p1, q1, rfl, rfl, rfl, h1, r1⟩ := trodAll_cons r0
  obtain ⟨rfl, rfl, rfl⟩ := trodAll_nil r1
  obtain rfl : args = #[v0, v1] := by cases args; simp_all
  obtain ⟨rfl, rfl⟩ := trodVars_none hV
  obtain ⟨a0, len0, cap0, rfl⟩ := okWide_slice Try.underlying23 (hval 0 23 v0 rfl rfl)
  have k0 := h0
  have lt0 : ∀ x ∈ p0, x.block < W.heap.size := by obtain ⟨m, hm⟩ := k0; exact DataW.trod_lt m _ _ _ hm
  obtain ⟨z0, w0⟩ : ∃ f, Raw W (.slice a0 len0 cap0) len0 f := by
    obtain ⟨fuel, hf⟩ := h0
    rcases open_ints Try.underlying23 Try.underlying50 (by kernel_rfl) hf with ⟨hcs, _⟩ | ⟨x, l, c, zs, hcs, _, hl, hm, hz, _, hcell, hwz⟩
    · simp [Value.cells] at hcs
      obtain ⟨rfl, rfl, rfl⟩ := hcs
      exact ⟨_, raw_nil W⟩
    · simp [Value.cells] at hcs
      obtain ⟨rfl, rfl, rfl⟩ := hcs
      exact ⟨_, raw_row W x _ _ zs hl hm (by simpa using hz) hcell hwz⟩
  obtain ⟨a1, len1, cap1, rfl⟩ := okWide_slice Try.underlying23 (hval 1 23 v1 rfl rfl)
  have k1 := h1
  have lt1 : ∀ x ∈ p1, x.block < W.heap.size := by obtain ⟨m, hm⟩ := k1; exact DataW.trod_lt m _ _ _ hm
  obtain ⟨z1, w1⟩ : ∃ f, Raw W (.slice a1 len1 cap1) len1 f := by
    obtain ⟨fuel, hf⟩ := h1
    rcases open_ints Try.underlying23 Try.underlying50 (by kernel_rfl) hf with ⟨hcs, _⟩ | ⟨x, l, c, zs, hcs, _, hl, hm, hz, _, hcell, hwz⟩
    · simp [Value.cells] at hcs
      obtain ⟨rfl, rfl, rfl⟩ := hcs
      exact ⟨_, raw_nil W⟩
    · simp [Value.cells] at hcs
      obtain ⟨rfl, rfl, rfl⟩ := hcs
      exact ⟨_, raw_row W x _ _ zs hl hm (by simpa using hz) hcell hwz⟩
  clear hA0 hval0
  refine (walk _ _ _ _ _ _ W w0 w1).mono fun e W' ⟨he, bel⟩ => ?_
  subst he
  exact ⟨_, rfl, _, _, _, [], _, [], hW', trodAll_mk1 (shut_bool Try.underlying4 _), (trodAll_cons_mk (Below.trod laidOut (by kernel_rfl) (of_decide_eq_true (by kernel_rfl)) k0 bel lt0) (trodAll_cons_mk (Below.trod laidOut (by kernel_rfl) (of_decide_eq_true (by kernel_rfl)) k1 bel lt1) trodAll_mk0)), rfl, bel.frame _, fun h => by cases h⟩

theorem over : Rows.natDividesRow.holds Try.pinned (OpenSpec.ofChange Rows.natDividesSpec) :=
  OpenClaim.holds_of_wide 3 Try.f3 rfl rfl rfl rfl rfl rfl rfl ⟨rfl, rfl, rfl, rfl, rfl⟩ rfl rfl rfl rfl rfl (by kernel_rfl) Try.func3 (by kernel_rfl)
    (of_decide_eq_true (by kernel_rfl)) (by unfold Func.isWrapper; first | (rw [if_pos (by decide +kernel)]; kernel_rfl) | (rw [if_neg (by decide +kernel)]; exact ⟨rfl, rfl⟩))
    (fun os started H enc _ => lifted os started H enc)

end Go.Proofs.Ytagphmhgceajhab.natDivides
namespace Go.Proofs.Ytagphmhgceajhab
/-- The statement. -/
theorem natDivides_holds : Rows.NatDividesSaid := natDivides.over
end Go.Proofs.Ytagphmhgceajhab
