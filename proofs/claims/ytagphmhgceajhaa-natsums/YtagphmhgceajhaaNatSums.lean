/-
  Proves that Add and Sub answer the sum and the difference of any two numbers, or that there is none, of up to 40 limbs each, whatever limbs come in (the statement NatSums); no condition.
-/
import Derived.Test.YtagphmhgceajhaaRows
import Derived.Test.YtagphmhgceajhaaLaw
import Derived.Test.YtagphmhgceajhaaRefMinus
import Derived.WalkKit
import Derived.ProofKit
import Derived.OpenShut
import Derived.ShutString
import Derived.ChangeOld
import Derived.Below
namespace Go.Proofs.Ytagphmhgceajhaa.natSums
open Go.ChangeShapes Go.WideShapes Go.ChangeAt Go.RowKit
open Go.ChangeMaps (open_string shut_string)
set_option linter.unusedVariables false

set_option maxHeartbeats 2000000 in
theorem walk (u : Value) (n0 : Nat) (f : Nat → Int) (v : Value) (m0 : Nat) (g : Nat → Int) (w : World) (hu0 : Raw w u n0 f) (hv0 : Raw w v m0 g) :
    Calls Try.prog 6 #[u, v] w fun e w' => e = .returned (.bool true) ∧ Below w.heap.size w w' := by
  go_enter Try.func6, Try.ntmps6
  go_wp2_with fail
  refine (few_any _ _ 40 _ _ hu0 (by omega)).mono ?_
  rintro e w' ⟨u1, rfl, hu, uf, _, rfl⟩
  have hn : min n0 40 ≤ 40 := Nat.min_le_right _ _
  generalize min n0 40 = n at *
  go_wp2_with fail
  refine (few_any _ _ 40 _ _ hv0 (by omega)).mono ?_
  rintro e w' ⟨v1, rfl, hv, vf, _, rfl⟩
  have hm : min m0 40 ≤ 40 := Nat.min_le_right _ _
  generalize min m0 40 = m at *
  clear hu0 hv0
  have hx := nl_le W32 (num f n) n (by decide) (num_lt f n)
  have hy := nl_le W32 (num g m) m (by decide) (num_lt g m)
  have hbx := nl_num f n (by omega)
  have hby := nl_num g m (by omega)
  have hsl : nl W32 (num f n + num g m) ≤ 41 := nl_le W32 _ _ (by decide) (by
    have h1 := Nat.lt_of_lt_of_le (num_lt f n) (Nat.pow_le_pow_right (n := W32) (by decide) hn)
    have h2 := Nat.lt_of_lt_of_le (num_lt g m) (Nat.pow_le_pow_right (n := W32) (by decide) hm)
    have h3 : W32 ^ 40 * 2 ≤ W32 ^ 41 := by decide +kernel
    omega)
  have hdl : nl W32 (num f n - num g m) ≤ 41 := nl_le W32 _ _ (by decide) (by
    have h1 := Nat.lt_of_lt_of_le (num_lt f n) (Nat.pow_le_pow_right (n := W32) (by decide) (show n ≤ 41 by omega))
    omega)
  go_wp2_with fail
  refine (from_any _ _ _ _ hu uf (by omega)).mono ?_
  rintro e w1 ⟨r1, rfl, hr1, hb1⟩
  go_wp2_with fail
  refine (from_any _ _ _ _ (hv.below hb1) vf (by omega)).mono ?_
  rintro e w2 ⟨r2, rfl, hr2, hb2⟩
  have hr1' := hr1.below hb2
  have B2 : Below w'.heap.size w' w2 := hb1.trans (hb2.mono hb1.size)
  clear hr1 hb1 hb2
  go_wp2_with fail
  by_cases hlt : num f n < num g m
  · have hc : cmpI (num f n) (num g m) = -1 := cmpI_lt (by omega)
    refine (sub_neg _ _ _ _ _ _ _ (hu.below B2) (hv.below B2) uf vf hlt).mono ?_
    rintro e w3 ⟨rfl, hb3⟩
    have B3 : Below w'.heap.size w' w3 := B2.trans (hb3.mono B2.size)
    go_wp2_with fail
    refine (add_any _ _ _ _ _ _ _ (hu.below B3) (hv.below B3) uf vf (by omega) (by omega)).mono ?_
    rintro e w4 ⟨ra, rfl, hra, hb4⟩
    have B4 : Below w'.heap.size w' w4 := B3.trans (hb4.mono B3.size)
    go_wp2_with fail
    refine (plus_any _ _ _ _ _ ((hr1'.below hb3).below hb4) ((hr2.below hb3).below hb4) (by omega) (by omega)).mono ?_
    rintro e w5 ⟨rp, rfl, hrp, hb5⟩
    have B5 : Below w'.heap.size w' w5 := B4.trans (hb5.mono B4.size)
    go_wp2_with fail
    refine (is_rep _ _ _ _ _ (hra.rep.below hb5) (by omega) hrp rfl).mono ?_
    rintro e w6 ⟨rfl, hb6⟩
    have B6 : Below w'.heap.size w' w6 := B5.trans (hb6.mono B5.size)
    go_wp2_with fail
    refine (order_any _ _ _ _ _ ((((hr1'.below hb3).below hb4).below hb5).below hb6) ((((hr2.below hb3).below hb4).below hb5).below hb6)).mono ?_
    rintro e w7 ⟨rfl, hb7⟩
    rw [hc]
    have B7 : Below w'.heap.size w' w7 := B6.trans (hb7.mono B6.size)
    go_wp2_with fail
    refine (awake_any _).mono ?_
    rintro e w8 ⟨rfl, hb8⟩
    go_wp2
    go_ret
    exact ⟨rfl, B7.trans (hb8.mono B7.size)⟩
  · have hc : ¬ cmpI (num f n) (num g m) < 0 := by unfold cmpI; rw [if_neg (by omega)]; split <;> omega
    refine (sub_ok _ _ _ _ _ _ _ (hu.below B2) (hv.below B2) uf vf (by omega)).mono ?_
    rintro e w3 ⟨rd, rfl, hrd, hb3⟩
    have B3 : Below w'.heap.size w' w3 := B2.trans (hb3.mono B2.size)
    go_wp2_with fail
    refine (add_any _ _ _ _ _ _ _ (hu.below B3) (hv.below B3) uf vf (by omega) (by omega)).mono ?_
    rintro e w4 ⟨ra, rfl, hra, hb4⟩
    have B4 : Below w'.heap.size w' w4 := B3.trans (hb4.mono B3.size)
    go_wp2_with fail
    refine (plus_any _ _ _ _ _ ((hr1'.below hb3).below hb4) ((hr2.below hb3).below hb4) (by omega) (by omega)).mono ?_
    rintro e w5 ⟨rp, rfl, hrp, hb5⟩
    have B5 : Below w'.heap.size w' w5 := B4.trans (hb5.mono B4.size)
    go_wp2_with fail
    refine (is_rep _ _ _ _ _ (hra.rep.below hb5) (by omega) hrp rfl).mono ?_
    rintro e w6 ⟨rfl, hb6⟩
    have B6 : Below w'.heap.size w' w6 := B5.trans (hb6.mono B5.size)
    have h16 := (((hr1'.below hb3).below hb4).below hb5).below hb6
    have h26 := (((hr2.below hb3).below hb4).below hb5).below hb6
    have hd6 := ((hrd.rep.below hb4).below hb5).below hb6
    go_wp2_with fail
    refine (order_any _ _ _ _ _ h16 h26).mono ?_
    rintro e w7 ⟨rfl, hb7⟩
    have B7 : Below w'.heap.size w' w7 := B6.trans (hb7.mono B6.size)
    generalize cmpI (num f n) (num g m) = C at *
    go_wp2_with fail
    refine (minus_any _ _ _ _ _ (h16.below hb7) (h26.below hb7) (by omega) (by omega)).mono ?_
    rintro e w8 ⟨rm, rfl, hrm, hb8⟩
    have B8 : Below w'.heap.size w' w8 := B7.trans (hb8.mono B7.size)
    go_wp2_with fail
    refine (is_rep _ _ _ _ _ ((hd6.below hb7).below hb8) (by omega) hrm rfl).mono ?_
    rintro e w9 ⟨rfl, hb9⟩
    have B9 : Below w'.heap.size w' w9 := B8.trans (hb9.mono B8.size)
    go_wp2_with fail
    refine (awake_any _).mono ?_
    rintro e w10 ⟨rfl, hb10⟩
    go_wp2
    go_ret
    exact ⟨rfl, B9.trans (hb10.mono B9.size)⟩

theorem own : ownKnob Try.prog.godebug = none := by kernel_rfl
theorem laidOut : laidOutB Try.prog = true := by kernel_rfl

set_option maxRecDepth 100000 in
theorem lifted (os : Os) (started : os.Started) (H : Type) (enc : TypeId × Value → H) :
    ReturnsInHanded {} Try.checked os 6 .any (Rows.natSumsSpec.pre6 enc Try.prog Try.f6 Rows.natSumsRow.domain false) (Rows.natSumsSpec.post enc Try.prog Try.f6 false true false false) := by
  refine returnsInHanded_of_change (C := Try.checked) own started (by kernel_rfl) Try.func6
    (ChangeSpec.witness6 (enc := enc) (C := Try.checked) false ⟨#[], #[.slice none 0 0, .slice none 0 0], []⟩ 8 (by kernel_rfl) (by kernel_rfl) (by kernel_rfl) (by kernel_rfl)) ?_
  intro W base args ds gs before hval0 hW hcnd _
  have hval : ∀ (j : Nat) t v, Try.f6.params[j]? = some t → args[j]? = some v → Value.okWide Try.prog W .any base t v := hval0
  have hW' := hW
  obtain ⟨p, q, hA0, hV, rfl, hfz, hnd⟩ := hW
  have hA : DataW.TrodAll enc Try.prog W 0 (fun _ => true) true Try.f6.params.toList args.toList ds p := hA0
  rw [Try.params6] at hA hval
  obtain ⟨v0, vs0, d0, ds0, p0, q0, hargs, rfl, rfl, h0, r0⟩ := trodAll_cons hA
  obtain ⟨v1, vs1, d1, ds1, p1, q1, rfl, rfl, rfl, h1, r1⟩ := trodAll_cons r0
  obtain ⟨rfl, rfl, rfl⟩ := trodAll_nil r1
  obtain rfl : args = #[v0, v1] := by cases args; simp_all
  obtain ⟨rfl, rfl⟩ := trodVars_none hV
  obtain ⟨a0, len0, cap0, rfl⟩ := okWide_slice Try.underlying23 (hval 0 23 v0 rfl rfl)
  have k0 := h0
  have lt0 : ∀ x ∈ p0, x.block < W.heap.size := by obtain ⟨m, hm⟩ := k0; exact DataW.trod_lt m _ _ _ hm
  obtain ⟨z0, w0⟩ : ∃ f, Raw W (.slice a0 len0 cap0) len0 f := by
    obtain ⟨fuel, hf⟩ := h0
    rcases open_ints Try.underlying23 Try.underlying29 (by kernel_rfl) hf with ⟨hcs, _⟩ | ⟨x, l, c, zs, hcs, _, hl, hm, hz, _, hcell, hwz⟩
    · simp [Value.cells] at hcs
      obtain ⟨rfl, rfl, rfl⟩ := hcs
      exact ⟨_, raw_nil W⟩
    · simp [Value.cells] at hcs
      obtain ⟨rfl, rfl, rfl⟩ := hcs
      exact ⟨_, raw_row W x _ _ zs hl hm (by simpa using hz) hcell hwz⟩
  obtain ⟨a1, len1, cap1, rfl⟩ := okWide_slice Try.underlying23 (hval 1 23 v1 rfl rfl)
  have k1 := h1
  have lt1 : ∀ x ∈ p1, x.block < W.heap.size := by obtain ⟨m, hm⟩ := k1; exact DataW.trod_lt m _ _ _ hm
  obtain ⟨z1, w1⟩ : ∃ f, Raw W (.slice a1 len1 cap1) len1 f := by
    obtain ⟨fuel, hf⟩ := h1
    rcases open_ints Try.underlying23 Try.underlying29 (by kernel_rfl) hf with ⟨hcs, _⟩ | ⟨x, l, c, zs, hcs, _, hl, hm, hz, _, hcell, hwz⟩
    · simp [Value.cells] at hcs
      obtain ⟨rfl, rfl, rfl⟩ := hcs
      exact ⟨_, raw_nil W⟩
    · simp [Value.cells] at hcs
      obtain ⟨rfl, rfl, rfl⟩ := hcs
      exact ⟨_, raw_row W x _ _ zs hl hm (by simpa using hz) hcell hwz⟩
  clear hA0 hval0
  refine (walk _ _ _ _ _ _ W w0 w1).mono fun e W' ⟨he, bel⟩ => ?_
  subst he
  exact ⟨_, rfl, _, _, _, [], _, [], hW', trodAll_mk1 (shut_bool Try.underlying4 _), (trodAll_cons_mk (Below.trod laidOut (by kernel_rfl) (of_decide_eq_true (by kernel_rfl)) k0 bel lt0) (trodAll_cons_mk (Below.trod laidOut (by kernel_rfl) (of_decide_eq_true (by kernel_rfl)) k1 bel lt1) trodAll_mk0)), rfl, bel.frame _, fun h => by cases h⟩

theorem over : Rows.natSumsRow.holds Try.pinned (OpenSpec.ofChange Rows.natSumsSpec) :=
  OpenClaim.holds_of_wide 6 Try.f6 rfl rfl rfl rfl rfl rfl rfl ⟨rfl, rfl, rfl, rfl, rfl⟩ rfl rfl rfl rfl rfl (by kernel_rfl) Try.func6 (by kernel_rfl)
    (of_decide_eq_true (by kernel_rfl)) (by unfold Func.isWrapper; first | (rw [if_pos (by decide +kernel)]; kernel_rfl) | (rw [if_neg (by decide +kernel)]; exact ⟨rfl, rfl⟩))
    (fun os started H enc _ => lifted os started H enc)

end Go.Proofs.Ytagphmhgceajhaa.natSums
namespace Go.Proofs.Ytagphmhgceajhaa
/-- The statement. -/
theorem natSums_holds : Rows.NatSumsSaid := natSums.over
end Go.Proofs.Ytagphmhgceajhaa
