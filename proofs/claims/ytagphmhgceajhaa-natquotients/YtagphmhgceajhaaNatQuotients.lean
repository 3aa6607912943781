/-
  Proves that DivMod answers the quotient and the rest of any two numbers, or that there is none, of up to 16 limbs each, whatever limbs come in (the statement NatQuotients); no condition.
-/
import Derived.Test.YtagphmhgceajhaaRows
import Derived.Test.YtagphmhgceajhaaLaw
import Derived.Test.YtagphmhgceajhaaRefOver
import Derived.Test.YtagphmhgceajhaaDivAll
import Derived.WalkKit
import Derived.ProofKit
import Derived.OpenShut
import Derived.ShutString
import Derived.ChangeOld
import Derived.Below
namespace Go.Proofs.Ytagphmhgceajhaa.natQuotients
open Go.ChangeShapes Go.WideShapes Go.ChangeAt Go.RowKit
open Go.ChangeMaps (open_string shut_string)
set_option linter.unusedVariables false

set_option maxHeartbeats 2000000 in
theorem walk (u : Value) (n0 : Nat) (f : Nat → Int) (v : Value) (m0 : Nat) (g : Nat → Int) (w : World) (hu0 : Raw w u n0 f) (hv0 : Raw w v m0 g) :
    Calls Try.prog 8 #[u, v] w fun e w' => e = .returned (.bool true) ∧ Below w.heap.size w w' := by
  go_enter Try.func8, Try.ntmps8
  go_wp2_with fail
  refine (few_any _ _ 16 _ _ hu0 (by omega)).mono ?_
  rintro e w' ⟨u1, rfl, hu, uf, _, rfl⟩
  have hn : min n0 16 ≤ 16 := Nat.min_le_right _ _
  generalize min n0 16 = n at *
  go_wp2_with fail
  refine (few_any _ _ 16 _ _ hv0 (by omega)).mono ?_
  rintro e w' ⟨v1, rfl, hv, vf, _, rfl⟩
  have hm : min m0 16 ≤ 16 := Nat.min_le_right _ _
  generalize min m0 16 = m at *
  clear hu0 hv0
  have hx := nl_le W32 (num f n) n (by decide) (num_lt f n)
  have hbx := nl_num f n (by omega)
  have hby := nl_num g m (by omega)
  have hxl : num f n < W32 ^ 16 := Nat.lt_of_lt_of_le (num_lt f n) (Nat.pow_le_pow_right (by decide) hn)
  by_cases h0 : num g m = 0
  · go_wp2_with fail
    refine (divMod_zero _ _ _ _ _ hv vf h0).mono ?_
    rintro e w1 ⟨rfl, hw1⟩
    subst hw1
    go_wp2_with fail
    refine (from_any _ _ _ _ hv vf (by omega)).mono ?_
    rintro e w2 ⟨r2, rfl, hr2, hb2⟩
    obtain ⟨ao, c, rfl, _⟩ := hr2
    have hz : nl 10000 (num g m) = 0 := by rw [h0]; exact nl_zero _
    rw [hz]
    go_wp2_with fail
    refine (awake_any _).mono ?_
    rintro e w7 ⟨rfl, hb7⟩
    go_wp2
    go_ret
    exact ⟨rfl, hb2.trans (hb7.mono hb2.size)⟩
  · have hql : nl W32 (num f n / num g m) ≤ 16 := nl_le W32 _ _ (by decide) (Nat.lt_of_le_of_lt (Nat.div_le_self _ _) hxl)
    have hrl : nl W32 (num f n % num g m) ≤ 16 := nl_le W32 _ _ (by decide) (Nat.lt_of_le_of_lt (Nat.mod_le _ _) hxl)
    go_wp2_with fail
    refine (divMod_of _ _ _ _ _ _ _ hu hv uf vf h0 (divide_any _ _ (by omega) (by omega))).mono ?_
    rintro e w1 ⟨q, r, rfl, hq, hr, hb1⟩
    go_wp2_with fail
    refine (from_any _ _ _ _ (hv.below hb1) vf (by omega)).mono ?_
    rintro e w2 ⟨r2, rfl, hr2, hb2⟩
    have hr2' := hr2
    obtain ⟨ao, c, rfl, _⟩ := hr2'
    have hz : ((nl 10000 (num g m) : Int) == 0) = false := by
      have := mt (nl_eq_zero 10000 (num g m) (by decide)).1 h0
      simp; omega
    have HY : Hid (nl 10000 (num g m) ≤ 3000) := hby
    have B2 : Below w'.heap.size w' w2 := hb1.trans (hb2.mono hb1.size)
    have hpos : 0 < num g m := by omega
    have hq2 := hq.rep.below hb2
    have hr3 := hr.rep.below hb2
    have HOV : Hid (∀ (u : Value) (w : World), RepD w u (num f n) → RepD w (.slice ao (nl 10000 (num g m)) c) (num g m) → Calls Try.prog 31 #[u, .slice ao (nl 10000 (num g m)) c] w fun e w' => ∃ q r, e = .returned (.tuple #[q, r]) ∧ RepD w' q (num f n / num g m) ∧ RepD w' r (num f n % num g m) ∧ Below w.heap.size w w') :=
      fun u w h1 h2 => over_any _ _ _ _ w h1 h2 hpos (by omega) (by omega)
    clear hby hb1 hb2 hq hr
    generalize nl 10000 (num g m) = ly at *
    go_wp2_with fail
    refine (from_any _ _ _ _ (hu.below B2) uf (by omega)).mono ?_
    rintro e w3 ⟨r3, rfl, hr3', hb3⟩
    have B3 : Below w'.heap.size w' w3 := B2.trans (hb3.mono B2.size)
    go_wp2_with fail
    refine (HOV.out _ _ hr3' (hr2.below hb3)).mono ?_
    rintro e w4 ⟨x4, z4, rfl, hx4, hz4, hb4⟩
    have B4 : Below w'.heap.size w' w4 := B3.trans (hb4.mono B3.size)
    go_wp2_with fail
    refine (is_rep _ _ _ _ _ ((hq2.below hb3).below hb4) (by omega) hx4 rfl).mono ?_
    rintro e w5 ⟨rfl, hb5⟩
    have B5 : Below w'.heap.size w' w5 := B4.trans (hb5.mono B4.size)
    go_wp2_with fail
    refine (is_rep _ _ _ _ _ (((hr3.below hb3).below hb4).below hb5) (by omega) (hz4.below hb5) rfl).mono ?_
    rintro e w6 ⟨rfl, hb6⟩
    have B6 : Below w'.heap.size w' w6 := B5.trans (hb6.mono B5.size)
    go_wp2_with fail
    refine (awake_any _).mono ?_
    rintro e w7 ⟨rfl, hb7⟩
    go_wp2
    go_ret
    exact ⟨rfl, B6.trans (hb7.mono B6.size)⟩

theorem own : ownKnob Try.prog.godebug = none := by kernel_rfl
theorem laidOut : laidOutB Try.prog = true := by kernel_rfl

set_option maxRecDepth 100000 in
theorem lifted (os : Os) (started : os.Started) (H : Type) (enc : TypeId × Value → H) :
    ReturnsInHanded {} Try.checked os 8 .any (Rows.natQuotientsSpec.pre6 enc Try.prog Try.f8 Rows.natQuotientsRow.domain false) (Rows.natQuotientsSpec.post enc Try.prog Try.f8 false true false false) := by
  refine returnsInHanded_of_change (C := Try.checked) own started (by kernel_rfl) Try.func8
    (ChangeSpec.witness6 (enc := enc) (C := Try.checked) false ⟨#[], #[.slice none 0 0, .slice none 0 0], []⟩ 8 (by kernel_rfl) (by kernel_rfl) (by kernel_rfl) (by kernel_rfl)) ?_
  intro W base args ds gs before hval0 hW hcnd _
  have hval : ∀ (j : Nat) t v, Try.f8.params[j]? = some t → args[j]? = some v → Value.okWide Try.prog W .any base t v := hval0
  have hW' := hW
  obtain ⟨p, q, hA0, hV, rfl, hfz, hnd⟩ := hW
  have hA : DataW.TrodAll enc Try.prog W 0 (fun _ => true) true Try.f8.params.toList args.toList ds p := hA0
  rw [Try.params8] at hA hval
  obtain ⟨v0, vs0, d0, ds0, p0, q0, hargs, rfl, rfl, h0, r0⟩ := trodAll_cons hA
  obtain ⟨v1, vs1, d1, ds1, p1, q1, rfl, rfl, rfl, h1, r1⟩ := trodAll_cons r0
  obtain ⟨rfl, rfl, rfl⟩ := trodAll_nil r1
  obtain rfl : args = #[v0, v1] := by cases args; simp_all
  obtain ⟨rfl, rfl⟩ := trodVars_none hV
  obtain ⟨a0, len0, cap0, rfl⟩ := okWide_slice Try.underlying23 (hval 0 23 v0 rfl rfl)
  have k0 := h0
  have lt0 : ∀ x ∈ p0, x.block < W.heap.size := by obtain ⟨m, hm⟩ := k0; exact DataW.trod_lt m _ _ _ hm
  obtain ⟨z0, w0⟩ : ∃ f, Raw W (.slice a0 len0 cap0) len0 f := by
    obtain ⟨fuel, hf⟩ := h0
    rcases open_ints Try.underlying23 Try.underlying29 (by kernel_rfl) hf with ⟨hcs, _⟩ | ⟨x, l, c, zs, hcs, _, hl, hm, hz, _, hcell, hwz⟩
    · simp [Value.cells] at hcs
      obtain ⟨rfl, rfl, rfl⟩ := hcs
      exact ⟨_, raw_nil W⟩
    · simp [Value.cells] at hcs
      obtain ⟨rfl, rfl, rfl⟩ := hcs
      exact ⟨_, raw_row W x _ _ zs hl hm (by simpa using hz) hcell hwz⟩
  obtain ⟨a1, len1, cap1, rfl⟩ := okWide_slice Try.underlying23 (hval 1 23 v1 rfl rfl)
  have k1 := h1
  have lt1 : ∀ x ∈ p1, x.block < W.heap.size := by obtain ⟨m, hm⟩ := k1; exact DataW.trod_lt m _ _ _ hm
  obtain ⟨z1, w1⟩ : ∃ f, Raw W (.slice a1 len1 cap1) len1 f := by
    obtain ⟨fuel, hf⟩ := h1
    rcases open_ints Try.underlying23 Try.underlying29 (by kernel_rfl) hf with ⟨hcs, _⟩ | ⟨x, l, c, zs, hcs, _, hl, hm, hz, _, hcell, hwz⟩
    · simp [Value.cells] at hcs
      obtain ⟨rfl, rfl, rfl⟩ := hcs
      exact ⟨_, raw_nil W⟩
    · simp [Value.cells] at hcs
      obtain ⟨rfl, rfl, rfl⟩ := hcs
      exact ⟨_, raw_row W x _ _ zs hl hm (by simpa using hz) hcell hwz⟩
  clear hA0 hval0
  refine (walk _ _ _ _ _ _ W w0 w1).mono fun e W' ⟨he, bel⟩ => ?_
  subst he
  exact ⟨_, rfl, _, _, _, [], _, [], hW', trodAll_mk1 (shut_bool Try.underlying4 _), (trodAll_cons_mk (Below.trod laidOut (by kernel_rfl) (of_decide_eq_true (by kernel_rfl)) k0 bel lt0) (trodAll_cons_mk (Below.trod laidOut (by kernel_rfl) (of_decide_eq_true (by kernel_rfl)) k1 bel lt1) trodAll_mk0)), rfl, bel.frame _, fun h => by cases h⟩

theorem over : Rows.natQuotientsRow.holds Try.pinned (OpenSpec.ofChange Rows.natQuotientsSpec) :=
  OpenClaim.holds_of_wide 8 Try.f8 rfl rfl rfl rfl rfl rfl rfl ⟨rfl, rfl, rfl, rfl, rfl⟩ rfl rfl rfl rfl rfl (by kernel_rfl) Try.func8 (by kernel_rfl)
    (of_decide_eq_true (by kernel_rfl)) (by unfold Func.isWrapper; first | (rw [if_pos (by decide +kernel)]; kernel_rfl) | (rw [if_neg (by decide +kernel)]; exact ⟨rfl, rfl⟩))
    (fun os started H enc _ => lifted os started H enc)

end Go.Proofs.Ytagphmhgceajhaa.natQuotients
namespace Go.Proofs.Ytagphmhgceajhaa
/-- The statement. -/
theorem natQuotients_holds : Rows.NatQuotientsSaid := natQuotients.over
end Go.Proofs.Ytagphmhgceajhaa
