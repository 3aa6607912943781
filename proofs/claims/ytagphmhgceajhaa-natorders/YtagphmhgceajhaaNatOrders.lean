/-
  Proves that Cmp tells how any two numbers stand, of up to 40 limbs each, whatever limbs come in (the statement NatOrders); no condition.
-/
import Derived.Test.YtagphmhgceajhaaRows
import Derived.Test.YtagphmhgceajhaaLaw
import Derived.WalkKit
import Derived.ProofKit
import Derived.OpenShut
import Derived.ShutString
import Derived.ChangeOld
import Derived.Below
namespace Go.Proofs.Ytagphmhgceajhaa.natOrders
open Go.ChangeShapes Go.WideShapes Go.ChangeAt Go.RowKit
open Go.ChangeMaps (open_string shut_string)
set_option linter.unusedVariables false

set_option maxHeartbeats 2000000 in
theorem walk (u : Value) (n0 : Nat) (f0 : Nat → Int) (v : Value) (m0 : Nat) (g0 : Nat → Int) (w : World) (hu0 : Raw w u n0 f0) (hv0 : Raw w v m0 g0) :
    Calls Try.prog 5 #[u, v] w fun e w' => e = .returned (.bool true) ∧ Below w.heap.size w w' := by
  go_enter Try.func5, Try.ntmps5
  go_wp2_with fail
  refine (few_any _ _ 40 _ _ hu0 (by omega)).mono ?_
  rintro e w' ⟨u1, rfl, hu, uf, _, rfl⟩
  have hn : min n0 40 ≤ 40 := Nat.min_le_right _ _
  generalize min n0 40 = n at *
  go_wp2_with fail
  refine (few_any _ _ 40 _ _ hv0 (by omega)).mono ?_
  rintro e w' ⟨v1, rfl, hv, vf, _, rfl⟩
  have hm : min m0 40 ≤ 40 := Nat.min_le_right _ _
  generalize min m0 40 = m at *
  clear hu0 hv0
  go_wp2_with fail
  refine (cmp_any _ _ _ _ _ _ _ hu hv uf vf).mono ?_
  rintro e w1 ⟨rfl, hb1⟩
  go_wp2_with fail
  refine (from_any _ _ _ _ (hu.below hb1) uf (by omega)).mono ?_
  rintro e w2 ⟨r1, rfl, hr1, hb2⟩
  have B2 : Below w'.heap.size w' w2 := hb1.trans (hb2.mono hb1.size)
  go_wp2_with fail
  refine (from_any _ _ _ _ (hv.below B2) vf (by omega)).mono ?_
  rintro e w3 ⟨r2, rfl, hr2, hb3⟩
  have B3 : Below w'.heap.size w' w3 := B2.trans (hb3.mono B2.size)
  go_wp2_with fail
  refine (order_any _ _ _ _ _ (hr1.below hb3) hr2).mono ?_
  rintro e w4 ⟨rfl, hb4⟩
  have B4 : Below w'.heap.size w' w4 := B3.trans (hb4.mono B3.size)
  clear hb1 hb2 hb3 hb4 hr1 hr2
  have hs := cmpI_swap (num f0 n) (num g0 m)
  have hb : -1 ≤ cmpI (num f0 n) (num g0 m) ∧ cmpI (num f0 n) (num g0 m) ≤ 1 := by unfold cmpI; split <;> (try split) <;> omega
  have he : (cmpI (num f0 n) (num g0 m) == cmpI (num f0 n) (num g0 m)) = true := by simp
  go_wp2_with fail
  refine (cmp_any _ _ _ _ _ _ _ (hv.below B4) (hu.below B4) vf uf).mono ?_
  rintro e w5 ⟨rfl, hb5⟩
  have B5 : Below w'.heap.size w' w5 := B4.trans (hb5.mono B4.size)
  rw [hs]
  clear hs
  go_wp2_with fail
  refine (cmp_any _ _ _ _ _ _ _ (hu.below B5) (hv.below B5) uf vf).mono ?_
  rintro e w6 ⟨rfl, hb6⟩
  have B6 : Below w'.heap.size w' w6 := B5.trans (hb6.mono B5.size)
  generalize cmpI (num f0 n) (num g0 m) = C at *
  have hc : (0 - C == 0 - C) = true := by simp
  go_wp2_with fail
  refine (awake_any _).mono ?_
  rintro e w7 ⟨rfl, hb7⟩
  go_wp2
  go_ret
  exact ⟨rfl, B6.trans (hb7.mono B6.size)⟩

theorem own : ownKnob Try.prog.godebug = none := by kernel_rfl
theorem laidOut : laidOutB Try.prog = true := by kernel_rfl

set_option maxRecDepth 100000 in
theorem lifted (os : Os) (started : os.Started) (H : Type) (enc : TypeId × Value → H) :
    ReturnsInHanded {} Try.checked os 5 .any (Rows.natOrdersSpec.pre6 enc Try.prog Try.f5 Rows.natOrdersRow.domain false) (Rows.natOrdersSpec.post enc Try.prog Try.f5 false true false false) := by
  refine returnsInHanded_of_change (C := Try.checked) own started (by kernel_rfl) Try.func5
    (ChangeSpec.witness6 (enc := enc) (C := Try.checked) false ⟨#[], #[.slice none 0 0, .slice none 0 0], []⟩ 8 (by kernel_rfl) (by kernel_rfl) (by kernel_rfl) (by kernel_rfl)) ?_
  intro W base args ds gs before hval0 hW hcnd _
  have hval : ∀ (j : Nat) t v, Try.f5.params[j]? = some t → args[j]? = some v → Value.okWide Try.prog W .any base t v := hval0
  have hW' := hW
  obtain ⟨p, q, hA0, hV, rfl, hfz, hnd⟩ := hW
  have hA : DataW.TrodAll enc Try.prog W 0 (fun _ => true) true Try.f5.params.toList args.toList ds p := hA0
  rw [Try.params5] at hA hval
  obtain ⟨v0, vs0, d0, ds0, p0, q0, hargs, rfl, rfl, h0, r0⟩ := trodAll_cons hA
  obtain ⟨v1, vs1, d1, ds1, p1, q1, rfl, rfl, rfl, h1, r1⟩ := trodAll_cons r0
  obtain ⟨rfl, rfl, rfl⟩ := trodAll_nil r1
  obtain rfl : args = #[v0, v1] := by cases args; simp_all
  obtain ⟨rfl, rfl⟩ := trodVars_none hV
  obtain ⟨a0, len0, cap0, rfl⟩ := okWide_slice Try.underlying23 (hval 0 23 v0 rfl rfl)
  have k0 := h0
  have lt0 : ∀ x ∈ p0, x.block < W.heap.size := by obtain ⟨m, hm⟩ := k0; exact DataW.trod_lt m _ _ _ hm
  obtain ⟨z0, w0⟩ : ∃ f, Raw W (.slice a0 len0 cap0) len0 f := by
    obtain ⟨fuel, hf⟩ := h0
    rcases open_ints Try.underlying23 Try.underlying29 (by kernel_rfl) hf with ⟨hcs, _⟩ | ⟨x, l, c, zs, hcs, _, hl, hm, hz, _, hcell, hwz⟩
    · simp [Value.cells] at hcs
      obtain ⟨rfl, rfl, rfl⟩ := hcs
      exact ⟨_, raw_nil W⟩
    · simp [Value.cells] at hcs
      obtain ⟨rfl, rfl, rfl⟩ := hcs
      exact ⟨_, raw_row W x _ _ zs hl hm (by simpa using hz) hcell hwz⟩
  obtain ⟨a1, len1, cap1, rfl⟩ := okWide_slice Try.underlying23 (hval 1 23 v1 rfl rfl)
  have k1 := h1
  have lt1 : ∀ x ∈ p1, x.block < W.heap.size := by obtain ⟨m, hm⟩ := k1; exact DataW.trod_lt m _ _ _ hm
  obtain ⟨z1, w1⟩ : ∃ f, Raw W (.slice a1 len1 cap1) len1 f := by
    obtain ⟨fuel, hf⟩ := h1
    rcases open_ints Try.underlying23 Try.underlying29 (by kernel_rfl) hf with ⟨hcs, _⟩ | ⟨x, l, c, zs, hcs, _, hl, hm, hz, _, hcell, hwz⟩
    · simp [Value.cells] at hcs
      obtain ⟨rfl, rfl, rfl⟩ := hcs
      exact ⟨_, raw_nil W⟩
    · simp [Value.cells] at hcs
      obtain ⟨rfl, rfl, rfl⟩ := hcs
      exact ⟨_, raw_row W x _ _ zs hl hm (by simpa using hz) hcell hwz⟩
  clear hA0 hval0
  refine (walk _ _ _ _ _ _ W w0 w1).mono fun e W' ⟨he, bel⟩ => ?_
  subst he
  exact ⟨_, rfl, _, _, _, [], _, [], hW', trodAll_mk1 (shut_bool Try.underlying4 _), (trodAll_cons_mk (Below.trod laidOut (by kernel_rfl) (of_decide_eq_true (by kernel_rfl)) k0 bel lt0) (trodAll_cons_mk (Below.trod laidOut (by kernel_rfl) (of_decide_eq_true (by kernel_rfl)) k1 bel lt1) trodAll_mk0)), rfl, bel.frame _, fun h => by cases h⟩

theorem over : Rows.natOrdersRow.holds Try.pinned (OpenSpec.ofChange Rows.natOrdersSpec) :=
  OpenClaim.holds_of_wide 5 Try.f5 rfl rfl rfl rfl rfl rfl rfl ⟨rfl, rfl, rfl, rfl, rfl⟩ rfl rfl rfl rfl rfl (by kernel_rfl) Try.func5 (by kernel_rfl)
    (of_decide_eq_true (by kernel_rfl)) (by unfold Func.isWrapper; first | (rw [if_pos (by decide +kernel)]; kernel_rfl) | (rw [if_neg (by decide +kernel)]; exact ⟨rfl, rfl⟩))
    (fun os started H enc _ => lifted os started H enc)

end Go.Proofs.Ytagphmhgceajhaa.natOrders
namespace Go.Proofs.Ytagphmhgceajhaa
/-- The statement. -/
theorem natOrders_holds : Rows.NatOrdersSaid := natOrders.over
end Go.Proofs.Ytagphmhgceajhaa
