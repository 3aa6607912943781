/-
  Proves that for every small number n: Of makes limbs that may be, and To tells n again (the statement NatSmalls); no condition.
-/
import Derived.Test.YtagphmhgceajhaaRows
import Derived.Test.YtagphmhgceajhaaAwake
import Derived.WalkKit
import Derived.ProofKit
import Derived.OpenShut
import Derived.ShutString
import Derived.ChangeOld
import Derived.Below
namespace Go.Proofs.Ytagphmhgceajhaa.natSmalls
open Go.ChangeShapes Go.WideShapes Go.ChangeAt Go.RowKit
open Go.ChangeMaps (open_string shut_string)
set_option linter.unusedVariables false

theorem own : ownKnob Try.prog.godebug = none := by kernel_rfl

theorem right_rep {w : World} {v : Value} {m : Nat} (h : Rep w v m) :
    Calls Try.prog 18 #[v] w fun e w' => e = .returned (.bool true) ∧ w' = w := by
  have e : rightB (dg W32 m) (nl W32 m) = true := by
    simp only [rightB, decide_eq_true_eq]
    exact ⟨fun i _ => by have := dg_bounds W32 m i (by decide); unfold W32 at this ⊢; omega, fun h0 => nl_top W32 m h0⟩
  have g := refRight_any v _ _ w h
  rw [e] at g; exact g

set_option maxHeartbeats 1000000 in
theorem walk (a0 : Int) (w0 : (Lit.int .u64 a0).wf = true) (w : World) :
    Calls Try.prog 4 #[.int .u64 a0] w fun e w' => e = .returned (.bool true) ∧ Below w.heap.size w w' := by
  have hb := bounds_u64 w0
  have hnl : nl W32 a0.toNat ≤ 2 := nl_le W32 _ 2 (by decide) (by unfold W32; omega)
  have hca : ((a0.toNat : Nat) : Int) = a0 := by omega
  go_enter Try.func4, Try.ntmps4
  go_wp2_with fail
  refine (of_any _ _ (by omega) (by omega)).mono ?_
  rintro e w1 ⟨v, rfl, hv, hb1⟩
  go_wp2_with fail
  refine (to_rep _ _ _ hv.nums hnl).mono ?_
  rintro e w2 ⟨rfl, rfl⟩
  rw [hca]
  have heq : (a0 == a0) = true := by simp
  go_wp2_with fail
  refine (right_rep hv.nums).mono ?_
  rintro e w3 ⟨rfl, rfl⟩
  go_wp2_with fail
  refine (awake_any _).mono ?_
  rintro e w4 ⟨rfl, hb4⟩
  go_wp2
  go_ret
  exact ⟨rfl, hb1.trans (hb4.mono hb1.size)⟩

set_option maxRecDepth 100000 in
theorem lifted (os : Os) (started : os.Started) (H : Type) (enc : TypeId × Value → H) :
    ReturnsInHanded {} Try.checked os 4 .any (Rows.natSmallsSpec.pre6 enc Try.prog Try.f4 Rows.natSmallsRow.domain false) (Rows.natSmallsSpec.post enc Try.prog Try.f4 false true false false) := by
  refine returnsInHanded_of_change (C := Try.checked) own started (by kernel_rfl) Try.func4
    (ChangeSpec.witness6 (enc := enc) (C := Try.checked) false ⟨#[], #[.int .u64 0], []⟩ 8 (by kernel_rfl) (by kernel_rfl) (by kernel_rfl) (by kernel_rfl)) ?_
  intro W base args ds gs before hval0 hW hcnd _
  have hval : ∀ (j : Nat) t v, Try.f4.params[j]? = some t → args[j]? = some v → Value.okWide Try.prog W .any base t v := hval0
  have hW' := hW
  obtain ⟨p, q, hA0, hV, rfl, hfz, hnd⟩ := hW
  have hA : DataW.TrodAll enc Try.prog W 0 (fun _ => true) true Try.f4.params.toList args.toList ds p := hA0
  rw [Try.params4] at hA hval
  obtain ⟨v0, vs0, d0, ds0, p0, q0, hargs, rfl, rfl, h0, r0⟩ := trodAll_cons hA
  obtain ⟨rfl, rfl, rfl⟩ := trodAll_nil r0
  obtain rfl : args = #[v0] := by cases args; simp_all
  obtain ⟨rfl, rfl⟩ := trodVars_none hV
  obtain ⟨a0, rfl, rfl, rfl, w0⟩ := open_int Try.underlying29 (hval 0 29 v0 rfl rfl) h0
  clear hA0 hval0
  refine (walk a0 w0 W).mono fun e W' ⟨he, bel⟩ => ?_
  subst he
  exact ⟨_, rfl, _, _, _, [], _, [], hW', trodAll_mk1 (shut_bool Try.underlying4 _), (trodAll_cons_mk (shut_int Try.underlying29 w0) trodAll_mk0), rfl, bel.frame _, fun h => by cases h⟩

theorem over : Rows.natSmallsRow.holds Try.pinned (OpenSpec.ofChange Rows.natSmallsSpec) :=
  OpenClaim.holds_of_wide 4 Try.f4 rfl rfl rfl rfl rfl rfl rfl ⟨rfl, rfl, rfl, rfl, rfl⟩ rfl rfl rfl rfl rfl (by kernel_rfl) Try.func4 (by kernel_rfl)
    (of_decide_eq_true (by kernel_rfl)) (by unfold Func.isWrapper; first | (rw [if_pos (by decide +kernel)]; kernel_rfl) | (rw [if_neg (by decide +kernel)]; exact ⟨rfl, rfl⟩))
    (fun os started H enc _ => lifted os started H enc)

end Go.Proofs.Ytagphmhgceajhaa.natSmalls
namespace Go.Proofs.Ytagphmhgceajhaa
/-- The statement. -/
theorem natSmalls_holds : Rows.NatSmallsSaid := natSmalls.over
end Go.Proofs.Ytagphmhgceajhaa
