/-
  Proves that Parse tells which number any text is, or why it is none, of up to 400 bytes (the statement NatReads); no condition.
-/
import Derived.Test.YtagphmhgceajhacRows
import Derived.Test.YtagphmhgceajhacLaw
import Derived.Test.YtagphmhgceajhacRefParse
import Derived.WalkKit
import Derived.ProofKit
import Derived.OpenShut
import Derived.ShutString
import Derived.ChangeOld
import Derived.Below
namespace Go.Proofs.Ytagphmhgceajhac.natReads
open Go.ChangeShapes Go.WideShapes Go.ChangeAt Go.RowKit
open Go.ChangeMaps (open_string shut_string)
set_option linter.unusedVariables false

set_option maxHeartbeats 2000000 in
theorem walk (s : ByteArray) (w : World) (hs : s.size ≤ maxLen) :
    Calls Try.prog 4 #[.string s] w fun e w' => e = .returned (.bool true) ∧ Below w.heap.size w w' := by
  unfold maxLen at hs
  by_cases hl : 400 < s.size
  · have hi : (400 : Int) < (s.size : Int) := by omega
    have ht : (s.extract 0 400).size ≤ 400 := by rw [ByteArray.size_extract]; omega
    go_enter Try.func4, Try.ntmps4
    go_wp2_with fail
    generalize s.extract 0 400 = t at *
    by_cases hd : digitsB t = true
    · have hdd : 0 < t.size ∧ ∀ i, i < t.size → isDig t i := by simpa [digitsB] using hd
      have hnl : nl W32 (dval t t.size) ≤ 1000 := Nat.le_trans (nl_pow10 _ _ (dval_lt t _ hdd.2)) (by omega)
      have HNL : Hid (nl W32 (dval t t.size) ≤ 1000) := hnl
      clear hnl hdd
      refine (parse_yes t _ (by omega) hd).mono ?_
      rintro e w1 ⟨v1, rfl, hv1, hb1⟩
      go_wp2_with fail
      refine (refParse_yes t _ (by omega) hd).mono ?_
      rintro e w2 ⟨v2, rfl, hv2, hb2⟩
      have B2 : Below w.heap.size w w2 := hb1.trans (hb2.mono hb1.size)
      go_wp2_with fail
      refine (is_rep _ _ _ _ _ (hv1.rep.below hb2) HNL.out hv2 rfl).mono ?_
      rintro e w3 ⟨rfl, hb3⟩
      have B3 : Below w.heap.size w w3 := B2.trans (hb3.mono B2.size)
      go_wp2_with fail
      refine (awake_any _).mono ?_
      rintro e w4 ⟨rfl, hb4⟩
      go_wp2
      go_ret
      exact ⟨rfl, B3.trans (hb4.mono B3.size)⟩
    · have hd' : digitsB t = false := by simpa using hd
      refine (parse_form t _ hd').mono ?_
      rintro e w1 ⟨rfl, hb1⟩
      go_wp2_with fail
      refine (refParse_form t _ hd' (by omega)).mono ?_
      rintro e w2 ⟨rfl, hw2⟩
      subst hw2
      go_wp2_with fail
      refine (is_rep _ _ 0 0 _ (by unfold Rep; rw [nl_zero]; exact Nums.nil _ _ _) (by rw [nl_zero]; omega) (by unfold RepD; rw [nl_zero]; exact Nums.nil _ _ _) rfl).mono ?_
      rintro e w3 ⟨rfl, hb3⟩
      have B3 : Below w.heap.size w w3 := hb1.trans (hb3.mono hb1.size)
      go_wp2_with fail
      refine (awake_any _).mono ?_
      rintro e w4 ⟨rfl, hb4⟩
      go_wp2
      go_ret
      exact ⟨rfl, B3.trans (hb4.mono B3.size)⟩
  · have hi : ¬ (400 : Int) < (s.size : Int) := by omega
    have ht : s.size ≤ 400 := by omega
    go_enter Try.func4, Try.ntmps4
    go_wp2_with fail
    generalize s = t at *
    by_cases hd : digitsB t = true
    · have hdd : 0 < t.size ∧ ∀ i, i < t.size → isDig t i := by simpa [digitsB] using hd
      have hnl : nl W32 (dval t t.size) ≤ 1000 := Nat.le_trans (nl_pow10 _ _ (dval_lt t _ hdd.2)) (by omega)
      have HNL : Hid (nl W32 (dval t t.size) ≤ 1000) := hnl
      clear hnl hdd
      refine (parse_yes t _ (by omega) hd).mono ?_
      rintro e w1 ⟨v1, rfl, hv1, hb1⟩
      go_wp2_with fail
      refine (refParse_yes t _ (by omega) hd).mono ?_
      rintro e w2 ⟨v2, rfl, hv2, hb2⟩
      have B2 : Below w.heap.size w w2 := hb1.trans (hb2.mono hb1.size)
      go_wp2_with fail
      refine (is_rep _ _ _ _ _ (hv1.rep.below hb2) HNL.out hv2 rfl).mono ?_
      rintro e w3 ⟨rfl, hb3⟩
      have B3 : Below w.heap.size w w3 := B2.trans (hb3.mono B2.size)
      go_wp2_with fail
      refine (awake_any _).mono ?_
      rintro e w4 ⟨rfl, hb4⟩
      go_wp2
      go_ret
      exact ⟨rfl, B3.trans (hb4.mono B3.size)⟩
    · have hd' : digitsB t = false := by simpa using hd
      refine (parse_form t _ hd').mono ?_
      rintro e w1 ⟨rfl, hb1⟩
      go_wp2_with fail
      refine (refParse_form t _ hd' (by omega)).mono ?_
      rintro e w2 ⟨rfl, hw2⟩
      subst hw2
      go_wp2_with fail
      refine (is_rep _ _ 0 0 _ (by unfold Rep; rw [nl_zero]; exact Nums.nil _ _ _) (by rw [nl_zero]; omega) (by unfold RepD; rw [nl_zero]; exact Nums.nil _ _ _) rfl).mono ?_
      rintro e w3 ⟨rfl, hb3⟩
      have B3 : Below w.heap.size w w3 := hb1.trans (hb3.mono hb1.size)
      go_wp2_with fail
      refine (awake_any _).mono ?_
      rintro e w4 ⟨rfl, hb4⟩
      go_wp2
      go_ret
      exact ⟨rfl, B3.trans (hb4.mono B3.size)⟩

theorem own : ownKnob Try.prog.godebug = none := by kernel_rfl

set_option maxRecDepth 100000 in
theorem lifted (os : Os) (started : os.Started) (H : Type) (enc : TypeId × Value → H) :
    ReturnsInHanded {} Try.checked os 4 .any (Rows.natReadsSpec.pre6 enc Try.prog Try.f4 Rows.natReadsRow.domain false) (Rows.natReadsSpec.post enc Try.prog Try.f4 false true false false) := by
  refine returnsInHanded_of_change (C := Try.checked) own started (by kernel_rfl) Try.func4
    (ChangeSpec.witness6 (enc := enc) (C := Try.checked) false ⟨#[], #[.string ByteArray.empty], []⟩ 8 (by kernel_rfl) (by kernel_rfl) (by kernel_rfl) (by kernel_rfl)) ?_
  intro W base args ds gs before hval0 hW hcnd _
  have hval : ∀ (j : Nat) t v, Try.f4.params[j]? = some t → args[j]? = some v → Value.okWide Try.prog W .any base t v := hval0
  have hW' := hW
  obtain ⟨p, q, hA0, hV, rfl, hfz, hnd⟩ := hW
  have hA : DataW.TrodAll enc Try.prog W 0 (fun _ => true) true Try.f4.params.toList args.toList ds p := hA0
  rw [Try.params4] at hA hval
  obtain ⟨v0, vs0, d0, ds0, p0, q0, hargs, rfl, rfl, h0, r0⟩ := trodAll_cons hA
  obtain ⟨rfl, rfl, rfl⟩ := trodAll_nil r0
  obtain rfl : args = #[v0] := by cases args; simp_all
  obtain ⟨rfl, rfl⟩ := trodVars_none hV
  obtain ⟨s0, rfl, rfl, rfl, w0⟩ := open_string Try.underlying9 (hval 0 9 v0 rfl rfl) h0
  clear hA0 hval0
  refine (walk s0 W w0).mono fun e W' ⟨he, bel⟩ => ?_
  subst he
  exact ⟨_, rfl, _, _, _, [], _, [], hW', trodAll_mk1 (shut_bool Try.underlying4 _), (trodAll_cons_mk (shut_string Try.underlying9 w0) trodAll_mk0), rfl, bel.frame _, fun h => by cases h⟩

theorem over : Rows.natReadsRow.holds Try.pinned (OpenSpec.ofChange Rows.natReadsSpec) :=
  OpenClaim.holds_of_wide 4 Try.f4 rfl rfl rfl rfl rfl rfl rfl ⟨rfl, rfl, rfl, rfl, rfl⟩ rfl rfl rfl rfl rfl (by kernel_rfl) Try.func4 (by kernel_rfl)
    (of_decide_eq_true (by kernel_rfl)) (by unfold Func.isWrapper; first | (rw [if_pos (by decide +kernel)]; kernel_rfl) | (rw [if_neg (by decide +kernel)]; exact ⟨rfl, rfl⟩))
    (fun os started H enc _ => lifted os started H enc)

end Go.Proofs.Ytagphmhgceajhac.natReads
namespace Go.Proofs.Ytagphmhgceajhac
/-- The statement. -/
theorem natReads_holds : Rows.NatReadsSaid := natReads.over
end Go.Proofs.Ytagphmhgceajhac
