/-
  Proves that Words tells the words of any line of up to 3000 bytes, or where and why it has none (the statement LexWords); no condition.
-/
import Derived.Test.YtbigickceflflaaRows
import Derived.Test.YtbigickceflflaaJ383384f344
import Derived.WalkKit
import Derived.ProofKit
import Derived.OpenShut
import Derived.ShutString
import Derived.ChangeOld
import Derived.Below
namespace Go.Proofs.Ytbigickceflflaa.lexWords
open Go.ChangeShapes Go.WideShapes Go.ChangeAt Go.RowKit
open Go.ChangeMaps (open_string shut_string)
set_option linter.unusedVariables false
set_option linter.unusedSimpArgs false

set_option maxRecDepth 20000 in
set_option maxHeartbeats 4000000 in
theorem walk (s : ByteArray) (w : World) (hs : s.size ≤ maxLen) :
    Calls Try.prog 3 #[.string s] w fun e w' => e = .returned (.bool true) ∧ Below w.heap.size w w' := by
  have hc := cut_at s w hs
  have hl := cutS_le s
  go_enter Try.func3, Try.ntmps3
  go_wp2_with fail
  refine hc.mono ?_
  rintro e w0 ⟨rfl, hw⟩
  replace hw := hw.symm
  subst hw
  clear hc hs
  generalize cutS s = t at *
  have c1 := Words_at t w (by omega)
  have c2 := fun w1 => words_at t w1 (by omega)
  cases hS : scan t 0 [] with
  | ok l =>
    rw [hS] at c1
    have c2' : Hid (∀ w1, Calls Try.prog 9 #[.string t] w1 fun e w' => WordsOut w1.heap.size e w' t 0 0 (.ok l) ∧ Below w1.heap.size w1 w') := by rw [← hS]; exact c2
    have hll : Hid (scan t 0 [] = .ok l) := hS
    clear c2 hS
    go_wp2_with fail
    refine c1.mono ?_
    rintro e w1 ⟨⟨v, rfl, ho⟩, hb1⟩
    clear c1
    go_wp2_with fail
    refine (c2'.out _).mono ?_
    rintro e w2 ⟨⟨v2, rfl, ho2⟩, hb2⟩
    have B2 : Below w.heap.size w w2 := hb1.trans (hb2.mono hb1.size)
    have ho1 := ho.later hb2
    have hlen : Hid ((toks t 0 0 l).length ≤ 2000000) := by rw [Hid, toks_length]; have := scan_len t 0 [] l (by simp) hll.out; omega
    clear hb1 hb2 ho c2'
    go_wp2_with fail
    refine (same_at _ _ _ _ _ _ ho1 ho2 hlen.out).mono ?_
    rintro e w3 ⟨rfl, hb3⟩
    have B3 : Below w.heap.size w w3 := B2.trans (hb3.mono B2.size)
    go_wp2_with fail
    refine (awake_at _).mono ?_
    rintro e w4 ⟨rfl, hb4⟩
    go_wp2
    go_ret
    exact ⟨rfl, B3.trans (hb4.mono B3.size)⟩
  | form i =>
    rw [hS] at c1
    have c2' : Hid (∀ w1, Calls Try.prog 9 #[.string t] w1 fun e w' => WordsOut w1.heap.size e w' t 0 0 (.form i) ∧ Below w1.heap.size w1 w') := by rw [← hS]; exact c2
    clear c2 hS
    go_wp2_with fail
    refine c1.mono ?_
    rintro e w1 ⟨he, hb1⟩
    replace he := form_out he
    subst he
    clear c1
    go_wp2_with fail
    refine (c2'.out _).mono ?_
    rintro e w2 ⟨he, hb2⟩
    replace he := form_out he
    subst he
    have B2 : Below w.heap.size w w2 := hb1.trans (hb2.mono hb1.size)
    clear hb1 hb2 c2'
    go_wp2_with fail
    refine (same_at 0 0 _ _ [] _ (TOwn.nil _ _) (TOwn.nil _ _) (by simp)).mono ?_
    rintro e w3 ⟨rfl, hb3⟩
    have B3 : Below w.heap.size w w3 := B2.trans (hb3.mono B2.size)
    go_wp2_with fail
    refine (awake_at _).mono ?_
    rintro e w4 ⟨rfl, hb4⟩
    go_wp2
    go_ret
    exact ⟨rfl, B3.trans (hb4.mono B3.size)⟩
  | limit i =>
    rw [hS] at c1
    have c2' : Hid (∀ w1, Calls Try.prog 9 #[.string t] w1 fun e w' => WordsOut w1.heap.size e w' t 0 0 (.limit i) ∧ Below w1.heap.size w1 w') := by rw [← hS]; exact c2
    clear c2 hS
    go_wp2_with fail
    refine c1.mono ?_
    rintro e w1 ⟨he, hb1⟩
    replace he := limit_out he
    subst he
    clear c1
    go_wp2_with fail
    refine (c2'.out _).mono ?_
    rintro e w2 ⟨he, hb2⟩
    replace he := limit_out he
    subst he
    have B2 : Below w.heap.size w w2 := hb1.trans (hb2.mono hb1.size)
    clear hb1 hb2 c2'
    go_wp2_with fail
    refine (same_at 0 0 _ _ [] _ (TOwn.nil _ _) (TOwn.nil _ _) (by simp)).mono ?_
    rintro e w3 ⟨rfl, hb3⟩
    have B3 : Below w.heap.size w w3 := B2.trans (hb3.mono B2.size)
    go_wp2_with fail
    refine (awake_at _).mono ?_
    rintro e w4 ⟨rfl, hb4⟩
    go_wp2
    go_ret
    exact ⟨rfl, B3.trans (hb4.mono B3.size)⟩

theorem own : ownKnob Try.prog.godebug = none := by kernel_rfl

set_option maxRecDepth 100000 in
theorem lifted (os : Os) (started : os.Started) (H : Type) (enc : TypeId × Value → H) :
    ReturnsInHanded {} Try.checked os 3 .any (Rows.lexWordsSpec.pre6 enc Try.prog Try.f3 Rows.lexWordsRow.domain false) (Rows.lexWordsSpec.post enc Try.prog Try.f3 false true false false) := by
  refine returnsInHanded_of_change (C := Try.checked) own started (by kernel_rfl) Try.func3
    (ChangeSpec.witness6 (enc := enc) (C := Try.checked) false ⟨#[], #[.string ByteArray.empty], []⟩ 8 (by kernel_rfl) (by kernel_rfl) (by kernel_rfl) (by kernel_rfl)) ?_
  intro W base args ds gs before hval0 hW hcnd _
  have hval : ∀ (j : Nat) t v, Try.f3.params[j]? = some t → args[j]? = some v → Value.okWide Try.prog W .any base t v := hval0
  have hW' := hW
  obtain ⟨p, q, hA0, hV, rfl, hfz, hnd⟩ := hW
  have hA : DataW.TrodAll enc Try.prog W 0 (fun _ => true) true Try.f3.params.toList args.toList ds p := hA0
  rw [Try.params3] at hA hval
  obtain ⟨v0, vs0, d0, ds0, p0, q0, hargs, rfl, rfl, h0, r0⟩ := trodAll_cons hA
  obtain ⟨rfl, rfl, rfl⟩ := trodAll_nil r0
  obtain rfl : args = #[v0] := by cases args; simp_all
  obtain ⟨rfl, rfl⟩ := trodVars_none hV
  obtain ⟨s0, rfl, rfl, rfl, w0⟩ := open_string Try.underlying9 (hval 0 9 v0 rfl rfl) h0
  clear hA0 hval0
  refine (walk s0 W w0).mono fun e W' ⟨he, bel⟩ => ?_
  subst he
  exact ⟨_, rfl, _, _, _, [], _, [], hW', trodAll_mk1 (shut_bool Try.underlying4 _), (trodAll_cons_mk (shut_string Try.underlying9 w0) trodAll_mk0), rfl, bel.frame _, fun h => by cases h⟩

theorem over : Rows.lexWordsRow.holds Try.pinned (OpenSpec.ofChange Rows.lexWordsSpec) :=
  OpenClaim.holds_of_wide 3 Try.f3 rfl rfl rfl rfl rfl rfl rfl ⟨rfl, rfl, rfl, rfl, rfl⟩ rfl rfl rfl rfl rfl (by kernel_rfl) Try.func3 (by kernel_rfl)
    (of_decide_eq_true (by kernel_rfl)) (by unfold Func.isWrapper; first | (rw [if_pos (by decide +kernel)]; kernel_rfl) | (rw [if_neg (by decide +kernel)]; exact ⟨rfl, rfl⟩))
    (fun os started H enc _ => lifted os started H enc)

end Go.Proofs.Ytbigickceflflaa.lexWords
namespace Go.Proofs.Ytbigickceflflaa
/-- The statement. -/
theorem lexWords_holds : Rows.LexWordsSaid := lexWords.over
end Go.Proofs.Ytbigickceflflaa
