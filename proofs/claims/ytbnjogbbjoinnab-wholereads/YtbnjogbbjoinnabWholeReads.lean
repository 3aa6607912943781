/-
  Proves that Parse tells which whole number any text is, or why it is none, of up to 200 bytes (the statement WholeReads); no condition.
-/
import Derived.Test.YtbnjogbbjoinnabRows
import Derived.Test.YtbnjogbbjoinnabWText
import Derived.Test.YtbnjogbbjoinnabWMem
import Derived.WalkKit
import Derived.ProofKit
import Derived.OpenShut
import Derived.ShutString
import Derived.ChangeOld
import Derived.Below
namespace Go.Proofs.Ytbnjogbbjoinnab.wholeReads
open Go.ChangeShapes Go.WideShapes Go.ChangeAt Go.RowKit
open Go.ChangeMaps (open_string shut_string)
set_option linter.unusedVariables false
set_option linter.unusedSimpArgs false

set_option maxRecDepth 20000 in
set_option maxHeartbeats 2000000 in
theorem walk (s : ByteArray) (w : World) (hs : s.size ≤ maxLen) :
    Calls Try.prog 5 #[.string s] w fun e w' => e = .returned (.bool true) ∧ Below w.heap.size w w' := by
  unfold maxLen at hs
  by_cases hl : 200 < s.size
  · have hi : (200 : Int) < (s.size : Int) := by omega
    have ht : (s.extract 0 200).size ≤ 200 := by rw [ByteArray.size_extract]; omega
    go_enter Try.func5, Try.ntmps5
    go_wp2_with fail
    generalize s.extract 0 200 = t at *
    by_cases hd : digitsB (pdig t) = true
    · have hps := pdig_size t
      have hdd : 0 < (pdig t).size ∧ ∀ i, i < (pdig t).size → isDig (pdig t) i := by simpa [digitsB] using hd
      have hnl : nl W32 (zof (pneg t) (dval (pdig t) (pdig t).size)).natAbs ≤ 1000 := by
        rw [zof_abs]; exact Nat.le_trans (nl_pow10 _ _ (dval_lt (pdig t) _ hdd.2)) (by omega)
      refine (wparse_yes t _ hd (by omega)).mono ?_
      rintro e w1 ⟨v1, rfl, hv1, hb1⟩
      obtain ⟨pr, aor, nr, cr, rfl⟩ := hv1.open
      have HA1 : Below w1.heap.size w1 (w1.alloc (.cells #[.bool pr, .slice aor nr cr] 26)) := (Below.refl _ _).alloc (Nat.le_refl _) _
      have B1 := hb1.trans (HA1.mono hb1.size)
      have C1 := resW w1 26 (.bool pr) (.slice aor nr cr)
      have R1 := hv1.below HA1
      clear hv1 HA1
      go_wp2_with fail
      clear hb1
      generalize w1.heap.size = RR at *
      generalize w1.alloc (.cells #[.bool pr, .slice aor nr cr] 26) = W1 at *
      refine (rparse_yes t _ hd (by omega)).mono ?_
      rintro e w2 ⟨v2, rfl, hv2, hb2⟩
      obtain ⟨px, aox, nx, cx, rfl⟩ := hv2.open
      have HA2 : Below w2.heap.size w2 (w2.alloc (.cells #[.bool px, .slice aox nx cx] 35)) := (Below.refl _ _).alloc (Nat.le_refl _) _
      have B2 := B1.trans (hb2.mono B1.size)
      have B2' := B2.trans (HA2.mono B2.size)
      obtain ⟨g1, g2, _, _⟩ := keepW HA2 (Nat.le_refl _) (keepW hb2 (Nat.le_refl _) C1)
      obtain ⟨g3, g4, _, _⟩ := resW w2 35 (.bool px) (.slice aox nx cx)
      have R2 := (R1.below hb2).below HA2
      have J2 := hv2.below HA2
      clear C1 R1 hv2 HA2 B1 B2 hdd hps
      generalize zof (pneg t) (dval (pdig t) (pdig t).size) = z at *
      go_wp2_with fail
      refine (ris_rep _ _ _ _ R2 hnl J2).mono ?_
      rintro e w3 ⟨rfl, hb3⟩
      have B3 := B2'.trans (hb3.mono B2'.size)
      go_wp2_with fail
      refine (wawake_any _).mono ?_
      rintro e w4 ⟨rfl, hb4⟩
      go_wp2
      go_ret
      exact ⟨rfl, B3.trans (hb4.mono B3.size)⟩
    · have hd' : digitsB (pdig t) = false := by simpa using hd
      refine (wparse_form t _ hd').mono ?_
      rintro e w1 ⟨v1, rfl, hv1, hb1⟩
      obtain ⟨pr, aor, nr, cr, rfl⟩ := hv1.open
      have HA1 : Below w1.heap.size w1 (w1.alloc (.cells #[.bool pr, .slice aor nr cr] 26)) := (Below.refl _ _).alloc (Nat.le_refl _) _
      have B1 := hb1.trans (HA1.mono hb1.size)
      have C1 := resW w1 26 (.bool pr) (.slice aor nr cr)
      have R1 := hv1.below HA1
      clear hv1 HA1
      go_wp2_with fail
      clear hb1
      generalize w1.heap.size = RR at *
      generalize w1.alloc (.cells #[.bool pr, .slice aor nr cr] 26) = W1 at *
      refine (rparse_form t _ hd' (by omega)).mono ?_
      rintro e w2 ⟨v2, rfl, hv2, hb2⟩
      obtain ⟨px, aox, nx, cx, rfl⟩ := hv2.open
      have HA2 : Below w2.heap.size w2 (w2.alloc (.cells #[.bool px, .slice aox nx cx] 35)) := (Below.refl _ _).alloc (Nat.le_refl _) _
      have B2 := B1.trans (hb2.mono B1.size)
      have B2' := B2.trans (HA2.mono B2.size)
      obtain ⟨g1, g2, _, _⟩ := keepW HA2 (Nat.le_refl _) (keepW hb2 (Nat.le_refl _) C1)
      obtain ⟨g3, g4, _, _⟩ := resW w2 35 (.bool px) (.slice aox nx cx)
      have R2 := (R1.below hb2).below HA2
      have J2 := hv2.below HA2
      clear C1 R1 hv2 HA2 B1 B2
      go_wp2_with fail
      refine (ris_rep _ _ 0 _ R2 (by decide) J2).mono ?_
      rintro e w3 ⟨rfl, hb3⟩
      have B3 := B2'.trans (hb3.mono B2'.size)
      go_wp2_with fail
      refine (wawake_any _).mono ?_
      rintro e w4 ⟨rfl, hb4⟩
      go_wp2
      go_ret
      exact ⟨rfl, B3.trans (hb4.mono B3.size)⟩
  · have hi : ¬ (200 : Int) < (s.size : Int) := by omega
    have ht : s.size ≤ 200 := by omega
    go_enter Try.func5, Try.ntmps5
    go_wp2_with fail
    generalize s = t at *
    by_cases hd : digitsB (pdig t) = true
    · have hps := pdig_size t
      have hdd : 0 < (pdig t).size ∧ ∀ i, i < (pdig t).size → isDig (pdig t) i := by simpa [digitsB] using hd
      have hnl : nl W32 (zof (pneg t) (dval (pdig t) (pdig t).size)).natAbs ≤ 1000 := by
        rw [zof_abs]; exact Nat.le_trans (nl_pow10 _ _ (dval_lt (pdig t) _ hdd.2)) (by omega)
      refine (wparse_yes t _ hd (by omega)).mono ?_
      rintro e w1 ⟨v1, rfl, hv1, hb1⟩
      obtain ⟨pr, aor, nr, cr, rfl⟩ := hv1.open
      have HA1 : Below w1.heap.size w1 (w1.alloc (.cells #[.bool pr, .slice aor nr cr] 26)) := (Below.refl _ _).alloc (Nat.le_refl _) _
      have B1 := hb1.trans (HA1.mono hb1.size)
      have C1 := resW w1 26 (.bool pr) (.slice aor nr cr)
      have R1 := hv1.below HA1
      clear hv1 HA1
      go_wp2_with fail
      clear hb1
      generalize w1.heap.size = RR at *
      generalize w1.alloc (.cells #[.bool pr, .slice aor nr cr] 26) = W1 at *
      refine (rparse_yes t _ hd (by omega)).mono ?_
      rintro e w2 ⟨v2, rfl, hv2, hb2⟩
      obtain ⟨px, aox, nx, cx, rfl⟩ := hv2.open
      have HA2 : Below w2.heap.size w2 (w2.alloc (.cells #[.bool px, .slice aox nx cx] 35)) := (Below.refl _ _).alloc (Nat.le_refl _) _
      have B2 := B1.trans (hb2.mono B1.size)
      have B2' := B2.trans (HA2.mono B2.size)
      obtain ⟨g1, g2, _, _⟩ := keepW HA2 (Nat.le_refl _) (keepW hb2 (Nat.le_refl _) C1)
      obtain ⟨g3, g4, _, _⟩ := resW w2 35 (.bool px) (.slice aox nx cx)
      have R2 := (R1.below hb2).below HA2
      have J2 := hv2.below HA2
      clear C1 R1 hv2 HA2 B1 B2 hdd hps
      generalize zof (pneg t) (dval (pdig t) (pdig t).size) = z at *
      go_wp2_with fail
      refine (ris_rep _ _ _ _ R2 hnl J2).mono ?_
      rintro e w3 ⟨rfl, hb3⟩
      have B3 := B2'.trans (hb3.mono B2'.size)
      go_wp2_with fail
      refine (wawake_any _).mono ?_
      rintro e w4 ⟨rfl, hb4⟩
      go_wp2
      go_ret
      exact ⟨rfl, B3.trans (hb4.mono B3.size)⟩
    · have hd' : digitsB (pdig t) = false := by simpa using hd
      refine (wparse_form t _ hd').mono ?_
      rintro e w1 ⟨v1, rfl, hv1, hb1⟩
      obtain ⟨pr, aor, nr, cr, rfl⟩ := hv1.open
      have HA1 : Below w1.heap.size w1 (w1.alloc (.cells #[.bool pr, .slice aor nr cr] 26)) := (Below.refl _ _).alloc (Nat.le_refl _) _
      have B1 := hb1.trans (HA1.mono hb1.size)
      have C1 := resW w1 26 (.bool pr) (.slice aor nr cr)
      have R1 := hv1.below HA1
      clear hv1 HA1
      go_wp2_with fail
      clear hb1
      generalize w1.heap.size = RR at *
      generalize w1.alloc (.cells #[.bool pr, .slice aor nr cr] 26) = W1 at *
      refine (rparse_form t _ hd' (by omega)).mono ?_
      rintro e w2 ⟨v2, rfl, hv2, hb2⟩
      obtain ⟨px, aox, nx, cx, rfl⟩ := hv2.open
      have HA2 : Below w2.heap.size w2 (w2.alloc (.cells #[.bool px, .slice aox nx cx] 35)) := (Below.refl _ _).alloc (Nat.le_refl _) _
      have B2 := B1.trans (hb2.mono B1.size)
      have B2' := B2.trans (HA2.mono B2.size)
      obtain ⟨g1, g2, _, _⟩ := keepW HA2 (Nat.le_refl _) (keepW hb2 (Nat.le_refl _) C1)
      obtain ⟨g3, g4, _, _⟩ := resW w2 35 (.bool px) (.slice aox nx cx)
      have R2 := (R1.below hb2).below HA2
      have J2 := hv2.below HA2
      clear C1 R1 hv2 HA2 B1 B2
      go_wp2_with fail
      refine (ris_rep _ _ 0 _ R2 (by decide) J2).mono ?_
      rintro e w3 ⟨rfl, hb3⟩
      have B3 := B2'.trans (hb3.mono B2'.size)
      go_wp2_with fail
      refine (wawake_any _).mono ?_
      rintro e w4 ⟨rfl, hb4⟩
      go_wp2
      go_ret
      exact ⟨rfl, B3.trans (hb4.mono B3.size)⟩

theorem own : ownKnob Try.prog.godebug = none := by kernel_rfl

set_option maxRecDepth 100000 in
theorem lifted (os : Os) (started : os.Started) (H : Type) (enc : TypeId × Value → H) :
    ReturnsInHanded {} Try.checked os 5 .any (Rows.wholeReadsSpec.pre6 enc Try.prog Try.f5 Rows.wholeReadsRow.domain false) (Rows.wholeReadsSpec.post enc Try.prog Try.f5 false true false false) := by
  refine returnsInHanded_of_change (C := Try.checked) own started (by kernel_rfl) Try.func5
    (ChangeSpec.witness6 (enc := enc) (C := Try.checked) false ⟨#[], #[.string ByteArray.empty], []⟩ 8 (by kernel_rfl) (by kernel_rfl) (by kernel_rfl) (by kernel_rfl)) ?_
  intro W base args ds gs before hval0 hW hcnd _
  have hval : ∀ (j : Nat) t v, Try.f5.params[j]? = some t → args[j]? = some v → Value.okWide Try.prog W .any base t v := hval0
  have hW' := hW
  obtain ⟨p, q, hA0, hV, rfl, hfz, hnd⟩ := hW
  have hA : DataW.TrodAll enc Try.prog W 0 (fun _ => true) true Try.f5.params.toList args.toList ds p := hA0
  rw [Try.params5] at hA hval
  obtain ⟨v0, vs0, d0, ds0, p0, q0, hargs, rfl, rfl, h0, r0⟩ := trodAll_cons hA
  obtain ⟨rfl, rfl, rfl⟩ := trodAll_nil r0
  obtain rfl : args = #[v0] := by cases args; simp_all
  obtain ⟨rfl, rfl⟩ := trodVars_none hV
  obtain ⟨s0, rfl, rfl, rfl, w0⟩ := open_string Try.underlying9 (hval 0 9 v0 rfl rfl) h0
  clear hA0 hval0
  refine (walk s0 W w0).mono fun e W' ⟨he, bel⟩ => ?_
  subst he
  exact ⟨_, rfl, _, _, _, [], _, [], hW', trodAll_mk1 (shut_bool Try.underlying4 _), (trodAll_cons_mk (shut_string Try.underlying9 w0) trodAll_mk0), rfl, bel.frame _, fun h => by cases h⟩

theorem over : Rows.wholeReadsRow.holds Try.pinned (OpenSpec.ofChange Rows.wholeReadsSpec) :=
  OpenClaim.holds_of_wide 5 Try.f5 rfl rfl rfl rfl rfl rfl rfl ⟨rfl, rfl, rfl, rfl, rfl⟩ rfl rfl rfl rfl rfl (by kernel_rfl) Try.func5 (by kernel_rfl)
    (of_decide_eq_true (by kernel_rfl)) (by unfold Func.isWrapper; first | (rw [if_pos (by decide +kernel)]; kernel_rfl) | (rw [if_neg (by decide +kernel)]; exact ⟨rfl, rfl⟩))
    (fun os started H enc _ => lifted os started H enc)

end Go.Proofs.Ytbnjogbbjoinnab.wholeReads
namespace Go.Proofs.Ytbnjogbbjoinnab
/-- The statement. -/
theorem wholeReads_holds : Rows.WholeReadsSaid := wholeReads.over
end Go.Proofs.Ytbnjogbbjoinnab
