/-
  Proves that Pow and PowMod answer any power of a number of up to 3 limbs, powers of up to 20 held against the document's own, and its rest by a divisor of up to 4 limbs, or that there is none, whatever limbs come in (the statement NatPowers); no condition.
-/
import Derived.Test.YtagphmhgceajhabRows
import Derived.Test.YtagphmhgceajhabLaw
import Derived.Test.YtagphmhgceajhabRefOver
import Derived.Test.YtagphmhgceajhabPowMod
import Derived.WalkKit
import Derived.ProofKit
import Derived.OpenShut
import Derived.ShutString
import Derived.ChangeOld
import Derived.Below
namespace Go.Proofs.Ytagphmhgceajhab.natPowers
open Go.ChangeShapes Go.WideShapes Go.ChangeAt Go.RowKit
open Go.ChangeMaps (open_string shut_string)
set_option linter.unusedVariables false

set_option maxRecDepth 20000 in
set_option maxHeartbeats 2000000 in
theorem walk (u : Value) (n0 : Nat) (f : Nat → Int) (a : Int) (v : Value) (m0 : Nat) (g : Nat → Int) (w : World) (hu0 : Raw w u n0 f) (ha : (Lit.int .i64 a).wf = true) (hv0 : Raw w v m0 g) :
    Calls Try.prog 6 #[u, .int .i64 a, v] w fun e w' => e = .returned (.bool true) ∧ Below w.heap.size w w' := by
  have hab := bounds_i64 ha
  clear ha
  go_enter Try.func6, Try.ntmps6
  go_wp2_with fail
  refine (few_any _ _ 3 _ _ hu0 (by omega)).mono ?_
  rintro e w' ⟨u1, rfl, hu, uf, _, rfl⟩
  have hn : min n0 3 ≤ 3 := Nat.min_le_right _ _
  generalize min n0 3 = n at *
  go_wp2_with fail
  refine (few_any _ _ 4 _ _ hv0 (by omega)).mono ?_
  rintro e w' ⟨v1, rfl, hv, vf, _, rfl⟩
  have hm : min m0 4 ≤ 4 := Nat.min_le_right _ _
  generalize min m0 4 = m at *
  clear hu0 hv0
  by_cases hneg : a < 0
  · go_wp2_with fail
    refine (pow_range _ _ _ (.inl hneg)).mono ?_
    rintro e w1 ⟨rfl, rfl⟩
    go_wp2_with fail
    refine (awake_any _).mono ?_
    rintro e w7 ⟨rfl, hb7⟩
    go_wp2
    go_ret
    exact ⟨rfl, hb7⟩
  · obtain ⟨k, rfl⟩ : ∃ k : Nat, a = (k : Int) := ⟨a.toNat, by omega⟩
    have i1 : ¬ (k : Int) < 0 := by omega
    by_cases hbig : 4096 < k
    · have i2 : (4096 : Int) < (k : Int) := by omega
      go_wp2_with fail
      refine (pow_range _ _ _ (.inr (by omega))).mono ?_
      rintro e w1 ⟨rfl, rfl⟩
      go_wp2_with fail
      refine (awake_any _).mono ?_
      rintro e w7 ⟨rfl, hb7⟩
      go_wp2
      go_ret
      exact ⟨rfl, hb7⟩
    · have i2 : ¬ (4096 : Int) < (k : Int) := by omega
      go_wp2_with fail
      refine (pow_ok _ _ k _ _ hu uf (by omega) (by omega)).mono ?_
      rintro e w1 ⟨p1, rfl, hp1, hb1⟩
      by_cases h20 : 20 < k
      · have i3 : (20 : Int) < (k : Int) := by omega
        obtain ⟨ao, c, rfl, _⟩ := hp1
        generalize nl W32 (num f n ^ k) = l1
        go_wp2_with fail
        refine (awake_any _).mono ?_
        rintro e w7 ⟨rfl, hb7⟩
        go_wp2
        go_ret
        exact ⟨rfl, hb1.trans (hb7.mono hb1.size)⟩
      · have i3 : ¬ (20 : Int) < (k : Int) := by omega
        have hpr := hp1.rep
        have hxl : num f n < W32 ^ 10 := Nat.lt_of_lt_of_le (num_lt f n) (Nat.pow_le_pow_right (by decide) (by omega))
        have hx3 := nl_le W32 (num f n) n (by decide) (num_lt f n)
        have hpn : nl W32 (num f n ^ k) ≤ 1000 := Nat.le_trans (nl_pow (num f n) 3 k (by omega)) (by omega)
        have hpd : nl 10000 (num f n ^ k) ≤ 400000 := Nat.le_trans (nl10_pow (num f n) 10 k hxl) (by omega)
        have hmd := nl_num g m (by omega)
        clear hp1
        go_wp2_with fail
        refine (from_any _ _ _ _ (hu.below hb1) uf (by omega)).mono ?_
        rintro e w2 ⟨r2, rfl, hr2, hb2⟩
        have B2 : Below w'.heap.size w' w2 := hb1.trans (hb2.mono hb1.size)
        go_wp2_with fail
        refine (refPower_any _ _ k _ hr2 hxl (by omega)).mono ?_
        rintro e w3 ⟨r3, rfl, hr3, hb3⟩
        have B3 : Below w'.heap.size w' w3 := B2.trans (hb3.mono B2.size)
        go_wp2_with fail
        refine (of_any (k : Int) _ (by omega) (by omega)).mono ?_
        rintro e w4 ⟨o4, rfl, ho4, hb4⟩
        rw [Int.toNat_natCast] at ho4
        have B4 : Below w'.heap.size w' w4 := B3.trans (hb4.mono B3.size)
        have hkn : nl W32 k ≤ 1 := nl_le W32 k 1 (by decide) (Nat.lt_of_le_of_lt (show k ≤ 20 by omega) (by decide))
        by_cases h0 : num g m = 0
        · go_wp2_with fail
          refine (powMod_zero _ _ _ _ _ _ (hv.below B4) vf h0).mono ?_
          rintro e w5 ⟨rfl, hw5⟩
          subst hw5
          go_wp2_with fail
          refine (from_any _ _ _ _ (hv.below B4) vf (by omega)).mono ?_
          rintro e w6 ⟨r6, rfl, hr6, hb6⟩
          rw [h0] at hr6
          have B6 : Below w'.heap.size w' w6 := B4.trans (hb6.mono B4.size)
          obtain ⟨ao, c, rfl, _⟩ := hr6
          rw [nl_zero]
          go_wp2_with fail
          refine (is_rep _ _ _ _ _ ((((hpr.below hb2).below hb3).below hb4).below hb6) hpn ((hr3.below hb4).below hb6) rfl).mono ?_
          rintro e w7 ⟨rfl, hb7⟩
          have B7 : Below w'.heap.size w' w7 := B6.trans (hb7.mono B6.size)
          go_wp2_with fail
          refine (awake_any _).mono ?_
          rintro e w8 ⟨rfl, hb8⟩
          go_wp2
          go_ret
          exact ⟨rfl, B7.trans (hb8.mono B7.size)⟩
        · go_wp2_with fail
          refine (powMod_ok _ _ _ _ _ _ _ _ _ _ (hu.below B4) uf ho4.nums (u64_dg _ _) (hv.below B4) vf (by omega) (by omega) (by omega) h0).mono ?_
          rintro e w5 ⟨r5, rfl, hr5, hb5⟩
          rw [num_nl] at hr5
          have B5 : Below w'.heap.size w' w5 := B4.trans (hb5.mono B4.size)
          go_wp2_with fail
          refine (from_any _ _ _ _ (hv.below B5) vf (by omega)).mono ?_
          rintro e w6 ⟨r6, rfl, hr6, hb6⟩
          have B6 : Below w'.heap.size w' w6 := B5.trans (hb6.mono B5.size)
          go_wp2_with fail
          refine (is_rep _ _ _ _ _ (((((hpr.below hb2).below hb3).below hb4).below hb5).below hb6) hpn (((hr3.below hb4).below hb5).below hb6) rfl).mono ?_
          rintro e w7 ⟨rfl, hb7⟩
          have B7 : Below w'.heap.size w' w7 := B6.trans (hb7.mono B6.size)
          have hr67 := Nums.below hr6 hb7
          have hr37 := Nums.below (Nums.below (Nums.below (Nums.below hr3 hb4) hb5) hb6) hb7
          have hr57 := Nums.below (Nums.below hr5.rep hb6) hb7
          have hrn : nl W32 (num f n ^ k % num g m) ≤ 1000 := nl_of_lt _ (num g m) 1000 (Nat.mod_lt _ (by omega)) (Nat.le_trans (nl_le W32 (num g m) m (by decide) (num_lt g m)) (by omega))
          have hMn : nl 10000 (num g m) ≠ 0 := fun e => h0 ((nl_eq_zero 10000 _ (by decide)).1 e)
          clear hr6 hr3 hr5 hpr hr2 ho4 hu
          obtain ⟨ao, c, rfl, hlc, hll, h4⟩ := id hr67
          have hz : ((nl 10000 (num g m) : Int) == 0) = false := by simp; omega
          have OV : Hid (∀ w8, RepD w8 r3 (num f n ^ k) → RepD w8 (.slice ao (nl 10000 (num g m)) c) (num g m) → Calls Try.prog 19 #[r3, .slice ao (nl 10000 (num g m)) c] w8 fun e w' => ∃ q r, e = .returned (.tuple #[q, r]) ∧ RepD w' q (num f n ^ k / num g m) ∧ RepD w' r (num f n ^ k % num g m) ∧ Below w8.heap.size w8 w') := fun w8 a b => over_any _ _ _ _ _ a b (by omega) hpd (by omega)
          have hr67' : Hid (RepD w7 (.slice ao (nl 10000 (num g m)) c) (num g m)) := hr67
          clear h4 hr67 hMn
          generalize nl 10000 (num g m) = ld at *
          go_wp2_with fail
          refine (OV.out _ hr37 hr67'.out).mono ?_
          rintro e w8 ⟨q8, r8, rfl, hq8, hr8, hb8⟩
          have B8 : Below w'.heap.size w' w8 := B7.trans (hb8.mono B7.size)
          go_wp2_with fail
          refine (is_rep _ _ _ _ _ (Nums.below hr57 hb8) hrn hr8 rfl).mono ?_
          rintro e w9 ⟨rfl, hb9⟩
          have B9 : Below w'.heap.size w' w9 := B8.trans (hb9.mono B8.size)
          go_wp2_with fail
          refine (awake_any _).mono ?_
          rintro e w10 ⟨rfl, hb10⟩
          go_wp2
          go_ret
          exact ⟨rfl, B9.trans (hb10.mono B9.size)⟩

theorem own : ownKnob Try.prog.godebug = none := by kernel_rfl
theorem laidOut : laidOutB Try.prog = true := by kernel_rfl

set_option maxRecDepth 100000 in
theorem lifted (os : Os) (started : os.Started) (H : Type) (enc : TypeId × Value → H) :
    ReturnsInHanded {} Try.checked os 6 .any (Rows.natPowersSpec.pre6 enc Try.prog Try.f6 Rows.natPowersRow.domain false) (Rows.natPowersSpec.post enc Try.prog Try.f6 false true false false) := by
  refine returnsInHanded_of_change (C := Try.checked) own started (by kernel_rfl) Try.func6
    (ChangeSpec.witness6 (enc := enc) (C := Try.checked) false ⟨#[], #[.slice none 0 0, .int .i64 0, .slice none 0 0], []⟩ 8 (by kernel_rfl) (by kernel_rfl) (by kernel_rfl) (by kernel_rfl)) ?_
  intro W base args ds gs before hval0 hW hcnd _
  have hval : ∀ (j : Nat) t v, Try.f6.params[j]? = some t → args[j]? = some v → Value.okWide Try.prog W .any base t v := hval0
  have hW' := hW
  obtain ⟨p, q, hA0, hV, rfl, hfz, hnd⟩ := hW
  have hA : DataW.TrodAll enc Try.prog W 0 (fun _ => true) true Try.f6.params.toList args.toList ds p := hA0
  rw [Try.params6] at hA hval
  obtain ⟨v0, vs0, d0, ds0, p0, q0, hargs, rfl, rfl, h0, r0⟩ := trodAll_cons hA
  obtain ⟨v1, vs1, d1, ds1, p1, q1, rfl, rfl, rfl, h1, r1⟩ := trodAll_cons r0
  obtain ⟨v2, vs2, d2, ds2, p2, q2, rfl, rfl, rfl, h2, r2⟩ := trodAll_cons r1
  obtain ⟨rfl, rfl, rfl⟩ := trodAll_nil r2
  obtain rfl : args = #[v0, v1, v2] := by cases args; simp_all
  obtain ⟨rfl, rfl⟩ := trodVars_none hV
  obtain ⟨a0, len0, cap0, rfl⟩ := okWide_slice Try.underlying23 (hval 0 23 v0 rfl rfl)
  have k0 := h0
  have lt0 : ∀ x ∈ p0, x.block < W.heap.size := by obtain ⟨m, hm⟩ := k0; exact DataW.trod_lt m _ _ _ hm
  obtain ⟨z0, w0⟩ : ∃ f, Raw W (.slice a0 len0 cap0) len0 f := by
    obtain ⟨fuel, hf⟩ := h0
    rcases open_ints Try.underlying23 Try.underlying50 (by kernel_rfl) hf with ⟨hcs, _⟩ | ⟨x, l, c, zs, hcs, _, hl, hm, hz, _, hcell, hwz⟩
    · simp [Value.cells] at hcs
      obtain ⟨rfl, rfl, rfl⟩ := hcs
      exact ⟨_, raw_nil W⟩
    · simp [Value.cells] at hcs
      obtain ⟨rfl, rfl, rfl⟩ := hcs
      exact ⟨_, raw_row W x _ _ zs hl hm (by simpa using hz) hcell hwz⟩
  obtain ⟨a1, rfl, rfl, rfl, w1⟩ := open_int Try.underlying3 (hval 1 3 v1 rfl rfl) h1
  obtain ⟨a2, len2, cap2, rfl⟩ := okWide_slice Try.underlying23 (hval 2 23 v2 rfl rfl)
  have k2 := h2
  have lt2 : ∀ x ∈ p2, x.block < W.heap.size := by obtain ⟨m, hm⟩ := k2; exact DataW.trod_lt m _ _ _ hm
  obtain ⟨z2, w2⟩ : ∃ f, Raw W (.slice a2 len2 cap2) len2 f := by
    obtain ⟨fuel, hf⟩ := h2
    rcases open_ints Try.underlying23 Try.underlying50 (by kernel_rfl) hf with ⟨hcs, _⟩ | ⟨x, l, c, zs, hcs, _, hl, hm, hz, _, hcell, hwz⟩
    · simp [Value.cells] at hcs
      obtain ⟨rfl, rfl, rfl⟩ := hcs
      exact ⟨_, raw_nil W⟩
    · simp [Value.cells] at hcs
      obtain ⟨rfl, rfl, rfl⟩ := hcs
      exact ⟨_, raw_row W x _ _ zs hl hm (by simpa using hz) hcell hwz⟩
  clear hA0 hval0
  refine (walk _ _ _ a1 _ _ _ W w0 w1 w2).mono fun e W' ⟨he, bel⟩ => ?_
  subst he
  exact ⟨_, rfl, _, _, _, [], _, [], hW', trodAll_mk1 (shut_bool Try.underlying4 _), (trodAll_cons_mk (Below.trod laidOut (by kernel_rfl) (of_decide_eq_true (by kernel_rfl)) k0 bel lt0) (trodAll_cons_mk (shut_int Try.underlying3 w1) (trodAll_cons_mk (Below.trod laidOut (by kernel_rfl) (of_decide_eq_true (by kernel_rfl)) k2 bel lt2) trodAll_mk0))), rfl, bel.frame _, fun h => by cases h⟩

theorem over : Rows.natPowersRow.holds Try.pinned (OpenSpec.ofChange Rows.natPowersSpec) :=
  OpenClaim.holds_of_wide 6 Try.f6 rfl rfl rfl rfl rfl rfl rfl ⟨rfl, rfl, rfl, rfl, rfl⟩ rfl rfl rfl rfl rfl (by kernel_rfl) Try.func6 (by kernel_rfl)
    (of_decide_eq_true (by kernel_rfl)) (by unfold Func.isWrapper; first | (rw [if_pos (by decide +kernel)]; kernel_rfl) | (rw [if_neg (by decide +kernel)]; exact ⟨rfl, rfl⟩))
    (fun os started H enc _ => lifted os started H enc)

end Go.Proofs.Ytagphmhgceajhab.natPowers
namespace Go.Proofs.Ytagphmhgceajhab
/-- The statement. -/
theorem natPowers_holds : Rows.NatPowersSaid := natPowers.over
end Go.Proofs.Ytagphmhgceajhab
