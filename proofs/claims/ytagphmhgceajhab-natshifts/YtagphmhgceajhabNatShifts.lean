/-
  Proves that Shl and Shr answer a number times, and divided by, any power of two, of up to 20 limbs and powers of up to 400, and their errors for all others, whatever limbs come in (the statement NatShifts); no condition.
-/
import Derived.Test.YtagphmhgceajhabRows
import Derived.Test.YtagphmhgceajhabLaw
import Derived.Test.YtagphmhgceajhabRefOver
import Derived.Test.YtagphmhgceajhabShlShr
import Derived.WalkKit
import Derived.ProofKit
import Derived.OpenShut
import Derived.ShutString
import Derived.ChangeOld
import Derived.Below
namespace Go.Proofs.Ytagphmhgceajhab.natShifts
open Go.ChangeShapes Go.WideShapes Go.ChangeAt Go.RowKit
open Go.ChangeMaps (open_string shut_string)
set_option linter.unusedVariables false

theorem sh0 (x n k : Nat) (hx : x < W32 ^ n) (hn : n ≤ 20) (hk : 640 ≤ k) : x / 2 ^ k = 0 := by
  refine Nat.div_eq_of_lt (Nat.lt_of_lt_of_le hx (Nat.le_trans (Nat.pow_le_pow_right (by decide) hn) ?_))
  obtain ⟨m, hm⟩ : ∃ m, m = 20 := ⟨_, rfl⟩
  rw [← hm, show W32 = 2 ^ 32 from rfl, ← Nat.pow_mul]
  exact Nat.pow_le_pow_right (by omega) (by omega)
theorem shu (x n k : Nat) (hx : x < W32 ^ n) (hn : n ≤ 20) (hk : k ≤ 400) : nl W32 (x * 2 ^ k) ≤ 33 := by
  refine nl_le W32 _ _ (by decide) ?_
  have e : W32 ^ 33 = W32 ^ 20 * W32 ^ 13 := by rw [← Nat.pow_add]
  rw [e]
  refine Nat.mul_lt_mul_of_lt_of_le (Nat.lt_of_lt_of_le hx (Nat.pow_le_pow_right (by decide) hn)) ?_ (Nat.pow_pos (by decide))
  exact Nat.le_trans (Nat.pow_le_pow_right (by omega) hk) (by decide +kernel)
theorem shd (x n k : Nat) (hx : x < W32 ^ n) (hn : n ≤ 20) : nl W32 (x / 2 ^ k) ≤ 20 :=
  nl_le W32 _ _ (by decide) (Nat.lt_of_le_of_lt (Nat.div_le_self _ _) (Nat.lt_of_lt_of_le hx (Nat.pow_le_pow_right (by decide) hn)))
theorem sht (k : Nat) (hk : k ≤ 400) : nl 10000 (2 ^ k) ≤ 39 := nl_small _ 13 (Nat.lt_of_le_of_lt (Nat.pow_le_pow_right (by omega) hk) (by decide +kernel))

set_option maxRecDepth 20000 in
set_option maxHeartbeats 2000000 in
theorem walk (u : Value) (n0 : Nat) (f : Nat → Int) (a : Int) (w : World) (hu0 : Raw w u n0 f) (ha : (Lit.int .i64 a).wf = true) :
    Calls Try.prog 4 #[u, .int .i64 a] w fun e w' => e = .returned (.bool true) ∧ Below w.heap.size w w' := by
  have hab := bounds_i64 ha
  clear ha
  go_enter Try.func4, Try.ntmps4
  go_wp2_with fail
  refine (few_any _ _ 20 _ _ hu0 (by omega)).mono ?_
  rintro e w' ⟨u1, rfl, hu, uf, _, rfl⟩
  have hn : min n0 20 ≤ 20 := Nat.min_le_right _ _
  generalize min n0 20 = n at *
  clear hu0
  by_cases hneg : a < 0
  · go_wp2_with fail
    refine (shl_range _ _ _ (.inl hneg)).mono ?_
    rintro e w1 ⟨rfl, rfl⟩
    go_wp2_with fail
    refine (shr_range _ _ _ hneg).mono ?_
    rintro e w1 ⟨rfl, rfl⟩
    go_wp2_with fail
    refine (awake_any _).mono ?_
    rintro e w7 ⟨rfl, hb7⟩
    go_wp2
    go_ret
    exact ⟨rfl, hb7⟩
  · obtain ⟨k, rfl⟩ : ∃ k : Nat, a = (k : Int) := ⟨a.toNat, by omega⟩
    by_cases hbig : 1048576 < k
    · have h0 : num f n / 2 ^ k = 0 := sh0 _ _ _ (num_lt f n) hn (by omega)
      have i1 : ¬ (k : Int) < 0 := by omega
      have i2 : (400 : Int) < (k : Int) := by omega
      have i3 : ¬ (k : Int) ≤ 1048576 := by omega
      have i4 : ¬ (k : Int) < 640 := by omega
      go_wp2_with fail
      refine (shl_range _ _ _ (.inr (by omega))).mono ?_
      rintro e w1 ⟨rfl, rfl⟩
      go_wp2_with fail
      refine (shr_ok _ _ k _ _ hu uf (by omega) (by omega)).mono ?_
      rintro e w2 ⟨r, rfl, hr, hb2⟩
      rw [h0] at hr
      obtain ⟨ao, c, rfl, _⟩ := hr
      rw [nl_zero]
      go_wp2_with fail
      refine (awake_any _).mono ?_
      rintro e w7 ⟨rfl, hb7⟩
      go_wp2
      go_ret
      exact ⟨congrArg (fun b => Ending.returned (.bool b)) (show (!decide ((k : Int) ≤ 1048576)) = true by simp; omega), hb2.trans (hb7.mono hb2.size)⟩
    · go_wp2_with fail
      refine (shl_ok _ _ k _ _ hu uf (by omega) (by omega)).mono ?_
      rintro e w1 ⟨up, rfl, hup, hb1⟩
      go_wp2_with fail
      refine (shr_ok _ _ k _ _ (hu.below hb1) uf (by omega) (by omega)).mono ?_
      rintro e w2 ⟨dn, rfl, hdn, hb2⟩
      have B2 : Below w'.heap.size w' w2 := hb1.trans (hb2.mono hb1.size)
      have i1 : ¬ (k : Int) < 0 := by omega
      have i3 : (k : Int) ≤ 1048576 := by omega
      by_cases h400 : 400 < k
      · have i2 : (400 : Int) < (k : Int) := by omega
        by_cases h640 : k < 640
        · have i4 : (k : Int) < 640 := by omega
          obtain ⟨ao, c, rfl, _⟩ := hdn
          obtain ⟨ao2, c2, rfl, _⟩ := hup
          generalize nl W32 (num f n / 2 ^ k) = l1
          generalize nl W32 (num f n * 2 ^ k) = l2
          clear h640 h400 hbig hneg
          generalize (k : Int) = K at *
          clear hu
          go_wp2_with fail
          refine (awake_any _).mono ?_
          rintro e w7 ⟨rfl, hb7⟩
          go_wp2
          go_ret
          exact ⟨rfl, B2.trans (hb7.mono B2.size)⟩
        · have i4 : ¬ (k : Int) < 640 := by omega
          have h0 : num f n / 2 ^ k = 0 := sh0 _ _ _ (num_lt f n) hn (by omega)
          rw [h0] at hdn
          obtain ⟨ao, c, rfl, _⟩ := hdn
          rw [nl_zero]
          go_wp2_with fail
          refine (awake_any _).mono ?_
          rintro e w7 ⟨rfl, hb7⟩
          go_wp2
          go_ret
          exact ⟨rfl, B2.trans (hb7.mono B2.size)⟩
      · have i2 : ¬ (400 : Int) < (k : Int) := by omega
        have hbx := nl_num f n (by omega)
        have h2p : 0 < 2 ^ k := Nat.two_pow_pos k
        have up2 := hup.rep.below hb2
        have dn2 := hdn.rep
        clear hup hdn hb1 hb2
        have HUL : Hid (nl W32 (num f n * 2 ^ k) ≤ 33) := shu _ _ _ (num_lt f n) hn (by omega)
        have HDL : Hid (nl W32 (num f n / 2 ^ k) ≤ 20) := shd _ _ _ (num_lt f n) hn
        have HBK : Hid (nl 10000 (2 ^ k) ≤ 39) := sht k (by omega)
        go_wp2_with fail
        refine (from_any _ _ _ _ (hu.below B2) uf (by omega)).mono ?_
        rintro e w3 ⟨r3, rfl, hr3, hb3⟩
        have B3 : Below w'.heap.size w' w3 := B2.trans (hb3.mono B2.size)
        go_wp2_with fail
        refine (two_any k _ (by omega)).mono ?_
        rintro e w4 ⟨t4, rfl, ht4, hb4⟩
        have B4 : Below w'.heap.size w' w4 := B3.trans (hb4.mono B3.size)
        go_wp2_with fail
        refine (over_any _ _ _ _ _ (hr3.below hb4) ht4 h2p (by omega) (Nat.le_trans HBK.out (by omega))).mono ?_
        rintro e w5 ⟨q5, r5, rfl, hq5, hr5, hb5⟩
        have B5 : Below w'.heap.size w' w5 := B4.trans (hb5.mono B4.size)
        go_wp2_with fail
        refine (two_any k _ (by omega)).mono ?_
        rintro e w6 ⟨t6, rfl, ht6, hb6⟩
        have B6 : Below w'.heap.size w' w6 := B5.trans (hb6.mono B5.size)
        go_wp2_with fail
        refine (times_any _ _ _ _ _ (((hr3.below hb4).below hb5).below hb6) ht6 (by omega) (Nat.le_trans HBK.out (by omega))).mono ?_
        rintro e w7 ⟨p7, rfl, hp7, hb7⟩
        have B7 : Below w'.heap.size w' w7 := B6.trans (hb7.mono B6.size)
        go_wp2_with fail
        refine (is_rep _ _ _ _ _ (((((up2.below hb3).below hb4).below hb5).below hb6).below hb7) (Nat.le_trans HUL.out (by omega)) hp7 rfl).mono ?_
        rintro e w8 ⟨rfl, hb8⟩
        have B8 : Below w'.heap.size w' w8 := B7.trans (hb8.mono B7.size)
        go_wp2_with fail
        refine (is_rep _ _ _ _ _ ((((((dn2.below hb3).below hb4).below hb5).below hb6).below hb7).below hb8) (Nat.le_trans HDL.out (by omega)) (((hq5.below hb6).below hb7).below hb8) rfl).mono ?_
        rintro e w9 ⟨rfl, hb9⟩
        have B9 : Below w'.heap.size w' w9 := B8.trans (hb9.mono B8.size)
        go_wp2_with fail
        refine (awake_any _).mono ?_
        rintro e w10 ⟨rfl, hb10⟩
        go_wp2
        go_ret
        exact ⟨rfl, B9.trans (hb10.mono B9.size)⟩

theorem own : ownKnob Try.prog.godebug = none := by kernel_rfl
theorem laidOut : laidOutB Try.prog = true := by kernel_rfl

set_option maxRecDepth 100000 in
theorem lifted (os : Os) (started : os.Started) (H : Type) (enc : TypeId × Value → H) :
    ReturnsInHanded {} Try.checked os 4 .any (Rows.natShiftsSpec.pre6 enc Try.prog Try.f4 Rows.natShiftsRow.domain false) (Rows.natShiftsSpec.post enc Try.prog Try.f4 false true false false) := by
  refine returnsInHanded_of_change (C := Try.checked) own started (by kernel_rfl) Try.func4
    (ChangeSpec.witness6 (enc := enc) (C := Try.checked) false ⟨#[], #[.slice none 0 0, .int .i64 0], []⟩ 8 (by kernel_rfl) (by kernel_rfl) (by kernel_rfl) (by kernel_rfl)) ?_
  intro W base args ds gs before hval0 hW hcnd _
  have hval : ∀ (j : Nat) t v, Try.f4.params[j]? = some t → args[j]? = some v → Value.okWide Try.prog W .any base t v := hval0
  have hW' := hW
  obtain ⟨p, q, hA0, hV, rfl, hfz, hnd⟩ := hW
  have hA : DataW.TrodAll enc Try.prog W 0 (fun _ => true) true Try.f4.params.toList args.toList ds p := hA0
  rw [Try.params4] at hA hval
  obtain ⟨v0, vs0, d0, ds0, p0, q0, hargs, rfl, rfl, h0, r0⟩ := trodAll_cons hA
  obtain ⟨v1, vs1, d1, ds1, p1, q1, rfl, rfl, rfl, h1, r1⟩ := trodAll_cons r0
  obtain ⟨rfl, rfl, rfl⟩ := trodAll_nil r1
  obtain rfl : args = #[v0, v1] := by cases args; simp_all
  obtain ⟨rfl, rfl⟩ := trodVars_none hV
  obtain ⟨a0, len0, cap0, rfl⟩ := okWide_slice Try.underlying23 (hval 0 23 v0 rfl rfl)
  have k0 := h0
  have lt0 : ∀ x ∈ p0, x.block < W.heap.size := by obtain ⟨m, hm⟩ := k0; exact DataW.trod_lt m _ _ _ hm
  obtain ⟨z0, w0⟩ : ∃ f, Raw W (.slice a0 len0 cap0) len0 f := by
    obtain ⟨fuel, hf⟩ := h0
    rcases open_ints Try.underlying23 Try.underlying50 (by kernel_rfl) hf with ⟨hcs, _⟩ | ⟨x, l, c, zs, hcs, _, hl, hm, hz, _, hcell, hwz⟩
    · simp [Value.cells] at hcs
      obtain ⟨rfl, rfl, rfl⟩ := hcs
      exact ⟨_, raw_nil W⟩
    · simp [Value.cells] at hcs
      obtain ⟨rfl, rfl, rfl⟩ := hcs
      exact ⟨_, raw_row W x _ _ zs hl hm (by simpa using hz) hcell hwz⟩
  obtain ⟨a1, rfl, rfl, rfl, w1⟩ := open_int Try.underlying3 (hval 1 3 v1 rfl rfl) h1
  clear hA0 hval0
  refine (walk _ _ _ a1 W w0 w1).mono fun e W' ⟨he, bel⟩ => ?_
  subst he
  exact ⟨_, rfl, _, _, _, [], _, [], hW', trodAll_mk1 (shut_bool Try.underlying4 _), (trodAll_cons_mk (Below.trod laidOut (by kernel_rfl) (of_decide_eq_true (by kernel_rfl)) k0 bel lt0) (trodAll_cons_mk (shut_int Try.underlying3 w1) trodAll_mk0)), rfl, bel.frame _, fun h => by cases h⟩

theorem over : Rows.natShiftsRow.holds Try.pinned (OpenSpec.ofChange Rows.natShiftsSpec) :=
  OpenClaim.holds_of_wide 4 Try.f4 rfl rfl rfl rfl rfl rfl rfl ⟨rfl, rfl, rfl, rfl, rfl⟩ rfl rfl rfl rfl rfl (by kernel_rfl) Try.func4 (by kernel_rfl)
    (of_decide_eq_true (by kernel_rfl)) (by unfold Func.isWrapper; first | (rw [if_pos (by decide +kernel)]; kernel_rfl) | (rw [if_neg (by decide +kernel)]; exact ⟨rfl, rfl⟩))
    (fun os started H enc _ => lifted os started H enc)

end Go.Proofs.Ytagphmhgceajhab.natShifts
namespace Go.Proofs.Ytagphmhgceajhab
/-- The statement. -/
theorem natShifts_holds : Rows.NatShiftsSaid := natShifts.over
end Go.Proofs.Ytagphmhgceajhab
