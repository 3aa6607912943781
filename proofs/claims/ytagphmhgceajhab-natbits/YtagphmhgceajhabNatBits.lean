/-
  Proves that Len tells how many bits any number has, of up to 20 limbs, and Bit which, up to bit 400 and its answer beyond, whatever limbs come in (the statement NatBits); no condition.
-/
import Derived.Test.YtagphmhgceajhabRows
import Derived.Test.YtagphmhgceajhabLaw
import Derived.Test.YtagphmhgceajhabRefOver
import Derived.Test.YtagphmhgceajhabLenBit
import Derived.WalkKit
import Derived.ProofKit
import Derived.OpenShut
import Derived.ShutString
import Derived.ChangeOld
import Derived.Below
namespace Go.Proofs.Ytagphmhgceajhab.natBits
open Go.ChangeShapes Go.WideShapes Go.ChangeAt Go.RowKit
open Go.ChangeMaps (open_string shut_string)
set_option linter.unusedVariables false

theorem sh0 (x n k : Nat) (hx : x < W32 ^ n) (hn : n ≤ 20) (hk : 640 ≤ k) : x / 2 ^ k = 0 := by
  refine Nat.div_eq_of_lt (Nat.lt_of_lt_of_le hx (Nat.le_trans (Nat.pow_le_pow_right (by decide) hn) ?_))
  obtain ⟨m, hm⟩ : ∃ m, m = 20 := ⟨_, rfl⟩
  rw [← hm, show W32 = 2 ^ 32 from rfl, ← Nat.pow_mul]
  exact Nat.pow_le_pow_right (by omega) (by omega)
theorem sht (k : Nat) (hk : k ≤ 400) : nl 10000 (2 ^ k) ≤ 39 := nl_small _ 13 (Nat.lt_of_le_of_lt (Nat.pow_le_pow_right (by omega) hk) (by decide +kernel))
theorem nl_bit (b : Nat) (h : b < 2) : nl 10000 b = b := by
  have : b = 0 ∨ b = 1 := by omega
  rcases this with rfl | rfl
  · exact nl_zero _
  · decide +kernel
theorem nl_two (L : Nat) (h : L ≤ 640) : nl 10000 (2 ^ L) ≤ 63 := nl_small _ 21 (Nat.lt_of_le_of_lt (Nat.pow_le_pow_right (by omega) h) (by decide +kernel))

set_option maxRecDepth 20000 in
set_option maxHeartbeats 2000000 in
theorem walk (u : Value) (n0 : Nat) (f : Nat → Int) (a : Int) (w : World) (hu0 : Raw w u n0 f) (ha : (Lit.int .i64 a).wf = true) :
    Calls Try.prog 5 #[u, .int .i64 a] w fun e w' => e = .returned (.bool true) ∧ Below w.heap.size w w' := by
  have hab := bounds_i64 ha
  clear ha
  go_enter Try.func5, Try.ntmps5
  go_wp2_with fail
  refine (few_any _ _ 20 _ _ hu0 (by omega)).mono ?_
  rintro e w' ⟨u1, rfl, hu, uf, _, rfl⟩
  have hn : min n0 20 ≤ 20 := Nat.min_le_right _ _
  generalize min n0 20 = n at *
  clear hu0
  have hx := nl_le W32 (num f n) n (by decide) (num_lt f n)
  have hbx := nl_num f n (by omega)
  go_wp2_with fail
  refine (from_any _ _ _ _ hu uf (by omega)).mono ?_
  rintro e w1 ⟨rx, rfl, hrx0, hb1⟩
  go_wp2_with fail
  refine (len_any _ _ _ _ (hu.below hb1) uf).mono ?_
  rintro e w2 ⟨L, rfl, hL1, hL2, hL3, hw2⟩
  subst hw2
  have hL640 : L ≤ 640 := by omega
  have n1 : ¬ (L : Int) < 0 := by omega
  have n2 : ¬ (640 : Int) < (L : Int) := by omega
  have hc1 : cmpI (num f n : Int) ((2 ^ L : Nat) : Int) = -1 := cmpI_lt (by omega)
  have HC2 : Hid (0 < L → ¬ cmpI (num f n : Int) ((2 ^ (L - 1) : Nat) : Int) < 0) := fun h => by have := hL2 h; unfold cmpI; rw [if_neg (by omega)]; split <;> omega
  clear hL1 hL2 hL3
  go_wp2_with fail
  refine (two_any L _ (by omega)).mono ?_
  rintro e w3 ⟨t3, rfl, ht3, hb3⟩
  go_wp2_with fail
  refine (order_any _ _ _ _ _ (hrx0.below hb3) ht3).mono ?_
  rintro e w4 ⟨rfl, hb4⟩
  rw [hc1]
  have hrx4 := (hrx0.below hb3).below hb4
  have A3 : Below w'.heap.size w' w3 := hb1.trans (hb3.mono hb1.size)
  have A4 : Below w'.heap.size w' w4 := A3.trans (hb4.mono A3.size)
  clear hrx0 hb1 hb3 hb4 ht3 hc1
  by_cases hL : 0 < L
  · have n3 : (0 : Int) < (L : Int) := by omega
    have n4 : ((L : Int) - 1) = ((L - 1 : Nat) : Int) := by omega
    have hc2 := HC2.out hL
    go_wp2_with fail
    refine (two_any (L - 1) _ (by omega)).mono ?_
    rintro e w5 ⟨t5, rfl, ht5, hb5⟩
    go_wp2_with fail
    refine (order_any _ _ _ _ _ (hrx4.below hb5) ht5).mono ?_
    rintro e w6 ⟨rfl, hb6⟩
    have hrx := (hrx4.below hb5).below hb6
    have A5 : Below w'.heap.size w' w5 := A4.trans (hb5.mono A4.size)
    have BB : Below w'.heap.size w' w6 := A5.trans (hb6.mono A5.size)
    clear A3 A4 A5 hrx4 hb5 hb6 HC2 ht5
    generalize cmpI (num f n : Int) ((2 ^ (L - 1) : Nat) : Int) = C at *
    generalize (L : Int) - 1 = L1 at *
    generalize (L : Int) = LL at *

    by_cases hneg : a < 0
    · have i1 : ¬ (0 : Int) ≤ a := by omega
      go_wp2_with fail
      refine (bit_neg _ _ _ hneg).mono ?_
      rintro e wb ⟨rfl, hwb⟩
      subst hwb
      go_wp2_with fail
      refine (awake_any _).mono ?_
      rintro e w7 ⟨rfl, hb7⟩
      go_wp2
      go_ret
      exact ⟨rfl, BB.trans (hb7.mono BB.size)⟩
    · obtain ⟨k, rfl⟩ : ∃ k : Nat, a = (k : Int) := ⟨a.toNat, by omega⟩
      have i1 : (0 : Int) ≤ (k : Int) := by omega
      by_cases h400 : 400 < k
      · have i2 : (400 : Int) < (k : Int) := by omega
        by_cases h640 : k < 640
        · have i4 : (k : Int) < 640 := by omega
          clear h640 h400 hneg
          generalize (k : Int) = K at *
          go_wp2_with fail
          refine (awake_any _).mono ?_
          rintro e w7 ⟨rfl, hb7⟩
          go_wp2
          go_ret
          exact ⟨rfl, BB.trans (hb7.mono BB.size)⟩
        · have i4 : ¬ (k : Int) < 640 := by omega
          have h0 : num f n / 2 ^ k % 2 = 0 := by rw [sh0 _ _ _ (num_lt f n) hn (by omega)]
          go_wp2_with fail
          refine (bit_any _ _ _ _ k (hu.below BB) uf (by omega)).mono ?_
          rintro e wb ⟨rfl, hwb⟩
          subst hwb
          rw [h0]
          go_wp2_with fail
          refine (awake_any _).mono ?_
          rintro e w7 ⟨rfl, hb7⟩
          go_wp2
          go_ret
          exact ⟨rfl, BB.trans (hb7.mono BB.size)⟩
      · have i2 : ¬ (400 : Int) < (k : Int) := by omega
        have h2p : 0 < 2 ^ k := Nat.two_pow_pos k
        have HBK : Hid (nl 10000 (2 ^ k) ≤ 39) := sht k (by omega)
        have HB2 : Hid (nl 10000 2 ≤ 39) := sht 1 (by omega)
        have HBH : Hid (nl 10000 (num f n / 2 ^ k) ≤ 60) := by
          show _ ≤ _
          exact Nat.le_trans (nl_small _ 20 (Nat.lt_of_le_of_lt (Nat.div_le_self _ _) (Nat.lt_of_lt_of_le (num_lt f n) (Nat.pow_le_pow_right (by decide) hn)))) (by omega)
        go_wp2_with fail
        refine (two_any k _ (by omega)).mono ?_
        rintro e w4 ⟨t4, rfl, ht4, hb4⟩
        have B4 : Below w'.heap.size w' w4 := BB.trans (hb4.mono BB.size)
        go_wp2_with fail
        refine (over_any _ _ _ _ _ (hrx.below hb4) ht4 h2p (by omega) (Nat.le_trans HBK.out (by omega))).mono ?_
        rintro e w5 ⟨q5, r5, rfl, hq5, hr5, hb5⟩
        have B5 : Below w'.heap.size w' w5 := B4.trans (hb5.mono B4.size)
        go_wp2_with fail
        refine (small_any 2 _ (by omega)).mono ?_
        rintro e w6 ⟨t6, rfl, ht6, hb6⟩
        have B6 : Below w'.heap.size w' w6 := B5.trans (hb6.mono B5.size)
        go_wp2_with fail
        refine (over_any _ _ _ _ _ (hq5.below hb6) ht6 (by omega) (Nat.le_trans HBH.out (by omega)) (Nat.le_trans HB2.out (by omega))).mono ?_
        rintro e w8 ⟨q8, r8, rfl, hq8, hr8, hb8⟩
        have B8 : Below w'.heap.size w' w8 := B6.trans (hb8.mono B6.size)
        obtain ⟨ao, c, rfl, _⟩ := hr8
        have hnl : nl 10000 (num f n / 2 ^ k % 2) = num f n / 2 ^ k % 2 := nl_bit _ (Nat.mod_lt _ (by omega))
        rw [hnl]
        go_wp2_with fail
        refine (bit_any _ _ _ _ k (hu.below B8) uf (by omega)).mono ?_
        rintro e wb ⟨rfl, hwb⟩
        subst hwb
        generalize num f n / 2 ^ k % 2 = bt at *
        have hbt : ((bt : Int) == (bt : Int)) = true := by simp
        go_wp2_with fail
        refine (awake_any _).mono ?_
        rintro e w7 ⟨rfl, hb7⟩
        go_wp2
        go_ret
        exact ⟨rfl, B8.trans (hb7.mono B8.size)⟩
  · have n3 : ¬ (0 : Int) < (L : Int) := by omega
    have hrx := hrx4
    have BB := A4
    clear A3 A4 hrx4 HC2
    generalize (L : Int) = LL at *

    by_cases hneg : a < 0
    · have i1 : ¬ (0 : Int) ≤ a := by omega
      go_wp2_with fail
      refine (bit_neg _ _ _ hneg).mono ?_
      rintro e wb ⟨rfl, hwb⟩
      subst hwb
      go_wp2_with fail
      refine (awake_any _).mono ?_
      rintro e w7 ⟨rfl, hb7⟩
      go_wp2
      go_ret
      exact ⟨rfl, BB.trans (hb7.mono BB.size)⟩
    · obtain ⟨k, rfl⟩ : ∃ k : Nat, a = (k : Int) := ⟨a.toNat, by omega⟩
      have i1 : (0 : Int) ≤ (k : Int) := by omega
      by_cases h400 : 400 < k
      · have i2 : (400 : Int) < (k : Int) := by omega
        by_cases h640 : k < 640
        · have i4 : (k : Int) < 640 := by omega
          clear h640 h400 hneg
          generalize (k : Int) = K at *
          go_wp2_with fail
          refine (awake_any _).mono ?_
          rintro e w7 ⟨rfl, hb7⟩
          go_wp2
          go_ret
          exact ⟨rfl, BB.trans (hb7.mono BB.size)⟩
        · have i4 : ¬ (k : Int) < 640 := by omega
          have h0 : num f n / 2 ^ k % 2 = 0 := by rw [sh0 _ _ _ (num_lt f n) hn (by omega)]
          go_wp2_with fail
          refine (bit_any _ _ _ _ k (hu.below BB) uf (by omega)).mono ?_
          rintro e wb ⟨rfl, hwb⟩
          subst hwb
          rw [h0]
          go_wp2_with fail
          refine (awake_any _).mono ?_
          rintro e w7 ⟨rfl, hb7⟩
          go_wp2
          go_ret
          exact ⟨rfl, BB.trans (hb7.mono BB.size)⟩
      · have i2 : ¬ (400 : Int) < (k : Int) := by omega
        have h2p : 0 < 2 ^ k := Nat.two_pow_pos k
        have HBK : Hid (nl 10000 (2 ^ k) ≤ 39) := sht k (by omega)
        have HB2 : Hid (nl 10000 2 ≤ 39) := sht 1 (by omega)
        have HBH : Hid (nl 10000 (num f n / 2 ^ k) ≤ 60) := by
          show _ ≤ _
          exact Nat.le_trans (nl_small _ 20 (Nat.lt_of_le_of_lt (Nat.div_le_self _ _) (Nat.lt_of_lt_of_le (num_lt f n) (Nat.pow_le_pow_right (by decide) hn)))) (by omega)
        go_wp2_with fail
        refine (two_any k _ (by omega)).mono ?_
        rintro e w4 ⟨t4, rfl, ht4, hb4⟩
        have B4 : Below w'.heap.size w' w4 := BB.trans (hb4.mono BB.size)
        go_wp2_with fail
        refine (over_any _ _ _ _ _ (hrx.below hb4) ht4 h2p (by omega) (Nat.le_trans HBK.out (by omega))).mono ?_
        rintro e w5 ⟨q5, r5, rfl, hq5, hr5, hb5⟩
        have B5 : Below w'.heap.size w' w5 := B4.trans (hb5.mono B4.size)
        go_wp2_with fail
        refine (small_any 2 _ (by omega)).mono ?_
        rintro e w6 ⟨t6, rfl, ht6, hb6⟩
        have B6 : Below w'.heap.size w' w6 := B5.trans (hb6.mono B5.size)
        go_wp2_with fail
        refine (over_any _ _ _ _ _ (hq5.below hb6) ht6 (by omega) (Nat.le_trans HBH.out (by omega)) (Nat.le_trans HB2.out (by omega))).mono ?_
        rintro e w8 ⟨q8, r8, rfl, hq8, hr8, hb8⟩
        have B8 : Below w'.heap.size w' w8 := B6.trans (hb8.mono B6.size)
        obtain ⟨ao, c, rfl, _⟩ := hr8
        have hnl : nl 10000 (num f n / 2 ^ k % 2) = num f n / 2 ^ k % 2 := nl_bit _ (Nat.mod_lt _ (by omega))
        rw [hnl]
        go_wp2_with fail
        refine (bit_any _ _ _ _ k (hu.below B8) uf (by omega)).mono ?_
        rintro e wb ⟨rfl, hwb⟩
        subst hwb
        generalize num f n / 2 ^ k % 2 = bt at *
        have hbt : ((bt : Int) == (bt : Int)) = true := by simp
        go_wp2_with fail
        refine (awake_any _).mono ?_
        rintro e w7 ⟨rfl, hb7⟩
        go_wp2
        go_ret
        exact ⟨rfl, B8.trans (hb7.mono B8.size)⟩

theorem own : ownKnob Try.prog.godebug = none := by kernel_rfl
theorem laidOut : laidOutB Try.prog = true := by kernel_rfl

set_option maxRecDepth 100000 in
theorem lifted (os : Os) (started : os.Started) (H : Type) (enc : TypeId × Value → H) :
    ReturnsInHanded {} Try.checked os 5 .any (Rows.natBitsSpec.pre6 enc Try.prog Try.f5 Rows.natBitsRow.domain false) (Rows.natBitsSpec.post enc Try.prog Try.f5 false true false false) := by
  refine returnsInHanded_of_change (C := Try.checked) own started (by kernel_rfl) Try.func5
    (ChangeSpec.witness6 (enc := enc) (C := Try.checked) false ⟨#[], #[.slice none 0 0, .int .i64 0], []⟩ 8 (by kernel_rfl) (by kernel_rfl) (by kernel_rfl) (by kernel_rfl)) ?_
  intro W base args ds gs before hval0 hW hcnd _
  have hval : ∀ (j : Nat) t v, Try.f5.params[j]? = some t → args[j]? = some v → Value.okWide Try.prog W .any base t v := hval0
  have hW' := hW
  obtain ⟨p, q, hA0, hV, rfl, hfz, hnd⟩ := hW
  have hA : DataW.TrodAll enc Try.prog W 0 (fun _ => true) true Try.f5.params.toList args.toList ds p := hA0
  rw [Try.params5] at hA hval
  obtain ⟨v0, vs0, d0, ds0, p0, q0, hargs, rfl, rfl, h0, r0⟩ := trodAll_cons hA
  obtain ⟨v1, vs1, d1, ds1, p1, q1, rfl, rfl, rfl, h1, r1⟩ := trodAll_cons r0
  obtain ⟨rfl, rfl, rfl⟩ := trodAll_nil r1
  obtain rfl : args = #[v0, v1] := by cases args; simp_all
  obtain ⟨rfl, rfl⟩ := trodVars_none hV
  obtain ⟨a0, len0, cap0, rfl⟩ := okWide_slice Try.underlying23 (hval 0 23 v0 rfl rfl)
  have k0 := h0
  have lt0 : ∀ x ∈ p0, x.block < W.heap.size := by obtain ⟨m, hm⟩ := k0; exact DataW.trod_lt m _ _ _ hm
  obtain ⟨z0, w0⟩ : ∃ f, Raw W (.slice a0 len0 cap0) len0 f := by
    obtain ⟨fuel, hf⟩ := h0
    rcases open_ints Try.underlying23 Try.underlying50 (by kernel_rfl) hf with ⟨hcs, _⟩ | ⟨x, l, c, zs, hcs, _, hl, hm, hz, _, hcell, hwz⟩
    · simp [Value.cells] at hcs
      obtain ⟨rfl, rfl, rfl⟩ := hcs
      exact ⟨_, raw_nil W⟩
    · simp [Value.cells] at hcs
      obtain ⟨rfl, rfl, rfl⟩ := hcs
      exact ⟨_, raw_row W x _ _ zs hl hm (by simpa using hz) hcell hwz⟩
  obtain ⟨a1, rfl, rfl, rfl, w1⟩ := open_int Try.underlying3 (hval 1 3 v1 rfl rfl) h1
  clear hA0 hval0
  refine (walk _ _ _ a1 W w0 w1).mono fun e W' ⟨he, bel⟩ => ?_
  subst he
  exact ⟨_, rfl, _, _, _, [], _, [], hW', trodAll_mk1 (shut_bool Try.underlying4 _), (trodAll_cons_mk (Below.trod laidOut (by kernel_rfl) (of_decide_eq_true (by kernel_rfl)) k0 bel lt0) (trodAll_cons_mk (shut_int Try.underlying3 w1) trodAll_mk0)), rfl, bel.frame _, fun h => by cases h⟩

theorem over : Rows.natBitsRow.holds Try.pinned (OpenSpec.ofChange Rows.natBitsSpec) :=
  OpenClaim.holds_of_wide 5 Try.f5 rfl rfl rfl rfl rfl rfl rfl ⟨rfl, rfl, rfl, rfl, rfl⟩ rfl rfl rfl rfl rfl (by kernel_rfl) Try.func5 (by kernel_rfl)
    (of_decide_eq_true (by kernel_rfl)) (by unfold Func.isWrapper; first | (rw [if_pos (by decide +kernel)]; kernel_rfl) | (rw [if_neg (by decide +kernel)]; exact ⟨rfl, rfl⟩))
    (fun os started H enc _ => lifted os started H enc)

end Go.Proofs.Ytagphmhgceajhab.natBits
namespace Go.Proofs.Ytagphmhgceajhab
/-- The statement. -/
theorem natBits_holds : Rows.NatBitsSaid := natBits.over
end Go.Proofs.Ytagphmhgceajhab
