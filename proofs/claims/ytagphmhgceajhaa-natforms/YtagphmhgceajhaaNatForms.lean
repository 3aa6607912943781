/-
  Proves that Right, Clean, To, Of, Zero, Even say of any limbs, up to 40, what the document says, and that what is handed in stays (the statement NatForms); no condition.
-/
import Derived.Test.YtagphmhgceajhaaRows
import Derived.Test.YtagphmhgceajhaaLaw
import Derived.WalkKit
import Derived.ProofKit
import Derived.OpenShut
import Derived.ShutString
import Derived.ChangeOld
import Derived.Below
namespace Go.Proofs.Ytagphmhgceajhaa.natForms
open Go.ChangeShapes Go.WideShapes Go.ChangeAt Go.RowKit
open Go.ChangeMaps (open_string shut_string)
set_option linter.unusedVariables false

theorem toV_num (f : Nat → Int) (n : Nat) (h : sz (lo f) n ≤ 2) : toV f n = (num f n : Int) := by
  have hv := num_val f n
  rw [val_sz] at hv
  unfold toV
  rw [if_pos h]
  have key : ∀ i, at0 f n i % 4294967296 = if i < n then lo f i else 0 := by
    intro i; unfold at0 lo; split <;> simp
  have hz : ∀ i, sz (lo f) n ≤ i → (if i < n then lo f i else 0) = 0 := by
    intro i hi
    by_cases g : i < n
    · rw [if_pos g]; exact sz_above (lo f) n i hi g
    · rw [if_neg g]
  have hle := sz_le (lo f) n
  rw [key 1, key 0]
  rcases (show sz (lo f) n = 0 ∨ sz (lo f) n = 1 ∨ sz (lo f) n = 2 by omega) with e | e | e
  · rw [hz 0 (by omega), hz 1 (by omega)]
    rw [e] at hv; simp [val] at hv; omega
  · rw [hz 1 (by omega), if_pos (show 0 < n by omega)]
    rw [e] at hv; simp [val] at hv; omega
  · rw [if_pos (show 0 < n by omega), if_pos (show 1 < n by omega)]
    rw [e] at hv; simp [val] at hv; omega
theorem nl_two (x : Nat) : nl W32 x ≤ 2 ↔ x < 2 ^ 64 := by
  constructor
  · intro h
    have h1 := lt_pow_nl W32 x (by decide)
    have h2 : W32 ^ nl W32 x ≤ W32 ^ 2 := Nat.pow_le_pow_right (by decide) h
    unfold W32 at *; omega
  · intro h; exact nl_le W32 x 2 (by decide) (by unfold W32; omega)

set_option maxHeartbeats 4000000 in
theorem walk (u : Value) (n0 : Nat) (f : Nat → Int) (w : World) (hu0 : Raw w u n0 f) :
    Calls Try.prog 3 #[u] w fun e w' => e = .returned (.bool true) ∧ Below w.heap.size w w' := by
  obtain ⟨i0, hi, hz0, hz1, hz2⟩ := info_parts info_u64
  go_enter Try.func3, Try.ntmps3
  go_wp2_with fail
  refine (few_any _ _ 40 _ _ hu0 (by omega)).mono ?_
  rintro e w' ⟨u1, rfl, hu, uf, hnil, rfl⟩
  have hn : min n0 40 ≤ 40 := Nat.min_le_right _ _
  generalize min n0 40 = n at *
  clear hu0
  have hu2 := hu
  obtain ⟨ao, c, rfl, hnc, hl, h4⟩ := hu2
  have hcl := nl_le W32 (num f n) n (by decide) (num_lt f n)
  have hsx := num_sz f n
  have hbx := nl_num f n (by omega)
  by_cases h0 : n = 0
  · subst h0
    have hsm : nl W32 (num f 0) ≤ 2 := by omega
    have hlen : (((0 : Nat) : Int) == 0) = true := by simp
    have hzz : Hid ((decide (nl W32 (num f 0) = 0) == ((nl 10000 (num f 0) : Int) == 0)) = true) := by
      show _ = _
      rw [beq_iff_eq, Bool.eq_iff_iff]; simp [nl_eq_zero W32 (num f 0) (by decide), nl_eq_zero 10000 (num f 0) (by decide)]
    have heq : Hid ((decide (at0 f 0 0 % 2 = 0) == true) = true) := by
      show _ = _
      simp [at0]
    cases ao with
    | none =>
      have hc0 : c = 0 := hnil _ _ rfl
      subst hc0
      go_wp2_with (at_builtin; refine wpList_append_own_none rfl _ _ 23 rfl w'.heap.size 29 i0 1 Try.underlying23 hi _ 0 [] rfl (World.ownsRow_lit (base := w'.heap.size) (e := 29) (size := 1) w' #[] 0 (Nat.le_refl _) (by unfold maxLen; omega) rfl) rfl ?_)
      have hb1 : Below w'.heap.size w' (w'.alloc (.cells #[] 29)) := (Below.refl _ w').alloc (Nat.le_refl _) _
      have hwas : Nums .u64 (w'.alloc (.cells #[] 29)) (.slice (some ⟨w'.heap.size, 0, none⟩) 0 0) 0 f := ⟨_, _, rfl, Nat.le_refl _, Nat.zero_le _, fun h => by omega⟩
      generalize w'.alloc (.cells #[] 29) = w1 at *
      generalize (Value.slice (some ⟨w'.heap.size, 0, none⟩) 0 0) = was at *
      go_wp2_with fail
      refine (clean_any _ _ _ _ (hu.below hb1) uf).mono ?_
      rintro e w2 ⟨cl, rfl, hcl2, hb2⟩
      have B2 : Below w'.heap.size w' w2 := hb1.trans (hb2.mono hb1.size)
      go_wp2_with fail
      refine (from_any _ _ _ _ (hu.below B2) uf (by omega)).mono ?_
      rintro e w3 ⟨rn, rfl, hrn, hb3⟩
      have B3 : Below w'.heap.size w' w3 := B2.trans (hb3.mono B2.size)
      go_wp2_with fail
      refine (to_any _ _ _ _ (hu.below B3) uf).mono ?_
      rintro e w3' ⟨rfl, rfl⟩
      go_wp2_with fail
      refine (two_any 64 _ (by omega)).mono ?_
      rintro e w4 ⟨r64, rfl, hr64, hb4⟩
      obtain ⟨T, hT⟩ : ∃ T, T = 2 ^ 64 := ⟨_, rfl⟩
      rw [← hT] at hr64
      have HT : Hid (T = 2 ^ 64) := hT
      clear hT
      have B4 : Below w'.heap.size w' w4 := B3.trans (hb4.mono B3.size)
      go_wp2_with fail
      refine (order_any _ _ _ _ _ (hrn.below hb4) hr64).mono ?_
      rintro e w5 ⟨rfl, hb5⟩
      have B5 : Below w'.heap.size w' w5 := B4.trans (hb5.mono B4.size)
      have hrn5 : RepD w5 rn (num f 0) := (hrn.below hb4).below hb5
      have hcl5 : Mine .u64 w1.heap.size w5 cl (nl W32 (num f 0)) (dg W32 (num f 0)) := (((hcl2.below hb3).below hb4).below hb5)
      have hwas5 : Nums .u64 w5 was 0 f := (((hwas.below hb2).below hb3).below hb4).below hb5
      clear hcl2 hrn hr64 hwas hb1 hb2 hb3 hb4 hb5 B2 B3 B4
      have hxT : Hid (num f 0 < T) := by show num f 0 < T; rw [HT.out]; exact (nl_two _).1 hsm
      have hx64 : Hid (num f 0 < 18446744073709551616) := by show num f 0 < _; have := (nl_two _).1 hsm; omega
      have d1 : decide (nl W32 (num f 0) ≤ 2) = true := decide_eq_true hsm
      have d2 : cmpI (num f 0) (T : Int) = -1 := cmpI_lt (by have := hxT.out; omega)
      have htv := toV_num f 0 (by rw [hsx]; exact hsm)
      try rw [d1]
      rw [htv, d2]
      clear d2
      go_wp2_with fail
      refine (of_any _ _ (by omega) (by have := hx64.out; omega)).mono ?_
      rintro e w6 ⟨vo, rfl, hvo, hb6⟩
      rw [Int.toNat_natCast] at hvo
      have B6 : Below w'.heap.size w' w6 := B5.trans (hb6.mono B5.size)
      go_wp2_with fail
      refine (is_rep _ _ _ _ _ hvo.nums (by omega) (hrn5.below hb6) rfl).mono ?_
      rintro e w7 ⟨rfl, hb7⟩
      have B7 : Below w'.heap.size w' w7 := B6.trans (hb7.mono B6.size)
      have hrn7 := (hrn5.below hb6).below hb7
      have hcl7 := (hcl5.below hb6).below hb7
      have hwas7 := (hwas5.below hb6).below hb7
      clear hvo hb6 hb7 hrn5 hcl5 hwas5 B5 B6
      go_wp2_with fail
      refine (right_any _ _ _ _ (hu.below B7)).mono ?_
      rintro e w8 ⟨rfl, rfl⟩
      go_wp2_with fail
      refine (refRight_any _ _ _ _ (hu.below B7)).mono ?_
      rintro e w8 ⟨rfl, rfl⟩
      have hbb : (rightB f 0 == rightB f 0) = true := by simp
      go_wp2_with fail
      refine (is_rep _ _ _ _ _ hcl7.nums (by omega) hrn7 rfl).mono ?_
      rintro e w9 ⟨rfl, hb9⟩
      have B9 : Below w'.heap.size w' w9 := B7.trans (hb9.mono B7.size)
      go_wp2_with fail
      refine (zero_any _ _ _ _ (hu.below B9) uf).mono ?_
      rintro e w10 ⟨rfl, rfl⟩
      obtain ⟨ro, rc, rfl, _⟩ := hrn7
      try rw [hsx]
      have hzz2 := hzz.out
      go_wp2_with fail
      refine (even_any _ _ _ _ (hu.below B9) uf).mono ?_
      rintro e w10 ⟨rfl, rfl⟩
      have heq2 := heq.out
      go_wp2_with fail
      refine (kept_any _ _ _ _ _ (hu.below B9) (hwas7.below hb9)).mono ?_
      rintro e w11 ⟨rfl, hb11⟩
      have B11 : Below w'.heap.size w' w11 := B9.trans (hb11.mono B9.size)
      go_wp2_with fail
      refine (awake_any _).mono ?_
      rintro e w12 ⟨rfl, hb12⟩
      go_wp2
      go_ret
      exact ⟨rfl, B11.trans (hb12.mono B11.size)⟩
    | some ad =>
      go_wp2_with (at_builtin; refine wpList_append_own _ rfl _ _ 23 rfl w'.heap.size 29 i0 (.int .u64 0) 1 8 Try.underlying23 hi hz0 hz1 hz2 rfl (by decide) _ 0 [] rfl (World.ownsRow_lit (base := w'.heap.size) (e := 29) (size := 1) w' #[] 0 (Nat.le_refl _) (by unfold maxLen; omega) rfl) ad 0 c [] rfl rfl (by intro j v hj; simp at hj) (by intro v hv; simp at hv) (by unfold maxLen; omega) (by omega) (by simp) ?_)
      intro was w1 hown hgrow _
      have hb1 : Below w'.heap.size w' w1 := ((Below.refl _ w').alloc (Nat.le_refl _) _).grown hgrow (by simp) (fun k e => by simp [Value.ownBlock] at e; omega)
      have hwas : Nums .u64 w1 was 0 f := owns_nums (by simpa [valsOf] using hown) hl
      clear hown hgrow
      go_wp2_with fail
      refine (clean_any _ _ _ _ (hu.below hb1) uf).mono ?_
      rintro e w2 ⟨cl, rfl, hcl2, hb2⟩
      have B2 : Below w'.heap.size w' w2 := hb1.trans (hb2.mono hb1.size)
      go_wp2_with fail
      refine (from_any _ _ _ _ (hu.below B2) uf (by omega)).mono ?_
      rintro e w3 ⟨rn, rfl, hrn, hb3⟩
      have B3 : Below w'.heap.size w' w3 := B2.trans (hb3.mono B2.size)
      go_wp2_with fail
      refine (to_any _ _ _ _ (hu.below B3) uf).mono ?_
      rintro e w3' ⟨rfl, rfl⟩
      go_wp2_with fail
      refine (two_any 64 _ (by omega)).mono ?_
      rintro e w4 ⟨r64, rfl, hr64, hb4⟩
      obtain ⟨T, hT⟩ : ∃ T, T = 2 ^ 64 := ⟨_, rfl⟩
      rw [← hT] at hr64
      have HT : Hid (T = 2 ^ 64) := hT
      clear hT
      have B4 : Below w'.heap.size w' w4 := B3.trans (hb4.mono B3.size)
      go_wp2_with fail
      refine (order_any _ _ _ _ _ (hrn.below hb4) hr64).mono ?_
      rintro e w5 ⟨rfl, hb5⟩
      have B5 : Below w'.heap.size w' w5 := B4.trans (hb5.mono B4.size)
      have hrn5 : RepD w5 rn (num f 0) := (hrn.below hb4).below hb5
      have hcl5 : Mine .u64 w1.heap.size w5 cl (nl W32 (num f 0)) (dg W32 (num f 0)) := (((hcl2.below hb3).below hb4).below hb5)
      have hwas5 : Nums .u64 w5 was 0 f := (((hwas.below hb2).below hb3).below hb4).below hb5
      clear hcl2 hrn hr64 hwas hb1 hb2 hb3 hb4 hb5 B2 B3 B4
      have hxT : Hid (num f 0 < T) := by show num f 0 < T; rw [HT.out]; exact (nl_two _).1 hsm
      have hx64 : Hid (num f 0 < 18446744073709551616) := by show num f 0 < _; have := (nl_two _).1 hsm; omega
      have d1 : decide (nl W32 (num f 0) ≤ 2) = true := decide_eq_true hsm
      have d2 : cmpI (num f 0) (T : Int) = -1 := cmpI_lt (by have := hxT.out; omega)
      have htv := toV_num f 0 (by rw [hsx]; exact hsm)
      try rw [d1]
      rw [htv, d2]
      clear d2
      go_wp2_with fail
      refine (of_any _ _ (by omega) (by have := hx64.out; omega)).mono ?_
      rintro e w6 ⟨vo, rfl, hvo, hb6⟩
      rw [Int.toNat_natCast] at hvo
      have B6 : Below w'.heap.size w' w6 := B5.trans (hb6.mono B5.size)
      go_wp2_with fail
      refine (is_rep _ _ _ _ _ hvo.nums (by omega) (hrn5.below hb6) rfl).mono ?_
      rintro e w7 ⟨rfl, hb7⟩
      have B7 : Below w'.heap.size w' w7 := B6.trans (hb7.mono B6.size)
      have hrn7 := (hrn5.below hb6).below hb7
      have hcl7 := (hcl5.below hb6).below hb7
      have hwas7 := (hwas5.below hb6).below hb7
      clear hvo hb6 hb7 hrn5 hcl5 hwas5 B5 B6
      go_wp2_with fail
      refine (right_any _ _ _ _ (hu.below B7)).mono ?_
      rintro e w8 ⟨rfl, rfl⟩
      go_wp2_with fail
      refine (refRight_any _ _ _ _ (hu.below B7)).mono ?_
      rintro e w8 ⟨rfl, rfl⟩
      have hbb : (rightB f 0 == rightB f 0) = true := by simp
      go_wp2_with fail
      refine (is_rep _ _ _ _ _ hcl7.nums (by omega) hrn7 rfl).mono ?_
      rintro e w9 ⟨rfl, hb9⟩
      have B9 : Below w'.heap.size w' w9 := B7.trans (hb9.mono B7.size)
      go_wp2_with fail
      refine (zero_any _ _ _ _ (hu.below B9) uf).mono ?_
      rintro e w10 ⟨rfl, rfl⟩
      obtain ⟨ro, rc, rfl, _⟩ := hrn7
      try rw [hsx]
      have hzz2 := hzz.out
      go_wp2_with fail
      refine (even_any _ _ _ _ (hu.below B9) uf).mono ?_
      rintro e w10 ⟨rfl, rfl⟩
      have heq2 := heq.out
      go_wp2_with fail
      refine (kept_any _ _ _ _ _ (hu.below B9) (hwas7.below hb9)).mono ?_
      rintro e w11 ⟨rfl, hb11⟩
      have B11 : Below w'.heap.size w' w11 := B9.trans (hb11.mono B9.size)
      go_wp2_with fail
      refine (awake_any _).mono ?_
      rintro e w12 ⟨rfl, hb12⟩
      go_wp2
      go_ret
      exact ⟨rfl, B11.trans (hb12.mono B11.size)⟩
  · obtain ⟨b, off, rfl, hc⟩ := h4 (by omega)
    have hblt := hc.lt (by omega)
    go_wp2_with (at_builtin; refine wpList_append_own _ rfl _ _ 23 rfl w'.heap.size 29 i0 (.int .u64 0) 1 8 Try.underlying23 hi hz0 hz1 hz2 rfl (by decide) _ 0 [] rfl (World.ownsRow_lit (base := w'.heap.size) (e := 29) (size := 1) w' #[] 0 (Nat.le_refl _) (by unfold maxLen; omega) rfl) ⟨b, off, none⟩ n c (valsOf .u64 f n) rfl (by rw [valsOf_length]; omega) ?c1 ?c2 (by unfold maxLen; omega) (by omega) (by simp) ?_)
    case c1 =>
      intro j v hj
      have hjn : j < n := by
        by_cases g : j < n
        · exact g
        · rw [List.getElem?_eq_none (by rw [valsOf_length]; omega)] at hj; cases hj
      rw [valsOf_at _ _ _ _ hjn] at hj
      have e : (⟨b, off, none⟩ : Addr).add j = ⟨b, off + j, none⟩ := by unfold Addr.add; split <;> simp_all
      rw [e, ← hj]
      exact (World.cell?_alloc_lt _ _ _ (by exact hblt)).trans (hc j hjn)
    case c2 => intro v hv; unfold valsOf at hv; simp at hv; obtain ⟨_, _, rfl⟩ := hv; rfl
    intro was w1 hown hgrow _
    have hb1 : Below w'.heap.size w' w1 := ((Below.refl _ w').alloc (Nat.le_refl _) _).grown hgrow (by simp) (fun k e => by simp [Value.ownBlock] at e; omega)
    have hwas : Nums .u64 w1 was n f := owns_nums hown hl
    clear hown hgrow
    have hlen : ((n : Int) == 0) = false := by simp; omega
    have hf0 := uf 0 (by omega)
    have hzz : Hid ((decide (nl W32 (num f n) = 0) == ((nl 10000 (num f n) : Int) == 0)) = true) := by
      show _ = _
      rw [beq_iff_eq, Bool.eq_iff_iff]; simp [nl_eq_zero W32 (num f n) (by decide), nl_eq_zero 10000 (num f n) (by decide)]
    have heq : Hid ((decide (at0 f n 0 % 2 = 0) == (f 0 % 2 == 0)) = true) := by
      show _ = _
      have : at0 f n 0 = f 0 := by unfold at0; rw [if_pos (by omega)]
      rw [this, beq_iff_eq, Bool.eq_iff_iff]; simp
    go_wp2_with fail
    refine (clean_any _ _ _ _ (hu.below hb1) uf).mono ?_
    rintro e w2 ⟨cl, rfl, hcl2, hb2⟩
    have B2 : Below w'.heap.size w' w2 := hb1.trans (hb2.mono hb1.size)
    go_wp2_with fail
    refine (from_any _ _ _ _ (hu.below B2) uf (by omega)).mono ?_
    rintro e w3 ⟨rn, rfl, hrn, hb3⟩
    have B3 : Below w'.heap.size w' w3 := B2.trans (hb3.mono B2.size)
    go_wp2_with fail
    refine (to_any _ _ _ _ (hu.below B3) uf).mono ?_
    rintro e w3' ⟨rfl, rfl⟩
    go_wp2_with fail
    refine (two_any 64 _ (by omega)).mono ?_
    rintro e w4 ⟨r64, rfl, hr64, hb4⟩
    obtain ⟨T, hT⟩ : ∃ T, T = 2 ^ 64 := ⟨_, rfl⟩
    rw [← hT] at hr64
    have HT : Hid (T = 2 ^ 64) := hT
    clear hT
    have B4 : Below w'.heap.size w' w4 := B3.trans (hb4.mono B3.size)
    go_wp2_with fail
    refine (order_any _ _ _ _ _ (hrn.below hb4) hr64).mono ?_
    rintro e w5 ⟨rfl, hb5⟩
    have B5 : Below w'.heap.size w' w5 := B4.trans (hb5.mono B4.size)
    have hrn5 : RepD w5 rn (num f n) := (hrn.below hb4).below hb5
    have hcl5 : Mine .u64 w1.heap.size w5 cl (nl W32 (num f n)) (dg W32 (num f n)) := (((hcl2.below hb3).below hb4).below hb5)
    have hwas5 : Nums .u64 w5 was n f := (((hwas.below hb2).below hb3).below hb4).below hb5
    clear hcl2 hrn hr64 hwas hb1 hb2 hb3 hb4 hb5 B2 B3 B4
    by_cases hsm : nl W32 (num f n) ≤ 2
    · have hxT : Hid (num f n < T) := by show num f n < T; rw [HT.out]; exact (nl_two _).1 hsm
      have hx64 : Hid (num f n < 18446744073709551616) := by show num f n < _; have := (nl_two _).1 hsm; omega
      have d1 : decide (nl W32 (num f n) ≤ 2) = true := decide_eq_true hsm
      have d2 : cmpI (num f n) (T : Int) = -1 := cmpI_lt (by have := hxT.out; omega)
      have htv := toV_num f n (by rw [hsx]; exact hsm)
      try rw [d1]
      rw [htv, d2]
      clear d2
      go_wp2_with fail
      refine (of_any _ _ (by omega) (by have := hx64.out; omega)).mono ?_
      rintro e w6 ⟨vo, rfl, hvo, hb6⟩
      rw [Int.toNat_natCast] at hvo
      have B6 : Below w'.heap.size w' w6 := B5.trans (hb6.mono B5.size)
      go_wp2_with fail
      refine (is_rep _ _ _ _ _ hvo.nums (by omega) (hrn5.below hb6) rfl).mono ?_
      rintro e w7 ⟨rfl, hb7⟩
      have B7 : Below w'.heap.size w' w7 := B6.trans (hb7.mono B6.size)
      have hrn7 := (hrn5.below hb6).below hb7
      have hcl7 := (hcl5.below hb6).below hb7
      have hwas7 := (hwas5.below hb6).below hb7
      have c7 : w7.cell? ⟨b, off, none⟩ = some (.int .u64 (f 0)) := by have := (hc.below B7 hblt) 0 (by omega); rw [Nat.add_zero] at this; exact this
      clear hvo hb6 hb7 hrn5 hcl5 hwas5 B5 B6
      go_wp2_with fail
      refine (right_any _ _ _ _ (hu.below B7)).mono ?_
      rintro e w8 ⟨rfl, rfl⟩
      go_wp2_with fail
      refine (refRight_any _ _ _ _ (hu.below B7)).mono ?_
      rintro e w8 ⟨rfl, rfl⟩
      have hbb : (rightB f n == rightB f n) = true := by simp
      go_wp2_with fail
      refine (is_rep _ _ _ _ _ hcl7.nums (by omega) hrn7 rfl).mono ?_
      rintro e w9 ⟨rfl, hb9⟩
      have B9 : Below w'.heap.size w' w9 := B7.trans (hb9.mono B7.size)
      go_wp2_with fail
      refine (zero_any _ _ _ _ (hu.below B9) uf).mono ?_
      rintro e w10 ⟨rfl, rfl⟩
      obtain ⟨ro, rc, rfl, _⟩ := hrn7
      try rw [hsx]
      have hzz2 := hzz.out
      go_wp2_with fail
      refine (even_any _ _ _ _ (hu.below B9) uf).mono ?_
      rintro e w10 ⟨rfl, rfl⟩
      have heq2 := heq.out
      go_wp2_with fail
      refine (kept_any _ _ _ _ _ (hu.below B9) (hwas7.below hb9)).mono ?_
      rintro e w11 ⟨rfl, hb11⟩
      have B11 : Below w'.heap.size w' w11 := B9.trans (hb11.mono B9.size)
      go_wp2_with fail
      refine (awake_any _).mono ?_
      rintro e w12 ⟨rfl, hb12⟩
      go_wp2
      go_ret
      exact ⟨rfl, B11.trans (hb12.mono B11.size)⟩
    · have hxT : Hid (¬ num f n < T) := by show ¬ num f n < T; rw [HT.out]; exact fun q => hsm ((nl_two _).2 q)
      have d1 : decide (nl W32 (num f n) ≤ 2) = false := decide_eq_false hsm
      have d2 : ¬ cmpI (num f n) (T : Int) < 0 := by
        have := hxT.out
        unfold cmpI; rw [if_neg (by omega)]; split <;> omega
      have htv : toV f n = 0 := by unfold toV; rw [hsx, if_neg hsm]
      rw [d1, htv]
      have B7 := B5
      have hrn7 := hrn5
      have hcl7 := hcl5
      have hwas7 := hwas5
      generalize cmpI (num f n) (T : Int) = C at *
      clear hrn5 hcl5 hwas5 B5
      generalize hw7 : w5 = w7 at *
      clear hw7
      have c7 : w7.cell? ⟨b, off, none⟩ = some (.int .u64 (f 0)) := by have := (hc.below B7 hblt) 0 (by omega); rw [Nat.add_zero] at this; exact this
      go_wp2_with fail
      refine (right_any _ _ _ _ (hu.below B7)).mono ?_
      rintro e w8 ⟨rfl, rfl⟩
      go_wp2_with fail
      refine (refRight_any _ _ _ _ (hu.below B7)).mono ?_
      rintro e w8 ⟨rfl, rfl⟩
      have hbb : (rightB f n == rightB f n) = true := by simp
      go_wp2_with fail
      refine (is_rep _ _ _ _ _ hcl7.nums (by omega) hrn7 rfl).mono ?_
      rintro e w9 ⟨rfl, hb9⟩
      have B9 : Below w'.heap.size w' w9 := B7.trans (hb9.mono B7.size)
      go_wp2_with fail
      refine (zero_any _ _ _ _ (hu.below B9) uf).mono ?_
      rintro e w10 ⟨rfl, rfl⟩
      obtain ⟨ro, rc, rfl, _⟩ := hrn7
      try rw [hsx]
      have hzz2 := hzz.out
      go_wp2_with fail
      refine (even_any _ _ _ _ (hu.below B9) uf).mono ?_
      rintro e w10 ⟨rfl, rfl⟩
      have heq2 := heq.out
      go_wp2_with fail
      refine (kept_any _ _ _ _ _ (hu.below B9) (hwas7.below hb9)).mono ?_
      rintro e w11 ⟨rfl, hb11⟩
      have B11 : Below w'.heap.size w' w11 := B9.trans (hb11.mono B9.size)
      go_wp2_with fail
      refine (awake_any _).mono ?_
      rintro e w12 ⟨rfl, hb12⟩
      go_wp2
      go_ret
      exact ⟨rfl, B11.trans (hb12.mono B11.size)⟩

theorem own : ownKnob Try.prog.godebug = none := by kernel_rfl
theorem laidOut : laidOutB Try.prog = true := by kernel_rfl

set_option maxRecDepth 100000 in
theorem lifted (os : Os) (started : os.Started) (H : Type) (enc : TypeId × Value → H) :
    ReturnsInHanded {} Try.checked os 3 .any (Rows.natFormsSpec.pre6 enc Try.prog Try.f3 Rows.natFormsRow.domain false) (Rows.natFormsSpec.post enc Try.prog Try.f3 false true false false) := by
  refine returnsInHanded_of_change (C := Try.checked) own started (by kernel_rfl) Try.func3
    (ChangeSpec.witness6 (enc := enc) (C := Try.checked) false ⟨#[], #[.slice none 0 0], []⟩ 8 (by kernel_rfl) (by kernel_rfl) (by kernel_rfl) (by kernel_rfl)) ?_
  intro W base args ds gs before hval0 hW hcnd _
  have hval : ∀ (j : Nat) t v, Try.f3.params[j]? = some t → args[j]? = some v → Value.okWide Try.prog W .any base t v := hval0
  have hW' := hW
  obtain ⟨p, q, hA0, hV, rfl, hfz, hnd⟩ := hW
  have hA : DataW.TrodAll enc Try.prog W 0 (fun _ => true) true Try.f3.params.toList args.toList ds p := hA0
  rw [Try.params3] at hA hval
  obtain ⟨v0, vs0, d0, ds0, p0, q0, hargs, rfl, rfl, h0, r0⟩ := trodAll_cons hA
  obtain ⟨rfl, rfl, rfl⟩ := trodAll_nil r0
  obtain rfl : args = #[v0] := by cases args; simp_all
  obtain ⟨rfl, rfl⟩ := trodVars_none hV
  obtain ⟨a0, len0, cap0, rfl⟩ := okWide_slice Try.underlying23 (hval 0 23 v0 rfl rfl)
  have k0 := h0
  have lt0 : ∀ x ∈ p0, x.block < W.heap.size := by obtain ⟨m, hm⟩ := k0; exact DataW.trod_lt m _ _ _ hm
  obtain ⟨z0, w0⟩ : ∃ f, Raw W (.slice a0 len0 cap0) len0 f := by
    obtain ⟨fuel, hf⟩ := h0
    rcases open_ints Try.underlying23 Try.underlying29 (by kernel_rfl) hf with ⟨hcs, _⟩ | ⟨x, l, c, zs, hcs, _, hl, hm, hz, _, hcell, hwz⟩
    · simp [Value.cells] at hcs
      obtain ⟨rfl, rfl, rfl⟩ := hcs
      exact ⟨_, raw_nil W⟩
    · simp [Value.cells] at hcs
      obtain ⟨rfl, rfl, rfl⟩ := hcs
      exact ⟨_, raw_row W x _ _ zs hl hm (by simpa using hz) hcell hwz⟩
  clear hA0 hval0
  refine (walk _ _ _ W w0).mono fun e W' ⟨he, bel⟩ => ?_
  subst he
  exact ⟨_, rfl, _, _, _, [], _, [], hW', trodAll_mk1 (shut_bool Try.underlying4 _), (trodAll_cons_mk (Below.trod laidOut (by kernel_rfl) (of_decide_eq_true (by kernel_rfl)) k0 bel lt0) trodAll_mk0), rfl, bel.frame _, fun h => by cases h⟩

theorem over : Rows.natFormsRow.holds Try.pinned (OpenSpec.ofChange Rows.natFormsSpec) :=
  OpenClaim.holds_of_wide 3 Try.f3 rfl rfl rfl rfl rfl rfl rfl ⟨rfl, rfl, rfl, rfl, rfl⟩ rfl rfl rfl rfl rfl (by kernel_rfl) Try.func3 (by kernel_rfl)
    (of_decide_eq_true (by kernel_rfl)) (by unfold Func.isWrapper; first | (rw [if_pos (by decide +kernel)]; kernel_rfl) | (rw [if_neg (by decide +kernel)]; exact ⟨rfl, rfl⟩))
    (fun os started H enc _ => lifted os started H enc)

end Go.Proofs.Ytagphmhgceajhaa.natForms
namespace Go.Proofs.Ytagphmhgceajhaa
/-- The statement. -/
theorem natForms_holds : Rows.NatFormsSaid := natForms.over
end Go.Proofs.Ytagphmhgceajhaa
