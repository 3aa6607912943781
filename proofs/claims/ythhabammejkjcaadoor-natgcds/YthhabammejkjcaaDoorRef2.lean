/-
  What the document's own Plus, Times, From, Is, Two answer.
-/
import Derived.Test.YthhabammejkjcaaDoorRef1
import Derived.Deep.RegionHeld3
namespace Go.Proofs.YthhabammejkjcaaDoor
open Go.RowKit

theorem plus_step (B : Nat) (h f g : Nat → Int) (i : Nat) (c t : Int) (ht : t = c + f i + g i) (hv : val B h i + c * (B : Int) ^ i = val B f i + val B g i) :
    val B (put h i (t % B)) (i + 1) + t / B * (B : Int) ^ (i + 1) = val B f (i + 1) + val B g (i + 1) := by
  have e1 : (B : Int) ^ (i + 1) = (B : Int) ^ i * B := Int.pow_succ _ _
  simp only [val]
  rw [put_same, val_congr i (fun j hj => put_other h i j _ (by omega)), e1]
  have e := carry_step (B : Int) t 0 ((B : Int) ^ i) (val B h i)
  rw [Int.sub_zero, Int.sub_zero] at e
  rw [e, ht, Int.add_mul, Int.add_mul]; omega

/-- A row of digits that is worth x + y, as long as the longer one or one more: the digits of x + y. -/
theorem plus_end (x y i : Nat) (h : Nat → Int) (hd : Dig i h) (hv : val 10000 h i = ((x + y : Nat) : Int)) (hi : i = nl 10000 x ∨ i = nl 10000 y ∨ (0 < i ∧ h (i - 1) ≠ 0)) :
    nl 10000 (x + y) = i ∧ ∀ j, j < i → h j = dg 10000 (x + y) j := by
  have h1 := sz_val 10000 (by decide) h i (x + y) hd hv
  have h2 := sz_le h i
  refine ⟨?_, val_digit 10000 h i (x + y) hd hv⟩
  rcases hi with e | e | ⟨e, g⟩
  · by_cases q : nl 10000 (x + y) < nl 10000 x
    · have := lt_of_nl 10000 (x + y) x (by decide) q; omega
    · omega
  · by_cases q : nl 10000 (x + y) < nl 10000 y
    · have := lt_of_nl 10000 (x + y) y (by decide) q; omega
    · omega
  · rw [← h1]; exact sz_unique h i i (Nat.le_refl _) (fun _ => g) (fun j a b => by omega)

theorem at0_dg (m i : Nat) (n : Nat) (hn : n = nl 10000 m) : at0 (dg 10000 m) n i = dg 10000 m i := by
  unfold at0; split
  · rfl
  · rw [dg_high 10000 m i]
    exact Nat.lt_of_lt_of_le (lt_pow_nl 10000 m (by decide)) (Nat.pow_le_pow_right (by decide) (by omega))
theorem val_dg_ge (m i : Nat) (h : nl 10000 m ≤ i) : val 10000 (dg 10000 m) i = (m : Int) := by
  rw [val_dg, Nat.mod_eq_of_lt]
  exact Nat.lt_of_lt_of_le (lt_pow_nl 10000 m (by decide)) (Nat.pow_le_pow_right (by decide) h)

set_option maxRecDepth 20000 in
set_option maxHeartbeats 2000000 in
theorem plus_any (u v : Value) (x y : Nat) (w : World) (hu : RepD w u x) (hv : RepD w v y) (hlx : nl 10000 x ≤ 1000000) (hly : nl 10000 y ≤ 1000000) :
    Calls Tryd.prog 26 #[u, v] w fun e w' => ∃ r, e = .returned r ∧ RepD w' r (x + y) ∧ Below w.heap.size w w' := by
  obtain ⟨i0, hi, hz0, hz1, hz2⟩ := info_parts info_int
  have hu0 := hu
  have hv0 := hv
  obtain ⟨ao, c, rfl, _, hl, h4⟩ := hu0
  obtain ⟨bo, d, rfl, _, kl, k4⟩ := hv0
  clear h4 k4
  unfold RepD at hu hv
  have hAX : ∀ i, at0 (dg 10000 x) (nl 10000 x) i = dg 10000 x i := fun i => at0_dg x i _ rfl
  have hAY : ∀ i, at0 (dg 10000 y) (nl 10000 y) i = dg 10000 y i := fun i => at0_dg y i _ rfl
  have HX : Hid (∀ i, at0 (dg 10000 x) (nl 10000 x) i = dg 10000 x i) := hAX
  have HY : Hid (∀ i, at0 (dg 10000 y) (nl 10000 y) i = dg 10000 y i) := hAY
  clear hAX hAY
  have HE : Hid (∀ (i : Nat) (h : Nat → Int), Dig i h → val 10000 h i = ((x + y : Nat) : Int) → (i = nl 10000 x ∨ i = nl 10000 y ∨ (0 < i ∧ h (i - 1) ≠ 0)) → nl 10000 (x + y) = i ∧ ∀ j, j < i → h j = dg 10000 (x + y) j) := fun i h => plus_end x y i h
  have HVX : Hid (∀ i, nl 10000 x ≤ i → val 10000 (dg 10000 x) i = (x : Int)) := fun i h => val_dg_ge x i h
  have HVY : Hid (∀ i, nl 10000 y ≤ i → val 10000 (dg 10000 y) i = (y : Int)) := fun i h => val_dg_ge y i h
  have hDX : ∀ i, 0 ≤ dg 10000 x i ∧ dg 10000 x i < ((10000 : Nat) : Int) := fun i => dg_bounds 10000 x i (by decide)
  have hDY : ∀ i, 0 ≤ dg 10000 y i ∧ dg 10000 y i < ((10000 : Nat) : Int) := fun i => dg_bounds 10000 y i (by decide)
  have HDX := show Hid (∀ i, 0 ≤ dg 10000 x i ∧ dg 10000 x i < ((10000 : Nat) : Int)) from hDX
  have HDY := show Hid (∀ i, 0 ≤ dg 10000 y i ∧ dg 10000 y i < ((10000 : Nat) : Int)) from hDY
  clear hDX hDY
  generalize nl 10000 x = n at *
  generalize nl 10000 y = m at *
  go_enter Tryd.func26, Tryd.ntmps26
  go_wp2
  go_loopw [5, 6, 7] (fun v vc vi wr => ∃ (i : Nat) (cr : Int) (h : Nat → Int), i ≤ n + m + 1 ∧ (0 < cr → i ≤ n ∨ i ≤ m) ∧ vc = .int .i64 cr ∧ vi = .int .i64 (i : Int) ∧ 0 ≤ cr ∧ cr ≤ 1 ∧ Dig i h ∧ wr.ownsRow w.heap.size 3 1 v i (valsOf .i64 h i) ∧
      val 10000 h i + cr * ((10000 : Nat) : Int) ^ i = val 10000 (dg 10000 x) i + val 10000 (dg 10000 y) i ∧ (i ≤ n ∨ i ≤ m ∨ h (i - 1) ≠ 0) ∧ Below w.heap.size w wr) (fun _ _ vi _ => n + m + 2 - (intOf vi).toNat)
  case atStart => exact ⟨0, 0, fun _ => 0, Nat.zero_le _, by omega, rfl, rfl, Int.le_refl _, by decide, fun i hi => by omega, World.ownsRow_nil _ _ _ _, by simp [val], .inl (Nat.zero_le _), Below.refl _ _⟩
  case round =>
    obtain ⟨i, cr, h, hib, hcr, rfl, rfl, hc0, hc1, hdig, hown, hval, htop, hbel⟩ := hrel
    have hs := hbel.size
    have HV : Hid (val 10000 h i + cr * ((10000 : Nat) : Int) ^ i = val 10000 (dg 10000 x) i + val 10000 (dg 10000 y) i) := hval
    have HT : Hid (i ≤ n ∨ i ≤ m ∨ h (i - 1) ≠ 0) := htop
    clear hval htop
    by_cases hend : n ≤ i ∧ m ≤ i ∧ cr ≤ 0
    · obtain ⟨e1, e2, e3⟩ := hend
      have g1 : decide (i < n) = false := by simp; omega
      have g2 : decide (i < m) = false := by simp; omega
      have g3 : ¬ 0 < cr := by omega
      have hfin := HE.out i h hdig (by
        have := HV.out
        rw [HVX.out i e1, HVY.out i e2, show cr = 0 by omega] at this
        rw [Int.zero_mul] at this; omega) (by
        rcases HT.out with a | a | a
        · exact .inl (by omega)
        · exact .inr (.inl (by omega))
        · by_cases q : i = 0
          · exact .inl (by omega)
          · exact .inr (.inr ⟨by omega, a⟩))
      have HF : Hid (nl 10000 (x + y) = i ∧ ∀ j, j < i → h j = dg 10000 (x + y) j) := hfin
      clear hfin
      go_wp2
      go_ret
      refine ⟨_, rfl, ?_, hbel⟩
      unfold RepD
      rw [HF.out.1]
      exact (owns_nums hown (by unfold LIM; omega)).congr HF.out.2
    · have hX := HDX.out i
      have hY := HDY.out i
      have hstep := plus_step 10000 h (dg 10000 x) (dg 10000 y) i cr (cr + dg 10000 x i + dg 10000 y i) rfl HV.out
      have HST : Hid (val 10000 (put h i ((cr + dg 10000 x i + dg 10000 y i) % ((10000 : Nat) : Int))) (i + 1) + (cr + dg 10000 x i + dg 10000 y i) / ((10000 : Nat) : Int) * ((10000 : Nat) : Int) ^ (i + 1) = val 10000 (dg 10000 x) (i + 1) + val 10000 (dg 10000 y) (i + 1)) := hstep
      have hzx : Hid (n ≤ i → dg 10000 x i = 0) := fun q => by rw [← HX.out]; unfold at0; rw [if_neg (by omega)]
      have hzy : Hid (m ≤ i → dg 10000 y i = 0) := fun q => by rw [← HY.out]; unfold at0; rw [if_neg (by omega)]
      clear hstep
      have hax := HX.out i
      have hay := HY.out i
      generalize dg 10000 x i = p at *
      generalize dg 10000 y i = q at *
      have hg : (decide (i < n) = true) ∨ (decide (i < n) = false ∧ decide (i < m) = true) ∨ (decide (i < n) = false ∧ decide (i < m) = false ∧ 0 < cr) := by
        simp only [decide_eq_true_eq, decide_eq_false_iff_not]; omega
      have HG : Hid (i < n ∨ i < m ∨ 0 < cr) := by show _ ∨ _; omega
      have hib2 : i ≤ n + m := by omega
      clear hend
      rcases hg with g1 | ⟨g1, g2⟩ | ⟨g1, g2, g3⟩
      all_goals
        go_wp2_with fail
        refine (digit_any _ _ _ _ _ (hu.below hbel) (by unfold LIM; omega)).mono ?_
        rintro e w1 ⟨rfl, rfl⟩
        rw [hax]
        go_wp2_with fail
        refine (digit_any _ _ _ _ _ (hv.below hbel) (by unfold LIM; omega)).mono ?_
        rintro e w1 ⟨rfl, rfl⟩
        rw [hay]
        go_wp2_with (at_builtin; refine wpList_append_own _ rfl _ _ 26 rfl w.heap.size 3 i0 (.int .i64 0) 1 8 Tryd.underlying26 hi hz0 hz1 hz2 rfl (by decide) _ _ _ rfl (hown.alloc _) ⟨w1.heap.size, 0, none⟩ 1 1 [.int .i64 ((cr + p + q) % 10000)] rfl rfl (cell_one_new _ _ _) (by intro u hu; simp at hu; subst hu; rfl) (by unfold maxLen; omega) (by omega) (by simp; omega) ?_)
        intro v' w2 hown' hgrow _
        have hb1 : Below w.heap.size w w2 := (hbel.alloc hs _).grown hgrow (by simp; omega) (fun k e => (World.ownsRow.lt hown _ e).1)
        rw [valsOf_snoc] at hown'
        clear hgrow hown
        go_wp2
        go_roundw
        case rel =>
          refine ⟨i + 1, (cr + p + q) / ((10000 : Nat) : Int), put h i ((cr + p + q) % ((10000 : Nat) : Int)), by omega, ?_, rfl, by go_num, by omega, by omega, ?_, hown', HST.out, ?_, hb1⟩
          · intro hc; have := hzx.out; have := hzy.out; have := HG.out; omega
          · intro j hj
            by_cases e : j = i
            · rw [e, put_same]; omega
            · rw [put_other _ _ _ _ e]; exact hdig j (by omega)
          · by_cases e1 : i + 1 ≤ n
            · exact .inl e1
            · by_cases e2 : i + 1 ≤ m
              · exact .inr (.inl e2)
              · refine .inr (.inr ?_)
                rw [Nat.add_sub_cancel, put_same, hzx.out (by omega), hzy.out (by omega)]
                have := HG.out; omega
        case measure => simp [intOf]; omega

end Go.Proofs.YthhabammejkjcaaDoor
