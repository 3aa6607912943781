/-
  Texts of mine, joined: what lies beneath the statement.
-/
import Derived.Test.YtjfacmeeplalkaaDoorJ22
import Derived.Test.YtjfacmeeplalkaaDoorJ23
/-
  What the statements' own few and awake answer for whole numbers, and dendronref02.Is of a number in its one form.
-/
namespace Go.Proofs.YtjfacmeeplalkaaDoor
open Go.RowKit
set_option linter.unusedVariables false

theorem rightB_rep (m : Nat) : rightB (dg W32 m) (nl W32 m) = true := by
  simp only [rightB, decide_eq_true_eq]
  exact ⟨fun i _ => by have := dg_bounds W32 m i (by decide); unfold W32 at this ⊢; omega, fun h0 => nl_top W32 m h0⟩
theorem refRight_rep {w : World} {v : Value} {m : Nat} (h : Rep w v m) :
    Calls Tryd.prog 28 #[v] w fun e w' => e = .returned (.bool true) ∧ w' = w := by
  have g := refRight_any v _ _ w h
  rw [rightB_rep] at g; exact g

set_option maxRecDepth 20000 in
set_option maxHeartbeats 2000000 in
theorem ris_rep (u v : Value) (x : Int) (w : World) (hu : RepI w u x) (hx : nl W32 x.natAbs ≤ 1000) (hv : RepJ w v x) :
    Calls Tryd.prog 11 #[u, v] w fun e w' => e = .returned (.bool true) ∧ Below w.heap.size w w' := by
  have hI := hu.at 1000 hx
  have hJ := hv
  obtain ⟨ao, c, rfl, hu⟩ := hu
  obtain ⟨bo, d, rfl, hv⟩ := hv
  have hA : ∀ o o', Below w.heap.size w ((w.alloc o).alloc o') := fun o o' => ((Below.refl _ _).alloc (Nat.le_refl _) _).alloc (by simp) _
  have c1 := (resW w 25 (.bool (decide (x < 0))) (.slice ao (nl W32 x.natAbs) c))
  have c2 := (res1 w (.cells #[.bool (decide (x < 0)), .slice ao (nl W32 x.natAbs) c] 25) 30 (.bool (decide (x < 0))) (.slice bo (nl 10000 x.natAbs) d))
  have b1 : Below (w.heap.size + 1) (w.alloc (.cells #[.bool (decide (x < 0)), .slice ao (nl W32 x.natAbs) c] 25)) ((w.alloc (.cells #[.bool (decide (x < 0)), .slice ao (nl W32 x.natAbs) c] 25)).alloc (.cells #[.bool (decide (x < 0)), .slice bo (nl 10000 x.natAbs) d] 30)) := (Below.refl _ _).alloc (by simp) _
  have k1 := keep2 b1 (by simp) ⟨c1.1, c1.2.1⟩
  have hSS := And.intro k1.1 (And.intro k1.2 (And.intro c2.1 c2.2.1))
  clear c1 c2 b1 k1
  have hN : nl W32 x.natAbs = 0 ∨ 0 < nl W32 x.natAbs := by omega
  have hzero : nl W32 x.natAbs = 0 → decide (x < 0) = false := fun h => by
    have := (nl_eq_zero W32 x.natAbs (by decide)).1 h
    rw [decide_eq_false_iff_not]; omega
  generalize hn : nl W32 x.natAbs = n at *
  generalize nl 10000 x.natAbs = m at *
  generalize decide (x < 0) = p at *
  have hR : ∀ W, Below w.heap.size w W → Calls Tryd.prog 28 #[.slice ao n c] W fun e w' => e = .returned (.bool true) ∧ w' = W := fun W hW => refRight_rep (Nums.below hu hW)
  rcases hN with h0 | h0
  · obtain rfl := hzero h0
    subst h0
    have BA : Below w.heap.size w ((w.alloc (.cells #[.bool false, .slice ao 0 c] 25)).alloc (.cells #[.bool false, .slice bo m d] 30)).drew := (hA _ _).drew
    clear hzero
    go_enter Tryd.func11, Tryd.ntmps11
    go_wp2
    go_region_held3 (fun w' => w'.cell? ⟨w.heap.size, 0, none⟩ = some (.bool false) ∧ w'.cell? ⟨w.heap.size, 1, none⟩ = some (.slice ao 0 c) ∧ w'.cell? ⟨w.heap.size + 1, 0, none⟩ = some (.bool false) ∧ w'.cell? ⟨w.heap.size + 1, 1, none⟩ = some (.slice bo m d)) (first | exact keep4 (by assumption) (by simp) (by assumption) | exact hSS | go_keep) (first
      | (go_at_call 28; refine (hR _ BA).mono ?_; rintro e w0 ⟨rfl, hw⟩; subst hw)
      | (go_at_call 5; refine (rfrom_any _ _ _ _ (hI.below BA) (Nat.le_refl _)).mono ?_; rintro e w1 ⟨r1, rfl, hr1, hb1⟩)
      | (go_at_call 14; refine (rorder_any _ _ _ _ _ hr1 ((hJ.below BA).below hb1)).mono ?_; rintro e w2 ⟨rfl, hb2⟩; rw [cmpI_eq rfl]))
    go_wp2
    go_ret
    have B1 := BA.trans (hb1.mono BA.size)
    exact ⟨rfl, B1.trans (hb2.mono B1.size)⟩
  · have h0' : decide ((0 : Int) < (n : Int)) = true := by rw [decide_eq_true_eq]; omega
    have h1' : decide (0 < n) = true := by rw [decide_eq_true_eq]; omega
    have BA : Below w.heap.size w ((w.alloc (.cells #[.bool p, .slice ao n c] 25)).alloc (.cells #[.bool p, .slice bo m d] 30)).drew := (hA _ _).drew
    clear hzero
    go_enter Tryd.func11, Tryd.ntmps11
    go_wp2
    first
    | go_region_with (first
      | (go_at_call 28; refine (hR _ BA).mono ?_; rintro e w0 ⟨rfl, hw⟩; subst hw)
      | (go_at_call 5; refine (rfrom_any _ _ _ _ (hI.below BA) (Nat.le_refl _)).mono ?_; rintro e w1 ⟨r1, rfl, hr1, hb1⟩; obtain ⟨d1, d2, d3, d4⟩ := keep4 hb1 (by simp) hSS)
      | (go_at_call 14; refine (rorder_any _ _ _ _ _ hr1 ((hJ.below BA).below hb1)).mono ?_; rintro e w2 ⟨rfl, hb2⟩; rw [cmpI_eq rfl]))
    | fail
    all_goals
      go_wp2
      go_ret
      have B1 := BA.trans (hb1.mono BA.size)
      exact ⟨rfl, B1.trans (hb2.mono B1.size)⟩

set_option maxRecDepth 20000 in
set_option maxHeartbeats 400000 in
theorem wfew_any (neg : Bool) (s : Value) (n K : Nat) (f : Nat → Int) (w : World) (h : Raw w s n f) (hK : K ≤ 1000) :
    Calls Tryd.prog 4 #[.agg #[.bool neg, s], .int .i64 (K : Int)] w fun e w' => ∃ ao c, e = .returned (.agg #[.bool neg, .slice ao (min n K) c]) ∧ Nums .u64 w' (.slice ao (min n K) c) (min n K) f ∧ U64 (min n K) f ∧ Below w.heap.size w w' := by
  have hA : ∀ o o', Below w.heap.size w ((w.alloc o).alloc o') := fun o o' => ((Below.refl _ _).alloc (Nat.le_refl _) _).alloc (by simp) _
  obtain ⟨ao, c, rfl, hnil, hnc, hcm, hu, h4⟩ := h
  unfold maxLen at hcm
  by_cases hlt : K < n
  · obtain ⟨b, off, rfl, hc⟩ := h4 (by omega)
    have hN : Nums .u64 w (.slice (some ⟨b, off, none⟩) K c) K f := ⟨_, _, rfl, by omega, by unfold LIM; omega, fun _ => ⟨_, _, rfl, hc.mono (by omega)⟩⟩
    have hi : (K : Int) < (n : Int) := by omega
    go_enter Tryd.func4, Tryd.ntmps4
    go_wp2
    rw [show min n K = K by omega]
    refine bodyPost_ret (v := .agg #[.bool neg, .slice (some ⟨b, off, none⟩) K c]) (by simp [results, go_sem]) rfl ?_
    exact ⟨_, _, rfl, hN.below (hA _ _), fun i hi => hu i (by omega), hA _ _⟩
  · have hN : Nums .u64 w (.slice ao n c) n f := ⟨_, _, rfl, hnc, by unfold LIM; omega, h4⟩
    have hi : ¬ (K : Int) < (n : Int) := by omega
    go_enter Tryd.func4, Tryd.ntmps4
    go_wp2
    rw [show min n K = n by omega]
    refine bodyPost_ret (v := .agg #[.bool neg, .slice ao n c]) (by simp [results, go_sem]) rfl ?_
    exact ⟨_, _, rfl, hN.below (hA _ _), hu, hA _ _⟩


theorem nl10_le (x n : Nat) (h : nl W32 x ≤ n) : nl 10000 x ≤ 3 * n := nl_small x n (Nat.lt_of_lt_of_le (lt_pow_nl W32 x (by decide)) (Nat.pow_le_pow_right (by decide) h))
theorem ztxt_q : (ztxt (-4)).toList = [45, 52] := by
  have e : ndec 4 = 1 := by unfold ndec; rw [nl_spec 10 _ 1 (by decide) (by decide)]; decide +kernel
  rw [Lib.toList_data]
  show (({ data := #[45] } : ByteArray) ++ txt 4).data.toList = _
  rw [ByteArray.data_append, Array.toList_append]
  unfold txt; rw [e, strOfNums_data]; decide +kernel
theorem ztxt_r : (ztxt 1).toList = [49] := by
  have e : ndec 1 = 1 := by unfold ndec; rw [nl_spec 10 _ 1 (by decide) (by decide)]; decide +kernel
  rw [Lib.toList_data]
  show (txt 1).data.toList = _
  unfold txt; rw [e, strOfNums_data]; decide +kernel
theorem nl_small7 (k : Nat) (h : k < 4294967296) : nl W32 k ≤ 1 := nl_le W32 k 1 (by decide) (by unfold W32; omega)

set_option maxRecDepth 20000 in
set_option maxHeartbeats 2000000 in
theorem wawake_any (w : World) : Calls Tryd.prog 15 #[] w fun e w' => e = .returned (.bool true) ∧ Below w.heap.size w w' := by
  go_enter Tryd.func15, Tryd.ntmps15
  go_wp2_with fail
  refine (wof_any _ _ (by omega) (by omega)).mono ?_
  rintro e w1 ⟨v1, rfl, hv1, hb1⟩
  go_wp2_with fail
  refine (wof_any _ _ (by omega) (by omega)).mono ?_
  rintro e w2 ⟨v2, rfl, hv2, hb2⟩
  go_wp2_with fail
  refine (wdivMod_any _ _ _ _ 1 1 _ ((hv1.below hb2).at 1 (nl_small7 _ (by decide))) (hv2.at 1 (nl_small7 _ (by decide))) (by omega) (by omega)).mono ?_
  rintro e w3 ⟨q, r, rfl, hq, hr, hb3⟩
  rw [show Int.fdiv (-7) 2 = -4 from rfl] at hq
  rw [show Int.fmod (-7) 2 = 1 from rfl] at hr
  have B1 := hb1
  have B2 := B1.trans (hb2.mono B1.size)
  have B3 := B2.trans (hb3.mono B2.size)
  have hA : ∀ o o', Below w3.heap.size w3 ((w3.alloc o).alloc o') := fun o o' => ((Below.refl _ _).alloc (Nat.le_refl _) _).alloc (by simp) _
  have tq := ztxt_q
  have tr := ztxt_r
  clear hv1 hv2 hb1 hb2 hb3 B1 B2
  obtain ⟨b1, ao1, n1, c1, rfl⟩ := hq.open
  obtain ⟨b2, ao2, n2, c2, rfl⟩ := hr.open
  go_wp2_with fail
  refine (wprint_any _ _ 1 _ ((hq.below (hA _ _)).at 1 (nl_small7 _ (by decide))) (by omega)).mono ?_
  rintro e w4 ⟨rfl, hb4⟩
  obtain ⟨d1, d2, _, _⟩ := keepW hb4 (by simp) (res1 w3 _ _ _ _)
  go_wp2_with fail
  refine (wprint_any _ _ 1 _ (((hr.below (hA _ _)).below hb4).at 1 (nl_small7 _ (by decide))) (by omega)).mono ?_
  rintro e w5 ⟨rfl, hb5⟩
  have B4 := (B3.trans ((hA _ _).mono B3.size)).trans (hb4.mono (by have := B3.size; simp; omega))
  have B5 := B4.trans (hb5.mono B4.size)
  go_wp2
  go_ret
  exact ⟨rfl, B5⟩

end Go.Proofs.YtjfacmeeplalkaaDoor
