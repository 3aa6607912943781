/-
  Proves that Pair answers how much any coalition counts for two that join it, or that there is no such coalition, whatever comes in (the statement WeighPairs, its tied card); the table of math/bits lies as the program's text lays it; no other condition.
-/
import Derived.Test.YtfibpckhbgemcaaGreatDoorRows
import Derived.Test.YtfibpckhbgemcaaGreatDoorJ66aded052d
import Derived.WalkKit
import Derived.ProofKit
import Derived.OpenShut
import Derived.ShutString
import Derived.ChangeOld
import Derived.Below
import Derived.Test.YtfibpckhbgemcaaGreatDoorTie
import Derived.Test.YtfibpckhbgemcaaGreatDoorCards
import Derived.LaidByTextLater
import Derived.LaidHandle
import Derived.Lib.LaidTab
import Derived.SevenTiedAt
namespace Go.Proofs.YtfibpckhbgemcaaGreatDoor.weighPairs
open Go.ChangeShapes Go.WideShapes Go.ChangeAt Go.RowKit
open Go.ChangeMaps (open_string shut_string)
set_option linter.unusedVariables false
set_option linter.unusedSimpArgs false

theorem two_sz : qsz ((2 : Int) : Rat) ≤ 10 := qsz_int 2 (Nat.le_trans ((nl_two _).2 (by decide)) (by omega : 2 ≤ 10)) (by omega)
theorem two_ne (n : Nat) : ((2 : Int) : Rat) * ((fct n : Nat) : Rat) ≠ 0 := by
  intro e
  rcases Rat.mul_eq_zero.1 e with e | e
  · exact absurd e (by decide)
  · exact fctR_ne n e
theorem pair_eq (j m n : Nat) : ((1 : Int) : Rat) / ((2 : Int) : Rat) * shQ j m n = ((fct j : Nat) : Rat) * ((fct m : Nat) : Rat) / (((2 : Int) : Rat) * ((fct n : Nat) : Rat)) := by
  unfold shQ
  rw [Rat.div_def, Rat.div_def, Rat.div_def, Rat.inv_mul_rev]
  generalize ((fct j : Nat) : Rat) = A
  generalize ((fct m : Nat) : Rat) = C
  generalize ((fct n : Nat) : Rat)⁻¹ = D
  have e : ((1 : Int) : Rat) * ((2 : Int) : Rat)⁻¹ = ((2 : Int) : Rat)⁻¹ := by decide +kernel
  rw [e]
  generalize ((2 : Int) : Rat)⁻¹ = H
  grind

set_option maxRecDepth 100000 in
set_option maxHeartbeats 16000000 in
theorem walk (s n : Int) (w : World) (ws : (Lit.int .i64 s).wf = true) (wn : (Lit.int .i64 n).wf = true) (ht : Tab w) :
    Calls Tryz.prog 5 #[.int .i64 s, .int .i64 n] w fun e w' => e = .returned (.bool true) ∧ Below w.heap.size w w' := by
  have hs2 := bounds_i64 ws
  have hn2 := bounds_i64 wn
  clear ws wn
  by_cases hc : 2 ≤ n ∧ n ≤ 64 ∧ 0 ≤ s ∧ s ≤ n - 2
  · obtain ⟨k, rfl⟩ : ∃ k : Nat, n = (k : Int) := ⟨n.toNat, by omega⟩
    obtain ⟨j, rfl⟩ : ∃ j : Nat, s = (j : Int) := ⟨s.toNat, by omega⟩
    have hk : 2 ≤ k ∧ k ≤ 64 ∧ j + 2 ≤ k := by omega
    obtain ⟨hk1, hk2, hk3⟩ := hk
    clear hc hs2 hn2
    have g1 : ¬ (k : Int) < 2 := by omega
    have g2 : ¬ (64 : Int) < (k : Int) := by omega
    have g3 : ¬ (j : Int) < 0 := by omega
    have g5 : decide ((k : Int) < 2) = false := decide_eq_false g1
    have g6 : decide ((64 : Int) < (k : Int)) = false := decide_eq_false g2
    have g7 : decide ((j : Int) < 0) = false := decide_eq_false g3
    have wi : IntKind.i64.wrap ((k : Int) - (j : Int)) = ((k - j : Nat) : Int) := by rw [IntKind.wrap_i64]; omega
    have wj : IntKind.i64.wrap (((k - j : Nat) : Int) - 2) = ((k - j - 2 : Nat) : Int) := by rw [IntKind.wrap_i64]; omega
    have wk : IntKind.i64.wrap ((k : Int) - 1) = ((k - 1 : Nat) : Int) := by rw [IntKind.wrap_i64]; omega
    have g4 : ¬ ((k - 1 : Nat) : Int) ≤ (j : Int) := by omega
    have g8 : decide (((k - 1 : Nat) : Int) ≤ (j : Int)) = false := decide_eq_false g4
    have BB : Below w.heap.size w w := Below.refl _ _
    go_enter Tryz.func5, Tryz.ntmps5
    go_wp2_with fail
    refine (new_at _).mono ?_
    rintro e w1 ⟨rfl, hsz, HN, b1⟩
    replace ht := ht.below b1
    replace BB := BB.trans (b1.mono BB.size)
    clear b1
    obtain ⟨b, hb⟩ : ∃ b, b = w.heap.size := ⟨_, rfl⟩
    have hbw : w.heap.size ≤ b := by omega
    rw [← hb] at HN
    have HT : WT w1 b false := HN
    rw [← hb]
    clear HN hb hsz
    go_wp2_with fail
    refine (tpair_at b j k false _ HT hk2 (by omega) ht).mono ?_
    rintro e w2 ⟨r2, rfl, h2, ho⟩
    replace ht := ht.keepL ho.keep
    replace BB := BB.trans (ho.upd.below hbw BB.size)
    clear ho HT
    obtain ⟨p2, a2, n2, c2, y2, m2, d2, rfl⟩ := h2.open
    have hZ1 : w.heap.size ≤ w2.heap.size := BB.size
    obtain ⟨W1, hW1, hS1, hL1, VA⟩ := V3.lay w2 35 (.bool p2) (.slice a2 n2 c2) (.slice y2 m2 d2)
    replace ht := ht.below hL1
    replace h2 := h2.below hL1
    replace BB := BB.trans (hL1.mono BB.size)
    clear hL1
    obtain ⟨VA_0, VA_1, VA_2, VA_3, VA_4, VA_5⟩ := id VA
    rw [hW1] at VA_0 VA_1 VA_2 VA_3 VA_4 VA_5
    go_wp2
    clear VA_0 VA_1 VA_2 VA_3 VA_4 VA_5
    rw [← hW1]
    generalize w2.heap.size = R1 at *
    clear hW1 hS1
    have hDr : Below W1.heap.size W1 W1.drew := (Below.refl _ _).drew
    replace ht := ht.below hDr
    replace h2 := h2.below hDr
    replace VA := VA.below hDr
    replace BB := BB.trans (hDr.mono BB.size)
    clear hDr
    refine wp_region_held_drew (S := (fun w' => w'.cell? ⟨R1, 0, none⟩ = some (.bool p2) ∧ w'.cell? ⟨R1, 1, none⟩ = some (.slice a2 n2 c2) ∧ w'.cell? ⟨R1, 2, none⟩ = some (.slice y2 m2 d2))) (by kernel_rfl) ?_ (fun hHeld => ?_)
    · exact ⟨VA.1, VA.2.1, VA.2.2.1⟩
    generalize W1.drew = W2 at *
    refine wpAnyH_take (i := 0) (v := ?_) (by simp only [List.getElem?_toArray, List.getElem?_cons_succ, List.getElem?_cons_zero]; rfl) (by kernel_rfl) (by kernel_rfl) (by kernel_rfl) (by exact fun _ _ _ h => h) (Or.inl ⟨by rfl, ?_⟩) (by assumption) ?_
    rotate_left
    · (intro w hSw; (try dsimp only at hSw); go_simp; (try with_reducible rfl))
    (try simp only [Act.put, List.setIfInBounds_toArray, List.set_cons_zero, List.set_cons_succ])
    refine wpAnyH_take (i := 1) (v := ?_) (by simp only [List.getElem?_toArray, List.getElem?_cons_succ, List.getElem?_cons_zero]; rfl) (by kernel_rfl) (by kernel_rfl) (by kernel_rfl) (by exact fun _ _ _ h => h) (Or.inl ⟨by rfl, ?_⟩) (by assumption) ?_
    rotate_left
    · (intro w hSw; (try dsimp only at hSw); go_simp; (try with_reducible rfl))
    (try simp only [Act.put, List.setIfInBounds_toArray, List.set_cons_zero, List.set_cons_succ])
    refine wpAnyH_take (i := 2) (v := ?_) (by simp only [List.getElem?_toArray, List.getElem?_cons_succ, List.getElem?_cons_zero]; rfl) (by kernel_rfl) (by kernel_rfl) (by kernel_rfl) (by exact fun _ _ _ h => h) (Or.inl ⟨by rfl, ?_⟩) (by assumption) ?_
    rotate_left
    · (intro w hSw; (try dsimp only at hSw); go_simp; (try with_reducible rfl))
    (try simp only [Act.put, List.setIfInBounds_toArray, List.set_cons_zero, List.set_cons_succ])
    refine wpAnyH_take (i := 3) (v := ?_) (by simp only [List.getElem?_toArray, List.getElem?_cons_succ, List.getElem?_cons_zero]; rfl) (by kernel_rfl) (by kernel_rfl) (by kernel_rfl) (by exact fun _ _ _ h => h) (Or.inl ⟨by rfl, ?_⟩) (by assumption) ?_
    rotate_left
    · (intro w hSw; (try dsimp only at hSw); go_simp; (try with_reducible rfl))
    (try simp only [Act.put, List.setIfInBounds_toArray, List.set_cons_zero, List.set_cons_succ])
    refine wpAnyH_take (i := 4) (v := ?_) (by simp only [List.getElem?_toArray, List.getElem?_cons_succ, List.getElem?_cons_zero]; rfl) (by kernel_rfl) (by kernel_rfl) (by kernel_rfl) (by exact fun _ _ _ h => h) (Or.inl ⟨by rfl, ?_⟩) (by assumption) ?_
    rotate_left
    · (intro w hSw; (try dsimp only at hSw); go_simp; (try with_reducible rfl))
    (try simp only [Act.put, List.setIfInBounds_toArray, List.set_cons_zero, List.set_cons_succ])
    refine wpAnyH_take (i := 6) (v := ?_) (by simp only [List.getElem?_toArray, List.getElem?_cons_succ, List.getElem?_cons_zero]; rfl) (by kernel_rfl) (by kernel_rfl) (by kernel_rfl) (by exact fun _ _ _ h => h) (Or.inl ⟨by rfl, ?_⟩) (by assumption) ?_
    rotate_left
    · (intro w hSw; (try dsimp only at hSw); go_simp; (try with_reducible rfl))
    (try simp only [Act.put, List.setIfInBounds_toArray, List.set_cons_zero, List.set_cons_succ])
    refine wpAnyH_take (i := 7) (v := ?_) (by simp only [List.getElem?_toArray, List.getElem?_cons_succ, List.getElem?_cons_zero]; rfl) (by kernel_rfl) (by kernel_rfl) (by kernel_rfl) (by exact fun _ _ _ h => h) (Or.inl ⟨by rfl, ?_⟩) (by assumption) ?_
    rotate_left
    · (intro w hSw; (try dsimp only at hSw); go_simp; (try with_reducible rfl))
    (try simp only [Act.put, List.setIfInBounds_toArray, List.set_cons_zero, List.set_cons_succ])
    refine wpAnyH_take (i := 8) (v := ?_) (by simp only [List.getElem?_toArray, List.getElem?_cons_succ, List.getElem?_cons_zero]; rfl) (by kernel_rfl) (by kernel_rfl) (by kernel_rfl) (by exact fun _ _ _ h => h) (Or.inl ⟨by rfl, ?_⟩) (by assumption) ?_
    rotate_left
    · (intro w hSw; (try dsimp only at hSw); go_simp; (try with_reducible rfl))
    (try simp only [Act.put, List.setIfInBounds_toArray, List.set_cons_zero, List.set_cons_succ])
    refine wpAnyH_take (i := 9) (v := ?_) (by simp only [List.getElem?_toArray, List.getElem?_cons_succ, List.getElem?_cons_zero]; rfl) (by kernel_rfl) (by kernel_rfl) (by kernel_rfl) (by exact fun _ _ _ h => h) (Or.inl ⟨by rfl, ?_⟩) (by assumption) ?_
    rotate_left
    · (intro w hSw; (try dsimp only at hSw); go_simp; (try with_reducible rfl))
    (try simp only [Act.put, List.setIfInBounds_toArray, List.set_cons_zero, List.set_cons_succ])
    refine wpAnyH_take (i := 12) (v := ?_) (by simp only [List.getElem?_toArray, List.getElem?_cons_succ, List.getElem?_cons_zero]; rfl) (by kernel_rfl) (by kernel_rfl) (by kernel_rfl) (by exact fun _ _ _ h => h) (Or.inl ⟨by rfl, ?_⟩) (by assumption) ?_
    rotate_left
    · (intro w hSw; (try dsimp only at hSw); go_simp; (try with_reducible rfl))
    (try simp only [Act.put, List.setIfInBounds_toArray, List.set_cons_zero, List.set_cons_succ])
    refine wpAnyH_take (i := 13) (v := ?_) (by simp only [List.getElem?_toArray, List.getElem?_cons_succ, List.getElem?_cons_zero]; rfl) (by kernel_rfl) (by kernel_rfl) (by kernel_rfl) (by exact fun _ _ _ h => h) (Or.inl ⟨by rfl, ?_⟩) (by assumption) ?_
    rotate_left
    · (intro w hSw; (try dsimp only at hSw); go_simp; (try with_reducible rfl))
    (try simp only [Act.put, List.setIfInBounds_toArray, List.set_cons_zero, List.set_cons_succ])
    refine wpAnyH_ready (rs := [5]) (by kernel_rfl) (by simp) ?_
    refine AllReadyH.cons (by simp only [List.getElem?_toArray, List.getElem?_cons_succ, List.getElem?_cons_zero]; rfl) (fun K hK => ?_) AllReadyH.nil
    go_simp
    refine (lfact_at j _ (by omega) ht).mono ?_
    rintro e w3 ⟨r5, rfl, h5, b3⟩
    go_wp2_with fail
    replace ht := ht.below b3
    replace h2 := h2.below b3
    replace VA := VA.below b3
    replace BB := BB.trans (b3.mono BB.size)
    clear b3
    refine hK.out _ _ ?_ (fun hH1 => ?_)
    · exact ⟨VA.1, VA.2.1, VA.2.2.1⟩
    clear hK K hHeld
    (try simp only [Act.put, List.setIfInBounds_toArray, List.set_cons_zero, List.set_cons_succ])
    refine wpAnyH_ready (rs := [10]) (by kernel_rfl) (by simp) ?_
    refine AllReadyH.cons (by simp only [List.getElem?_toArray, List.getElem?_cons_succ, List.getElem?_cons_zero]; rfl) (fun K hK => ?_) AllReadyH.nil
    go_simp
    refine (lfact_at (k - j - 2) _ (by omega) ht).mono ?_
    rintro e w4 ⟨r6, rfl, h6, b4⟩
    go_wp2_with fail
    replace ht := ht.below b4
    replace h2 := h2.below b4
    replace h5 := h5.below b4
    replace VA := VA.below b4
    replace BB := BB.trans (b4.mono BB.size)
    clear b4
    refine hK.out _ _ ?_ (fun hH2 => ?_)
    · exact ⟨VA.1, VA.2.1, VA.2.2.1⟩
    clear hK K hH1
    (try simp only [Act.put, List.setIfInBounds_toArray, List.set_cons_zero, List.set_cons_succ])
    refine wpAnyH_ready (rs := [11]) (by kernel_rfl) (by simp) ?_
    refine AllReadyH.cons (by simp only [List.getElem?_toArray, List.getElem?_cons_succ, List.getElem?_cons_zero]; rfl) (fun K hK => ?_) AllReadyH.nil
    go_simp
    refine (qof_at 2 _ (by omega) (by omega)).mono ?_
    rintro e w5 ⟨r3, rfl, h3, b5⟩
    go_wp2_with fail
    replace ht := ht.below b5
    replace h2 := h2.below b5
    replace h5 := h5.below b5
    replace h6 := h6.below b5
    replace VA := VA.below b5
    replace BB := BB.trans (b5.mono BB.size)
    clear b5
    refine hK.out _ _ ?_ (fun hH3 => ?_)
    · exact ⟨VA.1, VA.2.1, VA.2.2.1⟩
    clear hK K hH2
    (try simp only [Act.put, List.setIfInBounds_toArray, List.set_cons_zero, List.set_cons_succ])
    refine wpAnyH_ready (rs := [14]) (by kernel_rfl) (by simp) ?_
    refine AllReadyH.cons (by simp only [List.getElem?_toArray, List.getElem?_cons_succ, List.getElem?_cons_zero]; rfl) (fun K hK => ?_) AllReadyH.nil
    go_simp
    refine (lfact_at (k - 1) _ (by omega) ht).mono ?_
    rintro e w6 ⟨r7, rfl, h7, b6⟩
    go_wp2_with fail
    replace ht := ht.below b6
    replace h2 := h2.below b6
    replace h5 := h5.below b6
    replace h6 := h6.below b6
    replace h3 := h3.below b6
    replace VA := VA.below b6
    replace BB := BB.trans (b6.mono BB.size)
    clear b6
    refine hK.out _ _ ?_ (fun hH4 => ?_)
    · exact ⟨VA.1, VA.2.1, VA.2.2.1⟩
    clear hK K hH3
    (try simp only [Act.put, List.setIfInBounds_toArray, List.set_cons_zero, List.set_cons_succ])
    refine wpAnyH_ready (rs := [15]) (by kernel_rfl) (by simp) ?_
    refine AllReadyH.cons (by simp only [List.getElem?_toArray, List.getElem?_cons_succ, List.getElem?_cons_zero]; rfl) (fun K hK => ?_) AllReadyH.nil
    go_simp
    refine (qmul_at _ _ _ _ 10 _ (h3.at 10 two_sz) (h7.at 10 (fctR_sz (by omega))) (by omega) (by omega) ht).mono ?_
    rintro e w7 ⟨r9, rfl, h9, b7⟩
    go_wp2_with fail
    replace ht := ht.below b7
    replace h2 := h2.below b7
    replace h5 := h5.below b7
    replace h6 := h6.below b7
    replace h3 := h3.below b7
    replace h7 := h7.below b7
    replace VA := VA.below b7
    replace BB := BB.trans (b7.mono BB.size)
    clear b7
    refine hK.out _ _ ?_ (fun hH5 => ?_)
    · exact ⟨VA.1, VA.2.1, VA.2.2.1⟩
    clear hK K hH4
    (try simp only [Act.put, List.setIfInBounds_toArray, List.set_cons_zero, List.set_cons_succ])
    refine wpAnyH_ready (rs := [16]) (by kernel_rfl) (by simp) ?_
    refine AllReadyH.cons (by simp only [List.getElem?_toArray, List.getElem?_cons_succ, List.getElem?_cons_zero]; rfl) (fun K hK => ?_) AllReadyH.nil
    go_simp
    refine (lquot_at _ _ _ _ _ _ _ h5 h6 h9 (Nat.le_trans (fctR_sz (by omega)) (by omega)) (Nat.le_trans (fctR_sz (by omega)) (by omega)) (Nat.le_trans (qsz_mul _ _ two_sz (fctR_sz (n := k - 1) (by omega))) (by omega)) (two_ne _) ht).mono ?_
    rintro e w8 ⟨r8, rfl, h8, b8⟩
    rw [← pair_eq] at h8
    go_wp2_with fail
    replace ht := ht.below b8
    replace h2 := h2.below b8
    replace h5 := h5.below b8
    replace h6 := h6.below b8
    replace h3 := h3.below b8
    replace h7 := h7.below b8
    replace h9 := h9.below b8
    replace VA := VA.below b8
    replace BB := BB.trans (b8.mono BB.size)
    clear b8
    refine hK.out _ _ ?_ (fun hH6 => ?_)
    · exact ⟨VA.1, VA.2.1, VA.2.2.1⟩
    clear hK K hH5
    (try simp only [Act.put, List.setIfInBounds_toArray, List.set_cons_zero, List.set_cons_succ])
    refine wpAnyH_ready (rs := [17]) (by kernel_rfl) (by simp) ?_
    refine AllReadyH.cons (by simp only [List.getElem?_toArray, List.getElem?_cons_succ, List.getElem?_cons_zero]; rfl) (fun K hK => ?_) AllReadyH.nil
    go_simp
    refine (lis14_at _ _ _ _ _ h2 h8 (Nat.le_trans (qsz_mul _ _ half_sz (shQ_sz (by omega) (by omega))) (by omega)) (Nat.le_trans (qsz_mul _ _ half_sz (shQ_sz (a := j) (c := k - j - 2) (n := k - 1) (by omega) (by omega))) (by omega)) rfl ht).mono ?_
    rintro e w9 ⟨rfl, b9⟩
    go_wp2_with fail
    replace ht := ht.below b9
    replace h2 := h2.below b9
    replace h5 := h5.below b9
    replace h6 := h6.below b9
    replace h3 := h3.below b9
    replace h7 := h7.below b9
    replace h9 := h9.below b9
    replace h8 := h8.below b9
    replace VA := VA.below b9
    replace BB := BB.trans (b9.mono BB.size)
    clear b9
    refine hK.out _ _ ?_ (fun hH7 => ?_)
    · exact ⟨VA.1, VA.2.1, VA.2.2.1⟩
    clear hK K hH6
    (try simp only [Act.put, List.setIfInBounds_toArray, List.set_cons_zero, List.set_cons_succ])
    refine wpAnyH_take (i := 18) (v := ?_) (by simp only [List.getElem?_toArray, List.getElem?_cons_succ, List.getElem?_cons_zero]; rfl) (by kernel_rfl) (by kernel_rfl) (by kernel_rfl) (by exact fun _ _ _ h => h) (Or.inl ⟨by rfl, ?_⟩) (by assumption) ?_
    rotate_left
    · (intro w hSw; (try dsimp only at hSw); go_simp; (try with_reducible rfl))
    (try simp only [Act.put, List.setIfInBounds_toArray, List.set_cons_zero, List.set_cons_succ])
    refine wpAnyH_take (i := 19) (v := ?_) (by simp only [List.getElem?_toArray, List.getElem?_cons_succ, List.getElem?_cons_zero]; rfl) (by kernel_rfl) (by kernel_rfl) (by kernel_rfl) (by exact fun _ _ _ h => h) (Or.inl ⟨by rfl, ?_⟩) (by assumption) ?_
    rotate_left
    · (intro w hSw; (try dsimp only at hSw); go_simp; (try with_reducible rfl))
    (try simp only [Act.put, List.setIfInBounds_toArray, List.set_cons_zero, List.set_cons_succ])
    refine wpAnyH_ready (rs := [20]) (by kernel_rfl) (by simp) ?_
    refine AllReadyH.cons (by simp only [List.getElem?_toArray, List.getElem?_cons_succ, List.getElem?_cons_zero]; rfl) (fun K hK => ?_) AllReadyH.nil
    go_simp
    refine (awake14_at _ ht).mono ?_
    rintro e w10 ⟨rfl, b10⟩
    go_wp2_with fail
    replace ht := ht.below b10
    replace h2 := h2.below b10
    replace h5 := h5.below b10
    replace h6 := h6.below b10
    replace h3 := h3.below b10
    replace h7 := h7.below b10
    replace h9 := h9.below b10
    replace h8 := h8.below b10
    replace VA := VA.below b10
    replace BB := BB.trans (b10.mono BB.size)
    clear b10
    refine hK.out _ _ ?_ (fun hH8 => ?_)
    · exact ⟨VA.1, VA.2.1, VA.2.2.1⟩
    clear hK K hH7
    (try simp only [Act.put, List.setIfInBounds_toArray, List.set_cons_zero, List.set_cons_succ])
    refine wpAnyH_take (i := 21) (v := ?_) (by simp only [List.getElem?_toArray, List.getElem?_cons_succ, List.getElem?_cons_zero]; rfl) (by kernel_rfl) (by kernel_rfl) (by kernel_rfl) (by exact fun _ _ _ h => h) (Or.inl ⟨by rfl, ?_⟩) (by assumption) ?_
    rotate_left
    · (intro w hSw; (try dsimp only at hSw); go_simp; (try with_reducible rfl))
    (try simp only [Act.put, List.setIfInBounds_toArray, List.set_cons_zero, List.set_cons_succ])
    refine wpAnyH_take (i := 22) (v := ?_) (by simp only [List.getElem?_toArray, List.getElem?_cons_succ, List.getElem?_cons_zero]; rfl) (by kernel_rfl) (by kernel_rfl) (by kernel_rfl) (by exact fun _ _ _ h => h) (Or.inl ⟨by rfl, ?_⟩) (by assumption) ?_
    rotate_left
    · (intro w hSw; (try dsimp only at hSw); go_simp; (try with_reducible rfl))
    (try simp only [Act.put, List.setIfInBounds_toArray, List.set_cons_zero, List.set_cons_succ])
    refine wpAnyH_done (by kernel_rfl) ?_ _
    clear hH8
    go_wp2
    go_ret
    exact ⟨rfl, BB⟩
  by_cases hA : n < 2
  · have HC : Hid (n < 2 ∨ 64 < n ∨ s < 0 ∨ n - 2 < s) := by show _ ∨ _; omega
    have g1 : n < 2 := hA
    have q1 : decide (n < 2) = true := decide_eq_true g1
    clear hc hs2 hn2 hA
    have BB : Below w.heap.size w w := Below.refl _ _
    go_enter Tryz.func5, Tryz.ntmps5
    go_wp2_with fail
    refine (new_at _).mono ?_
    rintro e w1 ⟨rfl, hsz, HN, b1⟩
    replace ht := ht.below b1
    replace BB := BB.trans (b1.mono BB.size)
    clear b1
    obtain ⟨b, hb⟩ : ∃ b, b = w.heap.size := ⟨_, rfl⟩
    have hbw : w.heap.size ≤ b := by omega
    rw [← hb] at HN
    have HT : WT w1 b false := HN
    rw [← hb]
    clear HN hb hsz
    go_wp2_with fail
    refine (tpair_no b s n _ HC.out).mono ?_
    rintro e w2 ⟨rfl, b2⟩
    replace ht := ht.below b2
    replace BB := BB.trans (b2.mono BB.size)
    clear b2 HT
    have hZ1 : w.heap.size ≤ w2.heap.size := BB.size
    obtain ⟨W1, hW1, hS1, hL1, VA⟩ := V3.lay w2 35 (.bool false) (.slice none 0 0) (.slice none 0 0)
    replace ht := ht.below hL1
    replace BB := BB.trans (hL1.mono BB.size)
    clear hL1
    obtain ⟨VA_0, VA_1, VA_2, VA_3, VA_4, VA_5⟩ := id VA
    rw [hW1] at VA_0 VA_1 VA_2 VA_3 VA_4 VA_5
    go_wp2_with fail
    clear VA_0 VA_1 VA_2 VA_3 VA_4 VA_5
    rw [← hW1]
    generalize w2.heap.size = R1 at *
    clear hW1 hS1
    refine (awake14_at _ ht).mono ?_
    rintro e w3 ⟨rfl, b3⟩
    replace ht := ht.below b3
    replace VA := VA.below b3
    replace BB := BB.trans (b3.mono BB.size)
    clear b3
    go_wp2
    go_ret
    exact ⟨rfl, BB⟩
  by_cases hB : 64 < n
  · have HC : Hid (n < 2 ∨ 64 < n ∨ s < 0 ∨ n - 2 < s) := by show _ ∨ _; omega
    have g1 : ¬ n < 2 := by omega
    have g2 : 64 < n := hB
    have q1 : decide (n < 2) = false := decide_eq_false g1
    have q2 : decide (64 < n) = true := decide_eq_true g2
    clear hc hs2 hn2 hA hB
    have BB : Below w.heap.size w w := Below.refl _ _
    go_enter Tryz.func5, Tryz.ntmps5
    go_wp2_with fail
    refine (new_at _).mono ?_
    rintro e w1 ⟨rfl, hsz, HN, b1⟩
    replace ht := ht.below b1
    replace BB := BB.trans (b1.mono BB.size)
    clear b1
    obtain ⟨b, hb⟩ : ∃ b, b = w.heap.size := ⟨_, rfl⟩
    have hbw : w.heap.size ≤ b := by omega
    rw [← hb] at HN
    have HT : WT w1 b false := HN
    rw [← hb]
    clear HN hb hsz
    go_wp2_with fail
    refine (tpair_no b s n _ HC.out).mono ?_
    rintro e w2 ⟨rfl, b2⟩
    replace ht := ht.below b2
    replace BB := BB.trans (b2.mono BB.size)
    clear b2 HT
    have hZ1 : w.heap.size ≤ w2.heap.size := BB.size
    obtain ⟨W1, hW1, hS1, hL1, VA⟩ := V3.lay w2 35 (.bool false) (.slice none 0 0) (.slice none 0 0)
    replace ht := ht.below hL1
    replace BB := BB.trans (hL1.mono BB.size)
    clear hL1
    obtain ⟨VA_0, VA_1, VA_2, VA_3, VA_4, VA_5⟩ := id VA
    rw [hW1] at VA_0 VA_1 VA_2 VA_3 VA_4 VA_5
    go_wp2_with fail
    clear VA_0 VA_1 VA_2 VA_3 VA_4 VA_5
    rw [← hW1]
    generalize w2.heap.size = R1 at *
    clear hW1 hS1
    refine (awake14_at _ ht).mono ?_
    rintro e w3 ⟨rfl, b3⟩
    replace ht := ht.below b3
    replace VA := VA.below b3
    replace BB := BB.trans (b3.mono BB.size)
    clear b3
    go_wp2
    go_ret
    exact ⟨rfl, BB⟩
  by_cases hC : s < 0
  · have HC : Hid (n < 2 ∨ 64 < n ∨ s < 0 ∨ n - 2 < s) := by show _ ∨ _; omega
    have g1 : ¬ n < 2 := by omega
    have g2 : ¬ 64 < n := by omega
    have g3 : s < 0 := hC
    have q1 : decide (n < 2) = false := decide_eq_false g1
    have q2 : decide (64 < n) = false := decide_eq_false g2
    have q3 : decide (s < 0) = true := decide_eq_true g3
    clear hc hs2 hn2 hA hB hC
    have BB : Below w.heap.size w w := Below.refl _ _
    go_enter Tryz.func5, Tryz.ntmps5
    go_wp2_with fail
    refine (new_at _).mono ?_
    rintro e w1 ⟨rfl, hsz, HN, b1⟩
    replace ht := ht.below b1
    replace BB := BB.trans (b1.mono BB.size)
    clear b1
    obtain ⟨b, hb⟩ : ∃ b, b = w.heap.size := ⟨_, rfl⟩
    have hbw : w.heap.size ≤ b := by omega
    rw [← hb] at HN
    have HT : WT w1 b false := HN
    rw [← hb]
    clear HN hb hsz
    go_wp2_with fail
    refine (tpair_no b s n _ HC.out).mono ?_
    rintro e w2 ⟨rfl, b2⟩
    replace ht := ht.below b2
    replace BB := BB.trans (b2.mono BB.size)
    clear b2 HT
    have hZ1 : w.heap.size ≤ w2.heap.size := BB.size
    obtain ⟨W1, hW1, hS1, hL1, VA⟩ := V3.lay w2 35 (.bool false) (.slice none 0 0) (.slice none 0 0)
    replace ht := ht.below hL1
    replace BB := BB.trans (hL1.mono BB.size)
    clear hL1
    obtain ⟨VA_0, VA_1, VA_2, VA_3, VA_4, VA_5⟩ := id VA
    rw [hW1] at VA_0 VA_1 VA_2 VA_3 VA_4 VA_5
    go_wp2_with fail
    clear VA_0 VA_1 VA_2 VA_3 VA_4 VA_5
    rw [← hW1]
    generalize w2.heap.size = R1 at *
    clear hW1 hS1
    refine (awake14_at _ ht).mono ?_
    rintro e w3 ⟨rfl, b3⟩
    replace ht := ht.below b3
    replace VA := VA.below b3
    replace BB := BB.trans (b3.mono BB.size)
    clear b3
    go_wp2
    go_ret
    exact ⟨rfl, BB⟩
  have HC : Hid (n < 2 ∨ 64 < n ∨ s < 0 ∨ n - 2 < s) := by show _ ∨ _; omega
  have g1 : ¬ n < 2 := by omega
  have g2 : ¬ 64 < n := by omega
  have g3 : ¬ s < 0 := by omega
  have q1 : decide (n < 2) = false := decide_eq_false g1
  have q2 : decide (64 < n) = false := decide_eq_false g2
  have q3 : decide (s < 0) = false := decide_eq_false g3
  have wk : IntKind.i64.wrap (n - 1) = n - 1 := by rw [IntKind.wrap_i64]; omega
  have g4 : n - 1 ≤ s := by omega
  have q4 : decide (n - 1 ≤ s) = true := decide_eq_true g4
  clear hc hs2 hn2 hA hB hC
  have BB : Below w.heap.size w w := Below.refl _ _
  go_enter Tryz.func5, Tryz.ntmps5
  go_wp2_with fail
  refine (new_at _).mono ?_
  rintro e w1 ⟨rfl, hsz, HN, b1⟩
  replace ht := ht.below b1
  replace BB := BB.trans (b1.mono BB.size)
  clear b1
  obtain ⟨b, hb⟩ : ∃ b, b = w.heap.size := ⟨_, rfl⟩
  have hbw : w.heap.size ≤ b := by omega
  rw [← hb] at HN
  have HT : WT w1 b false := HN
  rw [← hb]
  clear HN hb hsz
  go_wp2_with fail
  refine (tpair_no b s n _ HC.out).mono ?_
  rintro e w2 ⟨rfl, b2⟩
  replace ht := ht.below b2
  replace BB := BB.trans (b2.mono BB.size)
  clear b2 HT
  have hZ1 : w.heap.size ≤ w2.heap.size := BB.size
  obtain ⟨W1, hW1, hS1, hL1, VA⟩ := V3.lay w2 35 (.bool false) (.slice none 0 0) (.slice none 0 0)
  replace ht := ht.below hL1
  replace BB := BB.trans (hL1.mono BB.size)
  clear hL1
  obtain ⟨VA_0, VA_1, VA_2, VA_3, VA_4, VA_5⟩ := id VA
  rw [hW1] at VA_0 VA_1 VA_2 VA_3 VA_4 VA_5
  go_wp2_with fail
  clear VA_0 VA_1 VA_2 VA_3 VA_4 VA_5
  rw [← hW1]
  generalize w2.heap.size = R1 at *
  clear hW1 hS1
  refine (awake14_at _ ht).mono ?_
  rintro e w3 ⟨rfl, b3⟩
  replace ht := ht.below b3
  replace VA := VA.below b3
  replace BB := BB.trans (b3.mono BB.size)
  clear b3
  go_wp2
  go_ret
  exact ⟨rfl, BB⟩
theorem own : ownKnob Tryz.prog.godebug = none := by kernel_rfl

abbrev laid1 : List (String × DataW Unit) := [("math/bits.deBruijn64tab", Rows.laid_math_bits_deBruijn64tab)]
theorem gTab : Tryz.prog.globalNamed "math/bits.deBruijn64tab" = some 0 := by kernel_rfl
theorem gTabType : (Tryz.prog.globals[0]?).map (·.type) = some 129 := by kernel_rfl
theorem uTab : Tryz.prog.underlying 129 = some (.array 64 5) := by kernel_rfl
theorem uCell : Tryz.prog.underlying 5 = some (.int .u8) := by kernel_rfl
theorem cCell : Tryz.prog.cellsOf 5 = 1 := by kernel_rfl
theorem cTab : Tryz.prog.cellsOf 129 = 64 := by kernel_rfl
/-- The listed table lies in its cells. -/
theorem tab_of {W : World} (h : laidMetH Tryz.prog laid1 W) : Tab W := by
  rw [MakeChecks.laidMetH_plain _ _ _ (by kernel_rfl)] at h
  have hd : laid1 = [("math/bits.deBruijn64tab", Lib.tabData .u8 (Lib.deBruijn64tab.map fun (n : Nat) => Int.ofNat n))] := rfl
  rw [hd] at h
  have hT := Lib.tabIs_of_head gTab gTabType uTab uCell cCell cTab h
  intro i hi
  have hc := hT.cell gTab i (by rw [List.length_map]; exact hi)
  rw [hc]
  congr 2
  rw [List.getD_eq_getElem?_getD, List.getElem?_map, List.getD_eq_getElem?_getD]
  cases Lib.deBruijn64tab[i]? <;> rfl
/-- A start for the witness: the heap that the run of the program's own initialisers leaves. -/
noncomputable def startW (os : Os) : World := { World.holding Tryz.prog os ⟨#[], #[], []⟩ with heap := (varsWorld Tryz.prog 400 (varsId Tryz.prog) os (fun _ _ => 0)).heap }
theorem start_met (os : Os) (args : Array Value) : laidMetH Tryz.prog laid1 ((startW os).forCall (fun _ _ => 0) ⟨#[], args, []⟩).memory :=
  laidMetH_of_parts3 (fuel := 8) (laidMet_of_run' 8 (by kernel_rfl) (by kernel_rfl)) (by kernel_rfl) (by kernel_rfl)

set_option maxRecDepth 100000 in
theorem lifted (os : Os) (started : os.Started) (H : Type) (enc : TypeId × Value → H) :
    ReturnsInHanded {} Tryz.checked os 5 .any (fun w args => (Rows.weighPairsSpec.pre enc Tryz.prog Tryz.f5 [] false w args ∧ laidMetH Tryz.prog laid1 w) ∧ sizedMet enc Tryz.prog Tryz.f5 (OpenSpec.ofChange Rows.weighPairsSpec) false w args) (Rows.weighPairsSpec.post enc Tryz.prog Tryz.f5 false true false false) := by
  refine returnsInHanded_of_change_and (C := Tryz.checked) (X := fun w _ => laidMetH Tryz.prog laid1 w) (fun _ _ _ hh h => h.of_heap hh) own started (by kernel_rfl) Tryz.func5
    (ChangeSpec.witness_shaped (enc := enc) (C := Tryz.checked) (os := os) (X := fun w _ => laidMetH Tryz.prog laid1 w) false (startW os) #[.int .i64 0, .int .i64 0] 8 rfl (World.shaped_of_RefB (by kernel_rfl) (by kernel_rfl)) (by kernel_rfl) (by kernel_rfl) (by kernel_rfl) (start_met os _)) ?_
  intro W base args ds gs before hval0 hW _ _ hL _
  have hval : ∀ (j : Nat) t v, Tryz.f5.params[j]? = some t → args[j]? = some v → Value.okWide Tryz.prog W .any base t v := hval0
  have hW' := hW
  obtain ⟨p, q, hA0, hV, rfl, hfz, hnd⟩ := hW
  have hA : DataW.TrodAll enc Tryz.prog W 0 (fun _ => true) true Tryz.f5.params.toList args.toList ds p := hA0
  rw [Tryz.params5] at hA hval
  obtain ⟨v0, vs0, d0, ds0, p0, q0, hargs, rfl, rfl, h0, r0⟩ := trodAll_cons hA
  obtain ⟨v1, vs1, d1, ds1, p1, q1, rfl, rfl, rfl, h1, r1⟩ := trodAll_cons r0
  obtain ⟨rfl, rfl, rfl⟩ := trodAll_nil r1
  obtain rfl : args = #[v0, v1] := by cases args; simp_all
  obtain ⟨rfl, rfl⟩ := trodVars_none hV
  obtain ⟨a0, rfl, rfl, rfl, w0⟩ := open_int Tryz.underlying3 (hval 0 3 v0 rfl rfl) h0
  obtain ⟨a1, rfl, rfl, rfl, w1⟩ := open_int Tryz.underlying3 (hval 1 3 v1 rfl rfl) h1
  clear hA0 hval0
  refine (walk a0 a1 W w0 w1 (tab_of hL)).mono fun e W' ⟨he, bel⟩ => ?_
  subst he
  exact ⟨_, rfl, _, _, _, [], _, [], hW', trodAll_mk1 (shut_bool Tryz.underlying4 _), (trodAll_cons_mk (shut_int Tryz.underlying3 w0) (trodAll_cons_mk (shut_int Tryz.underlying3 w1) trodAll_mk0)), rfl, bel.frame _, fun h => by cases h⟩

theorem over : Rows.weighPairsRow.holds Tryz.pinned (OpenSpec.ofChange Rows.weighPairsSpec) :=
  OpenClaim.holds_of_wide 5 Tryz.f5 rfl rfl rfl rfl rfl rfl rfl ⟨rfl, rfl, rfl, rfl, rfl⟩ rfl rfl rfl rfl rfl (by kernel_rfl) Tryz.func5 (by kernel_rfl)
    (of_decide_eq_true (by kernel_rfl)) (by unfold Func.isWrapper; first | (rw [if_pos (by decide +kernel)]; kernel_rfl) | (rw [if_neg (by decide +kernel)]; exact ⟨rfl, rfl⟩))
    (fun os started H enc _ => lifted os started H enc)

end Go.Proofs.YtfibpckhbgemcaaGreatDoor.weighPairs
namespace Go.Proofs.YtfibpckhbgemcaaGreatDoor
/-- The statement: the row, tied to the text of the program. -/
theorem weighPairs_holds : Rows.WeighPairsCardSaid :=
  Claim7.holds_tied_plain_at .later [] [.data] true (true, "eeffd6bd899e8edb0c7b9ed8e33ff2a95ce20abacf21bee988a273f730e03bab") false
    weighPairs.over (fun _ h => by cases h) (by kernel_rfl) (fun _ h => by cases h) weighPairs_row_tie rfl ⟨rfl, rfl⟩ (by kernel_rfl) rfl
    (fun f fn hf hfn => by
      obtain rfl : f = 5 := Option.some.inj ((show Tryz.prog.funcNamed "dendron/dendronlaw14.WeighPairs" = some 5 by kernel_rfl).symm.trans hf) |>.symm
      obtain rfl : fn = Tryz.f5 := (Option.some.inj (Tryz.func5.symm.trans hfn)).symm
      exact ⟨by kernel_rfl, fun j t ht => by
        rw [Tryz.params5] at ht
        have hm : t ∈ [3, 3] := by simpa using Array.mem_of_getElem? ht
        have hall : ([3, 3].all fun u => !Tryz.prog.wantsStandIn u) = true := by kernel_rfl
        exact (show Tryz.prog.wantsStandIn t = false by simpa using List.all_eq_true.1 hall t hm)⟩)
    (by kernel_rfl)
end Go.Proofs.YtfibpckhbgemcaaGreatDoor
