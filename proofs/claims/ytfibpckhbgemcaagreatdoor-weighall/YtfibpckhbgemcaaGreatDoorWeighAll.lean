/-
  Proves that All answers the weights of all coalitions of so many players, that those without one player come to 1, or that there are none, whatever comes in (the statement WeighAll, its tied card); the table of math/bits lies as the program's text lays it; no other condition.
-/
import Derived.Test.YtfibpckhbgemcaaGreatDoorRows
import Derived.Test.YtfibpckhbgemcaaGreatDoorJ66aded052d
import Derived.WalkKit
import Derived.ProofKit
import Derived.OpenShut
import Derived.ShutString
import Derived.ChangeOld
import Derived.Below
import Derived.Test.YtfibpckhbgemcaaGreatDoorTie
import Derived.Test.YtfibpckhbgemcaaGreatDoorCards
import Derived.LaidByTextLater
import Derived.LaidHandle
import Derived.Lib.LaidTab
import Derived.SevenTiedAt
namespace Go.Proofs.YtfibpckhbgemcaaGreatDoor.weighAll
open Go.ChangeShapes Go.WideShapes Go.ChangeAt Go.RowKit
open Go.ChangeMaps (open_string shut_string)
set_option linter.unusedVariables false
set_option linter.unusedSimpArgs false

/-- What is told in a world stays told. -/
structure Bw14 (R : Nat) (w0 w : World) : Prop where
  out : Below w0.heap.size w0 w
  le : w0.heap.size ≤ R
theorem Bw14.below {R : Nat} {w0 w w' : World} (h : Bw14 R w0 w) (hb : Below w.heap.size w w') : Bw14 R w0 w' := ⟨h.out.trans (hb.mono h.out.size), h.le⟩
theorem Bw14.put3 {w0 w : World} {R : Nat} (h : Bw14 R w0 w) (x y z : Value) : Bw14 R w0 (((w.setCell ⟨R, 0, none⟩ x).setCell ⟨R, 1, none⟩ y).setCell ⟨R, 2, none⟩ z) := ⟨below_store3 h.out h.le x y z, h.le⟩
/-- The weights of the sizes below i come to i of k. -/
def part14 (k i : Nat) : Rat := ((i : Nat) : Rat) / ((k : Nat) : Rat)
theorem natR_ne {k : Nat} (h : 1 ≤ k) : ((k : Nat) : Rat) ≠ 0 := by
  intro e
  have : k = 0 := by exact_mod_cast e
  omega
theorem part_zero (k : Nat) : part14 k 0 = 0 := by unfold part14; rw [Rat.div_def]; show (0 : Rat) * _ = 0; rw [Rat.zero_mul]
theorem part_all {k : Nat} (h : 1 ≤ k) : part14 k k = 1 := by unfold part14; rw [Rat.div_def]; exact Rat.mul_inv_cancel _ (natR_ne h)
theorem one_sz14_ : qsz (1 : Rat) ≤ 1 := by decide +kernel
theorem one_sz14 : qsz (1 : Rat) ≤ 40 := Nat.le_trans one_sz14_ (by omega)
theorem prod_ne (a c : Nat) : ((fct a : Nat) : Rat) * ((fct c : Nat) : Rat) ≠ 0 := by
  intro e
  rcases Rat.mul_eq_zero.1 e with e | e
  · exact fctR_ne _ e
  · exact fctR_ne _ e
theorem part_next {k i : Nat} (h : i < k) : part14 k i + ((fct (k - 1) : Nat) : Rat) * 1 / (((fct i : Nat) : Rat) * ((fct (k - 1 - i) : Nat) : Rat)) * shQ i (k - i - 1) k = part14 k (i + 1) := by
  unfold part14 shQ
  rw [show k - i - 1 = k - 1 - i by omega]
  obtain ⟨m, rfl⟩ : ∃ m, k = m + 1 := ⟨k - 1, by omega⟩
  rw [show m + 1 - 1 = m by omega, fctR_succ]
  have n1 := prod_ne i (m - i)
  have n2 := fctR_ne m
  have n3 := natR_ne (k := m + 1) (by omega)
  rw [show (((i + 1 : Nat) : Nat) : Rat) = ((i : Nat) : Rat) + 1 by rw [Rat.natCast_add]; rfl]
  generalize ((fct i : Nat) : Rat) * ((fct (m - i) : Nat) : Rat) = A at *
  generalize ((fct m : Nat) : Rat) = C at *
  generalize (((m + 1 : Nat) : Nat) : Rat) = K at *
  generalize ((i : Nat) : Rat) = I at *
  rw [Rat.div_def, Rat.div_def, Rat.div_def, Rat.div_def, Rat.inv_mul_rev]
  have e1 := Rat.mul_inv_cancel A n1
  have e2 := Rat.mul_inv_cancel C n2
  grind
theorem nat_sz {i : Nat} (h : i ≤ 64) : qsz ((i : Nat) : Rat) ≤ 2 := by
  rw [← Rat.intCast_natCast]
  exact qsz_int _ ((nl_two _).2 (by omega)) (by omega)
theorem part_sz {k i : Nat} (hk : k ≤ 64) (hi : i ≤ k) : qsz (part14 k i) ≤ 4 := qsz_div _ _ (nat_sz (by omega)) (nat_sz hk)
theorem many_sz {k i : Nat} (hk : k ≤ 64) (hi : i ≤ 64) : qsz (((fct (k - 1) : Nat) : Rat) * 1 / (((fct i : Nat) : Rat) * ((fct (k - 1 - i) : Nat) : Rat))) ≤ 60 := by
  rw [Rat.mul_one]
  exact Nat.le_trans (qsz_div _ _ (fctR_sz (n := k - 1) (by omega)) (qsz_mul _ _ (fctR_sz (n := i) hi) (fctR_sz (n := k - 1 - i) (by omega)))) (by omega)

set_option maxRecDepth 100000 in
set_option maxHeartbeats 16000000 in
theorem walk (n : Int) (w : World) (wn : (Lit.int .i64 n).wf = true) (ht : Tab w) :
    Calls Tryz.prog 7 #[.int .i64 n] w fun e w' => e = .returned (.bool true) ∧ Below w.heap.size w w' := by
  have hn2 := bounds_i64 wn
  clear wn
  have hnot : ∀ (x : Bool) (w : World), (Op.unary .not (.bool x)).run Tryz.prog w = .ok (.bool (!x)) w := fun _ _ => rfl
  by_cases hc : 1 ≤ n ∧ n ≤ 64
  · obtain ⟨k, rfl⟩ : ∃ k : Nat, n = (k : Int) := ⟨n.toNat, by omega⟩
    have hk1 : 1 ≤ k := by omega
    have hk : k ≤ 64 := by omega
    clear hc hn2
    have g1 : ¬ (k : Int) < 1 := by omega
    have g2 : ¬ (64 : Int) < (k : Int) := by omega
    have g5 : decide ((k : Int) < 1) = false := decide_eq_false g1
    have g6 : decide ((64 : Int) < (k : Int)) = false := decide_eq_false g2
    have BB : Below w.heap.size w w := Below.refl _ _
    go_enter Tryz.func7, Tryz.ntmps7
    go_wp2_with fail
    refine (new_at _).mono ?_
    rintro e w1 ⟨rfl, hsz, HN, b1⟩
    replace ht := ht.below b1
    replace BB := BB.trans (b1.mono BB.size)
    clear b1
    obtain ⟨b, hb⟩ : ∃ b, b = w.heap.size := ⟨_, rfl⟩
    have hbw : w.heap.size ≤ b := by omega
    rw [← hb] at HN
    have HT : WT w1 b false := HN
    rw [← hb]
    clear HN hb hsz
    go_wp2_with fail
    refine (tall_at b k false _ HT hk1 hk ht).mono ?_
    rintro e w2 ⟨v2, rfl, hF, ho⟩
    replace ht := ht.keepL ho.keep
    replace BB := BB.trans (ho.low hbw BB.size)
    clear ho HT
    obtain ⟨a2, c2, rfl⟩ := hF.open
    go_wp2_with fail
    refine (qzero_at _).mono ?_
    rintro e w3 ⟨r3, rfl, h3, b3⟩
    replace ht := ht.below b3
    replace hF := hF.below b3
    replace BB := BB.trans (b3.mono BB.size)
    clear b3
    obtain ⟨p3, a3, n3, c3, y3, m3, d3, rfl⟩ := h3.open
    have HF : Hid (FRow w3 (.slice a2 k c2) k (fun s => shQ s (k - s - 1) k)) := hF
    have BX : Bw14 w3.heap.size w3 w3 := ⟨Below.refl _ _, Nat.le_refl _⟩
    clear hF
    have hZ1 : w.heap.size ≤ w3.heap.size := BB.size
    obtain ⟨W1, hW1, hS1, hL1, VS⟩ := V3.lay w3 35 (.bool p3) (.slice a3 n3 c3) (.slice y3 m3 d3)
    replace ht := ht.below hL1
    replace h3 := h3.below hL1
    replace BX := BX.below hL1
    replace BB := BB.trans (hL1.mono BB.size)
    clear hL1
    go_wp2
    rw [← hW1]
    generalize w3.heap.size = R1 at *
    clear hW1 hS1
    have hRw : w.heap.size ≤ R1 := by have := BB.size; omega
    have SQ : SmQ14 W1 R1 (part14 k 0) := ⟨_, _, _, _, _, _, _, VS, by rw [part_zero]; exact h3⟩
    clear VS h3
    go_loopw [6] (fun vi wr => ∃ i : Nat, i ≤ k ∧ vi = .int .i64 (i : Int) ∧ SmQ14 wr R1 (part14 k i) ∧ Bw14 R1 w3 wr ∧ Tab wr ∧ Below w.heap.size w wr) (fun vi _ => k - (intOf vi).toNat)
    case atStart => exact ⟨0, by omega, rfl, SQ, BX, ht, BB⟩
    case round =>
      clear SQ BX ht BB
      obtain ⟨i, hi, rfl, SQ, BX, ht, BB⟩ := hrel
      by_cases hlt : i < k
      · have c1 : (i : Int) < (k : Int) := by omega
        have c0 : (0 : Int) ≤ (i : Int) := by omega
        have wi : IntKind.i64.wrap ((i : Int) + 1) = (i : Int) + 1 := by rw [IntKind.wrap_i64]; omega
        have wj : IntKind.i64.wrap ((k : Int) - (i : Int)) = ((k - i : Nat) : Int) := by rw [IntKind.wrap_i64]; omega
        have wk : IntKind.i64.wrap (((k - i : Nat) : Int) - 1) = ((k - i - 1 : Nat) : Int) := by rw [IntKind.wrap_i64]; omega
        have wl : IntKind.i64.wrap ((k : Int) - 1) = ((k - 1 : Nat) : Int) := by rw [IntKind.wrap_i64]; omega
        have wm : IntKind.i64.wrap (((k - 1 : Nat) : Int) - (i : Int)) = ((k - 1 - i : Nat) : Int) := by rw [IntKind.wrap_i64]; omega
        obtain ⟨bF, oF, cF, p5, a5, n5, c5, y5, m5, d5, hvv, hcc, XC0, hl0⟩ := HF.out.at i hlt
        cases hvv
        have XC : E3 wr bF (oF + i * 3) (.bool p5) (.slice a5 n5 c5) (.slice y5 m5 d5) := XC0.below BX.out
        have hl := hl0.below BX.out
        have hRF : bF ≠ R1 := by have := XC0.lt; have := BX.le; omega
        clear XC0 hl0
        go_wp2_with fail
        refine (lfact_at i _ (by omega) ht).mono ?_
        rintro e w6 ⟨r6, rfl, h6, b6⟩
        replace SQ := SQ.below b6
        replace BX := BX.below b6
        replace ht := ht.below b6
        replace hl := hl.below b6
        replace XC := XC.below b6
        replace BB := BB.trans (b6.mono BB.size)
        clear b6
        go_wp2_with fail
        refine (lfact_at (k - i - 1) _ (by omega) ht).mono ?_
        rintro e w7 ⟨r7, rfl, h7, b7⟩
        replace SQ := SQ.below b7
        replace BX := BX.below b7
        replace ht := ht.below b7
        replace hl := hl.below b7
        replace h6 := h6.below b7
        replace XC := XC.below b7
        replace BB := BB.trans (b7.mono BB.size)
        clear b7
        go_wp2_with fail
        refine (lfact_at k _ hk ht).mono ?_
        rintro e w8 ⟨r8, rfl, h8, b8⟩
        replace SQ := SQ.below b8
        replace BX := BX.below b8
        replace ht := ht.below b8
        replace hl := hl.below b8
        replace h6 := h6.below b8
        replace h7 := h7.below b8
        replace XC := XC.below b8
        replace BB := BB.trans (b8.mono BB.size)
        clear b8
        go_wp2_with fail
        refine (lquot_at _ _ _ _ _ _ _ h6 h7 h8 (Nat.le_trans (fctR_sz (by omega)) (by omega)) (Nat.le_trans (fctR_sz (by omega)) (by omega)) (Nat.le_trans (fctR_sz (by omega)) (by omega)) (fctR_ne _) ht).mono ?_
        rintro e w9 ⟨r9, rfl, h9, b9⟩
        replace SQ := SQ.below b9
        replace BX := BX.below b9
        replace ht := ht.below b9
        replace hl := hl.below b9
        replace h6 := h6.below b9
        replace h7 := h7.below b9
        replace h8 := h8.below b9
        replace XC := XC.below b9
        replace BB := BB.trans (b9.mono BB.size)
        clear b9
        obtain ⟨p9, a9, n9, c9, y9, m9, d9, rfl⟩ := h9.open
        clear h6 h7 h8
        have hZ21 : w.heap.size ≤ w9.heap.size := BB.size
        have hN21XC : bF ≠ w9.heap.size := Nat.ne_of_lt XC.lt
        obtain ⟨W21, hW21, hS21, hL21, VW⟩ := V3.lay w9 35 (.bool p9) (.slice a9 n9 c9) (.slice y9 m9 d9)
        replace SQ := SQ.below hL21
        replace BX := BX.below hL21
        replace ht := ht.below hL21
        replace hl := hl.below hL21
        replace h9 := h9.below hL21
        replace XC := XC.below hL21
        replace BB := BB.trans (hL21.mono BB.size)
        clear hL21
        go_wp2
        rw [← hW21]
        generalize w9.heap.size = R21 at *
        clear hW21 hS21
        have hDr : Below W21.heap.size W21 W21.drew := (Below.refl _ _).drew
        replace SQ := SQ.below hDr
        replace BX := BX.below hDr
        replace ht := ht.below hDr
        replace hl := hl.below hDr
        replace h9 := h9.below hDr
        replace XC := XC.below hDr
        replace VW := VW.below hDr
        replace BB := BB.trans (hDr.mono BB.size)
        clear hDr
        refine wp_region_held_drew (S := (fun w' => w'.cell? ⟨bF, oF + i * 3, none⟩ = some (.bool p5) ∧ w'.cell? ⟨bF, oF + i * 3 + 1, none⟩ = some (.slice a5 n5 c5) ∧ w'.cell? ⟨bF, oF + i * 3 + 2, none⟩ = some (.slice y5 m5 d5) ∧ w'.cell? ⟨R21, 0, none⟩ = some (.bool p9) ∧ w'.cell? ⟨R21, 1, none⟩ = some (.slice a9 n9 c9) ∧ w'.cell? ⟨R21, 2, none⟩ = some (.slice y9 m9 d9))) (by kernel_rfl) ?_ (fun hHeld => ?_)
        · exact ⟨XC.1, XC.2.1, XC.2.2, VW.1, VW.2.1, VW.2.2.1⟩
        generalize W21.drew = W22 at *
        refine wpAnyH_take (i := 0) (v := ?_) (by simp only [List.getElem?_toArray, List.getElem?_cons_succ, List.getElem?_cons_zero]; rfl) (by kernel_rfl) (by kernel_rfl) (by kernel_rfl) (by exact fun _ _ _ h => h) (Or.inl ⟨by rfl, ?_⟩) (by assumption) ?_
        rotate_left
        · (intro w hSw; (try dsimp only at hSw); go_simp; (try with_reducible rfl))
        (try simp only [Act.put, List.setIfInBounds_toArray, List.set_cons_zero, List.set_cons_succ])
        refine wpAnyH_take (i := 1) (v := ?_) (by simp only [List.getElem?_toArray, List.getElem?_cons_succ, List.getElem?_cons_zero]; rfl) (by kernel_rfl) (by kernel_rfl) (by kernel_rfl) (by exact fun _ _ _ h => h) (Or.inl ⟨by rfl, ?_⟩) (by assumption) ?_
        rotate_left
        · (intro w hSw; (try dsimp only at hSw); go_simp; (try with_reducible rfl))
        (try simp only [Act.put, List.setIfInBounds_toArray, List.set_cons_zero, List.set_cons_succ])
        refine wpAnyH_take (i := 2) (v := ?_) (by simp only [List.getElem?_toArray, List.getElem?_cons_succ, List.getElem?_cons_zero]; rfl) (by kernel_rfl) (by kernel_rfl) (by kernel_rfl) (by exact fun _ _ _ h => h) (Or.inl ⟨by rfl, ?_⟩) (by assumption) ?_
        rotate_left
        · (intro w hSw; (try dsimp only at hSw); go_simp; (try with_reducible rfl))
        (try simp only [Act.put, List.setIfInBounds_toArray, List.set_cons_zero, List.set_cons_succ])
        refine wpAnyH_take (i := 3) (v := ?_) (by simp only [List.getElem?_toArray, List.getElem?_cons_succ, List.getElem?_cons_zero]; rfl) (by kernel_rfl) (by kernel_rfl) (by kernel_rfl) (by exact fun _ _ _ h => h) (Or.inl ⟨by rfl, ?_⟩) (by assumption) ?_
        rotate_left
        · (intro w hSw; (try dsimp only at hSw); go_simp; (try with_reducible rfl))
        (try simp only [Act.put, List.setIfInBounds_toArray, List.set_cons_zero, List.set_cons_succ])
        refine wpAnyH_take (i := 4) (v := ?_) (by simp only [List.getElem?_toArray, List.getElem?_cons_succ, List.getElem?_cons_zero]; rfl) (by kernel_rfl) (by kernel_rfl) (by kernel_rfl) (by exact fun _ _ _ h => h) (Or.inl ⟨by rfl, ?_⟩) (by assumption) ?_
        rotate_left
        · (intro w hSw; (try dsimp only at hSw); go_simp; (try with_reducible rfl))
        (try simp only [Act.put, List.setIfInBounds_toArray, List.set_cons_zero, List.set_cons_succ])
        refine wpAnyH_ready (rs := [5]) (by kernel_rfl) (by simp) ?_
        refine AllReadyH.cons (by simp only [List.getElem?_toArray, List.getElem?_cons_succ, List.getElem?_cons_zero]; rfl) (fun K hK => ?_) AllReadyH.nil
        go_simp
        refine (lis14_at _ _ _ _ _ hl h9 (Nat.le_trans (shQ_sz (by omega) hk) (by omega)) (Nat.le_trans (shQ_sz (a := i) (c := k - i - 1) (n := k) (by omega) hk) (by omega)) rfl ht).mono ?_
        rintro e w10 ⟨rfl, b10⟩
        go_wp2_with fail
        replace SQ := SQ.below b10
        replace BX := BX.below b10
        replace ht := ht.below b10
        replace hl := hl.below b10
        replace h9 := h9.below b10
        replace XC := XC.below b10
        replace VW := VW.below b10
        replace BB := BB.trans (b10.mono BB.size)
        clear b10
        refine hK.out _ _ ?_ (fun hH1 => ?_)
        · exact ⟨XC.1, XC.2.1, XC.2.2, VW.1, VW.2.1, VW.2.2.1⟩
        clear hK K hHeld
        (try simp only [Act.put, List.setIfInBounds_toArray, List.set_cons_zero, List.set_cons_succ])
        refine wpAnyH_take (i := 6) (v := ?_) (by simp only [List.getElem?_toArray, List.getElem?_cons_succ, List.getElem?_cons_zero]; rfl) (by kernel_rfl) (by kernel_rfl) (by kernel_rfl) (by exact fun _ _ _ h => h) (Or.inl ⟨by rfl, ?_⟩) (by assumption) ?_
        rotate_left
        · (intro w hSw; (try dsimp only at hSw); go_simp; (try with_reducible rfl))
        (try simp only [Act.put, List.setIfInBounds_toArray, List.set_cons_zero, List.set_cons_succ])
        refine wpAnyH_done (by kernel_rfl) ?_ _
        clear hH1
        go_wp2_with fail
        clear h9 VW
        refine (lfact_at (k - 1) _ (by omega) ht).mono ?_
        rintro e w11 ⟨r10, rfl, h10, b11⟩
        replace SQ := SQ.below b11
        replace BX := BX.below b11
        replace ht := ht.below b11
        replace hl := hl.below b11
        replace XC := XC.below b11
        replace BB := BB.trans (b11.mono BB.size)
        clear b11
        go_wp2_with fail
        refine (qone_at _).mono ?_
        rintro e w12 ⟨r11, rfl, h11, b12⟩
        replace SQ := SQ.below b12
        replace BX := BX.below b12
        replace ht := ht.below b12
        replace hl := hl.below b12
        replace h10 := h10.below b12
        replace XC := XC.below b12
        replace BB := BB.trans (b12.mono BB.size)
        clear b12
        go_wp2_with fail
        refine (lfact_at i _ (by omega) ht).mono ?_
        rintro e w13 ⟨r12, rfl, h12, b13⟩
        replace SQ := SQ.below b13
        replace BX := BX.below b13
        replace ht := ht.below b13
        replace hl := hl.below b13
        replace h10 := h10.below b13
        replace h11 := h11.below b13
        replace XC := XC.below b13
        replace BB := BB.trans (b13.mono BB.size)
        clear b13
        go_wp2_with fail
        refine (lfact_at (k - 1 - i) _ (by omega) ht).mono ?_
        rintro e w14 ⟨r13, rfl, h13, b14⟩
        replace SQ := SQ.below b14
        replace BX := BX.below b14
        replace ht := ht.below b14
        replace hl := hl.below b14
        replace h10 := h10.below b14
        replace h11 := h11.below b14
        replace h12 := h12.below b14
        replace XC := XC.below b14
        replace BB := BB.trans (b14.mono BB.size)
        clear b14
        go_wp2_with fail
        refine (qmul_at _ _ _ _ 10 _ (h12.at 10 (fctR_sz (by omega))) (h13.at 10 (fctR_sz (by omega))) (by omega) (by omega) ht).mono ?_
        rintro e w15 ⟨r14, rfl, h14, b15⟩
        replace SQ := SQ.below b15
        replace BX := BX.below b15
        replace ht := ht.below b15
        replace hl := hl.below b15
        replace h10 := h10.below b15
        replace h11 := h11.below b15
        replace h12 := h12.below b15
        replace h13 := h13.below b15
        replace XC := XC.below b15
        replace BB := BB.trans (b15.mono BB.size)
        clear b15
        go_wp2_with fail
        refine (lquot_at _ _ _ _ _ _ _ h10 h11 h14 (Nat.le_trans (fctR_sz (by omega)) (by omega)) one_sz14 (Nat.le_trans (qsz_mul _ _ (fctR_sz (n := i) (by omega)) (fctR_sz (n := k - 1 - i) (by omega))) (by omega)) (prod_ne _ _) ht).mono ?_
        rintro e w16 ⟨r15, rfl, h15, b16⟩
        replace SQ := SQ.below b16
        replace BX := BX.below b16
        replace ht := ht.below b16
        replace hl := hl.below b16
        replace h10 := h10.below b16
        replace h11 := h11.below b16
        replace h12 := h12.below b16
        replace h13 := h13.below b16
        replace h14 := h14.below b16
        replace XC := XC.below b16
        replace BB := BB.trans (b16.mono BB.size)
        clear b16
        obtain ⟨p8, a8, n8, c8, y8, m8, d8, rfl⟩ := h15.open
        clear h10 h11 h12 h13 h14
        have hRSl : R1 < w16.heap.size := by obtain ⟨p, a, n, c, b, m, d, h, _⟩ := SQ; exact h.lt
        have hZ23 : w.heap.size ≤ w16.heap.size := BB.size
        have hN23XC : bF ≠ w16.heap.size := Nat.ne_of_lt XC.lt
        obtain ⟨W23, hW23, hS23, hL23, VM⟩ := V3.lay w16 35 (.bool p8) (.slice a8 n8 c8) (.slice y8 m8 d8)
        replace SQ := SQ.below hL23
        replace BX := BX.below hL23
        replace ht := ht.below hL23
        replace hl := hl.below hL23
        replace h15 := h15.below hL23
        replace XC := XC.below hL23
        replace BB := BB.trans (hL23.mono BB.size)
        clear hL23
        go_wp2
        rw [← hW23]
        generalize w16.heap.size = R23 at *
        clear hW23 hS23
        obtain ⟨p4, a4, n4, c4, y4, m4, d4, VS, hs⟩ := SQ
        have HPS : Hid (part14 k i + ((fct (k - 1) : Nat) : Rat) * 1 / (((fct i : Nat) : Rat) * ((fct (k - 1 - i) : Nat) : Rat)) * shQ i (k - i - 1) k = part14 k (i + 1)) := part_next hlt
        have hms := many_sz (k := k) (i := i) hk (by omega)
        have hps := part_sz (k := k) (i := i) hk hi
        have hDr : Below W23.heap.size W23 W23.drew := (Below.refl _ _).drew
        replace BX := BX.below hDr
        replace ht := ht.below hDr
        replace hl := hl.below hDr
        replace h15 := h15.below hDr
        replace hs := hs.below hDr
        replace XC := XC.below hDr
        replace VM := VM.below hDr
        replace VS := VS.below hDr
        replace BB := BB.trans (hDr.mono BB.size)
        clear hDr
        refine wp_region_held_drew (S := (fun w' => w'.cell? ⟨bF, oF + i * 3, none⟩ = some (.bool p5) ∧ w'.cell? ⟨bF, oF + i * 3 + 1, none⟩ = some (.slice a5 n5 c5) ∧ w'.cell? ⟨bF, oF + i * 3 + 2, none⟩ = some (.slice y5 m5 d5) ∧ w'.cell? ⟨R23, 0, none⟩ = some (.bool p8) ∧ w'.cell? ⟨R23, 1, none⟩ = some (.slice a8 n8 c8) ∧ w'.cell? ⟨R23, 2, none⟩ = some (.slice y8 m8 d8))) (by kernel_rfl) ?_ (fun hHeld => ?_)
        · exact ⟨XC.1, XC.2.1, XC.2.2, VM.1, VM.2.1, VM.2.2.1⟩
        generalize W23.drew = W24 at *
        refine wpAnyH_take (i := 1) (v := ?_) (by simp only [List.getElem?_toArray, List.getElem?_cons_succ, List.getElem?_cons_zero]; rfl) (by kernel_rfl) (by kernel_rfl) (by kernel_rfl) (by exact fun _ _ _ h => h) (Or.inl ⟨by rfl, ?_⟩) (by assumption) ?_
        rotate_left
        · (intro w hSw; (try dsimp only at hSw); go_simp; (try with_reducible rfl))
        (try simp only [Act.put, List.setIfInBounds_toArray, List.set_cons_zero, List.set_cons_succ])
        refine wpAnyH_take (i := 2) (v := ?_) (by simp only [List.getElem?_toArray, List.getElem?_cons_succ, List.getElem?_cons_zero]; rfl) (by kernel_rfl) (by kernel_rfl) (by kernel_rfl) (by exact fun _ _ _ h => h) (Or.inl ⟨by rfl, ?_⟩) (by assumption) ?_
        rotate_left
        · (intro w hSw; (try dsimp only at hSw); go_simp; (try with_reducible rfl))
        (try simp only [Act.put, List.setIfInBounds_toArray, List.set_cons_zero, List.set_cons_succ])
        refine wpAnyH_take (i := 3) (v := ?_) (by simp only [List.getElem?_toArray, List.getElem?_cons_succ, List.getElem?_cons_zero]; rfl) (by kernel_rfl) (by kernel_rfl) (by kernel_rfl) (by exact fun _ _ _ h => h) (Or.inl ⟨by rfl, ?_⟩) (by assumption) ?_
        rotate_left
        · (intro w hSw; (try dsimp only at hSw); go_simp; (try with_reducible rfl))
        (try simp only [Act.put, List.setIfInBounds_toArray, List.set_cons_zero, List.set_cons_succ])
        refine wpAnyH_take (i := 4) (v := ?_) (by simp only [List.getElem?_toArray, List.getElem?_cons_succ, List.getElem?_cons_zero]; rfl) (by kernel_rfl) (by kernel_rfl) (by kernel_rfl) (by exact fun _ _ _ h => h) (Or.inl ⟨by rfl, ?_⟩) (by assumption) ?_
        rotate_left
        · (intro w hSw; (try dsimp only at hSw); go_simp; (try with_reducible rfl))
        (try simp only [Act.put, List.setIfInBounds_toArray, List.set_cons_zero, List.set_cons_succ])
        refine wpAnyH_take (i := 5) (v := ?_) (by simp only [List.getElem?_toArray, List.getElem?_cons_succ, List.getElem?_cons_zero]; rfl) (by kernel_rfl) (by kernel_rfl) (by kernel_rfl) (by exact fun _ _ _ h => h) (Or.inl ⟨by rfl, ?_⟩) (by assumption) ?_
        rotate_left
        · (intro w hSw; (try dsimp only at hSw); go_simp; (try with_reducible rfl))
        (try simp only [Act.put, List.setIfInBounds_toArray, List.set_cons_zero, List.set_cons_succ])
        refine wpAnyH_ready (rs := [0, 6]) (by kernel_rfl) (by simp) ?_
        refine AllReadyH.cons (by simp only [List.getElem?_toArray, List.getElem?_cons_succ, List.getElem?_cons_zero]; rfl) (fun K hK => ?_) ?_
        ·
          obtain ⟨VS_0, VS_1, VS_2, VS_3, VS_4, VS_5⟩ := id VS
          go_simp
          clear VS_0 VS_1 VS_2 VS_3 VS_4 VS_5
          refine hK.out _ _ ?_ (fun hH1 => ?_)
          · exact ⟨XC.1, XC.2.1, XC.2.2, VM.1, VM.2.1, VM.2.2.1⟩
          clear hK K hHeld
          (try simp only [Act.put, List.setIfInBounds_toArray, List.set_cons_zero, List.set_cons_succ])
          refine wpAnyH_ready (rs := [6]) (by kernel_rfl) (by simp) ?_
          refine AllReadyH.cons (by simp only [List.getElem?_toArray, List.getElem?_cons_succ, List.getElem?_cons_zero]; rfl) (fun K hK => ?_) AllReadyH.nil
          go_simp
          refine (qmul_at _ _ _ _ 60 _ (h15.at 60 hms) (hl.at 60 (Nat.le_trans (shQ_sz (by omega) hk) (by omega))) (by omega) (by omega) ht).mono ?_
          rintro e w17 ⟨r5, rfl, h5, b17⟩
          go_wp2_with fail
          replace BX := BX.below b17
          replace ht := ht.below b17
          replace hl := hl.below b17
          replace h15 := h15.below b17
          replace hs := hs.below b17
          replace XC := XC.below b17
          replace VM := VM.below b17
          replace VS := VS.below b17
          replace BB := BB.trans (b17.mono BB.size)
          clear b17
          refine hK.out _ _ ?_ (fun hH2 => ?_)
          · exact ⟨XC.1, XC.2.1, XC.2.2, VM.1, VM.2.1, VM.2.2.1⟩
          clear hK K hH1
          (try simp only [Act.put, List.setIfInBounds_toArray, List.set_cons_zero, List.set_cons_succ])
          refine wpAnyH_ready (rs := [7]) (by kernel_rfl) (by simp) ?_
          refine AllReadyH.cons (by simp only [List.getElem?_toArray, List.getElem?_cons_succ, List.getElem?_cons_zero]; rfl) (fun K hK => ?_) AllReadyH.nil
          go_simp
          refine (qadd_at _ _ _ _ 100 _ (hs.at 100 (Nat.le_trans hps (by omega))) (h5.at 100 (Nat.le_trans (qsz_mul _ _ hms (shQ_sz (a := i) (c := k - i - 1) (n := k) (by omega) hk)) (by omega))) (by omega) (by omega) ht).mono ?_
          rintro e w18 ⟨r6, rfl, h6, b18⟩
          rw [HPS.out] at h6
          obtain ⟨p6, a6, n6, c6, y6, m6, d6, rfl⟩ := h6.open
          go_wp2_with fail
          replace BX := BX.below b18
          replace ht := ht.below b18
          replace hl := hl.below b18
          replace h15 := h15.below b18
          replace hs := hs.below b18
          replace h5 := h5.below b18
          replace XC := XC.below b18
          replace VM := VM.below b18
          replace VS := VS.below b18
          replace BB := BB.trans (b18.mono BB.size)
          clear b18
          refine hK.out _ _ ?_ (fun hH3 => ?_)
          · exact ⟨XC.1, XC.2.1, XC.2.2, VM.1, VM.2.1, VM.2.2.1⟩
          clear hK K hH2
          (try simp only [Act.put, List.setIfInBounds_toArray, List.set_cons_zero, List.set_cons_succ])
          refine wpAnyH_ready (rs := [8]) (by kernel_rfl) (by simp) ?_
          refine AllReadyH.cons (by simp only [List.getElem?_toArray, List.getElem?_cons_succ, List.getElem?_cons_zero]; rfl) (fun K hK => ?_) AllReadyH.nil
          have hKp := VS.keepJ (.bool p6) (.slice a6 n6 c6) (.slice y6 m6 d6)
          have SQ_n : SmQ14 (((w18.setCell ⟨R1, 0, none⟩ (.bool p6)).setCell ⟨R1, 1, none⟩ (.slice a6 n6 c6)).setCell ⟨R1, 2, none⟩ (.slice y6 m6 d6)) R1 (part14 k (i + 1)) := ⟨_, _, _, _, _, _, _, VS.same (.bool p6) (.slice a6 n6 c6) (.slice y6 m6 d6), h6.keep hKp⟩
          have BX_n := BX.put3 (.bool p6) (.slice a6 n6 c6) (.slice y6 m6 d6)
          have XC_n := XC.other3 hRF (.bool p6) (.slice a6 n6 c6) (.slice y6 m6 d6)
          have VM_n := VM.other3 (R := R1) (by omega) (.bool p6) (.slice a6 n6 c6) (.slice y6 m6 d6)
          have ht_n := ht.keep hKp
          have BB_n := below_store3 (R := R1) BB hRw (.bool p6) (.slice a6 n6 c6) (.slice y6 m6 d6)
          obtain ⟨x0, x1, x2, x3, x4, x5⟩ := id VS
          go_simp
          clear x0 x1 x2 x3 x4 x5 hKp VS BX ht BB hs h5 h6 hl h15 XC VM
          generalize (((w18.setCell ⟨R1, 0, none⟩ (.bool p6)).setCell ⟨R1, 1, none⟩ (.slice a6 n6 c6)).setCell ⟨R1, 2, none⟩ (.slice y6 m6 d6)) = W9 at *
          have SQ := SQ_n
          have BX := BX_n
          have ht := ht_n
          have BB := BB_n
          have XC := XC_n
          have VM := VM_n
          clear SQ_n BX_n ht_n BB_n XC_n VM_n
          refine hK.out _ _ ?_ (fun hH4 => ?_)
          · exact ⟨XC.1, XC.2.1, XC.2.2, VM.1, VM.2.1, VM.2.2.1⟩
          clear hK K hH3
          (try simp only [Act.put, List.setIfInBounds_toArray, List.set_cons_zero, List.set_cons_succ])
          refine wpAnyH_done (by kernel_rfl) ?_ _
          clear hH4
          go_wp2
          go_roundw
          case rel => exact ⟨i + 1, by omega, by go_num, SQ, BX, ht, BB⟩
          case measure => simp [intOf]; omega
        refine AllReadyH.cons (by simp only [List.getElem?_toArray, List.getElem?_cons_succ, List.getElem?_cons_zero]; rfl) (fun K hK => ?_) ?_
        ·
          go_simp
          refine (qmul_at _ _ _ _ 60 _ (h15.at 60 hms) (hl.at 60 (Nat.le_trans (shQ_sz (by omega) hk) (by omega))) (by omega) (by omega) ht).mono ?_
          rintro e w19 ⟨r5, rfl, h5, b19⟩
          go_wp2_with fail
          replace BX := BX.below b19
          replace ht := ht.below b19
          replace hl := hl.below b19
          replace h15 := h15.below b19
          replace hs := hs.below b19
          replace XC := XC.below b19
          replace VM := VM.below b19
          replace VS := VS.below b19
          replace BB := BB.trans (b19.mono BB.size)
          clear b19
          refine hK.out _ _ ?_ (fun hH1 => ?_)
          · exact ⟨XC.1, XC.2.1, XC.2.2, VM.1, VM.2.1, VM.2.2.1⟩
          clear hK K hHeld
          (try simp only [Act.put, List.setIfInBounds_toArray, List.set_cons_zero, List.set_cons_succ])
          refine wpAnyH_ready (rs := [0]) (by kernel_rfl) (by simp) ?_
          refine AllReadyH.cons (by simp only [List.getElem?_toArray, List.getElem?_cons_succ, List.getElem?_cons_zero]; rfl) (fun K hK => ?_) AllReadyH.nil
          obtain ⟨VS_0, VS_1, VS_2, VS_3, VS_4, VS_5⟩ := id VS
          go_simp
          clear VS_0 VS_1 VS_2 VS_3 VS_4 VS_5
          refine hK.out _ _ ?_ (fun hH2 => ?_)
          · exact ⟨XC.1, XC.2.1, XC.2.2, VM.1, VM.2.1, VM.2.2.1⟩
          clear hK K hH1
          (try simp only [Act.put, List.setIfInBounds_toArray, List.set_cons_zero, List.set_cons_succ])
          refine wpAnyH_ready (rs := [7]) (by kernel_rfl) (by simp) ?_
          refine AllReadyH.cons (by simp only [List.getElem?_toArray, List.getElem?_cons_succ, List.getElem?_cons_zero]; rfl) (fun K hK => ?_) AllReadyH.nil
          go_simp
          refine (qadd_at _ _ _ _ 100 _ (hs.at 100 (Nat.le_trans hps (by omega))) (h5.at 100 (Nat.le_trans (qsz_mul _ _ hms (shQ_sz (a := i) (c := k - i - 1) (n := k) (by omega) hk)) (by omega))) (by omega) (by omega) ht).mono ?_
          rintro e w20 ⟨r6, rfl, h6, b20⟩
          rw [HPS.out] at h6
          obtain ⟨p6, a6, n6, c6, y6, m6, d6, rfl⟩ := h6.open
          go_wp2_with fail
          replace BX := BX.below b20
          replace ht := ht.below b20
          replace hl := hl.below b20
          replace h15 := h15.below b20
          replace hs := hs.below b20
          replace h5 := h5.below b20
          replace XC := XC.below b20
          replace VM := VM.below b20
          replace VS := VS.below b20
          replace BB := BB.trans (b20.mono BB.size)
          clear b20
          refine hK.out _ _ ?_ (fun hH3 => ?_)
          · exact ⟨XC.1, XC.2.1, XC.2.2, VM.1, VM.2.1, VM.2.2.1⟩
          clear hK K hH2
          (try simp only [Act.put, List.setIfInBounds_toArray, List.set_cons_zero, List.set_cons_succ])
          refine wpAnyH_ready (rs := [8]) (by kernel_rfl) (by simp) ?_
          refine AllReadyH.cons (by simp only [List.getElem?_toArray, List.getElem?_cons_succ, List.getElem?_cons_zero]; rfl) (fun K hK => ?_) AllReadyH.nil
          have hKp := VS.keepJ (.bool p6) (.slice a6 n6 c6) (.slice y6 m6 d6)
          have SQ_n : SmQ14 (((w20.setCell ⟨R1, 0, none⟩ (.bool p6)).setCell ⟨R1, 1, none⟩ (.slice a6 n6 c6)).setCell ⟨R1, 2, none⟩ (.slice y6 m6 d6)) R1 (part14 k (i + 1)) := ⟨_, _, _, _, _, _, _, VS.same (.bool p6) (.slice a6 n6 c6) (.slice y6 m6 d6), h6.keep hKp⟩
          have BX_n := BX.put3 (.bool p6) (.slice a6 n6 c6) (.slice y6 m6 d6)
          have XC_n := XC.other3 hRF (.bool p6) (.slice a6 n6 c6) (.slice y6 m6 d6)
          have VM_n := VM.other3 (R := R1) (by omega) (.bool p6) (.slice a6 n6 c6) (.slice y6 m6 d6)
          have ht_n := ht.keep hKp
          have BB_n := below_store3 (R := R1) BB hRw (.bool p6) (.slice a6 n6 c6) (.slice y6 m6 d6)
          obtain ⟨x0, x1, x2, x3, x4, x5⟩ := id VS
          go_simp
          clear x0 x1 x2 x3 x4 x5 hKp VS BX ht BB hs h5 h6 hl h15 XC VM
          generalize (((w20.setCell ⟨R1, 0, none⟩ (.bool p6)).setCell ⟨R1, 1, none⟩ (.slice a6 n6 c6)).setCell ⟨R1, 2, none⟩ (.slice y6 m6 d6)) = W9 at *
          have SQ := SQ_n
          have BX := BX_n
          have ht := ht_n
          have BB := BB_n
          have XC := XC_n
          have VM := VM_n
          clear SQ_n BX_n ht_n BB_n XC_n VM_n
          refine hK.out _ _ ?_ (fun hH4 => ?_)
          · exact ⟨XC.1, XC.2.1, XC.2.2, VM.1, VM.2.1, VM.2.2.1⟩
          clear hK K hH3
          (try simp only [Act.put, List.setIfInBounds_toArray, List.set_cons_zero, List.set_cons_succ])
          refine wpAnyH_done (by kernel_rfl) ?_ _
          clear hH4
          go_wp2
          go_roundw
          case rel => exact ⟨i + 1, by omega, by go_num, SQ, BX, ht, BB⟩
          case measure => simp [intOf]; omega
        exact AllReadyH.nil
      · obtain rfl : i = k := by omega
        have c1 : ¬ (i : Int) < (i : Int) := by omega
        obtain ⟨p4, a4, n4, c4, y4, m4, d4, VS, hs⟩ := SQ
        rw [part_all hk1] at hs
        go_wp2
        have hDr : Below wr.heap.size wr wr.drew := (Below.refl _ _).drew
        replace ht := ht.below hDr
        replace hs := hs.below hDr
        replace VS := VS.below hDr
        replace BB := BB.trans (hDr.mono BB.size)
        clear hDr
        refine wp_region_held_drew (S := (fun w' => w'.cell? ⟨R1, 0, none⟩ = some (.bool p4) ∧ w'.cell? ⟨R1, 1, none⟩ = some (.slice a4 n4 c4) ∧ w'.cell? ⟨R1, 2, none⟩ = some (.slice y4 m4 d4))) (by kernel_rfl) ?_ (fun hHeld => ?_)
        · exact ⟨VS.1, VS.2.1, VS.2.2.1⟩
        generalize wr.drew = W21 at *
        refine wpAnyH_take (i := 0) (v := ?_) (by simp only [List.getElem?_toArray, List.getElem?_cons_succ, List.getElem?_cons_zero]; rfl) (by kernel_rfl) (by kernel_rfl) (by kernel_rfl) (by exact fun _ _ _ h => h) (Or.inl ⟨by rfl, ?_⟩) (by assumption) ?_
        rotate_left
        · (intro w hSw; (try dsimp only at hSw); go_simp; (try with_reducible rfl))
        (try simp only [Act.put, List.setIfInBounds_toArray, List.set_cons_zero, List.set_cons_succ])
        refine wpAnyH_ready (rs := [1]) (by kernel_rfl) (by simp) ?_
        refine AllReadyH.cons (by simp only [List.getElem?_toArray, List.getElem?_cons_succ, List.getElem?_cons_zero]; rfl) (fun K hK => ?_) AllReadyH.nil
        go_simp
        refine (qone_at _).mono ?_
        rintro e w6 ⟨r6, rfl, h6, b6⟩
        go_wp2_with fail
        replace ht := ht.below b6
        replace hs := hs.below b6
        replace VS := VS.below b6
        replace BB := BB.trans (b6.mono BB.size)
        clear b6
        refine hK.out _ _ ?_ (fun hH1 => ?_)
        · exact ⟨VS.1, VS.2.1, VS.2.2.1⟩
        clear hK K hHeld
        (try simp only [Act.put, List.setIfInBounds_toArray, List.set_cons_zero, List.set_cons_succ])
        refine wpAnyH_ready (rs := [2]) (by kernel_rfl) (by simp) ?_
        refine AllReadyH.cons (by simp only [List.getElem?_toArray, List.getElem?_cons_succ, List.getElem?_cons_zero]; rfl) (fun K hK => ?_) AllReadyH.nil
        go_simp
        refine (qsame_at _ _ _ _ 10 _ (hs.at 10 (Nat.le_trans one_sz14_ (by omega))) (h6.at 10 (Nat.le_trans one_sz14_ (by omega))) (by omega) (by omega)).mono ?_
        rintro e w7 ⟨rfl, b7⟩
        rw [decide_eq_true rfl]
        go_wp2_with fail
        replace ht := ht.below b7
        replace hs := hs.below b7
        replace h6 := h6.below b7
        replace VS := VS.below b7
        replace BB := BB.trans (b7.mono BB.size)
        clear b7
        refine hK.out _ _ ?_ (fun hH2 => ?_)
        · exact ⟨VS.1, VS.2.1, VS.2.2.1⟩
        clear hK K hH1
        (try simp only [Act.put, List.setIfInBounds_toArray, List.set_cons_zero, List.set_cons_succ])
        refine wpAnyH_take (i := 3) (v := ?_) (by simp only [List.getElem?_toArray, List.getElem?_cons_succ, List.getElem?_cons_zero]; rfl) (by kernel_rfl) (by kernel_rfl) (by kernel_rfl) (by exact fun _ _ _ h => h) (Or.inl ⟨by rfl, ?_⟩) (by assumption) ?_
        rotate_left
        · (intro w hSw; (try dsimp only at hSw); go_simp; (try with_reducible rfl))
        (try simp only [Act.put, List.setIfInBounds_toArray, List.set_cons_zero, List.set_cons_succ])
        refine wpAnyH_ready (rs := [4]) (by kernel_rfl) (by simp) ?_
        refine AllReadyH.cons (by simp only [List.getElem?_toArray, List.getElem?_cons_succ, List.getElem?_cons_zero]; rfl) (fun K hK => ?_) AllReadyH.nil
        go_simp
        refine (awake14_at _ ht).mono ?_
        rintro e w8 ⟨rfl, b8⟩
        go_wp2_with fail
        replace ht := ht.below b8
        replace hs := hs.below b8
        replace h6 := h6.below b8
        replace VS := VS.below b8
        replace BB := BB.trans (b8.mono BB.size)
        clear b8
        refine hK.out _ _ ?_ (fun hH3 => ?_)
        · exact ⟨VS.1, VS.2.1, VS.2.2.1⟩
        clear hK K hH2
        (try simp only [Act.put, List.setIfInBounds_toArray, List.set_cons_zero, List.set_cons_succ])
        refine wpAnyH_take (i := 5) (v := ?_) (by simp only [List.getElem?_toArray, List.getElem?_cons_succ, List.getElem?_cons_zero]; rfl) (by kernel_rfl) (by kernel_rfl) (by kernel_rfl) (by exact fun _ _ _ h => h) (Or.inl ⟨by rfl, ?_⟩) (by assumption) ?_
        rotate_left
        · (intro w hSw; (try dsimp only at hSw); go_simp; (try with_reducible rfl))
        (try simp only [Act.put, List.setIfInBounds_toArray, List.set_cons_zero, List.set_cons_succ])
        refine wpAnyH_take (i := 6) (v := ?_) (by simp only [List.getElem?_toArray, List.getElem?_cons_succ, List.getElem?_cons_zero]; rfl) (by kernel_rfl) (by kernel_rfl) (by kernel_rfl) (by exact fun _ _ _ h => h) (Or.inl ⟨by rfl, ?_⟩) (by assumption) ?_
        rotate_left
        · (intro w hSw; (try dsimp only at hSw); go_simp; (try with_reducible rfl))
        (try simp only [Act.put, List.setIfInBounds_toArray, List.set_cons_zero, List.set_cons_succ])
        refine wpAnyH_done (by kernel_rfl) ?_ _
        clear hH3
        go_wp2
        go_ret
        exact ⟨rfl, BB⟩
  · by_cases hA : n < 1
    · have HC : Hid (n < 1 ∨ 64 < n) := by show _ ∨ _; omega
      have g1 : n < 1 := hA
      have q1 : decide (n < 1) = true := decide_eq_true g1
      clear hA hc hn2
      have BB : Below w.heap.size w w := Below.refl _ _
      go_enter Tryz.func7, Tryz.ntmps7
      go_wp2_with fail
      refine (new_at _).mono ?_
      rintro e w1 ⟨rfl, hsz, HN, b1⟩
      replace ht := ht.below b1
      replace BB := BB.trans (b1.mono BB.size)
      clear b1
      obtain ⟨b, hb⟩ : ∃ b, b = w.heap.size := ⟨_, rfl⟩
      have hbw : w.heap.size ≤ b := by omega
      rw [← hb] at HN
      have HT : WT w1 b false := HN
      rw [← hb]
      clear HN hb hsz
      go_wp2_with fail
      refine (tall_no b n _ HC.out).mono ?_
      rintro e wx ⟨rfl, hwx⟩
      replace hwx := hwx.symm
      subst hwx
      clear HT
      go_wp2_with fail
      refine (awake14_at _ ht).mono ?_
      rintro e w2 ⟨rfl, b2⟩
      replace ht := ht.below b2
      replace BB := BB.trans (b2.mono BB.size)
      clear b2
      go_wp2
      go_ret
      exact ⟨rfl, BB⟩
    · have HC : Hid (n < 1 ∨ 64 < n) := by show _ ∨ _; omega
      have g1 : ¬ n < 1 := hA
      have g2 : 64 < n := by omega
      have q1 : decide (n < 1) = false := decide_eq_false g1
      have q2 : decide (64 < n) = true := decide_eq_true g2
      clear hA hc hn2
      have BB : Below w.heap.size w w := Below.refl _ _
      go_enter Tryz.func7, Tryz.ntmps7
      go_wp2_with fail
      refine (new_at _).mono ?_
      rintro e w1 ⟨rfl, hsz, HN, b1⟩
      replace ht := ht.below b1
      replace BB := BB.trans (b1.mono BB.size)
      clear b1
      obtain ⟨b, hb⟩ : ∃ b, b = w.heap.size := ⟨_, rfl⟩
      have hbw : w.heap.size ≤ b := by omega
      rw [← hb] at HN
      have HT : WT w1 b false := HN
      rw [← hb]
      clear HN hb hsz
      go_wp2_with fail
      refine (tall_no b n _ HC.out).mono ?_
      rintro e wx ⟨rfl, hwx⟩
      replace hwx := hwx.symm
      subst hwx
      clear HT
      go_wp2_with fail
      refine (awake14_at _ ht).mono ?_
      rintro e w2 ⟨rfl, b2⟩
      replace ht := ht.below b2
      replace BB := BB.trans (b2.mono BB.size)
      clear b2
      go_wp2
      go_ret
      exact ⟨rfl, BB⟩
theorem own : ownKnob Tryz.prog.godebug = none := by kernel_rfl

abbrev laid1 : List (String × DataW Unit) := [("math/bits.deBruijn64tab", Rows.laid_math_bits_deBruijn64tab)]
theorem gTab : Tryz.prog.globalNamed "math/bits.deBruijn64tab" = some 0 := by kernel_rfl
theorem gTabType : (Tryz.prog.globals[0]?).map (·.type) = some 129 := by kernel_rfl
theorem uTab : Tryz.prog.underlying 129 = some (.array 64 5) := by kernel_rfl
theorem uCell : Tryz.prog.underlying 5 = some (.int .u8) := by kernel_rfl
theorem cCell : Tryz.prog.cellsOf 5 = 1 := by kernel_rfl
theorem cTab : Tryz.prog.cellsOf 129 = 64 := by kernel_rfl
/-- The listed table lies in its cells. -/
theorem tab_of {W : World} (h : laidMetH Tryz.prog laid1 W) : Tab W := by
  rw [MakeChecks.laidMetH_plain _ _ _ (by kernel_rfl)] at h
  have hd : laid1 = [("math/bits.deBruijn64tab", Lib.tabData .u8 (Lib.deBruijn64tab.map fun (n : Nat) => Int.ofNat n))] := rfl
  rw [hd] at h
  have hT := Lib.tabIs_of_head gTab gTabType uTab uCell cCell cTab h
  intro i hi
  have hc := hT.cell gTab i (by rw [List.length_map]; exact hi)
  rw [hc]
  congr 2
  rw [List.getD_eq_getElem?_getD, List.getElem?_map, List.getD_eq_getElem?_getD]
  cases Lib.deBruijn64tab[i]? <;> rfl
/-- A start for the witness: the heap that the run of the program's own initialisers leaves. -/
noncomputable def startW (os : Os) : World := { World.holding Tryz.prog os ⟨#[], #[], []⟩ with heap := (varsWorld Tryz.prog 400 (varsId Tryz.prog) os (fun _ _ => 0)).heap }
theorem start_met (os : Os) (args : Array Value) : laidMetH Tryz.prog laid1 ((startW os).forCall (fun _ _ => 0) ⟨#[], args, []⟩).memory :=
  laidMetH_of_parts3 (fuel := 8) (laidMet_of_run' 8 (by kernel_rfl) (by kernel_rfl)) (by kernel_rfl) (by kernel_rfl)

set_option maxRecDepth 100000 in
theorem lifted (os : Os) (started : os.Started) (H : Type) (enc : TypeId × Value → H) :
    ReturnsInHanded {} Tryz.checked os 7 .any (fun w args => (Rows.weighAllSpec.pre enc Tryz.prog Tryz.f7 [] false w args ∧ laidMetH Tryz.prog laid1 w) ∧ sizedMet enc Tryz.prog Tryz.f7 (OpenSpec.ofChange Rows.weighAllSpec) false w args) (Rows.weighAllSpec.post enc Tryz.prog Tryz.f7 false true false false) := by
  refine returnsInHanded_of_change_and (C := Tryz.checked) (X := fun w _ => laidMetH Tryz.prog laid1 w) (fun _ _ _ hh h => h.of_heap hh) own started (by kernel_rfl) Tryz.func7
    (ChangeSpec.witness_shaped (enc := enc) (C := Tryz.checked) (os := os) (X := fun w _ => laidMetH Tryz.prog laid1 w) false (startW os) #[.int .i64 0] 8 rfl (World.shaped_of_RefB (by kernel_rfl) (by kernel_rfl)) (by kernel_rfl) (by kernel_rfl) (by kernel_rfl) (start_met os _)) ?_
  intro W base args ds gs before hval0 hW _ _ hL _
  have hval : ∀ (j : Nat) t v, Tryz.f7.params[j]? = some t → args[j]? = some v → Value.okWide Tryz.prog W .any base t v := hval0
  have hW' := hW
  obtain ⟨p, q, hA0, hV, rfl, hfz, hnd⟩ := hW
  have hA : DataW.TrodAll enc Tryz.prog W 0 (fun _ => true) true Tryz.f7.params.toList args.toList ds p := hA0
  rw [Tryz.params7] at hA hval
  obtain ⟨v0, vs0, d0, ds0, p0, q0, hargs, rfl, rfl, h0, r0⟩ := trodAll_cons hA
  obtain ⟨rfl, rfl, rfl⟩ := trodAll_nil r0
  obtain rfl : args = #[v0] := by cases args; simp_all
  obtain ⟨rfl, rfl⟩ := trodVars_none hV
  obtain ⟨a0, rfl, rfl, rfl, w0⟩ := open_int Tryz.underlying3 (hval 0 3 v0 rfl rfl) h0
  clear hA0 hval0
  refine (walk a0 W w0 (tab_of hL)).mono fun e W' ⟨he, bel⟩ => ?_
  subst he
  exact ⟨_, rfl, _, _, _, [], _, [], hW', trodAll_mk1 (shut_bool Tryz.underlying4 _), (trodAll_cons_mk (shut_int Tryz.underlying3 w0) trodAll_mk0), rfl, bel.frame _, fun h => by cases h⟩

theorem over : Rows.weighAllRow.holds Tryz.pinned (OpenSpec.ofChange Rows.weighAllSpec) :=
  OpenClaim.holds_of_wide 7 Tryz.f7 rfl rfl rfl rfl rfl rfl rfl ⟨rfl, rfl, rfl, rfl, rfl⟩ rfl rfl rfl rfl rfl (by kernel_rfl) Tryz.func7 (by kernel_rfl)
    (of_decide_eq_true (by kernel_rfl)) (by unfold Func.isWrapper; first | (rw [if_pos (by decide +kernel)]; kernel_rfl) | (rw [if_neg (by decide +kernel)]; exact ⟨rfl, rfl⟩))
    (fun os started H enc _ => lifted os started H enc)

end Go.Proofs.YtfibpckhbgemcaaGreatDoor.weighAll
namespace Go.Proofs.YtfibpckhbgemcaaGreatDoor
/-- The statement: the row, tied to the text of the program. -/
theorem weighAll_holds : Rows.WeighAllCardSaid :=
  Claim7.holds_tied_plain_at .later [] [.data] true (true, "eeffd6bd899e8edb0c7b9ed8e33ff2a95ce20abacf21bee988a273f730e03bab") false
    weighAll.over (fun _ h => by cases h) (by kernel_rfl) (fun _ h => by cases h) weighAll_row_tie rfl ⟨rfl, rfl⟩ (by kernel_rfl) rfl
    (fun f fn hf hfn => by
      obtain rfl : f = 7 := Option.some.inj ((show Tryz.prog.funcNamed "dendron/dendronlaw14.WeighAll" = some 7 by kernel_rfl).symm.trans hf) |>.symm
      obtain rfl : fn = Tryz.f7 := (Option.some.inj (Tryz.func7.symm.trans hfn)).symm
      exact ⟨by kernel_rfl, fun j t ht => by
        rw [Tryz.params7] at ht
        have hm : t ∈ [3] := by simpa using Array.mem_of_getElem? ht
        have hall : ([3].all fun u => !Tryz.prog.wantsStandIn u) = true := by kernel_rfl
        exact (show Tryz.prog.wantsStandIn t = false by simpa using List.all_eq_true.1 hall t hm)⟩)
    (by kernel_rfl)
end Go.Proofs.YtfibpckhbgemcaaGreatDoor
