/-
  Proves that the first fault that Check tells of any model of up to 6 trees of up to 15 nodes is the document's, and that Ok tells whether there is none, whatever comes in (the statement ValidChecks, its tied card); the table of math/bits lies as the program's text lays it.
-/
import Derived.Test.YtemejonjhpmjpaaDoorRows
import Derived.Test.YtemejonjhpmjpaaDoorJ07a2dd67e2
import Derived.Test.YtemejonjhpmjpaaDoorJ39f522c6b7
import Derived.WalkKit
import Derived.ProofKit
import Derived.OpenShut
import Derived.ShutString
import Derived.ChangeOld
import Derived.Below
import Derived.Test.YtemejonjhpmjpaaDoorTie
import Derived.Test.YtemejonjhpmjpaaDoorCards
import Derived.LaidByTextLater
import Derived.LaidHandle
import Derived.Lib.LaidTab
import Derived.SevenTiedAt
namespace Go.Proofs.YtemejonjhpmjpaaDoor.validChecks
open Go.ChangeShapes Go.WideShapes Go.ChangeAt Go.RowKit
open Go.ChangeMaps (open_string shut_string)
set_option linter.unusedVariables false
set_option linter.unusedSimpArgs false

set_option maxRecDepth 100000 in
set_option maxHeartbeats 8000000 in
theorem walk (F : Int) (ao : Option Addr) (c k : Nat) (N : Nat → Nat) (T : Nat → Nat → Nd) (w : World) (hF : I64 F) (hv : MRaw w (.slice ao k c) k N T 4) (ht : Tab w) :
    Calls Tryd.prog 3 #[.agg #[.int .i64 F, .slice ao k c]] w fun e w' => e = .returned (.bool true) ∧ Below w.heap.size w w' := by
  have hv0 := hv
  have BB : Below w.heap.size w w := Below.refl _ _
  obtain ⟨Wb0, hW0, hS0, hL0, VM⟩ := V2.lay w 24 (.int .i64 F) (.slice ao k c)
  replace ht := ht.below hL0
  replace BB := BB.trans (hL0.mono BB.size)
  clear hL0
  go_enter Tryd.func3, Tryd.ntmps3
  obtain ⟨VM_0, VM_1, VM_2, VM_3⟩ := id VM
  rw [hW0] at VM_0 VM_1 VM_2 VM_3
  go_wp2_with fail
  clear VM_0 VM_1 VM_2 VM_3
  rw [← hW0]
  clear hW0 hS0
  have hv1 := hv.below BB
  have hsz : Hid (w.heap.size < Wb0.heap.size) := VM.lt
  refine (few7_at F _ k N T _ hv1).mono ?_
  rintro e w1 ⟨r, rfl, MO, b1⟩
  replace ht := ht.below b1
  replace VM := VM.below b1
  replace BB := BB.trans (b1.mono BB.size)
  clear b1
  obtain ⟨ar, cr, rfl⟩ := MO.form
  clear hv1
  generalize min k 6 = kk at *
  generalize (fun i => min (N i) 15) = NN at *
  obtain ⟨q1, q2, q3, q4⟩ := id VM
  have K1 : KeepQ IsLimb w1 (w1.setCell ⟨w.heap.size, 0, none⟩ (.int .i64 F)) := keepL_set q1 (limb_int _) _
  have K2 := keepL_set (cell_set_by (u := .int .i64 F) (j := 0) q2 (by omega)) (limb_slice _ _ _) (.slice ar kk cr)
  have MO_n := (MO.set (a := ⟨w.heap.size, 0, none⟩) (by have := hsz.out; exact this) _ K1).set (a := ⟨w.heap.size, 1, none⟩) (by have := hsz.out; exact this) _ K2
  have VM_n := VM.same (.int .i64 F) (.slice ar kk cr)
  have ht_n := (ht.keepL K1).keepL K2
  have BB_n := below_store2 (R := w.heap.size) BB (Nat.le_refl _) (.int .i64 F) (.slice ar kk cr)
  obtain ⟨z1, z2, z3, z4⟩ := id VM_n
  go_wp2_with fail
  clear q1 q2 q3 q4 z1 z2 z3 z4 K1 K2 MO VM ht BB
  generalize (w1.setCell ⟨w.heap.size, 0, none⟩ (.int .i64 F)).setCell ⟨w.heap.size, 1, none⟩ (.slice ar kk cr) = W3 at *
  have VM := VM_n
  have ht := ht_n
  have BB := BB_n
  have MR := MO_n.row
  clear VM_n ht_n BB_n MO_n
  refine (check_at F _ kk NN T 4 _ MR ht (by omega) (by omega)).mono ?_
  rintro e w2 ⟨u, rfl, HC, b2⟩
  replace ht := ht.below b2
  replace MR := MR.below b2
  replace VM := VM.below b2
  replace BB := BB.trans (b2.mono BB.size)
  clear b2
  have HCC : Hid (ChkOut F kk NN T u) := HC
  obtain ⟨a, s, d, rfl, hz⟩ := HC.open
  clear HC
  obtain ⟨W5, hW5, hS5, hL5, VF⟩ := V4.lay w2 28 (.int .i64 a) (.int .i64 0) (.int .i64 s) (.int .i64 d)
  obtain ⟨⟨y1, y2, y3, y4, y5, y6⟩, y7, y8⟩ := id VF
  rw [hW5] at y1 y2 y3 y4 y5 y6 y7 y8
  go_wp2_with fail
  clear y1 y2 y3 y4 y5 y6 y7 y8
  rw [← hW5]
  clear hW5 hS5
  replace ht := ht.below hL5
  replace MR := MR.below hL5
  replace VM := VM.below hL5
  replace BB := BB.trans (hL5.mono BB.size)
  clear hL5
  generalize w2.heap.size = R5 at *
  by_cases ha : a = 0
  · obtain ⟨rfl, rfl⟩ := hz ha
    subst ha
    have hDr : Below W5.heap.size W5 W5.drew := (Below.refl _ _).drew
    replace ht := ht.below hDr
    replace MR := MR.below hDr
    replace VF := VF.below hDr
    replace VM := VM.below hDr
    replace BB := BB.trans (hDr.mono BB.size)
    clear hDr
    refine wp_region_held_drew (S := (fun w' => w'.cell? ⟨w.heap.size, 0, none⟩ = some (.int .i64 F) ∧ w'.cell? ⟨w.heap.size, 1, none⟩ = some (.slice ar kk cr) ∧ w'.cell? ⟨R5, 0, none⟩ = some (.int .i64 0) ∧ w'.cell? ⟨R5, 1, none⟩ = some (.int .i64 0) ∧ w'.cell? ⟨R5, 2, none⟩ = some (.int .i64 0) ∧ w'.cell? ⟨R5, 3, none⟩ = some (.int .i64 0))) (by kernel_rfl) ?_ (fun hHeld => ?_)
    · exact ⟨VM.1, VM.2.1, VF.1.1, VF.1.2.1, VF.1.2.2.1, VF.2.1⟩
    generalize W5.drew = W1 at *
    refine wpAnyH_take (i := 0) (v := ?_) (by simp only [List.getElem?_toArray, List.getElem?_cons_succ, List.getElem?_cons_zero]; rfl) (by kernel_rfl) (by kernel_rfl) (by kernel_rfl) (by exact fun _ _ _ h => h) (Or.inl ⟨by rfl, ?_⟩) (by assumption) ?_
    rotate_left
    · (intro w hSw; (try dsimp only at hSw); go_simp; (try with_reducible rfl))
    (try simp only [Act.put, List.setIfInBounds_toArray, List.set_cons_zero, List.set_cons_succ])
    refine wpAnyH_take (i := 1) (v := ?_) (by simp only [List.getElem?_toArray, List.getElem?_cons_succ, List.getElem?_cons_zero]; rfl) (by kernel_rfl) (by kernel_rfl) (by kernel_rfl) (by exact fun _ _ _ h => h) (Or.inl ⟨by rfl, ?_⟩) (by assumption) ?_
    rotate_left
    · (intro w hSw; (try dsimp only at hSw); go_simp; (try with_reducible rfl))
    (try simp only [Act.put, List.setIfInBounds_toArray, List.set_cons_zero, List.set_cons_succ])
    refine wpAnyH_ready (rs := [2]) (by kernel_rfl) (by simp) ?_
    refine AllReadyH.cons (by simp only [List.getElem?_toArray, List.getElem?_cons_succ, List.getElem?_cons_zero]; rfl) (fun K hK => ?_) AllReadyH.nil
    go_simp
    refine (lcheck_at F _ kk NN T 4 _ MR ht (by omega) (by omega)).mono ?_
    rintro e w3 ⟨u2, rfl, HC2, b3⟩
    obtain rfl := HC2.one HCC.out
    clear HC2
    go_wp2_with fail
    replace ht := ht.below b3
    replace MR := MR.below b3
    replace VF := VF.below b3
    replace VM := VM.below b3
    replace BB := BB.trans (b3.mono BB.size)
    clear b3
    refine hK.out _ _ ?_ (fun hH1 => ?_)
    · exact ⟨VM.1, VM.2.1, VF.1.1, VF.1.2.1, VF.1.2.2.1, VF.2.1⟩
    clear hK K hHeld
    (try simp only [Act.put, List.setIfInBounds_toArray, List.set_cons_zero, List.set_cons_succ])
    refine wpAnyH_take (i := 3) (v := ?_) (by simp only [List.getElem?_toArray, List.getElem?_cons_succ, List.getElem?_cons_zero]; rfl) (by kernel_rfl) (by kernel_rfl) (by kernel_rfl) (by exact fun _ _ _ h => h) (Or.inl ⟨by rfl, ?_⟩) (by assumption) ?_
    rotate_left
    · (intro w hSw; (try dsimp only at hSw); go_simp; (try with_reducible rfl))
    (try simp only [Act.put, List.setIfInBounds_toArray, List.set_cons_zero, List.set_cons_succ])
    refine wpAnyH_take (i := 4) (v := ?_) (by simp only [List.getElem?_toArray, List.getElem?_cons_succ, List.getElem?_cons_zero]; rfl) (by kernel_rfl) (by kernel_rfl) (by kernel_rfl) (by exact fun _ _ _ h => h) (Or.inl ⟨by rfl, ?_⟩) (by assumption) ?_
    rotate_left
    · (intro w hSw; (try dsimp only at hSw); go_simp; (try with_reducible rfl))
    (try simp only [Act.put, List.setIfInBounds_toArray, List.set_cons_zero, List.set_cons_succ])
    refine wpAnyH_take (i := 5) (v := ?_) (by simp only [List.getElem?_toArray, List.getElem?_cons_succ, List.getElem?_cons_zero]; rfl) (by kernel_rfl) (by kernel_rfl) (by kernel_rfl) (by exact fun _ _ _ h => h) (Or.inl ⟨by rfl, ?_⟩) (by assumption) ?_
    rotate_left
    · (intro w hSw; (try dsimp only at hSw); go_simp; (try with_reducible rfl))
    (try simp only [Act.put, List.setIfInBounds_toArray, List.set_cons_zero, List.set_cons_succ])
    refine wpAnyH_take (i := 7) (v := ?_) (by simp only [List.getElem?_toArray, List.getElem?_cons_succ, List.getElem?_cons_zero]; rfl) (by kernel_rfl) (by kernel_rfl) (by kernel_rfl) (by exact fun _ _ _ h => h) (Or.inl ⟨by rfl, ?_⟩) (by assumption) ?_
    rotate_left
    · (intro w hSw; (try dsimp only at hSw); go_simp; (try with_reducible rfl))
    (try simp only [Act.put, List.setIfInBounds_toArray, List.set_cons_zero, List.set_cons_succ])
    refine wpAnyH_take (i := 8) (v := ?_) (by simp only [List.getElem?_toArray, List.getElem?_cons_succ, List.getElem?_cons_zero]; rfl) (by kernel_rfl) (by kernel_rfl) (by kernel_rfl) (by exact fun _ _ _ h => h) (Or.inl ⟨by rfl, ?_⟩) (by assumption) ?_
    rotate_left
    · (intro w hSw; (try dsimp only at hSw); go_simp; (try with_reducible rfl))
    (try simp only [Act.put, List.setIfInBounds_toArray, List.set_cons_zero, List.set_cons_succ])
    refine wpAnyH_take (i := 9) (v := ?_) (by simp only [List.getElem?_toArray, List.getElem?_cons_succ, List.getElem?_cons_zero]; rfl) (by kernel_rfl) (by kernel_rfl) (by kernel_rfl) (by exact fun _ _ _ h => h) (Or.inl ⟨by rfl, ?_⟩) (by assumption) ?_
    rotate_left
    · (intro w hSw; (try dsimp only at hSw); go_simp; (try with_reducible rfl))
    (try simp only [Act.put, List.setIfInBounds_toArray, List.set_cons_zero, List.set_cons_succ])
    refine wpAnyH_ready (rs := [6]) (by kernel_rfl) (by simp) ?_
    refine AllReadyH.cons (by simp only [List.getElem?_toArray, List.getElem?_cons_succ, List.getElem?_cons_zero]; rfl) (fun K hK => ?_) AllReadyH.nil
    go_simp
    refine (ok_at F _ kk NN T 4 _ MR ht (by omega) (by omega)).mono ?_
    rintro e w4 ⟨a3, s3, d3, rfl, HC3, b4⟩
    have he3 := HC3.one HCC.out
    injection he3 with he3
    simp only [Array.mk.injEq, List.cons.injEq, Value.int.injEq] at he3
    have ha3 : a3 = 0 := he3.1.2
    clear he3 HC3
    subst ha3
    go_wp2_with fail
    replace ht := ht.below b4
    replace MR := MR.below b4
    replace VF := VF.below b4
    replace VM := VM.below b4
    replace BB := BB.trans (b4.mono BB.size)
    clear b4
    refine hK.out _ _ ?_ (fun hH2 => ?_)
    · exact ⟨VM.1, VM.2.1, VF.1.1, VF.1.2.1, VF.1.2.2.1, VF.2.1⟩
    clear hK K hH1
    (try simp only [Act.put, List.setIfInBounds_toArray, List.set_cons_zero, List.set_cons_succ])
    refine wpAnyH_take (i := 10) (v := ?_) (by simp only [List.getElem?_toArray, List.getElem?_cons_succ, List.getElem?_cons_zero]; rfl) (by kernel_rfl) (by kernel_rfl) (by kernel_rfl) (by exact fun _ _ _ h => h) (Or.inl ⟨by rfl, ?_⟩) (by assumption) ?_
    rotate_left
    · (intro w hSw; (try dsimp only at hSw); go_simp; (try with_reducible rfl))
    (try simp only [Act.put, List.setIfInBounds_toArray, List.set_cons_zero, List.set_cons_succ])
    refine wpAnyH_take (i := 11) (v := ?_) (by simp only [List.getElem?_toArray, List.getElem?_cons_succ, List.getElem?_cons_zero]; rfl) (by kernel_rfl) (by kernel_rfl) (by kernel_rfl) (by exact fun _ _ _ h => h) (Or.inl ⟨by rfl, ?_⟩) (by assumption) ?_
    rotate_left
    · (intro w hSw; (try dsimp only at hSw); go_simp; (try with_reducible rfl))
    (try simp only [Act.put, List.setIfInBounds_toArray, List.set_cons_zero, List.set_cons_succ])
    refine wpAnyH_take (i := 12) (v := ?_) (by simp only [List.getElem?_toArray, List.getElem?_cons_succ, List.getElem?_cons_zero]; rfl) (by kernel_rfl) (by kernel_rfl) (by kernel_rfl) (by exact fun _ _ _ h => h) (Or.inl ⟨by rfl, ?_⟩) (by assumption) ?_
    rotate_left
    · (intro w hSw; (try dsimp only at hSw); go_simp; (try with_reducible rfl))
    (try simp only [Act.put, List.setIfInBounds_toArray, List.set_cons_zero, List.set_cons_succ])
    refine wpAnyH_ready (rs := [13]) (by kernel_rfl) (by simp) ?_
    refine AllReadyH.cons (by simp only [List.getElem?_toArray, List.getElem?_cons_succ, List.getElem?_cons_zero]; rfl) (fun K hK => ?_) AllReadyH.nil
    go_simp
    refine (awake8_at _ ht).mono ?_
    rintro e w5 ⟨rfl, b5⟩
    go_wp2_with fail
    replace ht := ht.below b5
    replace MR := MR.below b5
    replace VF := VF.below b5
    replace VM := VM.below b5
    replace BB := BB.trans (b5.mono BB.size)
    clear b5
    refine hK.out _ _ ?_ (fun hH3 => ?_)
    · exact ⟨VM.1, VM.2.1, VF.1.1, VF.1.2.1, VF.1.2.2.1, VF.2.1⟩
    clear hK K hH2
    (try simp only [Act.put, List.setIfInBounds_toArray, List.set_cons_zero, List.set_cons_succ])
    refine wpAnyH_take (i := 14) (v := ?_) (by simp only [List.getElem?_toArray, List.getElem?_cons_succ, List.getElem?_cons_zero]; rfl) (by kernel_rfl) (by kernel_rfl) (by kernel_rfl) (by exact fun _ _ _ h => h) (Or.inl ⟨by rfl, ?_⟩) (by assumption) ?_
    rotate_left
    · (intro w hSw; (try dsimp only at hSw); go_simp; (try with_reducible rfl))
    (try simp only [Act.put, List.setIfInBounds_toArray, List.set_cons_zero, List.set_cons_succ])
    refine wpAnyH_take (i := 15) (v := ?_) (by simp only [List.getElem?_toArray, List.getElem?_cons_succ, List.getElem?_cons_zero]; rfl) (by kernel_rfl) (by kernel_rfl) (by kernel_rfl) (by exact fun _ _ _ h => h) (Or.inl ⟨by rfl, ?_⟩) (by assumption) ?_
    rotate_left
    · (intro w hSw; (try dsimp only at hSw); go_simp; (try with_reducible rfl))
    (try simp only [Act.put, List.setIfInBounds_toArray, List.set_cons_zero, List.set_cons_succ])
    refine wpAnyH_done (by kernel_rfl) ?_ _
    clear hH3
    go_wp2
    go_ret
    exact ⟨rfl, BB⟩
  · have hab : (a == 0) = false := by simp [ha]
    have had : decide (a = 0) = false := decide_eq_false ha
    have HA : Hid (¬ a = 0) := ha
    clear hz ha
    have hDr : Below W5.heap.size W5 W5.drew := (Below.refl _ _).drew
    replace ht := ht.below hDr
    replace MR := MR.below hDr
    replace VF := VF.below hDr
    replace VM := VM.below hDr
    replace BB := BB.trans (hDr.mono BB.size)
    clear hDr
    refine wp_region_held_drew (S := (fun w' => w'.cell? ⟨w.heap.size, 0, none⟩ = some (.int .i64 F) ∧ w'.cell? ⟨w.heap.size, 1, none⟩ = some (.slice ar kk cr) ∧ w'.cell? ⟨R5, 0, none⟩ = some (.int .i64 a) ∧ w'.cell? ⟨R5, 1, none⟩ = some (.int .i64 0) ∧ w'.cell? ⟨R5, 2, none⟩ = some (.int .i64 s) ∧ w'.cell? ⟨R5, 3, none⟩ = some (.int .i64 d))) (by kernel_rfl) ?_ (fun hHeld => ?_)
    · exact ⟨VM.1, VM.2.1, VF.1.1, VF.1.2.1, VF.1.2.2.1, VF.2.1⟩
    generalize W5.drew = W1 at *
    refine wpAnyH_take (i := 0) (v := ?_) (by simp only [List.getElem?_toArray, List.getElem?_cons_succ, List.getElem?_cons_zero]; rfl) (by kernel_rfl) (by kernel_rfl) (by kernel_rfl) (by exact fun _ _ _ h => h) (Or.inl ⟨by rfl, ?_⟩) (by assumption) ?_
    rotate_left
    · (intro w hSw; (try dsimp only at hSw); go_simp; (try with_reducible rfl))
    (try simp only [Act.put, List.setIfInBounds_toArray, List.set_cons_zero, List.set_cons_succ])
    refine wpAnyH_take (i := 1) (v := ?_) (by simp only [List.getElem?_toArray, List.getElem?_cons_succ, List.getElem?_cons_zero]; rfl) (by kernel_rfl) (by kernel_rfl) (by kernel_rfl) (by exact fun _ _ _ h => h) (Or.inl ⟨by rfl, ?_⟩) (by assumption) ?_
    rotate_left
    · (intro w hSw; (try dsimp only at hSw); go_simp; (try with_reducible rfl))
    (try simp only [Act.put, List.setIfInBounds_toArray, List.set_cons_zero, List.set_cons_succ])
    refine wpAnyH_ready (rs := [2]) (by kernel_rfl) (by simp) ?_
    refine AllReadyH.cons (by simp only [List.getElem?_toArray, List.getElem?_cons_succ, List.getElem?_cons_zero]; rfl) (fun K hK => ?_) AllReadyH.nil
    go_simp
    refine (lcheck_at F _ kk NN T 4 _ MR ht (by omega) (by omega)).mono ?_
    rintro e w3 ⟨u2, rfl, HC2, b3⟩
    obtain rfl := HC2.one HCC.out
    clear HC2
    go_wp2_with fail
    replace ht := ht.below b3
    replace MR := MR.below b3
    replace VF := VF.below b3
    replace VM := VM.below b3
    replace BB := BB.trans (b3.mono BB.size)
    clear b3
    refine hK.out _ _ ?_ (fun hH1 => ?_)
    · exact ⟨VM.1, VM.2.1, VF.1.1, VF.1.2.1, VF.1.2.2.1, VF.2.1⟩
    clear hK K hHeld
    (try simp only [Act.put, List.setIfInBounds_toArray, List.set_cons_zero, List.set_cons_succ])
    refine wpAnyH_take (i := 3) (v := ?_) (by simp only [List.getElem?_toArray, List.getElem?_cons_succ, List.getElem?_cons_zero]; rfl) (by kernel_rfl) (by kernel_rfl) (by kernel_rfl) (by exact fun _ _ _ h => h) (Or.inl ⟨by rfl, ?_⟩) (by assumption) ?_
    rotate_left
    · (intro w hSw; (try dsimp only at hSw); go_simp; (try with_reducible rfl))
    (try simp only [Act.put, List.setIfInBounds_toArray, List.set_cons_zero, List.set_cons_succ])
    refine wpAnyH_take (i := 4) (v := ?_) (by simp only [List.getElem?_toArray, List.getElem?_cons_succ, List.getElem?_cons_zero]; rfl) (by kernel_rfl) (by kernel_rfl) (by kernel_rfl) (by exact fun _ _ _ h => h) (Or.inl ⟨by rfl, ?_⟩) (by assumption) ?_
    rotate_left
    · (intro w hSw; (try dsimp only at hSw); go_simp; (try with_reducible rfl))
    (try simp only [Act.put, List.setIfInBounds_toArray, List.set_cons_zero, List.set_cons_succ])
    refine wpAnyH_take (i := 5) (v := ?_) (by simp only [List.getElem?_toArray, List.getElem?_cons_succ, List.getElem?_cons_zero]; rfl) (by kernel_rfl) (by kernel_rfl) (by kernel_rfl) (by exact fun _ _ _ h => h) (Or.inl ⟨by rfl, ?_⟩) (by assumption) ?_
    rotate_left
    · (intro w hSw; (try dsimp only at hSw); go_simp; (try with_reducible rfl))
    (try simp only [Act.put, List.setIfInBounds_toArray, List.set_cons_zero, List.set_cons_succ])
    refine wpAnyH_take (i := 7) (v := ?_) (by simp only [List.getElem?_toArray, List.getElem?_cons_succ, List.getElem?_cons_zero]; rfl) (by kernel_rfl) (by kernel_rfl) (by kernel_rfl) (by exact fun _ _ _ h => h) (Or.inl ⟨by rfl, ?_⟩) (by assumption) ?_
    rotate_left
    · (intro w hSw; (try dsimp only at hSw); go_simp; (try with_reducible rfl))
    (try simp only [Act.put, List.setIfInBounds_toArray, List.set_cons_zero, List.set_cons_succ])
    refine wpAnyH_take (i := 8) (v := ?_) (by simp only [List.getElem?_toArray, List.getElem?_cons_succ, List.getElem?_cons_zero]; rfl) (by kernel_rfl) (by kernel_rfl) (by kernel_rfl) (by exact fun _ _ _ h => h) (Or.inl ⟨by rfl, ?_⟩) (by assumption) ?_
    rotate_left
    · (intro w hSw; (try dsimp only at hSw); go_simp; (try with_reducible rfl))
    (try simp only [Act.put, List.setIfInBounds_toArray, List.set_cons_zero, List.set_cons_succ])
    refine wpAnyH_take (i := 9) (v := ?_) (by simp only [List.getElem?_toArray, List.getElem?_cons_succ, List.getElem?_cons_zero]; rfl) (by kernel_rfl) (by kernel_rfl) (by kernel_rfl) (by exact fun _ _ _ h => h) (Or.inl ⟨by rfl, ?_⟩) (by assumption) ?_
    rotate_left
    · (intro w hSw; (try dsimp only at hSw); go_simp; (try with_reducible rfl))
    (try simp only [Act.put, List.setIfInBounds_toArray, List.set_cons_zero, List.set_cons_succ])
    refine wpAnyH_ready (rs := [6]) (by kernel_rfl) (by simp) ?_
    refine AllReadyH.cons (by simp only [List.getElem?_toArray, List.getElem?_cons_succ, List.getElem?_cons_zero]; rfl) (fun K hK => ?_) AllReadyH.nil
    go_simp
    refine (ok_at F _ kk NN T 4 _ MR ht (by omega) (by omega)).mono ?_
    rintro e w4 ⟨a3, s3, d3, rfl, HC3, b4⟩
    have he3 := HC3.one HCC.out
    injection he3 with he3
    simp only [Array.mk.injEq, List.cons.injEq, Value.int.injEq] at he3
    have ha3 : a3 = a := he3.1.2
    clear he3 HC3
    subst ha3
    go_wp2_with fail
    replace ht := ht.below b4
    replace MR := MR.below b4
    replace VF := VF.below b4
    replace VM := VM.below b4
    replace BB := BB.trans (b4.mono BB.size)
    clear b4
    refine hK.out _ _ ?_ (fun hH2 => ?_)
    · exact ⟨VM.1, VM.2.1, VF.1.1, VF.1.2.1, VF.1.2.2.1, VF.2.1⟩
    clear hK K hH1
    (try simp only [Act.put, List.setIfInBounds_toArray, List.set_cons_zero, List.set_cons_succ])
    refine wpAnyH_take (i := 10) (v := ?_) (by simp only [List.getElem?_toArray, List.getElem?_cons_succ, List.getElem?_cons_zero]; rfl) (by kernel_rfl) (by kernel_rfl) (by kernel_rfl) (by exact fun _ _ _ h => h) (Or.inl ⟨by rfl, ?_⟩) (by assumption) ?_
    rotate_left
    · (intro w hSw; (try dsimp only at hSw); go_simp; (try with_reducible rfl))
    (try simp only [Act.put, List.setIfInBounds_toArray, List.set_cons_zero, List.set_cons_succ])
    refine wpAnyH_take (i := 11) (v := ?_) (by simp only [List.getElem?_toArray, List.getElem?_cons_succ, List.getElem?_cons_zero]; rfl) (by kernel_rfl) (by kernel_rfl) (by kernel_rfl) (by exact fun _ _ _ h => h) (Or.inl ⟨by rfl, ?_⟩) (by assumption) ?_
    rotate_left
    · (intro w hSw; (try dsimp only at hSw); go_simp; (try with_reducible rfl))
    (try simp only [Act.put, List.setIfInBounds_toArray, List.set_cons_zero, List.set_cons_succ])
    refine wpAnyH_take (i := 12) (v := ?_) (by simp only [List.getElem?_toArray, List.getElem?_cons_succ, List.getElem?_cons_zero]; rfl) (by kernel_rfl) (by kernel_rfl) (by kernel_rfl) (by exact fun _ _ _ h => h) (Or.inl ⟨by rfl, ?_⟩) (by assumption) ?_
    rotate_left
    · (intro w hSw; (try dsimp only at hSw); go_simp; (try with_reducible rfl))
    (try simp only [Act.put, List.setIfInBounds_toArray, List.set_cons_zero, List.set_cons_succ])
    refine wpAnyH_ready (rs := [13]) (by kernel_rfl) (by simp) ?_
    refine AllReadyH.cons (by simp only [List.getElem?_toArray, List.getElem?_cons_succ, List.getElem?_cons_zero]; rfl) (fun K hK => ?_) AllReadyH.nil
    go_simp
    refine (awake8_at _ ht).mono ?_
    rintro e w5 ⟨rfl, b5⟩
    go_wp2_with fail
    replace ht := ht.below b5
    replace MR := MR.below b5
    replace VF := VF.below b5
    replace VM := VM.below b5
    replace BB := BB.trans (b5.mono BB.size)
    clear b5
    refine hK.out _ _ ?_ (fun hH3 => ?_)
    · exact ⟨VM.1, VM.2.1, VF.1.1, VF.1.2.1, VF.1.2.2.1, VF.2.1⟩
    clear hK K hH2
    (try simp only [Act.put, List.setIfInBounds_toArray, List.set_cons_zero, List.set_cons_succ])
    refine wpAnyH_take (i := 14) (v := ?_) (by simp only [List.getElem?_toArray, List.getElem?_cons_succ, List.getElem?_cons_zero]; rfl) (by kernel_rfl) (by kernel_rfl) (by kernel_rfl) (by exact fun _ _ _ h => h) (Or.inl ⟨by rfl, ?_⟩) (by assumption) ?_
    rotate_left
    · (intro w hSw; (try dsimp only at hSw); go_simp; (try with_reducible rfl))
    (try simp only [Act.put, List.setIfInBounds_toArray, List.set_cons_zero, List.set_cons_succ])
    refine wpAnyH_take (i := 15) (v := ?_) (by simp only [List.getElem?_toArray, List.getElem?_cons_succ, List.getElem?_cons_zero]; rfl) (by kernel_rfl) (by kernel_rfl) (by kernel_rfl) (by exact fun _ _ _ h => h) (Or.inl ⟨by rfl, ?_⟩) (by assumption) ?_
    rotate_left
    · (intro w hSw; (try dsimp only at hSw); go_simp; (try with_reducible rfl))
    (try simp only [Act.put, List.setIfInBounds_toArray, List.set_cons_zero, List.set_cons_succ])
    refine wpAnyH_done (by kernel_rfl) ?_ _
    clear hH3
    go_wp2
    go_ret
    exact ⟨rfl, BB⟩

theorem own : ownKnob Tryd.prog.godebug = none := by kernel_rfl
theorem laidOut : laidOutB Tryd.prog = true := by kernel_rfl

abbrev laid1 : List (String × DataW Unit) := [("math/bits.deBruijn64tab", Rows.laid_math_bits_deBruijn64tab)]
theorem gTab : Tryd.prog.globalNamed "math/bits.deBruijn64tab" = some 0 := by kernel_rfl
theorem gTabType : (Tryd.prog.globals[0]?).map (·.type) = some 116 := by kernel_rfl
theorem uTab : Tryd.prog.underlying 116 = some (.array 64 5) := by kernel_rfl
theorem uCell : Tryd.prog.underlying 5 = some (.int .u8) := by kernel_rfl
theorem cCell : Tryd.prog.cellsOf 5 = 1 := by kernel_rfl
theorem cTab : Tryd.prog.cellsOf 116 = 64 := by kernel_rfl
/-- The listed table lies in its cells. -/
theorem tab_of {W : World} (h : laidMetH Tryd.prog laid1 W) : Tab W := by
  rw [MakeChecks.laidMetH_plain _ _ _ (by kernel_rfl)] at h
  have hd : laid1 = [("math/bits.deBruijn64tab", Lib.tabData .u8 (Lib.deBruijn64tab.map fun (n : Nat) => Int.ofNat n))] := rfl
  rw [hd] at h
  have hT := Lib.tabIs_of_head gTab gTabType uTab uCell cCell cTab h
  intro i hi
  have hc := hT.cell gTab i (by rw [List.length_map]; exact hi)
  rw [hc]
  congr 2
  rw [List.getD_eq_getElem?_getD, List.getElem?_map, List.getD_eq_getElem?_getD]
  cases Lib.deBruijn64tab[i]? <;> rfl
/-- A start for the witness: the heap that the run of the program's own initialisers leaves. -/
noncomputable def startW (os : Os) : World := { World.holding Tryd.prog os ⟨#[], #[], []⟩ with heap := (varsWorld Tryd.prog 400 (varsId Tryd.prog) os (fun _ _ => 0)).heap }
theorem start_met (os : Os) (args : Array Value) : laidMetH Tryd.prog laid1 ((startW os).forCall (fun _ _ => 0) ⟨#[], args, []⟩).memory :=
  laidMetH_of_parts3 (fuel := 8) (laidMet_of_run' 8 (by kernel_rfl) (by kernel_rfl)) (by kernel_rfl) (by kernel_rfl)

set_option maxRecDepth 100000 in
theorem lifted (os : Os) (started : os.Started) (H : Type) (enc : TypeId × Value → H) :
    ReturnsInHanded {} Tryd.checked os 3 .any (fun w args => (Rows.validChecksSpec.pre enc Tryd.prog Tryd.f3 [] false w args ∧ laidMetH Tryd.prog laid1 w) ∧ sizedMet enc Tryd.prog Tryd.f3 (OpenSpec.ofChange Rows.validChecksSpec) false w args) (Rows.validChecksSpec.post enc Tryd.prog Tryd.f3 false true false false) := by
  refine returnsInHanded_of_change_and (C := Tryd.checked) (X := fun w _ => laidMetH Tryd.prog laid1 w) (fun _ _ _ hh h => h.of_heap hh) own started (by kernel_rfl) Tryd.func3
    (ChangeSpec.witness_shaped (enc := enc) (C := Tryd.checked) (os := os) (X := fun w _ => laidMetH Tryd.prog laid1 w) false (startW os) #[.agg #[.int .i64 0, .slice none 0 0]] 8 rfl (World.shaped_of_RefB (by kernel_rfl) (by kernel_rfl)) (by kernel_rfl) (by kernel_rfl) (by kernel_rfl) (start_met os _)) ?_
  intro W base args ds gs before hval0 hW _ _ hL _
  have hval : ∀ (j : Nat) t v, Tryd.f3.params[j]? = some t → args[j]? = some v → Value.okWide Tryd.prog W .any base t v := hval0
  have hW' := hW
  obtain ⟨p, q, hA0, hV, rfl, hfz, hnd⟩ := hW
  have hA : DataW.TrodAll enc Tryd.prog W 0 (fun _ => true) true Tryd.f3.params.toList args.toList ds p := hA0
  rw [Tryd.params3] at hA hval
  obtain ⟨v0, vs0, d0, ds0, p0, q0, hargs, rfl, rfl, h0, r0⟩ := trodAll_cons hA
  obtain ⟨rfl, rfl, rfl⟩ := trodAll_nil r0
  obtain rfl : args = #[v0] := by cases args; simp_all
  obtain ⟨rfl, rfl⟩ := trodVars_none hV
  have k0 := h0
  have lt0 : ∀ x ∈ p0, x.block < W.heap.size := by obtain ⟨m, hm⟩ := k0; exact DataW.trod_lt m _ _ _ hm
  obtain ⟨F0, a0, c0, n0, N0, z0, rfl, f0, w0⟩ := open_model 4 (hval 0 24 v0 rfl rfl) h0
  clear hA0 hval0
  refine (walk _ _ _ _ _ _ W f0 w0 (tab_of hL)).mono fun e W' ⟨he, bel⟩ => ?_
  subst he
  exact ⟨_, rfl, _, _, _, [], _, [], hW', trodAll_mk1 (shut_bool Tryd.underlying4 _), (trodAll_cons_mk (Below.trod laidOut (by kernel_rfl) (of_decide_eq_true (by kernel_rfl)) k0 bel lt0) trodAll_mk0), rfl, bel.frame _, fun h => by cases h⟩

theorem over : Rows.validChecksRow.holds Tryd.pinned (OpenSpec.ofChange Rows.validChecksSpec) :=
  OpenClaim.holds_of_wide 3 Tryd.f3 rfl rfl rfl rfl rfl rfl rfl ⟨rfl, rfl, rfl, rfl, rfl⟩ rfl rfl rfl rfl rfl (by kernel_rfl) Tryd.func3 (by kernel_rfl)
    (of_decide_eq_true (by kernel_rfl)) (by unfold Func.isWrapper; first | (rw [if_pos (by decide +kernel)]; kernel_rfl) | (rw [if_neg (by decide +kernel)]; exact ⟨rfl, rfl⟩))
    (fun os started H enc _ => lifted os started H enc)

end Go.Proofs.YtemejonjhpmjpaaDoor.validChecks
namespace Go.Proofs.YtemejonjhpmjpaaDoor
/-- The statement: the row, tied to the text of the program. -/
theorem validChecks_holds : Rows.ValidChecksCardSaid :=
  Claim7.holds_tied_plain_at .later [] [.data] true (true, "6d15b0acd5729eacff2c34323dd4ac201ca17747e3b230078a203a8320596211") false
    validChecks.over (fun _ h => by cases h) (by kernel_rfl) (fun _ h => by cases h) validChecks_row_tie rfl ⟨rfl, rfl⟩ (by kernel_rfl) rfl
    (fun f fn hf hfn => by
      obtain rfl : f = 3 := Option.some.inj ((show Tryd.prog.funcNamed "dendron/dendronlaw08.ValidChecks" = some 3 by kernel_rfl).symm.trans hf) |>.symm
      obtain rfl : fn = Tryd.f3 := (Option.some.inj (Tryd.func3.symm.trans hfn)).symm
      exact ⟨by kernel_rfl, fun j t ht => by
        rw [Tryd.params3] at ht
        have hm : t ∈ [24] := by simpa using Array.mem_of_getElem? ht
        have hall : ([24].all fun u => !Tryd.prog.wantsStandIn u) = true := by kernel_rfl
        exact (show Tryd.prog.wantsStandIn t = false by simpa using List.all_eq_true.1 hall t hm)⟩)
    (by kernel_rfl)
end Go.Proofs.YtemejonjhpmjpaaDoor
