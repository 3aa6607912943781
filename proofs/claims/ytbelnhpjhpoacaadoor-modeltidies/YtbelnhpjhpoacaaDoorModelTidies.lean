/-
  Proves that Tidy makes any model of up to 6 trees of up to 15 nodes tidy, as the document says, limb by limb, and that what is tidy stays, whatever comes in (the statement ModelTidies, its tied card); the tables of math/bits and of strconv lie as the program's text lays them; no other condition.
-/
import Derived.Test.YtbelnhpjhpoacaaDoorRows
import Derived.Test.YtbelnhpjhpoacaaDoorJ0c5723db7a
import Derived.Test.YtbelnhpjhpoacaaDoorJ29029aab48
import Derived.Test.YtbelnhpjhpoacaaDoorJd275a26200
import Derived.WalkKit
import Derived.ProofKit
import Derived.OpenShut
import Derived.ShutString
import Derived.ChangeOld
import Derived.Below
import Derived.Test.YtbelnhpjhpoacaaDoorTie
import Derived.Test.YtbelnhpjhpoacaaDoorCards
import Derived.LaidByTextLater
import Derived.LaidHandle
import Derived.Lib.LaidTab
import Derived.SevenTiedAt
import Derived.Lay
import Derived.Stop.Joined
import Derived.Stop.LaidErr
namespace Go.Proofs.YtbelnhpjhpoacaaDoor.modelTidies
open Go.ChangeShapes Go.WideShapes Go.ChangeAt Go.RowKit
open Go.ChangeMaps (open_string shut_string)
set_option linter.unusedVariables false
set_option linter.unusedSimpArgs false

set_option maxRecDepth 100000 in
set_option maxHeartbeats 8000000 in
theorem walk (F : Int) (ao : Option Addr) (c k : Nat) (N : Nat → Nat) (T : Nat → Nat → Nd) (w : World) (hF : I64 F) (hv : MRaw w (.slice ao k c) k N T 4) (ht : Tab w) (hp : Pow w) :
    Calls Tryd.prog 3 #[.agg #[.int .i64 F, .slice ao k c]] w fun e w' => e = .returned (.bool true) ∧ Below w.heap.size w w' := by
  have hv0 := hv
  have HP0 : Hid (Pow w) := hp
  have BB : Below w.heap.size w w := Below.refl _ _
  obtain ⟨Wb0, hW0, hS0, hL0, VM⟩ := V2.lay w 24 (.int .i64 F) (.slice ao k c)
  replace ht := ht.below hL0
  replace hp := hp.below hL0
  replace BB := BB.trans (hL0.mono BB.size)
  clear hL0
  go_enter Tryd.func3, Tryd.ntmps3
  obtain ⟨VM_0, VM_1, VM_2, VM_3⟩ := id VM
  rw [hW0] at VM_0 VM_1 VM_2 VM_3
  go_wp2_with fail
  clear VM_0 VM_1 VM_2 VM_3
  rw [← hW0]
  clear hW0 hS0
  have hv1 := hv.below BB
  have hsz : Hid (w.heap.size < Wb0.heap.size) := VM.lt
  refine (few7_at F _ k N T _ hv1).mono ?_
  rintro e w1 ⟨r, rfl, MO, b1⟩
  replace ht := ht.below b1
  replace hp := hp.below b1
  replace VM := VM.below b1
  replace BB := BB.trans (b1.mono BB.size)
  clear b1
  obtain ⟨ar, cr, rfl⟩ := MO.form
  clear hv1
  have hk6 : min k 6 ≤ 6 := by omega
  have HN15 : Hid (∀ i, i < min k 6 → (fun i => min (N i) 15) i ≤ 15) := fun i _ => by show min (N i) 15 ≤ 15; omega
  generalize min k 6 = kk at *
  generalize (fun i => min (N i) 15) = NN at *
  obtain ⟨q1, q2, q3, q4⟩ := id VM
  have K1 : KeepQ IsLimb w1 (w1.setCell ⟨w.heap.size, 0, none⟩ (.int .i64 F)) := keepL_set q1 (limb_int _) _
  have K2 := keepL_set (cell_set_by (u := .int .i64 F) (j := 0) q2 (by omega)) (limb_slice _ _ _) (.slice ar kk cr)
  have MO_n := (MO.set (a := ⟨w.heap.size, 0, none⟩) (by have := hsz.out; exact this) _ K1).set (a := ⟨w.heap.size, 1, none⟩) (by have := hsz.out; exact this) _ K2
  have VM_n := VM.same (.int .i64 F) (.slice ar kk cr)
  have ht_n := (ht.keepL K1).keepL K2
  have hp_n : Pow ((w1.setCell ⟨w.heap.size, 0, none⟩ (.int .i64 F)).setCell ⟨w.heap.size, 1, none⟩ (.slice ar kk cr)) := HP0.out.below (below_store2 (R := w.heap.size) BB (Nat.le_refl _) (.int .i64 F) (.slice ar kk cr))
  have BB_n := below_store2 (R := w.heap.size) BB (Nat.le_refl _) (.int .i64 F) (.slice ar kk cr)
  obtain ⟨z1, z2, z3, z4⟩ := id VM_n
  go_wp2_with fail
  clear q1 q2 q3 q4 z1 z2 z3 z4 K1 K2 MO VM ht hp BB
  generalize (w1.setCell ⟨w.heap.size, 0, none⟩ (.int .i64 F)).setCell ⟨w.heap.size, 1, none⟩ (.slice ar kk cr) = W3 at *
  have VM := VM_n
  have ht := ht_n
  have hp := hp_n
  have BB := BB_n
  have MR := MO_n.row
  clear VM_n ht_n hp_n BB_n MO_n HP0
  have HN1 : Hid (∀ i, i < kk → NN i ≤ 1000) := fun i hi => by have := HN15.out i hi; omega
  refine (tidyM_at F _ kk NN T 4 _ MR (by omega) HN1.out (by omega) (by omega) ht).mono ?_
  rintro e w2 ⟨r1, rfl, TM1, b2⟩
  replace ht := ht.below b2
  replace hp := hp.below b2
  replace MR := MR.below b2
  replace VM := VM.below b2
  replace BB := BB.trans (b2.mono BB.size)
  clear b2
  obtain ⟨a1, c1, e1, hc1⟩ := TM1.form
  rw [tidM_len] at e1 hc1
  subst e1
  obtain ⟨W5, hW5, hS5, hL5, VT⟩ := V2.lay w2 24 (.int .i64 F) (.slice a1 kk c1)
  obtain ⟨y1, y2, y3, y4⟩ := id VT
  rw [hW5] at y1 y2 y3 y4
  go_wp2_with fail
  clear y1 y2 y3 y4
  rw [← hW5]
  clear hW5 hS5
  replace ht := ht.below hL5
  replace hp := hp.below hL5
  replace MR := MR.below hL5
  replace TM1 := TM1.below hL5
  replace VM := VM.below hL5
  replace BB := BB.trans (hL5.mono BB.size)
  clear hL5
  generalize w2.heap.size = R5 at *
  have MR2 := TM1.mrow MR (by omega)
  have HT : Hid (tidM NN (fun i q => ndN (T i q)) kk = tidM NN T kk) := tidM_nrm NN T kk
  have HA : Hid (∀ l ∈ tidM NN T kk, l.length ≤ 1000) := tidM_all NN T kk 1000 HN1.out
  have HLn : Hid ((tidM NN T kk).length ≤ 1000) := by show _ ≤ _; rw [tidM_len]; omega
  have hDr : Below W5.heap.size W5 W5.drew := (Below.refl _ _).drew
  replace ht := ht.below hDr
  replace hp := hp.below hDr
  replace MR := MR.below hDr
  replace TM1 := TM1.below hDr
  replace MR2 := MR2.below hDr
  replace VM := VM.below hDr
  replace VT := VT.below hDr
  replace BB := BB.trans (hDr.mono BB.size)
  clear hDr
  refine wp_region_held_drew (S := (fun w' => w'.cell? ⟨w.heap.size, 0, none⟩ = some (.int .i64 F) ∧ w'.cell? ⟨w.heap.size, 1, none⟩ = some (.slice ar kk cr) ∧ w'.cell? ⟨R5, 0, none⟩ = some (.int .i64 F) ∧ w'.cell? ⟨R5, 1, none⟩ = some (.slice a1 kk c1))) (by kernel_rfl) ?_ (fun hHeld => ?_)
  · exact ⟨VM.1, VM.2.1, VT.1, VT.2.1⟩
  generalize W5.drew = W1 at *
  refine wpAnyH_take (i := 0) (v := ?_) (by simp only [List.getElem?_toArray, List.getElem?_cons_succ, List.getElem?_cons_zero]; rfl) (by kernel_rfl) (by kernel_rfl) (by kernel_rfl) (by exact fun _ _ _ h => h) (Or.inl ⟨by rfl, ?_⟩) (by assumption) ?_
  rotate_left
  · (intro w hSw; (try dsimp only at hSw); go_simp; (try with_reducible rfl))
  (try simp only [Act.put, List.setIfInBounds_toArray, List.set_cons_zero, List.set_cons_succ])
  refine wpAnyH_take (i := 1) (v := ?_) (by simp only [List.getElem?_toArray, List.getElem?_cons_succ, List.getElem?_cons_zero]; rfl) (by kernel_rfl) (by kernel_rfl) (by kernel_rfl) (by exact fun _ _ _ h => h) (Or.inl ⟨by rfl, ?_⟩) (by assumption) ?_
  rotate_left
  · (intro w hSw; (try dsimp only at hSw); go_simp; (try with_reducible rfl))
  (try simp only [Act.put, List.setIfInBounds_toArray, List.set_cons_zero, List.set_cons_succ])
  refine wpAnyH_ready (rs := [2]) (by kernel_rfl) (by simp) ?_
  refine AllReadyH.cons (by simp only [List.getElem?_toArray, List.getElem?_cons_succ, List.getElem?_cons_zero]; rfl) (fun K hK => ?_) AllReadyH.nil
  go_simp
  refine (ltidy_at F _ kk NN T 4 _ MR (by omega) HN1.out (by omega) (by omega) ht).mono ?_
  rintro e w3 ⟨r2, rfl, TM2, b3⟩
  obtain ⟨a2, c2, e2, hc2⟩ := TM2.form
  rw [tidM_len] at e2 hc2
  subst e2
  go_wp2_with fail
  replace ht := ht.below b3
  replace hp := hp.below b3
  replace MR := MR.below b3
  replace TM1 := TM1.below b3
  replace MR2 := MR2.below b3
  replace VM := VM.below b3
  replace VT := VT.below b3
  replace BB := BB.trans (b3.mono BB.size)
  clear b3
  refine hK.out _ _ ?_ (fun hH1 => ?_)
  · exact ⟨VM.1, VM.2.1, VT.1, VT.2.1⟩
  clear hK K hHeld
  (try simp only [Act.put, List.setIfInBounds_toArray, List.set_cons_zero, List.set_cons_succ])
  refine wpAnyH_ready (rs := [3]) (by kernel_rfl) (by simp) ?_
  refine AllReadyH.cons (by simp only [List.getElem?_toArray, List.getElem?_cons_succ, List.getElem?_cons_zero]; rfl) (fun K hK => ?_) AllReadyH.nil
  go_simp
  refine (same7_at F _ _ _ _ _ _ TM1 TM2 HLn.out HA.out).mono ?_
  rintro e w4 ⟨rfl, b4⟩
  go_wp2_with fail
  replace ht := ht.below b4
  replace hp := hp.below b4
  replace MR := MR.below b4
  replace TM1 := TM1.below b4
  replace MR2 := MR2.below b4
  replace TM2 := TM2.below b4
  replace VM := VM.below b4
  replace VT := VT.below b4
  replace BB := BB.trans (b4.mono BB.size)
  clear b4
  refine hK.out _ _ ?_ (fun hH2 => ?_)
  · exact ⟨VM.1, VM.2.1, VT.1, VT.2.1⟩
  clear hK K hH1
  (try simp only [Act.put, List.setIfInBounds_toArray, List.set_cons_zero, List.set_cons_succ])
  refine wpAnyH_take (i := 4) (v := ?_) (by simp only [List.getElem?_toArray, List.getElem?_cons_succ, List.getElem?_cons_zero]; rfl) (by kernel_rfl) (by kernel_rfl) (by kernel_rfl) (by exact fun _ _ _ h => h) (Or.inl ⟨by rfl, ?_⟩) (by assumption) ?_
  rotate_left
  · (intro w hSw; (try dsimp only at hSw); go_simp; (try with_reducible rfl))
  (try simp only [Act.put, List.setIfInBounds_toArray, List.set_cons_zero, List.set_cons_succ])
  refine wpAnyH_take (i := 5) (v := ?_) (by simp only [List.getElem?_toArray, List.getElem?_cons_succ, List.getElem?_cons_zero]; rfl) (by kernel_rfl) (by kernel_rfl) (by kernel_rfl) (by exact fun _ _ _ h => h) (Or.inl ⟨by rfl, ?_⟩) (by assumption) ?_
  rotate_left
  · (intro w hSw; (try dsimp only at hSw); go_simp; (try with_reducible rfl))
  (try simp only [Act.put, List.setIfInBounds_toArray, List.set_cons_zero, List.set_cons_succ])
  refine wpAnyH_take (i := 7) (v := ?_) (by simp only [List.getElem?_toArray, List.getElem?_cons_succ, List.getElem?_cons_zero]; rfl) (by kernel_rfl) (by kernel_rfl) (by kernel_rfl) (by exact fun _ _ _ h => h) (Or.inl ⟨by rfl, ?_⟩) (by assumption) ?_
  rotate_left
  · (intro w hSw; (try dsimp only at hSw); go_simp; (try with_reducible rfl))
  (try simp only [Act.put, List.setIfInBounds_toArray, List.set_cons_zero, List.set_cons_succ])
  refine wpAnyH_ready (rs := [6]) (by kernel_rfl) (by simp) ?_
  refine AllReadyH.cons (by simp only [List.getElem?_toArray, List.getElem?_cons_succ, List.getElem?_cons_zero]; rfl) (fun K hK => ?_) AllReadyH.nil
  go_simp
  refine (tidyM_at F _ kk NN _ 4 _ MR2 (by omega) HN1.out (by omega) (by omega) ht).mono ?_
  rintro e w5 ⟨r3, rfl, TM3, b5⟩
  rw [HT.out] at TM3
  obtain ⟨a3, c3, e3, hc3⟩ := TM3.form
  rw [tidM_len] at e3 hc3
  subst e3
  go_wp2_with fail
  replace ht := ht.below b5
  replace hp := hp.below b5
  replace MR := MR.below b5
  replace TM1 := TM1.below b5
  replace MR2 := MR2.below b5
  replace TM2 := TM2.below b5
  replace VM := VM.below b5
  replace VT := VT.below b5
  replace BB := BB.trans (b5.mono BB.size)
  clear b5
  refine hK.out _ _ ?_ (fun hH3 => ?_)
  · exact ⟨VM.1, VM.2.1, VT.1, VT.2.1⟩
  clear hK K hH2
  (try simp only [Act.put, List.setIfInBounds_toArray, List.set_cons_zero, List.set_cons_succ])
  refine wpAnyH_ready (rs := [8]) (by kernel_rfl) (by simp) ?_
  refine AllReadyH.cons (by simp only [List.getElem?_toArray, List.getElem?_cons_succ, List.getElem?_cons_zero]; rfl) (fun K hK => ?_) AllReadyH.nil
  go_simp
  refine (same7_at F _ _ _ _ _ _ TM3 TM1 HLn.out HA.out).mono ?_
  rintro e w6 ⟨rfl, b6⟩
  go_wp2_with fail
  replace ht := ht.below b6
  replace hp := hp.below b6
  replace MR := MR.below b6
  replace TM1 := TM1.below b6
  replace MR2 := MR2.below b6
  replace TM2 := TM2.below b6
  replace TM3 := TM3.below b6
  replace VM := VM.below b6
  replace VT := VT.below b6
  replace BB := BB.trans (b6.mono BB.size)
  clear b6
  refine hK.out _ _ ?_ (fun hH4 => ?_)
  · exact ⟨VM.1, VM.2.1, VT.1, VT.2.1⟩
  clear hK K hH3
  (try simp only [Act.put, List.setIfInBounds_toArray, List.set_cons_zero, List.set_cons_succ])
  refine wpAnyH_take (i := 9) (v := ?_) (by simp only [List.getElem?_toArray, List.getElem?_cons_succ, List.getElem?_cons_zero]; rfl) (by kernel_rfl) (by kernel_rfl) (by kernel_rfl) (by exact fun _ _ _ h => h) (Or.inl ⟨by rfl, ?_⟩) (by assumption) ?_
  rotate_left
  · (intro w hSw; (try dsimp only at hSw); go_simp; (try with_reducible rfl))
  (try simp only [Act.put, List.setIfInBounds_toArray, List.set_cons_zero, List.set_cons_succ])
  refine wpAnyH_take (i := 10) (v := ?_) (by simp only [List.getElem?_toArray, List.getElem?_cons_succ, List.getElem?_cons_zero]; rfl) (by kernel_rfl) (by kernel_rfl) (by kernel_rfl) (by exact fun _ _ _ h => h) (Or.inl ⟨by rfl, ?_⟩) (by assumption) ?_
  rotate_left
  · (intro w hSw; (try dsimp only at hSw); go_simp; (try with_reducible rfl))
  (try simp only [Act.put, List.setIfInBounds_toArray, List.set_cons_zero, List.set_cons_succ])
  refine wpAnyH_ready (rs := [11]) (by kernel_rfl) (by simp) ?_
  refine AllReadyH.cons (by simp only [List.getElem?_toArray, List.getElem?_cons_succ, List.getElem?_cons_zero]; rfl) (fun K hK => ?_) AllReadyH.nil
  go_simp
  refine (awake7_at _ ht hp).mono ?_
  rintro e w7 ⟨rfl, b7⟩
  go_wp2_with fail
  replace ht := ht.below b7
  replace hp := hp.below b7
  replace MR := MR.below b7
  replace TM1 := TM1.below b7
  replace MR2 := MR2.below b7
  replace TM2 := TM2.below b7
  replace TM3 := TM3.below b7
  replace VM := VM.below b7
  replace VT := VT.below b7
  replace BB := BB.trans (b7.mono BB.size)
  clear b7
  refine hK.out _ _ ?_ (fun hH5 => ?_)
  · exact ⟨VM.1, VM.2.1, VT.1, VT.2.1⟩
  clear hK K hH4
  (try simp only [Act.put, List.setIfInBounds_toArray, List.set_cons_zero, List.set_cons_succ])
  refine wpAnyH_take (i := 12) (v := ?_) (by simp only [List.getElem?_toArray, List.getElem?_cons_succ, List.getElem?_cons_zero]; rfl) (by kernel_rfl) (by kernel_rfl) (by kernel_rfl) (by exact fun _ _ _ h => h) (Or.inl ⟨by rfl, ?_⟩) (by assumption) ?_
  rotate_left
  · (intro w hSw; (try dsimp only at hSw); go_simp; (try with_reducible rfl))
  (try simp only [Act.put, List.setIfInBounds_toArray, List.set_cons_zero, List.set_cons_succ])
  refine wpAnyH_take (i := 13) (v := ?_) (by simp only [List.getElem?_toArray, List.getElem?_cons_succ, List.getElem?_cons_zero]; rfl) (by kernel_rfl) (by kernel_rfl) (by kernel_rfl) (by exact fun _ _ _ h => h) (Or.inl ⟨by rfl, ?_⟩) (by assumption) ?_
  rotate_left
  · (intro w hSw; (try dsimp only at hSw); go_simp; (try with_reducible rfl))
  (try simp only [Act.put, List.setIfInBounds_toArray, List.set_cons_zero, List.set_cons_succ])
  refine wpAnyH_done (by kernel_rfl) ?_ _
  clear hH5
  go_wp2
  go_ret
  exact ⟨rfl, BB⟩

theorem own : ownKnob Tryd.prog.godebug = none := by kernel_rfl
theorem laidOut : laidOutB Tryd.prog = true := by kernel_rfl

abbrev laid1 : List (String × DataW Unit) := Rows.modelTidiesRow.laid
/-- The two tables that the road reads lie in their cells. -/
theorem tabs_of {W : World} (h : laidMetH Tryd.prog laid1 W) : Tab W ∧ Pow W := by
  rw [MakeChecks.laidMetH_plain _ _ _ (by kernel_rfl)] at h
  have hd : laid1 = [("math/bits.deBruijn32tab", Rows.laid_math_bits_deBruijn32tab), ("math/bits.deBruijn64tab", Lib.tabData .u8 (Lib.deBruijn64tab.map fun (n : Nat) => Int.ofNat n)), ("internal/strconv.uint64pow10", Lib.tabData .u64 Lib.pow10Tab)] := rfl
  rw [hd] at h
  have gTab : Tryd.prog.globalNamed "math/bits.deBruijn64tab" = some 0 := by kernel_rfl
  have hT := Lib.tabIs_of_head (t := 116) (e := 5) (n := 64) gTab (by kernel_rfl) (by kernel_rfl) (by kernel_rfl) (by kernel_rfl) (by kernel_rfl) h.tail
  have hP := Lib.tabIs_of_head (g := 1) (t := 122) (e := 45) (n := 20) (by kernel_rfl) (by kernel_rfl) (by kernel_rfl) (by kernel_rfl) (by kernel_rfl) (by kernel_rfl) h.tail.tail
  refine ⟨fun i hi => ?_, hP⟩
  have hc := hT.cell gTab i (by rw [List.length_map]; exact hi)
  rw [hc]
  congr 2
  rw [List.getD_eq_getElem?_getD, List.getElem?_map, List.getD_eq_getElem?_getD]
  cases Lib.deBruijn64tab[i]? <;> rfl

set_option maxRecDepth 100000 in
theorem lifted (os : Os) (started : os.Started) (H : Type) (enc : TypeId × Value → H) :
    ReturnsInHanded {} Tryd.checked os 3 .any (fun w args => (Rows.modelTidiesSpec.pre enc Tryd.prog Tryd.f3 [] false w args ∧ laidMetH Tryd.prog laid1 w) ∧ sizedMet enc Tryd.prog Tryd.f3 (OpenSpec.ofChange Rows.modelTidiesSpec) false w args) (Rows.modelTidiesSpec.post enc Tryd.prog Tryd.f3 false true false false) := by
  refine returnsInHanded_of_change_and (C := Tryd.checked) (X := fun w _ => laidMetH Tryd.prog laid1 w) (fun _ _ _ hh h => h.of_heap hh) own started (by kernel_rfl) Tryd.func3
    (ChangeSpec.witness_shaped (enc := enc) (C := Tryd.checked) (os := os) (X := fun w _ => laidMetH Tryd.prog laid1 w) false (World.laidAll Tryd.prog os laid1) #[.agg #[.int .i64 0, .slice none 0 0]] 8 (World.laidAll_os _ _ _) (World.shaped_of_ZipB (by kernel_rfl) (by kernel_rfl)) (by kernel_rfl) (by kernel_rfl) (by kernel_rfl) (by rw [MakeChecks.laidMetH_plain _ _ _ (by kernel_rfl)]; exact laidMet_laidAll _ (by kernel_rfl) (by kernel_rfl))) ?_
  intro W base args ds gs before hval0 hW _ _ hL _
  have hval : ∀ (j : Nat) t v, Tryd.f3.params[j]? = some t → args[j]? = some v → Value.okWide Tryd.prog W .any base t v := hval0
  have hW' := hW
  obtain ⟨p, q, hA0, hV, rfl, hfz, hnd⟩ := hW
  have hA : DataW.TrodAll enc Tryd.prog W 0 (fun _ => true) true Tryd.f3.params.toList args.toList ds p := hA0
  rw [Tryd.params3] at hA hval
  obtain ⟨v0, vs0, d0, ds0, p0, q0, hargs, rfl, rfl, h0, r0⟩ := trodAll_cons hA
  obtain ⟨rfl, rfl, rfl⟩ := trodAll_nil r0
  obtain rfl : args = #[v0] := by cases args; simp_all
  obtain ⟨rfl, rfl⟩ := trodVars_none hV
  have k0 := h0
  have lt0 : ∀ x ∈ p0, x.block < W.heap.size := by obtain ⟨m, hm⟩ := k0; exact DataW.trod_lt m _ _ _ hm
  obtain ⟨F0, a0, c0, n0, N0, z0, rfl, f0, w0⟩ := open_model 4 (hval 0 24 v0 rfl rfl) h0
  clear hA0 hval0
  refine (walk _ _ _ _ _ _ W f0 w0 (tabs_of hL).1 (tabs_of hL).2).mono fun e W' ⟨he, bel⟩ => ?_
  subst he
  exact ⟨_, rfl, _, _, _, [], _, [], hW', trodAll_mk1 (shut_bool Tryd.underlying4 _), (trodAll_cons_mk (Below.trod laidOut (by kernel_rfl) (of_decide_eq_true (by kernel_rfl)) k0 bel lt0) trodAll_mk0), rfl, bel.frame _, fun h => by cases h⟩

theorem over : Rows.modelTidiesRow.holds Tryd.pinned (OpenSpec.ofChange Rows.modelTidiesSpec) :=
  OpenClaim.holds_of_wide 3 Tryd.f3 rfl rfl rfl rfl rfl rfl rfl ⟨rfl, rfl, rfl, rfl, rfl⟩ rfl rfl rfl rfl rfl (by kernel_rfl) Tryd.func3 (by kernel_rfl)
    (of_decide_eq_true (by kernel_rfl)) (by unfold Func.isWrapper; first | (rw [if_pos (by decide +kernel)]; kernel_rfl) | (rw [if_neg (by decide +kernel)]; exact ⟨rfl, rfl⟩))
    (fun os started H enc _ => lifted os started H enc)

end Go.Proofs.YtbelnhpjhpoacaaDoor.modelTidies
namespace Go.Proofs.YtbelnhpjhpoacaaDoor
/-- The statement: the row, tied to the text of the program. -/
theorem modelTidies_holds : Rows.ModelTidiesCardSaid :=
  Claim7.holds_tied_plain_at .later [] [.data, .data, .data] true (true, "e520eafcfb2bb4aa4d587fbe9e66881a9659a9e2af44b51572abe9fb5df3fa73") false
    modelTidies.over (fun _ h => by cases h) (by kernel_rfl) (fun _ h => by cases h) modelTidies_row_tie rfl ⟨rfl, rfl⟩ (by kernel_rfl) rfl
    (fun f fn hf hfn => by
      obtain rfl : f = 3 := Option.some.inj ((show Tryd.prog.funcNamed "dendron/dendronlaw07.ModelTidies" = some 3 by kernel_rfl).symm.trans hf) |>.symm
      obtain rfl : fn = Tryd.f3 := (Option.some.inj (Tryd.func3.symm.trans hfn)).symm
      exact ⟨by kernel_rfl, fun j t ht => by
        rw [Tryd.params3] at ht
        have hm : t ∈ [24] := by simpa using Array.mem_of_getElem? ht
        have hall : ([24].all fun u => !Tryd.prog.wantsStandIn u) = true := by kernel_rfl
        exact (show Tryd.prog.wantsStandIn t = false by simpa using List.all_eq_true.1 hall t hm)⟩)
    (by kernel_rfl)
end Go.Proofs.YtbelnhpjhpoacaaDoor
