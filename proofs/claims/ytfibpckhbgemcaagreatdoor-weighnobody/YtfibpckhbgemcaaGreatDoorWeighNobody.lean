/-
  Proves that a nil table tells nothing, whatever it is asked (the statement WeighNobody, its tied card); the table of math/bits lies as the program's text lays it; no other condition.
-/
import Derived.Test.YtfibpckhbgemcaaGreatDoorRows
import Derived.Test.YtfibpckhbgemcaaGreatDoorJ66aded052d
import Derived.WalkKit
import Derived.ProofKit
import Derived.OpenShut
import Derived.ShutString
import Derived.ChangeOld
import Derived.Below
import Derived.Test.YtfibpckhbgemcaaGreatDoorTie
import Derived.Test.YtfibpckhbgemcaaGreatDoorCards
import Derived.LaidByTextLater
import Derived.LaidHandle
import Derived.Lib.LaidTab
import Derived.SevenTiedAt
namespace Go.Proofs.YtfibpckhbgemcaaGreatDoor.weighNobody
open Go.ChangeShapes Go.WideShapes Go.ChangeAt Go.RowKit
open Go.ChangeMaps (open_string shut_string)
set_option linter.unusedVariables false
set_option linter.unusedSimpArgs false

set_option maxRecDepth 100000 in
set_option maxHeartbeats 16000000 in
theorem walk (s n : Int) (w : World) (ws : (Lit.int .i64 s).wf = true) (wn : (Lit.int .i64 n).wf = true) (ht : Tab w) :
    Calls Tryz.prog 9 #[.int .i64 s, .int .i64 n] w fun e w' => e = .returned (.bool true) ∧ Below w.heap.size w w' := by
  have BB : Below w.heap.size w w := Below.refl _ _
  go_enter Tryz.func9, Tryz.ntmps9
  go_wp2_with fail
  refine (tfact_nil n _).mono ?_
  rintro e w1 ⟨rfl, b1⟩
  replace ht := ht.below b1
  replace BB := BB.trans (b1.mono BB.size)
  clear b1
  have hZ1 : w.heap.size ≤ w1.heap.size := BB.size
  obtain ⟨W1, hW1, hS1, hL1, VA⟩ := V2.lay w1 27 (.bool false) (.slice none 0 0)
  replace ht := ht.below hL1
  replace BB := BB.trans (hL1.mono BB.size)
  clear hL1
  go_wp2_with fail
  rw [← hW1]
  generalize w1.heap.size = R1 at *
  clear hW1 hS1
  refine (tweight_nil s n _).mono ?_
  rintro e w2 ⟨rfl, b2⟩
  replace ht := ht.below b2
  replace VA := VA.below b2
  replace BB := BB.trans (b2.mono BB.size)
  clear b2
  have hZ2 : w.heap.size ≤ w2.heap.size := BB.size
  have hN2VA : R1 ≠ w2.heap.size := Nat.ne_of_lt VA.lt
  obtain ⟨W2, hW2, hS2, hL2, VB⟩ := V3.lay w2 35 (.bool false) (.slice none 0 0) (.slice none 0 0)
  replace ht := ht.below hL2
  replace VA := VA.below hL2
  replace BB := BB.trans (hL2.mono BB.size)
  clear hL2
  go_wp2_with fail
  rw [← hW2]
  generalize w2.heap.size = R2 at *
  clear hW2 hS2
  refine (tpair_nil s n _).mono ?_
  rintro e w3 ⟨rfl, b3⟩
  replace ht := ht.below b3
  replace VA := VA.below b3
  replace VB := VB.below b3
  replace BB := BB.trans (b3.mono BB.size)
  clear b3
  have hZ3 : w.heap.size ≤ w3.heap.size := BB.size
  have hN3VA : R1 ≠ w3.heap.size := Nat.ne_of_lt VA.lt
  have hN3VB : R2 ≠ w3.heap.size := Nat.ne_of_lt VB.lt
  obtain ⟨W3, hW3, hS3, hL3, VC⟩ := V3.lay w3 35 (.bool false) (.slice none 0 0) (.slice none 0 0)
  replace ht := ht.below hL3
  replace VA := VA.below hL3
  replace VB := VB.below hL3
  replace BB := BB.trans (hL3.mono BB.size)
  clear hL3
  go_wp2_with fail
  rw [← hW3]
  generalize w3.heap.size = R3 at *
  clear hW3 hS3
  refine (tneed_nil s n _).mono ?_
  rintro e w4 ⟨rfl, b4⟩
  replace ht := ht.below b4
  replace VA := VA.below b4
  replace VB := VB.below b4
  replace VC := VC.below b4
  replace BB := BB.trans (b4.mono BB.size)
  clear b4
  have hZ4 : w.heap.size ≤ w4.heap.size := BB.size
  have hN4VA : R1 < w4.heap.size := VA.lt
  have hN4VB : R2 < w4.heap.size := VB.lt
  have hN4VC : R3 < w4.heap.size := VC.lt
  obtain ⟨W5, hW5, hS5, hL5, VD⟩ := V3.lay w4 35 (.bool false) (.slice none 0 0) (.slice none 0 0)
  replace ht := ht.below hL5
  replace VA := VA.below hL5
  replace VB := VB.below hL5
  replace VC := VC.below hL5
  replace BB := BB.trans (hL5.mono BB.size)
  clear hL5
  obtain ⟨W6, hW6, hS6, hL6, VE⟩ := V3.lay W5 35 (.bool false) (.slice none 0 0) (.slice none 0 0)
  replace ht := ht.below hL6
  replace VA := VA.below hL6
  replace VB := VB.below hL6
  replace VC := VC.below hL6
  replace VD := VD.below hL6
  replace BB := BB.trans (hL6.mono BB.size)
  clear hL6
  rw [hS5] at VE
  go_wp2_with fail
  rw [← hW5]
  rw [← hW6]
  generalize w4.heap.size = R4 at *
  clear hW5 hS5 hW6 hS6
  refine (tall_nil n _).mono ?_
  rintro e wx ⟨rfl, hwx⟩
  replace hwx := hwx.symm
  subst hwx
  go_wp2_with fail
  refine (awake14_at _ ht).mono ?_
  rintro e w5 ⟨rfl, b5⟩
  replace ht := ht.below b5
  replace VA := VA.below b5
  replace VB := VB.below b5
  replace VC := VC.below b5
  replace VD := VD.below b5
  replace VE := VE.below b5
  replace BB := BB.trans (b5.mono BB.size)
  clear b5
  go_wp2
  go_ret
  exact ⟨rfl, BB⟩
theorem own : ownKnob Tryz.prog.godebug = none := by kernel_rfl

abbrev laid1 : List (String × DataW Unit) := [("math/bits.deBruijn64tab", Rows.laid_math_bits_deBruijn64tab)]
theorem gTab : Tryz.prog.globalNamed "math/bits.deBruijn64tab" = some 0 := by kernel_rfl
theorem gTabType : (Tryz.prog.globals[0]?).map (·.type) = some 129 := by kernel_rfl
theorem uTab : Tryz.prog.underlying 129 = some (.array 64 5) := by kernel_rfl
theorem uCell : Tryz.prog.underlying 5 = some (.int .u8) := by kernel_rfl
theorem cCell : Tryz.prog.cellsOf 5 = 1 := by kernel_rfl
theorem cTab : Tryz.prog.cellsOf 129 = 64 := by kernel_rfl
/-- The listed table lies in its cells. -/
theorem tab_of {W : World} (h : laidMetH Tryz.prog laid1 W) : Tab W := by
  rw [MakeChecks.laidMetH_plain _ _ _ (by kernel_rfl)] at h
  have hd : laid1 = [("math/bits.deBruijn64tab", Lib.tabData .u8 (Lib.deBruijn64tab.map fun (n : Nat) => Int.ofNat n))] := rfl
  rw [hd] at h
  have hT := Lib.tabIs_of_head gTab gTabType uTab uCell cCell cTab h
  intro i hi
  have hc := hT.cell gTab i (by rw [List.length_map]; exact hi)
  rw [hc]
  congr 2
  rw [List.getD_eq_getElem?_getD, List.getElem?_map, List.getD_eq_getElem?_getD]
  cases Lib.deBruijn64tab[i]? <;> rfl
/-- A start for the witness: the heap that the run of the program's own initialisers leaves. -/
noncomputable def startW (os : Os) : World := { World.holding Tryz.prog os ⟨#[], #[], []⟩ with heap := (varsWorld Tryz.prog 400 (varsId Tryz.prog) os (fun _ _ => 0)).heap }
theorem start_met (os : Os) (args : Array Value) : laidMetH Tryz.prog laid1 ((startW os).forCall (fun _ _ => 0) ⟨#[], args, []⟩).memory :=
  laidMetH_of_parts3 (fuel := 8) (laidMet_of_run' 8 (by kernel_rfl) (by kernel_rfl)) (by kernel_rfl) (by kernel_rfl)

set_option maxRecDepth 100000 in
theorem lifted (os : Os) (started : os.Started) (H : Type) (enc : TypeId × Value → H) :
    ReturnsInHanded {} Tryz.checked os 9 .any (fun w args => (Rows.weighNobodySpec.pre enc Tryz.prog Tryz.f9 [] false w args ∧ laidMetH Tryz.prog laid1 w) ∧ sizedMet enc Tryz.prog Tryz.f9 (OpenSpec.ofChange Rows.weighNobodySpec) false w args) (Rows.weighNobodySpec.post enc Tryz.prog Tryz.f9 false true false false) := by
  refine returnsInHanded_of_change_and (C := Tryz.checked) (X := fun w _ => laidMetH Tryz.prog laid1 w) (fun _ _ _ hh h => h.of_heap hh) own started (by kernel_rfl) Tryz.func9
    (ChangeSpec.witness_shaped (enc := enc) (C := Tryz.checked) (os := os) (X := fun w _ => laidMetH Tryz.prog laid1 w) false (startW os) #[.int .i64 0, .int .i64 0] 8 rfl (World.shaped_of_RefB (by kernel_rfl) (by kernel_rfl)) (by kernel_rfl) (by kernel_rfl) (by kernel_rfl) (start_met os _)) ?_
  intro W base args ds gs before hval0 hW _ _ hL _
  have hval : ∀ (j : Nat) t v, Tryz.f9.params[j]? = some t → args[j]? = some v → Value.okWide Tryz.prog W .any base t v := hval0
  have hW' := hW
  obtain ⟨p, q, hA0, hV, rfl, hfz, hnd⟩ := hW
  have hA : DataW.TrodAll enc Tryz.prog W 0 (fun _ => true) true Tryz.f9.params.toList args.toList ds p := hA0
  rw [Tryz.params9] at hA hval
  obtain ⟨v0, vs0, d0, ds0, p0, q0, hargs, rfl, rfl, h0, r0⟩ := trodAll_cons hA
  obtain ⟨v1, vs1, d1, ds1, p1, q1, rfl, rfl, rfl, h1, r1⟩ := trodAll_cons r0
  obtain ⟨rfl, rfl, rfl⟩ := trodAll_nil r1
  obtain rfl : args = #[v0, v1] := by cases args; simp_all
  obtain ⟨rfl, rfl⟩ := trodVars_none hV
  obtain ⟨a0, rfl, rfl, rfl, w0⟩ := open_int Tryz.underlying3 (hval 0 3 v0 rfl rfl) h0
  obtain ⟨a1, rfl, rfl, rfl, w1⟩ := open_int Tryz.underlying3 (hval 1 3 v1 rfl rfl) h1
  clear hA0 hval0
  refine (walk a0 a1 W w0 w1 (tab_of hL)).mono fun e W' ⟨he, bel⟩ => ?_
  subst he
  exact ⟨_, rfl, _, _, _, [], _, [], hW', trodAll_mk1 (shut_bool Tryz.underlying4 _), (trodAll_cons_mk (shut_int Tryz.underlying3 w0) (trodAll_cons_mk (shut_int Tryz.underlying3 w1) trodAll_mk0)), rfl, bel.frame _, fun h => by cases h⟩

theorem over : Rows.weighNobodyRow.holds Tryz.pinned (OpenSpec.ofChange Rows.weighNobodySpec) :=
  OpenClaim.holds_of_wide 9 Tryz.f9 rfl rfl rfl rfl rfl rfl rfl ⟨rfl, rfl, rfl, rfl, rfl⟩ rfl rfl rfl rfl rfl (by kernel_rfl) Tryz.func9 (by kernel_rfl)
    (of_decide_eq_true (by kernel_rfl)) (by unfold Func.isWrapper; first | (rw [if_pos (by decide +kernel)]; kernel_rfl) | (rw [if_neg (by decide +kernel)]; exact ⟨rfl, rfl⟩))
    (fun os started H enc _ => lifted os started H enc)

end Go.Proofs.YtfibpckhbgemcaaGreatDoor.weighNobody
namespace Go.Proofs.YtfibpckhbgemcaaGreatDoor
/-- The statement: the row, tied to the text of the program. -/
theorem weighNobody_holds : Rows.WeighNobodyCardSaid :=
  Claim7.holds_tied_plain_at .later [] [.data] true (true, "eeffd6bd899e8edb0c7b9ed8e33ff2a95ce20abacf21bee988a273f730e03bab") false
    weighNobody.over (fun _ h => by cases h) (by kernel_rfl) (fun _ h => by cases h) weighNobody_row_tie rfl ⟨rfl, rfl⟩ (by kernel_rfl) rfl
    (fun f fn hf hfn => by
      obtain rfl : f = 9 := Option.some.inj ((show Tryz.prog.funcNamed "dendron/dendronlaw14.WeighNobody" = some 9 by kernel_rfl).symm.trans hf) |>.symm
      obtain rfl : fn = Tryz.f9 := (Option.some.inj (Tryz.func9.symm.trans hfn)).symm
      exact ⟨by kernel_rfl, fun j t ht => by
        rw [Tryz.params9] at ht
        have hm : t ∈ [3, 3] := by simpa using Array.mem_of_getElem? ht
        have hall : ([3, 3].all fun u => !Tryz.prog.wantsStandIn u) = true := by kernel_rfl
        exact (show Tryz.prog.wantsStandIn t = false by simpa using List.all_eq_true.1 hall t hm)⟩)
    (by kernel_rfl)
end Go.Proofs.YtfibpckhbgemcaaGreatDoor
