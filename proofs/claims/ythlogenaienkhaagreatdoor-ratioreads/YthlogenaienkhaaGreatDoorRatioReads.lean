/-
 Proves that Parse tells which number any text is, or why it is none, of up to 120 bytes (the statement RatioReads, its tied card); the table of math/bits lies as the program's text lays it; no other condition.
-/
import Derived.Test.YthlogenaienkhaaGreatDoorRows
import Derived.Test.YthlogenaienkhaaGreatDoorJ788cca4869
import Derived.Test.YthlogenaienkhaaGreatDoorJ62f5dd6162
import Derived.WalkKit
import Derived.ProofKit
import Derived.OpenShut
import Derived.ShutString
import Derived.ChangeOld
import Derived.Below
import Derived.Test.YthlogenaienkhaaGreatDoorTie
import Derived.Test.YthlogenaienkhaaGreatDoorCards
import Derived.LaidByTextLater
import Derived.LaidHandle
import Derived.Lib.LaidTab
import Derived.SevenTiedAt
namespace Go.Proofs.YthlogenaienkhaaGreatDoor.ratioReads
open Go.ChangeShapes Go.WideShapes Go.ChangeAt Go.RowKit
open Go.ChangeMaps (open_string shut_string)
set_option linter.unusedVariables false
set_option linter.unusedSimpArgs false

set_option linter.unusedSimpArgs false
set_option maxRecDepth 100000 in
set_option maxHeartbeats 8000000 in
theorem walk (s : ByteArray) (w : World) (hs : s.size ≤ maxLen) (ht : Tab w) :
  Calls Tryz.prog 6 #[.string s] w fun e w' => e = .returned (.bool true) ∧ Below w.heap.size w w' := by
 unfold maxLen at hs
 by_cases hl : 120 < s.size
 ·have hi : (120 : Int) < (s.size : Int) := by omega
  have hts : (s.extract 0 120).size ≤ 120 := by rw [ByteArray.size_extract]; omega
  have BB : Below w.heap.size w w := Below.refl _ _
  go_enter Tryz.func6, Tryz.ntmps6
  go_wp2_with fail
  generalize s.extract 0 120 = t at *
  have htd : (pdig t).size ≤ 120 := by have := pdig_size t; omega
  rcases pp_err (pdig t) with h1 | h1
  ·by_cases h2 : (ppOf (pdig t)).2.2 = 0
   ·have HE : Hid (2 = qerr t) := by show _ = _; unfold qerr; rw [if_pos h1, if_pos h2]
    refine (qparse_zero t _ (by omega) ht h1 h2).mono ?_
    rintro e w1 ⟨rfl, b1⟩
    replace ht := ht.below b1
    replace BB := BB.trans (b1.mono BB.size)
    clear b1
    clear h1 h2
    have hZ1 : w.heap.size ≤ w1.heap.size := BB.size
    obtain ⟨W1, hW1, hS1, hL1, VA⟩ := V3.lay w1 35 (.bool false) (.slice none 0 0) (.slice none 0 0)
    replace ht := ht.below hL1
    replace BB := BB.trans (hL1.mono BB.size)
    clear hL1
    go_wp2_with fail
    rw [← hW1]
    generalize w1.heap.size = R1 at *
    clear hW1 hS1
    refine (dparse_at t 2 (qval t) _ hts HE.out rfl).mono ?_
    rintro e w2 ⟨px, ax, nx, cx, bx, mx, dx, rfl, hJ, b2⟩
    replace ht := ht.below b2
    replace VA := VA.below b2
    replace BB := BB.trans (b2.mono BB.size)
    clear b2
    clear hJ
    have hZ2 : w.heap.size ≤ w2.heap.size := BB.size
    have hN2VA : R1 ≠ w2.heap.size := Nat.ne_of_lt VA.lt
    obtain ⟨W2, hW2, hS2, hL2, VX⟩ := V3.lay w2 28 (.bool px) (.slice ax nx cx) (.slice bx mx dx)
    replace ht := ht.below hL2
    replace VA := VA.below hL2
    replace BB := BB.trans (hL2.mono BB.size)
    clear hL2
    obtain ⟨VA_0, VA_1, VA_2, VA_3, VA_4, VA_5⟩ := id VA
    rw [hW2] at VA_0 VA_1 VA_2 VA_3 VA_4 VA_5
    go_wp2_with fail
    clear VA_0 VA_1 VA_2 VA_3 VA_4 VA_5
    rw [← hW2]
    generalize w2.heap.size = R2 at *
    clear hW2 hS2
    refine (none_at _).mono ?_
    rintro e w3 ⟨rfl, b3⟩
    replace ht := ht.below b3
    replace VA := VA.below b3
    replace VX := VX.below b3
    replace BB := BB.trans (b3.mono BB.size)
    clear b3
    go_wp2_with fail
    refine (qawake_at _ ht).mono ?_
    rintro e w4 ⟨rfl, b4⟩
    replace ht := ht.below b4
    replace VA := VA.below b4
    replace VX := VX.below b4
    replace BB := BB.trans (b4.mono BB.size)
    clear b4
    go_wp2
    go_ret
    exact ⟨rfl, BB⟩
   ·have HE : Hid (0 = qerr t) := by show _ = _; unfold qerr; rw [if_pos h1, if_neg h2]
    have sq : qsz (qval t) ≤ 250 := by unfold qval; exact nl_num_mkRat _ _ 250 (by rw [zof_abs]; exact (pp_small _ htd).1) (pp_small _ htd).2 (by omega)
    refine (qparse_yes t _ (by omega) ht h1 h2).mono ?_
    rintro e w1 ⟨va, rfl, Ha, b1⟩
    replace ht := ht.below b1
    replace BB := BB.trans (b1.mono BB.size)
    clear b1
    obtain ⟨pa, aa, na, ca, ba, ma, da, rfl⟩ := Ha.open
    clear h1 h2
    have hZ1 : w.heap.size ≤ w1.heap.size := BB.size
    obtain ⟨W1, hW1, hS1, hL1, VA⟩ := V3.lay w1 35 (.bool pa) (.slice aa na ca) (.slice ba ma da)
    replace ht := ht.below hL1
    replace Ha := Ha.below hL1
    replace BB := BB.trans (hL1.mono BB.size)
    clear hL1
    go_wp2_with fail
    rw [← hW1]
    generalize w1.heap.size = R1 at *
    clear hW1 hS1
    refine (dparse_at t 0 (qval t) _ hts HE.out rfl).mono ?_
    rintro e w2 ⟨px, ax, nx, cx, bx, mx, dx, rfl, hJ, b2⟩
    replace ht := ht.below b2
    replace Ha := Ha.below b2
    replace VA := VA.below b2
    replace BB := BB.trans (b2.mono BB.size)
    clear b2
    have Jx := hJ rfl
    clear hJ
    have hZ2 : w.heap.size ≤ w2.heap.size := BB.size
    have hN2VA : R1 ≠ w2.heap.size := Nat.ne_of_lt VA.lt
    obtain ⟨W2, hW2, hS2, hL2, VX⟩ := V3.lay w2 28 (.bool px) (.slice ax nx cx) (.slice bx mx dx)
    replace ht := ht.below hL2
    replace Ha := Ha.below hL2
    replace Jx := Jx.below hL2
    replace VA := VA.below hL2
    replace BB := BB.trans (hL2.mono BB.size)
    clear hL2
    obtain ⟨VA_0, VA_1, VA_2, VA_3, VA_4, VA_5⟩ := id VA
    rw [hW2] at VA_0 VA_1 VA_2 VA_3 VA_4 VA_5
    go_wp2_with fail
    clear VA_0 VA_1 VA_2 VA_3 VA_4 VA_5
    rw [← hW2]
    generalize w2.heap.size = R2 at *
    clear hW2 hS2
    refine (jis_at _ _ (qval t) 250 250 _ Ha sq Jx (by omega)).mono ?_
    rintro e w3 ⟨rfl, b3⟩
    replace ht := ht.below b3
    replace Ha := Ha.below b3
    replace Jx := Jx.below b3
    replace VA := VA.below b3
    replace VX := VX.below b3
    replace BB := BB.trans (b3.mono BB.size)
    clear b3
    go_wp2_with fail
    refine (qawake_at _ ht).mono ?_
    rintro e w4 ⟨rfl, b4⟩
    replace ht := ht.below b4
    replace Ha := Ha.below b4
    replace Jx := Jx.below b4
    replace VA := VA.below b4
    replace VX := VX.below b4
    replace BB := BB.trans (b4.mono BB.size)
    clear b4
    go_wp2
    go_ret
    exact ⟨rfl, BB⟩
  ·have HE : Hid (4 = qerr t) := by show _ = _; unfold qerr; rw [h1]; rfl
   refine (qparse_form t _ (by omega) ht h1).mono ?_
   rintro e w1 ⟨rfl, b1⟩
   replace ht := ht.below b1
   replace BB := BB.trans (b1.mono BB.size)
   clear b1
   clear h1
   have hZ1 : w.heap.size ≤ w1.heap.size := BB.size
   obtain ⟨W1, hW1, hS1, hL1, VA⟩ := V3.lay w1 35 (.bool false) (.slice none 0 0) (.slice none 0 0)
   replace ht := ht.below hL1
   replace BB := BB.trans (hL1.mono BB.size)
   clear hL1
   go_wp2_with fail
   rw [← hW1]
   generalize w1.heap.size = R1 at *
   clear hW1 hS1
   refine (dparse_at t 4 (qval t) _ hts HE.out rfl).mono ?_
   rintro e w2 ⟨px, ax, nx, cx, bx, mx, dx, rfl, hJ, b2⟩
   replace ht := ht.below b2
   replace VA := VA.below b2
   replace BB := BB.trans (b2.mono BB.size)
   clear b2
   clear hJ
   have hZ2 : w.heap.size ≤ w2.heap.size := BB.size
   have hN2VA : R1 ≠ w2.heap.size := Nat.ne_of_lt VA.lt
   obtain ⟨W2, hW2, hS2, hL2, VX⟩ := V3.lay w2 28 (.bool px) (.slice ax nx cx) (.slice bx mx dx)
   replace ht := ht.below hL2
   replace VA := VA.below hL2
   replace BB := BB.trans (hL2.mono BB.size)
   clear hL2
   obtain ⟨VA_0, VA_1, VA_2, VA_3, VA_4, VA_5⟩ := id VA
   rw [hW2] at VA_0 VA_1 VA_2 VA_3 VA_4 VA_5
   go_wp2_with fail
   clear VA_0 VA_1 VA_2 VA_3 VA_4 VA_5
   rw [← hW2]
   generalize w2.heap.size = R2 at *
   clear hW2 hS2
   refine (none_at _).mono ?_
   rintro e w3 ⟨rfl, b3⟩
   replace ht := ht.below b3
   replace VA := VA.below b3
   replace VX := VX.below b3
   replace BB := BB.trans (b3.mono BB.size)
   clear b3
   go_wp2_with fail
   refine (qawake_at _ ht).mono ?_
   rintro e w4 ⟨rfl, b4⟩
   replace ht := ht.below b4
   replace VA := VA.below b4
   replace VX := VX.below b4
   replace BB := BB.trans (b4.mono BB.size)
   clear b4
   go_wp2
   go_ret
   exact ⟨rfl, BB⟩
 ·have hi : ¬ (120 : Int) < (s.size : Int) := by omega
  have hts : s.size ≤ 120 := by omega
  have BB : Below w.heap.size w w := Below.refl _ _
  go_enter Tryz.func6, Tryz.ntmps6
  go_wp2_with fail
  clear hi hl hs
  generalize s = t at *
  have htd : (pdig t).size ≤ 120 := by have := pdig_size t; omega
  rcases pp_err (pdig t) with h1 | h1
  ·by_cases h2 : (ppOf (pdig t)).2.2 = 0
   ·have HE : Hid (2 = qerr t) := by show _ = _; unfold qerr; rw [if_pos h1, if_pos h2]
    refine (qparse_zero t _ (by omega) ht h1 h2).mono ?_
    rintro e w1 ⟨rfl, b1⟩
    replace ht := ht.below b1
    replace BB := BB.trans (b1.mono BB.size)
    clear b1
    clear h1 h2
    have hZ1 : w.heap.size ≤ w1.heap.size := BB.size
    obtain ⟨W1, hW1, hS1, hL1, VA⟩ := V3.lay w1 35 (.bool false) (.slice none 0 0) (.slice none 0 0)
    replace ht := ht.below hL1
    replace BB := BB.trans (hL1.mono BB.size)
    clear hL1
    go_wp2_with fail
    rw [← hW1]
    generalize w1.heap.size = R1 at *
    clear hW1 hS1
    refine (dparse_at t 2 (qval t) _ hts HE.out rfl).mono ?_
    rintro e w2 ⟨px, ax, nx, cx, bx, mx, dx, rfl, hJ, b2⟩
    replace ht := ht.below b2
    replace VA := VA.below b2
    replace BB := BB.trans (b2.mono BB.size)
    clear b2
    clear hJ
    have hZ2 : w.heap.size ≤ w2.heap.size := BB.size
    have hN2VA : R1 ≠ w2.heap.size := Nat.ne_of_lt VA.lt
    obtain ⟨W2, hW2, hS2, hL2, VX⟩ := V3.lay w2 28 (.bool px) (.slice ax nx cx) (.slice bx mx dx)
    replace ht := ht.below hL2
    replace VA := VA.below hL2
    replace BB := BB.trans (hL2.mono BB.size)
    clear hL2
    obtain ⟨VA_0, VA_1, VA_2, VA_3, VA_4, VA_5⟩ := id VA
    rw [hW2] at VA_0 VA_1 VA_2 VA_3 VA_4 VA_5
    go_wp2_with fail
    clear VA_0 VA_1 VA_2 VA_3 VA_4 VA_5
    rw [← hW2]
    generalize w2.heap.size = R2 at *
    clear hW2 hS2
    refine (none_at _).mono ?_
    rintro e w3 ⟨rfl, b3⟩
    replace ht := ht.below b3
    replace VA := VA.below b3
    replace VX := VX.below b3
    replace BB := BB.trans (b3.mono BB.size)
    clear b3
    go_wp2_with fail
    refine (qawake_at _ ht).mono ?_
    rintro e w4 ⟨rfl, b4⟩
    replace ht := ht.below b4
    replace VA := VA.below b4
    replace VX := VX.below b4
    replace BB := BB.trans (b4.mono BB.size)
    clear b4
    go_wp2
    go_ret
    exact ⟨rfl, BB⟩
   ·have HE : Hid (0 = qerr t) := by show _ = _; unfold qerr; rw [if_pos h1, if_neg h2]
    have sq : qsz (qval t) ≤ 250 := by unfold qval; exact nl_num_mkRat _ _ 250 (by rw [zof_abs]; exact (pp_small _ htd).1) (pp_small _ htd).2 (by omega)
    refine (qparse_yes t _ (by omega) ht h1 h2).mono ?_
    rintro e w1 ⟨va, rfl, Ha, b1⟩
    replace ht := ht.below b1
    replace BB := BB.trans (b1.mono BB.size)
    clear b1
    obtain ⟨pa, aa, na, ca, ba, ma, da, rfl⟩ := Ha.open
    clear h1 h2
    have hZ1 : w.heap.size ≤ w1.heap.size := BB.size
    obtain ⟨W1, hW1, hS1, hL1, VA⟩ := V3.lay w1 35 (.bool pa) (.slice aa na ca) (.slice ba ma da)
    replace ht := ht.below hL1
    replace Ha := Ha.below hL1
    replace BB := BB.trans (hL1.mono BB.size)
    clear hL1
    go_wp2_with fail
    rw [← hW1]
    generalize w1.heap.size = R1 at *
    clear hW1 hS1
    refine (dparse_at t 0 (qval t) _ hts HE.out rfl).mono ?_
    rintro e w2 ⟨px, ax, nx, cx, bx, mx, dx, rfl, hJ, b2⟩
    replace ht := ht.below b2
    replace Ha := Ha.below b2
    replace VA := VA.below b2
    replace BB := BB.trans (b2.mono BB.size)
    clear b2
    have Jx := hJ rfl
    clear hJ
    have hZ2 : w.heap.size ≤ w2.heap.size := BB.size
    have hN2VA : R1 ≠ w2.heap.size := Nat.ne_of_lt VA.lt
    obtain ⟨W2, hW2, hS2, hL2, VX⟩ := V3.lay w2 28 (.bool px) (.slice ax nx cx) (.slice bx mx dx)
    replace ht := ht.below hL2
    replace Ha := Ha.below hL2
    replace Jx := Jx.below hL2
    replace VA := VA.below hL2
    replace BB := BB.trans (hL2.mono BB.size)
    clear hL2
    obtain ⟨VA_0, VA_1, VA_2, VA_3, VA_4, VA_5⟩ := id VA
    rw [hW2] at VA_0 VA_1 VA_2 VA_3 VA_4 VA_5
    go_wp2_with fail
    clear VA_0 VA_1 VA_2 VA_3 VA_4 VA_5
    rw [← hW2]
    generalize w2.heap.size = R2 at *
    clear hW2 hS2
    refine (jis_at _ _ (qval t) 250 250 _ Ha sq Jx (by omega)).mono ?_
    rintro e w3 ⟨rfl, b3⟩
    replace ht := ht.below b3
    replace Ha := Ha.below b3
    replace Jx := Jx.below b3
    replace VA := VA.below b3
    replace VX := VX.below b3
    replace BB := BB.trans (b3.mono BB.size)
    clear b3
    go_wp2_with fail
    refine (qawake_at _ ht).mono ?_
    rintro e w4 ⟨rfl, b4⟩
    replace ht := ht.below b4
    replace Ha := Ha.below b4
    replace Jx := Jx.below b4
    replace VA := VA.below b4
    replace VX := VX.below b4
    replace BB := BB.trans (b4.mono BB.size)
    clear b4
    go_wp2
    go_ret
    exact ⟨rfl, BB⟩
  ·have HE : Hid (4 = qerr t) := by show _ = _; unfold qerr; rw [h1]; rfl
   refine (qparse_form t _ (by omega) ht h1).mono ?_
   rintro e w1 ⟨rfl, b1⟩
   replace ht := ht.below b1
   replace BB := BB.trans (b1.mono BB.size)
   clear b1
   clear h1
   have hZ1 : w.heap.size ≤ w1.heap.size := BB.size
   obtain ⟨W1, hW1, hS1, hL1, VA⟩ := V3.lay w1 35 (.bool false) (.slice none 0 0) (.slice none 0 0)
   replace ht := ht.below hL1
   replace BB := BB.trans (hL1.mono BB.size)
   clear hL1
   go_wp2_with fail
   rw [← hW1]
   generalize w1.heap.size = R1 at *
   clear hW1 hS1
   refine (dparse_at t 4 (qval t) _ hts HE.out rfl).mono ?_
   rintro e w2 ⟨px, ax, nx, cx, bx, mx, dx, rfl, hJ, b2⟩
   replace ht := ht.below b2
   replace VA := VA.below b2
   replace BB := BB.trans (b2.mono BB.size)
   clear b2
   clear hJ
   have hZ2 : w.heap.size ≤ w2.heap.size := BB.size
   have hN2VA : R1 ≠ w2.heap.size := Nat.ne_of_lt VA.lt
   obtain ⟨W2, hW2, hS2, hL2, VX⟩ := V3.lay w2 28 (.bool px) (.slice ax nx cx) (.slice bx mx dx)
   replace ht := ht.below hL2
   replace VA := VA.below hL2
   replace BB := BB.trans (hL2.mono BB.size)
   clear hL2
   obtain ⟨VA_0, VA_1, VA_2, VA_3, VA_4, VA_5⟩ := id VA
   rw [hW2] at VA_0 VA_1 VA_2 VA_3 VA_4 VA_5
   go_wp2_with fail
   clear VA_0 VA_1 VA_2 VA_3 VA_4 VA_5
   rw [← hW2]
   generalize w2.heap.size = R2 at *
   clear hW2 hS2
   refine (none_at _).mono ?_
   rintro e w3 ⟨rfl, b3⟩
   replace ht := ht.below b3
   replace VA := VA.below b3
   replace VX := VX.below b3
   replace BB := BB.trans (b3.mono BB.size)
   clear b3
   go_wp2_with fail
   refine (qawake_at _ ht).mono ?_
   rintro e w4 ⟨rfl, b4⟩
   replace ht := ht.below b4
   replace VA := VA.below b4
   replace VX := VX.below b4
   replace BB := BB.trans (b4.mono BB.size)
   clear b4
   go_wp2
   go_ret
   exact ⟨rfl, BB⟩

theorem own : ownKnob Tryz.prog.godebug = none := by kernel_rfl

abbrev laid1 : List (String × DataW Unit) := [("math/bits.deBruijn64tab", Rows.laid_math_bits_deBruijn64tab)]
theorem gTab : Tryz.prog.globalNamed "math/bits.deBruijn64tab" = some 1 := by kernel_rfl
theorem gTabType : (Tryz.prog.globals[1]?).map (·.type) = some 199 := by kernel_rfl
theorem uTab : Tryz.prog.underlying 199 = some (.array 64 5) := by kernel_rfl
theorem uCell : Tryz.prog.underlying 5 = some (.int .u8) := by kernel_rfl
theorem cCell : Tryz.prog.cellsOf 5 = 1 := by kernel_rfl
theorem cTab : Tryz.prog.cellsOf 199 = 64 := by kernel_rfl
/-- The listed table lies in its cells. -/
theorem tab_of {W : World} (h : laidMetH Tryz.prog laid1 W) : Tab W := by
 rw [MakeChecks.laidMetH_plain _ _ _ (by kernel_rfl)] at h
 have hd : laid1 = [("math/bits.deBruijn64tab", Lib.tabData .u8 (Lib.deBruijn64tab.map fun (n : Nat) => Int.ofNat n))] := rfl
 rw [hd] at h
 have hT := Lib.tabIs_of_head gTab gTabType uTab uCell cCell cTab h
 intro i hi
 have hc := hT.cell gTab i (by rw [List.length_map]; exact hi)
 rw [hc]
 congr 2
 rw [List.getD_eq_getElem?_getD, List.getElem?_map, List.getD_eq_getElem?_getD]
 cases Lib.deBruijn64tab[i]? <;> rfl
/-- A start for the witness: the heap that the run of the program's own initialisers leaves. -/
noncomputable def startW (os : Os) : World := { World.holding Tryz.prog os ⟨#[], #[], []⟩ with heap := (varsWorld Tryz.prog 400 (varsId Tryz.prog) os (fun _ _ => 0)).heap }
theorem start_met (os : Os) (args : Array Value) : laidMetH Tryz.prog laid1 ((startW os).forCall (fun _ _ => 0) ⟨#[], args, []⟩).memory :=
 laidMetH_of_parts3 (fuel := 8) (laidMet_of_run' 8 (by kernel_rfl) (by kernel_rfl)) (by kernel_rfl) (by kernel_rfl)

set_option maxRecDepth 100000 in
theorem lifted (os : Os) (started : os.Started) (H : Type) (enc : TypeId × Value → H) :
  ReturnsInHanded {} Tryz.checked os 6 .any (fun w args => (Rows.ratioReadsSpec.pre enc Tryz.prog Tryz.f6 [] false w args ∧ laidMetH Tryz.prog laid1 w) ∧ sizedMet enc Tryz.prog Tryz.f6 (OpenSpec.ofChange Rows.ratioReadsSpec) false w args) (Rows.ratioReadsSpec.post enc Tryz.prog Tryz.f6 false true false false) := by
 refine returnsInHanded_of_change_and (C := Tryz.checked) (X := fun w _ => laidMetH Tryz.prog laid1 w) (fun _ _ _ hh h => h.of_heap hh) own started (by kernel_rfl) Tryz.func6
  (ChangeSpec.witness_shaped (enc := enc) (C := Tryz.checked) (os := os) (X := fun w _ => laidMetH Tryz.prog laid1 w) false (startW os) #[.string ByteArray.empty] 8 rfl (World.shaped_of_RefB (by kernel_rfl) (by kernel_rfl)) (by kernel_rfl) (by kernel_rfl) (by kernel_rfl) (start_met os _)) ?_
 intro W base args ds gs before hval0 hW _ _ hL _
 have hval : ∀ (j : Nat) t v, Tryz.f6.params[j]? = some t → args[j]? = some v → Value.okWide Tryz.prog W .any base t v := hval0
 have hW' := hW
 obtain ⟨p, q, hA0, hV, rfl, hfz, hnd⟩ := hW
 have hA : DataW.TrodAll enc Tryz.prog W 0 (fun _ => true) true Tryz.f6.params.toList args.toList ds p := hA0
 rw [Tryz.params6] at hA hval
 obtain ⟨v0, vs0, d0, ds0, p0, q0, hargs, rfl, rfl, h0, r0⟩ := trodAll_cons hA
 obtain ⟨rfl, rfl, rfl⟩ := trodAll_nil r0
 obtain rfl : args = #[v0] := by cases args; simp_all
 obtain ⟨rfl, rfl⟩ := trodVars_none hV
 obtain ⟨s0, rfl, rfl, rfl, w0⟩ := open_string Tryz.underlying9 (hval 0 9 v0 rfl rfl) h0
 clear hA0 hval0
 refine (walk s0 W w0 (tab_of hL)).mono fun e W' ⟨he, bel⟩ => ?_
 subst he
 exact ⟨_, rfl, _, _, _, [], _, [], hW', trodAll_mk1 (shut_bool Tryz.underlying4 _), (trodAll_cons_mk (shut_string Tryz.underlying9 w0) trodAll_mk0), rfl, bel.frame _, fun h => by cases h⟩

theorem over : Rows.ratioReadsRow.holds Tryz.pinned (OpenSpec.ofChange Rows.ratioReadsSpec) :=
 OpenClaim.holds_of_wide 6 Tryz.f6 rfl rfl rfl rfl rfl rfl rfl ⟨rfl, rfl, rfl, rfl, rfl⟩ rfl rfl rfl rfl rfl (by kernel_rfl) Tryz.func6 (by kernel_rfl)
  (of_decide_eq_true (by kernel_rfl)) (by unfold Func.isWrapper; first | (rw [if_pos (by decide +kernel)]; kernel_rfl) | (rw [if_neg (by decide +kernel)]; exact ⟨rfl, rfl⟩))
  (fun os started H enc _ => lifted os started H enc)

end Go.Proofs.YthlogenaienkhaaGreatDoor.ratioReads
namespace Go.Proofs.YthlogenaienkhaaGreatDoor
/-- The statement: the row, tied to the text of the program. -/
theorem ratioReads_holds : Rows.RatioReadsCardSaid :=
 Claim7.holds_tied_plain_at .later [] [.data] true (true, "3380e13b50b7f32269091fe29852d4a9c6381b7d7ac34cf65ee07c32c1b30c36") false
  ratioReads.over (fun _ h => by cases h) (by kernel_rfl) (fun _ h => by cases h) ratioReads_row_tie rfl ⟨rfl, rfl⟩ (by kernel_rfl) rfl
  (fun f fn hf hfn => by
   obtain rfl : f = 6 := Option.some.inj ((show Tryz.prog.funcNamed "dendron/dendronlaw03.RatioReads" = some 6 by kernel_rfl).symm.trans hf) |>.symm
   obtain rfl : fn = Tryz.f6 := (Option.some.inj (Tryz.func6.symm.trans hfn)).symm
   exact ⟨by kernel_rfl, fun j t ht => by
    rw [Tryz.params6] at ht
    have hm : t ∈ [9] := by simpa using Array.mem_of_getElem? ht
    have hall : ([9].all fun u => !Tryz.prog.wantsStandIn u) = true := by kernel_rfl
    exact (show Tryz.prog.wantsStandIn t = false by simpa using List.all_eq_true.1 hall t hm)⟩)
  (by kernel_rfl)
end Go.Proofs.YthlogenaienkhaaGreatDoor
