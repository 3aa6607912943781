/-
 Proves that valid's Parse tells which model any text of up to 4000 bytes is, or its first fault, as the document says, whatever comes in (the statement ValidParses, its tied card); the tables of math/bits and of strconv, the table of unicode/utf8 and strconv's two errors lie as the program's text lays them; no other condition.
-/
import Derived.Test.YthkamfddbiheoaaGreatDoorRows
import Derived.Test.YthkamfddbiheoaaGreatDoorJ3ed76a0bb3
import Derived.Test.YthkamfddbiheoaaGreatDoorJ0f71ddbfb2
import Derived.Test.YthkamfddbiheoaaGreatDoorJa3f7135d0b
import Derived.WalkKit
import Derived.ProofKit
import Derived.OpenShut
import Derived.ShutString
import Derived.ChangeOld
import Derived.Below
import Derived.Test.YthkamfddbiheoaaGreatDoorTie
import Derived.Test.YthkamfddbiheoaaGreatDoorCards
import Derived.LaidByTextLater
import Derived.LaidHandle
import Derived.Lib.LaidTab
import Derived.SevenTiedAt
import Derived.Lay
import Derived.Stop.Joined
import Derived.Stop.LaidErr
namespace Go.Proofs.YthkamfddbiheoaaGreatDoor.validParses
open Go.ChangeShapes Go.WideShapes Go.ChangeAt Go.RowKit
open Go.ChangeMaps (open_string shut_string)
set_option linter.unusedVariables false
set_option linter.unusedSimpArgs false

theorem named : True := by
 have _ := @vparse_at
 have _ := @mread_at
 have _ := @lcheck_at
 have _ := @awake8_at
 have _ := @same7_at
 have _ := @TMo.mrowG
 have _ := @mrT_good
 have _ := @rd0_fine
 have _ := @ChkOut.one
 have _ := @ChkOut.open
 have _ := @V2.lay
 have _ := @V4.lay
 have _ := @V2.blk
 have _ := @V4.blk
 have _ := @V2.below
 have _ := @V4.below
 have _ := @V2.same
 have _ := @V4.same
 have _ := @TMo.nil
 have _ := @TMo.le
 have _ := @TMo.form
 have _ := @TMo.below
 have _ := @TMo.sd
 have _ := @Sd.set
 have _ := @Sd.below
 have _ := @TMo.set
 have _ := @mrT_len
 have _ := @mrT_all
 have _ := @Erg.below
 have _ := @Tab.below
 have _ := @keepL_set
 have _ := @limb_int
 have _ := @limb_slice
 have _ := @cell_set_by
 have _ := @cell_set_at
 have _ := @cell_later
 have _ := @C6.below
 have _ := @Exit.then
 trivial

set_option maxRecDepth 100000 in
set_option maxHeartbeats 16000000 in
theorem walk (s : ByteArray) (w : World) (hs : s.size ≤ maxLen) (ht : Tab w) (hE : Erg w) :
  Calls Tryz.prog 6 #[.string s] w fun e w' => e = .returned (.bool true) ∧ Below w.heap.size w w' := by
 have hs2 := hs
 unfold maxLen at hs2
 by_cases h4 : 4000 < s.size
 ·have hi : (4000 : Int) < (s.size : Int) := by omega
  obtain ⟨T, hTe⟩ : ∃ T, s.extract 0 4000 = T := ⟨_, rfl⟩
  have hT : T.size ≤ 4000 := by rw [← hTe, ByteArray.size_extract]; omega
  have HTE : Hid (s.extract 0 4000 = T) := hTe
  clear hTe
  go_enter Tryz.func6, Tryz.ntmps6
  go_wp2_with fail
  have HG : Hid (∀ l ∈ mrT T, ∀ d ∈ l, GoodN d) := mrT_good T hT (rd0_fine T w hT)
  have HL : Hid ((mrT T).length ≤ 1000) := Nat.le_trans (mrT_len T) (by omega)
  have HA : Hid (∀ l ∈ mrT T, l.length ≤ 1000) := fun l hl => Nat.le_trans (mrT_all T l hl) (by omega)
  have HLE : Hid (∀ l ∈ ([] : List (List TidN)), l.length ≤ 1000) := fun l hl => by simp at hl
  have CP := vparse_at T w hT ht hE
  unfold VpOut at CP
  have CPH : Hid _ := CP
  clear CP
  have CR := fun (W : World) (a : Tab W) (b : Erg W) => mread_at T W hT a b
  unfold ReadOut at CR
  have CRH : Hid _ := CR
  clear CR
  rw [HTE.out]
  refine Calls.mono CPH.out ?_
  rintro e w1 ⟨F, v, ls, a, b, c, d, rfl, MO, HV, b1⟩
  clear CPH
  have ht1 := ht.below b1
  have hE1 := hE.below b1
  have BB := b1
  have hw0 := b1.size
  clear b1
  cases HV
  case bad h =>
   have he : ¬ (mrE T : Int) = 0 := by omega
   have d1 : ((mrE T : Int) == 0) = false := by simpa using he
   have d2 : decide ((mrE T : Int) = 0) = false := by simpa using he
   have d3 : ((mrE T : Int) != 0) = true := by simpa using he
   obtain ⟨E, hE_⟩ : ∃ q : Int, (mrE T : Int) = q := ⟨_, rfl⟩
   obtain ⟨A, hA_⟩ : ∃ q : Int, (mrA T : Int) = q := ⟨_, rfl⟩
   rw [hE_] at he d1 d2 d3
   have HEE : Hid ((mrE T : Int) = E) := hE_
   have HAA : Hid ((mrA T : Int) = A) := hA_
   rw [hE_, hA_]
   clear hE_ hA_ h he
   obtain ⟨av, cv, hv, hcv⟩ := MO.form
   rw [List.length_nil] at hv
   subst hv
   clear hcv
   obtain ⟨W1, hW1, hS1, hL1, VM⟩ := V2.lay w1 24 (.int .i64 0) (.slice av 0 cv)
   obtain ⟨W2, hW2, hS2, hL2, VF⟩ := V4.lay W1 31 (.int .i64 E) (.int .i64 A) (.int .i64 0) (.int .i64 0)
   rw [hS1] at VF
   replace VM := VM.below hL2
   have BL : Below w1.heap.size w1 W2 := hL1.trans (hL2.mono (by omega))
   obtain ⟨q1, q2, q3, q4⟩ := id VM
   rw [hW2, hW1] at q1 q2 q3 q4
   obtain ⟨⟨f1, f2, f3, f4, f5, f6⟩, f7, f8⟩ := id VF
   rw [hW2, hW1] at f1 f2 f3 f4 f5 f6 f7 f8
   go_wp2_with fail
   rw [← hW1]
   rw [← hW2]
   clear q1 q2 q3 q4 f1 f2 f3 f4 f5 f6 f7 f8 hW1 hW2
   replace BB := BB.trans (BL.mono BB.size)
   have BA := BL
   have ht2 := ht1.below BL
   have hE2 := hE1.below BL
   have hsz : W2.heap.size = w1.heap.size + 1 + 1 := by omega
   clear hS1 hS2 hL1 hL2 BL ht1 hE1
   obtain ⟨RB, h_RB⟩ : ∃ q, w1.heap.size + 1 = q := ⟨_, rfl⟩
   rw [h_RB] at VF
   rw [h_RB]
   obtain ⟨RA, h_RA⟩ : ∃ q, w1.heap.size = q := ⟨_, rfl⟩
   have hw1 : w.heap.size ≤ RA := by omega
   have HMO : Hid (∀ W, Below RA w1 W → TMo w.heap.size W (.slice av 0 cv) ([] : List (List TidN))) := fun W hb => MO.below (by rw [h_RA]; exact hb)
   rw [h_RA] at VM BA
   rw [h_RA]
   have sA : RA ≤ W2.heap.size := by omega
   have hwA : Hid (w.heap.size ≤ RA) := hw1
   clear h_RA h_RB hsz MO
   refine Calls.mono (CRH.out _ ht2 hE2) ?_
   rintro e w3 ⟨v2, rfl, MO2, b3⟩
   rw [HEE.out, HAA.out]
   obtain ⟨F2, hF_⟩ : ∃ q : Int, (mrF T : Int) = q := ⟨_, rfl⟩
   rw [hF_]
   obtain ⟨l2, hl_⟩ : ∃ q, mrT T = q := ⟨_, rfl⟩
   rw [hl_] at MO2
   clear hF_ hl_
   replace VM := VM.below b3
   replace VF := VF.below b3
   replace BA := BA.trans (b3.mono sA)
   replace sA := Nat.le_trans sA b3.size
   replace BB := BB.trans (b3.mono BB.size)
   have ht3 := ht2.below b3
   clear b3 ht2 hE2 CRH
   have lA := VM.lt
   have lB : RB < w3.heap.size := VF.lt
   obtain ⟨a2, c2, rfl, hc2⟩ := MO2.form
   clear hc2
   obtain ⟨W4, hW4, hS4, hL4, VN⟩ := V2.lay w3 24 (.int .i64 F2) (.slice a2 l2.length c2)
   obtain ⟨W5, hW5, hS5, hL5, VG⟩ := V4.lay W4 31 (.int .i64 E) (.int .i64 A) (.int .i64 0) (.int .i64 0)
   rw [hS4] at VG
   replace VN := VN.below hL5
   have BL : Below w3.heap.size w3 W5 := hL4.trans (hL5.mono (by omega))
   replace VM := VM.below BL
   replace VF := VF.below BL
   replace BA := BA.trans (BL.mono sA)
   replace sA := Nat.le_trans sA BL.size
   have BC := BL
   replace BB := BB.trans (BL.mono BB.size)
   replace ht3 := ht3.below BL
   obtain ⟨q1, q2, q3, q4⟩ := id VN
   rw [hW5, hW4] at q1 q2 q3 q4
   obtain ⟨⟨f1, f2, f3, f4, f5, f6⟩, f7, f8⟩ := id VG
   rw [hW5, hW4] at f1 f2 f3 f4 f5 f6 f7 f8
   obtain ⟨p1, p2, p3, p4⟩ := id VM
   rw [hW5, hW4] at p1 p2 p3 p4
   obtain ⟨⟨g1, g2, g3, g4, g5, g6⟩, g7, g8⟩ := id VF
   rw [hW5, hW4] at g1 g2 g3 g4 g5 g6 g7 g8
   go_wp2_with fail
   rw [← hW4]
   rw [← hW5]
   clear q1 q2 q3 q4 f1 f2 f3 f4 f5 f6 f7 f8 p1 p2 p3 p4 g1 g2 g3 g4 g5 g6 g7 g8 hW4 hW5 hL4 hL5 BL
   obtain ⟨RD, h_RD⟩ : ∃ q, w3.heap.size + 1 = q := ⟨_, rfl⟩
   rw [h_RD] at VG
   rw [h_RD]
   obtain ⟨RC, h_RC⟩ : ∃ q, w3.heap.size = q := ⟨_, rfl⟩
   have HMO2 : Hid (∀ W, Below RC w3 W → TMo _ W (.slice a2 l2.length c2) l2) := fun W hb => MO2.below (by rw [h_RC]; exact hb)
   rw [h_RC] at VN lA lB BC
   rw [h_RC]
   have lCD : RC < RD := by omega
   have sC : RC ≤ W5.heap.size := by omega
   clear h_RC h_RD hS4 hS5 MO2
   refine (same7_at 0 _ (.slice none 0 0) _ 0 [] _ (HMO.out _ BA) (TMo.nil _ _) (by simp) HLE.out).mono ?_
   rintro e w8 ⟨rfl, b8⟩
   replace BB := BB.trans (b8.mono BB.size)
   replace ht3 := ht3.below b8
   clear b8
   go_wp2_with fail
   refine (awake8_at _ ht3).mono ?_
   rintro e w9 ⟨rfl, b9⟩
   replace BB := BB.trans (b9.mono BB.size)
   clear b9 ht3
   go_wp2
   go_ret
   exact ⟨rfl, BB⟩
  case fault h ha hc =>
   have he0 : (mrE T : Int) = 0 := by omega
   have ha0 : (mrA T : Int) = 0 := by unfold mrA; rw [if_pos h]; rfl
   have HEE : Hid ((mrE T : Int) = 0) := he0
   have HAA : Hid ((mrA T : Int) = 0) := ha0
   clear he0 ha0 h
   obtain ⟨F2, hF_⟩ : ∃ q : Int, (mrF T : Int) = q := ⟨_, rfl⟩
   have HFF : Hid ((mrF T : Int) = F2) := hF_
   obtain ⟨l2, hl_⟩ : ∃ q, mrT T = q := ⟨_, rfl⟩
   have HLL : Hid (mrT T = l2) := hl_
   rw [hF_, hl_] at hc
   unfold Flt at hc
   have HC : Hid _ := hc
   clear hF_ hl_ hc
   have d1 : (a == 0) = false := by simpa using ha
   have d2 : decide (a = 0) = false := by simpa using ha
   have d3 : (a != 0) = true := by simpa using ha
   clear ha
   obtain ⟨av, cv, hv, hcv⟩ := MO.form
   rw [List.length_nil] at hv
   subst hv
   clear hcv
   obtain ⟨W1, hW1, hS1, hL1, VM⟩ := V2.lay w1 24 (.int .i64 0) (.slice av 0 cv)
   obtain ⟨W2, hW2, hS2, hL2, VF⟩ := V4.lay W1 31 (.int .i64 a) (.int .i64 0) (.int .i64 c) (.int .i64 d)
   rw [hS1] at VF
   replace VM := VM.below hL2
   have BL : Below w1.heap.size w1 W2 := hL1.trans (hL2.mono (by omega))
   obtain ⟨q1, q2, q3, q4⟩ := id VM
   rw [hW2, hW1] at q1 q2 q3 q4
   obtain ⟨⟨f1, f2, f3, f4, f5, f6⟩, f7, f8⟩ := id VF
   rw [hW2, hW1] at f1 f2 f3 f4 f5 f6 f7 f8
   go_wp2_with fail
   rw [← hW1]
   rw [← hW2]
   clear q1 q2 q3 q4 f1 f2 f3 f4 f5 f6 f7 f8 hW1 hW2
   replace BB := BB.trans (BL.mono BB.size)
   have BA := BL
   have ht2 := ht1.below BL
   have hE2 := hE1.below BL
   have hsz : W2.heap.size = w1.heap.size + 1 + 1 := by omega
   clear hS1 hS2 hL1 hL2 BL ht1 hE1
   obtain ⟨RB, h_RB⟩ : ∃ q, w1.heap.size + 1 = q := ⟨_, rfl⟩
   rw [h_RB] at VF
   rw [h_RB]
   obtain ⟨RA, h_RA⟩ : ∃ q, w1.heap.size = q := ⟨_, rfl⟩
   have hw1 : w.heap.size ≤ RA := by omega
   have HMO : Hid (∀ W, Below RA w1 W → TMo w.heap.size W (.slice av 0 cv) ([] : List (List TidN))) := fun W hb => MO.below (by rw [h_RA]; exact hb)
   rw [h_RA] at VM BA
   rw [h_RA]
   have sA : RA ≤ W2.heap.size := by omega
   have hwA : Hid (w.heap.size ≤ RA) := hw1
   clear h_RA h_RB hsz MO
   refine Calls.mono (CRH.out _ ht2 hE2) ?_
   rintro e w3 ⟨v2, rfl, MO2, b3⟩
   rw [HEE.out, HAA.out]
   rw [HFF.out]
   rw [HLL.out] at MO2
   replace VM := VM.below b3
   replace VF := VF.below b3
   replace BA := BA.trans (b3.mono sA)
   replace sA := Nat.le_trans sA b3.size
   replace BB := BB.trans (b3.mono BB.size)
   have ht3 := ht2.below b3
   clear b3 ht2 hE2 CRH
   have lA := VM.lt
   have lB : RB < w3.heap.size := VF.lt
   obtain ⟨a2, c2, rfl, hc2⟩ := MO2.form
   clear hc2
   obtain ⟨W4, hW4, hS4, hL4, VN⟩ := V2.lay w3 24 (.int .i64 F2) (.slice a2 l2.length c2)
   obtain ⟨W5, hW5, hS5, hL5, VG⟩ := V4.lay W4 31 (.int .i64 0) (.int .i64 0) (.int .i64 0) (.int .i64 0)
   rw [hS4] at VG
   replace VN := VN.below hL5
   have BL : Below w3.heap.size w3 W5 := hL4.trans (hL5.mono (by omega))
   replace VM := VM.below BL
   replace VF := VF.below BL
   replace BA := BA.trans (BL.mono sA)
   replace sA := Nat.le_trans sA BL.size
   have BC := BL
   replace BB := BB.trans (BL.mono BB.size)
   replace ht3 := ht3.below BL
   obtain ⟨q1, q2, q3, q4⟩ := id VN
   rw [hW5, hW4] at q1 q2 q3 q4
   obtain ⟨⟨f1, f2, f3, f4, f5, f6⟩, f7, f8⟩ := id VG
   rw [hW5, hW4] at f1 f2 f3 f4 f5 f6 f7 f8
   obtain ⟨p1, p2, p3, p4⟩ := id VM
   rw [hW5, hW4] at p1 p2 p3 p4
   obtain ⟨⟨g1, g2, g3, g4, g5, g6⟩, g7, g8⟩ := id VF
   rw [hW5, hW4] at g1 g2 g3 g4 g5 g6 g7 g8
   go_wp2_with fail
   rw [← hW4]
   rw [← hW5]
   clear q1 q2 q3 q4 f1 f2 f3 f4 f5 f6 f7 f8 p1 p2 p3 p4 g1 g2 g3 g4 g5 g6 g7 g8 hW4 hW5 hL4 hL5 BL
   obtain ⟨RD, h_RD⟩ : ∃ q, w3.heap.size + 1 = q := ⟨_, rfl⟩
   rw [h_RD] at VG
   rw [h_RD]
   obtain ⟨RC, h_RC⟩ : ∃ q, w3.heap.size = q := ⟨_, rfl⟩
   have HMO2 : Hid (∀ W, Below RC w3 W → TMo _ W (.slice a2 l2.length c2) l2) := fun W hb => MO2.below (by rw [h_RC]; exact hb)
   rw [h_RC] at VN lA lB BC
   rw [h_RC]
   have lCD : RC < RD := by omega
   have sC : RC ≤ W5.heap.size := by omega
   clear h_RC h_RD hS4 hS5 MO2
   have MR := TMo.mrowG (HMO2.out _ BC) (by rw [← HLL.out]; exact HG.out)
   refine (lcheck_at F2 _ l2.length (lenT l2) (ndT l2) 20000 _ MR ht3 (by omega) (by omega)).mono ?_
   rintro e w6 ⟨u, rfl, HC2, b6⟩
   have hu := HC2.one HC.out
   subst hu
   clear HC2 MR
   replace VM := VM.below b6
   replace VF := VF.below b6
   replace VN := VN.below b6
   replace VG := VG.below b6
   replace BA := BA.trans (b6.mono sA)
   replace BC := BC.trans (b6.mono sC)
   replace BB := BB.trans (b6.mono BB.size)
   replace ht3 := ht3.below b6
   clear b6
   obtain ⟨⟨f1, f2, f3, f4, f5, f6⟩, f7, f8⟩ := id VG
   have VG_n := VG.same (.int .i64 a) (.int .i64 0) (.int .i64 c) (.int .i64 d)
   have VM_n := VM.blk (w' := (((w6.setCell ⟨RD, 0, none⟩ (.int .i64 a)).setCell ⟨RD, 1, none⟩ (.int .i64 0)).setCell ⟨RD, 2, none⟩ (.int .i64 c)).setCell ⟨RD, 3, none⟩ (.int .i64 d)) ((((Below.heap_setCell _ _ _ _ (by show _ ≠ RD; omega)).trans (Below.heap_setCell _ _ _ _ (by show _ ≠ RD; omega))).trans (Below.heap_setCell _ _ _ _ (by show _ ≠ RD; omega))).trans (Below.heap_setCell _ _ _ _ (by show _ ≠ RD; omega)))
   have VF_n := VF.blk (w' := (((w6.setCell ⟨RD, 0, none⟩ (.int .i64 a)).setCell ⟨RD, 1, none⟩ (.int .i64 0)).setCell ⟨RD, 2, none⟩ (.int .i64 c)).setCell ⟨RD, 3, none⟩ (.int .i64 d)) ((((Below.heap_setCell _ _ _ _ (by show _ ≠ RD; omega)).trans (Below.heap_setCell _ _ _ _ (by show _ ≠ RD; omega))).trans (Below.heap_setCell _ _ _ _ (by show _ ≠ RD; omega))).trans (Below.heap_setCell _ _ _ _ (by show _ ≠ RD; omega)))
   have VN_n := VN.blk (w' := (((w6.setCell ⟨RD, 0, none⟩ (.int .i64 a)).setCell ⟨RD, 1, none⟩ (.int .i64 0)).setCell ⟨RD, 2, none⟩ (.int .i64 c)).setCell ⟨RD, 3, none⟩ (.int .i64 d)) ((((Below.heap_setCell _ _ _ _ (by show _ ≠ RD; omega)).trans (Below.heap_setCell _ _ _ _ (by show _ ≠ RD; omega))).trans (Below.heap_setCell _ _ _ _ (by show _ ≠ RD; omega))).trans (Below.heap_setCell _ _ _ _ (by show _ ≠ RD; omega)))
   have lRA : RA ≤ RD := by omega
   have KQ : KeepQ IsLimb w6 ((((w6.setCell ⟨RD, 0, none⟩ (.int .i64 a)).setCell ⟨RD, 1, none⟩ (.int .i64 0)).setCell ⟨RD, 2, none⟩ (.int .i64 c)).setCell ⟨RD, 3, none⟩ (.int .i64 d)) := ((((keepL_set f1 (limb_int _) (.int .i64 a)).trans (keepL_set (cell_set_by f2 (by omega)) (limb_int _) (.int .i64 0))).trans (keepL_set (cell_set_by (cell_set_by f3 (by omega)) (by omega)) (limb_int _) (.int .i64 c))).trans (keepL_set (cell_set_by (cell_set_by (cell_set_by f7 (by omega)) (by omega)) (by omega)) (limb_int _) (.int .i64 d)))
   have ht_n := ht3.keepL KQ
   have hwR : w.heap.size ≤ RD := by have := hwA.out; omega
   have BB_n := ((((BB).setCell (p := ⟨RD, 0, none⟩) (by show _ ≤ RD; omega) (.int .i64 a)).setCell (p := ⟨RD, 1, none⟩) (by show _ ≤ RD; omega) (.int .i64 0)).setCell (p := ⟨RD, 2, none⟩) (by show _ ≤ RD; omega) (.int .i64 c)).setCell (p := ⟨RD, 3, none⟩) (by show _ ≤ RD; omega) (.int .i64 d)
   have BA_n := ((((BA).setCell (p := ⟨RD, 0, none⟩) (by show _ ≤ RD; omega) (.int .i64 a)).setCell (p := ⟨RD, 1, none⟩) (by show _ ≤ RD; omega) (.int .i64 0)).setCell (p := ⟨RD, 2, none⟩) (by show _ ≤ RD; omega) (.int .i64 c)).setCell (p := ⟨RD, 3, none⟩) (by show _ ≤ RD; omega) (.int .i64 d)
   have BC_n := ((((BC).setCell (p := ⟨RD, 0, none⟩) (by show _ ≤ RD; omega) (.int .i64 a)).setCell (p := ⟨RD, 1, none⟩) (by show _ ≤ RD; omega) (.int .i64 0)).setCell (p := ⟨RD, 2, none⟩) (by show _ ≤ RD; omega) (.int .i64 c)).setCell (p := ⟨RD, 3, none⟩) (by show _ ≤ RD; omega) (.int .i64 d)
   obtain ⟨p1, p2, p3, p4⟩ := id VM_n
   obtain ⟨⟨g1, g2, g3, g4, g5, g6⟩, g7, g8⟩ := id VF_n
   obtain ⟨n1, n2, n3, n4⟩ := id VN_n
   obtain ⟨⟨m1, m2, m3, m4, m5, m6⟩, m7, m8⟩ := id VG_n
   go_wp2_with fail
   clear f1 f2 f3 f4 f5 f6 f7 f8 p1 p2 p3 p4 g1 g2 g3 g4 g5 g6 g7 g8 n1 n2 n3 n4 m1 m2 m3 m4 m5 m6 m7 m8 VM VF VN VG BB BA BC ht3 KQ
   generalize (((w6.setCell ⟨RD, 0, none⟩ (.int .i64 a)).setCell ⟨RD, 1, none⟩ (.int .i64 0)).setCell ⟨RD, 2, none⟩ (.int .i64 c)).setCell ⟨RD, 3, none⟩ (.int .i64 d) = w7 at *
   have BB := BB_n
   have BA := BA_n
   have BC := BC_n
   have ht3 := ht_n
   clear BB_n BA_n BC_n ht_n VM_n VF_n VN_n VG_n
   refine (same7_at 0 _ (.slice none 0 0) _ 0 [] _ (HMO.out _ BA) (TMo.nil _ _) (by simp) HLE.out).mono ?_
   rintro e w8 ⟨rfl, b8⟩
   replace BB := BB.trans (b8.mono BB.size)
   replace ht3 := ht3.below b8
   clear b8
   go_wp2_with fail
   refine (awake8_at _ ht3).mono ?_
   rintro e w9 ⟨rfl, b9⟩
   replace BB := BB.trans (b9.mono BB.size)
   clear b9 ht3
   go_wp2
   go_ret
   exact ⟨rfl, BB⟩
  case fine h hc =>
   have he0 : (mrE T : Int) = 0 := by omega
   have ha0 : (mrA T : Int) = 0 := by unfold mrA; rw [if_pos h]; rfl
   have HEE : Hid ((mrE T : Int) = 0) := he0
   have HAA : Hid ((mrA T : Int) = 0) := ha0
   clear he0 ha0 h
   obtain ⟨F2, hF_⟩ : ∃ q : Int, (mrF T : Int) = q := ⟨_, rfl⟩
   have HFF : Hid ((mrF T : Int) = F2) := hF_
   obtain ⟨l2, hl_⟩ : ∃ q, mrT T = q := ⟨_, rfl⟩
   have HLL : Hid (mrT T = l2) := hl_
   rw [hF_, hl_] at hc
   rw [hl_] at MO
   rw [hF_]
   unfold Flt at hc
   have HC : Hid _ := hc
   clear hF_ hl_ hc
   obtain ⟨av, cv, hv, hcv⟩ := MO.form
   subst hv
   clear hcv
   obtain ⟨W1, hW1, hS1, hL1, VM⟩ := V2.lay w1 24 (.int .i64 F2) (.slice av l2.length cv)
   obtain ⟨W2, hW2, hS2, hL2, VF⟩ := V4.lay W1 31 (.int .i64 0) (.int .i64 0) (.int .i64 0) (.int .i64 0)
   rw [hS1] at VF
   replace VM := VM.below hL2
   have BL : Below w1.heap.size w1 W2 := hL1.trans (hL2.mono (by omega))
   obtain ⟨q1, q2, q3, q4⟩ := id VM
   rw [hW2, hW1] at q1 q2 q3 q4
   obtain ⟨⟨f1, f2, f3, f4, f5, f6⟩, f7, f8⟩ := id VF
   rw [hW2, hW1] at f1 f2 f3 f4 f5 f6 f7 f8
   go_wp2_with fail
   rw [← hW1]
   rw [← hW2]
   clear q1 q2 q3 q4 f1 f2 f3 f4 f5 f6 f7 f8 hW1 hW2
   replace BB := BB.trans (BL.mono BB.size)
   have BA := BL
   have ht2 := ht1.below BL
   have hE2 := hE1.below BL
   have hsz : W2.heap.size = w1.heap.size + 1 + 1 := by omega
   clear hS1 hS2 hL1 hL2 BL ht1 hE1
   obtain ⟨RB, h_RB⟩ : ∃ q, w1.heap.size + 1 = q := ⟨_, rfl⟩
   rw [h_RB] at VF
   rw [h_RB]
   obtain ⟨RA, h_RA⟩ : ∃ q, w1.heap.size = q := ⟨_, rfl⟩
   have hw1 : w.heap.size ≤ RA := by omega
   have HMO : Hid (∀ W, Below RA w1 W → TMo w.heap.size W (.slice av l2.length cv) l2) := fun W hb => MO.below (by rw [h_RA]; exact hb)
   rw [h_RA] at VM BA
   rw [h_RA]
   have sA : RA ≤ W2.heap.size := by omega
   have hwA : Hid (w.heap.size ≤ RA) := hw1
   clear h_RA h_RB hsz MO
   refine Calls.mono (CRH.out _ ht2 hE2) ?_
   rintro e w3 ⟨v2, rfl, MO2, b3⟩
   rw [HEE.out, HAA.out]
   rw [HFF.out]
   rw [HLL.out] at MO2
   replace VM := VM.below b3
   replace VF := VF.below b3
   replace BA := BA.trans (b3.mono sA)
   replace sA := Nat.le_trans sA b3.size
   replace BB := BB.trans (b3.mono BB.size)
   have ht3 := ht2.below b3
   clear b3 ht2 hE2 CRH
   have lA := VM.lt
   have lB : RB < w3.heap.size := VF.lt
   obtain ⟨a2, c2, rfl, hc2⟩ := MO2.form
   clear hc2
   obtain ⟨W4, hW4, hS4, hL4, VN⟩ := V2.lay w3 24 (.int .i64 F2) (.slice a2 l2.length c2)
   obtain ⟨W5, hW5, hS5, hL5, VG⟩ := V4.lay W4 31 (.int .i64 0) (.int .i64 0) (.int .i64 0) (.int .i64 0)
   rw [hS4] at VG
   replace VN := VN.below hL5
   have BL : Below w3.heap.size w3 W5 := hL4.trans (hL5.mono (by omega))
   replace VM := VM.below BL
   replace VF := VF.below BL
   replace BA := BA.trans (BL.mono sA)
   replace sA := Nat.le_trans sA BL.size
   have BC := BL
   replace BB := BB.trans (BL.mono BB.size)
   replace ht3 := ht3.below BL
   obtain ⟨q1, q2, q3, q4⟩ := id VN
   rw [hW5, hW4] at q1 q2 q3 q4
   obtain ⟨⟨f1, f2, f3, f4, f5, f6⟩, f7, f8⟩ := id VG
   rw [hW5, hW4] at f1 f2 f3 f4 f5 f6 f7 f8
   obtain ⟨p1, p2, p3, p4⟩ := id VM
   rw [hW5, hW4] at p1 p2 p3 p4
   obtain ⟨⟨g1, g2, g3, g4, g5, g6⟩, g7, g8⟩ := id VF
   rw [hW5, hW4] at g1 g2 g3 g4 g5 g6 g7 g8
   go_wp2_with fail
   rw [← hW4]
   rw [← hW5]
   clear q1 q2 q3 q4 f1 f2 f3 f4 f5 f6 f7 f8 p1 p2 p3 p4 g1 g2 g3 g4 g5 g6 g7 g8 hW4 hW5 hL4 hL5 BL
   obtain ⟨RD, h_RD⟩ : ∃ q, w3.heap.size + 1 = q := ⟨_, rfl⟩
   rw [h_RD] at VG
   rw [h_RD]
   obtain ⟨RC, h_RC⟩ : ∃ q, w3.heap.size = q := ⟨_, rfl⟩
   have HMO2 : Hid (∀ W, Below RC w3 W → TMo _ W (.slice a2 l2.length c2) l2) := fun W hb => MO2.below (by rw [h_RC]; exact hb)
   rw [h_RC] at VN lA lB BC
   rw [h_RC]
   have lCD : RC < RD := by omega
   have sC : RC ≤ W5.heap.size := by omega
   clear h_RC h_RD hS4 hS5 MO2
   have MR := TMo.mrowG (HMO2.out _ BC) (by rw [← HLL.out]; exact HG.out)
   refine (lcheck_at F2 _ l2.length (lenT l2) (ndT l2) 20000 _ MR ht3 (by omega) (by omega)).mono ?_
   rintro e w6 ⟨u, rfl, HC2, b6⟩
   have hu := HC2.one HC.out
   subst hu
   clear HC2 MR
   replace VM := VM.below b6
   replace VF := VF.below b6
   replace VN := VN.below b6
   replace VG := VG.below b6
   replace BA := BA.trans (b6.mono sA)
   replace BC := BC.trans (b6.mono sC)
   replace BB := BB.trans (b6.mono BB.size)
   replace ht3 := ht3.below b6
   clear b6
   obtain ⟨⟨f1, f2, f3, f4, f5, f6⟩, f7, f8⟩ := id VG
   have VG_n := VG.same (.int .i64 0) (.int .i64 0) (.int .i64 0) (.int .i64 0)
   have VM_n := VM.blk (w' := (((w6.setCell ⟨RD, 0, none⟩ (.int .i64 0)).setCell ⟨RD, 1, none⟩ (.int .i64 0)).setCell ⟨RD, 2, none⟩ (.int .i64 0)).setCell ⟨RD, 3, none⟩ (.int .i64 0)) ((((Below.heap_setCell _ _ _ _ (by show _ ≠ RD; omega)).trans (Below.heap_setCell _ _ _ _ (by show _ ≠ RD; omega))).trans (Below.heap_setCell _ _ _ _ (by show _ ≠ RD; omega))).trans (Below.heap_setCell _ _ _ _ (by show _ ≠ RD; omega)))
   have VF_n := VF.blk (w' := (((w6.setCell ⟨RD, 0, none⟩ (.int .i64 0)).setCell ⟨RD, 1, none⟩ (.int .i64 0)).setCell ⟨RD, 2, none⟩ (.int .i64 0)).setCell ⟨RD, 3, none⟩ (.int .i64 0)) ((((Below.heap_setCell _ _ _ _ (by show _ ≠ RD; omega)).trans (Below.heap_setCell _ _ _ _ (by show _ ≠ RD; omega))).trans (Below.heap_setCell _ _ _ _ (by show _ ≠ RD; omega))).trans (Below.heap_setCell _ _ _ _ (by show _ ≠ RD; omega)))
   have VN_n := VN.blk (w' := (((w6.setCell ⟨RD, 0, none⟩ (.int .i64 0)).setCell ⟨RD, 1, none⟩ (.int .i64 0)).setCell ⟨RD, 2, none⟩ (.int .i64 0)).setCell ⟨RD, 3, none⟩ (.int .i64 0)) ((((Below.heap_setCell _ _ _ _ (by show _ ≠ RD; omega)).trans (Below.heap_setCell _ _ _ _ (by show _ ≠ RD; omega))).trans (Below.heap_setCell _ _ _ _ (by show _ ≠ RD; omega))).trans (Below.heap_setCell _ _ _ _ (by show _ ≠ RD; omega)))
   have lRA : RA ≤ RD := by omega
   have KQ : KeepQ IsLimb w6 ((((w6.setCell ⟨RD, 0, none⟩ (.int .i64 0)).setCell ⟨RD, 1, none⟩ (.int .i64 0)).setCell ⟨RD, 2, none⟩ (.int .i64 0)).setCell ⟨RD, 3, none⟩ (.int .i64 0)) := ((((keepL_set f1 (limb_int _) (.int .i64 0)).trans (keepL_set (cell_set_by f2 (by omega)) (limb_int _) (.int .i64 0))).trans (keepL_set (cell_set_by (cell_set_by f3 (by omega)) (by omega)) (limb_int _) (.int .i64 0))).trans (keepL_set (cell_set_by (cell_set_by (cell_set_by f7 (by omega)) (by omega)) (by omega)) (limb_int _) (.int .i64 0)))
   have ht_n := ht3.keepL KQ
   have hwR : w.heap.size ≤ RD := by have := hwA.out; omega
   have BB_n := ((((BB).setCell (p := ⟨RD, 0, none⟩) (by show _ ≤ RD; omega) (.int .i64 0)).setCell (p := ⟨RD, 1, none⟩) (by show _ ≤ RD; omega) (.int .i64 0)).setCell (p := ⟨RD, 2, none⟩) (by show _ ≤ RD; omega) (.int .i64 0)).setCell (p := ⟨RD, 3, none⟩) (by show _ ≤ RD; omega) (.int .i64 0)
   have BA_n := ((((BA).setCell (p := ⟨RD, 0, none⟩) (by show _ ≤ RD; omega) (.int .i64 0)).setCell (p := ⟨RD, 1, none⟩) (by show _ ≤ RD; omega) (.int .i64 0)).setCell (p := ⟨RD, 2, none⟩) (by show _ ≤ RD; omega) (.int .i64 0)).setCell (p := ⟨RD, 3, none⟩) (by show _ ≤ RD; omega) (.int .i64 0)
   have BC_n := ((((BC).setCell (p := ⟨RD, 0, none⟩) (by show _ ≤ RD; omega) (.int .i64 0)).setCell (p := ⟨RD, 1, none⟩) (by show _ ≤ RD; omega) (.int .i64 0)).setCell (p := ⟨RD, 2, none⟩) (by show _ ≤ RD; omega) (.int .i64 0)).setCell (p := ⟨RD, 3, none⟩) (by show _ ≤ RD; omega) (.int .i64 0)
   obtain ⟨p1, p2, p3, p4⟩ := id VM_n
   obtain ⟨⟨g1, g2, g3, g4, g5, g6⟩, g7, g8⟩ := id VF_n
   obtain ⟨n1, n2, n3, n4⟩ := id VN_n
   obtain ⟨⟨m1, m2, m3, m4, m5, m6⟩, m7, m8⟩ := id VG_n
   go_wp2_with fail
   clear f1 f2 f3 f4 f5 f6 f7 f8 p1 p2 p3 p4 g1 g2 g3 g4 g5 g6 g7 g8 n1 n2 n3 n4 m1 m2 m3 m4 m5 m6 m7 m8 VM VF VN VG BB BA BC ht3 KQ
   generalize (((w6.setCell ⟨RD, 0, none⟩ (.int .i64 0)).setCell ⟨RD, 1, none⟩ (.int .i64 0)).setCell ⟨RD, 2, none⟩ (.int .i64 0)).setCell ⟨RD, 3, none⟩ (.int .i64 0) = w7 at *
   have BB := BB_n
   have BA := BA_n
   have BC := BC_n
   have ht3 := ht_n
   clear BB_n BA_n BC_n ht_n VM_n VF_n VN_n VG_n
   refine (same7_at F2 _ _ _ _ l2 _ (HMO.out _ BA) (HMO2.out _ BC) (by rw [← HLL.out]; exact HL.out) (by rw [← HLL.out]; exact HA.out)).mono ?_
   rintro e w8 ⟨rfl, b8⟩
   replace BB := BB.trans (b8.mono BB.size)
   replace ht3 := ht3.below b8
   clear b8
   go_wp2_with fail
   refine (awake8_at _ ht3).mono ?_
   rintro e w9 ⟨rfl, b9⟩
   replace BB := BB.trans (b9.mono BB.size)
   clear b9 ht3
   go_wp2
   go_ret
   exact ⟨rfl, BB⟩
 ·have hi : ¬ (4000 : Int) < (s.size : Int) := by omega
  have hT : s.size ≤ 4000 := by omega
  go_enter Tryz.func6, Tryz.ntmps6
  go_wp2_with fail
  clear hi
  have HG : Hid (∀ l ∈ mrT s, ∀ d ∈ l, GoodN d) := mrT_good s hT (rd0_fine s w hT)
  have HL : Hid ((mrT s).length ≤ 1000) := Nat.le_trans (mrT_len s) (by omega)
  have HA : Hid (∀ l ∈ mrT s, l.length ≤ 1000) := fun l hl => Nat.le_trans (mrT_all s l hl) (by omega)
  have HLE : Hid (∀ l ∈ ([] : List (List TidN)), l.length ≤ 1000) := fun l hl => by simp at hl
  have CP := vparse_at s w hT ht hE
  unfold VpOut at CP
  have CPH : Hid _ := CP
  clear CP
  have CR := fun (W : World) (a : Tab W) (b : Erg W) => mread_at s W hT a b
  unfold ReadOut at CR
  have CRH : Hid _ := CR
  clear CR
  skip
  refine Calls.mono CPH.out ?_
  rintro e w1 ⟨F, v, ls, a, b, c, d, rfl, MO, HV, b1⟩
  clear CPH
  have ht1 := ht.below b1
  have hE1 := hE.below b1
  have BB := b1
  have hw0 := b1.size
  clear b1
  cases HV
  case bad h =>
   have he : ¬ (mrE s : Int) = 0 := by omega
   have d1 : ((mrE s : Int) == 0) = false := by simpa using he
   have d2 : decide ((mrE s : Int) = 0) = false := by simpa using he
   have d3 : ((mrE s : Int) != 0) = true := by simpa using he
   obtain ⟨E, hE_⟩ : ∃ q : Int, (mrE s : Int) = q := ⟨_, rfl⟩
   obtain ⟨A, hA_⟩ : ∃ q : Int, (mrA s : Int) = q := ⟨_, rfl⟩
   rw [hE_] at he d1 d2 d3
   have HEE : Hid ((mrE s : Int) = E) := hE_
   have HAA : Hid ((mrA s : Int) = A) := hA_
   rw [hE_, hA_]
   clear hE_ hA_ h he
   obtain ⟨av, cv, hv, hcv⟩ := MO.form
   rw [List.length_nil] at hv
   subst hv
   clear hcv
   obtain ⟨W1, hW1, hS1, hL1, VM⟩ := V2.lay w1 24 (.int .i64 0) (.slice av 0 cv)
   obtain ⟨W2, hW2, hS2, hL2, VF⟩ := V4.lay W1 31 (.int .i64 E) (.int .i64 A) (.int .i64 0) (.int .i64 0)
   rw [hS1] at VF
   replace VM := VM.below hL2
   have BL : Below w1.heap.size w1 W2 := hL1.trans (hL2.mono (by omega))
   obtain ⟨q1, q2, q3, q4⟩ := id VM
   rw [hW2, hW1] at q1 q2 q3 q4
   obtain ⟨⟨f1, f2, f3, f4, f5, f6⟩, f7, f8⟩ := id VF
   rw [hW2, hW1] at f1 f2 f3 f4 f5 f6 f7 f8
   go_wp2_with fail
   rw [← hW1]
   rw [← hW2]
   clear q1 q2 q3 q4 f1 f2 f3 f4 f5 f6 f7 f8 hW1 hW2
   replace BB := BB.trans (BL.mono BB.size)
   have BA := BL
   have ht2 := ht1.below BL
   have hE2 := hE1.below BL
   have hsz : W2.heap.size = w1.heap.size + 1 + 1 := by omega
   clear hS1 hS2 hL1 hL2 BL ht1 hE1
   obtain ⟨RB, h_RB⟩ : ∃ q, w1.heap.size + 1 = q := ⟨_, rfl⟩
   rw [h_RB] at VF
   rw [h_RB]
   obtain ⟨RA, h_RA⟩ : ∃ q, w1.heap.size = q := ⟨_, rfl⟩
   have hw1 : w.heap.size ≤ RA := by omega
   have HMO : Hid (∀ W, Below RA w1 W → TMo w.heap.size W (.slice av 0 cv) ([] : List (List TidN))) := fun W hb => MO.below (by rw [h_RA]; exact hb)
   rw [h_RA] at VM BA
   rw [h_RA]
   have sA : RA ≤ W2.heap.size := by omega
   have hwA : Hid (w.heap.size ≤ RA) := hw1
   clear h_RA h_RB hsz MO
   refine Calls.mono (CRH.out _ ht2 hE2) ?_
   rintro e w3 ⟨v2, rfl, MO2, b3⟩
   rw [HEE.out, HAA.out]
   obtain ⟨F2, hF_⟩ : ∃ q : Int, (mrF s : Int) = q := ⟨_, rfl⟩
   rw [hF_]
   obtain ⟨l2, hl_⟩ : ∃ q, mrT s = q := ⟨_, rfl⟩
   rw [hl_] at MO2
   clear hF_ hl_
   replace VM := VM.below b3
   replace VF := VF.below b3
   replace BA := BA.trans (b3.mono sA)
   replace sA := Nat.le_trans sA b3.size
   replace BB := BB.trans (b3.mono BB.size)
   have ht3 := ht2.below b3
   clear b3 ht2 hE2 CRH
   have lA := VM.lt
   have lB : RB < w3.heap.size := VF.lt
   obtain ⟨a2, c2, rfl, hc2⟩ := MO2.form
   clear hc2
   obtain ⟨W4, hW4, hS4, hL4, VN⟩ := V2.lay w3 24 (.int .i64 F2) (.slice a2 l2.length c2)
   obtain ⟨W5, hW5, hS5, hL5, VG⟩ := V4.lay W4 31 (.int .i64 E) (.int .i64 A) (.int .i64 0) (.int .i64 0)
   rw [hS4] at VG
   replace VN := VN.below hL5
   have BL : Below w3.heap.size w3 W5 := hL4.trans (hL5.mono (by omega))
   replace VM := VM.below BL
   replace VF := VF.below BL
   replace BA := BA.trans (BL.mono sA)
   replace sA := Nat.le_trans sA BL.size
   have BC := BL
   replace BB := BB.trans (BL.mono BB.size)
   replace ht3 := ht3.below BL
   obtain ⟨q1, q2, q3, q4⟩ := id VN
   rw [hW5, hW4] at q1 q2 q3 q4
   obtain ⟨⟨f1, f2, f3, f4, f5, f6⟩, f7, f8⟩ := id VG
   rw [hW5, hW4] at f1 f2 f3 f4 f5 f6 f7 f8
   obtain ⟨p1, p2, p3, p4⟩ := id VM
   rw [hW5, hW4] at p1 p2 p3 p4
   obtain ⟨⟨g1, g2, g3, g4, g5, g6⟩, g7, g8⟩ := id VF
   rw [hW5, hW4] at g1 g2 g3 g4 g5 g6 g7 g8
   go_wp2_with fail
   rw [← hW4]
   rw [← hW5]
   clear q1 q2 q3 q4 f1 f2 f3 f4 f5 f6 f7 f8 p1 p2 p3 p4 g1 g2 g3 g4 g5 g6 g7 g8 hW4 hW5 hL4 hL5 BL
   obtain ⟨RD, h_RD⟩ : ∃ q, w3.heap.size + 1 = q := ⟨_, rfl⟩
   rw [h_RD] at VG
   rw [h_RD]
   obtain ⟨RC, h_RC⟩ : ∃ q, w3.heap.size = q := ⟨_, rfl⟩
   have HMO2 : Hid (∀ W, Below RC w3 W → TMo _ W (.slice a2 l2.length c2) l2) := fun W hb => MO2.below (by rw [h_RC]; exact hb)
   rw [h_RC] at VN lA lB BC
   rw [h_RC]
   have lCD : RC < RD := by omega
   have sC : RC ≤ W5.heap.size := by omega
   clear h_RC h_RD hS4 hS5 MO2
   refine (same7_at 0 _ (.slice none 0 0) _ 0 [] _ (HMO.out _ BA) (TMo.nil _ _) (by simp) HLE.out).mono ?_
   rintro e w8 ⟨rfl, b8⟩
   replace BB := BB.trans (b8.mono BB.size)
   replace ht3 := ht3.below b8
   clear b8
   go_wp2_with fail
   refine (awake8_at _ ht3).mono ?_
   rintro e w9 ⟨rfl, b9⟩
   replace BB := BB.trans (b9.mono BB.size)
   clear b9 ht3
   go_wp2
   go_ret
   exact ⟨rfl, BB⟩
  case fault h ha hc =>
   have he0 : (mrE s : Int) = 0 := by omega
   have ha0 : (mrA s : Int) = 0 := by unfold mrA; rw [if_pos h]; rfl
   have HEE : Hid ((mrE s : Int) = 0) := he0
   have HAA : Hid ((mrA s : Int) = 0) := ha0
   clear he0 ha0 h
   obtain ⟨F2, hF_⟩ : ∃ q : Int, (mrF s : Int) = q := ⟨_, rfl⟩
   have HFF : Hid ((mrF s : Int) = F2) := hF_
   obtain ⟨l2, hl_⟩ : ∃ q, mrT s = q := ⟨_, rfl⟩
   have HLL : Hid (mrT s = l2) := hl_
   rw [hF_, hl_] at hc
   unfold Flt at hc
   have HC : Hid _ := hc
   clear hF_ hl_ hc
   have d1 : (a == 0) = false := by simpa using ha
   have d2 : decide (a = 0) = false := by simpa using ha
   have d3 : (a != 0) = true := by simpa using ha
   clear ha
   obtain ⟨av, cv, hv, hcv⟩ := MO.form
   rw [List.length_nil] at hv
   subst hv
   clear hcv
   obtain ⟨W1, hW1, hS1, hL1, VM⟩ := V2.lay w1 24 (.int .i64 0) (.slice av 0 cv)
   obtain ⟨W2, hW2, hS2, hL2, VF⟩ := V4.lay W1 31 (.int .i64 a) (.int .i64 0) (.int .i64 c) (.int .i64 d)
   rw [hS1] at VF
   replace VM := VM.below hL2
   have BL : Below w1.heap.size w1 W2 := hL1.trans (hL2.mono (by omega))
   obtain ⟨q1, q2, q3, q4⟩ := id VM
   rw [hW2, hW1] at q1 q2 q3 q4
   obtain ⟨⟨f1, f2, f3, f4, f5, f6⟩, f7, f8⟩ := id VF
   rw [hW2, hW1] at f1 f2 f3 f4 f5 f6 f7 f8
   go_wp2_with fail
   rw [← hW1]
   rw [← hW2]
   clear q1 q2 q3 q4 f1 f2 f3 f4 f5 f6 f7 f8 hW1 hW2
   replace BB := BB.trans (BL.mono BB.size)
   have BA := BL
   have ht2 := ht1.below BL
   have hE2 := hE1.below BL
   have hsz : W2.heap.size = w1.heap.size + 1 + 1 := by omega
   clear hS1 hS2 hL1 hL2 BL ht1 hE1
   obtain ⟨RB, h_RB⟩ : ∃ q, w1.heap.size + 1 = q := ⟨_, rfl⟩
   rw [h_RB] at VF
   rw [h_RB]
   obtain ⟨RA, h_RA⟩ : ∃ q, w1.heap.size = q := ⟨_, rfl⟩
   have hw1 : w.heap.size ≤ RA := by omega
   have HMO : Hid (∀ W, Below RA w1 W → TMo w.heap.size W (.slice av 0 cv) ([] : List (List TidN))) := fun W hb => MO.below (by rw [h_RA]; exact hb)
   rw [h_RA] at VM BA
   rw [h_RA]
   have sA : RA ≤ W2.heap.size := by omega
   have hwA : Hid (w.heap.size ≤ RA) := hw1
   clear h_RA h_RB hsz MO
   refine Calls.mono (CRH.out _ ht2 hE2) ?_
   rintro e w3 ⟨v2, rfl, MO2, b3⟩
   rw [HEE.out, HAA.out]
   rw [HFF.out]
   rw [HLL.out] at MO2
   replace VM := VM.below b3
   replace VF := VF.below b3
   replace BA := BA.trans (b3.mono sA)
   replace sA := Nat.le_trans sA b3.size
   replace BB := BB.trans (b3.mono BB.size)
   have ht3 := ht2.below b3
   clear b3 ht2 hE2 CRH
   have lA := VM.lt
   have lB : RB < w3.heap.size := VF.lt
   obtain ⟨a2, c2, rfl, hc2⟩ := MO2.form
   clear hc2
   obtain ⟨W4, hW4, hS4, hL4, VN⟩ := V2.lay w3 24 (.int .i64 F2) (.slice a2 l2.length c2)
   obtain ⟨W5, hW5, hS5, hL5, VG⟩ := V4.lay W4 31 (.int .i64 0) (.int .i64 0) (.int .i64 0) (.int .i64 0)
   rw [hS4] at VG
   replace VN := VN.below hL5
   have BL : Below w3.heap.size w3 W5 := hL4.trans (hL5.mono (by omega))
   replace VM := VM.below BL
   replace VF := VF.below BL
   replace BA := BA.trans (BL.mono sA)
   replace sA := Nat.le_trans sA BL.size
   have BC := BL
   replace BB := BB.trans (BL.mono BB.size)
   replace ht3 := ht3.below BL
   obtain ⟨q1, q2, q3, q4⟩ := id VN
   rw [hW5, hW4] at q1 q2 q3 q4
   obtain ⟨⟨f1, f2, f3, f4, f5, f6⟩, f7, f8⟩ := id VG
   rw [hW5, hW4] at f1 f2 f3 f4 f5 f6 f7 f8
   obtain ⟨p1, p2, p3, p4⟩ := id VM
   rw [hW5, hW4] at p1 p2 p3 p4
   obtain ⟨⟨g1, g2, g3, g4, g5, g6⟩, g7, g8⟩ := id VF
   rw [hW5, hW4] at g1 g2 g3 g4 g5 g6 g7 g8
   go_wp2_with fail
   rw [← hW4]
   rw [← hW5]
   clear q1 q2 q3 q4 f1 f2 f3 f4 f5 f6 f7 f8 p1 p2 p3 p4 g1 g2 g3 g4 g5 g6 g7 g8 hW4 hW5 hL4 hL5 BL
   obtain ⟨RD, h_RD⟩ : ∃ q, w3.heap.size + 1 = q := ⟨_, rfl⟩
   rw [h_RD] at VG
   rw [h_RD]
   obtain ⟨RC, h_RC⟩ : ∃ q, w3.heap.size = q := ⟨_, rfl⟩
   have HMO2 : Hid (∀ W, Below RC w3 W → TMo _ W (.slice a2 l2.length c2) l2) := fun W hb => MO2.below (by rw [h_RC]; exact hb)
   rw [h_RC] at VN lA lB BC
   rw [h_RC]
   have lCD : RC < RD := by omega
   have sC : RC ≤ W5.heap.size := by omega
   clear h_RC h_RD hS4 hS5 MO2
   have MR := TMo.mrowG (HMO2.out _ BC) (by rw [← HLL.out]; exact HG.out)
   refine (lcheck_at F2 _ l2.length (lenT l2) (ndT l2) 20000 _ MR ht3 (by omega) (by omega)).mono ?_
   rintro e w6 ⟨u, rfl, HC2, b6⟩
   have hu := HC2.one HC.out
   subst hu
   clear HC2 MR
   replace VM := VM.below b6
   replace VF := VF.below b6
   replace VN := VN.below b6
   replace VG := VG.below b6
   replace BA := BA.trans (b6.mono sA)
   replace BC := BC.trans (b6.mono sC)
   replace BB := BB.trans (b6.mono BB.size)
   replace ht3 := ht3.below b6
   clear b6
   obtain ⟨⟨f1, f2, f3, f4, f5, f6⟩, f7, f8⟩ := id VG
   have VG_n := VG.same (.int .i64 a) (.int .i64 0) (.int .i64 c) (.int .i64 d)
   have VM_n := VM.blk (w' := (((w6.setCell ⟨RD, 0, none⟩ (.int .i64 a)).setCell ⟨RD, 1, none⟩ (.int .i64 0)).setCell ⟨RD, 2, none⟩ (.int .i64 c)).setCell ⟨RD, 3, none⟩ (.int .i64 d)) ((((Below.heap_setCell _ _ _ _ (by show _ ≠ RD; omega)).trans (Below.heap_setCell _ _ _ _ (by show _ ≠ RD; omega))).trans (Below.heap_setCell _ _ _ _ (by show _ ≠ RD; omega))).trans (Below.heap_setCell _ _ _ _ (by show _ ≠ RD; omega)))
   have VF_n := VF.blk (w' := (((w6.setCell ⟨RD, 0, none⟩ (.int .i64 a)).setCell ⟨RD, 1, none⟩ (.int .i64 0)).setCell ⟨RD, 2, none⟩ (.int .i64 c)).setCell ⟨RD, 3, none⟩ (.int .i64 d)) ((((Below.heap_setCell _ _ _ _ (by show _ ≠ RD; omega)).trans (Below.heap_setCell _ _ _ _ (by show _ ≠ RD; omega))).trans (Below.heap_setCell _ _ _ _ (by show _ ≠ RD; omega))).trans (Below.heap_setCell _ _ _ _ (by show _ ≠ RD; omega)))
   have VN_n := VN.blk (w' := (((w6.setCell ⟨RD, 0, none⟩ (.int .i64 a)).setCell ⟨RD, 1, none⟩ (.int .i64 0)).setCell ⟨RD, 2, none⟩ (.int .i64 c)).setCell ⟨RD, 3, none⟩ (.int .i64 d)) ((((Below.heap_setCell _ _ _ _ (by show _ ≠ RD; omega)).trans (Below.heap_setCell _ _ _ _ (by show _ ≠ RD; omega))).trans (Below.heap_setCell _ _ _ _ (by show _ ≠ RD; omega))).trans (Below.heap_setCell _ _ _ _ (by show _ ≠ RD; omega)))
   have lRA : RA ≤ RD := by omega
   have KQ : KeepQ IsLimb w6 ((((w6.setCell ⟨RD, 0, none⟩ (.int .i64 a)).setCell ⟨RD, 1, none⟩ (.int .i64 0)).setCell ⟨RD, 2, none⟩ (.int .i64 c)).setCell ⟨RD, 3, none⟩ (.int .i64 d)) := ((((keepL_set f1 (limb_int _) (.int .i64 a)).trans (keepL_set (cell_set_by f2 (by omega)) (limb_int _) (.int .i64 0))).trans (keepL_set (cell_set_by (cell_set_by f3 (by omega)) (by omega)) (limb_int _) (.int .i64 c))).trans (keepL_set (cell_set_by (cell_set_by (cell_set_by f7 (by omega)) (by omega)) (by omega)) (limb_int _) (.int .i64 d)))
   have ht_n := ht3.keepL KQ
   have hwR : w.heap.size ≤ RD := by have := hwA.out; omega
   have BB_n := ((((BB).setCell (p := ⟨RD, 0, none⟩) (by show _ ≤ RD; omega) (.int .i64 a)).setCell (p := ⟨RD, 1, none⟩) (by show _ ≤ RD; omega) (.int .i64 0)).setCell (p := ⟨RD, 2, none⟩) (by show _ ≤ RD; omega) (.int .i64 c)).setCell (p := ⟨RD, 3, none⟩) (by show _ ≤ RD; omega) (.int .i64 d)
   have BA_n := ((((BA).setCell (p := ⟨RD, 0, none⟩) (by show _ ≤ RD; omega) (.int .i64 a)).setCell (p := ⟨RD, 1, none⟩) (by show _ ≤ RD; omega) (.int .i64 0)).setCell (p := ⟨RD, 2, none⟩) (by show _ ≤ RD; omega) (.int .i64 c)).setCell (p := ⟨RD, 3, none⟩) (by show _ ≤ RD; omega) (.int .i64 d)
   have BC_n := ((((BC).setCell (p := ⟨RD, 0, none⟩) (by show _ ≤ RD; omega) (.int .i64 a)).setCell (p := ⟨RD, 1, none⟩) (by show _ ≤ RD; omega) (.int .i64 0)).setCell (p := ⟨RD, 2, none⟩) (by show _ ≤ RD; omega) (.int .i64 c)).setCell (p := ⟨RD, 3, none⟩) (by show _ ≤ RD; omega) (.int .i64 d)
   obtain ⟨p1, p2, p3, p4⟩ := id VM_n
   obtain ⟨⟨g1, g2, g3, g4, g5, g6⟩, g7, g8⟩ := id VF_n
   obtain ⟨n1, n2, n3, n4⟩ := id VN_n
   obtain ⟨⟨m1, m2, m3, m4, m5, m6⟩, m7, m8⟩ := id VG_n
   go_wp2_with fail
   clear f1 f2 f3 f4 f5 f6 f7 f8 p1 p2 p3 p4 g1 g2 g3 g4 g5 g6 g7 g8 n1 n2 n3 n4 m1 m2 m3 m4 m5 m6 m7 m8 VM VF VN VG BB BA BC ht3 KQ
   generalize (((w6.setCell ⟨RD, 0, none⟩ (.int .i64 a)).setCell ⟨RD, 1, none⟩ (.int .i64 0)).setCell ⟨RD, 2, none⟩ (.int .i64 c)).setCell ⟨RD, 3, none⟩ (.int .i64 d) = w7 at *
   have BB := BB_n
   have BA := BA_n
   have BC := BC_n
   have ht3 := ht_n
   clear BB_n BA_n BC_n ht_n VM_n VF_n VN_n VG_n
   refine (same7_at 0 _ (.slice none 0 0) _ 0 [] _ (HMO.out _ BA) (TMo.nil _ _) (by simp) HLE.out).mono ?_
   rintro e w8 ⟨rfl, b8⟩
   replace BB := BB.trans (b8.mono BB.size)
   replace ht3 := ht3.below b8
   clear b8
   go_wp2_with fail
   refine (awake8_at _ ht3).mono ?_
   rintro e w9 ⟨rfl, b9⟩
   replace BB := BB.trans (b9.mono BB.size)
   clear b9 ht3
   go_wp2
   go_ret
   exact ⟨rfl, BB⟩
  case fine h hc =>
   have he0 : (mrE s : Int) = 0 := by omega
   have ha0 : (mrA s : Int) = 0 := by unfold mrA; rw [if_pos h]; rfl
   have HEE : Hid ((mrE s : Int) = 0) := he0
   have HAA : Hid ((mrA s : Int) = 0) := ha0
   clear he0 ha0 h
   obtain ⟨F2, hF_⟩ : ∃ q : Int, (mrF s : Int) = q := ⟨_, rfl⟩
   have HFF : Hid ((mrF s : Int) = F2) := hF_
   obtain ⟨l2, hl_⟩ : ∃ q, mrT s = q := ⟨_, rfl⟩
   have HLL : Hid (mrT s = l2) := hl_
   rw [hF_, hl_] at hc
   rw [hl_] at MO
   rw [hF_]
   unfold Flt at hc
   have HC : Hid _ := hc
   clear hF_ hl_ hc
   obtain ⟨av, cv, hv, hcv⟩ := MO.form
   subst hv
   clear hcv
   obtain ⟨W1, hW1, hS1, hL1, VM⟩ := V2.lay w1 24 (.int .i64 F2) (.slice av l2.length cv)
   obtain ⟨W2, hW2, hS2, hL2, VF⟩ := V4.lay W1 31 (.int .i64 0) (.int .i64 0) (.int .i64 0) (.int .i64 0)
   rw [hS1] at VF
   replace VM := VM.below hL2
   have BL : Below w1.heap.size w1 W2 := hL1.trans (hL2.mono (by omega))
   obtain ⟨q1, q2, q3, q4⟩ := id VM
   rw [hW2, hW1] at q1 q2 q3 q4
   obtain ⟨⟨f1, f2, f3, f4, f5, f6⟩, f7, f8⟩ := id VF
   rw [hW2, hW1] at f1 f2 f3 f4 f5 f6 f7 f8
   go_wp2_with fail
   rw [← hW1]
   rw [← hW2]
   clear q1 q2 q3 q4 f1 f2 f3 f4 f5 f6 f7 f8 hW1 hW2
   replace BB := BB.trans (BL.mono BB.size)
   have BA := BL
   have ht2 := ht1.below BL
   have hE2 := hE1.below BL
   have hsz : W2.heap.size = w1.heap.size + 1 + 1 := by omega
   clear hS1 hS2 hL1 hL2 BL ht1 hE1
   obtain ⟨RB, h_RB⟩ : ∃ q, w1.heap.size + 1 = q := ⟨_, rfl⟩
   rw [h_RB] at VF
   rw [h_RB]
   obtain ⟨RA, h_RA⟩ : ∃ q, w1.heap.size = q := ⟨_, rfl⟩
   have hw1 : w.heap.size ≤ RA := by omega
   have HMO : Hid (∀ W, Below RA w1 W → TMo w.heap.size W (.slice av l2.length cv) l2) := fun W hb => MO.below (by rw [h_RA]; exact hb)
   rw [h_RA] at VM BA
   rw [h_RA]
   have sA : RA ≤ W2.heap.size := by omega
   have hwA : Hid (w.heap.size ≤ RA) := hw1
   clear h_RA h_RB hsz MO
   refine Calls.mono (CRH.out _ ht2 hE2) ?_
   rintro e w3 ⟨v2, rfl, MO2, b3⟩
   rw [HEE.out, HAA.out]
   rw [HFF.out]
   rw [HLL.out] at MO2
   replace VM := VM.below b3
   replace VF := VF.below b3
   replace BA := BA.trans (b3.mono sA)
   replace sA := Nat.le_trans sA b3.size
   replace BB := BB.trans (b3.mono BB.size)
   have ht3 := ht2.below b3
   clear b3 ht2 hE2 CRH
   have lA := VM.lt
   have lB : RB < w3.heap.size := VF.lt
   obtain ⟨a2, c2, rfl, hc2⟩ := MO2.form
   clear hc2
   obtain ⟨W4, hW4, hS4, hL4, VN⟩ := V2.lay w3 24 (.int .i64 F2) (.slice a2 l2.length c2)
   obtain ⟨W5, hW5, hS5, hL5, VG⟩ := V4.lay W4 31 (.int .i64 0) (.int .i64 0) (.int .i64 0) (.int .i64 0)
   rw [hS4] at VG
   replace VN := VN.below hL5
   have BL : Below w3.heap.size w3 W5 := hL4.trans (hL5.mono (by omega))
   replace VM := VM.below BL
   replace VF := VF.below BL
   replace BA := BA.trans (BL.mono sA)
   replace sA := Nat.le_trans sA BL.size
   have BC := BL
   replace BB := BB.trans (BL.mono BB.size)
   replace ht3 := ht3.below BL
   obtain ⟨q1, q2, q3, q4⟩ := id VN
   rw [hW5, hW4] at q1 q2 q3 q4
   obtain ⟨⟨f1, f2, f3, f4, f5, f6⟩, f7, f8⟩ := id VG
   rw [hW5, hW4] at f1 f2 f3 f4 f5 f6 f7 f8
   obtain ⟨p1, p2, p3, p4⟩ := id VM
   rw [hW5, hW4] at p1 p2 p3 p4
   obtain ⟨⟨g1, g2, g3, g4, g5, g6⟩, g7, g8⟩ := id VF
   rw [hW5, hW4] at g1 g2 g3 g4 g5 g6 g7 g8
   go_wp2_with fail
   rw [← hW4]
   rw [← hW5]
   clear q1 q2 q3 q4 f1 f2 f3 f4 f5 f6 f7 f8 p1 p2 p3 p4 g1 g2 g3 g4 g5 g6 g7 g8 hW4 hW5 hL4 hL5 BL
   obtain ⟨RD, h_RD⟩ : ∃ q, w3.heap.size + 1 = q := ⟨_, rfl⟩
   rw [h_RD] at VG
   rw [h_RD]
   obtain ⟨RC, h_RC⟩ : ∃ q, w3.heap.size = q := ⟨_, rfl⟩
   have HMO2 : Hid (∀ W, Below RC w3 W → TMo _ W (.slice a2 l2.length c2) l2) := fun W hb => MO2.below (by rw [h_RC]; exact hb)
   rw [h_RC] at VN lA lB BC
   rw [h_RC]
   have lCD : RC < RD := by omega
   have sC : RC ≤ W5.heap.size := by omega
   clear h_RC h_RD hS4 hS5 MO2
   have MR := TMo.mrowG (HMO2.out _ BC) (by rw [← HLL.out]; exact HG.out)
   refine (lcheck_at F2 _ l2.length (lenT l2) (ndT l2) 20000 _ MR ht3 (by omega) (by omega)).mono ?_
   rintro e w6 ⟨u, rfl, HC2, b6⟩
   have hu := HC2.one HC.out
   subst hu
   clear HC2 MR
   replace VM := VM.below b6
   replace VF := VF.below b6
   replace VN := VN.below b6
   replace VG := VG.below b6
   replace BA := BA.trans (b6.mono sA)
   replace BC := BC.trans (b6.mono sC)
   replace BB := BB.trans (b6.mono BB.size)
   replace ht3 := ht3.below b6
   clear b6
   obtain ⟨⟨f1, f2, f3, f4, f5, f6⟩, f7, f8⟩ := id VG
   have VG_n := VG.same (.int .i64 0) (.int .i64 0) (.int .i64 0) (.int .i64 0)
   have VM_n := VM.blk (w' := (((w6.setCell ⟨RD, 0, none⟩ (.int .i64 0)).setCell ⟨RD, 1, none⟩ (.int .i64 0)).setCell ⟨RD, 2, none⟩ (.int .i64 0)).setCell ⟨RD, 3, none⟩ (.int .i64 0)) ((((Below.heap_setCell _ _ _ _ (by show _ ≠ RD; omega)).trans (Below.heap_setCell _ _ _ _ (by show _ ≠ RD; omega))).trans (Below.heap_setCell _ _ _ _ (by show _ ≠ RD; omega))).trans (Below.heap_setCell _ _ _ _ (by show _ ≠ RD; omega)))
   have VF_n := VF.blk (w' := (((w6.setCell ⟨RD, 0, none⟩ (.int .i64 0)).setCell ⟨RD, 1, none⟩ (.int .i64 0)).setCell ⟨RD, 2, none⟩ (.int .i64 0)).setCell ⟨RD, 3, none⟩ (.int .i64 0)) ((((Below.heap_setCell _ _ _ _ (by show _ ≠ RD; omega)).trans (Below.heap_setCell _ _ _ _ (by show _ ≠ RD; omega))).trans (Below.heap_setCell _ _ _ _ (by show _ ≠ RD; omega))).trans (Below.heap_setCell _ _ _ _ (by show _ ≠ RD; omega)))
   have VN_n := VN.blk (w' := (((w6.setCell ⟨RD, 0, none⟩ (.int .i64 0)).setCell ⟨RD, 1, none⟩ (.int .i64 0)).setCell ⟨RD, 2, none⟩ (.int .i64 0)).setCell ⟨RD, 3, none⟩ (.int .i64 0)) ((((Below.heap_setCell _ _ _ _ (by show _ ≠ RD; omega)).trans (Below.heap_setCell _ _ _ _ (by show _ ≠ RD; omega))).trans (Below.heap_setCell _ _ _ _ (by show _ ≠ RD; omega))).trans (Below.heap_setCell _ _ _ _ (by show _ ≠ RD; omega)))
   have lRA : RA ≤ RD := by omega
   have KQ : KeepQ IsLimb w6 ((((w6.setCell ⟨RD, 0, none⟩ (.int .i64 0)).setCell ⟨RD, 1, none⟩ (.int .i64 0)).setCell ⟨RD, 2, none⟩ (.int .i64 0)).setCell ⟨RD, 3, none⟩ (.int .i64 0)) := ((((keepL_set f1 (limb_int _) (.int .i64 0)).trans (keepL_set (cell_set_by f2 (by omega)) (limb_int _) (.int .i64 0))).trans (keepL_set (cell_set_by (cell_set_by f3 (by omega)) (by omega)) (limb_int _) (.int .i64 0))).trans (keepL_set (cell_set_by (cell_set_by (cell_set_by f7 (by omega)) (by omega)) (by omega)) (limb_int _) (.int .i64 0)))
   have ht_n := ht3.keepL KQ
   have hwR : w.heap.size ≤ RD := by have := hwA.out; omega
   have BB_n := ((((BB).setCell (p := ⟨RD, 0, none⟩) (by show _ ≤ RD; omega) (.int .i64 0)).setCell (p := ⟨RD, 1, none⟩) (by show _ ≤ RD; omega) (.int .i64 0)).setCell (p := ⟨RD, 2, none⟩) (by show _ ≤ RD; omega) (.int .i64 0)).setCell (p := ⟨RD, 3, none⟩) (by show _ ≤ RD; omega) (.int .i64 0)
   have BA_n := ((((BA).setCell (p := ⟨RD, 0, none⟩) (by show _ ≤ RD; omega) (.int .i64 0)).setCell (p := ⟨RD, 1, none⟩) (by show _ ≤ RD; omega) (.int .i64 0)).setCell (p := ⟨RD, 2, none⟩) (by show _ ≤ RD; omega) (.int .i64 0)).setCell (p := ⟨RD, 3, none⟩) (by show _ ≤ RD; omega) (.int .i64 0)
   have BC_n := ((((BC).setCell (p := ⟨RD, 0, none⟩) (by show _ ≤ RD; omega) (.int .i64 0)).setCell (p := ⟨RD, 1, none⟩) (by show _ ≤ RD; omega) (.int .i64 0)).setCell (p := ⟨RD, 2, none⟩) (by show _ ≤ RD; omega) (.int .i64 0)).setCell (p := ⟨RD, 3, none⟩) (by show _ ≤ RD; omega) (.int .i64 0)
   obtain ⟨p1, p2, p3, p4⟩ := id VM_n
   obtain ⟨⟨g1, g2, g3, g4, g5, g6⟩, g7, g8⟩ := id VF_n
   obtain ⟨n1, n2, n3, n4⟩ := id VN_n
   obtain ⟨⟨m1, m2, m3, m4, m5, m6⟩, m7, m8⟩ := id VG_n
   go_wp2_with fail
   clear f1 f2 f3 f4 f5 f6 f7 f8 p1 p2 p3 p4 g1 g2 g3 g4 g5 g6 g7 g8 n1 n2 n3 n4 m1 m2 m3 m4 m5 m6 m7 m8 VM VF VN VG BB BA BC ht3 KQ
   generalize (((w6.setCell ⟨RD, 0, none⟩ (.int .i64 0)).setCell ⟨RD, 1, none⟩ (.int .i64 0)).setCell ⟨RD, 2, none⟩ (.int .i64 0)).setCell ⟨RD, 3, none⟩ (.int .i64 0) = w7 at *
   have BB := BB_n
   have BA := BA_n
   have BC := BC_n
   have ht3 := ht_n
   clear BB_n BA_n BC_n ht_n VM_n VF_n VN_n VG_n
   refine (same7_at F2 _ _ _ _ l2 _ (HMO.out _ BA) (HMO2.out _ BC) (by rw [← HLL.out]; exact HL.out) (by rw [← HLL.out]; exact HA.out)).mono ?_
   rintro e w8 ⟨rfl, b8⟩
   replace BB := BB.trans (b8.mono BB.size)
   replace ht3 := ht3.below b8
   clear b8
   go_wp2_with fail
   refine (awake8_at _ ht3).mono ?_
   rintro e w9 ⟨rfl, b9⟩
   replace BB := BB.trans (b9.mono BB.size)
   clear b9 ht3
   go_wp2
   go_ret
   exact ⟨rfl, BB⟩
theorem own : ownKnob Tryz.prog.godebug = none := by kernel_rfl

abbrev laid1 : List (String × DataW Unit) := Rows.validParsesRow.laid
/-- The tables that the road reads lie in their cells, and ErrRange is an error. -/
theorem tabs_of {W : World} (h : laidMetH Tryz.prog laid1 W) : Tab W ∧ Erg W := by
 rw [MakeChecks.laidMetH_plain _ _ _ (by kernel_rfl)] at h
 have hd : laid1 = [("math/bits.deBruijn32tab", Rows.laid_math_bits_deBruijn32tab), ("math/bits.deBruijn64tab", Lib.tabData .u8 (Lib.deBruijn64tab.map fun (n : Nat) => Int.ofNat n)), ("internal/strconv.uint64pow10", Lib.tabData .u64 Lib.pow10Tab), ("unicode/utf8.acceptRanges", Rows.laid_unicode_utf8_acceptRanges), ("strconv.ErrRange", Rows.laid_strconv_ErrRange), ("strconv.ErrSyntax", Rows.laid_strconv_ErrSyntax), ("unicode/utf8.first", Rows.laid_unicode_utf8_first)] := rfl
 rw [hd] at h
 have gTab : Tryz.prog.globalNamed "math/bits.deBruijn64tab" = some 4 := by kernel_rfl
 have hT := Lib.tabIs_of_head (t := 224) (e := 5) (n := 64) gTab (by kernel_rfl) (by kernel_rfl) (by kernel_rfl) (by kernel_rfl) (by kernel_rfl) h.tail
 have hE := h.tail.tail.tail.tail
 refine ⟨fun i hi => ?_, ?_⟩
 ·have hc := hT.cell gTab i (by rw [List.length_map]; exact hi)
  rw [hc]
  congr 2
  rw [List.getD_eq_getElem?_getD, List.getElem?_map, List.getD_eq_getElem?_getD]
  cases Lib.deBruijn64tab[i]? <;> rfl
 ·obtain ⟨ps, ⟨g, t, cs, fuel, p, q, hg, ht, hvar, hd2, _, _⟩, _⟩ := hE
  have hg2 : Tryz.prog.globalNamed "strconv.ErrRange" = some 2 := by kernel_rfl
  have ht2 : (Tryz.prog.globals[2]?).map (·.type) = some 76 := by kernel_rfl
  obtain rfl := Option.some.inj (hg2.symm.trans hg)
  obtain rfl := Option.some.inj (ht2.symm.trans ht)
  obtain ⟨f2, u, v, hcs, _, _⟩ := iface_of_trod (name := "*errors.errorString") (d := .ptr (.agg [.lit (.string [118, 97, 108, 117, 101, 32, 111, 117, 116, 32, 111, 102, 32, 114, 97, 110, 103, 101])])) Tryz.underlying76 hd2
  refine ⟨u, v, ?_⟩
  rw [World.var?_cell hg2 hvar 0]
  have := congrArg (fun l : List Value => l[0]?) hcs
  simpa using this

set_option maxRecDepth 100000 in
theorem lifted (os : Os) (started : os.Started) (H : Type) (enc : TypeId × Value → H) :
  ReturnsInHanded {} Tryz.checked os 6 .any (fun w args => (Rows.validParsesSpec.pre enc Tryz.prog Tryz.f6 [] false w args ∧ laidMetH Tryz.prog laid1 w) ∧ sizedMet enc Tryz.prog Tryz.f6 (OpenSpec.ofChange Rows.validParsesSpec) false w args) (Rows.validParsesSpec.post enc Tryz.prog Tryz.f6 false true false false) := by
 refine returnsInHanded_of_change_and (C := Tryz.checked) (X := fun w _ => laidMetH Tryz.prog laid1 w) (fun _ _ _ hh h => h.of_heap hh) own started (by kernel_rfl) Tryz.func6
  (ChangeSpec.witness_shaped (enc := enc) (C := Tryz.checked) (os := os) (X := fun w _ => laidMetH Tryz.prog laid1 w) false (World.laidAll Tryz.prog os laid1) #[.string ByteArray.empty] 8 (World.laidAll_os _ _ _) (World.shaped_of_ZipB (by kernel_rfl) (by kernel_rfl)) (by kernel_rfl) (by kernel_rfl) (by kernel_rfl) (by rw [MakeChecks.laidMetH_plain _ _ _ (by kernel_rfl)]; exact laidMet_laidAll _ (by kernel_rfl) (by kernel_rfl))) ?_
 intro W base args ds gs before hval0 hW _ _ hL _
 have hval : ∀ (j : Nat) t v, Tryz.f6.params[j]? = some t → args[j]? = some v → Value.okWide Tryz.prog W .any base t v := hval0
 have hW' := hW
 obtain ⟨p, q, hA0, hV, rfl, hfz, hnd⟩ := hW
 have hA : DataW.TrodAll enc Tryz.prog W 0 (fun _ => true) true Tryz.f6.params.toList args.toList ds p := hA0
 rw [Tryz.params6] at hA hval
 obtain ⟨v0, vs0, d0, ds0, p0, q0, hargs, rfl, rfl, h0, r0⟩ := trodAll_cons hA
 obtain ⟨rfl, rfl, rfl⟩ := trodAll_nil r0
 obtain rfl : args = #[v0] := by cases args; simp_all
 obtain ⟨rfl, rfl⟩ := trodVars_none hV
 obtain ⟨s0, rfl, rfl, rfl, w0⟩ := open_string Tryz.underlying9 (hval 0 9 v0 rfl rfl) h0
 clear hA0 hval0
 refine (walk s0 W w0 (tabs_of hL).1 (tabs_of hL).2).mono fun e W' ⟨he, bel⟩ => ?_
 subst he
 exact ⟨_, rfl, _, _, _, [], _, [], hW', trodAll_mk1 (shut_bool Tryz.underlying4 _), (trodAll_cons_mk (shut_string Tryz.underlying9 w0) trodAll_mk0), rfl, bel.frame _, fun h => by cases h⟩

theorem over : Rows.validParsesRow.holds Tryz.pinned (OpenSpec.ofChange Rows.validParsesSpec) :=
 OpenClaim.holds_of_wide 6 Tryz.f6 rfl rfl rfl rfl rfl rfl rfl ⟨rfl, rfl, rfl, rfl, rfl⟩ rfl rfl rfl rfl rfl (by kernel_rfl) Tryz.func6 (by kernel_rfl)
  (of_decide_eq_true (by kernel_rfl)) (by unfold Func.isWrapper; first | (rw [if_pos (by decide +kernel)]; kernel_rfl) | (rw [if_neg (by decide +kernel)]; exact ⟨rfl, rfl⟩))
  (fun os started H enc _ => lifted os started H enc)

end Go.Proofs.YthkamfddbiheoaaGreatDoor.validParses
namespace Go.Proofs.YthkamfddbiheoaaGreatDoor
/-- The statement: the row, tied to the text of the program. -/
theorem validParses_holds : Rows.ValidParsesCardSaid :=
 Claim7.holds_tied_plain_at .later [] [.data, .data, .data, .data, .sentinel, .sentinel, .pinned] true (true, "c4aa1b5b3cc03d14c9beeb154ff1ffac97d59de215b5ec5e8041e2ff0ef8fb50") true
  validParses.over (fun _ h => by cases h) (by kernel_rfl) (fun _ h => by cases h) validParses_row_tie rfl ⟨rfl, rfl⟩ (by kernel_rfl) rfl
  (fun f fn hf hfn => by
   obtain rfl : f = 6 := Option.some.inj ((show Tryz.prog.funcNamed "dendron/dendronlaw08.ValidParses" = some 6 by kernel_rfl).symm.trans hf) |>.symm
   obtain rfl : fn = Tryz.f6 := (Option.some.inj (Tryz.func6.symm.trans hfn)).symm
   exact ⟨by kernel_rfl, fun j t ht => by
    rw [Tryz.params6] at ht
    have hm : t ∈ [9] := by simpa using Array.mem_of_getElem? ht
    have hall : ([9].all fun u => !Tryz.prog.wantsStandIn u) = true := by kernel_rfl
    exact (show Tryz.prog.wantsStandIn t = false by simpa using List.all_eq_true.1 hall t hm)⟩)
  (by kernel_rfl)
end Go.Proofs.YthkamfddbiheoaaGreatDoor
