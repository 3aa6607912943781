/-
  Proves that Cell tells which entry any word of up to 100 bytes is, or why it is none, that Print tells any entry's word, and that this word is the entry again, whatever comes in (the statement RowsCells, its tied card); the table of math/bits lies as the program's text lays it; no other condition.
-/
import Derived.Test.YtianfjidbeineaaGreatDoorRows
import Derived.Test.YtianfjidbeineaaGreatDoorJ485024e77f
import Derived.Test.YtianfjidbeineaaGreatDoorJ127d3ac1a4
import Derived.Test.YtianfjidbeineaaGreatDoorJ4e02246697
import Derived.WalkKit
import Derived.ProofKit
import Derived.OpenShut
import Derived.ShutString
import Derived.ChangeOld
import Derived.Below
import Derived.Test.YtianfjidbeineaaGreatDoorTie
import Derived.Test.YtianfjidbeineaaGreatDoorCards
import Derived.LaidByTextLater
import Derived.LaidHandle
import Derived.Lib.LaidTab
import Derived.SevenTiedAt
namespace Go.Proofs.YtianfjidbeineaaGreatDoor.rowsCells
open Go.ChangeShapes Go.WideShapes Go.ChangeAt Go.RowKit
open Go.ChangeMaps (open_string shut_string)
set_option linter.unusedVariables false
set_option linter.unusedSimpArgs false

set_option maxRecDepth 100000 in
set_option maxHeartbeats 16000000 in
theorem walk (s : ByteArray) (ms p : Bool) (ao : Option Addr) (n c : Nat) (bo : Option Addr) (m d : Nat) (f g : Nat → Int) (w : World) (hs : s.size ≤ maxLen) (h1 : Raw w (.slice ao n c) n f) (h2 : Raw w (.slice bo m d) m g) (ht : Tab w) :
    Calls Tryz.prog 3 #[.string s, .agg #[.bool ms, .bool p, .slice ao n c, .slice bo m d]] w fun e w' => e = .returned (.bool true) ∧ Below w.heap.size w w' := by
  have BB : Below w.heap.size w w := Below.refl _ _
  obtain ⟨W0, hW0, hS0, hL0, VC⟩ := V4.lay w 29 (.bool ms) (.bool p) (.slice ao n c) (.slice bo m d)
  replace ht := ht.below hL0
  replace BB := BB.trans (hL0.mono BB.size)
  clear hL0 hS0
  unfold maxLen at hs
  go_enter Tryz.func3, Tryz.ntmps3
  by_cases h100 : 100 < s.size
  · have g1 : (s.size : Int) > 100 := by omega
    have hts : (s.extract 0 100).size ≤ 100 := by rw [ByteArray.size_extract]; omega
    go_wp2_with fail
    rw [← hW0]
    generalize s.extract 0 100 = t at *
    clear hW0
    refine (rcellx_at t 200 _ (by omega) ht (short9 _ (by omega))).mono ?_
    rintro e w1 ⟨p1, a1, n1, c1, b1, m1, d1, rfl, x1, hm1, b1⟩
    replace VC := VC.below b1
    replace ht := ht.below b1
    replace BB := BB.trans (b1.mono BB.size)
    clear b1
    have HM1 : Hid (¬ cerr t = 0 → m1 = 0) := hm1
    clear hm1
    have HER : Hid (cerr t = cerr t ∧ cval t = cval t) := ⟨rfl, rfl⟩
    generalize her : cerr t = er at *
    have HMS : Hid (¬ er = 0 → (cval t).miss = false) := fun h => cerr_miss (by rw [her]; exact h)
    have HE : Hid (cerr t = er) := her
    obtain ⟨mt, hmt⟩ : ∃ mt, (cval t).miss = mt := ⟨_, rfl⟩
    obtain ⟨vt, hvt⟩ : ∃ vt, (cval t).val = vt := ⟨_, rfl⟩
    have HV : Hid ((cval t).miss = mt ∧ (cval t).val = vt) := ⟨hmt, hvt⟩
    rw [hmt] at HMS ⊢
    rw [hvt] at x1
    clear hmt hvt her HER
    obtain ⟨W1, hW1, hS1, hL1, VA⟩ := V4.lay w1 29 (.bool mt) (.bool p1) (.slice a1 n1 c1) (.slice b1 m1 d1)
    have hlt1VC := VC.lt
    replace VC := VC.below hL1
    replace ht := ht.below hL1
    replace x1 := x1.below hL1
    replace BB := BB.trans (hL1.mono BB.size)
    clear hL1
    obtain ⟨⟨VA_1, VA_2, VA_3, VA_4, VA_5, VA_6⟩, VA_7, VA_8⟩ := id VA
    rw [hW1] at VA_1 VA_2 VA_3 VA_4 VA_5 VA_6 VA_7 VA_8
    go_wp2_with fail
    clear VA_1 VA_2 VA_3 VA_4 VA_5 VA_6 VA_7 VA_8
    rw [← hW1]
    generalize w1.heap.size = R1 at *
    clear hW1 hS1
    refine (lcell_at t 200 _ (by omega) ht (short9 _ (by omega))).mono ?_
    rintro e w2 ⟨p2, a2, n2, c2, b2, m2, d2, rfl, x2, b2⟩
    replace VC := VC.below b2
    replace ht := ht.below b2
    replace x1 := x1.below b2
    replace VA := VA.below b2
    replace BB := BB.trans (b2.mono BB.size)
    clear b2
    rw [HV.out.2] at x2
    rw [HV.out.1, HE.out]
    obtain ⟨W2, hW2, hS2, hL2, VB⟩ := V4.lay w2 29 (.bool mt) (.bool p2) (.slice a2 n2 c2) (.slice b2 m2 d2)
    have hlt2VC := VC.lt
    have hlt2VA := VA.lt
    replace VC := VC.below hL2
    replace ht := ht.below hL2
    replace x1 := x1.below hL2
    replace VA := VA.below hL2
    replace x2 := x2.below hL2
    replace BB := BB.trans (hL2.mono BB.size)
    clear hL2
    obtain ⟨⟨VC_1, VC_2, VC_3, VC_4, VC_5, VC_6⟩, VC_7, VC_8⟩ := id VC
    obtain ⟨⟨VB_1, VB_2, VB_3, VB_4, VB_5, VB_6⟩, VB_7, VB_8⟩ := id VB
    rw [hW2] at VC_1 VC_2 VC_3 VC_4 VC_5 VC_6 VC_7 VC_8 VB_1 VB_2 VB_3 VB_4 VB_5 VB_6 VB_7 VB_8
    go_wp2_with fail
    clear VC_1 VC_2 VC_3 VC_4 VC_5 VC_6 VC_7 VC_8 VB_1 VB_2 VB_3 VB_4 VB_5 VB_6 VB_7 VB_8
    rw [← hW2]
    generalize w2.heap.size = R2 at *
    clear hW2 hS2
    have u5 := h1.below BB
    have v5 := h2.below BB
    refine (number9_at _ _ _ _ _ _ _ _ u5 v5).mono ?_
    rintro e w3 ⟨ao3, co3, bo3, do3, rfl, hu3, uf3, hv3, vf3, b3⟩
    replace VC := VC.below b3
    replace ht := ht.below b3
    replace x1 := x1.below b3
    replace VA := VA.below b3
    replace x2 := x2.below b3
    replace VB := VB.below b3
    replace BB := BB.trans (b3.mono BB.size)
    clear b3
    obtain ⟨q, hq⟩ : ∃ q, q = mkRat (zof p (num f (min n 3))) (num g (min m 3)) := ⟨_, rfl⟩
    have X : RatAt w3 (.agg #[.bool p, .slice ao3 (min n 3) co3, .slice bo3 (min m 3) do3]) q 3 := by rw [hq]; exact RatAt.raw hu3 uf3 hv3 vf3 (Nat.min_le_right _ _) (Nat.min_le_right _ _)
    clear hu3 uf3 hv3 vf3 hq u5 v5
    generalize min n 3 = k3 at *
    generalize min m 3 = l3 at *
    have KK := VC.keep9 (.bool p) (.slice ao3 k3 co3) (.slice bo3 l3 do3)
    have GG := grown_sets3 w3 w.heap.size 1 2 3 (.bool p) (.slice ao3 k3 co3) (.slice bo3 l3 do3)
    have x1_n := x1.keepL KK
    have x2_n := x2.keepL KK
    have X_n := X.keepL KK
    have ht_n := ht.keepL KK
    have VC_n := VC.num9 (.bool p) (.slice ao3 k3 co3) (.slice bo3 l3 do3)
    have VA_n := VA.kept9 GG (by omega)
    have VB_n := VB.kept9 GG (by omega)
    have BB_n : Below w.heap.size w (((w3.setCell ⟨w.heap.size, 1, none⟩ (.bool p)).setCell ⟨w.heap.size, 2, none⟩ (.slice ao3 k3 co3)).setCell ⟨w.heap.size, 3, none⟩ (.slice bo3 l3 do3)) := ((BB.setCell (Nat.le_refl _) _).setCell (Nat.le_refl _) _).setCell (Nat.le_refl _) _
    clear KK GG
    obtain ⟨⟨y1, y2, y3, y4, y5, y6⟩, y7, y8⟩ := id VC
    obtain ⟨⟨z1, z2, z3, z4, z5, z6⟩, z7, z8⟩ := id VC_n
    cases ms
    · go_wp2_with fail
      clear y1 y2 y3 y4 y5 y6 y7 y8 z1 z2 z3 z4 z5 z6 z7 z8 x1 x2 X ht VC VA VB BB
      generalize ((w3.setCell ⟨w.heap.size, 1, none⟩ (.bool p)).setCell ⟨w.heap.size, 2, none⟩ (.slice ao3 k3 co3)).setCell ⟨w.heap.size, 3, none⟩ (.slice bo3 l3 do3) = WS at *
      have x1 := x1_n
      have x2 := x2_n
      have X := X_n
      have ht := ht_n
      have VC := VC_n
      have VA := VA_n
      have VB := VB_n
      have BB := BB_n
      clear x1_n x2_n X_n ht_n VC_n VA_n VB_n BB_n
      refine (qprint_at _ q 3 _ X (by omega) (by omega) ht).mono ?_
      rintro e w4 ⟨rfl, b4⟩
      replace x1 := x1.below b4
      replace x2 := x2.below b4
      replace X := X.below b4
      replace ht := ht.below b4
      replace VC := VC.below b4
      replace VA := VA.below b4
      replace VB := VB.below b4
      replace BB := BB.trans (b4.mono BB.size)
      clear b4
      obtain ⟨wt, hwt⟩ : ∃ wt, ctxt ⟨false, q⟩ = wt := ⟨_, rfl⟩
      have HWT : Hid (ctxt ⟨false, q⟩ = wt) := hwt
      rw [show qtxt q = wt from hwt]
      clear hwt
      have HSA : Hid (sameC ⟨mt, vt⟩ ⟨mt, vt⟩ = true) := sameC_self _
      by_cases hc0 : er = 0
      · obtain ⟨⟨A1, A2, A3, A4, A5, A6⟩, A7, A8⟩ := id VA
        obtain ⟨⟨B1, B2, B3, B4, B5, B6⟩, B7, B8⟩ := id VB
        obtain ⟨⟨C1, C2, C3, C4, C5, C6⟩, C7, C8⟩ := id VC
        subst hc0
        go_wp2_with fail
        clear A1 A2 A3 A4 A5 A6 A7 A8 B1 B2 B3 B4 B5 B6 B7 B8 C1 C2 C3 C4 C5 C6 C7 C8
        refine (jsame9_at mt p1 mt p2 _ _ _ _ _ _ _ _ _ _ _ _ vt vt 200 _ x1 x2 (by omega) (by omega)).mono ?_
        rintro e w5 ⟨rfl, b5⟩
        replace x1 := x1.below b5
        replace x2 := x2.below b5
        replace X := X.below b5
        replace ht := ht.below b5
        replace VC := VC.below b5
        replace VA := VA.below b5
        replace VB := VB.below b5
        replace BB := BB.trans (b5.mono BB.size)
        clear b5
        rw [HSA.out]
        obtain ⟨⟨C1, C2, C3, C4, C5, C6⟩, C7, C8⟩ := id VC
        go_wp2_with fail
        clear C1 C2 C3 C4 C5 C6 C7 C8
        refine (rprint9_at false p _ _ _ _ _ _ q 3 _ X (by omega) (by omega) ht).mono ?_
        rintro e w6 ⟨rfl, b6⟩
        replace x1 := x1.below b6
        replace x2 := x2.below b6
        replace X := X.below b6
        replace ht := ht.below b6
        replace VC := VC.below b6
        replace VA := VA.below b6
        replace VB := VB.below b6
        replace BB := BB.trans (b6.mono BB.size)
        clear b6
        rw [HWT.out]
        have HQS : Hid (qsz q ≤ 3) := X.qsz (by omega)
        have hws : wt.size ≤ 70 := by rw [← HWT.out]; exact ctxt_size _ 3 HQS.out
        go_wp2_with fail
        refine (rcellx_at wt 200 _ (by omega) ht (short9 _ (by omega))).mono ?_
        rintro e w7 ⟨p4, a4, n4, c4, b4, m4, d4, rfl, x4, _, b7⟩
        replace x1 := x1.below b7
        replace x2 := x2.below b7
        replace X := X.below b7
        replace ht := ht.below b7
        replace VC := VC.below b7
        replace VA := VA.below b7
        replace VB := VB.below b7
        replace BB := BB.trans (b7.mono BB.size)
        clear b7
        have HCE : Hid (cerr wt = 0) := by show cerr wt = 0; rw [← HWT.out]; exact ctxt_err _
        have HCV : Hid (sameC ⟨false, q⟩ ⟨(cval wt).miss, (cval wt).val⟩ = true) := by
          show sameC _ _ = true
          have h9 := ctxt_val ⟨false, q⟩ (fun _ => rfl)
          rw [HWT.out] at h9
          unfold sameC
          rw [h9.1]
          simp; exact (h9.2 rfl).symm
        rw [HCE.out]
        generalize (cval wt).miss = m9 at *
        generalize (cval wt).val = v9 at *
        obtain ⟨W3, hW3, hS3, hL3, VD⟩ := V4.lay w7 29 (.bool m9) (.bool p4) (.slice a4 n4 c4) (.slice b4 m4 d4)
        have hlt3VC := VC.lt
        have hlt3VA := VA.lt
        have hlt3VB := VB.lt
        replace x1 := x1.below hL3
        replace x2 := x2.below hL3
        replace X := X.below hL3
        replace ht := ht.below hL3
        replace VC := VC.below hL3
        replace VA := VA.below hL3
        replace VB := VB.below hL3
        replace x4 := x4.below hL3
        replace BB := BB.trans (hL3.mono BB.size)
        clear hL3
        obtain ⟨⟨VC_1, VC_2, VC_3, VC_4, VC_5, VC_6⟩, VC_7, VC_8⟩ := id VC
        obtain ⟨⟨VD_1, VD_2, VD_3, VD_4, VD_5, VD_6⟩, VD_7, VD_8⟩ := id VD
        rw [hW3] at VC_1 VC_2 VC_3 VC_4 VC_5 VC_6 VC_7 VC_8 VD_1 VD_2 VD_3 VD_4 VD_5 VD_6 VD_7 VD_8
        go_wp2_with fail
        clear VC_1 VC_2 VC_3 VC_4 VC_5 VC_6 VC_7 VC_8 VD_1 VD_2 VD_3 VD_4 VD_5 VD_6 VD_7 VD_8
        rw [← hW3]
        generalize w7.heap.size = R3 at *
        clear hW3 hS3
        refine (rprint9_at false p _ _ _ _ _ _ q 3 _ X (by omega) (by omega) ht).mono ?_
        rintro e w8 ⟨rfl, b8⟩
        replace x1 := x1.below b8
        replace x2 := x2.below b8
        replace X := X.below b8
        replace ht := ht.below b8
        replace VC := VC.below b8
        replace VA := VA.below b8
        replace VB := VB.below b8
        replace x4 := x4.below b8
        replace VD := VD.below b8
        replace BB := BB.trans (b8.mono BB.size)
        clear b8
        rw [HWT.out]
        have hss : (wt.toList == wt.toList) = true := by simp
        obtain ⟨⟨C1, C2, C3, C4, C5, C6⟩, C7, C8⟩ := id VC
        obtain ⟨⟨D1, D2, D3, D4, D5, D6⟩, D7, D8⟩ := id VD
        go_wp2_with fail
        clear C1 C2 C3 C4 C5 C6 C7 C8 D1 D2 D3 D4 D5 D6 D7 D8
        have X9 := X.le (show 3 ≤ 200 by omega)
        refine (jsame9_at false p m9 p4 _ _ _ _ _ _ _ _ _ _ _ _ q v9 200 _ X9 x4 (by omega) (by omega)).mono ?_
        rintro e w9 ⟨rfl, b9⟩
        replace x1 := x1.below b9
        replace x2 := x2.below b9
        replace X := X.below b9
        replace ht := ht.below b9
        replace VC := VC.below b9
        replace VA := VA.below b9
        replace VB := VB.below b9
        replace x4 := x4.below b9
        replace VD := VD.below b9
        replace BB := BB.trans (b9.mono BB.size)
        clear b9
        rw [HCV.out]
        go_wp2_with fail
        refine (awake9_at _ ht).mono ?_
        rintro e w10 ⟨rfl, b10⟩
        replace x1 := x1.below b10
        replace x2 := x2.below b10
        replace X := X.below b10
        replace ht := ht.below b10
        replace VC := VC.below b10
        replace VA := VA.below b10
        replace VB := VB.below b10
        replace x4 := x4.below b10
        replace VD := VD.below b10
        replace BB := BB.trans (b10.mono BB.size)
        clear b10
        go_wp2
        go_ret
        exact ⟨rfl, BB⟩
      · obtain ⟨⟨A1, A2, A3, A4, A5, A6⟩, A7, A8⟩ := id VA
        obtain ⟨⟨B1, B2, B3, B4, B5, B6⟩, B7, B8⟩ := id VB
        obtain ⟨⟨C1, C2, C3, C4, C5, C6⟩, C7, C8⟩ := id VC
        have hcb : (er == 0) = false := by simp [hc0]
        have hcn : (er != 0) = true := by simp [hc0]
        have hmt := HMS.out hc0
        subst hmt
        have hm1 := HM1.out hc0
        subst hm1
        have HC0 : Hid (¬ er = 0) := hc0
        go_wp2_with fail
        clear A1 A2 A3 A4 A5 A6 A7 A8 B1 B2 B3 B4 B5 B6 B7 B8 C1 C2 C3 C4 C5 C6 C7 C8
        refine (rprint9_at false p _ _ _ _ _ _ q 3 _ X (by omega) (by omega) ht).mono ?_
        rintro e w5 ⟨rfl, b5⟩
        replace x1 := x1.below b5
        replace x2 := x2.below b5
        replace X := X.below b5
        replace ht := ht.below b5
        replace VC := VC.below b5
        replace VA := VA.below b5
        replace VB := VB.below b5
        replace BB := BB.trans (b5.mono BB.size)
        clear b5
        rw [HWT.out]
        have HQS : Hid (qsz q ≤ 3) := X.qsz (by omega)
        have hws : wt.size ≤ 70 := by rw [← HWT.out]; exact ctxt_size _ 3 HQS.out
        go_wp2_with fail
        refine (rcellx_at wt 200 _ (by omega) ht (short9 _ (by omega))).mono ?_
        rintro e w6 ⟨p4, a4, n4, c4, b4, m4, d4, rfl, x4, _, b6⟩
        replace x1 := x1.below b6
        replace x2 := x2.below b6
        replace X := X.below b6
        replace ht := ht.below b6
        replace VC := VC.below b6
        replace VA := VA.below b6
        replace VB := VB.below b6
        replace BB := BB.trans (b6.mono BB.size)
        clear b6
        have HCE : Hid (cerr wt = 0) := by show cerr wt = 0; rw [← HWT.out]; exact ctxt_err _
        have HCV : Hid (sameC ⟨false, q⟩ ⟨(cval wt).miss, (cval wt).val⟩ = true) := by
          show sameC _ _ = true
          have h9 := ctxt_val ⟨false, q⟩ (fun _ => rfl)
          rw [HWT.out] at h9
          unfold sameC
          rw [h9.1]
          simp; exact (h9.2 rfl).symm
        rw [HCE.out]
        generalize (cval wt).miss = m9 at *
        generalize (cval wt).val = v9 at *
        obtain ⟨W3, hW3, hS3, hL3, VD⟩ := V4.lay w6 29 (.bool m9) (.bool p4) (.slice a4 n4 c4) (.slice b4 m4 d4)
        have hlt3VC := VC.lt
        have hlt3VA := VA.lt
        have hlt3VB := VB.lt
        replace x1 := x1.below hL3
        replace x2 := x2.below hL3
        replace X := X.below hL3
        replace ht := ht.below hL3
        replace VC := VC.below hL3
        replace VA := VA.below hL3
        replace VB := VB.below hL3
        replace x4 := x4.below hL3
        replace BB := BB.trans (hL3.mono BB.size)
        clear hL3
        obtain ⟨⟨VC_1, VC_2, VC_3, VC_4, VC_5, VC_6⟩, VC_7, VC_8⟩ := id VC
        obtain ⟨⟨VD_1, VD_2, VD_3, VD_4, VD_5, VD_6⟩, VD_7, VD_8⟩ := id VD
        rw [hW3] at VC_1 VC_2 VC_3 VC_4 VC_5 VC_6 VC_7 VC_8 VD_1 VD_2 VD_3 VD_4 VD_5 VD_6 VD_7 VD_8
        go_wp2_with fail
        clear VC_1 VC_2 VC_3 VC_4 VC_5 VC_6 VC_7 VC_8 VD_1 VD_2 VD_3 VD_4 VD_5 VD_6 VD_7 VD_8
        rw [← hW3]
        generalize w6.heap.size = R3 at *
        clear hW3 hS3
        refine (rprint9_at false p _ _ _ _ _ _ q 3 _ X (by omega) (by omega) ht).mono ?_
        rintro e w7 ⟨rfl, b7⟩
        replace x1 := x1.below b7
        replace x2 := x2.below b7
        replace X := X.below b7
        replace ht := ht.below b7
        replace VC := VC.below b7
        replace VA := VA.below b7
        replace VB := VB.below b7
        replace x4 := x4.below b7
        replace VD := VD.below b7
        replace BB := BB.trans (b7.mono BB.size)
        clear b7
        rw [HWT.out]
        have hss : (wt.toList == wt.toList) = true := by simp
        obtain ⟨⟨C1, C2, C3, C4, C5, C6⟩, C7, C8⟩ := id VC
        obtain ⟨⟨D1, D2, D3, D4, D5, D6⟩, D7, D8⟩ := id VD
        go_wp2_with fail
        clear C1 C2 C3 C4 C5 C6 C7 C8 D1 D2 D3 D4 D5 D6 D7 D8
        have X9 := X.le (show 3 ≤ 200 by omega)
        refine (jsame9_at false p m9 p4 _ _ _ _ _ _ _ _ _ _ _ _ q v9 200 _ X9 x4 (by omega) (by omega)).mono ?_
        rintro e w8 ⟨rfl, b8⟩
        replace x1 := x1.below b8
        replace x2 := x2.below b8
        replace X := X.below b8
        replace ht := ht.below b8
        replace VC := VC.below b8
        replace VA := VA.below b8
        replace VB := VB.below b8
        replace x4 := x4.below b8
        replace VD := VD.below b8
        replace BB := BB.trans (b8.mono BB.size)
        clear b8
        rw [HCV.out]
        go_wp2_with fail
        refine (awake9_at _ ht).mono ?_
        rintro e w9 ⟨rfl, b9⟩
        replace x1 := x1.below b9
        replace x2 := x2.below b9
        replace X := X.below b9
        replace ht := ht.below b9
        replace VC := VC.below b9
        replace VA := VA.below b9
        replace VB := VB.below b9
        replace x4 := x4.below b9
        replace VD := VD.below b9
        replace BB := BB.trans (b9.mono BB.size)
        clear b9
        go_wp2
        go_ret
        exact ⟨rfl, BB⟩
    · have HWT0 : Hid (ctxt ⟨true, q⟩ = { data := #[63] }) := rfl
      have HSA : Hid (sameC ⟨mt, vt⟩ ⟨mt, vt⟩ = true) := sameC_self _
      by_cases hc0 : er = 0
      · obtain ⟨⟨A1, A2, A3, A4, A5, A6⟩, A7, A8⟩ := id VA_n
        obtain ⟨⟨B1, B2, B3, B4, B5, B6⟩, B7, B8⟩ := id VB_n
        subst hc0
        go_wp2_with fail
        clear y1 y2 y3 y4 y5 y6 y7 y8 z1 z2 z3 z4 z5 z6 z7 z8 A1 A2 A3 A4 A5 A6 A7 A8 B1 B2 B3 B4 B5 B6 B7 B8 x1 x2 X ht VC VA VB BB
        generalize ((w3.setCell ⟨w.heap.size, 1, none⟩ (.bool p)).setCell ⟨w.heap.size, 2, none⟩ (.slice ao3 k3 co3)).setCell ⟨w.heap.size, 3, none⟩ (.slice bo3 l3 do3) = WS at *
        have x1 := x1_n
        have x2 := x2_n
        have X := X_n
        have ht := ht_n
        have VC := VC_n
        have VA := VA_n
        have VB := VB_n
        have BB := BB_n
        clear x1_n x2_n X_n ht_n VC_n VA_n VB_n BB_n
        refine (jsame9_at mt p1 mt p2 _ _ _ _ _ _ _ _ _ _ _ _ vt vt 200 _ x1 x2 (by omega) (by omega)).mono ?_
        rintro e w4 ⟨rfl, b4⟩
        replace x1 := x1.below b4
        replace x2 := x2.below b4
        replace X := X.below b4
        replace ht := ht.below b4
        replace VC := VC.below b4
        replace VA := VA.below b4
        replace VB := VB.below b4
        replace BB := BB.trans (b4.mono BB.size)
        clear b4
        rw [HSA.out]
        obtain ⟨⟨C1, C2, C3, C4, C5, C6⟩, C7, C8⟩ := id VC
        go_wp2_with fail
        clear C1 C2 C3 C4 C5 C6 C7 C8
        refine (rprint9_at true p _ _ _ _ _ _ q 3 _ X (by omega) (by omega) ht).mono ?_
        rintro e w5 ⟨rfl, b5⟩
        replace x1 := x1.below b5
        replace x2 := x2.below b5
        replace X := X.below b5
        replace ht := ht.below b5
        replace VC := VC.below b5
        replace VA := VA.below b5
        replace VB := VB.below b5
        replace BB := BB.trans (b5.mono BB.size)
        clear b5
        obtain ⟨wt, hwt⟩ : ∃ wt, ctxt ⟨true, q⟩ = wt := ⟨_, rfl⟩
        have HWT : Hid (ctxt ⟨true, q⟩ = wt) := hwt
        rw [hwt]
        have HQS : Hid (qsz q ≤ 3) := X.qsz (by omega)
        have hws : wt.size ≤ 70 := by rw [← HWT.out]; exact ctxt_size _ 3 HQS.out
        have hwq : wt = { data := #[63] } := by rw [← hwt]; rfl
        have HWQ : Hid (wt = { data := #[63] }) := hwq
        clear hwt hwq
        go_wp2_with fail
        refine (rcellx_at wt 200 _ (by omega) ht (short9 _ (by omega))).mono ?_
        rintro e w6 ⟨p4, a4, n4, c4, b4, m4, d4, rfl, x4, _, b6⟩
        replace x1 := x1.below b6
        replace x2 := x2.below b6
        replace X := X.below b6
        replace ht := ht.below b6
        replace VC := VC.below b6
        replace VA := VA.below b6
        replace VB := VB.below b6
        replace BB := BB.trans (b6.mono BB.size)
        clear b6
        have HCE : Hid (cerr wt = 0) := by show cerr wt = 0; rw [← HWT.out]; exact ctxt_err _
        have HCV : Hid (sameC ⟨true, q⟩ ⟨(cval wt).miss, (cval wt).val⟩ = true) := by
          show sameC _ _ = true
          have h9 := ctxt_val ⟨true, q⟩ (fun _ => rfl)
          rw [HWT.out] at h9
          unfold sameC
          rw [h9.1]
          simp
        rw [HCE.out]
        generalize (cval wt).miss = m9 at *
        generalize (cval wt).val = v9 at *
        obtain ⟨W3, hW3, hS3, hL3, VD⟩ := V4.lay w6 29 (.bool m9) (.bool p4) (.slice a4 n4 c4) (.slice b4 m4 d4)
        have hlt3VC := VC.lt
        have hlt3VA := VA.lt
        have hlt3VB := VB.lt
        replace x1 := x1.below hL3
        replace x2 := x2.below hL3
        replace X := X.below hL3
        replace ht := ht.below hL3
        replace VC := VC.below hL3
        replace VA := VA.below hL3
        replace VB := VB.below hL3
        replace x4 := x4.below hL3
        replace BB := BB.trans (hL3.mono BB.size)
        clear hL3
        obtain ⟨⟨VC_1, VC_2, VC_3, VC_4, VC_5, VC_6⟩, VC_7, VC_8⟩ := id VC
        obtain ⟨⟨VD_1, VD_2, VD_3, VD_4, VD_5, VD_6⟩, VD_7, VD_8⟩ := id VD
        rw [hW3] at VC_1 VC_2 VC_3 VC_4 VC_5 VC_6 VC_7 VC_8 VD_1 VD_2 VD_3 VD_4 VD_5 VD_6 VD_7 VD_8
        go_wp2_with fail
        clear VC_1 VC_2 VC_3 VC_4 VC_5 VC_6 VC_7 VC_8 VD_1 VD_2 VD_3 VD_4 VD_5 VD_6 VD_7 VD_8
        rw [← hW3]
        generalize w6.heap.size = R3 at *
        clear hW3 hS3
        refine (rprint9_at true p _ _ _ _ _ _ q 3 _ X (by omega) (by omega) ht).mono ?_
        rintro e w7 ⟨rfl, b7⟩
        replace x1 := x1.below b7
        replace x2 := x2.below b7
        replace X := X.below b7
        replace ht := ht.below b7
        replace VC := VC.below b7
        replace VA := VA.below b7
        replace VB := VB.below b7
        replace x4 := x4.below b7
        replace VD := VD.below b7
        replace BB := BB.trans (b7.mono BB.size)
        clear b7
        rw [HWT.out]
        have hss : (wt.toList == wt.toList) = true := by simp
        obtain ⟨⟨C1, C2, C3, C4, C5, C6⟩, C7, C8⟩ := id VC
        obtain ⟨⟨D1, D2, D3, D4, D5, D6⟩, D7, D8⟩ := id VD
        have hwq := HWQ.out
        subst hwq
        go_wp2_with fail
        clear C1 C2 C3 C4 C5 C6 C7 C8 D1 D2 D3 D4 D5 D6 D7 D8
        have X9 := X.le (show 3 ≤ 200 by omega)
        refine (jsame9_at true p m9 p4 _ _ _ _ _ _ _ _ _ _ _ _ q v9 200 _ X9 x4 (by omega) (by omega)).mono ?_
        rintro e w8 ⟨rfl, b8⟩
        replace x1 := x1.below b8
        replace x2 := x2.below b8
        replace X := X.below b8
        replace ht := ht.below b8
        replace VC := VC.below b8
        replace VA := VA.below b8
        replace VB := VB.below b8
        replace x4 := x4.below b8
        replace VD := VD.below b8
        replace BB := BB.trans (b8.mono BB.size)
        clear b8
        rw [HCV.out]
        go_wp2_with fail
        refine (awake9_at _ ht).mono ?_
        rintro e w9 ⟨rfl, b9⟩
        replace x1 := x1.below b9
        replace x2 := x2.below b9
        replace X := X.below b9
        replace ht := ht.below b9
        replace VC := VC.below b9
        replace VA := VA.below b9
        replace VB := VB.below b9
        replace x4 := x4.below b9
        replace VD := VD.below b9
        replace BB := BB.trans (b9.mono BB.size)
        clear b9
        go_wp2
        go_ret
        exact ⟨rfl, BB⟩
      · obtain ⟨⟨A1, A2, A3, A4, A5, A6⟩, A7, A8⟩ := id VA_n
        obtain ⟨⟨B1, B2, B3, B4, B5, B6⟩, B7, B8⟩ := id VB_n
        have hcb : (er == 0) = false := by simp [hc0]
        have hcn : (er != 0) = true := by simp [hc0]
        have hmt := HMS.out hc0
        subst hmt
        have hm1 := HM1.out hc0
        subst hm1
        have HC0 : Hid (¬ er = 0) := hc0
        go_wp2_with fail
        clear y1 y2 y3 y4 y5 y6 y7 y8 z1 z2 z3 z4 z5 z6 z7 z8 A1 A2 A3 A4 A5 A6 A7 A8 B1 B2 B3 B4 B5 B6 B7 B8 x1 x2 X ht VC VA VB BB
        generalize ((w3.setCell ⟨w.heap.size, 1, none⟩ (.bool p)).setCell ⟨w.heap.size, 2, none⟩ (.slice ao3 k3 co3)).setCell ⟨w.heap.size, 3, none⟩ (.slice bo3 l3 do3) = WS at *
        have x1 := x1_n
        have x2 := x2_n
        have X := X_n
        have ht := ht_n
        have VC := VC_n
        have VA := VA_n
        have VB := VB_n
        have BB := BB_n
        clear x1_n x2_n X_n ht_n VC_n VA_n VB_n BB_n
        refine (rprint9_at true p _ _ _ _ _ _ q 3 _ X (by omega) (by omega) ht).mono ?_
        rintro e w4 ⟨rfl, b4⟩
        replace x1 := x1.below b4
        replace x2 := x2.below b4
        replace X := X.below b4
        replace ht := ht.below b4
        replace VC := VC.below b4
        replace VA := VA.below b4
        replace VB := VB.below b4
        replace BB := BB.trans (b4.mono BB.size)
        clear b4
        obtain ⟨wt, hwt⟩ : ∃ wt, ctxt ⟨true, q⟩ = wt := ⟨_, rfl⟩
        have HWT : Hid (ctxt ⟨true, q⟩ = wt) := hwt
        rw [hwt]
        have HQS : Hid (qsz q ≤ 3) := X.qsz (by omega)
        have hws : wt.size ≤ 70 := by rw [← HWT.out]; exact ctxt_size _ 3 HQS.out
        have hwq : wt = { data := #[63] } := by rw [← hwt]; rfl
        have HWQ : Hid (wt = { data := #[63] }) := hwq
        clear hwt hwq
        go_wp2_with fail
        refine (rcellx_at wt 200 _ (by omega) ht (short9 _ (by omega))).mono ?_
        rintro e w5 ⟨p4, a4, n4, c4, b4, m4, d4, rfl, x4, _, b5⟩
        replace x1 := x1.below b5
        replace x2 := x2.below b5
        replace X := X.below b5
        replace ht := ht.below b5
        replace VC := VC.below b5
        replace VA := VA.below b5
        replace VB := VB.below b5
        replace BB := BB.trans (b5.mono BB.size)
        clear b5
        have HCE : Hid (cerr wt = 0) := by show cerr wt = 0; rw [← HWT.out]; exact ctxt_err _
        have HCV : Hid (sameC ⟨true, q⟩ ⟨(cval wt).miss, (cval wt).val⟩ = true) := by
          show sameC _ _ = true
          have h9 := ctxt_val ⟨true, q⟩ (fun _ => rfl)
          rw [HWT.out] at h9
          unfold sameC
          rw [h9.1]
          simp
        rw [HCE.out]
        generalize (cval wt).miss = m9 at *
        generalize (cval wt).val = v9 at *
        obtain ⟨W3, hW3, hS3, hL3, VD⟩ := V4.lay w5 29 (.bool m9) (.bool p4) (.slice a4 n4 c4) (.slice b4 m4 d4)
        have hlt3VC := VC.lt
        have hlt3VA := VA.lt
        have hlt3VB := VB.lt
        replace x1 := x1.below hL3
        replace x2 := x2.below hL3
        replace X := X.below hL3
        replace ht := ht.below hL3
        replace VC := VC.below hL3
        replace VA := VA.below hL3
        replace VB := VB.below hL3
        replace x4 := x4.below hL3
        replace BB := BB.trans (hL3.mono BB.size)
        clear hL3
        obtain ⟨⟨VC_1, VC_2, VC_3, VC_4, VC_5, VC_6⟩, VC_7, VC_8⟩ := id VC
        obtain ⟨⟨VD_1, VD_2, VD_3, VD_4, VD_5, VD_6⟩, VD_7, VD_8⟩ := id VD
        rw [hW3] at VC_1 VC_2 VC_3 VC_4 VC_5 VC_6 VC_7 VC_8 VD_1 VD_2 VD_3 VD_4 VD_5 VD_6 VD_7 VD_8
        go_wp2_with fail
        clear VC_1 VC_2 VC_3 VC_4 VC_5 VC_6 VC_7 VC_8 VD_1 VD_2 VD_3 VD_4 VD_5 VD_6 VD_7 VD_8
        rw [← hW3]
        generalize w5.heap.size = R3 at *
        clear hW3 hS3
        refine (rprint9_at true p _ _ _ _ _ _ q 3 _ X (by omega) (by omega) ht).mono ?_
        rintro e w6 ⟨rfl, b6⟩
        replace x1 := x1.below b6
        replace x2 := x2.below b6
        replace X := X.below b6
        replace ht := ht.below b6
        replace VC := VC.below b6
        replace VA := VA.below b6
        replace VB := VB.below b6
        replace x4 := x4.below b6
        replace VD := VD.below b6
        replace BB := BB.trans (b6.mono BB.size)
        clear b6
        rw [HWT.out]
        have hss : (wt.toList == wt.toList) = true := by simp
        obtain ⟨⟨C1, C2, C3, C4, C5, C6⟩, C7, C8⟩ := id VC
        obtain ⟨⟨D1, D2, D3, D4, D5, D6⟩, D7, D8⟩ := id VD
        have hwq := HWQ.out
        subst hwq
        go_wp2_with fail
        clear C1 C2 C3 C4 C5 C6 C7 C8 D1 D2 D3 D4 D5 D6 D7 D8
        have X9 := X.le (show 3 ≤ 200 by omega)
        refine (jsame9_at true p m9 p4 _ _ _ _ _ _ _ _ _ _ _ _ q v9 200 _ X9 x4 (by omega) (by omega)).mono ?_
        rintro e w7 ⟨rfl, b7⟩
        replace x1 := x1.below b7
        replace x2 := x2.below b7
        replace X := X.below b7
        replace ht := ht.below b7
        replace VC := VC.below b7
        replace VA := VA.below b7
        replace VB := VB.below b7
        replace x4 := x4.below b7
        replace VD := VD.below b7
        replace BB := BB.trans (b7.mono BB.size)
        clear b7
        rw [HCV.out]
        go_wp2_with fail
        refine (awake9_at _ ht).mono ?_
        rintro e w8 ⟨rfl, b8⟩
        replace x1 := x1.below b8
        replace x2 := x2.below b8
        replace X := X.below b8
        replace ht := ht.below b8
        replace VC := VC.below b8
        replace VA := VA.below b8
        replace VB := VB.below b8
        replace x4 := x4.below b8
        replace VD := VD.below b8
        replace BB := BB.trans (b8.mono BB.size)
        clear b8
        go_wp2
        go_ret
        exact ⟨rfl, BB⟩
  · have g1 : ¬ (s.size : Int) > 100 := by omega
    have hts : s.size ≤ 100 := by omega
    go_wp2_with fail
    rw [← hW0]
    clear hW0
    refine (rcellx_at s 200 _ (by omega) ht (short9 _ (by omega))).mono ?_
    rintro e w1 ⟨p1, a1, n1, c1, b1, m1, d1, rfl, x1, hm1, b1⟩
    replace VC := VC.below b1
    replace ht := ht.below b1
    replace BB := BB.trans (b1.mono BB.size)
    clear b1
    have HM1 : Hid (¬ cerr s = 0 → m1 = 0) := hm1
    clear hm1
    have HER : Hid (cerr s = cerr s ∧ cval s = cval s) := ⟨rfl, rfl⟩
    generalize her : cerr s = er at *
    have HMS : Hid (¬ er = 0 → (cval s).miss = false) := fun h => cerr_miss (by rw [her]; exact h)
    have HE : Hid (cerr s = er) := her
    obtain ⟨mt, hmt⟩ : ∃ mt, (cval s).miss = mt := ⟨_, rfl⟩
    obtain ⟨vt, hvt⟩ : ∃ vt, (cval s).val = vt := ⟨_, rfl⟩
    have HV : Hid ((cval s).miss = mt ∧ (cval s).val = vt) := ⟨hmt, hvt⟩
    rw [hmt] at HMS ⊢
    rw [hvt] at x1
    clear hmt hvt her HER
    obtain ⟨W1, hW1, hS1, hL1, VA⟩ := V4.lay w1 29 (.bool mt) (.bool p1) (.slice a1 n1 c1) (.slice b1 m1 d1)
    have hlt1VC := VC.lt
    replace VC := VC.below hL1
    replace ht := ht.below hL1
    replace x1 := x1.below hL1
    replace BB := BB.trans (hL1.mono BB.size)
    clear hL1
    obtain ⟨⟨VA_1, VA_2, VA_3, VA_4, VA_5, VA_6⟩, VA_7, VA_8⟩ := id VA
    rw [hW1] at VA_1 VA_2 VA_3 VA_4 VA_5 VA_6 VA_7 VA_8
    go_wp2_with fail
    clear VA_1 VA_2 VA_3 VA_4 VA_5 VA_6 VA_7 VA_8
    rw [← hW1]
    generalize w1.heap.size = R1 at *
    clear hW1 hS1
    refine (lcell_at s 200 _ (by omega) ht (short9 _ (by omega))).mono ?_
    rintro e w2 ⟨p2, a2, n2, c2, b2, m2, d2, rfl, x2, b2⟩
    replace VC := VC.below b2
    replace ht := ht.below b2
    replace x1 := x1.below b2
    replace VA := VA.below b2
    replace BB := BB.trans (b2.mono BB.size)
    clear b2
    rw [HV.out.2] at x2
    rw [HV.out.1, HE.out]
    obtain ⟨W2, hW2, hS2, hL2, VB⟩ := V4.lay w2 29 (.bool mt) (.bool p2) (.slice a2 n2 c2) (.slice b2 m2 d2)
    have hlt2VC := VC.lt
    have hlt2VA := VA.lt
    replace VC := VC.below hL2
    replace ht := ht.below hL2
    replace x1 := x1.below hL2
    replace VA := VA.below hL2
    replace x2 := x2.below hL2
    replace BB := BB.trans (hL2.mono BB.size)
    clear hL2
    obtain ⟨⟨VC_1, VC_2, VC_3, VC_4, VC_5, VC_6⟩, VC_7, VC_8⟩ := id VC
    obtain ⟨⟨VB_1, VB_2, VB_3, VB_4, VB_5, VB_6⟩, VB_7, VB_8⟩ := id VB
    rw [hW2] at VC_1 VC_2 VC_3 VC_4 VC_5 VC_6 VC_7 VC_8 VB_1 VB_2 VB_3 VB_4 VB_5 VB_6 VB_7 VB_8
    go_wp2_with fail
    clear VC_1 VC_2 VC_3 VC_4 VC_5 VC_6 VC_7 VC_8 VB_1 VB_2 VB_3 VB_4 VB_5 VB_6 VB_7 VB_8
    rw [← hW2]
    generalize w2.heap.size = R2 at *
    clear hW2 hS2
    have u5 := h1.below BB
    have v5 := h2.below BB
    refine (number9_at _ _ _ _ _ _ _ _ u5 v5).mono ?_
    rintro e w3 ⟨ao3, co3, bo3, do3, rfl, hu3, uf3, hv3, vf3, b3⟩
    replace VC := VC.below b3
    replace ht := ht.below b3
    replace x1 := x1.below b3
    replace VA := VA.below b3
    replace x2 := x2.below b3
    replace VB := VB.below b3
    replace BB := BB.trans (b3.mono BB.size)
    clear b3
    obtain ⟨q, hq⟩ : ∃ q, q = mkRat (zof p (num f (min n 3))) (num g (min m 3)) := ⟨_, rfl⟩
    have X : RatAt w3 (.agg #[.bool p, .slice ao3 (min n 3) co3, .slice bo3 (min m 3) do3]) q 3 := by rw [hq]; exact RatAt.raw hu3 uf3 hv3 vf3 (Nat.min_le_right _ _) (Nat.min_le_right _ _)
    clear hu3 uf3 hv3 vf3 hq u5 v5
    generalize min n 3 = k3 at *
    generalize min m 3 = l3 at *
    have KK := VC.keep9 (.bool p) (.slice ao3 k3 co3) (.slice bo3 l3 do3)
    have GG := grown_sets3 w3 w.heap.size 1 2 3 (.bool p) (.slice ao3 k3 co3) (.slice bo3 l3 do3)
    have x1_n := x1.keepL KK
    have x2_n := x2.keepL KK
    have X_n := X.keepL KK
    have ht_n := ht.keepL KK
    have VC_n := VC.num9 (.bool p) (.slice ao3 k3 co3) (.slice bo3 l3 do3)
    have VA_n := VA.kept9 GG (by omega)
    have VB_n := VB.kept9 GG (by omega)
    have BB_n : Below w.heap.size w (((w3.setCell ⟨w.heap.size, 1, none⟩ (.bool p)).setCell ⟨w.heap.size, 2, none⟩ (.slice ao3 k3 co3)).setCell ⟨w.heap.size, 3, none⟩ (.slice bo3 l3 do3)) := ((BB.setCell (Nat.le_refl _) _).setCell (Nat.le_refl _) _).setCell (Nat.le_refl _) _
    clear KK GG
    obtain ⟨⟨y1, y2, y3, y4, y5, y6⟩, y7, y8⟩ := id VC
    obtain ⟨⟨z1, z2, z3, z4, z5, z6⟩, z7, z8⟩ := id VC_n
    cases ms
    · go_wp2_with fail
      clear y1 y2 y3 y4 y5 y6 y7 y8 z1 z2 z3 z4 z5 z6 z7 z8 x1 x2 X ht VC VA VB BB
      generalize ((w3.setCell ⟨w.heap.size, 1, none⟩ (.bool p)).setCell ⟨w.heap.size, 2, none⟩ (.slice ao3 k3 co3)).setCell ⟨w.heap.size, 3, none⟩ (.slice bo3 l3 do3) = WS at *
      have x1 := x1_n
      have x2 := x2_n
      have X := X_n
      have ht := ht_n
      have VC := VC_n
      have VA := VA_n
      have VB := VB_n
      have BB := BB_n
      clear x1_n x2_n X_n ht_n VC_n VA_n VB_n BB_n
      refine (qprint_at _ q 3 _ X (by omega) (by omega) ht).mono ?_
      rintro e w4 ⟨rfl, b4⟩
      replace x1 := x1.below b4
      replace x2 := x2.below b4
      replace X := X.below b4
      replace ht := ht.below b4
      replace VC := VC.below b4
      replace VA := VA.below b4
      replace VB := VB.below b4
      replace BB := BB.trans (b4.mono BB.size)
      clear b4
      obtain ⟨wt, hwt⟩ : ∃ wt, ctxt ⟨false, q⟩ = wt := ⟨_, rfl⟩
      have HWT : Hid (ctxt ⟨false, q⟩ = wt) := hwt
      rw [show qtxt q = wt from hwt]
      clear hwt
      have HSA : Hid (sameC ⟨mt, vt⟩ ⟨mt, vt⟩ = true) := sameC_self _
      by_cases hc0 : er = 0
      · obtain ⟨⟨A1, A2, A3, A4, A5, A6⟩, A7, A8⟩ := id VA
        obtain ⟨⟨B1, B2, B3, B4, B5, B6⟩, B7, B8⟩ := id VB
        obtain ⟨⟨C1, C2, C3, C4, C5, C6⟩, C7, C8⟩ := id VC
        subst hc0
        go_wp2_with fail
        clear A1 A2 A3 A4 A5 A6 A7 A8 B1 B2 B3 B4 B5 B6 B7 B8 C1 C2 C3 C4 C5 C6 C7 C8
        refine (jsame9_at mt p1 mt p2 _ _ _ _ _ _ _ _ _ _ _ _ vt vt 200 _ x1 x2 (by omega) (by omega)).mono ?_
        rintro e w5 ⟨rfl, b5⟩
        replace x1 := x1.below b5
        replace x2 := x2.below b5
        replace X := X.below b5
        replace ht := ht.below b5
        replace VC := VC.below b5
        replace VA := VA.below b5
        replace VB := VB.below b5
        replace BB := BB.trans (b5.mono BB.size)
        clear b5
        rw [HSA.out]
        obtain ⟨⟨C1, C2, C3, C4, C5, C6⟩, C7, C8⟩ := id VC
        go_wp2_with fail
        clear C1 C2 C3 C4 C5 C6 C7 C8
        refine (rprint9_at false p _ _ _ _ _ _ q 3 _ X (by omega) (by omega) ht).mono ?_
        rintro e w6 ⟨rfl, b6⟩
        replace x1 := x1.below b6
        replace x2 := x2.below b6
        replace X := X.below b6
        replace ht := ht.below b6
        replace VC := VC.below b6
        replace VA := VA.below b6
        replace VB := VB.below b6
        replace BB := BB.trans (b6.mono BB.size)
        clear b6
        rw [HWT.out]
        have HQS : Hid (qsz q ≤ 3) := X.qsz (by omega)
        have hws : wt.size ≤ 70 := by rw [← HWT.out]; exact ctxt_size _ 3 HQS.out
        go_wp2_with fail
        refine (rcellx_at wt 200 _ (by omega) ht (short9 _ (by omega))).mono ?_
        rintro e w7 ⟨p4, a4, n4, c4, b4, m4, d4, rfl, x4, _, b7⟩
        replace x1 := x1.below b7
        replace x2 := x2.below b7
        replace X := X.below b7
        replace ht := ht.below b7
        replace VC := VC.below b7
        replace VA := VA.below b7
        replace VB := VB.below b7
        replace BB := BB.trans (b7.mono BB.size)
        clear b7
        have HCE : Hid (cerr wt = 0) := by show cerr wt = 0; rw [← HWT.out]; exact ctxt_err _
        have HCV : Hid (sameC ⟨false, q⟩ ⟨(cval wt).miss, (cval wt).val⟩ = true) := by
          show sameC _ _ = true
          have h9 := ctxt_val ⟨false, q⟩ (fun _ => rfl)
          rw [HWT.out] at h9
          unfold sameC
          rw [h9.1]
          simp; exact (h9.2 rfl).symm
        rw [HCE.out]
        generalize (cval wt).miss = m9 at *
        generalize (cval wt).val = v9 at *
        obtain ⟨W3, hW3, hS3, hL3, VD⟩ := V4.lay w7 29 (.bool m9) (.bool p4) (.slice a4 n4 c4) (.slice b4 m4 d4)
        have hlt3VC := VC.lt
        have hlt3VA := VA.lt
        have hlt3VB := VB.lt
        replace x1 := x1.below hL3
        replace x2 := x2.below hL3
        replace X := X.below hL3
        replace ht := ht.below hL3
        replace VC := VC.below hL3
        replace VA := VA.below hL3
        replace VB := VB.below hL3
        replace x4 := x4.below hL3
        replace BB := BB.trans (hL3.mono BB.size)
        clear hL3
        obtain ⟨⟨VC_1, VC_2, VC_3, VC_4, VC_5, VC_6⟩, VC_7, VC_8⟩ := id VC
        obtain ⟨⟨VD_1, VD_2, VD_3, VD_4, VD_5, VD_6⟩, VD_7, VD_8⟩ := id VD
        rw [hW3] at VC_1 VC_2 VC_3 VC_4 VC_5 VC_6 VC_7 VC_8 VD_1 VD_2 VD_3 VD_4 VD_5 VD_6 VD_7 VD_8
        go_wp2_with fail
        clear VC_1 VC_2 VC_3 VC_4 VC_5 VC_6 VC_7 VC_8 VD_1 VD_2 VD_3 VD_4 VD_5 VD_6 VD_7 VD_8
        rw [← hW3]
        generalize w7.heap.size = R3 at *
        clear hW3 hS3
        refine (rprint9_at false p _ _ _ _ _ _ q 3 _ X (by omega) (by omega) ht).mono ?_
        rintro e w8 ⟨rfl, b8⟩
        replace x1 := x1.below b8
        replace x2 := x2.below b8
        replace X := X.below b8
        replace ht := ht.below b8
        replace VC := VC.below b8
        replace VA := VA.below b8
        replace VB := VB.below b8
        replace x4 := x4.below b8
        replace VD := VD.below b8
        replace BB := BB.trans (b8.mono BB.size)
        clear b8
        rw [HWT.out]
        have hss : (wt.toList == wt.toList) = true := by simp
        obtain ⟨⟨C1, C2, C3, C4, C5, C6⟩, C7, C8⟩ := id VC
        obtain ⟨⟨D1, D2, D3, D4, D5, D6⟩, D7, D8⟩ := id VD
        go_wp2_with fail
        clear C1 C2 C3 C4 C5 C6 C7 C8 D1 D2 D3 D4 D5 D6 D7 D8
        have X9 := X.le (show 3 ≤ 200 by omega)
        refine (jsame9_at false p m9 p4 _ _ _ _ _ _ _ _ _ _ _ _ q v9 200 _ X9 x4 (by omega) (by omega)).mono ?_
        rintro e w9 ⟨rfl, b9⟩
        replace x1 := x1.below b9
        replace x2 := x2.below b9
        replace X := X.below b9
        replace ht := ht.below b9
        replace VC := VC.below b9
        replace VA := VA.below b9
        replace VB := VB.below b9
        replace x4 := x4.below b9
        replace VD := VD.below b9
        replace BB := BB.trans (b9.mono BB.size)
        clear b9
        rw [HCV.out]
        go_wp2_with fail
        refine (awake9_at _ ht).mono ?_
        rintro e w10 ⟨rfl, b10⟩
        replace x1 := x1.below b10
        replace x2 := x2.below b10
        replace X := X.below b10
        replace ht := ht.below b10
        replace VC := VC.below b10
        replace VA := VA.below b10
        replace VB := VB.below b10
        replace x4 := x4.below b10
        replace VD := VD.below b10
        replace BB := BB.trans (b10.mono BB.size)
        clear b10
        go_wp2
        go_ret
        exact ⟨rfl, BB⟩
      · obtain ⟨⟨A1, A2, A3, A4, A5, A6⟩, A7, A8⟩ := id VA
        obtain ⟨⟨B1, B2, B3, B4, B5, B6⟩, B7, B8⟩ := id VB
        obtain ⟨⟨C1, C2, C3, C4, C5, C6⟩, C7, C8⟩ := id VC
        have hcb : (er == 0) = false := by simp [hc0]
        have hcn : (er != 0) = true := by simp [hc0]
        have hmt := HMS.out hc0
        subst hmt
        have hm1 := HM1.out hc0
        subst hm1
        have HC0 : Hid (¬ er = 0) := hc0
        go_wp2_with fail
        clear A1 A2 A3 A4 A5 A6 A7 A8 B1 B2 B3 B4 B5 B6 B7 B8 C1 C2 C3 C4 C5 C6 C7 C8
        refine (rprint9_at false p _ _ _ _ _ _ q 3 _ X (by omega) (by omega) ht).mono ?_
        rintro e w5 ⟨rfl, b5⟩
        replace x1 := x1.below b5
        replace x2 := x2.below b5
        replace X := X.below b5
        replace ht := ht.below b5
        replace VC := VC.below b5
        replace VA := VA.below b5
        replace VB := VB.below b5
        replace BB := BB.trans (b5.mono BB.size)
        clear b5
        rw [HWT.out]
        have HQS : Hid (qsz q ≤ 3) := X.qsz (by omega)
        have hws : wt.size ≤ 70 := by rw [← HWT.out]; exact ctxt_size _ 3 HQS.out
        go_wp2_with fail
        refine (rcellx_at wt 200 _ (by omega) ht (short9 _ (by omega))).mono ?_
        rintro e w6 ⟨p4, a4, n4, c4, b4, m4, d4, rfl, x4, _, b6⟩
        replace x1 := x1.below b6
        replace x2 := x2.below b6
        replace X := X.below b6
        replace ht := ht.below b6
        replace VC := VC.below b6
        replace VA := VA.below b6
        replace VB := VB.below b6
        replace BB := BB.trans (b6.mono BB.size)
        clear b6
        have HCE : Hid (cerr wt = 0) := by show cerr wt = 0; rw [← HWT.out]; exact ctxt_err _
        have HCV : Hid (sameC ⟨false, q⟩ ⟨(cval wt).miss, (cval wt).val⟩ = true) := by
          show sameC _ _ = true
          have h9 := ctxt_val ⟨false, q⟩ (fun _ => rfl)
          rw [HWT.out] at h9
          unfold sameC
          rw [h9.1]
          simp; exact (h9.2 rfl).symm
        rw [HCE.out]
        generalize (cval wt).miss = m9 at *
        generalize (cval wt).val = v9 at *
        obtain ⟨W3, hW3, hS3, hL3, VD⟩ := V4.lay w6 29 (.bool m9) (.bool p4) (.slice a4 n4 c4) (.slice b4 m4 d4)
        have hlt3VC := VC.lt
        have hlt3VA := VA.lt
        have hlt3VB := VB.lt
        replace x1 := x1.below hL3
        replace x2 := x2.below hL3
        replace X := X.below hL3
        replace ht := ht.below hL3
        replace VC := VC.below hL3
        replace VA := VA.below hL3
        replace VB := VB.below hL3
        replace x4 := x4.below hL3
        replace BB := BB.trans (hL3.mono BB.size)
        clear hL3
        obtain ⟨⟨VC_1, VC_2, VC_3, VC_4, VC_5, VC_6⟩, VC_7, VC_8⟩ := id VC
        obtain ⟨⟨VD_1, VD_2, VD_3, VD_4, VD_5, VD_6⟩, VD_7, VD_8⟩ := id VD
        rw [hW3] at VC_1 VC_2 VC_3 VC_4 VC_5 VC_6 VC_7 VC_8 VD_1 VD_2 VD_3 VD_4 VD_5 VD_6 VD_7 VD_8
        go_wp2_with fail
        clear VC_1 VC_2 VC_3 VC_4 VC_5 VC_6 VC_7 VC_8 VD_1 VD_2 VD_3 VD_4 VD_5 VD_6 VD_7 VD_8
        rw [← hW3]
        generalize w6.heap.size = R3 at *
        clear hW3 hS3
        refine (rprint9_at false p _ _ _ _ _ _ q 3 _ X (by omega) (by omega) ht).mono ?_
        rintro e w7 ⟨rfl, b7⟩
        replace x1 := x1.below b7
        replace x2 := x2.below b7
        replace X := X.below b7
        replace ht := ht.below b7
        replace VC := VC.below b7
        replace VA := VA.below b7
        replace VB := VB.below b7
        replace x4 := x4.below b7
        replace VD := VD.below b7
        replace BB := BB.trans (b7.mono BB.size)
        clear b7
        rw [HWT.out]
        have hss : (wt.toList == wt.toList) = true := by simp
        obtain ⟨⟨C1, C2, C3, C4, C5, C6⟩, C7, C8⟩ := id VC
        obtain ⟨⟨D1, D2, D3, D4, D5, D6⟩, D7, D8⟩ := id VD
        go_wp2_with fail
        clear C1 C2 C3 C4 C5 C6 C7 C8 D1 D2 D3 D4 D5 D6 D7 D8
        have X9 := X.le (show 3 ≤ 200 by omega)
        refine (jsame9_at false p m9 p4 _ _ _ _ _ _ _ _ _ _ _ _ q v9 200 _ X9 x4 (by omega) (by omega)).mono ?_
        rintro e w8 ⟨rfl, b8⟩
        replace x1 := x1.below b8
        replace x2 := x2.below b8
        replace X := X.below b8
        replace ht := ht.below b8
        replace VC := VC.below b8
        replace VA := VA.below b8
        replace VB := VB.below b8
        replace x4 := x4.below b8
        replace VD := VD.below b8
        replace BB := BB.trans (b8.mono BB.size)
        clear b8
        rw [HCV.out]
        go_wp2_with fail
        refine (awake9_at _ ht).mono ?_
        rintro e w9 ⟨rfl, b9⟩
        replace x1 := x1.below b9
        replace x2 := x2.below b9
        replace X := X.below b9
        replace ht := ht.below b9
        replace VC := VC.below b9
        replace VA := VA.below b9
        replace VB := VB.below b9
        replace x4 := x4.below b9
        replace VD := VD.below b9
        replace BB := BB.trans (b9.mono BB.size)
        clear b9
        go_wp2
        go_ret
        exact ⟨rfl, BB⟩
    · have HWT0 : Hid (ctxt ⟨true, q⟩ = { data := #[63] }) := rfl
      have HSA : Hid (sameC ⟨mt, vt⟩ ⟨mt, vt⟩ = true) := sameC_self _
      by_cases hc0 : er = 0
      · obtain ⟨⟨A1, A2, A3, A4, A5, A6⟩, A7, A8⟩ := id VA_n
        obtain ⟨⟨B1, B2, B3, B4, B5, B6⟩, B7, B8⟩ := id VB_n
        subst hc0
        go_wp2_with fail
        clear y1 y2 y3 y4 y5 y6 y7 y8 z1 z2 z3 z4 z5 z6 z7 z8 A1 A2 A3 A4 A5 A6 A7 A8 B1 B2 B3 B4 B5 B6 B7 B8 x1 x2 X ht VC VA VB BB
        generalize ((w3.setCell ⟨w.heap.size, 1, none⟩ (.bool p)).setCell ⟨w.heap.size, 2, none⟩ (.slice ao3 k3 co3)).setCell ⟨w.heap.size, 3, none⟩ (.slice bo3 l3 do3) = WS at *
        have x1 := x1_n
        have x2 := x2_n
        have X := X_n
        have ht := ht_n
        have VC := VC_n
        have VA := VA_n
        have VB := VB_n
        have BB := BB_n
        clear x1_n x2_n X_n ht_n VC_n VA_n VB_n BB_n
        refine (jsame9_at mt p1 mt p2 _ _ _ _ _ _ _ _ _ _ _ _ vt vt 200 _ x1 x2 (by omega) (by omega)).mono ?_
        rintro e w4 ⟨rfl, b4⟩
        replace x1 := x1.below b4
        replace x2 := x2.below b4
        replace X := X.below b4
        replace ht := ht.below b4
        replace VC := VC.below b4
        replace VA := VA.below b4
        replace VB := VB.below b4
        replace BB := BB.trans (b4.mono BB.size)
        clear b4
        rw [HSA.out]
        obtain ⟨⟨C1, C2, C3, C4, C5, C6⟩, C7, C8⟩ := id VC
        go_wp2_with fail
        clear C1 C2 C3 C4 C5 C6 C7 C8
        refine (rprint9_at true p _ _ _ _ _ _ q 3 _ X (by omega) (by omega) ht).mono ?_
        rintro e w5 ⟨rfl, b5⟩
        replace x1 := x1.below b5
        replace x2 := x2.below b5
        replace X := X.below b5
        replace ht := ht.below b5
        replace VC := VC.below b5
        replace VA := VA.below b5
        replace VB := VB.below b5
        replace BB := BB.trans (b5.mono BB.size)
        clear b5
        obtain ⟨wt, hwt⟩ : ∃ wt, ctxt ⟨true, q⟩ = wt := ⟨_, rfl⟩
        have HWT : Hid (ctxt ⟨true, q⟩ = wt) := hwt
        rw [hwt]
        have HQS : Hid (qsz q ≤ 3) := X.qsz (by omega)
        have hws : wt.size ≤ 70 := by rw [← HWT.out]; exact ctxt_size _ 3 HQS.out
        have hwq : wt = { data := #[63] } := by rw [← hwt]; rfl
        have HWQ : Hid (wt = { data := #[63] }) := hwq
        clear hwt hwq
        go_wp2_with fail
        refine (rcellx_at wt 200 _ (by omega) ht (short9 _ (by omega))).mono ?_
        rintro e w6 ⟨p4, a4, n4, c4, b4, m4, d4, rfl, x4, _, b6⟩
        replace x1 := x1.below b6
        replace x2 := x2.below b6
        replace X := X.below b6
        replace ht := ht.below b6
        replace VC := VC.below b6
        replace VA := VA.below b6
        replace VB := VB.below b6
        replace BB := BB.trans (b6.mono BB.size)
        clear b6
        have HCE : Hid (cerr wt = 0) := by show cerr wt = 0; rw [← HWT.out]; exact ctxt_err _
        have HCV : Hid (sameC ⟨true, q⟩ ⟨(cval wt).miss, (cval wt).val⟩ = true) := by
          show sameC _ _ = true
          have h9 := ctxt_val ⟨true, q⟩ (fun _ => rfl)
          rw [HWT.out] at h9
          unfold sameC
          rw [h9.1]
          simp
        rw [HCE.out]
        generalize (cval wt).miss = m9 at *
        generalize (cval wt).val = v9 at *
        obtain ⟨W3, hW3, hS3, hL3, VD⟩ := V4.lay w6 29 (.bool m9) (.bool p4) (.slice a4 n4 c4) (.slice b4 m4 d4)
        have hlt3VC := VC.lt
        have hlt3VA := VA.lt
        have hlt3VB := VB.lt
        replace x1 := x1.below hL3
        replace x2 := x2.below hL3
        replace X := X.below hL3
        replace ht := ht.below hL3
        replace VC := VC.below hL3
        replace VA := VA.below hL3
        replace VB := VB.below hL3
        replace x4 := x4.below hL3
        replace BB := BB.trans (hL3.mono BB.size)
        clear hL3
        obtain ⟨⟨VC_1, VC_2, VC_3, VC_4, VC_5, VC_6⟩, VC_7, VC_8⟩ := id VC
        obtain ⟨⟨VD_1, VD_2, VD_3, VD_4, VD_5, VD_6⟩, VD_7, VD_8⟩ := id VD
        rw [hW3] at VC_1 VC_2 VC_3 VC_4 VC_5 VC_6 VC_7 VC_8 VD_1 VD_2 VD_3 VD_4 VD_5 VD_6 VD_7 VD_8
        go_wp2_with fail
        clear VC_1 VC_2 VC_3 VC_4 VC_5 VC_6 VC_7 VC_8 VD_1 VD_2 VD_3 VD_4 VD_5 VD_6 VD_7 VD_8
        rw [← hW3]
        generalize w6.heap.size = R3 at *
        clear hW3 hS3
        refine (rprint9_at true p _ _ _ _ _ _ q 3 _ X (by omega) (by omega) ht).mono ?_
        rintro e w7 ⟨rfl, b7⟩
        replace x1 := x1.below b7
        replace x2 := x2.below b7
        replace X := X.below b7
        replace ht := ht.below b7
        replace VC := VC.below b7
        replace VA := VA.below b7
        replace VB := VB.below b7
        replace x4 := x4.below b7
        replace VD := VD.below b7
        replace BB := BB.trans (b7.mono BB.size)
        clear b7
        rw [HWT.out]
        have hss : (wt.toList == wt.toList) = true := by simp
        obtain ⟨⟨C1, C2, C3, C4, C5, C6⟩, C7, C8⟩ := id VC
        obtain ⟨⟨D1, D2, D3, D4, D5, D6⟩, D7, D8⟩ := id VD
        have hwq := HWQ.out
        subst hwq
        go_wp2_with fail
        clear C1 C2 C3 C4 C5 C6 C7 C8 D1 D2 D3 D4 D5 D6 D7 D8
        have X9 := X.le (show 3 ≤ 200 by omega)
        refine (jsame9_at true p m9 p4 _ _ _ _ _ _ _ _ _ _ _ _ q v9 200 _ X9 x4 (by omega) (by omega)).mono ?_
        rintro e w8 ⟨rfl, b8⟩
        replace x1 := x1.below b8
        replace x2 := x2.below b8
        replace X := X.below b8
        replace ht := ht.below b8
        replace VC := VC.below b8
        replace VA := VA.below b8
        replace VB := VB.below b8
        replace x4 := x4.below b8
        replace VD := VD.below b8
        replace BB := BB.trans (b8.mono BB.size)
        clear b8
        rw [HCV.out]
        go_wp2_with fail
        refine (awake9_at _ ht).mono ?_
        rintro e w9 ⟨rfl, b9⟩
        replace x1 := x1.below b9
        replace x2 := x2.below b9
        replace X := X.below b9
        replace ht := ht.below b9
        replace VC := VC.below b9
        replace VA := VA.below b9
        replace VB := VB.below b9
        replace x4 := x4.below b9
        replace VD := VD.below b9
        replace BB := BB.trans (b9.mono BB.size)
        clear b9
        go_wp2
        go_ret
        exact ⟨rfl, BB⟩
      · obtain ⟨⟨A1, A2, A3, A4, A5, A6⟩, A7, A8⟩ := id VA_n
        obtain ⟨⟨B1, B2, B3, B4, B5, B6⟩, B7, B8⟩ := id VB_n
        have hcb : (er == 0) = false := by simp [hc0]
        have hcn : (er != 0) = true := by simp [hc0]
        have hmt := HMS.out hc0
        subst hmt
        have hm1 := HM1.out hc0
        subst hm1
        have HC0 : Hid (¬ er = 0) := hc0
        go_wp2_with fail
        clear y1 y2 y3 y4 y5 y6 y7 y8 z1 z2 z3 z4 z5 z6 z7 z8 A1 A2 A3 A4 A5 A6 A7 A8 B1 B2 B3 B4 B5 B6 B7 B8 x1 x2 X ht VC VA VB BB
        generalize ((w3.setCell ⟨w.heap.size, 1, none⟩ (.bool p)).setCell ⟨w.heap.size, 2, none⟩ (.slice ao3 k3 co3)).setCell ⟨w.heap.size, 3, none⟩ (.slice bo3 l3 do3) = WS at *
        have x1 := x1_n
        have x2 := x2_n
        have X := X_n
        have ht := ht_n
        have VC := VC_n
        have VA := VA_n
        have VB := VB_n
        have BB := BB_n
        clear x1_n x2_n X_n ht_n VC_n VA_n VB_n BB_n
        refine (rprint9_at true p _ _ _ _ _ _ q 3 _ X (by omega) (by omega) ht).mono ?_
        rintro e w4 ⟨rfl, b4⟩
        replace x1 := x1.below b4
        replace x2 := x2.below b4
        replace X := X.below b4
        replace ht := ht.below b4
        replace VC := VC.below b4
        replace VA := VA.below b4
        replace VB := VB.below b4
        replace BB := BB.trans (b4.mono BB.size)
        clear b4
        obtain ⟨wt, hwt⟩ : ∃ wt, ctxt ⟨true, q⟩ = wt := ⟨_, rfl⟩
        have HWT : Hid (ctxt ⟨true, q⟩ = wt) := hwt
        rw [hwt]
        have HQS : Hid (qsz q ≤ 3) := X.qsz (by omega)
        have hws : wt.size ≤ 70 := by rw [← HWT.out]; exact ctxt_size _ 3 HQS.out
        have hwq : wt = { data := #[63] } := by rw [← hwt]; rfl
        have HWQ : Hid (wt = { data := #[63] }) := hwq
        clear hwt hwq
        go_wp2_with fail
        refine (rcellx_at wt 200 _ (by omega) ht (short9 _ (by omega))).mono ?_
        rintro e w5 ⟨p4, a4, n4, c4, b4, m4, d4, rfl, x4, _, b5⟩
        replace x1 := x1.below b5
        replace x2 := x2.below b5
        replace X := X.below b5
        replace ht := ht.below b5
        replace VC := VC.below b5
        replace VA := VA.below b5
        replace VB := VB.below b5
        replace BB := BB.trans (b5.mono BB.size)
        clear b5
        have HCE : Hid (cerr wt = 0) := by show cerr wt = 0; rw [← HWT.out]; exact ctxt_err _
        have HCV : Hid (sameC ⟨true, q⟩ ⟨(cval wt).miss, (cval wt).val⟩ = true) := by
          show sameC _ _ = true
          have h9 := ctxt_val ⟨true, q⟩ (fun _ => rfl)
          rw [HWT.out] at h9
          unfold sameC
          rw [h9.1]
          simp
        rw [HCE.out]
        generalize (cval wt).miss = m9 at *
        generalize (cval wt).val = v9 at *
        obtain ⟨W3, hW3, hS3, hL3, VD⟩ := V4.lay w5 29 (.bool m9) (.bool p4) (.slice a4 n4 c4) (.slice b4 m4 d4)
        have hlt3VC := VC.lt
        have hlt3VA := VA.lt
        have hlt3VB := VB.lt
        replace x1 := x1.below hL3
        replace x2 := x2.below hL3
        replace X := X.below hL3
        replace ht := ht.below hL3
        replace VC := VC.below hL3
        replace VA := VA.below hL3
        replace VB := VB.below hL3
        replace x4 := x4.below hL3
        replace BB := BB.trans (hL3.mono BB.size)
        clear hL3
        obtain ⟨⟨VC_1, VC_2, VC_3, VC_4, VC_5, VC_6⟩, VC_7, VC_8⟩ := id VC
        obtain ⟨⟨VD_1, VD_2, VD_3, VD_4, VD_5, VD_6⟩, VD_7, VD_8⟩ := id VD
        rw [hW3] at VC_1 VC_2 VC_3 VC_4 VC_5 VC_6 VC_7 VC_8 VD_1 VD_2 VD_3 VD_4 VD_5 VD_6 VD_7 VD_8
        go_wp2_with fail
        clear VC_1 VC_2 VC_3 VC_4 VC_5 VC_6 VC_7 VC_8 VD_1 VD_2 VD_3 VD_4 VD_5 VD_6 VD_7 VD_8
        rw [← hW3]
        generalize w5.heap.size = R3 at *
        clear hW3 hS3
        refine (rprint9_at true p _ _ _ _ _ _ q 3 _ X (by omega) (by omega) ht).mono ?_
        rintro e w6 ⟨rfl, b6⟩
        replace x1 := x1.below b6
        replace x2 := x2.below b6
        replace X := X.below b6
        replace ht := ht.below b6
        replace VC := VC.below b6
        replace VA := VA.below b6
        replace VB := VB.below b6
        replace x4 := x4.below b6
        replace VD := VD.below b6
        replace BB := BB.trans (b6.mono BB.size)
        clear b6
        rw [HWT.out]
        have hss : (wt.toList == wt.toList) = true := by simp
        obtain ⟨⟨C1, C2, C3, C4, C5, C6⟩, C7, C8⟩ := id VC
        obtain ⟨⟨D1, D2, D3, D4, D5, D6⟩, D7, D8⟩ := id VD
        have hwq := HWQ.out
        subst hwq
        go_wp2_with fail
        clear C1 C2 C3 C4 C5 C6 C7 C8 D1 D2 D3 D4 D5 D6 D7 D8
        have X9 := X.le (show 3 ≤ 200 by omega)
        refine (jsame9_at true p m9 p4 _ _ _ _ _ _ _ _ _ _ _ _ q v9 200 _ X9 x4 (by omega) (by omega)).mono ?_
        rintro e w7 ⟨rfl, b7⟩
        replace x1 := x1.below b7
        replace x2 := x2.below b7
        replace X := X.below b7
        replace ht := ht.below b7
        replace VC := VC.below b7
        replace VA := VA.below b7
        replace VB := VB.below b7
        replace x4 := x4.below b7
        replace VD := VD.below b7
        replace BB := BB.trans (b7.mono BB.size)
        clear b7
        rw [HCV.out]
        go_wp2_with fail
        refine (awake9_at _ ht).mono ?_
        rintro e w8 ⟨rfl, b8⟩
        replace x1 := x1.below b8
        replace x2 := x2.below b8
        replace X := X.below b8
        replace ht := ht.below b8
        replace VC := VC.below b8
        replace VA := VA.below b8
        replace VB := VB.below b8
        replace x4 := x4.below b8
        replace VD := VD.below b8
        replace BB := BB.trans (b8.mono BB.size)
        clear b8
        go_wp2
        go_ret
        exact ⟨rfl, BB⟩

theorem own : ownKnob Tryz.prog.godebug = none := by kernel_rfl
theorem laidOut : laidOutB Tryz.prog = true := by kernel_rfl

abbrev laid1 : List (String × DataW Unit) := [("math/bits.deBruijn64tab", Rows.laid_math_bits_deBruijn64tab)]
theorem gTab : Tryz.prog.globalNamed "math/bits.deBruijn64tab" = some 1 := by kernel_rfl
theorem gTabType : (Tryz.prog.globals[1]?).map (·.type) = some 179 := by kernel_rfl
theorem uTab : Tryz.prog.underlying 179 = some (.array 64 5) := by kernel_rfl
theorem uCell : Tryz.prog.underlying 5 = some (.int .u8) := by kernel_rfl
theorem cCell : Tryz.prog.cellsOf 5 = 1 := by kernel_rfl
theorem cTab : Tryz.prog.cellsOf 179 = 64 := by kernel_rfl
/-- The listed table lies in its cells. -/
theorem tab_of {W : World} (h : laidMetH Tryz.prog laid1 W) : Tab W := by
  rw [MakeChecks.laidMetH_plain _ _ _ (by kernel_rfl)] at h
  have hd : laid1 = [("math/bits.deBruijn64tab", Lib.tabData .u8 (Lib.deBruijn64tab.map fun (n : Nat) => Int.ofNat n))] := rfl
  rw [hd] at h
  have hT := Lib.tabIs_of_head gTab gTabType uTab uCell cCell cTab h
  intro i hi
  have hc := hT.cell gTab i (by rw [List.length_map]; exact hi)
  rw [hc]
  congr 2
  rw [List.getD_eq_getElem?_getD, List.getElem?_map, List.getD_eq_getElem?_getD]
  cases Lib.deBruijn64tab[i]? <;> rfl
/-- A start for the witness: the heap that the run of the program's own initialisers leaves. -/
noncomputable def startW (os : Os) : World := { World.holding Tryz.prog os ⟨#[], #[], []⟩ with heap := (varsWorld Tryz.prog 400 (varsId Tryz.prog) os (fun _ _ => 0)).heap }
theorem start_met (os : Os) (args : Array Value) : laidMetH Tryz.prog laid1 ((startW os).forCall (fun _ _ => 0) ⟨#[], args, []⟩).memory :=
  laidMetH_of_parts3 (fuel := 8) (laidMet_of_run' 8 (by kernel_rfl) (by kernel_rfl)) (by kernel_rfl) (by kernel_rfl)

set_option maxRecDepth 100000 in
theorem lifted (os : Os) (started : os.Started) (H : Type) (enc : TypeId × Value → H) :
    ReturnsInHanded {} Tryz.checked os 3 .any (fun w args => (Rows.rowsCellsSpec.pre enc Tryz.prog Tryz.f3 [] false w args ∧ laidMetH Tryz.prog laid1 w) ∧ sizedMet enc Tryz.prog Tryz.f3 (OpenSpec.ofChange Rows.rowsCellsSpec) false w args) (Rows.rowsCellsSpec.post enc Tryz.prog Tryz.f3 false true false false) := by
  refine returnsInHanded_of_change_and (C := Tryz.checked) (X := fun w _ => laidMetH Tryz.prog laid1 w) (fun _ _ _ hh h => h.of_heap hh) own started (by kernel_rfl) Tryz.func3
    (ChangeSpec.witness_shaped (enc := enc) (C := Tryz.checked) (os := os) (X := fun w _ => laidMetH Tryz.prog laid1 w) false (startW os) #[.string ByteArray.empty, .agg #[.bool false, .bool false, .slice none 0 0, .slice none 0 0]] 8 rfl (World.shaped_of_RefB (by kernel_rfl) (by kernel_rfl)) (by kernel_rfl) (by kernel_rfl) (by kernel_rfl) (start_met os _)) ?_
  intro W base args ds gs before hval0 hW _ _ hL _
  have hval : ∀ (j : Nat) t v, Tryz.f3.params[j]? = some t → args[j]? = some v → Value.okWide Tryz.prog W .any base t v := hval0
  have hW' := hW
  obtain ⟨p, q, hA0, hV, rfl, hfz, hnd⟩ := hW
  have hA : DataW.TrodAll enc Tryz.prog W 0 (fun _ => true) true Tryz.f3.params.toList args.toList ds p := hA0
  rw [Tryz.params3] at hA hval
  obtain ⟨v0, vs0, d0, ds0, p0, q0, hargs, rfl, rfl, h0, r0⟩ := trodAll_cons hA
  obtain ⟨v1, vs1, d1, ds1, p1, q1, rfl, rfl, rfl, h1, r1⟩ := trodAll_cons r0
  obtain ⟨rfl, rfl, rfl⟩ := trodAll_nil r1
  obtain rfl : args = #[v0, v1] := by cases args; simp_all
  obtain ⟨rfl, rfl⟩ := trodVars_none hV
  obtain ⟨s0, rfl, rfl, rfl, w0⟩ := open_string Tryz.underlying9 (hval 0 9 v0 rfl rfl) h0
  have k1 := h1
  have lt1 : ∀ x ∈ p1, x.block < W.heap.size := by obtain ⟨m, hm⟩ := k1; exact DataW.trod_lt m _ _ _ hm
  obtain ⟨ms1, neg1, ao1, n1, c1, bo1, m1, d1, f1, g1, rfl, w1, x1⟩ := open_cell (hval 1 29 v1 rfl rfl) h1
  clear hA0 hval0
  refine (walk s0 _ _ _ _ _ _ _ _ _ _ W w0 w1 x1 (tab_of hL)).mono fun e W' ⟨he, bel⟩ => ?_
  subst he
  exact ⟨_, rfl, _, _, _, [], _, [], hW', trodAll_mk1 (shut_bool Tryz.underlying4 _), (trodAll_cons_mk (shut_string Tryz.underlying9 w0) (trodAll_cons_mk (Below.trod laidOut (by kernel_rfl) (of_decide_eq_true (by kernel_rfl)) k1 bel lt1) trodAll_mk0)), rfl, bel.frame _, fun h => by cases h⟩

theorem over : Rows.rowsCellsRow.holds Tryz.pinned (OpenSpec.ofChange Rows.rowsCellsSpec) :=
  OpenClaim.holds_of_wide 3 Tryz.f3 rfl rfl rfl rfl rfl rfl rfl ⟨rfl, rfl, rfl, rfl, rfl⟩ rfl rfl rfl rfl rfl (by kernel_rfl) Tryz.func3 (by kernel_rfl)
    (of_decide_eq_true (by kernel_rfl)) (by unfold Func.isWrapper; first | (rw [if_pos (by decide +kernel)]; kernel_rfl) | (rw [if_neg (by decide +kernel)]; exact ⟨rfl, rfl⟩))
    (fun os started H enc _ => lifted os started H enc)

end Go.Proofs.YtianfjidbeineaaGreatDoor.rowsCells
namespace Go.Proofs.YtianfjidbeineaaGreatDoor
/-- The statement: the row, tied to the text of the program. -/
theorem rowsCells_holds : Rows.RowsCellsCardSaid :=
  Claim7.holds_tied_plain_at .later [] [.data] true (true, "885c1355689222cccb61c3139621a6636fb64cd2ef1af163d7343c3d7e634eb2") false
    rowsCells.over (fun _ h => by cases h) (by kernel_rfl) (fun _ h => by cases h) rowsCells_row_tie rfl ⟨rfl, rfl⟩ (by kernel_rfl) rfl
    (fun f fn hf hfn => by
      obtain rfl : f = 3 := Option.some.inj ((show Tryz.prog.funcNamed "dendron/dendronlaw09.RowsCells" = some 3 by kernel_rfl).symm.trans hf) |>.symm
      obtain rfl : fn = Tryz.f3 := (Option.some.inj (Tryz.func3.symm.trans hfn)).symm
      exact ⟨by kernel_rfl, fun j t ht => by
        rw [Tryz.params3] at ht
        have hm : t ∈ [9, 29] := by simpa using Array.mem_of_getElem? ht
        have hall : ([9, 29].all fun u => !Tryz.prog.wantsStandIn u) = true := by kernel_rfl
        exact (show Tryz.prog.wantsStandIn t = false by simpa using List.all_eq_true.1 hall t hm)⟩)
    (by kernel_rfl)
end Go.Proofs.YtianfjidbeineaaGreatDoor
