/-
  Proves that whether any tree of up to 15 nodes may be, for so many features, is what the document says.
-/
import Derived.Test.YtemejonjhpmjpaaDoorRows
import Derived.Test.YtemejonjhpmjpaaDoorJ07a2dd67e2
import Derived.Test.YtemejonjhpmjpaaDoorJ39f522c6b7
import Derived.Test.YtemejonjhpmjpaaDoorJef92756017
import Derived.WalkKit
import Derived.ProofKit
import Derived.OpenShut
import Derived.ShutString
import Derived.ChangeOld
import Derived.Below
import Derived.Test.YtemejonjhpmjpaaDoorTie
import Derived.Test.YtemejonjhpmjpaaDoorCards
import Derived.LaidByTextLater
import Derived.LaidHandle
import Derived.Lib.LaidTab
import Derived.SevenTiedAt
namespace Go.Proofs.YtemejonjhpmjpaaDoor.validTrees
open Go.ChangeShapes Go.WideShapes Go.ChangeAt Go.RowKit
open Go.ChangeMaps (open_string shut_string)
set_option linter.unusedVariables false
set_option linter.unusedSimpArgs false

def CellAt1 (w : World) (b o : Nat) (v : Value) : Prop := w.cell? ⟨b, o, none⟩ = some v
theorem CellAt1.below {w w' : World} {b o : Nat} {v : Value} (h : CellAt1 w b o v) (hb : Below w.heap.size w w') : CellAt1 w' b o v := (hb.cell (World.block_lt_of_cell? w _ h)).trans h
theorem CellAt1.out {w : World} {b o : Nat} {v : Value} (h : CellAt1 w b o v) : w.cell? ⟨b, o, none⟩ = some v := h

set_option maxRecDepth 100000 in
set_option maxHeartbeats 8000000 in
theorem walk (v : Value) (n : Nat) (t : Nat → Nd) (F : Int) (w : World) (hv : TRaw w v n t 4) (hF : (Lit.int .i64 F).wf = true) (ht : Tab w) :
    Calls Tryd.prog 4 #[v, .int .i64 F] w fun e w' => e = .returned (.bool true) ∧ Below w.heap.size w w' := by
  clear hF
  obtain ⟨ao, c, rfl, hnc, hc63⟩ := hv.open
  have BB : Below w.heap.size w w := Below.refl _ _
  have M1 := one_raw hv 32
  have hA : Below w.heap.size w (w.alloc (.cells #[.slice ao n c] 32)) := (Below.refl _ _).alloc (Nat.le_refl _) _
  replace ht := ht.below hA
  replace BB := BB.trans (hA.mono BB.size)
  go_enter Tryd.func4, Tryd.ntmps4
  go_wp2_with fail
  refine (few7_at F _ 1 (fun _ => n) (fun _ => t) _ M1).mono ?_
  rintro e w1 ⟨r, rfl, MO, b1⟩
  replace ht := ht.below b1
  replace BB := BB.trans (b1.mono BB.size)
  clear b1
  obtain ⟨ar, cr, rfl⟩ := MO.form
  clear M1 hA
  have MR := MO.row
  clear MO
  generalize hnn : min n 15 = nn at MR
  clear hnn
  have MR : MRow w1 (.slice ar 1 cr) 1 (fun _ => nn) (fun _ => t) 4 := MR
  obtain ⟨W3, hW3, hS3, hL3, VM⟩ := V2.lay w1 24 (.int .i64 F) (.slice ar 1 cr)
  obtain ⟨q1, q2, q3, q4⟩ := id VM
  rw [hW3] at q1 q2 q3 q4
  (try rw [show min 1 6 = 1 by omega])
  go_wp2_with fail
  clear q1 q2 q3 q4
  rw [← hW3]
  clear hW3 hS3
  replace ht := ht.below hL3
  replace MR := MR.below hL3
  replace BB := BB.trans (hL3.mono BB.size)
  clear hL3
  generalize w1.heap.size = R3 at *
  refine (lcheck_at F _ 1 (fun _ => nn) (fun _ => t) 4 _ MR ht (by omega) (by omega)).mono ?_
  rintro e w2 ⟨u, rfl, HC, b2⟩
  replace ht := ht.below b2
  replace MR := MR.below b2
  replace VM := VM.below b2
  replace BB := BB.trans (b2.mono BB.size)
  clear b2
  have HCC : Hid (ChkOut F 1 (fun _ => nn) (fun _ => t) u) := HC
  obtain ⟨a, s, d, rfl, hz⟩ := HC.open
  clear HC
  obtain ⟨W5, hW5, hS5, hL5, VF⟩ := V4.lay w2 28 (.int .i64 a) (.int .i64 0) (.int .i64 s) (.int .i64 d)
  obtain ⟨⟨y1, y2, y3, y4, y5, y6⟩, y7, y8⟩ := id VF
  rw [hW5] at y1 y2 y3 y4 y5 y6 y7 y8
  go_wp2_with fail
  clear y1 y2 y3 y4 y5 y6 y7 y8
  rw [← hW5]
  clear hW5 hS5
  replace ht := ht.below hL5
  replace MR := MR.below hL5
  replace VM := VM.below hL5
  replace BB := BB.trans (hL5.mono BB.size)
  clear hL5
  generalize w2.heap.size = R5 at *
  obtain ⟨bT, oT, cT, aT, dT, hvv, hcc, XT, TR⟩ := MR.at (i := 0) (by omega)
  cases hvv
  rw [Nat.add_zero] at XT
  have XC : CellAt1 W5 bT oT (.slice aT nn dT) := XT
  clear XT
  by_cases ha : a = 0
  · obtain ⟨rfl, rfl⟩ := hz ha
    subst ha
    have hDr : Below W5.heap.size W5 W5.drew := (Below.refl _ _).drew
    replace ht := ht.below hDr
    replace MR := MR.below hDr
    replace VF := VF.below hDr
    replace XC := XC.below hDr
    replace TR := TR.below hDr
    replace VM := VM.below hDr
    replace BB := BB.trans (hDr.mono BB.size)
    clear hDr
    refine wp_region_held_drew (S := (fun w' => w'.cell? ⟨R3, 0, none⟩ = some (.int .i64 F) ∧ w'.cell? ⟨R3, 1, none⟩ = some (.slice (some ⟨bT, oT, none⟩) 1 cr) ∧ w'.cell? ⟨R5, 0, none⟩ = some (.int .i64 0) ∧ w'.cell? ⟨bT, oT, none⟩ = some (.slice aT nn dT))) (by kernel_rfl) ?_ (fun hHeld => ?_)
    · exact ⟨VM.1, VM.2.1, VF.1.1, XC.out⟩
    generalize W5.drew = W1 at *
    refine wpAnyH_take (i := 0) (v := ?_) (by simp only [List.getElem?_toArray, List.getElem?_cons_succ, List.getElem?_cons_zero]; rfl) (by kernel_rfl) (by kernel_rfl) (by kernel_rfl) (by exact fun _ _ _ h => h) (Or.inl ⟨by rfl, ?_⟩) (by assumption) ?_
    rotate_left
    · (intro w hSw; (try dsimp only at hSw); go_simp; (try with_reducible rfl))
    (try simp only [Act.put, List.setIfInBounds_toArray, List.set_cons_zero, List.set_cons_succ])
    refine wpAnyH_take (i := 1) (v := ?_) (by simp only [List.getElem?_toArray, List.getElem?_cons_succ, List.getElem?_cons_zero]; rfl) (by kernel_rfl) (by kernel_rfl) (by kernel_rfl) (by exact fun _ _ _ h => h) (Or.inl ⟨by rfl, ?_⟩) (by assumption) ?_
    rotate_left
    · (intro w hSw; (try dsimp only at hSw); go_simp; (try with_reducible rfl))
    (try simp only [Act.put, List.setIfInBounds_toArray, List.set_cons_zero, List.set_cons_succ])
    refine wpAnyH_take (i := 2) (v := ?_) (by simp only [List.getElem?_toArray, List.getElem?_cons_succ, List.getElem?_cons_zero]; rfl) (by kernel_rfl) (by kernel_rfl) (by kernel_rfl) (by exact fun _ _ _ h => h) (Or.inl ⟨by rfl, ?_⟩) (by assumption) ?_
    rotate_left
    · (intro w hSw; (try dsimp only at hSw); go_simp; (try with_reducible rfl))
    (try simp only [Act.put, List.setIfInBounds_toArray, List.set_cons_zero, List.set_cons_succ])
    refine wpAnyH_take (i := 3) (v := ?_) (by simp only [List.getElem?_toArray, List.getElem?_cons_succ, List.getElem?_cons_zero]; rfl) (by kernel_rfl) (by kernel_rfl) (by kernel_rfl) (by exact fun _ _ _ h => h) (Or.inl ⟨by rfl, ?_⟩) (by assumption) ?_
    rotate_left
    · (intro w hSw; (try dsimp only at hSw); go_simp; (try with_reducible rfl))
    (try simp only [Act.put, List.setIfInBounds_toArray, List.set_cons_zero, List.set_cons_succ])
    refine wpAnyH_take (i := 4) (v := ?_) (by simp only [List.getElem?_toArray, List.getElem?_cons_succ, List.getElem?_cons_zero]; rfl) (by kernel_rfl) (by kernel_rfl) (by kernel_rfl) (by exact fun _ _ _ h => h) (Or.inl ⟨by rfl, ?_⟩) (by assumption) ?_
    rotate_left
    · (intro w hSw; (try dsimp only at hSw); go_simp; (try with_reducible rfl))
    (try simp only [Act.put, List.setIfInBounds_toArray, List.set_cons_zero, List.set_cons_succ])
    refine wpAnyH_take (i := 6) (v := ?_) (by simp only [List.getElem?_toArray, List.getElem?_cons_succ, List.getElem?_cons_zero]; rfl) (by kernel_rfl) (by kernel_rfl) (by kernel_rfl) (by exact fun _ _ _ h => h) (Or.inl ⟨by rfl, ?_⟩) (by assumption) ?_
    rotate_left
    · (intro w hSw; (try dsimp only at hSw); go_simp; (try with_reducible rfl))
    (try simp only [Act.put, List.setIfInBounds_toArray, List.set_cons_zero, List.set_cons_succ])
    refine wpAnyH_take (i := 7) (v := ?_) (by simp only [List.getElem?_toArray, List.getElem?_cons_succ, List.getElem?_cons_zero]; rfl) (by kernel_rfl) (by kernel_rfl) (by kernel_rfl) (by exact fun _ _ _ h => h) (Or.inl ⟨by rfl, ?_⟩) (by assumption) ?_
    rotate_left
    · (intro w hSw; (try dsimp only at hSw); go_simp; (try with_reducible rfl))
    (try simp only [Act.put, List.setIfInBounds_toArray, List.set_cons_zero, List.set_cons_succ])
    refine wpAnyH_take (i := 8) (v := ?_) (by simp only [List.getElem?_toArray, List.getElem?_cons_succ, List.getElem?_cons_zero]; rfl) (by kernel_rfl) (by kernel_rfl) (by kernel_rfl) (by exact fun _ _ _ h => h) (Or.inl ⟨by rfl, ?_⟩) (by assumption) ?_
    rotate_left
    · (intro w hSw; (try dsimp only at hSw); go_simp; (try with_reducible rfl))
    (try simp only [Act.put, List.setIfInBounds_toArray, List.set_cons_zero, List.set_cons_succ])
    refine wpAnyH_ready (rs := [5]) (by kernel_rfl) (by simp) ?_
    refine AllReadyH.cons (by simp only [List.getElem?_toArray, List.getElem?_cons_succ, List.getElem?_cons_zero]; rfl) (fun K hK => ?_) AllReadyH.nil
    go_simp
    refine (tree_at F _ nn t 4 _ TR ht (by omega) (by omega)).mono ?_
    rintro e w3 ⟨a3, s3, d3, rfl, HC3, b3⟩
    have he3 := HC3.one HCC.out
    injection he3 with he3
    simp only [Array.mk.injEq, List.cons.injEq, Value.int.injEq] at he3
    have ha3 : a3 = 0 := he3.1.2
    clear he3 HC3
    subst ha3
    go_wp2_with fail
    replace ht := ht.below b3
    replace MR := MR.below b3
    replace VF := VF.below b3
    replace XC := XC.below b3
    replace TR := TR.below b3
    replace VM := VM.below b3
    replace BB := BB.trans (b3.mono BB.size)
    clear b3
    refine hK.out _ _ ?_ (fun hH1 => ?_)
    · exact ⟨VM.1, VM.2.1, VF.1.1, XC.out⟩
    clear hK K hHeld
    (try simp only [Act.put, List.setIfInBounds_toArray, List.set_cons_zero, List.set_cons_succ])
    refine wpAnyH_take (i := 9) (v := ?_) (by simp only [List.getElem?_toArray, List.getElem?_cons_succ, List.getElem?_cons_zero]; rfl) (by kernel_rfl) (by kernel_rfl) (by kernel_rfl) (by exact fun _ _ _ h => h) (Or.inl ⟨by rfl, ?_⟩) (by assumption) ?_
    rotate_left
    · (intro w hSw; (try dsimp only at hSw); go_simp; (try with_reducible rfl))
    (try simp only [Act.put, List.setIfInBounds_toArray, List.set_cons_zero, List.set_cons_succ])
    refine wpAnyH_take (i := 10) (v := ?_) (by simp only [List.getElem?_toArray, List.getElem?_cons_succ, List.getElem?_cons_zero]; rfl) (by kernel_rfl) (by kernel_rfl) (by kernel_rfl) (by exact fun _ _ _ h => h) (Or.inl ⟨by rfl, ?_⟩) (by assumption) ?_
    rotate_left
    · (intro w hSw; (try dsimp only at hSw); go_simp; (try with_reducible rfl))
    (try simp only [Act.put, List.setIfInBounds_toArray, List.set_cons_zero, List.set_cons_succ])
    refine wpAnyH_ready (rs := [11]) (by kernel_rfl) (by simp) ?_
    refine AllReadyH.cons (by simp only [List.getElem?_toArray, List.getElem?_cons_succ, List.getElem?_cons_zero]; rfl) (fun K hK => ?_) AllReadyH.nil
    go_simp
    refine (awake8_at _ ht).mono ?_
    rintro e w4 ⟨rfl, b4⟩
    go_wp2_with fail
    replace ht := ht.below b4
    replace MR := MR.below b4
    replace VF := VF.below b4
    replace XC := XC.below b4
    replace TR := TR.below b4
    replace VM := VM.below b4
    replace BB := BB.trans (b4.mono BB.size)
    clear b4
    refine hK.out _ _ ?_ (fun hH2 => ?_)
    · exact ⟨VM.1, VM.2.1, VF.1.1, XC.out⟩
    clear hK K hH1
    (try simp only [Act.put, List.setIfInBounds_toArray, List.set_cons_zero, List.set_cons_succ])
    refine wpAnyH_take (i := 12) (v := ?_) (by simp only [List.getElem?_toArray, List.getElem?_cons_succ, List.getElem?_cons_zero]; rfl) (by kernel_rfl) (by kernel_rfl) (by kernel_rfl) (by exact fun _ _ _ h => h) (Or.inl ⟨by rfl, ?_⟩) (by assumption) ?_
    rotate_left
    · (intro w hSw; (try dsimp only at hSw); go_simp; (try with_reducible rfl))
    (try simp only [Act.put, List.setIfInBounds_toArray, List.set_cons_zero, List.set_cons_succ])
    refine wpAnyH_take (i := 13) (v := ?_) (by simp only [List.getElem?_toArray, List.getElem?_cons_succ, List.getElem?_cons_zero]; rfl) (by kernel_rfl) (by kernel_rfl) (by kernel_rfl) (by exact fun _ _ _ h => h) (Or.inl ⟨by rfl, ?_⟩) (by assumption) ?_
    rotate_left
    · (intro w hSw; (try dsimp only at hSw); go_simp; (try with_reducible rfl))
    (try simp only [Act.put, List.setIfInBounds_toArray, List.set_cons_zero, List.set_cons_succ])
    refine wpAnyH_done (by kernel_rfl) ?_ _
    clear hH2
    go_wp2
    go_ret
    exact ⟨rfl, BB⟩
  · have hab : (a == 0) = false := by simp [ha]
    have had : decide (a = 0) = false := decide_eq_false ha
    have HA : Hid (¬ a = 0) := ha
    clear hz ha
    have hDr : Below W5.heap.size W5 W5.drew := (Below.refl _ _).drew
    replace ht := ht.below hDr
    replace MR := MR.below hDr
    replace VF := VF.below hDr
    replace XC := XC.below hDr
    replace TR := TR.below hDr
    replace VM := VM.below hDr
    replace BB := BB.trans (hDr.mono BB.size)
    clear hDr
    refine wp_region_held_drew (S := (fun w' => w'.cell? ⟨R3, 0, none⟩ = some (.int .i64 F) ∧ w'.cell? ⟨R3, 1, none⟩ = some (.slice (some ⟨bT, oT, none⟩) 1 cr) ∧ w'.cell? ⟨R5, 0, none⟩ = some (.int .i64 a) ∧ w'.cell? ⟨bT, oT, none⟩ = some (.slice aT nn dT))) (by kernel_rfl) ?_ (fun hHeld => ?_)
    · exact ⟨VM.1, VM.2.1, VF.1.1, XC.out⟩
    generalize W5.drew = W1 at *
    refine wpAnyH_take (i := 0) (v := ?_) (by simp only [List.getElem?_toArray, List.getElem?_cons_succ, List.getElem?_cons_zero]; rfl) (by kernel_rfl) (by kernel_rfl) (by kernel_rfl) (by exact fun _ _ _ h => h) (Or.inl ⟨by rfl, ?_⟩) (by assumption) ?_
    rotate_left
    · (intro w hSw; (try dsimp only at hSw); go_simp; (try with_reducible rfl))
    (try simp only [Act.put, List.setIfInBounds_toArray, List.set_cons_zero, List.set_cons_succ])
    refine wpAnyH_take (i := 1) (v := ?_) (by simp only [List.getElem?_toArray, List.getElem?_cons_succ, List.getElem?_cons_zero]; rfl) (by kernel_rfl) (by kernel_rfl) (by kernel_rfl) (by exact fun _ _ _ h => h) (Or.inl ⟨by rfl, ?_⟩) (by assumption) ?_
    rotate_left
    · (intro w hSw; (try dsimp only at hSw); go_simp; (try with_reducible rfl))
    (try simp only [Act.put, List.setIfInBounds_toArray, List.set_cons_zero, List.set_cons_succ])
    refine wpAnyH_take (i := 2) (v := ?_) (by simp only [List.getElem?_toArray, List.getElem?_cons_succ, List.getElem?_cons_zero]; rfl) (by kernel_rfl) (by kernel_rfl) (by kernel_rfl) (by exact fun _ _ _ h => h) (Or.inl ⟨by rfl, ?_⟩) (by assumption) ?_
    rotate_left
    · (intro w hSw; (try dsimp only at hSw); go_simp; (try with_reducible rfl))
    (try simp only [Act.put, List.setIfInBounds_toArray, List.set_cons_zero, List.set_cons_succ])
    refine wpAnyH_take (i := 3) (v := ?_) (by simp only [List.getElem?_toArray, List.getElem?_cons_succ, List.getElem?_cons_zero]; rfl) (by kernel_rfl) (by kernel_rfl) (by kernel_rfl) (by exact fun _ _ _ h => h) (Or.inl ⟨by rfl, ?_⟩) (by assumption) ?_
    rotate_left
    · (intro w hSw; (try dsimp only at hSw); go_simp; (try with_reducible rfl))
    (try simp only [Act.put, List.setIfInBounds_toArray, List.set_cons_zero, List.set_cons_succ])
    refine wpAnyH_take (i := 4) (v := ?_) (by simp only [List.getElem?_toArray, List.getElem?_cons_succ, List.getElem?_cons_zero]; rfl) (by kernel_rfl) (by kernel_rfl) (by kernel_rfl) (by exact fun _ _ _ h => h) (Or.inl ⟨by rfl, ?_⟩) (by assumption) ?_
    rotate_left
    · (intro w hSw; (try dsimp only at hSw); go_simp; (try with_reducible rfl))
    (try simp only [Act.put, List.setIfInBounds_toArray, List.set_cons_zero, List.set_cons_succ])
    refine wpAnyH_take (i := 6) (v := ?_) (by simp only [List.getElem?_toArray, List.getElem?_cons_succ, List.getElem?_cons_zero]; rfl) (by kernel_rfl) (by kernel_rfl) (by kernel_rfl) (by exact fun _ _ _ h => h) (Or.inl ⟨by rfl, ?_⟩) (by assumption) ?_
    rotate_left
    · (intro w hSw; (try dsimp only at hSw); go_simp; (try with_reducible rfl))
    (try simp only [Act.put, List.setIfInBounds_toArray, List.set_cons_zero, List.set_cons_succ])
    refine wpAnyH_take (i := 7) (v := ?_) (by simp only [List.getElem?_toArray, List.getElem?_cons_succ, List.getElem?_cons_zero]; rfl) (by kernel_rfl) (by kernel_rfl) (by kernel_rfl) (by exact fun _ _ _ h => h) (Or.inl ⟨by rfl, ?_⟩) (by assumption) ?_
    rotate_left
    · (intro w hSw; (try dsimp only at hSw); go_simp; (try with_reducible rfl))
    (try simp only [Act.put, List.setIfInBounds_toArray, List.set_cons_zero, List.set_cons_succ])
    refine wpAnyH_take (i := 8) (v := ?_) (by simp only [List.getElem?_toArray, List.getElem?_cons_succ, List.getElem?_cons_zero]; rfl) (by kernel_rfl) (by kernel_rfl) (by kernel_rfl) (by exact fun _ _ _ h => h) (Or.inl ⟨by rfl, ?_⟩) (by assumption) ?_
    rotate_left
    · (intro w hSw; (try dsimp only at hSw); go_simp; (try with_reducible rfl))
    (try simp only [Act.put, List.setIfInBounds_toArray, List.set_cons_zero, List.set_cons_succ])
    refine wpAnyH_ready (rs := [5]) (by kernel_rfl) (by simp) ?_
    refine AllReadyH.cons (by simp only [List.getElem?_toArray, List.getElem?_cons_succ, List.getElem?_cons_zero]; rfl) (fun K hK => ?_) AllReadyH.nil
    go_simp
    refine (tree_at F _ nn t 4 _ TR ht (by omega) (by omega)).mono ?_
    rintro e w3 ⟨a3, s3, d3, rfl, HC3, b3⟩
    have he3 := HC3.one HCC.out
    injection he3 with he3
    simp only [Array.mk.injEq, List.cons.injEq, Value.int.injEq] at he3
    have ha3 : a3 = a := he3.1.2
    clear he3 HC3
    subst ha3
    go_wp2_with fail
    replace ht := ht.below b3
    replace MR := MR.below b3
    replace VF := VF.below b3
    replace XC := XC.below b3
    replace TR := TR.below b3
    replace VM := VM.below b3
    replace BB := BB.trans (b3.mono BB.size)
    clear b3
    refine hK.out _ _ ?_ (fun hH1 => ?_)
    · exact ⟨VM.1, VM.2.1, VF.1.1, XC.out⟩
    clear hK K hHeld
    (try simp only [Act.put, List.setIfInBounds_toArray, List.set_cons_zero, List.set_cons_succ])
    refine wpAnyH_take (i := 9) (v := ?_) (by simp only [List.getElem?_toArray, List.getElem?_cons_succ, List.getElem?_cons_zero]; rfl) (by kernel_rfl) (by kernel_rfl) (by kernel_rfl) (by exact fun _ _ _ h => h) (Or.inl ⟨by rfl, ?_⟩) (by assumption) ?_
    rotate_left
    · (intro w hSw; (try dsimp only at hSw); go_simp; (try with_reducible rfl))
    (try simp only [Act.put, List.setIfInBounds_toArray, List.set_cons_zero, List.set_cons_succ])
    refine wpAnyH_take (i := 10) (v := ?_) (by simp only [List.getElem?_toArray, List.getElem?_cons_succ, List.getElem?_cons_zero]; rfl) (by kernel_rfl) (by kernel_rfl) (by kernel_rfl) (by exact fun _ _ _ h => h) (Or.inl ⟨by rfl, ?_⟩) (by assumption) ?_
    rotate_left
    · (intro w hSw; (try dsimp only at hSw); go_simp; (try with_reducible rfl))
    (try simp only [Act.put, List.setIfInBounds_toArray, List.set_cons_zero, List.set_cons_succ])
    refine wpAnyH_ready (rs := [11]) (by kernel_rfl) (by simp) ?_
    refine AllReadyH.cons (by simp only [List.getElem?_toArray, List.getElem?_cons_succ, List.getElem?_cons_zero]; rfl) (fun K hK => ?_) AllReadyH.nil
    go_simp
    refine (awake8_at _ ht).mono ?_
    rintro e w4 ⟨rfl, b4⟩
    go_wp2_with fail
    replace ht := ht.below b4
    replace MR := MR.below b4
    replace VF := VF.below b4
    replace XC := XC.below b4
    replace TR := TR.below b4
    replace VM := VM.below b4
    replace BB := BB.trans (b4.mono BB.size)
    clear b4
    refine hK.out _ _ ?_ (fun hH2 => ?_)
    · exact ⟨VM.1, VM.2.1, VF.1.1, XC.out⟩
    clear hK K hH1
    (try simp only [Act.put, List.setIfInBounds_toArray, List.set_cons_zero, List.set_cons_succ])
    refine wpAnyH_take (i := 12) (v := ?_) (by simp only [List.getElem?_toArray, List.getElem?_cons_succ, List.getElem?_cons_zero]; rfl) (by kernel_rfl) (by kernel_rfl) (by kernel_rfl) (by exact fun _ _ _ h => h) (Or.inl ⟨by rfl, ?_⟩) (by assumption) ?_
    rotate_left
    · (intro w hSw; (try dsimp only at hSw); go_simp; (try with_reducible rfl))
    (try simp only [Act.put, List.setIfInBounds_toArray, List.set_cons_zero, List.set_cons_succ])
    refine wpAnyH_take (i := 13) (v := ?_) (by simp only [List.getElem?_toArray, List.getElem?_cons_succ, List.getElem?_cons_zero]; rfl) (by kernel_rfl) (by kernel_rfl) (by kernel_rfl) (by exact fun _ _ _ h => h) (Or.inl ⟨by rfl, ?_⟩) (by assumption) ?_
    rotate_left
    · (intro w hSw; (try dsimp only at hSw); go_simp; (try with_reducible rfl))
    (try simp only [Act.put, List.setIfInBounds_toArray, List.set_cons_zero, List.set_cons_succ])
    refine wpAnyH_done (by kernel_rfl) ?_ _
    clear hH2
    go_wp2
    go_ret
    exact ⟨rfl, BB⟩

theorem own : ownKnob Tryd.prog.godebug = none := by kernel_rfl
theorem laidOut : laidOutB Tryd.prog = true := by kernel_rfl

abbrev laid1 : List (String × DataW Unit) := [("math/bits.deBruijn64tab", Rows.laid_math_bits_deBruijn64tab)]
theorem gTab : Tryd.prog.globalNamed "math/bits.deBruijn64tab" = some 0 := by kernel_rfl
theorem gTabType : (Tryd.prog.globals[0]?).map (·.type) = some 116 := by kernel_rfl
theorem uTab : Tryd.prog.underlying 116 = some (.array 64 5) := by kernel_rfl
theorem uCell : Tryd.prog.underlying 5 = some (.int .u8) := by kernel_rfl
theorem cCell : Tryd.prog.cellsOf 5 = 1 := by kernel_rfl
theorem cTab : Tryd.prog.cellsOf 116 = 64 := by kernel_rfl
/-- The listed table lies in its cells. -/
theorem tab_of {W : World} (h : laidMetH Tryd.prog laid1 W) : Tab W := by
  rw [MakeChecks.laidMetH_plain _ _ _ (by kernel_rfl)] at h
  have hd : laid1 = [("math/bits.deBruijn64tab", Lib.tabData .u8 (Lib.deBruijn64tab.map fun (n : Nat) => Int.ofNat n))] := rfl
  rw [hd] at h
  have hT := Lib.tabIs_of_head gTab gTabType uTab uCell cCell cTab h
  intro i hi
  have hc := hT.cell gTab i (by rw [List.length_map]; exact hi)
  rw [hc]
  congr 2
  rw [List.getD_eq_getElem?_getD, List.getElem?_map, List.getD_eq_getElem?_getD]
  cases Lib.deBruijn64tab[i]? <;> rfl
/-- A start for the witness: the heap that the run of the program's own initialisers leaves. -/
noncomputable def startW (os : Os) : World := { World.holding Tryd.prog os ⟨#[], #[], []⟩ with heap := (varsWorld Tryd.prog 400 (varsId Tryd.prog) os (fun _ _ => 0)).heap }
theorem start_met (os : Os) (args : Array Value) : laidMetH Tryd.prog laid1 ((startW os).forCall (fun _ _ => 0) ⟨#[], args, []⟩).memory :=
  laidMetH_of_parts3 (fuel := 8) (laidMet_of_run' 8 (by kernel_rfl) (by kernel_rfl)) (by kernel_rfl) (by kernel_rfl)

set_option maxRecDepth 100000 in
theorem lifted (os : Os) (started : os.Started) (H : Type) (enc : TypeId × Value → H) :
    ReturnsInHanded {} Tryd.checked os 4 .any (fun w args => (Rows.validTreesSpec.pre enc Tryd.prog Tryd.f4 [] false w args ∧ laidMetH Tryd.prog laid1 w) ∧ sizedMet enc Tryd.prog Tryd.f4 (OpenSpec.ofChange Rows.validTreesSpec) false w args) (Rows.validTreesSpec.post enc Tryd.prog Tryd.f4 false true false false) := by
  refine returnsInHanded_of_change_and (C := Tryd.checked) (X := fun w _ => laidMetH Tryd.prog laid1 w) (fun _ _ _ hh h => h.of_heap hh) own started (by kernel_rfl) Tryd.func4
    (ChangeSpec.witness_shaped (enc := enc) (C := Tryd.checked) (os := os) (X := fun w _ => laidMetH Tryd.prog laid1 w) false (startW os) #[.slice none 0 0, .int .i64 0] 8 rfl (World.shaped_of_RefB (by kernel_rfl) (by kernel_rfl)) (by kernel_rfl) (by kernel_rfl) (by kernel_rfl) (start_met os _)) ?_
  intro W base args ds gs before hval0 hW _ _ hL _
  have hval : ∀ (j : Nat) t v, Tryd.f4.params[j]? = some t → args[j]? = some v → Value.okWide Tryd.prog W .any base t v := hval0
  have hW' := hW
  obtain ⟨p, q, hA0, hV, rfl, hfz, hnd⟩ := hW
  have hA : DataW.TrodAll enc Tryd.prog W 0 (fun _ => true) true Tryd.f4.params.toList args.toList ds p := hA0
  rw [Tryd.params4] at hA hval
  obtain ⟨v0, vs0, d0, ds0, p0, q0, hargs, rfl, rfl, h0, r0⟩ := trodAll_cons hA
  obtain ⟨v1, vs1, d1, ds1, p1, q1, rfl, rfl, rfl, h1, r1⟩ := trodAll_cons r0
  obtain ⟨rfl, rfl, rfl⟩ := trodAll_nil r1
  obtain rfl : args = #[v0, v1] := by cases args; simp_all
  obtain ⟨rfl, rfl⟩ := trodVars_none hV
  have k0 := h0
  have lt0 : ∀ x ∈ p0, x.block < W.heap.size := by obtain ⟨m, hm⟩ := k0; exact DataW.trod_lt m _ _ _ hm
  obtain ⟨n0, z0, w0⟩ := open_nodes 4 (hval 0 32 v0 rfl rfl) h0
  obtain ⟨a1, rfl, rfl, rfl, w1⟩ := open_int Tryd.underlying3 (hval 1 3 v1 rfl rfl) h1
  clear hA0 hval0
  refine (walk _ _ _ a1 W w0 w1 (tab_of hL)).mono fun e W' ⟨he, bel⟩ => ?_
  subst he
  exact ⟨_, rfl, _, _, _, [], _, [], hW', trodAll_mk1 (shut_bool Tryd.underlying4 _), (trodAll_cons_mk (Below.trod laidOut (by kernel_rfl) (of_decide_eq_true (by kernel_rfl)) k0 bel lt0) (trodAll_cons_mk (shut_int Tryd.underlying3 w1) trodAll_mk0)), rfl, bel.frame _, fun h => by cases h⟩

theorem over : Rows.validTreesRow.holds Tryd.pinned (OpenSpec.ofChange Rows.validTreesSpec) :=
  OpenClaim.holds_of_wide 4 Tryd.f4 rfl rfl rfl rfl rfl rfl rfl ⟨rfl, rfl, rfl, rfl, rfl⟩ rfl rfl rfl rfl rfl (by kernel_rfl) Tryd.func4 (by kernel_rfl)
    (of_decide_eq_true (by kernel_rfl)) (by unfold Func.isWrapper; first | (rw [if_pos (by decide +kernel)]; kernel_rfl) | (rw [if_neg (by decide +kernel)]; exact ⟨rfl, rfl⟩))
    (fun os started H enc _ => lifted os started H enc)

end Go.Proofs.YtemejonjhpmjpaaDoor.validTrees
namespace Go.Proofs.YtemejonjhpmjpaaDoor
/-- The statement: the row, tied to the text of the program. -/
theorem validTrees_holds : Rows.ValidTreesCardSaid :=
  Claim7.holds_tied_plain_at .later [] [.data] true (true, "6d15b0acd5729eacff2c34323dd4ac201ca17747e3b230078a203a8320596211") false
    validTrees.over (fun _ h => by cases h) (by kernel_rfl) (fun _ h => by cases h) validTrees_row_tie rfl ⟨rfl, rfl⟩ (by kernel_rfl) rfl
    (fun f fn hf hfn => by
      obtain rfl : f = 4 := Option.some.inj ((show Tryd.prog.funcNamed "dendron/dendronlaw08.ValidTrees" = some 4 by kernel_rfl).symm.trans hf) |>.symm
      obtain rfl : fn = Tryd.f4 := (Option.some.inj (Tryd.func4.symm.trans hfn)).symm
      exact ⟨by kernel_rfl, fun j t ht => by
        rw [Tryd.params4] at ht
        have hm : t ∈ [32, 3] := by simpa using Array.mem_of_getElem? ht
        have hall : ([32, 3].all fun u => !Tryd.prog.wantsStandIn u) = true := by kernel_rfl
        exact (show Tryd.prog.wantsStandIn t = false by simpa using List.all_eq_true.1 hall t hm)⟩)
    (by kernel_rfl)
end Go.Proofs.YtemejonjhpmjpaaDoor
