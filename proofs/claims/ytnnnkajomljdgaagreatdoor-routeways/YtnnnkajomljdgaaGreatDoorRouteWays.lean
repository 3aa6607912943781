/-
  Proves that Way tells the nodes on any row's way in any tree of up to 15 nodes, and Leaf the last of them, or that there is none, whatever comes in (the statement RouteWays, its tied card); the table of math/bits lies as the program's text lays it; no other condition.
-/
import Derived.Test.YtnnnkajomljdgaaGreatDoorRows
import Derived.Test.YtnnnkajomljdgaaGreatDoorJ89229a7df8
import Derived.Test.YtnnnkajomljdgaaGreatDoorJbd3b327d38
import Derived.Test.YtnnnkajomljdgaaGreatDoorJd8959e6d89
import Derived.Test.YtnnnkajomljdgaaGreatDoorJa119bf0b5d
import Derived.WalkKit
import Derived.ProofKit
import Derived.OpenShut
import Derived.ShutString
import Derived.ChangeOld
import Derived.Below
import Derived.Test.YtnnnkajomljdgaaGreatDoorTie
import Derived.Test.YtnnnkajomljdgaaGreatDoorCards
import Derived.LaidByTextLater
import Derived.LaidHandle
import Derived.Lib.LaidTab
import Derived.SevenTiedAt
namespace Go.Proofs.YtnnnkajomljdgaaGreatDoor.routeWays
open Go.ChangeShapes Go.WideShapes Go.ChangeAt Go.RowKit
open Go.ChangeMaps (open_string shut_string)
set_option linter.unusedVariables false
set_option linter.unusedSimpArgs false

theorem fieldM1 (a b : Value) (w : World) : Sem.run Tryz.prog (Instr.field 27 (.agg #[a, b]) 1) w = .ok b w := by kernel_rfl
theorem _root_.Go.Proofs.YtnnnkajomljdgaaGreatDoor.IntOwn.below {B : Nat} {w w' : World} {v : Value} {zs : List Nat} (h : IntOwn B w v zs) (hb : Below w.heap.size w w') : IntOwn B w' v zs := h.later hb
def Pair10 (w : World) (g1 g2 i : Nat) (x : Value) : Prop := w.cell? ⟨g1, i, none⟩ = some x ∧ w.cell? ⟨g2, i, none⟩ = some x
theorem Pair10.below {w w' : World} {g1 g2 i : Nat} {x : Value} (h : Pair10 w g1 g2 i x) (hb : Below w.heap.size w w') : Pair10 w' g1 g2 i x := ⟨(hb.cell (p := ⟨g1, i, none⟩) (World.block_lt_of_cell? _ _ h.1)).trans h.1, (hb.cell (p := ⟨g2, i, none⟩) (World.block_lt_of_cell? _ _ h.2)).trans h.2⟩

set_option maxRecDepth 100000 in
set_option maxHeartbeats 8000000 in
theorem walk (v : Value) (n : Nat) (t : Nat → Nd) (v2 : Value) (nr : Nat) (r : Nat → Cl) (w : World) (hv : TRaw w v n t 4) (hr : CRaw w v2 nr r 3) (ht : Tab w) :
    Calls Tryz.prog 3 #[v, v2] w fun e w' => e = .returned (.bool true) ∧ Below w.heap.size w w' := by
  obtain ⟨ao, c, rfl, hnc, hc63⟩ := hv.open
  obtain ⟨ar, cr, rfl, hrc, hr63⟩ := hr.open
  have BB : Below w.heap.size w w := Below.refl _ _
  go_enter Tryz.func3, Tryz.ntmps3
  go_wp2_with fail
  refine (few9_at _ nr 70 r _ hr (by omega)).mono ?_
  rintro e w1 ⟨vu, rfl, CO, b1⟩
  replace hv := hv.below b1
  replace hr := hr.below b1
  replace ht := ht.below b1
  replace BB := BB.trans (b1.mono BB.size)
  clear b1
  obtain ⟨au, cu, rfl⟩ := CO.form
  have CR : CRow w1 _ (min nr 70) r 4 := CO.row.mono (by omega)
  clear CO hr
  generalize hmn : min nr 70 = m at *
  have hm70 : m ≤ 70 := by omega
  clear hmn hrc hr63
  have M1 := one_raw hv 22
  have hA : Below w1.heap.size w1 (w1.alloc (.cells #[.slice ao n c] 22)) := (Below.refl _ _).alloc (Nat.le_refl _) _
  replace ht := ht.below hA
  replace CR := CR.below hA
  replace BB := BB.trans (hA.mono BB.size)
  clear hA hv
  go_wp2_with fail
  refine (few7_at 0 _ 1 (fun _ => n) (fun _ => t) _ M1).mono ?_
  rintro e w2 ⟨vm, rfl, MO, b2⟩
  replace ht := ht.below b2
  replace CR := CR.below b2
  replace BB := BB.trans (b2.mono BB.size)
  clear b2
  obtain ⟨am, cm, rfl⟩ := MO.form
  have MR := MO.row
  clear M1 MO
  generalize hnn : min n 15 = nn at MR
  clear hnn
  have MR : MRow w2 (.slice am 1 cm) 1 (fun _ => nn) (fun _ => t) 4 := MR
  obtain ⟨bT, oT, cT, aT, dT, hvv, hcc, XT, TR⟩ := MR.at (i := 0) (by omega)
  cases hvv
  rw [Nat.add_zero] at XT
  clear MR
  (try rw [show min 1 6 = 1 by omega])
  have qf := fieldM1 (.int .i64 0) (.slice (some ⟨bT, oT, none⟩) 1 cm) w2
  go_wp2_with fail
  clear XT hcc qf
  obtain ⟨mb, hmb⟩ : ∃ mb, mayB (m : Int) 1 (fun _ => nn) (fun _ => t) = mb := ⟨_, rfl⟩
  have HB : Hid (mayB (m : Int) 1 (fun _ => nn) (fun _ => t) = mb) := hmb
  clear hmb
  cases mb
  · refine (rway_no _ _ nn m t r 4 _ TR CR ht (by omega) (by omega) HB.out).mono ?_
    rintro e w3 ⟨rfl, b3⟩
    replace ht := ht.below b3
    replace CR := CR.below b3
    replace TR := TR.below b3
    replace BB := BB.trans (b3.mono BB.size)
    clear b3
    go_wp2_with fail
    refine (rleaf_no _ _ nn m t r 4 _ TR CR ht (by omega) (by omega) HB.out).mono ?_
    rintro e w4 ⟨rfl, b4⟩
    replace ht := ht.below b4
    replace CR := CR.below b4
    replace TR := TR.below b4
    replace BB := BB.trans (b4.mono BB.size)
    clear b4
    go_wp2_with fail
    refine (tree_may (m : Int) _ nn t 4 _ TR ht (by omega) (by omega)).mono ?_
    rintro e w5 ⟨rfl, b5⟩
    replace ht := ht.below b5
    replace CR := CR.below b5
    replace TR := TR.below b5
    replace BB := BB.trans (b5.mono BB.size)
    clear b5
    rw [HB.out]
    go_wp2_with fail
    refine (awake10_at _ ht).mono ?_
    rintro e w6 ⟨rfl, b6⟩
    replace ht := ht.below b6
    replace CR := CR.below b6
    replace TR := TR.below b6
    replace BB := BB.trans (b6.mono BB.size)
    clear b6
    go_wp2
    go_ret
    exact ⟨rfl, BB⟩
  · have hmt := (mayB_may HB.out).2.2.2 0 (by omega)
    have HMT : Hid (MayT (m : Int) t nn) := hmt
    have hn255 := hmt.few
    have hlen := hmt.way_len r (x := 0) (by have := hmt.pos; omega)
    have hne := List.length_pos_iff.2 (way_ne t nn r 0)
    have HLA : Hid (wlast t nn r 0 = (way t nn r 0).getLastD 0) := rfl
    clear hmt
    refine (rway_yes _ _ nn m t r 4 _ TR CR ht (by omega) (by omega) HB.out HMT.out).mono ?_
    rintro e w3 ⟨v1, rfl, O1, b3⟩
    replace ht := ht.below b3
    replace CR := CR.below b3
    replace TR := TR.below b3
    replace BB := BB.trans (b3.mono BB.size)
    clear b3
    go_wp2_with fail
    refine (rleaf_yes _ _ nn m t r 4 _ TR CR ht (by omega) (by omega) HB.out HMT.out).mono ?_
    rintro e w4 ⟨rfl, b4⟩
    replace ht := ht.below b4
    replace CR := CR.below b4
    replace TR := TR.below b4
    replace O1 := O1.below b4
    replace BB := BB.trans (b4.mono BB.size)
    clear b4
    go_wp2_with fail
    refine (tree_may (m : Int) _ nn t 4 _ TR ht (by omega) (by omega)).mono ?_
    rintro e w5 ⟨rfl, b5⟩
    replace ht := ht.below b5
    replace CR := CR.below b5
    replace TR := TR.below b5
    replace O1 := O1.below b5
    replace BB := BB.trans (b5.mono BB.size)
    clear b5
    rw [HB.out]
    go_wp2_with fail
    refine (lway_at _ _ nn m t r 4 _ TR CR (by omega) (by omega) HMT.out).mono ?_
    rintro e w6 ⟨v2, rfl, O2, b6⟩
    replace ht := ht.below b6
    replace CR := CR.below b6
    replace TR := TR.below b6
    replace O1 := O1.below b6
    replace BB := BB.trans (b6.mono BB.size)
    clear b6
    have HT9 : Hid (Tab w6) := ht
    clear TR CR HB HMT ht
    obtain ⟨xl, hxl⟩ : ∃ xl, wlast t nn r 0 = xl := ⟨_, rfl⟩
    rw [hxl] at HLA ⊢
    clear hxl
    generalize way t nn r 0 = zs at *
    obtain ⟨g1, c1, rfl, hc1⟩ := O1.open hne
    obtain ⟨g2, c2, rfl, hc2⟩ := O2.open hne
    rcases List.eq_nil_or_concat zs with rfl | ⟨ws, xi, hws⟩
    · simp at hne
    rw [List.concat_eq_append] at hws
    have HX : Hid (xl = xi) := by
      show xl = xi
      rw [HLA.out, hws]
      simp
    obtain ⟨k, hk⟩ : ∃ k, zs.length = k := ⟨_, rfl⟩
    have hk9 : 1 ≤ k := by omega
    obtain ⟨k0, hk0⟩ : ∃ k0, k = k0 + 1 := ⟨k - 1, by omega⟩
    have X2 := O2.cell rfl (j := k0) (x := xi) (by rw [hws]; rw [hws] at hk; simp at hk; rw [show k0 = ws.length by omega]; simp)
    rw [HX.out]
    have HCEL : Hid (∀ i, i < k → ∃ z : Nat, w6.cell? ⟨g1, i, none⟩ = some (.int .i64 (z : Int)) ∧ w6.cell? ⟨g2, i, none⟩ = some (.int .i64 (z : Int))) := fun i hi => ⟨zs[i]'(by omega), O1.cell rfl (List.getElem?_eq_getElem _), O2.cell rfl (List.getElem?_eq_getElem _)⟩
    rw [hk] at hc1 hc2 hlen ⊢
    have f2 : (k : Int) - 1 = (k0 : Int) := by omega
    have f3 : (0 : Int) ≤ (k0 : Int) := by omega
    have f4 : (k0 : Int) < (k : Int) := by omega
    have f0 : IntKind.i64.wrap (k0 : Int) = (k0 : Int) := by rw [IntKind.wrap_i64]; omega
    have hk300 : k ≤ 300 := by omega
    clear hk hk0 O1 O2 HX HLA hws hne hlen hk9
    go_wp2
    clear X2 f2 f3 f4 f0
    go_loopw [10] (fun vi wr => ∃ i : Nat, i ≤ k ∧ vi = .int .i64 (i : Int) ∧ Below w6.heap.size w6 wr) (fun vi _ => k - (intOf vi).toNat)
    case atStart => exact ⟨0, by omega, rfl, Below.refl _ _⟩
    case round =>
      obtain ⟨i, hi, rfl, BL⟩ := hrel
      by_cases hlt : i < k
      · have g0 : (0 : Int) ≤ (i : Int) := by omega
        have g1_ : (i : Int) < (k : Int) := by omega
        obtain ⟨zz, Y1, Y2⟩ := HCEL.out i hlt
        replace Y1 := (BL.cell (p := ⟨g1, i, none⟩) (World.block_lt_of_cell? _ _ Y1)).trans Y1
        replace Y2 := (BL.cell (p := ⟨g2, i, none⟩) (World.block_lt_of_cell? _ _ Y2)).trans Y2
        have PC : Pair10 wr g1 g2 i (.int .i64 (zz : Int)) := ⟨Y1, Y2⟩
        clear Y1 Y2
        have wi : IntKind.i64.wrap ((i : Int) + 1) = (i : Int) + 1 := by rw [IntKind.wrap_i64]; omega
        go_wp2
        have BB0 := BB
        clear BB
        have BB := BL
        clear BL
        have hDr : Below wr.heap.size wr wr.drew := (Below.refl _ _).drew
        replace PC := PC.below hDr
        replace BB := BB.trans (hDr.mono BB.size)
        clear hDr
        refine wp_region_held_drew (S := (fun w' => w'.cell? ⟨g1, i, none⟩ = some (.int .i64 (zz : Int)) ∧ w'.cell? ⟨g2, i, none⟩ = some (.int .i64 (zz : Int)))) (by kernel_rfl) ?_ (fun hHeld => ?_)
        · exact ⟨PC.1, PC.2⟩
        generalize wr.drew = W1 at *
        refine wpAnyH_take (i := 0) (v := ?_) (by simp only [List.getElem?_toArray, List.getElem?_cons_succ, List.getElem?_cons_zero]; rfl) (by kernel_rfl) (by kernel_rfl) (by kernel_rfl) (by exact fun _ _ _ h => h) (Or.inl ⟨by rfl, ?_⟩) (by assumption) ?_
        rotate_left
        · (intro w hSw; (try dsimp only at hSw); go_simp; (try with_reducible rfl))
        (try simp only [Act.put, List.setIfInBounds_toArray, List.set_cons_zero, List.set_cons_succ])
        refine wpAnyH_take (i := 1) (v := ?_) (by simp only [List.getElem?_toArray, List.getElem?_cons_succ, List.getElem?_cons_zero]; rfl) (by kernel_rfl) (by kernel_rfl) (by kernel_rfl) (by exact fun _ _ _ h => h) (Or.inl ⟨by rfl, ?_⟩) (by assumption) ?_
        rotate_left
        · (intro w hSw; (try dsimp only at hSw); go_simp; (try with_reducible rfl))
        (try simp only [Act.put, List.setIfInBounds_toArray, List.set_cons_zero, List.set_cons_succ])
        refine wpAnyH_take (i := 2) (v := ?_) (by simp only [List.getElem?_toArray, List.getElem?_cons_succ, List.getElem?_cons_zero]; rfl) (by kernel_rfl) (by kernel_rfl) (by kernel_rfl) (by exact fun _ _ _ h => h) (Or.inl ⟨by rfl, ?_⟩) (by assumption) ?_
        rotate_left
        · (intro w hSw; (try dsimp only at hSw); go_simp; (try with_reducible rfl))
        (try simp only [Act.put, List.setIfInBounds_toArray, List.set_cons_zero, List.set_cons_succ])
        refine wpAnyH_take (i := 3) (v := ?_) (by simp only [List.getElem?_toArray, List.getElem?_cons_succ, List.getElem?_cons_zero]; rfl) (by kernel_rfl) (by kernel_rfl) (by kernel_rfl) (by exact fun _ _ _ h => h) (Or.inl ⟨by rfl, ?_⟩) (by assumption) ?_
        rotate_left
        · (intro w hSw; (try dsimp only at hSw); go_simp; (try with_reducible rfl))
        (try simp only [Act.put, List.setIfInBounds_toArray, List.set_cons_zero, List.set_cons_succ])
        refine wpAnyH_take (i := 4) (v := ?_) (by simp only [List.getElem?_toArray, List.getElem?_cons_succ, List.getElem?_cons_zero]; rfl) (by kernel_rfl) (by kernel_rfl) (by kernel_rfl) (by exact fun _ _ _ h => h) (Or.inl ⟨by rfl, ?_⟩) (by assumption) ?_
        rotate_left
        · (intro w hSw; (try dsimp only at hSw); go_simp; (try with_reducible rfl))
        (try simp only [Act.put, List.setIfInBounds_toArray, List.set_cons_zero, List.set_cons_succ])
        refine wpAnyH_take (i := 5) (v := ?_) (by simp only [List.getElem?_toArray, List.getElem?_cons_succ, List.getElem?_cons_zero]; rfl) (by kernel_rfl) (by kernel_rfl) (by kernel_rfl) (by exact fun _ _ _ h => h) (Or.inl ⟨by rfl, ?_⟩) (by assumption) ?_
        rotate_left
        · (intro w hSw; (try dsimp only at hSw); go_simp; (try with_reducible rfl))
        (try simp only [Act.put, List.setIfInBounds_toArray, List.set_cons_zero, List.set_cons_succ])
        refine wpAnyH_take (i := 6) (v := ?_) (by simp only [List.getElem?_toArray, List.getElem?_cons_succ, List.getElem?_cons_zero]; rfl) (by kernel_rfl) (by kernel_rfl) (by kernel_rfl) (by exact fun _ _ _ h => h) (Or.inl ⟨by rfl, ?_⟩) (by assumption) ?_
        rotate_left
        · (intro w hSw; (try dsimp only at hSw); go_simp; (try with_reducible rfl))
        (try simp only [Act.put, List.setIfInBounds_toArray, List.set_cons_zero, List.set_cons_succ])
        refine wpAnyH_take (i := 7) (v := ?_) (by simp only [List.getElem?_toArray, List.getElem?_cons_succ, List.getElem?_cons_zero]; rfl) (by kernel_rfl) (by kernel_rfl) (by kernel_rfl) (by exact fun _ _ _ h => h) (Or.inl ⟨by rfl, ?_⟩) (by assumption) ?_
        rotate_left
        · (intro w hSw; (try dsimp only at hSw); go_simp; (try with_reducible rfl))
        (try simp only [Act.put, List.setIfInBounds_toArray, List.set_cons_zero, List.set_cons_succ])
        refine wpAnyH_take (i := 8) (v := ?_) (by simp only [List.getElem?_toArray, List.getElem?_cons_succ, List.getElem?_cons_zero]; rfl) (by kernel_rfl) (by kernel_rfl) (by kernel_rfl) (by exact fun _ _ _ h => h) (Or.inl ⟨by rfl, ?_⟩) (by assumption) ?_
        rotate_left
        · (intro w hSw; (try dsimp only at hSw); go_simp; (try with_reducible rfl))
        (try simp only [Act.put, List.setIfInBounds_toArray, List.set_cons_zero, List.set_cons_succ])
        refine wpAnyH_done (by kernel_rfl) ?_ _
        clear hHeld
        go_wp2
        go_roundw
        case rel => exact ⟨i + 1, by omega, by go_num, BB⟩
        case measure => simp [intOf]; omega
      · obtain rfl : i = k := by omega
        have g1_ : ¬ (i : Int) < (i : Int) := by omega
        go_wp2_with fail
        refine (awake10_at _ (HT9.out.below BL)).mono ?_
        rintro e w9 ⟨rfl, b9⟩
        go_wp2
        go_ret
        exact ⟨rfl, (BB.trans (BL.mono BB.size)).trans (b9.mono (by have := BB.size; have := BL.size; omega))⟩
theorem own : ownKnob Tryz.prog.godebug = none := by kernel_rfl
theorem laidOut : laidOutB Tryz.prog = true := by kernel_rfl

abbrev laid1 : List (String × DataW Unit) := [("math/bits.deBruijn64tab", Rows.laid_math_bits_deBruijn64tab)]
theorem gTab : Tryz.prog.globalNamed "math/bits.deBruijn64tab" = some 0 := by kernel_rfl
theorem gTabType : (Tryz.prog.globals[0]?).map (·.type) = some 170 := by kernel_rfl
theorem uTab : Tryz.prog.underlying 170 = some (.array 64 5) := by kernel_rfl
theorem uCell : Tryz.prog.underlying 5 = some (.int .u8) := by kernel_rfl
theorem cCell : Tryz.prog.cellsOf 5 = 1 := by kernel_rfl
theorem cTab : Tryz.prog.cellsOf 170 = 64 := by kernel_rfl
/-- The listed table lies in its cells. -/
theorem tab_of {W : World} (h : laidMetH Tryz.prog laid1 W) : Tab W := by
  rw [MakeChecks.laidMetH_plain _ _ _ (by kernel_rfl)] at h
  have hd : laid1 = [("math/bits.deBruijn64tab", Lib.tabData .u8 (Lib.deBruijn64tab.map fun (n : Nat) => Int.ofNat n))] := rfl
  rw [hd] at h
  have hT := Lib.tabIs_of_head gTab gTabType uTab uCell cCell cTab h
  intro i hi
  have hc := hT.cell gTab i (by rw [List.length_map]; exact hi)
  rw [hc]
  congr 2
  rw [List.getD_eq_getElem?_getD, List.getElem?_map, List.getD_eq_getElem?_getD]
  cases Lib.deBruijn64tab[i]? <;> rfl
/-- A start for the witness: the heap that the run of the program's own initialisers leaves. -/
noncomputable def startW (os : Os) : World := { World.holding Tryz.prog os ⟨#[], #[], []⟩ with heap := (varsWorld Tryz.prog 400 (varsId Tryz.prog) os (fun _ _ => 0)).heap }
theorem start_met (os : Os) (args : Array Value) : laidMetH Tryz.prog laid1 ((startW os).forCall (fun _ _ => 0) ⟨#[], args, []⟩).memory :=
  laidMetH_of_parts3 (fuel := 8) (laidMet_of_run' 8 (by kernel_rfl) (by kernel_rfl)) (by kernel_rfl) (by kernel_rfl)

set_option maxRecDepth 100000 in
theorem lifted (os : Os) (started : os.Started) (H : Type) (enc : TypeId × Value → H) :
    ReturnsInHanded {} Tryz.checked os 3 .any (fun w args => (Rows.routeWaysSpec.pre enc Tryz.prog Tryz.f3 [] false w args ∧ laidMetH Tryz.prog laid1 w) ∧ sizedMet enc Tryz.prog Tryz.f3 (OpenSpec.ofChange Rows.routeWaysSpec) false w args) (Rows.routeWaysSpec.post enc Tryz.prog Tryz.f3 false true false false) := by
  refine returnsInHanded_of_change_and (C := Tryz.checked) (X := fun w _ => laidMetH Tryz.prog laid1 w) (fun _ _ _ hh h => h.of_heap hh) own started (by kernel_rfl) Tryz.func3
    (ChangeSpec.witness_shaped (enc := enc) (C := Tryz.checked) (os := os) (X := fun w _ => laidMetH Tryz.prog laid1 w) false (startW os) #[.slice none 0 0, .slice none 0 0] 8 rfl (World.shaped_of_RefB (by kernel_rfl) (by kernel_rfl)) (by kernel_rfl) (by kernel_rfl) (by kernel_rfl) (start_met os _)) ?_
  intro W base args ds gs before hval0 hW _ _ hL _
  have hval : ∀ (j : Nat) t v, Tryz.f3.params[j]? = some t → args[j]? = some v → Value.okWide Tryz.prog W .any base t v := hval0
  have hW' := hW
  obtain ⟨p, q, hA0, hV, rfl, hfz, hnd⟩ := hW
  have hA : DataW.TrodAll enc Tryz.prog W 0 (fun _ => true) true Tryz.f3.params.toList args.toList ds p := hA0
  rw [Tryz.params3] at hA hval
  obtain ⟨v0, vs0, d0, ds0, p0, q0, hargs, rfl, rfl, h0, r0⟩ := trodAll_cons hA
  obtain ⟨v1, vs1, d1, ds1, p1, q1, rfl, rfl, rfl, h1, r1⟩ := trodAll_cons r0
  obtain ⟨rfl, rfl, rfl⟩ := trodAll_nil r1
  obtain rfl : args = #[v0, v1] := by cases args; simp_all
  obtain ⟨rfl, rfl⟩ := trodVars_none hV
  have k0 := h0
  have lt0 : ∀ x ∈ p0, x.block < W.heap.size := by obtain ⟨m, hm⟩ := k0; exact DataW.trod_lt m _ _ _ hm
  obtain ⟨n0, z0, w0⟩ := open_nodes 4 (hval 0 22 v0 rfl rfl) h0
  have k1 := h1
  have lt1 : ∀ x ∈ p1, x.block < W.heap.size := by obtain ⟨m, hm⟩ := k1; exact DataW.trod_lt m _ _ _ hm
  obtain ⟨n1, z1, w1⟩ := open_cells 3 (hval 1 23 v1 rfl rfl) h1
  clear hA0 hval0
  refine (walk _ _ _ _ _ _ W w0 w1 (tab_of hL)).mono fun e W' ⟨he, bel⟩ => ?_
  subst he
  exact ⟨_, rfl, _, _, _, [], _, [], hW', trodAll_mk1 (shut_bool Tryz.underlying4 _), (trodAll_cons_mk (Below.trod laidOut (by kernel_rfl) (of_decide_eq_true (by kernel_rfl)) k0 bel lt0) (trodAll_cons_mk (Below.trod laidOut (by kernel_rfl) (of_decide_eq_true (by kernel_rfl)) k1 bel lt1) trodAll_mk0)), rfl, bel.frame _, fun h => by cases h⟩

theorem over : Rows.routeWaysRow.holds Tryz.pinned (OpenSpec.ofChange Rows.routeWaysSpec) :=
  OpenClaim.holds_of_wide 3 Tryz.f3 rfl rfl rfl rfl rfl rfl rfl ⟨rfl, rfl, rfl, rfl, rfl⟩ rfl rfl rfl rfl rfl (by kernel_rfl) Tryz.func3 (by kernel_rfl)
    (of_decide_eq_true (by kernel_rfl)) (by unfold Func.isWrapper; first | (rw [if_pos (by decide +kernel)]; kernel_rfl) | (rw [if_neg (by decide +kernel)]; exact ⟨rfl, rfl⟩))
    (fun os started H enc _ => lifted os started H enc)

end Go.Proofs.YtnnnkajomljdgaaGreatDoor.routeWays
namespace Go.Proofs.YtnnnkajomljdgaaGreatDoor
/-- The statement: the row, tied to the text of the program. -/
theorem routeWays_holds : Rows.RouteWaysCardSaid :=
  Claim7.holds_tied_plain_at .later [] [.data] true (true, "60721c48722a9e8b562d581eaa8eecad4e5ec86f465869b22e499f0c68cb6c50") false
    routeWays.over (fun _ h => by cases h) (by kernel_rfl) (fun _ h => by cases h) routeWays_row_tie rfl ⟨rfl, rfl⟩ (by kernel_rfl) rfl
    (fun f fn hf hfn => by
      obtain rfl : f = 3 := Option.some.inj ((show Tryz.prog.funcNamed "dendron/dendronlaw10.RouteWays" = some 3 by kernel_rfl).symm.trans hf) |>.symm
      obtain rfl : fn = Tryz.f3 := (Option.some.inj (Tryz.func3.symm.trans hfn)).symm
      exact ⟨by kernel_rfl, fun j t ht => by
        rw [Tryz.params3] at ht
        have hm : t ∈ [22, 23] := by simpa using Array.mem_of_getElem? ht
        have hall : ([22, 23].all fun u => !Tryz.prog.wantsStandIn u) = true := by kernel_rfl
        exact (show Tryz.prog.wantsStandIn t = false by simpa using List.all_eq_true.1 hall t hm)⟩)
    (by kernel_rfl)
end Go.Proofs.YtnnnkajomljdgaaGreatDoor
