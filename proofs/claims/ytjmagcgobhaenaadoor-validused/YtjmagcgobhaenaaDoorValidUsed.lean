/-
  Proves that Used tells for which features the splits of any model of up to 6 trees of up to 15 nodes ask, or nothing of one that may not be, whatever comes in (the statement ValidUsed, its tied card); the table of math/bits lies as the program's text lays it; no other condition.
-/
import Derived.Test.YtjmagcgobhaenaaDoorRows
import Derived.Test.YtjmagcgobhaenaaDoorJ41b314b926
import Derived.Test.YtjmagcgobhaenaaDoorJ392d9e9a1e
import Derived.Test.YtjmagcgobhaenaaDoorJd71de788d8
import Derived.WalkKit
import Derived.ProofKit
import Derived.OpenShut
import Derived.ShutString
import Derived.ChangeOld
import Derived.Below
import Derived.Test.YtjmagcgobhaenaaDoorTie
import Derived.Test.YtjmagcgobhaenaaDoorCards
import Derived.LaidByTextLater
import Derived.LaidHandle
import Derived.Lib.LaidTab
import Derived.SevenTiedAt
namespace Go.Proofs.YtjmagcgobhaenaaDoor.validUsed
open Go.ChangeShapes Go.WideShapes Go.ChangeAt Go.RowKit
open Go.ChangeMaps (open_string shut_string)
set_option linter.unusedVariables false
set_option linter.unusedSimpArgs false

set_option maxRecDepth 100000 in
set_option maxHeartbeats 8000000 in
theorem walk (F : Int) (ao : Option Addr) (c k : Nat) (N : Nat → Nat) (T : Nat → Nat → Nd) (w : World) (hF : I64 F) (hv : MRaw w (.slice ao k c) k N T 4) (ht : Tab w) :
    Calls Tryd.prog 3 #[.agg #[.int .i64 F, .slice ao k c]] w fun e w' => e = .returned (.bool true) ∧ Below w.heap.size w w' := by
  have hv0 := hv
  have BB : Below w.heap.size w w := Below.refl _ _
  obtain ⟨Wb0, hW0, hS0, hL0, VM⟩ := V2.lay w 24 (.int .i64 F) (.slice ao k c)
  replace ht := ht.below hL0
  replace BB := BB.trans (hL0.mono BB.size)
  clear hL0
  go_enter Tryd.func3, Tryd.ntmps3
  obtain ⟨VM_0, VM_1, VM_2, VM_3⟩ := id VM
  rw [hW0] at VM_0 VM_1 VM_2 VM_3
  go_wp2_with fail
  clear VM_0 VM_1 VM_2 VM_3
  rw [← hW0]
  clear hW0 hS0
  have hv1 := hv.below BB
  have hsz : Hid (w.heap.size < Wb0.heap.size) := VM.lt
  refine (few7_at F _ k N T _ hv1).mono ?_
  rintro e w1 ⟨r, rfl, MO, b1⟩
  replace ht := ht.below b1
  replace VM := VM.below b1
  replace BB := BB.trans (b1.mono BB.size)
  clear b1
  obtain ⟨ar, cr, rfl⟩ := MO.form
  clear hv1
  have hkk : min k 6 ≤ 6 := Nat.min_le_right _ _
  generalize min k 6 = kk at *
  generalize (fun i => min (N i) 15) = NN at *
  obtain ⟨q1, q2, q3, q4⟩ := id VM
  have K1 : KeepQ IsLimb w1 (w1.setCell ⟨w.heap.size, 0, none⟩ (.int .i64 F)) := keepL_set q1 (limb_int _) _
  have K2 := keepL_set (cell_set_by (u := .int .i64 F) (j := 0) q2 (by omega)) (limb_slice _ _ _) (.slice ar kk cr)
  have MO_n := (MO.set (a := ⟨w.heap.size, 0, none⟩) (by have := hsz.out; exact this) _ K1).set (a := ⟨w.heap.size, 1, none⟩) (by have := hsz.out; exact this) _ K2
  have VM_n := VM.same (.int .i64 F) (.slice ar kk cr)
  have ht_n := (ht.keepL K1).keepL K2
  have BB_n := below_store2 (R := w.heap.size) BB (Nat.le_refl _) (.int .i64 F) (.slice ar kk cr)
  obtain ⟨z1, z2, z3, z4⟩ := id VM_n
  go_wp2_with fail
  clear q1 q2 q3 q4 z1 z2 z3 z4 K1 K2 MO VM ht BB
  generalize (w1.setCell ⟨w.heap.size, 0, none⟩ (.int .i64 F)).setCell ⟨w.heap.size, 1, none⟩ (.slice ar kk cr) = W3 at *
  have VM := VM_n
  have ht := ht_n
  have BB := BB_n
  have MR := MO_n.row
  clear VM_n ht_n BB_n MO_n
  obtain ⟨B, hB⟩ : ∃ B, mayB F kk NN T = B := ⟨_, rfl⟩
  have HB : Hid (mayB F kk NN T = B) := hB
  clear hB
  cases B
  · refine (used_no F _ kk NN T 4 _ MR ht (by omega) (by omega) HB.out).mono ?_
    rintro e w6 ⟨rfl, b6⟩
    replace ht := ht.below b6
    replace MR := MR.below b6
    replace VM := VM.below b6
    replace BB := BB.trans (b6.mono BB.size)
    clear b6
    obtain ⟨VM_0, VM_1, VM_2, VM_3⟩ := id VM
    go_wp2_with fail
    clear VM_0 VM_1 VM_2 VM_3
    refine (lcheck_at F _ kk NN T 4 _ MR ht (by omega) (by omega)).mono ?_
    rintro e w7 ⟨u2, rfl, HC2, b7⟩
    replace ht := ht.below b7
    replace MR := MR.below b7
    replace VM := VM.below b7
    replace BB := BB.trans (b7.mono BB.size)
    clear b7
    obtain ⟨a, s, d, rfl, hz⟩ := HC2.open
    have ha0 : ¬ a = 0 := by have h9 := mayB_of HC2; rw [HB.out] at h9; exact of_decide_eq_false h9
    have hab : (a != 0) = true := by simpa using ha0
    clear HC2 hz
    obtain ⟨W21, hW21, hS21, hL21, VF⟩ := V4.lay w7 30 (.int .i64 a) (.int .i64 0) (.int .i64 s) (.int .i64 d)
    obtain ⟨⟨y1, y2, y3, y4, y5, y6⟩, y7, y8⟩ := id VF
    rw [hW21] at y1 y2 y3 y4 y5 y6 y7 y8
    go_wp2_with fail
    clear y1 y2 y3 y4 y5 y6 y7 y8
    rw [← hW21]
    clear hW21 hS21
    replace ht := ht.below hL21
    replace MR := MR.below hL21
    replace VM := VM.below hL21
    replace BB := BB.trans (hL21.mono BB.size)
    clear hL21
    refine (awake8_at _ ht).mono ?_
    rintro e w8 ⟨rfl, b8⟩
    replace ht := ht.below b8
    replace MR := MR.below b8
    replace VM := VM.below b8
    replace BB := BB.trans (b8.mono BB.size)
    clear b8
    go_wp2
    go_ret
    exact ⟨rfl, BB⟩
  · obtain ⟨hF0, hF64, hk64, hmy⟩ := mayB_may HB.out
    have HMY : Hid (∀ i, i < kk → MayT F (T i) (NN i)) := hmy
    obtain ⟨nr, hnr⟩ : ∃ nr : Nat, F = (nr : Int) := ⟨F.toNat, by omega⟩
    subst hnr
    clear hmy
    refine (used_yes _ kk nr NN T 4 _ MR ht (by omega) (by omega) HB.out).mono ?_
    rintro e w6 ⟨gu, rfl, hgu, BA, b6⟩
    replace ht := ht.below b6
    replace MR := MR.below b6
    replace VM := VM.below b6
    replace BB := BB.trans (b6.mono BB.size)
    clear b6
    clear hgu
    obtain ⟨VM_0, VM_1, VM_2, VM_3⟩ := id VM
    go_wp2_with fail
    clear VM_0 VM_1 VM_2 VM_3
    refine (lcheck_at (nr : Int) _ kk NN T 4 _ MR ht (by omega) (by omega)).mono ?_
    rintro e w7 ⟨u2, rfl, HC2, b7⟩
    replace ht := ht.below b7
    replace MR := MR.below b7
    replace BA := BA.below b7
    replace VM := VM.below b7
    replace BB := BB.trans (b7.mono BB.size)
    clear b7
    obtain ⟨a, s, d, rfl, hz⟩ := HC2.open
    have ha0 : a = 0 := by have h9 := mayB_of HC2; rw [HB.out] at h9; exact of_decide_eq_true h9
    obtain ⟨rfl, rfl⟩ := hz ha0
    subst ha0
    clear HC2 hz
    obtain ⟨W21, hW21, hS21, hL21, VF⟩ := V4.lay w7 30 (.int .i64 0) (.int .i64 0) (.int .i64 0) (.int .i64 0)
    obtain ⟨⟨y1, y2, y3, y4, y5, y6⟩, y7, y8⟩ := id VF
    rw [hW21] at y1 y2 y3 y4 y5 y6 y7 y8
    obtain ⟨m1, m2, m3, m4⟩ := VM.below hL21
    rw [hW21] at m1 m2 m3 m4
    go_wp2
    clear y1 y2 y3 y4 y5 y6 y7 y8 m1 m2 m3 m4
    rw [← hW21]
    clear hW21 hS21
    replace ht := ht.below hL21
    replace MR := MR.below hL21
    replace BA := BA.below hL21
    replace VM := VM.below hL21
    replace BB := BB.trans (hL21.mono BB.size)
    clear hL21 VF
    have ht0 : Hid (Tab W21) := ht
    have MR0 : Hid (MRow W21 (.slice ar kk cr) kk NN T 4) := MR
    have BA0 : Hid (BAr W21 gu nr (usedB T NN kk)) := BA
    have VM0 : Hid (V2 W21 w.heap.size (.int .i64 (nr : Int)) (.slice ar kk cr)) := VM
    clear ht MR BA VM
    go_loopw [5] (fun vi wr => ∃ i : Nat, i ≤ nr ∧ vi = .int .i64 (i : Int) ∧ Below W21.heap.size W21 wr) (fun vi _ => nr - (intOf vi).toNat)
    case atStart => exact ⟨0, by omega, rfl, Below.refl _ _⟩
    case round =>
      obtain ⟨i, hi, rfl, BL⟩ := hrel
      obtain ⟨m1, m2, m3, m4⟩ := VM0.out.below BL
      by_cases hlt : i < nr
      · have g0 : (0 : Int) ≤ (i : Int) := by omega
        have g1_ : (i : Int) < (nr : Int) := by omega
        have wi : IntKind.i64.wrap ((i : Int) + 1) = (i : Int) + 1 := by rw [IntKind.wrap_i64]; omega
        have HA0 : Hid (false = true ↔ asks T NN 0 (i : Int)) := ⟨fun h => (by cases h), fun ⟨j, hj, _⟩ => by omega⟩
        go_wp2
        clear m1 m2 m3 m4
        go_loopw [6, 7] (fun vb vk w2 => ∃ (k1 : Nat) (b : Bool), k1 ≤ kk ∧ vk = .int .i64 (k1 : Int) ∧ vb = .bool b ∧ Hid (b = true ↔ asks T NN k1 (i : Int)) ∧ Below W21.heap.size W21 w2) (fun _ vk _ => kk - (intOf vk).toNat)
        case atStart => exact ⟨0, false, by omega, rfl, rfl, HA0, BL⟩
        case round =>
          clear BL HA0
          obtain ⟨k1, b, hk1, rfl, rfl, HA, BL⟩ := hrel
          obtain ⟨m1, m2, m3, m4⟩ := VM0.out.below BL
          by_cases hkl : k1 < kk
          · have f0 : (0 : Int) ≤ (k1 : Int) := by omega
            have f1 : (k1 : Int) < (kk : Int) := by omega
            have wk : IntKind.i64.wrap ((k1 : Int) + 1) = (k1 : Int) + 1 := by rw [IntKind.wrap_i64]; omega
            obtain ⟨b9, off9, cc9, a9, d9, hvv, hcc9, XC0, TR0⟩ := MR0.out.at hkl
            cases hvv
            have HXC : Hid (Cel10 W21 b9 (off9 + k1) (.slice a9 (NN k1) d9)) := ⟨XC0⟩
            have HTR : Hid (TRow W21 (.slice a9 (NN k1) d9) (NN k1) (T k1) 4) := TR0
            have hn255 := (HMY.out k1 hkl).few
            have HAM : Hid (asks T NN (k1 + 1) (i : Int) ↔ asks T NN k1 (i : Int) ∨ askT (T k1) (NN k1) (i : Int)) := asks_more
            have HA1 : Hid (b = true ↔ asks T NN k1 (i : Int) ∨ askT (T k1) 0 (i : Int)) := HA.out.trans ⟨fun h => .inl h, fun h => h.resolve_right askT_none⟩
            clear XC0 TR0 HA
            go_wp2
            clear m1 m2 m3 m4
            generalize T k1 = t at *
            generalize NN k1 = n at *
            go_loopw [6, 8] (fun vb vq w2 => ∃ (q : Nat) (b : Bool), q ≤ n ∧ vq = .int .i64 (q : Int) ∧ vb = .bool b ∧ Hid (b = true ↔ asks T NN k1 (i : Int) ∨ askT t q (i : Int)) ∧ Below W21.heap.size W21 w2) (fun _ vq _ => n - (intOf vq).toNat)
            case atStart => exact ⟨0, b, by omega, rfl, rfl, HA1, BL⟩
            case round =>
              clear BL HA1
              obtain ⟨q, b, hq, rfl, rfl, HA, BL⟩ := hrel
              obtain ⟨m1, m2, m3, m4⟩ := VM0.out.below BL
              have x9 := (HXC.out.below BL).cell
              by_cases hql : q < n
              · have h0 : (0 : Int) ≤ (q : Int) := by omega
                have h1 : (q : Int) < (n : Int) := by omega
                have wq : IntKind.i64.wrap ((q : Int) + 1) = (q : Int) + 1 := by rw [IntKind.wrap_i64]; omega
                have HTM : Hid (askT t (q + 1) (i : Int) ↔ askT t q (i : Int) ∨ ((t q).leaf = false ∧ (t q).feat = (i : Int))) := askT_more
                obtain ⟨b8, off8, cc8, p1, a1, n1, c1, b1, m1_, d1, p2, a2, n2, c2, b2, m2_, d2, p3, a3, n3, c3, b3, m3_, d3, hvv, hcc8, hc6, NN8, r1, r2, r3, i1, i2, i3⟩ := (HTR.out.below BL).at hql
                cases hvv
                clear r1 r2 r3 i1 i2 i3
                have n0 := NN8.c0
                have nf := NN8.c1
                clear NN8
                cases b
                · cases hlf : (t q).leaf
                  · rw [hlf] at n0
                    by_cases hfe : (t q).feat = (i : Int)
                    · have HR : Hid (true = true ↔ asks T NN k1 (i : Int) ∨ askT t (q + 1) (i : Int)) := ⟨fun _ => .inr (HTM.out.2 (.inr ⟨hlf, hfe⟩)), fun _ => rfl⟩
                      rw [hfe] at nf
                      clear hlf hfe HTM HA
                      go_wp2
                      go_roundw
                      case rel => exact ⟨q + 1, true, by omega, by go_num, rfl, HR, BL⟩
                      case measure => simp [intOf]; omega
                    · have HR : Hid (false = true ↔ asks T NN k1 (i : Int) ∨ askT t (q + 1) (i : Int)) := HA.out.trans ⟨fun h => h.imp id (fun h => HTM.out.2 (.inl h)), fun h => h.imp id (fun h => (HTM.out.1 h).resolve_right (fun e => hfe e.2))⟩
                      have hf2 : ((t q).feat == (i : Int)) = false := by simpa using hfe
                      have hf3 : decide ((t q).feat = (i : Int)) = false := decide_eq_false hfe
                      clear hlf HTM HA
                      go_wp2
                      go_roundw
                      case rel => exact ⟨q + 1, false, by omega, by go_num, rfl, HR, BL⟩
                      case measure => simp [intOf]; omega
                  · rw [hlf] at n0
                    have HR : Hid (false = true ↔ asks T NN k1 (i : Int) ∨ askT t (q + 1) (i : Int)) := HA.out.trans ⟨fun h => h.imp id (fun h => HTM.out.2 (.inl h)), fun h => h.imp id (fun h => (HTM.out.1 h).resolve_right (fun e => by rw [hlf] at e; cases e.1))⟩
                    clear hlf HTM HA
                    go_wp2
                    go_roundw
                    case rel => exact ⟨q + 1, false, by omega, by go_num, rfl, HR, BL⟩
                    case measure => simp [intOf]; omega
                · have HR : Hid (true = true ↔ asks T NN k1 (i : Int) ∨ askT t (q + 1) (i : Int)) := ⟨fun _ => (HA.out.1 rfl).imp id (fun h => HTM.out.2 (.inl h)), fun _ => rfl⟩
                  clear HTM HA
                  go_wp2
                  go_roundw
                  case rel => exact ⟨q + 1, true, by omega, by go_num, rfl, HR, BL⟩
                  case measure => simp [intOf]; omega
              · obtain rfl : q = n := by omega
                have h1 : ¬ (q : Int) < (q : Int) := by omega
                have HR : Hid (b = true ↔ asks T NN (k1 + 1) (i : Int)) := HA.out.trans HAM.out.symm
                clear HA HAM
                go_wp2
                go_roundw
                case rel => exact ⟨k1 + 1, b, by omega, by go_num, rfl, HR, BL⟩
                case measure => simp [intOf]; omega
          · obtain rfl : k1 = kk := by omega
            have f1 : ¬ (k1 : Int) < (k1 : Int) := by omega
            have cU := (BA0.out.below BL).cell i hlt
            have hbu : usedB T NN k1 i = b := by
              have h1 : usedB T NN k1 i = true ↔ b = true := usedB_is.trans HA.out.symm
              cases e1 : usedB T NN k1 i <;> cases e2 : b <;> simp_all
            rw [hbu] at cU
            clear hbu HA
            cases b
            · go_wp2
              go_roundw
              case rel => exact ⟨i + 1, by omega, by go_num, BL⟩
              case measure => simp [intOf]; omega
            · go_wp2
              go_roundw
              case rel => exact ⟨i + 1, by omega, by go_num, BL⟩
              case measure => simp [intOf]; omega
      · obtain rfl : i = nr := by omega
        have g1_ : ¬ (i : Int) < (i : Int) := by omega
        go_wp2_with fail
        refine (awake8_at _ (ht0.out.below BL)).mono ?_
        rintro e w9 ⟨rfl, b9⟩
        go_wp2
        go_ret
        exact ⟨rfl, (BB.trans (BL.mono BB.size)).trans (b9.mono (by have := BB.size; have := BL.size; omega))⟩
theorem own : ownKnob Tryd.prog.godebug = none := by kernel_rfl
theorem laidOut : laidOutB Tryd.prog = true := by kernel_rfl

abbrev laid1 : List (String × DataW Unit) := [("math/bits.deBruijn64tab", Rows.laid_math_bits_deBruijn64tab)]
theorem gTab : Tryd.prog.globalNamed "math/bits.deBruijn64tab" = some 0 := by kernel_rfl
theorem gTabType : (Tryd.prog.globals[0]?).map (·.type) = some 116 := by kernel_rfl
theorem uTab : Tryd.prog.underlying 116 = some (.array 64 5) := by kernel_rfl
theorem uCell : Tryd.prog.underlying 5 = some (.int .u8) := by kernel_rfl
theorem cCell : Tryd.prog.cellsOf 5 = 1 := by kernel_rfl
theorem cTab : Tryd.prog.cellsOf 116 = 64 := by kernel_rfl
/-- The listed table lies in its cells. -/
theorem tab_of {W : World} (h : laidMetH Tryd.prog laid1 W) : Tab W := by
  rw [MakeChecks.laidMetH_plain _ _ _ (by kernel_rfl)] at h
  have hd : laid1 = [("math/bits.deBruijn64tab", Lib.tabData .u8 (Lib.deBruijn64tab.map fun (n : Nat) => Int.ofNat n))] := rfl
  rw [hd] at h
  have hT := Lib.tabIs_of_head gTab gTabType uTab uCell cCell cTab h
  intro i hi
  have hc := hT.cell gTab i (by rw [List.length_map]; exact hi)
  rw [hc]
  congr 2
  rw [List.getD_eq_getElem?_getD, List.getElem?_map, List.getD_eq_getElem?_getD]
  cases Lib.deBruijn64tab[i]? <;> rfl
/-- A start for the witness: the heap that the run of the program's own initialisers leaves. -/
noncomputable def startW (os : Os) : World := { World.holding Tryd.prog os ⟨#[], #[], []⟩ with heap := (varsWorld Tryd.prog 400 (varsId Tryd.prog) os (fun _ _ => 0)).heap }
theorem start_met (os : Os) (args : Array Value) : laidMetH Tryd.prog laid1 ((startW os).forCall (fun _ _ => 0) ⟨#[], args, []⟩).memory :=
  laidMetH_of_parts3 (fuel := 8) (laidMet_of_run' 8 (by kernel_rfl) (by kernel_rfl)) (by kernel_rfl) (by kernel_rfl)

set_option maxRecDepth 100000 in
theorem lifted (os : Os) (started : os.Started) (H : Type) (enc : TypeId × Value → H) :
    ReturnsInHanded {} Tryd.checked os 3 .any (fun w args => (Rows.validUsedSpec.pre enc Tryd.prog Tryd.f3 [] false w args ∧ laidMetH Tryd.prog laid1 w) ∧ sizedMet enc Tryd.prog Tryd.f3 (OpenSpec.ofChange Rows.validUsedSpec) false w args) (Rows.validUsedSpec.post enc Tryd.prog Tryd.f3 false true false false) := by
  refine returnsInHanded_of_change_and (C := Tryd.checked) (X := fun w _ => laidMetH Tryd.prog laid1 w) (fun _ _ _ hh h => h.of_heap hh) own started (by kernel_rfl) Tryd.func3
    (ChangeSpec.witness_shaped (enc := enc) (C := Tryd.checked) (os := os) (X := fun w _ => laidMetH Tryd.prog laid1 w) false (startW os) #[.agg #[.int .i64 0, .slice none 0 0]] 8 rfl (World.shaped_of_RefB (by kernel_rfl) (by kernel_rfl)) (by kernel_rfl) (by kernel_rfl) (by kernel_rfl) (start_met os _)) ?_
  intro W base args ds gs before hval0 hW _ _ hL _
  have hval : ∀ (j : Nat) t v, Tryd.f3.params[j]? = some t → args[j]? = some v → Value.okWide Tryd.prog W .any base t v := hval0
  have hW' := hW
  obtain ⟨p, q, hA0, hV, rfl, hfz, hnd⟩ := hW
  have hA : DataW.TrodAll enc Tryd.prog W 0 (fun _ => true) true Tryd.f3.params.toList args.toList ds p := hA0
  rw [Tryd.params3] at hA hval
  obtain ⟨v0, vs0, d0, ds0, p0, q0, hargs, rfl, rfl, h0, r0⟩ := trodAll_cons hA
  obtain ⟨rfl, rfl, rfl⟩ := trodAll_nil r0
  obtain rfl : args = #[v0] := by cases args; simp_all
  obtain ⟨rfl, rfl⟩ := trodVars_none hV
  have k0 := h0
  have lt0 : ∀ x ∈ p0, x.block < W.heap.size := by obtain ⟨m, hm⟩ := k0; exact DataW.trod_lt m _ _ _ hm
  obtain ⟨F0, a0, c0, n0, N0, z0, rfl, f0, w0⟩ := open_model 4 (hval 0 24 v0 rfl rfl) h0
  clear hA0 hval0
  refine (walk _ _ _ _ _ _ W f0 w0 (tab_of hL)).mono fun e W' ⟨he, bel⟩ => ?_
  subst he
  exact ⟨_, rfl, _, _, _, [], _, [], hW', trodAll_mk1 (shut_bool Tryd.underlying4 _), (trodAll_cons_mk (Below.trod laidOut (by kernel_rfl) (of_decide_eq_true (by kernel_rfl)) k0 bel lt0) trodAll_mk0), rfl, bel.frame _, fun h => by cases h⟩

theorem over : Rows.validUsedRow.holds Tryd.pinned (OpenSpec.ofChange Rows.validUsedSpec) :=
  OpenClaim.holds_of_wide 3 Tryd.f3 rfl rfl rfl rfl rfl rfl rfl ⟨rfl, rfl, rfl, rfl, rfl⟩ rfl rfl rfl rfl rfl (by kernel_rfl) Tryd.func3 (by kernel_rfl)
    (of_decide_eq_true (by kernel_rfl)) (by unfold Func.isWrapper; first | (rw [if_pos (by decide +kernel)]; kernel_rfl) | (rw [if_neg (by decide +kernel)]; exact ⟨rfl, rfl⟩))
    (fun os started H enc _ => lifted os started H enc)

end Go.Proofs.YtjmagcgobhaenaaDoor.validUsed
namespace Go.Proofs.YtjmagcgobhaenaaDoor
/-- The statement: the row, tied to the text of the program. -/
theorem validUsed_holds : Rows.ValidUsedCardSaid :=
  Claim7.holds_tied_plain_at .later [] [.data] true (true, "3d6ee5367ea52f353800fe1d8d9c692c5f448725f2ac1cafbe34e5faf2f9e59e") false
    validUsed.over (fun _ h => by cases h) (by kernel_rfl) (fun _ h => by cases h) validUsed_row_tie rfl ⟨rfl, rfl⟩ (by kernel_rfl) rfl
    (fun f fn hf hfn => by
      obtain rfl : f = 3 := Option.some.inj ((show Tryd.prog.funcNamed "dendron/dendronlaw08.ValidUsed" = some 3 by kernel_rfl).symm.trans hf) |>.symm
      obtain rfl : fn = Tryd.f3 := (Option.some.inj (Tryd.func3.symm.trans hfn)).symm
      exact ⟨by kernel_rfl, fun j t ht => by
        rw [Tryd.params3] at ht
        have hm : t ∈ [24] := by simpa using Array.mem_of_getElem? ht
        have hall : ([24].all fun u => !Tryd.prog.wantsStandIn u) = true := by kernel_rfl
        exact (show Tryd.prog.wantsStandIn t = false by simpa using List.all_eq_true.1 hall t hm)⟩)
    (by kernel_rfl)
end Go.Proofs.YtjmagcgobhaenaaDoor
