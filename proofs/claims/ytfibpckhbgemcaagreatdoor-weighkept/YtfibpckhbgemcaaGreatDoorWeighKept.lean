/-
  Proves that what Fact answers is not the table's own: whatever becomes of it, the table tells the same again (the statement WeighKept, its tied card); the table of math/bits lies as the program's text lays it; no other condition.
-/
import Derived.Test.YtfibpckhbgemcaaGreatDoorRows
import Derived.Test.YtfibpckhbgemcaaGreatDoorJe4ba5c5200
import Derived.WalkKit
import Derived.ProofKit
import Derived.OpenShut
import Derived.ShutString
import Derived.ChangeOld
import Derived.Below
import Derived.Test.YtfibpckhbgemcaaGreatDoorTie
import Derived.Test.YtfibpckhbgemcaaGreatDoorCards
import Derived.LaidByTextLater
import Derived.LaidHandle
import Derived.Lib.LaidTab
import Derived.SevenTiedAt
namespace Go.Proofs.YtfibpckhbgemcaaGreatDoor.weighKept
open Go.ChangeShapes Go.WideShapes Go.ChangeAt Go.RowKit
open Go.ChangeMaps (open_string shut_string)
set_option linter.unusedVariables false
set_option linter.unusedSimpArgs false

/-- A table, and where its limbs lie. -/
structure KT14 (b B : Nat) (w : World) : Prop where
  old : WOld w b
  low : LowC w b B
theorem KT14.below {b B : Nat} {w w' : World} (h : KT14 b B w) (hb : Below w.heap.size w w') : KT14 b B w' := ⟨h.old.below hb, h.low.below hb h.old.lt⟩
theorem KT14.far {b B g : Nat} {w : World} (h : KT14 b B w) (hg : B ≤ g) (hb : b < g) (o : Nat) (v : Value) : KT14 b B (w.setCell ⟨g, o, none⟩ v) := ⟨h.old.far h.low hg hb o v, h.low.set (by omega) o v⟩

set_option maxRecDepth 100000 in
set_option maxHeartbeats 16000000 in
theorem walk (n : Int) (w : World) (wn : (Lit.int .i64 n).wf = true) (ht : Tab w) :
    Calls Tryz.prog 8 #[.int .i64 n] w fun e w' => e = .returned (.bool true) ∧ Below w.heap.size w w' := by
  have hn2 := bounds_i64 wn
  clear wn
  by_cases hc : 0 ≤ n ∧ n ≤ 64
  · obtain ⟨k, rfl⟩ : ∃ k : Nat, n = (k : Int) := ⟨n.toNat, by omega⟩
    have hk : k ≤ 64 := by omega
    clear hc hn2
    have g1 : ¬ (k : Int) < 0 := by omega
    have g2 : ¬ (64 : Int) < (k : Int) := by omega
    have g5 : decide ((k : Int) < 0) = false := decide_eq_false g1
    have g6 : decide ((64 : Int) < (k : Int)) = false := decide_eq_false g2
    have HT0 : Hid (Tab w) := ht
    have BB : Below w.heap.size w w := Below.refl _ _
    go_enter Tryz.func8, Tryz.ntmps8
    go_wp2_with fail
    refine (new_at _).mono ?_
    rintro e w1 ⟨rfl, hsz, HN, b1⟩
    replace ht := ht.below b1
    replace BB := BB.trans (b1.mono BB.size)
    clear b1
    obtain ⟨b, hb⟩ : ∃ b, b = w.heap.size := ⟨_, rfl⟩
    have hbw : w.heap.size ≤ b := by omega
    rw [← hb] at HN
    have HT : WT w1 b false := HN
    rw [← hb]
    clear HN hb hsz
    go_wp2_with fail
    refine (tfact_new b k false _ HT hk).mono ?_
    rintro e w2 ⟨a2, m2, c2, B, f2, rfl, hbB, hB, hM, hL, ho⟩
    have HK : KT14 b B w2 := ⟨ho.tab, hL⟩
    have hB2 : w.heap.size ≤ B := Nat.le_trans BB.size hB
    replace BB := BB.trans (ho.upd.below hbw BB.size)
    clear ho HT hL hB ht
    have HG : Hid (∀ g o, a2 = some ⟨g, o, none⟩ → 0 < m2 → B ≤ g ∧ g < w2.heap.size) := fun g o he hm => by
      obtain ⟨ao, c, h1, _, _, h4⟩ := hM
      obtain ⟨b1, o1, e1, hc, _, hB1⟩ := h4 hm
      simp only [Value.slice.injEq] at h1
      have e2 := (h1.1.symm.trans he)
      rw [e1] at e2
      simp only [Option.some.injEq, Addr.mk.injEq] at e2
      rw [← e2.1]
      exact ⟨hB1, hc.lt hm⟩
    have hZ1 : w.heap.size ≤ w2.heap.size := BB.size
    obtain ⟨W1, hW1, hS1, hL1, VA⟩ := V2.lay w2 27 (.bool false) (.slice a2 m2 c2)
    replace HK := HK.below hL1
    replace hM := hM.below hL1
    replace BB := BB.trans (hL1.mono BB.size)
    clear hL1
    go_wp2
    rw [← hW1]
    generalize w2.heap.size = R1 at *
    clear hW1 hS1
    have HM : Hid (m2 ≤ c2 ∧ m2 ≤ LIM) := by obtain ⟨ao, c, h1, h2, h3, _⟩ := hM; simp only [Value.slice.injEq] at h1; exact ⟨h1.2.2 ▸ h2, h3⟩
    go_loopw [6] (fun vi wr => ∃ (i : Nat) (f : Nat → Int), i ≤ m2 ∧ vi = .int .i64 (i : Int) ∧ Mine .u64 B wr (.slice a2 m2 c2) m2 f ∧ V2 wr R1 (.bool false) (.slice a2 m2 c2) ∧ KT14 b B wr ∧ Below w.heap.size w wr) (fun vi _ => m2 - (intOf vi).toNat)
    case atStart => exact ⟨0, _, by omega, rfl, hM, VA, HK, BB⟩
    case round =>
      clear hM VA HK BB
      obtain ⟨i, f, hi, rfl, hM, VA, HK, BB⟩ := hrel
      have hm2 := HM.out.1
      have hlim : m2 ≤ LIM := HM.out.2
      unfold LIM at hlim
      by_cases hlt : i < m2
      · have c1 : (i : Int) < (m2 : Int) := by omega
        have c2_ : (0 : Int) ≤ (i : Int) := by omega
        have wi : IntKind.i64.wrap ((i : Int) + 1) = (i : Int) + 1 := by rw [IntKind.wrap_i64]; omega
        obtain ⟨g, off, rfl⟩ : ∃ g off, a2 = some ⟨g, off, none⟩ := by
          obtain ⟨ao, c, h1, _, _, h4⟩ := hM
          obtain ⟨b1, o1, e1, _⟩ := h4 (by omega)
          simp only [Value.slice.injEq] at h1
          exact ⟨b1, o1, h1.1.trans e1⟩
        have hg := HG.out g off rfl (by omega)
        obtain ⟨hg1, hg2⟩ := hg
        have hgR : g ≠ R1 := by omega
        have hgb : b < g := by omega
        obtain ⟨x0, x1, _, hM_n⟩ := hM.putOne hlt 7
        obtain ⟨v0, v1, v2, v3⟩ := id VA
        have VA_n : V2 (wr.setCell ⟨g, off + i, none⟩ (.int .u64 7)) R1 (.bool false) (.slice (some ⟨g, off, none⟩) m2 c2) := ⟨set_cell_block VA.1 (fun e => hgR e.symm), set_cell_block VA.2.1 (fun e => hgR e.symm), by simp [v2], by simp [v3]⟩
        have HK_n := HK.far hg1 hgb (off + i) (.int .u64 7)
        have BB_n : Below w.heap.size w (wr.setCell ⟨g, off + i, none⟩ (.int .u64 7)) := BB.setCell (show w.heap.size ≤ g by omega) _
        clear hM VA HK BB
        go_wp2
        clear x0 x1 v0 v1 v2 v3
        generalize wr.setCell ⟨g, off + i, none⟩ (.int .u64 7) = w3 at *
        go_roundw
        case rel => exact ⟨i + 1, _, by omega, by go_num, hM_n, VA_n, HK_n, BB_n⟩
        case measure => simp [intOf]; omega
      · obtain rfl : i = m2 := by omega
        have c1 : ¬ (i : Int) < (i : Int) := by omega
        have ht : Tab wr := HT0.out.below BB
        have hbw2 : Hid (w.heap.size ≤ b) := hbw
        obtain ⟨v0, v1, v2, v3⟩ := id VA
        clear hM
        go_wp2_with fail
        clear v0 v1 v2 v3 VA
        refine (tfact_at b k true _ HK.old hk).mono ?_
        rintro e w4 ⟨r4, rfl, h4, ho⟩
        replace ht := ht.keepL ho.keep
        replace BB := BB.trans ((ho.low rfl).mono BB.size)
        clear ho HK
        obtain ⟨p4, a4, n4, c4, rfl⟩ := h4.open
        have hZ21 : w.heap.size ≤ w4.heap.size := BB.size
        obtain ⟨W21, hW21, hS21, hL21, VB⟩ := V2.lay w4 27 (.bool p4) (.slice a4 n4 c4)
        replace ht := ht.below hL21
        replace h4 := h4.below hL21
        replace BB := BB.trans (hL21.mono BB.size)
        clear hL21
        obtain ⟨VB_0, VB_1, VB_2, VB_3⟩ := id VB
        rw [hW21] at VB_0 VB_1 VB_2 VB_3
        go_wp2_with fail
        clear VB_0 VB_1 VB_2 VB_3
        rw [← hW21]
        generalize w4.heap.size = R21 at *
        clear hW21 hS21
        refine (qint_at _ _ 10 _ (h4.at 10 (fact_nl hk))).mono ?_
        rintro e w5 ⟨r5, rfl, h5, b5⟩
        replace ht := ht.below b5
        replace h4 := h4.below b5
        replace VB := VB.below b5
        replace BB := BB.trans (b5.mono BB.size)
        clear b5
        rw [Rat.intCast_natCast] at h5
        go_wp2_with fail
        refine (lfact_at k _ hk ht).mono ?_
        rintro e w6 ⟨r6, rfl, h6, b6⟩
        replace ht := ht.below b6
        replace h4 := h4.below b6
        replace h5 := h5.below b6
        replace VB := VB.below b6
        replace BB := BB.trans (b6.mono BB.size)
        clear b6
        go_wp2_with fail
        refine (qsame_at _ _ _ _ 10 _ (h5.at 10 (fctR_sz hk)) (h6.at 10 (fctR_sz hk)) (by omega) (by omega)).mono ?_
        rintro e w7 ⟨rfl, b7⟩
        replace ht := ht.below b7
        replace h4 := h4.below b7
        replace h5 := h5.below b7
        replace h6 := h6.below b7
        replace VB := VB.below b7
        replace BB := BB.trans (b7.mono BB.size)
        clear b7
        rw [decide_eq_true rfl]
        go_wp2_with fail
        refine (awake14_at _ ht).mono ?_
        rintro e w8 ⟨rfl, b8⟩
        replace ht := ht.below b8
        replace h4 := h4.below b8
        replace h5 := h5.below b8
        replace h6 := h6.below b8
        replace VB := VB.below b8
        replace BB := BB.trans (b8.mono BB.size)
        clear b8
        go_wp2
        go_ret
        exact ⟨rfl, BB⟩
  · by_cases hA : n < 0
    · have g1 : n < 0 := hA
      have q1 : decide (n < 0) = true := decide_eq_true g1
      clear hA hc hn2
      have BB : Below w.heap.size w w := Below.refl _ _
      go_enter Tryz.func8, Tryz.ntmps8
      go_wp2_with fail
      refine (awake14_at _ ht).mono ?_
      rintro e w1 ⟨rfl, b1⟩
      replace ht := ht.below b1
      replace BB := BB.trans (b1.mono BB.size)
      clear b1
      go_wp2
      go_ret
      exact ⟨rfl, BB⟩
    · have g1 : ¬ n < 0 := hA
      have g2 : 64 < n := by omega
      have q1 : decide (n < 0) = false := decide_eq_false g1
      have q2 : decide (64 < n) = true := decide_eq_true g2
      clear hA hc hn2
      have BB : Below w.heap.size w w := Below.refl _ _
      go_enter Tryz.func8, Tryz.ntmps8
      go_wp2_with fail
      refine (awake14_at _ ht).mono ?_
      rintro e w1 ⟨rfl, b1⟩
      replace ht := ht.below b1
      replace BB := BB.trans (b1.mono BB.size)
      clear b1
      go_wp2
      go_ret
      exact ⟨rfl, BB⟩
theorem own : ownKnob Tryz.prog.godebug = none := by kernel_rfl

abbrev laid1 : List (String × DataW Unit) := [("math/bits.deBruijn64tab", Rows.laid_math_bits_deBruijn64tab)]
theorem gTab : Tryz.prog.globalNamed "math/bits.deBruijn64tab" = some 0 := by kernel_rfl
theorem gTabType : (Tryz.prog.globals[0]?).map (·.type) = some 129 := by kernel_rfl
theorem uTab : Tryz.prog.underlying 129 = some (.array 64 5) := by kernel_rfl
theorem uCell : Tryz.prog.underlying 5 = some (.int .u8) := by kernel_rfl
theorem cCell : Tryz.prog.cellsOf 5 = 1 := by kernel_rfl
theorem cTab : Tryz.prog.cellsOf 129 = 64 := by kernel_rfl
/-- The listed table lies in its cells. -/
theorem tab_of {W : World} (h : laidMetH Tryz.prog laid1 W) : Tab W := by
  rw [MakeChecks.laidMetH_plain _ _ _ (by kernel_rfl)] at h
  have hd : laid1 = [("math/bits.deBruijn64tab", Lib.tabData .u8 (Lib.deBruijn64tab.map fun (n : Nat) => Int.ofNat n))] := rfl
  rw [hd] at h
  have hT := Lib.tabIs_of_head gTab gTabType uTab uCell cCell cTab h
  intro i hi
  have hc := hT.cell gTab i (by rw [List.length_map]; exact hi)
  rw [hc]
  congr 2
  rw [List.getD_eq_getElem?_getD, List.getElem?_map, List.getD_eq_getElem?_getD]
  cases Lib.deBruijn64tab[i]? <;> rfl
/-- A start for the witness: the heap that the run of the program's own initialisers leaves. -/
noncomputable def startW (os : Os) : World := { World.holding Tryz.prog os ⟨#[], #[], []⟩ with heap := (varsWorld Tryz.prog 400 (varsId Tryz.prog) os (fun _ _ => 0)).heap }
theorem start_met (os : Os) (args : Array Value) : laidMetH Tryz.prog laid1 ((startW os).forCall (fun _ _ => 0) ⟨#[], args, []⟩).memory :=
  laidMetH_of_parts3 (fuel := 8) (laidMet_of_run' 8 (by kernel_rfl) (by kernel_rfl)) (by kernel_rfl) (by kernel_rfl)

set_option maxRecDepth 100000 in
theorem lifted (os : Os) (started : os.Started) (H : Type) (enc : TypeId × Value → H) :
    ReturnsInHanded {} Tryz.checked os 8 .any (fun w args => (Rows.weighKeptSpec.pre enc Tryz.prog Tryz.f8 [] false w args ∧ laidMetH Tryz.prog laid1 w) ∧ sizedMet enc Tryz.prog Tryz.f8 (OpenSpec.ofChange Rows.weighKeptSpec) false w args) (Rows.weighKeptSpec.post enc Tryz.prog Tryz.f8 false true false false) := by
  refine returnsInHanded_of_change_and (C := Tryz.checked) (X := fun w _ => laidMetH Tryz.prog laid1 w) (fun _ _ _ hh h => h.of_heap hh) own started (by kernel_rfl) Tryz.func8
    (ChangeSpec.witness_shaped (enc := enc) (C := Tryz.checked) (os := os) (X := fun w _ => laidMetH Tryz.prog laid1 w) false (startW os) #[.int .i64 0] 8 rfl (World.shaped_of_RefB (by kernel_rfl) (by kernel_rfl)) (by kernel_rfl) (by kernel_rfl) (by kernel_rfl) (start_met os _)) ?_
  intro W base args ds gs before hval0 hW _ _ hL _
  have hval : ∀ (j : Nat) t v, Tryz.f8.params[j]? = some t → args[j]? = some v → Value.okWide Tryz.prog W .any base t v := hval0
  have hW' := hW
  obtain ⟨p, q, hA0, hV, rfl, hfz, hnd⟩ := hW
  have hA : DataW.TrodAll enc Tryz.prog W 0 (fun _ => true) true Tryz.f8.params.toList args.toList ds p := hA0
  rw [Tryz.params8] at hA hval
  obtain ⟨v0, vs0, d0, ds0, p0, q0, hargs, rfl, rfl, h0, r0⟩ := trodAll_cons hA
  obtain ⟨rfl, rfl, rfl⟩ := trodAll_nil r0
  obtain rfl : args = #[v0] := by cases args; simp_all
  obtain ⟨rfl, rfl⟩ := trodVars_none hV
  obtain ⟨a0, rfl, rfl, rfl, w0⟩ := open_int Tryz.underlying3 (hval 0 3 v0 rfl rfl) h0
  clear hA0 hval0
  refine (walk a0 W w0 (tab_of hL)).mono fun e W' ⟨he, bel⟩ => ?_
  subst he
  exact ⟨_, rfl, _, _, _, [], _, [], hW', trodAll_mk1 (shut_bool Tryz.underlying4 _), (trodAll_cons_mk (shut_int Tryz.underlying3 w0) trodAll_mk0), rfl, bel.frame _, fun h => by cases h⟩

theorem over : Rows.weighKeptRow.holds Tryz.pinned (OpenSpec.ofChange Rows.weighKeptSpec) :=
  OpenClaim.holds_of_wide 8 Tryz.f8 rfl rfl rfl rfl rfl rfl rfl ⟨rfl, rfl, rfl, rfl, rfl⟩ rfl rfl rfl rfl rfl (by kernel_rfl) Tryz.func8 (by kernel_rfl)
    (of_decide_eq_true (by kernel_rfl)) (by unfold Func.isWrapper; first | (rw [if_pos (by decide +kernel)]; kernel_rfl) | (rw [if_neg (by decide +kernel)]; exact ⟨rfl, rfl⟩))
    (fun os started H enc _ => lifted os started H enc)

end Go.Proofs.YtfibpckhbgemcaaGreatDoor.weighKept
namespace Go.Proofs.YtfibpckhbgemcaaGreatDoor
/-- The statement: the row, tied to the text of the program. -/
theorem weighKept_holds : Rows.WeighKeptCardSaid :=
  Claim7.holds_tied_plain_at .later [] [.data] true (true, "eeffd6bd899e8edb0c7b9ed8e33ff2a95ce20abacf21bee988a273f730e03bab") false
    weighKept.over (fun _ h => by cases h) (by kernel_rfl) (fun _ h => by cases h) weighKept_row_tie rfl ⟨rfl, rfl⟩ (by kernel_rfl) rfl
    (fun f fn hf hfn => by
      obtain rfl : f = 8 := Option.some.inj ((show Tryz.prog.funcNamed "dendron/dendronlaw14.WeighKept" = some 8 by kernel_rfl).symm.trans hf) |>.symm
      obtain rfl : fn = Tryz.f8 := (Option.some.inj (Tryz.func8.symm.trans hfn)).symm
      exact ⟨by kernel_rfl, fun j t ht => by
        rw [Tryz.params8] at ht
        have hm : t ∈ [3] := by simpa using Array.mem_of_getElem? ht
        have hall : ([3].all fun u => !Tryz.prog.wantsStandIn u) = true := by kernel_rfl
        exact (show Tryz.prog.wantsStandIn t = false by simpa using List.all_eq_true.1 hall t hm)⟩)
    (by kernel_rfl)
end Go.Proofs.YtfibpckhbgemcaaGreatDoor
