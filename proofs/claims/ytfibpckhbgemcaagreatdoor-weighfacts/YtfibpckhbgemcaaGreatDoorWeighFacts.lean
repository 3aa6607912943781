/-
  Proves that Fact answers the product of all numbers up to any, or that there is none, whatever was asked ahead of it (the statement WeighFacts, its tied card); the table of math/bits lies as the program's text lays it; no other condition.
-/
import Derived.Test.YtfibpckhbgemcaaGreatDoorRows
import Derived.Test.YtfibpckhbgemcaaGreatDoorJ66aded052d
import Derived.WalkKit
import Derived.ProofKit
import Derived.OpenShut
import Derived.ShutString
import Derived.ChangeOld
import Derived.Below
import Derived.Test.YtfibpckhbgemcaaGreatDoorTie
import Derived.Test.YtfibpckhbgemcaaGreatDoorCards
import Derived.LaidByTextLater
import Derived.LaidHandle
import Derived.Lib.LaidTab
import Derived.SevenTiedAt
namespace Go.Proofs.YtfibpckhbgemcaaGreatDoor.weighFacts
open Go.ChangeShapes Go.WideShapes Go.ChangeAt Go.RowKit
open Go.ChangeMaps (open_string shut_string)
set_option linter.unusedVariables false
set_option linter.unusedSimpArgs false

theorem tfact_any (b : Nat) (m : Int) (d : Bool) (w : World) (hT : WT w b d) : Calls Tryz.prog 11 #[.pointer (some ⟨b, 0, none⟩), .int .i64 m] w fun e w' => ∃ v, e = .returned v ∧ AnyT w' b ∧ UK b w w' := by
  by_cases h : 0 ≤ m ∧ m ≤ 64
  · obtain ⟨k, rfl⟩ : ∃ k : Nat, m = (k : Int) := ⟨m.toNat, by omega⟩
    refine (tfact_at b k d w hT (by omega)).mono ?_
    rintro e w1 ⟨r, rfl, hr, ho⟩
    exact ⟨_, rfl, ⟨true, ho.tab⟩, (UK.refl hT.lt).out ho⟩
  · refine (tfact_no b m w (by omega)).mono ?_
    rintro e w1 ⟨rfl, b1⟩
    exact ⟨_, rfl, ⟨d, hT.below b1⟩, (UK.refl hT.lt).below b1⟩

set_option maxRecDepth 100000 in
set_option maxHeartbeats 16000000 in
theorem walk (n m : Int) (w : World) (wn : (Lit.int .i64 n).wf = true) (wm : (Lit.int .i64 m).wf = true) (ht : Tab w) :
    Calls Tryz.prog 3 #[.int .i64 n, .int .i64 m] w fun e w' => e = .returned (.bool true) ∧ Below w.heap.size w w' := by
  have hn2 := bounds_i64 wn
  clear wn wm
  have hnot : ∀ (x : Bool) (w : World), (Op.unary .not (.bool x)).run Tryz.prog w = .ok (.bool (!x)) w := fun _ _ => rfl
  by_cases hc : 0 ≤ n ∧ n ≤ 64
  · obtain ⟨k, rfl⟩ : ∃ k : Nat, n = (k : Int) := ⟨n.toNat, by omega⟩
    have hk : k ≤ 64 := by omega
    clear hc hn2
    have g1 : ¬ (k : Int) < 0 := by omega
    have g2 : ¬ (64 : Int) < (k : Int) := by omega
    have g5 : decide ((k : Int) < 0) = false := decide_eq_false g1
    have g6 : decide ((64 : Int) < (k : Int)) = false := decide_eq_false g2
    have BB : Below w.heap.size w w := Below.refl _ _
    go_enter Tryz.func3, Tryz.ntmps3
    go_wp2_with fail
    refine (new_at _).mono ?_
    rintro e w1 ⟨rfl, hsz, HN, b1⟩
    replace ht := ht.below b1
    replace BB := BB.trans (b1.mono BB.size)
    clear b1
    obtain ⟨b, hb⟩ : ∃ b, b = w.heap.size := ⟨_, rfl⟩
    have hbw : w.heap.size ≤ b := by omega
    rw [← hb] at HN
    have HT : WT w1 b false := HN
    rw [← hb]
    clear HN hb hsz
    go_wp2_with fail
    refine (tfact_any b m false _ HT).mono ?_
    rintro e w2 ⟨v2, rfl, ⟨d, HT2⟩, ho⟩
    replace ht := ht.keepL ho.keep
    replace BB := BB.trans (ho.low hbw BB.size)
    clear ho HT
    go_wp2_with fail
    refine (tfact_at b k d _ HT2 hk).mono ?_
    rintro e w3 ⟨r3, rfl, h3, ho⟩
    replace ht := ht.keepL ho.keep
    replace BB := BB.trans (ho.upd.below hbw BB.size)
    clear ho HT2
    obtain ⟨p3, a3, n3, c3, rfl⟩ := h3.open
    have hZ1 : w.heap.size ≤ w3.heap.size := BB.size
    obtain ⟨W1, hW1, hS1, hL1, VA⟩ := V2.lay w3 27 (.bool p3) (.slice a3 n3 c3)
    replace ht := ht.below hL1
    replace h3 := h3.below hL1
    replace BB := BB.trans (hL1.mono BB.size)
    clear hL1
    obtain ⟨VA_0, VA_1, VA_2, VA_3⟩ := id VA
    rw [hW1] at VA_0 VA_1 VA_2 VA_3
    go_wp2_with fail
    clear VA_0 VA_1 VA_2 VA_3
    rw [← hW1]
    generalize w3.heap.size = R1 at *
    clear hW1 hS1
    refine (wright_rep _ _ _ h3).mono ?_
    rintro e w4 ⟨rfl, b4⟩
    replace ht := ht.below b4
    replace h3 := h3.below b4
    replace VA := VA.below b4
    replace BB := BB.trans (b4.mono BB.size)
    clear b4
    obtain ⟨VA_0, VA_1, VA_2, VA_3⟩ := id VA
    go_wp2_with fail
    clear VA_0 VA_1 VA_2 VA_3
    refine (qint_at _ _ 10 _ (h3.at 10 (fact_nl hk))).mono ?_
    rintro e w5 ⟨r5, rfl, h5, b5⟩
    replace ht := ht.below b5
    replace h3 := h3.below b5
    replace VA := VA.below b5
    replace BB := BB.trans (b5.mono BB.size)
    clear b5
    rw [Rat.intCast_natCast] at h5
    go_wp2_with fail
    refine (lfact_at k _ hk ht).mono ?_
    rintro e w6 ⟨r6, rfl, h6, b6⟩
    replace ht := ht.below b6
    replace h3 := h3.below b6
    replace h5 := h5.below b6
    replace VA := VA.below b6
    replace BB := BB.trans (b6.mono BB.size)
    clear b6
    go_wp2_with fail
    refine (qsame_at _ _ _ _ 10 _ (h5.at 10 (fctR_sz hk)) (h6.at 10 (fctR_sz hk)) (by omega) (by omega)).mono ?_
    rintro e w7 ⟨rfl, b7⟩
    replace ht := ht.below b7
    replace h3 := h3.below b7
    replace h5 := h5.below b7
    replace h6 := h6.below b7
    replace VA := VA.below b7
    replace BB := BB.trans (b7.mono BB.size)
    clear b7
    rw [decide_eq_true rfl]
    go_wp2_with fail
    refine (awake14_at _ ht).mono ?_
    rintro e w8 ⟨rfl, b8⟩
    replace ht := ht.below b8
    replace h3 := h3.below b8
    replace h5 := h5.below b8
    replace h6 := h6.below b8
    replace VA := VA.below b8
    replace BB := BB.trans (b8.mono BB.size)
    clear b8
    go_wp2
    go_ret
    exact ⟨rfl, BB⟩
  · by_cases hA : n < 0
    · have HC : Hid (n < 0 ∨ 64 < n) := by show _ ∨ _; omega
      have g1 : n < 0 := hA
      have q1 : decide (n < 0) = true := decide_eq_true g1
      clear hA hc hn2
      have BB : Below w.heap.size w w := Below.refl _ _
      go_enter Tryz.func3, Tryz.ntmps3
      go_wp2_with fail
      refine (new_at _).mono ?_
      rintro e w1 ⟨rfl, hsz, HN, b1⟩
      replace ht := ht.below b1
      replace BB := BB.trans (b1.mono BB.size)
      clear b1
      obtain ⟨b, hb⟩ : ∃ b, b = w.heap.size := ⟨_, rfl⟩
      have hbw : w.heap.size ≤ b := by omega
      rw [← hb] at HN
      have HT : WT w1 b false := HN
      rw [← hb]
      clear HN hb hsz
      go_wp2_with fail
      refine (tfact_any b m false _ HT).mono ?_
      rintro e w2 ⟨v2, rfl, ⟨d, HT2⟩, ho⟩
      replace ht := ht.keepL ho.keep
      replace BB := BB.trans (ho.low hbw BB.size)
      clear ho HT
      go_wp2_with fail
      refine (tfact_no b n _ HC.out).mono ?_
      rintro e w3 ⟨rfl, b3⟩
      replace ht := ht.below b3
      replace BB := BB.trans (b3.mono BB.size)
      clear b3 HT2
      have hZ1 : w.heap.size ≤ w3.heap.size := BB.size
      obtain ⟨W1, hW1, hS1, hL1, VA⟩ := V2.lay w3 27 (.bool false) (.slice none 0 0)
      replace ht := ht.below hL1
      replace BB := BB.trans (hL1.mono BB.size)
      clear hL1
      obtain ⟨VA_0, VA_1, VA_2, VA_3⟩ := id VA
      rw [hW1] at VA_0 VA_1 VA_2 VA_3
      go_wp2_with fail
      clear VA_0 VA_1 VA_2 VA_3
      rw [← hW1]
      generalize w3.heap.size = R1 at *
      clear hW1 hS1
      refine (awake14_at _ ht).mono ?_
      rintro e w4 ⟨rfl, b4⟩
      replace ht := ht.below b4
      replace VA := VA.below b4
      replace BB := BB.trans (b4.mono BB.size)
      clear b4
      go_wp2
      go_ret
      exact ⟨rfl, BB⟩
    · have HC : Hid (n < 0 ∨ 64 < n) := by show _ ∨ _; omega
      have g1 : ¬ n < 0 := hA
      have g2 : 64 < n := by omega
      have q1 : decide (n < 0) = false := decide_eq_false g1
      have q2 : decide (64 < n) = true := decide_eq_true g2
      clear hA hc hn2
      have BB : Below w.heap.size w w := Below.refl _ _
      go_enter Tryz.func3, Tryz.ntmps3
      go_wp2_with fail
      refine (new_at _).mono ?_
      rintro e w1 ⟨rfl, hsz, HN, b1⟩
      replace ht := ht.below b1
      replace BB := BB.trans (b1.mono BB.size)
      clear b1
      obtain ⟨b, hb⟩ : ∃ b, b = w.heap.size := ⟨_, rfl⟩
      have hbw : w.heap.size ≤ b := by omega
      rw [← hb] at HN
      have HT : WT w1 b false := HN
      rw [← hb]
      clear HN hb hsz
      go_wp2_with fail
      refine (tfact_any b m false _ HT).mono ?_
      rintro e w2 ⟨v2, rfl, ⟨d, HT2⟩, ho⟩
      replace ht := ht.keepL ho.keep
      replace BB := BB.trans (ho.low hbw BB.size)
      clear ho HT
      go_wp2_with fail
      refine (tfact_no b n _ HC.out).mono ?_
      rintro e w3 ⟨rfl, b3⟩
      replace ht := ht.below b3
      replace BB := BB.trans (b3.mono BB.size)
      clear b3 HT2
      have hZ1 : w.heap.size ≤ w3.heap.size := BB.size
      obtain ⟨W1, hW1, hS1, hL1, VA⟩ := V2.lay w3 27 (.bool false) (.slice none 0 0)
      replace ht := ht.below hL1
      replace BB := BB.trans (hL1.mono BB.size)
      clear hL1
      obtain ⟨VA_0, VA_1, VA_2, VA_3⟩ := id VA
      rw [hW1] at VA_0 VA_1 VA_2 VA_3
      go_wp2_with fail
      clear VA_0 VA_1 VA_2 VA_3
      rw [← hW1]
      generalize w3.heap.size = R1 at *
      clear hW1 hS1
      refine (awake14_at _ ht).mono ?_
      rintro e w4 ⟨rfl, b4⟩
      replace ht := ht.below b4
      replace VA := VA.below b4
      replace BB := BB.trans (b4.mono BB.size)
      clear b4
      go_wp2
      go_ret
      exact ⟨rfl, BB⟩
theorem own : ownKnob Tryz.prog.godebug = none := by kernel_rfl

abbrev laid1 : List (String × DataW Unit) := [("math/bits.deBruijn64tab", Rows.laid_math_bits_deBruijn64tab)]
theorem gTab : Tryz.prog.globalNamed "math/bits.deBruijn64tab" = some 0 := by kernel_rfl
theorem gTabType : (Tryz.prog.globals[0]?).map (·.type) = some 129 := by kernel_rfl
theorem uTab : Tryz.prog.underlying 129 = some (.array 64 5) := by kernel_rfl
theorem uCell : Tryz.prog.underlying 5 = some (.int .u8) := by kernel_rfl
theorem cCell : Tryz.prog.cellsOf 5 = 1 := by kernel_rfl
theorem cTab : Tryz.prog.cellsOf 129 = 64 := by kernel_rfl
/-- The listed table lies in its cells. -/
theorem tab_of {W : World} (h : laidMetH Tryz.prog laid1 W) : Tab W := by
  rw [MakeChecks.laidMetH_plain _ _ _ (by kernel_rfl)] at h
  have hd : laid1 = [("math/bits.deBruijn64tab", Lib.tabData .u8 (Lib.deBruijn64tab.map fun (n : Nat) => Int.ofNat n))] := rfl
  rw [hd] at h
  have hT := Lib.tabIs_of_head gTab gTabType uTab uCell cCell cTab h
  intro i hi
  have hc := hT.cell gTab i (by rw [List.length_map]; exact hi)
  rw [hc]
  congr 2
  rw [List.getD_eq_getElem?_getD, List.getElem?_map, List.getD_eq_getElem?_getD]
  cases Lib.deBruijn64tab[i]? <;> rfl
/-- A start for the witness: the heap that the run of the program's own initialisers leaves. -/
noncomputable def startW (os : Os) : World := { World.holding Tryz.prog os ⟨#[], #[], []⟩ with heap := (varsWorld Tryz.prog 400 (varsId Tryz.prog) os (fun _ _ => 0)).heap }
theorem start_met (os : Os) (args : Array Value) : laidMetH Tryz.prog laid1 ((startW os).forCall (fun _ _ => 0) ⟨#[], args, []⟩).memory :=
  laidMetH_of_parts3 (fuel := 8) (laidMet_of_run' 8 (by kernel_rfl) (by kernel_rfl)) (by kernel_rfl) (by kernel_rfl)

set_option maxRecDepth 100000 in
theorem lifted (os : Os) (started : os.Started) (H : Type) (enc : TypeId × Value → H) :
    ReturnsInHanded {} Tryz.checked os 3 .any (fun w args => (Rows.weighFactsSpec.pre enc Tryz.prog Tryz.f3 [] false w args ∧ laidMetH Tryz.prog laid1 w) ∧ sizedMet enc Tryz.prog Tryz.f3 (OpenSpec.ofChange Rows.weighFactsSpec) false w args) (Rows.weighFactsSpec.post enc Tryz.prog Tryz.f3 false true false false) := by
  refine returnsInHanded_of_change_and (C := Tryz.checked) (X := fun w _ => laidMetH Tryz.prog laid1 w) (fun _ _ _ hh h => h.of_heap hh) own started (by kernel_rfl) Tryz.func3
    (ChangeSpec.witness_shaped (enc := enc) (C := Tryz.checked) (os := os) (X := fun w _ => laidMetH Tryz.prog laid1 w) false (startW os) #[.int .i64 0, .int .i64 0] 8 rfl (World.shaped_of_RefB (by kernel_rfl) (by kernel_rfl)) (by kernel_rfl) (by kernel_rfl) (by kernel_rfl) (start_met os _)) ?_
  intro W base args ds gs before hval0 hW _ _ hL _
  have hval : ∀ (j : Nat) t v, Tryz.f3.params[j]? = some t → args[j]? = some v → Value.okWide Tryz.prog W .any base t v := hval0
  have hW' := hW
  obtain ⟨p, q, hA0, hV, rfl, hfz, hnd⟩ := hW
  have hA : DataW.TrodAll enc Tryz.prog W 0 (fun _ => true) true Tryz.f3.params.toList args.toList ds p := hA0
  rw [Tryz.params3] at hA hval
  obtain ⟨v0, vs0, d0, ds0, p0, q0, hargs, rfl, rfl, h0, r0⟩ := trodAll_cons hA
  obtain ⟨v1, vs1, d1, ds1, p1, q1, rfl, rfl, rfl, h1, r1⟩ := trodAll_cons r0
  obtain ⟨rfl, rfl, rfl⟩ := trodAll_nil r1
  obtain rfl : args = #[v0, v1] := by cases args; simp_all
  obtain ⟨rfl, rfl⟩ := trodVars_none hV
  obtain ⟨a0, rfl, rfl, rfl, w0⟩ := open_int Tryz.underlying3 (hval 0 3 v0 rfl rfl) h0
  obtain ⟨a1, rfl, rfl, rfl, w1⟩ := open_int Tryz.underlying3 (hval 1 3 v1 rfl rfl) h1
  clear hA0 hval0
  refine (walk a0 a1 W w0 w1 (tab_of hL)).mono fun e W' ⟨he, bel⟩ => ?_
  subst he
  exact ⟨_, rfl, _, _, _, [], _, [], hW', trodAll_mk1 (shut_bool Tryz.underlying4 _), (trodAll_cons_mk (shut_int Tryz.underlying3 w0) (trodAll_cons_mk (shut_int Tryz.underlying3 w1) trodAll_mk0)), rfl, bel.frame _, fun h => by cases h⟩

theorem over : Rows.weighFactsRow.holds Tryz.pinned (OpenSpec.ofChange Rows.weighFactsSpec) :=
  OpenClaim.holds_of_wide 3 Tryz.f3 rfl rfl rfl rfl rfl rfl rfl ⟨rfl, rfl, rfl, rfl, rfl⟩ rfl rfl rfl rfl rfl (by kernel_rfl) Tryz.func3 (by kernel_rfl)
    (of_decide_eq_true (by kernel_rfl)) (by unfold Func.isWrapper; first | (rw [if_pos (by decide +kernel)]; kernel_rfl) | (rw [if_neg (by decide +kernel)]; exact ⟨rfl, rfl⟩))
    (fun os started H enc _ => lifted os started H enc)

end Go.Proofs.YtfibpckhbgemcaaGreatDoor.weighFacts
namespace Go.Proofs.YtfibpckhbgemcaaGreatDoor
/-- The statement: the row, tied to the text of the program. -/
theorem weighFacts_holds : Rows.WeighFactsCardSaid :=
  Claim7.holds_tied_plain_at .later [] [.data] true (true, "eeffd6bd899e8edb0c7b9ed8e33ff2a95ce20abacf21bee988a273f730e03bab") false
    weighFacts.over (fun _ h => by cases h) (by kernel_rfl) (fun _ h => by cases h) weighFacts_row_tie rfl ⟨rfl, rfl⟩ (by kernel_rfl) rfl
    (fun f fn hf hfn => by
      obtain rfl : f = 3 := Option.some.inj ((show Tryz.prog.funcNamed "dendron/dendronlaw14.WeighFacts" = some 3 by kernel_rfl).symm.trans hf) |>.symm
      obtain rfl : fn = Tryz.f3 := (Option.some.inj (Tryz.func3.symm.trans hfn)).symm
      exact ⟨by kernel_rfl, fun j t ht => by
        rw [Tryz.params3] at ht
        have hm : t ∈ [3, 3] := by simpa using Array.mem_of_getElem? ht
        have hall : ([3, 3].all fun u => !Tryz.prog.wantsStandIn u) = true := by kernel_rfl
        exact (show Tryz.prog.wantsStandIn t = false by simpa using List.all_eq_true.1 hall t hm)⟩)
    (by kernel_rfl)
end Go.Proofs.YtfibpckhbgemcaaGreatDoor
