/-
  Proves that quotient times divisor, and the rest, is the polynomial, the rest being of a lower degree, or that there is none, for any two polynomials of up to 7 coefficients of up to 2 limbs, whatever comes in (the statement PolyDivides, its tied card); the table of math/bits lies as the program's text lays it; no other condition.
-/
import Derived.Test.YtnidadaofgmplaaGreatDoorRows
import Derived.Test.YtnidadaofgmplaaGreatDoorJba5311b7fd
import Derived.WalkKit
import Derived.ProofKit
import Derived.OpenShut
import Derived.ShutString
import Derived.ChangeOld
import Derived.Below
import Derived.Test.YtnidadaofgmplaaGreatDoorTie
import Derived.Test.YtnidadaofgmplaaGreatDoorCards
import Derived.LaidByTextLater
import Derived.LaidHandle
import Derived.Lib.LaidTab
import Derived.SevenTiedAt
namespace Go.Proofs.YtnidadaofgmplaaGreatDoor.polyDivides
open Go.ChangeShapes Go.WideShapes Go.ChangeAt Go.RowKit
open Go.ChangeMaps (open_string shut_string)
set_option linter.unusedVariables false
set_option linter.unusedSimpArgs false

def KLIST : Nat := 2
theorem mul_len_le (n : Nat) (q : Nat → Rat) (m : Nat) (r : Nat → Rat) (h : n + m ≤ 100) : MulLen n q m r ≤ 100 := by
  have l1 := trimN_le q n
  have l2 := trimN_le r m
  unfold MulLen
  split
  · omega
  · exact Nat.le_trans (trimN_le _ _) (by omega)
theorem sum_co (a : Nat) (f : Nat → Rat) (b : Nat) (g : Nat → Rat) (n : Nat) (q : Nat → Rat) (h : ∀ i, co a f i + co b g i = co n q i) (i : Nat) : co (max a b) (fun i => co a f i + co b g i) i = co n q i := by
  rw [← h i]
  by_cases hi : i < max a b
  · show (if i < max a b then co a f i + co b g i else 0) = _
    rw [if_pos hi]
  · show (if i < max a b then co a f i + co b g i else 0) = _
    rw [if_neg hi, co_beyond a f i (by omega), co_beyond b g i (by omega)]; grind

set_option maxRecDepth 100000 in
set_option maxHeartbeats 16000000 in
theorem walk (v1 : Value) (n1 : Nat) (q1 : Nat → Rat) (v2 : Value) (n2 : Nat) (q2 : Nat → Rat) (w : World) (h1 : RawQ w v1 n1 q1 KLIST) (h2 : RawQ w v2 n2 q2 KLIST) (ht : Tab w) :
    Calls Tryz.prog 5 #[v1, v2] w fun e w' => e = .returned (.bool true) ∧ Below w.heap.size w w' := by
  unfold KLIST at h1 h2
  have BB : Below w.heap.size w w := Below.refl _ _
  go_enter Tryz.func5, Tryz.ntmps5
  go_wp2_with fail
  refine (few4_at _ n1 7 q1 _ h1 (by omega)).mono ?_
  rintro e w1 ⟨ra, rfl, QAo, b1⟩
  replace h1 := h1.below b1
  replace h2 := h2.below b1
  replace ht := ht.below b1
  replace BB := BB.trans (b1.mono BB.size)
  clear b1
  have QA := QAo.row
  clear QAo
  go_wp2_with fail
  refine (few4_at _ n2 7 q2 _ h2 (by omega)).mono ?_
  rintro e w2 ⟨rb, rfl, QBo, b2⟩
  replace h1 := h1.below b2
  replace h2 := h2.below b2
  replace ht := ht.below b2
  replace QA := QA.below b2
  replace BB := BB.trans (b2.mono BB.size)
  clear b2
  have QB := QBo.row
  clear QBo
  clear h1 h2
  obtain ⟨n, hn⟩ : ∃ n, n = min n1 7 := ⟨_, rfl⟩
  rw [← hn] at QA
  have hn8 : n ≤ 7 := by omega
  obtain ⟨m, hm⟩ : ∃ m, m = min n2 7 := ⟨_, rfl⟩
  rw [← hm] at QB
  have hm8 : m ≤ 7 := by omega
  clear hn hm
  obtain ⟨aa, ca, rfl, _, _, _⟩ := QA.open
  obtain ⟨ab, cb, rfl, _, _, _⟩ := QB.open
  obtain ⟨la, hla⟩ : ∃ la, trimN q1 n = la := ⟨_, rfl⟩
  obtain ⟨lb, hlb⟩ : ∃ lb, trimN q2 m = lb := ⟨_, rfl⟩
  have la7 : la ≤ 7 := by rw [← hla]; exact Nat.le_trans (trimN_le _ _) hn8
  have lb7 : lb ≤ 7 := by rw [← hlb]; exact Nat.le_trans (trimN_le _ _) hm8
  have sA : ∀ i, i < n → qsz (q1 i) ≤ 2 := fun i hi => QA.sz (by omega) i hi
  have sB : ∀ i, i < m → qsz (q2 i) ≤ 2 := fun i hi => QB.sz (by omega) i hi
  have lan : la ≤ n := by rw [← hla]; exact trimN_le _ _
  have lbm : lb ≤ m := by rw [← hlb]; exact trimN_le _ _
  have HLA : Hid (trimN q1 n = la) := hla
  have HLB : Hid (trimN q2 m = lb) := hlb
  clear hla hlb
  go_wp2_with fail
  by_cases h0 : lb = 0
  · refine (pdivmod_none _ _ n m la lb q1 q2 2 _ QA QB ht (by omega) (by omega) (by omega) (by omega) HLA.out HLB.out h0).mono ?_
    rintro e w3 ⟨rfl, b3⟩
    replace ht := ht.below b3
    replace QA := QA.below b3
    replace QB := QB.below b3
    replace BB := BB.trans (b3.mono BB.size)
    clear b3
    go_wp2_with fail
    refine (pdegree_at _ m q2 2 _ QB (by omega) (by omega) (by omega)).mono ?_
    rintro e w4 ⟨rfl, b4⟩
    replace ht := ht.below b4
    replace QA := QA.below b4
    replace QB := QB.below b4
    replace BB := BB.trans (b4.mono BB.size)
    clear b4
    rw [HLB.out, h0]
    go_wp2_with fail
    refine (awake4_at _ ht).mono ?_
    rintro e w5 ⟨rfl, b5⟩
    replace ht := ht.below b5
    replace QA := QA.below b5
    replace QB := QB.below b5
    replace BB := BB.trans (b5.mono BB.size)
    clear b5
    go_wp2
    go_ret
    exact ⟨rfl, BB⟩
  · have htop : q2 (lb - 1) ≠ 0 := by have := trimN_top q2 m; rw [HLB.out] at this; exact this (by omega)
    have hSS : szS 2 (la - (lb - 1)) ≤ 40000 := Nat.le_trans (szS_mono 2 _ 7 (by omega)) (by decide)
    have hds := div_sz q2 (lb - 1) 2 htop (fun i hi => sB i (by omega)) (la - (lb - 1)) 2 q1
    have hT7 : szT 2 (la - (lb - 1)) 2 ≤ 1000 := Nat.le_trans (szT_mono 2 _ 7 2 (by omega)) (by decide)
    have sQ : ∀ i, i < la - (lb - 1) → qsz ((divQ q2 (lb - 1) (la - (lb - 1)) q1) i) ≤ 1000 := fun i hi => Nat.le_trans ((hds (fun j hj => sA j (by omega))).1 i hi) hT7
    have sR : ∀ i, i < min la (lb - 1) → qsz ((divR q2 (lb - 1) (la - (lb - 1)) q1) i) ≤ 1000 := by
      intro i hi
      by_cases hk : la - (lb - 1) = 0
      · rw [hk]; exact Nat.le_trans (sA i (by omega)) (by omega)
      · exact Nat.le_trans ((hds (fun j hj => sA j (by omega))).2 i (by omega)) hT7
    have HDC : Hid (∀ i, co (MulLen (trimN (divQ q2 (lb - 1) (la - (lb - 1)) q1) (la - (lb - 1))) (divQ q2 (lb - 1) (la - (lb - 1)) q1) m q2) (conv (trimN (divQ q2 (lb - 1) (la - (lb - 1)) q1) (la - (lb - 1))) (divQ q2 (lb - 1) (la - (lb - 1)) q1) m q2) i + co (trimN (divR q2 (lb - 1) (la - (lb - 1)) q1) (min la (lb - 1))) (divR q2 (lb - 1) (la - (lb - 1)) q1) i = co n q1 i) := div_co q1 q2 n m la lb HLA.out HLB.out (by omega) htop
    clear hds
    refine (pdivmod_some _ _ n m la lb q1 q2 2 _ QA QB ht (by omega) (by omega) (by omega) (by omega) HLA.out HLB.out (by omega) (by omega) (fun i hi => sA i (by omega)) (fun i hi => sB i (by omega)) (by omega) htop hSS).mono ?_
    rintro e w3 ⟨x, y, rfl, FQ, FR, b3⟩
    replace ht := ht.below b3
    replace QA := QA.below b3
    replace QB := QB.below b3
    replace BB := BB.trans (b3.mono BB.size)
    clear b3
    have tQ := trimN_le (divQ q2 (lb - 1) (la - (lb - 1)) q1) (la - (lb - 1))
    have tR := trimN_le (divR q2 (lb - 1) (la - (lb - 1)) q1) (min la (lb - 1))
    have pQ := trimN_top (divQ q2 (lb - 1) (la - (lb - 1)) q1) (la - (lb - 1))
    have pR := trimN_top (divR q2 (lb - 1) (la - (lb - 1)) q1) (min la (lb - 1))
    generalize (divQ q2 (lb - 1) (la - (lb - 1)) q1) = QQ at *
    generalize (divR q2 (lb - 1) (la - (lb - 1)) q1) = RR at *
    generalize trimN QQ (la - (lb - 1)) = nQ at *
    generalize trimN RR (min la (lb - 1)) = nR at *
    obtain ⟨aq, cq, rfl⟩ := FQ.1.open
    obtain ⟨ar, cr, rfl⟩ := FR.1.open
    have HPQ : Hid (0 < nQ → QQ (nQ - 1) ≠ 0) := pQ
    have HPR : Hid (0 < nR → RR (nR - 1) ≠ 0) := pR
    clear pQ pR htop hSS hT7
    go_wp2_with fail
    refine (pdegree_at _ m q2 2 _ QB (by omega) (by omega) (by omega)).mono ?_
    rintro e w4 ⟨rfl, b4⟩
    replace ht := ht.below b4
    replace QA := QA.below b4
    replace QB := QB.below b4
    replace FQ := FQ.below b4
    replace FR := FR.below b4
    replace BB := BB.trans (b4.mono BB.size)
    clear b4
    rw [HLB.out]
    have g1 : ¬ ((lb : Int) - 1 < 0) := by omega
    have g1b : decide ((lb : Int) - 1 < 0) = false := decide_eq_false g1
    go_wp2_with fail
    refine (right4_at _ nQ QQ _ FQ.1 (fun i hi => Nat.le_trans (sQ i (by omega)) (by omega)) ht (by omega) HPQ.out).mono ?_
    rintro e w5 ⟨rfl, b5⟩
    replace ht := ht.below b5
    replace QA := QA.below b5
    replace QB := QB.below b5
    replace FQ := FQ.below b5
    replace FR := FR.below b5
    replace BB := BB.trans (b5.mono BB.size)
    clear b5
    go_wp2_with fail
    refine (right4_at _ nR RR _ FR.1 (fun i hi => Nat.le_trans (sR i (by omega)) (by omega)) ht (by omega) HPR.out).mono ?_
    rintro e w6 ⟨rfl, b6⟩
    replace ht := ht.below b6
    replace QA := QA.below b6
    replace QB := QB.below b6
    replace FQ := FQ.below b6
    replace FR := FR.below b6
    replace BB := BB.trans (b6.mono BB.size)
    clear b6
    go_wp2_with fail
    refine (pdegree_at _ nR RR 1000 _ (FR.1.q 1000 (fun i hi => sR i (by omega))) (by omega) (by omega) (by omega)).mono ?_
    rintro e w7 ⟨rfl, b7⟩
    replace ht := ht.below b7
    replace QA := QA.below b7
    replace QB := QB.below b7
    replace FQ := FQ.below b7
    replace FR := FR.below b7
    replace BB := BB.trans (b7.mono BB.size)
    clear b7
    have tRR := trimN_le RR nR
    generalize trimN RR nR = nR2 at *
    go_wp2_with fail
    refine (pdegree_at _ m q2 2 _ QB (by omega) (by omega) (by omega)).mono ?_
    rintro e w8 ⟨rfl, b8⟩
    replace ht := ht.below b8
    replace QA := QA.below b8
    replace QB := QB.below b8
    replace FQ := FQ.below b8
    replace FR := FR.below b8
    replace BB := BB.trans (b8.mono BB.size)
    clear b8
    rw [HLB.out]
    have g2 : (nR2 : Int) - 1 < (lb : Int) - 1 := by omega
    go_wp2_with fail
    refine (pmul_at _ _ nQ m QQ q2 1000 _ (FQ.1.q 1000 (fun i hi => sQ i (by omega))) (QB.le (by omega)) ht (by omega) (by omega) (by omega) (Nat.le_trans (Nat.succ_le_succ (Nat.mul_le_mul_right _ (show nQ + m ≤ 14 by omega))) (by omega)) (by omega)).mono ?_
    rintro e w9 ⟨xm, rfl, FM, b9⟩
    replace ht := ht.below b9
    replace QA := QA.below b9
    replace QB := QB.below b9
    replace FQ := FQ.below b9
    replace FR := FR.below b9
    replace BB := BB.trans (b9.mono BB.size)
    clear b9
    have sM : ∀ i, qsz (conv nQ QQ m q2 i) ≤ 30000 := by
      intro i
      by_cases hi : i < nQ + m
      · exact Nat.le_trans (conv_sz (L := 1000) (fun i hi => sQ i (by omega)) (fun i hi => Nat.le_trans (sB i hi) (by omega)) (by omega) i) (Nat.le_trans (Nat.succ_le_succ (Nat.mul_le_mul_right _ (show i + 1 ≤ 14 by omega))) (by omega))
      · rw [conv_far _ _ _ _ _ (by omega)]; exact Nat.le_trans (show qsz 0 ≤ 1 by decide +kernel) (by omega)
    have lM : MulLen nQ QQ m q2 ≤ 100 := mul_len_le nQ QQ m q2 (by omega)
    generalize MulLen nQ QQ m q2 = lM_ at *
    generalize conv nQ QQ m q2 = CC at *
    go_wp2_with fail
    refine (padd_at _ _ lM_ nR CC RR 30000 _ (FM.1.q 30000 (fun i _ => sM i)) (FR.1.q 30000 (fun i hi => Nat.le_trans (sR i (by omega)) (by omega))) ht (by omega) (by omega) (by omega) (by omega)).mono ?_
    rintro e w10 ⟨xa, rfl, FA, b10⟩
    replace ht := ht.below b10
    replace QA := QA.below b10
    replace QB := QB.below b10
    replace FQ := FQ.below b10
    replace FR := FR.below b10
    replace FM := FM.below b10
    replace BB := BB.trans (b10.mono BB.size)
    clear b10
    have tA2 := trimN_le (fun i => co lM_ CC i + co nR RR i) (max lM_ nR)
    go_wp2_with fail
    refine (psame_at _ _ _ n (fun i => co lM_ CC i + co nR RR i) q1 70000 _ (FA.1.q 70000 (fun i _ => Nat.le_trans (qsz_add _ _ (co_sz (L := 30000) (fun i _ => sM i) (by omega) i) (co_sz (L := 30000) (fun i hi => Nat.le_trans (sR i (by omega)) (by omega)) (by omega) i)) (by omega))) (QA.le (by omega)) (by omega) (by omega) (by omega) (by omega)).mono ?_
    rintro e w11 ⟨rfl, b11⟩
    replace ht := ht.below b11
    replace QA := QA.below b11
    replace QB := QB.below b11
    replace FQ := FQ.below b11
    replace FR := FR.below b11
    replace FM := FM.below b11
    replace FA := FA.below b11
    replace BB := BB.trans (b11.mono BB.size)
    clear b11
    rw [same_co (K := 200) (by omega) (by omega), decide_eq_true (fun i _ => by rw [co_trim]; exact sum_co lM_ CC nR RR n q1 HDC.out i)]
    go_wp2_with fail
    refine (awake4_at _ ht).mono ?_
    rintro e w12 ⟨rfl, b12⟩
    replace ht := ht.below b12
    replace QA := QA.below b12
    replace QB := QB.below b12
    replace FQ := FQ.below b12
    replace FR := FR.below b12
    replace FM := FM.below b12
    replace FA := FA.below b12
    replace BB := BB.trans (b12.mono BB.size)
    clear b12
    go_wp2
    go_ret
    exact ⟨rfl, BB⟩

theorem own : ownKnob Tryz.prog.godebug = none := by kernel_rfl
theorem laidOut : laidOutB Tryz.prog = true := by kernel_rfl

abbrev laid1 : List (String × DataW Unit) := [("math/bits.deBruijn64tab", Rows.laid_math_bits_deBruijn64tab)]
theorem gTab : Tryz.prog.globalNamed "math/bits.deBruijn64tab" = some 0 := by kernel_rfl
theorem gTabType : (Tryz.prog.globals[0]?).map (·.type) = some 135 := by kernel_rfl
theorem uTab : Tryz.prog.underlying 135 = some (.array 64 5) := by kernel_rfl
theorem uCell : Tryz.prog.underlying 5 = some (.int .u8) := by kernel_rfl
theorem cCell : Tryz.prog.cellsOf 5 = 1 := by kernel_rfl
theorem cTab : Tryz.prog.cellsOf 135 = 64 := by kernel_rfl
/-- The listed table lies in its cells. -/
theorem tab_of {W : World} (h : laidMetH Tryz.prog laid1 W) : Tab W := by
  rw [MakeChecks.laidMetH_plain _ _ _ (by kernel_rfl)] at h
  have hd : laid1 = [("math/bits.deBruijn64tab", Lib.tabData .u8 (Lib.deBruijn64tab.map fun (n : Nat) => Int.ofNat n))] := rfl
  rw [hd] at h
  have hT := Lib.tabIs_of_head gTab gTabType uTab uCell cCell cTab h
  intro i hi
  have hc := hT.cell gTab i (by rw [List.length_map]; exact hi)
  rw [hc]
  congr 2
  rw [List.getD_eq_getElem?_getD, List.getElem?_map, List.getD_eq_getElem?_getD]
  cases Lib.deBruijn64tab[i]? <;> rfl
/-- A start for the witness: the heap that the run of the program's own initialisers leaves. -/
noncomputable def startW (os : Os) : World := { World.holding Tryz.prog os ⟨#[], #[], []⟩ with heap := (varsWorld Tryz.prog 400 (varsId Tryz.prog) os (fun _ _ => 0)).heap }
theorem start_met (os : Os) (args : Array Value) : laidMetH Tryz.prog laid1 ((startW os).forCall (fun _ _ => 0) ⟨#[], args, []⟩).memory :=
  laidMetH_of_parts3 (fuel := 8) (laidMet_of_run' 8 (by kernel_rfl) (by kernel_rfl)) (by kernel_rfl) (by kernel_rfl)

set_option maxRecDepth 100000 in
theorem lifted (os : Os) (started : os.Started) (H : Type) (enc : TypeId × Value → H) :
    ReturnsInHanded {} Tryz.checked os 5 .any (fun w args => (Rows.polyDividesSpec.pre enc Tryz.prog Tryz.f5 [] false w args ∧ laidMetH Tryz.prog laid1 w) ∧ sizedMet enc Tryz.prog Tryz.f5 (OpenSpec.ofChange Rows.polyDividesSpec) false w args) (Rows.polyDividesSpec.post enc Tryz.prog Tryz.f5 false true false false) := by
  refine returnsInHanded_of_change_and (C := Tryz.checked) (X := fun w _ => laidMetH Tryz.prog laid1 w) (fun _ _ _ hh h => h.of_heap hh) own started (by kernel_rfl) Tryz.func5
    (ChangeSpec.witness_shaped (enc := enc) (C := Tryz.checked) (os := os) (X := fun w _ => laidMetH Tryz.prog laid1 w) false (startW os) #[.slice none 0 0, .slice none 0 0] 8 rfl (World.shaped_of_RefB (by kernel_rfl) (by kernel_rfl)) (by kernel_rfl) (by kernel_rfl) (by kernel_rfl) (start_met os _)) ?_
  intro W base args ds gs before hval0 hW _ _ hL _
  have hval : ∀ (j : Nat) t v, Tryz.f5.params[j]? = some t → args[j]? = some v → Value.okWide Tryz.prog W .any base t v := hval0
  have hW' := hW
  obtain ⟨p, q, hA0, hV, rfl, hfz, hnd⟩ := hW
  have hA : DataW.TrodAll enc Tryz.prog W 0 (fun _ => true) true Tryz.f5.params.toList args.toList ds p := hA0
  rw [Tryz.params5] at hA hval
  obtain ⟨v0, vs0, d0, ds0, p0, q0, hargs, rfl, rfl, h0, r0⟩ := trodAll_cons hA
  obtain ⟨v1, vs1, d1, ds1, p1, q1, rfl, rfl, rfl, h1, r1⟩ := trodAll_cons r0
  obtain ⟨rfl, rfl, rfl⟩ := trodAll_nil r1
  obtain rfl : args = #[v0, v1] := by cases args; simp_all
  obtain ⟨rfl, rfl⟩ := trodVars_none hV
  have k0 := h0
  have lt0 : ∀ x ∈ p0, x.block < W.heap.size := by obtain ⟨m, hm⟩ := k0; exact DataW.trod_lt m _ _ _ hm
  obtain ⟨n0, z0, w0⟩ := open_wrats KLIST (hval 0 22 v0 rfl rfl) h0
  have k1 := h1
  have lt1 : ∀ x ∈ p1, x.block < W.heap.size := by obtain ⟨m, hm⟩ := k1; exact DataW.trod_lt m _ _ _ hm
  obtain ⟨n1, z1, w1⟩ := open_wrats KLIST (hval 1 22 v1 rfl rfl) h1
  clear hA0 hval0
  refine (walk _ _ _ _ _ _ W w0 w1 (tab_of hL)).mono fun e W' ⟨he, bel⟩ => ?_
  subst he
  exact ⟨_, rfl, _, _, _, [], _, [], hW', trodAll_mk1 (shut_bool Tryz.underlying4 _), (trodAll_cons_mk (Below.trod laidOut (by kernel_rfl) (of_decide_eq_true (by kernel_rfl)) k0 bel lt0) (trodAll_cons_mk (Below.trod laidOut (by kernel_rfl) (of_decide_eq_true (by kernel_rfl)) k1 bel lt1) trodAll_mk0)), rfl, bel.frame _, fun h => by cases h⟩

theorem over : Rows.polyDividesRow.holds Tryz.pinned (OpenSpec.ofChange Rows.polyDividesSpec) :=
  OpenClaim.holds_of_wide 5 Tryz.f5 rfl rfl rfl rfl rfl rfl rfl ⟨rfl, rfl, rfl, rfl, rfl⟩ rfl rfl rfl rfl rfl (by kernel_rfl) Tryz.func5 (by kernel_rfl)
    (of_decide_eq_true (by kernel_rfl)) (by unfold Func.isWrapper; first | (rw [if_pos (by decide +kernel)]; kernel_rfl) | (rw [if_neg (by decide +kernel)]; exact ⟨rfl, rfl⟩))
    (fun os started H enc _ => lifted os started H enc)

end Go.Proofs.YtnidadaofgmplaaGreatDoor.polyDivides
namespace Go.Proofs.YtnidadaofgmplaaGreatDoor
/-- The statement: the row, tied to the text of the program. -/
theorem polyDivides_holds : Rows.PolyDividesCardSaid :=
  Claim7.holds_tied_plain_at .later [] [.data] true (true, "0cfe95d4fadc5bca50ac3cff0bd48b6ce193538a916b09b42f72aaaec3f612ed") false
    polyDivides.over (fun _ h => by cases h) (by kernel_rfl) (fun _ h => by cases h) polyDivides_row_tie rfl ⟨rfl, rfl⟩ (by kernel_rfl) rfl
    (fun f fn hf hfn => by
      obtain rfl : f = 5 := Option.some.inj ((show Tryz.prog.funcNamed "dendron/dendronlaw04.PolyDivides" = some 5 by kernel_rfl).symm.trans hf) |>.symm
      obtain rfl : fn = Tryz.f5 := (Option.some.inj (Tryz.func5.symm.trans hfn)).symm
      exact ⟨by kernel_rfl, fun j t ht => by
        rw [Tryz.params5] at ht
        have hm : t ∈ [22, 22] := by simpa using Array.mem_of_getElem? ht
        have hall : ([22, 22].all fun u => !Tryz.prog.wantsStandIn u) = true := by kernel_rfl
        exact (show Tryz.prog.wantsStandIn t = false by simpa using List.all_eq_true.1 hall t hm)⟩)
    (by kernel_rfl)
end Go.Proofs.YtnidadaofgmplaaGreatDoor
