/-
 Proves that where all features are known Value tells what Predict does of any model of up to 3 trees of up to 15 nodes and any row,whatever comes in (the statement ExpectAll,its tied card); the table of math/bits lies as the program's text lays it; no other condition.
-/
import Derived.Test.YtjmagcgobhaenaaGreatDoorRows
import Derived.Test.YtjmagcgobhaenaaGreatDoorJ5e26f16171
import Derived.Test.YtjmagcgobhaenaaGreatDoorJc5b235d9bf
import Derived.Test.YtjmagcgobhaenaaGreatDoorJadc9609297
import Derived.Test.YtjmagcgobhaenaaGreatDoorJ8b8819a7b6
import Derived.WalkKit
import Derived.ProofKit
import Derived.OpenShut
import Derived.ShutString
import Derived.ChangeOld
import Derived.Below
import Derived.Test.YtjmagcgobhaenaaGreatDoorTie
import Derived.Test.YtjmagcgobhaenaaGreatDoorCards
import Derived.LaidByTextLater
import Derived.LaidHandle
import Derived.Lib.LaidTab
import Derived.SevenTiedAt
namespace Go.Proofs.YtjmagcgobhaenaaGreatDoor.expectAll
open Go.ChangeShapes Go.WideShapes Go.ChangeAt Go.RowKit
open Go.ChangeMaps (open_string shut_string)
set_option linter.unusedVariables false
set_option linter.unusedSimpArgs false

theorem whyI_zero11 {F : Int} {k : Nat} {N : Nat → Nat} {T : Nat → Nat → Nd} {nr : Nat} (h : whyI F k N T nr = 0) : mayB F k N T = true ∧ (nr : Int) = F := by
 unfold whyI at h
 by_cases a : mayB F k N T = true
 ·rw [if_pos a] at h
  by_cases b : (nr : Int) = F
  ·exact ⟨a,b⟩
  ·rw [if_neg b] at h; omega
 ·rw [if_neg a] at h; omega
theorem say_pred {k : Nat} {N : Nat → Nat} {T : Nat → Nat → Nd} {F : Int} (hm : ∀ i,i < k → MayT F (T i) (N i)) (hF : F ≤ 64) (r : Nat → Cl) : ∀ i,i ≤ k → sumq (sayV T N r 18446744073709551615) i = sumq (leafV T N r) i
 | 0,_ => rfl
 | i + 1,h => by
  show sumq _ i + sayV T N r 18446744073709551615 i = sumq _ i + leafV T N r i
  rw [say_pred hm hF r i (by omega)]
  congr 1
  unfold sayV leafV
  exact (hm i (by omega)).say_all hF r (hm i (by omega)).pos

set_option maxRecDepth 100000 in
set_option maxHeartbeats 16000000 in
theorem walk (F : Int) (ao : Option Addr) (c k : Nat) (N : Nat → Nat) (T : Nat → Nat → Nd) (v2 : Value) (nr : Nat) (r : Nat → Cl) (w : World) (hF : I64 F) (hv : MRaw w (.slice ao k c) k N T 4) (hr : CRaw w v2 nr r 3) (ht : Tab w) :
  Calls Tryz.prog 5 #[.agg #[.int .i64 F,.slice ao k c],v2] w fun e w' => e = .returned (.bool true) ∧ Below w.heap.size w w' := by
 obtain ⟨ar,cr,rfl,hrc,hr63⟩ := hr.open
 have BB : Below w.heap.size w w := Below.refl _ _
 obtain ⟨Wb0,hW0,hS0,hL0,VM⟩ := V2.lay w 24 (.int .i64 F) (.slice ao k c)
 replace ht := ht.below hL0
 have hv1 := hv.below hL0
 have hr1 := hr.below hL0
 replace BB := BB.trans (hL0.mono BB.size)
 clear hL0
 go_enter Tryz.func5,Tryz.ntmps5
 obtain ⟨VM_0,VM_1,VM_2,VM_3⟩ := id VM
 rw [hW0] at VM_0 VM_1 VM_2 VM_3
 go_wp2_with fail
 clear VM_0 VM_1 VM_2 VM_3
 rw [← hW0]
 have hsz : w.heap.size < Wb0.heap.size := VM.lt
 clear hW0 hS0
 refine (small11_at F _ k N T _ nr r _ hv1 hr1).mono ?_
 rintro e w1 ⟨am,cm,au,cu,rfl,MO,CO,b1⟩
 replace ht := ht.below b1
 replace VM := VM.below b1
 replace BB := BB.trans (b1.mono BB.size)
 clear b1 hv1 hr1 hv hr
 obtain ⟨q1,q2,q3,q4⟩ := id VM
 have K1 : KeepQ IsLimb w1 (w1.setCell ⟨w.heap.size,0,none⟩ (.int .i64 F)) := keepL_set q1 (limb_int _) _
 have K2 := keepL_set (cell_set_by (u := .int .i64 F) (j := 0) q2 (by omega)) (limb_slice _ _ _) (.slice am (min (min k 6) 3) cm)
 have MO_n := (MO.set (a := ⟨w.heap.size,0,none⟩) hsz _ K1).set (a := ⟨w.heap.size,1,none⟩) hsz _ K2
 have CO_n := (CO.set (a := ⟨w.heap.size,0,none⟩) hsz _ K1).set (a := ⟨w.heap.size,1,none⟩) hsz _ K2
 have VM_n := VM.same (.int .i64 F) (.slice am (min (min k 6) 3) cm)
 have ht_n := (ht.keepL K1).keepL K2
 have BB_n := below_store2 (R := w.heap.size) BB (Nat.le_refl _) (.int .i64 F) (.slice am (min (min k 6) 3) cm)
 have MR_n := MO_n.row.cut11 (Nat.min_le_left (min k 6) 3)
 have CR_n := CO_n.row.mono (show 3 ≤ 4 by omega)
 have hk3 : min (min k 6) 3 ≤ 3 := Nat.min_le_right _ _
 have HNN : Hid (∀ i,(fun i => min (N i) 15) i ≤ 15) := fun i => Nat.min_le_right _ _
 have hm70 : min nr 70 ≤ 70 := Nat.min_le_right _ _
 clear K1 K2 MO CO MO_n CO_n
 generalize min (min k 6) 3 = k3 at *
 generalize (fun i => min (N i) 15) = NN at *
 generalize min nr 70 = m at *
 obtain ⟨z1,z2,z3,z4⟩ := id VM_n
 go_wp2_with fail
 clear q1 q2 q3 q4 z1 z2 z3 z4 VM ht BB hsz
 generalize (w1.setCell ⟨w.heap.size,0,none⟩ (.int .i64 F)).setCell ⟨w.heap.size,1,none⟩ (.slice am k3 cm) = W3 at *
 have VM := VM_n
 have ht := ht_n
 have BB := BB_n
 have MR := MR_n
 have CR := CR_n
 clear VM_n ht_n BB_n MR_n CR_n
 by_cases h0 : whyI F k3 NN T m = 0
 ·obtain ⟨hB,hmF⟩ := whyI_zero11 h0
  have HB : Hid (whyI (m : Int) k3 NN T m = 0) := by rw [hmF]; exact h0
  subst hmF
  have HMF := mayB_may hB
  have HMY : Hid (∀ i,i < k3 → MayT (m : Int) (T i) (NN i)) := HMF.2.2.2
  have hm64 : (m : Int) ≤ 64 := HMF.2.1
  clear hB h0 hF HMF
  have HS : Hid (qsz (sumq (leafV T NN r) k3) ≤ 31) := by
   have h1 := qsz_sumq (leafV T NN r) 4 k3 (leafV_sz MR (by omega) HMY.out r)
   show qsz _ ≤ 31
   omega
  have HEQ : Hid (sumq (sayV T NN r 18446744073709551615) k3 = sumq (leafV T NN r) k3) := say_pred HMY.out hm64 r k3 (Nat.le_refl _)
  refine (value_yes (m : Int) _ _ k3 m NN T r 18446744073709551615 4 18 _ MR CR ht (by omega) (by omega) (by omega) (by omega) HB.out (by omega) hm64 HMY.out).mono ?_
  rintro e w6 ⟨v1,rfl,hx,b6⟩
  replace ht := ht.below b6
  replace MR := MR.below b6
  replace CR := CR.below b6
  replace VM := VM.below b6
  replace BB := BB.trans (b6.mono BB.size)
  clear b6
  rw [HEQ.out] at hx
  obtain ⟨p1,a1,n1,c1,y1,m1,d1,rfl⟩ := hx.open
  have hZ31 : w.heap.size ≤ w6.heap.size := BB.size
  have hN31VM : w.heap.size ≠ w6.heap.size := Nat.ne_of_lt VM.lt
  obtain ⟨W31,hW31,hS31,hL31,VX⟩ := V3.lay w6 34 (.bool p1) (.slice a1 n1 c1) (.slice y1 m1 d1)
  replace ht := ht.below hL31
  replace MR := MR.below hL31
  replace CR := CR.below hL31
  replace hx := hx.below hL31
  replace VM := VM.below hL31
  replace BB := BB.trans (hL31.mono BB.size)
  clear hL31
  obtain ⟨VX_0,VX_1,VX_2,VX_3,VX_4,VX_5⟩ := id VX
  obtain ⟨VM_0,VM_1,VM_2,VM_3⟩ := id VM
  rw [hW31] at VX_0 VX_1 VX_2 VX_3 VX_4 VX_5 VM_0 VM_1 VM_2 VM_3
  go_wp2_with fail
  clear VX_0 VX_1 VX_2 VX_3 VX_4 VX_5 VM_0 VM_1 VM_2 VM_3
  rw [← hW31]
  generalize w6.heap.size = R31 at *
  clear hW31 hS31
  refine (rpredict_yes (m : Int) _ _ k3 m NN T r 4 _ MR CR ht (by omega) (by omega) HB.out (by omega) HMY.out (by omega)).mono ?_
  rintro e w7 ⟨v2,rfl,hy,b7⟩
  replace ht := ht.below b7
  replace MR := MR.below b7
  replace CR := CR.below b7
  replace hx := hx.below b7
  replace VM := VM.below b7
  replace VX := VX.below b7
  replace BB := BB.trans (b7.mono BB.size)
  clear b7
  obtain ⟨p2,a2,n2,c2,y2,m2,d2,rfl⟩ := hy.open
  have hZ32 : w.heap.size ≤ w7.heap.size := BB.size
  have hN32VM : w.heap.size ≠ w7.heap.size := Nat.ne_of_lt VM.lt
  have hN32VX : R31 ≠ w7.heap.size := Nat.ne_of_lt VX.lt
  obtain ⟨W32,hW32,hS32,hL32,VY⟩ := V3.lay w7 34 (.bool p2) (.slice a2 n2 c2) (.slice y2 m2 d2)
  replace ht := ht.below hL32
  replace MR := MR.below hL32
  replace CR := CR.below hL32
  replace hx := hx.below hL32
  replace hy := hy.below hL32
  replace VM := VM.below hL32
  replace VX := VX.below hL32
  replace BB := BB.trans (hL32.mono BB.size)
  clear hL32
  obtain ⟨VY_0,VY_1,VY_2,VY_3,VY_4,VY_5⟩ := id VY
  obtain ⟨VX_0,VX_1,VX_2,VX_3,VX_4,VX_5⟩ := id VX
  obtain ⟨VM_0,VM_1,VM_2,VM_3⟩ := id VM
  rw [hW32] at VY_0 VY_1 VY_2 VY_3 VY_4 VY_5 VX_0 VX_1 VX_2 VX_3 VX_4 VX_5 VM_0 VM_1 VM_2 VM_3
  go_wp2_with fail
  clear VY_0 VY_1 VY_2 VY_3 VY_4 VY_5 VX_0 VX_1 VX_2 VX_3 VX_4 VX_5 VM_0 VM_1 VM_2 VM_3
  rw [← hW32]
  generalize w7.heap.size = R32 at *
  clear hW32 hS32
  refine (qsame_at _ _ _ _ 31 _ (hx.at _ HS.out) (hy.at _ HS.out) (by omega) (by omega)).mono ?_
  rintro e w8 ⟨rfl,b8⟩
  replace ht := ht.below b8
  replace MR := MR.below b8
  replace CR := CR.below b8
  replace hx := hx.below b8
  replace hy := hy.below b8
  replace VM := VM.below b8
  replace VX := VX.below b8
  replace VY := VY.below b8
  replace BB := BB.trans (b8.mono BB.size)
  clear b8
  rw [decide_eq_true rfl]
  go_wp2_with fail
  refine (awake11_at _ ht).mono ?_
  rintro e w9 ⟨rfl,b9⟩
  replace ht := ht.below b9
  replace MR := MR.below b9
  replace CR := CR.below b9
  replace hx := hx.below b9
  replace hy := hy.below b9
  replace VM := VM.below b9
  replace VX := VX.below b9
  replace VY := VY.below b9
  replace BB := BB.trans (b9.mono BB.size)
  clear b9
  go_wp2
  go_ret
  exact ⟨rfl,BB⟩
 ·obtain ⟨e1,he1⟩ : ∃ e1,whyI F k3 NN T m = e1 := ⟨_,rfl⟩
  have HE : Hid (whyI F k3 NN T m = e1) := he1
  have HN : Hid (whyI F k3 NN T m ≠ 0) := h0
  rw [he1] at h0
  clear he1
  have g2 : (e1 != 0) = true := by simpa using h0
  have g3 : decide (e1 = 0) = false := decide_eq_false h0
  refine (value_no F _ _ k3 m NN T r 18446744073709551615 4 18 _ MR CR ht (by omega) (by omega) (by omega) (by omega) HN.out).mono ?_
  rintro e w6 ⟨rfl,b6⟩
  replace ht := ht.below b6
  replace MR := MR.below b6
  replace CR := CR.below b6
  replace VM := VM.below b6
  replace BB := BB.trans (b6.mono BB.size)
  clear b6
  rw [HE.out]
  have hZ31 : w.heap.size ≤ w6.heap.size := BB.size
  have hN31VM : w.heap.size ≠ w6.heap.size := Nat.ne_of_lt VM.lt
  obtain ⟨W31,hW31,hS31,hL31,VX⟩ := V3.lay w6 34 (.bool false) (.slice none 0 0) (.slice none 0 0)
  replace ht := ht.below hL31
  replace MR := MR.below hL31
  replace CR := CR.below hL31
  replace VM := VM.below hL31
  replace BB := BB.trans (hL31.mono BB.size)
  clear hL31
  obtain ⟨VX_0,VX_1,VX_2,VX_3,VX_4,VX_5⟩ := id VX
  obtain ⟨VM_0,VM_1,VM_2,VM_3⟩ := id VM
  rw [hW31] at VX_0 VX_1 VX_2 VX_3 VX_4 VX_5 VM_0 VM_1 VM_2 VM_3
  go_wp2_with fail
  clear VX_0 VX_1 VX_2 VX_3 VX_4 VX_5 VM_0 VM_1 VM_2 VM_3
  rw [← hW31]
  generalize w6.heap.size = R31 at *
  clear hW31 hS31
  refine (rpredict_no F _ _ k3 m NN T r 4 _ MR CR ht (by omega) (by omega) HN.out).mono ?_
  rintro e w7 ⟨rfl,b7⟩
  replace ht := ht.below b7
  replace MR := MR.below b7
  replace CR := CR.below b7
  replace VM := VM.below b7
  replace VX := VX.below b7
  replace BB := BB.trans (b7.mono BB.size)
  clear b7
  rw [HE.out]
  have hZ32 : w.heap.size ≤ w7.heap.size := BB.size
  have hN32VM : w.heap.size ≠ w7.heap.size := Nat.ne_of_lt VM.lt
  have hN32VX : R31 ≠ w7.heap.size := Nat.ne_of_lt VX.lt
  obtain ⟨W32,hW32,hS32,hL32,VY⟩ := V3.lay w7 34 (.bool false) (.slice none 0 0) (.slice none 0 0)
  replace ht := ht.below hL32
  replace MR := MR.below hL32
  replace CR := CR.below hL32
  replace VM := VM.below hL32
  replace VX := VX.below hL32
  replace BB := BB.trans (hL32.mono BB.size)
  clear hL32
  obtain ⟨VY_0,VY_1,VY_2,VY_3,VY_4,VY_5⟩ := id VY
  obtain ⟨VX_0,VX_1,VX_2,VX_3,VX_4,VX_5⟩ := id VX
  obtain ⟨VM_0,VM_1,VM_2,VM_3⟩ := id VM
  rw [hW32] at VY_0 VY_1 VY_2 VY_3 VY_4 VY_5 VX_0 VX_1 VX_2 VX_3 VX_4 VX_5 VM_0 VM_1 VM_2 VM_3
  go_wp2_with fail
  clear VY_0 VY_1 VY_2 VY_3 VY_4 VY_5 VX_0 VX_1 VX_2 VX_3 VX_4 VX_5 VM_0 VM_1 VM_2 VM_3
  rw [← hW32]
  generalize w7.heap.size = R32 at *
  clear hW32 hS32
  refine (awake11_at _ ht).mono ?_
  rintro e w8 ⟨rfl,b8⟩
  replace ht := ht.below b8
  replace MR := MR.below b8
  replace CR := CR.below b8
  replace VM := VM.below b8
  replace VX := VX.below b8
  replace VY := VY.below b8
  replace BB := BB.trans (b8.mono BB.size)
  clear b8
  go_wp2
  go_ret
  exact ⟨rfl,BB⟩
theorem own : ownKnob Tryz.prog.godebug = none := by kernel_rfl
theorem laidOut : laidOutB Tryz.prog = true := by kernel_rfl

abbrev laid1 : List (String × DataW Unit) := [("math/bits.deBruijn64tab",Rows.laid_math_bits_deBruijn64tab)]
theorem gTab : Tryz.prog.globalNamed "math/bits.deBruijn64tab" = some 0 := by kernel_rfl
theorem gTabType : (Tryz.prog.globals[0]?).map (·.type) = some 213 := by kernel_rfl
theorem uTab : Tryz.prog.underlying 213 = some (.array 64 5) := by kernel_rfl
theorem uCell : Tryz.prog.underlying 5 = some (.int .u8) := by kernel_rfl
theorem cCell : Tryz.prog.cellsOf 5 = 1 := by kernel_rfl
theorem cTab : Tryz.prog.cellsOf 213 = 64 := by kernel_rfl
/-- The listed table lies in its cells. -/
theorem tab_of {W : World} (h : laidMetH Tryz.prog laid1 W) : Tab W := by
 rw [MakeChecks.laidMetH_plain _ _ _ (by kernel_rfl)] at h
 have hd : laid1 = [("math/bits.deBruijn64tab",Lib.tabData .u8 (Lib.deBruijn64tab.map fun (n : Nat) => Int.ofNat n))] := rfl
 rw [hd] at h
 have hT := Lib.tabIs_of_head gTab gTabType uTab uCell cCell cTab h
 intro i hi
 have hc := hT.cell gTab i (by rw [List.length_map]; exact hi)
 rw [hc]
 congr 2
 rw [List.getD_eq_getElem?_getD,List.getElem?_map,List.getD_eq_getElem?_getD]
 cases Lib.deBruijn64tab[i]? <;> rfl
/-- A start for the witness: the heap that the run of the program's own initialisers leaves. -/
noncomputable def startW (os : Os) : World := { World.holding Tryz.prog os ⟨#[],#[],[]⟩ with heap := (varsWorld Tryz.prog 400 (varsId Tryz.prog) os (fun _ _ => 0)).heap }
theorem start_met (os : Os) (args : Array Value) : laidMetH Tryz.prog laid1 ((startW os).forCall (fun _ _ => 0) ⟨#[],args,[]⟩).memory :=
 laidMetH_of_parts3 (fuel := 8) (laidMet_of_run' 8 (by kernel_rfl) (by kernel_rfl)) (by kernel_rfl) (by kernel_rfl)

set_option maxRecDepth 100000 in
theorem lifted (os : Os) (started : os.Started) (H : Type) (enc : TypeId × Value → H) :
  ReturnsInHanded {} Tryz.checked os 5 .any (fun w args => (Rows.expectAllSpec.pre enc Tryz.prog Tryz.f5 [] false w args ∧ laidMetH Tryz.prog laid1 w) ∧ sizedMet enc Tryz.prog Tryz.f5 (OpenSpec.ofChange Rows.expectAllSpec) false w args) (Rows.expectAllSpec.post enc Tryz.prog Tryz.f5 false true false false) := by
 refine returnsInHanded_of_change_and (C := Tryz.checked) (X := fun w _ => laidMetH Tryz.prog laid1 w) (fun _ _ _ hh h => h.of_heap hh) own started (by kernel_rfl) Tryz.func5
  (ChangeSpec.witness_shaped (enc := enc) (C := Tryz.checked) (os := os) (X := fun w _ => laidMetH Tryz.prog laid1 w) false (startW os) #[.agg #[.int .i64 0,.slice none 0 0],.slice none 0 0] 8 rfl (World.shaped_of_RefB (by kernel_rfl) (by kernel_rfl)) (by kernel_rfl) (by kernel_rfl) (by kernel_rfl) (start_met os _)) ?_
 intro W base args ds gs before hval0 hW _ _ hL _
 have hval : ∀ (j : Nat) t v,Tryz.f5.params[j]? = some t → args[j]? = some v → Value.okWide Tryz.prog W .any base t v := hval0
 have hW' := hW
 obtain ⟨p,q,hA0,hV,rfl,hfz,hnd⟩ := hW
 have hA : DataW.TrodAll enc Tryz.prog W 0 (fun _ => true) true Tryz.f5.params.toList args.toList ds p := hA0
 rw [Tryz.params5] at hA hval
 obtain ⟨v0,vs0,d0,ds0,p0,q0,hargs,rfl,rfl,h0,r0⟩ := trodAll_cons hA
 obtain ⟨v1,vs1,d1,ds1,p1,q1,rfl,rfl,rfl,h1,r1⟩ := trodAll_cons r0
 obtain ⟨rfl,rfl,rfl⟩ := trodAll_nil r1
 obtain rfl : args = #[v0,v1] := by cases args; simp_all
 obtain ⟨rfl,rfl⟩ := trodVars_none hV
 have k0 := h0
 have lt0 : ∀ x ∈ p0,x.block < W.heap.size := by obtain ⟨m,hm⟩ := k0; exact DataW.trod_lt m _ _ _ hm
 obtain ⟨F0,a0,c0,n0,N0,z0,rfl,f0,w0⟩ := open_model 4 (hval 0 24 v0 rfl rfl) h0
 have k1 := h1
 have lt1 : ∀ x ∈ p1,x.block < W.heap.size := by obtain ⟨m,hm⟩ := k1; exact DataW.trod_lt m _ _ _ hm
 obtain ⟨n1,z1,w1⟩ := open_cells 3 (hval 1 25 v1 rfl rfl) h1
 clear hA0 hval0
 refine (walk _ _ _ _ _ _ _ _ _ W f0 w0 w1 (tab_of hL)).mono fun e W' ⟨he,bel⟩ => ?_
 subst he
 exact ⟨_,rfl,_,_,_,[],_,[],hW',trodAll_mk1 (shut_bool Tryz.underlying4 _),(trodAll_cons_mk (Below.trod laidOut (by kernel_rfl) (of_decide_eq_true (by kernel_rfl)) k0 bel lt0) (trodAll_cons_mk (Below.trod laidOut (by kernel_rfl) (of_decide_eq_true (by kernel_rfl)) k1 bel lt1) trodAll_mk0)),rfl,bel.frame _,fun h => by cases h⟩

theorem over : Rows.expectAllRow.holds Tryz.pinned (OpenSpec.ofChange Rows.expectAllSpec) :=
 OpenClaim.holds_of_wide 5 Tryz.f5 rfl rfl rfl rfl rfl rfl rfl ⟨rfl,rfl,rfl,rfl,rfl⟩ rfl rfl rfl rfl rfl (by kernel_rfl) Tryz.func5 (by kernel_rfl)
  (of_decide_eq_true (by kernel_rfl)) (by unfold Func.isWrapper; first | (rw [if_pos (by decide +kernel)]; kernel_rfl) | (rw [if_neg (by decide +kernel)]; exact ⟨rfl,rfl⟩))
  (fun os started H enc _ => lifted os started H enc)

end Go.Proofs.YtjmagcgobhaenaaGreatDoor.expectAll
namespace Go.Proofs.YtjmagcgobhaenaaGreatDoor
/-- The statement: the row, tied to the text of the program. -/
theorem expectAll_holds : Rows.ExpectAllCardSaid :=
 Claim7.holds_tied_plain_at .later [] [.data] true (true,"96e10479682fd2d0092d6d8080c64f56979f34b188a27a43367f1dfae78bc047") false
  expectAll.over (fun _ h => by cases h) (by kernel_rfl) (fun _ h => by cases h) expectAll_row_tie rfl ⟨rfl,rfl⟩ (by kernel_rfl) rfl
  (fun f fn hf hfn => by
   obtain rfl : f = 5 := Option.some.inj ((show Tryz.prog.funcNamed "dendron/dendronlaw11.ExpectAll" = some 5 by kernel_rfl).symm.trans hf) |>.symm
   obtain rfl : fn = Tryz.f5 := (Option.some.inj (Tryz.func5.symm.trans hfn)).symm
   exact ⟨by kernel_rfl,fun j t ht => by
    rw [Tryz.params5] at ht
    have hm : t ∈ [24,25] := by simpa using Array.mem_of_getElem? ht
    have hall : ([24,25].all fun u => !Tryz.prog.wantsStandIn u) = true := by kernel_rfl
    exact (show Tryz.prog.wantsStandIn t = false by simpa using List.all_eq_true.1 hall t hm)⟩)
  (by kernel_rfl)
end Go.Proofs.YtjmagcgobhaenaaGreatDoor
