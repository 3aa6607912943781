/-
 Proves that Print answers any number's text,of up to 8 limbs above and below,as the document's own Text does,that Parse reads the number again,and that Texts answers the texts (the statement RatioTexts,its tied card); the table of math/bits lies as the program's text lays it; no other condition.
-/
import Derived.Test.YthlogenaienkhaaGreatDoorRows
import Derived.Test.YthlogenaienkhaaGreatDoorJ05dc961424
import Derived.Test.YthlogenaienkhaaGreatDoorJ243f4161ad
import Derived.WalkKit
import Derived.ProofKit
import Derived.OpenShut
import Derived.ShutString
import Derived.ChangeOld
import Derived.Below
import Derived.Test.YthlogenaienkhaaGreatDoorTie
import Derived.Test.YthlogenaienkhaaGreatDoorCards
import Derived.LaidByTextLater
import Derived.LaidHandle
import Derived.Lib.LaidTab
import Derived.SevenTiedAt
namespace Go.Proofs.YthlogenaienkhaaGreatDoor.ratioTexts
open Go.ChangeShapes Go.WideShapes Go.ChangeAt Go.RowKit
open Go.ChangeMaps (open_string shut_string)
set_option linter.unusedVariables false
set_option linter.unusedSimpArgs false

set_option linter.unusedSimpArgs false
/-- Two cells of a block. -/
def V2c (w : World) (B : Nat) (x y : Value) : Prop := w.cell? ⟨B,0,none⟩ = some x ∧ w.cell? ⟨B,1,none⟩ = some y
theorem V2c.below {w w' : World} {B : Nat} {x y : Value} (h : V2c w B x y) (hb : Below w.heap.size w w') : V2c w' B x y :=
 ⟨(hb.cell (World.block_lt_of_cell? _ _ h.1)).trans h.1,(hb.cell (World.block_lt_of_cell? _ _ h.2)).trans h.2⟩
theorem lay_two (w : World) (t : TypeId) (a b c x y z : Value) : ∃ W,W = w.alloc (.cells #[a,b,c,x,y,z] t) ∧ W.heap.size = w.heap.size + 1 ∧ Below w.heap.size w W ∧ E3 W w.heap.size 0 a b c ∧ E3 W w.heap.size 3 x y z := by
 refine ⟨_,rfl,by simp,(Below.refl _ _).alloc (Nat.le_refl _) _,⟨?_,?_,?_⟩,⟨?_,?_,?_⟩⟩ <;> simp
theorem row_two {w : World} {B : Nat} {p x : Bool} {ao bo : Option Addr} {n c m d : Nat} {yo zo : Option Addr} {yn yc zn zc : Nat} {q : Rat} {L : Nat} (h1 : E3 w B 0 (.bool p) (.slice ao n c) (.slice bo m d)) (h2 : E3 w B 3 (.bool x) (.slice yo yn yc) (.slice zo zn zc))
  (r1 : RatAt w (.agg #[.bool p,.slice ao n c,.slice bo m d]) q L) (r2 : RatAt w (.agg #[.bool x,.slice yo yn yc,.slice zo zn zc]) q L) : QRow w (.slice (some ⟨B,0,none⟩) 2 2) 2 (fun _ => q) L := by
 refine ⟨fun i j => if i = 0 then (if j = 0 then .bool p else if j = 1 then .slice ao n c else .slice bo m d) else (if j = 0 then .bool x else if j = 1 then .slice yo yn yc else .slice zo zn zc),⟨_,_,rfl,by omega,by omega,fun _ => ⟨B,0,rfl,fun i hi j hj => ?_⟩⟩,fun i hi => ?_⟩
 ·rcases (show i = 0 ∨ i = 1 by omega) with rfl | rfl
  ·rcases (show j = 0 ∨ j = 1 ∨ j = 2 by omega) with rfl | rfl | rfl
   ·exact h1.1
   ·exact h1.2.1
   ·exact h1.2.2
  ·rcases (show j = 0 ∨ j = 1 ∨ j = 2 by omega) with rfl | rfl | rfl
   ·exact h2.1
   ·exact h2.2.1
   ·exact h2.2.2
 ·rcases (show i = 0 ∨ i = 1 by omega) with rfl | rfl
  ·exact r1
  ·exact r2
set_option maxRecDepth 100000 in
set_option maxHeartbeats 16000000 in
theorem walk (p : Bool) (ao0 : Option Addr) (n0 c0 : Nat) (bo0 : Option Addr) (m0 d0 : Nat) (f g : Nat → Int) (w : World) (ha1 : Raw w (.slice ao0 n0 c0) n0 f) (ha2 : Raw w (.slice bo0 m0 d0) m0 g) (ht : Tab w) :
  Calls Tryz.prog 5 #[.agg #[.bool p,.slice ao0 n0 c0,.slice bo0 m0 d0]] w fun e w' => e = .returned (.bool true) ∧ Below w.heap.size w w' := by
 have BB : Below w.heap.size w w := Below.refl _ _
 obtain ⟨Wb0,hW0,hS0,hL0,VA⟩ := V3.lay w 35 (.bool p) (.slice ao0 n0 c0) (.slice bo0 m0 d0)
 replace ha1 := ha1.below hL0
 replace ha2 := ha2.below hL0
 replace ht := ht.below hL0
 replace BB := BB.trans (hL0.mono BB.size)
 clear hL0
 go_enter Tryz.func5,Tryz.ntmps5
 go_wp2_with fail
 rw [← hW0]
 clear hW0 hS0
 refine (few_at _ _ _ _ _ _ _ _ ha1 ha2).mono ?_
 rintro e w1 ⟨ao,c,bo,d,rfl,u1,u2,u3,u4,b1⟩
 replace ha1 := ha1.below b1
 replace ha2 := ha2.below b1
 replace ht := ht.below b1
 replace VA := VA.below b1
 replace BB := BB.trans (b1.mono BB.size)
 clear b1
 have k1 : min n0 8 ≤ 8 := Nat.min_le_right _ _
 have k2 : min m0 8 ≤ 8 := Nat.min_le_right _ _
 generalize min n0 8 = n at *
 generalize min m0 8 = m at *
 clear ha1 ha2
 have hKp := VA.keepJ (.bool p) (.slice ao n c) (.slice bo m d)
 have VA_n := VA.same (.bool p) (.slice ao n c) (.slice bo m d)
 have ht_n := ht.keep hKp
 have u1_n := u1.keep hKp
 have u3_n := u3.keep hKp
 have BB_n := below_store3 (R := w.heap.size) BB (by omega) (.bool p) (.slice ao n c) (.slice bo m d)
 clear hKp
 obtain ⟨VA_0,VA_1,VA_2,VA_3,VA_4,VA_5⟩ := id VA
 go_wp2_with fail
 clear VA_0 VA_1 VA_2 VA_3 VA_4 VA_5
 clear BB ht u1 u3 VA
 generalize ((w1.setCell ⟨w.heap.size,0,none⟩ (.bool p)).setCell ⟨w.heap.size,1,none⟩ (.slice ao n c)).setCell ⟨w.heap.size,2,none⟩ (.slice bo m d) = W1 at *
 have BB := BB_n
 have ht := ht_n
 have u1 := u1_n
 have u3 := u3_n
 have VA := VA_n
 clear BB_n ht_n u1_n u3_n VA_n
 have Ix : RatAt W1 _ _ 8 := RatAt.raw (p := p) u1 u2 u3 u4 k1 k2
 clear u1 u3
 generalize mkRat (zof p (num f n)) (num g m) = q at *
 have sq := Ix.qsz (by omega)
 have hts := qtxt_size q 8 sq
 have HPP : Hid (ppOf (pdig (qtxt q)) = (0,q.num.natAbs,q.den)) := qtxt_pp q
 have HV : Hid (qval (qtxt q) = q) := qtxt_val q
 have HD : Hid (q.den ≠ 0) := q.den_nz
 refine (jfrom_at _ q 8 _ Ix (by omega) (by omega)).mono ?_
 rintro e w2 ⟨vx,rfl,Jx,b2⟩
 replace ht := ht.below b2
 replace Ix := Ix.below b2
 replace VA := VA.below b2
 replace BB := BB.trans (b2.mono BB.size)
 clear b2
 obtain ⟨px,ax,nx,cx,bx,mx,dx,rfl⟩ := Jx.open
 have hZ2 : w.heap.size ≤ w2.heap.size := BB.size
 have hN2VA : w.heap.size ≠ w2.heap.size := Nat.ne_of_lt VA.lt
 obtain ⟨W2,hW2,hS2,hL2,VX⟩ := V3.lay w2 28 (.bool px) (.slice ax nx cx) (.slice bx mx dx)
 replace ht := ht.below hL2
 replace Ix := Ix.below hL2
 replace Jx := Jx.below hL2
 replace VA := VA.below hL2
 replace BB := BB.trans (hL2.mono BB.size)
 clear hL2
 obtain ⟨VA_0,VA_1,VA_2,VA_3,VA_4,VA_5⟩ := id VA
 rw [hW2] at VA_0 VA_1 VA_2 VA_3 VA_4 VA_5
 go_wp2_with fail
 clear VA_0 VA_1 VA_2 VA_3 VA_4 VA_5
 rw [← hW2]
 generalize w2.heap.size = R2 at *
 clear hW2 hS2
 refine (qprint_at _ q 8 _ Ix (by omega) (by omega) ht).mono ?_
 rintro e w3 ⟨rfl,b3⟩
 replace ht := ht.below b3
 replace Ix := Ix.below b3
 replace Jx := Jx.below b3
 replace VA := VA.below b3
 replace VX := VX.below b3
 replace BB := BB.trans (b3.mono BB.size)
 clear b3
 go_wp2_with fail
 refine (qparse_yes (qtxt q) _ (by omega) ht (by rw [HPP.out]) (by rw [HPP.out]; exact HD.out)).mono ?_
 rintro e w4 ⟨vb,rfl,Hb,b4⟩
 replace ht := ht.below b4
 replace Ix := Ix.below b4
 replace Jx := Jx.below b4
 replace VA := VA.below b4
 replace VX := VX.below b4
 replace BB := BB.trans (b4.mono BB.size)
 clear b4
 rw [HV.out] at Hb
 obtain ⟨pb,ab,nb,cb,bb,mb,db,rfl⟩ := Hb.open
 have hZa : w.heap.size ≤ w4.heap.size := BB.size
 have hNVA : w.heap.size ≠ w4.heap.size := Nat.ne_of_lt VA.lt
 have hNVX : R2 ≠ w4.heap.size := Nat.ne_of_lt VX.lt
 obtain ⟨Wb,hWb,hSb,hLb,VB⟩ := V3.lay w4 35 (.bool pb) (.slice ab nb cb) (.slice bb mb db)
 replace ht := ht.below hLb
 replace Ix := Ix.below hLb
 replace Jx := Jx.below hLb
 replace Hb := Hb.below hLb
 replace VA := VA.below hLb
 replace VX := VX.below hLb
 replace BB := BB.trans (hLb.mono BB.size)
 clear hLb
 obtain ⟨y1,y2,y3,y4,y5,y6⟩ := id VA
 rw [hWb] at y1 y2 y3 y4 y5 y6
 obtain ⟨Wl,hWl,hSl,hLl,E0,E1⟩ := lay_two Wb 35 (.bool p) (.slice ao n c) (.slice bo m d) (.bool pb) (.slice ab nb cb) (.slice bb mb db)
 replace ht := ht.below hLl
 replace Ix := Ix.below hLl
 replace Jx := Jx.below hLl
 replace Hb := Hb.below hLl
 replace VA := VA.below hLl
 replace VX := VX.below hLl
 replace VB := VB.below hLl
 replace BB := BB.trans (hLl.mono BB.size)
 clear hLl
 have Q2 : QRow Wl (.slice (some ⟨Wb.heap.size,0,none⟩) 2 2) 2 (fun _ => q) 8 := row_two E0 E1 Ix (Hb.at 8 sq)
 rw [hSb] at Q2
 go_wp2_with fail
 rw [← hWb,← hWl]
 clear hWb hWl hSb hSl y1 y2 y3 y4 y5 y6 E0 E1
 generalize w4.heap.size = R9 at *
 refine (texts_two _ (fun _ => q) 8 _ Q2 (by omega) (by omega) ht).mono ?_
 rintro e w5 ⟨B,rfl,t0,t1,b5⟩
 replace ht := ht.below b5
 replace Ix := Ix.below b5
 replace Jx := Jx.below b5
 replace Hb := Hb.below b5
 replace Q2 := Q2.below b5
 replace VA := VA.below b5
 replace VX := VX.below b5
 replace VB := VB.below b5
 replace BB := BB.trans (b5.mono BB.size)
 clear b5
 have T : V2c w5 B (.string (qtxt q)) (.string (qtxt q)) := ⟨t0,t1⟩
 clear t0 t1
 clear Q2
 obtain ⟨VX_0,VX_1,VX_2,VX_3,VX_4,VX_5⟩ := id VX
 go_wp2_with fail
 clear VX_0 VX_1 VX_2 VX_3 VX_4 VX_5
 refine (jtext_at _ q 8 _ Jx (by omega) (by omega)).mono ?_
 rintro e w6 ⟨rfl,b6⟩
 replace ht := ht.below b6
 replace Ix := Ix.below b6
 replace Jx := Jx.below b6
 replace Hb := Hb.below b6
 replace T := T.below b6
 replace VA := VA.below b6
 replace VX := VX.below b6
 replace VB := VB.below b6
 replace BB := BB.trans (b6.mono BB.size)
 clear b6
 obtain ⟨VB_0,VB_1,VB_2,VB_3,VB_4,VB_5⟩ := id VB
 obtain ⟨VX_0,VX_1,VX_2,VX_3,VX_4,VX_5⟩ := id VX
 go_wp2_with fail
 clear VB_0 VB_1 VB_2 VB_3 VB_4 VB_5 VX_0 VX_1 VX_2 VX_3 VX_4 VX_5
 refine (jis_at _ _ q 8 8 _ Hb sq Jx (by omega)).mono ?_
 rintro e w7 ⟨rfl,b7⟩
 replace ht := ht.below b7
 replace Ix := Ix.below b7
 replace Jx := Jx.below b7
 replace Hb := Hb.below b7
 replace T := T.below b7
 replace VA := VA.below b7
 replace VX := VX.below b7
 replace VB := VB.below b7
 replace BB := BB.trans (b7.mono BB.size)
 clear b7
 obtain ⟨t0,t1⟩ := id T
 generalize qtxt q = tx at *
 go_wp2_with fail
 clear t0 t1
 refine (qawake_at _ ht).mono ?_
 rintro e w8 ⟨rfl,b8⟩
 replace ht := ht.below b8
 replace Ix := Ix.below b8
 replace Jx := Jx.below b8
 replace Hb := Hb.below b8
 replace T := T.below b8
 replace VA := VA.below b8
 replace VX := VX.below b8
 replace VB := VB.below b8
 replace BB := BB.trans (b8.mono BB.size)
 clear b8
 go_wp2
 go_ret
 exact ⟨rfl,BB⟩

theorem own : ownKnob Tryz.prog.godebug = none := by kernel_rfl
theorem laidOut : laidOutB Tryz.prog = true := by kernel_rfl

abbrev laid1 : List (String × DataW Unit) := [("math/bits.deBruijn64tab",Rows.laid_math_bits_deBruijn64tab)]
theorem gTab : Tryz.prog.globalNamed "math/bits.deBruijn64tab" = some 1 := by kernel_rfl
theorem gTabType : (Tryz.prog.globals[1]?).map (·.type) = some 199 := by kernel_rfl
theorem uTab : Tryz.prog.underlying 199 = some (.array 64 5) := by kernel_rfl
theorem uCell : Tryz.prog.underlying 5 = some (.int .u8) := by kernel_rfl
theorem cCell : Tryz.prog.cellsOf 5 = 1 := by kernel_rfl
theorem cTab : Tryz.prog.cellsOf 199 = 64 := by kernel_rfl
/-- The listed table lies in its cells. -/
theorem tab_of {W : World} (h : laidMetH Tryz.prog laid1 W) : Tab W := by
 rw [MakeChecks.laidMetH_plain _ _ _ (by kernel_rfl)] at h
 have hd : laid1 = [("math/bits.deBruijn64tab",Lib.tabData .u8 (Lib.deBruijn64tab.map fun (n : Nat) => Int.ofNat n))] := rfl
 rw [hd] at h
 have hT := Lib.tabIs_of_head gTab gTabType uTab uCell cCell cTab h
 intro i hi
 have hc := hT.cell gTab i (by rw [List.length_map]; exact hi)
 rw [hc]
 congr 2
 rw [List.getD_eq_getElem?_getD,List.getElem?_map,List.getD_eq_getElem?_getD]
 cases Lib.deBruijn64tab[i]? <;> rfl
/-- A start for the witness: the heap that the run of the program's own initialisers leaves. -/
noncomputable def startW (os : Os) : World := { World.holding Tryz.prog os ⟨#[],#[],[]⟩ with heap := (varsWorld Tryz.prog 400 (varsId Tryz.prog) os (fun _ _ => 0)).heap }
theorem start_met (os : Os) (args : Array Value) : laidMetH Tryz.prog laid1 ((startW os).forCall (fun _ _ => 0) ⟨#[],args,[]⟩).memory :=
 laidMetH_of_parts3 (fuel := 8) (laidMet_of_run' 8 (by kernel_rfl) (by kernel_rfl)) (by kernel_rfl) (by kernel_rfl)

set_option maxRecDepth 100000 in
theorem lifted (os : Os) (started : os.Started) (H : Type) (enc : TypeId × Value → H) :
  ReturnsInHanded {} Tryz.checked os 5 .any (fun w args => (Rows.ratioTextsSpec.pre enc Tryz.prog Tryz.f5 [] false w args ∧ laidMetH Tryz.prog laid1 w) ∧ sizedMet enc Tryz.prog Tryz.f5 (OpenSpec.ofChange Rows.ratioTextsSpec) false w args) (Rows.ratioTextsSpec.post enc Tryz.prog Tryz.f5 false true false false) := by
 refine returnsInHanded_of_change_and (C := Tryz.checked) (X := fun w _ => laidMetH Tryz.prog laid1 w) (fun _ _ _ hh h => h.of_heap hh) own started (by kernel_rfl) Tryz.func5
  (ChangeSpec.witness_shaped (enc := enc) (C := Tryz.checked) (os := os) (X := fun w _ => laidMetH Tryz.prog laid1 w) false (startW os) #[.agg #[.bool false,.slice none 0 0,.slice none 0 0]] 8 rfl (World.shaped_of_RefB (by kernel_rfl) (by kernel_rfl)) (by kernel_rfl) (by kernel_rfl) (by kernel_rfl) (start_met os _)) ?_
 intro W base args ds gs before hval0 hW _ _ hL _
 have hval : ∀ (j : Nat) t v,Tryz.f5.params[j]? = some t → args[j]? = some v → Value.okWide Tryz.prog W .any base t v := hval0
 have hW' := hW
 obtain ⟨p,q,hA0,hV,rfl,hfz,hnd⟩ := hW
 have hA : DataW.TrodAll enc Tryz.prog W 0 (fun _ => true) true Tryz.f5.params.toList args.toList ds p := hA0
 rw [Tryz.params5] at hA hval
 obtain ⟨v0,vs0,d0,ds0,p0,q0,hargs,rfl,rfl,h0,r0⟩ := trodAll_cons hA
 obtain ⟨rfl,rfl,rfl⟩ := trodAll_nil r0
 obtain rfl : args = #[v0] := by cases args; simp_all
 obtain ⟨rfl,rfl⟩ := trodVars_none hV
 have k0 := h0
 have lt0 : ∀ x ∈ p0,x.block < W.heap.size := by obtain ⟨m,hm⟩ := k0; exact DataW.trod_lt m _ _ _ hm
 obtain ⟨neg0,ao0,n0,c0,bo0,m0,d0,f0,g0,rfl,w0,x0⟩ := open_wrat (hval 0 35 v0 rfl rfl) h0
 clear hA0 hval0
 refine (walk _ _ _ _ _ _ _ _ _ W w0 x0 (tab_of hL)).mono fun e W' ⟨he,bel⟩ => ?_
 subst he
 exact ⟨_,rfl,_,_,_,[],_,[],hW',trodAll_mk1 (shut_bool Tryz.underlying4 _),(trodAll_cons_mk (Below.trod laidOut (by kernel_rfl) (of_decide_eq_true (by kernel_rfl)) k0 bel lt0) trodAll_mk0),rfl,bel.frame _,fun h => by cases h⟩

theorem over : Rows.ratioTextsRow.holds Tryz.pinned (OpenSpec.ofChange Rows.ratioTextsSpec) :=
 OpenClaim.holds_of_wide 5 Tryz.f5 rfl rfl rfl rfl rfl rfl rfl ⟨rfl,rfl,rfl,rfl,rfl⟩ rfl rfl rfl rfl rfl (by kernel_rfl) Tryz.func5 (by kernel_rfl)
  (of_decide_eq_true (by kernel_rfl)) (by unfold Func.isWrapper; first | (rw [if_pos (by decide +kernel)]; kernel_rfl) | (rw [if_neg (by decide +kernel)]; exact ⟨rfl,rfl⟩))
  (fun os started H enc _ => lifted os started H enc)

end Go.Proofs.YthlogenaienkhaaGreatDoor.ratioTexts
namespace Go.Proofs.YthlogenaienkhaaGreatDoor
/-- The statement: the row, tied to the text of the program. -/
theorem ratioTexts_holds : Rows.RatioTextsCardSaid :=
 Claim7.holds_tied_plain_at .later [] [.data] true (true,"3380e13b50b7f32269091fe29852d4a9c6381b7d7ac34cf65ee07c32c1b30c36") false
  ratioTexts.over (fun _ h => by cases h) (by kernel_rfl) (fun _ h => by cases h) ratioTexts_row_tie rfl ⟨rfl,rfl⟩ (by kernel_rfl) rfl
  (fun f fn hf hfn => by
   obtain rfl : f = 5 := Option.some.inj ((show Tryz.prog.funcNamed "dendron/dendronlaw03.RatioTexts" = some 5 by kernel_rfl).symm.trans hf) |>.symm
   obtain rfl : fn = Tryz.f5 := (Option.some.inj (Tryz.func5.symm.trans hfn)).symm
   exact ⟨by kernel_rfl,fun j t ht => by
    rw [Tryz.params5] at ht
    have hm : t ∈ [35] := by simpa using Array.mem_of_getElem? ht
    have hall : ([35].all fun u => !Tryz.prog.wantsStandIn u) = true := by kernel_rfl
    exact (show Tryz.prog.wantsStandIn t = false by simpa using List.all_eq_true.1 hall t hm)⟩)
  (by kernel_rfl)
end Go.Proofs.YthlogenaienkhaaGreatDoor
