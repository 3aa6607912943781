/-
 Proves that Legs tells the legs of the leaves of any tree of up to 15 nodes for any row,or why nothing,whatever comes in (the statement ExpectLegs,its tied card); the table of math/bits lies as the program's text lays it; no other condition.
-/
import Derived.Test.YtbbliiafkjipbaaGreatDoorJe1b848227b
import Derived.Test.YtbbliiafkjipbaaGreatDoorRows
import Derived.Test.YtbbliiafkjipbaaGreatDoorJ66107f4890
import Derived.Test.YtbbliiafkjipbaaGreatDoorJc12909aee1
import Derived.Test.YtbbliiafkjipbaaGreatDoorJ9df0c3dc1a
import Derived.Test.YtbbliiafkjipbaaGreatDoorJd9abae9e33
import Derived.Test.YtbbliiafkjipbaaGreatDoorJ9f33519356
import Derived.WalkKit
import Derived.ProofKit
import Derived.OpenShut
import Derived.ShutString
import Derived.ChangeOld
import Derived.Below
import Derived.Test.YtbbliiafkjipbaaGreatDoorTie
import Derived.Test.YtbbliiafkjipbaaGreatDoorCards
import Derived.LaidByTextLater
import Derived.LaidHandle
import Derived.Lib.LaidTab
import Derived.SevenTiedAt
namespace Go.Proofs.YtbbliiafkjipbaaGreatDoor.expectLegs
open Go.ChangeShapes Go.WideShapes Go.ChangeAt Go.RowKit
open Go.ChangeMaps (open_string shut_string)
set_option linter.unusedVariables false
set_option linter.unusedSimpArgs false

theorem field_model11 (w : World) (x y : Value) : Sem.run Tryz.prog (Instr.field 27 (.agg #[x,y]) 1) w = .ok y w := by kernel_rfl
/-- A list of whole numbers lies in memory. -/
structure ZC11 (w : World) (g : Nat) (zs : List Nat) : Prop where
 cell : ∀ j x : Nat,zs[j]? = some x → w.cell? ⟨g,j,none⟩ = some (.int .i64 (x : Int))
theorem ZC11.below {w w' : World} {g : Nat} {zs : List Nat} (h : ZC11 w g zs) (hb : Below w.heap.size w w') : ZC11 w' g zs := ⟨fun j x hj => (hb.cell (p := ⟨g,j,none⟩) (World.block_lt_of_cell? _ _ (h.cell j x hj))).trans (h.cell j x hj)⟩

set_option maxRecDepth 100000 in
set_option maxHeartbeats 16000000 in
theorem walk (v : Value) (n : Nat) (t : Nat → Nd) (v2 : Value) (nr : Nat) (r : Nat → Cl) (w : World) (hv : TRaw w v n t 4) (hr : CRaw w v2 nr r 3) (ht : Tab w) :
  Calls Tryz.prog 3 #[v,v2] w fun e w' => e = .returned (.bool true) ∧ Below w.heap.size w w' := by
 obtain ⟨ao,c,rfl,hnc,hc63⟩ := hv.open
 have BB : Below w.heap.size w w := Below.refl _ _
 go_enter Tryz.func3,Tryz.ntmps3
 go_wp2_with fail
 refine (few9_at _ nr 6 r _ hr (by omega)).mono ?_
 rintro e w0 ⟨vr,rfl,CO,b0⟩
 have hv0 := hv.below b0
 replace ht := ht.below b0
 replace BB := BB.xm b0
 clear b0 hv hr
 have CR0 := CO.row.mono (show 3 ≤ 4 by omega)
 clear CO
 have hm6 : min nr 6 ≤ 6 := Nat.min_le_right _ _
 generalize min nr 6 = m at *
 obtain ⟨ar,cr,rfl,hrc,hr63⟩ := CR0.open
 have M1 := one_raw hv0 22
 have hA : Below w0.heap.size w0 (w0.alloc (.cells #[.slice ao n c] 22)) := (Below.refl _ _).alloc (Nat.le_refl _) _
 replace ht := ht.below hA
 replace CR0 := CR0.below hA
 replace BB := BB.xm hA
 go_wp2_with fail
 refine (few7_at 0 _ 1 (fun _ => n) (fun _ => t) _ M1).mono ?_
 rintro e w1 ⟨r1,rfl,MO,b1⟩
 replace ht := ht.below b1
 have CR := CR0.below b1
 replace BB := BB.xm b1
 clear b1 CR0 hv0
 obtain ⟨a1,c1,rfl⟩ := MO.form
 clear M1 hA
 have MR := MO.row
 clear MO
 have hnn15 : min n 15 ≤ 15 := Nat.min_le_right _ _
 generalize hnn : min n 15 = nn at MR hnn15
 clear hnn
 have MR : MRow w1 (.slice a1 1 c1) 1 (fun _ => nn) (fun _ => t) 4 := MR
 obtain ⟨bT,oT,cT,aT,dT,hvv,hcc,XT,TR⟩ := MR.at (i := 0) (by omega)
 cases hvv
 rw [Nat.add_zero] at XT
 clear MR
 (try rw [show min 1 6 = 1 by omega])
 have hfd := field_model11 w1 (.int .i64 0) (.slice (some ⟨bT,oT,none⟩) 1 c1)
 go_wp2_with fail
 clear XT hfd
 obtain ⟨B,hB⟩ : ∃ B,mayB (m : Int) 1 (fun _ => nn) (fun _ => t) = B := ⟨_,rfl⟩
 have HB : Hid (mayB (m : Int) 1 (fun _ => nn) (fun _ => t) = B) := hB
 clear hB
 cases B
 ·refine (legs_no _ _ nn m t r 4 _ TR CR ht (by omega) (by omega) HB.out).mono ?_
  rintro e w6 ⟨rfl,b6⟩
  replace ht := ht.below b6
  replace TR := TR.below b6
  replace CR := CR.below b6
  replace BB := BB.xm b6
  clear b6
  go_wp2_with fail
  refine (tree_may (m : Int) _ nn t 4 _ TR ht (by omega) (by omega)).mono ?_
  rintro e w7 ⟨rfl,b7⟩
  replace ht := ht.below b7
  replace TR := TR.below b7
  replace CR := CR.below b7
  replace BB := BB.xm b7
  clear b7
  rw [HB.out]
  go_wp2_with fail
  refine (awake11_at _ ht).mono ?_
  rintro e w8 ⟨rfl,b8⟩
  replace ht := ht.below b8
  replace TR := TR.below b8
  replace CR := CR.below b8
  replace BB := BB.xm b8
  clear b8
  go_wp2
  go_ret
  exact ⟨rfl,BB⟩
 ·have HM : Hid (MayT (m : Int) t nn) := (mayB_may HB.out).2.2.2 0 (by omega)
  have HSZ : Hid (∀ j,j < nn → qsz (t j).val ≤ 4 ∧ qsz (t j).cov ≤ 4) := fun j hj => TR.sz11 (by omega) hj
  have HZ : Hid (∀ x z,x < nn → z < nn → qsz ((t x).cov / (t z).cov) ≤ 8) := fun x z hx hz => qsz_div _ _ (HSZ.out x hx).2 (HSZ.out z hz).2
  refine (legs_yes _ _ nn m t r 4 _ TR CR ht (by omega) (by omega) 8 128 HZ.out (by omega) (by omega) (by omega) (by omega) HB.out).mono ?_
  rintro e w6 ⟨g,mm,rfl,hgB,hmm,LI,b6⟩
  replace ht := ht.below b6
  replace TR := TR.below b6
  replace CR := CR.below b6
  replace BB := BB.xm b6
  have HMM : Hid (mm = (lvs t nn 0).length) := hmm
  clear b6 hgB hmm
  obtain ⟨B5,hB5⟩ : ∃ B5,B5 = w1.heap.size := ⟨_,rfl⟩
  rw [← hB5] at LI
  clear hB5
  go_wp2_with fail
  refine (tree_may (m : Int) _ nn t 4 _ TR ht (by omega) (by omega)).mono ?_
  rintro e w7 ⟨rfl,b7⟩
  replace ht := ht.below b7
  replace TR := TR.below b7
  replace CR := CR.below b7
  replace LI := LI.below b7
  replace BB := BB.xm b7
  clear b7
  rw [HB.out]
  go_wp2_with fail
  refine (lleaves_at (m : Int) _ nn 0 t 4 _ HM.out (HM.out.pos) TR).mono ?_
  rintro e w8 ⟨vw,rfl,OW,b8⟩
  replace ht := ht.below b8
  replace TR := TR.below b8
  replace CR := CR.below b8
  replace LI := LI.below b8
  replace BB := BB.xm b8
  clear b8
  obtain ⟨ys,hys⟩ : ∃ ys,lvs t nn 0 = ys := ⟨_,rfl⟩
  have HYS : Hid (lvs t nn 0 = ys) := hys
  have HYL : Hid (1 ≤ ys.length) := by
   have h1 := HM.out.lvs_few11
   rw [hys] at h1
   exact h1.1
  have HYI : Hid (∀ y ∈ ys,y < nn) := by
   rw [← hys]
   exact fun y hy => ((HM.out.pre_sub HM.out.pos) y ((List.mem_filter.1 hy).1)).1
  have hmm := HMM.out
  rw [hys] at LI OW hmm
  clear HMM
  have HYM : Hid (ys.length = mm) := hmm.symm
  obtain ⟨gw,cw,rfl,hcw⟩ := OW.open HYL.out
  have ZC : ZC11 w8 gw ys := ⟨fun j x hj => OW.cell rfl hj⟩
  rw [HYM.out] at hcw ⊢
  have hmm1 : 1 ≤ mm := by have := HYM.out; have := HYL.out; omega
  have hmm9 : mm ≤ 15 := by
   have h1 := HM.out.lvs_few11
   rw [hys] at h1
   omega
  clear hys hmm OW
  go_wp2
  have ht0 : Hid (Tab w8) := ht
  have TR0 : Hid (TRow w8 (.slice aT nn dT) nn t 4) := TR
  have CR0 : Hid (CRow w8 (.slice ar m cr) m r 4) := CR
  have LI0 : Hid (LegI w8 B5 g mm mm ys (fun y => (t y).val) (fun y => (pl t nn r y).map Pt.z)) := LI
  have ZC0 : Hid (ZC11 w8 gw ys) := ZC
  clear ht TR CR LI ZC
  have BB0 : Hid (Below w.heap.size w w8) := BB
  clear BB
  go_loopw [8] (fun vi wr => ∃ i : Nat,i ≤ mm ∧ vi = .int .i64 (i : Int) ∧ Below w8.heap.size w8 wr) (fun vi _ => mm - (intOf vi).toNat)
  case atStart => exact ⟨0,by omega,rfl,Below.refl _ _⟩
  case round =>
   obtain ⟨i,hi,rfl,BL⟩ := hrel
   by_cases hlt : i < mm
   ·have g0 : (0 : Int) ≤ (i : Int) := by omega
    have g1 : (i : Int) < (mm : Int) := by omega
    have wi : IntKind.i64.wrap ((i : Int) + 1) = (i : Int) + 1 := by rw [IntKind.wrap_i64]; omega
    obtain ⟨y,hy⟩ : ∃ y,ys[i]? = some y := ⟨_,List.getElem?_eq_getElem (by have := HYM.out; omega)⟩
    have hyn : y < nn := HYI.out y (List.mem_of_getElem? hy)
    have HYV : Hid (y ∈ lvs t nn 0) := by show _ ∈ _; rw [HYS.out]; exact List.mem_of_getElem? hy
    have ZX : Cel10 wr gw i (.int .i64 (y : Int)) := ⟨(ZC0.out.below BL).cell i y hy⟩
    obtain ⟨pL,aL,nL,cL,bL,mL,dL,uL,L0,L1,L2,L3,L4,hvL,hpL⟩ := (LI0.out.below BL).at hlt hy
    obtain ⟨av,cv,rfl,hcv,hcv63⟩ := GRow.open hpL
    obtain ⟨len,hlen⟩ : ∃ len,((pl t nn r y).map Pt.z).length = len := ⟨_,rfl⟩
    rw [hlen] at L4 hpL hcv
    have HLN : Hid ((pl t nn r y).length = len) := by show _ = _; rw [← hlen,List.length_map]
    clear hlen hy
    have HV0 : Hid (RepQ wr (.agg #[.bool pL,.slice aL nL cL,.slice bL mL dL]) (t y).val) := hvL
    have HP0 : Hid (PRr wr (.slice av len cv) ((pl t nn r y).map Pt.z)) := hpL
    clear hvL hpL
    have HVS : Hid (qsz (t y).val ≤ 4) := (HSZ.out y hyn).1
    have f2 : (0 : Int) ≤ (y : Int) := by omega
    have f3 : (y : Int) < (nn : Int) := by omega
    obtain ⟨b,off,cc,p1x,a1x,n1x,c1x,b1x,m1x,d1x,p2x,a2x,n2x,c2x,b2x,m2x,d2x,p3x,a3x,n3x,c3x,b3x,m3x,d3x,hvv,hcc_,hc6,NN,r1,r2,r3,i1,i2,i3⟩ := (TR0.out.below BL).at hyn
    cases hvv
    have D0 : Cel10 wr b (off + y * 14 + 8) _ := ⟨NN.c8⟩
    have D1 : Cel10 wr b (off + y * 14 + 8 + 1) _ := ⟨NN.c9⟩
    have D2 : Cel10 wr b (off + y * 14 + 8 + 2) _ := ⟨NN.c10⟩
    clear NN r1 r3 i1 i2 i3
    have Q0 : Cel10 wr g (i * 5) _ := ⟨L0⟩
    have Q1 : Cel10 wr g (i * 5 + 1) _ := ⟨L1⟩
    have Q2 : Cel10 wr g (i * 5 + 2) _ := ⟨L2⟩
    have Q3 : Cel10 wr g (i * 5 + 3) _ := ⟨L3⟩
    have HQ4 : Hid (Cel10 wr g (i * 5 + 4) (.slice av len cv)) := ⟨L4⟩
    clear L0 L1 L2 L3 L4
    have hvL := HV0.out
    have BW0 : Hid (Below w8.heap.size w8 wr) := BL
    have HZX : Hid (Cel10 wr gw i (.int .i64 (y : Int))) := ZX
    have BB : Below wr.heap.size wr wr := Below.refl _ _
    clear BL
    go_wp2
    have hDr : Below wr.heap.size wr wr.drew := (Below.refl _ _).drew
    replace hvL := hvL.below hDr
    replace r2 := r2.below hDr
    replace ZX := ZX.below hDr
    replace Q0 := Q0.below hDr
    replace Q1 := Q1.below hDr
    replace Q2 := Q2.below hDr
    replace Q3 := Q3.below hDr
    replace D0 := D0.below hDr
    replace D1 := D1.below hDr
    replace D2 := D2.below hDr
    replace BB := BB.xm hDr
    clear hDr
    refine wp_region_held_drew (S := (fun w' => w'.cell? ⟨g,i * 5,none⟩ = some (.int .i64 (y : Int)) ∧ w'.cell? ⟨gw,i,none⟩ = some (.int .i64 (y : Int)) ∧ w'.cell? ⟨g,i * 5 + 1,none⟩ = some (.bool pL) ∧ w'.cell? ⟨g,i * 5 + 2,none⟩ = some (.slice aL nL cL) ∧ w'.cell? ⟨g,i * 5 + 3,none⟩ = some (.slice bL mL dL) ∧ w'.cell? ⟨g,i * 5 + 1 + 1,none⟩ = some (.slice aL nL cL) ∧ w'.cell? ⟨g,i * 5 + 1 + 2,none⟩ = some (.slice bL mL dL) ∧ w'.cell? ⟨b,off + y * 14 + 8,none⟩ = some (.bool p2x) ∧ w'.cell? ⟨b,off + y * 14 + 8 + 1,none⟩ = some (.slice a2x n2x c2x) ∧ w'.cell? ⟨b,off + y * 14 + 8 + 2,none⟩ = some (.slice b2x m2x d2x))) (by kernel_rfl) ?_ (fun hHeld => ?_)
    ·exact ⟨Q0.cell,ZX.cell,Q1.cell,Q2.cell,Q3.cell,Q2.cell,Q3.cell,D0.cell,D1.cell,D2.cell⟩
    generalize wr.drew = W61 at *
    refine xV 0 (h := ?_)
    refine xV 1 (h := ?_)
    refine xV 2 (h := ?_)
    refine xV 3 (h := ?_)
    refine xV 4 (h := ?_)
    refine xV 5 (h := ?_)
    refine xV 6 (h := ?_)
    refine xV 7 (h := ?_)
    refine xV 8 (h := ?_)
    refine xV 9 (h := ?_)
    refine xV 10 (h := ?_)
    refine xV 11 (h := ?_)
    refine xV 12 (h := ?_)
    refine xV 13 (h := ?_)
    refine xV 14 (h := ?_)
    refine xV 15 (h := ?_)
    refine xV 16 (h := ?_)
    refine xV 17 (h := ?_)
    refine xV 18 (h := ?_)
    refine xV 19 (h := ?_)
    refine xV 20 (h := ?_)
    refine xV 21 (h := ?_)
    refine xV 22 (h := ?_)
    refine xV 23 (h := ?_)
    refine xR [24] (h := ?_)
    refine xN (h := fun K hK => ?_)
    go_simp
    refine (is10_at _ _ _ 4 4 _ hvL HVS.out r2 (by omega) (by omega)).mono ?_
    rintro e w21 ⟨rfl,b21⟩
    go_wp2_with fail
    replace hvL := hvL.below b21
    replace r2 := r2.below b21
    replace ZX := ZX.below b21
    replace Q0 := Q0.below b21
    replace Q1 := Q1.below b21
    replace Q2 := Q2.below b21
    replace Q3 := Q3.below b21
    replace D0 := D0.below b21
    replace D1 := D1.below b21
    replace D2 := D2.below b21
    replace BB := BB.xm b21
    clear b21
    refine hK.out _ _ ?_ (fun hH1 => ?_)
    ·exact ⟨Q0.cell,ZX.cell,Q1.cell,Q2.cell,Q3.cell,Q2.cell,Q3.cell,D0.cell,D1.cell,D2.cell⟩
    clear hK K hHeld
    (try simp only [Act.put,xL4,xL5,xL6])
    refine xV 25 (h := ?_)
    refine xV 26 (h := ?_)
    refine wpAnyH_done (by kernel_rfl) ?_ _
    clear hH1
    clear hvL r2 ZX Q0 Q1 Q2 Q3 D0 D1 D2
    have HSRT : Hid (SrtP (pl t nn r y)) := HM.out.pl_srt r y
    have HALL : Hid (∀ f,(shr t nn r y f 0).is = true ∧ getP (pl t nn r y) f = if (shr t nn r y f 0).asks = true then some ((shr t nn r y f 0).q,(shr t nn r y f 0).ok) else none) := fun f => HM.out.getP_all r HYV.out f
    have HSM : Hid (∀ a ∈ pl t nn r y,a.feat < m ∧ qsz a.sh ≤ 128) := fun a ha => by
     have h1 := HM.out.pl_small r (S := 8) (by omega) HZ.out hyn a ha
     have h2 := HM.out.lvl_le hyn
     have h3 : lvl t nn y * 8 ≤ 15 * 8 := Nat.mul_le_mul_right 8 (by omega)
     exact ⟨by omega,by omega⟩
    go_wp2
    have BQ0 : Hid (Below wr.heap.size wr w21) := BB
    obtain ⟨W4,hW4⟩ : ∃ W4,W4 = wr := ⟨_,rfl⟩
    rw [← hW4] at BB
    have BBQ : Below W4.heap.size W4 w21 := BB
    clear BB
    rw [← hW4] at BW0 HV0 HP0 HQ4 BQ0 HZX
    clear hW4
    have hc0 : cntP (pl t nn r y) 0 = 0 := cntP_zero _
    have HC0 : Hid (cntP (pl t nn r y) 0 = 0) := hc0
    clear hc0
    go_loopw [9,10] (fun vk vf w2 => ∃ f : Nat,f ≤ m ∧ vk = .int .i64 ((cntP (pl t nn r y) f : Nat) : Int) ∧ vf = .int .i64 (f : Int) ∧ Below W4.heap.size W4 w2) (fun _ vf _ => m - (intOf vf).toNat)
    case atStart => exact ⟨0,by omega,by rw [HC0.out]; rfl,rfl,BBQ⟩
    case round =>
     clear BBQ
     obtain ⟨f,hf,rfl,rfl,BQ⟩ := hrel
     by_cases hfl : f < m
     ·have e0 : (0 : Int) ≤ (f : Int) := by omega
      have e1 : (f : Int) < (m : Int) := by omega
      have wf : IntKind.i64.wrap ((f : Int) + 1) = (f : Int) + 1 := by rw [IntKind.wrap_i64]; omega
      have hle : cntP (pl t nn r y) f ≤ len := by have := cntP_le (pl t nn r y) f; rw [HLN.out] at this; exact this
      have hlen99 : len ≤ 100 := by have h1 := pl_len t nn r y; rw [HLN.out] at h1; omega
      obtain ⟨qz,isz,asz,okz,hsh⟩ : ∃ q a b c,shr t nn r y f 0 = ⟨q,a,b,c⟩ := ⟨_,_,_,_,rfl⟩
      have hall := HALL.out f
      rw [hsh] at hall
      obtain ⟨his,hget⟩ := hall
      have his : isz = true := his
      subst his
      have HQS : Hid (qsz qz ≤ 129) := by
       have h1 := HM.out.shr_few r y f HZ.out HM.out.pos
       rw [hsh] at h1
       have h2 : 8 * (nn + 1) ≤ 8 * 16 := Nat.mul_le_mul_left 8 (by omega)
       show qsz qz ≤ 129
       have h3 : qsz qz ≤ 1 + 8 * (nn + 1) := h1
       omega
      have HGET : Hid (getP (pl t nn r y) f = if asz = true then some (qz,okz) else none) := hget
      clear hget
      have HSH : Hid (∀ w,TRow w (.slice (some ⟨b,off,none⟩) nn dT) nn t 4 → CRow w (.slice ar m cr) m r 4 → Tab w → Calls Tryz.prog 12 #[.slice (some ⟨b,off,none⟩) nn dT,.int .i64 0,.int .i64 (y : Int),.int .i64 (f : Int),.slice ar m cr] w fun e w' => ∃ v,e = .returned (.tuple #[v,.bool true,.bool asz,.bool okz]) ∧ RepQ w' v qz ∧ Below w.heap.size w w') := fun w h1 h2 h3 => by
       have := lshare_ind _ _ nn m y f t r 4 129 (by omega) (by omega) (by omega) (by omega) (by omega) hfl HM.out (fun x z hx hz => Nat.le_trans (HZ.out x z hx hz) (by omega)) (fun x hx => Nat.le_trans (HM.out.shr_few r y f HZ.out hx) (by have h2 : 8 * (nn + 1) ≤ 8 * 16 := Nat.mul_le_mul_left 8 (by omega); omega)) (nn + 1) 0 w HM.out.pos (by omega) h1 h2 h3
       rw [hsh] at this
       exact this
      clear hsh
      have hnot : ∀ (x : Bool) (w : World),(Op.unary .not (.bool x)).run Tryz.prog w = .ok (.bool (!x)) w := fun _ _ => rfl
      have XZ : wr.cell? ⟨gw,i,none⟩ = some (.int .i64 (y : Int)) := (BQ.cell (p := ⟨gw,i,none⟩) (World.block_lt_of_cell? _ _ HZX.out.cell)).trans HZX.out.cell
      go_wp2_with fail
      clear XZ
      have TRq := (TR0.out.below BW0.out).below BQ
      have CRq := (CR0.out.below BW0.out).below BQ
      have htq := (ht0.out.below BW0.out).below BQ
      refine (HSH.out _ TRq CRq htq).mono ?_
      rintro e w41 ⟨v41,rfl,hs,b41⟩
      obtain ⟨p4,a4,n4,c4,y4,m4,d4,rfl⟩ := hs.open
      have BB : Below W4.heap.size W4 w41 := BQ.trans (b41.mono BQ.size)
      clear b41 TRq CRq htq HSH
      cases asz
      ·have HN : Hid (cntP (pl t nn r y) (f + 1) = cntP (pl t nn r y) f) := getP_none (by rw [HGET.out]; rfl)
       have hz4 : W4.heap.size ≤ w41.heap.size := BB.size
       obtain ⟨W7,hW7,hS7,hL7,VX⟩ := V3.lay w41 42 (.bool p4) (.slice a4 n4 c4) (.slice y4 m4 d4)
       replace BB := BB.xm hL7
       clear hL7 hs VX
       go_wp2
       rw [← hW7]
       clear hW7 hS7
       go_roundw
       case rel => exact ⟨f + 1,by omega,by rw [HN.out],by go_num,BB⟩
       case measure => simp [intOf]; omega
      ·obtain ⟨HAT,HC1⟩ : Hid ((pl t nn r y)[cntP (pl t nn r y) f]? = some ⟨f,qz,okz⟩) ∧ Hid (cntP (pl t nn r y) (f + 1) = cntP (pl t nn r y) f + 1) := by
        have := getP_at HSRT.out (f := f) (a := (qz,okz)) (by rw [HGET.out]; rfl)
        exact this
       have hkl : cntP (pl t nn r y) f < len := by have h1 := (List.getElem?_eq_some_iff.1 HAT.out).1; rw [HLN.out] at h1; exact h1
       have HPS : Hid (qsz qz ≤ 128) := (HSM.out _ (List.mem_of_getElem? HAT.out)).2
       clear HGET hle
       have hp := HP0.out.below BB
       obtain ⟨bP,oP,cP,pP,aP,nP,eP,yP,mP,dP,hvP,hcP,P0,P1,P2,P3,P4,hqP,i64P⟩ := hp.cells (i := cntP (pl t nn r y) f) (d := (⟨f,qz,okz⟩ : Pt).z) (by rw [List.getElem?_map,HAT.out]; rfl)
       clear hp i64P
       have hlen2 : ((pl t nn r y).map Pt.z).length = len := by rw [List.length_map]; exact HLN.out
       rw [hlen2] at hvP hcP
       cases hvP
       clear hlen2
       generalize cntP (pl t nn r y) f = k at *
       have P0 : w41.cell? ⟨bP,oP + k * 5,none⟩ = some (.int .i64 (f : Int)) := P0
       have P4 : w41.cell? ⟨bP,oP + k * 5 + 4,none⟩ = some (.bool okz) := P4
       have hqP : RepQ w41 (.agg #[.bool pP,.slice aP nP eP,.slice yP mP dP]) qz := hqP
       have E0 : Cel10 w41 bP (oP + k * 5) _ := ⟨P0⟩
       have E1 : Cel10 w41 bP (oP + k * 5 + 1) _ := ⟨P1⟩
       have E2 : Cel10 w41 bP (oP + k * 5 + 2) _ := ⟨P2⟩
       have E3_ : Cel10 w41 bP (oP + k * 5 + 3) _ := ⟨P3⟩
       have E4 : Cel10 w41 bP (oP + k * 5 + 4) _ := ⟨P4⟩
       have E5 := HQ4.out.below BB
       clear P0 P1 P2 P3 P4
       have k0 : (0 : Int) ≤ (k : Int) := by omega
       have k1 : (k : Int) < (len : Int) := by omega
       have k2 : ¬ (len : Int) ≤ (k : Int) := by omega
       have k3 : decide ((len : Int) ≤ (k : Int)) = false := decide_eq_false k2
       have k4 : ¬ len ≤ k := by omega
       have k5 : decide (len ≤ k) = false := decide_eq_false k4
       have wk : IntKind.i64.wrap ((k : Int) + 1) = (k : Int) + 1 := by rw [IntKind.wrap_i64]; omega
       have hz4 : W4.heap.size ≤ w41.heap.size := BB.size
       obtain ⟨W7,hW7,hS7,hL7,VX⟩ := V3.lay w41 42 (.bool p4) (.slice a4 n4 c4) (.slice y4 m4 d4)
       replace hs := hs.below hL7
       replace hqP := hqP.below hL7
       replace E0 := E0.below hL7
       replace E1 := E1.below hL7
       replace E2 := E2.below hL7
       replace E3_ := E3_.below hL7
       replace E4 := E4.below hL7
       replace E5 := E5.below hL7
       replace BB := BB.xm hL7
       clear hL7
       go_wp2
       rw [← hW7]
       generalize w41.heap.size = RX at *
       clear hW7 hS7
       have hDr : Below W7.heap.size W7 W7.drew := (Below.refl _ _).drew
       replace hs := hs.below hDr
       replace hqP := hqP.below hDr
       replace E0 := E0.below hDr
       replace E1 := E1.below hDr
       replace E2 := E2.below hDr
       replace E3_ := E3_.below hDr
       replace E4 := E4.below hDr
       replace E5 := E5.below hDr
       replace VX := VX.below hDr
       replace BB := BB.xm hDr
       clear hDr
       refine wp_region_held_drew (S := (fun w' => w'.cell? ⟨RX,0,none⟩ = some (.bool p4) ∧ w'.cell? ⟨RX,1,none⟩ = some (.slice a4 n4 c4) ∧ w'.cell? ⟨RX,2,none⟩ = some (.slice y4 m4 d4) ∧ w'.cell? ⟨g,i * 5 + 4,none⟩ = some (.slice (some ⟨bP,oP,none⟩) len cv) ∧ w'.cell? ⟨bP,oP + k * 5,none⟩ = some (.int .i64 (f : Int)) ∧ w'.cell? ⟨bP,oP + k * 5 + 4,none⟩ = some (.bool okz) ∧ w'.cell? ⟨bP,oP + k * 5 + 1,none⟩ = some (.bool pP) ∧ w'.cell? ⟨bP,oP + k * 5 + 2,none⟩ = some (.slice aP nP eP) ∧ w'.cell? ⟨bP,oP + k * 5 + 3,none⟩ = some (.slice yP mP dP) ∧ w'.cell? ⟨bP,oP + k * 5 + 1 + 1,none⟩ = some (.slice aP nP eP) ∧ w'.cell? ⟨bP,oP + k * 5 + 1 + 2,none⟩ = some (.slice yP mP dP))) (by kernel_rfl) ?_ (fun hHeld => ?_)
       ·exact ⟨VX.1,VX.2.1,VX.2.2.1,E5.cell,E0.cell,E4.cell,E1.cell,E2.cell,E3_.cell,E2.cell,E3_.cell⟩
       generalize W7.drew = W81 at *
       refine xV 0 (h := ?_)
       refine xV 1 (h := ?_)
       refine xV 2 (h := ?_)
       refine xV 3 (h := ?_)
       refine xV 4 (h := ?_)
       refine xV 5 (h := ?_)
       refine xV 6 (h := ?_)
       refine xV 7 (h := ?_)
       refine xV 8 (h := ?_)
       refine xV 9 (h := ?_)
       refine xV 10 (h := ?_)
       refine xV 11 (h := ?_)
       refine xV 12 (h := ?_)
       refine xV 13 (h := ?_)
       refine xV 14 (h := ?_)
       refine xV 15 (h := ?_)
       refine xV 16 (h := ?_)
       refine xV 17 (h := ?_)
       refine xV 18 (h := ?_)
       refine xV 19 (h := ?_)
       refine xV 20 (h := ?_)
       refine xV 21 (h := ?_)
       refine xV 22 (h := ?_)
       refine xV 23 (h := ?_)
       refine xV 24 (h := ?_)
       refine xV 25 (h := ?_)
       refine xV 26 (h := ?_)
       refine xV 27 (h := ?_)
       refine xV 28 (h := ?_)
       refine xV 29 (h := ?_)
       refine xV 30 (h := ?_)
       refine xV 31 (h := ?_)
       refine xV 32 (h := ?_)
       refine xV 33 (h := ?_)
       refine xV 34 (h := ?_)
       refine xV 35 (h := ?_)
       refine xV 36 (h := ?_)
       refine xV 37 (h := ?_)
       refine xV 38 (h := ?_)
       refine xV 39 (h := ?_)
       refine xV 40 (h := ?_)
       refine xV 41 (h := ?_)
       refine xV 42 (h := ?_)
       refine xV 43 (h := ?_)
       refine xV 44 (h := ?_)
       refine xR [45] (h := ?_)
       refine xN (h := fun K hK => ?_)
       go_simp
       refine (is10_at _ _ _ 129 129 _ hqP (Nat.le_trans HPS.out (by omega)) (hs.at 129 HQS.out) (by omega) (by omega)).mono ?_
       rintro e w41 ⟨rfl,b41⟩
       go_wp2_with fail
       replace hs := hs.below b41
       replace hqP := hqP.below b41
       replace E0 := E0.below b41
       replace E1 := E1.below b41
       replace E2 := E2.below b41
       replace E3_ := E3_.below b41
       replace E4 := E4.below b41
       replace E5 := E5.below b41
       replace VX := VX.below b41
       replace BB := BB.xm b41
       clear b41
       refine hK.out _ _ ?_ (fun hH1 => ?_)
       ·exact ⟨VX.1,VX.2.1,VX.2.2.1,E5.cell,E0.cell,E4.cell,E1.cell,E2.cell,E3_.cell,E2.cell,E3_.cell⟩
       clear hK K hHeld
       (try simp only [Act.put,xL4,xL5,xL6])
       refine xV 46 (h := ?_)
       refine xV 47 (h := ?_)
       refine wpAnyH_done (by kernel_rfl) ?_ _
       clear hH1
       go_wp2
       go_roundw
       case rel => exact ⟨f + 1,by omega,by rw [HC1.out]; go_num,by go_num,BB⟩
       case measure => simp [intOf]; omega
     ·obtain rfl : f = m := by omega
      have e1 : ¬ (f : Int) < (f : Int) := by omega
      have hcl : cntP (pl t nn r y) f = len := by rw [cntP_all (fun a ha => (HSM.out a ha).1)]; exact HLN.out
      rw [hcl]
      clear hcl
      have E5 := (HQ4.out.below BQ).cell
      have l1 : decide ((len : Int) = (len : Int)) = true := decide_eq_true rfl
      have BW := BW0.out
      go_wp2
      go_roundw
      case rel => exact ⟨i + 1,by omega,by go_num,BW.trans (BQ.mono BW.size)⟩
      case measure => simp [intOf]; omega
   ·obtain rfl : i = mm := by omega
    have g1 : ¬ (i : Int) < (i : Int) := by omega
    have BB := BB0.out
    go_wp2_with fail
    refine (awake11_at _ (ht0.out.below BL)).mono ?_
    rintro e w9 ⟨rfl,b9⟩
    go_wp2
    go_ret
    exact ⟨rfl,(BB.trans (BL.mono BB.size)).trans (b9.mono (by have := BB.size; have := BL.size; omega))⟩
theorem own : ownKnob Tryz.prog.godebug = none := by kernel_rfl
theorem laidOut : laidOutB Tryz.prog = true := by kernel_rfl

abbrev laid1 : List (String × DataW Unit) := [("math/bits.deBruijn64tab",Rows.laid_math_bits_deBruijn64tab)]
theorem gTab : Tryz.prog.globalNamed "math/bits.deBruijn64tab" = some 0 := by kernel_rfl
theorem gTabType : (Tryz.prog.globals[0]?).map (·.type) = some 181 := by kernel_rfl
theorem uTab : Tryz.prog.underlying 181 = some (.array 64 5) := by kernel_rfl
theorem uCell : Tryz.prog.underlying 5 = some (.int .u8) := by kernel_rfl
theorem cCell : Tryz.prog.cellsOf 5 = 1 := by kernel_rfl
theorem cTab : Tryz.prog.cellsOf 181 = 64 := by kernel_rfl
/-- The listed table lies in its cells. -/
theorem tab_of {W : World} (h : laidMetH Tryz.prog laid1 W) : Tab W := by
 rw [MakeChecks.laidMetH_plain _ _ _ (by kernel_rfl)] at h
 have hd : laid1 = [("math/bits.deBruijn64tab",Lib.tabData .u8 (Lib.deBruijn64tab.map fun (n : Nat) => Int.ofNat n))] := rfl
 rw [hd] at h
 have hT := Lib.tabIs_of_head gTab gTabType uTab uCell cCell cTab h
 intro i hi
 have hc := hT.cell gTab i (by rw [List.length_map]; exact hi)
 rw [hc]
 congr 2
 rw [List.getD_eq_getElem?_getD,List.getElem?_map,List.getD_eq_getElem?_getD]
 cases Lib.deBruijn64tab[i]? <;> rfl
/-- A start for the witness: the heap that the run of the program's own initialisers leaves. -/
noncomputable def startW (os : Os) : World := { World.holding Tryz.prog os ⟨#[],#[],[]⟩ with heap := (varsWorld Tryz.prog 400 (varsId Tryz.prog) os (fun _ _ => 0)).heap }
theorem start_met (os : Os) (args : Array Value) : laidMetH Tryz.prog laid1 ((startW os).forCall (fun _ _ => 0) ⟨#[],args,[]⟩).memory :=
 laidMetH_of_parts3 (fuel := 8) (laidMet_of_run' 8 (by kernel_rfl) (by kernel_rfl)) (by kernel_rfl) (by kernel_rfl)

set_option maxRecDepth 100000 in
theorem lifted (os : Os) (started : os.Started) (H : Type) (enc : TypeId × Value → H) :
  ReturnsInHanded {} Tryz.checked os 3 .any (fun w args => (Rows.expectLegsSpec.pre enc Tryz.prog Tryz.f3 [] false w args ∧ laidMetH Tryz.prog laid1 w) ∧ sizedMet enc Tryz.prog Tryz.f3 (OpenSpec.ofChange Rows.expectLegsSpec) false w args) (Rows.expectLegsSpec.post enc Tryz.prog Tryz.f3 false true false false) := by
 refine returnsInHanded_of_change_and (C := Tryz.checked) (X := fun w _ => laidMetH Tryz.prog laid1 w) (fun _ _ _ hh h => h.of_heap hh) own started (by kernel_rfl) Tryz.func3
  (ChangeSpec.witness_shaped (enc := enc) (C := Tryz.checked) (os := os) (X := fun w _ => laidMetH Tryz.prog laid1 w) false (startW os) #[.slice none 0 0,.slice none 0 0] 8 rfl (World.shaped_of_RefB (by kernel_rfl) (by kernel_rfl)) (by kernel_rfl) (by kernel_rfl) (by kernel_rfl) (start_met os _)) ?_
 intro W base args ds gs before hval0 hW _ _ hL _
 have hval : ∀ (j : Nat) t v,Tryz.f3.params[j]? = some t → args[j]? = some v → Value.okWide Tryz.prog W .any base t v := hval0
 have hW' := hW
 obtain ⟨p,q,hA0,hV,rfl,hfz,hnd⟩ := hW
 have hA : DataW.TrodAll enc Tryz.prog W 0 (fun _ => true) true Tryz.f3.params.toList args.toList ds p := hA0
 rw [Tryz.params3] at hA hval
 obtain ⟨v0,vs0,d0,ds0,p0,q0,hargs,rfl,rfl,h0,r0⟩ := trodAll_cons hA
 obtain ⟨v1,vs1,d1,ds1,p1,q1,rfl,rfl,rfl,h1,r1⟩ := trodAll_cons r0
 obtain ⟨rfl,rfl,rfl⟩ := trodAll_nil r1
 obtain rfl : args = #[v0,v1] := by cases args; simp_all
 obtain ⟨rfl,rfl⟩ := trodVars_none hV
 have k0 := h0
 have lt0 : ∀ x ∈ p0,x.block < W.heap.size := by obtain ⟨m,hm⟩ := k0; exact DataW.trod_lt m _ _ _ hm
 obtain ⟨n0,z0,w0⟩ := open_nodes 4 (hval 0 22 v0 rfl rfl) h0
 have k1 := h1
 have lt1 : ∀ x ∈ p1,x.block < W.heap.size := by obtain ⟨m,hm⟩ := k1; exact DataW.trod_lt m _ _ _ hm
 obtain ⟨n1,z1,w1⟩ := open_cells 3 (hval 1 23 v1 rfl rfl) h1
 clear hA0 hval0
 refine (walk _ _ _ _ _ _ W w0 w1 (tab_of hL)).mono fun e W' ⟨he,bel⟩ => ?_
 subst he
 exact ⟨_,rfl,_,_,_,[],_,[],hW',trodAll_mk1 (shut_bool Tryz.underlying4 _),(trodAll_cons_mk (Below.trod laidOut (by kernel_rfl) (of_decide_eq_true (by kernel_rfl)) k0 bel lt0) (trodAll_cons_mk (Below.trod laidOut (by kernel_rfl) (of_decide_eq_true (by kernel_rfl)) k1 bel lt1) trodAll_mk0)),rfl,bel.frame _,fun h => by cases h⟩

theorem over : Rows.expectLegsRow.holds Tryz.pinned (OpenSpec.ofChange Rows.expectLegsSpec) :=
 OpenClaim.holds_of_wide 3 Tryz.f3 rfl rfl rfl rfl rfl rfl rfl ⟨rfl,rfl,rfl,rfl,rfl⟩ rfl rfl rfl rfl rfl (by kernel_rfl) Tryz.func3 (by kernel_rfl)
  (of_decide_eq_true (by kernel_rfl)) (by unfold Func.isWrapper; first | (rw [if_pos (by decide +kernel)]; kernel_rfl) | (rw [if_neg (by decide +kernel)]; exact ⟨rfl,rfl⟩))
  (fun os started H enc _ => lifted os started H enc)

end Go.Proofs.YtbbliiafkjipbaaGreatDoor.expectLegs
namespace Go.Proofs.YtbbliiafkjipbaaGreatDoor
/-- The statement: the row, tied to the text of the program. -/
theorem expectLegs_holds : Rows.ExpectLegsCardSaid :=
 Claim7.holds_tied_plain_at .later [] [.data] true (true,"58d71e1b5000b0e2587b5db2d71ea12029712d3cfea31691cab49e52e761c372") false
  expectLegs.over (fun _ h => by cases h) (by kernel_rfl) (fun _ h => by cases h) expectLegs_row_tie rfl ⟨rfl,rfl⟩ (by kernel_rfl) rfl
  (fun f fn hf hfn => by
   obtain rfl : f = 3 := Option.some.inj ((show Tryz.prog.funcNamed "dendron/dendronlaw11.ExpectLegs" = some 3 by kernel_rfl).symm.trans hf) |>.symm
   obtain rfl : fn = Tryz.f3 := (Option.some.inj (Tryz.func3.symm.trans hfn)).symm
   exact ⟨by kernel_rfl,fun j t ht => by
    rw [Tryz.params3] at ht
    have hm : t ∈ [22,23] := by simpa using Array.mem_of_getElem? ht
    have hall : ([22,23].all fun u => !Tryz.prog.wantsStandIn u) = true := by kernel_rfl
    exact (show Tryz.prog.wantsStandIn t = false by simpa using List.all_eq_true.1 hall t hm)⟩)
  (by kernel_rfl)
end Go.Proofs.YtbbliiafkjipbaaGreatDoor
