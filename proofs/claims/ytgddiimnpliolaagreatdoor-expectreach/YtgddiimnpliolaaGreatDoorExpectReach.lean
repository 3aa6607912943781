/-
 Proves that Reach tells which share comes to any leg of up to 10 parts,where any set is known,whatever comes in (the statement ExpectReach,its tied card); the table of math/bits lies as the program's text lays it; no other condition.
-/
import Derived.Test.YtgddiimnpliolaaGreatDoorJb82b0d9242
import Derived.Test.YtgddiimnpliolaaGreatDoorRows
import Derived.Test.YtgddiimnpliolaaGreatDoorJ86f789ac4d
import Derived.Test.YtgddiimnpliolaaGreatDoorJ8108896b51
import Derived.Test.YtgddiimnpliolaaGreatDoorJc5553ab2ab
import Derived.Test.YtgddiimnpliolaaGreatDoorJ301628d5e9
import Derived.Test.YtgddiimnpliolaaGreatDoorJ28fca6d81b
import Derived.WalkKit
import Derived.ProofKit
import Derived.OpenShut
import Derived.ShutString
import Derived.ChangeOld
import Derived.Below
import Derived.Test.YtgddiimnpliolaaGreatDoorTie
import Derived.Test.YtgddiimnpliolaaGreatDoorCards
import Derived.LaidByTextLater
import Derived.LaidHandle
import Derived.Lib.LaidTab
import Derived.SevenTiedAt
namespace Go.Proofs.YtgddiimnpliolaaGreatDoor.expectReach
open Go.ChangeShapes Go.WideShapes Go.ChangeAt Go.RowKit
open Go.ChangeMaps (open_string shut_string)
set_option linter.unusedVariables false
set_option linter.unusedSimpArgs false

theorem u64_wfR {z : Int} (h : (Lit.int .u64 z).wf = true) : ∃ s : Nat,z = (s : Int) ∧ s < 18446744073709551616 := by
 simp [Lit.wf] at h
 have e1 : IntKind.u64.min = 0 := by decide
 have e2 : IntKind.u64.max = 18446744073709551615 := by decide
 exact ⟨z.toNat,by omega,by omega⟩
theorem prod_few {w : World} {v : Value} {l : List PtZ} {s : Nat} (h : PRw 3 w v l) (hl : l.length ≤ 10) (k : Nat) : qsz (prodL (shs s (l.take k))) ≤ 41 := by
 have h1 : ∀ x ∈ shs s (l.take k),qsz x ≤ 3 := fun x hx => by
  obtain ⟨p,hp,e⟩ := shs_mem s _ hx
  obtain ⟨i,hi⟩ := List.getElem?_of_mem (List.mem_of_mem_take hp)
  obtain ⟨_,_,_,_,_,_,_,_,_,_,_,_,_,_,_,_,_,rs,_⟩ := h.at hi
  rw [← e]
  exact rs.qsz (by omega)
 have h2 := shs_len s (l.take k)
 have h3 : (l.take k).length ≤ l.length := by rw [List.length_take]; omega
 rw [← prodL_all]
 refine Nat.le_trans (qsz_prodq _ 3 _ (fun i hi => ?_)) (by omega)
 rw [List.getD_eq_getElem?_getD,List.getElem?_eq_getElem hi]
 exact h1 _ (List.getElem_mem hi)

set_option maxRecDepth 100000 in
set_option maxHeartbeats 16000000 in
theorem walk (v : Value) (n : Nat) (t : Nat → PtZ) (s0 : Int) (w : World) (hv : LegV w v n t 3) (hs : (Lit.int .u64 s0).wf = true) (ht : Tab w) :
  Calls Tryz.prog 6 #[v,.int .u64 s0] w fun e w' => e = .returned (.bool true) ∧ Below w.heap.size w w' := by
 obtain ⟨s,rfl,hs64⟩ := u64_wfR hs
 clear hs
 obtain ⟨nd,p0,a0,n0,c0,b0,m0,d0,vp,rfl,hnd,hp⟩ := hv
 obtain ⟨ap,cp,rfl,hpc,hp63⟩ := hp.open
 have BB : Below w.heap.size w w := Below.refl _ _
 have HP0 : Hid (PRaw w (.slice ap n cp) n t 3) := hp
 have HT0 : Hid (Tab w) := ht
 clear hp ht
 obtain ⟨W1,hW1,hS1,hL1,VL⟩ := V5.lay w 55 (.int .i64 nd) (.bool p0) (.slice a0 n0 c0) (.slice b0 m0 d0) (.slice ap n cp)
 replace BB := BB.trans (hL1.mono BB.size)
 have HSW : Hid (W1.heap.size = w.heap.size + 1) := hS1
 clear hL1 hS1
 go_enter Tryz.func6,Tryz.ntmps6
 go_wp2_with fail
 rw [← hW1]
 clear hW1
 go_loopw [5,6] (fun vs vi wr => ∃ i : Nat,i ≤ n ∧ i ≤ 10 ∧ vi = .int .i64 (i : Int) ∧ POw 3 (w.heap.size + 1) wr vs ((List.range i).map t) ∧ V5 wr w.heap.size (.int .i64 nd) (.bool p0) (.slice a0 n0 c0) (.slice b0 m0 d0) (.slice ap n cp) ∧ Below w.heap.size w wr) (fun _ vi _ => n - (intOf vi).toNat)
 case atStart => exact ⟨0,by omega,by omega,rfl,GOwn.nil,VL,BB⟩
 case round =>
  clear VL BB
  obtain ⟨i,hi,hi10,rfl,OS,VL,BB⟩ := hrel
  obtain ⟨ao,co,rfl,hco⟩ := GOwn.form OS
  rw [show ((List.range i).map t).length = i by simp] at hco ⊢
  have HLI : Hid (((List.range i).map t).length = i) := by show _ = _; simp
  rw [HLI.out] at OS
  obtain ⟨v0,v1,v2,v3,v4,vs⟩ := id VL
  by_cases hin : i < n ∧ i < 10
  ·obtain ⟨hlt,hl10⟩ := hin
   have j1 : (i : Int) < (n : Int) := by omega
   have j2 : (i : Int) < 10 := by omega
   have g0 : (0 : Int) ≤ (i : Int) := by omega
   have wi : IntKind.i64.wrap ((i : Int) + 1) = (i : Int) + 1 := by rw [IntKind.wrap_i64]; omega
   obtain ⟨b,off,cc,p1,a1,n1,c1,b1,m1,d1,f1,g1,hvv,hcc,X0,X1,X2,X3,X4,r1,r2,HSH,i64⟩ := (HP0.out.below BB).at hlt
   cases hvv
   have HSQ : Hid ((t i).sh = mkRat (zof p1 (num f1 (min n1 3))) (num g1 (min m1 3))) := HSH
   clear HSH hcc
   obtain ⟨W3,hW3,hS3,hL3,VP⟩ := V5.lay wr 61 (.int .i64 (t i).feat) (.bool p1) (.slice a1 n1 c1) (.slice b1 m1 d1) (.bool (t i).ok)
   have HAB : Hid (∀ g,(Value.slice ao i co).ownBlock = some g → g < wr.heap.size) := by
    obtain ⟨cs,hown,_⟩ := GOwn.parts OS
    rw [HLI.out] at hown
    exact fun g hg => (hown.lt g hg).2
   have r13 := r1.below hL3
   have r23 := r2.below hL3
   have OS3 := OS.below hL3
   have VL3 := VL.below hL3
   have BB3 := BB.trans (hL3.mono BB.size)
   have hR1 : w.heap.size < wr.heap.size := VL.lt
   clear hL3 OS VL BB r1 r2
   have b4 : Below W3.heap.size W3 (W3.alloc (.cells #[.bool false,.bool p1,.slice a1 n1 c1,.slice b1 m1 d1] 70)) := (Below.refl _ _).alloc (Nat.le_refl _) _
   have CR := one_entry (ms := false) (p := p1) r13 r23 3 70
   rw [hS3] at CR
   have VP4 := VP.below b4
   have OS4 := OS3.below b4
   have VL4 := VL3.below b4
   have BB4 := BB3.trans (b4.mono BB3.size)
   clear b4 OS3 VL3 BB3 r13 r23
   obtain ⟨y0,y1,y2,y3,y4,ys⟩ := id VP
   rw [hW3] at y0 y1 y2 y3 y4
   clear ys
   go_wp2_with fail
   skip
   clear y0 y1 y2 y3 y4 v0 v1 v2 v3 v4 vs X0 X1 X2 X3 X4 VP
   rw [← hW3]
   clear hW3 hS3
   generalize W3.alloc (.cells #[.bool false,.bool p1,.slice a1 n1 c1,.slice b1 m1 d1] 70) = W4 at *
   generalize wr.heap.size = R3 at *
   refine (few9_at _ 1 1 _ _ CR (by omega)).mono ?_
   rintro e w5 ⟨u,rfl,CO,b5⟩
   have CO1 : COwn W4.heap.size w5 u 1 (fun _ => ⟨false,mkRat (zof p1 (num f1 (min n1 3))) (num g1 (min m1 3))⟩) 3 := CO
   rw [← HSQ.out] at CO1
   obtain ⟨b6,o6,c6,p6,a6,n6,e6,y6,m6,d6,hv6,hc6,hc63,Z0,Z1,Z2,Z3,R6⟩ := CO1.row.at (i := 0) (by omega)
   subst hv6
   rw [Nat.zero_mul,Nat.add_zero] at Z0 Z1 Z2 Z3
   have R6 : RatAt w5 (.agg #[.bool p6,.slice a6 n6 e6,.slice y6 m6 d6]) (t i).sh 3 := R6
   replace VP4 := VP4.below b5
   replace OS4 := OS4.below b5
   replace VL4 := VL4.below b5
   replace BB4 := BB4.trans (b5.mono BB4.size)
   clear b5 CR CO CO1 Z0
   have hKp := VP4.putK (.bool p6) (.slice a6 n6 e6) (.slice y6 m6 d6)
   have VP_n := VP4.put3 (.bool p6) (.slice a6 n6 e6) (.slice y6 m6 d6)
   have R6_n := R6.keepL hKp
   have OS_n : POw 3 (w.heap.size + 1) (put13 w5 R3 (.bool p6) (.slice a6 n6 e6) (.slice y6 m6 d6)) (.slice ao i co) ((List.range i).map t) := GOwn.kept OS4 (ptEl 3) (grown_put13 w5 R3 _ _ _) hKp (.inr (fun e => by have := HAB.out R3 e; omega))
   have BB_n := below_put13 (R := R3) BB4 (by omega) (.bool p6) (.slice a6 n6 e6) (.slice y6 m6 d6)
   have VL_n := VL4.block (w' := put13 w5 R3 (.bool p6) (.slice a6 n6 e6) (.slice y6 m6 d6)) ((grown_put13 w5 R3 _ _ _).block w.heap.size VL4.lt (fun e => by cases e; omega))
   clear hKp R6 OS4 BB4 VL4
   have b7 : Below (put13 w5 R3 (.bool p6) (.slice a6 n6 e6) (.slice y6 m6 d6)).heap.size (put13 w5 R3 (.bool p6) (.slice a6 n6 e6) (.slice y6 m6 d6)) ((put13 w5 R3 (.bool p6) (.slice a6 n6 e6) (.slice y6 m6 d6)).alloc (.cells #[.int .i64 (t i).feat,.bool p6,.slice a6 n6 e6,.slice y6 m6 d6,.bool (t i).ok] 61)) := (Below.refl _ _).alloc (Nat.le_refl _) _
   have OS7 := OS_n.below b7
   have VL7 := VL_n.below b7
   have R7 := R6_n.below b7
   have BB7 := BB_n.trans (b7.mono BB_n.size)
   clear b7 OS_n VL_n R6_n BB_n
   obtain ⟨cs,hown,hcl,hpu,hall⟩ := GOwn.parts OS7
   rw [HLI.out] at hown hcl
   have hsz : w.heap.size + 1 ≤ ((put13 w5 R3 (.bool p6) (.slice a6 n6 e6) (.slice y6 m6 d6)).alloc (.cells #[.int .i64 (t i).feat,.bool p6,.slice a6 n6 e6,.slice y6 m6 d6,.bool (t i).ok] 61)).heap.size := VL7.lt
   have hWs : (put13 w5 R3 (.bool p6) (.slice a6 n6 e6) (.slice y6 m6 d6)).heap.size = w5.heap.size := by simp
   have HNB : Hid (∀ (j : Nat) u,[Value.int .i64 (t i).feat,.bool p6,.slice a6 n6 e6,.slice y6 m6 d6,.bool (t i).ok][j]? = some u → ((put13 w5 R3 (.bool p6) (.slice a6 n6 e6) (.slice y6 m6 d6)).alloc (.cells #[.int .i64 (t i).feat,.bool p6,.slice a6 n6 e6,.slice y6 m6 d6,.bool (t i).ok] 61)).cell? ((⟨w5.heap.size,0,none⟩ : Addr).add j) = some u) := by
    show ∀ (j : Nat) u,_ → _
    rw [← hWs]
    exact news_block (heap_alloc_new _ _)
   clear hWs
   obtain ⟨x0,x1,x2,x3,x4,xs⟩ := id VP4
   obtain ⟨y0,y1,y2,y3,y4,ys⟩ := id VP_n
   have xs1 := xs 1
   have xs2 := xs 2
   have xs3 := xs 3
   go_wp2_with (at_builtin; refine wpList_append_pure (Q' := IsLimb) rfl _ _ _ rfl (w.heap.size + 1) 61 (.agg #[.int .i64 0,.bool false,.slice none 0 0,.slice none 0 0,.bool false]) 5 72 Tryz.underlying53 info_part rfl (by omega) (.slice ao i co) rfl i cs hown hpu ⟨w5.heap.size,0,none⟩ 1 rfl [.int .i64 (t i).feat,.bool p6,.slice a6 n6 e6,.slice y6 m6 d6,.bool (t i).ok] rfl HNB.out (by simp [Value.oneCell']) (by simp [limb_bool,limb_slice,limb_int]) (by simp [Value.cells,limb_bool,limb_slice,limb_int]) (by omega) (by omega) hsz ?_)
   intro gN cN w8 ho5 hg5 hat5 hp5 hk5
   have OS8 : POw 3 (w.heap.size + 1) w8 (.slice (some ⟨gN,0,none⟩) (i + 1) cN) ((List.range (i + 1)).map t) := by
    rw [List.range_succ,List.map_append]
    exact GOwn.more (ptEl 3) (m := 1) rfl (by rw [HLI.out]; exact ho5) (by rw [HLI.out]; exact hcl) (fun g hg => by cases hg; exact hp5) hk5 hall (pt_one R7 i64)
   have VL8 := VL7.block (hg5.block _ VL7.lt (fun e => by have := (hown.lt _ e.symm).1; omega))
   have BB8 := below_grownB BB7 hg5 (by omega) (fun g hg => by have := (hown.lt g hg).1; omega)
   clear OS7 VL7 BB7 hown hcl hpu hall hsz ho5 hg5 hat5 hp5 hk5 x0 x1 x2 x3 x4 xs xs1 xs2 xs3 y0 y1 y2 y3 y4 ys VP4 VP_n
   go_wp2
   go_roundw
   case rel => exact ⟨i + 1,by omega,by omega,by go_num,OS8,VL8,BB8⟩
   case measure => simp [intOf]; omega
  ·by_cases hn : i < n
   ·have j1 : (i : Int) < (n : Int) := by omega
    have j2 : ¬ (i : Int) < 10 := by omega
    have j3 : decide ((i : Int) < 10) = false := decide_eq_false j2
    clear hn
    clear v0 v1 v2 v3 vs
    obtain ⟨l,hl⟩ : ∃ l,(List.range i).map t = l := ⟨_,rfl⟩
    rw [hl] at OS HLI
    have HLT : Hid ((List.range i).map t = l) := hl
    clear hl hin
    go_wp2_with fail
    clear v4
    refine (qone_at _).mono ?_
    rintro e w2 ⟨r1,rfl,h1,b2⟩
    obtain ⟨p1,a1,n1,c1,b1,m1,d1,rfl⟩ := h1.open
    replace OS := OS.below b2
    replace VL := VL.below b2
    replace BB := BB.trans (b2.mono BB.size)
    clear b2
    obtain ⟨W3,hW3,hS3,hL3,VW⟩ := V3.lay w2 40 (.bool p1) (.slice a1 n1 c1) (.slice b1 m1 d1)
    have POS : Hid (PRw 3 w2 (.slice ao i co) l) := OS.row
    have HVL : Hid (V5 w2 w.heap.size (.int .i64 nd) (.bool p0) (.slice a0 n0 c0) (.slice b0 m0 d0) (.slice ap n cp)) := VL
    have HBB : Hid (Below w.heap.size w w2) := BB
    replace h1 := h1.below hL3
    have BL : Below w2.heap.size w2 W3 := hL3
    clear hL3 OS VL BB
    go_wp2
    rw [← hW3]
    clear hW3 hS3
    go_loopw [9,10] (fun vz vi wr => ∃ (k : Nat) (z : Bool) (p : Bool) (a : Option Addr) (n1 c : Nat) (b : Option Addr) (m1 d : Nat),k ≤ i ∧ vi = .int .i64 (k : Int) ∧ vz = .bool z ∧ Hid (z = true ↔ ∃ p ∈ l.take k,inZ s p.feat = true ∧ p.ok = false) ∧ V3 wr w2.heap.size (.bool p) (.slice a n1 c) (.slice b m1 d) ∧ RepQ wr (.agg #[.bool p,.slice a n1 c,.slice b m1 d]) (prodL (shs s (l.take k))) ∧ Below w2.heap.size w2 wr) (fun _ vi _ => i - (intOf vi).toNat)
    case atStart => exact ⟨0,false,p1,a1,n1,c1,b1,m1,d1,by omega,rfl,rfl,⟨fun h => (by cases h),fun ⟨_,h,_⟩ => (by cases h)⟩,VW,h1,BL⟩
    case round =>
     clear VW h1 BL
     obtain ⟨k,z,p2,a2,n2,c2,b2,m2,d2,hk,rfl,rfl,HZ,VW,hq,BB⟩ := hrel
     by_cases hlt : k < i
     ·have g0 : (0 : Int) ≤ (k : Int) := by omega
      have g1 : (k : Int) < (i : Int) := by omega
      have wk : IntKind.i64.wrap ((k : Int) + 1) = (k : Int) + 1 := by rw [IntKind.wrap_i64]; omega
      obtain ⟨p,hp⟩ : ∃ p,l[k]? = some p := ⟨_,List.getElem?_eq_getElem (by have := HLI.out; omega)⟩
      have HTK : Hid (l.take (k + 1) = l.take k ++ [p]) := by
       show l.take (k + 1) = _
       rw [List.take_add_one,hp]
       rfl
      obtain ⟨b,off,cc,p4,a4,n4,c4,b4,m4,d4,hvv,hcc,X0,X1,X2,X3,X4,rs,i64⟩ := POS.out.at hp
      rw [HLI.out] at hvv
      cases hvv
      have K0 : Hid (Cel10 w2 b (off + k * 5) (.int .i64 p.feat)) := ⟨X0⟩
      have K1 : Hid (Cel10 w2 b (off + k * 5 + 1) (.bool p4)) := ⟨X1⟩
      have K2 : Hid (Cel10 w2 b (off + k * 5 + 2) (.slice a4 n4 c4)) := ⟨X2⟩
      have K3 : Hid (Cel10 w2 b (off + k * 5 + 3) (.slice b4 m4 d4)) := ⟨X3⟩
      have K4 : Hid (Cel10 w2 b (off + k * 5 + 4) (.bool p.ok)) := ⟨X4⟩
      have HRS : Hid (RatAt w2 (.agg #[.bool p4,.slice a4 n4 c4,.slice b4 m4 d4]) p.sh 3) := rs
      clear X0 X1 X2 X3 X4 rs hp hcc
      have x0 := (K0.out.below BB).cell
      have x4 := (K4.out.below BB).cell
      have HSZ : Hid (qsz (prodL (shs s (l.take k))) ≤ 41) := prod_few (POS.out) (by have := HLI.out; omega) k
      obtain ⟨f,hf⟩ : ∃ f,p.feat = f := ⟨_,rfl⟩
      have HF : Hid (p.feat = f) := hf
      rw [hf] at x0 i64
      clear hf
      by_cases hin : 0 ≤ f ∧ f < 64
      ·obtain ⟨fn,rfl⟩ : ∃ fn : Nat,f = (fn : Int) := ⟨f.toNat,by omega⟩
       have hfn : fn < 64 := by omega
       have n1_ : ¬ (fn : Int) < 0 := by omega
       have n2_ : ¬ (63 : Int) < (fn : Int) := by omega
       have n2b : decide ((63 : Int) < (fn : Int)) = false := decide_eq_false n2_
       have n3 : decide ((fn : Int) < 0) = false := decide_eq_false n1_
       have HIZ : Hid (inZ s p.feat = inS s fn) := by
        show _ = _
        rw [HF.out]
        exact inZ_nat s fn hfn
       clear hin
       go_wp2_with fail
       refine (lin_at s fn hs64 (by omega) _).mono ?_
       rintro e wx ⟨rfl,hwx⟩
       replace hwx := hwx.symm
       subst hwx
       obtain ⟨bz,hbz⟩ : ∃ bz,inS s fn = bz := ⟨_,rfl⟩
       rw [hbz] at HIZ ⊢
       clear hbz
       cases bz
       ·have HNI : Hid (inZ s p.feat = false) := HIZ
        have HSP : Hid (shs s (l.take (k + 1)) = shs s (l.take k) ++ [p.sh]) := by
         show shs s (l.take (k + 1)) = _
         rw [HTK.out,shs_app]
         show _ ++ (if inZ s p.feat = true then [] else [p.sh]) = _
         rw [HNI.out]
         rfl
        have HZ2 : Hid (z = true ↔ ∃ p ∈ l.take (k + 1),inZ s p.feat = true ∧ p.ok = false) := HZ.out.trans ⟨fun ⟨p9,h1,h2⟩ => ⟨p9,by rw [HTK.out]; exact List.mem_append_left _ h1,h2⟩,fun ⟨p9,h1,h2⟩ => by
         rw [HTK.out] at h1
         rcases List.mem_append.1 h1 with h | h
         ·exact ⟨p9,h,h2⟩
         ·rw [List.mem_singleton.1 h,HNI.out] at h2; cases h2.1⟩
        have HPM : Hid (prodL (shs s (l.take k)) * p.sh = prodL (shs s (l.take (k + 1)))) := by
         show _ = _
         rw [HSP.out,prodL_app]
         show _ = _ * (p.sh * 1)
         rw [Rat.mul_one]
        clear HZ
        go_wp2
        clear x0 x4
        have hDr : Below wr.heap.size wr wr.drew := (Below.refl _ _).drew
        replace hq := hq.below hDr
        replace VW := VW.below hDr
        replace BB := BB.trans (hDr.mono BB.size)
        clear hDr
        refine wp_region_held_drew (S := (fun w' => w'.cell? ⟨b,off + k * 5 + 1,none⟩ = some (.bool p4) ∧ w'.cell? ⟨b,off + k * 5 + 2,none⟩ = some (.slice a4 n4 c4) ∧ w'.cell? ⟨b,off + k * 5 + 3,none⟩ = some (.slice b4 m4 d4))) (by kernel_rfl) ?_ (fun hHeld => ?_)
        ·exact ⟨(K1.out.below BB).cell,(K2.out.below BB).cell,(K3.out.below BB).cell⟩
        generalize wr.drew = W91 at *
        refine xT 1 (v := ?_) (hy := Or.inl ⟨by rfl,?_⟩) (h := ?_)
        rotate_left
        ·(intro w hSw; (try dsimp only at hSw); go_simp; (try with_reducible rfl))
        (try simp only [Act.put,xL4,xL5,xL6])
        refine xT 2 (v := ?_) (hy := Or.inl ⟨by rfl,?_⟩) (h := ?_)
        rotate_left
        ·(intro w hSw; (try dsimp only at hSw); go_simp; (try with_reducible rfl))
        (try simp only [Act.put,xL4,xL5,xL6])
        refine xT 3 (v := ?_) (hy := Or.inl ⟨by rfl,?_⟩) (h := ?_)
        rotate_left
        ·(intro w hSw; (try dsimp only at hSw); go_simp; (try with_reducible rfl))
        (try simp only [Act.put,xL4,xL5,xL6])
        refine xT 4 (v := ?_) (hy := Or.inl ⟨by rfl,?_⟩) (h := ?_)
        rotate_left
        ·(intro w hSw; (try dsimp only at hSw); go_simp; (try with_reducible rfl))
        (try simp only [Act.put,xL4,xL5,xL6])
        refine xT 5 (v := ?_) (hy := Or.inl ⟨by rfl,?_⟩) (h := ?_)
        rotate_left
        ·(intro w hSw; (try dsimp only at hSw); go_simp; (try with_reducible rfl))
        (try simp only [Act.put,xL4,xL5,xL6])
        refine xR [0] (h := ?_)
        refine xN (h := fun K hK => ?_)
        obtain ⟨VW_0,VW_1,VW_2,VW_3,VW_4,VW_5⟩ := id VW
        go_simp
        clear VW_0 VW_1 VW_2 VW_3 VW_4 VW_5
        refine hK.out _ _ ?_ (fun hH1 => ?_)
        ·exact ⟨(K1.out.below BB).cell,(K2.out.below BB).cell,(K3.out.below BB).cell⟩
        clear hK K hHeld
        (try simp only [Act.put,xL4,xL5,xL6])
        refine xR [6] (h := ?_)
        refine xN (h := fun K hK => ?_)
        go_simp
        refine (qmul_at _ _ (prodL (shs s (l.take k))) p.sh 41 _ (hq.at _ HSZ.out) ((HRS.out.below BB).le (by omega)) (by omega) (by omega) (HT0.out.below (HBB.out.trans (BB.mono HBB.out.size)))).mono ?_
        rintro e w71 ⟨x8,rfl,h8,b71⟩
        rw [HPM.out] at h8
        obtain ⟨p8,a8,n8,c8,b8,k8,d8,rfl⟩ := h8.open
        go_wp2_with fail
        replace hq := hq.below b71
        replace VW := VW.below b71
        replace BB := BB.trans (b71.mono BB.size)
        clear b71
        refine hK.out _ _ ?_ (fun hH2 => ?_)
        ·exact ⟨(K1.out.below BB).cell,(K2.out.below BB).cell,(K3.out.below BB).cell⟩
        clear hK K hH1
        (try simp only [Act.put,xL4,xL5,xL6])
        refine xR [7] (h := ?_)
        refine xN (h := fun K hK => ?_)
        have hKp := VW.keepJ (.bool p8) (.slice a8 n8 c8) (.slice b8 k8 d8)
        have VW_n := VW.same (.bool p8) (.slice a8 n8 c8) (.slice b8 k8 d8)
        have hq_n := hq.keep hKp
        have h8_n := h8.keep hKp
        have BB_n := below_store3 (R := w2.heap.size) BB (by omega) (.bool p8) (.slice a8 n8 c8) (.slice b8 k8 d8)
        clear hKp
        obtain ⟨VW_0,VW_1,VW_2,VW_3,VW_4,VW_5⟩ := id VW
        go_simp
        clear VW_0 VW_1 VW_2 VW_3 VW_4 VW_5
        clear BB hq h8 VW
        generalize ((w71.setCell ⟨w2.heap.size,0,none⟩ (.bool p8)).setCell ⟨w2.heap.size,1,none⟩ (.slice a8 n8 c8)).setCell ⟨w2.heap.size,2,none⟩ (.slice b8 k8 d8) = W92 at *
        have BB := BB_n
        have hq := hq_n
        have h8 := h8_n
        have VW := VW_n
        clear BB_n hq_n h8_n VW_n
        refine hK.out _ _ ?_ (fun hH3 => ?_)
        ·exact ⟨(K1.out.below BB).cell,(K2.out.below BB).cell,(K3.out.below BB).cell⟩
        clear hK K hH2
        (try simp only [Act.put,xL4,xL5,xL6])
        refine wpAnyH_done (by kernel_rfl) ?_ _
        clear hH3
        go_wp2
        go_roundw
        case rel => exact ⟨k + 1,z,p8,a8,n8,c8,b8,k8,d8,by omega,by go_num,rfl,HZ2,VW,h8,BB⟩
        case measure => simp [intOf]; omega
       ·have HSP : Hid (shs s (l.take (k + 1)) = shs s (l.take k)) := by
         show shs s (l.take (k + 1)) = _
         rw [HTK.out,shs_app]
         show _ ++ (if inZ s p.feat = true then [] else [p.sh]) = _
         rw [HIZ.out]
         show shs s (l.take k) ++ [] = _
         rw [List.append_nil]
        obtain ⟨bk,hbk⟩ : ∃ bk,p.ok = bk := ⟨_,rfl⟩
        have HBK : Hid (p.ok = bk) := hbk
        rw [hbk] at x4
        clear hbk
        cases bk
        ·have HZ2 : Hid (∃ p ∈ l.take (k + 1),inZ s p.feat = true ∧ p.ok = false) := ⟨p,by rw [HTK.out]; simp,HIZ.out,HBK.out⟩
         clear HZ
         rw [← HSP.out] at hq
         go_wp2
         go_roundw
         case rel => exact ⟨k + 1,true,p2,a2,n2,c2,b2,m2,d2,by omega,by go_num,rfl,⟨fun _ => HZ2.out,fun _ => rfl⟩,VW,hq,BB⟩
         case measure => simp [intOf]; omega
        ·have HZ2 : Hid (z = true ↔ ∃ p ∈ l.take (k + 1),inZ s p.feat = true ∧ p.ok = false) := HZ.out.trans ⟨fun ⟨p9,h1,h2⟩ => ⟨p9,by rw [HTK.out]; exact List.mem_append_left _ h1,h2⟩,fun ⟨p9,h1,h2⟩ => by
          rw [HTK.out] at h1
          rcases List.mem_append.1 h1 with h | h
          ·exact ⟨p9,h,h2⟩
          ·rw [List.mem_singleton.1 h,HBK.out] at h2; cases h2.2⟩
         clear HZ
         rw [← HSP.out] at hq
         go_wp2
         go_roundw
         case rel => exact ⟨k + 1,z,p2,a2,n2,c2,b2,m2,d2,by omega,by go_num,rfl,HZ2,VW,hq,BB⟩
         case measure => simp [intOf]; omega
      ·have HNI : Hid (inZ s p.feat = false) := by
        show inZ s p.feat = false
        rw [HF.out]
        unfold inZ
        by_cases h : 0 ≤ f
        ·rw [decide_eq_false (show ¬ f < 64 by omega),Bool.and_false,Bool.false_and]
        ·rw [decide_eq_false h,Bool.false_and,Bool.false_and]
       by_cases hneg : f < 0
       ·have n1_ : decide (f < 0) = true := decide_eq_true hneg
        clear hin
        have HSP : Hid (shs s (l.take (k + 1)) = shs s (l.take k) ++ [p.sh]) := by
         show shs s (l.take (k + 1)) = _
         rw [HTK.out,shs_app]
         show _ ++ (if inZ s p.feat = true then [] else [p.sh]) = _
         rw [HNI.out]
         rfl
        have HZ2 : Hid (z = true ↔ ∃ p ∈ l.take (k + 1),inZ s p.feat = true ∧ p.ok = false) := HZ.out.trans ⟨fun ⟨p9,h1,h2⟩ => ⟨p9,by rw [HTK.out]; exact List.mem_append_left _ h1,h2⟩,fun ⟨p9,h1,h2⟩ => by
         rw [HTK.out] at h1
         rcases List.mem_append.1 h1 with h | h
         ·exact ⟨p9,h,h2⟩
         ·rw [List.mem_singleton.1 h,HNI.out] at h2; cases h2.1⟩
        have HPM : Hid (prodL (shs s (l.take k)) * p.sh = prodL (shs s (l.take (k + 1)))) := by
         show _ = _
         rw [HSP.out,prodL_app]
         show _ = _ * (p.sh * 1)
         rw [Rat.mul_one]
        clear HZ
        go_wp2
        clear x0 x4
        have hDr : Below wr.heap.size wr wr.drew := (Below.refl _ _).drew
        replace hq := hq.below hDr
        replace VW := VW.below hDr
        replace BB := BB.trans (hDr.mono BB.size)
        clear hDr
        refine wp_region_held_drew (S := (fun w' => w'.cell? ⟨b,off + k * 5 + 1,none⟩ = some (.bool p4) ∧ w'.cell? ⟨b,off + k * 5 + 2,none⟩ = some (.slice a4 n4 c4) ∧ w'.cell? ⟨b,off + k * 5 + 3,none⟩ = some (.slice b4 m4 d4))) (by kernel_rfl) ?_ (fun hHeld => ?_)
        ·exact ⟨(K1.out.below BB).cell,(K2.out.below BB).cell,(K3.out.below BB).cell⟩
        generalize wr.drew = W91 at *
        refine xT 1 (v := ?_) (hy := Or.inl ⟨by rfl,?_⟩) (h := ?_)
        rotate_left
        ·(intro w hSw; (try dsimp only at hSw); go_simp; (try with_reducible rfl))
        (try simp only [Act.put,xL4,xL5,xL6])
        refine xT 2 (v := ?_) (hy := Or.inl ⟨by rfl,?_⟩) (h := ?_)
        rotate_left
        ·(intro w hSw; (try dsimp only at hSw); go_simp; (try with_reducible rfl))
        (try simp only [Act.put,xL4,xL5,xL6])
        refine xT 3 (v := ?_) (hy := Or.inl ⟨by rfl,?_⟩) (h := ?_)
        rotate_left
        ·(intro w hSw; (try dsimp only at hSw); go_simp; (try with_reducible rfl))
        (try simp only [Act.put,xL4,xL5,xL6])
        refine xT 4 (v := ?_) (hy := Or.inl ⟨by rfl,?_⟩) (h := ?_)
        rotate_left
        ·(intro w hSw; (try dsimp only at hSw); go_simp; (try with_reducible rfl))
        (try simp only [Act.put,xL4,xL5,xL6])
        refine xT 5 (v := ?_) (hy := Or.inl ⟨by rfl,?_⟩) (h := ?_)
        rotate_left
        ·(intro w hSw; (try dsimp only at hSw); go_simp; (try with_reducible rfl))
        (try simp only [Act.put,xL4,xL5,xL6])
        refine xR [0] (h := ?_)
        refine xN (h := fun K hK => ?_)
        obtain ⟨VW_0,VW_1,VW_2,VW_3,VW_4,VW_5⟩ := id VW
        go_simp
        clear VW_0 VW_1 VW_2 VW_3 VW_4 VW_5
        refine hK.out _ _ ?_ (fun hH1 => ?_)
        ·exact ⟨(K1.out.below BB).cell,(K2.out.below BB).cell,(K3.out.below BB).cell⟩
        clear hK K hHeld
        (try simp only [Act.put,xL4,xL5,xL6])
        refine xR [6] (h := ?_)
        refine xN (h := fun K hK => ?_)
        go_simp
        refine (qmul_at _ _ (prodL (shs s (l.take k))) p.sh 41 _ (hq.at _ HSZ.out) ((HRS.out.below BB).le (by omega)) (by omega) (by omega) (HT0.out.below (HBB.out.trans (BB.mono HBB.out.size)))).mono ?_
        rintro e w71 ⟨x8,rfl,h8,b71⟩
        rw [HPM.out] at h8
        obtain ⟨p8,a8,n8,c8,b8,k8,d8,rfl⟩ := h8.open
        go_wp2_with fail
        replace hq := hq.below b71
        replace VW := VW.below b71
        replace BB := BB.trans (b71.mono BB.size)
        clear b71
        refine hK.out _ _ ?_ (fun hH2 => ?_)
        ·exact ⟨(K1.out.below BB).cell,(K2.out.below BB).cell,(K3.out.below BB).cell⟩
        clear hK K hH1
        (try simp only [Act.put,xL4,xL5,xL6])
        refine xR [7] (h := ?_)
        refine xN (h := fun K hK => ?_)
        have hKp := VW.keepJ (.bool p8) (.slice a8 n8 c8) (.slice b8 k8 d8)
        have VW_n := VW.same (.bool p8) (.slice a8 n8 c8) (.slice b8 k8 d8)
        have hq_n := hq.keep hKp
        have h8_n := h8.keep hKp
        have BB_n := below_store3 (R := w2.heap.size) BB (by omega) (.bool p8) (.slice a8 n8 c8) (.slice b8 k8 d8)
        clear hKp
        obtain ⟨VW_0,VW_1,VW_2,VW_3,VW_4,VW_5⟩ := id VW
        go_simp
        clear VW_0 VW_1 VW_2 VW_3 VW_4 VW_5
        clear BB hq h8 VW
        generalize ((w71.setCell ⟨w2.heap.size,0,none⟩ (.bool p8)).setCell ⟨w2.heap.size,1,none⟩ (.slice a8 n8 c8)).setCell ⟨w2.heap.size,2,none⟩ (.slice b8 k8 d8) = W92 at *
        have BB := BB_n
        have hq := hq_n
        have h8 := h8_n
        have VW := VW_n
        clear BB_n hq_n h8_n VW_n
        refine hK.out _ _ ?_ (fun hH3 => ?_)
        ·exact ⟨(K1.out.below BB).cell,(K2.out.below BB).cell,(K3.out.below BB).cell⟩
        clear hK K hH2
        (try simp only [Act.put,xL4,xL5,xL6])
        refine wpAnyH_done (by kernel_rfl) ?_ _
        clear hH3
        go_wp2
        go_roundw
        case rel => exact ⟨k + 1,z,p8,a8,n8,c8,b8,k8,d8,by omega,by go_num,rfl,HZ2,VW,h8,BB⟩
        case measure => simp [intOf]; omega
       ·have n1_ : decide (f < 0) = false := decide_eq_false hneg
        have n2_ : decide ((63 : Int) < f) = true := decide_eq_true (by omega)
        clear hin
        have HSP : Hid (shs s (l.take (k + 1)) = shs s (l.take k) ++ [p.sh]) := by
         show shs s (l.take (k + 1)) = _
         rw [HTK.out,shs_app]
         show _ ++ (if inZ s p.feat = true then [] else [p.sh]) = _
         rw [HNI.out]
         rfl
        have HZ2 : Hid (z = true ↔ ∃ p ∈ l.take (k + 1),inZ s p.feat = true ∧ p.ok = false) := HZ.out.trans ⟨fun ⟨p9,h1,h2⟩ => ⟨p9,by rw [HTK.out]; exact List.mem_append_left _ h1,h2⟩,fun ⟨p9,h1,h2⟩ => by
         rw [HTK.out] at h1
         rcases List.mem_append.1 h1 with h | h
         ·exact ⟨p9,h,h2⟩
         ·rw [List.mem_singleton.1 h,HNI.out] at h2; cases h2.1⟩
        have HPM : Hid (prodL (shs s (l.take k)) * p.sh = prodL (shs s (l.take (k + 1)))) := by
         show _ = _
         rw [HSP.out,prodL_app]
         show _ = _ * (p.sh * 1)
         rw [Rat.mul_one]
        clear HZ
        go_wp2
        clear x0 x4
        have hDr : Below wr.heap.size wr wr.drew := (Below.refl _ _).drew
        replace hq := hq.below hDr
        replace VW := VW.below hDr
        replace BB := BB.trans (hDr.mono BB.size)
        clear hDr
        refine wp_region_held_drew (S := (fun w' => w'.cell? ⟨b,off + k * 5 + 1,none⟩ = some (.bool p4) ∧ w'.cell? ⟨b,off + k * 5 + 2,none⟩ = some (.slice a4 n4 c4) ∧ w'.cell? ⟨b,off + k * 5 + 3,none⟩ = some (.slice b4 m4 d4))) (by kernel_rfl) ?_ (fun hHeld => ?_)
        ·exact ⟨(K1.out.below BB).cell,(K2.out.below BB).cell,(K3.out.below BB).cell⟩
        generalize wr.drew = W91 at *
        refine xT 1 (v := ?_) (hy := Or.inl ⟨by rfl,?_⟩) (h := ?_)
        rotate_left
        ·(intro w hSw; (try dsimp only at hSw); go_simp; (try with_reducible rfl))
        (try simp only [Act.put,xL4,xL5,xL6])
        refine xT 2 (v := ?_) (hy := Or.inl ⟨by rfl,?_⟩) (h := ?_)
        rotate_left
        ·(intro w hSw; (try dsimp only at hSw); go_simp; (try with_reducible rfl))
        (try simp only [Act.put,xL4,xL5,xL6])
        refine xT 3 (v := ?_) (hy := Or.inl ⟨by rfl,?_⟩) (h := ?_)
        rotate_left
        ·(intro w hSw; (try dsimp only at hSw); go_simp; (try with_reducible rfl))
        (try simp only [Act.put,xL4,xL5,xL6])
        refine xT 4 (v := ?_) (hy := Or.inl ⟨by rfl,?_⟩) (h := ?_)
        rotate_left
        ·(intro w hSw; (try dsimp only at hSw); go_simp; (try with_reducible rfl))
        (try simp only [Act.put,xL4,xL5,xL6])
        refine xT 5 (v := ?_) (hy := Or.inl ⟨by rfl,?_⟩) (h := ?_)
        rotate_left
        ·(intro w hSw; (try dsimp only at hSw); go_simp; (try with_reducible rfl))
        (try simp only [Act.put,xL4,xL5,xL6])
        refine xR [0] (h := ?_)
        refine xN (h := fun K hK => ?_)
        obtain ⟨VW_0,VW_1,VW_2,VW_3,VW_4,VW_5⟩ := id VW
        go_simp
        clear VW_0 VW_1 VW_2 VW_3 VW_4 VW_5
        refine hK.out _ _ ?_ (fun hH1 => ?_)
        ·exact ⟨(K1.out.below BB).cell,(K2.out.below BB).cell,(K3.out.below BB).cell⟩
        clear hK K hHeld
        (try simp only [Act.put,xL4,xL5,xL6])
        refine xR [6] (h := ?_)
        refine xN (h := fun K hK => ?_)
        go_simp
        refine (qmul_at _ _ (prodL (shs s (l.take k))) p.sh 41 _ (hq.at _ HSZ.out) ((HRS.out.below BB).le (by omega)) (by omega) (by omega) (HT0.out.below (HBB.out.trans (BB.mono HBB.out.size)))).mono ?_
        rintro e w71 ⟨x8,rfl,h8,b71⟩
        rw [HPM.out] at h8
        obtain ⟨p8,a8,n8,c8,b8,k8,d8,rfl⟩ := h8.open
        go_wp2_with fail
        replace hq := hq.below b71
        replace VW := VW.below b71
        replace BB := BB.trans (b71.mono BB.size)
        clear b71
        refine hK.out _ _ ?_ (fun hH2 => ?_)
        ·exact ⟨(K1.out.below BB).cell,(K2.out.below BB).cell,(K3.out.below BB).cell⟩
        clear hK K hH1
        (try simp only [Act.put,xL4,xL5,xL6])
        refine xR [7] (h := ?_)
        refine xN (h := fun K hK => ?_)
        have hKp := VW.keepJ (.bool p8) (.slice a8 n8 c8) (.slice b8 k8 d8)
        have VW_n := VW.same (.bool p8) (.slice a8 n8 c8) (.slice b8 k8 d8)
        have hq_n := hq.keep hKp
        have h8_n := h8.keep hKp
        have BB_n := below_store3 (R := w2.heap.size) BB (by omega) (.bool p8) (.slice a8 n8 c8) (.slice b8 k8 d8)
        clear hKp
        obtain ⟨VW_0,VW_1,VW_2,VW_3,VW_4,VW_5⟩ := id VW
        go_simp
        clear VW_0 VW_1 VW_2 VW_3 VW_4 VW_5
        clear BB hq h8 VW
        generalize ((w71.setCell ⟨w2.heap.size,0,none⟩ (.bool p8)).setCell ⟨w2.heap.size,1,none⟩ (.slice a8 n8 c8)).setCell ⟨w2.heap.size,2,none⟩ (.slice b8 k8 d8) = W92 at *
        have BB := BB_n
        have hq := hq_n
        have h8 := h8_n
        have VW := VW_n
        clear BB_n hq_n h8_n VW_n
        refine hK.out _ _ ?_ (fun hH3 => ?_)
        ·exact ⟨(K1.out.below BB).cell,(K2.out.below BB).cell,(K3.out.below BB).cell⟩
        clear hK K hH2
        (try simp only [Act.put,xL4,xL5,xL6])
        refine wpAnyH_done (by kernel_rfl) ?_ _
        clear hH3
        go_wp2
        go_roundw
        case rel => exact ⟨k + 1,z,p8,a8,n8,c8,b8,k8,d8,by omega,by go_num,rfl,HZ2,VW,h8,BB⟩
        case measure => simp [intOf]; omega
     ·obtain rfl : k = i := by omega
      have g1 : ¬ (k : Int) < (k : Int) := by omega
      have hli := HLI.out
      have HTA : Hid (l.take k = l) := by show l.take k = l; rw [← hli]; exact List.take_length
      rw [HTA.out] at HZ hq
      have HPS : Hid (qsz (prodL (shs s l)) ≤ 41) := by have h9 := prod_few (s := s) POS.out (by omega) k; rw [HTA.out] at h9; exact h9
      obtain ⟨v0,v1,v2,v3,v4,vs⟩ := HVL.out.below BB
      have hnd2 := hnd
      cases z
      ·have HRG : Hid (rchZ s l = prodL (shs s l)) := rchZ_go s (fun p hp h => by
        cases e : p.ok with
        | true => rfl
        | false => exact absurd (HZ.out.2 ⟨p,hp,h,e⟩) (by simp))
       rw [← HRG.out] at hq HPS
       clear HZ
       go_wp2
       have hDr : Below wr.heap.size wr wr.drew := (Below.refl _ _).drew
       replace hq := hq.below hDr
       replace VW := VW.below hDr
       replace BB := BB.trans (hDr.mono BB.size)
       clear hDr
       refine wp_region_held_drew (S := (fun w' => w'.cell? ⟨w2.heap.size,0,none⟩ = some (.bool p2) ∧ w'.cell? ⟨w2.heap.size,1,none⟩ = some (.slice a2 n2 c2) ∧ w'.cell? ⟨w2.heap.size,2,none⟩ = some (.slice b2 m2 d2) ∧ w'.cell? ⟨w.heap.size,0,none⟩ = some (.int .i64 nd))) (by kernel_rfl) ?_ (fun hHeld => ?_)
       ·exact ⟨VW.1,VW.2.1,VW.2.2.1,(HVL.out.below BB).c0⟩
       generalize wr.drew = W111 at *
       refine xT 0 (v := ?_) (hy := Or.inl ⟨by rfl,?_⟩) (h := ?_)
       rotate_left
       ·(intro w hSw; (try dsimp only at hSw); go_simp; (try with_reducible rfl))
       (try simp only [Act.put,xL4,xL5,xL6])
       refine xT 1 (v := ?_) (hy := Or.inl ⟨by rfl,?_⟩) (h := ?_)
       rotate_left
       ·(intro w hSw; (try dsimp only at hSw); go_simp; (try with_reducible rfl))
       (try simp only [Act.put,xL4,xL5,xL6])
       refine xT 2 (v := ?_) (hy := Or.inl ⟨by rfl,?_⟩) (h := ?_)
       rotate_left
       ·(intro w hSw; (try dsimp only at hSw); go_simp; (try with_reducible rfl))
       (try simp only [Act.put,xL4,xL5,xL6])
       refine xT 3 (v := ?_) (hy := Or.inl ⟨by rfl,?_⟩) (h := ?_)
       rotate_left
       ·(intro w hSw; (try dsimp only at hSw); go_simp; (try with_reducible rfl))
       (try simp only [Act.put,xL4,xL5,xL6])
       refine xT 4 (v := ?_) (hy := Or.inl ⟨by rfl,?_⟩) (h := ?_)
       rotate_left
       ·(intro w hSw; (try dsimp only at hSw); go_simp; (try with_reducible rfl))
       (try simp only [Act.put,xL4,xL5,xL6])
       refine xT 6 (v := ?_) (hy := Or.inl ⟨by rfl,?_⟩) (h := ?_)
       rotate_left
       ·(intro w hSw; (try dsimp only at hSw); go_simp; (try with_reducible rfl))
       (try simp only [Act.put,xL4,xL5,xL6])
       refine xR [5] (h := ?_)
       refine xN (h := fun K hK => ?_)
       go_simp
       refine (reach_at _ l nd false none none 0 0 0 0 s 3 _ (POS.out.below BB) hs64 (HT0.out.below (HBB.out.trans (BB.mono HBB.out.size))) (by omega) (by omega) (by have := HLI.out; omega) (by have := HLI.out; omega)).mono ?_
       rintro e w91 ⟨x8,rfl,h8,b91⟩
       obtain ⟨p8,a8,n8,c8,b8,k8,d8,rfl⟩ := h8.open
       go_wp2_with fail
       replace hq := hq.below b91
       replace VW := VW.below b91
       replace BB := BB.trans (b91.mono BB.size)
       clear b91
       refine hK.out _ _ ?_ (fun hH1 => ?_)
       ·exact ⟨VW.1,VW.2.1,VW.2.2.1,(HVL.out.below BB).c0⟩
       clear hK K hHeld
       (try simp only [Act.put,xL4,xL5,xL6])
       refine xR [7] (h := ?_)
       refine xN (h := fun K hK => ?_)
       go_simp
       refine (is10_at _ _ _ 41 41 _ h8 HPS.out (hq.at 41 HPS.out) (by omega) (by omega)).mono ?_
       rintro e w92 ⟨rfl,b92⟩
       go_wp2_with fail
       replace hq := hq.below b92
       replace h8 := h8.below b92
       replace VW := VW.below b92
       replace BB := BB.trans (b92.mono BB.size)
       clear b92
       refine hK.out _ _ ?_ (fun hH2 => ?_)
       ·exact ⟨VW.1,VW.2.1,VW.2.2.1,(HVL.out.below BB).c0⟩
       clear hK K hH1
       (try simp only [Act.put,xL4,xL5,xL6])
       refine xT 8 (v := ?_) (hy := Or.inl ⟨by rfl,?_⟩) (h := ?_)
       rotate_left
       ·(intro w hSw; (try dsimp only at hSw); go_simp; (try with_reducible rfl))
       (try simp only [Act.put,xL4,xL5,xL6])
       refine xR [9] (h := ?_)
       refine xN (h := fun K hK => ?_)
       go_simp
       refine (awake11_at _ (HT0.out.below (HBB.out.trans (BB.mono HBB.out.size)))).mono ?_
       rintro e w93 ⟨rfl,b93⟩
       go_wp2_with fail
       replace hq := hq.below b93
       replace h8 := h8.below b93
       replace VW := VW.below b93
       replace BB := BB.trans (b93.mono BB.size)
       clear b93
       refine hK.out _ _ ?_ (fun hH3 => ?_)
       ·exact ⟨VW.1,VW.2.1,VW.2.2.1,(HVL.out.below BB).c0⟩
       clear hK K hH2
       (try simp only [Act.put,xL4,xL5,xL6])
       refine xT 10 (v := ?_) (hy := Or.inl ⟨by rfl,?_⟩) (h := ?_)
       rotate_left
       ·(intro w hSw; (try dsimp only at hSw); go_simp; (try with_reducible rfl))
       (try simp only [Act.put,xL4,xL5,xL6])
       refine xT 11 (v := ?_) (hy := Or.inl ⟨by rfl,?_⟩) (h := ?_)
       rotate_left
       ·(intro w hSw; (try dsimp only at hSw); go_simp; (try with_reducible rfl))
       (try simp only [Act.put,xL4,xL5,xL6])
       refine wpAnyH_done (by kernel_rfl) ?_ _
       clear hH3
       go_wp2
       go_ret
       exact ⟨rfl,HBB.out.trans (BB.mono HBB.out.size)⟩
      ·have HRG : Hid (rchZ s l = 0) := by
        obtain ⟨p,h1,h2,h3⟩ := HZ.out.1 rfl
        exact rchZ_stop s h1 h2 h3
       clear HZ hq HPS
       go_wp2_with fail
       refine (qzero_at _).mono ?_
       rintro e w6 ⟨r6,rfl,h6,b6⟩
       have HPS : Hid (qsz (rchZ s l) ≤ 41) := by show qsz (rchZ s l) ≤ 41; rw [HRG.out]; decide +kernel
       rw [← HRG.out] at h6
       obtain ⟨p6,a6,n6,c6,b6_,m6,d6,rfl⟩ := h6.open
       replace VW := VW.below b6
       replace BB := BB.trans (b6.mono BB.size)
       clear b6 v0 v1 v2 v3 v4 vs
       have hKp := VW.keepJ (.bool p6) (.slice a6 n6 c6) (.slice b6_ m6 d6)
       have VW_n := VW.same (.bool p6) (.slice a6 n6 c6) (.slice b6_ m6 d6)
       have h6_n := h6.keep hKp
       have BB_n := below_store3 (R := w2.heap.size) BB (by omega) (.bool p6) (.slice a6 n6 c6) (.slice b6_ m6 d6)
       clear hKp
       obtain ⟨VW_0,VW_1,VW_2,VW_3,VW_4,VW_5⟩ := id VW
       go_wp2
       clear VW_0 VW_1 VW_2 VW_3 VW_4 VW_5
       clear BB h6 VW
       generalize ((w6.setCell ⟨w2.heap.size,0,none⟩ (.bool p6)).setCell ⟨w2.heap.size,1,none⟩ (.slice a6 n6 c6)).setCell ⟨w2.heap.size,2,none⟩ (.slice b6_ m6 d6) = W111 at *
       have BB := BB_n
       have h6 := h6_n
       have VW := VW_n
       clear BB_n h6_n VW_n
       have hDr : Below W111.heap.size W111 W111.drew := (Below.refl _ _).drew
       replace h6 := h6.below hDr
       replace VW := VW.below hDr
       replace BB := BB.trans (hDr.mono BB.size)
       clear hDr
       refine wp_region_held_drew (S := (fun w' => w'.cell? ⟨w2.heap.size,0,none⟩ = some (.bool p6) ∧ w'.cell? ⟨w2.heap.size,1,none⟩ = some (.slice a6 n6 c6) ∧ w'.cell? ⟨w2.heap.size,2,none⟩ = some (.slice b6_ m6 d6) ∧ w'.cell? ⟨w.heap.size,0,none⟩ = some (.int .i64 nd))) (by kernel_rfl) ?_ (fun hHeld => ?_)
       ·exact ⟨VW.1,VW.2.1,VW.2.2.1,(HVL.out.below BB).c0⟩
       generalize W111.drew = W112 at *
       refine xT 0 (v := ?_) (hy := Or.inl ⟨by rfl,?_⟩) (h := ?_)
       rotate_left
       ·(intro w hSw; (try dsimp only at hSw); go_simp; (try with_reducible rfl))
       (try simp only [Act.put,xL4,xL5,xL6])
       refine xT 1 (v := ?_) (hy := Or.inl ⟨by rfl,?_⟩) (h := ?_)
       rotate_left
       ·(intro w hSw; (try dsimp only at hSw); go_simp; (try with_reducible rfl))
       (try simp only [Act.put,xL4,xL5,xL6])
       refine xT 2 (v := ?_) (hy := Or.inl ⟨by rfl,?_⟩) (h := ?_)
       rotate_left
       ·(intro w hSw; (try dsimp only at hSw); go_simp; (try with_reducible rfl))
       (try simp only [Act.put,xL4,xL5,xL6])
       refine xT 3 (v := ?_) (hy := Or.inl ⟨by rfl,?_⟩) (h := ?_)
       rotate_left
       ·(intro w hSw; (try dsimp only at hSw); go_simp; (try with_reducible rfl))
       (try simp only [Act.put,xL4,xL5,xL6])
       refine xT 4 (v := ?_) (hy := Or.inl ⟨by rfl,?_⟩) (h := ?_)
       rotate_left
       ·(intro w hSw; (try dsimp only at hSw); go_simp; (try with_reducible rfl))
       (try simp only [Act.put,xL4,xL5,xL6])
       refine xT 6 (v := ?_) (hy := Or.inl ⟨by rfl,?_⟩) (h := ?_)
       rotate_left
       ·(intro w hSw; (try dsimp only at hSw); go_simp; (try with_reducible rfl))
       (try simp only [Act.put,xL4,xL5,xL6])
       refine xR [5] (h := ?_)
       refine xN (h := fun K hK => ?_)
       go_simp
       refine (reach_at _ l nd false none none 0 0 0 0 s 3 _ (POS.out.below BB) hs64 (HT0.out.below (HBB.out.trans (BB.mono HBB.out.size))) (by omega) (by omega) (by have := HLI.out; omega) (by have := HLI.out; omega)).mono ?_
       rintro e w91 ⟨x8,rfl,h8,b91⟩
       obtain ⟨p8,a8,n8,c8,b8,k8,d8,rfl⟩ := h8.open
       go_wp2_with fail
       replace h6 := h6.below b91
       replace VW := VW.below b91
       replace BB := BB.trans (b91.mono BB.size)
       clear b91
       refine hK.out _ _ ?_ (fun hH1 => ?_)
       ·exact ⟨VW.1,VW.2.1,VW.2.2.1,(HVL.out.below BB).c0⟩
       clear hK K hHeld
       (try simp only [Act.put,xL4,xL5,xL6])
       refine xR [7] (h := ?_)
       refine xN (h := fun K hK => ?_)
       go_simp
       refine (is10_at _ _ _ 41 41 _ h8 HPS.out (h6.at 41 HPS.out) (by omega) (by omega)).mono ?_
       rintro e w92 ⟨rfl,b92⟩
       go_wp2_with fail
       replace h6 := h6.below b92
       replace h8 := h8.below b92
       replace VW := VW.below b92
       replace BB := BB.trans (b92.mono BB.size)
       clear b92
       refine hK.out _ _ ?_ (fun hH2 => ?_)
       ·exact ⟨VW.1,VW.2.1,VW.2.2.1,(HVL.out.below BB).c0⟩
       clear hK K hH1
       (try simp only [Act.put,xL4,xL5,xL6])
       refine xT 8 (v := ?_) (hy := Or.inl ⟨by rfl,?_⟩) (h := ?_)
       rotate_left
       ·(intro w hSw; (try dsimp only at hSw); go_simp; (try with_reducible rfl))
       (try simp only [Act.put,xL4,xL5,xL6])
       refine xR [9] (h := ?_)
       refine xN (h := fun K hK => ?_)
       go_simp
       refine (awake11_at _ (HT0.out.below (HBB.out.trans (BB.mono HBB.out.size)))).mono ?_
       rintro e w93 ⟨rfl,b93⟩
       go_wp2_with fail
       replace h6 := h6.below b93
       replace h8 := h8.below b93
       replace VW := VW.below b93
       replace BB := BB.trans (b93.mono BB.size)
       clear b93
       refine hK.out _ _ ?_ (fun hH3 => ?_)
       ·exact ⟨VW.1,VW.2.1,VW.2.2.1,(HVL.out.below BB).c0⟩
       clear hK K hH2
       (try simp only [Act.put,xL4,xL5,xL6])
       refine xT 10 (v := ?_) (hy := Or.inl ⟨by rfl,?_⟩) (h := ?_)
       rotate_left
       ·(intro w hSw; (try dsimp only at hSw); go_simp; (try with_reducible rfl))
       (try simp only [Act.put,xL4,xL5,xL6])
       refine xT 11 (v := ?_) (hy := Or.inl ⟨by rfl,?_⟩) (h := ?_)
       rotate_left
       ·(intro w hSw; (try dsimp only at hSw); go_simp; (try with_reducible rfl))
       (try simp only [Act.put,xL4,xL5,xL6])
       refine wpAnyH_done (by kernel_rfl) ?_ _
       clear hH3
       go_wp2
       go_ret
       exact ⟨rfl,HBB.out.trans (BB.mono HBB.out.size)⟩
   ·have j1 : ¬ (i : Int) < (n : Int) := by omega
    have j3 : decide ((i : Int) < (n : Int)) = false := decide_eq_false j1
    have j4 : decide (i < n) = false := decide_eq_false hn
    clear hn
    clear v0 v1 v2 v3 vs
    obtain ⟨l,hl⟩ : ∃ l,(List.range i).map t = l := ⟨_,rfl⟩
    rw [hl] at OS HLI
    have HLT : Hid ((List.range i).map t = l) := hl
    clear hl hin
    go_wp2_with fail
    clear v4
    refine (qone_at _).mono ?_
    rintro e w2 ⟨r1,rfl,h1,b2⟩
    obtain ⟨p1,a1,n1,c1,b1,m1,d1,rfl⟩ := h1.open
    replace OS := OS.below b2
    replace VL := VL.below b2
    replace BB := BB.trans (b2.mono BB.size)
    clear b2
    obtain ⟨W3,hW3,hS3,hL3,VW⟩ := V3.lay w2 40 (.bool p1) (.slice a1 n1 c1) (.slice b1 m1 d1)
    have POS : Hid (PRw 3 w2 (.slice ao i co) l) := OS.row
    have HVL : Hid (V5 w2 w.heap.size (.int .i64 nd) (.bool p0) (.slice a0 n0 c0) (.slice b0 m0 d0) (.slice ap n cp)) := VL
    have HBB : Hid (Below w.heap.size w w2) := BB
    replace h1 := h1.below hL3
    have BL : Below w2.heap.size w2 W3 := hL3
    clear hL3 OS VL BB
    go_wp2
    rw [← hW3]
    clear hW3 hS3
    go_loopw [9,10] (fun vz vi wr => ∃ (k : Nat) (z : Bool) (p : Bool) (a : Option Addr) (n1 c : Nat) (b : Option Addr) (m1 d : Nat),k ≤ i ∧ vi = .int .i64 (k : Int) ∧ vz = .bool z ∧ Hid (z = true ↔ ∃ p ∈ l.take k,inZ s p.feat = true ∧ p.ok = false) ∧ V3 wr w2.heap.size (.bool p) (.slice a n1 c) (.slice b m1 d) ∧ RepQ wr (.agg #[.bool p,.slice a n1 c,.slice b m1 d]) (prodL (shs s (l.take k))) ∧ Below w2.heap.size w2 wr) (fun _ vi _ => i - (intOf vi).toNat)
    case atStart => exact ⟨0,false,p1,a1,n1,c1,b1,m1,d1,by omega,rfl,rfl,⟨fun h => (by cases h),fun ⟨_,h,_⟩ => (by cases h)⟩,VW,h1,BL⟩
    case round =>
     clear VW h1 BL
     obtain ⟨k,z,p2,a2,n2,c2,b2,m2,d2,hk,rfl,rfl,HZ,VW,hq,BB⟩ := hrel
     by_cases hlt : k < i
     ·have g0 : (0 : Int) ≤ (k : Int) := by omega
      have g1 : (k : Int) < (i : Int) := by omega
      have wk : IntKind.i64.wrap ((k : Int) + 1) = (k : Int) + 1 := by rw [IntKind.wrap_i64]; omega
      obtain ⟨p,hp⟩ : ∃ p,l[k]? = some p := ⟨_,List.getElem?_eq_getElem (by have := HLI.out; omega)⟩
      have HTK : Hid (l.take (k + 1) = l.take k ++ [p]) := by
       show l.take (k + 1) = _
       rw [List.take_add_one,hp]
       rfl
      obtain ⟨b,off,cc,p4,a4,n4,c4,b4,m4,d4,hvv,hcc,X0,X1,X2,X3,X4,rs,i64⟩ := POS.out.at hp
      rw [HLI.out] at hvv
      cases hvv
      have K0 : Hid (Cel10 w2 b (off + k * 5) (.int .i64 p.feat)) := ⟨X0⟩
      have K1 : Hid (Cel10 w2 b (off + k * 5 + 1) (.bool p4)) := ⟨X1⟩
      have K2 : Hid (Cel10 w2 b (off + k * 5 + 2) (.slice a4 n4 c4)) := ⟨X2⟩
      have K3 : Hid (Cel10 w2 b (off + k * 5 + 3) (.slice b4 m4 d4)) := ⟨X3⟩
      have K4 : Hid (Cel10 w2 b (off + k * 5 + 4) (.bool p.ok)) := ⟨X4⟩
      have HRS : Hid (RatAt w2 (.agg #[.bool p4,.slice a4 n4 c4,.slice b4 m4 d4]) p.sh 3) := rs
      clear X0 X1 X2 X3 X4 rs hp hcc
      have x0 := (K0.out.below BB).cell
      have x4 := (K4.out.below BB).cell
      have HSZ : Hid (qsz (prodL (shs s (l.take k))) ≤ 41) := prod_few (POS.out) (by have := HLI.out; omega) k
      obtain ⟨f,hf⟩ : ∃ f,p.feat = f := ⟨_,rfl⟩
      have HF : Hid (p.feat = f) := hf
      rw [hf] at x0 i64
      clear hf
      by_cases hin : 0 ≤ f ∧ f < 64
      ·obtain ⟨fn,rfl⟩ : ∃ fn : Nat,f = (fn : Int) := ⟨f.toNat,by omega⟩
       have hfn : fn < 64 := by omega
       have n1_ : ¬ (fn : Int) < 0 := by omega
       have n2_ : ¬ (63 : Int) < (fn : Int) := by omega
       have n2b : decide ((63 : Int) < (fn : Int)) = false := decide_eq_false n2_
       have n3 : decide ((fn : Int) < 0) = false := decide_eq_false n1_
       have HIZ : Hid (inZ s p.feat = inS s fn) := by
        show _ = _
        rw [HF.out]
        exact inZ_nat s fn hfn
       clear hin
       go_wp2_with fail
       refine (lin_at s fn hs64 (by omega) _).mono ?_
       rintro e wx ⟨rfl,hwx⟩
       replace hwx := hwx.symm
       subst hwx
       obtain ⟨bz,hbz⟩ : ∃ bz,inS s fn = bz := ⟨_,rfl⟩
       rw [hbz] at HIZ ⊢
       clear hbz
       cases bz
       ·have HNI : Hid (inZ s p.feat = false) := HIZ
        have HSP : Hid (shs s (l.take (k + 1)) = shs s (l.take k) ++ [p.sh]) := by
         show shs s (l.take (k + 1)) = _
         rw [HTK.out,shs_app]
         show _ ++ (if inZ s p.feat = true then [] else [p.sh]) = _
         rw [HNI.out]
         rfl
        have HZ2 : Hid (z = true ↔ ∃ p ∈ l.take (k + 1),inZ s p.feat = true ∧ p.ok = false) := HZ.out.trans ⟨fun ⟨p9,h1,h2⟩ => ⟨p9,by rw [HTK.out]; exact List.mem_append_left _ h1,h2⟩,fun ⟨p9,h1,h2⟩ => by
         rw [HTK.out] at h1
         rcases List.mem_append.1 h1 with h | h
         ·exact ⟨p9,h,h2⟩
         ·rw [List.mem_singleton.1 h,HNI.out] at h2; cases h2.1⟩
        have HPM : Hid (prodL (shs s (l.take k)) * p.sh = prodL (shs s (l.take (k + 1)))) := by
         show _ = _
         rw [HSP.out,prodL_app]
         show _ = _ * (p.sh * 1)
         rw [Rat.mul_one]
        clear HZ
        go_wp2
        clear x0 x4
        have hDr : Below wr.heap.size wr wr.drew := (Below.refl _ _).drew
        replace hq := hq.below hDr
        replace VW := VW.below hDr
        replace BB := BB.trans (hDr.mono BB.size)
        clear hDr
        refine wp_region_held_drew (S := (fun w' => w'.cell? ⟨b,off + k * 5 + 1,none⟩ = some (.bool p4) ∧ w'.cell? ⟨b,off + k * 5 + 2,none⟩ = some (.slice a4 n4 c4) ∧ w'.cell? ⟨b,off + k * 5 + 3,none⟩ = some (.slice b4 m4 d4))) (by kernel_rfl) ?_ (fun hHeld => ?_)
        ·exact ⟨(K1.out.below BB).cell,(K2.out.below BB).cell,(K3.out.below BB).cell⟩
        generalize wr.drew = W91 at *
        refine xT 1 (v := ?_) (hy := Or.inl ⟨by rfl,?_⟩) (h := ?_)
        rotate_left
        ·(intro w hSw; (try dsimp only at hSw); go_simp; (try with_reducible rfl))
        (try simp only [Act.put,xL4,xL5,xL6])
        refine xT 2 (v := ?_) (hy := Or.inl ⟨by rfl,?_⟩) (h := ?_)
        rotate_left
        ·(intro w hSw; (try dsimp only at hSw); go_simp; (try with_reducible rfl))
        (try simp only [Act.put,xL4,xL5,xL6])
        refine xT 3 (v := ?_) (hy := Or.inl ⟨by rfl,?_⟩) (h := ?_)
        rotate_left
        ·(intro w hSw; (try dsimp only at hSw); go_simp; (try with_reducible rfl))
        (try simp only [Act.put,xL4,xL5,xL6])
        refine xT 4 (v := ?_) (hy := Or.inl ⟨by rfl,?_⟩) (h := ?_)
        rotate_left
        ·(intro w hSw; (try dsimp only at hSw); go_simp; (try with_reducible rfl))
        (try simp only [Act.put,xL4,xL5,xL6])
        refine xT 5 (v := ?_) (hy := Or.inl ⟨by rfl,?_⟩) (h := ?_)
        rotate_left
        ·(intro w hSw; (try dsimp only at hSw); go_simp; (try with_reducible rfl))
        (try simp only [Act.put,xL4,xL5,xL6])
        refine xR [0] (h := ?_)
        refine xN (h := fun K hK => ?_)
        obtain ⟨VW_0,VW_1,VW_2,VW_3,VW_4,VW_5⟩ := id VW
        go_simp
        clear VW_0 VW_1 VW_2 VW_3 VW_4 VW_5
        refine hK.out _ _ ?_ (fun hH1 => ?_)
        ·exact ⟨(K1.out.below BB).cell,(K2.out.below BB).cell,(K3.out.below BB).cell⟩
        clear hK K hHeld
        (try simp only [Act.put,xL4,xL5,xL6])
        refine xR [6] (h := ?_)
        refine xN (h := fun K hK => ?_)
        go_simp
        refine (qmul_at _ _ (prodL (shs s (l.take k))) p.sh 41 _ (hq.at _ HSZ.out) ((HRS.out.below BB).le (by omega)) (by omega) (by omega) (HT0.out.below (HBB.out.trans (BB.mono HBB.out.size)))).mono ?_
        rintro e w71 ⟨x8,rfl,h8,b71⟩
        rw [HPM.out] at h8
        obtain ⟨p8,a8,n8,c8,b8,k8,d8,rfl⟩ := h8.open
        go_wp2_with fail
        replace hq := hq.below b71
        replace VW := VW.below b71
        replace BB := BB.trans (b71.mono BB.size)
        clear b71
        refine hK.out _ _ ?_ (fun hH2 => ?_)
        ·exact ⟨(K1.out.below BB).cell,(K2.out.below BB).cell,(K3.out.below BB).cell⟩
        clear hK K hH1
        (try simp only [Act.put,xL4,xL5,xL6])
        refine xR [7] (h := ?_)
        refine xN (h := fun K hK => ?_)
        have hKp := VW.keepJ (.bool p8) (.slice a8 n8 c8) (.slice b8 k8 d8)
        have VW_n := VW.same (.bool p8) (.slice a8 n8 c8) (.slice b8 k8 d8)
        have hq_n := hq.keep hKp
        have h8_n := h8.keep hKp
        have BB_n := below_store3 (R := w2.heap.size) BB (by omega) (.bool p8) (.slice a8 n8 c8) (.slice b8 k8 d8)
        clear hKp
        obtain ⟨VW_0,VW_1,VW_2,VW_3,VW_4,VW_5⟩ := id VW
        go_simp
        clear VW_0 VW_1 VW_2 VW_3 VW_4 VW_5
        clear BB hq h8 VW
        generalize ((w71.setCell ⟨w2.heap.size,0,none⟩ (.bool p8)).setCell ⟨w2.heap.size,1,none⟩ (.slice a8 n8 c8)).setCell ⟨w2.heap.size,2,none⟩ (.slice b8 k8 d8) = W92 at *
        have BB := BB_n
        have hq := hq_n
        have h8 := h8_n
        have VW := VW_n
        clear BB_n hq_n h8_n VW_n
        refine hK.out _ _ ?_ (fun hH3 => ?_)
        ·exact ⟨(K1.out.below BB).cell,(K2.out.below BB).cell,(K3.out.below BB).cell⟩
        clear hK K hH2
        (try simp only [Act.put,xL4,xL5,xL6])
        refine wpAnyH_done (by kernel_rfl) ?_ _
        clear hH3
        go_wp2
        go_roundw
        case rel => exact ⟨k + 1,z,p8,a8,n8,c8,b8,k8,d8,by omega,by go_num,rfl,HZ2,VW,h8,BB⟩
        case measure => simp [intOf]; omega
       ·have HSP : Hid (shs s (l.take (k + 1)) = shs s (l.take k)) := by
         show shs s (l.take (k + 1)) = _
         rw [HTK.out,shs_app]
         show _ ++ (if inZ s p.feat = true then [] else [p.sh]) = _
         rw [HIZ.out]
         show shs s (l.take k) ++ [] = _
         rw [List.append_nil]
        obtain ⟨bk,hbk⟩ : ∃ bk,p.ok = bk := ⟨_,rfl⟩
        have HBK : Hid (p.ok = bk) := hbk
        rw [hbk] at x4
        clear hbk
        cases bk
        ·have HZ2 : Hid (∃ p ∈ l.take (k + 1),inZ s p.feat = true ∧ p.ok = false) := ⟨p,by rw [HTK.out]; simp,HIZ.out,HBK.out⟩
         clear HZ
         rw [← HSP.out] at hq
         go_wp2
         go_roundw
         case rel => exact ⟨k + 1,true,p2,a2,n2,c2,b2,m2,d2,by omega,by go_num,rfl,⟨fun _ => HZ2.out,fun _ => rfl⟩,VW,hq,BB⟩
         case measure => simp [intOf]; omega
        ·have HZ2 : Hid (z = true ↔ ∃ p ∈ l.take (k + 1),inZ s p.feat = true ∧ p.ok = false) := HZ.out.trans ⟨fun ⟨p9,h1,h2⟩ => ⟨p9,by rw [HTK.out]; exact List.mem_append_left _ h1,h2⟩,fun ⟨p9,h1,h2⟩ => by
          rw [HTK.out] at h1
          rcases List.mem_append.1 h1 with h | h
          ·exact ⟨p9,h,h2⟩
          ·rw [List.mem_singleton.1 h,HBK.out] at h2; cases h2.2⟩
         clear HZ
         rw [← HSP.out] at hq
         go_wp2
         go_roundw
         case rel => exact ⟨k + 1,z,p2,a2,n2,c2,b2,m2,d2,by omega,by go_num,rfl,HZ2,VW,hq,BB⟩
         case measure => simp [intOf]; omega
      ·have HNI : Hid (inZ s p.feat = false) := by
        show inZ s p.feat = false
        rw [HF.out]
        unfold inZ
        by_cases h : 0 ≤ f
        ·rw [decide_eq_false (show ¬ f < 64 by omega),Bool.and_false,Bool.false_and]
        ·rw [decide_eq_false h,Bool.false_and,Bool.false_and]
       by_cases hneg : f < 0
       ·have n1_ : decide (f < 0) = true := decide_eq_true hneg
        clear hin
        have HSP : Hid (shs s (l.take (k + 1)) = shs s (l.take k) ++ [p.sh]) := by
         show shs s (l.take (k + 1)) = _
         rw [HTK.out,shs_app]
         show _ ++ (if inZ s p.feat = true then [] else [p.sh]) = _
         rw [HNI.out]
         rfl
        have HZ2 : Hid (z = true ↔ ∃ p ∈ l.take (k + 1),inZ s p.feat = true ∧ p.ok = false) := HZ.out.trans ⟨fun ⟨p9,h1,h2⟩ => ⟨p9,by rw [HTK.out]; exact List.mem_append_left _ h1,h2⟩,fun ⟨p9,h1,h2⟩ => by
         rw [HTK.out] at h1
         rcases List.mem_append.1 h1 with h | h
         ·exact ⟨p9,h,h2⟩
         ·rw [List.mem_singleton.1 h,HNI.out] at h2; cases h2.1⟩
        have HPM : Hid (prodL (shs s (l.take k)) * p.sh = prodL (shs s (l.take (k + 1)))) := by
         show _ = _
         rw [HSP.out,prodL_app]
         show _ = _ * (p.sh * 1)
         rw [Rat.mul_one]
        clear HZ
        go_wp2
        clear x0 x4
        have hDr : Below wr.heap.size wr wr.drew := (Below.refl _ _).drew
        replace hq := hq.below hDr
        replace VW := VW.below hDr
        replace BB := BB.trans (hDr.mono BB.size)
        clear hDr
        refine wp_region_held_drew (S := (fun w' => w'.cell? ⟨b,off + k * 5 + 1,none⟩ = some (.bool p4) ∧ w'.cell? ⟨b,off + k * 5 + 2,none⟩ = some (.slice a4 n4 c4) ∧ w'.cell? ⟨b,off + k * 5 + 3,none⟩ = some (.slice b4 m4 d4))) (by kernel_rfl) ?_ (fun hHeld => ?_)
        ·exact ⟨(K1.out.below BB).cell,(K2.out.below BB).cell,(K3.out.below BB).cell⟩
        generalize wr.drew = W91 at *
        refine xT 1 (v := ?_) (hy := Or.inl ⟨by rfl,?_⟩) (h := ?_)
        rotate_left
        ·(intro w hSw; (try dsimp only at hSw); go_simp; (try with_reducible rfl))
        (try simp only [Act.put,xL4,xL5,xL6])
        refine xT 2 (v := ?_) (hy := Or.inl ⟨by rfl,?_⟩) (h := ?_)
        rotate_left
        ·(intro w hSw; (try dsimp only at hSw); go_simp; (try with_reducible rfl))
        (try simp only [Act.put,xL4,xL5,xL6])
        refine xT 3 (v := ?_) (hy := Or.inl ⟨by rfl,?_⟩) (h := ?_)
        rotate_left
        ·(intro w hSw; (try dsimp only at hSw); go_simp; (try with_reducible rfl))
        (try simp only [Act.put,xL4,xL5,xL6])
        refine xT 4 (v := ?_) (hy := Or.inl ⟨by rfl,?_⟩) (h := ?_)
        rotate_left
        ·(intro w hSw; (try dsimp only at hSw); go_simp; (try with_reducible rfl))
        (try simp only [Act.put,xL4,xL5,xL6])
        refine xT 5 (v := ?_) (hy := Or.inl ⟨by rfl,?_⟩) (h := ?_)
        rotate_left
        ·(intro w hSw; (try dsimp only at hSw); go_simp; (try with_reducible rfl))
        (try simp only [Act.put,xL4,xL5,xL6])
        refine xR [0] (h := ?_)
        refine xN (h := fun K hK => ?_)
        obtain ⟨VW_0,VW_1,VW_2,VW_3,VW_4,VW_5⟩ := id VW
        go_simp
        clear VW_0 VW_1 VW_2 VW_3 VW_4 VW_5
        refine hK.out _ _ ?_ (fun hH1 => ?_)
        ·exact ⟨(K1.out.below BB).cell,(K2.out.below BB).cell,(K3.out.below BB).cell⟩
        clear hK K hHeld
        (try simp only [Act.put,xL4,xL5,xL6])
        refine xR [6] (h := ?_)
        refine xN (h := fun K hK => ?_)
        go_simp
        refine (qmul_at _ _ (prodL (shs s (l.take k))) p.sh 41 _ (hq.at _ HSZ.out) ((HRS.out.below BB).le (by omega)) (by omega) (by omega) (HT0.out.below (HBB.out.trans (BB.mono HBB.out.size)))).mono ?_
        rintro e w71 ⟨x8,rfl,h8,b71⟩
        rw [HPM.out] at h8
        obtain ⟨p8,a8,n8,c8,b8,k8,d8,rfl⟩ := h8.open
        go_wp2_with fail
        replace hq := hq.below b71
        replace VW := VW.below b71
        replace BB := BB.trans (b71.mono BB.size)
        clear b71
        refine hK.out _ _ ?_ (fun hH2 => ?_)
        ·exact ⟨(K1.out.below BB).cell,(K2.out.below BB).cell,(K3.out.below BB).cell⟩
        clear hK K hH1
        (try simp only [Act.put,xL4,xL5,xL6])
        refine xR [7] (h := ?_)
        refine xN (h := fun K hK => ?_)
        have hKp := VW.keepJ (.bool p8) (.slice a8 n8 c8) (.slice b8 k8 d8)
        have VW_n := VW.same (.bool p8) (.slice a8 n8 c8) (.slice b8 k8 d8)
        have hq_n := hq.keep hKp
        have h8_n := h8.keep hKp
        have BB_n := below_store3 (R := w2.heap.size) BB (by omega) (.bool p8) (.slice a8 n8 c8) (.slice b8 k8 d8)
        clear hKp
        obtain ⟨VW_0,VW_1,VW_2,VW_3,VW_4,VW_5⟩ := id VW
        go_simp
        clear VW_0 VW_1 VW_2 VW_3 VW_4 VW_5
        clear BB hq h8 VW
        generalize ((w71.setCell ⟨w2.heap.size,0,none⟩ (.bool p8)).setCell ⟨w2.heap.size,1,none⟩ (.slice a8 n8 c8)).setCell ⟨w2.heap.size,2,none⟩ (.slice b8 k8 d8) = W92 at *
        have BB := BB_n
        have hq := hq_n
        have h8 := h8_n
        have VW := VW_n
        clear BB_n hq_n h8_n VW_n
        refine hK.out _ _ ?_ (fun hH3 => ?_)
        ·exact ⟨(K1.out.below BB).cell,(K2.out.below BB).cell,(K3.out.below BB).cell⟩
        clear hK K hH2
        (try simp only [Act.put,xL4,xL5,xL6])
        refine wpAnyH_done (by kernel_rfl) ?_ _
        clear hH3
        go_wp2
        go_roundw
        case rel => exact ⟨k + 1,z,p8,a8,n8,c8,b8,k8,d8,by omega,by go_num,rfl,HZ2,VW,h8,BB⟩
        case measure => simp [intOf]; omega
       ·have n1_ : decide (f < 0) = false := decide_eq_false hneg
        have n2_ : decide ((63 : Int) < f) = true := decide_eq_true (by omega)
        clear hin
        have HSP : Hid (shs s (l.take (k + 1)) = shs s (l.take k) ++ [p.sh]) := by
         show shs s (l.take (k + 1)) = _
         rw [HTK.out,shs_app]
         show _ ++ (if inZ s p.feat = true then [] else [p.sh]) = _
         rw [HNI.out]
         rfl
        have HZ2 : Hid (z = true ↔ ∃ p ∈ l.take (k + 1),inZ s p.feat = true ∧ p.ok = false) := HZ.out.trans ⟨fun ⟨p9,h1,h2⟩ => ⟨p9,by rw [HTK.out]; exact List.mem_append_left _ h1,h2⟩,fun ⟨p9,h1,h2⟩ => by
         rw [HTK.out] at h1
         rcases List.mem_append.1 h1 with h | h
         ·exact ⟨p9,h,h2⟩
         ·rw [List.mem_singleton.1 h,HNI.out] at h2; cases h2.1⟩
        have HPM : Hid (prodL (shs s (l.take k)) * p.sh = prodL (shs s (l.take (k + 1)))) := by
         show _ = _
         rw [HSP.out,prodL_app]
         show _ = _ * (p.sh * 1)
         rw [Rat.mul_one]
        clear HZ
        go_wp2
        clear x0 x4
        have hDr : Below wr.heap.size wr wr.drew := (Below.refl _ _).drew
        replace hq := hq.below hDr
        replace VW := VW.below hDr
        replace BB := BB.trans (hDr.mono BB.size)
        clear hDr
        refine wp_region_held_drew (S := (fun w' => w'.cell? ⟨b,off + k * 5 + 1,none⟩ = some (.bool p4) ∧ w'.cell? ⟨b,off + k * 5 + 2,none⟩ = some (.slice a4 n4 c4) ∧ w'.cell? ⟨b,off + k * 5 + 3,none⟩ = some (.slice b4 m4 d4))) (by kernel_rfl) ?_ (fun hHeld => ?_)
        ·exact ⟨(K1.out.below BB).cell,(K2.out.below BB).cell,(K3.out.below BB).cell⟩
        generalize wr.drew = W91 at *
        refine xT 1 (v := ?_) (hy := Or.inl ⟨by rfl,?_⟩) (h := ?_)
        rotate_left
        ·(intro w hSw; (try dsimp only at hSw); go_simp; (try with_reducible rfl))
        (try simp only [Act.put,xL4,xL5,xL6])
        refine xT 2 (v := ?_) (hy := Or.inl ⟨by rfl,?_⟩) (h := ?_)
        rotate_left
        ·(intro w hSw; (try dsimp only at hSw); go_simp; (try with_reducible rfl))
        (try simp only [Act.put,xL4,xL5,xL6])
        refine xT 3 (v := ?_) (hy := Or.inl ⟨by rfl,?_⟩) (h := ?_)
        rotate_left
        ·(intro w hSw; (try dsimp only at hSw); go_simp; (try with_reducible rfl))
        (try simp only [Act.put,xL4,xL5,xL6])
        refine xT 4 (v := ?_) (hy := Or.inl ⟨by rfl,?_⟩) (h := ?_)
        rotate_left
        ·(intro w hSw; (try dsimp only at hSw); go_simp; (try with_reducible rfl))
        (try simp only [Act.put,xL4,xL5,xL6])
        refine xT 5 (v := ?_) (hy := Or.inl ⟨by rfl,?_⟩) (h := ?_)
        rotate_left
        ·(intro w hSw; (try dsimp only at hSw); go_simp; (try with_reducible rfl))
        (try simp only [Act.put,xL4,xL5,xL6])
        refine xR [0] (h := ?_)
        refine xN (h := fun K hK => ?_)
        obtain ⟨VW_0,VW_1,VW_2,VW_3,VW_4,VW_5⟩ := id VW
        go_simp
        clear VW_0 VW_1 VW_2 VW_3 VW_4 VW_5
        refine hK.out _ _ ?_ (fun hH1 => ?_)
        ·exact ⟨(K1.out.below BB).cell,(K2.out.below BB).cell,(K3.out.below BB).cell⟩
        clear hK K hHeld
        (try simp only [Act.put,xL4,xL5,xL6])
        refine xR [6] (h := ?_)
        refine xN (h := fun K hK => ?_)
        go_simp
        refine (qmul_at _ _ (prodL (shs s (l.take k))) p.sh 41 _ (hq.at _ HSZ.out) ((HRS.out.below BB).le (by omega)) (by omega) (by omega) (HT0.out.below (HBB.out.trans (BB.mono HBB.out.size)))).mono ?_
        rintro e w71 ⟨x8,rfl,h8,b71⟩
        rw [HPM.out] at h8
        obtain ⟨p8,a8,n8,c8,b8,k8,d8,rfl⟩ := h8.open
        go_wp2_with fail
        replace hq := hq.below b71
        replace VW := VW.below b71
        replace BB := BB.trans (b71.mono BB.size)
        clear b71
        refine hK.out _ _ ?_ (fun hH2 => ?_)
        ·exact ⟨(K1.out.below BB).cell,(K2.out.below BB).cell,(K3.out.below BB).cell⟩
        clear hK K hH1
        (try simp only [Act.put,xL4,xL5,xL6])
        refine xR [7] (h := ?_)
        refine xN (h := fun K hK => ?_)
        have hKp := VW.keepJ (.bool p8) (.slice a8 n8 c8) (.slice b8 k8 d8)
        have VW_n := VW.same (.bool p8) (.slice a8 n8 c8) (.slice b8 k8 d8)
        have hq_n := hq.keep hKp
        have h8_n := h8.keep hKp
        have BB_n := below_store3 (R := w2.heap.size) BB (by omega) (.bool p8) (.slice a8 n8 c8) (.slice b8 k8 d8)
        clear hKp
        obtain ⟨VW_0,VW_1,VW_2,VW_3,VW_4,VW_5⟩ := id VW
        go_simp
        clear VW_0 VW_1 VW_2 VW_3 VW_4 VW_5
        clear BB hq h8 VW
        generalize ((w71.setCell ⟨w2.heap.size,0,none⟩ (.bool p8)).setCell ⟨w2.heap.size,1,none⟩ (.slice a8 n8 c8)).setCell ⟨w2.heap.size,2,none⟩ (.slice b8 k8 d8) = W92 at *
        have BB := BB_n
        have hq := hq_n
        have h8 := h8_n
        have VW := VW_n
        clear BB_n hq_n h8_n VW_n
        refine hK.out _ _ ?_ (fun hH3 => ?_)
        ·exact ⟨(K1.out.below BB).cell,(K2.out.below BB).cell,(K3.out.below BB).cell⟩
        clear hK K hH2
        (try simp only [Act.put,xL4,xL5,xL6])
        refine wpAnyH_done (by kernel_rfl) ?_ _
        clear hH3
        go_wp2
        go_roundw
        case rel => exact ⟨k + 1,z,p8,a8,n8,c8,b8,k8,d8,by omega,by go_num,rfl,HZ2,VW,h8,BB⟩
        case measure => simp [intOf]; omega
     ·obtain rfl : k = i := by omega
      have g1 : ¬ (k : Int) < (k : Int) := by omega
      have hli := HLI.out
      have HTA : Hid (l.take k = l) := by show l.take k = l; rw [← hli]; exact List.take_length
      rw [HTA.out] at HZ hq
      have HPS : Hid (qsz (prodL (shs s l)) ≤ 41) := by have h9 := prod_few (s := s) POS.out (by omega) k; rw [HTA.out] at h9; exact h9
      obtain ⟨v0,v1,v2,v3,v4,vs⟩ := HVL.out.below BB
      have hnd2 := hnd
      cases z
      ·have HRG : Hid (rchZ s l = prodL (shs s l)) := rchZ_go s (fun p hp h => by
        cases e : p.ok with
        | true => rfl
        | false => exact absurd (HZ.out.2 ⟨p,hp,h,e⟩) (by simp))
       rw [← HRG.out] at hq HPS
       clear HZ
       go_wp2
       have hDr : Below wr.heap.size wr wr.drew := (Below.refl _ _).drew
       replace hq := hq.below hDr
       replace VW := VW.below hDr
       replace BB := BB.trans (hDr.mono BB.size)
       clear hDr
       refine wp_region_held_drew (S := (fun w' => w'.cell? ⟨w2.heap.size,0,none⟩ = some (.bool p2) ∧ w'.cell? ⟨w2.heap.size,1,none⟩ = some (.slice a2 n2 c2) ∧ w'.cell? ⟨w2.heap.size,2,none⟩ = some (.slice b2 m2 d2) ∧ w'.cell? ⟨w.heap.size,0,none⟩ = some (.int .i64 nd))) (by kernel_rfl) ?_ (fun hHeld => ?_)
       ·exact ⟨VW.1,VW.2.1,VW.2.2.1,(HVL.out.below BB).c0⟩
       generalize wr.drew = W111 at *
       refine xT 0 (v := ?_) (hy := Or.inl ⟨by rfl,?_⟩) (h := ?_)
       rotate_left
       ·(intro w hSw; (try dsimp only at hSw); go_simp; (try with_reducible rfl))
       (try simp only [Act.put,xL4,xL5,xL6])
       refine xT 1 (v := ?_) (hy := Or.inl ⟨by rfl,?_⟩) (h := ?_)
       rotate_left
       ·(intro w hSw; (try dsimp only at hSw); go_simp; (try with_reducible rfl))
       (try simp only [Act.put,xL4,xL5,xL6])
       refine xT 2 (v := ?_) (hy := Or.inl ⟨by rfl,?_⟩) (h := ?_)
       rotate_left
       ·(intro w hSw; (try dsimp only at hSw); go_simp; (try with_reducible rfl))
       (try simp only [Act.put,xL4,xL5,xL6])
       refine xT 3 (v := ?_) (hy := Or.inl ⟨by rfl,?_⟩) (h := ?_)
       rotate_left
       ·(intro w hSw; (try dsimp only at hSw); go_simp; (try with_reducible rfl))
       (try simp only [Act.put,xL4,xL5,xL6])
       refine xT 4 (v := ?_) (hy := Or.inl ⟨by rfl,?_⟩) (h := ?_)
       rotate_left
       ·(intro w hSw; (try dsimp only at hSw); go_simp; (try with_reducible rfl))
       (try simp only [Act.put,xL4,xL5,xL6])
       refine xT 6 (v := ?_) (hy := Or.inl ⟨by rfl,?_⟩) (h := ?_)
       rotate_left
       ·(intro w hSw; (try dsimp only at hSw); go_simp; (try with_reducible rfl))
       (try simp only [Act.put,xL4,xL5,xL6])
       refine xR [5] (h := ?_)
       refine xN (h := fun K hK => ?_)
       go_simp
       refine (reach_at _ l nd false none none 0 0 0 0 s 3 _ (POS.out.below BB) hs64 (HT0.out.below (HBB.out.trans (BB.mono HBB.out.size))) (by omega) (by omega) (by have := HLI.out; omega) (by have := HLI.out; omega)).mono ?_
       rintro e w91 ⟨x8,rfl,h8,b91⟩
       obtain ⟨p8,a8,n8,c8,b8,k8,d8,rfl⟩ := h8.open
       go_wp2_with fail
       replace hq := hq.below b91
       replace VW := VW.below b91
       replace BB := BB.trans (b91.mono BB.size)
       clear b91
       refine hK.out _ _ ?_ (fun hH1 => ?_)
       ·exact ⟨VW.1,VW.2.1,VW.2.2.1,(HVL.out.below BB).c0⟩
       clear hK K hHeld
       (try simp only [Act.put,xL4,xL5,xL6])
       refine xR [7] (h := ?_)
       refine xN (h := fun K hK => ?_)
       go_simp
       refine (is10_at _ _ _ 41 41 _ h8 HPS.out (hq.at 41 HPS.out) (by omega) (by omega)).mono ?_
       rintro e w92 ⟨rfl,b92⟩
       go_wp2_with fail
       replace hq := hq.below b92
       replace h8 := h8.below b92
       replace VW := VW.below b92
       replace BB := BB.trans (b92.mono BB.size)
       clear b92
       refine hK.out _ _ ?_ (fun hH2 => ?_)
       ·exact ⟨VW.1,VW.2.1,VW.2.2.1,(HVL.out.below BB).c0⟩
       clear hK K hH1
       (try simp only [Act.put,xL4,xL5,xL6])
       refine xT 8 (v := ?_) (hy := Or.inl ⟨by rfl,?_⟩) (h := ?_)
       rotate_left
       ·(intro w hSw; (try dsimp only at hSw); go_simp; (try with_reducible rfl))
       (try simp only [Act.put,xL4,xL5,xL6])
       refine xR [9] (h := ?_)
       refine xN (h := fun K hK => ?_)
       go_simp
       refine (awake11_at _ (HT0.out.below (HBB.out.trans (BB.mono HBB.out.size)))).mono ?_
       rintro e w93 ⟨rfl,b93⟩
       go_wp2_with fail
       replace hq := hq.below b93
       replace h8 := h8.below b93
       replace VW := VW.below b93
       replace BB := BB.trans (b93.mono BB.size)
       clear b93
       refine hK.out _ _ ?_ (fun hH3 => ?_)
       ·exact ⟨VW.1,VW.2.1,VW.2.2.1,(HVL.out.below BB).c0⟩
       clear hK K hH2
       (try simp only [Act.put,xL4,xL5,xL6])
       refine xT 10 (v := ?_) (hy := Or.inl ⟨by rfl,?_⟩) (h := ?_)
       rotate_left
       ·(intro w hSw; (try dsimp only at hSw); go_simp; (try with_reducible rfl))
       (try simp only [Act.put,xL4,xL5,xL6])
       refine xT 11 (v := ?_) (hy := Or.inl ⟨by rfl,?_⟩) (h := ?_)
       rotate_left
       ·(intro w hSw; (try dsimp only at hSw); go_simp; (try with_reducible rfl))
       (try simp only [Act.put,xL4,xL5,xL6])
       refine wpAnyH_done (by kernel_rfl) ?_ _
       clear hH3
       go_wp2
       go_ret
       exact ⟨rfl,HBB.out.trans (BB.mono HBB.out.size)⟩
      ·have HRG : Hid (rchZ s l = 0) := by
        obtain ⟨p,h1,h2,h3⟩ := HZ.out.1 rfl
        exact rchZ_stop s h1 h2 h3
       clear HZ hq HPS
       go_wp2_with fail
       refine (qzero_at _).mono ?_
       rintro e w6 ⟨r6,rfl,h6,b6⟩
       have HPS : Hid (qsz (rchZ s l) ≤ 41) := by show qsz (rchZ s l) ≤ 41; rw [HRG.out]; decide +kernel
       rw [← HRG.out] at h6
       obtain ⟨p6,a6,n6,c6,b6_,m6,d6,rfl⟩ := h6.open
       replace VW := VW.below b6
       replace BB := BB.trans (b6.mono BB.size)
       clear b6 v0 v1 v2 v3 v4 vs
       have hKp := VW.keepJ (.bool p6) (.slice a6 n6 c6) (.slice b6_ m6 d6)
       have VW_n := VW.same (.bool p6) (.slice a6 n6 c6) (.slice b6_ m6 d6)
       have h6_n := h6.keep hKp
       have BB_n := below_store3 (R := w2.heap.size) BB (by omega) (.bool p6) (.slice a6 n6 c6) (.slice b6_ m6 d6)
       clear hKp
       obtain ⟨VW_0,VW_1,VW_2,VW_3,VW_4,VW_5⟩ := id VW
       go_wp2
       clear VW_0 VW_1 VW_2 VW_3 VW_4 VW_5
       clear BB h6 VW
       generalize ((w6.setCell ⟨w2.heap.size,0,none⟩ (.bool p6)).setCell ⟨w2.heap.size,1,none⟩ (.slice a6 n6 c6)).setCell ⟨w2.heap.size,2,none⟩ (.slice b6_ m6 d6) = W111 at *
       have BB := BB_n
       have h6 := h6_n
       have VW := VW_n
       clear BB_n h6_n VW_n
       have hDr : Below W111.heap.size W111 W111.drew := (Below.refl _ _).drew
       replace h6 := h6.below hDr
       replace VW := VW.below hDr
       replace BB := BB.trans (hDr.mono BB.size)
       clear hDr
       refine wp_region_held_drew (S := (fun w' => w'.cell? ⟨w2.heap.size,0,none⟩ = some (.bool p6) ∧ w'.cell? ⟨w2.heap.size,1,none⟩ = some (.slice a6 n6 c6) ∧ w'.cell? ⟨w2.heap.size,2,none⟩ = some (.slice b6_ m6 d6) ∧ w'.cell? ⟨w.heap.size,0,none⟩ = some (.int .i64 nd))) (by kernel_rfl) ?_ (fun hHeld => ?_)
       ·exact ⟨VW.1,VW.2.1,VW.2.2.1,(HVL.out.below BB).c0⟩
       generalize W111.drew = W112 at *
       refine xT 0 (v := ?_) (hy := Or.inl ⟨by rfl,?_⟩) (h := ?_)
       rotate_left
       ·(intro w hSw; (try dsimp only at hSw); go_simp; (try with_reducible rfl))
       (try simp only [Act.put,xL4,xL5,xL6])
       refine xT 1 (v := ?_) (hy := Or.inl ⟨by rfl,?_⟩) (h := ?_)
       rotate_left
       ·(intro w hSw; (try dsimp only at hSw); go_simp; (try with_reducible rfl))
       (try simp only [Act.put,xL4,xL5,xL6])
       refine xT 2 (v := ?_) (hy := Or.inl ⟨by rfl,?_⟩) (h := ?_)
       rotate_left
       ·(intro w hSw; (try dsimp only at hSw); go_simp; (try with_reducible rfl))
       (try simp only [Act.put,xL4,xL5,xL6])
       refine xT 3 (v := ?_) (hy := Or.inl ⟨by rfl,?_⟩) (h := ?_)
       rotate_left
       ·(intro w hSw; (try dsimp only at hSw); go_simp; (try with_reducible rfl))
       (try simp only [Act.put,xL4,xL5,xL6])
       refine xT 4 (v := ?_) (hy := Or.inl ⟨by rfl,?_⟩) (h := ?_)
       rotate_left
       ·(intro w hSw; (try dsimp only at hSw); go_simp; (try with_reducible rfl))
       (try simp only [Act.put,xL4,xL5,xL6])
       refine xT 6 (v := ?_) (hy := Or.inl ⟨by rfl,?_⟩) (h := ?_)
       rotate_left
       ·(intro w hSw; (try dsimp only at hSw); go_simp; (try with_reducible rfl))
       (try simp only [Act.put,xL4,xL5,xL6])
       refine xR [5] (h := ?_)
       refine xN (h := fun K hK => ?_)
       go_simp
       refine (reach_at _ l nd false none none 0 0 0 0 s 3 _ (POS.out.below BB) hs64 (HT0.out.below (HBB.out.trans (BB.mono HBB.out.size))) (by omega) (by omega) (by have := HLI.out; omega) (by have := HLI.out; omega)).mono ?_
       rintro e w91 ⟨x8,rfl,h8,b91⟩
       obtain ⟨p8,a8,n8,c8,b8,k8,d8,rfl⟩ := h8.open
       go_wp2_with fail
       replace h6 := h6.below b91
       replace VW := VW.below b91
       replace BB := BB.trans (b91.mono BB.size)
       clear b91
       refine hK.out _ _ ?_ (fun hH1 => ?_)
       ·exact ⟨VW.1,VW.2.1,VW.2.2.1,(HVL.out.below BB).c0⟩
       clear hK K hHeld
       (try simp only [Act.put,xL4,xL5,xL6])
       refine xR [7] (h := ?_)
       refine xN (h := fun K hK => ?_)
       go_simp
       refine (is10_at _ _ _ 41 41 _ h8 HPS.out (h6.at 41 HPS.out) (by omega) (by omega)).mono ?_
       rintro e w92 ⟨rfl,b92⟩
       go_wp2_with fail
       replace h6 := h6.below b92
       replace h8 := h8.below b92
       replace VW := VW.below b92
       replace BB := BB.trans (b92.mono BB.size)
       clear b92
       refine hK.out _ _ ?_ (fun hH2 => ?_)
       ·exact ⟨VW.1,VW.2.1,VW.2.2.1,(HVL.out.below BB).c0⟩
       clear hK K hH1
       (try simp only [Act.put,xL4,xL5,xL6])
       refine xT 8 (v := ?_) (hy := Or.inl ⟨by rfl,?_⟩) (h := ?_)
       rotate_left
       ·(intro w hSw; (try dsimp only at hSw); go_simp; (try with_reducible rfl))
       (try simp only [Act.put,xL4,xL5,xL6])
       refine xR [9] (h := ?_)
       refine xN (h := fun K hK => ?_)
       go_simp
       refine (awake11_at _ (HT0.out.below (HBB.out.trans (BB.mono HBB.out.size)))).mono ?_
       rintro e w93 ⟨rfl,b93⟩
       go_wp2_with fail
       replace h6 := h6.below b93
       replace h8 := h8.below b93
       replace VW := VW.below b93
       replace BB := BB.trans (b93.mono BB.size)
       clear b93
       refine hK.out _ _ ?_ (fun hH3 => ?_)
       ·exact ⟨VW.1,VW.2.1,VW.2.2.1,(HVL.out.below BB).c0⟩
       clear hK K hH2
       (try simp only [Act.put,xL4,xL5,xL6])
       refine xT 10 (v := ?_) (hy := Or.inl ⟨by rfl,?_⟩) (h := ?_)
       rotate_left
       ·(intro w hSw; (try dsimp only at hSw); go_simp; (try with_reducible rfl))
       (try simp only [Act.put,xL4,xL5,xL6])
       refine xT 11 (v := ?_) (hy := Or.inl ⟨by rfl,?_⟩) (h := ?_)
       rotate_left
       ·(intro w hSw; (try dsimp only at hSw); go_simp; (try with_reducible rfl))
       (try simp only [Act.put,xL4,xL5,xL6])
       refine wpAnyH_done (by kernel_rfl) ?_ _
       clear hH3
       go_wp2
       go_ret
       exact ⟨rfl,HBB.out.trans (BB.mono HBB.out.size)⟩
theorem own : ownKnob Tryz.prog.godebug = none := by kernel_rfl
theorem laidOut : laidOutB Tryz.prog = true := by kernel_rfl

abbrev laid1 : List (String × DataW Unit) := [("math/bits.deBruijn64tab",Rows.laid_math_bits_deBruijn64tab)]
theorem gTab : Tryz.prog.globalNamed "math/bits.deBruijn64tab" = some 0 := by kernel_rfl
theorem gTabType : (Tryz.prog.globals[0]?).map (·.type) = some 250 := by kernel_rfl
theorem uTab : Tryz.prog.underlying 250 = some (.array 64 5) := by kernel_rfl
theorem uCell : Tryz.prog.underlying 5 = some (.int .u8) := by kernel_rfl
theorem cCell : Tryz.prog.cellsOf 5 = 1 := by kernel_rfl
theorem cTab : Tryz.prog.cellsOf 250 = 64 := by kernel_rfl
/-- The listed table lies in its cells. -/
theorem tab_of {W : World} (h : laidMetH Tryz.prog laid1 W) : Tab W := by
 rw [MakeChecks.laidMetH_plain _ _ _ (by kernel_rfl)] at h
 have hd : laid1 = [("math/bits.deBruijn64tab",Lib.tabData .u8 (Lib.deBruijn64tab.map fun (n : Nat) => Int.ofNat n))] := rfl
 rw [hd] at h
 have hT := Lib.tabIs_of_head gTab gTabType uTab uCell cCell cTab h
 intro i hi
 have hc := hT.cell gTab i (by rw [List.length_map]; exact hi)
 rw [hc]
 congr 2
 rw [List.getD_eq_getElem?_getD,List.getElem?_map,List.getD_eq_getElem?_getD]
 cases Lib.deBruijn64tab[i]? <;> rfl
/-- A start for the witness: the heap that the run of the program's own initialisers leaves. -/
noncomputable def startW (os : Os) : World := { World.holding Tryz.prog os ⟨#[],#[],[]⟩ with heap := (varsWorld Tryz.prog 400 (varsId Tryz.prog) os (fun _ _ => 0)).heap }
theorem start_met (os : Os) (args : Array Value) : laidMetH Tryz.prog laid1 ((startW os).forCall (fun _ _ => 0) ⟨#[],args,[]⟩).memory :=
 laidMetH_of_parts3 (fuel := 8) (laidMet_of_run' 8 (by kernel_rfl) (by kernel_rfl)) (by kernel_rfl) (by kernel_rfl)

set_option maxRecDepth 100000 in
theorem lifted (os : Os) (started : os.Started) (H : Type) (enc : TypeId × Value → H) :
  ReturnsInHanded {} Tryz.checked os 6 .any (fun w args => (Rows.expectReachSpec.pre enc Tryz.prog Tryz.f6 [] false w args ∧ laidMetH Tryz.prog laid1 w) ∧ sizedMet enc Tryz.prog Tryz.f6 (OpenSpec.ofChange Rows.expectReachSpec) false w args) (Rows.expectReachSpec.post enc Tryz.prog Tryz.f6 false true false false) := by
 refine returnsInHanded_of_change_and (C := Tryz.checked) (X := fun w _ => laidMetH Tryz.prog laid1 w) (fun _ _ _ hh h => h.of_heap hh) own started (by kernel_rfl) Tryz.func6
  (ChangeSpec.witness_shaped (enc := enc) (C := Tryz.checked) (os := os) (X := fun w _ => laidMetH Tryz.prog laid1 w) false (startW os) #[.agg #[.int .i64 0,.bool false,.slice none 0 0,.slice none 0 0,.slice none 0 0],.int .u64 0] 8 rfl (World.shaped_of_RefB (by kernel_rfl) (by kernel_rfl)) (by kernel_rfl) (by kernel_rfl) (by kernel_rfl) (start_met os _)) ?_
 intro W base args ds gs before hval0 hW _ _ hL _
 have hval : ∀ (j : Nat) t v,Tryz.f6.params[j]? = some t → args[j]? = some v → Value.okWide Tryz.prog W .any base t v := hval0
 have hW' := hW
 obtain ⟨p,q,hA0,hV,rfl,hfz,hnd⟩ := hW
 have hA : DataW.TrodAll enc Tryz.prog W 0 (fun _ => true) true Tryz.f6.params.toList args.toList ds p := hA0
 rw [Tryz.params6] at hA hval
 obtain ⟨v0,vs0,d0,ds0,p0,q0,hargs,rfl,rfl,h0,r0⟩ := trodAll_cons hA
 obtain ⟨v1,vs1,d1,ds1,p1,q1,rfl,rfl,rfl,h1,r1⟩ := trodAll_cons r0
 obtain ⟨rfl,rfl,rfl⟩ := trodAll_nil r1
 obtain rfl : args = #[v0,v1] := by cases args; simp_all
 obtain ⟨rfl,rfl⟩ := trodVars_none hV
 have k0 := h0
 have lt0 : ∀ x ∈ p0,x.block < W.heap.size := by obtain ⟨m,hm⟩ := k0; exact DataW.trod_lt m _ _ _ hm
 obtain ⟨n0,z0,w0⟩ := open_leg 3 (hval 0 55 v0 rfl rfl) h0
 obtain ⟨a1,rfl,rfl,rfl,w1⟩ := open_int Tryz.underlying42 (hval 1 42 v1 rfl rfl) h1
 clear hA0 hval0
 refine (walk _ _ _ a1 W w0 w1 (tab_of hL)).mono fun e W' ⟨he,bel⟩ => ?_
 subst he
 exact ⟨_,rfl,_,_,_,[],_,[],hW',trodAll_mk1 (shut_bool Tryz.underlying4 _),(trodAll_cons_mk (Below.trod laidOut (by kernel_rfl) (of_decide_eq_true (by kernel_rfl)) k0 bel lt0) (trodAll_cons_mk (shut_int Tryz.underlying42 w1) trodAll_mk0)),rfl,bel.frame _,fun h => by cases h⟩

theorem over : Rows.expectReachRow.holds Tryz.pinned (OpenSpec.ofChange Rows.expectReachSpec) :=
 OpenClaim.holds_of_wide 6 Tryz.f6 rfl rfl rfl rfl rfl rfl rfl ⟨rfl,rfl,rfl,rfl,rfl⟩ rfl rfl rfl rfl rfl (by kernel_rfl) Tryz.func6 (by kernel_rfl)
  (of_decide_eq_true (by kernel_rfl)) (by unfold Func.isWrapper; first | (rw [if_pos (by decide +kernel)]; kernel_rfl) | (rw [if_neg (by decide +kernel)]; exact ⟨rfl,rfl⟩))
  (fun os started H enc _ => lifted os started H enc)

end Go.Proofs.YtgddiimnpliolaaGreatDoor.expectReach
namespace Go.Proofs.YtgddiimnpliolaaGreatDoor
/-- The statement: the row, tied to the text of the program. -/
theorem expectReach_holds : Rows.ExpectReachCardSaid :=
 Claim7.holds_tied_plain_at .later [] [.data] true (true,"dcc389e807bc8d5f1a990ce784507b20bf5010e9b0176c6e9255f5a052bf5811") false
  expectReach.over (fun _ h => by cases h) (by kernel_rfl) (fun _ h => by cases h) expectReach_row_tie rfl ⟨rfl,rfl⟩ (by kernel_rfl) rfl
  (fun f fn hf hfn => by
   obtain rfl : f = 6 := Option.some.inj ((show Tryz.prog.funcNamed "dendron/dendronlaw11.ExpectReach" = some 6 by kernel_rfl).symm.trans hf) |>.symm
   obtain rfl : fn = Tryz.f6 := (Option.some.inj (Tryz.func6.symm.trans hfn)).symm
   exact ⟨by kernel_rfl,fun j t ht => by
    rw [Tryz.params6] at ht
    have hm : t ∈ [55,42] := by simpa using Array.mem_of_getElem? ht
    have hall : ([55,42].all fun u => !Tryz.prog.wantsStandIn u) = true := by kernel_rfl
    exact (show Tryz.prog.wantsStandIn t = false by simpa using List.all_eq_true.1 hall t hm)⟩)
  (by kernel_rfl)
end Go.Proofs.YtgddiimnpliolaaGreatDoor
