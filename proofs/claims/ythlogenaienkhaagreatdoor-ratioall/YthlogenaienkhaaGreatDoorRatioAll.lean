/-
 Proves that Sum and Mean answer the sum and the mean of any list of rational numbers,of up to 12 of up to 2 limbs each,or that there is none,whatever comes in (the statement RatioAll,its tied card); the table of math/bits lies as the program's text lays it; no other condition.
-/
import Derived.Test.YthlogenaienkhaaGreatDoorJ1233da0a2f
import Derived.Test.YthlogenaienkhaaGreatDoorRows
import Derived.Test.YthlogenaienkhaaGreatDoorJ281eb43556
import Derived.Test.YthlogenaienkhaaGreatDoorJ05dc961424
import Derived.WalkKit
import Derived.ProofKit
import Derived.OpenShut
import Derived.ShutString
import Derived.ChangeOld
import Derived.Below
import Derived.Test.YthlogenaienkhaaGreatDoorTie
import Derived.Test.YthlogenaienkhaaGreatDoorCards
import Derived.LaidByTextLater
import Derived.LaidHandle
import Derived.Lib.LaidTab
import Derived.SevenTiedAt
namespace Go.Proofs.YthlogenaienkhaaGreatDoor.ratioAll
open Go.ChangeShapes Go.WideShapes Go.ChangeAt Go.RowKit
open Go.ChangeMaps (open_string shut_string)
set_option linter.unusedVariables false
set_option linter.unusedSimpArgs false

def KLIST : Nat := 2
theorem mean_eq (s : Rat) (i : Nat) (h : 0 < i) : s / ((i : Int) : Rat) = s * mkRat 1 i := by
 rw [Rat.div_def,Rat.mkRat_eq_div,Rat.div_def,Rat.intCast_one,Rat.one_mul]; rfl
theorem qsz_one_of (i : Nat) (h : i ≤ 12) : qsz (mkRat 1 i) ≤ 2 := by
 have : ∀ j,j ≤ 12 → qsz (mkRat 1 j) ≤ 2 := by decide +kernel
 exact this i h
set_option maxRecDepth 100000 in
set_option maxHeartbeats 16000000 in
theorem walk (v : Value) (n : Nat) (q : Nat → Rat) (w : World) (hv : RawQ w v n q KLIST) (ht : Tab w) :
  Calls Tryz.prog 3 #[v] w fun e w' => e = .returned (.bool true) ∧ Below w.heap.size w w' := by
 have hT : Hid (Tab w) := ht
 clear ht
 unfold KLIST at hv
 have HV : Hid (RawQ w v n q 2) := hv
 obtain ⟨el,⟨a,c,rfl,hnc,hcm,_⟩,_⟩ := hv
 have BB : Below w.heap.size w w := Below.refl _ _
 go_enter Tryz.func3,Tryz.ntmps3
 go_wp2_with fail
 refine (jsmall_at 0 1 _ (by omega) (by omega) (by omega) (by omega)).mono ?_
 rintro e w1 ⟨r,rfl,Jw,b1⟩
 replace BB := BB.trans (b1.mono BB.size)
 clear b1
 obtain ⟨p3,a3,n3,c3,bo3,m3,d3,rfl⟩ := Jw.open
 have hZ1 : w.heap.size ≤ w1.heap.size := BB.size
 obtain ⟨W1,hW1,hS1,hL1,VW⟩ := V3.lay w1 28 (.bool p3) (.slice a3 n3 c3) (.slice bo3 m3 d3)
 replace Jw := Jw.below hL1
 replace BB := BB.trans (hL1.mono BB.size)
 clear hL1
 go_wp2
 rw [← hW1]
 generalize w1.heap.size = R1 at *
 clear hW1 hS1
 have hz0 : Hid (mkRat 0 1 = sumq q 0) := by show mkRat 0 1 = (0 : Rat); decide +kernel
 go_loopw [3,5] (fun vm vi wr => ∃ (i : Nat) (p : Bool) (ao : Option Addr) (m c : Nat) (bo : Option Addr) (k d : Nat),i ≤ n ∧ i ≤ 12 ∧ vi = .int .i64 (i : Int) ∧ V3 wr R1 (.bool p) (.slice ao m c) (.slice bo k d) ∧ DocQ wr (.agg #[.bool p,.slice ao m c,.slice bo k d]) (sumq q i) (2 + 3 * i) ∧ QOwn (R1 + 1) wr vm i q 2 ∧ Below w.heap.size w wr) (fun _ vi _ => (13 - intOf vi).toNat)
 case atStart => exact ⟨0,p3,a3,n3,c3,bo3,m3,d3,by omega,by omega,rfl,VW,by rw [← hz0.out]; exact Jw,QOwn.nil _ _ _ _,BB⟩
 case round =>
  clear Jw VW BB
  obtain ⟨i,p,ao,m,c',bo,k,d,hin,hi12,rfl,V,J,O,B⟩ := hrel
  by_cases hgo : i < n ∧ i < 12
  ·have j1 : (i : Int) < (n : Int) := by omega
   have j2 : (i : Int) < 12 := by omega
   have i0 : (0 : Int) ≤ (i : Int) := by omega
   obtain ⟨b,off,cc,s,ao1,l,d1,bo1,k1,e1,f,g,hvv,hcc,x0,x1,x2,hraw,hraw2,hz⟩ := HV.out.at i hgo.1
   cases hvv
   have HC : E3 w b (off + i * 3) (.bool s) (.slice ao1 l d1) (.slice bo1 k1 e1) := ⟨x0,x1,x2⟩
   have hbR : b ≠ R1 := by have := HC.lt; omega
   clear x0 x1 x2
   have HZ : Hid (q i = mkRat (zof s (num f (min l 2))) (num g (min k1 2))) := hz
   clear hz
   have r1 := hraw.below B
   have r2 := hraw2.below B
   obtain ⟨x0,x1,x2⟩ := HC.below B
   go_wp2_with fail
   clear x0 x1 x2
   refine (tiny_at _ _ _ _ _ _ _ _ r1 r2).mono ?_
   rintro e w4 ⟨ao4,c4,bo4,d4,rfl,hu4,uf4,hv4,vf4,b4⟩
   have X4 : RatAt w4 (.agg #[.bool s,.slice ao4 (min l 2) c4,.slice bo4 (min k1 2) d4]) (q i) 2 := by rw [HZ.out]; exact RatAt.raw hu4 uf4 hv4 vf4 (Nat.min_le_right _ _) (Nat.min_le_right _ _)
   clear hu4 uf4 hv4 vf4
   generalize min l 2 = l4 at X4 ⊢
   generalize min k1 2 = k4 at X4 ⊢
   obtain ⟨us,el',o1,o2,o3,o4⟩ := O
   have hul : us.length = i * 3 := o1.1
   have HO3 : Hid (∀ i',i' < i → ∀ j,j < 3 → us[i' * 3 + j]? = some (el' i' j)) := o3
   have HO4 : Hid (∀ i',i' < i → RatAt wr (.agg #[el' i' 0,el' i' 1,el' i' 2]) (q i') 2) := o4
   have hwr : R1 + 1 ≤ wr.heap.size := V.lt
   have b4' : Below wr.heap.size wr (w4.alloc (.cells #[.bool s,.slice ao4 l4 c4,.slice bo4 k4 d4] 35)) := b4.alloc b4.size _
   have hPO : Hid (∀ g0,Value.ownBlock u3 = some g0 → PureB IsNum (w4.alloc (.cells #[.bool s,.slice ao4 l4 c4,.slice bo4 k4 d4] 35)) g0) := fun g0 hg0 => (o2 g0 hg0).below b4' (o1.lt g0 hg0).2
   have hlt : Hid (∀ g0,Value.ownBlock u3 = some g0 → R1 + 1 ≤ g0) := fun g0 hg0 => (o1.lt g0 hg0).1
   clear o2 o3 o4 r1 r2
   go_wp2_with (at_builtin; refine wpList_append_pure (Q' := IsNum) rfl _ _ _ rfl (R1 + 1) 35 (.agg #[.bool false,.slice none 0 0,.slice none 0 0]) 3 56 Tryz.underlying22 info_wrat rfl (by omega) u3 rfl i us ((owns_later o1 b4).alloc _) hPO.out ⟨w4.heap.size,0,none⟩ 1 rfl [.bool s,.slice ao4 l4 c4,.slice bo4 k4 d4] rfl (news_block (heap_alloc_new _ _)) (by simp [Value.oneCell']) (by simp [num_slice,num_bool]) (by simp [Value.cells,num_slice,num_bool]) (by omega) (by omega) (by have := b4'.size; simp at this ⊢; omega) ?_)
   intro g5 cap5 w5 ho5 hg5 hat5 hp5 hk5
   have E : QOwn (R1 + 1) w5 (.slice (some ⟨g5,0,none⟩) (i + 1) cap5) (i + 1) q 2 := QOwn.more ho5 hp5 hul HO3.out (fun i' hi' => (HO4.out i' hi').below b4') (X4.below ((Below.refl _ _).alloc (Nat.le_refl _) _)) hk5
   have B4 := B.trans (b4'.mono B.size)
   have BB : Below w.heap.size w w5 := below_grownB B4 hg5 (by have := B4.size; omega) (fun g0 hg0 => by have := hlt.out g0 hg0; omega)
   have VW := (V.below b4').grown hg5 (fun e => by have := hlt.out R1 e.symm; omega)
   have Jw := (J.below b4').keep hk5
   clear o1 hPO hlt HO3 HO4 b4 b4' X4 ho5 hg5 hat5 hp5 hk5 V J B B4 hul
   have XC := HC.below BB
   have r1 := hraw.below BB
   have r2 := hraw2.below BB
   clear HC hraw hraw2
   obtain ⟨x0,x1,x2⟩ := id XC
   go_wp2
   clear x0 x1 x2
   have hDr : Below w5.heap.size w5 w5.drew := (Below.refl _ _).drew
   replace Jw := Jw.below hDr
   replace E := E.below hDr
   replace r1 := r1.below hDr
   replace r2 := r2.below hDr
   replace VW := VW.below hDr
   replace XC := XC.below hDr
   replace BB := BB.trans (hDr.mono BB.size)
   clear hDr
   refine wp_region_held_drew (S := (fun w' => w'.cell? ⟨b,off + i * 3,none⟩ = some (.bool s) ∧ w'.cell? ⟨b,off + i * 3 + 1,none⟩ = some (.slice ao1 l d1) ∧ w'.cell? ⟨b,off + i * 3 + 2,none⟩ = some (.slice bo1 k1 e1))) (by kernel_rfl) ?_ (fun hHeld => ?_)
   ·exact ⟨XC.1,XC.2.1,XC.2.2⟩
   generalize w5.drew = W11 at *
   refine xT 1 (v := ?_) (hy := Or.inl ⟨by rfl,?_⟩) (h := ?_)
   rotate_left
   ·(intro w hSw; (try dsimp only at hSw); go_simp; (try with_reducible rfl))
   (try simp only [Act.put,xL4,xL5,xL6])
   refine xT 2 (v := ?_) (hy := Or.inl ⟨by rfl,?_⟩) (h := ?_)
   rotate_left
   ·(intro w hSw; (try dsimp only at hSw); go_simp; (try with_reducible rfl))
   (try simp only [Act.put,xL4,xL5,xL6])
   refine xT 3 (v := ?_) (hy := Or.inl ⟨by rfl,?_⟩) (h := ?_)
   rotate_left
   ·(intro w hSw; (try dsimp only at hSw); go_simp; (try with_reducible rfl))
   (try simp only [Act.put,xL4,xL5,xL6])
   refine xT 4 (v := ?_) (hy := Or.inl ⟨by rfl,?_⟩) (h := ?_)
   rotate_left
   ·(intro w hSw; (try dsimp only at hSw); go_simp; (try with_reducible rfl))
   (try simp only [Act.put,xL4,xL5,xL6])
   refine xR [0,5] (h := ?_)
   refine xC (h := fun K hK => ?_) (hs := ?_)
   ·
    obtain ⟨VW_0,VW_1,VW_2,VW_3,VW_4,VW_5⟩ := id VW
    go_simp
    clear VW_0 VW_1 VW_2 VW_3 VW_4 VW_5
    refine hK.out _ _ ?_ (fun hH1 => ?_)
    ·exact ⟨XC.1,XC.2.1,XC.2.2⟩
    clear hK K hHeld
    (try simp only [Act.put,xL4,xL5,xL6])
    refine xR [5] (h := ?_)
    refine xN (h := fun K hK => ?_)
    go_simp
    refine (tiny_at _ _ _ _ _ _ _ _ r1 r2).mono ?_
    rintro e w11 ⟨ao7,c7,bo7,d7,rfl,u1,u2,u3,u4,b11⟩
    have X7 : RatAt w11 (.agg #[.bool s,.slice ao7 (min l 2) c7,.slice bo7 (min k1 2) d7]) (q i) 2 := by rw [HZ.out]; exact RatAt.raw u1 u2 u3 u4 (Nat.min_le_right _ _) (Nat.min_le_right _ _)
    clear u1 u2 u3 u4
    go_wp2_with fail
    replace Jw := Jw.below b11
    replace E := E.below b11
    replace r1 := r1.below b11
    replace r2 := r2.below b11
    replace VW := VW.below b11
    replace XC := XC.below b11
    replace BB := BB.trans (b11.mono BB.size)
    clear b11
    refine hK.out _ _ ?_ (fun hH2 => ?_)
    ·exact ⟨XC.1,XC.2.1,XC.2.2⟩
    clear hK K hH1
    (try simp only [Act.put,xL4,xL5,xL6])
    refine xR [6] (h := ?_)
    refine xN (h := fun K hK => ?_)
    go_simp
    refine (jfrom_at _ (q i) 2 _ X7 (by omega) (by omega)).mono ?_
    rintro e w12 ⟨v8,rfl,J8,b12⟩
    go_wp2_with fail
    replace Jw := Jw.below b12
    replace E := E.below b12
    replace r1 := r1.below b12
    replace r2 := r2.below b12
    replace X7 := X7.below b12
    replace VW := VW.below b12
    replace XC := XC.below b12
    replace BB := BB.trans (b12.mono BB.size)
    clear b12
    refine hK.out _ _ ?_ (fun hH3 => ?_)
    ·exact ⟨XC.1,XC.2.1,XC.2.2⟩
    clear hK K hH2
    (try simp only [Act.put,xL4,xL5,xL6])
    refine xR [7] (h := ?_)
    refine xN (h := fun K hK => ?_)
    go_simp
    refine (jplus_at _ _ (sumq q i) (q i) (2 + 3 * i) 2 _ Jw J8 (by omega)).mono ?_
    rintro e w13 ⟨v9,rfl,J9,b13⟩
    obtain ⟨p9,a9,n9,c9,bo9,m9,d9,rfl⟩ := J9.open
    go_wp2_with fail
    replace Jw := Jw.below b13
    replace E := E.below b13
    replace r1 := r1.below b13
    replace r2 := r2.below b13
    replace X7 := X7.below b13
    replace J8 := J8.below b13
    replace VW := VW.below b13
    replace XC := XC.below b13
    replace BB := BB.trans (b13.mono BB.size)
    clear b13
    refine hK.out _ _ ?_ (fun hH4 => ?_)
    ·exact ⟨XC.1,XC.2.1,XC.2.2⟩
    clear hK K hH3
    (try simp only [Act.put,xL4,xL5,xL6])
    refine xR [8] (h := ?_)
    refine xN (h := fun K hK => ?_)
    have hKp := VW.keepJ (.bool p9) (.slice a9 n9 c9) (.slice bo9 m9 d9)
    have XC_n := XC.other3 (R := R1) (by omega) (.bool p9) (.slice a9 n9 c9) (.slice bo9 m9 d9)
    have VW_n := VW.same (.bool p9) (.slice a9 n9 c9) (.slice bo9 m9 d9)
    have Jw_n := Jw.keep hKp
    have E_n := E.other (grown_set3 w13 R1 (.bool p9) (.slice a9 n9 c9) (.slice bo9 m9 d9)) hKp (fun g hg => by cases hg; omega)
    have r1_n := r1.keep hKp
    have r2_n := r2.keep hKp
    have X7_n := X7.keep hKp
    have J8_n := J8.keep hKp
    have J9_n := J9.keep hKp
    have BB_n := below_store3 (R := R1) BB (by omega) (.bool p9) (.slice a9 n9 c9) (.slice bo9 m9 d9)
    clear hKp
    obtain ⟨VW_0,VW_1,VW_2,VW_3,VW_4,VW_5⟩ := id VW
    go_simp
    clear VW_0 VW_1 VW_2 VW_3 VW_4 VW_5
    clear BB Jw E r1 r2 X7 J8 J9 VW XC
    generalize ((w13.setCell ⟨R1,0,none⟩ (.bool p9)).setCell ⟨R1,1,none⟩ (.slice a9 n9 c9)).setCell ⟨R1,2,none⟩ (.slice bo9 m9 d9) = W12 at *
    have BB := BB_n
    have Jw := Jw_n
    have E := E_n
    have r1 := r1_n
    have r2 := r2_n
    have X7 := X7_n
    have J8 := J8_n
    have J9 := J9_n
    have VW := VW_n
    have XC := XC_n
    clear BB_n Jw_n E_n r1_n r2_n X7_n J8_n J9_n VW_n XC_n
    refine hK.out _ _ ?_ (fun hH5 => ?_)
    ·exact ⟨XC.1,XC.2.1,XC.2.2⟩
    clear hK K hH4
    (try simp only [Act.put,xL4,xL5,xL6])
    refine wpAnyH_done (by kernel_rfl) ?_ _
    clear hH5
    clear X7 J8 Jw r1 r2
    go_wp2
    go_roundw
    case rel => exact ⟨i + 1,p9,a9,n9,c9,bo9,m9,d9,by omega,by omega,by go_num,VW,J9.le (by omega),E,BB⟩
    case measure => simp [intOf]; omega
   refine xC (h := fun K hK => ?_) (hs := ?_)
   ·
    go_simp
    refine (tiny_at _ _ _ _ _ _ _ _ r1 r2).mono ?_
    rintro e w14 ⟨ao7,c7,bo7,d7,rfl,u1,u2,u3,u4,b14⟩
    have X7 : RatAt w14 (.agg #[.bool s,.slice ao7 (min l 2) c7,.slice bo7 (min k1 2) d7]) (q i) 2 := by rw [HZ.out]; exact RatAt.raw u1 u2 u3 u4 (Nat.min_le_right _ _) (Nat.min_le_right _ _)
    clear u1 u2 u3 u4
    go_wp2_with fail
    replace Jw := Jw.below b14
    replace E := E.below b14
    replace r1 := r1.below b14
    replace r2 := r2.below b14
    replace VW := VW.below b14
    replace XC := XC.below b14
    replace BB := BB.trans (b14.mono BB.size)
    clear b14
    refine hK.out _ _ ?_ (fun hH1 => ?_)
    ·exact ⟨XC.1,XC.2.1,XC.2.2⟩
    clear hK K hHeld
    (try simp only [Act.put,xL4,xL5,xL6])
    refine xR [0,6] (h := ?_)
    refine xC (h := fun K hK => ?_) (hs := ?_)
    ·
     obtain ⟨VW_0,VW_1,VW_2,VW_3,VW_4,VW_5⟩ := id VW
     go_simp
     clear VW_0 VW_1 VW_2 VW_3 VW_4 VW_5
     refine hK.out _ _ ?_ (fun hH2 => ?_)
     ·exact ⟨XC.1,XC.2.1,XC.2.2⟩
     clear hK K hH1
     (try simp only [Act.put,xL4,xL5,xL6])
     refine xR [6] (h := ?_)
     refine xN (h := fun K hK => ?_)
     go_simp
     refine (jfrom_at _ (q i) 2 _ X7 (by omega) (by omega)).mono ?_
     rintro e w15 ⟨v8,rfl,J8,b15⟩
     go_wp2_with fail
     replace Jw := Jw.below b15
     replace E := E.below b15
     replace r1 := r1.below b15
     replace r2 := r2.below b15
     replace X7 := X7.below b15
     replace VW := VW.below b15
     replace XC := XC.below b15
     replace BB := BB.trans (b15.mono BB.size)
     clear b15
     refine hK.out _ _ ?_ (fun hH3 => ?_)
     ·exact ⟨XC.1,XC.2.1,XC.2.2⟩
     clear hK K hH2
     (try simp only [Act.put,xL4,xL5,xL6])
     refine xR [7] (h := ?_)
     refine xN (h := fun K hK => ?_)
     go_simp
     refine (jplus_at _ _ (sumq q i) (q i) (2 + 3 * i) 2 _ Jw J8 (by omega)).mono ?_
     rintro e w16 ⟨v9,rfl,J9,b16⟩
     obtain ⟨p9,a9,n9,c9,bo9,m9,d9,rfl⟩ := J9.open
     go_wp2_with fail
     replace Jw := Jw.below b16
     replace E := E.below b16
     replace r1 := r1.below b16
     replace r2 := r2.below b16
     replace X7 := X7.below b16
     replace J8 := J8.below b16
     replace VW := VW.below b16
     replace XC := XC.below b16
     replace BB := BB.trans (b16.mono BB.size)
     clear b16
     refine hK.out _ _ ?_ (fun hH4 => ?_)
     ·exact ⟨XC.1,XC.2.1,XC.2.2⟩
     clear hK K hH3
     (try simp only [Act.put,xL4,xL5,xL6])
     refine xR [8] (h := ?_)
     refine xN (h := fun K hK => ?_)
     have hKp := VW.keepJ (.bool p9) (.slice a9 n9 c9) (.slice bo9 m9 d9)
     have XC_n := XC.other3 (R := R1) (by omega) (.bool p9) (.slice a9 n9 c9) (.slice bo9 m9 d9)
     have VW_n := VW.same (.bool p9) (.slice a9 n9 c9) (.slice bo9 m9 d9)
     have Jw_n := Jw.keep hKp
     have E_n := E.other (grown_set3 w16 R1 (.bool p9) (.slice a9 n9 c9) (.slice bo9 m9 d9)) hKp (fun g hg => by cases hg; omega)
     have r1_n := r1.keep hKp
     have r2_n := r2.keep hKp
     have X7_n := X7.keep hKp
     have J8_n := J8.keep hKp
     have J9_n := J9.keep hKp
     have BB_n := below_store3 (R := R1) BB (by omega) (.bool p9) (.slice a9 n9 c9) (.slice bo9 m9 d9)
     clear hKp
     obtain ⟨VW_0,VW_1,VW_2,VW_3,VW_4,VW_5⟩ := id VW
     go_simp
     clear VW_0 VW_1 VW_2 VW_3 VW_4 VW_5
     clear BB Jw E r1 r2 X7 J8 J9 VW XC
     generalize ((w16.setCell ⟨R1,0,none⟩ (.bool p9)).setCell ⟨R1,1,none⟩ (.slice a9 n9 c9)).setCell ⟨R1,2,none⟩ (.slice bo9 m9 d9) = W13 at *
     have BB := BB_n
     have Jw := Jw_n
     have E := E_n
     have r1 := r1_n
     have r2 := r2_n
     have X7 := X7_n
     have J8 := J8_n
     have J9 := J9_n
     have VW := VW_n
     have XC := XC_n
     clear BB_n Jw_n E_n r1_n r2_n X7_n J8_n J9_n VW_n XC_n
     refine hK.out _ _ ?_ (fun hH5 => ?_)
     ·exact ⟨XC.1,XC.2.1,XC.2.2⟩
     clear hK K hH4
     (try simp only [Act.put,xL4,xL5,xL6])
     refine wpAnyH_done (by kernel_rfl) ?_ _
     clear hH5
     clear X7 J8 Jw r1 r2
     go_wp2
     go_roundw
     case rel => exact ⟨i + 1,p9,a9,n9,c9,bo9,m9,d9,by omega,by omega,by go_num,VW,J9.le (by omega),E,BB⟩
     case measure => simp [intOf]; omega
    refine xC (h := fun K hK => ?_) (hs := ?_)
    ·
     go_simp
     refine (jfrom_at _ (q i) 2 _ X7 (by omega) (by omega)).mono ?_
     rintro e w17 ⟨v8,rfl,J8,b17⟩
     go_wp2_with fail
     replace Jw := Jw.below b17
     replace E := E.below b17
     replace r1 := r1.below b17
     replace r2 := r2.below b17
     replace X7 := X7.below b17
     replace VW := VW.below b17
     replace XC := XC.below b17
     replace BB := BB.trans (b17.mono BB.size)
     clear b17
     refine hK.out _ _ ?_ (fun hH2 => ?_)
     ·exact ⟨XC.1,XC.2.1,XC.2.2⟩
     clear hK K hH1
     (try simp only [Act.put,xL4,xL5,xL6])
     refine xR [0] (h := ?_)
     refine xN (h := fun K hK => ?_)
     obtain ⟨VW_0,VW_1,VW_2,VW_3,VW_4,VW_5⟩ := id VW
     go_simp
     clear VW_0 VW_1 VW_2 VW_3 VW_4 VW_5
     refine hK.out _ _ ?_ (fun hH3 => ?_)
     ·exact ⟨XC.1,XC.2.1,XC.2.2⟩
     clear hK K hH2
     (try simp only [Act.put,xL4,xL5,xL6])
     refine xR [7] (h := ?_)
     refine xN (h := fun K hK => ?_)
     go_simp
     refine (jplus_at _ _ (sumq q i) (q i) (2 + 3 * i) 2 _ Jw J8 (by omega)).mono ?_
     rintro e w18 ⟨v9,rfl,J9,b18⟩
     obtain ⟨p9,a9,n9,c9,bo9,m9,d9,rfl⟩ := J9.open
     go_wp2_with fail
     replace Jw := Jw.below b18
     replace E := E.below b18
     replace r1 := r1.below b18
     replace r2 := r2.below b18
     replace X7 := X7.below b18
     replace J8 := J8.below b18
     replace VW := VW.below b18
     replace XC := XC.below b18
     replace BB := BB.trans (b18.mono BB.size)
     clear b18
     refine hK.out _ _ ?_ (fun hH4 => ?_)
     ·exact ⟨XC.1,XC.2.1,XC.2.2⟩
     clear hK K hH3
     (try simp only [Act.put,xL4,xL5,xL6])
     refine xR [8] (h := ?_)
     refine xN (h := fun K hK => ?_)
     have hKp := VW.keepJ (.bool p9) (.slice a9 n9 c9) (.slice bo9 m9 d9)
     have XC_n := XC.other3 (R := R1) (by omega) (.bool p9) (.slice a9 n9 c9) (.slice bo9 m9 d9)
     have VW_n := VW.same (.bool p9) (.slice a9 n9 c9) (.slice bo9 m9 d9)
     have Jw_n := Jw.keep hKp
     have E_n := E.other (grown_set3 w18 R1 (.bool p9) (.slice a9 n9 c9) (.slice bo9 m9 d9)) hKp (fun g hg => by cases hg; omega)
     have r1_n := r1.keep hKp
     have r2_n := r2.keep hKp
     have X7_n := X7.keep hKp
     have J8_n := J8.keep hKp
     have J9_n := J9.keep hKp
     have BB_n := below_store3 (R := R1) BB (by omega) (.bool p9) (.slice a9 n9 c9) (.slice bo9 m9 d9)
     clear hKp
     obtain ⟨VW_0,VW_1,VW_2,VW_3,VW_4,VW_5⟩ := id VW
     go_simp
     clear VW_0 VW_1 VW_2 VW_3 VW_4 VW_5
     clear BB Jw E r1 r2 X7 J8 J9 VW XC
     generalize ((w18.setCell ⟨R1,0,none⟩ (.bool p9)).setCell ⟨R1,1,none⟩ (.slice a9 n9 c9)).setCell ⟨R1,2,none⟩ (.slice bo9 m9 d9) = W14 at *
     have BB := BB_n
     have Jw := Jw_n
     have E := E_n
     have r1 := r1_n
     have r2 := r2_n
     have X7 := X7_n
     have J8 := J8_n
     have J9 := J9_n
     have VW := VW_n
     have XC := XC_n
     clear BB_n Jw_n E_n r1_n r2_n X7_n J8_n J9_n VW_n XC_n
     refine hK.out _ _ ?_ (fun hH5 => ?_)
     ·exact ⟨XC.1,XC.2.1,XC.2.2⟩
     clear hK K hH4
     (try simp only [Act.put,xL4,xL5,xL6])
     refine wpAnyH_done (by kernel_rfl) ?_ _
     clear hH5
     clear X7 J8 Jw r1 r2
     go_wp2
     go_roundw
     case rel => exact ⟨i + 1,p9,a9,n9,c9,bo9,m9,d9,by omega,by omega,by go_num,VW,J9.le (by omega),E,BB⟩
     case measure => simp [intOf]; omega
    exact AllReadyH.nil
   exact AllReadyH.nil
  ·have hend : Hid True := trivial
   by_cases hin' : i < n
   ·have j1 : (i : Int) < (n : Int) := by omega
    have j2 : ¬ (i : Int) < 12 := by omega
    have BB := B
    have ht := hT.out.below B
    have E := O.row
    clear B O
    obtain ⟨am,cm,rfl⟩ : ∃ am cm,u3 = .slice am i cm := by obtain ⟨el,⟨a,c,h,_⟩,_⟩ := id E; exact ⟨a,c,h⟩
    have ls := qsz_sumq q 2 i (fun i hi => E.sz (by omega) i hi)
    have hib : ((i : Int) == 0) = false := by simp; omega
    have HQ : Hid (sumq q i / ((i : Int) : Rat) = sumq q i * mkRat 1 i) := mean_eq (sumq q i) i (by omega)
    have ld : qsz (sumq q i / ((i : Int) : Rat)) ≤ 41 := by rw [HQ.out]; exact qsz_mul _ _ (Nat.le_trans ls (by omega)) (qsz_one_of i (by omega))
    go_wp2_with fail
    refine (qmean_some _ i q 2 100 _ E ht (by omega) (by omega) (by omega) (by omega) (by omega) (by omega)).mono ?_
    rintro e w21 ⟨ra,rfl,Ha,b21⟩
    replace ht := ht.below b21
    replace J := J.below b21
    replace E := E.below b21
    replace V := V.below b21
    replace BB := BB.trans (b21.mono BB.size)
    clear b21
    rw [HQ.out] at Ha ld
    obtain ⟨pa,aa,na,ca,ba,ma,da,rfl⟩ := Ha.open
    have hZ21 : w.heap.size ≤ w21.heap.size := BB.size
    have hN21V : R1 ≠ w21.heap.size := Nat.ne_of_lt V.lt
    obtain ⟨W21,hW21,hS21,hL21,VA⟩ := V3.lay w21 35 (.bool pa) (.slice aa na ca) (.slice ba ma da)
    replace ht := ht.below hL21
    replace J := J.below hL21
    replace E := E.below hL21
    replace Ha := Ha.below hL21
    replace V := V.below hL21
    replace BB := BB.trans (hL21.mono BB.size)
    clear hL21
    go_wp2
    rw [← hW21]
    generalize w21.heap.size = R21 at *
    clear hW21 hS21
    have hDr : Below W21.heap.size W21 W21.drew := (Below.refl _ _).drew
    replace ht := ht.below hDr
    replace J := J.below hDr
    replace E := E.below hDr
    replace Ha := Ha.below hDr
    replace V := V.below hDr
    replace VA := VA.below hDr
    replace BB := BB.trans (hDr.mono BB.size)
    clear hDr
    refine wp_region_held_drew (S := (fun w' => w'.cell? ⟨R1,0,none⟩ = some (.bool p) ∧ w'.cell? ⟨R1,1,none⟩ = some (.slice ao m c') ∧ w'.cell? ⟨R1,2,none⟩ = some (.slice bo k d))) (by kernel_rfl) ?_ (fun hHeld => ?_)
    ·exact ⟨V.1,V.2.1,V.2.2.1⟩
    generalize W21.drew = W22 at *
    refine xT 0 (v := ?_) (hy := Or.inl ⟨by rfl,?_⟩) (h := ?_)
    rotate_left
    ·(intro w hSw; (try dsimp only at hSw); go_simp; (try with_reducible rfl))
    (try simp only [Act.put,xL4,xL5,xL6])
    refine xT 2 (v := ?_) (hy := Or.inl ⟨by rfl,?_⟩) (h := ?_)
    rotate_left
    ·(intro w hSw; (try dsimp only at hSw); go_simp; (try with_reducible rfl))
    (try simp only [Act.put,xL4,xL5,xL6])
    refine xR [1] (h := ?_)
    refine xN (h := fun K hK => ?_)
    go_simp
    refine (qsum_any 2 100 (by omega) (by omega) (by omega) _ _ q _ E ht (by omega)).mono ?_
    rintro e w22 ⟨rs,rfl,Hs,b22⟩
    go_wp2_with fail
    replace ht := ht.below b22
    replace J := J.below b22
    replace E := E.below b22
    replace Ha := Ha.below b22
    replace V := V.below b22
    replace VA := VA.below b22
    replace BB := BB.trans (b22.mono BB.size)
    clear b22
    refine hK.out _ _ ?_ (fun hH1 => ?_)
    ·exact ⟨V.1,V.2.1,V.2.2.1⟩
    clear hK K hHeld
    (try simp only [Act.put,xL4,xL5,xL6])
    refine xR [3] (h := ?_)
    refine xN (h := fun K hK => ?_)
    go_simp
    refine (jis_at _ _ _ 37 (2 + 3 * i) _ Hs (by omega) J (by omega)).mono ?_
    rintro e w23 ⟨rfl,b23⟩
    go_wp2_with fail
    replace ht := ht.below b23
    replace J := J.below b23
    replace E := E.below b23
    replace Ha := Ha.below b23
    replace Hs := Hs.below b23
    replace V := V.below b23
    replace VA := VA.below b23
    replace BB := BB.trans (b23.mono BB.size)
    clear b23
    refine hK.out _ _ ?_ (fun hH2 => ?_)
    ·exact ⟨V.1,V.2.1,V.2.2.1⟩
    clear hK K hH1
    (try simp only [Act.put,xL4,xL5,xL6])
    refine xT 4 (v := ?_) (hy := Or.inl ⟨by rfl,?_⟩) (h := ?_)
    rotate_left
    ·(intro w hSw; (try dsimp only at hSw); go_simp; (try with_reducible rfl))
    (try simp only [Act.put,xL4,xL5,xL6])
    refine wpAnyH_done (by kernel_rfl) ?_ _
    clear hH2
    clear Hs E
    go_wp2
    have hDr : Below w23.heap.size w23 w23.drew := (Below.refl _ _).drew
    replace ht := ht.below hDr
    replace J := J.below hDr
    replace Ha := Ha.below hDr
    replace V := V.below hDr
    replace VA := VA.below hDr
    replace BB := BB.trans (hDr.mono BB.size)
    clear hDr
    refine wp_region_held_drew (S := (fun w' => w'.cell? ⟨R1,0,none⟩ = some (.bool p) ∧ w'.cell? ⟨R1,1,none⟩ = some (.slice ao m c') ∧ w'.cell? ⟨R1,2,none⟩ = some (.slice bo k d) ∧ w'.cell? ⟨R21,0,none⟩ = some (.bool pa) ∧ w'.cell? ⟨R21,1,none⟩ = some (.slice aa na ca) ∧ w'.cell? ⟨R21,2,none⟩ = some (.slice ba ma da))) (by kernel_rfl) ?_ (fun hHeld => ?_)
    ·exact ⟨V.1,V.2.1,V.2.2.1,VA.1,VA.2.1,VA.2.2.1⟩
    generalize w23.drew = W23 at *
    refine xT 0 (v := ?_) (hy := Or.inl ⟨by rfl,?_⟩) (h := ?_)
    rotate_left
    ·(intro w hSw; (try dsimp only at hSw); go_simp; (try with_reducible rfl))
    (try simp only [Act.put,xL4,xL5,xL6])
    refine xT 1 (v := ?_) (hy := Or.inl ⟨by rfl,?_⟩) (h := ?_)
    rotate_left
    ·(intro w hSw; (try dsimp only at hSw); go_simp; (try with_reducible rfl))
    (try simp only [Act.put,xL4,xL5,xL6])
    refine xT 2 (v := ?_) (hy := Or.inl ⟨by rfl,?_⟩) (h := ?_)
    rotate_left
    ·(intro w hSw; (try dsimp only at hSw); go_simp; (try with_reducible rfl))
    (try simp only [Act.put,xL4,xL5,xL6])
    refine xT 3 (v := ?_) (hy := Or.inl ⟨by rfl,?_⟩) (h := ?_)
    rotate_left
    ·(intro w hSw; (try dsimp only at hSw); go_simp; (try with_reducible rfl))
    (try simp only [Act.put,xL4,xL5,xL6])
    refine xT 4 (v := ?_) (hy := Or.inl ⟨by rfl,?_⟩) (h := ?_)
    rotate_left
    ·(intro w hSw; (try dsimp only at hSw); go_simp; (try with_reducible rfl))
    (try simp only [Act.put,xL4,xL5,xL6])
    refine xT 5 (v := ?_) (hy := Or.inl ⟨by rfl,?_⟩) (h := ?_)
    rotate_left
    ·(intro w hSw; (try dsimp only at hSw); go_simp; (try with_reducible rfl))
    (try simp only [Act.put,xL4,xL5,xL6])
    refine xT 6 (v := ?_) (hy := Or.inl ⟨by rfl,?_⟩) (h := ?_)
    rotate_left
    ·(intro w hSw; (try dsimp only at hSw); go_simp; (try with_reducible rfl))
    (try simp only [Act.put,xL4,xL5,xL6])
    refine xR [7] (h := ?_)
    refine xN (h := fun K hK => ?_)
    go_simp
    refine (jsmall_at 1 i _ (by omega) (by omega) (by omega) (by omega)).mono ?_
    rintro e w24 ⟨v8,rfl,J8,b24⟩
    go_wp2_with fail
    replace ht := ht.below b24
    replace J := J.below b24
    replace Ha := Ha.below b24
    replace V := V.below b24
    replace VA := VA.below b24
    replace BB := BB.trans (b24.mono BB.size)
    clear b24
    refine hK.out _ _ ?_ (fun hH1 => ?_)
    ·exact ⟨V.1,V.2.1,V.2.2.1,VA.1,VA.2.1,VA.2.2.1⟩
    clear hK K hHeld
    (try simp only [Act.put,xL4,xL5,xL6])
    refine xR [8] (h := ?_)
    refine xN (h := fun K hK => ?_)
    go_simp
    refine (jtimes_at _ _ (sumq q i) (mkRat 1 i) (2 + 3 * i) 2 _ J J8 (by omega)).mono ?_
    rintro e w25 ⟨v9,rfl,J9,b25⟩
    go_wp2_with fail
    replace ht := ht.below b25
    replace J := J.below b25
    replace Ha := Ha.below b25
    replace J8 := J8.below b25
    replace V := V.below b25
    replace VA := VA.below b25
    replace BB := BB.trans (b25.mono BB.size)
    clear b25
    refine hK.out _ _ ?_ (fun hH2 => ?_)
    ·exact ⟨V.1,V.2.1,V.2.2.1,VA.1,VA.2.1,VA.2.2.1⟩
    clear hK K hH1
    (try simp only [Act.put,xL4,xL5,xL6])
    refine xR [9] (h := ?_)
    refine xN (h := fun K hK => ?_)
    go_simp
    refine (jis_at _ _ _ 41 (2 + 3 * i + 2) _ Ha ld J9 (by omega)).mono ?_
    rintro e w26 ⟨rfl,b26⟩
    go_wp2_with fail
    replace ht := ht.below b26
    replace J := J.below b26
    replace Ha := Ha.below b26
    replace J8 := J8.below b26
    replace J9 := J9.below b26
    replace V := V.below b26
    replace VA := VA.below b26
    replace BB := BB.trans (b26.mono BB.size)
    clear b26
    refine hK.out _ _ ?_ (fun hH3 => ?_)
    ·exact ⟨V.1,V.2.1,V.2.2.1,VA.1,VA.2.1,VA.2.2.1⟩
    clear hK K hH2
    (try simp only [Act.put,xL4,xL5,xL6])
    refine xT 10 (v := ?_) (hy := Or.inl ⟨by rfl,?_⟩) (h := ?_)
    rotate_left
    ·(intro w hSw; (try dsimp only at hSw); go_simp; (try with_reducible rfl))
    (try simp only [Act.put,xL4,xL5,xL6])
    refine xT 11 (v := ?_) (hy := Or.inl ⟨by rfl,?_⟩) (h := ?_)
    rotate_left
    ·(intro w hSw; (try dsimp only at hSw); go_simp; (try with_reducible rfl))
    (try simp only [Act.put,xL4,xL5,xL6])
    refine xR [12] (h := ?_)
    refine xN (h := fun K hK => ?_)
    go_simp
    refine (qawake_at _ ht).mono ?_
    rintro e w27 ⟨rfl,b27⟩
    go_wp2_with fail
    replace ht := ht.below b27
    replace J := J.below b27
    replace Ha := Ha.below b27
    replace J8 := J8.below b27
    replace J9 := J9.below b27
    replace V := V.below b27
    replace VA := VA.below b27
    replace BB := BB.trans (b27.mono BB.size)
    clear b27
    refine hK.out _ _ ?_ (fun hH4 => ?_)
    ·exact ⟨V.1,V.2.1,V.2.2.1,VA.1,VA.2.1,VA.2.2.1⟩
    clear hK K hH3
    (try simp only [Act.put,xL4,xL5,xL6])
    refine xT 13 (v := ?_) (hy := Or.inl ⟨by rfl,?_⟩) (h := ?_)
    rotate_left
    ·(intro w hSw; (try dsimp only at hSw); go_simp; (try with_reducible rfl))
    (try simp only [Act.put,xL4,xL5,xL6])
    refine xT 14 (v := ?_) (hy := Or.inl ⟨by rfl,?_⟩) (h := ?_)
    rotate_left
    ·(intro w hSw; (try dsimp only at hSw); go_simp; (try with_reducible rfl))
    (try simp only [Act.put,xL4,xL5,xL6])
    refine wpAnyH_done (by kernel_rfl) ?_ _
    clear hH4
    go_wp2
    go_ret
    exact ⟨rfl,BB⟩
   ·have j1 : ¬ (i : Int) < (n : Int) := by omega
    by_cases h0 : i = 0
    ·have BB := B
     have ht := hT.out.below B
     have E := O.row
     clear B O
     obtain ⟨am,cm,rfl⟩ : ∃ am cm,u3 = .slice am i cm := by obtain ⟨el,⟨a,c,h,_⟩,_⟩ := id E; exact ⟨a,c,h⟩
     have ls := qsz_sumq q 2 i (fun i hi => E.sz (by omega) i hi)
     subst h0
     obtain rfl : n = 0 := by omega
     go_wp2_with fail
     refine (qmean_none _ q 2 _ E).mono ?_
     rintro e w21 ⟨rfl,b21⟩
     replace ht := ht.below b21
     replace J := J.below b21
     replace E := E.below b21
     replace V := V.below b21
     replace BB := BB.trans (b21.mono BB.size)
     clear b21
     have hZ21 : w.heap.size ≤ w21.heap.size := BB.size
     have hN21V : R1 ≠ w21.heap.size := Nat.ne_of_lt V.lt
     obtain ⟨W21,hW21,hS21,hL21,VA⟩ := V3.lay w21 35 (.bool false) (.slice none 0 0) (.slice none 0 0)
     replace ht := ht.below hL21
     replace J := J.below hL21
     replace E := E.below hL21
     replace V := V.below hL21
     replace BB := BB.trans (hL21.mono BB.size)
     clear hL21
     go_wp2
     rw [← hW21]
     generalize w21.heap.size = R21 at *
     clear hW21 hS21
     have hDr : Below W21.heap.size W21 W21.drew := (Below.refl _ _).drew
     replace ht := ht.below hDr
     replace J := J.below hDr
     replace E := E.below hDr
     replace V := V.below hDr
     replace VA := VA.below hDr
     replace BB := BB.trans (hDr.mono BB.size)
     clear hDr
     refine wp_region_held_drew (S := (fun w' => w'.cell? ⟨R1,0,none⟩ = some (.bool p) ∧ w'.cell? ⟨R1,1,none⟩ = some (.slice ao m c') ∧ w'.cell? ⟨R1,2,none⟩ = some (.slice bo k d))) (by kernel_rfl) ?_ (fun hHeld => ?_)
     ·exact ⟨V.1,V.2.1,V.2.2.1⟩
     generalize W21.drew = W22 at *
     refine xT 0 (v := ?_) (hy := Or.inl ⟨by rfl,?_⟩) (h := ?_)
     rotate_left
     ·(intro w hSw; (try dsimp only at hSw); go_simp; (try with_reducible rfl))
     (try simp only [Act.put,xL4,xL5,xL6])
     refine xT 2 (v := ?_) (hy := Or.inl ⟨by rfl,?_⟩) (h := ?_)
     rotate_left
     ·(intro w hSw; (try dsimp only at hSw); go_simp; (try with_reducible rfl))
     (try simp only [Act.put,xL4,xL5,xL6])
     refine xR [1] (h := ?_)
     refine xN (h := fun K hK => ?_)
     go_simp
     refine (qsum_any 2 100 (by omega) (by omega) (by omega) _ _ q _ E ht (by omega)).mono ?_
     rintro e w22 ⟨rs,rfl,Hs,b22⟩
     go_wp2_with fail
     replace ht := ht.below b22
     replace J := J.below b22
     replace E := E.below b22
     replace V := V.below b22
     replace VA := VA.below b22
     replace BB := BB.trans (b22.mono BB.size)
     clear b22
     refine hK.out _ _ ?_ (fun hH1 => ?_)
     ·exact ⟨V.1,V.2.1,V.2.2.1⟩
     clear hK K hHeld
     (try simp only [Act.put,xL4,xL5,xL6])
     refine xR [3] (h := ?_)
     refine xN (h := fun K hK => ?_)
     go_simp
     refine (jis_at _ _ _ 37 (2 + 3 * 0) _ Hs (by omega) J (by omega)).mono ?_
     rintro e w23 ⟨rfl,b23⟩
     go_wp2_with fail
     replace ht := ht.below b23
     replace J := J.below b23
     replace E := E.below b23
     replace Hs := Hs.below b23
     replace V := V.below b23
     replace VA := VA.below b23
     replace BB := BB.trans (b23.mono BB.size)
     clear b23
     refine hK.out _ _ ?_ (fun hH2 => ?_)
     ·exact ⟨V.1,V.2.1,V.2.2.1⟩
     clear hK K hH1
     (try simp only [Act.put,xL4,xL5,xL6])
     refine xT 4 (v := ?_) (hy := Or.inl ⟨by rfl,?_⟩) (h := ?_)
     rotate_left
     ·(intro w hSw; (try dsimp only at hSw); go_simp; (try with_reducible rfl))
     (try simp only [Act.put,xL4,xL5,xL6])
     refine wpAnyH_done (by kernel_rfl) ?_ _
     clear hH2
     clear Hs E
     obtain ⟨VA_0,VA_1,VA_2,VA_3,VA_4,VA_5⟩ := id VA
     go_wp2_with fail
     clear VA_0 VA_1 VA_2 VA_3 VA_4 VA_5
     refine (none_at _).mono ?_
     rintro e w24 ⟨rfl,b24⟩
     replace ht := ht.below b24
     replace J := J.below b24
     replace V := V.below b24
     replace VA := VA.below b24
     replace BB := BB.trans (b24.mono BB.size)
     clear b24
     go_wp2_with fail
     refine (qawake_at _ ht).mono ?_
     rintro e w25 ⟨rfl,b25⟩
     replace ht := ht.below b25
     replace J := J.below b25
     replace V := V.below b25
     replace VA := VA.below b25
     replace BB := BB.trans (b25.mono BB.size)
     clear b25
     go_wp2
     go_ret
     exact ⟨rfl,BB⟩
    ·have BB := B
     have ht := hT.out.below B
     have E := O.row
     clear B O
     obtain ⟨am,cm,rfl⟩ : ∃ am cm,u3 = .slice am i cm := by obtain ⟨el,⟨a,c,h,_⟩,_⟩ := id E; exact ⟨a,c,h⟩
     have ls := qsz_sumq q 2 i (fun i hi => E.sz (by omega) i hi)
     have hib : ((i : Int) == 0) = false := by simp; omega
     have HQ : Hid (sumq q i / ((i : Int) : Rat) = sumq q i * mkRat 1 i) := mean_eq (sumq q i) i (by omega)
     have ld : qsz (sumq q i / ((i : Int) : Rat)) ≤ 41 := by rw [HQ.out]; exact qsz_mul _ _ (Nat.le_trans ls (by omega)) (qsz_one_of i (by omega))
     go_wp2_with fail
     refine (qmean_some _ i q 2 100 _ E ht (by omega) (by omega) (by omega) (by omega) (by omega) (by omega)).mono ?_
     rintro e w21 ⟨ra,rfl,Ha,b21⟩
     replace ht := ht.below b21
     replace J := J.below b21
     replace E := E.below b21
     replace V := V.below b21
     replace BB := BB.trans (b21.mono BB.size)
     clear b21
     rw [HQ.out] at Ha ld
     obtain ⟨pa,aa,na,ca,ba,ma,da,rfl⟩ := Ha.open
     have hZ21 : w.heap.size ≤ w21.heap.size := BB.size
     have hN21V : R1 ≠ w21.heap.size := Nat.ne_of_lt V.lt
     obtain ⟨W21,hW21,hS21,hL21,VA⟩ := V3.lay w21 35 (.bool pa) (.slice aa na ca) (.slice ba ma da)
     replace ht := ht.below hL21
     replace J := J.below hL21
     replace E := E.below hL21
     replace Ha := Ha.below hL21
     replace V := V.below hL21
     replace BB := BB.trans (hL21.mono BB.size)
     clear hL21
     go_wp2
     rw [← hW21]
     generalize w21.heap.size = R21 at *
     clear hW21 hS21
     have hDr : Below W21.heap.size W21 W21.drew := (Below.refl _ _).drew
     replace ht := ht.below hDr
     replace J := J.below hDr
     replace E := E.below hDr
     replace Ha := Ha.below hDr
     replace V := V.below hDr
     replace VA := VA.below hDr
     replace BB := BB.trans (hDr.mono BB.size)
     clear hDr
     refine wp_region_held_drew (S := (fun w' => w'.cell? ⟨R1,0,none⟩ = some (.bool p) ∧ w'.cell? ⟨R1,1,none⟩ = some (.slice ao m c') ∧ w'.cell? ⟨R1,2,none⟩ = some (.slice bo k d))) (by kernel_rfl) ?_ (fun hHeld => ?_)
     ·exact ⟨V.1,V.2.1,V.2.2.1⟩
     generalize W21.drew = W22 at *
     refine xT 0 (v := ?_) (hy := Or.inl ⟨by rfl,?_⟩) (h := ?_)
     rotate_left
     ·(intro w hSw; (try dsimp only at hSw); go_simp; (try with_reducible rfl))
     (try simp only [Act.put,xL4,xL5,xL6])
     refine xT 2 (v := ?_) (hy := Or.inl ⟨by rfl,?_⟩) (h := ?_)
     rotate_left
     ·(intro w hSw; (try dsimp only at hSw); go_simp; (try with_reducible rfl))
     (try simp only [Act.put,xL4,xL5,xL6])
     refine xR [1] (h := ?_)
     refine xN (h := fun K hK => ?_)
     go_simp
     refine (qsum_any 2 100 (by omega) (by omega) (by omega) _ _ q _ E ht (by omega)).mono ?_
     rintro e w22 ⟨rs,rfl,Hs,b22⟩
     go_wp2_with fail
     replace ht := ht.below b22
     replace J := J.below b22
     replace E := E.below b22
     replace Ha := Ha.below b22
     replace V := V.below b22
     replace VA := VA.below b22
     replace BB := BB.trans (b22.mono BB.size)
     clear b22
     refine hK.out _ _ ?_ (fun hH1 => ?_)
     ·exact ⟨V.1,V.2.1,V.2.2.1⟩
     clear hK K hHeld
     (try simp only [Act.put,xL4,xL5,xL6])
     refine xR [3] (h := ?_)
     refine xN (h := fun K hK => ?_)
     go_simp
     refine (jis_at _ _ _ 37 (2 + 3 * i) _ Hs (by omega) J (by omega)).mono ?_
     rintro e w23 ⟨rfl,b23⟩
     go_wp2_with fail
     replace ht := ht.below b23
     replace J := J.below b23
     replace E := E.below b23
     replace Ha := Ha.below b23
     replace Hs := Hs.below b23
     replace V := V.below b23
     replace VA := VA.below b23
     replace BB := BB.trans (b23.mono BB.size)
     clear b23
     refine hK.out _ _ ?_ (fun hH2 => ?_)
     ·exact ⟨V.1,V.2.1,V.2.2.1⟩
     clear hK K hH1
     (try simp only [Act.put,xL4,xL5,xL6])
     refine xT 4 (v := ?_) (hy := Or.inl ⟨by rfl,?_⟩) (h := ?_)
     rotate_left
     ·(intro w hSw; (try dsimp only at hSw); go_simp; (try with_reducible rfl))
     (try simp only [Act.put,xL4,xL5,xL6])
     refine wpAnyH_done (by kernel_rfl) ?_ _
     clear hH2
     clear Hs E
     go_wp2
     have hDr : Below w23.heap.size w23 w23.drew := (Below.refl _ _).drew
     replace ht := ht.below hDr
     replace J := J.below hDr
     replace Ha := Ha.below hDr
     replace V := V.below hDr
     replace VA := VA.below hDr
     replace BB := BB.trans (hDr.mono BB.size)
     clear hDr
     refine wp_region_held_drew (S := (fun w' => w'.cell? ⟨R1,0,none⟩ = some (.bool p) ∧ w'.cell? ⟨R1,1,none⟩ = some (.slice ao m c') ∧ w'.cell? ⟨R1,2,none⟩ = some (.slice bo k d) ∧ w'.cell? ⟨R21,0,none⟩ = some (.bool pa) ∧ w'.cell? ⟨R21,1,none⟩ = some (.slice aa na ca) ∧ w'.cell? ⟨R21,2,none⟩ = some (.slice ba ma da))) (by kernel_rfl) ?_ (fun hHeld => ?_)
     ·exact ⟨V.1,V.2.1,V.2.2.1,VA.1,VA.2.1,VA.2.2.1⟩
     generalize w23.drew = W23 at *
     refine xT 0 (v := ?_) (hy := Or.inl ⟨by rfl,?_⟩) (h := ?_)
     rotate_left
     ·(intro w hSw; (try dsimp only at hSw); go_simp; (try with_reducible rfl))
     (try simp only [Act.put,xL4,xL5,xL6])
     refine xT 1 (v := ?_) (hy := Or.inl ⟨by rfl,?_⟩) (h := ?_)
     rotate_left
     ·(intro w hSw; (try dsimp only at hSw); go_simp; (try with_reducible rfl))
     (try simp only [Act.put,xL4,xL5,xL6])
     refine xT 2 (v := ?_) (hy := Or.inl ⟨by rfl,?_⟩) (h := ?_)
     rotate_left
     ·(intro w hSw; (try dsimp only at hSw); go_simp; (try with_reducible rfl))
     (try simp only [Act.put,xL4,xL5,xL6])
     refine xT 3 (v := ?_) (hy := Or.inl ⟨by rfl,?_⟩) (h := ?_)
     rotate_left
     ·(intro w hSw; (try dsimp only at hSw); go_simp; (try with_reducible rfl))
     (try simp only [Act.put,xL4,xL5,xL6])
     refine xT 4 (v := ?_) (hy := Or.inl ⟨by rfl,?_⟩) (h := ?_)
     rotate_left
     ·(intro w hSw; (try dsimp only at hSw); go_simp; (try with_reducible rfl))
     (try simp only [Act.put,xL4,xL5,xL6])
     refine xT 5 (v := ?_) (hy := Or.inl ⟨by rfl,?_⟩) (h := ?_)
     rotate_left
     ·(intro w hSw; (try dsimp only at hSw); go_simp; (try with_reducible rfl))
     (try simp only [Act.put,xL4,xL5,xL6])
     refine xT 6 (v := ?_) (hy := Or.inl ⟨by rfl,?_⟩) (h := ?_)
     rotate_left
     ·(intro w hSw; (try dsimp only at hSw); go_simp; (try with_reducible rfl))
     (try simp only [Act.put,xL4,xL5,xL6])
     refine xR [7] (h := ?_)
     refine xN (h := fun K hK => ?_)
     go_simp
     refine (jsmall_at 1 i _ (by omega) (by omega) (by omega) (by omega)).mono ?_
     rintro e w24 ⟨v8,rfl,J8,b24⟩
     go_wp2_with fail
     replace ht := ht.below b24
     replace J := J.below b24
     replace Ha := Ha.below b24
     replace V := V.below b24
     replace VA := VA.below b24
     replace BB := BB.trans (b24.mono BB.size)
     clear b24
     refine hK.out _ _ ?_ (fun hH1 => ?_)
     ·exact ⟨V.1,V.2.1,V.2.2.1,VA.1,VA.2.1,VA.2.2.1⟩
     clear hK K hHeld
     (try simp only [Act.put,xL4,xL5,xL6])
     refine xR [8] (h := ?_)
     refine xN (h := fun K hK => ?_)
     go_simp
     refine (jtimes_at _ _ (sumq q i) (mkRat 1 i) (2 + 3 * i) 2 _ J J8 (by omega)).mono ?_
     rintro e w25 ⟨v9,rfl,J9,b25⟩
     go_wp2_with fail
     replace ht := ht.below b25
     replace J := J.below b25
     replace Ha := Ha.below b25
     replace J8 := J8.below b25
     replace V := V.below b25
     replace VA := VA.below b25
     replace BB := BB.trans (b25.mono BB.size)
     clear b25
     refine hK.out _ _ ?_ (fun hH2 => ?_)
     ·exact ⟨V.1,V.2.1,V.2.2.1,VA.1,VA.2.1,VA.2.2.1⟩
     clear hK K hH1
     (try simp only [Act.put,xL4,xL5,xL6])
     refine xR [9] (h := ?_)
     refine xN (h := fun K hK => ?_)
     go_simp
     refine (jis_at _ _ _ 41 (2 + 3 * i + 2) _ Ha ld J9 (by omega)).mono ?_
     rintro e w26 ⟨rfl,b26⟩
     go_wp2_with fail
     replace ht := ht.below b26
     replace J := J.below b26
     replace Ha := Ha.below b26
     replace J8 := J8.below b26
     replace J9 := J9.below b26
     replace V := V.below b26
     replace VA := VA.below b26
     replace BB := BB.trans (b26.mono BB.size)
     clear b26
     refine hK.out _ _ ?_ (fun hH3 => ?_)
     ·exact ⟨V.1,V.2.1,V.2.2.1,VA.1,VA.2.1,VA.2.2.1⟩
     clear hK K hH2
     (try simp only [Act.put,xL4,xL5,xL6])
     refine xT 10 (v := ?_) (hy := Or.inl ⟨by rfl,?_⟩) (h := ?_)
     rotate_left
     ·(intro w hSw; (try dsimp only at hSw); go_simp; (try with_reducible rfl))
     (try simp only [Act.put,xL4,xL5,xL6])
     refine xT 11 (v := ?_) (hy := Or.inl ⟨by rfl,?_⟩) (h := ?_)
     rotate_left
     ·(intro w hSw; (try dsimp only at hSw); go_simp; (try with_reducible rfl))
     (try simp only [Act.put,xL4,xL5,xL6])
     refine xR [12] (h := ?_)
     refine xN (h := fun K hK => ?_)
     go_simp
     refine (qawake_at _ ht).mono ?_
     rintro e w27 ⟨rfl,b27⟩
     go_wp2_with fail
     replace ht := ht.below b27
     replace J := J.below b27
     replace Ha := Ha.below b27
     replace J8 := J8.below b27
     replace J9 := J9.below b27
     replace V := V.below b27
     replace VA := VA.below b27
     replace BB := BB.trans (b27.mono BB.size)
     clear b27
     refine hK.out _ _ ?_ (fun hH4 => ?_)
     ·exact ⟨V.1,V.2.1,V.2.2.1,VA.1,VA.2.1,VA.2.2.1⟩
     clear hK K hH3
     (try simp only [Act.put,xL4,xL5,xL6])
     refine xT 13 (v := ?_) (hy := Or.inl ⟨by rfl,?_⟩) (h := ?_)
     rotate_left
     ·(intro w hSw; (try dsimp only at hSw); go_simp; (try with_reducible rfl))
     (try simp only [Act.put,xL4,xL5,xL6])
     refine xT 14 (v := ?_) (hy := Or.inl ⟨by rfl,?_⟩) (h := ?_)
     rotate_left
     ·(intro w hSw; (try dsimp only at hSw); go_simp; (try with_reducible rfl))
     (try simp only [Act.put,xL4,xL5,xL6])
     refine wpAnyH_done (by kernel_rfl) ?_ _
     clear hH4
     go_wp2
     go_ret
     exact ⟨rfl,BB⟩

theorem own : ownKnob Tryz.prog.godebug = none := by kernel_rfl
theorem laidOut : laidOutB Tryz.prog = true := by kernel_rfl

abbrev laid1 : List (String × DataW Unit) := [("math/bits.deBruijn64tab",Rows.laid_math_bits_deBruijn64tab)]
theorem gTab : Tryz.prog.globalNamed "math/bits.deBruijn64tab" = some 1 := by kernel_rfl
theorem gTabType : (Tryz.prog.globals[1]?).map (·.type) = some 199 := by kernel_rfl
theorem uTab : Tryz.prog.underlying 199 = some (.array 64 5) := by kernel_rfl
theorem uCell : Tryz.prog.underlying 5 = some (.int .u8) := by kernel_rfl
theorem cCell : Tryz.prog.cellsOf 5 = 1 := by kernel_rfl
theorem cTab : Tryz.prog.cellsOf 199 = 64 := by kernel_rfl
/-- The listed table lies in its cells. -/
theorem tab_of {W : World} (h : laidMetH Tryz.prog laid1 W) : Tab W := by
 rw [MakeChecks.laidMetH_plain _ _ _ (by kernel_rfl)] at h
 have hd : laid1 = [("math/bits.deBruijn64tab",Lib.tabData .u8 (Lib.deBruijn64tab.map fun (n : Nat) => Int.ofNat n))] := rfl
 rw [hd] at h
 have hT := Lib.tabIs_of_head gTab gTabType uTab uCell cCell cTab h
 intro i hi
 have hc := hT.cell gTab i (by rw [List.length_map]; exact hi)
 rw [hc]
 congr 2
 rw [List.getD_eq_getElem?_getD,List.getElem?_map,List.getD_eq_getElem?_getD]
 cases Lib.deBruijn64tab[i]? <;> rfl
/-- A start for the witness: the heap that the run of the program's own initialisers leaves. -/
noncomputable def startW (os : Os) : World := { World.holding Tryz.prog os ⟨#[],#[],[]⟩ with heap := (varsWorld Tryz.prog 400 (varsId Tryz.prog) os (fun _ _ => 0)).heap }
theorem start_met (os : Os) (args : Array Value) : laidMetH Tryz.prog laid1 ((startW os).forCall (fun _ _ => 0) ⟨#[],args,[]⟩).memory :=
 laidMetH_of_parts3 (fuel := 8) (laidMet_of_run' 8 (by kernel_rfl) (by kernel_rfl)) (by kernel_rfl) (by kernel_rfl)

set_option maxRecDepth 100000 in
theorem lifted (os : Os) (started : os.Started) (H : Type) (enc : TypeId × Value → H) :
  ReturnsInHanded {} Tryz.checked os 3 .any (fun w args => (Rows.ratioAllSpec.pre enc Tryz.prog Tryz.f3 [] false w args ∧ laidMetH Tryz.prog laid1 w) ∧ sizedMet enc Tryz.prog Tryz.f3 (OpenSpec.ofChange Rows.ratioAllSpec) false w args) (Rows.ratioAllSpec.post enc Tryz.prog Tryz.f3 false true false false) := by
 refine returnsInHanded_of_change_and (C := Tryz.checked) (X := fun w _ => laidMetH Tryz.prog laid1 w) (fun _ _ _ hh h => h.of_heap hh) own started (by kernel_rfl) Tryz.func3
  (ChangeSpec.witness_shaped (enc := enc) (C := Tryz.checked) (os := os) (X := fun w _ => laidMetH Tryz.prog laid1 w) false (startW os) #[.slice none 0 0] 8 rfl (World.shaped_of_RefB (by kernel_rfl) (by kernel_rfl)) (by kernel_rfl) (by kernel_rfl) (by kernel_rfl) (start_met os _)) ?_
 intro W base args ds gs before hval0 hW _ _ hL _
 have hval : ∀ (j : Nat) t v,Tryz.f3.params[j]? = some t → args[j]? = some v → Value.okWide Tryz.prog W .any base t v := hval0
 have hW' := hW
 obtain ⟨p,q,hA0,hV,rfl,hfz,hnd⟩ := hW
 have hA : DataW.TrodAll enc Tryz.prog W 0 (fun _ => true) true Tryz.f3.params.toList args.toList ds p := hA0
 rw [Tryz.params3] at hA hval
 obtain ⟨v0,vs0,d0,ds0,p0,q0,hargs,rfl,rfl,h0,r0⟩ := trodAll_cons hA
 obtain ⟨rfl,rfl,rfl⟩ := trodAll_nil r0
 obtain rfl : args = #[v0] := by cases args; simp_all
 obtain ⟨rfl,rfl⟩ := trodVars_none hV
 have k0 := h0
 have lt0 : ∀ x ∈ p0,x.block < W.heap.size := by obtain ⟨m,hm⟩ := k0; exact DataW.trod_lt m _ _ _ hm
 obtain ⟨n0,z0,w0⟩ := open_wrats KLIST (hval 0 22 v0 rfl rfl) h0
 clear hA0 hval0
 refine (walk _ _ _ W w0 (tab_of hL)).mono fun e W' ⟨he,bel⟩ => ?_
 subst he
 exact ⟨_,rfl,_,_,_,[],_,[],hW',trodAll_mk1 (shut_bool Tryz.underlying4 _),(trodAll_cons_mk (Below.trod laidOut (by kernel_rfl) (of_decide_eq_true (by kernel_rfl)) k0 bel lt0) trodAll_mk0),rfl,bel.frame _,fun h => by cases h⟩

theorem over : Rows.ratioAllRow.holds Tryz.pinned (OpenSpec.ofChange Rows.ratioAllSpec) :=
 OpenClaim.holds_of_wide 3 Tryz.f3 rfl rfl rfl rfl rfl rfl rfl ⟨rfl,rfl,rfl,rfl,rfl⟩ rfl rfl rfl rfl rfl (by kernel_rfl) Tryz.func3 (by kernel_rfl)
  (of_decide_eq_true (by kernel_rfl)) (by unfold Func.isWrapper; first | (rw [if_pos (by decide +kernel)]; kernel_rfl) | (rw [if_neg (by decide +kernel)]; exact ⟨rfl,rfl⟩))
  (fun os started H enc _ => lifted os started H enc)

end Go.Proofs.YthlogenaienkhaaGreatDoor.ratioAll
namespace Go.Proofs.YthlogenaienkhaaGreatDoor
/-- The statement: the row, tied to the text of the program. -/
theorem ratioAll_holds : Rows.RatioAllCardSaid :=
 Claim7.holds_tied_plain_at .later [] [.data] true (true,"3380e13b50b7f32269091fe29852d4a9c6381b7d7ac34cf65ee07c32c1b30c36") false
  ratioAll.over (fun _ h => by cases h) (by kernel_rfl) (fun _ h => by cases h) ratioAll_row_tie rfl ⟨rfl,rfl⟩ (by kernel_rfl) rfl
  (fun f fn hf hfn => by
   obtain rfl : f = 3 := Option.some.inj ((show Tryz.prog.funcNamed "dendron/dendronlaw03.RatioAll" = some 3 by kernel_rfl).symm.trans hf) |>.symm
   obtain rfl : fn = Tryz.f3 := (Option.some.inj (Tryz.func3.symm.trans hfn)).symm
   exact ⟨by kernel_rfl,fun j t ht => by
    rw [Tryz.params3] at ht
    have hm : t ∈ [22] := by simpa using Array.mem_of_getElem? ht
    have hall : ([22].all fun u => !Tryz.prog.wantsStandIn u) = true := by kernel_rfl
    exact (show Tryz.prog.wantsStandIn t = false by simpa using List.all_eq_true.1 hall t hm)⟩)
  (by kernel_rfl)
end Go.Proofs.YthlogenaienkhaaGreatDoor
