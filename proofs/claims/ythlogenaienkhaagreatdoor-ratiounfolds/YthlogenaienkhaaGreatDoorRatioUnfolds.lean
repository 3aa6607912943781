/-
 Proves that Unfold answers the number whose whole parts are told,of up to 20 of up to 2 limbs each,or that there is none,whatever comes in (the statement RatioUnfolds,its tied card); the table of math/bits lies as the program's text lays it; no other condition.
-/
import Derived.Test.YthlogenaienkhaaGreatDoorJ1233da0a2f
import Derived.Test.YthlogenaienkhaaGreatDoorRows
import Derived.Test.YthlogenaienkhaaGreatDoorJ01222156c2
import Derived.Test.YthlogenaienkhaaGreatDoorJ5ec733ea37
import Derived.Test.YthlogenaienkhaaGreatDoorJc6db6a09de
import Derived.Test.YthlogenaienkhaaGreatDoorJ4fefd185c4
import Derived.WalkKit
import Derived.ProofKit
import Derived.OpenShut
import Derived.ShutString
import Derived.ChangeOld
import Derived.Below
import Derived.Test.YthlogenaienkhaaGreatDoorTie
import Derived.Test.YthlogenaienkhaaGreatDoorCards
import Derived.LaidByTextLater
import Derived.LaidHandle
import Derived.Lib.LaidTab
import Derived.SevenTiedAt
namespace Go.Proofs.YthlogenaienkhaaGreatDoor.ratioUnfolds
open Go.ChangeShapes Go.WideShapes Go.ChangeAt Go.RowKit
open Go.ChangeMaps (open_string shut_string)
set_option linter.unusedVariables false
set_option linter.unusedSimpArgs false

set_option linter.unusedSimpArgs false
def KLIST : Nat := 2
theorem field0 (p : Bool) (a b : Value) (w : World) : Sem.run Tryz.prog (Instr.field 35 (.agg #[.bool p,a,b]) 0) w = .ok (.agg #[.bool p,a]) w := by kernel_rfl
/-- The number so far. -/
def xq (Z : Nat → Int) (n j : Nat) : Rat := ((unfN Z n j).1 : Rat) / ((unfN Z n j).2 : Rat)
theorem unf_den (Z : Nat → Int) (n j : Nat) (h : ∀ i,i < j → (unfN Z n i).1 ≠ 0) : (unfN Z n j).2 ≠ 0 := by
 cases j with
 | zero => show (1 : Int) ≠ 0; decide
 | succ j => exact h j (by omega)
theorem xq_ne (Z : Nat → Int) (n j : Nat) (h : ∀ i,i < j → (unfN Z n i).1 ≠ 0) (h0 : (unfN Z n j).1 ≠ 0) : xq Z n j ≠ 0 := by
 have h1 := unf_den Z n j h
 unfold xq
 generalize (unfN Z n j).1 = A at *
 generalize (unfN Z n j).2 = C at *
 have a0 : (A : Rat) ≠ 0 := fun e => h0 (Rat.intCast_eq_zero_iff.1 e)
 have c0 : (C : Rat) ≠ 0 := fun e => h1 (Rat.intCast_eq_zero_iff.1 e)
 intro e
 rw [Rat.div_def] at e
 rcases Rat.mul_eq_zero.1 e with e | e
 ·exact a0 e
 ·exact c0 (by rw [← Rat.inv_inv (C : Rat),e]; exact Rat.inv_zero)
theorem xq_next (Z : Nat → Int) (M j : Nat) (h0 : (unfN Z (M + 1) j).1 ≠ 0) : xq Z (M + 1) (j + 1) = ((Z (M - 1 - j) : Int) : Rat) + (xq Z (M + 1) j)⁻¹ := by
 show ((Z (M + 1 - 2 - j) * (unfN Z (M + 1) j).1 + (unfN Z (M + 1) j).2 : Int) : Rat) / ((unfN Z (M + 1) j).1 : Rat) = _
 unfold xq
 rw [show M + 1 - 2 - j = M - 1 - j by omega]
 generalize (unfN Z (M + 1) j).1 = A at *
 generalize (unfN Z (M + 1) j).2 = C at *
 have a0 : (A : Rat) ≠ 0 := fun e => h0 (Rat.intCast_eq_zero_iff.1 e)
 rw [Rat.intCast_add,Rat.intCast_mul]
 grind
theorem first_zero (Z : Nat → Int) (M : Nat) : ∃ k,k ≤ M ∧ (k < M → (unfN Z (M + 1) k).1 = 0) ∧ ∀ i,i < k → (unfN Z (M + 1) i).1 ≠ 0 := by
 by_cases h' : ∃ k,k < M ∧ (unfN Z (M + 1) k).1 = 0
 ·obtain ⟨k,hk⟩ := h'
  induction k using Nat.strongRecOn with
  | _ k ih =>
   by_cases g : ∃ i,i < k ∧ (unfN Z (M + 1) i).1 = 0
   ·obtain ⟨i,hi,e⟩ := g
    exact ih i hi ⟨by omega,e⟩
   ·exact ⟨k,by omega,fun _ => hk.2,fun i hi e => g ⟨i,hi,e⟩⟩
 ·exact ⟨M,Nat.le_refl _,fun h => absurd h (by omega),fun i hi e => h' ⟨i,hi,e⟩⟩
/-- The answer, where there is one. -/
def AnsAt (w : World) (v : Value) (q : Rat) (P : Prop) : Prop := P → RepQ w v q
theorem AnsAt.below {w w' : World} {v : Value} {q : Rat} {P : Prop} (h : AnsAt w v q P) (hb : Below w.heap.size w w') : AnsAt w' v q P := fun p => (h p).below hb
theorem AnsAt.keep {w w' : World} {v : Value} {q : Rat} {P : Prop} (h : AnsAt w v q P) (hk : KeepQ IsNum w w') : AnsAt w' v q P := fun p => (h p).keep hk
set_option maxRecDepth 100000 in
set_option maxHeartbeats 16000000 in
theorem walk (v : Value) (n : Nat) (z : Nat → Int) (w : World) (hv : RawRow w v n z KLIST) (ht : Tab w) :
  Calls Tryz.prog 8 #[v] w fun e w' => e = .returned (.bool true) ∧ Below w.heap.size w w' := by
 unfold KLIST at hv
 have HV : Hid (RawRow w v n z 2) := hv
 have hT : Hid (Tab w) := ht
 clear ht
 obtain ⟨el,⟨a,c,rfl,hnc,hcm,_⟩,_⟩ := hv
 go_enter Tryz.func8,Tryz.ntmps8
 go_wp2
 go_loopw [3,4] (fun vm vi wr => ∃ (i : Nat),i ≤ n ∧ i ≤ 20 ∧ vi = .int .i64 (i : Int) ∧ IOwn w.heap.size wr vm i z 2 ∧ Below w.heap.size w wr) (fun _ vi _ => (21 - intOf vi).toNat)
 case atStart => exact ⟨0,by omega,by omega,rfl,IOwn.nil _ _ _ _,Below.refl _ _⟩
 case round =>
  obtain ⟨i,hin,hi20,rfl,O,B⟩ := hrel
  by_cases hgo : i < n ∧ i < 20
  ·have j1 : (i : Int) < (n : Int) := by omega
   have j2 : (i : Int) < 20 := by omega
   have i0 : (0 : Int) ≤ (i : Int) := by omega
   obtain ⟨b,off,cc,q,bo,l,d,f,hvv,hcc,e0,e1,hraw,hz⟩ := (HV.out.below B).at i hgo.1
   cases hvv
   have HZ : Hid (z i = zof q (num f (min l 2))) := hz
   clear hz
   go_wp2_with fail
   refine (tiny_at _ _ _ _ _ _ _ _ hraw (raw_nil _)).mono ?_
   rintro e w4 ⟨ao4,c4,bo4,d4,rfl,hu4,uf4,hv4,vf4,b4⟩
   have X4 : IntAt w4 (.agg #[.bool q,.slice ao4 (min l 2) c4]) (z i) 2 := by rw [HZ.out]; exact ⟨_,_,_,_,_,rfl,hu4,uf4,rfl,Nat.min_le_right _ _⟩
   generalize min l 2 = l4 at *
   generalize min 0 2 = k4 at *
   obtain ⟨us,el',o1,o2,o3,o4⟩ := O
   have hul : us.length = i * 2 := o1.1
   have HO3 : Hid (∀ i',i' < i → ∀ j,j < 2 → us[i' * 2 + j]? = some (el' i' j)) := o3
   have HO4 : Hid (∀ i',i' < i → IntAt wr (.agg #[el' i' 0,el' i' 1]) (z i') 2) := o4
   have hwr : w.heap.size ≤ wr.heap.size := B.size
   have b4' : Below wr.heap.size wr (w4.alloc (.cells #[.bool q,.slice ao4 l4 c4] 33)) := b4.alloc b4.size _
   have hPO : Hid (∀ g0,Value.ownBlock u3 = some g0 → PureB IsNum (w4.alloc (.cells #[.bool q,.slice ao4 l4 c4] 33)) g0) := fun g0 hg0 => (o2 g0 hg0).below b4' (o1.lt g0 hg0).2
   have hlt : Hid (∀ g0,Value.ownBlock u3 = some g0 → w.heap.size ≤ g0) := fun g0 hg0 => (o1.lt g0 hg0).1
   clear o2 o3 o4
   go_wp2_with fail
   rw [field0]
   go_wp2_with (at_builtin; refine wpList_append_pure (Q' := IsNum) rfl _ _ _ rfl w.heap.size 33 (.agg #[.bool false,.slice none 0 0]) 2 32 Tryz.underlying58 info_wint rfl (by omega) u3 rfl i us ((owns_later o1 b4).alloc _) hPO.out ⟨w4.heap.size,0,none⟩ 1 rfl [.bool q,.slice ao4 l4 c4] rfl (news_block (heap_alloc_new _ _)) (by simp [Value.oneCell']) (by simp [num_slice,num_bool]) (by simp [Value.cells,num_slice,num_bool]) (by omega) (by omega) (by have := b4'.size; simp at this ⊢; omega) ?_)
   intro g5 cap5 w5 ho5 hg5 hat5 hp5 hk5
   have E : IOwn w.heap.size w5 (.slice (some ⟨g5,0,none⟩) (i + 1) cap5) (i + 1) z 2 := IOwn.more ho5 hp5 hul HO3.out (fun i' hi' => (HO4.out i' hi').below b4') (X4.below ((Below.refl _ _).alloc (Nat.le_refl _) _)) hk5
   have B4 := B.trans (b4'.mono B.size)
   have BB : Below w.heap.size w w5 := below_grownB B4 hg5 (by have := B4.size; omega) (fun g0 hg0 => by have := hlt.out g0 hg0; omega)
   clear o1 hPO hlt HO3 HO4 hu4 uf4 hv4 vf4 b4 b4' X4 ho5 hg5 hat5 hp5 hk5 B B4 hul e0 e1 hraw
   go_wp2
   go_roundw
   case rel => exact ⟨i + 1,by omega,by omega,by go_num,E,BB⟩
   case measure => simp [intOf]; omega
  ·have hend : Hid True := trivial
   by_cases hin' : i < n
   ·have j1 : (i : Int) < (n : Int) := by omega
    have j2 : ¬ (i : Int) < 20 := by omega
    have BB := B
    have ht := hT.out.below B
    have E := O.row
    clear B O HV hT
    obtain ⟨M,rfl⟩ : ∃ M,i = M + 1 := ⟨i - 1,by omega⟩
    have hM : M ≤ 19 := by omega
    have lz : ∀ j,j < M + 1 → nl W32 (z j).natAbs ≤ 2 := fun j hj => by obtain ⟨el,_,h⟩ := id E; exact (h j hj).nl
    have HL : Hid (∀ j,j < M + 1 → nl W32 (z j).natAbs ≤ 2) := lz
    have HU : Hid _ := unf_nl z (M + 1) 2 lz
    clear lz
    obtain ⟨k,hk0,hk1,hk2⟩ := first_zero z M
    have HK1 : Hid (k < M → (unfN z (M + 1) k).1 = 0) := hk1
    have HK2 : Hid (∀ i,i < k → (unfN z (M + 1) i).1 ≠ 0) := hk2
    obtain ⟨b,off,cm,pe,ae,me,de,hvv,hcc,hE,hI⟩ := E.at M (by omega)
    cases hvv
    have hM0 : (((M + 1 : Nat) : Int) == 0) = false := by simp; omega
    have hM1 : ((M : Int) + 1 == 0) = false := by simp; omega
    clear hgo hk1 hk2
    go_wp2_with fail
    refine (unfold_all _ (M + 1) z 2 _ E ht (by omega) (by omega) k (by omega) (fun h => HK1.out (by omega)) HK2.out).mono ?_
    rintro e w21 ⟨ra,er,rfl,g1,g2,b21⟩
    replace ht := ht.below b21
    replace E := E.below b21
    replace hI := hI.below b21
    replace hE := hE.below b21
    replace BB := BB.trans (b21.mono BB.size)
    clear b21
    have Ha : AnsAt w21 ra (xq z (M + 1) k) (k = M) := fun e => (g1 (by omega)).2
    have G1 : Hid (k = M → er = 0) := fun e => (g1 (by omega)).1
    have G2 : Hid (k < M → ra = .agg #[.bool false,.slice none 0 0,.slice none 0 0] ∧ er = 2) := fun e => g2 (by omega)
    obtain ⟨pa,aa,na,ca,ba,ma,da,rfl⟩ : ∃ pa aa na ca ba ma da,ra = .agg #[.bool pa,.slice aa na ca,.slice ba ma da] := by
     by_cases e : k = M
     ·exact (Ha e).open
     ·exact ⟨_,_,_,_,_,_,_,(G2.out (by omega)).1⟩
    have G3 : Hid (k < M → Nil7 pa aa na ca ba ma da) := fun e => by
     have h := (G2.out e).1
     simp only [Value.agg.injEq,Array.mk.injEq,List.cons.injEq,Value.bool.injEq,Value.slice.injEq,and_true] at h
     obtain ⟨h1,⟨h2,h3,h4⟩,h5,h6,h7⟩ := h
     exact ⟨h1,h2,h3,h4,h5,h6,h7⟩
    have G4 : Hid (k < M → er = 2) := fun e => (G2.out e).2
    clear g1 g2 G2
    have hZ21 : w.heap.size ≤ w21.heap.size := BB.size
    have hN21hE : b ≠ w21.heap.size := Nat.ne_of_lt hE.lt
    obtain ⟨W21,hW21,hS21,hL21,VA⟩ := V3.lay w21 35 (.bool pa) (.slice aa na ca) (.slice ba ma da)
    replace ht := ht.below hL21
    replace E := E.below hL21
    replace hI := hI.below hL21
    replace Ha := Ha.below hL21
    replace hE := hE.below hL21
    replace BB := BB.trans (hL21.mono BB.size)
    clear hL21
    obtain ⟨hE_0,hE_1⟩ := id hE
    rw [hW21] at hE_0 hE_1
    go_wp2_with fail
    clear hE_0 hE_1
    rw [← hW21]
    generalize w21.heap.size = R21 at *
    clear hW21 hS21
    refine (rfrom_any _ (z M) 2 _ hI (by omega)).mono ?_
    rintro e w22 ⟨v1,rfl,J1,b22⟩
    replace ht := ht.below b22
    replace E := E.below b22
    replace hI := hI.below b22
    replace Ha := Ha.below b22
    replace hE := hE.below b22
    replace VA := VA.below b22
    replace BB := BB.trans (b22.mono BB.size)
    clear b22
    go_wp2_with fail
    refine (jwhole_at _ (z M) 2 _ J1 (HL.out M (by omega)) (by omega)).mono ?_
    rintro e w23 ⟨v2,rfl,Jx,b23⟩
    replace ht := ht.below b23
    replace E := E.below b23
    replace hI := hI.below b23
    replace Ha := Ha.below b23
    replace J1 := J1.below b23
    replace hE := hE.below b23
    replace VA := VA.below b23
    replace BB := BB.trans (b23.mono BB.size)
    clear b23
    obtain ⟨px,ax,nx,cx,bx,mx,dx,rfl⟩ := Jx.open
    clear J1 hI
    have hbR : b < w23.heap.size := hE.lt
    have hZ22 : w.heap.size ≤ w23.heap.size := BB.size
    have hN22hE : b ≠ w23.heap.size := Nat.ne_of_lt hE.lt
    have hN22VA : R21 ≠ w23.heap.size := Nat.ne_of_lt VA.lt
    obtain ⟨W22,hW22,hS22,hL22,VX⟩ := V3.lay w23 28 (.bool px) (.slice ax nx cx) (.slice bx mx dx)
    replace ht := ht.below hL22
    replace E := E.below hL22
    replace Ha := Ha.below hL22
    replace Jx := Jx.below hL22
    replace hE := hE.below hL22
    replace VA := VA.below hL22
    replace BB := BB.trans (hL22.mono BB.size)
    clear hL22
    go_wp2
    rw [← hW22]
    generalize w23.heap.size = R22 at *
    clear hW22 hS22
    clear hE
    have HX0 : Hid (((z M : Int) : Rat) = xq z (M + 1) 0) := by show _ = ((z (M + 1 - 1) : Int) : Rat) / ((1 : Int) : Rat); rw [Nat.add_sub_cancel,Rat.intCast_one]; grind
    rw [HX0.out] at Jx
    go_loopw [8] (fun vi wr => ∃ (j : Nat) (I : Int) (px : Bool) (ax : Option Addr) (nx cx : Nat) (bx : Option Addr) (mx dx : Nat),j ≤ k ∧ vi = .int .i64 I ∧ I = (M : Int) - 1 - (j : Int) ∧ V3 wr R22 (.bool px) (.slice ax nx cx) (.slice bx mx dx) ∧ DocQ wr (.agg #[.bool px,.slice ax nx cx,.slice bx mx dx]) (xq z (M + 1) j) (2 + 3 * j) ∧ V3 wr R21 (.bool pa) (.slice aa na ca) (.slice ba ma da) ∧ AnsAt wr (.agg #[.bool pa,.slice aa na ca,.slice ba ma da]) (xq z (M + 1) k) (k = M) ∧ IRow wr (.slice (some ⟨b,off,none⟩) (M + 1) cm) (M + 1) z 2 ∧ Tab wr ∧ Below w.heap.size w wr) (fun vi _ => (intOf vi + 1).toNat)
    case atStart => exact ⟨0,(M : Int) - 1,px,ax,nx,cx,bx,mx,dx,by omega,by go_num,by omega,VX,Jx,VA,Ha,E,ht,BB⟩
    case round =>
     clear VX Jx VA Ha E ht BB
     obtain ⟨j,I,px,ax,nx,cx,bx,mx,dx,hjK,rfl,hIv,VX,Jx,VA,Ha,E,ht,BB⟩ := hrel
     by_cases hj : j < k
     ·obtain ⟨t,rfl⟩ : ∃ t : Nat,I = (t : Int) := ⟨I.toNat,by omega⟩
      have c1 : (0 : Int) ≤ (t : Int) := by omega
      have htM : t < M + 1 := by omega
      have c2 : (t : Int) < ((M + 1 : Nat) : Int) := by omega
      have c3 : (t : Int) < (M : Int) + 1 := by omega
      have HTJ : Hid (t = M - 1 - j) := by show _ = _; omega
      have HTI : Hid ((t : Int) - 1 = (M : Int) - 1 - ((j + 1 : Nat) : Int)) := by show _ = _; omega
      clear hIv
      have hx0 : xq z (M + 1) j ≠ 0 := xq_ne z (M + 1) j (fun i hi => HK2.out i (by omega)) (HK2.out j hj)
      have HX : Hid (xq z (M + 1) j ≠ 0) := hx0
      have HN : Hid (xq z (M + 1) (j + 1) = ((z t : Int) : Rat) + (xq z (M + 1) j)⁻¹) := by show _ = _; rw [HTJ.out]; exact xq_next z M j (HK2.out j hj)
      have hnx : ((nx : Int) == 0) = false := by
       have : ¬ nx = 0 := fun e => hx0 ((doc_len Jx).1 e)
       simp; omega
      clear hx0
      obtain ⟨b2,off2,cm2,pe,ae,me,de,hvv,_,hE,hI⟩ := E.at t (by omega)
      cases hvv
      have lz := HL.out t htM
      have HXX : Hid (xq z (M + 1) j = xq z (M + 1) j) := rfl
      generalize hxx : xq z (M + 1) j = x at Jx HX HN
      generalize hzt : z t = zt at hI HN lz
      clear hxx hzt
      obtain ⟨VX_0,VX_1,VX_2,VX_3,VX_4,VX_5⟩ := id VX
      go_wp2
      clear VX_0 VX_1 VX_2 VX_3 VX_4 VX_5
      have hDr : Below wr.heap.size wr wr.drew := (Below.refl _ _).drew
      replace Jx := Jx.below hDr
      replace Ha := Ha.below hDr
      replace E := E.below hDr
      replace ht := ht.below hDr
      replace hI := hI.below hDr
      replace VX := VX.below hDr
      replace VA := VA.below hDr
      replace hE := hE.below hDr
      replace BB := BB.trans (hDr.mono BB.size)
      clear hDr
      refine wp_region_held_drew (S := (fun w' => w'.cell? ⟨b,off + t * 2,none⟩ = some (.bool pe) ∧ w'.cell? ⟨b,off + t * 2 + 1,none⟩ = some (.slice ae me de))) (by kernel_rfl) ?_ (fun hHeld => ?_)
      ·exact ⟨hE.1,hE.2⟩
      generalize wr.drew = W23 at *
      refine xT 0 (v := ?_) (hy := Or.inl ⟨by rfl,?_⟩) (h := ?_)
      rotate_left
      ·(intro w hSw; (try dsimp only at hSw); go_simp; (try with_reducible rfl))
      (try simp only [Act.put,xL4,xL5,xL6])
      refine xT 1 (v := ?_) (hy := Or.inl ⟨by rfl,?_⟩) (h := ?_)
      rotate_left
      ·(intro w hSw; (try dsimp only at hSw); go_simp; (try with_reducible rfl))
      (try simp only [Act.put,xL4,xL5,xL6])
      refine xT 2 (v := ?_) (hy := Or.inl ⟨by rfl,?_⟩) (h := ?_)
      rotate_left
      ·(intro w hSw; (try dsimp only at hSw); go_simp; (try with_reducible rfl))
      (try simp only [Act.put,xL4,xL5,xL6])
      refine xT 3 (v := ?_) (hy := Or.inl ⟨by rfl,?_⟩) (h := ?_)
      rotate_left
      ·(intro w hSw; (try dsimp only at hSw); go_simp; (try with_reducible rfl))
      (try simp only [Act.put,xL4,xL5,xL6])
      refine xR [4,6] (h := ?_)
      refine xC (h := fun K hK => ?_) (hs := ?_)
      ·
       go_simp
       refine (rfrom_any _ zt 2 _ hI (by omega)).mono ?_
       rintro e w24 ⟨v1,rfl,J1,b24⟩
       go_wp2_with fail
       replace Jx := Jx.below b24
       replace Ha := Ha.below b24
       replace E := E.below b24
       replace ht := ht.below b24
       replace hI := hI.below b24
       replace VX := VX.below b24
       replace VA := VA.below b24
       replace hE := hE.below b24
       replace BB := BB.trans (b24.mono BB.size)
       clear b24
       refine hK.out _ _ ?_ (fun hH1 => ?_)
       ·exact ⟨hE.1,hE.2⟩
       clear hK K hHeld
       (try simp only [Act.put,xL4,xL5,xL6])
       refine xR [5,6] (h := ?_)
       refine xC (h := fun K hK => ?_) (hs := ?_)
       ·
        go_simp
        refine (jwhole_at _ zt 2 _ J1 lz (by omega)).mono ?_
        rintro e w25 ⟨v2,rfl,J2,b25⟩
        go_wp2_with fail
        replace Jx := Jx.below b25
        replace Ha := Ha.below b25
        replace E := E.below b25
        replace ht := ht.below b25
        replace hI := hI.below b25
        replace J1 := J1.below b25
        replace VX := VX.below b25
        replace VA := VA.below b25
        replace hE := hE.below b25
        replace BB := BB.trans (b25.mono BB.size)
        clear b25
        refine hK.out _ _ ?_ (fun hH2 => ?_)
        ·exact ⟨hE.1,hE.2⟩
        clear hK K hH1
        (try simp only [Act.put,xL4,xL5,xL6])
        refine xR [6] (h := ?_)
        refine xN (h := fun K hK => ?_)
        obtain ⟨VX_0,VX_1,VX_2,VX_3,VX_4,VX_5⟩ := id VX
        go_simp
        clear VX_0 VX_1 VX_2 VX_3 VX_4 VX_5
        refine hK.out _ _ ?_ (fun hH3 => ?_)
        ·exact ⟨hE.1,hE.2⟩
        clear hK K hH2
        (try simp only [Act.put,xL4,xL5,xL6])
        refine xR [7] (h := ?_)
        refine xN (h := fun K hK => ?_)
        go_simp
        refine (jinverse_at _ x (2 + 3 * j) _ Jx (by omega) HX.out).mono ?_
        rintro e w26 ⟨v3,rfl,J3,b26⟩
        go_wp2_with fail
        replace Jx := Jx.below b26
        replace Ha := Ha.below b26
        replace E := E.below b26
        replace ht := ht.below b26
        replace hI := hI.below b26
        replace J1 := J1.below b26
        replace J2 := J2.below b26
        replace VX := VX.below b26
        replace VA := VA.below b26
        replace hE := hE.below b26
        replace BB := BB.trans (b26.mono BB.size)
        clear b26
        refine hK.out _ _ ?_ (fun hH4 => ?_)
        ·exact ⟨hE.1,hE.2⟩
        clear hK K hH3
        (try simp only [Act.put,xL4,xL5,xL6])
        refine xR [8] (h := ?_)
        refine xN (h := fun K hK => ?_)
        go_simp
        refine (jplus_at _ _ (zt : Rat) x⁻¹ 2 (2 + 3 * j) _ J2 J3 (by omega)).mono ?_
        rintro e w27 ⟨v4,rfl,J4,b27⟩
        obtain ⟨p4,a4,n4,c4,b4,m4,d4,rfl⟩ := J4.open
        rw [← HN.out] at J4
        go_wp2_with fail
        replace Jx := Jx.below b27
        replace Ha := Ha.below b27
        replace E := E.below b27
        replace ht := ht.below b27
        replace hI := hI.below b27
        replace J1 := J1.below b27
        replace J2 := J2.below b27
        replace J3 := J3.below b27
        replace VX := VX.below b27
        replace VA := VA.below b27
        replace hE := hE.below b27
        replace BB := BB.trans (b27.mono BB.size)
        clear b27
        refine hK.out _ _ ?_ (fun hH5 => ?_)
        ·exact ⟨hE.1,hE.2⟩
        clear hK K hH4
        (try simp only [Act.put,xL4,xL5,xL6])
        refine xR [9] (h := ?_)
        refine xN (h := fun K hK => ?_)
        have hKp := VX.keepJ (.bool p4) (.slice a4 n4 c4) (.slice b4 m4 d4)
        have VA_n := VA.other3 (R := R22) (by omega) (.bool p4) (.slice a4 n4 c4) (.slice b4 m4 d4)
        have hE_n := hE.other3 (R := R22) (by omega) (.bool p4) (.slice a4 n4 c4) (.slice b4 m4 d4)
        have VX_n := VX.same (.bool p4) (.slice a4 n4 c4) (.slice b4 m4 d4)
        have Jx_n := Jx.keep hKp
        have Ha_n := Ha.keep hKp
        have E_n := E.other (grown_set3 w27 R22 (.bool p4) (.slice a4 n4 c4) (.slice b4 m4 d4)) hKp (fun g hg => by cases hg; omega)
        have ht_n := ht.keep hKp
        have hI_n := hI.keep hKp
        have J1_n := J1.keep hKp
        have J2_n := J2.keep hKp
        have J3_n := J3.keep hKp
        have J4_n := J4.keep hKp
        have BB_n := below_store3 (R := R22) BB (by omega) (.bool p4) (.slice a4 n4 c4) (.slice b4 m4 d4)
        clear hKp
        obtain ⟨VX_0,VX_1,VX_2,VX_3,VX_4,VX_5⟩ := id VX
        go_simp
        clear VX_0 VX_1 VX_2 VX_3 VX_4 VX_5
        clear BB Jx Ha E ht hI J1 J2 J3 J4 VX VA hE
        generalize ((w27.setCell ⟨R22,0,none⟩ (.bool p4)).setCell ⟨R22,1,none⟩ (.slice a4 n4 c4)).setCell ⟨R22,2,none⟩ (.slice b4 m4 d4) = W24 at *
        have BB := BB_n
        have Jx := Jx_n
        have Ha := Ha_n
        have E := E_n
        have ht := ht_n
        have hI := hI_n
        have J1 := J1_n
        have J2 := J2_n
        have J3 := J3_n
        have J4 := J4_n
        have VX := VX_n
        have VA := VA_n
        have hE := hE_n
        clear BB_n Jx_n Ha_n E_n ht_n hI_n J1_n J2_n J3_n J4_n VX_n VA_n hE_n
        refine hK.out _ _ ?_ (fun hH6 => ?_)
        ·exact ⟨hE.1,hE.2⟩
        clear hK K hH5
        (try simp only [Act.put,xL4,xL5,xL6])
        refine wpAnyH_done (by kernel_rfl) ?_ _
        clear hH6
        clear J1 J2 J3 Jx hI
        clear hE
        go_wp2
        go_roundw
        case rel => exact ⟨j + 1,(t : Int) - 1,p4,a4,n4,c4,b4,m4,d4,by omega,by go_num,HTI.out,VX,J4.le (by omega),VA,Ha,E,ht,BB⟩
        case measure => simp [intOf]; try omega
       refine xC (h := fun K hK => ?_) (hs := ?_)
       ·
        obtain ⟨VX_0,VX_1,VX_2,VX_3,VX_4,VX_5⟩ := id VX
        go_simp
        clear VX_0 VX_1 VX_2 VX_3 VX_4 VX_5
        refine hK.out _ _ ?_ (fun hH2 => ?_)
        ·exact ⟨hE.1,hE.2⟩
        clear hK K hH1
        (try simp only [Act.put,xL4,xL5,xL6])
        refine xR [5] (h := ?_)
        refine xN (h := fun K hK => ?_)
        go_simp
        refine (jwhole_at _ zt 2 _ J1 lz (by omega)).mono ?_
        rintro e w28 ⟨v2,rfl,J2,b28⟩
        go_wp2_with fail
        replace Jx := Jx.below b28
        replace Ha := Ha.below b28
        replace E := E.below b28
        replace ht := ht.below b28
        replace hI := hI.below b28
        replace J1 := J1.below b28
        replace VX := VX.below b28
        replace VA := VA.below b28
        replace hE := hE.below b28
        replace BB := BB.trans (b28.mono BB.size)
        clear b28
        refine hK.out _ _ ?_ (fun hH3 => ?_)
        ·exact ⟨hE.1,hE.2⟩
        clear hK K hH2
        (try simp only [Act.put,xL4,xL5,xL6])
        refine xR [7] (h := ?_)
        refine xN (h := fun K hK => ?_)
        go_simp
        refine (jinverse_at _ x (2 + 3 * j) _ Jx (by omega) HX.out).mono ?_
        rintro e w29 ⟨v3,rfl,J3,b29⟩
        go_wp2_with fail
        replace Jx := Jx.below b29
        replace Ha := Ha.below b29
        replace E := E.below b29
        replace ht := ht.below b29
        replace hI := hI.below b29
        replace J1 := J1.below b29
        replace J2 := J2.below b29
        replace VX := VX.below b29
        replace VA := VA.below b29
        replace hE := hE.below b29
        replace BB := BB.trans (b29.mono BB.size)
        clear b29
        refine hK.out _ _ ?_ (fun hH4 => ?_)
        ·exact ⟨hE.1,hE.2⟩
        clear hK K hH3
        (try simp only [Act.put,xL4,xL5,xL6])
        refine xR [8] (h := ?_)
        refine xN (h := fun K hK => ?_)
        go_simp
        refine (jplus_at _ _ (zt : Rat) x⁻¹ 2 (2 + 3 * j) _ J2 J3 (by omega)).mono ?_
        rintro e w30 ⟨v4,rfl,J4,b30⟩
        obtain ⟨p4,a4,n4,c4,b4,m4,d4,rfl⟩ := J4.open
        rw [← HN.out] at J4
        go_wp2_with fail
        replace Jx := Jx.below b30
        replace Ha := Ha.below b30
        replace E := E.below b30
        replace ht := ht.below b30
        replace hI := hI.below b30
        replace J1 := J1.below b30
        replace J2 := J2.below b30
        replace J3 := J3.below b30
        replace VX := VX.below b30
        replace VA := VA.below b30
        replace hE := hE.below b30
        replace BB := BB.trans (b30.mono BB.size)
        clear b30
        refine hK.out _ _ ?_ (fun hH5 => ?_)
        ·exact ⟨hE.1,hE.2⟩
        clear hK K hH4
        (try simp only [Act.put,xL4,xL5,xL6])
        refine xR [9] (h := ?_)
        refine xN (h := fun K hK => ?_)
        have hKp := VX.keepJ (.bool p4) (.slice a4 n4 c4) (.slice b4 m4 d4)
        have VA_n := VA.other3 (R := R22) (by omega) (.bool p4) (.slice a4 n4 c4) (.slice b4 m4 d4)
        have hE_n := hE.other3 (R := R22) (by omega) (.bool p4) (.slice a4 n4 c4) (.slice b4 m4 d4)
        have VX_n := VX.same (.bool p4) (.slice a4 n4 c4) (.slice b4 m4 d4)
        have Jx_n := Jx.keep hKp
        have Ha_n := Ha.keep hKp
        have E_n := E.other (grown_set3 w30 R22 (.bool p4) (.slice a4 n4 c4) (.slice b4 m4 d4)) hKp (fun g hg => by cases hg; omega)
        have ht_n := ht.keep hKp
        have hI_n := hI.keep hKp
        have J1_n := J1.keep hKp
        have J2_n := J2.keep hKp
        have J3_n := J3.keep hKp
        have J4_n := J4.keep hKp
        have BB_n := below_store3 (R := R22) BB (by omega) (.bool p4) (.slice a4 n4 c4) (.slice b4 m4 d4)
        clear hKp
        obtain ⟨VX_0,VX_1,VX_2,VX_3,VX_4,VX_5⟩ := id VX
        go_simp
        clear VX_0 VX_1 VX_2 VX_3 VX_4 VX_5
        clear BB Jx Ha E ht hI J1 J2 J3 J4 VX VA hE
        generalize ((w30.setCell ⟨R22,0,none⟩ (.bool p4)).setCell ⟨R22,1,none⟩ (.slice a4 n4 c4)).setCell ⟨R22,2,none⟩ (.slice b4 m4 d4) = W25 at *
        have BB := BB_n
        have Jx := Jx_n
        have Ha := Ha_n
        have E := E_n
        have ht := ht_n
        have hI := hI_n
        have J1 := J1_n
        have J2 := J2_n
        have J3 := J3_n
        have J4 := J4_n
        have VX := VX_n
        have VA := VA_n
        have hE := hE_n
        clear BB_n Jx_n Ha_n E_n ht_n hI_n J1_n J2_n J3_n J4_n VX_n VA_n hE_n
        refine hK.out _ _ ?_ (fun hH6 => ?_)
        ·exact ⟨hE.1,hE.2⟩
        clear hK K hH5
        (try simp only [Act.put,xL4,xL5,xL6])
        refine wpAnyH_done (by kernel_rfl) ?_ _
        clear hH6
        clear J1 J2 J3 Jx hI
        clear hE
        go_wp2
        go_roundw
        case rel => exact ⟨j + 1,(t : Int) - 1,p4,a4,n4,c4,b4,m4,d4,by omega,by go_num,HTI.out,VX,J4.le (by omega),VA,Ha,E,ht,BB⟩
        case measure => simp [intOf]; try omega
       exact AllReadyH.nil
      refine xC (h := fun K hK => ?_) (hs := ?_)
      ·
       obtain ⟨VX_0,VX_1,VX_2,VX_3,VX_4,VX_5⟩ := id VX
       go_simp
       clear VX_0 VX_1 VX_2 VX_3 VX_4 VX_5
       refine hK.out _ _ ?_ (fun hH1 => ?_)
       ·exact ⟨hE.1,hE.2⟩
       clear hK K hHeld
       (try simp only [Act.put,xL4,xL5,xL6])
       refine xR [4] (h := ?_)
       refine xN (h := fun K hK => ?_)
       go_simp
       refine (rfrom_any _ zt 2 _ hI (by omega)).mono ?_
       rintro e w31 ⟨v1,rfl,J1,b31⟩
       go_wp2_with fail
       replace Jx := Jx.below b31
       replace Ha := Ha.below b31
       replace E := E.below b31
       replace ht := ht.below b31
       replace hI := hI.below b31
       replace VX := VX.below b31
       replace VA := VA.below b31
       replace hE := hE.below b31
       replace BB := BB.trans (b31.mono BB.size)
       clear b31
       refine hK.out _ _ ?_ (fun hH2 => ?_)
       ·exact ⟨hE.1,hE.2⟩
       clear hK K hH1
       (try simp only [Act.put,xL4,xL5,xL6])
       refine xR [5] (h := ?_)
       refine xN (h := fun K hK => ?_)
       go_simp
       refine (jwhole_at _ zt 2 _ J1 lz (by omega)).mono ?_
       rintro e w32 ⟨v2,rfl,J2,b32⟩
       go_wp2_with fail
       replace Jx := Jx.below b32
       replace Ha := Ha.below b32
       replace E := E.below b32
       replace ht := ht.below b32
       replace hI := hI.below b32
       replace J1 := J1.below b32
       replace VX := VX.below b32
       replace VA := VA.below b32
       replace hE := hE.below b32
       replace BB := BB.trans (b32.mono BB.size)
       clear b32
       refine hK.out _ _ ?_ (fun hH3 => ?_)
       ·exact ⟨hE.1,hE.2⟩
       clear hK K hH2
       (try simp only [Act.put,xL4,xL5,xL6])
       refine xR [7] (h := ?_)
       refine xN (h := fun K hK => ?_)
       go_simp
       refine (jinverse_at _ x (2 + 3 * j) _ Jx (by omega) HX.out).mono ?_
       rintro e w33 ⟨v3,rfl,J3,b33⟩
       go_wp2_with fail
       replace Jx := Jx.below b33
       replace Ha := Ha.below b33
       replace E := E.below b33
       replace ht := ht.below b33
       replace hI := hI.below b33
       replace J1 := J1.below b33
       replace J2 := J2.below b33
       replace VX := VX.below b33
       replace VA := VA.below b33
       replace hE := hE.below b33
       replace BB := BB.trans (b33.mono BB.size)
       clear b33
       refine hK.out _ _ ?_ (fun hH4 => ?_)
       ·exact ⟨hE.1,hE.2⟩
       clear hK K hH3
       (try simp only [Act.put,xL4,xL5,xL6])
       refine xR [8] (h := ?_)
       refine xN (h := fun K hK => ?_)
       go_simp
       refine (jplus_at _ _ (zt : Rat) x⁻¹ 2 (2 + 3 * j) _ J2 J3 (by omega)).mono ?_
       rintro e w34 ⟨v4,rfl,J4,b34⟩
       obtain ⟨p4,a4,n4,c4,b4,m4,d4,rfl⟩ := J4.open
       rw [← HN.out] at J4
       go_wp2_with fail
       replace Jx := Jx.below b34
       replace Ha := Ha.below b34
       replace E := E.below b34
       replace ht := ht.below b34
       replace hI := hI.below b34
       replace J1 := J1.below b34
       replace J2 := J2.below b34
       replace J3 := J3.below b34
       replace VX := VX.below b34
       replace VA := VA.below b34
       replace hE := hE.below b34
       replace BB := BB.trans (b34.mono BB.size)
       clear b34
       refine hK.out _ _ ?_ (fun hH5 => ?_)
       ·exact ⟨hE.1,hE.2⟩
       clear hK K hH4
       (try simp only [Act.put,xL4,xL5,xL6])
       refine xR [9] (h := ?_)
       refine xN (h := fun K hK => ?_)
       have hKp := VX.keepJ (.bool p4) (.slice a4 n4 c4) (.slice b4 m4 d4)
       have VA_n := VA.other3 (R := R22) (by omega) (.bool p4) (.slice a4 n4 c4) (.slice b4 m4 d4)
       have hE_n := hE.other3 (R := R22) (by omega) (.bool p4) (.slice a4 n4 c4) (.slice b4 m4 d4)
       have VX_n := VX.same (.bool p4) (.slice a4 n4 c4) (.slice b4 m4 d4)
       have Jx_n := Jx.keep hKp
       have Ha_n := Ha.keep hKp
       have E_n := E.other (grown_set3 w34 R22 (.bool p4) (.slice a4 n4 c4) (.slice b4 m4 d4)) hKp (fun g hg => by cases hg; omega)
       have ht_n := ht.keep hKp
       have hI_n := hI.keep hKp
       have J1_n := J1.keep hKp
       have J2_n := J2.keep hKp
       have J3_n := J3.keep hKp
       have J4_n := J4.keep hKp
       have BB_n := below_store3 (R := R22) BB (by omega) (.bool p4) (.slice a4 n4 c4) (.slice b4 m4 d4)
       clear hKp
       obtain ⟨VX_0,VX_1,VX_2,VX_3,VX_4,VX_5⟩ := id VX
       go_simp
       clear VX_0 VX_1 VX_2 VX_3 VX_4 VX_5
       clear BB Jx Ha E ht hI J1 J2 J3 J4 VX VA hE
       generalize ((w34.setCell ⟨R22,0,none⟩ (.bool p4)).setCell ⟨R22,1,none⟩ (.slice a4 n4 c4)).setCell ⟨R22,2,none⟩ (.slice b4 m4 d4) = W26 at *
       have BB := BB_n
       have Jx := Jx_n
       have Ha := Ha_n
       have E := E_n
       have ht := ht_n
       have hI := hI_n
       have J1 := J1_n
       have J2 := J2_n
       have J3 := J3_n
       have J4 := J4_n
       have VX := VX_n
       have VA := VA_n
       have hE := hE_n
       clear BB_n Jx_n Ha_n E_n ht_n hI_n J1_n J2_n J3_n J4_n VX_n VA_n hE_n
       refine hK.out _ _ ?_ (fun hH6 => ?_)
       ·exact ⟨hE.1,hE.2⟩
       clear hK K hH5
       (try simp only [Act.put,xL4,xL5,xL6])
       refine wpAnyH_done (by kernel_rfl) ?_ _
       clear hH6
       clear J1 J2 J3 Jx hI
       clear hE
       go_wp2
       go_roundw
       case rel => exact ⟨j + 1,(t : Int) - 1,p4,a4,n4,c4,b4,m4,d4,by omega,by go_num,HTI.out,VX,J4.le (by omega),VA,Ha,E,ht,BB⟩
       case measure => simp [intOf]; try omega
      exact AllReadyH.nil
     ·obtain rfl : j = k := by omega
      clear E
      by_cases hkM : j < M
      ·obtain ⟨t,rfl⟩ : ∃ t : Nat,I = (t : Int) := ⟨I.toNat,by omega⟩
       have c1 : (0 : Int) ≤ (t : Int) := by omega
       obtain rfl : nx = 0 := (doc_len Jx).2 (by unfold xq; rw [HK1.out hkM]; rw [Rat.intCast_zero]; grind)
       obtain rfl : er = 2 := G4.out hkM
       have HN7 : Hid (Nil7 pa aa na ca ba ma da) := G3.out hkM
       clear hIv
       obtain ⟨VX_0,VX_1,VX_2,VX_3,VX_4,VX_5⟩ := id VX
       obtain ⟨VA_0,VA_1,VA_2,VA_3,VA_4,VA_5⟩ := id VA
       go_wp2_with fail
       clear VX_0 VX_1 VX_2 VX_3 VX_4 VX_5 VA_0 VA_1 VA_2 VA_3 VA_4 VA_5
       refine (none_hid _ _ _ _ _ _ _ _ HN7.out).mono ?_
       rintro e w64 ⟨rfl,b64⟩
       replace Jx := Jx.below b64
       replace Ha := Ha.below b64
       replace ht := ht.below b64
       replace VX := VX.below b64
       replace VA := VA.below b64
       replace BB := BB.trans (b64.mono BB.size)
       clear b64
       go_wp2_with fail
       refine (qawake_at _ ht).mono ?_
       rintro e w65 ⟨rfl,b65⟩
       replace Jx := Jx.below b65
       replace Ha := Ha.below b65
       replace ht := ht.below b65
       replace VX := VX.below b65
       replace VA := VA.below b65
       replace BB := BB.trans (b65.mono BB.size)
       clear b65
       go_wp2
       go_ret
       exact ⟨rfl,BB⟩
      ·obtain rfl : j = M := by omega
       obtain rfl : I = -1 := by omega
       obtain rfl : er = 0 := G1.out rfl
       clear hIv
       replace Ha := Ha rfl
       have hu := HU.out j (by omega)
       have sq : qsz (xq z (j + 1) j) ≤ 140 := Nat.le_trans (qsz_div _ _ (qsz_int _ hu.1 (by omega)) (qsz_int _ hu.2 (by omega))) (by omega)
       obtain ⟨VX_0,VX_1,VX_2,VX_3,VX_4,VX_5⟩ := id VX
       obtain ⟨VA_0,VA_1,VA_2,VA_3,VA_4,VA_5⟩ := id VA
       go_wp2_with fail
       clear VX_0 VX_1 VX_2 VX_3 VX_4 VX_5 VA_0 VA_1 VA_2 VA_3 VA_4 VA_5
       refine (jis_at _ _ (xq z (j + 1) j) 140 70 _ Ha sq (Jx.le (by omega)) (by omega)).mono ?_
       rintro e w74 ⟨rfl,b74⟩
       replace Jx := Jx.below b74
       replace Ha := Ha.below b74
       replace ht := ht.below b74
       replace VX := VX.below b74
       replace VA := VA.below b74
       replace BB := BB.trans (b74.mono BB.size)
       clear b74
       go_wp2_with fail
       refine (qawake_at _ ht).mono ?_
       rintro e w75 ⟨rfl,b75⟩
       replace Jx := Jx.below b75
       replace Ha := Ha.below b75
       replace ht := ht.below b75
       replace VX := VX.below b75
       replace VA := VA.below b75
       replace BB := BB.trans (b75.mono BB.size)
       clear b75
       go_wp2
       go_ret
       exact ⟨rfl,BB⟩
   ·have j1 : ¬ (i : Int) < (n : Int) := by omega
    by_cases h0 : i = 0
    ·have BB := B
     have ht := hT.out.below B
     have E := O.row
     clear B O HV hT
     subst h0
     obtain rfl : n = 0 := by omega
     obtain ⟨am,cm,rfl⟩ : ∃ am cm,u3 = .slice am 0 cm := by obtain ⟨el,⟨a,c,h,_⟩,_⟩ := id E; exact ⟨a,c,h⟩
     go_wp2_with fail
     refine (unfold_none _ z 2 _ E).mono ?_
     rintro e w21 ⟨rfl,b21⟩
     replace ht := ht.below b21
     replace E := E.below b21
     replace BB := BB.trans (b21.mono BB.size)
     clear b21
     have hZ21 : w.heap.size ≤ w21.heap.size := BB.size
     obtain ⟨W21,hW21,hS21,hL21,VA⟩ := V3.lay w21 35 (.bool false) (.slice none 0 0) (.slice none 0 0)
     replace ht := ht.below hL21
     replace E := E.below hL21
     replace BB := BB.trans (hL21.mono BB.size)
     clear hL21
     go_wp2_with fail
     rw [← hW21]
     generalize w21.heap.size = R21 at *
     clear hW21 hS21
     refine (none_at _).mono ?_
     rintro e w22 ⟨rfl,b22⟩
     replace ht := ht.below b22
     replace E := E.below b22
     replace VA := VA.below b22
     replace BB := BB.trans (b22.mono BB.size)
     clear b22
     go_wp2_with fail
     refine (qawake_at _ ht).mono ?_
     rintro e w23 ⟨rfl,b23⟩
     replace ht := ht.below b23
     replace E := E.below b23
     replace VA := VA.below b23
     replace BB := BB.trans (b23.mono BB.size)
     clear b23
     go_wp2
     go_ret
     exact ⟨rfl,BB⟩
    ·have BB := B
     have ht := hT.out.below B
     have E := O.row
     clear B O HV hT
     obtain ⟨M,rfl⟩ : ∃ M,i = M + 1 := ⟨i - 1,by omega⟩
     have hM : M ≤ 19 := by omega
     have lz : ∀ j,j < M + 1 → nl W32 (z j).natAbs ≤ 2 := fun j hj => by obtain ⟨el,_,h⟩ := id E; exact (h j hj).nl
     have HL : Hid (∀ j,j < M + 1 → nl W32 (z j).natAbs ≤ 2) := lz
     have HU : Hid _ := unf_nl z (M + 1) 2 lz
     clear lz
     obtain ⟨k,hk0,hk1,hk2⟩ := first_zero z M
     have HK1 : Hid (k < M → (unfN z (M + 1) k).1 = 0) := hk1
     have HK2 : Hid (∀ i,i < k → (unfN z (M + 1) i).1 ≠ 0) := hk2
     obtain ⟨b,off,cm,pe,ae,me,de,hvv,hcc,hE,hI⟩ := E.at M (by omega)
     cases hvv
     have hM0 : (((M + 1 : Nat) : Int) == 0) = false := by simp; omega
     have hM1 : ((M : Int) + 1 == 0) = false := by simp; omega
     clear hgo hk1 hk2
     go_wp2_with fail
     refine (unfold_all _ (M + 1) z 2 _ E ht (by omega) (by omega) k (by omega) (fun h => HK1.out (by omega)) HK2.out).mono ?_
     rintro e w21 ⟨ra,er,rfl,g1,g2,b21⟩
     replace ht := ht.below b21
     replace E := E.below b21
     replace hI := hI.below b21
     replace hE := hE.below b21
     replace BB := BB.trans (b21.mono BB.size)
     clear b21
     have Ha : AnsAt w21 ra (xq z (M + 1) k) (k = M) := fun e => (g1 (by omega)).2
     have G1 : Hid (k = M → er = 0) := fun e => (g1 (by omega)).1
     have G2 : Hid (k < M → ra = .agg #[.bool false,.slice none 0 0,.slice none 0 0] ∧ er = 2) := fun e => g2 (by omega)
     obtain ⟨pa,aa,na,ca,ba,ma,da,rfl⟩ : ∃ pa aa na ca ba ma da,ra = .agg #[.bool pa,.slice aa na ca,.slice ba ma da] := by
      by_cases e : k = M
      ·exact (Ha e).open
      ·exact ⟨_,_,_,_,_,_,_,(G2.out (by omega)).1⟩
     have G3 : Hid (k < M → Nil7 pa aa na ca ba ma da) := fun e => by
      have h := (G2.out e).1
      simp only [Value.agg.injEq,Array.mk.injEq,List.cons.injEq,Value.bool.injEq,Value.slice.injEq,and_true] at h
      obtain ⟨h1,⟨h2,h3,h4⟩,h5,h6,h7⟩ := h
      exact ⟨h1,h2,h3,h4,h5,h6,h7⟩
     have G4 : Hid (k < M → er = 2) := fun e => (G2.out e).2
     clear g1 g2 G2
     have hZ21 : w.heap.size ≤ w21.heap.size := BB.size
     have hN21hE : b ≠ w21.heap.size := Nat.ne_of_lt hE.lt
     obtain ⟨W21,hW21,hS21,hL21,VA⟩ := V3.lay w21 35 (.bool pa) (.slice aa na ca) (.slice ba ma da)
     replace ht := ht.below hL21
     replace E := E.below hL21
     replace hI := hI.below hL21
     replace Ha := Ha.below hL21
     replace hE := hE.below hL21
     replace BB := BB.trans (hL21.mono BB.size)
     clear hL21
     obtain ⟨hE_0,hE_1⟩ := id hE
     rw [hW21] at hE_0 hE_1
     go_wp2_with fail
     clear hE_0 hE_1
     rw [← hW21]
     generalize w21.heap.size = R21 at *
     clear hW21 hS21
     refine (rfrom_any _ (z M) 2 _ hI (by omega)).mono ?_
     rintro e w22 ⟨v1,rfl,J1,b22⟩
     replace ht := ht.below b22
     replace E := E.below b22
     replace hI := hI.below b22
     replace Ha := Ha.below b22
     replace hE := hE.below b22
     replace VA := VA.below b22
     replace BB := BB.trans (b22.mono BB.size)
     clear b22
     go_wp2_with fail
     refine (jwhole_at _ (z M) 2 _ J1 (HL.out M (by omega)) (by omega)).mono ?_
     rintro e w23 ⟨v2,rfl,Jx,b23⟩
     replace ht := ht.below b23
     replace E := E.below b23
     replace hI := hI.below b23
     replace Ha := Ha.below b23
     replace J1 := J1.below b23
     replace hE := hE.below b23
     replace VA := VA.below b23
     replace BB := BB.trans (b23.mono BB.size)
     clear b23
     obtain ⟨px,ax,nx,cx,bx,mx,dx,rfl⟩ := Jx.open
     clear J1 hI
     have hbR : b < w23.heap.size := hE.lt
     have hZ22 : w.heap.size ≤ w23.heap.size := BB.size
     have hN22hE : b ≠ w23.heap.size := Nat.ne_of_lt hE.lt
     have hN22VA : R21 ≠ w23.heap.size := Nat.ne_of_lt VA.lt
     obtain ⟨W22,hW22,hS22,hL22,VX⟩ := V3.lay w23 28 (.bool px) (.slice ax nx cx) (.slice bx mx dx)
     replace ht := ht.below hL22
     replace E := E.below hL22
     replace Ha := Ha.below hL22
     replace Jx := Jx.below hL22
     replace hE := hE.below hL22
     replace VA := VA.below hL22
     replace BB := BB.trans (hL22.mono BB.size)
     clear hL22
     go_wp2
     rw [← hW22]
     generalize w23.heap.size = R22 at *
     clear hW22 hS22
     clear hE
     have HX0 : Hid (((z M : Int) : Rat) = xq z (M + 1) 0) := by show _ = ((z (M + 1 - 1) : Int) : Rat) / ((1 : Int) : Rat); rw [Nat.add_sub_cancel,Rat.intCast_one]; grind
     rw [HX0.out] at Jx
     go_loopw [8] (fun vi wr => ∃ (j : Nat) (I : Int) (px : Bool) (ax : Option Addr) (nx cx : Nat) (bx : Option Addr) (mx dx : Nat),j ≤ k ∧ vi = .int .i64 I ∧ I = (M : Int) - 1 - (j : Int) ∧ V3 wr R22 (.bool px) (.slice ax nx cx) (.slice bx mx dx) ∧ DocQ wr (.agg #[.bool px,.slice ax nx cx,.slice bx mx dx]) (xq z (M + 1) j) (2 + 3 * j) ∧ V3 wr R21 (.bool pa) (.slice aa na ca) (.slice ba ma da) ∧ AnsAt wr (.agg #[.bool pa,.slice aa na ca,.slice ba ma da]) (xq z (M + 1) k) (k = M) ∧ IRow wr (.slice (some ⟨b,off,none⟩) (M + 1) cm) (M + 1) z 2 ∧ Tab wr ∧ Below w.heap.size w wr) (fun vi _ => (intOf vi + 1).toNat)
     case atStart => exact ⟨0,(M : Int) - 1,px,ax,nx,cx,bx,mx,dx,by omega,by go_num,by omega,VX,Jx,VA,Ha,E,ht,BB⟩
     case round =>
      clear VX Jx VA Ha E ht BB
      obtain ⟨j,I,px,ax,nx,cx,bx,mx,dx,hjK,rfl,hIv,VX,Jx,VA,Ha,E,ht,BB⟩ := hrel
      by_cases hj : j < k
      ·obtain ⟨t,rfl⟩ : ∃ t : Nat,I = (t : Int) := ⟨I.toNat,by omega⟩
       have c1 : (0 : Int) ≤ (t : Int) := by omega
       have htM : t < M + 1 := by omega
       have c2 : (t : Int) < ((M + 1 : Nat) : Int) := by omega
       have c3 : (t : Int) < (M : Int) + 1 := by omega
       have HTJ : Hid (t = M - 1 - j) := by show _ = _; omega
       have HTI : Hid ((t : Int) - 1 = (M : Int) - 1 - ((j + 1 : Nat) : Int)) := by show _ = _; omega
       clear hIv
       have hx0 : xq z (M + 1) j ≠ 0 := xq_ne z (M + 1) j (fun i hi => HK2.out i (by omega)) (HK2.out j hj)
       have HX : Hid (xq z (M + 1) j ≠ 0) := hx0
       have HN : Hid (xq z (M + 1) (j + 1) = ((z t : Int) : Rat) + (xq z (M + 1) j)⁻¹) := by show _ = _; rw [HTJ.out]; exact xq_next z M j (HK2.out j hj)
       have hnx : ((nx : Int) == 0) = false := by
        have : ¬ nx = 0 := fun e => hx0 ((doc_len Jx).1 e)
        simp; omega
       clear hx0
       obtain ⟨b2,off2,cm2,pe,ae,me,de,hvv,_,hE,hI⟩ := E.at t (by omega)
       cases hvv
       have lz := HL.out t htM
       have HXX : Hid (xq z (M + 1) j = xq z (M + 1) j) := rfl
       generalize hxx : xq z (M + 1) j = x at Jx HX HN
       generalize hzt : z t = zt at hI HN lz
       clear hxx hzt
       obtain ⟨VX_0,VX_1,VX_2,VX_3,VX_4,VX_5⟩ := id VX
       go_wp2
       clear VX_0 VX_1 VX_2 VX_3 VX_4 VX_5
       have hDr : Below wr.heap.size wr wr.drew := (Below.refl _ _).drew
       replace Jx := Jx.below hDr
       replace Ha := Ha.below hDr
       replace E := E.below hDr
       replace ht := ht.below hDr
       replace hI := hI.below hDr
       replace VX := VX.below hDr
       replace VA := VA.below hDr
       replace hE := hE.below hDr
       replace BB := BB.trans (hDr.mono BB.size)
       clear hDr
       refine wp_region_held_drew (S := (fun w' => w'.cell? ⟨b,off + t * 2,none⟩ = some (.bool pe) ∧ w'.cell? ⟨b,off + t * 2 + 1,none⟩ = some (.slice ae me de))) (by kernel_rfl) ?_ (fun hHeld => ?_)
       ·exact ⟨hE.1,hE.2⟩
       generalize wr.drew = W23 at *
       refine xT 0 (v := ?_) (hy := Or.inl ⟨by rfl,?_⟩) (h := ?_)
       rotate_left
       ·(intro w hSw; (try dsimp only at hSw); go_simp; (try with_reducible rfl))
       (try simp only [Act.put,xL4,xL5,xL6])
       refine xT 1 (v := ?_) (hy := Or.inl ⟨by rfl,?_⟩) (h := ?_)
       rotate_left
       ·(intro w hSw; (try dsimp only at hSw); go_simp; (try with_reducible rfl))
       (try simp only [Act.put,xL4,xL5,xL6])
       refine xT 2 (v := ?_) (hy := Or.inl ⟨by rfl,?_⟩) (h := ?_)
       rotate_left
       ·(intro w hSw; (try dsimp only at hSw); go_simp; (try with_reducible rfl))
       (try simp only [Act.put,xL4,xL5,xL6])
       refine xT 3 (v := ?_) (hy := Or.inl ⟨by rfl,?_⟩) (h := ?_)
       rotate_left
       ·(intro w hSw; (try dsimp only at hSw); go_simp; (try with_reducible rfl))
       (try simp only [Act.put,xL4,xL5,xL6])
       refine xR [4,6] (h := ?_)
       refine xC (h := fun K hK => ?_) (hs := ?_)
       ·
        go_simp
        refine (rfrom_any _ zt 2 _ hI (by omega)).mono ?_
        rintro e w24 ⟨v1,rfl,J1,b24⟩
        go_wp2_with fail
        replace Jx := Jx.below b24
        replace Ha := Ha.below b24
        replace E := E.below b24
        replace ht := ht.below b24
        replace hI := hI.below b24
        replace VX := VX.below b24
        replace VA := VA.below b24
        replace hE := hE.below b24
        replace BB := BB.trans (b24.mono BB.size)
        clear b24
        refine hK.out _ _ ?_ (fun hH1 => ?_)
        ·exact ⟨hE.1,hE.2⟩
        clear hK K hHeld
        (try simp only [Act.put,xL4,xL5,xL6])
        refine xR [5,6] (h := ?_)
        refine xC (h := fun K hK => ?_) (hs := ?_)
        ·
         go_simp
         refine (jwhole_at _ zt 2 _ J1 lz (by omega)).mono ?_
         rintro e w25 ⟨v2,rfl,J2,b25⟩
         go_wp2_with fail
         replace Jx := Jx.below b25
         replace Ha := Ha.below b25
         replace E := E.below b25
         replace ht := ht.below b25
         replace hI := hI.below b25
         replace J1 := J1.below b25
         replace VX := VX.below b25
         replace VA := VA.below b25
         replace hE := hE.below b25
         replace BB := BB.trans (b25.mono BB.size)
         clear b25
         refine hK.out _ _ ?_ (fun hH2 => ?_)
         ·exact ⟨hE.1,hE.2⟩
         clear hK K hH1
         (try simp only [Act.put,xL4,xL5,xL6])
         refine xR [6] (h := ?_)
         refine xN (h := fun K hK => ?_)
         obtain ⟨VX_0,VX_1,VX_2,VX_3,VX_4,VX_5⟩ := id VX
         go_simp
         clear VX_0 VX_1 VX_2 VX_3 VX_4 VX_5
         refine hK.out _ _ ?_ (fun hH3 => ?_)
         ·exact ⟨hE.1,hE.2⟩
         clear hK K hH2
         (try simp only [Act.put,xL4,xL5,xL6])
         refine xR [7] (h := ?_)
         refine xN (h := fun K hK => ?_)
         go_simp
         refine (jinverse_at _ x (2 + 3 * j) _ Jx (by omega) HX.out).mono ?_
         rintro e w26 ⟨v3,rfl,J3,b26⟩
         go_wp2_with fail
         replace Jx := Jx.below b26
         replace Ha := Ha.below b26
         replace E := E.below b26
         replace ht := ht.below b26
         replace hI := hI.below b26
         replace J1 := J1.below b26
         replace J2 := J2.below b26
         replace VX := VX.below b26
         replace VA := VA.below b26
         replace hE := hE.below b26
         replace BB := BB.trans (b26.mono BB.size)
         clear b26
         refine hK.out _ _ ?_ (fun hH4 => ?_)
         ·exact ⟨hE.1,hE.2⟩
         clear hK K hH3
         (try simp only [Act.put,xL4,xL5,xL6])
         refine xR [8] (h := ?_)
         refine xN (h := fun K hK => ?_)
         go_simp
         refine (jplus_at _ _ (zt : Rat) x⁻¹ 2 (2 + 3 * j) _ J2 J3 (by omega)).mono ?_
         rintro e w27 ⟨v4,rfl,J4,b27⟩
         obtain ⟨p4,a4,n4,c4,b4,m4,d4,rfl⟩ := J4.open
         rw [← HN.out] at J4
         go_wp2_with fail
         replace Jx := Jx.below b27
         replace Ha := Ha.below b27
         replace E := E.below b27
         replace ht := ht.below b27
         replace hI := hI.below b27
         replace J1 := J1.below b27
         replace J2 := J2.below b27
         replace J3 := J3.below b27
         replace VX := VX.below b27
         replace VA := VA.below b27
         replace hE := hE.below b27
         replace BB := BB.trans (b27.mono BB.size)
         clear b27
         refine hK.out _ _ ?_ (fun hH5 => ?_)
         ·exact ⟨hE.1,hE.2⟩
         clear hK K hH4
         (try simp only [Act.put,xL4,xL5,xL6])
         refine xR [9] (h := ?_)
         refine xN (h := fun K hK => ?_)
         have hKp := VX.keepJ (.bool p4) (.slice a4 n4 c4) (.slice b4 m4 d4)
         have VA_n := VA.other3 (R := R22) (by omega) (.bool p4) (.slice a4 n4 c4) (.slice b4 m4 d4)
         have hE_n := hE.other3 (R := R22) (by omega) (.bool p4) (.slice a4 n4 c4) (.slice b4 m4 d4)
         have VX_n := VX.same (.bool p4) (.slice a4 n4 c4) (.slice b4 m4 d4)
         have Jx_n := Jx.keep hKp
         have Ha_n := Ha.keep hKp
         have E_n := E.other (grown_set3 w27 R22 (.bool p4) (.slice a4 n4 c4) (.slice b4 m4 d4)) hKp (fun g hg => by cases hg; omega)
         have ht_n := ht.keep hKp
         have hI_n := hI.keep hKp
         have J1_n := J1.keep hKp
         have J2_n := J2.keep hKp
         have J3_n := J3.keep hKp
         have J4_n := J4.keep hKp
         have BB_n := below_store3 (R := R22) BB (by omega) (.bool p4) (.slice a4 n4 c4) (.slice b4 m4 d4)
         clear hKp
         obtain ⟨VX_0,VX_1,VX_2,VX_3,VX_4,VX_5⟩ := id VX
         go_simp
         clear VX_0 VX_1 VX_2 VX_3 VX_4 VX_5
         clear BB Jx Ha E ht hI J1 J2 J3 J4 VX VA hE
         generalize ((w27.setCell ⟨R22,0,none⟩ (.bool p4)).setCell ⟨R22,1,none⟩ (.slice a4 n4 c4)).setCell ⟨R22,2,none⟩ (.slice b4 m4 d4) = W24 at *
         have BB := BB_n
         have Jx := Jx_n
         have Ha := Ha_n
         have E := E_n
         have ht := ht_n
         have hI := hI_n
         have J1 := J1_n
         have J2 := J2_n
         have J3 := J3_n
         have J4 := J4_n
         have VX := VX_n
         have VA := VA_n
         have hE := hE_n
         clear BB_n Jx_n Ha_n E_n ht_n hI_n J1_n J2_n J3_n J4_n VX_n VA_n hE_n
         refine hK.out _ _ ?_ (fun hH6 => ?_)
         ·exact ⟨hE.1,hE.2⟩
         clear hK K hH5
         (try simp only [Act.put,xL4,xL5,xL6])
         refine wpAnyH_done (by kernel_rfl) ?_ _
         clear hH6
         clear J1 J2 J3 Jx hI
         clear hE
         go_wp2
         go_roundw
         case rel => exact ⟨j + 1,(t : Int) - 1,p4,a4,n4,c4,b4,m4,d4,by omega,by go_num,HTI.out,VX,J4.le (by omega),VA,Ha,E,ht,BB⟩
         case measure => simp [intOf]; try omega
        refine xC (h := fun K hK => ?_) (hs := ?_)
        ·
         obtain ⟨VX_0,VX_1,VX_2,VX_3,VX_4,VX_5⟩ := id VX
         go_simp
         clear VX_0 VX_1 VX_2 VX_3 VX_4 VX_5
         refine hK.out _ _ ?_ (fun hH2 => ?_)
         ·exact ⟨hE.1,hE.2⟩
         clear hK K hH1
         (try simp only [Act.put,xL4,xL5,xL6])
         refine xR [5] (h := ?_)
         refine xN (h := fun K hK => ?_)
         go_simp
         refine (jwhole_at _ zt 2 _ J1 lz (by omega)).mono ?_
         rintro e w28 ⟨v2,rfl,J2,b28⟩
         go_wp2_with fail
         replace Jx := Jx.below b28
         replace Ha := Ha.below b28
         replace E := E.below b28
         replace ht := ht.below b28
         replace hI := hI.below b28
         replace J1 := J1.below b28
         replace VX := VX.below b28
         replace VA := VA.below b28
         replace hE := hE.below b28
         replace BB := BB.trans (b28.mono BB.size)
         clear b28
         refine hK.out _ _ ?_ (fun hH3 => ?_)
         ·exact ⟨hE.1,hE.2⟩
         clear hK K hH2
         (try simp only [Act.put,xL4,xL5,xL6])
         refine xR [7] (h := ?_)
         refine xN (h := fun K hK => ?_)
         go_simp
         refine (jinverse_at _ x (2 + 3 * j) _ Jx (by omega) HX.out).mono ?_
         rintro e w29 ⟨v3,rfl,J3,b29⟩
         go_wp2_with fail
         replace Jx := Jx.below b29
         replace Ha := Ha.below b29
         replace E := E.below b29
         replace ht := ht.below b29
         replace hI := hI.below b29
         replace J1 := J1.below b29
         replace J2 := J2.below b29
         replace VX := VX.below b29
         replace VA := VA.below b29
         replace hE := hE.below b29
         replace BB := BB.trans (b29.mono BB.size)
         clear b29
         refine hK.out _ _ ?_ (fun hH4 => ?_)
         ·exact ⟨hE.1,hE.2⟩
         clear hK K hH3
         (try simp only [Act.put,xL4,xL5,xL6])
         refine xR [8] (h := ?_)
         refine xN (h := fun K hK => ?_)
         go_simp
         refine (jplus_at _ _ (zt : Rat) x⁻¹ 2 (2 + 3 * j) _ J2 J3 (by omega)).mono ?_
         rintro e w30 ⟨v4,rfl,J4,b30⟩
         obtain ⟨p4,a4,n4,c4,b4,m4,d4,rfl⟩ := J4.open
         rw [← HN.out] at J4
         go_wp2_with fail
         replace Jx := Jx.below b30
         replace Ha := Ha.below b30
         replace E := E.below b30
         replace ht := ht.below b30
         replace hI := hI.below b30
         replace J1 := J1.below b30
         replace J2 := J2.below b30
         replace J3 := J3.below b30
         replace VX := VX.below b30
         replace VA := VA.below b30
         replace hE := hE.below b30
         replace BB := BB.trans (b30.mono BB.size)
         clear b30
         refine hK.out _ _ ?_ (fun hH5 => ?_)
         ·exact ⟨hE.1,hE.2⟩
         clear hK K hH4
         (try simp only [Act.put,xL4,xL5,xL6])
         refine xR [9] (h := ?_)
         refine xN (h := fun K hK => ?_)
         have hKp := VX.keepJ (.bool p4) (.slice a4 n4 c4) (.slice b4 m4 d4)
         have VA_n := VA.other3 (R := R22) (by omega) (.bool p4) (.slice a4 n4 c4) (.slice b4 m4 d4)
         have hE_n := hE.other3 (R := R22) (by omega) (.bool p4) (.slice a4 n4 c4) (.slice b4 m4 d4)
         have VX_n := VX.same (.bool p4) (.slice a4 n4 c4) (.slice b4 m4 d4)
         have Jx_n := Jx.keep hKp
         have Ha_n := Ha.keep hKp
         have E_n := E.other (grown_set3 w30 R22 (.bool p4) (.slice a4 n4 c4) (.slice b4 m4 d4)) hKp (fun g hg => by cases hg; omega)
         have ht_n := ht.keep hKp
         have hI_n := hI.keep hKp
         have J1_n := J1.keep hKp
         have J2_n := J2.keep hKp
         have J3_n := J3.keep hKp
         have J4_n := J4.keep hKp
         have BB_n := below_store3 (R := R22) BB (by omega) (.bool p4) (.slice a4 n4 c4) (.slice b4 m4 d4)
         clear hKp
         obtain ⟨VX_0,VX_1,VX_2,VX_3,VX_4,VX_5⟩ := id VX
         go_simp
         clear VX_0 VX_1 VX_2 VX_3 VX_4 VX_5
         clear BB Jx Ha E ht hI J1 J2 J3 J4 VX VA hE
         generalize ((w30.setCell ⟨R22,0,none⟩ (.bool p4)).setCell ⟨R22,1,none⟩ (.slice a4 n4 c4)).setCell ⟨R22,2,none⟩ (.slice b4 m4 d4) = W25 at *
         have BB := BB_n
         have Jx := Jx_n
         have Ha := Ha_n
         have E := E_n
         have ht := ht_n
         have hI := hI_n
         have J1 := J1_n
         have J2 := J2_n
         have J3 := J3_n
         have J4 := J4_n
         have VX := VX_n
         have VA := VA_n
         have hE := hE_n
         clear BB_n Jx_n Ha_n E_n ht_n hI_n J1_n J2_n J3_n J4_n VX_n VA_n hE_n
         refine hK.out _ _ ?_ (fun hH6 => ?_)
         ·exact ⟨hE.1,hE.2⟩
         clear hK K hH5
         (try simp only [Act.put,xL4,xL5,xL6])
         refine wpAnyH_done (by kernel_rfl) ?_ _
         clear hH6
         clear J1 J2 J3 Jx hI
         clear hE
         go_wp2
         go_roundw
         case rel => exact ⟨j + 1,(t : Int) - 1,p4,a4,n4,c4,b4,m4,d4,by omega,by go_num,HTI.out,VX,J4.le (by omega),VA,Ha,E,ht,BB⟩
         case measure => simp [intOf]; try omega
        exact AllReadyH.nil
       refine xC (h := fun K hK => ?_) (hs := ?_)
       ·
        obtain ⟨VX_0,VX_1,VX_2,VX_3,VX_4,VX_5⟩ := id VX
        go_simp
        clear VX_0 VX_1 VX_2 VX_3 VX_4 VX_5
        refine hK.out _ _ ?_ (fun hH1 => ?_)
        ·exact ⟨hE.1,hE.2⟩
        clear hK K hHeld
        (try simp only [Act.put,xL4,xL5,xL6])
        refine xR [4] (h := ?_)
        refine xN (h := fun K hK => ?_)
        go_simp
        refine (rfrom_any _ zt 2 _ hI (by omega)).mono ?_
        rintro e w31 ⟨v1,rfl,J1,b31⟩
        go_wp2_with fail
        replace Jx := Jx.below b31
        replace Ha := Ha.below b31
        replace E := E.below b31
        replace ht := ht.below b31
        replace hI := hI.below b31
        replace VX := VX.below b31
        replace VA := VA.below b31
        replace hE := hE.below b31
        replace BB := BB.trans (b31.mono BB.size)
        clear b31
        refine hK.out _ _ ?_ (fun hH2 => ?_)
        ·exact ⟨hE.1,hE.2⟩
        clear hK K hH1
        (try simp only [Act.put,xL4,xL5,xL6])
        refine xR [5] (h := ?_)
        refine xN (h := fun K hK => ?_)
        go_simp
        refine (jwhole_at _ zt 2 _ J1 lz (by omega)).mono ?_
        rintro e w32 ⟨v2,rfl,J2,b32⟩
        go_wp2_with fail
        replace Jx := Jx.below b32
        replace Ha := Ha.below b32
        replace E := E.below b32
        replace ht := ht.below b32
        replace hI := hI.below b32
        replace J1 := J1.below b32
        replace VX := VX.below b32
        replace VA := VA.below b32
        replace hE := hE.below b32
        replace BB := BB.trans (b32.mono BB.size)
        clear b32
        refine hK.out _ _ ?_ (fun hH3 => ?_)
        ·exact ⟨hE.1,hE.2⟩
        clear hK K hH2
        (try simp only [Act.put,xL4,xL5,xL6])
        refine xR [7] (h := ?_)
        refine xN (h := fun K hK => ?_)
        go_simp
        refine (jinverse_at _ x (2 + 3 * j) _ Jx (by omega) HX.out).mono ?_
        rintro e w33 ⟨v3,rfl,J3,b33⟩
        go_wp2_with fail
        replace Jx := Jx.below b33
        replace Ha := Ha.below b33
        replace E := E.below b33
        replace ht := ht.below b33
        replace hI := hI.below b33
        replace J1 := J1.below b33
        replace J2 := J2.below b33
        replace VX := VX.below b33
        replace VA := VA.below b33
        replace hE := hE.below b33
        replace BB := BB.trans (b33.mono BB.size)
        clear b33
        refine hK.out _ _ ?_ (fun hH4 => ?_)
        ·exact ⟨hE.1,hE.2⟩
        clear hK K hH3
        (try simp only [Act.put,xL4,xL5,xL6])
        refine xR [8] (h := ?_)
        refine xN (h := fun K hK => ?_)
        go_simp
        refine (jplus_at _ _ (zt : Rat) x⁻¹ 2 (2 + 3 * j) _ J2 J3 (by omega)).mono ?_
        rintro e w34 ⟨v4,rfl,J4,b34⟩
        obtain ⟨p4,a4,n4,c4,b4,m4,d4,rfl⟩ := J4.open
        rw [← HN.out] at J4
        go_wp2_with fail
        replace Jx := Jx.below b34
        replace Ha := Ha.below b34
        replace E := E.below b34
        replace ht := ht.below b34
        replace hI := hI.below b34
        replace J1 := J1.below b34
        replace J2 := J2.below b34
        replace J3 := J3.below b34
        replace VX := VX.below b34
        replace VA := VA.below b34
        replace hE := hE.below b34
        replace BB := BB.trans (b34.mono BB.size)
        clear b34
        refine hK.out _ _ ?_ (fun hH5 => ?_)
        ·exact ⟨hE.1,hE.2⟩
        clear hK K hH4
        (try simp only [Act.put,xL4,xL5,xL6])
        refine xR [9] (h := ?_)
        refine xN (h := fun K hK => ?_)
        have hKp := VX.keepJ (.bool p4) (.slice a4 n4 c4) (.slice b4 m4 d4)
        have VA_n := VA.other3 (R := R22) (by omega) (.bool p4) (.slice a4 n4 c4) (.slice b4 m4 d4)
        have hE_n := hE.other3 (R := R22) (by omega) (.bool p4) (.slice a4 n4 c4) (.slice b4 m4 d4)
        have VX_n := VX.same (.bool p4) (.slice a4 n4 c4) (.slice b4 m4 d4)
        have Jx_n := Jx.keep hKp
        have Ha_n := Ha.keep hKp
        have E_n := E.other (grown_set3 w34 R22 (.bool p4) (.slice a4 n4 c4) (.slice b4 m4 d4)) hKp (fun g hg => by cases hg; omega)
        have ht_n := ht.keep hKp
        have hI_n := hI.keep hKp
        have J1_n := J1.keep hKp
        have J2_n := J2.keep hKp
        have J3_n := J3.keep hKp
        have J4_n := J4.keep hKp
        have BB_n := below_store3 (R := R22) BB (by omega) (.bool p4) (.slice a4 n4 c4) (.slice b4 m4 d4)
        clear hKp
        obtain ⟨VX_0,VX_1,VX_2,VX_3,VX_4,VX_5⟩ := id VX
        go_simp
        clear VX_0 VX_1 VX_2 VX_3 VX_4 VX_5
        clear BB Jx Ha E ht hI J1 J2 J3 J4 VX VA hE
        generalize ((w34.setCell ⟨R22,0,none⟩ (.bool p4)).setCell ⟨R22,1,none⟩ (.slice a4 n4 c4)).setCell ⟨R22,2,none⟩ (.slice b4 m4 d4) = W26 at *
        have BB := BB_n
        have Jx := Jx_n
        have Ha := Ha_n
        have E := E_n
        have ht := ht_n
        have hI := hI_n
        have J1 := J1_n
        have J2 := J2_n
        have J3 := J3_n
        have J4 := J4_n
        have VX := VX_n
        have VA := VA_n
        have hE := hE_n
        clear BB_n Jx_n Ha_n E_n ht_n hI_n J1_n J2_n J3_n J4_n VX_n VA_n hE_n
        refine hK.out _ _ ?_ (fun hH6 => ?_)
        ·exact ⟨hE.1,hE.2⟩
        clear hK K hH5
        (try simp only [Act.put,xL4,xL5,xL6])
        refine wpAnyH_done (by kernel_rfl) ?_ _
        clear hH6
        clear J1 J2 J3 Jx hI
        clear hE
        go_wp2
        go_roundw
        case rel => exact ⟨j + 1,(t : Int) - 1,p4,a4,n4,c4,b4,m4,d4,by omega,by go_num,HTI.out,VX,J4.le (by omega),VA,Ha,E,ht,BB⟩
        case measure => simp [intOf]; try omega
       exact AllReadyH.nil
      ·obtain rfl : j = k := by omega
       clear E
       by_cases hkM : j < M
       ·obtain ⟨t,rfl⟩ : ∃ t : Nat,I = (t : Int) := ⟨I.toNat,by omega⟩
        have c1 : (0 : Int) ≤ (t : Int) := by omega
        obtain rfl : nx = 0 := (doc_len Jx).2 (by unfold xq; rw [HK1.out hkM]; rw [Rat.intCast_zero]; grind)
        obtain rfl : er = 2 := G4.out hkM
        have HN7 : Hid (Nil7 pa aa na ca ba ma da) := G3.out hkM
        clear hIv
        obtain ⟨VX_0,VX_1,VX_2,VX_3,VX_4,VX_5⟩ := id VX
        obtain ⟨VA_0,VA_1,VA_2,VA_3,VA_4,VA_5⟩ := id VA
        go_wp2_with fail
        clear VX_0 VX_1 VX_2 VX_3 VX_4 VX_5 VA_0 VA_1 VA_2 VA_3 VA_4 VA_5
        refine (none_hid _ _ _ _ _ _ _ _ HN7.out).mono ?_
        rintro e w64 ⟨rfl,b64⟩
        replace Jx := Jx.below b64
        replace Ha := Ha.below b64
        replace ht := ht.below b64
        replace VX := VX.below b64
        replace VA := VA.below b64
        replace BB := BB.trans (b64.mono BB.size)
        clear b64
        go_wp2_with fail
        refine (qawake_at _ ht).mono ?_
        rintro e w65 ⟨rfl,b65⟩
        replace Jx := Jx.below b65
        replace Ha := Ha.below b65
        replace ht := ht.below b65
        replace VX := VX.below b65
        replace VA := VA.below b65
        replace BB := BB.trans (b65.mono BB.size)
        clear b65
        go_wp2
        go_ret
        exact ⟨rfl,BB⟩
       ·obtain rfl : j = M := by omega
        obtain rfl : I = -1 := by omega
        obtain rfl : er = 0 := G1.out rfl
        clear hIv
        replace Ha := Ha rfl
        have hu := HU.out j (by omega)
        have sq : qsz (xq z (j + 1) j) ≤ 140 := Nat.le_trans (qsz_div _ _ (qsz_int _ hu.1 (by omega)) (qsz_int _ hu.2 (by omega))) (by omega)
        obtain ⟨VX_0,VX_1,VX_2,VX_3,VX_4,VX_5⟩ := id VX
        obtain ⟨VA_0,VA_1,VA_2,VA_3,VA_4,VA_5⟩ := id VA
        go_wp2_with fail
        clear VX_0 VX_1 VX_2 VX_3 VX_4 VX_5 VA_0 VA_1 VA_2 VA_3 VA_4 VA_5
        refine (jis_at _ _ (xq z (j + 1) j) 140 70 _ Ha sq (Jx.le (by omega)) (by omega)).mono ?_
        rintro e w74 ⟨rfl,b74⟩
        replace Jx := Jx.below b74
        replace Ha := Ha.below b74
        replace ht := ht.below b74
        replace VX := VX.below b74
        replace VA := VA.below b74
        replace BB := BB.trans (b74.mono BB.size)
        clear b74
        go_wp2_with fail
        refine (qawake_at _ ht).mono ?_
        rintro e w75 ⟨rfl,b75⟩
        replace Jx := Jx.below b75
        replace Ha := Ha.below b75
        replace ht := ht.below b75
        replace VX := VX.below b75
        replace VA := VA.below b75
        replace BB := BB.trans (b75.mono BB.size)
        clear b75
        go_wp2
        go_ret
        exact ⟨rfl,BB⟩

theorem own : ownKnob Tryz.prog.godebug = none := by kernel_rfl
theorem laidOut : laidOutB Tryz.prog = true := by kernel_rfl

abbrev laid1 : List (String × DataW Unit) := [("math/bits.deBruijn64tab",Rows.laid_math_bits_deBruijn64tab)]
theorem gTab : Tryz.prog.globalNamed "math/bits.deBruijn64tab" = some 1 := by kernel_rfl
theorem gTabType : (Tryz.prog.globals[1]?).map (·.type) = some 199 := by kernel_rfl
theorem uTab : Tryz.prog.underlying 199 = some (.array 64 5) := by kernel_rfl
theorem uCell : Tryz.prog.underlying 5 = some (.int .u8) := by kernel_rfl
theorem cCell : Tryz.prog.cellsOf 5 = 1 := by kernel_rfl
theorem cTab : Tryz.prog.cellsOf 199 = 64 := by kernel_rfl
/-- The listed table lies in its cells. -/
theorem tab_of {W : World} (h : laidMetH Tryz.prog laid1 W) : Tab W := by
 rw [MakeChecks.laidMetH_plain _ _ _ (by kernel_rfl)] at h
 have hd : laid1 = [("math/bits.deBruijn64tab",Lib.tabData .u8 (Lib.deBruijn64tab.map fun (n : Nat) => Int.ofNat n))] := rfl
 rw [hd] at h
 have hT := Lib.tabIs_of_head gTab gTabType uTab uCell cCell cTab h
 intro i hi
 have hc := hT.cell gTab i (by rw [List.length_map]; exact hi)
 rw [hc]
 congr 2
 rw [List.getD_eq_getElem?_getD,List.getElem?_map,List.getD_eq_getElem?_getD]
 cases Lib.deBruijn64tab[i]? <;> rfl
/-- A start for the witness: the heap that the run of the program's own initialisers leaves. -/
noncomputable def startW (os : Os) : World := { World.holding Tryz.prog os ⟨#[],#[],[]⟩ with heap := (varsWorld Tryz.prog 400 (varsId Tryz.prog) os (fun _ _ => 0)).heap }
theorem start_met (os : Os) (args : Array Value) : laidMetH Tryz.prog laid1 ((startW os).forCall (fun _ _ => 0) ⟨#[],args,[]⟩).memory :=
 laidMetH_of_parts3 (fuel := 8) (laidMet_of_run' 8 (by kernel_rfl) (by kernel_rfl)) (by kernel_rfl) (by kernel_rfl)

set_option maxRecDepth 100000 in
theorem lifted (os : Os) (started : os.Started) (H : Type) (enc : TypeId × Value → H) :
  ReturnsInHanded {} Tryz.checked os 8 .any (fun w args => (Rows.ratioUnfoldsSpec.pre enc Tryz.prog Tryz.f8 [] false w args ∧ laidMetH Tryz.prog laid1 w) ∧ sizedMet enc Tryz.prog Tryz.f8 (OpenSpec.ofChange Rows.ratioUnfoldsSpec) false w args) (Rows.ratioUnfoldsSpec.post enc Tryz.prog Tryz.f8 false true false false) := by
 refine returnsInHanded_of_change_and (C := Tryz.checked) (X := fun w _ => laidMetH Tryz.prog laid1 w) (fun _ _ _ hh h => h.of_heap hh) own started (by kernel_rfl) Tryz.func8
  (ChangeSpec.witness_shaped (enc := enc) (C := Tryz.checked) (os := os) (X := fun w _ => laidMetH Tryz.prog laid1 w) false (startW os) #[.slice none 0 0] 8 rfl (World.shaped_of_RefB (by kernel_rfl) (by kernel_rfl)) (by kernel_rfl) (by kernel_rfl) (by kernel_rfl) (start_met os _)) ?_
 intro W base args ds gs before hval0 hW _ _ hL _
 have hval : ∀ (j : Nat) t v,Tryz.f8.params[j]? = some t → args[j]? = some v → Value.okWide Tryz.prog W .any base t v := hval0
 have hW' := hW
 obtain ⟨p,q,hA0,hV,rfl,hfz,hnd⟩ := hW
 have hA : DataW.TrodAll enc Tryz.prog W 0 (fun _ => true) true Tryz.f8.params.toList args.toList ds p := hA0
 rw [Tryz.params8] at hA hval
 obtain ⟨v0,vs0,d0,ds0,p0,q0,hargs,rfl,rfl,h0,r0⟩ := trodAll_cons hA
 obtain ⟨rfl,rfl,rfl⟩ := trodAll_nil r0
 obtain rfl : args = #[v0] := by cases args; simp_all
 obtain ⟨rfl,rfl⟩ := trodVars_none hV
 have k0 := h0
 have lt0 : ∀ x ∈ p0,x.block < W.heap.size := by obtain ⟨m,hm⟩ := k0; exact DataW.trod_lt m _ _ _ hm
 obtain ⟨n0,z0,w0⟩ := open_wints KLIST (hval 0 58 v0 rfl rfl) h0
 clear hA0 hval0
 refine (walk _ _ _ W w0 (tab_of hL)).mono fun e W' ⟨he,bel⟩ => ?_
 subst he
 exact ⟨_,rfl,_,_,_,[],_,[],hW',trodAll_mk1 (shut_bool Tryz.underlying4 _),(trodAll_cons_mk (Below.trod laidOut (by kernel_rfl) (of_decide_eq_true (by kernel_rfl)) k0 bel lt0) trodAll_mk0),rfl,bel.frame _,fun h => by cases h⟩

theorem over : Rows.ratioUnfoldsRow.holds Tryz.pinned (OpenSpec.ofChange Rows.ratioUnfoldsSpec) :=
 OpenClaim.holds_of_wide 8 Tryz.f8 rfl rfl rfl rfl rfl rfl rfl ⟨rfl,rfl,rfl,rfl,rfl⟩ rfl rfl rfl rfl rfl (by kernel_rfl) Tryz.func8 (by kernel_rfl)
  (of_decide_eq_true (by kernel_rfl)) (by unfold Func.isWrapper; first | (rw [if_pos (by decide +kernel)]; kernel_rfl) | (rw [if_neg (by decide +kernel)]; exact ⟨rfl,rfl⟩))
  (fun os started H enc _ => lifted os started H enc)

end Go.Proofs.YthlogenaienkhaaGreatDoor.ratioUnfolds
namespace Go.Proofs.YthlogenaienkhaaGreatDoor
/-- The statement: the row, tied to the text of the program. -/
theorem ratioUnfolds_holds : Rows.RatioUnfoldsCardSaid :=
 Claim7.holds_tied_plain_at .later [] [.data] true (true,"3380e13b50b7f32269091fe29852d4a9c6381b7d7ac34cf65ee07c32c1b30c36") false
  ratioUnfolds.over (fun _ h => by cases h) (by kernel_rfl) (fun _ h => by cases h) ratioUnfolds_row_tie rfl ⟨rfl,rfl⟩ (by kernel_rfl) rfl
  (fun f fn hf hfn => by
   obtain rfl : f = 8 := Option.some.inj ((show Tryz.prog.funcNamed "dendron/dendronlaw03.RatioUnfolds" = some 8 by kernel_rfl).symm.trans hf) |>.symm
   obtain rfl : fn = Tryz.f8 := (Option.some.inj (Tryz.func8.symm.trans hfn)).symm
   exact ⟨by kernel_rfl,fun j t ht => by
    rw [Tryz.params8] at ht
    have hm : t ∈ [58] := by simpa using Array.mem_of_getElem? ht
    have hall : ([58].all fun u => !Tryz.prog.wantsStandIn u) = true := by kernel_rfl
    exact (show Tryz.prog.wantsStandIn t = false by simpa using List.all_eq_true.1 hall t hm)⟩)
  (by kernel_rfl)
end Go.Proofs.YthlogenaienkhaaGreatDoor
