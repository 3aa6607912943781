/-
 Proves that Fold answers the whole parts of any number of up to 8 limbs above and below,one inside the other,that Unfold makes the number again of them,and that all but the first are above 0,the last of several above 1 (the statement RatioFolds,its tied card); the table of math/bits lies as the program's text lays it; no other condition.
-/
import Derived.Test.YthlogenaienkhaaGreatDoorJ1233da0a2f
import Derived.Test.YthlogenaienkhaaGreatDoorRows
import Derived.Test.YthlogenaienkhaaGreatDoorJ05dc961424
import Derived.Test.YthlogenaienkhaaGreatDoorJ05dab09a49
import Derived.WalkKit
import Derived.ProofKit
import Derived.OpenShut
import Derived.ShutString
import Derived.ChangeOld
import Derived.Below
import Derived.Test.YthlogenaienkhaaGreatDoorTie
import Derived.Test.YthlogenaienkhaaGreatDoorCards
import Derived.LaidByTextLater
import Derived.LaidHandle
import Derived.Lib.LaidTab
import Derived.SevenTiedAt
namespace Go.Proofs.YthlogenaienkhaaGreatDoor.ratioFolds
open Go.ChangeShapes Go.WideShapes Go.ChangeAt Go.RowKit
open Go.ChangeMaps (open_string shut_string)
set_option linter.unusedVariables false
set_option linter.unusedSimpArgs false

set_option linter.unusedSimpArgs false
set_option maxRecDepth 100000 in
set_option maxHeartbeats 16000000 in
theorem walk (p : Bool) (ao0 : Option Addr) (n0 c0 : Nat) (bo0 : Option Addr) (m0 d0 : Nat) (f g : Nat → Int) (w : World) (ha1 : Raw w (.slice ao0 n0 c0) n0 f) (ha2 : Raw w (.slice bo0 m0 d0) m0 g) (ht : Tab w) :
  Calls Tryz.prog 7 #[.agg #[.bool p,.slice ao0 n0 c0,.slice bo0 m0 d0]] w fun e w' => e = .returned (.bool true) ∧ Below w.heap.size w w' := by
 have BB : Below w.heap.size w w := Below.refl _ _
 obtain ⟨Wb0,hW0,hS0,hL0,VA⟩ := V3.lay w 35 (.bool p) (.slice ao0 n0 c0) (.slice bo0 m0 d0)
 replace ha1 := ha1.below hL0
 replace ha2 := ha2.below hL0
 replace ht := ht.below hL0
 replace BB := BB.trans (hL0.mono BB.size)
 clear hL0
 go_enter Tryz.func7,Tryz.ntmps7
 go_wp2_with fail
 rw [← hW0]
 clear hW0 hS0
 refine (few_at _ _ _ _ _ _ _ _ ha1 ha2).mono ?_
 rintro e w1 ⟨ao,c,bo,d,rfl,u1,u2,u3,u4,b1⟩
 replace ha1 := ha1.below b1
 replace ha2 := ha2.below b1
 replace ht := ht.below b1
 replace VA := VA.below b1
 replace BB := BB.trans (b1.mono BB.size)
 clear b1
 have k1 : min n0 8 ≤ 8 := Nat.min_le_right _ _
 have k2 : min m0 8 ≤ 8 := Nat.min_le_right _ _
 generalize min n0 8 = n at *
 generalize min m0 8 = m at *
 clear ha1 ha2
 have hKp := VA.keepJ (.bool p) (.slice ao n c) (.slice bo m d)
 have VA_n := VA.same (.bool p) (.slice ao n c) (.slice bo m d)
 have ht_n := ht.keep hKp
 have u1_n := u1.keep hKp
 have u3_n := u3.keep hKp
 have BB_n := below_store3 (R := w.heap.size) BB (by omega) (.bool p) (.slice ao n c) (.slice bo m d)
 clear hKp
 obtain ⟨VA_0,VA_1,VA_2,VA_3,VA_4,VA_5⟩ := id VA
 go_wp2_with fail
 clear VA_0 VA_1 VA_2 VA_3 VA_4 VA_5
 clear BB ht u1 u3 VA
 generalize ((w1.setCell ⟨w.heap.size,0,none⟩ (.bool p)).setCell ⟨w.heap.size,1,none⟩ (.slice ao n c)).setCell ⟨w.heap.size,2,none⟩ (.slice bo m d) = W1 at *
 have BB := BB_n
 have ht := ht_n
 have u1 := u1_n
 have u3 := u3_n
 have VA := VA_n
 clear BB_n ht_n u1_n u3_n VA_n
 have Ix : RatAt W1 _ _ 8 := RatAt.raw (p := p) u1 u2 u3 u4 k1 k2
 clear u1 u3
 generalize mkRat (zof p (num f n)) (num g m) = q at *
 have sq := Ix.qsz (by omega)
 have lf : nl W32 q.floor.natAbs ≤ 1000 := Nat.le_trans (qsz_floor q sq) (by omega)
 refine (fold_at _ q 8 _ Ix (by omega) (by omega)).mono ?_
 rintro e w2 ⟨rv,fd,fs,b,cp,p1,a1,n1,c1,rfl,hrv,hE,hI,E,hsd,hls,hqe,b2⟩
 replace ht := ht.below b2
 replace Ix := Ix.below b2
 replace VA := VA.below b2
 replace BB := BB.trans (b2.mono BB.size)
 clear b2
 subst hrv
 obtain ⟨Z,hZ⟩ : ∃ Z,Z = foldZ q.floor (foldN fs fd fs) := ⟨_,rfl⟩
 have HB : Hid _ := fold_back q.floor fd fs hsd
 have HP : Hid (∀ i,i < (foldN fs fd fs).length → 0 < Z (i + 1) ∧ (i + 1 = (foldN fs fd fs).length → 2 ≤ Z (i + 1))) := fun i hi => by
  have := fold_pos fs fd fs (Nat.le_refl _) hsd i hi
  rw [hZ]; show 0 < (((foldN fs fd fs).getD (i + 1 - 1) 0 : Nat) : Int) ∧ (_ → 2 ≤ (((foldN fs fd fs).getD (i + 1 - 1) 0 : Nat) : Int))
  rw [Nat.add_sub_cancel]; exact ⟨by omega,fun e => by have := this.2 e; omega⟩
 have hlen : (foldN fs fd fs).length ≤ 512 := fold_len 256 fd fs (lt_two_nl fs 8 hls)
 rw [← hZ] at HB E
 have HB2 : Hid _ := HB.out.2
 rw [← hqe] at HB2
 have HB1 : Hid _ := HB.out.1
 clear HB hZ hqe
 generalize (foldN fs fd fs).length = M at *
 go_wp2_with fail
 refine (unfold_at _ (M + 1) Z 9 _ E ht (by omega) (by omega) HB1.out).mono ?_
 rintro e w3 ⟨ra,rfl,Ha,b3⟩
 replace ht := ht.below b3
 replace Ix := Ix.below b3
 replace E := E.below b3
 replace hI := hI.below b3
 replace VA := VA.below b3
 replace hE := hE.below b3
 replace BB := BB.trans (b3.mono BB.size)
 clear b3
 rw [Nat.add_sub_cancel,HB2.out] at Ha
 clear HB2 HB1
 obtain ⟨pa,aa,na,ca,ba,ma,da,rfl⟩ := Ha.open
 have hZ2 : w.heap.size ≤ w3.heap.size := BB.size
 have hN2VA : w.heap.size ≠ w3.heap.size := Nat.ne_of_lt VA.lt
 have hN2hE : b ≠ w3.heap.size := Nat.ne_of_lt hE.lt
 obtain ⟨W2,hW2,hS2,hL2,VB⟩ := V3.lay w3 35 (.bool pa) (.slice aa na ca) (.slice ba ma da)
 replace ht := ht.below hL2
 replace Ix := Ix.below hL2
 replace E := E.below hL2
 replace hI := hI.below hL2
 replace Ha := Ha.below hL2
 replace VA := VA.below hL2
 replace hE := hE.below hL2
 replace BB := BB.trans (hL2.mono BB.size)
 clear hL2
 go_wp2
 rw [← hW2]
 generalize w3.heap.size = R2 at *
 clear hW2 hS2
 have hM0 : (((M + 1 : Nat) : Int) == 0) = false := by simp; omega
 have hM1 : ((M : Int) + 1 == 0) = false := by simp; omega
 have hM2 : (0 : Int) < (M : Int) + 1 := by omega
 have hM3 : (0 : Int) < ((M + 1 : Nat) : Int) := by omega
 have hDr : Below W2.heap.size W2 W2.drew := (Below.refl _ _).drew
 replace ht := ht.below hDr
 replace Ix := Ix.below hDr
 replace E := E.below hDr
 replace hI := hI.below hDr
 replace Ha := Ha.below hDr
 replace VA := VA.below hDr
 replace hE := hE.below hDr
 replace VB := VB.below hDr
 replace BB := BB.trans (hDr.mono BB.size)
 clear hDr
 refine wp_region_held_drew (S := (fun w' => w'.cell? ⟨w.heap.size,0,none⟩ = some (.bool p) ∧ w'.cell? ⟨w.heap.size,1,none⟩ = some (.slice ao n c) ∧ w'.cell? ⟨w.heap.size,2,none⟩ = some (.slice bo m d) ∧ w'.cell? ⟨R2,0,none⟩ = some (.bool pa) ∧ w'.cell? ⟨R2,1,none⟩ = some (.slice aa na ca) ∧ w'.cell? ⟨R2,2,none⟩ = some (.slice ba ma da) ∧ w'.cell? ⟨b,0,none⟩ = some (.bool p1) ∧ w'.cell? ⟨b,0 + 1,none⟩ = some (.slice a1 n1 c1))) (by kernel_rfl) ?_ (fun hHeld => ?_)
 ·exact ⟨VA.1,VA.2.1,VA.2.2.1,VB.1,VB.2.1,VB.2.2.1,hE.1,hE.2⟩
 generalize W2.drew = W3 at *
 refine xT 0 (v := ?_) (hy := Or.inl ⟨by rfl,?_⟩) (h := ?_)
 rotate_left
 ·(intro w hSw; (try dsimp only at hSw); go_simp; (try with_reducible rfl))
 (try simp only [Act.put,xL4,xL5,xL6])
 refine xT 1 (v := ?_) (hy := Or.inl ⟨by rfl,?_⟩) (h := ?_)
 rotate_left
 ·(intro w hSw; (try dsimp only at hSw); go_simp; (try with_reducible rfl))
 (try simp only [Act.put,xL4,xL5,xL6])
 refine xT 2 (v := ?_) (hy := Or.inl ⟨by rfl,?_⟩) (h := ?_)
 rotate_left
 ·(intro w hSw; (try dsimp only at hSw); go_simp; (try with_reducible rfl))
 (try simp only [Act.put,xL4,xL5,xL6])
 refine xT 3 (v := ?_) (hy := Or.inl ⟨by rfl,?_⟩) (h := ?_)
 rotate_left
 ·(intro w hSw; (try dsimp only at hSw); go_simp; (try with_reducible rfl))
 (try simp only [Act.put,xL4,xL5,xL6])
 refine xT 4 (v := ?_) (hy := Or.inl ⟨by rfl,?_⟩) (h := ?_)
 rotate_left
 ·(intro w hSw; (try dsimp only at hSw); go_simp; (try with_reducible rfl))
 (try simp only [Act.put,xL4,xL5,xL6])
 refine xT 5 (v := ?_) (hy := Or.inl ⟨by rfl,?_⟩) (h := ?_)
 rotate_left
 ·(intro w hSw; (try dsimp only at hSw); go_simp; (try with_reducible rfl))
 (try simp only [Act.put,xL4,xL5,xL6])
 refine xT 6 (v := ?_) (hy := Or.inl ⟨by rfl,?_⟩) (h := ?_)
 rotate_left
 ·(intro w hSw; (try dsimp only at hSw); go_simp; (try with_reducible rfl))
 (try simp only [Act.put,xL4,xL5,xL6])
 refine xT 7 (v := ?_) (hy := Or.inl ⟨by rfl,?_⟩) (h := ?_)
 rotate_left
 ·(intro w hSw; (try dsimp only at hSw); go_simp; (try with_reducible rfl))
 (try simp only [Act.put,xL4,xL5,xL6])
 refine xT 8 (v := ?_) (hy := Or.inl ⟨by rfl,?_⟩) (h := ?_)
 rotate_left
 ·(intro w hSw; (try dsimp only at hSw); go_simp; (try with_reducible rfl))
 (try simp only [Act.put,xL4,xL5,xL6])
 refine xT 9 (v := ?_) (hy := Or.inl ⟨by rfl,?_⟩) (h := ?_)
 rotate_left
 ·(intro w hSw; (try dsimp only at hSw); go_simp; (try with_reducible rfl))
 (try simp only [Act.put,xL4,xL5,xL6])
 refine xR [10] (h := ?_)
 refine xN (h := fun K hK => ?_)
 go_simp
 refine (jfrom_at _ q 8 _ Ix (by omega) (by omega)).mono ?_
 rintro e w4 ⟨v1,rfl,J1,b4⟩
 go_wp2_with fail
 replace ht := ht.below b4
 replace Ix := Ix.below b4
 replace E := E.below b4
 replace hI := hI.below b4
 replace Ha := Ha.below b4
 replace VA := VA.below b4
 replace hE := hE.below b4
 replace VB := VB.below b4
 replace BB := BB.trans (b4.mono BB.size)
 clear b4
 refine hK.out _ _ ?_ (fun hH1 => ?_)
 ·exact ⟨VA.1,VA.2.1,VA.2.2.1,VB.1,VB.2.1,VB.2.2.1,hE.1,hE.2⟩
 clear hK K hHeld
 (try simp only [Act.put,xL4,xL5,xL6])
 refine xR [11] (h := ?_)
 refine xN (h := fun K hK => ?_)
 go_simp
 refine (jis_at _ _ q 8 8 _ Ha sq J1 (by omega)).mono ?_
 rintro e w5 ⟨rfl,b5⟩
 go_wp2_with fail
 replace ht := ht.below b5
 replace Ix := Ix.below b5
 replace E := E.below b5
 replace hI := hI.below b5
 replace Ha := Ha.below b5
 replace J1 := J1.below b5
 replace VA := VA.below b5
 replace hE := hE.below b5
 replace VB := VB.below b5
 replace BB := BB.trans (b5.mono BB.size)
 clear b5
 refine hK.out _ _ ?_ (fun hH2 => ?_)
 ·exact ⟨VA.1,VA.2.1,VA.2.2.1,VB.1,VB.2.1,VB.2.2.1,hE.1,hE.2⟩
 clear hK K hH1
 (try simp only [Act.put,xL4,xL5,xL6])
 refine xT 12 (v := ?_) (hy := Or.inl ⟨by rfl,?_⟩) (h := ?_)
 rotate_left
 ·(intro w hSw; (try dsimp only at hSw); go_simp; (try with_reducible rfl))
 (try simp only [Act.put,xL4,xL5,xL6])
 refine xT 13 (v := ?_) (hy := Or.inl ⟨by rfl,?_⟩) (h := ?_)
 rotate_left
 ·(intro w hSw; (try dsimp only at hSw); go_simp; (try with_reducible rfl))
 (try simp only [Act.put,xL4,xL5,xL6])
 refine xT 14 (v := ?_) (hy := Or.inl ⟨by rfl,?_⟩) (h := ?_)
 rotate_left
 ·(intro w hSw; (try dsimp only at hSw); go_simp; (try with_reducible rfl))
 (try simp only [Act.put,xL4,xL5,xL6])
 refine xT 15 (v := ?_) (hy := Or.inl ⟨by rfl,?_⟩) (h := ?_)
 rotate_left
 ·(intro w hSw; (try dsimp only at hSw); go_simp; (try with_reducible rfl))
 (try simp only [Act.put,xL4,xL5,xL6])
 refine xT 16 (v := ?_) (hy := Or.inl ⟨by rfl,?_⟩) (h := ?_)
 rotate_left
 ·(intro w hSw; (try dsimp only at hSw); go_simp; (try with_reducible rfl))
 (try simp only [Act.put,xL4,xL5,xL6])
 refine xT 17 (v := ?_) (hy := Or.inl ⟨by rfl,?_⟩) (h := ?_)
 rotate_left
 ·(intro w hSw; (try dsimp only at hSw); go_simp; (try with_reducible rfl))
 (try simp only [Act.put,xL4,xL5,xL6])
 refine xT 18 (v := ?_) (hy := Or.inl ⟨by rfl,?_⟩) (h := ?_)
 rotate_left
 ·(intro w hSw; (try dsimp only at hSw); go_simp; (try with_reducible rfl))
 (try simp only [Act.put,xL4,xL5,xL6])
 refine xR [19] (h := ?_)
 refine xN (h := fun K hK => ?_)
 go_simp
 refine (jfrom_at _ q 8 _ Ix (by omega) (by omega)).mono ?_
 rintro e w6 ⟨v2,rfl,J2,b6⟩
 go_wp2_with fail
 replace ht := ht.below b6
 replace Ix := Ix.below b6
 replace E := E.below b6
 replace hI := hI.below b6
 replace Ha := Ha.below b6
 replace J1 := J1.below b6
 replace VA := VA.below b6
 replace hE := hE.below b6
 replace VB := VB.below b6
 replace BB := BB.trans (b6.mono BB.size)
 clear b6
 refine hK.out _ _ ?_ (fun hH3 => ?_)
 ·exact ⟨VA.1,VA.2.1,VA.2.2.1,VB.1,VB.2.1,VB.2.2.1,hE.1,hE.2⟩
 clear hK K hH2
 (try simp only [Act.put,xL4,xL5,xL6])
 refine xR [20] (h := ?_)
 refine xN (h := fun K hK => ?_)
 go_simp
 refine (jfloor_at _ q 8 _ J2 (by omega)).mono ?_
 rintro e w7 ⟨v3,rfl,J3,b7⟩
 go_wp2_with fail
 replace ht := ht.below b7
 replace Ix := Ix.below b7
 replace E := E.below b7
 replace hI := hI.below b7
 replace Ha := Ha.below b7
 replace J1 := J1.below b7
 replace J2 := J2.below b7
 replace VA := VA.below b7
 replace hE := hE.below b7
 replace VB := VB.below b7
 replace BB := BB.trans (b7.mono BB.size)
 clear b7
 refine hK.out _ _ ?_ (fun hH4 => ?_)
 ·exact ⟨VA.1,VA.2.1,VA.2.2.1,VB.1,VB.2.1,VB.2.2.1,hE.1,hE.2⟩
 clear hK K hH3
 (try simp only [Act.put,xL4,xL5,xL6])
 refine xR [21] (h := ?_)
 refine xN (h := fun K hK => ?_)
 go_simp
 refine (ris_rep _ _ q.floor _ hI lf J3).mono ?_
 rintro e w8 ⟨rfl,b8⟩
 go_wp2_with fail
 replace ht := ht.below b8
 replace Ix := Ix.below b8
 replace E := E.below b8
 replace hI := hI.below b8
 replace Ha := Ha.below b8
 replace J1 := J1.below b8
 replace J2 := J2.below b8
 replace J3 := J3.below b8
 replace VA := VA.below b8
 replace hE := hE.below b8
 replace VB := VB.below b8
 replace BB := BB.trans (b8.mono BB.size)
 clear b8
 refine hK.out _ _ ?_ (fun hH5 => ?_)
 ·exact ⟨VA.1,VA.2.1,VA.2.2.1,VB.1,VB.2.1,VB.2.2.1,hE.1,hE.2⟩
 clear hK K hH4
 (try simp only [Act.put,xL4,xL5,xL6])
 refine xT 22 (v := ?_) (hy := Or.inl ⟨by rfl,?_⟩) (h := ?_)
 rotate_left
 ·(intro w hSw; (try dsimp only at hSw); go_simp; (try with_reducible rfl))
 (try simp only [Act.put,xL4,xL5,xL6])
 refine xT 23 (v := ?_) (hy := Or.inl ⟨by rfl,?_⟩) (h := ?_)
 rotate_left
 ·(intro w hSw; (try dsimp only at hSw); go_simp; (try with_reducible rfl))
 (try simp only [Act.put,xL4,xL5,xL6])
 refine wpAnyH_done (by kernel_rfl) ?_ _
 clear hH5
 clear J1 J2 J3 Ha Ix hI
 clear VA VB hE
 go_wp2
 go_loopw [6] (fun vi wr => ∃ i : Nat,1 ≤ i ∧ i ≤ M + 1 ∧ vi = .int .i64 (i : Int) ∧ IRow wr (.slice (some ⟨b,0,none⟩) (M + 1) cp) (M + 1) Z 9 ∧ Tab wr ∧ Below w.heap.size w wr) (fun vi _ => (M + 1 - intOf vi).toNat)
 case atStart => exact ⟨1,by omega,by omega,rfl,E,ht,BB⟩
 case round =>
  clear E ht BB
  obtain ⟨i,hi1,hiM,rfl,E,ht,BB⟩ := hrel
  by_cases hlt : i < M + 1
  ·have c1 : (i : Int) < ((M + 1 : Nat) : Int) := by omega
   have c2 : (i : Int) < (M : Int) + 1 := by omega
   have c3 : (0 : Int) ≤ (i : Int) := by omega
   have hpz := HP.out (i - 1) (by omega)
   rw [show i - 1 + 1 = i by omega] at hpz
   have HPZ : Hid (0 < Z i ∧ (i = M → 2 ≤ Z i)) := hpz
   clear hpz
   obtain ⟨b2,off2,cm2,pe,ae,me,de,hvv,_,hE,hI⟩ := E.at i hlt
   cases hvv
   rw [Nat.zero_add] at hE
   generalize Z i = z at *
   obtain ⟨e1,e2⟩ := id hE
   go_wp2_with fail
   clear e1 e2 hE
   refine (rfrom_any _ z 9 _ hI (by omega)).mono ?_
   rintro e w21 ⟨v1,rfl,J1,b21⟩
   replace E := E.below b21
   replace ht := ht.below b21
   replace hI := hI.below b21
   replace BB := BB.trans (b21.mono BB.size)
   clear b21
   obtain ⟨ao5,c5,e5,hD⟩ := id J1
   subst e5
   have hz0 := HPZ.out.1
   rw [decide_eq_false (show ¬ z < 0 by omega)] at J1 ⊢
   have HX : Hid (z = (z.natAbs : Int)) := by show _ = _; omega
   have hx : 0 < z.natAbs := by omega
   have lx : nl W32 z.natAbs ≤ 9 := hI.nl
   generalize hxx : z.natAbs = x at *
   clear hz0
   have hn0 : ((nl 10000 x : Int) == 0) = false := by
    have : ¬ nl 10000 x = 0 := fun e => by have := (nl_eq_zero 10000 x (by omega)).1 e; omega
    simp; omega
   have HD : Hid True := trivial
   have hZ21 : w.heap.size ≤ w21.heap.size := BB.size
   obtain ⟨W21,hW21,hS21,hL21,VN⟩ := V2.lay w21 26 (.bool false) (.slice ao5 (nl 10000 x) c5)
   replace E := E.below hL21
   replace ht := ht.below hL21
   replace hI := hI.below hL21
   replace J1 := J1.below hL21
   replace hD := hD.below hL21
   replace BB := BB.trans (hL21.mono BB.size)
   clear hL21
   go_wp2
   rw [← hW21]
   generalize w21.heap.size = R21 at *
   clear hW21 hS21
   have l10 : nl 10000 x ≤ 1000000 := Nat.le_trans (nl_small x 9 (Nat.lt_of_lt_of_le (lt_pow_nl W32 x (by decide)) (Nat.pow_le_pow_right (by decide) lx))) (by omega)
   have hwr3 : IntKind.i64.wrap (M : Int) = (M : Int) := by rw [IntKind.wrap_i64]; omega
   have hwr : IntKind.i64.wrap (((M + 1 : Nat) : Int) - 1) = (M : Int) := by rw [IntKind.wrap_i64]; omega
   have hwr2 : IntKind.i64.wrap ((M : Int) + 1 - 1) = (M : Int) := by rw [IntKind.wrap_i64]; omega
   by_cases hiL : i = M
   ·have c4 : ((i : Int) == (M : Int)) = true := by simp; omega
    have hx2 : cmpI (x : Int) ((1 : Nat) : Int) = 1 := by have := HPZ.out.2 hiL; have := HX.out; unfold cmpI; rw [if_neg (by omega),if_pos (by omega)]
    clear hiL
    have hDr : Below W21.heap.size W21 W21.drew := (Below.refl _ _).drew
    replace E := E.below hDr
    replace ht := ht.below hDr
    replace hI := hI.below hDr
    replace J1 := J1.below hDr
    replace hD := hD.below hDr
    replace VN := VN.below hDr
    replace BB := BB.trans (hDr.mono BB.size)
    clear hDr
    refine wp_region_held_drew (S := (fun w' => w'.cell? ⟨R21,0,none⟩ = some (.bool false) ∧ w'.cell? ⟨R21,1,none⟩ = some (.slice ao5 (nl 10000 x) c5))) (by kernel_rfl) ?_ (fun hHeld => ?_)
    ·exact ⟨VN.1,VN.2.1⟩
    generalize W21.drew = W22 at *
    refine xT 0 (v := ?_) (hy := Or.inl ⟨by rfl,?_⟩) (h := ?_)
    rotate_left
    ·(intro w hSw; (try dsimp only at hSw); go_simp; (try with_reducible rfl))
    (try simp only [Act.put,xL4,xL5,xL6])
    refine xT 1 (v := ?_) (hy := Or.inl ⟨by rfl,?_⟩) (h := ?_)
    rotate_left
    ·(intro w hSw; (try dsimp only at hSw); go_simp; (try with_reducible rfl))
    (try simp only [Act.put,xL4,xL5,xL6])
    refine xT 2 (v := ?_) (hy := Or.inl ⟨by rfl,?_⟩) (h := ?_)
    rotate_left
    ·(intro w hSw; (try dsimp only at hSw); go_simp; (try with_reducible rfl))
    (try simp only [Act.put,xL4,xL5,xL6])
    refine xT 3 (v := ?_) (hy := Or.inl ⟨by rfl,?_⟩) (h := ?_)
    rotate_left
    ·(intro w hSw; (try dsimp only at hSw); go_simp; (try with_reducible rfl))
    (try simp only [Act.put,xL4,xL5,xL6])
    refine xT 4 (v := ?_) (hy := Or.inl ⟨by rfl,?_⟩) (h := ?_)
    rotate_left
    ·(intro w hSw; (try dsimp only at hSw); go_simp; (try with_reducible rfl))
    (try simp only [Act.put,xL4,xL5,xL6])
    refine xT 5 (v := ?_) (hy := Or.inl ⟨by rfl,?_⟩) (h := ?_)
    rotate_left
    ·(intro w hSw; (try dsimp only at hSw); go_simp; (try with_reducible rfl))
    (try simp only [Act.put,xL4,xL5,xL6])
    refine xT 6 (v := ?_) (hy := Or.inl ⟨by rfl,?_⟩) (h := ?_)
    rotate_left
    ·(intro w hSw; (try dsimp only at hSw); go_simp; (try with_reducible rfl))
    (try simp only [Act.put,xL4,xL5,xL6])
    refine xT 7 (v := ?_) (hy := Or.inl ⟨by rfl,?_⟩) (h := ?_)
    rotate_left
    ·(intro w hSw; (try dsimp only at hSw); go_simp; (try with_reducible rfl))
    (try simp only [Act.put,xL4,xL5,xL6])
    refine xT 8 (v := ?_) (hy := Or.inl ⟨by rfl,?_⟩) (h := ?_)
    rotate_left
    ·(intro w hSw; (try dsimp only at hSw); go_simp; (try with_reducible rfl))
    (try simp only [Act.put,xL4,xL5,xL6])
    refine xT 9 (v := ?_) (hy := Or.inl ⟨by rfl,?_⟩) (h := ?_)
    rotate_left
    ·(intro w hSw; (try dsimp only at hSw); go_simp; (try with_reducible rfl))
    (try simp only [Act.put,xL4,xL5,xL6])
    refine xT 10 (v := ?_) (hy := Or.inl ⟨by rfl,?_⟩) (h := ?_)
    rotate_left
    ·(intro w hSw; (try dsimp only at hSw); go_simp; (try with_reducible rfl))
    (try simp only [Act.put,xL4,xL5,xL6])
    refine xT 11 (v := ?_) (hy := Or.inl ⟨by rfl,?_⟩) (h := ?_)
    rotate_left
    ·(intro w hSw; (try dsimp only at hSw); go_simp; (try with_reducible rfl))
    (try simp only [Act.put,xL4,xL5,xL6])
    refine xT 12 (v := ?_) (hy := Or.inl ⟨by rfl,?_⟩) (h := ?_)
    rotate_left
    ·(intro w hSw; (try dsimp only at hSw); go_simp; (try with_reducible rfl))
    (try simp only [Act.put,xL4,xL5,xL6])
    refine xT 13 (v := ?_) (hy := Or.inl ⟨by rfl,?_⟩) (h := ?_)
    rotate_left
    ·(intro w hSw; (try dsimp only at hSw); go_simp; (try with_reducible rfl))
    (try simp only [Act.put,xL4,xL5,xL6])
    refine xT 14 (v := ?_) (hy := Or.inl ⟨by rfl,?_⟩) (h := ?_)
    rotate_left
    ·(intro w hSw; (try dsimp only at hSw); go_simp; (try with_reducible rfl))
    (try simp only [Act.put,xL4,xL5,xL6])
    refine xT 15 (v := ?_) (hy := Or.inl ⟨by rfl,?_⟩) (h := ?_)
    rotate_left
    ·(intro w hSw; (try dsimp only at hSw); go_simp; (try with_reducible rfl))
    (try simp only [Act.put,xL4,xL5,xL6])
    refine xT 16 (v := ?_) (hy := Or.inl ⟨by rfl,?_⟩) (h := ?_)
    rotate_left
    ·(intro w hSw; (try dsimp only at hSw); go_simp; (try with_reducible rfl))
    (try simp only [Act.put,xL4,xL5,xL6])
    refine xR [17] (h := ?_)
    refine xN (h := fun K hK => ?_)
    go_simp
    refine (small_any 1 _ (by omega)).mono ?_
    rintro e w22 ⟨v2,rfl,D2,b22⟩
    go_wp2_with fail
    replace E := E.below b22
    replace ht := ht.below b22
    replace hI := hI.below b22
    replace J1 := J1.below b22
    replace hD := hD.below b22
    replace VN := VN.below b22
    replace BB := BB.trans (b22.mono BB.size)
    clear b22
    refine hK.out _ _ ?_ (fun hH1 => ?_)
    ·exact ⟨VN.1,VN.2.1⟩
    clear hK K hHeld
    (try simp only [Act.put,xL4,xL5,xL6])
    refine xR [18] (h := ?_)
    refine xN (h := fun K hK => ?_)
    go_simp
    refine (order_any _ _ x 1 _ hD D2).mono ?_
    rintro e w23 ⟨rfl,b23⟩
    rw [hx2]
    go_wp2_with fail
    replace E := E.below b23
    replace ht := ht.below b23
    replace hI := hI.below b23
    replace J1 := J1.below b23
    replace hD := hD.below b23
    replace D2 := D2.below b23
    replace VN := VN.below b23
    replace BB := BB.trans (b23.mono BB.size)
    clear b23
    refine hK.out _ _ ?_ (fun hH2 => ?_)
    ·exact ⟨VN.1,VN.2.1⟩
    clear hK K hH1
    (try simp only [Act.put,xL4,xL5,xL6])
    refine xT 19 (v := ?_) (hy := Or.inl ⟨by rfl,?_⟩) (h := ?_)
    rotate_left
    ·(intro w hSw; (try dsimp only at hSw); go_simp; (try with_reducible rfl))
    (try simp only [Act.put,xL4,xL5,xL6])
    refine xT 20 (v := ?_) (hy := Or.inl ⟨by rfl,?_⟩) (h := ?_)
    rotate_left
    ·(intro w hSw; (try dsimp only at hSw); go_simp; (try with_reducible rfl))
    (try simp only [Act.put,xL4,xL5,xL6])
    refine xT 21 (v := ?_) (hy := Or.inl ⟨by rfl,?_⟩) (h := ?_)
    rotate_left
    ·(intro w hSw; (try dsimp only at hSw); go_simp; (try with_reducible rfl))
    (try simp only [Act.put,xL4,xL5,xL6])
    refine wpAnyH_done (by kernel_rfl) ?_ _
    clear hH2
    go_wp2
    go_roundw
    case rel => exact ⟨i + 1,by omega,by omega,by go_num,E,ht,BB⟩
    case measure => simp [intOf]; omega
   ·have c4 : ((i : Int) == (M : Int)) = false := by simp; omega
    clear hiL
    have hDr : Below W21.heap.size W21 W21.drew := (Below.refl _ _).drew
    replace E := E.below hDr
    replace ht := ht.below hDr
    replace hI := hI.below hDr
    replace J1 := J1.below hDr
    replace hD := hD.below hDr
    replace VN := VN.below hDr
    replace BB := BB.trans (hDr.mono BB.size)
    clear hDr
    refine wp_region_held_drew (S := (fun w' => w'.cell? ⟨R21,0,none⟩ = some (.bool false) ∧ w'.cell? ⟨R21,1,none⟩ = some (.slice ao5 (nl 10000 x) c5))) (by kernel_rfl) ?_ (fun hHeld => ?_)
    ·exact ⟨VN.1,VN.2.1⟩
    generalize W21.drew = W22 at *
    refine xT 0 (v := ?_) (hy := Or.inl ⟨by rfl,?_⟩) (h := ?_)
    rotate_left
    ·(intro w hSw; (try dsimp only at hSw); go_simp; (try with_reducible rfl))
    (try simp only [Act.put,xL4,xL5,xL6])
    refine xT 1 (v := ?_) (hy := Or.inl ⟨by rfl,?_⟩) (h := ?_)
    rotate_left
    ·(intro w hSw; (try dsimp only at hSw); go_simp; (try with_reducible rfl))
    (try simp only [Act.put,xL4,xL5,xL6])
    refine xT 2 (v := ?_) (hy := Or.inl ⟨by rfl,?_⟩) (h := ?_)
    rotate_left
    ·(intro w hSw; (try dsimp only at hSw); go_simp; (try with_reducible rfl))
    (try simp only [Act.put,xL4,xL5,xL6])
    refine xT 3 (v := ?_) (hy := Or.inl ⟨by rfl,?_⟩) (h := ?_)
    rotate_left
    ·(intro w hSw; (try dsimp only at hSw); go_simp; (try with_reducible rfl))
    (try simp only [Act.put,xL4,xL5,xL6])
    refine xT 4 (v := ?_) (hy := Or.inl ⟨by rfl,?_⟩) (h := ?_)
    rotate_left
    ·(intro w hSw; (try dsimp only at hSw); go_simp; (try with_reducible rfl))
    (try simp only [Act.put,xL4,xL5,xL6])
    refine xT 5 (v := ?_) (hy := Or.inl ⟨by rfl,?_⟩) (h := ?_)
    rotate_left
    ·(intro w hSw; (try dsimp only at hSw); go_simp; (try with_reducible rfl))
    (try simp only [Act.put,xL4,xL5,xL6])
    refine xT 6 (v := ?_) (hy := Or.inl ⟨by rfl,?_⟩) (h := ?_)
    rotate_left
    ·(intro w hSw; (try dsimp only at hSw); go_simp; (try with_reducible rfl))
    (try simp only [Act.put,xL4,xL5,xL6])
    refine xT 7 (v := ?_) (hy := Or.inl ⟨by rfl,?_⟩) (h := ?_)
    rotate_left
    ·(intro w hSw; (try dsimp only at hSw); go_simp; (try with_reducible rfl))
    (try simp only [Act.put,xL4,xL5,xL6])
    refine xT 8 (v := ?_) (hy := Or.inl ⟨by rfl,?_⟩) (h := ?_)
    rotate_left
    ·(intro w hSw; (try dsimp only at hSw); go_simp; (try with_reducible rfl))
    (try simp only [Act.put,xL4,xL5,xL6])
    refine xT 9 (v := ?_) (hy := Or.inl ⟨by rfl,?_⟩) (h := ?_)
    rotate_left
    ·(intro w hSw; (try dsimp only at hSw); go_simp; (try with_reducible rfl))
    (try simp only [Act.put,xL4,xL5,xL6])
    refine xT 10 (v := ?_) (hy := Or.inl ⟨by rfl,?_⟩) (h := ?_)
    rotate_left
    ·(intro w hSw; (try dsimp only at hSw); go_simp; (try with_reducible rfl))
    (try simp only [Act.put,xL4,xL5,xL6])
    refine xT 11 (v := ?_) (hy := Or.inl ⟨by rfl,?_⟩) (h := ?_)
    rotate_left
    ·(intro w hSw; (try dsimp only at hSw); go_simp; (try with_reducible rfl))
    (try simp only [Act.put,xL4,xL5,xL6])
    refine xT 12 (v := ?_) (hy := Or.inl ⟨by rfl,?_⟩) (h := ?_)
    rotate_left
    ·(intro w hSw; (try dsimp only at hSw); go_simp; (try with_reducible rfl))
    (try simp only [Act.put,xL4,xL5,xL6])
    refine xT 13 (v := ?_) (hy := Or.inl ⟨by rfl,?_⟩) (h := ?_)
    rotate_left
    ·(intro w hSw; (try dsimp only at hSw); go_simp; (try with_reducible rfl))
    (try simp only [Act.put,xL4,xL5,xL6])
    refine xT 14 (v := ?_) (hy := Or.inl ⟨by rfl,?_⟩) (h := ?_)
    rotate_left
    ·(intro w hSw; (try dsimp only at hSw); go_simp; (try with_reducible rfl))
    (try simp only [Act.put,xL4,xL5,xL6])
    refine xT 15 (v := undef) (hy := Or.inr ⟨by rfl,rfl⟩) (h := ?_)
    (try simp only [Act.put,xL4,xL5,xL6])
    refine xT 16 (v := undef) (hy := Or.inr ⟨by rfl,rfl⟩) (h := ?_)
    (try simp only [Act.put,xL4,xL5,xL6])
    refine xT 17 (v := undef) (hy := Or.inr ⟨by rfl,rfl⟩) (h := ?_)
    (try simp only [Act.put,xL4,xL5,xL6])
    refine xT 18 (v := undef) (hy := Or.inr ⟨by rfl,rfl⟩) (h := ?_)
    (try simp only [Act.put,xL4,xL5,xL6])
    refine xT 19 (v := undef) (hy := Or.inr ⟨by rfl,rfl⟩) (h := ?_)
    (try simp only [Act.put,xL4,xL5,xL6])
    refine xT 20 (v := ?_) (hy := Or.inl ⟨by rfl,?_⟩) (h := ?_)
    rotate_left
    ·(intro w hSw; (try dsimp only at hSw); go_simp; (try with_reducible rfl))
    (try simp only [Act.put,xL4,xL5,xL6])
    refine xT 21 (v := ?_) (hy := Or.inl ⟨by rfl,?_⟩) (h := ?_)
    rotate_left
    ·(intro w hSw; (try dsimp only at hSw); go_simp; (try with_reducible rfl))
    (try simp only [Act.put,xL4,xL5,xL6])
    refine wpAnyH_done (by kernel_rfl) ?_ _
    clear hHeld
    go_wp2
    go_roundw
    case rel => exact ⟨i + 1,by omega,by omega,by go_num,E,ht,BB⟩
    case measure => simp [intOf]; omega
  ·obtain rfl : i = M + 1 := by omega
   go_wp2_with fail
   refine (qawake_at _ ht).mono ?_
   rintro e w61 ⟨rfl,b61⟩
   replace ht := ht.below b61
   replace BB := BB.trans (b61.mono BB.size)
   clear b61
   go_wp2
   go_ret
   exact ⟨rfl,BB⟩

theorem own : ownKnob Tryz.prog.godebug = none := by kernel_rfl
theorem laidOut : laidOutB Tryz.prog = true := by kernel_rfl

abbrev laid1 : List (String × DataW Unit) := [("math/bits.deBruijn64tab",Rows.laid_math_bits_deBruijn64tab)]
theorem gTab : Tryz.prog.globalNamed "math/bits.deBruijn64tab" = some 1 := by kernel_rfl
theorem gTabType : (Tryz.prog.globals[1]?).map (·.type) = some 199 := by kernel_rfl
theorem uTab : Tryz.prog.underlying 199 = some (.array 64 5) := by kernel_rfl
theorem uCell : Tryz.prog.underlying 5 = some (.int .u8) := by kernel_rfl
theorem cCell : Tryz.prog.cellsOf 5 = 1 := by kernel_rfl
theorem cTab : Tryz.prog.cellsOf 199 = 64 := by kernel_rfl
/-- The listed table lies in its cells. -/
theorem tab_of {W : World} (h : laidMetH Tryz.prog laid1 W) : Tab W := by
 rw [MakeChecks.laidMetH_plain _ _ _ (by kernel_rfl)] at h
 have hd : laid1 = [("math/bits.deBruijn64tab",Lib.tabData .u8 (Lib.deBruijn64tab.map fun (n : Nat) => Int.ofNat n))] := rfl
 rw [hd] at h
 have hT := Lib.tabIs_of_head gTab gTabType uTab uCell cCell cTab h
 intro i hi
 have hc := hT.cell gTab i (by rw [List.length_map]; exact hi)
 rw [hc]
 congr 2
 rw [List.getD_eq_getElem?_getD,List.getElem?_map,List.getD_eq_getElem?_getD]
 cases Lib.deBruijn64tab[i]? <;> rfl
/-- A start for the witness: the heap that the run of the program's own initialisers leaves. -/
noncomputable def startW (os : Os) : World := { World.holding Tryz.prog os ⟨#[],#[],[]⟩ with heap := (varsWorld Tryz.prog 400 (varsId Tryz.prog) os (fun _ _ => 0)).heap }
theorem start_met (os : Os) (args : Array Value) : laidMetH Tryz.prog laid1 ((startW os).forCall (fun _ _ => 0) ⟨#[],args,[]⟩).memory :=
 laidMetH_of_parts3 (fuel := 8) (laidMet_of_run' 8 (by kernel_rfl) (by kernel_rfl)) (by kernel_rfl) (by kernel_rfl)

set_option maxRecDepth 100000 in
theorem lifted (os : Os) (started : os.Started) (H : Type) (enc : TypeId × Value → H) :
  ReturnsInHanded {} Tryz.checked os 7 .any (fun w args => (Rows.ratioFoldsSpec.pre enc Tryz.prog Tryz.f7 [] false w args ∧ laidMetH Tryz.prog laid1 w) ∧ sizedMet enc Tryz.prog Tryz.f7 (OpenSpec.ofChange Rows.ratioFoldsSpec) false w args) (Rows.ratioFoldsSpec.post enc Tryz.prog Tryz.f7 false true false false) := by
 refine returnsInHanded_of_change_and (C := Tryz.checked) (X := fun w _ => laidMetH Tryz.prog laid1 w) (fun _ _ _ hh h => h.of_heap hh) own started (by kernel_rfl) Tryz.func7
  (ChangeSpec.witness_shaped (enc := enc) (C := Tryz.checked) (os := os) (X := fun w _ => laidMetH Tryz.prog laid1 w) false (startW os) #[.agg #[.bool false,.slice none 0 0,.slice none 0 0]] 8 rfl (World.shaped_of_RefB (by kernel_rfl) (by kernel_rfl)) (by kernel_rfl) (by kernel_rfl) (by kernel_rfl) (start_met os _)) ?_
 intro W base args ds gs before hval0 hW _ _ hL _
 have hval : ∀ (j : Nat) t v,Tryz.f7.params[j]? = some t → args[j]? = some v → Value.okWide Tryz.prog W .any base t v := hval0
 have hW' := hW
 obtain ⟨p,q,hA0,hV,rfl,hfz,hnd⟩ := hW
 have hA : DataW.TrodAll enc Tryz.prog W 0 (fun _ => true) true Tryz.f7.params.toList args.toList ds p := hA0
 rw [Tryz.params7] at hA hval
 obtain ⟨v0,vs0,d0,ds0,p0,q0,hargs,rfl,rfl,h0,r0⟩ := trodAll_cons hA
 obtain ⟨rfl,rfl,rfl⟩ := trodAll_nil r0
 obtain rfl : args = #[v0] := by cases args; simp_all
 obtain ⟨rfl,rfl⟩ := trodVars_none hV
 have k0 := h0
 have lt0 : ∀ x ∈ p0,x.block < W.heap.size := by obtain ⟨m,hm⟩ := k0; exact DataW.trod_lt m _ _ _ hm
 obtain ⟨neg0,ao0,n0,c0,bo0,m0,d0,f0,g0,rfl,w0,x0⟩ := open_wrat (hval 0 35 v0 rfl rfl) h0
 clear hA0 hval0
 refine (walk _ _ _ _ _ _ _ _ _ W w0 x0 (tab_of hL)).mono fun e W' ⟨he,bel⟩ => ?_
 subst he
 exact ⟨_,rfl,_,_,_,[],_,[],hW',trodAll_mk1 (shut_bool Tryz.underlying4 _),(trodAll_cons_mk (Below.trod laidOut (by kernel_rfl) (of_decide_eq_true (by kernel_rfl)) k0 bel lt0) trodAll_mk0),rfl,bel.frame _,fun h => by cases h⟩

theorem over : Rows.ratioFoldsRow.holds Tryz.pinned (OpenSpec.ofChange Rows.ratioFoldsSpec) :=
 OpenClaim.holds_of_wide 7 Tryz.f7 rfl rfl rfl rfl rfl rfl rfl ⟨rfl,rfl,rfl,rfl,rfl⟩ rfl rfl rfl rfl rfl (by kernel_rfl) Tryz.func7 (by kernel_rfl)
  (of_decide_eq_true (by kernel_rfl)) (by unfold Func.isWrapper; first | (rw [if_pos (by decide +kernel)]; kernel_rfl) | (rw [if_neg (by decide +kernel)]; exact ⟨rfl,rfl⟩))
  (fun os started H enc _ => lifted os started H enc)

end Go.Proofs.YthlogenaienkhaaGreatDoor.ratioFolds
namespace Go.Proofs.YthlogenaienkhaaGreatDoor
/-- The statement: the row, tied to the text of the program. -/
theorem ratioFolds_holds : Rows.RatioFoldsCardSaid :=
 Claim7.holds_tied_plain_at .later [] [.data] true (true,"3380e13b50b7f32269091fe29852d4a9c6381b7d7ac34cf65ee07c32c1b30c36") false
  ratioFolds.over (fun _ h => by cases h) (by kernel_rfl) (fun _ h => by cases h) ratioFolds_row_tie rfl ⟨rfl,rfl⟩ (by kernel_rfl) rfl
  (fun f fn hf hfn => by
   obtain rfl : f = 7 := Option.some.inj ((show Tryz.prog.funcNamed "dendron/dendronlaw03.RatioFolds" = some 7 by kernel_rfl).symm.trans hf) |>.symm
   obtain rfl : fn = Tryz.f7 := (Option.some.inj (Tryz.func7.symm.trans hfn)).symm
   exact ⟨by kernel_rfl,fun j t ht => by
    rw [Tryz.params7] at ht
    have hm : t ∈ [35] := by simpa using Array.mem_of_getElem? ht
    have hall : ([35].all fun u => !Tryz.prog.wantsStandIn u) = true := by kernel_rfl
    exact (show Tryz.prog.wantsStandIn t = false by simpa using List.all_eq_true.1 hall t hm)⟩)
  (by kernel_rfl)
end Go.Proofs.YthlogenaienkhaaGreatDoor
