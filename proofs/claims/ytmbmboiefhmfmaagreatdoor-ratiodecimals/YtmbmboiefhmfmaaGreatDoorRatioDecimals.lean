/-
 Proves that Decimal answers a number of up to 2 limbs with up to 20 digits behind the point,what is read of it not being further off than half of the last digit,and of two as near the even one,or that there is none beyond the limits (the statement RatioDecimals,its tied card); the table of math/bits lies as the program's text lays it; no other condition.
-/
import Derived.Test.YtmbmboiefhmfmaaGreatDoorJb1573f1f59
import Derived.Test.YtmbmboiefhmfmaaGreatDoorRows
import Derived.Test.YtmbmboiefhmfmaaGreatDoorJ19f8fa5e95
import Derived.Test.YtmbmboiefhmfmaaGreatDoorJ2ade1504d5
import Derived.WalkKit
import Derived.ProofKit
import Derived.OpenShut
import Derived.ShutString
import Derived.ChangeOld
import Derived.Below
import Derived.Test.YtmbmboiefhmfmaaGreatDoorTie
import Derived.Test.YtmbmboiefhmfmaaGreatDoorCards
import Derived.LaidByTextLater
import Derived.LaidHandle
import Derived.Lib.LaidTab
import Derived.SevenTiedAt
namespace Go.Proofs.YtmbmboiefhmfmaaGreatDoor.ratioDecimals
open Go.ChangeShapes Go.WideShapes Go.ChangeAt Go.RowKit
open Go.ChangeMaps (open_string shut_string)
set_option linter.unusedVariables false
set_option linter.unusedSimpArgs false

set_option linter.unusedSimpArgs false
/-- How many digits stand behind the point, as far as i. -/
def ptAt (s d i : Nat) : Int := if 0 < d ∧ s < i + d + 1 then (d : Int) else 0
theorem ptAt_zero (s d : Nat) (h : d < s) : ptAt s d 0 = 0 := by unfold ptAt; rw [if_neg (by omega)]
theorem ptAt_hit (s d i : Nat) (h0 : 0 < d) (h : i + d + 1 = s) : ptAt s d (i + 1) = (d : Int) := by unfold ptAt; rw [if_pos (by omega)]
theorem ptAt_miss (s d i : Nat) (h : ¬ (0 < d ∧ i + d + 1 = s)) : ptAt s d (i + 1) = ptAt s d i := by
 unfold ptAt
 by_cases g : 0 < d ∧ s < i + d + 1
 ·rw [if_pos g,if_pos (by omega)]
 ·rw [if_neg g,if_neg (by omega)]
theorem ptAt_end (s d : Nat) : ptAt s d s = (d : Int) := by
 unfold ptAt
 by_cases g : 0 < d
 ·rw [if_pos (by omega)]
 ·rw [if_neg (by omega)]; omega
theorem dec_byte (N : Int) (d i : Nat) (hi : i < (decTxt N d).size) : ((((decTxt N d)[i]).toNat : Int) == 46) = decide (0 < d ∧ i + d + 1 = (decTxt N d).size) := by
 have h := dec_point N d i hi
 unfold byt at h
 rw [byte_at _ i hi] at h
 by_cases g : 0 < d ∧ i + d + 1 = (decTxt N d).size
 ·rw [decide_eq_true g,h.2 g]; rfl
 ·rw [decide_eq_false g,beq_eq_false_iff_ne]
  intro e; exact g (h.1 (by omega))
theorem dec_lo (N : Int) (d : Nat) : d < (decTxt N d).size := by
 have h1 := (pad_size N.natAbs d).1
 have h3 := dec0_size N.natAbs d
 unfold decTxt; split
 ·rw [minus_size]; split at h3 <;> omega
 ·split at h3 <;> omega
set_option maxRecDepth 100000 in
set_option maxHeartbeats 16000000 in
theorem walk (p : Bool) (ao0 : Option Addr) (n0 c0 : Nat) (bo0 : Option Addr) (m0 d0 : Nat) (f g : Nat → Int) (k : Int) (w : World) (ha1 : Raw w (.slice ao0 n0 c0) n0 f) (ha2 : Raw w (.slice bo0 m0 d0) m0 g) (wk : (Lit.int .i64 k).wf = true) (ht : Tab w) :
  Calls Tryz.prog 3 #[.agg #[.bool p,.slice ao0 n0 c0,.slice bo0 m0 d0],.int .i64 k] w fun e w' => e = .returned (.bool true) ∧ Below w.heap.size w w' := by
 have hkb := bounds_i64 wk
 clear wk
 have BB : Below w.heap.size w w := Below.refl _ _
 obtain ⟨Wb0,hW0,hS0,hL0,VA⟩ := V3.lay w 27 (.bool p) (.slice ao0 n0 c0) (.slice bo0 m0 d0)
 replace ha1 := ha1.below hL0
 replace ha2 := ha2.below hL0
 replace ht := ht.below hL0
 replace BB := BB.trans (hL0.mono BB.size)
 clear hL0
 go_enter Tryz.func3,Tryz.ntmps3
 go_wp2_with fail
 rw [← hW0]
 clear hW0 hS0
 refine (tiny_at _ _ _ _ _ _ _ _ ha1 ha2).mono ?_
 rintro e w1 ⟨ao,c,bo,e0,rfl,u1,u2,u3,u4,b1⟩
 replace ha1 := ha1.below b1
 replace ha2 := ha2.below b1
 replace ht := ht.below b1
 replace VA := VA.below b1
 replace BB := BB.trans (b1.mono BB.size)
 clear b1
 have k1 : min n0 2 ≤ 2 := Nat.min_le_right _ _
 have k2 : min m0 2 ≤ 2 := Nat.min_le_right _ _
 generalize min n0 2 = n at *
 generalize min m0 2 = m at *
 clear ha1 ha2
 by_cases h1 : k < 0
 ·have c1 : ¬ 20 < k := by omega
  have HK : Hid (k < 0 ∨ 10000 < k) := by show _ ∨ _; omega
  have hKp := VA.keepJ (.bool p) (.slice ao n c) (.slice bo m e0)
  have VA_n := VA.same (.bool p) (.slice ao n c) (.slice bo m e0)
  have ht_n := ht.keep hKp
  have u1_n := u1.keep hKp
  have u3_n := u3.keep hKp
  have BB_n := below_store3 (R := w.heap.size) BB (by omega) (.bool p) (.slice ao n c) (.slice bo m e0)
  clear hKp
  obtain ⟨VA_0,VA_1,VA_2,VA_3,VA_4,VA_5⟩ := id VA
  go_wp2_with fail
  clear VA_0 VA_1 VA_2 VA_3 VA_4 VA_5
  clear BB ht u1 u3 VA
  generalize ((w1.setCell ⟨w.heap.size,0,none⟩ (.bool p)).setCell ⟨w.heap.size,1,none⟩ (.slice ao n c)).setCell ⟨w.heap.size,2,none⟩ (.slice bo m e0) = W1 at *
  have BB := BB_n
  have ht := ht_n
  have u1 := u1_n
  have u3 := u3_n
  have VA := VA_n
  clear BB_n ht_n u1_n u3_n VA_n
  have Ix : RatAt W1 _ _ 2 := RatAt.raw (p := p) u1 u2 u3 u4 k1 k2
  clear u1 u3
  generalize mkRat (zof p (num f n)) (num g m) = q at *
  clear k1 k2 u2 u4
  refine (decimal_range _ q 2 k _ Ix HK.out).mono ?_
  rintro e w2 ⟨rfl,b2⟩
  replace ht := ht.below b2
  replace Ix := Ix.below b2
  replace VA := VA.below b2
  replace BB := BB.trans (b2.mono BB.size)
  clear b2
  go_wp2_with fail
  refine (qawake_at _ ht).mono ?_
  rintro e w3 ⟨rfl,b3⟩
  replace ht := ht.below b3
  replace Ix := Ix.below b3
  replace VA := VA.below b3
  replace BB := BB.trans (b3.mono BB.size)
  clear b3
  go_wp2
  go_ret
  exact ⟨rfl,BB⟩
 by_cases h2 : 10000 < k
 ·have c1 : 20 < k := by omega
  have c2 : ¬ k ≤ 10000 := by omega
  have HK : Hid (k < 0 ∨ 10000 < k) := by show _ ∨ _; omega
  have hKp := VA.keepJ (.bool p) (.slice ao n c) (.slice bo m e0)
  have VA_n := VA.same (.bool p) (.slice ao n c) (.slice bo m e0)
  have ht_n := ht.keep hKp
  have u1_n := u1.keep hKp
  have u3_n := u3.keep hKp
  have BB_n := below_store3 (R := w.heap.size) BB (by omega) (.bool p) (.slice ao n c) (.slice bo m e0)
  clear hKp
  obtain ⟨VA_0,VA_1,VA_2,VA_3,VA_4,VA_5⟩ := id VA
  go_wp2_with fail
  clear VA_0 VA_1 VA_2 VA_3 VA_4 VA_5
  clear BB ht u1 u3 VA
  generalize ((w1.setCell ⟨w.heap.size,0,none⟩ (.bool p)).setCell ⟨w.heap.size,1,none⟩ (.slice ao n c)).setCell ⟨w.heap.size,2,none⟩ (.slice bo m e0) = W1 at *
  have BB := BB_n
  have ht := ht_n
  have u1 := u1_n
  have u3 := u3_n
  have VA := VA_n
  clear BB_n ht_n u1_n u3_n VA_n
  have Ix : RatAt W1 _ _ 2 := RatAt.raw (p := p) u1 u2 u3 u4 k1 k2
  clear u1 u3
  generalize mkRat (zof p (num f n)) (num g m) = q at *
  clear k1 k2 u2 u4
  refine (decimal_range _ q 2 k _ Ix HK.out).mono ?_
  rintro e w2 ⟨rfl,b2⟩
  replace ht := ht.below b2
  replace Ix := Ix.below b2
  replace VA := VA.below b2
  replace BB := BB.trans (b2.mono BB.size)
  clear b2
  go_wp2_with fail
  refine (qawake_at _ ht).mono ?_
  rintro e w3 ⟨rfl,b3⟩
  replace ht := ht.below b3
  replace Ix := Ix.below b3
  replace VA := VA.below b3
  replace BB := BB.trans (b3.mono BB.size)
  clear b3
  go_wp2
  go_ret
  exact ⟨rfl,BB⟩
 by_cases h3 : 20 < k
 ·have c2 : k ≤ 10000 := by omega
  have hKp := VA.keepJ (.bool p) (.slice ao n c) (.slice bo m e0)
  have VA_n := VA.same (.bool p) (.slice ao n c) (.slice bo m e0)
  have ht_n := ht.keep hKp
  have u1_n := u1.keep hKp
  have u3_n := u3.keep hKp
  have BB_n := below_store3 (R := w.heap.size) BB (by omega) (.bool p) (.slice ao n c) (.slice bo m e0)
  clear hKp
  obtain ⟨VA_0,VA_1,VA_2,VA_3,VA_4,VA_5⟩ := id VA
  go_wp2_with fail
  clear VA_0 VA_1 VA_2 VA_3 VA_4 VA_5
  clear BB ht u1 u3 VA
  generalize ((w1.setCell ⟨w.heap.size,0,none⟩ (.bool p)).setCell ⟨w.heap.size,1,none⟩ (.slice ao n c)).setCell ⟨w.heap.size,2,none⟩ (.slice bo m e0) = W1 at *
  have BB := BB_n
  have ht := ht_n
  have u1 := u1_n
  have u3 := u3_n
  have VA := VA_n
  clear BB_n ht_n u1_n u3_n VA_n
  have Ix : RatAt W1 _ _ 2 := RatAt.raw (p := p) u1 u2 u3 u4 k1 k2
  clear u1 u3
  generalize mkRat (zof p (num f n)) (num g m) = q at *
  clear k1 k2 u2 u4
  refine (qawake_at _ ht).mono ?_
  rintro e w2 ⟨rfl,b2⟩
  replace ht := ht.below b2
  replace Ix := Ix.below b2
  replace VA := VA.below b2
  replace BB := BB.trans (b2.mono BB.size)
  clear b2
  go_wp2
  go_ret
  exact ⟨rfl,BB⟩
 ·obtain ⟨d,rfl⟩ : ∃ d : Nat,k = (d : Int) := ⟨k.toNat,by omega⟩
  have c1 : ¬ (20 : Int) < (d : Int) := by omega
  have c2 : ¬ (d : Int) < 0 := by omega
  have c3 : ¬ (10000 : Int) < (d : Int) := by omega
  have hd : d ≤ 20 := by omega
  have hKp := VA.keepJ (.bool p) (.slice ao n c) (.slice bo m e0)
  have VA_n := VA.same (.bool p) (.slice ao n c) (.slice bo m e0)
  have ht_n := ht.keep hKp
  have u1_n := u1.keep hKp
  have u3_n := u3.keep hKp
  have BB_n := below_store3 (R := w.heap.size) BB (by omega) (.bool p) (.slice ao n c) (.slice bo m e0)
  clear hKp
  obtain ⟨VA_0,VA_1,VA_2,VA_3,VA_4,VA_5⟩ := id VA
  go_wp2_with fail
  clear VA_0 VA_1 VA_2 VA_3 VA_4 VA_5
  clear BB ht u1 u3 VA
  generalize ((w1.setCell ⟨w.heap.size,0,none⟩ (.bool p)).setCell ⟨w.heap.size,1,none⟩ (.slice ao n c)).setCell ⟨w.heap.size,2,none⟩ (.slice bo m e0) = W1 at *
  have BB := BB_n
  have ht := ht_n
  have u1 := u1_n
  have u3 := u3_n
  have VA := VA_n
  clear BB_n ht_n u1_n u3_n VA_n
  have Ix : RatAt W1 _ _ 2 := RatAt.raw (p := p) u1 u2 u3 u4 k1 k2
  clear u1 u3
  generalize mkRat (zof p (num f n)) (num g m) = q at *
  clear k1 k2 u2 u4
  have sq := Ix.qsz (by omega)
  refine (decimal_at _ q 2 d _ Ix (by omega) (by omega) hd).mono ?_
  rintro e w2 ⟨rfl,b2⟩
  replace ht := ht.below b2
  replace Ix := Ix.below b2
  replace VA := VA.below b2
  replace BB := BB.trans (b2.mono BB.size)
  clear b2
  have n3 : nl W32 (10 ^ d) ≤ 3 := nl_le W32 (10 ^ d) 3 (by decide) (Nat.lt_of_le_of_lt (Nat.pow_le_pow_right (by omega) hd) (by decide))
  have s3 : qsz (q * ((10 ^ d : Nat) : Rat)) ≤ 2 + 3 := qsz_mul _ _ sq (by rw [← Rat.intCast_natCast]; exact qsz_int _ (by rw [Int.natAbs_natCast]; exact n3) (by omega))
  have lN : nl W32 (roundQ (q * ((10 ^ d : Nat) : Rat))).natAbs ≤ 7 := nl_round _ s3 (by omega)
  clear s3
  have HNR : Hid _ := round_near (q * ((10 ^ d : Nat) : Rat))
  generalize roundQ (q * ((10 ^ d : Nat) : Rat)) = N at *
  have hts : (decTxt N d).size ≤ 300 := Nat.le_trans (dec_size N d 7 lN) (by omega)
  have HB : Hid (∀ i (hi : i < (decTxt N d).size),((((decTxt N d)[i]).toNat : Int) == 46) = decide (0 < d ∧ i + d + 1 = (decTxt N d).size)) := fun i hi => dec_byte N d i hi
  have hlo := dec_lo N d
  have HE : Hid (0 = qerr (decTxt N d)) := by
   show _ = _
   unfold qerr; rw [dec_pp,if_pos rfl,if_neg (by show ¬ 10 ^ d = 0; have := Nat.pow_pos (n := d) (show 0 < 10 by omega); omega)]
  have HV : Hid (mkRat N (10 ^ d) = qval (decTxt N d)) := (dec_val N d).symm
  have hts2 : (decTxt N d).size ≤ 120 := Nat.le_trans (dec_size N d 7 lN) (by omega)
  generalize decTxt N d = E at *
  go_wp2_with fail
  refine (dparse_at E 0 (mkRat N (10 ^ d)) _ hts2 HE.out HV.out).mono ?_
  rintro e w3 ⟨px,ax,nx,cx,bx,mx,dx,rfl,hJ,b3⟩
  replace ht := ht.below b3
  replace Ix := Ix.below b3
  replace VA := VA.below b3
  replace BB := BB.trans (b3.mono BB.size)
  clear b3
  have Jx := hJ rfl
  clear hJ
  have hZ2 : w.heap.size ≤ w3.heap.size := BB.size
  have hN2VA : w.heap.size ≠ w3.heap.size := Nat.ne_of_lt VA.lt
  obtain ⟨W2,hW2,hS2,hL2,VX⟩ := V3.lay w3 38 (.bool px) (.slice ax nx cx) (.slice bx mx dx)
  replace ht := ht.below hL2
  replace Ix := Ix.below hL2
  replace Jx := Jx.below hL2
  replace VA := VA.below hL2
  replace BB := BB.trans (hL2.mono BB.size)
  clear hL2
  go_wp2_with fail
  rw [← hW2]
  generalize w3.heap.size = R2 at *
  clear hW2 hS2
  refine (small_any 10 _ (by omega)).mono ?_
  rintro e w4 ⟨r5,rfl,D5,b4⟩
  replace ht := ht.below b4
  replace Ix := Ix.below b4
  replace Jx := Jx.below b4
  replace VA := VA.below b4
  replace VX := VX.below b4
  replace BB := BB.trans (b4.mono BB.size)
  clear b4
  go_wp2_with fail
  refine (refPower_far _ 10 d _ D5 (by decide) (by omega)).mono ?_
  rintro e w5 ⟨r6,rfl,D6,b5⟩
  replace ht := ht.below b5
  replace Ix := Ix.below b5
  replace Jx := Jx.below b5
  replace D5 := D5.below b5
  replace VA := VA.below b5
  replace VX := VX.below b5
  replace BB := BB.trans (b5.mono BB.size)
  clear b5
  go_wp2_with fail
  refine (rmake_any false _ (10 ^ d) _ D6).mono ?_
  rintro e w6 ⟨r7,rfl,J7,b6⟩
  replace ht := ht.below b6
  replace Ix := Ix.below b6
  replace Jx := Jx.below b6
  replace D5 := D5.below b6
  replace D6 := D6.below b6
  replace VA := VA.below b6
  replace VX := VX.below b6
  replace BB := BB.trans (b6.mono BB.size)
  clear b6
  rw [zof_false] at J7
  go_wp2_with fail
  refine (jwhole_at _ ((10 ^ d : Nat) : Int) 3 _ J7 (by rw [Int.natAbs_natCast]; exact n3) (by omega)).mono ?_
  rintro e w7 ⟨r8,rfl,Jt,b7⟩
  replace ht := ht.below b7
  replace Ix := Ix.below b7
  replace Jx := Jx.below b7
  replace D5 := D5.below b7
  replace D6 := D6.below b7
  replace J7 := J7.below b7
  replace VA := VA.below b7
  replace VX := VX.below b7
  replace BB := BB.trans (b7.mono BB.size)
  clear b7
  obtain ⟨pt,at_,nt,ct,bt,mt,dt,rfl⟩ := Jt.open
  clear D5 D6 J7
  have hZ3 : w.heap.size ≤ w7.heap.size := BB.size
  have hN3VA : w.heap.size ≠ w7.heap.size := Nat.ne_of_lt VA.lt
  have hN3VX : R2 ≠ w7.heap.size := Nat.ne_of_lt VX.lt
  obtain ⟨W3,hW3,hS3,hL3,VT⟩ := V3.lay w7 38 (.bool pt) (.slice at_ nt ct) (.slice bt mt dt)
  replace ht := ht.below hL3
  replace Ix := Ix.below hL3
  replace Jx := Jx.below hL3
  replace Jt := Jt.below hL3
  replace VA := VA.below hL3
  replace VX := VX.below hL3
  replace BB := BB.trans (hL3.mono BB.size)
  clear hL3
  go_wp2
  rw [← hW3]
  generalize w7.heap.size = R3 at *
  clear hW3 hS3
  go_loop [10,11] (fun vp vi => ∃ i : Nat,i ≤ E.size ∧ vi = .int .i64 (i : Int) ∧ vp = .int .i64 (ptAt E.size d i)) (fun _ vi => E.size - (intOf vi).toNat)
  case atStart => exact ⟨0,Nat.zero_le _,rfl,by rw [ptAt_zero _ _ hlo]⟩
  case round =>
   obtain ⟨i,hi,rfl,rfl⟩ := hrel
   by_cases hlt : i < E.size
   ·have hb := HB.out i hlt
    have c4 : (i : Int) < (E.size : Int) := by omega
    by_cases hp : 0 < d ∧ i + d + 1 = E.size
    ·rw [decide_eq_true hp] at hb
     have v1 : IntKind.i64.wrap ((E.size : Int) - (i : Int)) = (E.size : Int) - (i : Int) := by rw [IntKind.wrap_i64]; omega
     have v2 : IntKind.i64.wrap ((E.size : Int) - (i : Int) - 1) = (d : Int) := by rw [IntKind.wrap_i64]; omega
     have v3 : (E.size : Int) - (i : Int) - 1 = (d : Int) := by omega
     have HP1 : Hid (ptAt E.size d (i + 1) = (d : Int)) := ptAt_hit _ _ _ hp.1 hp.2
     clear hp
     go_wp2
     exact ⟨⟨i + 1,by omega,rfl,by rw [HP1.out]⟩,by simp [intOf]; omega⟩
    ·rw [decide_eq_false hp] at hb
     have HP1 : Hid (ptAt E.size d (i + 1) = ptAt E.size d i) := ptAt_miss _ _ _ hp
     clear hp
     generalize ptAt E.size d i = pp at *
     go_wp2
     exact ⟨⟨i + 1,by omega,rfl,by rw [HP1.out]⟩,by simp [intOf]; omega⟩
   ·obtain rfl : i = E.size := by omega
    have HPE : Hid (ptAt E.size d E.size = (d : Int)) := ptAt_end _ _
    rw [HPE.out]
    clear hi hlt HB hlo HE HV hts hts2
    obtain ⟨VX_0,VX_1,VX_2,VX_3,VX_4,VX_5⟩ := id VX
    obtain ⟨VT_0,VT_1,VT_2,VT_3,VT_4,VT_5⟩ := id VT
    go_wp2_with fail
    clear VX_0 VX_1 VX_2 VX_3 VX_4 VX_5 VT_0 VT_1 VT_2 VT_3 VT_4 VT_5
    refine (jtimes_at _ _ (mkRat N (10 ^ d)) (((10 ^ d : Nat) : Int) : Rat) 250 3 _ Jx Jt (by omega)).mono ?_
    rintro e w28 ⟨vy,rfl,Jy,b28⟩
    replace ht := ht.below b28
    replace Ix := Ix.below b28
    replace Jx := Jx.below b28
    replace Jt := Jt.below b28
    replace VA := VA.below b28
    replace VX := VX.below b28
    replace VT := VT.below b28
    replace BB := BB.trans (b28.mono BB.size)
    clear b28
    rw [ten_back] at Jy
    obtain ⟨py,ay,ny,cy,b_y,my,dy,rfl⟩ := Jy.open
    clear Jx
    clear VX
    have hZ24 : w.heap.size ≤ w28.heap.size := BB.size
    have hN24VA : w.heap.size ≠ w28.heap.size := Nat.ne_of_lt VA.lt
    have hN24VT : R3 ≠ w28.heap.size := Nat.ne_of_lt VT.lt
    obtain ⟨W24,hW24,hS24,hL24,VY⟩ := V3.lay w28 38 (.bool py) (.slice ay ny cy) (.slice b_y my dy)
    replace ht := ht.below hL24
    replace Ix := Ix.below hL24
    replace Jt := Jt.below hL24
    replace Jy := Jy.below hL24
    replace VA := VA.below hL24
    replace VT := VT.below hL24
    replace BB := BB.trans (hL24.mono BB.size)
    clear hL24
    go_wp2
    rw [← hW24]
    generalize w28.heap.size = R24 at *
    clear hW24 hS24
    have HTC : Hid ((((10 ^ d : Nat) : Int) : Rat) = ((10 ^ d : Nat) : Rat)) := Rat.intCast_natCast _
    rw [HTC.out] at Jt
    generalize ((10 ^ d : Nat) : Rat) = T at *
    clear HTC n3
    go_cut [13] from 81 (fun s13 wc => ∃ (RG : Nat) (pg : Bool) (ag : Option Addr) (ng cg : Nat) (bg : Option Addr) (mg dg_ : Nat),s13 = .pointer (some ⟨RG,0,none⟩) ∧ W24.heap.size ≤ RG ∧ V3 wc RG (.bool pg) (.slice ag ng cg) (.slice bg mg dg_) ∧ DocQ wc (.agg #[.bool pg,.slice ag ng cg,.slice bg mg dg_]) (absQ (q * T + -(N : Rat))) 300 ∧ Below W24.heap.size W24 wc)
    case first =>
     clear ht BB
     have BB : Below W24.heap.size W24 W24 := Below.refl _ _
     have hDr : Below W24.heap.size W24 W24.drew := (Below.refl _ _).drew
     replace Ix := Ix.below hDr
     replace Jt := Jt.below hDr
     replace Jy := Jy.below hDr
     replace VA := VA.below hDr
     replace VT := VT.below hDr
     replace VY := VY.below hDr
     replace BB := BB.trans (hDr.mono BB.size)
     clear hDr
     refine wp_region_held_drew (S := (fun w' => w'.cell? ⟨w.heap.size,0,none⟩ = some (.bool p) ∧ w'.cell? ⟨w.heap.size,1,none⟩ = some (.slice ao n c) ∧ w'.cell? ⟨w.heap.size,2,none⟩ = some (.slice bo m e0) ∧ w'.cell? ⟨R3,0,none⟩ = some (.bool pt) ∧ w'.cell? ⟨R3,1,none⟩ = some (.slice at_ nt ct) ∧ w'.cell? ⟨R3,2,none⟩ = some (.slice bt mt dt) ∧ w'.cell? ⟨R24,0,none⟩ = some (.bool py) ∧ w'.cell? ⟨R24,1,none⟩ = some (.slice ay ny cy) ∧ w'.cell? ⟨R24,2,none⟩ = some (.slice b_y my dy))) (by kernel_rfl) ?_ (fun hHeld => ?_)
     ·exact ⟨VA.1,VA.2.1,VA.2.2.1,VT.1,VT.2.1,VT.2.2.1,VY.1,VY.2.1,VY.2.2.1⟩
     generalize W24.drew = W25 at *
     refine xT 0 (v := ?_) (hy := Or.inl ⟨by rfl,?_⟩) (h := ?_)
     rotate_left
     ·(intro w hSw; (try dsimp only at hSw); go_simp; (try with_reducible rfl))
     (try simp only [Act.put,xL4,xL5,xL6])
     refine xT 2 (v := ?_) (hy := Or.inl ⟨by rfl,?_⟩) (h := ?_)
     rotate_left
     ·(intro w hSw; (try dsimp only at hSw); go_simp; (try with_reducible rfl))
     (try simp only [Act.put,xL4,xL5,xL6])
     refine xT 4 (v := ?_) (hy := Or.inl ⟨by rfl,?_⟩) (h := ?_)
     rotate_left
     ·(intro w hSw; (try dsimp only at hSw); go_simp; (try with_reducible rfl))
     (try simp only [Act.put,xL4,xL5,xL6])
     refine xR [1,8] (h := ?_)
     refine xC (h := fun K hK => ?_) (hs := ?_)
     ·
      go_simp
      refine (jfrom_at _ q 2 _ Ix (by omega) (by omega)).mono ?_
      rintro e w29 ⟨e1,rfl,g1,b29⟩
      go_wp2_with fail
      replace Ix := Ix.below b29
      replace Jt := Jt.below b29
      replace Jy := Jy.below b29
      replace VA := VA.below b29
      replace VT := VT.below b29
      replace VY := VY.below b29
      replace BB := BB.trans (b29.mono BB.size)
      clear b29
      refine hK.out _ _ ?_ (fun hH1 => ?_)
      ·exact ⟨VA.1,VA.2.1,VA.2.2.1,VT.1,VT.2.1,VT.2.2.1,VY.1,VY.2.1,VY.2.2.1⟩
      clear hK K hHeld
      (try simp only [Act.put,xL4,xL5,xL6])
      refine xR [3,8] (h := ?_)
      refine xC (h := fun K hK => ?_) (hs := ?_)
      ·
       go_simp
       refine (jtimes_at _ _ q T 2 3 _ g1 Jt (by omega)).mono ?_
       rintro e w30 ⟨e2,rfl,g2,b30⟩
       go_wp2_with fail
       replace Ix := Ix.below b30
       replace Jt := Jt.below b30
       replace Jy := Jy.below b30
       replace g1 := g1.below b30
       replace VA := VA.below b30
       replace VT := VT.below b30
       replace VY := VY.below b30
       replace BB := BB.trans (b30.mono BB.size)
       clear b30
       refine hK.out _ _ ?_ (fun hH2 => ?_)
       ·exact ⟨VA.1,VA.2.1,VA.2.2.1,VT.1,VT.2.1,VT.2.2.1,VY.1,VY.2.1,VY.2.2.1⟩
       clear hK K hH1
       (try simp only [Act.put,xL4,xL5,xL6])
       refine xR [5,8] (h := ?_)
       refine xC (h := fun K hK => ?_) (hs := ?_)
       ·
        go_simp
        refine (jminus_at _ (N : Rat) 253 _ Jy (by omega)).mono ?_
        rintro e w31 ⟨e3,rfl,g3,b31⟩
        go_wp2_with fail
        replace Ix := Ix.below b31
        replace Jt := Jt.below b31
        replace Jy := Jy.below b31
        replace g1 := g1.below b31
        replace g2 := g2.below b31
        replace VA := VA.below b31
        replace VT := VT.below b31
        replace VY := VY.below b31
        replace BB := BB.trans (b31.mono BB.size)
        clear b31
        refine hK.out _ _ ?_ (fun hH3 => ?_)
        ·exact ⟨VA.1,VA.2.1,VA.2.2.1,VT.1,VT.2.1,VT.2.2.1,VY.1,VY.2.1,VY.2.2.1⟩
        clear hK K hH2
        (try simp only [Act.put,xL4,xL5,xL6])
        refine xR [6,8] (h := ?_)
        refine xC (h := fun K hK => ?_) (hs := ?_)
        ·
         go_simp
         refine (jplus_at _ _ (q * T) (-(N : Rat)) 5 253 _ g2 g3 (by omega)).mono ?_
         rintro e w32 ⟨e4,rfl,g4,b32⟩
         go_wp2_with fail
         replace Ix := Ix.below b32
         replace Jt := Jt.below b32
         replace Jy := Jy.below b32
         replace g1 := g1.below b32
         replace g2 := g2.below b32
         replace g3 := g3.below b32
         replace VA := VA.below b32
         replace VT := VT.below b32
         replace VY := VY.below b32
         replace BB := BB.trans (b32.mono BB.size)
         clear b32
         refine hK.out _ _ ?_ (fun hH4 => ?_)
         ·exact ⟨VA.1,VA.2.1,VA.2.2.1,VT.1,VT.2.1,VT.2.2.1,VY.1,VY.2.1,VY.2.2.1⟩
         clear hK K hH3
         (try simp only [Act.put,xL4,xL5,xL6])
         refine xR [7,8] (h := ?_)
         refine xC (h := fun K hK => ?_) (hs := ?_)
         ·
          go_simp
          refine (jabs_at _ (q * T + -(N : Rat)) 259 _ g4 (by omega)).mono ?_
          rintro e w33 ⟨e5,rfl,g5,b33⟩
          obtain ⟨pg,ag,ng,cg,bg,mg,dg_,rfl⟩ := g5.open
          go_wp2_with fail
          replace Ix := Ix.below b33
          replace Jt := Jt.below b33
          replace Jy := Jy.below b33
          replace g1 := g1.below b33
          replace g2 := g2.below b33
          replace g3 := g3.below b33
          replace g4 := g4.below b33
          replace VA := VA.below b33
          replace VT := VT.below b33
          replace VY := VY.below b33
          replace BB := BB.trans (b33.mono BB.size)
          clear b33
          refine hK.out _ _ ?_ (fun hH5 => ?_)
          ·exact ⟨VA.1,VA.2.1,VA.2.2.1,VT.1,VT.2.1,VT.2.2.1,VY.1,VY.2.1,VY.2.2.1⟩
          clear hK K hH4
          (try simp only [Act.put,xL4,xL5,xL6])
          refine xR [8] (h := ?_)
          refine xN (h := fun K hK => ?_)
          go_simp
          have hZ26 : W24.heap.size ≤ w33.heap.size := BB.size
          have hN26VA : w.heap.size ≠ w33.heap.size := Nat.ne_of_lt VA.lt
          have hN26VT : R3 ≠ w33.heap.size := Nat.ne_of_lt VT.lt
          have hN26VY : R24 ≠ w33.heap.size := Nat.ne_of_lt VY.lt
          obtain ⟨W26,hW26,hS26,hL26,VG⟩ := V3.lay w33 38 (.bool false) (.slice none 0 0) (.slice none 0 0)
          replace Ix := Ix.below hL26
          replace Jt := Jt.below hL26
          replace Jy := Jy.below hL26
          replace g1 := g1.below hL26
          replace g2 := g2.below hL26
          replace g3 := g3.below hL26
          replace g4 := g4.below hL26
          replace g5 := g5.below hL26
          replace VA := VA.below hL26
          replace VT := VT.below hL26
          replace VY := VY.below hL26
          replace BB := BB.trans (hL26.mono BB.size)
          clear hL26
          rw [← hW26]
          generalize w33.heap.size = R26 at *
          clear hW26 hS26
          refine hK.out _ _ ?_ (fun hH6 => ?_)
          ·exact ⟨VA.1,VA.2.1,VA.2.2.1,VT.1,VT.2.1,VT.2.2.1,VY.1,VY.2.1,VY.2.2.1⟩
          clear hK K hH5
          (try simp only [Act.put,xL4,xL5,xL6])
          refine xR [9] (h := ?_)
          refine xN (h := fun K hK => ?_)
          have hKp := VG.keepJ (.bool pg) (.slice ag ng cg) (.slice bg mg dg_)
          have VA_n := VA.other3 (R := R26) (by omega) (.bool pg) (.slice ag ng cg) (.slice bg mg dg_)
          have VT_n := VT.other3 (R := R26) (by omega) (.bool pg) (.slice ag ng cg) (.slice bg mg dg_)
          have VY_n := VY.other3 (R := R26) (by omega) (.bool pg) (.slice ag ng cg) (.slice bg mg dg_)
          have VG_n := VG.same (.bool pg) (.slice ag ng cg) (.slice bg mg dg_)
          have Ix_n := Ix.keep hKp
          have Jt_n := Jt.keep hKp
          have Jy_n := Jy.keep hKp
          have g1_n := g1.keep hKp
          have g2_n := g2.keep hKp
          have g3_n := g3.keep hKp
          have g4_n := g4.keep hKp
          have g5_n := g5.keep hKp
          have BB_n := below_store3 (R := R26) BB (by omega) (.bool pg) (.slice ag ng cg) (.slice bg mg dg_)
          clear hKp
          obtain ⟨VG_0,VG_1,VG_2,VG_3,VG_4,VG_5⟩ := id VG
          go_simp
          clear VG_0 VG_1 VG_2 VG_3 VG_4 VG_5
          clear BB Ix Jt Jy g1 g2 g3 g4 g5 VA VT VY VG
          generalize ((W26.setCell ⟨R26,0,none⟩ (.bool pg)).setCell ⟨R26,1,none⟩ (.slice ag ng cg)).setCell ⟨R26,2,none⟩ (.slice bg mg dg_) = W27 at *
          have BB := BB_n
          have Ix := Ix_n
          have Jt := Jt_n
          have Jy := Jy_n
          have g1 := g1_n
          have g2 := g2_n
          have g3 := g3_n
          have g4 := g4_n
          have g5 := g5_n
          have VA := VA_n
          have VT := VT_n
          have VY := VY_n
          have VG := VG_n
          clear BB_n Ix_n Jt_n Jy_n g1_n g2_n g3_n g4_n g5_n VA_n VT_n VY_n VG_n
          refine hK.out _ _ ?_ (fun hH7 => ?_)
          ·exact ⟨VA.1,VA.2.1,VA.2.2.1,VT.1,VT.2.1,VT.2.2.1,VY.1,VY.2.1,VY.2.2.1⟩
          clear hK K hH6
          (try simp only [Act.put,xL4,xL5,xL6])
          refine wpAnyH_done (by kernel_rfl) ?_ _
          clear hH7
          go_wp2_with fail
          go_meet
          exact ⟨R26,pg,ag,ng,cg,bg,mg,dg_,rfl,by omega,VG,g5.le (by omega),BB⟩
         refine xC (h := fun K hK => ?_) (hs := ?_)
         ·
          go_simp
          have hZ28 : W24.heap.size ≤ w32.heap.size := BB.size
          have hN28VA : w.heap.size ≠ w32.heap.size := Nat.ne_of_lt VA.lt
          have hN28VT : R3 ≠ w32.heap.size := Nat.ne_of_lt VT.lt
          have hN28VY : R24 ≠ w32.heap.size := Nat.ne_of_lt VY.lt
          obtain ⟨W28,hW28,hS28,hL28,VG⟩ := V3.lay w32 38 (.bool false) (.slice none 0 0) (.slice none 0 0)
          replace Ix := Ix.below hL28
          replace Jt := Jt.below hL28
          replace Jy := Jy.below hL28
          replace g1 := g1.below hL28
          replace g2 := g2.below hL28
          replace g3 := g3.below hL28
          replace g4 := g4.below hL28
          replace VA := VA.below hL28
          replace VT := VT.below hL28
          replace VY := VY.below hL28
          replace BB := BB.trans (hL28.mono BB.size)
          clear hL28
          rw [← hW28]
          generalize w32.heap.size = R28 at *
          clear hW28 hS28
          refine hK.out _ _ ?_ (fun hH5 => ?_)
          ·exact ⟨VA.1,VA.2.1,VA.2.2.1,VT.1,VT.2.1,VT.2.2.1,VY.1,VY.2.1,VY.2.2.1⟩
          clear hK K hH4
          (try simp only [Act.put,xL4,xL5,xL6])
          refine xR [7] (h := ?_)
          refine xN (h := fun K hK => ?_)
          go_simp
          refine (jabs_at _ (q * T + -(N : Rat)) 259 _ g4 (by omega)).mono ?_
          rintro e w34 ⟨e5,rfl,g5,b34⟩
          obtain ⟨pg,ag,ng,cg,bg,mg,dg_,rfl⟩ := g5.open
          go_wp2_with fail
          replace Ix := Ix.below b34
          replace Jt := Jt.below b34
          replace Jy := Jy.below b34
          replace g1 := g1.below b34
          replace g2 := g2.below b34
          replace g3 := g3.below b34
          replace g4 := g4.below b34
          replace VA := VA.below b34
          replace VT := VT.below b34
          replace VY := VY.below b34
          replace VG := VG.below b34
          replace BB := BB.trans (b34.mono BB.size)
          clear b34
          refine hK.out _ _ ?_ (fun hH6 => ?_)
          ·exact ⟨VA.1,VA.2.1,VA.2.2.1,VT.1,VT.2.1,VT.2.2.1,VY.1,VY.2.1,VY.2.2.1⟩
          clear hK K hH5
          (try simp only [Act.put,xL4,xL5,xL6])
          refine xR [9] (h := ?_)
          refine xN (h := fun K hK => ?_)
          have hKp := VG.keepJ (.bool pg) (.slice ag ng cg) (.slice bg mg dg_)
          have VA_n := VA.other3 (R := R28) (by omega) (.bool pg) (.slice ag ng cg) (.slice bg mg dg_)
          have VT_n := VT.other3 (R := R28) (by omega) (.bool pg) (.slice ag ng cg) (.slice bg mg dg_)
          have VY_n := VY.other3 (R := R28) (by omega) (.bool pg) (.slice ag ng cg) (.slice bg mg dg_)
          have VG_n := VG.same (.bool pg) (.slice ag ng cg) (.slice bg mg dg_)
          have Ix_n := Ix.keep hKp
          have Jt_n := Jt.keep hKp
          have Jy_n := Jy.keep hKp
          have g1_n := g1.keep hKp
          have g2_n := g2.keep hKp
          have g3_n := g3.keep hKp
          have g4_n := g4.keep hKp
          have g5_n := g5.keep hKp
          have BB_n := below_store3 (R := R28) BB (by omega) (.bool pg) (.slice ag ng cg) (.slice bg mg dg_)
          clear hKp
          obtain ⟨VG_0,VG_1,VG_2,VG_3,VG_4,VG_5⟩ := id VG
          go_simp
          clear VG_0 VG_1 VG_2 VG_3 VG_4 VG_5
          clear BB Ix Jt Jy g1 g2 g3 g4 g5 VA VT VY VG
          generalize ((w34.setCell ⟨R28,0,none⟩ (.bool pg)).setCell ⟨R28,1,none⟩ (.slice ag ng cg)).setCell ⟨R28,2,none⟩ (.slice bg mg dg_) = W29 at *
          have BB := BB_n
          have Ix := Ix_n
          have Jt := Jt_n
          have Jy := Jy_n
          have g1 := g1_n
          have g2 := g2_n
          have g3 := g3_n
          have g4 := g4_n
          have g5 := g5_n
          have VA := VA_n
          have VT := VT_n
          have VY := VY_n
          have VG := VG_n
          clear BB_n Ix_n Jt_n Jy_n g1_n g2_n g3_n g4_n g5_n VA_n VT_n VY_n VG_n
          refine hK.out _ _ ?_ (fun hH7 => ?_)
          ·exact ⟨VA.1,VA.2.1,VA.2.2.1,VT.1,VT.2.1,VT.2.2.1,VY.1,VY.2.1,VY.2.2.1⟩
          clear hK K hH6
          (try simp only [Act.put,xL4,xL5,xL6])
          refine wpAnyH_done (by kernel_rfl) ?_ _
          clear hH7
          go_wp2_with fail
          go_meet
          exact ⟨R28,pg,ag,ng,cg,bg,mg,dg_,rfl,by omega,VG,g5.le (by omega),BB⟩
         exact AllReadyH.nil
        refine xC (h := fun K hK => ?_) (hs := ?_)
        ·
         go_simp
         have hZ30 : W24.heap.size ≤ w31.heap.size := BB.size
         have hN30VA : w.heap.size ≠ w31.heap.size := Nat.ne_of_lt VA.lt
         have hN30VT : R3 ≠ w31.heap.size := Nat.ne_of_lt VT.lt
         have hN30VY : R24 ≠ w31.heap.size := Nat.ne_of_lt VY.lt
         obtain ⟨W30,hW30,hS30,hL30,VG⟩ := V3.lay w31 38 (.bool false) (.slice none 0 0) (.slice none 0 0)
         replace Ix := Ix.below hL30
         replace Jt := Jt.below hL30
         replace Jy := Jy.below hL30
         replace g1 := g1.below hL30
         replace g2 := g2.below hL30
         replace g3 := g3.below hL30
         replace VA := VA.below hL30
         replace VT := VT.below hL30
         replace VY := VY.below hL30
         replace BB := BB.trans (hL30.mono BB.size)
         clear hL30
         rw [← hW30]
         generalize w31.heap.size = R30 at *
         clear hW30 hS30
         refine hK.out _ _ ?_ (fun hH4 => ?_)
         ·exact ⟨VA.1,VA.2.1,VA.2.2.1,VT.1,VT.2.1,VT.2.2.1,VY.1,VY.2.1,VY.2.2.1⟩
         clear hK K hH3
         (try simp only [Act.put,xL4,xL5,xL6])
         refine xR [6] (h := ?_)
         refine xN (h := fun K hK => ?_)
         go_simp
         refine (jplus_at _ _ (q * T) (-(N : Rat)) 5 253 _ g2 g3 (by omega)).mono ?_
         rintro e w35 ⟨e4,rfl,g4,b35⟩
         go_wp2_with fail
         replace Ix := Ix.below b35
         replace Jt := Jt.below b35
         replace Jy := Jy.below b35
         replace g1 := g1.below b35
         replace g2 := g2.below b35
         replace g3 := g3.below b35
         replace VA := VA.below b35
         replace VT := VT.below b35
         replace VY := VY.below b35
         replace VG := VG.below b35
         replace BB := BB.trans (b35.mono BB.size)
         clear b35
         refine hK.out _ _ ?_ (fun hH5 => ?_)
         ·exact ⟨VA.1,VA.2.1,VA.2.2.1,VT.1,VT.2.1,VT.2.2.1,VY.1,VY.2.1,VY.2.2.1⟩
         clear hK K hH4
         (try simp only [Act.put,xL4,xL5,xL6])
         refine xR [7] (h := ?_)
         refine xN (h := fun K hK => ?_)
         go_simp
         refine (jabs_at _ (q * T + -(N : Rat)) 259 _ g4 (by omega)).mono ?_
         rintro e w36 ⟨e5,rfl,g5,b36⟩
         obtain ⟨pg,ag,ng,cg,bg,mg,dg_,rfl⟩ := g5.open
         go_wp2_with fail
         replace Ix := Ix.below b36
         replace Jt := Jt.below b36
         replace Jy := Jy.below b36
         replace g1 := g1.below b36
         replace g2 := g2.below b36
         replace g3 := g3.below b36
         replace g4 := g4.below b36
         replace VA := VA.below b36
         replace VT := VT.below b36
         replace VY := VY.below b36
         replace VG := VG.below b36
         replace BB := BB.trans (b36.mono BB.size)
         clear b36
         refine hK.out _ _ ?_ (fun hH6 => ?_)
         ·exact ⟨VA.1,VA.2.1,VA.2.2.1,VT.1,VT.2.1,VT.2.2.1,VY.1,VY.2.1,VY.2.2.1⟩
         clear hK K hH5
         (try simp only [Act.put,xL4,xL5,xL6])
         refine xR [9] (h := ?_)
         refine xN (h := fun K hK => ?_)
         have hKp := VG.keepJ (.bool pg) (.slice ag ng cg) (.slice bg mg dg_)
         have VA_n := VA.other3 (R := R30) (by omega) (.bool pg) (.slice ag ng cg) (.slice bg mg dg_)
         have VT_n := VT.other3 (R := R30) (by omega) (.bool pg) (.slice ag ng cg) (.slice bg mg dg_)
         have VY_n := VY.other3 (R := R30) (by omega) (.bool pg) (.slice ag ng cg) (.slice bg mg dg_)
         have VG_n := VG.same (.bool pg) (.slice ag ng cg) (.slice bg mg dg_)
         have Ix_n := Ix.keep hKp
         have Jt_n := Jt.keep hKp
         have Jy_n := Jy.keep hKp
         have g1_n := g1.keep hKp
         have g2_n := g2.keep hKp
         have g3_n := g3.keep hKp
         have g4_n := g4.keep hKp
         have g5_n := g5.keep hKp
         have BB_n := below_store3 (R := R30) BB (by omega) (.bool pg) (.slice ag ng cg) (.slice bg mg dg_)
         clear hKp
         obtain ⟨VG_0,VG_1,VG_2,VG_3,VG_4,VG_5⟩ := id VG
         go_simp
         clear VG_0 VG_1 VG_2 VG_3 VG_4 VG_5
         clear BB Ix Jt Jy g1 g2 g3 g4 g5 VA VT VY VG
         generalize ((w36.setCell ⟨R30,0,none⟩ (.bool pg)).setCell ⟨R30,1,none⟩ (.slice ag ng cg)).setCell ⟨R30,2,none⟩ (.slice bg mg dg_) = W31 at *
         have BB := BB_n
         have Ix := Ix_n
         have Jt := Jt_n
         have Jy := Jy_n
         have g1 := g1_n
         have g2 := g2_n
         have g3 := g3_n
         have g4 := g4_n
         have g5 := g5_n
         have VA := VA_n
         have VT := VT_n
         have VY := VY_n
         have VG := VG_n
         clear BB_n Ix_n Jt_n Jy_n g1_n g2_n g3_n g4_n g5_n VA_n VT_n VY_n VG_n
         refine hK.out _ _ ?_ (fun hH7 => ?_)
         ·exact ⟨VA.1,VA.2.1,VA.2.2.1,VT.1,VT.2.1,VT.2.2.1,VY.1,VY.2.1,VY.2.2.1⟩
         clear hK K hH6
         (try simp only [Act.put,xL4,xL5,xL6])
         refine wpAnyH_done (by kernel_rfl) ?_ _
         clear hH7
         go_wp2_with fail
         go_meet
         exact ⟨R30,pg,ag,ng,cg,bg,mg,dg_,rfl,by omega,VG,g5.le (by omega),BB⟩
        exact AllReadyH.nil
       refine xC (h := fun K hK => ?_) (hs := ?_)
       ·
        go_simp
        have hZ32 : W24.heap.size ≤ w30.heap.size := BB.size
        have hN32VA : w.heap.size ≠ w30.heap.size := Nat.ne_of_lt VA.lt
        have hN32VT : R3 ≠ w30.heap.size := Nat.ne_of_lt VT.lt
        have hN32VY : R24 ≠ w30.heap.size := Nat.ne_of_lt VY.lt
        obtain ⟨W32,hW32,hS32,hL32,VG⟩ := V3.lay w30 38 (.bool false) (.slice none 0 0) (.slice none 0 0)
        replace Ix := Ix.below hL32
        replace Jt := Jt.below hL32
        replace Jy := Jy.below hL32
        replace g1 := g1.below hL32
        replace g2 := g2.below hL32
        replace VA := VA.below hL32
        replace VT := VT.below hL32
        replace VY := VY.below hL32
        replace BB := BB.trans (hL32.mono BB.size)
        clear hL32
        rw [← hW32]
        generalize w30.heap.size = R32 at *
        clear hW32 hS32
        refine hK.out _ _ ?_ (fun hH3 => ?_)
        ·exact ⟨VA.1,VA.2.1,VA.2.2.1,VT.1,VT.2.1,VT.2.2.1,VY.1,VY.2.1,VY.2.2.1⟩
        clear hK K hH2
        (try simp only [Act.put,xL4,xL5,xL6])
        refine xR [5] (h := ?_)
        refine xN (h := fun K hK => ?_)
        go_simp
        refine (jminus_at _ (N : Rat) 253 _ Jy (by omega)).mono ?_
        rintro e w37 ⟨e3,rfl,g3,b37⟩
        go_wp2_with fail
        replace Ix := Ix.below b37
        replace Jt := Jt.below b37
        replace Jy := Jy.below b37
        replace g1 := g1.below b37
        replace g2 := g2.below b37
        replace VA := VA.below b37
        replace VT := VT.below b37
        replace VY := VY.below b37
        replace VG := VG.below b37
        replace BB := BB.trans (b37.mono BB.size)
        clear b37
        refine hK.out _ _ ?_ (fun hH4 => ?_)
        ·exact ⟨VA.1,VA.2.1,VA.2.2.1,VT.1,VT.2.1,VT.2.2.1,VY.1,VY.2.1,VY.2.2.1⟩
        clear hK K hH3
        (try simp only [Act.put,xL4,xL5,xL6])
        refine xR [6] (h := ?_)
        refine xN (h := fun K hK => ?_)
        go_simp
        refine (jplus_at _ _ (q * T) (-(N : Rat)) 5 253 _ g2 g3 (by omega)).mono ?_
        rintro e w38 ⟨e4,rfl,g4,b38⟩
        go_wp2_with fail
        replace Ix := Ix.below b38
        replace Jt := Jt.below b38
        replace Jy := Jy.below b38
        replace g1 := g1.below b38
        replace g2 := g2.below b38
        replace g3 := g3.below b38
        replace VA := VA.below b38
        replace VT := VT.below b38
        replace VY := VY.below b38
        replace VG := VG.below b38
        replace BB := BB.trans (b38.mono BB.size)
        clear b38
        refine hK.out _ _ ?_ (fun hH5 => ?_)
        ·exact ⟨VA.1,VA.2.1,VA.2.2.1,VT.1,VT.2.1,VT.2.2.1,VY.1,VY.2.1,VY.2.2.1⟩
        clear hK K hH4
        (try simp only [Act.put,xL4,xL5,xL6])
        refine xR [7] (h := ?_)
        refine xN (h := fun K hK => ?_)
        go_simp
        refine (jabs_at _ (q * T + -(N : Rat)) 259 _ g4 (by omega)).mono ?_
        rintro e w39 ⟨e5,rfl,g5,b39⟩
        obtain ⟨pg,ag,ng,cg,bg,mg,dg_,rfl⟩ := g5.open
        go_wp2_with fail
        replace Ix := Ix.below b39
        replace Jt := Jt.below b39
        replace Jy := Jy.below b39
        replace g1 := g1.below b39
        replace g2 := g2.below b39
        replace g3 := g3.below b39
        replace g4 := g4.below b39
        replace VA := VA.below b39
        replace VT := VT.below b39
        replace VY := VY.below b39
        replace VG := VG.below b39
        replace BB := BB.trans (b39.mono BB.size)
        clear b39
        refine hK.out _ _ ?_ (fun hH6 => ?_)
        ·exact ⟨VA.1,VA.2.1,VA.2.2.1,VT.1,VT.2.1,VT.2.2.1,VY.1,VY.2.1,VY.2.2.1⟩
        clear hK K hH5
        (try simp only [Act.put,xL4,xL5,xL6])
        refine xR [9] (h := ?_)
        refine xN (h := fun K hK => ?_)
        have hKp := VG.keepJ (.bool pg) (.slice ag ng cg) (.slice bg mg dg_)
        have VA_n := VA.other3 (R := R32) (by omega) (.bool pg) (.slice ag ng cg) (.slice bg mg dg_)
        have VT_n := VT.other3 (R := R32) (by omega) (.bool pg) (.slice ag ng cg) (.slice bg mg dg_)
        have VY_n := VY.other3 (R := R32) (by omega) (.bool pg) (.slice ag ng cg) (.slice bg mg dg_)
        have VG_n := VG.same (.bool pg) (.slice ag ng cg) (.slice bg mg dg_)
        have Ix_n := Ix.keep hKp
        have Jt_n := Jt.keep hKp
        have Jy_n := Jy.keep hKp
        have g1_n := g1.keep hKp
        have g2_n := g2.keep hKp
        have g3_n := g3.keep hKp
        have g4_n := g4.keep hKp
        have g5_n := g5.keep hKp
        have BB_n := below_store3 (R := R32) BB (by omega) (.bool pg) (.slice ag ng cg) (.slice bg mg dg_)
        clear hKp
        obtain ⟨VG_0,VG_1,VG_2,VG_3,VG_4,VG_5⟩ := id VG
        go_simp
        clear VG_0 VG_1 VG_2 VG_3 VG_4 VG_5
        clear BB Ix Jt Jy g1 g2 g3 g4 g5 VA VT VY VG
        generalize ((w39.setCell ⟨R32,0,none⟩ (.bool pg)).setCell ⟨R32,1,none⟩ (.slice ag ng cg)).setCell ⟨R32,2,none⟩ (.slice bg mg dg_) = W33 at *
        have BB := BB_n
        have Ix := Ix_n
        have Jt := Jt_n
        have Jy := Jy_n
        have g1 := g1_n
        have g2 := g2_n
        have g3 := g3_n
        have g4 := g4_n
        have g5 := g5_n
        have VA := VA_n
        have VT := VT_n
        have VY := VY_n
        have VG := VG_n
        clear BB_n Ix_n Jt_n Jy_n g1_n g2_n g3_n g4_n g5_n VA_n VT_n VY_n VG_n
        refine hK.out _ _ ?_ (fun hH7 => ?_)
        ·exact ⟨VA.1,VA.2.1,VA.2.2.1,VT.1,VT.2.1,VT.2.2.1,VY.1,VY.2.1,VY.2.2.1⟩
        clear hK K hH6
        (try simp only [Act.put,xL4,xL5,xL6])
        refine wpAnyH_done (by kernel_rfl) ?_ _
        clear hH7
        go_wp2_with fail
        go_meet
        exact ⟨R32,pg,ag,ng,cg,bg,mg,dg_,rfl,by omega,VG,g5.le (by omega),BB⟩
       exact AllReadyH.nil
      refine xC (h := fun K hK => ?_) (hs := ?_)
      ·
       go_simp
       have hZ34 : W24.heap.size ≤ w29.heap.size := BB.size
       have hN34VA : w.heap.size ≠ w29.heap.size := Nat.ne_of_lt VA.lt
       have hN34VT : R3 ≠ w29.heap.size := Nat.ne_of_lt VT.lt
       have hN34VY : R24 ≠ w29.heap.size := Nat.ne_of_lt VY.lt
       obtain ⟨W34,hW34,hS34,hL34,VG⟩ := V3.lay w29 38 (.bool false) (.slice none 0 0) (.slice none 0 0)
       replace Ix := Ix.below hL34
       replace Jt := Jt.below hL34
       replace Jy := Jy.below hL34
       replace g1 := g1.below hL34
       replace VA := VA.below hL34
       replace VT := VT.below hL34
       replace VY := VY.below hL34
       replace BB := BB.trans (hL34.mono BB.size)
       clear hL34
       rw [← hW34]
       generalize w29.heap.size = R34 at *
       clear hW34 hS34
       refine hK.out _ _ ?_ (fun hH2 => ?_)
       ·exact ⟨VA.1,VA.2.1,VA.2.2.1,VT.1,VT.2.1,VT.2.2.1,VY.1,VY.2.1,VY.2.2.1⟩
       clear hK K hH1
       (try simp only [Act.put,xL4,xL5,xL6])
       refine xR [3] (h := ?_)
       refine xN (h := fun K hK => ?_)
       go_simp
       refine (jtimes_at _ _ q T 2 3 _ g1 Jt (by omega)).mono ?_
       rintro e w40 ⟨e2,rfl,g2,b40⟩
       go_wp2_with fail
       replace Ix := Ix.below b40
       replace Jt := Jt.below b40
       replace Jy := Jy.below b40
       replace g1 := g1.below b40
       replace VA := VA.below b40
       replace VT := VT.below b40
       replace VY := VY.below b40
       replace VG := VG.below b40
       replace BB := BB.trans (b40.mono BB.size)
       clear b40
       refine hK.out _ _ ?_ (fun hH3 => ?_)
       ·exact ⟨VA.1,VA.2.1,VA.2.2.1,VT.1,VT.2.1,VT.2.2.1,VY.1,VY.2.1,VY.2.2.1⟩
       clear hK K hH2
       (try simp only [Act.put,xL4,xL5,xL6])
       refine xR [5] (h := ?_)
       refine xN (h := fun K hK => ?_)
       go_simp
       refine (jminus_at _ (N : Rat) 253 _ Jy (by omega)).mono ?_
       rintro e w41 ⟨e3,rfl,g3,b41⟩
       go_wp2_with fail
       replace Ix := Ix.below b41
       replace Jt := Jt.below b41
       replace Jy := Jy.below b41
       replace g1 := g1.below b41
       replace g2 := g2.below b41
       replace VA := VA.below b41
       replace VT := VT.below b41
       replace VY := VY.below b41
       replace VG := VG.below b41
       replace BB := BB.trans (b41.mono BB.size)
       clear b41
       refine hK.out _ _ ?_ (fun hH4 => ?_)
       ·exact ⟨VA.1,VA.2.1,VA.2.2.1,VT.1,VT.2.1,VT.2.2.1,VY.1,VY.2.1,VY.2.2.1⟩
       clear hK K hH3
       (try simp only [Act.put,xL4,xL5,xL6])
       refine xR [6] (h := ?_)
       refine xN (h := fun K hK => ?_)
       go_simp
       refine (jplus_at _ _ (q * T) (-(N : Rat)) 5 253 _ g2 g3 (by omega)).mono ?_
       rintro e w42 ⟨e4,rfl,g4,b42⟩
       go_wp2_with fail
       replace Ix := Ix.below b42
       replace Jt := Jt.below b42
       replace Jy := Jy.below b42
       replace g1 := g1.below b42
       replace g2 := g2.below b42
       replace g3 := g3.below b42
       replace VA := VA.below b42
       replace VT := VT.below b42
       replace VY := VY.below b42
       replace VG := VG.below b42
       replace BB := BB.trans (b42.mono BB.size)
       clear b42
       refine hK.out _ _ ?_ (fun hH5 => ?_)
       ·exact ⟨VA.1,VA.2.1,VA.2.2.1,VT.1,VT.2.1,VT.2.2.1,VY.1,VY.2.1,VY.2.2.1⟩
       clear hK K hH4
       (try simp only [Act.put,xL4,xL5,xL6])
       refine xR [7] (h := ?_)
       refine xN (h := fun K hK => ?_)
       go_simp
       refine (jabs_at _ (q * T + -(N : Rat)) 259 _ g4 (by omega)).mono ?_
       rintro e w43 ⟨e5,rfl,g5,b43⟩
       obtain ⟨pg,ag,ng,cg,bg,mg,dg_,rfl⟩ := g5.open
       go_wp2_with fail
       replace Ix := Ix.below b43
       replace Jt := Jt.below b43
       replace Jy := Jy.below b43
       replace g1 := g1.below b43
       replace g2 := g2.below b43
       replace g3 := g3.below b43
       replace g4 := g4.below b43
       replace VA := VA.below b43
       replace VT := VT.below b43
       replace VY := VY.below b43
       replace VG := VG.below b43
       replace BB := BB.trans (b43.mono BB.size)
       clear b43
       refine hK.out _ _ ?_ (fun hH6 => ?_)
       ·exact ⟨VA.1,VA.2.1,VA.2.2.1,VT.1,VT.2.1,VT.2.2.1,VY.1,VY.2.1,VY.2.2.1⟩
       clear hK K hH5
       (try simp only [Act.put,xL4,xL5,xL6])
       refine xR [9] (h := ?_)
       refine xN (h := fun K hK => ?_)
       have hKp := VG.keepJ (.bool pg) (.slice ag ng cg) (.slice bg mg dg_)
       have VA_n := VA.other3 (R := R34) (by omega) (.bool pg) (.slice ag ng cg) (.slice bg mg dg_)
       have VT_n := VT.other3 (R := R34) (by omega) (.bool pg) (.slice ag ng cg) (.slice bg mg dg_)
       have VY_n := VY.other3 (R := R34) (by omega) (.bool pg) (.slice ag ng cg) (.slice bg mg dg_)
       have VG_n := VG.same (.bool pg) (.slice ag ng cg) (.slice bg mg dg_)
       have Ix_n := Ix.keep hKp
       have Jt_n := Jt.keep hKp
       have Jy_n := Jy.keep hKp
       have g1_n := g1.keep hKp
       have g2_n := g2.keep hKp
       have g3_n := g3.keep hKp
       have g4_n := g4.keep hKp
       have g5_n := g5.keep hKp
       have BB_n := below_store3 (R := R34) BB (by omega) (.bool pg) (.slice ag ng cg) (.slice bg mg dg_)
       clear hKp
       obtain ⟨VG_0,VG_1,VG_2,VG_3,VG_4,VG_5⟩ := id VG
       go_simp
       clear VG_0 VG_1 VG_2 VG_3 VG_4 VG_5
       clear BB Ix Jt Jy g1 g2 g3 g4 g5 VA VT VY VG
       generalize ((w43.setCell ⟨R34,0,none⟩ (.bool pg)).setCell ⟨R34,1,none⟩ (.slice ag ng cg)).setCell ⟨R34,2,none⟩ (.slice bg mg dg_) = W35 at *
       have BB := BB_n
       have Ix := Ix_n
       have Jt := Jt_n
       have Jy := Jy_n
       have g1 := g1_n
       have g2 := g2_n
       have g3 := g3_n
       have g4 := g4_n
       have g5 := g5_n
       have VA := VA_n
       have VT := VT_n
       have VY := VY_n
       have VG := VG_n
       clear BB_n Ix_n Jt_n Jy_n g1_n g2_n g3_n g4_n g5_n VA_n VT_n VY_n VG_n
       refine hK.out _ _ ?_ (fun hH7 => ?_)
       ·exact ⟨VA.1,VA.2.1,VA.2.2.1,VT.1,VT.2.1,VT.2.2.1,VY.1,VY.2.1,VY.2.2.1⟩
       clear hK K hH6
       (try simp only [Act.put,xL4,xL5,xL6])
       refine wpAnyH_done (by kernel_rfl) ?_ _
       clear hH7
       go_wp2_with fail
       go_meet
       exact ⟨R34,pg,ag,ng,cg,bg,mg,dg_,rfl,by omega,VG,g5.le (by omega),BB⟩
      exact AllReadyH.nil
     refine xC (h := fun K hK => ?_) (hs := ?_)
     ·
      go_simp
      have hZ36 : W24.heap.size ≤ W25.heap.size := BB.size
      have hN36VA : w.heap.size ≠ W25.heap.size := Nat.ne_of_lt VA.lt
      have hN36VT : R3 ≠ W25.heap.size := Nat.ne_of_lt VT.lt
      have hN36VY : R24 ≠ W25.heap.size := Nat.ne_of_lt VY.lt
      obtain ⟨W36,hW36,hS36,hL36,VG⟩ := V3.lay W25 38 (.bool false) (.slice none 0 0) (.slice none 0 0)
      replace Ix := Ix.below hL36
      replace Jt := Jt.below hL36
      replace Jy := Jy.below hL36
      replace VA := VA.below hL36
      replace VT := VT.below hL36
      replace VY := VY.below hL36
      replace BB := BB.trans (hL36.mono BB.size)
      clear hL36
      rw [← hW36]
      generalize W25.heap.size = R36 at *
      clear hW36 hS36
      refine hK.out _ _ ?_ (fun hH1 => ?_)
      ·exact ⟨VA.1,VA.2.1,VA.2.2.1,VT.1,VT.2.1,VT.2.2.1,VY.1,VY.2.1,VY.2.2.1⟩
      clear hK K hHeld
      (try simp only [Act.put,xL4,xL5,xL6])
      refine xR [1] (h := ?_)
      refine xN (h := fun K hK => ?_)
      go_simp
      refine (jfrom_at _ q 2 _ Ix (by omega) (by omega)).mono ?_
      rintro e w44 ⟨e1,rfl,g1,b44⟩
      go_wp2_with fail
      replace Ix := Ix.below b44
      replace Jt := Jt.below b44
      replace Jy := Jy.below b44
      replace VA := VA.below b44
      replace VT := VT.below b44
      replace VY := VY.below b44
      replace VG := VG.below b44
      replace BB := BB.trans (b44.mono BB.size)
      clear b44
      refine hK.out _ _ ?_ (fun hH2 => ?_)
      ·exact ⟨VA.1,VA.2.1,VA.2.2.1,VT.1,VT.2.1,VT.2.2.1,VY.1,VY.2.1,VY.2.2.1⟩
      clear hK K hH1
      (try simp only [Act.put,xL4,xL5,xL6])
      refine xR [3] (h := ?_)
      refine xN (h := fun K hK => ?_)
      go_simp
      refine (jtimes_at _ _ q T 2 3 _ g1 Jt (by omega)).mono ?_
      rintro e w45 ⟨e2,rfl,g2,b45⟩
      go_wp2_with fail
      replace Ix := Ix.below b45
      replace Jt := Jt.below b45
      replace Jy := Jy.below b45
      replace g1 := g1.below b45
      replace VA := VA.below b45
      replace VT := VT.below b45
      replace VY := VY.below b45
      replace VG := VG.below b45
      replace BB := BB.trans (b45.mono BB.size)
      clear b45
      refine hK.out _ _ ?_ (fun hH3 => ?_)
      ·exact ⟨VA.1,VA.2.1,VA.2.2.1,VT.1,VT.2.1,VT.2.2.1,VY.1,VY.2.1,VY.2.2.1⟩
      clear hK K hH2
      (try simp only [Act.put,xL4,xL5,xL6])
      refine xR [5] (h := ?_)
      refine xN (h := fun K hK => ?_)
      go_simp
      refine (jminus_at _ (N : Rat) 253 _ Jy (by omega)).mono ?_
      rintro e w46 ⟨e3,rfl,g3,b46⟩
      go_wp2_with fail
      replace Ix := Ix.below b46
      replace Jt := Jt.below b46
      replace Jy := Jy.below b46
      replace g1 := g1.below b46
      replace g2 := g2.below b46
      replace VA := VA.below b46
      replace VT := VT.below b46
      replace VY := VY.below b46
      replace VG := VG.below b46
      replace BB := BB.trans (b46.mono BB.size)
      clear b46
      refine hK.out _ _ ?_ (fun hH4 => ?_)
      ·exact ⟨VA.1,VA.2.1,VA.2.2.1,VT.1,VT.2.1,VT.2.2.1,VY.1,VY.2.1,VY.2.2.1⟩
      clear hK K hH3
      (try simp only [Act.put,xL4,xL5,xL6])
      refine xR [6] (h := ?_)
      refine xN (h := fun K hK => ?_)
      go_simp
      refine (jplus_at _ _ (q * T) (-(N : Rat)) 5 253 _ g2 g3 (by omega)).mono ?_
      rintro e w47 ⟨e4,rfl,g4,b47⟩
      go_wp2_with fail
      replace Ix := Ix.below b47
      replace Jt := Jt.below b47
      replace Jy := Jy.below b47
      replace g1 := g1.below b47
      replace g2 := g2.below b47
      replace g3 := g3.below b47
      replace VA := VA.below b47
      replace VT := VT.below b47
      replace VY := VY.below b47
      replace VG := VG.below b47
      replace BB := BB.trans (b47.mono BB.size)
      clear b47
      refine hK.out _ _ ?_ (fun hH5 => ?_)
      ·exact ⟨VA.1,VA.2.1,VA.2.2.1,VT.1,VT.2.1,VT.2.2.1,VY.1,VY.2.1,VY.2.2.1⟩
      clear hK K hH4
      (try simp only [Act.put,xL4,xL5,xL6])
      refine xR [7] (h := ?_)
      refine xN (h := fun K hK => ?_)
      go_simp
      refine (jabs_at _ (q * T + -(N : Rat)) 259 _ g4 (by omega)).mono ?_
      rintro e w48 ⟨e5,rfl,g5,b48⟩
      obtain ⟨pg,ag,ng,cg,bg,mg,dg_,rfl⟩ := g5.open
      go_wp2_with fail
      replace Ix := Ix.below b48
      replace Jt := Jt.below b48
      replace Jy := Jy.below b48
      replace g1 := g1.below b48
      replace g2 := g2.below b48
      replace g3 := g3.below b48
      replace g4 := g4.below b48
      replace VA := VA.below b48
      replace VT := VT.below b48
      replace VY := VY.below b48
      replace VG := VG.below b48
      replace BB := BB.trans (b48.mono BB.size)
      clear b48
      refine hK.out _ _ ?_ (fun hH6 => ?_)
      ·exact ⟨VA.1,VA.2.1,VA.2.2.1,VT.1,VT.2.1,VT.2.2.1,VY.1,VY.2.1,VY.2.2.1⟩
      clear hK K hH5
      (try simp only [Act.put,xL4,xL5,xL6])
      refine xR [9] (h := ?_)
      refine xN (h := fun K hK => ?_)
      have hKp := VG.keepJ (.bool pg) (.slice ag ng cg) (.slice bg mg dg_)
      have VA_n := VA.other3 (R := R36) (by omega) (.bool pg) (.slice ag ng cg) (.slice bg mg dg_)
      have VT_n := VT.other3 (R := R36) (by omega) (.bool pg) (.slice ag ng cg) (.slice bg mg dg_)
      have VY_n := VY.other3 (R := R36) (by omega) (.bool pg) (.slice ag ng cg) (.slice bg mg dg_)
      have VG_n := VG.same (.bool pg) (.slice ag ng cg) (.slice bg mg dg_)
      have Ix_n := Ix.keep hKp
      have Jt_n := Jt.keep hKp
      have Jy_n := Jy.keep hKp
      have g1_n := g1.keep hKp
      have g2_n := g2.keep hKp
      have g3_n := g3.keep hKp
      have g4_n := g4.keep hKp
      have g5_n := g5.keep hKp
      have BB_n := below_store3 (R := R36) BB (by omega) (.bool pg) (.slice ag ng cg) (.slice bg mg dg_)
      clear hKp
      obtain ⟨VG_0,VG_1,VG_2,VG_3,VG_4,VG_5⟩ := id VG
      go_simp
      clear VG_0 VG_1 VG_2 VG_3 VG_4 VG_5
      clear BB Ix Jt Jy g1 g2 g3 g4 g5 VA VT VY VG
      generalize ((w48.setCell ⟨R36,0,none⟩ (.bool pg)).setCell ⟨R36,1,none⟩ (.slice ag ng cg)).setCell ⟨R36,2,none⟩ (.slice bg mg dg_) = W37 at *
      have BB := BB_n
      have Ix := Ix_n
      have Jt := Jt_n
      have Jy := Jy_n
      have g1 := g1_n
      have g2 := g2_n
      have g3 := g3_n
      have g4 := g4_n
      have g5 := g5_n
      have VA := VA_n
      have VT := VT_n
      have VY := VY_n
      have VG := VG_n
      clear BB_n Ix_n Jt_n Jy_n g1_n g2_n g3_n g4_n g5_n VA_n VT_n VY_n VG_n
      refine hK.out _ _ ?_ (fun hH7 => ?_)
      ·exact ⟨VA.1,VA.2.1,VA.2.2.1,VT.1,VT.2.1,VT.2.2.1,VY.1,VY.2.1,VY.2.2.1⟩
      clear hK K hH6
      (try simp only [Act.put,xL4,xL5,xL6])
      refine wpAnyH_done (by kernel_rfl) ?_ _
      clear hH7
      go_wp2_with fail
      go_meet
      exact ⟨R36,pg,ag,ng,cg,bg,mg,dg_,rfl,by omega,VG,g5.le (by omega),BB⟩
     exact AllReadyH.nil
    case rest =>
     obtain ⟨RG,pg,ag,ng,cg,bg,mg,dg_,rfl,hRG,VG,JG,hbW⟩ := hcut
     have hlVA : w.heap.size < W24.heap.size := VA.lt
     have hlVT : R3 < W24.heap.size := VT.lt
     have hlVY : R24 < W24.heap.size := VY.lt
     replace ht := ht.below hbW
     replace Ix := Ix.below hbW
     replace Jt := Jt.below hbW
     replace Jy := Jy.below hbW
     replace VA := VA.below hbW
     replace VT := VT.below hbW
     replace VY := VY.below hbW
     replace BB := BB.trans (hbW.mono BB.size)
     clear hbW
     obtain ⟨g0,g1,g2⟩ := id HNR.out
     obtain ⟨a1,a2⟩ := abs_near _ g0 g1
     have HG2 : Hid _ := g2
     have HA2 : Hid _ := a2
     clear g0 g1 g2 a2 HNR
     generalize hoo : cmpQ (absQ (q * T + -(N : Rat))) (mkRat 1 2) = o at *
     go_wp2
     have hDr : Below wc.heap.size wc wc.drew := (Below.refl _ _).drew
     replace ht := ht.below hDr
     replace Ix := Ix.below hDr
     replace Jt := Jt.below hDr
     replace Jy := Jy.below hDr
     replace JG := JG.below hDr
     replace VA := VA.below hDr
     replace VT := VT.below hDr
     replace VY := VY.below hDr
     replace VG := VG.below hDr
     replace BB := BB.trans (hDr.mono BB.size)
     clear hDr
     refine wp_region_held_drew (S := (fun w' => w'.cell? ⟨RG,0,none⟩ = some (.bool pg) ∧ w'.cell? ⟨RG,1,none⟩ = some (.slice ag ng cg) ∧ w'.cell? ⟨RG,2,none⟩ = some (.slice bg mg dg_))) (by kernel_rfl) ?_ (fun hHeld => ?_)
     ·exact ⟨VG.1,VG.2.1,VG.2.2.1⟩
     generalize wc.drew = W38 at *
     refine xT 0 (v := ?_) (hy := Or.inl ⟨by rfl,?_⟩) (h := ?_)
     rotate_left
     ·(intro w hSw; (try dsimp only at hSw); go_simp; (try with_reducible rfl))
     (try simp only [Act.put,xL4,xL5,xL6])
     refine xR [1] (h := ?_)
     refine xN (h := fun K hK => ?_)
     go_simp
     refine (jsmall_at 1 2 _ (by omega) (by omega) (by omega) (by omega)).mono ?_
     rintro e w49 ⟨t0,rfl,h0,b49⟩
     go_wp2_with fail
     replace ht := ht.below b49
     replace Ix := Ix.below b49
     replace Jt := Jt.below b49
     replace Jy := Jy.below b49
     replace JG := JG.below b49
     replace VA := VA.below b49
     replace VT := VT.below b49
     replace VY := VY.below b49
     replace VG := VG.below b49
     replace BB := BB.trans (b49.mono BB.size)
     clear b49
     refine hK.out _ _ ?_ (fun hH1 => ?_)
     ·exact ⟨VG.1,VG.2.1,VG.2.2.1⟩
     clear hK K hHeld
     (try simp only [Act.put,xL4,xL5,xL6])
     refine xR [2] (h := ?_)
     refine xN (h := fun K hK => ?_)
     go_simp
     refine (jorder_at _ _ (absQ (q * T + -(N : Rat))) (mkRat 1 2) 300 2 _ JG h0 (by omega)).mono ?_
     rintro e w50 ⟨rfl,b50⟩
     rw [hoo]
     go_wp2_with fail
     replace ht := ht.below b50
     replace Ix := Ix.below b50
     replace Jt := Jt.below b50
     replace Jy := Jy.below b50
     replace JG := JG.below b50
     replace h0 := h0.below b50
     replace VA := VA.below b50
     replace VT := VT.below b50
     replace VY := VY.below b50
     replace VG := VG.below b50
     replace BB := BB.trans (b50.mono BB.size)
     clear b50
     refine hK.out _ _ ?_ (fun hH2 => ?_)
     ·exact ⟨VG.1,VG.2.1,VG.2.2.1⟩
     clear hK K hH1
     (try simp only [Act.put,xL4,xL5,xL6])
     refine xT 3 (v := ?_) (hy := Or.inl ⟨by rfl,?_⟩) (h := ?_)
     rotate_left
     ·(intro w hSw; (try dsimp only at hSw); go_simp; (try with_reducible rfl))
     (try simp only [Act.put,xL4,xL5,xL6])
     refine wpAnyH_done (by kernel_rfl) ?_ _
     clear hH2
     clear h0 JG Ix Jt
     clear VG VA VT hoo
     have HFL : Hid ((N : Rat).floor = N) := Rat.floor_intCast N
     have lN2 : nl W32 N.natAbs ≤ 1000 := by omega
     have l5 : nl W32 ((2 : Int)).natAbs ≤ 1000 := Nat.le_trans ((nl_two 2).2 (by omega)) (by omega)
     obtain ⟨VY_0,VY_1,VY_2,VY_3,VY_4,VY_5⟩ := id VY
     go_wp2_with fail
     clear VY_0 VY_1 VY_2 VY_3 VY_4 VY_5
     refine (jfloor_at _ (N : Rat) 253 _ Jy (by omega)).mono ?_
     rintro e w51 ⟨vf,rfl,Jf,b51⟩
     replace ht := ht.below b51
     replace Jy := Jy.below b51
     replace VY := VY.below b51
     replace BB := BB.trans (b51.mono BB.size)
     clear b51
     rw [HFL.out] at Jf
     go_wp2_with fail
     refine (rsmall_any 2 _ (by omega) (by omega)).mono ?_
     rintro e w52 ⟨v2,rfl,J2,b52⟩
     replace ht := ht.below b52
     replace Jy := Jy.below b52
     replace Jf := Jf.below b52
     replace VY := VY.below b52
     replace BB := BB.trans (b52.mono BB.size)
     clear b52
     go_wp2_with fail
     refine (rover_any _ _ N 2 _ Jf J2 (by omega) lN2 l5).mono ?_
     rintro e w53 ⟨v3,v4,rfl,J3,J4,b53⟩
     replace ht := ht.below b53
     replace Jy := Jy.below b53
     replace Jf := Jf.below b53
     replace J2 := J2.below b53
     replace VY := VY.below b53
     replace BB := BB.trans (b53.mono BB.size)
     clear b53
     obtain ⟨p3,a3,n3,c3,rfl⟩ := J3.open
     obtain ⟨p4,a4,n4,c4,rfl⟩ := J4.open
     clear J3
     clear Jf J2 Jy
     clear VY
     by_cases ho : o < 0
     ·clear HG2 HA2
      clear J4
      have hZ39 : w.heap.size ≤ w53.heap.size := BB.size
      obtain ⟨W40,hW40,hS40,hL40,VO⟩ := V2.lay w53 36 (.bool p3) (.slice a3 n3 c3)
      replace ht := ht.below hL40
      replace BB := BB.trans (hL40.mono BB.size)
      clear hL40
      obtain ⟨W41,hW41,hS41,hL41,VD⟩ := V2.lay W40 36 (.bool p4) (.slice a4 n4 c4)
      replace ht := ht.below hL41
      replace VO := VO.below hL41
      replace BB := BB.trans (hL41.mono BB.size)
      clear hL41
      rw [hS40] at VD
      go_wp2_with fail
      rw [← hW40]
      rw [← hW41]
      generalize w53.heap.size = R39 at *
      clear hW40 hS40 hW41 hS41
      refine (qawake_at _ ht).mono ?_
      rintro e w54 ⟨rfl,b54⟩
      replace ht := ht.below b54
      replace VO := VO.below b54
      replace VD := VD.below b54
      replace BB := BB.trans (b54.mono BB.size)
      clear b54
      go_wp2
      go_ret
      exact ⟨rfl,BB⟩
     ·have hev : N % 2 = 0 := HG2.out (HA2.out (by omega))
      obtain rfl : o = 0 := by omega
      obtain rfl : n4 = 0 := fmod_len J4 hev
      clear hev ho a1
      clear HG2 HA2
      clear J4
      have hZ39 : w.heap.size ≤ w53.heap.size := BB.size
      obtain ⟨W40,hW40,hS40,hL40,VO⟩ := V2.lay w53 36 (.bool p3) (.slice a3 n3 c3)
      replace ht := ht.below hL40
      replace BB := BB.trans (hL40.mono BB.size)
      clear hL40
      obtain ⟨W41,hW41,hS41,hL41,VD⟩ := V2.lay W40 36 (.bool p4) (.slice a4 0 c4)
      replace ht := ht.below hL41
      replace VO := VO.below hL41
      replace BB := BB.trans (hL41.mono BB.size)
      clear hL41
      rw [hS40] at VD
      go_wp2_with fail
      rw [← hW40]
      rw [← hW41]
      generalize w53.heap.size = R39 at *
      clear hW40 hS40 hW41 hS41
      refine (qawake_at _ ht).mono ?_
      rintro e w54 ⟨rfl,b54⟩
      replace ht := ht.below b54
      replace VO := VO.below b54
      replace VD := VD.below b54
      replace BB := BB.trans (b54.mono BB.size)
      clear b54
      go_wp2
      go_ret
      exact ⟨rfl,BB⟩

theorem own : ownKnob Tryz.prog.godebug = none := by kernel_rfl
theorem laidOut : laidOutB Tryz.prog = true := by kernel_rfl

abbrev laid1 : List (String × DataW Unit) := [("math/bits.deBruijn64tab",Rows.laid_math_bits_deBruijn64tab)]
theorem gTab : Tryz.prog.globalNamed "math/bits.deBruijn64tab" = some 1 := by kernel_rfl
theorem gTabType : (Tryz.prog.globals[1]?).map (·.type) = some 190 := by kernel_rfl
theorem uTab : Tryz.prog.underlying 190 = some (.array 64 5) := by kernel_rfl
theorem uCell : Tryz.prog.underlying 5 = some (.int .u8) := by kernel_rfl
theorem cCell : Tryz.prog.cellsOf 5 = 1 := by kernel_rfl
theorem cTab : Tryz.prog.cellsOf 190 = 64 := by kernel_rfl
/-- The listed table lies in its cells. -/
theorem tab_of {W : World} (h : laidMetH Tryz.prog laid1 W) : Tab W := by
 rw [MakeChecks.laidMetH_plain _ _ _ (by kernel_rfl)] at h
 have hd : laid1 = [("math/bits.deBruijn64tab",Lib.tabData .u8 (Lib.deBruijn64tab.map fun (n : Nat) => Int.ofNat n))] := rfl
 rw [hd] at h
 have hT := Lib.tabIs_of_head gTab gTabType uTab uCell cCell cTab h
 intro i hi
 have hc := hT.cell gTab i (by rw [List.length_map]; exact hi)
 rw [hc]
 congr 2
 rw [List.getD_eq_getElem?_getD,List.getElem?_map,List.getD_eq_getElem?_getD]
 cases Lib.deBruijn64tab[i]? <;> rfl
/-- A start for the witness: the heap that the run of the program's own initialisers leaves. -/
noncomputable def startW (os : Os) : World := { World.holding Tryz.prog os ⟨#[],#[],[]⟩ with heap := (varsWorld Tryz.prog 400 (varsId Tryz.prog) os (fun _ _ => 0)).heap }
theorem start_met (os : Os) (args : Array Value) : laidMetH Tryz.prog laid1 ((startW os).forCall (fun _ _ => 0) ⟨#[],args,[]⟩).memory :=
 laidMetH_of_parts3 (fuel := 8) (laidMet_of_run' 8 (by kernel_rfl) (by kernel_rfl)) (by kernel_rfl) (by kernel_rfl)

set_option maxRecDepth 100000 in
theorem lifted (os : Os) (started : os.Started) (H : Type) (enc : TypeId × Value → H) :
  ReturnsInHanded {} Tryz.checked os 3 .any (fun w args => (Rows.ratioDecimalsSpec.pre enc Tryz.prog Tryz.f3 [] false w args ∧ laidMetH Tryz.prog laid1 w) ∧ sizedMet enc Tryz.prog Tryz.f3 (OpenSpec.ofChange Rows.ratioDecimalsSpec) false w args) (Rows.ratioDecimalsSpec.post enc Tryz.prog Tryz.f3 false true false false) := by
 refine returnsInHanded_of_change_and (C := Tryz.checked) (X := fun w _ => laidMetH Tryz.prog laid1 w) (fun _ _ _ hh h => h.of_heap hh) own started (by kernel_rfl) Tryz.func3
  (ChangeSpec.witness_shaped (enc := enc) (C := Tryz.checked) (os := os) (X := fun w _ => laidMetH Tryz.prog laid1 w) false (startW os) #[.agg #[.bool false,.slice none 0 0,.slice none 0 0],.int .i64 0] 8 rfl (World.shaped_of_RefB (by kernel_rfl) (by kernel_rfl)) (by kernel_rfl) (by kernel_rfl) (by kernel_rfl) (start_met os _)) ?_
 intro W base args ds gs before hval0 hW _ _ hL _
 have hval : ∀ (j : Nat) t v,Tryz.f3.params[j]? = some t → args[j]? = some v → Value.okWide Tryz.prog W .any base t v := hval0
 have hW' := hW
 obtain ⟨p,q,hA0,hV,rfl,hfz,hnd⟩ := hW
 have hA : DataW.TrodAll enc Tryz.prog W 0 (fun _ => true) true Tryz.f3.params.toList args.toList ds p := hA0
 rw [Tryz.params3] at hA hval
 obtain ⟨v0,vs0,d0,ds0,p0,q0,hargs,rfl,rfl,h0,r0⟩ := trodAll_cons hA
 obtain ⟨v1,vs1,d1,ds1,p1,q1,rfl,rfl,rfl,h1,r1⟩ := trodAll_cons r0
 obtain ⟨rfl,rfl,rfl⟩ := trodAll_nil r1
 obtain rfl : args = #[v0,v1] := by cases args; simp_all
 obtain ⟨rfl,rfl⟩ := trodVars_none hV
 have k0 := h0
 have lt0 : ∀ x ∈ p0,x.block < W.heap.size := by obtain ⟨m,hm⟩ := k0; exact DataW.trod_lt m _ _ _ hm
 obtain ⟨neg0,ao0,n0,c0,bo0,m0,d0,f0,g0,rfl,w0,x0⟩ := open_wrat (hval 0 27 v0 rfl rfl) h0
 obtain ⟨a1,rfl,rfl,rfl,w1⟩ := open_int Tryz.underlying3 (hval 1 3 v1 rfl rfl) h1
 clear hA0 hval0
 refine (walk _ _ _ _ _ _ _ _ _ a1 W w0 x0 w1 (tab_of hL)).mono fun e W' ⟨he,bel⟩ => ?_
 subst he
 exact ⟨_,rfl,_,_,_,[],_,[],hW',trodAll_mk1 (shut_bool Tryz.underlying4 _),(trodAll_cons_mk (Below.trod laidOut (by kernel_rfl) (of_decide_eq_true (by kernel_rfl)) k0 bel lt0) (trodAll_cons_mk (shut_int Tryz.underlying3 w1) trodAll_mk0)),rfl,bel.frame _,fun h => by cases h⟩

theorem over : Rows.ratioDecimalsRow.holds Tryz.pinned (OpenSpec.ofChange Rows.ratioDecimalsSpec) :=
 OpenClaim.holds_of_wide 3 Tryz.f3 rfl rfl rfl rfl rfl rfl rfl ⟨rfl,rfl,rfl,rfl,rfl⟩ rfl rfl rfl rfl rfl (by kernel_rfl) Tryz.func3 (by kernel_rfl)
  (of_decide_eq_true (by kernel_rfl)) (by unfold Func.isWrapper; first | (rw [if_pos (by decide +kernel)]; kernel_rfl) | (rw [if_neg (by decide +kernel)]; exact ⟨rfl,rfl⟩))
  (fun os started H enc _ => lifted os started H enc)

end Go.Proofs.YtmbmboiefhmfmaaGreatDoor.ratioDecimals
namespace Go.Proofs.YtmbmboiefhmfmaaGreatDoor
/-- The statement: the row, tied to the text of the program. -/
theorem ratioDecimals_holds : Rows.RatioDecimalsCardSaid :=
 Claim7.holds_tied_plain_at .later [] [.data] true (true,"eccea4b1585cbee0c04a22ce75d490ac6561d8be7ec591fce5aaaf7d19f2813c") false
  ratioDecimals.over (fun _ h => by cases h) (by kernel_rfl) (fun _ h => by cases h) ratioDecimals_row_tie rfl ⟨rfl,rfl⟩ (by kernel_rfl) rfl
  (fun f fn hf hfn => by
   obtain rfl : f = 3 := Option.some.inj ((show Tryz.prog.funcNamed "dendron/dendronlaw03.RatioDecimals" = some 3 by kernel_rfl).symm.trans hf) |>.symm
   obtain rfl : fn = Tryz.f3 := (Option.some.inj (Tryz.func3.symm.trans hfn)).symm
   exact ⟨by kernel_rfl,fun j t ht => by
    rw [Tryz.params3] at ht
    have hm : t ∈ [27,3] := by simpa using Array.mem_of_getElem? ht
    have hall : ([27,3].all fun u => !Tryz.prog.wantsStandIn u) = true := by kernel_rfl
    exact (show Tryz.prog.wantsStandIn t = false by simpa using List.all_eq_true.1 hall t hm)⟩)
  (by kernel_rfl)
end Go.Proofs.YtmbmboiefhmfmaaGreatDoor
