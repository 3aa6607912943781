/-
  Texts of mine, joined: what lies beneath the statement.
-/
import Derived.Test.YthlogenaienkhaaGreatDoorJc72f71b925
import Derived.Test.YthlogenaienkhaaGreatDoorJa9f114c2c5
import Derived.Test.YthlogenaienkhaaGreatDoorJfa82818505
/-
 Powers of rational numbers.
-/
namespace Go.Proofs.YthlogenaienkhaaGreatDoor
open Go.RowKit
set_option linter.unusedVariables false
set_option linter.unusedSimpArgs false

theorem npow_at (v : Value) (x L k : Nat) (w : World) (hv : NatAt w v x L) (hL : L ≤ 40) (hk : k ≤ 4096) :
  Calls Tryz.prog 99 #[v,.int .i64 (k : Int)] w fun e w' => ∃ r,e = .returned (.tuple #[r,.int .i64 0]) ∧ Rep w' r (x ^ k) ∧ Below w.heap.size w w' := by
 obtain ⟨n,f,h1,h2,rfl,h4⟩ := hv
 refine (pow_ok v n k f w h1 h2 (by omega) hk).mono ?_
 rintro e w1 ⟨r,rfl,hr,hb⟩
 exact ⟨r,rfl,hr.rep,hb⟩
theorem qsz_pow (q : Rat) (L : Nat) (hL : 1 ≤ L) (h : qsz q ≤ L) : ∀ k,qsz (q ^ k) ≤ L * k + 1
 | 0 => by
  have : qsz (1 : Rat) ≤ 1 := qsz_int 1 (by decide) (by omega)
  rw [Rat.pow_zero]; omega
 | k + 1 => by
  rw [Rat.pow_succ]
  have := qsz_mul _ _ (qsz_pow q L hL h k) h
  rw [Nat.mul_succ]; omega


set_option maxRecDepth 20000 in
set_option maxHeartbeats 1000000 in
theorem qpower_at (v : Value) (q : Rat) (k : Nat) (w : World) (hv : RepQ w v q) (hs : qsz q ≤ 40) (hk : k ≤ 4096) :
  Calls Tryz.prog 52 #[v,.int .i64 (k : Int)] w fun e w' => ∃ r,e = .returned r ∧ RepQ w' r (q ^ k) ∧ Below w.heap.size w w' := by
 obtain ⟨p,ao,n,c,bo,m,d,rfl,hz,hx⟩ := hv
 have l1 : nl W32 q.num.natAbs ≤ 40 := Nat.le_trans (Nat.le_max_left _ _) hs
 have l2 : nl W32 q.den ≤ 40 := Nat.le_trans (Nat.le_max_right _ _) hs
 have BB : Below w.heap.size w w := Below.refl _ _
 obtain ⟨Wb0,hW0,hS0,hL0,VA⟩ := V3.lay w 35 (.bool p) (.slice ao n c) (.slice bo m d)
 replace hz := hz.below hL0
 replace hx := hx.below hL0
 replace BB := BB.trans (hL0.mono BB.size)
 clear hL0
 obtain ⟨Wb1,hW1,hS1,hL1,VR⟩ := V3.lay Wb0 35 (.bool false) (.slice none 0 0) (.slice none 0 0)
 rw [hS0] at VR hS1
 replace hz := hz.below hL1
 replace hx := hx.below hL1
 replace VA := VA.below hL1
 replace BB := BB.trans (hL1.mono BB.size)
 clear hL1
 go_enter Tryz.func52,Tryz.ntmps52
 go_wp2_with fail
 rw [← hW0]
 rw [← hW1]
 clear hW0 hW1 hS0 hS1
 refine (wpow_any _ q.num 40 k _ (hz.at 40 l1) (by omega) hk).mono ?_
 rintro e w1 ⟨r1,rfl,h1,b1⟩
 replace hz := hz.below b1
 replace hx := hx.below b1
 replace VA := VA.below b1
 replace VR := VR.below b1
 replace BB := BB.trans (b1.mono BB.size)
 clear b1
 obtain ⟨p1,a1,n1,c1,rfl⟩ := h1.open
 have hZ1 : w.heap.size ≤ w1.heap.size := BB.size
 have hN1VA : w.heap.size ≠ w1.heap.size := Nat.ne_of_lt VA.lt
 have hN1VR : w.heap.size + 1 ≠ w1.heap.size := Nat.ne_of_lt VR.lt
 obtain ⟨W1,hW1,hS1,hL1,VN⟩ := V2.lay w1 33 (.bool p1) (.slice a1 n1 c1)
 replace hz := hz.below hL1
 replace hx := hx.below hL1
 replace h1 := h1.below hL1
 replace VA := VA.below hL1
 replace VR := VR.below hL1
 replace BB := BB.trans (hL1.mono BB.size)
 clear hL1
 obtain ⟨VA_0,VA_1,VA_2,VA_3,VA_4,VA_5⟩ := id VA
 rw [hW1] at VA_0 VA_1 VA_2 VA_3 VA_4 VA_5
 go_wp2_with fail
 clear VA_0 VA_1 VA_2 VA_3 VA_4 VA_5
 rw [← hW1]
 generalize w1.heap.size = R1 at *
 clear hW1 hS1
 refine (npow_at _ q.den 40 k _ (hx.at 40 l2) (by omega) hk).mono ?_
 rintro e w2 ⟨r2,rfl,h2,b2⟩
 replace hz := hz.below b2
 replace hx := hx.below b2
 replace h1 := h1.below b2
 replace VA := VA.below b2
 replace VR := VR.below b2
 replace VN := VN.below b2
 replace BB := BB.trans (b2.mono BB.size)
 clear b2
 obtain ⟨a2,n2,c2,rfl⟩ := h2.open
 have hKp := VR.keepJ (.bool p1) (.slice a1 n1 c1) (.slice a2 n2 c2)
 have hz_n := hz.keep hKp
 have hx_n := hx.keep hKp
 have h1_n := h1.keep hKp
 have h2_n := h2.keep hKp
 have BB_n := below_store3 (R := w.heap.size + 1) BB (by omega) (.bool p1) (.slice a1 n1 c1) (.slice a2 n2 c2)
 clear hKp
 obtain ⟨VN_0,VN_1,VN_2,VN_3⟩ := id VN
 obtain ⟨q1,q2,q3,q4,q5,q6⟩ := id VR
 go_wp2
 (try simp only [Exit.inBlock,Exit.then])
 refine bodyPost_ret (v := .agg #[.bool p1,.slice a1 n1 c1,.slice a2 n2 c2]) (by simp [results,go_sem,q1,q2,q3]) rfl ?_
 exact ⟨_,rfl,⟨p1,a1,n1,c1,a2,n2,c2,rfl,by rw [Rat.num_pow]; exact h1_n,by rw [Rat.den_pow]; exact h2_n⟩,BB_n⟩


set_option maxRecDepth 20000 in
set_option maxHeartbeats 1000000 in
theorem qpow_at (v : Value) (q : Rat) (L : Nat) (w : World) (hv : RatAt w v q L) (hL : 1 ≤ L) (hM : L ≤ 40) (ht : Tab w) (k : Nat) (hk : k ≤ 4096) :
  Calls Tryz.prog 19 #[v,.int .i64 (k : Int)] w fun e w' => ∃ r,e = .returned (.tuple #[r,.int .i64 0]) ∧ RepQ w' r (q ^ k) ∧ Below w.heap.size w w' := by
 obtain ⟨p,ao,n,c,bo,m,d,rfl⟩ := hv.open
 have hs := Nat.le_trans (hv.qsz hL) hM
 have k1 : ¬ (k : Int) < -4096 := by omega
 have k2 : ¬ (4096 : Int) < (k : Int) := by omega
 have k3 : (0 : Int) ≤ (k : Int) := by omega
 have HK : Hid (k ≤ 4096) := hk
 clear hk
 have BB : Below w.heap.size w w := Below.refl _ _
 obtain ⟨Wb0,hW0,hS0,hL0,VA⟩ := V3.lay w 35 (.bool p) (.slice ao n c) (.slice bo m d)
 replace hv := hv.below hL0
 replace ht := ht.below hL0
 replace BB := BB.trans (hL0.mono BB.size)
 clear hL0
 obtain ⟨Wb1,hW1,hS1,hL1,VR⟩ := V3.lay Wb0 35 (.bool false) (.slice none 0 0) (.slice none 0 0)
 rw [hS0] at VR hS1
 replace hv := hv.below hL1
 replace ht := ht.below hL1
 replace VA := VA.below hL1
 replace BB := BB.trans (hL1.mono BB.size)
 clear hL1
 go_enter Tryz.func19,Tryz.ntmps19
 go_wp2_with fail
 rw [← hW0]
 rw [← hW1]
 clear hW0 hW1 hS0 hS1
 refine (qclean_at _ q L _ hv hL (by omega) ht).mono ?_
 rintro e w1 ⟨r1,rfl,h1,b1⟩
 replace hv := hv.below b1
 replace ht := ht.below b1
 replace VA := VA.below b1
 replace VR := VR.below b1
 replace BB := BB.trans (b1.mono BB.size)
 clear b1
 go_wp2_with fail
 refine (qpower_at _ q k _ h1 hs HK.out).mono ?_
 rintro e w2 ⟨r2,rfl,h2,b2⟩
 replace hv := hv.below b2
 replace ht := ht.below b2
 replace h1 := h1.below b2
 replace VA := VA.below b2
 replace VR := VR.below b2
 replace BB := BB.trans (b2.mono BB.size)
 clear b2
 obtain ⟨p2,a2,n2,c2,b2,m2,d2,rfl⟩ := h2.open
 have hKp := VR.keepJ (.bool p2) (.slice a2 n2 c2) (.slice b2 m2 d2)
 have hv_n := hv.keep hKp
 have ht_n := ht.keep hKp
 have h1_n := h1.keep hKp
 have h2_n := h2.keep hKp
 have BB_n := below_store3 (R := w.heap.size + 1) BB (by omega) (.bool p2) (.slice a2 n2 c2) (.slice b2 m2 d2)
 clear hKp
 obtain ⟨q1,q2,q3,q4,q5,q6⟩ := id VR
 go_wp2
 (try simp only [Exit.inBlock,Exit.then])
 refine bodyPost_ret (v := .tuple #[.agg #[.bool p2,.slice a2 n2 c2,.slice b2 m2 d2],.int .i64 0]) (by simp [results,go_sem,q1,q2,q3]) rfl ?_
 exact ⟨_,rfl,h2_n,BB_n⟩


set_option maxRecDepth 20000 in
set_option maxHeartbeats 1000000 in
theorem qpow_inv (v : Value) (q : Rat) (L : Nat) (w : World) (hv : RatAt w v q L) (hL : 1 ≤ L) (hM : L ≤ 40) (ht : Tab w) (k : Nat) (hk : k ≤ 4096) (hk0 : 0 < k) (h0 : q ≠ 0) :
  Calls Tryz.prog 19 #[v,.int .i64 (-(k : Int))] w fun e w' => ∃ r,e = .returned (.tuple #[r,.int .i64 0]) ∧ RepQ w' r (q⁻¹ ^ k) ∧ Below w.heap.size w w' := by
 obtain ⟨p,ao,n,c,bo,m,d,rfl⟩ := hv.open
 have hs := Nat.le_trans (hv.qsz hL) hM
 have k1 : ¬ -(k : Int) < -4096 := by omega
 have k2 : ¬ (4096 : Int) < -(k : Int) := by omega
 have k3 : ¬ (0 : Int) ≤ -(k : Int) := by omega
 have HK : Hid (k ≤ 4096) := hk
 have kn : - -(k : Int) = (k : Int) := by omega
 clear hk
 have BB : Below w.heap.size w w := Below.refl _ _
 obtain ⟨Wb0,hW0,hS0,hL0,VA⟩ := V3.lay w 35 (.bool p) (.slice ao n c) (.slice bo m d)
 replace hv := hv.below hL0
 replace ht := ht.below hL0
 replace BB := BB.trans (hL0.mono BB.size)
 clear hL0
 obtain ⟨Wb1,hW1,hS1,hL1,VR⟩ := V3.lay Wb0 35 (.bool false) (.slice none 0 0) (.slice none 0 0)
 rw [hS0] at VR hS1
 replace hv := hv.below hL1
 replace ht := ht.below hL1
 replace VA := VA.below hL1
 replace BB := BB.trans (hL1.mono BB.size)
 clear hL1
 go_enter Tryz.func19,Tryz.ntmps19
 go_wp2_with fail
 rw [← hW0]
 rw [← hW1]
 clear hW0 hW1 hS0 hS1
 refine (qinv_at _ q L _ hv hL (by omega) ht h0).mono ?_
 rintro e w1 ⟨r1,rfl,h1,b1⟩
 replace hv := hv.below b1
 replace ht := ht.below b1
 replace VA := VA.below b1
 replace VR := VR.below b1
 replace BB := BB.trans (b1.mono BB.size)
 clear b1
 obtain ⟨p1,a1,n1,c1,b1,m1,d1,rfl⟩ := h1.open
 clear h0
 have hZ1 : w.heap.size ≤ w1.heap.size := BB.size
 have hN1VA : w.heap.size ≠ w1.heap.size := Nat.ne_of_lt VA.lt
 have hN1VR : w.heap.size + 1 ≠ w1.heap.size := Nat.ne_of_lt VR.lt
 obtain ⟨W1,hW1,hS1,hL1,VI⟩ := V3.lay w1 35 (.bool p1) (.slice a1 n1 c1) (.slice b1 m1 d1)
 replace hv := hv.below hL1
 replace ht := ht.below hL1
 replace h1 := h1.below hL1
 replace VA := VA.below hL1
 replace VR := VR.below hL1
 replace BB := BB.trans (hL1.mono BB.size)
 clear hL1
 go_wp2_with fail
 rw [← hW1]
 generalize w1.heap.size = R1 at *
 clear hW1 hS1
 refine (qpower_at _ q⁻¹ k _ h1 (qsz_inv q hs) HK.out).mono ?_
 rintro e w2 ⟨r2,rfl,h2,b2⟩
 replace hv := hv.below b2
 replace ht := ht.below b2
 replace h1 := h1.below b2
 replace VA := VA.below b2
 replace VR := VR.below b2
 replace VI := VI.below b2
 replace BB := BB.trans (b2.mono BB.size)
 clear b2
 obtain ⟨p2,a2,n2,c2,b2,m2,d2,rfl⟩ := h2.open
 have hKp := VR.keepJ (.bool p2) (.slice a2 n2 c2) (.slice b2 m2 d2)
 have hv_n := hv.keep hKp
 have ht_n := ht.keep hKp
 have h1_n := h1.keep hKp
 have h2_n := h2.keep hKp
 have BB_n := below_store3 (R := w.heap.size + 1) BB (by omega) (.bool p2) (.slice a2 n2 c2) (.slice b2 m2 d2)
 clear hKp
 obtain ⟨q1,q2,q3,q4,q5,q6⟩ := id VR
 go_wp2
 (try simp only [Exit.inBlock,Exit.then])
 refine bodyPost_ret (v := .tuple #[.agg #[.bool p2,.slice a2 n2 c2,.slice b2 m2 d2],.int .i64 0]) (by simp [results,go_sem,q1,q2,q3]) rfl ?_
 exact ⟨_,rfl,h2_n,BB_n⟩


set_option maxRecDepth 20000 in
set_option maxHeartbeats 1000000 in
theorem qpow_zero (v : Value) (q : Rat) (L : Nat) (w : World) (hv : RatAt w v q L) (hL : 1 ≤ L) (hM : L ≤ 40) (ht : Tab w) (k : Nat) (hk : k ≤ 4096) (hk0 : 0 < k) (h0 : q = 0) :
  Calls Tryz.prog 19 #[v,.int .i64 (-(k : Int))] w fun e w' => e = .returned (.tuple #[.agg #[.bool false,.slice none 0 0,.slice none 0 0],.int .i64 2]) ∧ Below w.heap.size w w' := by
 obtain ⟨p,ao,n,c,bo,m,d,rfl⟩ := hv.open
 have hs := Nat.le_trans (hv.qsz hL) hM
 have k1 : ¬ -(k : Int) < -4096 := by omega
 have k2 : ¬ (4096 : Int) < -(k : Int) := by omega
 have k3 : ¬ (0 : Int) ≤ -(k : Int) := by omega
 have HK : Hid (k ≤ 4096) := hk
 have kn : - -(k : Int) = (k : Int) := by omega
 clear hk
 have BB : Below w.heap.size w w := Below.refl _ _
 obtain ⟨Wb0,hW0,hS0,hL0,VA⟩ := V3.lay w 35 (.bool p) (.slice ao n c) (.slice bo m d)
 replace hv := hv.below hL0
 replace ht := ht.below hL0
 replace BB := BB.trans (hL0.mono BB.size)
 clear hL0
 obtain ⟨Wb1,hW1,hS1,hL1,VR⟩ := V3.lay Wb0 35 (.bool false) (.slice none 0 0) (.slice none 0 0)
 rw [hS0] at VR hS1
 replace hv := hv.below hL1
 replace ht := ht.below hL1
 replace VA := VA.below hL1
 replace BB := BB.trans (hL1.mono BB.size)
 clear hL1
 go_enter Tryz.func19,Tryz.ntmps19
 go_wp2_with fail
 rw [← hW0]
 rw [← hW1]
 clear hW0 hW1 hS0 hS1
 refine (qinv_zero _ q L _ hv hL (by omega) ht h0).mono ?_
 rintro e w1 ⟨rfl,b1⟩
 replace hv := hv.below b1
 replace ht := ht.below b1
 replace VA := VA.below b1
 replace VR := VR.below b1
 replace BB := BB.trans (b1.mono BB.size)
 clear b1
 clear h0
 obtain ⟨W1,hW1,hS1,hL1,VI⟩ := V3.lay w1 35 (.bool false) (.slice none 0 0) (.slice none 0 0)
 have hlr := Nat.ne_of_lt VR.lt
 have hla := Nat.ne_of_lt VA.lt
 replace VR := VR.below hL1
 replace BB := BB.trans (hL1.mono BB.size)
 clear hL1
 obtain ⟨x1,x2,x3,x4,x5,x6⟩ := id VR
 rw [hW1] at x1 x2 x3 x4 x5 x6
 go_wp2
 (try simp only [Exit.inBlock,Exit.then])
 refine bodyPost_ret (v := .tuple #[.agg #[.bool false,.slice none 0 0,.slice none 0 0],.int .i64 2]) (by simp [results,go_sem,x1,x2,x3]) rfl ?_
 rw [hW1] at BB
 exact ⟨rfl,below_store3 BB (by omega) _ _ _⟩


set_option maxRecDepth 20000 in
set_option maxHeartbeats 1000000 in
theorem qpow_range (v : Value) (q : Rat) (L : Nat) (w : World) (hv : RatAt w v q L) (k : Int) (hk : k < -4096 ∨ 4096 < k) :
  Calls Tryz.prog 19 #[v,.int .i64 k] w fun e w' => e = .returned (.tuple #[.agg #[.bool false,.slice none 0 0,.slice none 0 0],.int .i64 8]) ∧ Below w.heap.size w w' := by
 obtain ⟨p,ao,n,c,bo,m,d,rfl⟩ := hv.open
 have BB : Below w.heap.size w w := Below.refl _ _
 obtain ⟨Wb0,hW0,hS0,hL0,VA⟩ := V3.lay w 35 (.bool p) (.slice ao n c) (.slice bo m d)
 replace BB := BB.trans (hL0.mono BB.size)
 clear hL0
 obtain ⟨Wb1,hW1,hS1,hL1,VR⟩ := V3.lay Wb0 35 (.bool false) (.slice none 0 0) (.slice none 0 0)
 rw [hS0] at VR hS1
 replace BB := BB.trans (hL1.mono BB.size)
 clear hL1
 obtain ⟨x1,x2,x3,x4,x5,x6⟩ := id VR
 rw [hW1,hW0] at x1 x2 x3 x4 x5 x6
 rcases hk with hk | hk
 ·go_enter Tryz.func19,Tryz.ntmps19
  go_wp2
  (try simp only [Exit.inBlock,Exit.then])
  refine bodyPost_ret (v := .tuple #[.agg #[.bool false,.slice none 0 0,.slice none 0 0],.int .i64 8]) (by simp [results,go_sem,x1,x2,x3]) rfl ?_
  rw [hW1,hW0] at BB
  first | exact ⟨rfl,BB⟩ | exact ⟨rfl,below_store3 BB (by omega) _ _ _⟩
 ·have hk2 : ¬ k < -4096 := by omega
  go_enter Tryz.func19,Tryz.ntmps19
  go_wp2
  (try simp only [Exit.inBlock,Exit.then])
  refine bodyPost_ret (v := .tuple #[.agg #[.bool false,.slice none 0 0,.slice none 0 0],.int .i64 8]) (by simp [results,go_sem,x1,x2,x3]) rfl ?_
  rw [hW1,hW0] at BB
  first | exact ⟨rfl,BB⟩ | exact ⟨rfl,below_store3 BB (by omega) _ _ _⟩


theorem qpow_inv2 (v : Value) (q : Rat) (L : Nat) (w : World) (hv : RatAt w v q L) (hL : 1 ≤ L) (hM : L ≤ 40) (ht : Tab w) (z : Int) (k : Nat) (hz : z = -(k : Int)) (hk : k ≤ 4096) (hk0 : 0 < k) (h0 : q ≠ 0) :
  Calls Tryz.prog 19 #[v,.int .i64 z] w fun e w' => ∃ r,e = .returned (.tuple #[r,.int .i64 0]) ∧ RepQ w' r (q⁻¹ ^ k) ∧ Below w.heap.size w w' := by
 subst hz; exact qpow_inv v q L w hv hL hM ht k hk hk0 h0
theorem qpow_zero2 (v : Value) (q : Rat) (L : Nat) (w : World) (hv : RatAt w v q L) (hL : 1 ≤ L) (hM : L ≤ 40) (ht : Tab w) (z : Int) (k : Nat) (hz : z = -(k : Int)) (hk : k ≤ 4096) (hk0 : 0 < k) (h0 : q = 0) :
  Calls Tryz.prog 19 #[v,.int .i64 z] w fun e w' => e = .returned (.tuple #[.agg #[.bool false,.slice none 0 0,.slice none 0 0],.int .i64 2]) ∧ Below w.heap.size w w' := by
 subst hz; exact qpow_zero v q L w hv hL hM ht k hk hk0 h0
theorem doc_len {w : World} {p : Bool} {ao : Option Addr} {n c : Nat} {bo : Option Addr} {m d : Nat} {q : Rat} {L : Nat} (h : DocQ w (.agg #[.bool p,.slice ao n c,.slice bo m d]) q L) : n = 0 ↔ q = 0 := by
 obtain ⟨z,x,hP,rfl⟩ := h
 obtain ⟨hz,hx,hx0,_,_⟩ := hP.parts
 obtain ⟨ao5,c5,e5,_⟩ := id hz
 simp only [Value.agg.injEq,Array.mk.injEq,List.cons.injEq,Value.bool.injEq,Value.slice.injEq,and_true] at e5
 obtain ⟨_,_,e6,_⟩ := e5
 rw [mkRat_zero_iff z x hx0,e6]
 constructor
 ·intro e
  have := (nl_eq_zero 10000 z.natAbs (by omega)).1 e
  omega
 ·rintro rfl; exact nl_zero _

end Go.Proofs.YthlogenaienkhaaGreatDoor
