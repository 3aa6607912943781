/-
  Texts of mine, joined: what lies beneath the statement.
-/
import Derived.Test.YtpgioggbepdjpaaGreatDoorJe9b0c7e062
import Derived.Test.YtpgioggbepdjpaaGreatDoorJ65b2679756
namespace Go.Proofs.YtpgioggbepdjpaaGreatDoor
open Go.RowKit
set_option linter.unusedVariables false
theorem RepJ.store4 {w : World} {v : Value} {z : Int} (h : RepJ w v z) {R R' m c m' c' : Nat} {p p' : Bool} {ao ao' : Option Addr} (q1 : w.cell? ⟨R,0,none⟩ = some (.bool p)) (q2 : w.cell? ⟨R,1,none⟩ = some (.slice ao m c))
  (q3 : w.cell? ⟨R',0,none⟩ = some (.bool p')) (q4 : w.cell? ⟨R',1,none⟩ = some (.slice ao' m' c')) (hne : R' ≠ R) (x y x' y' : Value) :
  RepJ ((((w.setCell ⟨R,0,none⟩ x).setCell ⟨R,1,none⟩ y).setCell ⟨R',0,none⟩ x').setCell ⟨R',1,none⟩ y') v z := by
 have a1 : ((w.setCell ⟨R,0,none⟩ x).setCell ⟨R,1,none⟩ y).cell? ⟨R',0,none⟩ = some (.bool p') := by
  rw [World.cell?_setCell_other _ _ _ _ (fun e => by injection e; omega),World.cell?_setCell_other _ _ _ _ (fun e => by injection e; omega)]; exact q3
 have a2 : ((w.setCell ⟨R,0,none⟩ x).setCell ⟨R,1,none⟩ y).cell? ⟨R',1,none⟩ = some (.slice ao' m' c') := by
  rw [World.cell?_setCell_other _ _ _ _ (fun e => by injection e; omega),World.cell?_setCell_other _ _ _ _ (fun e => by injection e; omega)]; exact q4
 exact (h.store2 q1 q2 x y).store2 a1 a2 x' y'
theorem keep6s {w w' : World} {B : Nat} {a b c d a' b' : Addr} {x y z t x' y' : Value} (hb : Below B w w') (hB : w.heap.size ≤ B) (h : w.cell? a = some x ∧ w.cell? b = some y ∧ w.cell? c = some z ∧ w.cell? d = some t ∧ w.cell? a' = some x' ∧ w.cell? b' = some y') :
  w'.cell? a = some x ∧ w'.cell? b = some y ∧ w'.cell? c = some z ∧ w'.cell? d = some t ∧ w'.cell? a' = some x' ∧ w'.cell? b' = some y' :=
 ⟨(keep2 hb hB ⟨h.1,h.2.1⟩).1,(keep2 hb hB ⟨h.1,h.2.1⟩).2,keep4 hb hB h.2.2⟩
theorem put2_cells {w : World} {R R' : Nat} {x y x' y' : Value} (hne : R' ≠ R) (h : w.cell? ⟨R',0,none⟩ = some x ∧ w.cell? ⟨R',1,none⟩ = some y) :
  ((w.setCell ⟨R,0,none⟩ x').setCell ⟨R,1,none⟩ y').cell? ⟨R',0,none⟩ = some x ∧ ((w.setCell ⟨R,0,none⟩ x').setCell ⟨R,1,none⟩ y').cell? ⟨R',1,none⟩ = some y := by
 obtain ⟨h1,h2⟩ := h
 refine ⟨?_,?_⟩
 ·rw [World.cell?_setCell_other _ _ _ _ (fun e => by injection e; omega),World.cell?_setCell_other _ _ _ _ (fun e => by injection e; omega)]; exact h1
 ·rw [World.cell?_setCell_other _ _ _ _ (fun e => by injection e; omega),World.cell?_setCell_other _ _ _ _ (fun e => by injection e; omega)]; exact h2
theorem nl_succ (x : Nat) : nl W32 (x + 1) ≤ nl W32 x + 1 := by
 apply nl_le W32 _ _ (by decide)
 have h := lt_pow_nl W32 x (by decide)
 rw [Nat.pow_succ]
 have : W32 ^ nl W32 x * 2 ≤ W32 ^ nl W32 x * W32 := Nat.mul_le_mul_left _ (by decide)
 generalize W32 ^ nl W32 x = P at *
 omega
def OverOut (x y : Int) (B : Nat) (w : World) (e : Ending) (w' : World) : Prop :=
 ∃ q r,e = .returned (.tuple #[q,r]) ∧ RepJ w' q (x.fdiv y) ∧ RepJ w' r (x.fmod y) ∧ Below B w w'
theorem fmod_less (x y : Int) : x + -(x.fdiv y * y) = x.fmod y := by
 have := Int.mul_fdiv_add_fmod x y
 rw [Int.mul_comm] at this; omega
set_option maxRecDepth 20000 in
set_option maxHeartbeats 4000000 in
theorem rover_same (p : Bool) (ao : Option Addr) (n c X : Nat) (bo : Option Addr) (m d Y : Nat) (w : World)
  (hu : RepD w (.slice ao n c) X) (hv : RepD w (.slice bo m d) Y) (hY : 0 < Y) (hlx : nl W32 X ≤ 1000) (hly : nl W32 Y ≤ 1000) (JA : RepJ w (.agg #[.bool p,.slice ao n c]) (zof p X)) (JB : RepJ w (.agg #[.bool p,.slice bo m d]) (zof p Y)) :
  Calls Tryz.prog 42 #[.agg #[.bool p,.slice ao n c],.agg #[.bool p,.slice bo m d]] w fun e w' => OverOut (zof p X) (zof p Y) w.heap.size w e w' := by
 have hA : ∀ o o' o'' o3,Below w.heap.size w ((((w.alloc o).alloc o').alloc o'').alloc o3) := fun o o' o'' o3 => ((((Below.refl _ _).alloc (Nat.le_refl _) _).alloc (by simp) _).alloc (by simp; omega) _).alloc (by simp; omega) _
 have ne1 : ¬ w.heap.size = w.heap.size + 1 + 1 := by omega
 have ne2 : ¬ w.heap.size + 1 + 1 = w.heap.size := by omega
 have ne3 : ¬ w.heap.size = w.heap.size + 1 + 1 + 1 := by omega
 have ne4 : ¬ w.heap.size + 1 + 1 + 1 = w.heap.size := by omega
 have ne5 : ¬ w.heap.size + 1 = w.heap.size + 1 + 1 + 1 := by omega
 have ne6 : ¬ w.heap.size + 1 + 1 + 1 = w.heap.size + 1 := by omega
 have hfl : Hid (_ ∧ _) := floor_same p X Y hY
 have bx1 := nl10_le X 1000 hlx
 have by1 := nl10_le Y 1000 hly
 have nq : X / Y ≤ X := Nat.div_le_self _ _
 have lq : nl W32 (X / Y) ≤ 1000 := Nat.le_trans (nl_mono W32 _ _ (by decide) nq) hlx
 obtain ⟨c1,c2,c3,c4⟩ := box_b w 33 33 (.bool p) (.slice ao n c) (.bool p) (.slice bo m d) (.cells #[.bool false,.slice none 0 0] 33) (.cells #[.bool false,.slice none 0 0] 33)
 go_enter Tryz.func42,Tryz.ntmps42
 go_wp2_with fail
 refine (over_any _ _ _ _ _ (Nums.below hu (hA _ _ _ _)) (Nums.below hv (hA _ _ _ _)) hY (by omega) (by omega)).mono ?_
 rintro e w0 ⟨qv,rv,rfl,hqv,hrv,hb0⟩
 have hj0 := keepW hb0 (by simp) (res34 w _ _ _ _ _ _ _ _)
 have hk0 := keepW hb0 (by simp) (res4 w _ _ _ _ _ _)
 obtain ⟨d1,d2,d3,d4⟩ := keep4 hb0 (by simp) ⟨c1,c2,c3,c4⟩
 have B0 : Below w.heap.size w w0 := (hA _ _ _ _).trans (hb0.mono (by simp; omega))
 clear c1 c2 c3 c4
 go_wp2_with fail
 refine (rmake_any _ _ _ _ hqv).mono ?_
 rintro e w1 ⟨vx,rfl,hx1,hb1⟩
 obtain ⟨bx,aox,nx,cx,rfl⟩ := hx1.open
 have hA1 : Below w1.heap.size w1 (w1.alloc (.cells #[.bool bx,.slice aox nx cx] 33)) := (Below.refl _ _).alloc (Nat.le_refl _) _
 have B1 : Below w.heap.size w w1 := B0.trans (hb1.mono B0.size)
 have B1' : Below w.heap.size w (w1.alloc (.cells #[.bool bx,.slice aox nx cx] 33)) := B1.trans (hA1.mono B1.size)
 have hj1 := keepW hA1 (Nat.le_refl _) (keepW hb1 (Nat.le_refl _) hj0)
 have hk1 := keepW hA1 (Nat.le_refl _) (keepW hb1 (Nat.le_refl _) hk0)
 have E := keep4 hA1 (Nat.le_refl _) (keep4 hb1 (Nat.le_refl _) ⟨d1,d2,d3,d4⟩)
 have G := resW w1 33 (.bool bx) (.slice aox nx cx)
 have JX := hx1.below hA1
 have RV := Nums.below (Nums.below hrv hb1) hA1
 have hge : w.heap.size + 1 + 1 + 1 < w1.heap.size := by have := hb0.size; have := hb1.size; simp at *; omega
 have BW := B1'
 have JA1 := (JA.below B1').below (Below.refl _ _).drew
 have JB1 := (JB.below B1').below (Below.refl _ _).drew
 go_wp2
 generalize hR2 : w1.heap.size = R2 at *
 generalize w1.alloc (.cells #[.bool bx,.slice aox nx cx] 33) = W1 at *
 have S0 := And.intro E.1 (And.intro E.2.1 (And.intro E.2.2.1 (And.intro E.2.2.2 (And.intro G.1 G.2.1))))
 have na1 : ¬ w.heap.size = R2 := by omega
 have na2 : ¬ R2 = w.heap.size := by omega
 have na3 : ¬ w.heap.size + 1 = R2 := by omega
 have na4 : ¬ R2 = w.heap.size + 1 := by omega
 have na5 : ¬ w.heap.size + 1 + 1 = R2 := by omega
 have na6 : ¬ R2 = w.heap.size + 1 + 1 := by omega
 have na7 : ¬ w.heap.size + 1 + 1 + 1 = R2 := by omega
 have na8 : ¬ R2 = w.heap.size + 1 + 1 + 1 := by omega
 have HZ : Hid (zof false (X / Y) = (zof p X).fdiv (zof p Y)) := hfl.out.1.symm
 have lz : nl W32 (zof false (X / Y)).natAbs ≤ 1001 := by rw [zof_abs]; omega
 rw [HZ.out] at JX lz
 have HM : Hid ((zof p X).fdiv (zof p Y) = (zof p X).fdiv (zof p Y)) := rfl
 have l1 : nl W32 (zof p X).natAbs ≤ 1000 := by rw [zof_abs]; exact hlx
 have l2 : nl W32 (zof p Y).natAbs ≤ 1000 := by rw [zof_abs]; exact hly
 have l3 := nlz_mul lz l2 (Nat.le_refl _)
 generalize hQ : (zof p X).fdiv (zof p Y) = Q at *
 generalize hZX : zof p X = ZX at *
 generalize hZY : zof p Y = ZY at *
 go_region_held3 (fun w' => w'.cell? ⟨w.heap.size,0,none⟩ = some (.bool p) ∧ w'.cell? ⟨w.heap.size,1,none⟩ = some (.slice ao n c) ∧ w'.cell? ⟨w.heap.size + 1,0,none⟩ = some (.bool p) ∧ w'.cell? ⟨w.heap.size + 1,1,none⟩ = some (.slice bo m d) ∧ w'.cell? ⟨R2,0,none⟩ = some (.bool bx) ∧ w'.cell? ⟨R2,1,none⟩ = some (.slice aox nx cx)) (first | exact keep6s (by assumption) (by exact Nat.le_refl _) (by assumption) | exact S0 | go_keep) (first
  | (go_at_call 44; refine (rtimes_any _ _ _ _ _ (JX.below (Below.refl _ _).drew) JB1 (Nat.le_trans (nl10_le _ _ lz) (by omega)) (Nat.le_trans (nl10_le _ _ l2) (by omega))).mono ?_; rintro e u1 ⟨rt,rfl,hrt,k1⟩; have hj2 := keepW k1 (Nat.le_refl _) hj1; have hk2 := keepW k1 (Nat.le_refl _) hk1)
  | (go_at_call 26; refine (rminus_any _ _ _ hrt).mono ?_; rintro e u2 ⟨rm,rfl,hrm,k2⟩; have hj3 := keepW k2 (Nat.le_refl _) hj2; have hk3 := keepW k2 (Nat.le_refl _) hk2)
  | (go_at_call 14; refine (rplus_any _ _ _ _ _ ((JA1.below k1).below k2) hrm (Nat.le_trans (nl10_le _ _ l1) (by omega)) (Nat.le_trans (nl10_le _ _ (nlz_neg l3)) (by omega))).mono ?_; rintro e u3 ⟨rp,rfl,hrp,k3⟩; obtain ⟨b3,ao3,n3,e3,rfl⟩ := hrp.open; obtain ⟨q1,q2,q3,q4⟩ := keepW k3 (Nat.le_refl _) hj3; obtain ⟨q5,q6,q7,q8⟩ := keepW k3 (Nat.le_refl _) hk3))
 go_wp2
 (try simp only [Exit.inBlock,Exit.then])
 refine bodyPost_ret (v := .tuple #[.agg #[.bool bx,.slice aox nx cx],.agg #[.bool b3,.slice ao3 n3 e3]]) (by simp [results,go_sem,q1,q2,q5,q6]) rfl ?_
 have U1 := BW.drew.trans (k1.mono BW.size)
 have U2 := U1.trans (k2.mono U1.size)
 have U3 := U2.trans (k3.mono U2.size)
 have JX3 := (((JX.below (Below.refl _ _).drew).below k1).below k2).below k3
 refine ⟨_,_,rfl,?_,?_,below_store2 (below_store2 U3 (by omega) _ _) (by omega) _ _⟩
 ·rw [hZX,hZY,hQ]; exact JX3.store4 q1 q2 q5 q6 (by omega) _ _ _ _
 ·rw [← fmod_less,hZX,hZY,hQ]; exact hrp.store4 q1 q2 q5 q6 (by omega) _ _ _ _
set_option maxRecDepth 20000 in
set_option maxHeartbeats 4000000 in
theorem rover_even (p : Bool) (ao : Option Addr) (n c X : Nat) (bo : Option Addr) (m d Y : Nat) (w : World)
  (hu : RepD w (.slice ao n c) X) (hv : RepD w (.slice bo m d) Y) (hY : 0 < Y) (hlx : nl W32 X ≤ 1000) (hly : nl W32 Y ≤ 1000) (JA : RepJ w (.agg #[.bool p,.slice ao n c]) (zof p X)) (JB : RepJ w (.agg #[.bool (!p),.slice bo m d]) (zof (!p) Y)) (hR : X % Y = 0) :
  Calls Tryz.prog 42 #[.agg #[.bool p,.slice ao n c],.agg #[.bool (!p),.slice bo m d]] w fun e w' => OverOut (zof p X) (zof (!p) Y) w.heap.size w e w' := by
 have hA : ∀ o o' o'' o3,Below w.heap.size w ((((w.alloc o).alloc o').alloc o'').alloc o3) := fun o o' o'' o3 => ((((Below.refl _ _).alloc (Nat.le_refl _) _).alloc (by simp) _).alloc (by simp; omega) _).alloc (by simp; omega) _
 have ne1 : ¬ w.heap.size = w.heap.size + 1 + 1 := by omega
 have ne2 : ¬ w.heap.size + 1 + 1 = w.heap.size := by omega
 have ne3 : ¬ w.heap.size = w.heap.size + 1 + 1 + 1 := by omega
 have ne4 : ¬ w.heap.size + 1 + 1 + 1 = w.heap.size := by omega
 have ne5 : ¬ w.heap.size + 1 = w.heap.size + 1 + 1 + 1 := by omega
 have ne6 : ¬ w.heap.size + 1 + 1 + 1 = w.heap.size + 1 := by omega
 have hpq : (p == !p) = false := by cases p <;> rfl
 have hfl : Hid (_ ∧ _) := floor_even p X Y hY hR
 have bx1 := nl10_le X 1000 hlx
 have by1 := nl10_le Y 1000 hly
 generalize hq : (!p) = q at *
 have nq : X / Y ≤ X := Nat.div_le_self _ _
 have lq : nl W32 (X / Y) ≤ 1000 := Nat.le_trans (nl_mono W32 _ _ (by decide) nq) hlx
 obtain ⟨c1,c2,c3,c4⟩ := box_b w 33 33 (.bool p) (.slice ao n c) (.bool q) (.slice bo m d) (.cells #[.bool false,.slice none 0 0] 33) (.cells #[.bool false,.slice none 0 0] 33)
 go_enter Tryz.func42,Tryz.ntmps42
 go_wp2_with fail
 refine (over_any _ _ _ _ _ (Nums.below hu (hA _ _ _ _)) (Nums.below hv (hA _ _ _ _)) hY (by omega) (by omega)).mono ?_
 rintro e w0 ⟨qv,rv,rfl,hqv,hrv,hb0⟩
 have hj0 := keepW hb0 (by simp) (res34 w _ _ _ _ _ _ _ _)
 have hk0 := keepW hb0 (by simp) (res4 w _ _ _ _ _ _)
 obtain ⟨d1,d2,d3,d4⟩ := keep4 hb0 (by simp) ⟨c1,c2,c3,c4⟩
 have B0 : Below w.heap.size w w0 := (hA _ _ _ _).trans (hb0.mono (by simp; omega))
 clear c1 c2 c3 c4 hq
 go_wp2_with fail
 refine (rmake_any _ _ _ _ hqv).mono ?_
 rintro e w1 ⟨vx,rfl,hx1,hb1⟩
 obtain ⟨ro,rc,rfl⟩ : ∃ ro rc,rv = .slice ro 0 rc := by
  rw [hR] at hrv; obtain ⟨ro,rc,h,_⟩ := hrv; rw [nl_zero] at h; exact ⟨ro,rc,h⟩
 obtain ⟨bx,aox,nx,cx,rfl⟩ := hx1.open
 have hA1 : Below w1.heap.size w1 (w1.alloc (.cells #[.bool bx,.slice aox nx cx] 33)) := (Below.refl _ _).alloc (Nat.le_refl _) _
 have B1 : Below w.heap.size w w1 := B0.trans (hb1.mono B0.size)
 have B1' : Below w.heap.size w (w1.alloc (.cells #[.bool bx,.slice aox nx cx] 33)) := B1.trans (hA1.mono B1.size)
 have hj1 := keepW hA1 (Nat.le_refl _) (keepW hb1 (Nat.le_refl _) hj0)
 have hk1 := keepW hA1 (Nat.le_refl _) (keepW hb1 (Nat.le_refl _) hk0)
 have E := keep4 hA1 (Nat.le_refl _) (keep4 hb1 (Nat.le_refl _) ⟨d1,d2,d3,d4⟩)
 have G := resW w1 33 (.bool bx) (.slice aox nx cx)
 have JX := hx1.below hA1
 have hge : w.heap.size + 1 + 1 + 1 < w1.heap.size := by have := hb0.size; have := hb1.size; simp at *; omega
 have BW := B1'
 have JA1 := (JA.below B1').below (Below.refl _ _).drew
 have JB1 := (JB.below B1').below (Below.refl _ _).drew
 go_wp2
 generalize hR2 : w1.heap.size = R2 at *
 generalize w1.alloc (.cells #[.bool bx,.slice aox nx cx] 33) = W1 at *
 have S0 := And.intro E.1 (And.intro E.2.1 (And.intro E.2.2.1 (And.intro E.2.2.2 (And.intro G.1 G.2.1))))
 have na1 : ¬ w.heap.size = R2 := by omega
 have na2 : ¬ R2 = w.heap.size := by omega
 have na3 : ¬ w.heap.size + 1 = R2 := by omega
 have na4 : ¬ R2 = w.heap.size + 1 := by omega
 have na5 : ¬ w.heap.size + 1 + 1 = R2 := by omega
 have na6 : ¬ R2 = w.heap.size + 1 + 1 := by omega
 have na7 : ¬ w.heap.size + 1 + 1 + 1 = R2 := by omega
 have na8 : ¬ R2 = w.heap.size + 1 + 1 + 1 := by omega
 have HZ : Hid (zof true (X / Y) = (zof p X).fdiv (zof q Y)) := hfl.out.1.symm
 have lz : nl W32 (zof true (X / Y)).natAbs ≤ 1001 := by rw [zof_abs]; omega
 rw [HZ.out] at JX lz
 have HM : Hid ((zof p X).fdiv (zof q Y) = (zof p X).fdiv (zof q Y)) := rfl
 have l1 : nl W32 (zof p X).natAbs ≤ 1000 := by rw [zof_abs]; exact hlx
 have l2 : nl W32 (zof q Y).natAbs ≤ 1000 := by rw [zof_abs]; exact hly
 have l3 := nlz_mul lz l2 (Nat.le_refl _)
 generalize hQ : (zof p X).fdiv (zof q Y) = Q at *
 generalize hZX : zof p X = ZX at *
 generalize hZY : zof q Y = ZY at *
 go_region_held3 (fun w' => w'.cell? ⟨w.heap.size,0,none⟩ = some (.bool p) ∧ w'.cell? ⟨w.heap.size,1,none⟩ = some (.slice ao n c) ∧ w'.cell? ⟨w.heap.size + 1,0,none⟩ = some (.bool q) ∧ w'.cell? ⟨w.heap.size + 1,1,none⟩ = some (.slice bo m d) ∧ w'.cell? ⟨R2,0,none⟩ = some (.bool bx) ∧ w'.cell? ⟨R2,1,none⟩ = some (.slice aox nx cx)) (first | exact keep6s (by assumption) (by exact Nat.le_refl _) (by assumption) | exact S0 | go_keep) (first
  | (go_at_call 44; refine (rtimes_any _ _ _ _ _ (JX.below (Below.refl _ _).drew) JB1 (Nat.le_trans (nl10_le _ _ lz) (by omega)) (Nat.le_trans (nl10_le _ _ l2) (by omega))).mono ?_; rintro e u1 ⟨rt,rfl,hrt,k1⟩; have hj2 := keepW k1 (Nat.le_refl _) hj1; have hk2 := keepW k1 (Nat.le_refl _) hk1)
  | (go_at_call 26; refine (rminus_any _ _ _ hrt).mono ?_; rintro e u2 ⟨rm,rfl,hrm,k2⟩; have hj3 := keepW k2 (Nat.le_refl _) hj2; have hk3 := keepW k2 (Nat.le_refl _) hk2)
  | (go_at_call 14; refine (rplus_any _ _ _ _ _ ((JA1.below k1).below k2) hrm (Nat.le_trans (nl10_le _ _ l1) (by omega)) (Nat.le_trans (nl10_le _ _ (nlz_neg l3)) (by omega))).mono ?_; rintro e u3 ⟨rp,rfl,hrp,k3⟩; obtain ⟨b3,ao3,n3,e3,rfl⟩ := hrp.open; obtain ⟨q1,q2,q3,q4⟩ := keepW k3 (Nat.le_refl _) hj3; obtain ⟨q5,q6,q7,q8⟩ := keepW k3 (Nat.le_refl _) hk3))
 go_wp2
 (try simp only [Exit.inBlock,Exit.then])
 refine bodyPost_ret (v := .tuple #[.agg #[.bool bx,.slice aox nx cx],.agg #[.bool b3,.slice ao3 n3 e3]]) (by simp [results,go_sem,q1,q2,q5,q6]) rfl ?_
 have U1 := BW.drew.trans (k1.mono BW.size)
 have U2 := U1.trans (k2.mono U1.size)
 have U3 := U2.trans (k3.mono U2.size)
 have JX3 := (((JX.below (Below.refl _ _).drew).below k1).below k2).below k3
 refine ⟨_,_,rfl,?_,?_,below_store2 (below_store2 U3 (by omega) _ _) (by omega) _ _⟩
 ·rw [hZX,hZY,hQ]; exact JX3.store4 q1 q2 q5 q6 (by omega) _ _ _ _
 ·rw [← fmod_less,hZX,hZY,hQ]; exact hrp.store4 q1 q2 q5 q6 (by omega) _ _ _ _
set_option maxRecDepth 20000 in
set_option maxHeartbeats 4000000 in
theorem rover_odd (p : Bool) (ao : Option Addr) (n c X : Nat) (bo : Option Addr) (m d Y : Nat) (w : World)
  (hu : RepD w (.slice ao n c) X) (hv : RepD w (.slice bo m d) Y) (hY : 0 < Y) (hlx : nl W32 X ≤ 1000) (hly : nl W32 Y ≤ 1000) (JA : RepJ w (.agg #[.bool p,.slice ao n c]) (zof p X)) (JB : RepJ w (.agg #[.bool (!p),.slice bo m d]) (zof (!p) Y)) (hR : X % Y ≠ 0) :
  Calls Tryz.prog 42 #[.agg #[.bool p,.slice ao n c],.agg #[.bool (!p),.slice bo m d]] w fun e w' => OverOut (zof p X) (zof (!p) Y) w.heap.size w e w' := by
 have hA : ∀ o o' o'' o3,Below w.heap.size w ((((w.alloc o).alloc o').alloc o'').alloc o3) := fun o o' o'' o3 => ((((Below.refl _ _).alloc (Nat.le_refl _) _).alloc (by simp) _).alloc (by simp; omega) _).alloc (by simp; omega) _
 have ne1 : ¬ w.heap.size = w.heap.size + 1 + 1 := by omega
 have ne2 : ¬ w.heap.size + 1 + 1 = w.heap.size := by omega
 have ne3 : ¬ w.heap.size = w.heap.size + 1 + 1 + 1 := by omega
 have ne4 : ¬ w.heap.size + 1 + 1 + 1 = w.heap.size := by omega
 have ne5 : ¬ w.heap.size + 1 = w.heap.size + 1 + 1 + 1 := by omega
 have ne6 : ¬ w.heap.size + 1 + 1 + 1 = w.heap.size + 1 := by omega
 have hpq : (p == !p) = false := by cases p <;> rfl
 have hfl : Hid (_ ∧ _) := floor_odd p X Y hY hR
 have bx1 := nl10_le X 1000 hlx
 have by1 := nl10_le Y 1000 hly
 generalize hq : (!p) = q at *
 have nq : X / Y ≤ X := Nat.div_le_self _ _
 have lq : nl W32 (X / Y) ≤ 1000 := Nat.le_trans (nl_mono W32 _ _ (by decide) nq) hlx
 obtain ⟨c1,c2,c3,c4⟩ := box_b w 33 33 (.bool p) (.slice ao n c) (.bool q) (.slice bo m d) (.cells #[.bool false,.slice none 0 0] 33) (.cells #[.bool false,.slice none 0 0] 33)
 go_enter Tryz.func42,Tryz.ntmps42
 go_wp2_with fail
 refine (over_any _ _ _ _ _ (Nums.below hu (hA _ _ _ _)) (Nums.below hv (hA _ _ _ _)) hY (by omega) (by omega)).mono ?_
 rintro e w0 ⟨qv,rv,rfl,hqv,hrv,hb0⟩
 have hj0 := keepW hb0 (by simp) (res34 w _ _ _ _ _ _ _ _)
 have hk0 := keepW hb0 (by simp) (res4 w _ _ _ _ _ _)
 obtain ⟨d1,d2,d3,d4⟩ := keep4 hb0 (by simp) ⟨c1,c2,c3,c4⟩
 have B0 : Below w.heap.size w w0 := (hA _ _ _ _).trans (hb0.mono (by simp; omega))
 clear c1 c2 c3 c4 hq
 go_wp2_with fail
 refine (rmake_any _ _ _ _ hqv).mono ?_
 rintro e w1 ⟨vx,rfl,hx1,hb1⟩
 have hnr : nl 10000 (X % Y) ≠ 0 := fun h => hR ((nl_eq_zero 10000 _ (by decide)).1 h)
 obtain ⟨ro,rn,rc,rfl,hrn⟩ : ∃ ro rn rc,rv = .slice ro rn rc ∧ rn ≠ 0 := by
  obtain ⟨ro,rc,h,_⟩ := hrv; exact ⟨ro,_,rc,h,hnr⟩
 have hrn1 : (0 : Int) < (rn : Int) := by omega
 obtain ⟨bo1,ao1,n1,e1,rfl⟩ := hx1.open
 have hA1 : Below w1.heap.size w1 (w1.alloc (.cells #[.bool bo1,.slice ao1 n1 e1] 33)) := (Below.refl _ _).alloc (Nat.le_refl _) _
 have B1 : Below w.heap.size w w1 := B0.trans (hb1.mono B0.size)
 have B1' : Below w.heap.size w (w1.alloc (.cells #[.bool bo1,.slice ao1 n1 e1] 33)) := B1.trans (hA1.mono B1.size)
 have hj1 := keepW hA1 (Nat.le_refl _) (keepW hb1 (Nat.le_refl _) hj0)
 have hk1 := keepW hA1 (Nat.le_refl _) (keepW hb1 (Nat.le_refl _) hk0)
 have E := keep4 hA1 (Nat.le_refl _) (keep4 hb1 (Nat.le_refl _) ⟨d1,d2,d3,d4⟩)
 have G := resW w1 33 (.bool bo1) (.slice ao1 n1 e1)
 have JX := hx1.below hA1
 have hge : w.heap.size + 1 + 1 + 1 < w1.heap.size := by have := hb0.size; have := hb1.size; simp at *; omega
 have BW0 := B1'
 go_wp2
 generalize hR2 : w1.heap.size = R2 at *
 generalize w1.alloc (.cells #[.bool bo1,.slice ao1 n1 e1] 33) = W1 at *
 have na1 : ¬ w.heap.size = R2 := by omega
 have na2 : ¬ R2 = w.heap.size := by omega
 have na3 : ¬ w.heap.size + 1 = R2 := by omega
 have na4 : ¬ R2 = w.heap.size + 1 := by omega
 have na5 : ¬ w.heap.size + 1 + 1 = R2 := by omega
 have na6 : ¬ R2 = w.heap.size + 1 + 1 := by omega
 have na7 : ¬ w.heap.size + 1 + 1 + 1 = R2 := by omega
 have na8 : ¬ R2 = w.heap.size + 1 + 1 + 1 := by omega
 have nx1 : nl W32 (zof true (X / Y)).natAbs ≤ 1000 := by rw [zof_abs]; exact lq
 have n11 : nl W32 (-1 : Int).natAbs ≤ 1 := nl_small7 _ (by decide)
 have hz1 : zof true (X / Y) + -1 = zof true (X / Y + 1) := by rw [zof_true,zof_true]; omega
 obtain ⟨g1,g2,g3,g4⟩ := G
 go_region_with (first
  | (go_at_call 15; refine (rsmall_any (-1) _ (by omega) (by omega)).mono ?_; rintro e y1 ⟨r1,rfl,hr1,l1⟩; obtain ⟨g5,g6,g7,g8⟩ := keepW l1 (Nat.le_refl _) ⟨g1,g2,g3,g4⟩)
  | (go_at_call 14; refine (rplus_any _ _ _ _ _ ((JX.below (Below.refl _ _).drew).below l1) hr1 (Nat.le_trans (nl10_le _ _ nx1) (by omega)) (Nat.le_trans (nl10_le _ _ n11) (by omega))).mono ?_; rintro e y2 ⟨vx,rfl,hvx,l2⟩; obtain ⟨bx,aox,nx,cx,rfl⟩ := hvx.open; obtain ⟨g9,g10,g11,g12⟩ := keepW l2 (Nat.le_refl _) ⟨g5,g6,g7,g8⟩))
 all_goals
  go_wp2
  have Y1 := BW0.drew.trans (l1.mono BW0.size)
  have Y2 := Y1.trans (l2.mono Y1.size)
  have G' := put2_same (x' := .bool bx) (y' := .slice aox nx cx) ⟨g9,g10,g11,g12⟩
  have hj1' := put2_other (R := R2) (x' := .bool bx) (y' := .slice aox nx cx) (by omega) (keepW l2 (Nat.le_refl _) (keepW l1 (Nat.le_refl _) hj1))
  have hk1' := put2_other (R := R2) (x' := .bool bx) (y' := .slice aox nx cx) (by omega) (keepW l2 (Nat.le_refl _) (keepW l1 (Nat.le_refl _) hk1))
  have E2 := keep4 l2 (Nat.le_refl _) (keep4 l1 (Nat.le_refl _) E)
  have E3 := put2_cells (R := R2) (x' := .bool bx) (y' := .slice aox nx cx) (by omega) ⟨E2.1,E2.2.1⟩
  have E4 := put2_cells (R := R2) (x' := .bool bx) (y' := .slice aox nx cx) (by omega) ⟨E2.2.2.1,E2.2.2.2⟩
  rw [hz1] at hvx
  have JX' := hvx.store2 g9 g10 (.bool bx) (.slice aox nx cx)
  have BW := below_store2 (R := R2) Y2 (by omega) (.bool bx) (.slice aox nx cx)
  have JA1 := (JA.below BW).below (Below.refl _ _).drew
  have JB1 := (JB.below BW).below (Below.refl _ _).drew
  have S0 := And.intro E3.1 (And.intro E3.2 (And.intro E4.1 (And.intro E4.2 (And.intro G'.1 G'.2.1))))
  clear hj1 hk1 JX
  have hj1 := hj1'
  have hk1 := hk1'
  have JX := JX'
  clear hj1' hk1' JX' E E2 E3 E4 G' l1 l2 g1 g2 g3 g4 g5 g6 g7 g8 g9 g10 g11 g12 Y1 Y2 hvx hr1 hb0 hb1 hqv hrv hA1 hx1 d1 d2 d3 d4
  generalize (y2.setCell ⟨R2,0,none⟩ (.bool bx)).setCell ⟨R2,1,none⟩ (.slice aox nx cx) = W2 at *
  have HZ : Hid (zof true (X / Y + 1) = (zof p X).fdiv (zof q Y)) := hfl.out.1.symm
  have lz : nl W32 (zof true (X / Y + 1)).natAbs ≤ 1001 := by rw [zof_abs]; exact Nat.le_trans (nl_succ _) (by omega)
  rw [HZ.out] at JX lz
  have HM : Hid ((zof p X).fdiv (zof q Y) = (zof p X).fdiv (zof q Y)) := rfl
  have l1 : nl W32 (zof p X).natAbs ≤ 1000 := by rw [zof_abs]; exact hlx
  have l2 : nl W32 (zof q Y).natAbs ≤ 1000 := by rw [zof_abs]; exact hly
  have l3 := nlz_mul lz l2 (Nat.le_refl _)
  generalize hQ : (zof p X).fdiv (zof q Y) = Q at *
  generalize hZX : zof p X = ZX at *
  generalize hZY : zof q Y = ZY at *
  go_region_held3 (fun w' => w'.cell? ⟨w.heap.size,0,none⟩ = some (.bool p) ∧ w'.cell? ⟨w.heap.size,1,none⟩ = some (.slice ao n c) ∧ w'.cell? ⟨w.heap.size + 1,0,none⟩ = some (.bool q) ∧ w'.cell? ⟨w.heap.size + 1,1,none⟩ = some (.slice bo m d) ∧ w'.cell? ⟨R2,0,none⟩ = some (.bool bx) ∧ w'.cell? ⟨R2,1,none⟩ = some (.slice aox nx cx)) (first | exact keep6s (by assumption) (by exact Nat.le_refl _) (by assumption) | exact S0 | go_keep) (first
   | (go_at_call 44; refine (rtimes_any _ _ _ _ _ (JX.below (Below.refl _ _).drew) JB1 (Nat.le_trans (nl10_le _ _ lz) (by omega)) (Nat.le_trans (nl10_le _ _ l2) (by omega))).mono ?_; rintro e u1 ⟨rt,rfl,hrt,k1⟩; have hj2 := keepW k1 (Nat.le_refl _) hj1; have hk2 := keepW k1 (Nat.le_refl _) hk1)
   | (go_at_call 26; refine (rminus_any _ _ _ hrt).mono ?_; rintro e u2 ⟨rm,rfl,hrm,k2⟩; have hj3 := keepW k2 (Nat.le_refl _) hj2; have hk3 := keepW k2 (Nat.le_refl _) hk2)
   | (go_at_call 14; refine (rplus_any _ _ _ _ _ ((JA1.below k1).below k2) hrm (Nat.le_trans (nl10_le _ _ l1) (by omega)) (Nat.le_trans (nl10_le _ _ (nlz_neg l3)) (by omega))).mono ?_; rintro e u3 ⟨rp,rfl,hrp,k3⟩; obtain ⟨b3,ao3,n3,e3,rfl⟩ := hrp.open; obtain ⟨q1,q2,q3,q4⟩ := keepW k3 (Nat.le_refl _) hj3; obtain ⟨q5,q6,q7,q8⟩ := keepW k3 (Nat.le_refl _) hk3))
  go_wp2
  (try simp only [Exit.inBlock,Exit.then])
  refine bodyPost_ret (v := .tuple #[.agg #[.bool bx,.slice aox nx cx],.agg #[.bool b3,.slice ao3 n3 e3]]) (by simp [results,go_sem,q1,q2,q5,q6]) rfl ?_
  have U1 := BW.drew.trans (k1.mono BW.size)
  have U2 := U1.trans (k2.mono U1.size)
  have U3 := U2.trans (k3.mono U2.size)
  have JX3 := (((JX.below (Below.refl _ _).drew).below k1).below k2).below k3
  refine ⟨_,_,rfl,?_,?_,below_store2 (below_store2 U3 (by omega) _ _) (by omega) _ _⟩
  ·rw [hZX,hZY,hQ]; exact JX3.store4 q1 q2 q5 q6 (by omega) _ _ _ _
  ·rw [← fmod_less,hZX,hZY,hQ]; exact hrp.store4 q1 q2 q5 q6 (by omega) _ _ _ _
theorem rover_any (u v : Value) (x y : Int) (w : World) (hu : RepJ w u x) (hv : RepJ w v y) (hy : y ≠ 0) (hlx : nl W32 x.natAbs ≤ 1000) (hly : nl W32 y.natAbs ≤ 1000) :
  Calls Tryz.prog 42 #[u,v] w fun e w' => OverOut x y w.heap.size w e w' := by
 have JA := hu
 have JB := hv
 obtain ⟨ao,c,rfl,hu⟩ := hu
 obtain ⟨bo,d,rfl,hv⟩ := hv
 have e1 := zof_self x
 have e2 := zof_self y
 have hY : 0 < y.natAbs := by omega
 generalize decide (x < 0) = p at *
 generalize decide (y < 0) = q at *
 rw [← e1] at JA
 rw [← e2] at JB
 rw [← e1,← e2]
 simp only [zof_abs] at JA JB ⊢
 by_cases hpq : p = q
 ·subst hpq
  exact rover_same p ao _ c _ bo _ d _ w hu hv hY hlx hly JA JB
 ·obtain rfl : q = !p := by cases p <;> cases q <;> simp_all
  by_cases hR : x.natAbs % y.natAbs = 0
  ·exact rover_even p ao _ c _ bo _ d _ w hu hv hY hlx hly JA JB hR
  ·exact rover_odd p ao _ c _ bo _ d _ w hu hv hY hlx hly JA JB hR
end Go.Proofs.YtpgioggbepdjpaaGreatDoor
