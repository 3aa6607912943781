/-
  Texts of mine, joined: what lies beneath the statement.
-/
import Derived.Test.YtpgioggbepdjpaaGreatDoorJc5af078a7c
import Derived.Test.YtpgioggbepdjpaaGreatDoorJd7daf89196
import Derived.Test.YtpgioggbepdjpaaGreatDoorJ5d696c20a8
namespace Go.Proofs.YtpgioggbepdjpaaGreatDoor
open Go.RowKit
set_option linter.unusedVariables false
def RepJ (w : World) (v : Value) (z : Int) : Prop :=
 ∃ ao c,v = .agg #[.bool (decide (z < 0)),.slice ao (nl 10000 z.natAbs) c] ∧ RepD w (.slice ao (nl 10000 z.natAbs) c) z.natAbs
theorem RepJ.below {w w' : World} {v : Value} {z : Int} (h : RepJ w v z) (hb : Below w.heap.size w w') : RepJ w' v z := by
 obtain ⟨ao,c,h1,h2⟩ := h
 exact ⟨ao,c,h1,Nums.below h2 hb⟩
theorem RepJ.open {w : World} {v : Value} {z : Int} (h : RepJ w v z) : ∃ b ao n c,v = .agg #[.bool b,.slice ao n c] := by
 obtain ⟨ao,c,h1,_⟩ := h
 exact ⟨_,_,_,_,h1⟩
theorem RepJ.mk {w : World} {s : Value} {m : Nat} (neg : Bool) (hs : RepD w s m) : RepJ w (.agg #[.bool (neg && !decide (m = 0)),s]) (zof neg m) := by
 obtain ⟨ao,c,rfl,h2⟩ := hs
 refine ⟨ao,c,?_,?_⟩
 ·rw [zof_abs,zof_neg]
 ·rw [zof_abs]; exact ⟨ao,c,rfl,h2⟩
theorem RepJ.nil (w : World) : RepJ w (.agg #[.bool false,.slice none 0 0]) 0 :=
 ⟨none,0,by simp [nl_zero],by show RepD w (.slice none (nl 10000 0) 0) 0; rw [nl_zero]; unfold RepD; rw [nl_zero]; exact Nums.nil _ _ _⟩
theorem RepJ.store2 {w : World} {v : Value} {z : Int} (h : RepJ w v z) {R m c : Nat} {p : Bool} {ao : Option Addr} (q1 : w.cell? ⟨R,0,none⟩ = some (.bool p)) (q2 : w.cell? ⟨R,1,none⟩ = some (.slice ao m c)) (x y : Value) :
  RepJ ((w.setCell ⟨R,0,none⟩ x).setCell ⟨R,1,none⟩ y) v z := by
 obtain ⟨ao,c,h1,h2⟩ := h
 exact ⟨ao,c,h1,Nums.store2 h2 q1 q2 x y⟩
set_option maxRecDepth 20000 in
set_option maxHeartbeats 400000 in
theorem rmake_any (neg : Bool) (s : Value) (m : Nat) (w : World) (hs : RepD w s m) :
  Calls Tryz.prog 46 #[.bool neg,s] w fun e w' => ∃ r,e = .returned r ∧ RepJ w' r (zof neg m) ∧ Below w.heap.size w w' := by
 have hs0 := hs
 obtain ⟨ao,c,rfl,_⟩ := hs
 have hA : ∀ o,Below w.heap.size w (w.alloc o) := fun o => (Below.refl _ _).alloc (Nat.le_refl _) _
 cases neg with
 | false =>
  go_enter Tryz.func46,Tryz.ntmps46
  go_wp2
  refine bodyPost_ret (v := .agg #[.bool false,.slice ao (nl 10000 m) c]) (by simp [results,go_sem]) rfl ?_
  exact ⟨_,rfl,RepJ.mk false (Nums.below hs0 (hA _)),hA _⟩
 | true =>
  have hz := nl_eq_zero 10000 m (by decide)
  by_cases h0 : m = 0
  ·have hn : nl 10000 m = 0 := hz.2 h0
   have J := RepJ.mk true hs0
   rw [decide_eq_true h0] at J
   rw [hn] at J hs0 ⊢
   go_enter Tryz.func46,Tryz.ntmps46
   go_wp2
   refine bodyPost_ret (v := .agg #[.bool false,.slice ao 0 c]) (by simp [results,go_sem]) rfl ?_
   exact ⟨_,rfl,J.below (hA _),hA _⟩
  ·have hn : (0 : Int) < (nl 10000 m : Int) := by have : nl 10000 m ≠ 0 := fun h => h0 (hz.1 h); omega
   have J := RepJ.mk true hs0
   rw [decide_eq_false h0] at J
   generalize nl 10000 m = N at *
   go_enter Tryz.func46,Tryz.ntmps46
   go_wp2
   refine bodyPost_ret (v := .agg #[.bool true,.slice ao N c]) (by have hn2 : 0 < N := (by omega); simp [results,go_sem,hn2]) rfl ?_
   exact ⟨_,rfl,J.below (hA _),hA _⟩
set_option maxRecDepth 20000 in
set_option maxHeartbeats 1000000 in
theorem rfrom_any (v : Value) (z : Int) (L : Nat) (w : World) (h : IntAt w v z L) (hL : L ≤ 1000) :
  Calls Tryz.prog 34 #[v] w fun e w' => ∃ r,e = .returned r ∧ RepJ w' r z ∧ Below w.heap.size w w' := by
 obtain ⟨neg,ao,n,c,f,rfl,h,hf,rfl,hn⟩ := h
 have hA : ∀ o o',Below w.heap.size w ((w.alloc o).alloc o') := fun o o' => ((Below.refl _ _).alloc (Nat.le_refl _) _).alloc (by simp) _
 go_enter Tryz.func34,Tryz.ntmps34
 go_wp2
 go_region_held3 (fun w' => w'.cell? ⟨w.heap.size,0,none⟩ = some (.bool neg) ∧ w'.cell? ⟨w.heap.size,1,none⟩ = some (.slice ao n c)) (first | exact keep2 (by assumption) (by simp) (by assumption) | go_keep) (first
  | (go_at_call 24; refine (from_any _ _ _ _ (h.below (hA _ _).drew) hf (by omega)).mono ?_; rintro e w1 ⟨s,rfl,hs,hb1⟩; have hk1 := keepW hb1 (by simp) (res1 w _ _ _ _))
  | (go_at_call 46; refine (rmake_any _ _ _ _ hs).mono ?_; rintro e w2 ⟨r,rfl,hr,hb2⟩; obtain ⟨b2,ao2,n2,c2,rfl⟩ := hr.open; obtain ⟨q1,q2,q3,q4⟩ := keepW hb2 (Nat.le_refl _) hk1))
 go_wp2
 refine bodyPost_ret (v := .agg #[.bool b2,.slice ao2 n2 c2]) (by simp [results,go_sem,q1,q2]) rfl ?_
 have B1 := (hA _ _).drew.trans (hb1.mono (by simp; omega))
 have B2 := B1.trans (hb2.mono B1.size)
 exact ⟨_,rfl,hr.store2 q1 q2 _ _,below_store2 B2 (by omega) _ _⟩
set_option maxRecDepth 20000 in
set_option maxHeartbeats 1000000 in
theorem rminus_any (v : Value) (z : Int) (w : World) (h : RepJ w v z) :
  Calls Tryz.prog 26 #[v] w fun e w' => ∃ r,e = .returned r ∧ RepJ w' r (-z) ∧ Below w.heap.size w w' := by
 obtain ⟨ao,c,rfl,h⟩ := h
 have hA : ∀ o o',Below w.heap.size w ((w.alloc o).alloc o') := fun o o' => ((Below.refl _ _).alloc (Nat.le_refl _) _).alloc (by simp) _
 have hz : Hid (zof (!decide (z < 0)) z.natAbs = -z) := by show _ = _; rw [zof_not,zof_self]
 generalize decide (z < 0) = neg at *
 go_enter Tryz.func26,Tryz.ntmps26
 go_wp2_with fail
 refine (rmake_any _ _ _ _ (Nums.below h (hA _ _))).mono ?_
 rintro e w2 ⟨r,rfl,hr,hb2⟩
 obtain ⟨b2,ao2,n2,c2,rfl⟩ := hr.open
 obtain ⟨q1,q2,q3,q4⟩ := keepW hb2 (by simp) (res1 w _ _ _ _)
 rw [hz.out] at hr
 go_wp2
 refine bodyPost_ret (v := .agg #[.bool b2,.slice ao2 n2 c2]) (by simp [results,go_sem,q1,q2]) rfl ?_
 have B2 := (hA _ _).trans (hb2.mono (by simp; omega))
 exact ⟨_,rfl,hr.store2 q1 q2 _ _,below_store2 B2 (by omega) _ _⟩
set_option maxRecDepth 20000 in
set_option maxHeartbeats 1000000 in
theorem rsmall_any (k : Int) (w : World) (h0 : -9223372036854775808 ≤ k) (h1 : k ≤ 9223372036854775807) :
  Calls Tryz.prog 15 #[.int .i64 k] w fun e w' => ∃ r,e = .returned r ∧ RepJ w' r k ∧ Below w.heap.size w w' := by
 have hA : ∀ o,Below w.heap.size w (w.alloc o) := fun o => (Below.refl _ _).alloc (Nat.le_refl _) _
 by_cases hk : k < 0
 ·obtain ⟨K,hK⟩ : ∃ K : Nat,0 - (k + 1) = (K : Int) := ⟨(0 - (k + 1)).toNat,by omega⟩
  have hz : zof true (K + 1) = k := by rw [zof_true]; omega
  have hb1 : nl 10000 K ≤ 1000000 := Nat.le_trans (nl_small K 2 (by unfold W32; omega)) (by omega)
  have hb2 : nl 10000 1 ≤ 1000000 := Nat.le_trans (nl_small 1 2 (by decide)) (by omega)
  go_enter Tryz.func15,Tryz.ntmps15
  go_wp2_with fail
  refine (small_any K _ (by omega)).mono ?_
  rintro e w1 ⟨s1,rfl,hs1,hb1'⟩
  have hk1 := keepW hb1' (by simp) (resW w _ _ _)
  have B1 := (hA _).trans (hb1'.mono (by simp))
  go_wp2_with fail
  refine (small_any 1 _ (by omega)).mono ?_
  rintro e w2 ⟨s2,rfl,hs2,hb2'⟩
  have hk2 := keepW hb2' (Nat.le_refl _) hk1
  have B2 := B1.trans (hb2'.mono B1.size)
  go_wp2_with fail
  refine (plus_any _ _ _ _ _ (Nums.below hs1 hb2') hs2 hb1 hb2).mono ?_
  rintro e w3 ⟨s3,rfl,hs3,hb3'⟩
  have hk3 := keepW hb3' (Nat.le_refl _) hk2
  have B3 := B2.trans (hb3'.mono B2.size)
  go_wp2_with fail
  refine (rmake_any _ _ _ _ hs3).mono ?_
  rintro e w4 ⟨r,rfl,hr,hb4⟩
  obtain ⟨b2,ao2,n2,c2,rfl⟩ := hr.open
  obtain ⟨q1,q2,q3,q4⟩ := keepW hb4 (Nat.le_refl _) hk3
  go_wp2
  (try simp only [Exit.inBlock,Exit.then])
  refine bodyPost_ret (v := .agg #[.bool b2,.slice ao2 n2 c2]) (by simp [results,go_sem,q1,q2]) rfl ?_
  have B4 := B3.trans (hb4.mono B3.size)
  rw [hz] at hr
  exact ⟨_,rfl,hr.store2 q1 q2 _ _,below_store2 B4 (by omega) _ _⟩
 ·obtain ⟨K,rfl⟩ : ∃ K : Nat,k = (K : Int) := ⟨k.toNat,by omega⟩
  go_enter Tryz.func15,Tryz.ntmps15
  go_wp2_with fail
  refine (small_any K _ (by omega)).mono ?_
  rintro e w1 ⟨s1,rfl,hs1,hb1'⟩
  have hk1 := keepW hb1' (by simp) (resW w _ _ _)
  have B1 := (hA _).trans (hb1'.mono (by simp))
  go_wp2_with fail
  refine (rmake_any _ _ _ _ hs1).mono ?_
  rintro e w4 ⟨r,rfl,hr,hb4⟩
  obtain ⟨b2,ao2,n2,c2,rfl⟩ := hr.open
  obtain ⟨q1,q2,q3,q4⟩ := keepW hb4 (Nat.le_refl _) hk1
  go_wp2
  (try simp only [Exit.inBlock,Exit.then])
  refine bodyPost_ret (v := .agg #[.bool b2,.slice ao2 n2 c2]) (by simp [results,go_sem,q1,q2]) rfl ?_
  have B4 := B1.trans (hb4.mono B1.size)
  rw [zof_false] at hr
  exact ⟨_,rfl,hr.store2 q1 q2 _ _,below_store2 B4 (by omega) _ _⟩
set_option maxRecDepth 20000 in
set_option maxHeartbeats 1000000 in
theorem rorder_any (u v : Value) (x y : Int) (w : World) (hu : RepJ w u x) (hv : RepJ w v y) :
  Calls Tryz.prog 27 #[u,v] w fun e w' => e = .returned (.int .i64 (cmpI x y)) ∧ Below w.heap.size w w' := by
 obtain ⟨ao,c,rfl,hu⟩ := hu
 obtain ⟨bo,d,rfl,hv⟩ := hv
 have hA : ∀ o o',Below w.heap.size w ((w.alloc o).alloc o') := fun o o' => ((Below.refl _ _).alloc (Nat.le_refl _) _).alloc (by simp) _
 by_cases hx : x < 0
 ·rw [decide_eq_true hx]
  by_cases hy : y < 0
  ·rw [decide_eq_true hy]
   have HE : Hid (cmpI x y = cmpI y.natAbs x.natAbs) := by show _ = _; unfold cmpI; repeat' split <;> omega
   clear hx hy
   go_enter Tryz.func27,Tryz.ntmps27
   go_wp2_with fail
   refine (order_any _ _ _ _ _ (Nums.below hv (hA _ _)) (Nums.below hu (hA _ _))).mono ?_
   rintro e w1 ⟨rfl,hb1⟩
   go_wp2
   go_ret
   exact ⟨by rw [HE.out]; rfl,(hA _ _).trans (hb1.mono (by simp; omega))⟩
  ·rw [decide_eq_false hy]
   have HE : Hid (cmpI x y = -1) := cmpI_lt (by omega)
   clear hx hy
   go_enter Tryz.func27,Tryz.ntmps27
   go_wp2
   go_ret
   exact ⟨by rw [HE.out]; rfl,hA _ _⟩
 ·rw [decide_eq_false hx]
  by_cases hy : y < 0
  ·rw [decide_eq_true hy]
   have HE : Hid (cmpI x y = 1) := cmpI_gt (by omega)
   clear hx hy
   go_enter Tryz.func27,Tryz.ntmps27
   go_wp2
   go_ret
   exact ⟨by rw [HE.out]; rfl,hA _ _⟩
  ·rw [decide_eq_false hy]
   have HE : Hid (cmpI x y = cmpI x.natAbs y.natAbs) := by show _ = _; unfold cmpI; repeat' split <;> omega
   clear hx hy
   go_enter Tryz.func27,Tryz.ntmps27
   go_wp2_with fail
   refine (order_any _ _ _ _ _ (Nums.below hu (hA _ _)) (Nums.below hv (hA _ _))).mono ?_
   rintro e w1 ⟨rfl,hb1⟩
   go_wp2
   go_ret
   exact ⟨by rw [HE.out]; rfl,(hA _ _).trans (hb1.mono (by simp; omega))⟩
set_option maxRecDepth 20000 in
set_option maxHeartbeats 2000000 in
theorem rplus_same (p : Bool) (ao : Option Addr) (n c X : Nat) (bo : Option Addr) (m d Y : Nat) (w : World)
  (hu : RepD w (.slice ao n c) X) (hv : RepD w (.slice bo m d) Y) (hX : nl 10000 X ≤ 1000000) (hY : nl 10000 Y ≤ 1000000) :
  Calls Tryz.prog 14 #[.agg #[.bool p,.slice ao n c],.agg #[.bool p,.slice bo m d]] w fun e w' => ∃ r,e = .returned r ∧ RepJ w' r (zof p (X + Y)) ∧ Below w.heap.size w w' := by
 have hA : ∀ o o' o'',Below w.heap.size w (((w.alloc o).alloc o').alloc o'') := fun o o' o'' => (((Below.refl _ _).alloc (Nat.le_refl _) _).alloc (by simp) _).alloc (by simp; omega) _
 have ne1 : ¬ w.heap.size = w.heap.size + 1 + 1 := by omega
 have ne2 : ¬ w.heap.size + 1 + 1 = w.heap.size := by omega
 obtain ⟨c1,c2,c3,c4⟩ := box_a w 33 33 33 (.bool p) (.slice ao n c) (.bool p) (.slice bo m d) (.bool false) (.slice none 0 0)
 go_enter Tryz.func14,Tryz.ntmps14
 go_wp2
 go_region_held3 (fun w' => w'.cell? ⟨w.heap.size,0,none⟩ = some (.bool p) ∧ w'.cell? ⟨w.heap.size,1,none⟩ = some (.slice ao n c) ∧ w'.cell? ⟨w.heap.size + 1,0,none⟩ = some (.bool p) ∧ w'.cell? ⟨w.heap.size + 1,1,none⟩ = some (.slice bo m d)) (first | exact keep4 (by assumption) (by simp) (by assumption) | go_keep) (first
  | (go_at_call 47; refine (plus_any _ _ _ _ _ (Nums.below hu (hA _ _ _).drew) (Nums.below hv (hA _ _ _).drew) hX hY).mono ?_; rintro e w1 ⟨s,rfl,hs,hb1⟩; have hk1 := keepW hb1 (by simp) (res2 w _ _ _ _ _))
  | (go_at_call 46; refine (rmake_any _ _ _ _ hs).mono ?_; rintro e w2 ⟨r,rfl,hr,hb2⟩; obtain ⟨b2,ao2,n2,c2,rfl⟩ := hr.open; obtain ⟨q1,q2,q3,q4⟩ := keepW hb2 (Nat.le_refl _) hk1))
 go_wp2
 (try simp only [Exit.inBlock,Exit.then])
 refine bodyPost_ret (v := .agg #[.bool b2,.slice ao2 n2 c2]) (by simp [results,go_sem,q1,q2]) rfl ?_
 have B1 := (hA _ _ _).drew.trans (hb1.mono (by simp; omega))
 have B2 := B1.trans (hb2.mono B1.size)
 exact ⟨_,rfl,hr.store2 q1 q2 _ _,below_store2 B2 (by omega) _ _⟩
set_option maxRecDepth 20000 in
set_option maxHeartbeats 2000000 in
theorem rplus_lt (p : Bool) (ao : Option Addr) (n c X : Nat) (bo : Option Addr) (m d Y : Nat) (w : World)
  (hu : RepD w (.slice ao n c) X) (hv : RepD w (.slice bo m d) Y) (hX : nl 10000 X ≤ 1000000) (hY : nl 10000 Y ≤ 1000000) (hc0 : X < Y) :
  Calls Tryz.prog 14 #[.agg #[.bool p,.slice ao n c],.agg #[.bool (!p),.slice bo m d]] w fun e w' => ∃ r,e = .returned r ∧ RepJ w' r (zof (!p) (Y - X)) ∧ Below w.heap.size w w' := by
 have hA : ∀ o o' o'',Below w.heap.size w (((w.alloc o).alloc o').alloc o'') := fun o o' o'' => (((Below.refl _ _).alloc (Nat.le_refl _) _).alloc (by simp) _).alloc (by simp; omega) _
 have ne1 : ¬ w.heap.size = w.heap.size + 1 + 1 := by omega
 have ne2 : ¬ w.heap.size + 1 + 1 = w.heap.size := by omega
 obtain ⟨c1,c2,c3,c4⟩ := box_a w 33 33 33 (.bool p) (.slice ao n c) (.bool (!p)) (.slice bo m d) (.bool false) (.slice none 0 0)
 have hpq : (p == !p) = false := by cases p <;> rfl
 have hc : cmpI X Y < 0 := by rw [cmpI_lt (by omega)]; omega
 generalize hq : (!p) = q at *
 go_enter Tryz.func14,Tryz.ntmps14
 go_wp2_with fail
 refine (order_any _ _ _ _ _ (Nums.below hu (hA _ _ _)) (Nums.below hv (hA _ _ _))).mono ?_
 rintro e w0 ⟨rfl,hb0⟩
 have hk0 := keepW hb0 (by simp) (res2 w _ _ _ _ _)
 obtain ⟨d1,d2,d3,d4⟩ := keep4 hb0 (by simp) ⟨c1,c2,c3,c4⟩
 have B0 : Below w.heap.size w w0 := (hA _ _ _).trans (hb0.mono (by simp; omega))
 clear c1 c2 c3 c4 hq
 generalize cmpI X Y = C at *
 go_wp2
 go_region_held3 (fun w' => w'.cell? ⟨w.heap.size,0,none⟩ = some (.bool p) ∧ w'.cell? ⟨w.heap.size,1,none⟩ = some (.slice ao n c) ∧ w'.cell? ⟨w.heap.size + 1,0,none⟩ = some (.bool q) ∧ w'.cell? ⟨w.heap.size + 1,1,none⟩ = some (.slice bo m d)) (first | exact keep4 (by assumption) (by simp) (by assumption) | go_keep) (first
  | (go_at_call 48; refine (minus_any _ _ _ _ _ (Nums.below hv B0.drew) (Nums.below hu B0.drew) hY (by omega)).mono ?_; rintro e w1 ⟨s,rfl,hs,hb1⟩; have hk1 := keepW hb1 (Nat.le_refl _) hk0)
  | (go_at_call 46; refine (rmake_any _ _ _ _ hs).mono ?_; rintro e w2 ⟨r,rfl,hr,hb2⟩; obtain ⟨b2,ao2,n2,c2,rfl⟩ := hr.open; obtain ⟨q1,q2,q3,q4⟩ := keepW hb2 (Nat.le_refl _) hk1))
 go_wp2
 (try simp only [Exit.inBlock,Exit.then])
 refine bodyPost_ret (v := .agg #[.bool b2,.slice ao2 n2 c2]) (by simp [results,go_sem,q1,q2]) rfl ?_
 have B1 := B0.drew.trans (hb1.mono B0.size)
 have B2 := B1.trans (hb2.mono B1.size)
 exact ⟨_,rfl,hr.store2 q1 q2 _ _,below_store2 B2 (by omega) _ _⟩
set_option maxRecDepth 20000 in
set_option maxHeartbeats 2000000 in
theorem rplus_ge (p : Bool) (ao : Option Addr) (n c X : Nat) (bo : Option Addr) (m d Y : Nat) (w : World)
  (hu : RepD w (.slice ao n c) X) (hv : RepD w (.slice bo m d) Y) (hX : nl 10000 X ≤ 1000000) (hY : nl 10000 Y ≤ 1000000) (hc0 : Y ≤ X) :
  Calls Tryz.prog 14 #[.agg #[.bool p,.slice ao n c],.agg #[.bool (!p),.slice bo m d]] w fun e w' => ∃ r,e = .returned r ∧ RepJ w' r (zof p (X - Y)) ∧ Below w.heap.size w w' := by
 have hA : ∀ o o' o'',Below w.heap.size w (((w.alloc o).alloc o').alloc o'') := fun o o' o'' => (((Below.refl _ _).alloc (Nat.le_refl _) _).alloc (by simp) _).alloc (by simp; omega) _
 have ne1 : ¬ w.heap.size = w.heap.size + 1 + 1 := by omega
 have ne2 : ¬ w.heap.size + 1 + 1 = w.heap.size := by omega
 obtain ⟨c1,c2,c3,c4⟩ := box_a w 33 33 33 (.bool p) (.slice ao n c) (.bool (!p)) (.slice bo m d) (.bool false) (.slice none 0 0)
 have hpq : (p == !p) = false := by cases p <;> rfl
 have hc : ¬ cmpI X Y < 0 := by unfold cmpI; rw [if_neg (by omega)]; split <;> omega
 generalize hq : (!p) = q at *
 go_enter Tryz.func14,Tryz.ntmps14
 go_wp2_with fail
 refine (order_any _ _ _ _ _ (Nums.below hu (hA _ _ _)) (Nums.below hv (hA _ _ _))).mono ?_
 rintro e w0 ⟨rfl,hb0⟩
 have hk0 := keepW hb0 (by simp) (res2 w _ _ _ _ _)
 obtain ⟨d1,d2,d3,d4⟩ := keep4 hb0 (by simp) ⟨c1,c2,c3,c4⟩
 have B0 : Below w.heap.size w w0 := (hA _ _ _).trans (hb0.mono (by simp; omega))
 clear c1 c2 c3 c4 hq
 generalize cmpI X Y = C at *
 go_wp2
 go_region_held3 (fun w' => w'.cell? ⟨w.heap.size,0,none⟩ = some (.bool p) ∧ w'.cell? ⟨w.heap.size,1,none⟩ = some (.slice ao n c) ∧ w'.cell? ⟨w.heap.size + 1,0,none⟩ = some (.bool q) ∧ w'.cell? ⟨w.heap.size + 1,1,none⟩ = some (.slice bo m d)) (first | exact keep4 (by assumption) (by simp) (by assumption) | go_keep) (first
  | (go_at_call 48; refine (minus_any _ _ _ _ _ (Nums.below hu B0.drew) (Nums.below hv B0.drew) hX (by omega)).mono ?_; rintro e w1 ⟨s,rfl,hs,hb1⟩; have hk1 := keepW hb1 (Nat.le_refl _) hk0)
  | (go_at_call 46; refine (rmake_any _ _ _ _ hs).mono ?_; rintro e w2 ⟨r,rfl,hr,hb2⟩; obtain ⟨b2,ao2,n2,c2,rfl⟩ := hr.open; obtain ⟨q1,q2,q3,q4⟩ := keepW hb2 (Nat.le_refl _) hk1))
 go_wp2
 (try simp only [Exit.inBlock,Exit.then])
 refine bodyPost_ret (v := .agg #[.bool b2,.slice ao2 n2 c2]) (by simp [results,go_sem,q1,q2]) rfl ?_
 have B1 := B0.drew.trans (hb1.mono B0.size)
 have B2 := B1.trans (hb2.mono B1.size)
 exact ⟨_,rfl,hr.store2 q1 q2 _ _,below_store2 B2 (by omega) _ _⟩
theorem rplus_any (u v : Value) (x y : Int) (w : World) (hu : RepJ w u x) (hv : RepJ w v y) (hX : nl 10000 x.natAbs ≤ 1000000) (hY : nl 10000 y.natAbs ≤ 1000000) :
  Calls Tryz.prog 14 #[u,v] w fun e w' => ∃ r,e = .returned r ∧ RepJ w' r (x + y) ∧ Below w.heap.size w w' := by
 obtain ⟨ao,c,rfl,hu⟩ := hu
 obtain ⟨bo,d,rfl,hv⟩ := hv
 have e1 := zof_self x
 have e2 := zof_self y
 generalize decide (x < 0) = p at *
 generalize decide (y < 0) = q at *
 rw [← e1,← e2]
 simp only [zof_abs]
 by_cases hpq : p = q
 ·subst hpq
  rw [← zof_add]
  exact rplus_same p ao _ c _ bo _ d _ w hu hv hX hY
 ·obtain rfl : q = !p := by cases p <;> cases q <;> simp_all
  by_cases hlt : x.natAbs < y.natAbs
  ·rw [Int.add_comm,← Bool.not_not p,Bool.not_not (!p),← zof_less _ _ _ (by omega),Bool.not_not p]
   exact rplus_lt p ao _ c _ bo _ d _ w hu hv hX hY hlt
  ·rw [← zof_less _ _ _ (by omega)]
   exact rplus_ge p ao _ c _ bo _ d _ w hu hv hX hY (by omega)
set_option maxRecDepth 20000 in
set_option maxHeartbeats 2000000 in
theorem rtimes_raw (p q : Bool) (ao : Option Addr) (n c X : Nat) (bo : Option Addr) (m d Y : Nat) (w : World)
  (hu : RepD w (.slice ao n c) X) (hv : RepD w (.slice bo m d) Y) (hX : nl 10000 X ≤ 1000000) (hY : nl 10000 Y ≤ 1000000) :
  Calls Tryz.prog 44 #[.agg #[.bool p,.slice ao n c],.agg #[.bool q,.slice bo m d]] w fun e w' => ∃ r,e = .returned r ∧ RepJ w' r (zof p X * zof q Y) ∧ Below w.heap.size w w' := by
 have hA : ∀ o o' o'',Below w.heap.size w (((w.alloc o).alloc o').alloc o'') := fun o o' o'' => (((Below.refl _ _).alloc (Nat.le_refl _) _).alloc (by simp) _).alloc (by simp; omega) _
 have ne1 : ¬ w.heap.size = w.heap.size + 1 + 1 := by omega
 have ne2 : ¬ w.heap.size + 1 + 1 = w.heap.size := by omega
 obtain ⟨c1,c2,c3,c4⟩ := box_a w 33 33 33 (.bool p) (.slice ao n c) (.bool q) (.slice bo m d) (.bool false) (.slice none 0 0)
 go_enter Tryz.func44,Tryz.ntmps44
 go_wp2
 go_region_held3 (fun w' => w'.cell? ⟨w.heap.size,0,none⟩ = some (.bool p) ∧ w'.cell? ⟨w.heap.size,1,none⟩ = some (.slice ao n c) ∧ w'.cell? ⟨w.heap.size + 1,0,none⟩ = some (.bool q) ∧ w'.cell? ⟨w.heap.size + 1,1,none⟩ = some (.slice bo m d)) (first | exact keep4 (by assumption) (by simp) (by assumption) | go_keep) (first
  | (go_at_call 45; refine (times_any _ _ _ _ _ (Nums.below hu (hA _ _ _).drew) (Nums.below hv (hA _ _ _).drew) hX hY).mono ?_; rintro e w1 ⟨s,rfl,hs,hb1⟩; have hk1 := keepW hb1 (by simp) (res2 w _ _ _ _ _))
  | (go_at_call 46; refine (rmake_any _ _ _ _ hs).mono ?_; rintro e w2 ⟨r,rfl,hr,hb2⟩; obtain ⟨b2,ao2,n2,c2,rfl⟩ := hr.open; obtain ⟨q1,q2,q3,q4⟩ := keepW hb2 (Nat.le_refl _) hk1))
 go_wp2
 (try simp only [Exit.inBlock,Exit.then])
 refine bodyPost_ret (v := .agg #[.bool b2,.slice ao2 n2 c2]) (by simp [results,go_sem,q1,q2]) rfl ?_
 have B1 := (hA _ _ _).drew.trans (hb1.mono (by simp; omega))
 have B2 := B1.trans (hb2.mono B1.size)
 rw [zof_mul] at hr
 exact ⟨_,rfl,hr.store2 q1 q2 _ _,below_store2 B2 (by omega) _ _⟩
theorem rtimes_any (u v : Value) (x y : Int) (w : World) (hu : RepJ w u x) (hv : RepJ w v y) (hX : nl 10000 x.natAbs ≤ 1000000) (hY : nl 10000 y.natAbs ≤ 1000000) :
  Calls Tryz.prog 44 #[u,v] w fun e w' => ∃ r,e = .returned r ∧ RepJ w' r (x * y) ∧ Below w.heap.size w w' := by
 obtain ⟨ao,c,rfl,hu⟩ := hu
 obtain ⟨bo,d,rfl,hv⟩ := hv
 have h := rtimes_raw (decide (x < 0)) (decide (y < 0)) ao _ c _ bo _ d _ w hu hv hX hY
 rw [zof_self,zof_self] at h; exact h
end Go.Proofs.YtpgioggbepdjpaaGreatDoor

namespace Go.Proofs.YtpgioggbepdjpaaGreatDoor
open Go.RowKit
end Go.Proofs.YtpgioggbepdjpaaGreatDoor

namespace Go.Proofs.YtpgioggbepdjpaaGreatDoor
open Go.RowKit
set_option linter.unusedVariables false
def pneg (s : ByteArray) : Bool := decide (0 < s.size) && (s.data.toList.getD 0 0 == 45)
def pdig (s : ByteArray) : ByteArray := if pneg s = true then s.extract 1 s.size else s
theorem pdig_pos {s : ByteArray} (h : pneg s = true) : pdig s = s.extract 1 s.size := by unfold pdig; rw [if_pos h]
theorem pdig_neg {s : ByteArray} (h : pneg s = false) : pdig s = s := by unfold pdig; rw [h]; rfl
theorem pdig_size (s : ByteArray) : (pdig s).size ≤ s.size := by
 unfold pdig; split
 ·rw [ByteArray.size_extract]; omega
 ·omega
theorem first_byte (s : ByteArray) (h : 0 < s.size) : (s.extract 0 1).toList = [s[0]] := by
 rw [Lib.toList_data,ByteArray.data_extract]
 rw [Array.toList_extract]
 have hl : 0 < s.data.toList.length := by simpa using h
 match hs : s.data.toList,hl with
 | a :: l,_ =>
  have : s[0] = a := by
   have := byte_at s 0 h
   rw [hs] at this; simpa using this.symm
  simp [this]
set_option maxRecDepth 20000 in
set_option maxHeartbeats 1000000 in
theorem hasPrefix_any (s : ByteArray) (w : World) : Calls Tryz.prog 112 #[.string s,.string { data := #[45] }] w fun e w' => e = .returned (.bool (pneg s)) ∧ w' = w := by
 by_cases h0 : 0 < s.size
 ·have hb := first_byte s h0
  have hc : (1 : Int) ≤ (s.size : Int) := by omega
  have hc2 : 1 ≤ s.size := h0
  go_enter Tryz.func112,Tryz.ntmps112
  go_wp2
  go_ret
  exact ⟨ret_bool (by unfold pneg; rw [decide_eq_true h0,byte_at s 0 h0]; rfl),rfl⟩
 ·have hc : ¬ (1 : Int) ≤ (s.size : Int) := by omega
  go_enter Tryz.func112,Tryz.ntmps112
  go_wp2
  go_ret
  exact ⟨ret_bool (by unfold pneg; rw [decide_eq_false h0]; rfl),rfl⟩
theorem pneg_size {s : ByteArray} (h : pneg s = true) : 0 < s.size := by
 unfold pneg at h; rw [Bool.and_eq_true,decide_eq_true_eq] at h; exact h.1
set_option maxRecDepth 20000 in
set_option maxHeartbeats 1000000 in
theorem cutLite_any (s : ByteArray) (w : World) : Calls Tryz.prog 81 #[.string s,.string { data := #[45] }] w fun e w' => e = .returned (.tuple #[.string (pdig s),.bool (pneg s)]) ∧ w' = w := by
 cases h : pneg s with
 | true =>
  have h1 := pneg_size h
  have hc : (1 : Int) ≤ (s.size : Int) := by omega
  rw [pdig_pos h]
  go_enter Tryz.func81,Tryz.ntmps81
  go_wp2_with fail
  refine (hasPrefix_any s _).mono ?_
  rintro e w1 ⟨rfl,hw⟩
  subst hw
  rw [h]
  go_wp2
  go_ret2
  exact ⟨rfl,rfl⟩
 | false =>
  rw [pdig_neg h]
  go_enter Tryz.func81,Tryz.ntmps81
  go_wp2_with fail
  refine (hasPrefix_any s _).mono ?_
  rintro e w1 ⟨rfl,hw⟩
  subst hw
  rw [h]
  go_wp2
  go_ret2
  exact ⟨rfl,rfl⟩
set_option maxRecDepth 20000 in
set_option maxHeartbeats 1000000 in
theorem cutPrefix_any (s : ByteArray) (w : World) : Calls Tryz.prog 52 #[.string s,.string { data := #[45] }] w fun e w' => e = .returned (.tuple #[.string (pdig s),.bool (pneg s)]) ∧ w' = w := by
 go_enter Tryz.func52,Tryz.ntmps52
 go_wp2_with fail
 refine (cutLite_any s _).mono ?_
 rintro e w1 ⟨rfl,hw⟩
 subst hw
 go_wp2
 go_ret2
 exact ⟨rfl,rfl⟩
end Go.Proofs.YtpgioggbepdjpaaGreatDoor

namespace Go.Proofs.YtpgioggbepdjpaaGreatDoor
open Go.RowKit
set_option linter.unusedVariables false
set_option linter.unusedSimpArgs false
def zeros (k : Nat) : ByteArray := { data := (List.replicate k (48 : UInt8)).toArray }
end Go.Proofs.YtpgioggbepdjpaaGreatDoor
