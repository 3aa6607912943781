/-
  Texts of mine, joined: what lies beneath the statement.
-/
import Derived.Test.YthlogenaienkhaaGreatDoorJ6003b9e819
import Derived.Test.YthlogenaienkhaaGreatDoorJbfb6f3c826
import Derived.Test.YthlogenaienkhaaGreatDoorJ9528b2c262
/-
 Whole numbers as the document's own answers have them; what dendronref02.Make,From,Small,Minus,Order,Plus,Times answer.
-/
namespace Go.Proofs.YthlogenaienkhaaGreatDoor
open Go.RowKit
set_option linter.unusedVariables false

/-- The value v is the whole number z, to the base 10000. -/
def RepJ (w : World) (v : Value) (z : Int) : Prop :=
 ∃ ao c,v = .agg #[.bool (decide (z < 0)),.slice ao (nl 10000 z.natAbs) c] ∧ RepD w (.slice ao (nl 10000 z.natAbs) c) z.natAbs
theorem RepJ.below {w w' : World} {v : Value} {z : Int} (h : RepJ w v z) (hb : Below w.heap.size w w') : RepJ w' v z := by
 obtain ⟨ao,c,h1,h2⟩ := h
 exact ⟨ao,c,h1,Nums.below h2 hb⟩
theorem RepJ.open {w : World} {v : Value} {z : Int} (h : RepJ w v z) : ∃ b ao n c,v = .agg #[.bool b,.slice ao n c] := by
 obtain ⟨ao,c,h1,_⟩ := h
 exact ⟨_,_,_,_,h1⟩
theorem RepJ.mk {w : World} {s : Value} {m : Nat} (neg : Bool) (hs : RepD w s m) : RepJ w (.agg #[.bool (neg && !decide (m = 0)),s]) (zof neg m) := by
 obtain ⟨ao,c,rfl,h2⟩ := hs
 refine ⟨ao,c,?_,?_⟩
 ·rw [zof_abs,zof_neg]
 ·rw [zof_abs]; exact ⟨ao,c,rfl,h2⟩
theorem RepJ.nil (w : World) : RepJ w (.agg #[.bool false,.slice none 0 0]) 0 :=
 ⟨none,0,by simp [nl_zero],by show RepD w (.slice none (nl 10000 0) 0) 0; rw [nl_zero]; unfold RepD; rw [nl_zero]; exact Nums.nil _ _ _⟩
theorem RepJ.store2 {w : World} {v : Value} {z : Int} (h : RepJ w v z) {R m c : Nat} {p : Bool} {ao : Option Addr} (q1 : w.cell? ⟨R,0,none⟩ = some (.bool p)) (q2 : w.cell? ⟨R,1,none⟩ = some (.slice ao m c)) (x y : Value) :
  RepJ ((w.setCell ⟨R,0,none⟩ x).setCell ⟨R,1,none⟩ y) v z := by
 obtain ⟨ao,c,h1,h2⟩ := h
 exact ⟨ao,c,h1,Nums.store2 h2 q1 q2 x y⟩

set_option maxRecDepth 20000 in
set_option maxHeartbeats 400000 in
theorem rmake_any (neg : Bool) (s : Value) (m : Nat) (w : World) (hs : RepD w s m) :
  Calls Tryz.prog 54 #[.bool neg,s] w fun e w' => ∃ r,e = .returned r ∧ RepJ w' r (zof neg m) ∧ Below w.heap.size w w' := by
 have hs0 := hs
 obtain ⟨ao,c,rfl,_⟩ := hs
 have hA : ∀ o,Below w.heap.size w (w.alloc o) := fun o => (Below.refl _ _).alloc (Nat.le_refl _) _
 cases neg with
 | false =>
  go_enter Tryz.func54,Tryz.ntmps54
  go_wp2
  refine bodyPost_ret (v := .agg #[.bool false,.slice ao (nl 10000 m) c]) (by simp [results,go_sem]) rfl ?_
  exact ⟨_,rfl,RepJ.mk false (Nums.below hs0 (hA _)),hA _⟩
 | true =>
  have hz := nl_eq_zero 10000 m (by decide)
  by_cases h0 : m = 0
  ·have hn : nl 10000 m = 0 := hz.2 h0
   have J := RepJ.mk true hs0
   rw [decide_eq_true h0] at J
   rw [hn] at J hs0 ⊢
   go_enter Tryz.func54,Tryz.ntmps54
   go_wp2
   refine bodyPost_ret (v := .agg #[.bool false,.slice ao 0 c]) (by simp [results,go_sem]) rfl ?_
   exact ⟨_,rfl,J.below (hA _),hA _⟩
  ·have hn : (0 : Int) < (nl 10000 m : Int) := by have : nl 10000 m ≠ 0 := fun h => h0 (hz.1 h); omega
   have J := RepJ.mk true hs0
   rw [decide_eq_false h0] at J
   generalize nl 10000 m = N at *
   go_enter Tryz.func54,Tryz.ntmps54
   go_wp2
   refine bodyPost_ret (v := .agg #[.bool true,.slice ao N c]) (by have hn2 : 0 < N := (by omega); simp [results,go_sem,hn2]) rfl ?_
   exact ⟨_,rfl,J.below (hA _),hA _⟩

set_option maxRecDepth 20000 in
set_option maxHeartbeats 1000000 in
theorem rfrom_any (v : Value) (z : Int) (L : Nat) (w : World) (h : IntAt w v z L) (hL : L ≤ 1000) :
  Calls Tryz.prog 31 #[v] w fun e w' => ∃ r,e = .returned r ∧ RepJ w' r z ∧ Below w.heap.size w w' := by
 obtain ⟨neg,ao,n,c,f,rfl,h,hf,rfl,hn⟩ := h
 have hA : ∀ o o',Below w.heap.size w ((w.alloc o).alloc o') := fun o o' => ((Below.refl _ _).alloc (Nat.le_refl _) _).alloc (by simp) _
 go_enter Tryz.func31,Tryz.ntmps31
 go_wp2
 go_region_held3 (fun w' => w'.cell? ⟨w.heap.size,0,none⟩ = some (.bool neg) ∧ w'.cell? ⟨w.heap.size,1,none⟩ = some (.slice ao n c)) (first | exact keep2 (by assumption) (by simp) (by assumption) | go_keep) (first
  | (go_at_call 40; refine (from_any _ _ _ _ (h.below (hA _ _).drew) hf (by omega)).mono ?_; rintro e w1 ⟨s,rfl,hs,hb1⟩; have hk1 := keepW hb1 (by simp) (res1 w _ _ _ _))
  | (go_at_call 54; refine (rmake_any _ _ _ _ hs).mono ?_; rintro e w2 ⟨r,rfl,hr,hb2⟩; obtain ⟨b2,ao2,n2,c2,rfl⟩ := hr.open; obtain ⟨q1,q2,q3,q4⟩ := keepW hb2 (Nat.le_refl _) hk1))
 go_wp2
 refine bodyPost_ret (v := .agg #[.bool b2,.slice ao2 n2 c2]) (by simp [results,go_sem,q1,q2]) rfl ?_
 have B1 := (hA _ _).drew.trans (hb1.mono (by simp; omega))
 have B2 := B1.trans (hb2.mono B1.size)
 exact ⟨_,rfl,hr.store2 q1 q2 _ _,below_store2 B2 (by omega) _ _⟩

set_option maxRecDepth 20000 in
set_option maxHeartbeats 1000000 in
theorem rminus_any (v : Value) (z : Int) (w : World) (h : RepJ w v z) :
  Calls Tryz.prog 116 #[v] w fun e w' => ∃ r,e = .returned r ∧ RepJ w' r (-z) ∧ Below w.heap.size w w' := by
 obtain ⟨ao,c,rfl,h⟩ := h
 have hA : ∀ o o',Below w.heap.size w ((w.alloc o).alloc o') := fun o o' => ((Below.refl _ _).alloc (Nat.le_refl _) _).alloc (by simp) _
 have hz : Hid (zof (!decide (z < 0)) z.natAbs = -z) := by show _ = _; rw [zof_not,zof_self]
 generalize decide (z < 0) = neg at *
 go_enter Tryz.func116,Tryz.ntmps116
 go_wp2_with fail
 refine (rmake_any _ _ _ _ (Nums.below h (hA _ _))).mono ?_
 rintro e w2 ⟨r,rfl,hr,hb2⟩
 obtain ⟨b2,ao2,n2,c2,rfl⟩ := hr.open
 obtain ⟨q1,q2,q3,q4⟩ := keepW hb2 (by simp) (res1 w _ _ _ _)
 rw [hz.out] at hr
 go_wp2
 refine bodyPost_ret (v := .agg #[.bool b2,.slice ao2 n2 c2]) (by simp [results,go_sem,q1,q2]) rfl ?_
 have B2 := (hA _ _).trans (hb2.mono (by simp; omega))
 exact ⟨_,rfl,hr.store2 q1 q2 _ _,below_store2 B2 (by omega) _ _⟩

set_option maxRecDepth 20000 in
set_option maxHeartbeats 1000000 in
theorem rsmall_any (k : Int) (w : World) (h0 : -9223372036854775808 ≤ k) (h1 : k ≤ 9223372036854775807) :
  Calls Tryz.prog 35 #[.int .i64 k] w fun e w' => ∃ r,e = .returned r ∧ RepJ w' r k ∧ Below w.heap.size w w' := by
 have hA : ∀ o,Below w.heap.size w (w.alloc o) := fun o => (Below.refl _ _).alloc (Nat.le_refl _) _
 by_cases hk : k < 0
 ·obtain ⟨K,hK⟩ : ∃ K : Nat,0 - (k + 1) = (K : Int) := ⟨(0 - (k + 1)).toNat,by omega⟩
  have hz : zof true (K + 1) = k := by rw [zof_true]; omega
  have hb1 : nl 10000 K ≤ 1000000 := Nat.le_trans (nl_small K 2 (by unfold W32; omega)) (by omega)
  have hb2 : nl 10000 1 ≤ 1000000 := Nat.le_trans (nl_small 1 2 (by decide)) (by omega)
  go_enter Tryz.func35,Tryz.ntmps35
  go_wp2_with fail
  refine (small_any K _ (by omega)).mono ?_
  rintro e w1 ⟨s1,rfl,hs1,hb1'⟩
  have hk1 := keepW hb1' (by simp) (resW w _ _ _)
  have B1 := (hA _).trans (hb1'.mono (by simp))
  go_wp2_with fail
  refine (small_any 1 _ (by omega)).mono ?_
  rintro e w2 ⟨s2,rfl,hs2,hb2'⟩
  have hk2 := keepW hb2' (Nat.le_refl _) hk1
  have B2 := B1.trans (hb2'.mono B1.size)
  go_wp2_with fail
  refine (plus_any _ _ _ _ _ (Nums.below hs1 hb2') hs2 hb1 hb2).mono ?_
  rintro e w3 ⟨s3,rfl,hs3,hb3'⟩
  have hk3 := keepW hb3' (Nat.le_refl _) hk2
  have B3 := B2.trans (hb3'.mono B2.size)
  go_wp2_with fail
  refine (rmake_any _ _ _ _ hs3).mono ?_
  rintro e w4 ⟨r,rfl,hr,hb4⟩
  obtain ⟨b2,ao2,n2,c2,rfl⟩ := hr.open
  obtain ⟨q1,q2,q3,q4⟩ := keepW hb4 (Nat.le_refl _) hk3
  go_wp2
  (try simp only [Exit.inBlock,Exit.then])
  refine bodyPost_ret (v := .agg #[.bool b2,.slice ao2 n2 c2]) (by simp [results,go_sem,q1,q2]) rfl ?_
  have B4 := B3.trans (hb4.mono B3.size)
  rw [hz] at hr
  exact ⟨_,rfl,hr.store2 q1 q2 _ _,below_store2 B4 (by omega) _ _⟩
 ·obtain ⟨K,rfl⟩ : ∃ K : Nat,k = (K : Int) := ⟨k.toNat,by omega⟩
  go_enter Tryz.func35,Tryz.ntmps35
  go_wp2_with fail
  refine (small_any K _ (by omega)).mono ?_
  rintro e w1 ⟨s1,rfl,hs1,hb1'⟩
  have hk1 := keepW hb1' (by simp) (resW w _ _ _)
  have B1 := (hA _).trans (hb1'.mono (by simp))
  go_wp2_with fail
  refine (rmake_any _ _ _ _ hs1).mono ?_
  rintro e w4 ⟨r,rfl,hr,hb4⟩
  obtain ⟨b2,ao2,n2,c2,rfl⟩ := hr.open
  obtain ⟨q1,q2,q3,q4⟩ := keepW hb4 (Nat.le_refl _) hk1
  go_wp2
  (try simp only [Exit.inBlock,Exit.then])
  refine bodyPost_ret (v := .agg #[.bool b2,.slice ao2 n2 c2]) (by simp [results,go_sem,q1,q2]) rfl ?_
  have B4 := B1.trans (hb4.mono B1.size)
  rw [zof_false] at hr
  exact ⟨_,rfl,hr.store2 q1 q2 _ _,below_store2 B4 (by omega) _ _⟩

set_option maxRecDepth 20000 in
set_option maxHeartbeats 1000000 in
theorem rorder_any (u v : Value) (x y : Int) (w : World) (hu : RepJ w u x) (hv : RepJ w v y) :
  Calls Tryz.prog 77 #[u,v] w fun e w' => e = .returned (.int .i64 (cmpI x y)) ∧ Below w.heap.size w w' := by
 obtain ⟨ao,c,rfl,hu⟩ := hu
 obtain ⟨bo,d,rfl,hv⟩ := hv
 have hA : ∀ o o',Below w.heap.size w ((w.alloc o).alloc o') := fun o o' => ((Below.refl _ _).alloc (Nat.le_refl _) _).alloc (by simp) _
 by_cases hx : x < 0
 ·rw [decide_eq_true hx]
  by_cases hy : y < 0
  ·rw [decide_eq_true hy]
   have HE : Hid (cmpI x y = cmpI y.natAbs x.natAbs) := by show _ = _; unfold cmpI; repeat' split <;> omega
   clear hx hy
   go_enter Tryz.func77,Tryz.ntmps77
   go_wp2_with fail
   refine (order_any _ _ _ _ _ (Nums.below hv (hA _ _)) (Nums.below hu (hA _ _))).mono ?_
   rintro e w1 ⟨rfl,hb1⟩
   go_wp2
   go_ret
   exact ⟨by rw [HE.out]; rfl,(hA _ _).trans (hb1.mono (by simp; omega))⟩
  ·rw [decide_eq_false hy]
   have HE : Hid (cmpI x y = -1) := cmpI_lt (by omega)
   clear hx hy
   go_enter Tryz.func77,Tryz.ntmps77
   go_wp2
   go_ret
   exact ⟨by rw [HE.out]; rfl,hA _ _⟩
 ·rw [decide_eq_false hx]
  by_cases hy : y < 0
  ·rw [decide_eq_true hy]
   have HE : Hid (cmpI x y = 1) := cmpI_gt (by omega)
   clear hx hy
   go_enter Tryz.func77,Tryz.ntmps77
   go_wp2
   go_ret
   exact ⟨by rw [HE.out]; rfl,hA _ _⟩
  ·rw [decide_eq_false hy]
   have HE : Hid (cmpI x y = cmpI x.natAbs y.natAbs) := by show _ = _; unfold cmpI; repeat' split <;> omega
   clear hx hy
   go_enter Tryz.func77,Tryz.ntmps77
   go_wp2_with fail
   refine (order_any _ _ _ _ _ (Nums.below hu (hA _ _)) (Nums.below hv (hA _ _))).mono ?_
   rintro e w1 ⟨rfl,hb1⟩
   go_wp2
   go_ret
   exact ⟨by rw [HE.out]; rfl,(hA _ _).trans (hb1.mono (by simp; omega))⟩

set_option maxRecDepth 20000 in
set_option maxHeartbeats 2000000 in
theorem rplus_same (p : Bool) (ao : Option Addr) (n c X : Nat) (bo : Option Addr) (m d Y : Nat) (w : World)
  (hu : RepD w (.slice ao n c) X) (hv : RepD w (.slice bo m d) Y) (hX : nl 10000 X ≤ 1000000) (hY : nl 10000 Y ≤ 1000000) :
  Calls Tryz.prog 36 #[.agg #[.bool p,.slice ao n c],.agg #[.bool p,.slice bo m d]] w fun e w' => ∃ r,e = .returned r ∧ RepJ w' r (zof p (X + Y)) ∧ Below w.heap.size w w' := by
 have hA : ∀ o o' o'',Below w.heap.size w (((w.alloc o).alloc o').alloc o'') := fun o o' o'' => (((Below.refl _ _).alloc (Nat.le_refl _) _).alloc (by simp) _).alloc (by simp; omega) _
 have ne1 : ¬ w.heap.size = w.heap.size + 1 + 1 := by omega
 have ne2 : ¬ w.heap.size + 1 + 1 = w.heap.size := by omega
 obtain ⟨c1,c2,c3,c4⟩ := box_a w 26 26 26 (.bool p) (.slice ao n c) (.bool p) (.slice bo m d) (.bool false) (.slice none 0 0)
 go_enter Tryz.func36,Tryz.ntmps36
 go_wp2
 go_region_held3 (fun w' => w'.cell? ⟨w.heap.size,0,none⟩ = some (.bool p) ∧ w'.cell? ⟨w.heap.size,1,none⟩ = some (.slice ao n c) ∧ w'.cell? ⟨w.heap.size + 1,0,none⟩ = some (.bool p) ∧ w'.cell? ⟨w.heap.size + 1,1,none⟩ = some (.slice bo m d)) (first | exact keep4 (by assumption) (by simp) (by assumption) | go_keep) (first
  | (go_at_call 67; refine (plus_any _ _ _ _ _ (Nums.below hu (hA _ _ _).drew) (Nums.below hv (hA _ _ _).drew) hX hY).mono ?_; rintro e w1 ⟨s,rfl,hs,hb1⟩; have hk1 := keepW hb1 (by simp) (res2 w _ _ _ _ _))
  | (go_at_call 54; refine (rmake_any _ _ _ _ hs).mono ?_; rintro e w2 ⟨r,rfl,hr,hb2⟩; obtain ⟨b2,ao2,n2,c2,rfl⟩ := hr.open; obtain ⟨q1,q2,q3,q4⟩ := keepW hb2 (Nat.le_refl _) hk1))
 go_wp2
 (try simp only [Exit.inBlock,Exit.then])
 refine bodyPost_ret (v := .agg #[.bool b2,.slice ao2 n2 c2]) (by simp [results,go_sem,q1,q2]) rfl ?_
 have B1 := (hA _ _ _).drew.trans (hb1.mono (by simp; omega))
 have B2 := B1.trans (hb2.mono B1.size)
 exact ⟨_,rfl,hr.store2 q1 q2 _ _,below_store2 B2 (by omega) _ _⟩

set_option maxRecDepth 20000 in
set_option maxHeartbeats 2000000 in
theorem rplus_lt (p : Bool) (ao : Option Addr) (n c X : Nat) (bo : Option Addr) (m d Y : Nat) (w : World)
  (hu : RepD w (.slice ao n c) X) (hv : RepD w (.slice bo m d) Y) (hX : nl 10000 X ≤ 1000000) (hY : nl 10000 Y ≤ 1000000) (hc0 : X < Y) :
  Calls Tryz.prog 36 #[.agg #[.bool p,.slice ao n c],.agg #[.bool (!p),.slice bo m d]] w fun e w' => ∃ r,e = .returned r ∧ RepJ w' r (zof (!p) (Y - X)) ∧ Below w.heap.size w w' := by
 have hA : ∀ o o' o'',Below w.heap.size w (((w.alloc o).alloc o').alloc o'') := fun o o' o'' => (((Below.refl _ _).alloc (Nat.le_refl _) _).alloc (by simp) _).alloc (by simp; omega) _
 have ne1 : ¬ w.heap.size = w.heap.size + 1 + 1 := by omega
 have ne2 : ¬ w.heap.size + 1 + 1 = w.heap.size := by omega
 obtain ⟨c1,c2,c3,c4⟩ := box_a w 26 26 26 (.bool p) (.slice ao n c) (.bool (!p)) (.slice bo m d) (.bool false) (.slice none 0 0)
 have hpq : (p == !p) = false := by cases p <;> rfl
 have hc : cmpI X Y < 0 := by rw [cmpI_lt (by omega)]; omega
 generalize hq : (!p) = q at *
 go_enter Tryz.func36,Tryz.ntmps36
 go_wp2_with fail
 refine (order_any _ _ _ _ _ (Nums.below hu (hA _ _ _)) (Nums.below hv (hA _ _ _))).mono ?_
 rintro e w0 ⟨rfl,hb0⟩
 have hk0 := keepW hb0 (by simp) (res2 w _ _ _ _ _)
 obtain ⟨d1,d2,d3,d4⟩ := keep4 hb0 (by simp) ⟨c1,c2,c3,c4⟩
 have B0 : Below w.heap.size w w0 := (hA _ _ _).trans (hb0.mono (by simp; omega))
 clear c1 c2 c3 c4 hq
 generalize cmpI X Y = C at *
 go_wp2
 go_region_held3 (fun w' => w'.cell? ⟨w.heap.size,0,none⟩ = some (.bool p) ∧ w'.cell? ⟨w.heap.size,1,none⟩ = some (.slice ao n c) ∧ w'.cell? ⟨w.heap.size + 1,0,none⟩ = some (.bool q) ∧ w'.cell? ⟨w.heap.size + 1,1,none⟩ = some (.slice bo m d)) (first | exact keep4 (by assumption) (by simp) (by assumption) | go_keep) (first
  | (go_at_call 79; refine (minus_any _ _ _ _ _ (Nums.below hv B0.drew) (Nums.below hu B0.drew) hY (by omega)).mono ?_; rintro e w1 ⟨s,rfl,hs,hb1⟩; have hk1 := keepW hb1 (Nat.le_refl _) hk0)
  | (go_at_call 54; refine (rmake_any _ _ _ _ hs).mono ?_; rintro e w2 ⟨r,rfl,hr,hb2⟩; obtain ⟨b2,ao2,n2,c2,rfl⟩ := hr.open; obtain ⟨q1,q2,q3,q4⟩ := keepW hb2 (Nat.le_refl _) hk1))
 go_wp2
 (try simp only [Exit.inBlock,Exit.then])
 refine bodyPost_ret (v := .agg #[.bool b2,.slice ao2 n2 c2]) (by simp [results,go_sem,q1,q2]) rfl ?_
 have B1 := B0.drew.trans (hb1.mono B0.size)
 have B2 := B1.trans (hb2.mono B1.size)
 exact ⟨_,rfl,hr.store2 q1 q2 _ _,below_store2 B2 (by omega) _ _⟩

set_option maxRecDepth 20000 in
set_option maxHeartbeats 2000000 in
theorem rplus_ge (p : Bool) (ao : Option Addr) (n c X : Nat) (bo : Option Addr) (m d Y : Nat) (w : World)
  (hu : RepD w (.slice ao n c) X) (hv : RepD w (.slice bo m d) Y) (hX : nl 10000 X ≤ 1000000) (hY : nl 10000 Y ≤ 1000000) (hc0 : Y ≤ X) :
  Calls Tryz.prog 36 #[.agg #[.bool p,.slice ao n c],.agg #[.bool (!p),.slice bo m d]] w fun e w' => ∃ r,e = .returned r ∧ RepJ w' r (zof p (X - Y)) ∧ Below w.heap.size w w' := by
 have hA : ∀ o o' o'',Below w.heap.size w (((w.alloc o).alloc o').alloc o'') := fun o o' o'' => (((Below.refl _ _).alloc (Nat.le_refl _) _).alloc (by simp) _).alloc (by simp; omega) _
 have ne1 : ¬ w.heap.size = w.heap.size + 1 + 1 := by omega
 have ne2 : ¬ w.heap.size + 1 + 1 = w.heap.size := by omega
 obtain ⟨c1,c2,c3,c4⟩ := box_a w 26 26 26 (.bool p) (.slice ao n c) (.bool (!p)) (.slice bo m d) (.bool false) (.slice none 0 0)
 have hpq : (p == !p) = false := by cases p <;> rfl
 have hc : ¬ cmpI X Y < 0 := by unfold cmpI; rw [if_neg (by omega)]; split <;> omega
 generalize hq : (!p) = q at *
 go_enter Tryz.func36,Tryz.ntmps36
 go_wp2_with fail
 refine (order_any _ _ _ _ _ (Nums.below hu (hA _ _ _)) (Nums.below hv (hA _ _ _))).mono ?_
 rintro e w0 ⟨rfl,hb0⟩
 have hk0 := keepW hb0 (by simp) (res2 w _ _ _ _ _)
 obtain ⟨d1,d2,d3,d4⟩ := keep4 hb0 (by simp) ⟨c1,c2,c3,c4⟩
 have B0 : Below w.heap.size w w0 := (hA _ _ _).trans (hb0.mono (by simp; omega))
 clear c1 c2 c3 c4 hq
 generalize cmpI X Y = C at *
 go_wp2
 go_region_held3 (fun w' => w'.cell? ⟨w.heap.size,0,none⟩ = some (.bool p) ∧ w'.cell? ⟨w.heap.size,1,none⟩ = some (.slice ao n c) ∧ w'.cell? ⟨w.heap.size + 1,0,none⟩ = some (.bool q) ∧ w'.cell? ⟨w.heap.size + 1,1,none⟩ = some (.slice bo m d)) (first | exact keep4 (by assumption) (by simp) (by assumption) | go_keep) (first
  | (go_at_call 79; refine (minus_any _ _ _ _ _ (Nums.below hu B0.drew) (Nums.below hv B0.drew) hX (by omega)).mono ?_; rintro e w1 ⟨s,rfl,hs,hb1⟩; have hk1 := keepW hb1 (Nat.le_refl _) hk0)
  | (go_at_call 54; refine (rmake_any _ _ _ _ hs).mono ?_; rintro e w2 ⟨r,rfl,hr,hb2⟩; obtain ⟨b2,ao2,n2,c2,rfl⟩ := hr.open; obtain ⟨q1,q2,q3,q4⟩ := keepW hb2 (Nat.le_refl _) hk1))
 go_wp2
 (try simp only [Exit.inBlock,Exit.then])
 refine bodyPost_ret (v := .agg #[.bool b2,.slice ao2 n2 c2]) (by simp [results,go_sem,q1,q2]) rfl ?_
 have B1 := B0.drew.trans (hb1.mono B0.size)
 have B2 := B1.trans (hb2.mono B1.size)
 exact ⟨_,rfl,hr.store2 q1 q2 _ _,below_store2 B2 (by omega) _ _⟩

theorem rplus_any (u v : Value) (x y : Int) (w : World) (hu : RepJ w u x) (hv : RepJ w v y) (hX : nl 10000 x.natAbs ≤ 1000000) (hY : nl 10000 y.natAbs ≤ 1000000) :
  Calls Tryz.prog 36 #[u,v] w fun e w' => ∃ r,e = .returned r ∧ RepJ w' r (x + y) ∧ Below w.heap.size w w' := by
 obtain ⟨ao,c,rfl,hu⟩ := hu
 obtain ⟨bo,d,rfl,hv⟩ := hv
 have e1 := zof_self x
 have e2 := zof_self y
 generalize decide (x < 0) = p at *
 generalize decide (y < 0) = q at *
 rw [← e1,← e2]
 simp only [zof_abs]
 by_cases hpq : p = q
 ·subst hpq
  rw [← zof_add]
  exact rplus_same p ao _ c _ bo _ d _ w hu hv hX hY
 ·obtain rfl : q = !p := by cases p <;> cases q <;> simp_all
  by_cases hlt : x.natAbs < y.natAbs
  ·rw [Int.add_comm,← Bool.not_not p,Bool.not_not (!p),← zof_less _ _ _ (by omega),Bool.not_not p]
   exact rplus_lt p ao _ c _ bo _ d _ w hu hv hX hY hlt
  ·rw [← zof_less _ _ _ (by omega)]
   exact rplus_ge p ao _ c _ bo _ d _ w hu hv hX hY (by omega)

set_option maxRecDepth 20000 in
set_option maxHeartbeats 2000000 in
theorem rtimes_raw (p q : Bool) (ao : Option Addr) (n c X : Nat) (bo : Option Addr) (m d Y : Nat) (w : World)
  (hu : RepD w (.slice ao n c) X) (hv : RepD w (.slice bo m d) Y) (hX : nl 10000 X ≤ 1000000) (hY : nl 10000 Y ≤ 1000000) :
  Calls Tryz.prog 37 #[.agg #[.bool p,.slice ao n c],.agg #[.bool q,.slice bo m d]] w fun e w' => ∃ r,e = .returned r ∧ RepJ w' r (zof p X * zof q Y) ∧ Below w.heap.size w w' := by
 have hA : ∀ o o' o'',Below w.heap.size w (((w.alloc o).alloc o').alloc o'') := fun o o' o'' => (((Below.refl _ _).alloc (Nat.le_refl _) _).alloc (by simp) _).alloc (by simp; omega) _
 have ne1 : ¬ w.heap.size = w.heap.size + 1 + 1 := by omega
 have ne2 : ¬ w.heap.size + 1 + 1 = w.heap.size := by omega
 obtain ⟨c1,c2,c3,c4⟩ := box_a w 26 26 26 (.bool p) (.slice ao n c) (.bool q) (.slice bo m d) (.bool false) (.slice none 0 0)
 go_enter Tryz.func37,Tryz.ntmps37
 go_wp2
 go_region_held3 (fun w' => w'.cell? ⟨w.heap.size,0,none⟩ = some (.bool p) ∧ w'.cell? ⟨w.heap.size,1,none⟩ = some (.slice ao n c) ∧ w'.cell? ⟨w.heap.size + 1,0,none⟩ = some (.bool q) ∧ w'.cell? ⟨w.heap.size + 1,1,none⟩ = some (.slice bo m d)) (first | exact keep4 (by assumption) (by simp) (by assumption) | go_keep) (first
  | (go_at_call 39; refine (times_any _ _ _ _ _ (Nums.below hu (hA _ _ _).drew) (Nums.below hv (hA _ _ _).drew) hX hY).mono ?_; rintro e w1 ⟨s,rfl,hs,hb1⟩; have hk1 := keepW hb1 (by simp) (res2 w _ _ _ _ _))
  | (go_at_call 54; refine (rmake_any _ _ _ _ hs).mono ?_; rintro e w2 ⟨r,rfl,hr,hb2⟩; obtain ⟨b2,ao2,n2,c2,rfl⟩ := hr.open; obtain ⟨q1,q2,q3,q4⟩ := keepW hb2 (Nat.le_refl _) hk1))
 go_wp2
 (try simp only [Exit.inBlock,Exit.then])
 refine bodyPost_ret (v := .agg #[.bool b2,.slice ao2 n2 c2]) (by simp [results,go_sem,q1,q2]) rfl ?_
 have B1 := (hA _ _ _).drew.trans (hb1.mono (by simp; omega))
 have B2 := B1.trans (hb2.mono B1.size)
 rw [zof_mul] at hr
 exact ⟨_,rfl,hr.store2 q1 q2 _ _,below_store2 B2 (by omega) _ _⟩
theorem rtimes_any (u v : Value) (x y : Int) (w : World) (hu : RepJ w u x) (hv : RepJ w v y) (hX : nl 10000 x.natAbs ≤ 1000000) (hY : nl 10000 y.natAbs ≤ 1000000) :
  Calls Tryz.prog 37 #[u,v] w fun e w' => ∃ r,e = .returned r ∧ RepJ w' r (x * y) ∧ Below w.heap.size w w' := by
 obtain ⟨ao,c,rfl,hu⟩ := hu
 obtain ⟨bo,d,rfl,hv⟩ := hv
 have h := rtimes_raw (decide (x < 0)) (decide (y < 0)) ao _ c _ bo _ d _ w hu hv hX hY
 rw [zof_self,zof_self] at h; exact h

end Go.Proofs.YthlogenaienkhaaGreatDoor

/-
 What the document's own Text answers: a number's decimal digits.
-/
namespace Go.Proofs.YthlogenaienkhaaGreatDoor
open Go.RowKit

theorem dd_ref (x i k : Nat) (hk : k < 4) : 48 + ((x / 10000 ^ i % 10000 / 10 ^ k % 10 : Nat) : Int) = dd x (4 * i + k) := by
 unfold dd
 have e1 : (10000 : Nat) ^ i = 10 ^ (4 * i) := by rw [Nat.pow_mul]
 have e2 : (10000 : Nat) = 10 ^ k * 10 ^ (4 - k) := by rw [← Nat.pow_add,show k + (4 - k) = 4 by omega]
 have e3 : x / 10000 ^ i % 10000 / 10 ^ k % 10 = x / 10 ^ (4 * i + k) % 10 := by
  rw [e1,Nat.pow_add,← Nat.div_div_eq_div_mul]
  generalize x / 10 ^ (4 * i) = y
  have h1 : y % 10000 / 10 ^ k = y / 10 ^ k % 10 ^ (4 - k) := by
   have := Nat.mod_mul_right_div_self y (10 ^ k) (10 ^ (4 - k))
   rw [← e2] at this; exact this
  rw [h1]
  exact Nat.mod_mod_of_dvd _ (by
   refine ⟨10 ^ (4 - k - 1),?_⟩
   rw [Nat.mul_comm,← Nat.pow_succ]; congr 1; omega)
 rw [e3]

theorem txt_zero : txt 0 = { data := #[48] } := by
 have h : ndec 0 = 1 := by unfold ndec; rw [if_pos (nl_zero 10)]
 unfold txt
 rw [h]
 rfl

set_option maxRecDepth 20000 in
set_option maxHeartbeats 1000000 in
theorem refText_any (u : Value) (x : Nat) (w : World) (hu : RepD w u x) (hx : nl 10000 x ≤ 100000) :
  Calls Tryz.prog 63 #[u] w fun e w' => e = .returned (.string (txt x)) ∧ Below w.heap.size w w' := by
 obtain ⟨i0,hi0,hz0,hz1,hz2⟩ := info_parts info_u8
 obtain ⟨ao,c,rfl,hnc,hl,h4⟩ := hu
 have hxl := lt_pow_nl 10000 x (by decide)
 have hx0 : nl 10000 x = 0 → x = 0 := fun h => (nl_eq_zero 10000 x (by decide)).1 h
 generalize nl 10000 x = la at *
 have HXL : Hid (x < 10 ^ (4 * la)) := by
  show _ < _
  rw [Nat.pow_mul]; exact hxl
 have H4 := show Hid (0 < la → ∃ b off,ao = some ⟨b,off,none⟩ ∧ Cells w .i64 b off la (dg 10000 x)) from h4
 clear h4 hxl
 go_enter Tryz.func63,Tryz.ntmps63
 go_wp2
 go_loopw [3,4] (fun vb vi wr => ∃ i : Nat,i ≤ la ∧ vi = .int .i64 (i : Int) ∧ wr.ownsRow w.heap.size 5 1 vb (4 * i) (valsOf .u8 (dd x) (4 * i)) ∧ Below w.heap.size w wr) (fun _ vi _ => la - (intOf vi).toNat)
 case atStart => exact ⟨0,Nat.zero_le _,rfl,World.ownsRow_nil _ _ _ _,Below.refl _ _⟩
 case round =>
  obtain ⟨i,hi,rfl,hown,hbel⟩ := hrel
  have hsz := hbel.size
  by_cases hlt : i < la
  ·obtain ⟨b,off,rfl,hc⟩ := H4.out (by omega)
   have hcell : wr.cell? ⟨b,off + i,none⟩ = some (.int .i64 (dg 10000 x i)) := (hc.below hbel (hc.lt (by omega))) i hlt
   have hD : dg 10000 x i = ((x / 10000 ^ i % 10000 : Nat) : Int) := rfl
   have hdd := fun k hk => dd_ref x i k hk
   have hDl : x / 10000 ^ i % 10000 < 10000 := Nat.mod_lt _ (by omega)
   rw [hD] at hcell
   generalize x / 10000 ^ i % 10000 = D at *
   have HDD : Hid (∀ k,k < 4 → 48 + ((D / 10 ^ k % 10 : Nat) : Int) = dd x (4 * i + k)) := hdd
   clear hD hdd hc
   go_wp2
   go_loopw [3,5,6] (fun vb vx vk w2 => ∃ k : Nat,k ≤ 4 ∧ vk = .int .i64 (k : Int) ∧ vx = .int .i64 ((D / 10 ^ k : Nat) : Int) ∧ w2.ownsRow w.heap.size 5 1 vb (4 * i + k) (valsOf .u8 (dd x) (4 * i + k)) ∧ Below w.heap.size w w2) (fun _ _ vk _ => 4 - (intOf vk).toNat)
   case atStart => exact ⟨0,by omega,rfl,by simp,hown,hbel⟩
   case round =>
    clear hown hbel hcell hsz
    obtain ⟨k,hk,rfl,rfl,hown,hbel⟩ := hrel
    have hsz := hbel.size
    have hdk : D / 10 ^ k ≤ D := Nat.div_le_self _ _
    by_cases hk4 : k < 4
    ·have hv := HDD.out k hk4
     have hnx : Hid (D / 10 ^ (k + 1) = D / 10 ^ k / 10) := by show _ = _; rw [Nat.pow_succ,Nat.div_div_eq_div_mul]
     generalize D / 10 ^ k = y at *
     have HVV : Hid (48 + ((y % 10 : Nat) : Int) = dd x (4 * i + k)) := hv
     have hyi : ((y % 10 : Nat) : Int) = (y : Int) % 10 := by omega
     rw [hyi] at HVV
     clear hv hyi
     go_wp2_with (at_builtin; refine wpList_append_own _ rfl _ _ 132 rfl w.heap.size 5 i0 (.int .u8 0) 1 1 Tryz.underlying132 hi0 hz0 hz1 hz2 rfl (by decide) _ _ _ rfl (hown.alloc _) ⟨wr.heap.size,0,none⟩ 1 1 [.int .u8 (48 + (y : Int) % 10)] rfl rfl (cell_one_new _ _ _) ?c1 (by unfold maxLen; omega) (by omega) (by simp; omega) ?_)
     case c1 => first | rfl | (intro u hu; simp at hu; subst hu; rfl)
     intro v' w1 hown' hgrow _
     have hb1 : Below w.heap.size w w1 := (hbel.alloc hsz _).grown hgrow (by simp; omega) (fun k e => (World.ownsRow.lt hown _ e).1)
     rw [HVV.out,valsOf_snoc,valsOf_congr .u8 (g := dd x) (fun j hj => by by_cases e : j = 4 * i + k; rw [e,put_same]; rw [put_other _ _ _ _ e])] at hown'
     clear hgrow hown
     go_wp2
     go_roundw
     case rel => exact ⟨k + 1,by omega,by go_num,by rw [hnx.out]; simp,hown',hb1⟩
     case measure => simp [intOf]; omega
    ·obtain rfl : k = 4 := by omega
     go_wp2
     go_roundw
     case rel => exact ⟨i + 1,by omega,by go_num,hown,hbel⟩
     case measure => simp [intOf]; omega
  ·have hila : i = la := by omega
   subst hila
   by_cases hi00 : i = 0
   ·have hx00 := hx0 hi00
    subst hi00
    subst hx00

    obtain ⟨ab,cb,rfl⟩ : ∃ ab cb,u3 = .slice ab 0 cb := by
     rcases hown.2 with ⟨h,_⟩ | ⟨g,cap,cur,h,_⟩
     ·exact ⟨_,_,h⟩
     ·exact ⟨_,_,h⟩
    go_wp2
    go_loop [7] (fun v => v = .int .i64 0) (fun _ => 0)
    case atStart => rfl
    case round =>
     subst hrel
     go_wp2
     go_ret
     exact ⟨by rw [txt_zero]; rfl,hbel⟩
   ·obtain ⟨g,cap,cur,rfl,hgB,hgh,hcap,hcapm,hcs,htake⟩ : ∃ g cap cur,u3 = .slice (some ⟨g,0,none⟩) (4 * i) cap ∧ w.heap.size ≤ g ∧ wr.heap[g]? = some (.cells cur 5 (0,0)) ∧ 4 * i ≤ cap ∧ cap ≤ maxLen ∧ cur.size = cap * 1 ∧ cur.toList.take (4 * i * 1) = valsOf .u8 (dd x) (4 * i) := by
     rcases hown.2 with ⟨_,h⟩ | h
     ·omega
     ·exact h
    have hcells : ∀ j,j < 4 * i → wr.cell? ⟨g,j,none⟩ = some (.int .u8 (dd x j)) := fun j hj => by
     have h := hown.cells (g := g) rfl j _ (valsOf_at .u8 (dd x) (4 * i) j hj)
     have e : (⟨g,0,none⟩ : Addr).add j = ⟨g,0 + j,none⟩ := by unfold Addr.add; split <;> simp_all
     rw [e,Nat.zero_add] at h
     exact h
    have hglt := (World.ownsRow.lt hown g rfl).2
    have hN4 : 4 ≤ 4 * i ∧ 4 * i ≤ 400000 := by omega
    clear hown hgh hcs htake hcapm hx0 hi00 H4
    generalize 4 * i = N at *
    have HXN : Hid (x < 10 ^ N) := HXL
    have HC : Hid (∀ j,j < N → wr.cell? ⟨g,j,none⟩ = some (.int .u8 (dd x j))) := hcells
    clear HXL hcells
    go_wp2
    go_loop [7] (fun v => ∃ m : Nat,1 ≤ m ∧ m ≤ N ∧ v = .int .i64 (m : Int) ∧ ∀ p,m ≤ p → p < N → dd x p = 48) (fun v => (intOf v).toNat)
    case atStart => exact ⟨N,by omega,Nat.le_refl _,rfl,fun p h1 h2 => by omega⟩
    case round =>
     obtain ⟨m,hm1,hmN,rfl,hz⟩ := hrel
     have HZ : Hid (∀ p,m ≤ p → p < N → dd x p = 48) := hz
     clear hz
     by_cases hlast : 1 < m
     ·obtain ⟨q,rfl⟩ : ∃ q,m = q + 1 := ⟨m - 1,by omega⟩
      have hcq := HC.out q (by omega)
      have hg : decide ((1 : Int) < ((q + 1 : Nat) : Int)) = true := by simp; omega
      have hq1' : (((q + 1 : Nat) : Int) - 1) = (q : Int) := by omega
      by_cases h48 : dd x q = 48
      ·have hbq : (dd x q == 48) = true := by simp [h48]
       have H48 : Hid (dd x q = 48) := h48
       clear h48
       go_wp2
       go_round
       case rel => exact ⟨q,by omega,by omega,by go_num,fun p h1 h2 => by by_cases e : p = q; exact e ▸ H48.out; exact HZ.out p (by omega) h2⟩
       case measure => simp [intOf]
      ·have hbq : (dd x q == 48) = false := by simp [h48]
       have H48 : Hid (dd x q ≠ 48) := h48
       clear h48
       have HM : Hid (q + 1 = ndec x) := by
        show _ = _
        have h := strip_end x N (N - (q + 1)) HXN.out (by omega) (fun j hj => HZ.out (N - 1 - j) (by omega) (by omega)) (.inr (by rw [show N - 1 - (N - (q + 1)) = q by omega]; exact H48.out))
        rw [show N - (N - (q + 1)) = q + 1 by omega] at h
        exact h
       have hm0 : (((q + 1 : Nat) : Int) == 0) = false := by simp; omega
       have hq1 : (((q + 1 : Nat) : Int) - 1) = (q : Int) := by omega
       clear HZ HXN
       obtain ⟨W0,hW0⟩ : ∃ W0,W0 = wr := ⟨_,rfl⟩
       subst hW0
       go_wp2
       go_loopw [8,9] (fun vo vi w2 => ∃ k : Nat,k ≤ q + 1 ∧ vi = .int .i64 ((k : Int) - 1) ∧ w2.ownsRow W0.heap.size 5 1 vo (q + 1 - k) (valsOf .u8 (fun j => dd x (q - j)) (q + 1 - k)) ∧ Below W0.heap.size W0 w2) (fun _ vi _ => (intOf vi + 1).toNat)
       case atStart => exact ⟨q + 1,Nat.le_refl _,by rw [hq1],by rw [Nat.sub_self]; exact World.ownsRow_nil _ _ _ _,Below.refl _ _⟩
       case round =>
        obtain ⟨k,hk,rfl,hown5,hbel5⟩ := hrel
        have hs5 := hbel5.size
        cases k with
        | zero =>
         have e1 : (((0 : Nat) : Int) - 1) = -1 := by omega
         obtain ⟨g5,cap5,rfl,hc5⟩ : ∃ g5 cap5,u8 = .slice (some ⟨g5,0,none⟩) (q + 1) cap5 ∧ ∀ j,j < q + 1 → wr.cell? ⟨g5,0 + j,none⟩ = some (.int .u8 (dd x (q - j))) := by
          rcases hown5.2 with ⟨_,h⟩ | ⟨g5,cap5,cur5,h,_⟩
          ·omega
          ·refine ⟨g5,cap5,h,fun j hj => ?_⟩
           have h2 := hown5.cells (g := g5) (by rw [h]; rfl) j _ (valsOf_at .u8 (fun j => dd x (q - j)) (q + 1 - 0) j (by omega))
           have e : (⟨g5,0,none⟩ : Addr).add j = ⟨g5,0 + j,none⟩ := by unfold Addr.add; split <;> simp_all
           rw [e] at h2
           exact h2
         have hconv := run_convert_bytes_arg (P := Tryz.prog) wr 132 5 Tryz.underlying132 Tryz.underlying5 g5 0 (q + 1) cap5 (decs x (q + 1)) (decs_length _ _)
          (fun i hi => by rw [decs_at _ _ _ hi,show q + 1 - 1 - i = q - i by omega]; exact hc5 i hi) 9 Tryz.underlying9
         clear hown5 hc5
         go_wp2
         go_ret
         refine ⟨?_,hbel.trans (hbel5.mono hsz)⟩
         show Ending.returned (.string (strOfNums (decs x (q + 1)))) = _
         rw [HM.out]; rfl
        | succ k =>
         have e1 : (((k + 1 : Nat) : Int) - 1) = (k : Int) := by omega
         rw [e1]
         have hck : wr.cell? ⟨g,k,none⟩ = some (.int .u8 (dd x k)) := (hbel5.cell hglt).trans (HC.out k (by omega))
         have hkN : k < N := by omega
         have hki : (0 : Int) ≤ (k : Int) := by omega
         generalize hdk : dd x k = Y at *
         go_wp2_with (at_builtin; refine wpList_append_own _ rfl _ _ 132 rfl W0.heap.size 5 i0 (.int .u8 0) 1 1 Tryz.underlying132 hi0 hz0 hz1 hz2 rfl (by decide) _ _ _ rfl (hown5.alloc _) ⟨wr.heap.size,0,none⟩ 1 1 [.int .u8 Y] rfl rfl (cell_one_new _ _ _) ?c1 (by unfold maxLen; omega) (by omega) (by simp; omega) ?_)
         case c1 => first | rfl | (intro u hu; simp at hu; subst hu; rfl)
         intro v' w1 hown' hgrow _
         have hb1 : Below W0.heap.size W0 w1 := (hbel5.alloc hs5 _).grown hgrow (by simp; omega) (fun k e => (World.ownsRow.lt hown5 _ e).1)
         rw [← hdk,valsOf_snoc,valsOf_congr .u8 (g := fun j => dd x (q - j)) (fun j hj => by by_cases e : j = q - k; rw [e,put_same,show q - (q - k) = k by omega]; rw [put_other _ _ _ _ e]),show q - k + 1 = q + 1 - k by omega] at hown'
         clear hgrow hown5
         go_wp2
         go_roundw
         case rel => exact ⟨k,by omega,by go_num,hown',hb1⟩
         case measure => simp [intOf]
     ·obtain ⟨q,rfl⟩ : ∃ q,m = q + 1 := ⟨m - 1,by omega⟩
      have hg : decide ((1 : Int) < ((q + 1 : Nat) : Int)) = false := by simp; omega
      have HM : Hid (q + 1 = ndec x) := by
       show _ = _
       have h := strip_end x N (N - (q + 1)) HXN.out (by omega) (fun j hj => HZ.out (N - 1 - j) (by omega) (by omega)) (.inl (by omega))
       rw [show N - (N - (q + 1)) = q + 1 by omega] at h
       exact h
      have hm0 : (((q + 1 : Nat) : Int) == 0) = false := by simp; omega
      have hq1 : (((q + 1 : Nat) : Int) - 1) = (q : Int) := by omega
      clear HZ HXN
      obtain ⟨W0,hW0⟩ : ∃ W0,W0 = wr := ⟨_,rfl⟩
      subst hW0
      go_wp2
      go_loopw [8,9] (fun vo vi w2 => ∃ k : Nat,k ≤ q + 1 ∧ vi = .int .i64 ((k : Int) - 1) ∧ w2.ownsRow W0.heap.size 5 1 vo (q + 1 - k) (valsOf .u8 (fun j => dd x (q - j)) (q + 1 - k)) ∧ Below W0.heap.size W0 w2) (fun _ vi _ => (intOf vi + 1).toNat)
      case atStart => exact ⟨q + 1,Nat.le_refl _,by rw [hq1],by rw [Nat.sub_self]; exact World.ownsRow_nil _ _ _ _,Below.refl _ _⟩
      case round =>
       obtain ⟨k,hk,rfl,hown5,hbel5⟩ := hrel
       have hs5 := hbel5.size
       cases k with
       | zero =>
        have e1 : (((0 : Nat) : Int) - 1) = -1 := by omega
        obtain ⟨g5,cap5,rfl,hc5⟩ : ∃ g5 cap5,u8 = .slice (some ⟨g5,0,none⟩) (q + 1) cap5 ∧ ∀ j,j < q + 1 → wr.cell? ⟨g5,0 + j,none⟩ = some (.int .u8 (dd x (q - j))) := by
         rcases hown5.2 with ⟨_,h⟩ | ⟨g5,cap5,cur5,h,_⟩
         ·omega
         ·refine ⟨g5,cap5,h,fun j hj => ?_⟩
          have h2 := hown5.cells (g := g5) (by rw [h]; rfl) j _ (valsOf_at .u8 (fun j => dd x (q - j)) (q + 1 - 0) j (by omega))
          have e : (⟨g5,0,none⟩ : Addr).add j = ⟨g5,0 + j,none⟩ := by unfold Addr.add; split <;> simp_all
          rw [e] at h2
          exact h2
        have hconv := run_convert_bytes_arg (P := Tryz.prog) wr 132 5 Tryz.underlying132 Tryz.underlying5 g5 0 (q + 1) cap5 (decs x (q + 1)) (decs_length _ _)
         (fun i hi => by rw [decs_at _ _ _ hi,show q + 1 - 1 - i = q - i by omega]; exact hc5 i hi) 9 Tryz.underlying9
        clear hown5 hc5
        go_wp2
        go_ret
        refine ⟨?_,hbel.trans (hbel5.mono hsz)⟩
        show Ending.returned (.string (strOfNums (decs x (q + 1)))) = _
        rw [HM.out]; rfl
       | succ k =>
        have e1 : (((k + 1 : Nat) : Int) - 1) = (k : Int) := by omega
        rw [e1]
        have hck : wr.cell? ⟨g,k,none⟩ = some (.int .u8 (dd x k)) := (hbel5.cell hglt).trans (HC.out k (by omega))
        have hkN : k < N := by omega
        have hki : (0 : Int) ≤ (k : Int) := by omega
        generalize hdk : dd x k = Y at *
        go_wp2_with (at_builtin; refine wpList_append_own _ rfl _ _ 132 rfl W0.heap.size 5 i0 (.int .u8 0) 1 1 Tryz.underlying132 hi0 hz0 hz1 hz2 rfl (by decide) _ _ _ rfl (hown5.alloc _) ⟨wr.heap.size,0,none⟩ 1 1 [.int .u8 Y] rfl rfl (cell_one_new _ _ _) ?c1 (by unfold maxLen; omega) (by omega) (by simp; omega) ?_)
        case c1 => first | rfl | (intro u hu; simp at hu; subst hu; rfl)
        intro v' w1 hown' hgrow _
        have hb1 : Below W0.heap.size W0 w1 := (hbel5.alloc hs5 _).grown hgrow (by simp; omega) (fun k e => (World.ownsRow.lt hown5 _ e).1)
        rw [← hdk,valsOf_snoc,valsOf_congr .u8 (g := fun j => dd x (q - j)) (fun j hj => by by_cases e : j = q - k; rw [e,put_same,show q - (q - k) = k by omega]; rw [put_other _ _ _ _ e]),show q - k + 1 = q + 1 - k by omega] at hown'
        clear hgrow hown5
        go_wp2
        go_roundw
        case rel => exact ⟨k,by omega,by go_num,hown',hb1⟩
        case measure => simp [intOf]

end Go.Proofs.YthlogenaienkhaaGreatDoor

/-
 What whole.Parse,dendronref02.Text and dendronref02.Parse answer.
-/
namespace Go.Proofs.YthlogenaienkhaaGreatDoor
open Go.RowKit
set_option linter.unusedVariables false

/-- Does a minus stand ahead? -/
def pneg (s : ByteArray) : Bool := decide (0 < s.size) && (s.data.toList.getD 0 0 == 45)
/-- What stands behind it. -/
def pdig (s : ByteArray) : ByteArray := if pneg s = true then s.extract 1 s.size else s
theorem pdig_pos {s : ByteArray} (h : pneg s = true) : pdig s = s.extract 1 s.size := by unfold pdig; rw [if_pos h]
theorem pdig_neg {s : ByteArray} (h : pneg s = false) : pdig s = s := by unfold pdig; rw [h]; rfl
theorem pdig_size (s : ByteArray) : (pdig s).size ≤ s.size := by
 unfold pdig; split
 ·rw [ByteArray.size_extract]; omega
 ·omega
theorem first_byte (s : ByteArray) (h : 0 < s.size) : (s.extract 0 1).toList = [s[0]] := by
 rw [Lib.toList_data,ByteArray.data_extract]
 rw [Array.toList_extract]
 have hl : 0 < s.data.toList.length := by simpa using h
 match hs : s.data.toList,hl with
 | a :: l,_ =>
  have : s[0] = a := by
   have := byte_at s 0 h
   rw [hs] at this; simpa using this.symm
  simp [this]

set_option maxRecDepth 20000 in
set_option maxHeartbeats 1000000 in
theorem hasPrefix_any (s : ByteArray) (w : World) : Calls Tryz.prog 137 #[.string s,.string { data := #[45] }] w fun e w' => e = .returned (.bool (pneg s)) ∧ w' = w := by
 by_cases h0 : 0 < s.size
 ·have hb := first_byte s h0
  have hc : (1 : Int) ≤ (s.size : Int) := by omega
  have hc2 : 1 ≤ s.size := h0
  go_enter Tryz.func137,Tryz.ntmps137
  go_wp2
  go_ret
  exact ⟨ret_bool (by unfold pneg; rw [decide_eq_true h0,byte_at s 0 h0]; rfl),rfl⟩
 ·have hc : ¬ (1 : Int) ≤ (s.size : Int) := by omega
  go_enter Tryz.func137,Tryz.ntmps137
  go_wp2
  go_ret
  exact ⟨ret_bool (by unfold pneg; rw [decide_eq_false h0]; rfl),rfl⟩

theorem pneg_size {s : ByteArray} (h : pneg s = true) : 0 < s.size := by
 unfold pneg at h; rw [Bool.and_eq_true,decide_eq_true_eq] at h; exact h.1

set_option maxRecDepth 20000 in
set_option maxHeartbeats 1000000 in
theorem cutLite_any (s : ByteArray) (w : World) : Calls Tryz.prog 104 #[.string s,.string { data := #[45] }] w fun e w' => e = .returned (.tuple #[.string (pdig s),.bool (pneg s)]) ∧ w' = w := by
 cases h : pneg s with
 | true =>
  have h1 := pneg_size h
  have hc : (1 : Int) ≤ (s.size : Int) := by omega
  rw [pdig_pos h]
  go_enter Tryz.func104,Tryz.ntmps104
  go_wp2_with fail
  refine (hasPrefix_any s _).mono ?_
  rintro e w1 ⟨rfl,hw⟩
  subst hw
  rw [h]
  go_wp2
  go_ret2
  exact ⟨rfl,rfl⟩
 | false =>
  rw [pdig_neg h]
  go_enter Tryz.func104,Tryz.ntmps104
  go_wp2_with fail
  refine (hasPrefix_any s _).mono ?_
  rintro e w1 ⟨rfl,hw⟩
  subst hw
  rw [h]
  go_wp2
  go_ret2
  exact ⟨rfl,rfl⟩

set_option maxRecDepth 20000 in
set_option maxHeartbeats 1000000 in
theorem cutPrefix_any (s : ByteArray) (w : World) : Calls Tryz.prog 58 #[.string s,.string { data := #[45] }] w fun e w' => e = .returned (.tuple #[.string (pdig s),.bool (pneg s)]) ∧ w' = w := by
 go_enter Tryz.func58,Tryz.ntmps58
 go_wp2_with fail
 refine (cutLite_any s _).mono ?_
 rintro e w1 ⟨rfl,hw⟩
 subst hw
 go_wp2
 go_ret2
 exact ⟨rfl,rfl⟩

set_option maxRecDepth 20000 in
set_option maxHeartbeats 1000000 in
theorem rtext_any (v : Value) (z : Int) (w : World) (h : RepJ w v z) (hz : nl 10000 z.natAbs ≤ 100000) :
  Calls Tryz.prog 62 #[v] w fun e w' => e = .returned (.string (ztxt z)) ∧ Below w.heap.size w w' := by
 obtain ⟨ao,c,rfl,h⟩ := h
 have hA : ∀ o,Below w.heap.size w (w.alloc o) := fun o => (Below.refl _ _).alloc (Nat.le_refl _) _
 by_cases hn : z < 0
 ·rw [decide_eq_true hn]
  have HZ : Hid (ztxt z = { data := #[45] } ++ txt z.natAbs) := by show _ = _; unfold ztxt; rw [if_pos hn]
  have hts : (txt z.natAbs).size ≤ 1000000 := by
   rw [txt_size]
   have h1 := lt_pow_nl 10000 z.natAbs (by decide)
   have h2 : 10000 ^ nl 10000 z.natAbs = 10 ^ (4 * nl 10000 z.natAbs) := by rw [Nat.pow_mul]
   rw [h2] at h1
   have := nl_le 10 z.natAbs _ (by decide) h1
   unfold ndec; split <;> omega
  clear hn
  go_enter Tryz.func62,Tryz.ntmps62
  go_wp2_with fail
  refine (refText_any _ _ _ (Nums.below h (hA _)) hz).mono ?_
  rintro e w1 ⟨rfl,hb1⟩
  generalize hT : txt z.natAbs = T at *
  go_wp2
  go_ret
  exact ⟨by rw [HZ.out]; rfl,(hA _).trans (hb1.mono (by simp))⟩
 ·rw [decide_eq_false hn]
  have HZ : Hid (ztxt z = txt z.natAbs) := by show _ = _; unfold ztxt; rw [if_neg hn]
  clear hn
  go_enter Tryz.func62,Tryz.ntmps62
  go_wp2_with fail
  refine (refText_any _ _ _ (Nums.below h (hA _)) hz).mono ?_
  rintro e w1 ⟨rfl,hb1⟩
  go_wp2
  go_ret
  exact ⟨by rw [HZ.out]; rfl,(hA _).trans (hb1.mono (by simp))⟩

end Go.Proofs.YthlogenaienkhaaGreatDoor
