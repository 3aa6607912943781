/-
  Texts of mine.
-/
import Derived.Test.YtbbliiafkjipbaaGreatDoorJ36fd7742e1
import Derived.Test.YtbbliiafkjipbaaGreatDoorJ41d3a2622d
import Derived.Test.YtbbliiafkjipbaaGreatDoorJc5620859d3
namespace Go.Proofs.YtbbliiafkjipbaaGreatDoor
open Go.RowKit
set_option linter.unusedVariables false
def RepJ (w : World) (v : Value) (z : Int) : Prop :=
 ∃ ao c,v = .agg #[.bool (decide (z < 0)),.slice ao (nl 10000 z.natAbs) c] ∧ RepD w (.slice ao (nl 10000 z.natAbs) c) z.natAbs
theorem RepJ.below {w w' : World} {v : Value} {z : Int} (h : RepJ w v z) (hb : Below w.heap.size w w') : RepJ w' v z := by
 obtain ⟨ao,c,h1,h2⟩ := h
 exact ⟨ao,c,h1,Nums.below h2 hb⟩
theorem RepJ.open {w : World} {v : Value} {z : Int} (h : RepJ w v z) : ∃ b ao n c,v = .agg #[.bool b,.slice ao n c] := by
 obtain ⟨ao,c,h1,_⟩ := h
 exact ⟨_,_,_,_,h1⟩
theorem RepJ.mk {w : World} {s : Value} {m : Nat} (neg : Bool) (hs : RepD w s m) : RepJ w (.agg #[.bool (neg && !decide (m = 0)),s]) (zof neg m) := by
 obtain ⟨ao,c,rfl,h2⟩ := hs
 refine ⟨ao,c,?_,?_⟩
 ·rw [zof_abs,zof_neg]
 ·rw [zof_abs]; exact ⟨ao,c,rfl,h2⟩
theorem RepJ.nil (w : World) : RepJ w (.agg #[.bool false,.slice none 0 0]) 0 :=
 ⟨none,0,by simp [nl_zero],by show RepD w (.slice none (nl 10000 0) 0) 0; rw [nl_zero]; unfold RepD; rw [nl_zero]; exact Nums.nil _ _ _⟩
theorem RepJ.store2 {w : World} {v : Value} {z : Int} (h : RepJ w v z) {R m c : Nat} {p : Bool} {ao : Option Addr} (q1 : w.cell? ⟨R,0,none⟩ = some (.bool p)) (q2 : w.cell? ⟨R,1,none⟩ = some (.slice ao m c)) (x y : Value) :
  RepJ ((w.setCell ⟨R,0,none⟩ x).setCell ⟨R,1,none⟩ y) v z := by
 obtain ⟨ao,c,h1,h2⟩ := h
 exact ⟨ao,c,h1,Nums.store2 h2 q1 q2 x y⟩
set_option maxRecDepth 20000 in
set_option maxHeartbeats 400000 in
theorem rmake_any (neg : Bool) (s : Value) (m : Nat) (w : World) (hs : RepD w s m) :
  Calls Tryz.prog 99 #[.bool neg,s] w fun e w' => ∃ r,e = .returned r ∧ RepJ w' r (zof neg m) ∧ Below w.heap.size w w' := by
 have hs0 := hs
 obtain ⟨ao,c,rfl,_⟩ := hs
 have hA : ∀ o,Below w.heap.size w (w.alloc o) := fun o => (Below.refl _ _).alloc (Nat.le_refl _) _
 cases neg with
 | false =>
  go_enter Tryz.func99,Tryz.ntmps99
  go_wp2
  refine bodyPost_ret (v := .agg #[.bool false,.slice ao (nl 10000 m) c]) (by simp [results,go_sem]) rfl ?_
  exact ⟨_,rfl,RepJ.mk false (Nums.below hs0 (hA _)),hA _⟩
 | true =>
  have hz := nl_eq_zero 10000 m (by decide)
  by_cases h0 : m = 0
  ·have hn : nl 10000 m = 0 := hz.2 h0
   have J := RepJ.mk true hs0
   rw [decide_eq_true h0] at J
   rw [hn] at J hs0 ⊢
   go_enter Tryz.func99,Tryz.ntmps99
   go_wp2
   refine bodyPost_ret (v := .agg #[.bool false,.slice ao 0 c]) (by simp [results,go_sem]) rfl ?_
   exact ⟨_,rfl,J.below (hA _),hA _⟩
  ·have hn : (0 : Int) < (nl 10000 m : Int) := by have : nl 10000 m ≠ 0 := fun h => h0 (hz.1 h); omega
   have J := RepJ.mk true hs0
   rw [decide_eq_false h0] at J
   generalize nl 10000 m = N at *
   go_enter Tryz.func99,Tryz.ntmps99
   go_wp2
   refine bodyPost_ret (v := .agg #[.bool true,.slice ao N c]) (by have hn2 : 0 < N := (by omega); simp [results,go_sem,hn2]) rfl ?_
   exact ⟨_,rfl,J.below (hA _),hA _⟩
set_option maxRecDepth 20000 in
set_option maxHeartbeats 1000000 in
theorem rfrom_any (v : Value) (z : Int) (L : Nat) (w : World) (h : IntAt w v z L) (hL : L ≤ 1000) :
  Calls Tryz.prog 64 #[v] w fun e w' => ∃ r,e = .returned r ∧ RepJ w' r z ∧ Below w.heap.size w w' := by
 obtain ⟨neg,ao,n,c,f,rfl,h,hf,rfl,hn⟩ := h
 have hA : ∀ o o',Below w.heap.size w ((w.alloc o).alloc o') := fun o o' => ((Below.refl _ _).alloc (Nat.le_refl _) _).alloc (by simp) _
 go_enter Tryz.func64,Tryz.ntmps64
 go_wp2
 go_region_held3 (fun w' => w'.cell? ⟨w.heap.size,0,none⟩ = some (.bool neg) ∧ w'.cell? ⟨w.heap.size,1,none⟩ = some (.slice ao n c)) (first | exact keep2 (by assumption) (by simp) (by assumption) | go_keep) (first
  | (go_at_call 62; refine (from_any _ _ _ _ (h.below (hA _ _).drew) hf (by omega)).mono ?_; rintro e w1 ⟨s,rfl,hs,hb1⟩; have hk1 := keepW hb1 (by simp) (res1 w _ _ _ _))
  | (go_at_call 99; refine (rmake_any _ _ _ _ hs).mono ?_; rintro e w2 ⟨r,rfl,hr,hb2⟩; obtain ⟨b2,ao2,n2,c2,rfl⟩ := hr.open; obtain ⟨q1,q2,q3,q4⟩ := keepW hb2 (Nat.le_refl _) hk1))
 go_wp2
 refine bodyPost_ret (v := .agg #[.bool b2,.slice ao2 n2 c2]) (by simp [results,go_sem,q1,q2]) rfl ?_
 have B1 := (hA _ _).drew.trans (hb1.mono (by simp; omega))
 have B2 := B1.trans (hb2.mono B1.size)
 exact ⟨_,rfl,hr.store2 q1 q2 _ _,below_store2 B2 (by omega) _ _⟩
set_option maxRecDepth 20000 in
set_option maxHeartbeats 1000000 in
theorem rsmall_any (k : Int) (w : World) (h0 : -9223372036854775808 ≤ k) (h1 : k ≤ 9223372036854775807) :
  Calls Tryz.prog 98 #[.int .i64 k] w fun e w' => ∃ r,e = .returned r ∧ RepJ w' r k ∧ Below w.heap.size w w' := by
 have hA : ∀ o,Below w.heap.size w (w.alloc o) := fun o => (Below.refl _ _).alloc (Nat.le_refl _) _
 by_cases hk : k < 0
 ·obtain ⟨K,hK⟩ : ∃ K : Nat,0 - (k + 1) = (K : Int) := ⟨(0 - (k + 1)).toNat,by omega⟩
  have hz : zof true (K + 1) = k := by rw [zof_true]; omega
  have hb1 : nl 10000 K ≤ 1000000 := Nat.le_trans (nl_small K 2 (by unfold W32; omega)) (by omega)
  have hb2 : nl 10000 1 ≤ 1000000 := Nat.le_trans (nl_small 1 2 (by decide)) (by omega)
  go_enter Tryz.func98,Tryz.ntmps98
  go_wp2_with fail
  refine (small_any K _ (by omega)).mono ?_
  rintro e w1 ⟨s1,rfl,hs1,hb1'⟩
  have hk1 := keepW hb1' (by simp) (resW w _ _ _)
  have B1 := (hA _).trans (hb1'.mono (by simp))
  go_wp2_with fail
  refine (small_any 1 _ (by omega)).mono ?_
  rintro e w2 ⟨s2,rfl,hs2,hb2'⟩
  have hk2 := keepW hb2' (Nat.le_refl _) hk1
  have B2 := B1.trans (hb2'.mono B1.size)
  go_wp2_with fail
  refine (plus_any _ _ _ _ _ (Nums.below hs1 hb2') hs2 hb1 hb2).mono ?_
  rintro e w3 ⟨s3,rfl,hs3,hb3'⟩
  have hk3 := keepW hb3' (Nat.le_refl _) hk2
  have B3 := B2.trans (hb3'.mono B2.size)
  go_wp2_with fail
  refine (rmake_any _ _ _ _ hs3).mono ?_
  rintro e w4 ⟨r,rfl,hr,hb4⟩
  obtain ⟨b2,ao2,n2,c2,rfl⟩ := hr.open
  obtain ⟨q1,q2,q3,q4⟩ := keepW hb4 (Nat.le_refl _) hk3
  go_wp2
  (try simp only [Exit.inBlock,Exit.then])
  refine bodyPost_ret (v := .agg #[.bool b2,.slice ao2 n2 c2]) (by simp [results,go_sem,q1,q2]) rfl ?_
  have B4 := B3.trans (hb4.mono B3.size)
  rw [hz] at hr
  exact ⟨_,rfl,hr.store2 q1 q2 _ _,below_store2 B4 (by omega) _ _⟩
 ·obtain ⟨K,rfl⟩ : ∃ K : Nat,k = (K : Int) := ⟨k.toNat,by omega⟩
  go_enter Tryz.func98,Tryz.ntmps98
  go_wp2_with fail
  refine (small_any K _ (by omega)).mono ?_
  rintro e w1 ⟨s1,rfl,hs1,hb1'⟩
  have hk1 := keepW hb1' (by simp) (resW w _ _ _)
  have B1 := (hA _).trans (hb1'.mono (by simp))
  go_wp2_with fail
  refine (rmake_any _ _ _ _ hs1).mono ?_
  rintro e w4 ⟨r,rfl,hr,hb4⟩
  obtain ⟨b2,ao2,n2,c2,rfl⟩ := hr.open
  obtain ⟨q1,q2,q3,q4⟩ := keepW hb4 (Nat.le_refl _) hk1
  go_wp2
  (try simp only [Exit.inBlock,Exit.then])
  refine bodyPost_ret (v := .agg #[.bool b2,.slice ao2 n2 c2]) (by simp [results,go_sem,q1,q2]) rfl ?_
  have B4 := B1.trans (hb4.mono B1.size)
  rw [zof_false] at hr
  exact ⟨_,rfl,hr.store2 q1 q2 _ _,below_store2 B4 (by omega) _ _⟩
set_option maxRecDepth 20000 in
set_option maxHeartbeats 1000000 in
theorem rorder_any (u v : Value) (x y : Int) (w : World) (hu : RepJ w u x) (hv : RepJ w v y) :
  Calls Tryz.prog 93 #[u,v] w fun e w' => e = .returned (.int .i64 (cmpI x y)) ∧ Below w.heap.size w w' := by
 obtain ⟨ao,c,rfl,hu⟩ := hu
 obtain ⟨bo,d,rfl,hv⟩ := hv
 have hA : ∀ o o',Below w.heap.size w ((w.alloc o).alloc o') := fun o o' => ((Below.refl _ _).alloc (Nat.le_refl _) _).alloc (by simp) _
 by_cases hx : x < 0
 ·rw [decide_eq_true hx]
  by_cases hy : y < 0
  ·rw [decide_eq_true hy]
   have HE : Hid (cmpI x y = cmpI y.natAbs x.natAbs) := by show _ = _; unfold cmpI; repeat' split <;> omega
   clear hx hy
   go_enter Tryz.func93,Tryz.ntmps93
   go_wp2_with fail
   refine (order_any _ _ _ _ _ (Nums.below hv (hA _ _)) (Nums.below hu (hA _ _))).mono ?_
   rintro e w1 ⟨rfl,hb1⟩
   go_wp2
   go_ret
   exact ⟨by rw [HE.out]; rfl,(hA _ _).trans (hb1.mono (by simp; omega))⟩
  ·rw [decide_eq_false hy]
   have HE : Hid (cmpI x y = -1) := cmpI_lt (by omega)
   clear hx hy
   go_enter Tryz.func93,Tryz.ntmps93
   go_wp2
   go_ret
   exact ⟨by rw [HE.out]; rfl,hA _ _⟩
 ·rw [decide_eq_false hx]
  by_cases hy : y < 0
  ·rw [decide_eq_true hy]
   have HE : Hid (cmpI x y = 1) := cmpI_gt (by omega)
   clear hx hy
   go_enter Tryz.func93,Tryz.ntmps93
   go_wp2
   go_ret
   exact ⟨by rw [HE.out]; rfl,hA _ _⟩
  ·rw [decide_eq_false hy]
   have HE : Hid (cmpI x y = cmpI x.natAbs y.natAbs) := by show _ = _; unfold cmpI; repeat' split <;> omega
   clear hx hy
   go_enter Tryz.func93,Tryz.ntmps93
   go_wp2_with fail
   refine (order_any _ _ _ _ _ (Nums.below hu (hA _ _)) (Nums.below hv (hA _ _))).mono ?_
   rintro e w1 ⟨rfl,hb1⟩
   go_wp2
   go_ret
   exact ⟨by rw [HE.out]; rfl,(hA _ _).trans (hb1.mono (by simp; omega))⟩
set_option maxRecDepth 20000 in
set_option maxHeartbeats 2000000 in
theorem rtimes_raw (p q : Bool) (ao : Option Addr) (n c X : Nat) (bo : Option Addr) (m d Y : Nat) (w : World)
  (hu : RepD w (.slice ao n c) X) (hv : RepD w (.slice bo m d) Y) (hX : nl 10000 X ≤ 1000000) (hY : nl 10000 Y ≤ 1000000) :
  Calls Tryz.prog 94 #[.agg #[.bool p,.slice ao n c],.agg #[.bool q,.slice bo m d]] w fun e w' => ∃ r,e = .returned r ∧ RepJ w' r (zof p X * zof q Y) ∧ Below w.heap.size w w' := by
 have hA : ∀ o o' o'',Below w.heap.size w (((w.alloc o).alloc o').alloc o'') := fun o o' o'' => (((Below.refl _ _).alloc (Nat.le_refl _) _).alloc (by simp) _).alloc (by simp; omega) _
 have ne1 : ¬ w.heap.size = w.heap.size + 1 + 1 := by omega
 have ne2 : ¬ w.heap.size + 1 + 1 = w.heap.size := by omega
 obtain ⟨c1,c2,c3,c4⟩ := box_a w 81 81 81 (.bool p) (.slice ao n c) (.bool q) (.slice bo m d) (.bool false) (.slice none 0 0)
 go_enter Tryz.func94,Tryz.ntmps94
 go_wp2
 go_region_held3 (fun w' => w'.cell? ⟨w.heap.size,0,none⟩ = some (.bool p) ∧ w'.cell? ⟨w.heap.size,1,none⟩ = some (.slice ao n c) ∧ w'.cell? ⟨w.heap.size + 1,0,none⟩ = some (.bool q) ∧ w'.cell? ⟨w.heap.size + 1,1,none⟩ = some (.slice bo m d)) (first | exact keep4 (by assumption) (by simp) (by assumption) | go_keep) (first
  | (go_at_call 97; refine (times_any _ _ _ _ _ (Nums.below hu (hA _ _ _).drew) (Nums.below hv (hA _ _ _).drew) hX hY).mono ?_; rintro e w1 ⟨s,rfl,hs,hb1⟩; have hk1 := keepW hb1 (by simp) (res2 w _ _ _ _ _))
  | (go_at_call 99; refine (rmake_any _ _ _ _ hs).mono ?_; rintro e w2 ⟨r,rfl,hr,hb2⟩; obtain ⟨b2,ao2,n2,c2,rfl⟩ := hr.open; obtain ⟨q1,q2,q3,q4⟩ := keepW hb2 (Nat.le_refl _) hk1))
 go_wp2
 (try simp only [Exit.inBlock,Exit.then])
 refine bodyPost_ret (v := .agg #[.bool b2,.slice ao2 n2 c2]) (by simp [results,go_sem,q1,q2]) rfl ?_
 have B1 := (hA _ _ _).drew.trans (hb1.mono (by simp; omega))
 have B2 := B1.trans (hb2.mono B1.size)
 rw [zof_mul] at hr
 exact ⟨_,rfl,hr.store2 q1 q2 _ _,below_store2 B2 (by omega) _ _⟩
theorem rtimes_any (u v : Value) (x y : Int) (w : World) (hu : RepJ w u x) (hv : RepJ w v y) (hX : nl 10000 x.natAbs ≤ 1000000) (hY : nl 10000 y.natAbs ≤ 1000000) :
  Calls Tryz.prog 94 #[u,v] w fun e w' => ∃ r,e = .returned r ∧ RepJ w' r (x * y) ∧ Below w.heap.size w w' := by
 obtain ⟨ao,c,rfl,hu⟩ := hu
 obtain ⟨bo,d,rfl,hv⟩ := hv
 have h := rtimes_raw (decide (x < 0)) (decide (y < 0)) ao _ c _ bo _ d _ w hu hv hX hY
 rw [zof_self,zof_self] at h; exact h
end Go.Proofs.YtbbliiafkjipbaaGreatDoor

namespace Go.Proofs.YtbbliiafkjipbaaGreatDoor
open Go.RowKit
end Go.Proofs.YtbbliiafkjipbaaGreatDoor

namespace Go.Proofs.YtbbliiafkjipbaaGreatDoor
open Go.RowKit
set_option linter.unusedVariables false
end Go.Proofs.YtbbliiafkjipbaaGreatDoor
